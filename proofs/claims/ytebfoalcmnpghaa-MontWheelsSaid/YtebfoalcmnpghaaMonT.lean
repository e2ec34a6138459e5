/-
  THE LAW MontPowers, walked. (Written by wip/gen_monS.py.)
-/
import Derived.Test.YtebfoalcmnpghaaMonP
import Derived.Test.YtebfoalcmnpghaaMonQR
namespace Go.Proofs.Ytebfoalcmnpghaa
open Go.RowKit

theorem great1 {a : Option Addr} {n c X : Nat} {w : World} (hx : NatAt w (.slice a n c) X) (most : Nat) (m : Int) (hm : m = most) (b : Nat) (hb : b = w.heap.size) (T : TypeId) (r : Bool) (hr : r = decide (most < n)) :
    Calls Try.prog 7 #[.int .i64 m, .slice (some ⟨b, 0, none⟩) 1 1] (w.alloc (.cells #[.slice a n c] T)) fun e w' => e = .returned (.bool r) ∧ w.alloc (.cells #[.slice a n c] T) = w' := by
  subst hm hb
  refine great_any _ 1 (fun _ => (a, n, c)) most _ (fun i hi => ?_) (fun i hi => ?_) (by decide) r ?_
  · obtain rfl : i = 0 := by omega
    rw [World.cell?_alloc_at _ _ _ _ rfl]; rfl
  · exact hx.len
  · rw [hr, decide_eq_decide]
    exact ⟨fun h => ⟨0, by decide, h⟩, fun ⟨_, _, h⟩ => h⟩

set_option maxRecDepth 100000 in
set_option maxHeartbeats 4000000 in
theorem powers_walk (a : Option Addr) (n c : Nat) (l : List Nat) (a' : Option Addr) (n' c' : Nat) (l' : List Nat) (a'' : Option Addr) (n'' c'' : Nat) (l'' : List Nat) (w : World) (hX : Reads .u32 w a n c l) (hXL : Lim l) (hY : Reads .u32 w a' n' c' l') (hYL : Lim l') (hM : Reads .u32 w a'' n'' c'' l'') (hML : Lim l'') :
    Calls Try.prog 4 #[.slice a n c, .slice a' n' c', .slice a'' n'' c''] w fun e w' => e = .returned (.bool true) ∧ Below w.heap.size w w' := by
  have HX := Lib.hid hX
  have HL := Lib.hid hXL
  have HN := Lib.hid hX.length
  have HY := Lib.hid hY
  have HL' := Lib.hid hYL
  have HN' := Lib.hid hY.length
  have HZ := Lib.hid hM
  have HL'' := Lib.hid hML
  have HN'' := Lib.hid hM.length
  have F := Lib.hid (Below.refl w.heap.size w)
  clear hX hXL hY hYL hM hML
  by_cases hg : 270 < n ∨ 270 < n' ∨ 270 < n''
  · have hgr := Lib.hid (show true = decide (270 < n ∨ 270 < n' ∨ 270 < n'') by rw [decide_eq_true hg])
    clear hg
    go_enter Try.func4, Try.ntmps4
    go_wp2_with fail
    refine (great3 (natAt_of HX.out HL.out) (natAt_of HY.out HL'.out) (natAt_of HZ.out HL''.out) 270 270 rfl _ (by simp) _ true hgr.out).mono ?_
    rintro e wg ⟨rfl, rfl⟩
    have hb := (Below.refl w.heap.size w).alloc (Nat.le_refl _) (.cells #[.slice a n c, .slice a' n' c', .slice a'' n'' c''] 23)
    replace HX := Lib.hid (HX.out.below hb)
    replace HY := Lib.hid (HY.out.below hb)
    replace HZ := Lib.hid (HZ.out.below hb)
    replace F := Lib.hid (F.out.trans (hb.mono F.out.size))
    clear hb
    generalize w.alloc (.cells #[.slice a n c, .slice a' n' c', .slice a'' n'' c''] 23) = u1 at *
    go_wp2
    go_ret
    exact ⟨rfl, F.out⟩
  · have hgr := Lib.hid (show false = decide (270 < n ∨ 270 < n' ∨ 270 < n'') by rw [decide_eq_false hg])
    have hn : n ≤ 270 := by omega
    have hn' : n' ≤ 270 := by omega
    have hn'' : n'' ≤ 270 := by omega
    clear hg
    by_cases hs : 4 < n'
    · have hgs := Lib.hid (show true = decide (4 < n') by rw [decide_eq_true hs])
      clear hs
      by_cases hm : val32 l' < topN ∧ 0 < topN
      · have hmt := Lib.hid (show true = decide (val32 l' < topN ∧ 0 < topN) by rw [decide_eq_true hm])
        clear hm
        go_enter Try.func4, Try.ntmps4
        go_wp2_with fail
        refine (great3 (natAt_of HX.out HL.out) (natAt_of HY.out HL'.out) (natAt_of HZ.out HL''.out) 270 270 rfl _ (by simp) _ false hgr.out).mono ?_
        rintro e wg ⟨rfl, rfl⟩
        have hb := (Below.refl w.heap.size w).alloc (Nat.le_refl _) (.cells #[.slice a n c, .slice a' n' c', .slice a'' n'' c''] 23)
        replace HX := Lib.hid (HX.out.below hb)
        replace HY := Lib.hid (HY.out.below hb)
        replace HZ := Lib.hid (HZ.out.below hb)
        replace F := Lib.hid (F.out.trans (hb.mono F.out.size))
        clear hb
        generalize w.alloc (.cells #[.slice a n c, .slice a' n' c', .slice a'' n'' c''] 23) = u1 at *
        go_wp2_with fail
        refine (great1 (natAt_of HY.out HL'.out) 4 4 rfl _ (by simp) _ true hgs.out).mono ?_
        rintro e wg ⟨rfl, rfl⟩
        have hb := (Below.refl u1.heap.size u1).alloc (Nat.le_refl _) (.cells #[.slice a' n' c'] 23)
        replace HX := Lib.hid (HX.out.below hb)
        replace HY := Lib.hid (HY.out.below hb)
        replace HZ := Lib.hid (HZ.out.below hb)
        replace F := Lib.hid (F.out.trans (hb.mono F.out.size))
        clear hb
        generalize u1.alloc (.cells #[.slice a' n' c'] 23) = u2 at *
        go_wp2_with fail
        refine (rf.may_s (NatS.lim HY.out HL'.out (by omega)) (NatS.nil _) true hmt.out).mono ?_
        rintro e w3 ⟨rfl, hb⟩
        replace HX := Lib.hid (HX.out.below hb)
        replace HY := Lib.hid (HY.out.below hb)
        replace HZ := Lib.hid (HZ.out.below hb)
        replace F := Lib.hid (F.out.trans (hb.mono F.out.size))
        clear hb
        go_wp2
        go_ret
        exact ⟨rfl, F.out⟩
      · have hmt := Lib.hid (show false = decide (val32 l' < topN ∧ 0 < topN) by rw [decide_eq_false hm])
        clear hm
        by_cases ho : 10 < n''
        · have hgo := Lib.hid (show true = decide (10 < n'') by rw [decide_eq_true ho])
          by_cases hm2 : Mod3 (val32 l'')
          · have hmo := Lib.hid (show true = decide (Mod3 (val32 l'')) by rw [decide_eq_true hm2])
            clear ho hm2
            go_enter Try.func4, Try.ntmps4
            go_wp2_with fail
            refine (great3 (natAt_of HX.out HL.out) (natAt_of HY.out HL'.out) (natAt_of HZ.out HL''.out) 270 270 rfl _ (by simp) _ false hgr.out).mono ?_
            rintro e wg ⟨rfl, rfl⟩
            have hb := (Below.refl w.heap.size w).alloc (Nat.le_refl _) (.cells #[.slice a n c, .slice a' n' c', .slice a'' n'' c''] 23)
            replace HX := Lib.hid (HX.out.below hb)
            replace HY := Lib.hid (HY.out.below hb)
            replace HZ := Lib.hid (HZ.out.below hb)
            replace F := Lib.hid (F.out.trans (hb.mono F.out.size))
            clear hb
            generalize w.alloc (.cells #[.slice a n c, .slice a' n' c', .slice a'' n'' c''] 23) = u1 at *
            go_wp2_with fail
            refine (great1 (natAt_of HY.out HL'.out) 4 4 rfl _ (by simp) _ true hgs.out).mono ?_
            rintro e wg ⟨rfl, rfl⟩
            have hb := (Below.refl u1.heap.size u1).alloc (Nat.le_refl _) (.cells #[.slice a' n' c'] 23)
            replace HX := Lib.hid (HX.out.below hb)
            replace HY := Lib.hid (HY.out.below hb)
            replace HZ := Lib.hid (HZ.out.below hb)
            replace F := Lib.hid (F.out.trans (hb.mono F.out.size))
            clear hb
            generalize u1.alloc (.cells #[.slice a' n' c'] 23) = u2 at *
            go_wp2_with fail
            refine (rf.may_s (NatS.lim HY.out HL'.out (by omega)) (NatS.nil _) false hmt.out).mono ?_
            rintro e w3 ⟨rfl, hb⟩
            replace HX := Lib.hid (HX.out.below hb)
            replace HY := Lib.hid (HY.out.below hb)
            replace HZ := Lib.hid (HZ.out.below hb)
            replace F := Lib.hid (F.out.trans (hb.mono F.out.size))
            clear hb
            go_wp2_with fail
            refine (great1 (natAt_of HZ.out HL''.out) 10 10 rfl _ (by simp) _ true hgo.out).mono ?_
            rintro e wg ⟨rfl, rfl⟩
            have hb := (Below.refl w3.heap.size w3).alloc (Nat.le_refl _) (.cells #[.slice a'' n'' c''] 23)
            replace HX := Lib.hid (HX.out.below hb)
            replace HY := Lib.hid (HY.out.below hb)
            replace HZ := Lib.hid (HZ.out.below hb)
            replace F := Lib.hid (F.out.trans (hb.mono F.out.size))
            clear hb
            generalize w3.alloc (.cells #[.slice a'' n'' c''] 23) = u4 at *
            go_wp2_with fail
            refine (rf.may7_s _ _ _ (NatS.lim HZ.out HL''.out (by omega)) true hmo.out).mono ?_
            rintro e w5 ⟨rfl, hb⟩
            replace HX := Lib.hid (HX.out.below hb)
            replace HY := Lib.hid (HY.out.below hb)
            replace HZ := Lib.hid (HZ.out.below hb)
            replace F := Lib.hid (F.out.trans (hb.mono F.out.size))
            clear hb
            go_wp2
            go_ret
            exact ⟨rfl, F.out⟩
          · have hmo := Lib.hid (show false = decide (Mod3 (val32 l'')) by rw [decide_eq_false hm2])
            have hm3 := Lib.hid hm2
            clear ho hm2
            go_enter Try.func4, Try.ntmps4
            go_wp2_with fail
            refine (great3 (natAt_of HX.out HL.out) (natAt_of HY.out HL'.out) (natAt_of HZ.out HL''.out) 270 270 rfl _ (by simp) _ false hgr.out).mono ?_
            rintro e wg ⟨rfl, rfl⟩
            have hb := (Below.refl w.heap.size w).alloc (Nat.le_refl _) (.cells #[.slice a n c, .slice a' n' c', .slice a'' n'' c''] 23)
            replace HX := Lib.hid (HX.out.below hb)
            replace HY := Lib.hid (HY.out.below hb)
            replace HZ := Lib.hid (HZ.out.below hb)
            replace F := Lib.hid (F.out.trans (hb.mono F.out.size))
            clear hb
            generalize w.alloc (.cells #[.slice a n c, .slice a' n' c', .slice a'' n'' c''] 23) = u1 at *
            go_wp2_with fail
            refine (great1 (natAt_of HY.out HL'.out) 4 4 rfl _ (by simp) _ true hgs.out).mono ?_
            rintro e wg ⟨rfl, rfl⟩
            have hb := (Below.refl u1.heap.size u1).alloc (Nat.le_refl _) (.cells #[.slice a' n' c'] 23)
            replace HX := Lib.hid (HX.out.below hb)
            replace HY := Lib.hid (HY.out.below hb)
            replace HZ := Lib.hid (HZ.out.below hb)
            replace F := Lib.hid (F.out.trans (hb.mono F.out.size))
            clear hb
            generalize u1.alloc (.cells #[.slice a' n' c'] 23) = u2 at *
            go_wp2_with fail
            refine (rf.may_s (NatS.lim HY.out HL'.out (by omega)) (NatS.nil _) false hmt.out).mono ?_
            rintro e w3 ⟨rfl, hb⟩
            replace HX := Lib.hid (HX.out.below hb)
            replace HY := Lib.hid (HY.out.below hb)
            replace HZ := Lib.hid (HZ.out.below hb)
            replace F := Lib.hid (F.out.trans (hb.mono F.out.size))
            clear hb
            go_wp2_with fail
            refine (great1 (natAt_of HZ.out HL''.out) 10 10 rfl _ (by simp) _ true hgo.out).mono ?_
            rintro e wg ⟨rfl, rfl⟩
            have hb := (Below.refl w3.heap.size w3).alloc (Nat.le_refl _) (.cells #[.slice a'' n'' c''] 23)
            replace HX := Lib.hid (HX.out.below hb)
            replace HY := Lib.hid (HY.out.below hb)
            replace HZ := Lib.hid (HZ.out.below hb)
            replace F := Lib.hid (F.out.trans (hb.mono F.out.size))
            clear hb
            generalize w3.alloc (.cells #[.slice a'' n'' c''] 23) = u4 at *
            go_wp2_with fail
            refine (rf.may7_s _ _ _ (NatS.lim HZ.out HL''.out (by omega)) false hmo.out).mono ?_
            rintro e w5 ⟨rfl, hb⟩
            replace HX := Lib.hid (HX.out.below hb)
            replace HY := Lib.hid (HY.out.below hb)
            replace HZ := Lib.hid (HZ.out.below hb)
            replace F := Lib.hid (F.out.trans (hb.mono F.out.size))
            clear hb
            go_wp2_with fail
            refine (twin_any a n c l _ HX.out (by omega)).mono ?_
            rintro e w6 ⟨⟨g0, b0, rfl, ho⟩, hb⟩
            replace HX := Lib.hid (HX.out.below hb)
            replace HY := Lib.hid (HY.out.below hb)
            replace HZ := Lib.hid (HZ.out.below hb)
            have TX := Lib.hid (ho)
            replace F := Lib.hid (F.out.trans (hb.mono F.out.size))
            clear hb
            go_wp2_with fail
            refine (twin_any a' n' c' l' _ HY.out (by omega)).mono ?_
            rintro e w7 ⟨⟨g1, b1, rfl, ho⟩, hb⟩
            replace HX := Lib.hid (HX.out.below hb)
            replace HY := Lib.hid (HY.out.below hb)
            replace HZ := Lib.hid (HZ.out.below hb)
            replace TX := Lib.hid (TX.out.below hb)
            have TY := Lib.hid (ho)
            replace F := Lib.hid (F.out.trans (hb.mono F.out.size))
            clear hb
            go_wp2_with fail
            refine (twin_any a'' n'' c'' l'' _ HZ.out (by omega)).mono ?_
            rintro e w8 ⟨⟨g2, b2, rfl, ho⟩, hb⟩
            replace HX := Lib.hid (HX.out.below hb)
            replace HY := Lib.hid (HY.out.below hb)
            replace HZ := Lib.hid (HZ.out.below hb)
            replace TX := Lib.hid (TX.out.below hb)
            replace TY := Lib.hid (TY.out.below hb)
            have TM := Lib.hid (ho)
            replace F := Lib.hid (F.out.trans (hb.mono F.out.size))
            clear hb
            have PX := Lib.hid (twin_read TX.out HN.out)
            replace TX := Lib.hid TX.out.reads
            have NX := Lib.hid (NatS.lim HX.out HL.out (by omega))
            have AX := Lib.hid (natAt_of PX.out HL.out)
            have PY := Lib.hid (twin_read TY.out HN'.out)
            replace TY := Lib.hid TY.out.reads
            have NY := Lib.hid (NatS.lim HY.out HL'.out (by omega))
            have AY := Lib.hid (natAt_of PY.out HL'.out)
            have PM := Lib.hid (twin_read TM.out HN''.out)
            replace TM := Lib.hid TM.out.reads
            have NM := Lib.hid (NatS.lim HZ.out HL''.out (by omega))
            have AM := Lib.hid (natAt_of PM.out HL''.out)
            clear PX PY PM
            have F2 := Lib.hid (Below.refl w8.heap.size w8)
            go_wp2_with fail
            refine (mpow_no _ _ _ _ _ AM.out hm3.out).mono ?_
            rintro e w9 ⟨rfl, hb⟩
            replace NX := Lib.hid (NX.out.below hb)
            replace NY := Lib.hid (NY.out.below hb)
            replace NM := Lib.hid (NM.out.below hb)
            replace AX := Lib.hid (AX.out.below hb)
            replace AY := Lib.hid (AY.out.below hb)
            replace AM := Lib.hid (AM.out.below hb)
            replace F2 := Lib.hid (F2.out.trans (hb.mono F2.out.size))
            clear hb
            go_wp2_with fail
            refine (rf.may7_s _ _ _ NM.out false hmo.out).mono ?_
            rintro e w10 ⟨rfl, hb⟩
            replace NX := Lib.hid (NX.out.below hb)
            replace NY := Lib.hid (NY.out.below hb)
            replace NM := Lib.hid (NM.out.below hb)
            replace AX := Lib.hid (AX.out.below hb)
            replace AY := Lib.hid (AY.out.below hb)
            replace AM := Lib.hid (AM.out.below hb)
            replace F2 := Lib.hid (F2.out.trans (hb.mono F2.out.size))
            clear hb
            go_wp2
            go_ret
            exact ⟨rfl, F.out.trans (F2.out.mono F.out.size)⟩
        · have hgo := Lib.hid (show false = decide (10 < n'') by rw [decide_eq_false ho])
          by_cases hm2 : Mod3 (val32 l'')
          · have hmo := Lib.hid (show true = decide (Mod3 (val32 l'')) by rw [decide_eq_true hm2])
            have hm3 := Lib.hid hm2
            clear ho hm2
            go_enter Try.func4, Try.ntmps4
            go_wp2_with fail
            refine (great3 (natAt_of HX.out HL.out) (natAt_of HY.out HL'.out) (natAt_of HZ.out HL''.out) 270 270 rfl _ (by simp) _ false hgr.out).mono ?_
            rintro e wg ⟨rfl, rfl⟩
            have hb := (Below.refl w.heap.size w).alloc (Nat.le_refl _) (.cells #[.slice a n c, .slice a' n' c', .slice a'' n'' c''] 23)
            replace HX := Lib.hid (HX.out.below hb)
            replace HY := Lib.hid (HY.out.below hb)
            replace HZ := Lib.hid (HZ.out.below hb)
            replace F := Lib.hid (F.out.trans (hb.mono F.out.size))
            clear hb
            generalize w.alloc (.cells #[.slice a n c, .slice a' n' c', .slice a'' n'' c''] 23) = u1 at *
            go_wp2_with fail
            refine (great1 (natAt_of HY.out HL'.out) 4 4 rfl _ (by simp) _ true hgs.out).mono ?_
            rintro e wg ⟨rfl, rfl⟩
            have hb := (Below.refl u1.heap.size u1).alloc (Nat.le_refl _) (.cells #[.slice a' n' c'] 23)
            replace HX := Lib.hid (HX.out.below hb)
            replace HY := Lib.hid (HY.out.below hb)
            replace HZ := Lib.hid (HZ.out.below hb)
            replace F := Lib.hid (F.out.trans (hb.mono F.out.size))
            clear hb
            generalize u1.alloc (.cells #[.slice a' n' c'] 23) = u2 at *
            go_wp2_with fail
            refine (rf.may_s (NatS.lim HY.out HL'.out (by omega)) (NatS.nil _) false hmt.out).mono ?_
            rintro e w3 ⟨rfl, hb⟩
            replace HX := Lib.hid (HX.out.below hb)
            replace HY := Lib.hid (HY.out.below hb)
            replace HZ := Lib.hid (HZ.out.below hb)
            replace F := Lib.hid (F.out.trans (hb.mono F.out.size))
            clear hb
            go_wp2_with fail
            refine (great1 (natAt_of HZ.out HL''.out) 10 10 rfl _ (by simp) _ false hgo.out).mono ?_
            rintro e wg ⟨rfl, rfl⟩
            have hb := (Below.refl w3.heap.size w3).alloc (Nat.le_refl _) (.cells #[.slice a'' n'' c''] 23)
            replace HX := Lib.hid (HX.out.below hb)
            replace HY := Lib.hid (HY.out.below hb)
            replace HZ := Lib.hid (HZ.out.below hb)
            replace F := Lib.hid (F.out.trans (hb.mono F.out.size))
            clear hb
            generalize w3.alloc (.cells #[.slice a'' n'' c''] 23) = u4 at *
            go_wp2_with fail
            refine (twin_any a n c l _ HX.out (by omega)).mono ?_
            rintro e w5 ⟨⟨g0, b0, rfl, ho⟩, hb⟩
            replace HX := Lib.hid (HX.out.below hb)
            replace HY := Lib.hid (HY.out.below hb)
            replace HZ := Lib.hid (HZ.out.below hb)
            have TX := Lib.hid (ho)
            replace F := Lib.hid (F.out.trans (hb.mono F.out.size))
            clear hb
            go_wp2_with fail
            refine (twin_any a' n' c' l' _ HY.out (by omega)).mono ?_
            rintro e w6 ⟨⟨g1, b1, rfl, ho⟩, hb⟩
            replace HX := Lib.hid (HX.out.below hb)
            replace HY := Lib.hid (HY.out.below hb)
            replace HZ := Lib.hid (HZ.out.below hb)
            replace TX := Lib.hid (TX.out.below hb)
            have TY := Lib.hid (ho)
            replace F := Lib.hid (F.out.trans (hb.mono F.out.size))
            clear hb
            go_wp2_with fail
            refine (twin_any a'' n'' c'' l'' _ HZ.out (by omega)).mono ?_
            rintro e w7 ⟨⟨g2, b2, rfl, ho⟩, hb⟩
            replace HX := Lib.hid (HX.out.below hb)
            replace HY := Lib.hid (HY.out.below hb)
            replace HZ := Lib.hid (HZ.out.below hb)
            replace TX := Lib.hid (TX.out.below hb)
            replace TY := Lib.hid (TY.out.below hb)
            have TM := Lib.hid (ho)
            replace F := Lib.hid (F.out.trans (hb.mono F.out.size))
            clear hb
            have PX := Lib.hid (twin_read TX.out HN.out)
            replace TX := Lib.hid TX.out.reads
            have NX := Lib.hid (NatS.lim HX.out HL.out (by omega))
            have AX := Lib.hid (natAt_of PX.out HL.out)
            have PY := Lib.hid (twin_read TY.out HN'.out)
            replace TY := Lib.hid TY.out.reads
            have NY := Lib.hid (NatS.lim HY.out HL'.out (by omega))
            have AY := Lib.hid (natAt_of PY.out HL'.out)
            have PM := Lib.hid (twin_read TM.out HN''.out)
            replace TM := Lib.hid TM.out.reads
            have NM := Lib.hid (NatS.lim HZ.out HL''.out (by omega))
            have AM := Lib.hid (natAt_of PM.out HL''.out)
            clear PX PY PM
            have F2 := Lib.hid (Below.refl w7.heap.size w7)
            have SP := Lib.hid (fun (w : World) (x k m : Value) (h : NatAt w x (val32 l)) (j : NatAt w k (val32 l')) (i : NatAt w m (val32 l'')) => mpow_any x k m _ _ _ w h j i hm3.out)
            have TP := Lib.hid (fun (w : World) (x k m : Value) (h : NatS w x (val32 l)) (j : NatS w k (val32 l')) (i : NatS w m (val32 l'')) => rf.Power_s x k m _ _ _ w h j i hm3.out)
            have SW := Lib.hid (fun (w : World) (p x k : Value) (n : Nat) (o : Whl w p n (val32 l'')) (h : NatAt w x (val32 l)) (j : NatAt w k (val32 l')) => Power_any p x k n _ _ _ w o h j)
            generalize powR (val32 l'') (val32 l) (val32 l') = R1 at SP TP SW
            obtain ⟨O1, e1⟩ := R1
            go_wp2_with fail
            refine (SP.out _ _ _ _ AX.out AY.out AM.out).mono ?_
            rintro e w8 ⟨⟨v1, rfl, ho⟩, hb⟩
            replace NX := Lib.hid (NX.out.below hb)
            replace NY := Lib.hid (NY.out.below hb)
            replace NM := Lib.hid (NM.out.below hb)
            replace AX := Lib.hid (AX.out.below hb)
            replace AY := Lib.hid (AY.out.below hb)
            replace AM := Lib.hid (AM.out.below hb)
            have A := Lib.hid (ho.mono F2.out.size)
            replace F2 := Lib.hid (F2.out.trans (hb.mono F2.out.size))
            clear hb
            go_wp2_with fail
            refine (rf.may7_s _ _ _ NM.out true hmo.out).mono ?_
            rintro e w9 ⟨rfl, hb⟩
            replace NX := Lib.hid (NX.out.below hb)
            replace NY := Lib.hid (NY.out.below hb)
            replace NM := Lib.hid (NM.out.below hb)
            replace AX := Lib.hid (AX.out.below hb)
            replace AY := Lib.hid (AY.out.below hb)
            replace AM := Lib.hid (AM.out.below hb)
            replace A := Lib.hid (A.out.below hb)
            replace F2 := Lib.hid (F2.out.trans (hb.mono F2.out.size))
            clear hb
            go_wp2_with fail
            refine (TP.out _ _ _ _ NX.out NY.out NM.out).mono ?_
            rintro e w10 ⟨⟨v2, rfl, ho⟩, hb⟩
            replace NX := Lib.hid (NX.out.below hb)
            replace NY := Lib.hid (NY.out.below hb)
            replace NM := Lib.hid (NM.out.below hb)
            replace AX := Lib.hid (AX.out.below hb)
            replace AY := Lib.hid (AY.out.below hb)
            replace AM := Lib.hid (AM.out.below hb)
            replace A := Lib.hid (A.out.below hb)
            have B := Lib.hid (ho.mono F2.out.size)
            replace F2 := Lib.hid (F2.out.trans (hb.mono F2.out.size))
            clear hb
            go_wp2_with fail
            refine (new_ok _ _ _ AM.out hm3.out.1 hm3.out.2.1 hm3.out.2.2).mono ?_
            rintro e w11 ⟨⟨pw, rfl, hp⟩, hb⟩
            replace NX := Lib.hid (NX.out.below hb)
            replace NY := Lib.hid (NY.out.below hb)
            replace NM := Lib.hid (NM.out.below hb)
            replace AX := Lib.hid (AX.out.below hb)
            replace AY := Lib.hid (AY.out.below hb)
            replace AM := Lib.hid (AM.out.below hb)
            replace A := Lib.hid (A.out.below hb)
            replace B := Lib.hid (B.out.below hb)
            have P := Lib.hid (hp.whl)
            replace F2 := Lib.hid (F2.out.trans (hb.mono F2.out.size))
            clear hb
            go_wp2_with fail
            refine (SW.out _ _ _ _ _ P.out AX.out AY.out).mono ?_
            rintro e w12 ⟨⟨v3, rfl, ho⟩, hb⟩
            have OAC := Lib.hid (apart_of A.out ho (Nat.le_refl _))
            replace NX := Lib.hid (NX.out.below hb)
            replace NY := Lib.hid (NY.out.below hb)
            replace NM := Lib.hid (NM.out.below hb)
            replace AX := Lib.hid (AX.out.below hb)
            replace AY := Lib.hid (AY.out.below hb)
            replace AM := Lib.hid (AM.out.below hb)
            replace A := Lib.hid (A.out.below hb)
            replace B := Lib.hid (B.out.below hb)
            replace P := Lib.hid (P.out.below hb)
            have C := Lib.hid (ho.mono F2.out.size)
            replace F2 := Lib.hid (F2.out.trans (hb.mono F2.out.size))
            clear hb
            obtain ⟨x1, m1, d1, rfl, -, o⟩ := A.out.slice
            replace A := Lib.hid o
            clear o
            obtain ⟨x2, m2, d2, rfl, -, o⟩ := B.out.slice
            replace B := Lib.hid o
            clear o
            obtain ⟨x3, m3, d3, rfl, -, o⟩ := C.out.slice
            replace C := Lib.hid o
            clear o
            clear SP TP SW NX NY NM AX AY AM P
            go_wp2_with fail
            refine (same_any _ _ _ _ _ _ O1 O1 _ A.out.reads B.out.reads true (by simp)).mono ?_
            rintro e w13 ⟨rfl, hb⟩
            replace A := Lib.hid (A.out.below hb)
            replace B := Lib.hid (B.out.below hb)
            replace C := Lib.hid (C.out.below hb)
            replace F2 := Lib.hid (F2.out.trans (hb.mono F2.out.size))
            clear hb
            go_wp2_with fail
            refine (same_any _ _ _ _ _ _ O1 O1 _ C.out.reads B.out.reads true (by simp)).mono ?_
            rintro e w14 ⟨rfl, hb⟩
            replace A := Lib.hid (A.out.below hb)
            replace B := Lib.hid (B.out.below hb)
            replace C := Lib.hid (C.out.below hb)
            replace F2 := Lib.hid (F2.out.trans (hb.mono F2.out.size))
            clear hb
            go_wp2_with fail
            refine (kept_any w7 _ w7.heap.size w14.heap.size 2 23 [.slice x1 m1 d1, .slice x3 m3 d3] g0 n b0 a c l TX.out HX.out (F2.out.alloc F2.out.size _) (Nat.le_refl _) rfl (by decide) (fun _ => KeptI.start (fun v hv => by
                rcases List.mem_cons.1 hv with rfl | hv
                · exact ⟨_, A.out⟩
                · skip
                  obtain rfl := List.mem_singleton.1 hv
                  exact ⟨_, C.out⟩)) (Apart.two OAC.out) _ (.inl ⟨by decide, rfl⟩)).mono ?_
            rintro e wk0 ⟨rfl, hb⟩
            have FK := Lib.hid hb
            clear hb
            go_wp2_with fail
            refine (kept_any w7 wk0 w7.heap.size 0 0 0 [] g1 n' b1 a' c' l' TY.out HY.out FK.out (Nat.le_refl _) rfl (by decide) (fun h => absurd h (by decide)) Apart.none _ (.inr ⟨rfl, rfl⟩)).mono ?_
            rintro e wk1 ⟨rfl, hb⟩
            clear FK
            have FK := Lib.hid hb
            clear hb
            go_wp2_with fail
            refine (kept_any w7 wk1 w7.heap.size 0 0 0 [] g2 n'' b2 a'' c'' l'' TM.out HZ.out FK.out (Nat.le_refl _) rfl (by decide) (fun h => absurd h (by decide)) Apart.none _ (.inr ⟨rfl, rfl⟩)).mono ?_
            rintro e wk2 ⟨rfl, hb⟩
            go_wp2
            go_ret
            exact ⟨rfl, F.out.trans (hb.mono F.out.size)⟩
          · have hmo := Lib.hid (show false = decide (Mod3 (val32 l'')) by rw [decide_eq_false hm2])
            have hm3 := Lib.hid hm2
            clear ho hm2
            go_enter Try.func4, Try.ntmps4
            go_wp2_with fail
            refine (great3 (natAt_of HX.out HL.out) (natAt_of HY.out HL'.out) (natAt_of HZ.out HL''.out) 270 270 rfl _ (by simp) _ false hgr.out).mono ?_
            rintro e wg ⟨rfl, rfl⟩
            have hb := (Below.refl w.heap.size w).alloc (Nat.le_refl _) (.cells #[.slice a n c, .slice a' n' c', .slice a'' n'' c''] 23)
            replace HX := Lib.hid (HX.out.below hb)
            replace HY := Lib.hid (HY.out.below hb)
            replace HZ := Lib.hid (HZ.out.below hb)
            replace F := Lib.hid (F.out.trans (hb.mono F.out.size))
            clear hb
            generalize w.alloc (.cells #[.slice a n c, .slice a' n' c', .slice a'' n'' c''] 23) = u1 at *
            go_wp2_with fail
            refine (great1 (natAt_of HY.out HL'.out) 4 4 rfl _ (by simp) _ true hgs.out).mono ?_
            rintro e wg ⟨rfl, rfl⟩
            have hb := (Below.refl u1.heap.size u1).alloc (Nat.le_refl _) (.cells #[.slice a' n' c'] 23)
            replace HX := Lib.hid (HX.out.below hb)
            replace HY := Lib.hid (HY.out.below hb)
            replace HZ := Lib.hid (HZ.out.below hb)
            replace F := Lib.hid (F.out.trans (hb.mono F.out.size))
            clear hb
            generalize u1.alloc (.cells #[.slice a' n' c'] 23) = u2 at *
            go_wp2_with fail
            refine (rf.may_s (NatS.lim HY.out HL'.out (by omega)) (NatS.nil _) false hmt.out).mono ?_
            rintro e w3 ⟨rfl, hb⟩
            replace HX := Lib.hid (HX.out.below hb)
            replace HY := Lib.hid (HY.out.below hb)
            replace HZ := Lib.hid (HZ.out.below hb)
            replace F := Lib.hid (F.out.trans (hb.mono F.out.size))
            clear hb
            go_wp2_with fail
            refine (great1 (natAt_of HZ.out HL''.out) 10 10 rfl _ (by simp) _ false hgo.out).mono ?_
            rintro e wg ⟨rfl, rfl⟩
            have hb := (Below.refl w3.heap.size w3).alloc (Nat.le_refl _) (.cells #[.slice a'' n'' c''] 23)
            replace HX := Lib.hid (HX.out.below hb)
            replace HY := Lib.hid (HY.out.below hb)
            replace HZ := Lib.hid (HZ.out.below hb)
            replace F := Lib.hid (F.out.trans (hb.mono F.out.size))
            clear hb
            generalize w3.alloc (.cells #[.slice a'' n'' c''] 23) = u4 at *
            go_wp2_with fail
            refine (twin_any a n c l _ HX.out (by omega)).mono ?_
            rintro e w5 ⟨⟨g0, b0, rfl, ho⟩, hb⟩
            replace HX := Lib.hid (HX.out.below hb)
            replace HY := Lib.hid (HY.out.below hb)
            replace HZ := Lib.hid (HZ.out.below hb)
            have TX := Lib.hid (ho)
            replace F := Lib.hid (F.out.trans (hb.mono F.out.size))
            clear hb
            go_wp2_with fail
            refine (twin_any a' n' c' l' _ HY.out (by omega)).mono ?_
            rintro e w6 ⟨⟨g1, b1, rfl, ho⟩, hb⟩
            replace HX := Lib.hid (HX.out.below hb)
            replace HY := Lib.hid (HY.out.below hb)
            replace HZ := Lib.hid (HZ.out.below hb)
            replace TX := Lib.hid (TX.out.below hb)
            have TY := Lib.hid (ho)
            replace F := Lib.hid (F.out.trans (hb.mono F.out.size))
            clear hb
            go_wp2_with fail
            refine (twin_any a'' n'' c'' l'' _ HZ.out (by omega)).mono ?_
            rintro e w7 ⟨⟨g2, b2, rfl, ho⟩, hb⟩
            replace HX := Lib.hid (HX.out.below hb)
            replace HY := Lib.hid (HY.out.below hb)
            replace HZ := Lib.hid (HZ.out.below hb)
            replace TX := Lib.hid (TX.out.below hb)
            replace TY := Lib.hid (TY.out.below hb)
            have TM := Lib.hid (ho)
            replace F := Lib.hid (F.out.trans (hb.mono F.out.size))
            clear hb
            have PX := Lib.hid (twin_read TX.out HN.out)
            replace TX := Lib.hid TX.out.reads
            have NX := Lib.hid (NatS.lim HX.out HL.out (by omega))
            have AX := Lib.hid (natAt_of PX.out HL.out)
            have PY := Lib.hid (twin_read TY.out HN'.out)
            replace TY := Lib.hid TY.out.reads
            have NY := Lib.hid (NatS.lim HY.out HL'.out (by omega))
            have AY := Lib.hid (natAt_of PY.out HL'.out)
            have PM := Lib.hid (twin_read TM.out HN''.out)
            replace TM := Lib.hid TM.out.reads
            have NM := Lib.hid (NatS.lim HZ.out HL''.out (by omega))
            have AM := Lib.hid (natAt_of PM.out HL''.out)
            clear PX PY PM
            have F2 := Lib.hid (Below.refl w7.heap.size w7)
            go_wp2_with fail
            refine (mpow_no _ _ _ _ _ AM.out hm3.out).mono ?_
            rintro e w8 ⟨rfl, hb⟩
            replace NX := Lib.hid (NX.out.below hb)
            replace NY := Lib.hid (NY.out.below hb)
            replace NM := Lib.hid (NM.out.below hb)
            replace AX := Lib.hid (AX.out.below hb)
            replace AY := Lib.hid (AY.out.below hb)
            replace AM := Lib.hid (AM.out.below hb)
            replace F2 := Lib.hid (F2.out.trans (hb.mono F2.out.size))
            clear hb
            go_wp2_with fail
            refine (rf.may7_s _ _ _ NM.out false hmo.out).mono ?_
            rintro e w9 ⟨rfl, hb⟩
            replace NX := Lib.hid (NX.out.below hb)
            replace NY := Lib.hid (NY.out.below hb)
            replace NM := Lib.hid (NM.out.below hb)
            replace AX := Lib.hid (AX.out.below hb)
            replace AY := Lib.hid (AY.out.below hb)
            replace AM := Lib.hid (AM.out.below hb)
            replace F2 := Lib.hid (F2.out.trans (hb.mono F2.out.size))
            clear hb
            go_wp2
            go_ret
            exact ⟨rfl, F.out.trans (F2.out.mono F.out.size)⟩
    · have hgs := Lib.hid (show false = decide (4 < n') by rw [decide_eq_false hs])
      clear hs
      by_cases ho : 10 < n''
      · have hgo := Lib.hid (show true = decide (10 < n'') by rw [decide_eq_true ho])
        by_cases hm2 : Mod3 (val32 l'')
        · have hmo := Lib.hid (show true = decide (Mod3 (val32 l'')) by rw [decide_eq_true hm2])
          clear ho hm2
          go_enter Try.func4, Try.ntmps4
          go_wp2_with fail
          refine (great3 (natAt_of HX.out HL.out) (natAt_of HY.out HL'.out) (natAt_of HZ.out HL''.out) 270 270 rfl _ (by simp) _ false hgr.out).mono ?_
          rintro e wg ⟨rfl, rfl⟩
          have hb := (Below.refl w.heap.size w).alloc (Nat.le_refl _) (.cells #[.slice a n c, .slice a' n' c', .slice a'' n'' c''] 23)
          replace HX := Lib.hid (HX.out.below hb)
          replace HY := Lib.hid (HY.out.below hb)
          replace HZ := Lib.hid (HZ.out.below hb)
          replace F := Lib.hid (F.out.trans (hb.mono F.out.size))
          clear hb
          generalize w.alloc (.cells #[.slice a n c, .slice a' n' c', .slice a'' n'' c''] 23) = u1 at *
          go_wp2_with fail
          refine (great1 (natAt_of HY.out HL'.out) 4 4 rfl _ (by simp) _ false hgs.out).mono ?_
          rintro e wg ⟨rfl, rfl⟩
          have hb := (Below.refl u1.heap.size u1).alloc (Nat.le_refl _) (.cells #[.slice a' n' c'] 23)
          replace HX := Lib.hid (HX.out.below hb)
          replace HY := Lib.hid (HY.out.below hb)
          replace HZ := Lib.hid (HZ.out.below hb)
          replace F := Lib.hid (F.out.trans (hb.mono F.out.size))
          clear hb
          generalize u1.alloc (.cells #[.slice a' n' c'] 23) = u2 at *
          go_wp2_with fail
          refine (great1 (natAt_of HZ.out HL''.out) 10 10 rfl _ (by simp) _ true hgo.out).mono ?_
          rintro e wg ⟨rfl, rfl⟩
          have hb := (Below.refl u2.heap.size u2).alloc (Nat.le_refl _) (.cells #[.slice a'' n'' c''] 23)
          replace HX := Lib.hid (HX.out.below hb)
          replace HY := Lib.hid (HY.out.below hb)
          replace HZ := Lib.hid (HZ.out.below hb)
          replace F := Lib.hid (F.out.trans (hb.mono F.out.size))
          clear hb
          generalize u2.alloc (.cells #[.slice a'' n'' c''] 23) = u3 at *
          go_wp2_with fail
          refine (rf.may7_s _ _ _ (NatS.lim HZ.out HL''.out (by omega)) true hmo.out).mono ?_
          rintro e w4 ⟨rfl, hb⟩
          replace HX := Lib.hid (HX.out.below hb)
          replace HY := Lib.hid (HY.out.below hb)
          replace HZ := Lib.hid (HZ.out.below hb)
          replace F := Lib.hid (F.out.trans (hb.mono F.out.size))
          clear hb
          go_wp2
          go_ret
          exact ⟨rfl, F.out⟩
        · have hmo := Lib.hid (show false = decide (Mod3 (val32 l'')) by rw [decide_eq_false hm2])
          have hm3 := Lib.hid hm2
          clear ho hm2
          go_enter Try.func4, Try.ntmps4
          go_wp2_with fail
          refine (great3 (natAt_of HX.out HL.out) (natAt_of HY.out HL'.out) (natAt_of HZ.out HL''.out) 270 270 rfl _ (by simp) _ false hgr.out).mono ?_
          rintro e wg ⟨rfl, rfl⟩
          have hb := (Below.refl w.heap.size w).alloc (Nat.le_refl _) (.cells #[.slice a n c, .slice a' n' c', .slice a'' n'' c''] 23)
          replace HX := Lib.hid (HX.out.below hb)
          replace HY := Lib.hid (HY.out.below hb)
          replace HZ := Lib.hid (HZ.out.below hb)
          replace F := Lib.hid (F.out.trans (hb.mono F.out.size))
          clear hb
          generalize w.alloc (.cells #[.slice a n c, .slice a' n' c', .slice a'' n'' c''] 23) = u1 at *
          go_wp2_with fail
          refine (great1 (natAt_of HY.out HL'.out) 4 4 rfl _ (by simp) _ false hgs.out).mono ?_
          rintro e wg ⟨rfl, rfl⟩
          have hb := (Below.refl u1.heap.size u1).alloc (Nat.le_refl _) (.cells #[.slice a' n' c'] 23)
          replace HX := Lib.hid (HX.out.below hb)
          replace HY := Lib.hid (HY.out.below hb)
          replace HZ := Lib.hid (HZ.out.below hb)
          replace F := Lib.hid (F.out.trans (hb.mono F.out.size))
          clear hb
          generalize u1.alloc (.cells #[.slice a' n' c'] 23) = u2 at *
          go_wp2_with fail
          refine (great1 (natAt_of HZ.out HL''.out) 10 10 rfl _ (by simp) _ true hgo.out).mono ?_
          rintro e wg ⟨rfl, rfl⟩
          have hb := (Below.refl u2.heap.size u2).alloc (Nat.le_refl _) (.cells #[.slice a'' n'' c''] 23)
          replace HX := Lib.hid (HX.out.below hb)
          replace HY := Lib.hid (HY.out.below hb)
          replace HZ := Lib.hid (HZ.out.below hb)
          replace F := Lib.hid (F.out.trans (hb.mono F.out.size))
          clear hb
          generalize u2.alloc (.cells #[.slice a'' n'' c''] 23) = u3 at *
          go_wp2_with fail
          refine (rf.may7_s _ _ _ (NatS.lim HZ.out HL''.out (by omega)) false hmo.out).mono ?_
          rintro e w4 ⟨rfl, hb⟩
          replace HX := Lib.hid (HX.out.below hb)
          replace HY := Lib.hid (HY.out.below hb)
          replace HZ := Lib.hid (HZ.out.below hb)
          replace F := Lib.hid (F.out.trans (hb.mono F.out.size))
          clear hb
          go_wp2_with fail
          refine (twin_any a n c l _ HX.out (by omega)).mono ?_
          rintro e w5 ⟨⟨g0, b0, rfl, ho⟩, hb⟩
          replace HX := Lib.hid (HX.out.below hb)
          replace HY := Lib.hid (HY.out.below hb)
          replace HZ := Lib.hid (HZ.out.below hb)
          have TX := Lib.hid (ho)
          replace F := Lib.hid (F.out.trans (hb.mono F.out.size))
          clear hb
          go_wp2_with fail
          refine (twin_any a' n' c' l' _ HY.out (by omega)).mono ?_
          rintro e w6 ⟨⟨g1, b1, rfl, ho⟩, hb⟩
          replace HX := Lib.hid (HX.out.below hb)
          replace HY := Lib.hid (HY.out.below hb)
          replace HZ := Lib.hid (HZ.out.below hb)
          replace TX := Lib.hid (TX.out.below hb)
          have TY := Lib.hid (ho)
          replace F := Lib.hid (F.out.trans (hb.mono F.out.size))
          clear hb
          go_wp2_with fail
          refine (twin_any a'' n'' c'' l'' _ HZ.out (by omega)).mono ?_
          rintro e w7 ⟨⟨g2, b2, rfl, ho⟩, hb⟩
          replace HX := Lib.hid (HX.out.below hb)
          replace HY := Lib.hid (HY.out.below hb)
          replace HZ := Lib.hid (HZ.out.below hb)
          replace TX := Lib.hid (TX.out.below hb)
          replace TY := Lib.hid (TY.out.below hb)
          have TM := Lib.hid (ho)
          replace F := Lib.hid (F.out.trans (hb.mono F.out.size))
          clear hb
          have PX := Lib.hid (twin_read TX.out HN.out)
          replace TX := Lib.hid TX.out.reads
          have NX := Lib.hid (NatS.lim HX.out HL.out (by omega))
          have AX := Lib.hid (natAt_of PX.out HL.out)
          have PY := Lib.hid (twin_read TY.out HN'.out)
          replace TY := Lib.hid TY.out.reads
          have NY := Lib.hid (NatS.lim HY.out HL'.out (by omega))
          have AY := Lib.hid (natAt_of PY.out HL'.out)
          have PM := Lib.hid (twin_read TM.out HN''.out)
          replace TM := Lib.hid TM.out.reads
          have NM := Lib.hid (NatS.lim HZ.out HL''.out (by omega))
          have AM := Lib.hid (natAt_of PM.out HL''.out)
          clear PX PY PM
          have F2 := Lib.hid (Below.refl w7.heap.size w7)
          go_wp2_with fail
          refine (mpow_no _ _ _ _ _ AM.out hm3.out).mono ?_
          rintro e w8 ⟨rfl, hb⟩
          replace NX := Lib.hid (NX.out.below hb)
          replace NY := Lib.hid (NY.out.below hb)
          replace NM := Lib.hid (NM.out.below hb)
          replace AX := Lib.hid (AX.out.below hb)
          replace AY := Lib.hid (AY.out.below hb)
          replace AM := Lib.hid (AM.out.below hb)
          replace F2 := Lib.hid (F2.out.trans (hb.mono F2.out.size))
          clear hb
          go_wp2_with fail
          refine (rf.may7_s _ _ _ NM.out false hmo.out).mono ?_
          rintro e w9 ⟨rfl, hb⟩
          replace NX := Lib.hid (NX.out.below hb)
          replace NY := Lib.hid (NY.out.below hb)
          replace NM := Lib.hid (NM.out.below hb)
          replace AX := Lib.hid (AX.out.below hb)
          replace AY := Lib.hid (AY.out.below hb)
          replace AM := Lib.hid (AM.out.below hb)
          replace F2 := Lib.hid (F2.out.trans (hb.mono F2.out.size))
          clear hb
          go_wp2
          go_ret
          exact ⟨rfl, F.out.trans (F2.out.mono F.out.size)⟩
      · have hgo := Lib.hid (show false = decide (10 < n'') by rw [decide_eq_false ho])
        by_cases hm2 : Mod3 (val32 l'')
        · have hmo := Lib.hid (show true = decide (Mod3 (val32 l'')) by rw [decide_eq_true hm2])
          have hm3 := Lib.hid hm2
          clear ho hm2
          go_enter Try.func4, Try.ntmps4
          go_wp2_with fail
          refine (great3 (natAt_of HX.out HL.out) (natAt_of HY.out HL'.out) (natAt_of HZ.out HL''.out) 270 270 rfl _ (by simp) _ false hgr.out).mono ?_
          rintro e wg ⟨rfl, rfl⟩
          have hb := (Below.refl w.heap.size w).alloc (Nat.le_refl _) (.cells #[.slice a n c, .slice a' n' c', .slice a'' n'' c''] 23)
          replace HX := Lib.hid (HX.out.below hb)
          replace HY := Lib.hid (HY.out.below hb)
          replace HZ := Lib.hid (HZ.out.below hb)
          replace F := Lib.hid (F.out.trans (hb.mono F.out.size))
          clear hb
          generalize w.alloc (.cells #[.slice a n c, .slice a' n' c', .slice a'' n'' c''] 23) = u1 at *
          go_wp2_with fail
          refine (great1 (natAt_of HY.out HL'.out) 4 4 rfl _ (by simp) _ false hgs.out).mono ?_
          rintro e wg ⟨rfl, rfl⟩
          have hb := (Below.refl u1.heap.size u1).alloc (Nat.le_refl _) (.cells #[.slice a' n' c'] 23)
          replace HX := Lib.hid (HX.out.below hb)
          replace HY := Lib.hid (HY.out.below hb)
          replace HZ := Lib.hid (HZ.out.below hb)
          replace F := Lib.hid (F.out.trans (hb.mono F.out.size))
          clear hb
          generalize u1.alloc (.cells #[.slice a' n' c'] 23) = u2 at *
          go_wp2_with fail
          refine (great1 (natAt_of HZ.out HL''.out) 10 10 rfl _ (by simp) _ false hgo.out).mono ?_
          rintro e wg ⟨rfl, rfl⟩
          have hb := (Below.refl u2.heap.size u2).alloc (Nat.le_refl _) (.cells #[.slice a'' n'' c''] 23)
          replace HX := Lib.hid (HX.out.below hb)
          replace HY := Lib.hid (HY.out.below hb)
          replace HZ := Lib.hid (HZ.out.below hb)
          replace F := Lib.hid (F.out.trans (hb.mono F.out.size))
          clear hb
          generalize u2.alloc (.cells #[.slice a'' n'' c''] 23) = u3 at *
          go_wp2_with fail
          refine (twin_any a n c l _ HX.out (by omega)).mono ?_
          rintro e w4 ⟨⟨g0, b0, rfl, ho⟩, hb⟩
          replace HX := Lib.hid (HX.out.below hb)
          replace HY := Lib.hid (HY.out.below hb)
          replace HZ := Lib.hid (HZ.out.below hb)
          have TX := Lib.hid (ho)
          replace F := Lib.hid (F.out.trans (hb.mono F.out.size))
          clear hb
          go_wp2_with fail
          refine (twin_any a' n' c' l' _ HY.out (by omega)).mono ?_
          rintro e w5 ⟨⟨g1, b1, rfl, ho⟩, hb⟩
          replace HX := Lib.hid (HX.out.below hb)
          replace HY := Lib.hid (HY.out.below hb)
          replace HZ := Lib.hid (HZ.out.below hb)
          replace TX := Lib.hid (TX.out.below hb)
          have TY := Lib.hid (ho)
          replace F := Lib.hid (F.out.trans (hb.mono F.out.size))
          clear hb
          go_wp2_with fail
          refine (twin_any a'' n'' c'' l'' _ HZ.out (by omega)).mono ?_
          rintro e w6 ⟨⟨g2, b2, rfl, ho⟩, hb⟩
          replace HX := Lib.hid (HX.out.below hb)
          replace HY := Lib.hid (HY.out.below hb)
          replace HZ := Lib.hid (HZ.out.below hb)
          replace TX := Lib.hid (TX.out.below hb)
          replace TY := Lib.hid (TY.out.below hb)
          have TM := Lib.hid (ho)
          replace F := Lib.hid (F.out.trans (hb.mono F.out.size))
          clear hb
          have PX := Lib.hid (twin_read TX.out HN.out)
          replace TX := Lib.hid TX.out.reads
          have NX := Lib.hid (NatS.lim HX.out HL.out (by omega))
          have AX := Lib.hid (natAt_of PX.out HL.out)
          have PY := Lib.hid (twin_read TY.out HN'.out)
          replace TY := Lib.hid TY.out.reads
          have NY := Lib.hid (NatS.lim HY.out HL'.out (by omega))
          have AY := Lib.hid (natAt_of PY.out HL'.out)
          have PM := Lib.hid (twin_read TM.out HN''.out)
          replace TM := Lib.hid TM.out.reads
          have NM := Lib.hid (NatS.lim HZ.out HL''.out (by omega))
          have AM := Lib.hid (natAt_of PM.out HL''.out)
          clear PX PY PM
          have F2 := Lib.hid (Below.refl w6.heap.size w6)
          have SP := Lib.hid (fun (w : World) (x k m : Value) (h : NatAt w x (val32 l)) (j : NatAt w k (val32 l')) (i : NatAt w m (val32 l'')) => mpow_any x k m _ _ _ w h j i hm3.out)
          have TP := Lib.hid (fun (w : World) (x k m : Value) (h : NatS w x (val32 l)) (j : NatS w k (val32 l')) (i : NatS w m (val32 l'')) => rf.Power_s x k m _ _ _ w h j i hm3.out)
          have SW := Lib.hid (fun (w : World) (p x k : Value) (n : Nat) (o : Whl w p n (val32 l'')) (h : NatAt w x (val32 l)) (j : NatAt w k (val32 l')) => Power_any p x k n _ _ _ w o h j)
          generalize powR (val32 l'') (val32 l) (val32 l') = R1 at SP TP SW
          obtain ⟨O1, e1⟩ := R1
          go_wp2_with fail
          refine (SP.out _ _ _ _ AX.out AY.out AM.out).mono ?_
          rintro e w7 ⟨⟨v1, rfl, ho⟩, hb⟩
          replace NX := Lib.hid (NX.out.below hb)
          replace NY := Lib.hid (NY.out.below hb)
          replace NM := Lib.hid (NM.out.below hb)
          replace AX := Lib.hid (AX.out.below hb)
          replace AY := Lib.hid (AY.out.below hb)
          replace AM := Lib.hid (AM.out.below hb)
          have A := Lib.hid (ho.mono F2.out.size)
          replace F2 := Lib.hid (F2.out.trans (hb.mono F2.out.size))
          clear hb
          go_wp2_with fail
          refine (rf.may7_s _ _ _ NM.out true hmo.out).mono ?_
          rintro e w8 ⟨rfl, hb⟩
          replace NX := Lib.hid (NX.out.below hb)
          replace NY := Lib.hid (NY.out.below hb)
          replace NM := Lib.hid (NM.out.below hb)
          replace AX := Lib.hid (AX.out.below hb)
          replace AY := Lib.hid (AY.out.below hb)
          replace AM := Lib.hid (AM.out.below hb)
          replace A := Lib.hid (A.out.below hb)
          replace F2 := Lib.hid (F2.out.trans (hb.mono F2.out.size))
          clear hb
          go_wp2_with fail
          refine (TP.out _ _ _ _ NX.out NY.out NM.out).mono ?_
          rintro e w9 ⟨⟨v2, rfl, ho⟩, hb⟩
          replace NX := Lib.hid (NX.out.below hb)
          replace NY := Lib.hid (NY.out.below hb)
          replace NM := Lib.hid (NM.out.below hb)
          replace AX := Lib.hid (AX.out.below hb)
          replace AY := Lib.hid (AY.out.below hb)
          replace AM := Lib.hid (AM.out.below hb)
          replace A := Lib.hid (A.out.below hb)
          have B := Lib.hid (ho.mono F2.out.size)
          replace F2 := Lib.hid (F2.out.trans (hb.mono F2.out.size))
          clear hb
          go_wp2_with fail
          refine (new_ok _ _ _ AM.out hm3.out.1 hm3.out.2.1 hm3.out.2.2).mono ?_
          rintro e w10 ⟨⟨pw, rfl, hp⟩, hb⟩
          replace NX := Lib.hid (NX.out.below hb)
          replace NY := Lib.hid (NY.out.below hb)
          replace NM := Lib.hid (NM.out.below hb)
          replace AX := Lib.hid (AX.out.below hb)
          replace AY := Lib.hid (AY.out.below hb)
          replace AM := Lib.hid (AM.out.below hb)
          replace A := Lib.hid (A.out.below hb)
          replace B := Lib.hid (B.out.below hb)
          have P := Lib.hid (hp.whl)
          replace F2 := Lib.hid (F2.out.trans (hb.mono F2.out.size))
          clear hb
          go_wp2_with fail
          refine (SW.out _ _ _ _ _ P.out AX.out AY.out).mono ?_
          rintro e w11 ⟨⟨v3, rfl, ho⟩, hb⟩
          have OAC := Lib.hid (apart_of A.out ho (Nat.le_refl _))
          replace NX := Lib.hid (NX.out.below hb)
          replace NY := Lib.hid (NY.out.below hb)
          replace NM := Lib.hid (NM.out.below hb)
          replace AX := Lib.hid (AX.out.below hb)
          replace AY := Lib.hid (AY.out.below hb)
          replace AM := Lib.hid (AM.out.below hb)
          replace A := Lib.hid (A.out.below hb)
          replace B := Lib.hid (B.out.below hb)
          replace P := Lib.hid (P.out.below hb)
          have C := Lib.hid (ho.mono F2.out.size)
          replace F2 := Lib.hid (F2.out.trans (hb.mono F2.out.size))
          clear hb
          obtain ⟨x1, m1, d1, rfl, -, o⟩ := A.out.slice
          replace A := Lib.hid o
          clear o
          obtain ⟨x2, m2, d2, rfl, -, o⟩ := B.out.slice
          replace B := Lib.hid o
          clear o
          obtain ⟨x3, m3, d3, rfl, -, o⟩ := C.out.slice
          replace C := Lib.hid o
          clear o
          clear SP TP SW NX NY NM AX AY AM P
          go_wp2_with fail
          refine (same_any _ _ _ _ _ _ O1 O1 _ A.out.reads B.out.reads true (by simp)).mono ?_
          rintro e w12 ⟨rfl, hb⟩
          replace A := Lib.hid (A.out.below hb)
          replace B := Lib.hid (B.out.below hb)
          replace C := Lib.hid (C.out.below hb)
          replace F2 := Lib.hid (F2.out.trans (hb.mono F2.out.size))
          clear hb
          go_wp2_with fail
          refine (same_any _ _ _ _ _ _ O1 O1 _ C.out.reads B.out.reads true (by simp)).mono ?_
          rintro e w13 ⟨rfl, hb⟩
          replace A := Lib.hid (A.out.below hb)
          replace B := Lib.hid (B.out.below hb)
          replace C := Lib.hid (C.out.below hb)
          replace F2 := Lib.hid (F2.out.trans (hb.mono F2.out.size))
          clear hb
          go_wp2_with fail
          refine (kept_any w6 _ w6.heap.size w13.heap.size 2 23 [.slice x1 m1 d1, .slice x3 m3 d3] g0 n b0 a c l TX.out HX.out (F2.out.alloc F2.out.size _) (Nat.le_refl _) rfl (by decide) (fun _ => KeptI.start (fun v hv => by
              rcases List.mem_cons.1 hv with rfl | hv
              · exact ⟨_, A.out⟩
              · skip
                obtain rfl := List.mem_singleton.1 hv
                exact ⟨_, C.out⟩)) (Apart.two OAC.out) _ (.inl ⟨by decide, rfl⟩)).mono ?_
          rintro e wk0 ⟨rfl, hb⟩
          have FK := Lib.hid hb
          clear hb
          go_wp2_with fail
          refine (kept_any w6 wk0 w6.heap.size 0 0 0 [] g1 n' b1 a' c' l' TY.out HY.out FK.out (Nat.le_refl _) rfl (by decide) (fun h => absurd h (by decide)) Apart.none _ (.inr ⟨rfl, rfl⟩)).mono ?_
          rintro e wk1 ⟨rfl, hb⟩
          clear FK
          have FK := Lib.hid hb
          clear hb
          go_wp2_with fail
          refine (kept_any w6 wk1 w6.heap.size 0 0 0 [] g2 n'' b2 a'' c'' l'' TM.out HZ.out FK.out (Nat.le_refl _) rfl (by decide) (fun h => absurd h (by decide)) Apart.none _ (.inr ⟨rfl, rfl⟩)).mono ?_
          rintro e wk2 ⟨rfl, hb⟩
          go_wp2
          go_ret
          exact ⟨rfl, F.out.trans (hb.mono F.out.size)⟩
        · have hmo := Lib.hid (show false = decide (Mod3 (val32 l'')) by rw [decide_eq_false hm2])
          have hm3 := Lib.hid hm2
          clear ho hm2
          go_enter Try.func4, Try.ntmps4
          go_wp2_with fail
          refine (great3 (natAt_of HX.out HL.out) (natAt_of HY.out HL'.out) (natAt_of HZ.out HL''.out) 270 270 rfl _ (by simp) _ false hgr.out).mono ?_
          rintro e wg ⟨rfl, rfl⟩
          have hb := (Below.refl w.heap.size w).alloc (Nat.le_refl _) (.cells #[.slice a n c, .slice a' n' c', .slice a'' n'' c''] 23)
          replace HX := Lib.hid (HX.out.below hb)
          replace HY := Lib.hid (HY.out.below hb)
          replace HZ := Lib.hid (HZ.out.below hb)
          replace F := Lib.hid (F.out.trans (hb.mono F.out.size))
          clear hb
          generalize w.alloc (.cells #[.slice a n c, .slice a' n' c', .slice a'' n'' c''] 23) = u1 at *
          go_wp2_with fail
          refine (great1 (natAt_of HY.out HL'.out) 4 4 rfl _ (by simp) _ false hgs.out).mono ?_
          rintro e wg ⟨rfl, rfl⟩
          have hb := (Below.refl u1.heap.size u1).alloc (Nat.le_refl _) (.cells #[.slice a' n' c'] 23)
          replace HX := Lib.hid (HX.out.below hb)
          replace HY := Lib.hid (HY.out.below hb)
          replace HZ := Lib.hid (HZ.out.below hb)
          replace F := Lib.hid (F.out.trans (hb.mono F.out.size))
          clear hb
          generalize u1.alloc (.cells #[.slice a' n' c'] 23) = u2 at *
          go_wp2_with fail
          refine (great1 (natAt_of HZ.out HL''.out) 10 10 rfl _ (by simp) _ false hgo.out).mono ?_
          rintro e wg ⟨rfl, rfl⟩
          have hb := (Below.refl u2.heap.size u2).alloc (Nat.le_refl _) (.cells #[.slice a'' n'' c''] 23)
          replace HX := Lib.hid (HX.out.below hb)
          replace HY := Lib.hid (HY.out.below hb)
          replace HZ := Lib.hid (HZ.out.below hb)
          replace F := Lib.hid (F.out.trans (hb.mono F.out.size))
          clear hb
          generalize u2.alloc (.cells #[.slice a'' n'' c''] 23) = u3 at *
          go_wp2_with fail
          refine (twin_any a n c l _ HX.out (by omega)).mono ?_
          rintro e w4 ⟨⟨g0, b0, rfl, ho⟩, hb⟩
          replace HX := Lib.hid (HX.out.below hb)
          replace HY := Lib.hid (HY.out.below hb)
          replace HZ := Lib.hid (HZ.out.below hb)
          have TX := Lib.hid (ho)
          replace F := Lib.hid (F.out.trans (hb.mono F.out.size))
          clear hb
          go_wp2_with fail
          refine (twin_any a' n' c' l' _ HY.out (by omega)).mono ?_
          rintro e w5 ⟨⟨g1, b1, rfl, ho⟩, hb⟩
          replace HX := Lib.hid (HX.out.below hb)
          replace HY := Lib.hid (HY.out.below hb)
          replace HZ := Lib.hid (HZ.out.below hb)
          replace TX := Lib.hid (TX.out.below hb)
          have TY := Lib.hid (ho)
          replace F := Lib.hid (F.out.trans (hb.mono F.out.size))
          clear hb
          go_wp2_with fail
          refine (twin_any a'' n'' c'' l'' _ HZ.out (by omega)).mono ?_
          rintro e w6 ⟨⟨g2, b2, rfl, ho⟩, hb⟩
          replace HX := Lib.hid (HX.out.below hb)
          replace HY := Lib.hid (HY.out.below hb)
          replace HZ := Lib.hid (HZ.out.below hb)
          replace TX := Lib.hid (TX.out.below hb)
          replace TY := Lib.hid (TY.out.below hb)
          have TM := Lib.hid (ho)
          replace F := Lib.hid (F.out.trans (hb.mono F.out.size))
          clear hb
          have PX := Lib.hid (twin_read TX.out HN.out)
          replace TX := Lib.hid TX.out.reads
          have NX := Lib.hid (NatS.lim HX.out HL.out (by omega))
          have AX := Lib.hid (natAt_of PX.out HL.out)
          have PY := Lib.hid (twin_read TY.out HN'.out)
          replace TY := Lib.hid TY.out.reads
          have NY := Lib.hid (NatS.lim HY.out HL'.out (by omega))
          have AY := Lib.hid (natAt_of PY.out HL'.out)
          have PM := Lib.hid (twin_read TM.out HN''.out)
          replace TM := Lib.hid TM.out.reads
          have NM := Lib.hid (NatS.lim HZ.out HL''.out (by omega))
          have AM := Lib.hid (natAt_of PM.out HL''.out)
          clear PX PY PM
          have F2 := Lib.hid (Below.refl w6.heap.size w6)
          go_wp2_with fail
          refine (mpow_no _ _ _ _ _ AM.out hm3.out).mono ?_
          rintro e w7 ⟨rfl, hb⟩
          replace NX := Lib.hid (NX.out.below hb)
          replace NY := Lib.hid (NY.out.below hb)
          replace NM := Lib.hid (NM.out.below hb)
          replace AX := Lib.hid (AX.out.below hb)
          replace AY := Lib.hid (AY.out.below hb)
          replace AM := Lib.hid (AM.out.below hb)
          replace F2 := Lib.hid (F2.out.trans (hb.mono F2.out.size))
          clear hb
          go_wp2_with fail
          refine (rf.may7_s _ _ _ NM.out false hmo.out).mono ?_
          rintro e w8 ⟨rfl, hb⟩
          replace NX := Lib.hid (NX.out.below hb)
          replace NY := Lib.hid (NY.out.below hb)
          replace NM := Lib.hid (NM.out.below hb)
          replace AX := Lib.hid (AX.out.below hb)
          replace AY := Lib.hid (AY.out.below hb)
          replace AM := Lib.hid (AM.out.below hb)
          replace F2 := Lib.hid (F2.out.trans (hb.mono F2.out.size))
          clear hb
          go_wp2
          go_ret
          exact ⟨rfl, F.out.trans (F2.out.mono F.out.size)⟩

end Go.Proofs.Ytebfoalcmnpghaa
