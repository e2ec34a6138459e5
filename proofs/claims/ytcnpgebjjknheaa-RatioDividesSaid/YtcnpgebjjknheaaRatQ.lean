/-
  THE LAW RatioDivides, walked.
-/
import Derived.Test.YtcnpgebjjknheaaRatP
namespace Go.Proofs.Ytcnpgebjjknheaa
open Go.RowKit

theorem divR_rf (X Y : Nat) : rf.divR X Y = divR X Y := rfl

set_option maxRecDepth 100000 in
set_option maxHeartbeats 4000000 in
theorem divides_walk (a : Option Addr) (n c : Nat) (l : List Nat) (a' : Option Addr) (n' c' : Nat) (l' : List Nat) (w : World) (hX : Reads .u32 w a n c l) (hXL : Lim l) (hY : Reads .u32 w a' n' c' l') (hYL : Lim l') :
    Calls Try.prog 3 #[.slice a n c, .slice a' n' c'] w fun e w' => e = .returned (.bool true) ∧ Below w.heap.size w w' := by
  have HX := Lib.hid hX
  have HL := Lib.hid hXL
  have HN := Lib.hid hX.length
  have HY := Lib.hid hY
  have HL' := Lib.hid hYL
  have HN' := Lib.hid hY.length
  have F := Lib.hid (Below.refl w.heap.size w)
  clear hX hXL hY hYL
  by_cases hg : 270 < n ∨ 270 < n'
  · have hgr := Lib.hid (show true = decide (270 < n ∨ 270 < n') by rw [decide_eq_true hg])
    clear hg
    go_enter Try.func3, Try.ntmps3
    go_wp2_with fail
    refine (great2 (natAt_of HX.out HL.out) (natAt_of HY.out HL'.out) 270 270 rfl _ (by simp) _ true hgr.out).mono ?_
    rintro e wg ⟨rfl, rfl⟩
    have hb := (Below.refl w.heap.size w).alloc (Nat.le_refl _) (.cells #[.slice a n c, .slice a' n' c'] 23)
    replace HX := Lib.hid (HX.out.below hb)
    replace HY := Lib.hid (HY.out.below hb)
    replace F := Lib.hid (F.out.trans (hb.mono F.out.size))
    clear hb
    go_wp2
    go_ret
    exact ⟨rfl, F.out⟩
  · have hgr := Lib.hid (show false = decide (270 < n ∨ 270 < n') by rw [decide_eq_false hg])
    have hn : n ≤ 270 := by omega
    have hn' : n' ≤ 270 := by omega
    clear hg
    go_enter Try.func3, Try.ntmps3
    go_wp2_with fail
    refine (great2 (natAt_of HX.out HL.out) (natAt_of HY.out HL'.out) 270 270 rfl _ (by simp) _ false hgr.out).mono ?_
    rintro e wg ⟨rfl, rfl⟩
    have hb := (Below.refl w.heap.size w).alloc (Nat.le_refl _) (.cells #[.slice a n c, .slice a' n' c'] 23)
    replace HX := Lib.hid (HX.out.below hb)
    replace HY := Lib.hid (HY.out.below hb)
    replace F := Lib.hid (F.out.trans (hb.mono F.out.size))
    clear hb
    go_wp2_with fail
    refine (twin_any a n c l _ HX.out (by omega)).mono ?_
    rintro e w1 ⟨⟨g0, b0, rfl, ho⟩, hb⟩
    replace HX := Lib.hid (HX.out.below hb)
    replace HY := Lib.hid (HY.out.below hb)
    have TX := Lib.hid (ho)
    replace F := Lib.hid (F.out.trans (hb.mono F.out.size))
    clear hb
    go_wp2_with fail
    refine (twin_any a' n' c' l' _ HY.out (by omega)).mono ?_
    rintro e w2 ⟨⟨g1, b1, rfl, ho⟩, hb⟩
    replace HX := Lib.hid (HX.out.below hb)
    replace HY := Lib.hid (HY.out.below hb)
    replace TX := Lib.hid (TX.out.below hb)
    have TY := Lib.hid (ho)
    replace F := Lib.hid (F.out.trans (hb.mono F.out.size))
    clear hb
    have PX := Lib.hid (twin_read TX.out HN.out)
    replace TX := Lib.hid TX.out.reads
    have NX := Lib.hid (NatS.lim HX.out HL.out (by omega))
    have AX := Lib.hid (natAt_of PX.out HL.out)
    have PY := Lib.hid (twin_read TY.out HN'.out)
    replace TY := Lib.hid TY.out.reads
    have NY := Lib.hid (NatS.lim HY.out HL'.out (by omega))
    have AY := Lib.hid (natAt_of PY.out HL'.out)
    clear PX PY
    have F2 := Lib.hid (Below.refl w2.heap.size w2)
    have SD := Lib.hid (fun (w : World) (x y : Value) (h : NatAt w x (val32 l)) (k : NatAt w y (val32 l')) => div_any x y _ _ w h k)
    have TD := Lib.hid (fun (w : World) (x y : Value) (h : NatS w x (val32 l)) (k : NatS w y (val32 l')) => rf.div_s h k)
    have SM := Lib.hid (fun (w : World) (x y : Value) (h : NatAt w x (val32 l)) (k : NatAt w y (val32 l')) => mod_any x y _ _ w h k)
    rw [show modR (val32 l) (val32 l') = ((divR (val32 l) (val32 l')).2.1, (divR (val32 l) (val32 l')).2.2) from rfl] at SM
    rw [divR_rf] at TD
    generalize divR (val32 l) (val32 l') = R at SD TD SM
    obtain ⟨Q, S, er⟩ := R
    go_wp2_with fail
    refine (SD.out _ _ _ AX.out AY.out).mono ?_
    rintro e w3 ⟨⟨v1, v2, rfl, ho1, ho2, hoff⟩, hb⟩
    have OAB := Lib.hid hoff
    replace NX := Lib.hid (NX.out.below hb)
    replace NY := Lib.hid (NY.out.below hb)
    replace AX := Lib.hid (AX.out.below hb)
    replace AY := Lib.hid (AY.out.below hb)
    have A := Lib.hid (ho1.mono F2.out.size)
    have B := Lib.hid (ho2.mono F2.out.size)
    replace F2 := Lib.hid (F2.out.trans (hb.mono F2.out.size))
    clear hb
    go_wp2_with fail
    refine (TD.out _ _ _ NX.out NY.out).mono ?_
    rintro e w4 ⟨⟨v3, v4, rfl, ho1, ho2⟩, hb⟩
    replace NX := Lib.hid (NX.out.below hb)
    replace NY := Lib.hid (NY.out.below hb)
    replace AX := Lib.hid (AX.out.below hb)
    replace AY := Lib.hid (AY.out.below hb)
    replace A := Lib.hid (A.out.below hb)
    replace B := Lib.hid (B.out.below hb)
    have C := Lib.hid (ho1.mono F2.out.size)
    have D := Lib.hid (ho2.mono F2.out.size)
    replace F2 := Lib.hid (F2.out.trans (hb.mono F2.out.size))
    clear hb
    go_wp2_with fail
    refine (SM.out _ _ _ AX.out AY.out).mono ?_
    rintro e w5 ⟨⟨v5, rfl, ho⟩, hb⟩
    have OAE := Lib.hid (apart_of A.out ho (Nat.le_refl _))
    have OBE := Lib.hid (apart_of B.out ho (Nat.le_refl _))
    replace NX := Lib.hid (NX.out.below hb)
    replace NY := Lib.hid (NY.out.below hb)
    replace AX := Lib.hid (AX.out.below hb)
    replace AY := Lib.hid (AY.out.below hb)
    replace A := Lib.hid (A.out.below hb)
    replace B := Lib.hid (B.out.below hb)
    replace C := Lib.hid (C.out.below hb)
    replace D := Lib.hid (D.out.below hb)
    have E := Lib.hid (ho.mono F2.out.size)
    replace F2 := Lib.hid (F2.out.trans (hb.mono F2.out.size))
    clear hb
    obtain ⟨x1, m1, d1, rfl, -, o⟩ := A.out.slice
    replace A := Lib.hid o
    clear o
    obtain ⟨x2, m2, d2, rfl, -, o⟩ := B.out.slice
    replace B := Lib.hid o
    clear o
    obtain ⟨x3, m3, d3, rfl, -, o⟩ := C.out.slice
    replace C := Lib.hid o
    clear o
    obtain ⟨x4, m4, d4, rfl, -, o⟩ := D.out.slice
    replace D := Lib.hid o
    clear o
    obtain ⟨x5, m5, d5, rfl, -, o⟩ := E.out.slice
    replace E := Lib.hid o
    clear o
    clear SD TD SM NX NY AX AY
    go_wp2_with fail
    refine (same_any _ _ _ _ _ _ Q Q _ A.out.reads C.out.reads true (by simp)).mono ?_
    rintro e w6 ⟨rfl, hb⟩
    replace A := Lib.hid (A.out.below hb)
    replace B := Lib.hid (B.out.below hb)
    replace C := Lib.hid (C.out.below hb)
    replace D := Lib.hid (D.out.below hb)
    replace E := Lib.hid (E.out.below hb)
    replace F2 := Lib.hid (F2.out.trans (hb.mono F2.out.size))
    clear hb
    go_wp2_with fail
    refine (same_any _ _ _ _ _ _ S S _ B.out.reads D.out.reads true (by simp)).mono ?_
    rintro e w7 ⟨rfl, hb⟩
    replace A := Lib.hid (A.out.below hb)
    replace B := Lib.hid (B.out.below hb)
    replace C := Lib.hid (C.out.below hb)
    replace D := Lib.hid (D.out.below hb)
    replace E := Lib.hid (E.out.below hb)
    replace F2 := Lib.hid (F2.out.trans (hb.mono F2.out.size))
    clear hb
    go_wp2_with fail
    refine (same_any _ _ _ _ _ _ S S _ E.out.reads D.out.reads true (by simp)).mono ?_
    rintro e w8 ⟨rfl, hb⟩
    replace A := Lib.hid (A.out.below hb)
    replace B := Lib.hid (B.out.below hb)
    replace C := Lib.hid (C.out.below hb)
    replace D := Lib.hid (D.out.below hb)
    replace E := Lib.hid (E.out.below hb)
    replace F2 := Lib.hid (F2.out.trans (hb.mono F2.out.size))
    clear hb
    go_wp2_with fail
    refine (kept_any w2 _ w2.heap.size w8.heap.size 3 23 [.slice x1 m1 d1, .slice x2 m2 d2, .slice x5 m5 d5] g0 n b0 a c l TX.out HX.out (F2.out.alloc F2.out.size _) (Nat.le_refl _) rfl (by decide) (fun _ => KeptI.start (fun v hv => by
        rcases List.mem_cons.1 hv with rfl | hv
        · exact ⟨_, A.out⟩
        · skip
          rcases List.mem_cons.1 hv with rfl | hv
          · exact ⟨_, B.out⟩
          · skip
            obtain rfl := List.mem_singleton.1 hv
            exact ⟨_, E.out⟩)) (Apart.three OAB.out OAE.out OBE.out) _ (.inl ⟨by decide, rfl⟩)).mono ?_
    rintro e wk0 ⟨rfl, hb⟩
    have FK := Lib.hid hb
    clear hb
    go_wp2_with fail
    refine (kept_any w2 wk0 w2.heap.size 0 0 0 [] g1 n' b1 a' c' l' TY.out HY.out FK.out (Nat.le_refl _) rfl (by decide) (fun h => absurd h (by decide)) Apart.none _ (.inr ⟨rfl, rfl⟩)).mono ?_
    rintro e wk1 ⟨rfl, hb⟩
    go_wp2
    go_ret
    exact ⟨rfl, F.out.trans (hb.mono F.out.size)⟩

end Go.Proofs.Ytcnpgebjjknheaa
