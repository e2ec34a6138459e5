/-
  THE LAW RatioDivisors, walked.
-/
import Derived.Test.YtcnpgebjjknheaaRatP
namespace Go.Proofs.Ytcnpgebjjknheaa
open Go.RowKit

theorem limbs_lt {l : List Nat} {k : Nat} (hL : Lim l) (h : l.length ≤ k) : val32 l < 2 ^ (32 * k) := by
  have h1 := valB_lt (b := 4294967296) (by decide) hL
  have h2 : 4294967296 ^ l.length ≤ 4294967296 ^ k := Nat.pow_le_pow_right (by decide) h
  rw [Nat.pow_mul]
  exact Nat.lt_of_lt_of_le h1 h2
theorem limbs_prod {l m : List Nat} {k e : Nat} (hL : Lim l) (hM : Lim m) (h : l.length ≤ k) (h' : m.length ≤ k) (he : e = 64 * k) : val32 l * val32 m < 2 ^ e := by
  rw [show e = 32 * k + 32 * k by omega, Nat.pow_add]
  exact Nat.mul_lt_mul'' (limbs_lt hL h) (limbs_lt hM h')

set_option maxRecDepth 100000 in
set_option maxHeartbeats 4000000 in
theorem divisors_walk (a : Option Addr) (n c : Nat) (l : List Nat) (a' : Option Addr) (n' c' : Nat) (l' : List Nat) (w : World) (hX : Reads .u32 w a n c l) (hXL : Lim l) (hY : Reads .u32 w a' n' c' l') (hYL : Lim l') :
    Calls Try.prog 4 #[.slice a n c, .slice a' n' c'] w fun e w' => e = .returned (.bool true) ∧ Below w.heap.size w w' := by
  have HX := Lib.hid hX
  have HL := Lib.hid hXL
  have HN := Lib.hid hX.length
  have HY := Lib.hid hY
  have HL' := Lib.hid hYL
  have HN' := Lib.hid hY.length
  have F := Lib.hid (Below.refl w.heap.size w)
  clear hX hXL hY hYL
  obtain ⟨E, hE⟩ : ∃ E : Nat, E = 1536 := ⟨_, rfl⟩
  by_cases hg : 270 < n ∨ 270 < n'
  · have hgr := Lib.hid (show true = decide (270 < n ∨ 270 < n') by rw [decide_eq_true hg])
    clear hg
    go_enter Try.func4, Try.ntmps4
    go_wp2_with fail
    refine (great2 (natAt_of HX.out HL.out) (natAt_of HY.out HL'.out) 270 270 rfl _ (by simp) _ true hgr.out).mono ?_
    rintro e wg ⟨rfl, rfl⟩
    have hb := (Below.refl w.heap.size w).alloc (Nat.le_refl _) (.cells #[.slice a n c, .slice a' n' c'] 23)
    replace HX := Lib.hid (HX.out.below hb)
    replace HY := Lib.hid (HY.out.below hb)
    replace F := Lib.hid (F.out.trans (hb.mono F.out.size))
    clear hb
    generalize w.alloc (.cells #[.slice a n c, .slice a' n' c'] 23) = u1 at *
    go_wp2
    go_ret
    exact ⟨rfl, F.out⟩
  · have hgr := Lib.hid (show false = decide (270 < n ∨ 270 < n') by rw [decide_eq_false hg])
    have hn : n ≤ 270 := by omega
    have hn' : n' ≤ 270 := by omega
    clear hg
    by_cases hs : 24 < n ∨ 24 < n'
    · have hgs := Lib.hid (show true = decide (24 < n ∨ 24 < n') by rw [decide_eq_true hs])
      clear hs
      by_cases hm : val32 l < topN ∧ val32 l' < topN
      · have hmt := Lib.hid (show true = decide (val32 l < topN ∧ val32 l' < topN) from (decide_eq_true hm).symm)
        clear hm
        go_enter Try.func4, Try.ntmps4
        go_wp2_with fail
        refine (great2 (natAt_of HX.out HL.out) (natAt_of HY.out HL'.out) 270 270 rfl _ (by simp) _ false hgr.out).mono ?_
        rintro e wg ⟨rfl, rfl⟩
        have hb := (Below.refl w.heap.size w).alloc (Nat.le_refl _) (.cells #[.slice a n c, .slice a' n' c'] 23)
        replace HX := Lib.hid (HX.out.below hb)
        replace HY := Lib.hid (HY.out.below hb)
        replace F := Lib.hid (F.out.trans (hb.mono F.out.size))
        clear hb
        generalize w.alloc (.cells #[.slice a n c, .slice a' n' c'] 23) = u1 at *
        go_wp2_with fail
        refine (great2 (natAt_of HX.out HL.out) (natAt_of HY.out HL'.out) 24 24 rfl _ (by simp) _ true hgs.out).mono ?_
        rintro e wg ⟨rfl, rfl⟩
        have hb := (Below.refl u1.heap.size u1).alloc (Nat.le_refl _) (.cells #[.slice a n c, .slice a' n' c'] 23)
        replace HX := Lib.hid (HX.out.below hb)
        replace HY := Lib.hid (HY.out.below hb)
        replace F := Lib.hid (F.out.trans (hb.mono F.out.size))
        clear hb
        generalize u1.alloc (.cells #[.slice a n c, .slice a' n' c'] 23) = u2 at *
        go_wp2_with fail
        refine (rf.may_s (NatS.lim HX.out HL.out (by omega)) (NatS.lim HY.out HL'.out (by omega)) true hmt.out).mono ?_
        rintro e w3 ⟨rfl, hb⟩
        replace HX := Lib.hid (HX.out.below hb)
        replace HY := Lib.hid (HY.out.below hb)
        replace F := Lib.hid (F.out.trans (hb.mono F.out.size))
        clear hb
        go_wp2
        go_ret
        exact ⟨rfl, F.out⟩
      · have hmt := Lib.hid (show false = decide (val32 l < topN ∧ val32 l' < topN) from (decide_eq_false hm).symm)
        have HP := Lib.hid (show val32 l < topN → val32 l' < topN → val32 l * val32 l' < 2 ^ E from fun h k => absurd ⟨h, k⟩ hm)
        clear hm
        go_enter Try.func4, Try.ntmps4
        go_wp2_with fail
        refine (great2 (natAt_of HX.out HL.out) (natAt_of HY.out HL'.out) 270 270 rfl _ (by simp) _ false hgr.out).mono ?_
        rintro e wg ⟨rfl, rfl⟩
        have hb := (Below.refl w.heap.size w).alloc (Nat.le_refl _) (.cells #[.slice a n c, .slice a' n' c'] 23)
        replace HX := Lib.hid (HX.out.below hb)
        replace HY := Lib.hid (HY.out.below hb)
        replace F := Lib.hid (F.out.trans (hb.mono F.out.size))
        clear hb
        generalize w.alloc (.cells #[.slice a n c, .slice a' n' c'] 23) = u1 at *
        go_wp2_with fail
        refine (great2 (natAt_of HX.out HL.out) (natAt_of HY.out HL'.out) 24 24 rfl _ (by simp) _ true hgs.out).mono ?_
        rintro e wg ⟨rfl, rfl⟩
        have hb := (Below.refl u1.heap.size u1).alloc (Nat.le_refl _) (.cells #[.slice a n c, .slice a' n' c'] 23)
        replace HX := Lib.hid (HX.out.below hb)
        replace HY := Lib.hid (HY.out.below hb)
        replace F := Lib.hid (F.out.trans (hb.mono F.out.size))
        clear hb
        generalize u1.alloc (.cells #[.slice a n c, .slice a' n' c'] 23) = u2 at *
        go_wp2_with fail
        refine (rf.may_s (NatS.lim HX.out HL.out (by omega)) (NatS.lim HY.out HL'.out (by omega)) false hmt.out).mono ?_
        rintro e w3 ⟨rfl, hb⟩
        replace HX := Lib.hid (HX.out.below hb)
        replace HY := Lib.hid (HY.out.below hb)
        replace F := Lib.hid (F.out.trans (hb.mono F.out.size))
        clear hb
        go_wp2_with fail
        refine (twin_any a n c l _ HX.out (by omega)).mono ?_
        rintro e w4 ⟨⟨g0, b0, rfl, ho⟩, hb⟩
        replace HX := Lib.hid (HX.out.below hb)
        replace HY := Lib.hid (HY.out.below hb)
        have TX := Lib.hid (ho)
        replace F := Lib.hid (F.out.trans (hb.mono F.out.size))
        clear hb
        go_wp2_with fail
        refine (twin_any a' n' c' l' _ HY.out (by omega)).mono ?_
        rintro e w5 ⟨⟨g1, b1, rfl, ho⟩, hb⟩
        replace HX := Lib.hid (HX.out.below hb)
        replace HY := Lib.hid (HY.out.below hb)
        replace TX := Lib.hid (TX.out.below hb)
        have TY := Lib.hid (ho)
        replace F := Lib.hid (F.out.trans (hb.mono F.out.size))
        clear hb
        have PX := Lib.hid (twin_read TX.out HN.out)
        replace TX := Lib.hid TX.out.reads
        have NX := Lib.hid (NatS.lim HX.out HL.out (by omega))
        have AX := Lib.hid (natAt_of PX.out HL.out)
        have PY := Lib.hid (twin_read TY.out HN'.out)
        replace TY := Lib.hid TY.out.reads
        have NY := Lib.hid (NatS.lim HY.out HL'.out (by omega))
        have AY := Lib.hid (natAt_of PY.out HL'.out)
        clear PX PY
        have F2 := Lib.hid (Below.refl w5.heap.size w5)
        have SD := Lib.hid (fun (w : World) (x y : Value) (h : NatAt w x (val32 l)) (k : NatAt w y (val32 l')) => gcd_any x y _ _ w h k)
        have TD := Lib.hid (fun (w : World) (x y : Value) (h : NatS w x (val32 l)) (k : NatS w y (val32 l')) => rf.gcd_s x y _ _ E w h k (by omega) HP.out)
        generalize gcdR (val32 l) (val32 l') = R at SD TD
        obtain ⟨Q, er⟩ := R
        go_wp2_with fail
        refine (SD.out _ _ _ AX.out AY.out).mono ?_
        rintro e w6 ⟨⟨v1, rfl, ho⟩, hb⟩
        replace NX := Lib.hid (NX.out.below hb)
        replace NY := Lib.hid (NY.out.below hb)
        replace AX := Lib.hid (AX.out.below hb)
        replace AY := Lib.hid (AY.out.below hb)
        have A := Lib.hid (ho.mono F2.out.size)
        replace F2 := Lib.hid (F2.out.trans (hb.mono F2.out.size))
        clear hb
        go_wp2_with fail
        refine (TD.out _ _ _ NX.out NY.out).mono ?_
        rintro e w7 ⟨⟨v2, rfl, ho⟩, hb⟩
        replace NX := Lib.hid (NX.out.below hb)
        replace NY := Lib.hid (NY.out.below hb)
        replace AX := Lib.hid (AX.out.below hb)
        replace AY := Lib.hid (AY.out.below hb)
        replace A := Lib.hid (A.out.below hb)
        have C := Lib.hid (ho.mono F2.out.size)
        replace F2 := Lib.hid (F2.out.trans (hb.mono F2.out.size))
        clear hb
        obtain ⟨x1, m1, d1, rfl, -, o⟩ := A.out.slice
        replace A := Lib.hid o
        clear o
        obtain ⟨x2, m2, d2, rfl, -, o⟩ := C.out.slice
        replace C := Lib.hid o
        clear o
        clear SD TD NX NY AX AY
        go_wp2_with fail
        refine (same_any _ _ _ _ _ _ Q Q _ A.out.reads C.out.reads true (by simp)).mono ?_
        rintro e w8 ⟨rfl, hb⟩
        replace A := Lib.hid (A.out.below hb)
        replace C := Lib.hid (C.out.below hb)
        replace F2 := Lib.hid (F2.out.trans (hb.mono F2.out.size))
        clear hb
        go_wp2_with fail
        refine (kept_any w5 _ w5.heap.size w8.heap.size 1 23 [.slice x1 m1 d1] g0 n b0 a c l TX.out HX.out (F2.out.alloc F2.out.size _) (Nat.le_refl _) rfl (by decide) (fun _ => KeptI.start (fun v hv => by
            obtain rfl := List.mem_singleton.1 hv
            exact ⟨_, A.out⟩)) (Apart.one _) _ (.inl ⟨by decide, rfl⟩)).mono ?_
        rintro e wk0 ⟨rfl, hb⟩
        have FK := Lib.hid hb
        clear hb
        go_wp2_with fail
        refine (kept_any w5 wk0 w5.heap.size 0 0 0 [] g1 n' b1 a' c' l' TY.out HY.out FK.out (Nat.le_refl _) rfl (by decide) (fun h => absurd h (by decide)) Apart.none _ (.inr ⟨rfl, rfl⟩)).mono ?_
        rintro e wk1 ⟨rfl, hb⟩
        go_wp2
        go_ret
        exact ⟨rfl, F.out.trans (hb.mono F.out.size)⟩
    · have hgs := Lib.hid (show false = decide (24 < n ∨ 24 < n') by rw [decide_eq_false hs])
      have HP := Lib.hid (show val32 l < topN → val32 l' < topN → val32 l * val32 l' < 2 ^ E from fun _ _ => limbs_prod HL.out HL'.out (k := 24) (by have := HN.out; omega) (by have := HN'.out; omega) (by omega))
      clear hs
      go_enter Try.func4, Try.ntmps4
      go_wp2_with fail
      refine (great2 (natAt_of HX.out HL.out) (natAt_of HY.out HL'.out) 270 270 rfl _ (by simp) _ false hgr.out).mono ?_
      rintro e wg ⟨rfl, rfl⟩
      have hb := (Below.refl w.heap.size w).alloc (Nat.le_refl _) (.cells #[.slice a n c, .slice a' n' c'] 23)
      replace HX := Lib.hid (HX.out.below hb)
      replace HY := Lib.hid (HY.out.below hb)
      replace F := Lib.hid (F.out.trans (hb.mono F.out.size))
      clear hb
      generalize w.alloc (.cells #[.slice a n c, .slice a' n' c'] 23) = u1 at *
      go_wp2_with fail
      refine (great2 (natAt_of HX.out HL.out) (natAt_of HY.out HL'.out) 24 24 rfl _ (by simp) _ false hgs.out).mono ?_
      rintro e wg ⟨rfl, rfl⟩
      have hb := (Below.refl u1.heap.size u1).alloc (Nat.le_refl _) (.cells #[.slice a n c, .slice a' n' c'] 23)
      replace HX := Lib.hid (HX.out.below hb)
      replace HY := Lib.hid (HY.out.below hb)
      replace F := Lib.hid (F.out.trans (hb.mono F.out.size))
      clear hb
      generalize u1.alloc (.cells #[.slice a n c, .slice a' n' c'] 23) = u2 at *
      go_wp2_with fail
      refine (twin_any a n c l _ HX.out (by omega)).mono ?_
      rintro e w3 ⟨⟨g0, b0, rfl, ho⟩, hb⟩
      replace HX := Lib.hid (HX.out.below hb)
      replace HY := Lib.hid (HY.out.below hb)
      have TX := Lib.hid (ho)
      replace F := Lib.hid (F.out.trans (hb.mono F.out.size))
      clear hb
      go_wp2_with fail
      refine (twin_any a' n' c' l' _ HY.out (by omega)).mono ?_
      rintro e w4 ⟨⟨g1, b1, rfl, ho⟩, hb⟩
      replace HX := Lib.hid (HX.out.below hb)
      replace HY := Lib.hid (HY.out.below hb)
      replace TX := Lib.hid (TX.out.below hb)
      have TY := Lib.hid (ho)
      replace F := Lib.hid (F.out.trans (hb.mono F.out.size))
      clear hb
      have PX := Lib.hid (twin_read TX.out HN.out)
      replace TX := Lib.hid TX.out.reads
      have NX := Lib.hid (NatS.lim HX.out HL.out (by omega))
      have AX := Lib.hid (natAt_of PX.out HL.out)
      have PY := Lib.hid (twin_read TY.out HN'.out)
      replace TY := Lib.hid TY.out.reads
      have NY := Lib.hid (NatS.lim HY.out HL'.out (by omega))
      have AY := Lib.hid (natAt_of PY.out HL'.out)
      clear PX PY
      have F2 := Lib.hid (Below.refl w4.heap.size w4)
      have SD := Lib.hid (fun (w : World) (x y : Value) (h : NatAt w x (val32 l)) (k : NatAt w y (val32 l')) => gcd_any x y _ _ w h k)
      have TD := Lib.hid (fun (w : World) (x y : Value) (h : NatS w x (val32 l)) (k : NatS w y (val32 l')) => rf.gcd_s x y _ _ E w h k (by omega) HP.out)
      generalize gcdR (val32 l) (val32 l') = R at SD TD
      obtain ⟨Q, er⟩ := R
      go_wp2_with fail
      refine (SD.out _ _ _ AX.out AY.out).mono ?_
      rintro e w5 ⟨⟨v1, rfl, ho⟩, hb⟩
      replace NX := Lib.hid (NX.out.below hb)
      replace NY := Lib.hid (NY.out.below hb)
      replace AX := Lib.hid (AX.out.below hb)
      replace AY := Lib.hid (AY.out.below hb)
      have A := Lib.hid (ho.mono F2.out.size)
      replace F2 := Lib.hid (F2.out.trans (hb.mono F2.out.size))
      clear hb
      go_wp2_with fail
      refine (TD.out _ _ _ NX.out NY.out).mono ?_
      rintro e w6 ⟨⟨v2, rfl, ho⟩, hb⟩
      replace NX := Lib.hid (NX.out.below hb)
      replace NY := Lib.hid (NY.out.below hb)
      replace AX := Lib.hid (AX.out.below hb)
      replace AY := Lib.hid (AY.out.below hb)
      replace A := Lib.hid (A.out.below hb)
      have C := Lib.hid (ho.mono F2.out.size)
      replace F2 := Lib.hid (F2.out.trans (hb.mono F2.out.size))
      clear hb
      obtain ⟨x1, m1, d1, rfl, -, o⟩ := A.out.slice
      replace A := Lib.hid o
      clear o
      obtain ⟨x2, m2, d2, rfl, -, o⟩ := C.out.slice
      replace C := Lib.hid o
      clear o
      clear SD TD NX NY AX AY
      go_wp2_with fail
      refine (same_any _ _ _ _ _ _ Q Q _ A.out.reads C.out.reads true (by simp)).mono ?_
      rintro e w7 ⟨rfl, hb⟩
      replace A := Lib.hid (A.out.below hb)
      replace C := Lib.hid (C.out.below hb)
      replace F2 := Lib.hid (F2.out.trans (hb.mono F2.out.size))
      clear hb
      go_wp2_with fail
      refine (kept_any w4 _ w4.heap.size w7.heap.size 1 23 [.slice x1 m1 d1] g0 n b0 a c l TX.out HX.out (F2.out.alloc F2.out.size _) (Nat.le_refl _) rfl (by decide) (fun _ => KeptI.start (fun v hv => by
          obtain rfl := List.mem_singleton.1 hv
          exact ⟨_, A.out⟩)) (Apart.one _) _ (.inl ⟨by decide, rfl⟩)).mono ?_
      rintro e wk0 ⟨rfl, hb⟩
      have FK := Lib.hid hb
      clear hb
      go_wp2_with fail
      refine (kept_any w4 wk0 w4.heap.size 0 0 0 [] g1 n' b1 a' c' l' TY.out HY.out FK.out (Nat.le_refl _) rfl (by decide) (fun h => absurd h (by decide)) Apart.none _ (.inr ⟨rfl, rfl⟩)).mono ?_
      rintro e wk1 ⟨rfl, hb⟩
      go_wp2
      go_ret
      exact ⟨rfl, F.out.trans (hb.mono F.out.size)⟩

end Go.Proofs.Ytcnpgebjjknheaa
