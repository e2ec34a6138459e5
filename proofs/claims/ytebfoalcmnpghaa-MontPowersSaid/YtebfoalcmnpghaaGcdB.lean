/-
  RATIO's modulus AND MulMod.
-/
import Derived.Test.YtebfoalcmnpghaaGcdA
namespace Go.Proofs.Ytebfoalcmnpghaa
open Go.RowKit

/-- The least number that is no modulus. -/
def topM : Nat := 4294967296 ^ 128
theorem topM_sq : topM * topM = topN := by unfold topM topN; rw [← Nat.pow_add]
theorem topM_pos : 0 < topM := by unfold topM; exact Nat.pow_pos (by decide)
theorem topM_le : topM ≤ topN := by rw [← topM_sq]; exact Nat.le_mul_of_pos_right _ topM_pos

set_option maxHeartbeats 400000 in
theorem modulus_ok (x : Value) (X : Nat) (w : World) (hx : NatAt w x X) (hX : X < topM) :
    Calls Try.prog 63 #[x] w fun e w' => (∃ v, e = .returned (.tuple #[v, .int .i64 0]) ∧ OwnQ .u32 41 w.heap.size w' v (nat32 X)) ∧ Below w.heap.size w w' := by
  have HT := Lib.hid (trim_ok hx (Nat.lt_of_lt_of_le hX topM_le))
  have HX := Lib.hid hX
  clear hx hX
  go_enter Try.func63, Try.ntmps63
  go_wp2_with fail
  refine HT.out.mono ?_
  rintro e w1 ⟨⟨v1, rfl, ho1⟩, hb1⟩
  obtain ⟨a1, n1, c1, rfl, hn1, ho1⟩ := ho1.slice
  have hle := (own_short (k := 128) ho1).2 HX.out
  have hd : decide ((128 : Int) < (n1 : Int)) = false := by simp; omega
  have O1 := Lib.hid ho1
  have B1 := Lib.hid hb1
  clear ho1 hb1 hn1
  go_wp2_with fail
  go_ret2
  exact ⟨⟨_, rfl, O1.out⟩, B1.out⟩

set_option maxHeartbeats 400000 in
theorem modulus_no (x : Value) (X : Nat) (w : World) (hx : NatAt w x X) (hX : ¬ X < topM) :
    Calls Try.prog 63 #[x] w fun e w' => (∃ v, e = .returned (.tuple #[v, .int .i64 20])) ∧ Below w.heap.size w w' := by
  by_cases hN : X < topN
  · have HT := Lib.hid (trim_ok hx hN)
    have HX := Lib.hid hX
    clear hx hX hN
    go_enter Try.func63, Try.ntmps63
    go_wp2_with fail
    refine HT.out.mono ?_
    rintro e w1 ⟨⟨v1, rfl, ho1⟩, hb1⟩
    obtain ⟨a1, n1, c1, rfl, hn1, ho1⟩ := ho1.slice
    have hle := mt (own_short (k := 128) ho1).1 HX.out
    have hd : decide ((128 : Int) < (n1 : Int)) = true := by simp; omega
    have B1 := Lib.hid hb1
    clear ho1 hb1 hn1
    go_wp2_with fail
    go_ret2
    exact ⟨⟨_, rfl⟩, B1.out⟩
  · have HT := Lib.hid (trim_no hx hN)
    clear hx hX hN
    go_enter Try.func63, Try.ntmps63
    go_wp2_with fail
    refine HT.out.mono ?_
    rintro e w1 ⟨⟨v1, rfl⟩, hb1⟩
    have B1 := Lib.hid hb1
    clear hb1
    go_wp2_with fail
    go_ret2
    exact ⟨⟨_, rfl⟩, B1.out⟩

def mulModR (x y m : Nat) : List Nat × Int := if m < topM ∧ x < topN ∧ y < topN then (if m = 0 then ([], 60) else (nat32 (x * y % m), 0)) else ([], 20)
theorem mulModR_yes {x y m : Nat} (h : m < topM) (hx : x < topN) (hy : y < topN) (h0 : 0 < m) : mulModR x y m = (nat32 (x * y % m), 0) := by unfold mulModR; rw [if_pos ⟨h, hx, hy⟩, if_neg (by omega)]
theorem mulModR_zero {x y : Nat} (hx : x < topN) (hy : y < topN) : mulModR x y 0 = ([], 60) := by unfold mulModR; rw [if_pos ⟨topM_pos, hx, hy⟩, if_pos rfl]
theorem mulModR_no {x y m : Nat} (h : ¬ (m < topM ∧ x < topN ∧ y < topN)) : mulModR x y m = ([], 20) := if_neg h

theorem modR_yes {x y : Nat} (h : x < topN) (k : y < topN) (h0 : 0 < y) : modR x y = (nat32 (x % y), 0) := by unfold modR; rw [divR_yes h k h0]
theorem modR_no {x y : Nat} (h : ¬ (x < topN ∧ y < topN)) : modR x y = ([], 20) := by unfold modR; rw [divR_no h]
theorem modR_zero {x : Nat} (h : x < topN) : modR x 0 = ([], 60) := by unfold modR; rw [divR_zero h]

set_option maxHeartbeats 1000000 in
theorem mulMod_any (x y m : Value) (X Y M : Nat) (w : World) (hx : NatAt w x X) (hy : NatAt w y Y) (hm : NatAt w m M) :
    Calls Try.prog 32 #[x, y, m] w fun e w' => RetsQ2 .u32 41 w.heap.size w' (mulModR X Y M) e ∧ Below w.heap.size w w' := by
  have NX := Lib.hid hx
  have NY := Lib.hid hy
  have NM := Lib.hid hm
  clear hx hy hm
  by_cases hM : M < topM
  · by_cases hY : Y < topN
    · have HM := Lib.hid hM
      have HY := Lib.hid hY
      have HMN := Lib.hid (Nat.lt_of_lt_of_le hM topM_le)
      by_cases hX : X < topN
      · have HX := Lib.hid hX
        clear hM hY hX
        rcases Nat.eq_zero_or_pos M with h0 | h0
        · have hr := Lib.hid (show mulModR X Y M = ([], 60) by rw [h0]; exact mulModR_zero HX.out HY.out)
          have hmd := Lib.hid (show modR X M = ([], 60) by rw [h0]; exact modR_zero HX.out)
          clear h0
          go_enter Try.func32, Try.ntmps32
          go_wp2_with fail
          refine (modulus_ok m M w NM.out HM.out).mono ?_
          rintro e w1 ⟨⟨v1, rfl, ho1⟩, hb1⟩
          have N1 := Lib.hid (natAt_own ho1)
          have B1 := Lib.hid hb1
          have NX1 := Lib.hid (NX.out.below hb1)
          have NY1 := Lib.hid (NY.out.below hb1)
          clear ho1 hb1
          go_wp2_with fail
          refine (trim_ok NY1.out HY.out).mono ?_
          rintro e w2 ⟨⟨v2, rfl, ho2⟩, hb2⟩
          have N2 := Lib.hid (N1.out.below hb2)
          have NX2 := Lib.hid (NX1.out.below hb2)
          have B2 := Lib.hid (B1.out.trans (hb2.mono B1.out.size))
          clear ho2 hb2
          go_wp2_with fail
          refine (mod_any _ _ _ _ _ NX2.out N2.out).mono ?_
          rintro e w3 ⟨hr3, hb3⟩
          rw [hmd.out] at hr3
          obtain ⟨v3, rfl, -⟩ := hr3
          have B3 := Lib.hid (B2.out.trans (hb3.mono B2.out.size))
          clear hb3
          go_wp2_with fail
          go_ret2
          exact ⟨⟨_, by rw [hr.out]; rfl, by rw [hr.out]; exact ownNil _ _ _⟩, B3.out⟩
        · have hr := Lib.hid (mulModR_yes (x := X) (y := Y) HM.out HX.out HY.out h0)
          have H0 := Lib.hid h0
          have hx2 := Lib.hid (Nat.lt_trans (Nat.mod_lt X h0) HMN.out)
          have hy2 := Lib.hid (Nat.lt_trans (Nat.mod_lt Y h0) HMN.out)
          have hp := Lib.hid (show X % M * (Y % M) < topN by
            rw [← topM_sq]
            exact Nat.mul_lt_mul'' (Nat.lt_trans (Nat.mod_lt X h0) HM.out) (Nat.lt_trans (Nat.mod_lt Y h0) HM.out))
          clear h0
          go_enter Try.func32, Try.ntmps32
          go_wp2_with fail
          refine (modulus_ok m M w NM.out HM.out).mono ?_
          rintro e w1 ⟨⟨v1, rfl, ho1⟩, hb1⟩
          have N1 := Lib.hid (natAt_own ho1)
          have B1 := Lib.hid hb1
          have NX1 := Lib.hid (NX.out.below hb1)
          have NY1 := Lib.hid (NY.out.below hb1)
          clear ho1 hb1
          go_wp2_with fail
          refine (trim_ok NY1.out HY.out).mono ?_
          rintro e w2 ⟨⟨v2, rfl, ho2⟩, hb2⟩
          have N2 := Lib.hid (N1.out.below hb2)
          have NX2 := Lib.hid (NX1.out.below hb2)
          have NY2 := Lib.hid (NY1.out.below hb2)
          have B2 := Lib.hid (B1.out.trans (hb2.mono B1.out.size))
          clear ho2 hb2
          go_wp2_with fail
          refine (mod_nat NX2.out N2.out HX.out HMN.out H0.out).mono ?_
          rintro e w3 ⟨⟨v3, rfl, ho3⟩, hb3⟩
          have P3 := Lib.hid ho3
          have N3 := Lib.hid (N2.out.below hb3)
          have NY3 := Lib.hid (NY2.out.below hb3)
          have B3 := Lib.hid (B2.out.trans (hb3.mono B2.out.size))
          clear hb3 ho3
          go_wp2_with fail
          refine (mod_nat NY3.out N3.out HY.out HMN.out H0.out).mono ?_
          rintro e w4 ⟨⟨v4, rfl, ho4⟩, hb4⟩
          have P4 := Lib.hid ho4
          have P34 := Lib.hid (P3.out.below hb4)
          have N4 := Lib.hid (N3.out.below hb4)
          have B4 := Lib.hid (B3.out.trans (hb4.mono B3.out.size))
          clear hb4 ho4
          go_wp2_with fail
          refine (mul_nat P34.out.at P4.out.at hx2.out hy2.out hp.out).mono ?_
          rintro e w5 ⟨⟨v5, rfl, ho5⟩, hb5⟩
          have P5 := Lib.hid ho5
          have N5 := Lib.hid (N4.out.below hb5)
          have B5 := Lib.hid (B4.out.trans (hb5.mono B4.out.size))
          clear hb5 ho5
          go_wp2_with fail
          refine (mod_any _ _ _ _ _ P5.out.at N5.out).mono ?_
          rintro e w6 ⟨hr6, hb6⟩
          rw [modR_yes hp.out HMN.out H0.out, ← Nat.mul_mod] at hr6
          obtain ⟨v6, rfl, ho6⟩ := hr6
          have O6 := Lib.hid ho6
          have B6 := Lib.hid (B5.out.trans (hb6.mono B5.out.size))
          clear hb6 ho6
          go_wp2_with fail
          go_ret2
          exact ⟨⟨_, by rw [hr.out]; rfl, by rw [hr.out]; exact O6.out.mono B5.out.size⟩, B6.out⟩
      · have hr := Lib.hid (mulModR_no (x := X) (y := Y) (m := M) (fun h => hX h.2.1))
        have hmd := Lib.hid (modR_no (x := X) (y := M) (fun h => hX h.1))
        clear hM hY hX
        go_enter Try.func32, Try.ntmps32
        go_wp2_with fail
        refine (modulus_ok m M w NM.out HM.out).mono ?_
        rintro e w1 ⟨⟨v1, rfl, ho1⟩, hb1⟩
        have N1 := Lib.hid (natAt_own ho1)
        have B1 := Lib.hid hb1
        have NX1 := Lib.hid (NX.out.below hb1)
        have NY1 := Lib.hid (NY.out.below hb1)
        clear ho1 hb1
        go_wp2_with fail
        refine (trim_ok NY1.out HY.out).mono ?_
        rintro e w2 ⟨⟨v2, rfl, ho2⟩, hb2⟩
        have N2 := Lib.hid (N1.out.below hb2)
        have NX2 := Lib.hid (NX1.out.below hb2)
        have B2 := Lib.hid (B1.out.trans (hb2.mono B1.out.size))
        clear ho2 hb2
        go_wp2_with fail
        refine (mod_any _ _ _ _ _ NX2.out N2.out).mono ?_
        rintro e w3 ⟨hr3, hb3⟩
        rw [hmd.out] at hr3
        obtain ⟨v3, rfl, -⟩ := hr3
        have B3 := Lib.hid (B2.out.trans (hb3.mono B2.out.size))
        clear hb3
        go_wp2_with fail
        go_ret2
        exact ⟨⟨_, by rw [hr.out]; rfl, by rw [hr.out]; exact ownNil _ _ _⟩, B3.out⟩
    · have hr := Lib.hid (mulModR_no (x := X) (y := Y) (m := M) (fun h => hY h.2.2))
      have HM := Lib.hid hM
      have HY := Lib.hid hY
      clear hM hY
      go_enter Try.func32, Try.ntmps32
      go_wp2_with fail
      refine (modulus_ok m M w NM.out HM.out).mono ?_
      rintro e w1 ⟨⟨v1, rfl, ho1⟩, hb1⟩
      have B1 := Lib.hid hb1
      have NY1 := Lib.hid (NY.out.below hb1)
      clear ho1 hb1
      go_wp2_with fail
      refine (trim_no NY1.out HY.out).mono ?_
      rintro e w2 ⟨⟨v2, rfl⟩, hb2⟩
      have B2 := Lib.hid (B1.out.trans (hb2.mono B1.out.size))
      clear hb2
      go_wp2_with fail
      go_ret2
      exact ⟨⟨_, by rw [hr.out]; rfl, by rw [hr.out]; exact ownNil _ _ _⟩, B2.out⟩
  · have hr := Lib.hid (mulModR_no (x := X) (y := Y) (m := M) (fun h => hM h.1))
    have HM := Lib.hid hM
    clear hM
    go_enter Try.func32, Try.ntmps32
    go_wp2_with fail
    refine (modulus_no m M w NM.out HM.out).mono ?_
    rintro e w1 ⟨⟨v1, rfl⟩, hb1⟩
    have B1 := Lib.hid hb1
    clear hb1
    go_wp2_with fail
    go_ret2
    exact ⟨⟨_, by rw [hr.out]; rfl, by rw [hr.out]; exact ownNil _ _ _⟩, B1.out⟩

end Go.Proofs.Ytebfoalcmnpghaa
