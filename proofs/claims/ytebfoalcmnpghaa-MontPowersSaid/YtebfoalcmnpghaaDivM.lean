/-
  LONG DIVISION BY DIGITS TO A BASE: WHAT A GUESS IS WORTH. No walk stands here.
-/
import Derived.Test.YtebfoalcmnpghaaNatMath
namespace Go.Proofs.Ytebfoalcmnpghaa
open Go.RowKit

/-- From the top two digits the quotient is not guessed too small. -/
theorem guess_first {w V Q top high P : Nat} (hQ : Q * V ≤ w) (hw : w < (top + 1) * P) (hV : high * P ≤ V) (hh : 0 < high) : Q ≤ top / high := by
  rw [Nat.le_div_iff_mul_le hh]
  have h1 : Q * high * P < (top + 1) * P := by
    refine Nat.lt_of_le_of_lt ?_ hw
    rw [Nat.mul_assoc]
    exact Nat.le_trans (Nat.mul_le_mul_left _ hV) hQ
  have h2 := Nat.lt_of_mul_lt_mul_right h1
  omega

/-- A digit whose product with the divisor's two highest is above the three highest of what is left is too great. -/
theorem guess_less {w V Q v2 top3 P d : Nat} (hQ : Q * V ≤ w) (hw : w < (top3 + 1) * P) (hV : v2 * P ≤ V) (hd : top3 < d * v2) : Q < d := by
  apply Decidable.byContradiction
  intro hn
  have h1 : d ≤ Q := by omega
  have h2 : Q * v2 * P < (top3 + 1) * P := by
    refine Nat.lt_of_le_of_lt ?_ hw
    rw [Nat.mul_assoc]
    exact Nat.le_trans (Nat.mul_le_mul_left _ hV) hQ
  have h3 := Nat.lt_of_mul_lt_mul_right h2
  have h4 : d * v2 ≤ Q * v2 := Nat.mul_le_mul_right _ h1
  omega

/-- A digit that has been held against the two highest is at most one too great. -/
theorem guess_near {w V Q v2 top3 P d : Nat} (hQ : w < (Q + 1) * V) (hw : top3 * P ≤ w) (hV : V < (v2 + 1) * P) (hd : d * v2 ≤ top3) (hd2 : d ≤ v2 + 1) : d ≤ Q + 1 := by
  apply Decidable.byContradiction
  intro hn
  obtain ⟨e, rfl⟩ : ∃ e, d = e + 1 := ⟨d - 1, by omega⟩
  have h1 : (Q + 1) * V ≤ e * V := Nat.mul_le_mul_right _ (by omega)
  have h2 : e * V ≤ e * ((v2 + 1) * P) := Nat.mul_le_mul_left _ (Nat.le_of_lt hV)
  have h3 : e * (v2 + 1) ≤ top3 := by
    rw [Nat.add_mul] at hd
    rw [Nat.mul_add]
    omega
  have h4 : e * (v2 + 1) * P ≤ top3 * P := Nat.mul_le_mul_right _ h3
  rw [Nat.mul_assoc] at h4
  omega

/-- The state of the guess: digit and rest are of the top two digits by the highest one. -/
structure Guess (B top high Q d r : Nat) : Prop where
  eq : d * high + r = top
  ge : Q ≤ d
  le : d ≤ B + 1
  rest : B ≤ d → r < B

theorem guess_start {B top high hi lo Q : Nat} (hB : 2 ≤ B) (ht : top = hi * B + lo) (hlo : lo < B) (hhi : hi ≤ high) (hh : B ≤ 2 * high) (hh2 : high < B) (hQ : Q ≤ top / high) : Guess B top high Q (top / high) (top % high) := by
  refine ⟨by rw [Nat.mul_comm]; exact Nat.div_add_mod top high, hQ, ?_, fun _ => Nat.lt_trans (Nat.mod_lt _ (by omega)) hh2⟩
  have h1 : top ≤ high * B + (B - 1) := by
    rw [ht]
    have := Nat.mul_le_mul_right B hhi
    omega
  have h2 : top < (B + 2) * high := by
    rw [Nat.add_mul, Nat.mul_comm B high]
    omega
  have h3 : top / high < B + 2 := (Nat.div_lt_iff_lt_mul (by omega)).2 h2
  omega

theorem guess_step {B top high hi lo Q d r : Nat} (h : Guess B top high Q d r) (ht : top = hi * B + lo) (hlo : lo < B) (hhi : hi ≤ high) (hh : B ≤ 2 * high) (hr : r < B) (hQ : Q < d) : Guess B top high Q (d - 1) (r + high) ∧ 0 < d := by
  obtain ⟨h1, h2, h3, h4⟩ := h
  obtain ⟨e, rfl⟩ : ∃ e, d = e + 1 := ⟨d - 1, by omega⟩
  rw [Nat.add_mul, Nat.one_mul] at h1
  refine ⟨⟨by rw [Nat.add_sub_cancel]; omega, by omega, by omega, fun hB2 => ?_⟩, by omega⟩
  rw [Nat.add_sub_cancel] at hB2
  obtain rfl : e = B := by omega
  have h5 : hi * e ≤ high * e := Nat.mul_le_mul_right _ hhi
  rw [Nat.mul_comm e high] at h1
  omega

theorem guess_big {B top high Q d r : Nat} (h : Guess B top high Q d r) (hB : 1 ≤ B) (hr : B ≤ r) : d ≤ B - 1 := by
  apply Decidable.byContradiction
  intro hn
  have := h.rest (by omega)
  omega

end Go.Proofs.Ytebfoalcmnpghaa
