/-
  EUCLID's WAY TO AN INVERSE, IN NUMBERS. No walk stands here.
-/
import Derived.Test.YtebfoalcmnpghaaNatMath
namespace Go.Proofs.Ytebfoalcmnpghaa
open Go.RowKit

/-- The state: elder and rest, how often x each is (by turns less than 0). -/
structure InvI (M X E R F T : Nat) (s : Int) : Prop where
  det : E * T + R * F = M
  gcd : Nat.gcd E R = Nat.gcd M X
  two : 0 < R → 2 ≤ E
  pos : 0 < E
  elder : (M : Int) ∣ (E : Int) - s * F * X
  rest : (M : Int) ∣ (R : Int) + s * T * X
  bound : F < M

theorem inv_ring (r R q s T F X : Int) : r + -s * (q * T + F) * X = (r + R * q - s * F * X) - q * (R + s * T * X) := by
  have a1 : s * (q * T) * X = q * (s * T * X) := by ac_rfl
  have a2 : R * q = q * R := Int.mul_comm _ _
  simp only [Int.mul_add, Int.add_mul, Int.neg_mul]
  omega

theorem inv_start {M : Nat} (X : Nat) (hM : 2 ≤ M) : InvI M X M X 0 1 (-1) := ⟨by simp, rfl, fun _ => hM, by omega, by simp, ⟨0, by simp [Int.add_right_neg]⟩, by omega⟩

theorem InvI.step {M X E R F T : Nat} {s : Int} (h : InvI M X E R F T s) (hR : 0 < R) (hM : 2 ≤ M) : InvI M X R (E % R) T (E / R * T + F) (-s) := by
  obtain ⟨h1, h2, h3, h4, h5, h6, h7⟩ := h
  have hq := Nat.mod_add_div E R
  refine ⟨?_, ?_, fun hp => ?_, hR, ?_, ?_, ?_⟩
  · have e1 : R * (E / R * T) = R * (E / R) * T := (Nat.mul_assoc _ _ _).symm
    have e2 : E * T = E % R * T + R * (E / R) * T := by rw [← Nat.add_mul, hq]
    rw [Nat.mul_add, e1]
    omega
  · rw [← h2, Nat.gcd_comm R, ← Nat.gcd_rec, Nat.gcd_comm]
  · have := Nat.mod_lt E hR
    omega
  · have e : (R : Int) - -s * T * X = (R : Int) + s * T * X := by rw [Int.neg_mul, Int.neg_mul, Int.sub_neg]
    rw [e]; exact h6
  · have e : ((E % R : Nat) : Int) + -s * ((E / R * T + F : Nat) : Int) * X = ((E : Int) - s * F * X) - ((E / R : Nat) : Int) * ((R : Int) + s * T * X) := by
      have hq2 : (E : Int) = ((E % R : Nat) : Int) + (R : Int) * ((E / R : Nat) : Int) := by rw [← Int.natCast_mul, ← Int.natCast_add, hq]
      rw [hq2, Int.natCast_add, Int.natCast_mul]
      exact inv_ring _ _ _ _ _ _ _
    rw [e]
    exact Int.dvd_sub h5 (Int.dvd_mul_of_dvd_right h6)
  · have h8 := h3 hR
    have h9 : 2 * T ≤ E * T := Nat.mul_le_mul_right _ h8
    omega

theorem InvI.less {M X E R F T : Nat} {s : Int} (h : InvI M X E R F T s) : T ≤ M := by
  have h1 := h.det
  have h2 : 1 * T ≤ E * T := Nat.mul_le_mul_right _ h.pos
  omega

theorem mod_of_dvd {M a : Nat} (hM : 2 ≤ M) (h : (M : Int) ∣ 1 - (a : Int)) : a % M = 1 := by
  obtain ⟨c, hc⟩ := h
  have e : (a : Int) = 1 + (M : Int) * (-c) := by rw [Int.mul_neg, ← hc]; omega
  have h2 : (a : Int) % (M : Int) = 1 := by
    rw [e, Int.add_mul_emod_self_left]
    exact Int.emod_eq_of_lt (by omega) (by omega)
  omega

theorem InvI.fin_pos {M X F T : Nat} (h : InvI M X 1 0 F T 1) (hM : 2 ≤ M) : F < M ∧ X * F % M = 1 := by
  refine ⟨h.bound, mod_of_dvd hM ?_⟩
  have := h.elder
  rw [Int.one_mul] at this
  rw [Int.natCast_mul, Int.mul_comm (X : Int)]
  exact this

theorem InvI.fin_neg {M X F T : Nat} (h : InvI M X 1 0 F T (-1)) (hM : 2 ≤ M) : M - F < M ∧ X * (M - F) % M = 1 := by
  have hb := h.bound
  have he := h.elder
  have hF : 0 < F := by
    apply Nat.pos_of_ne_zero
    intro e
    rw [e] at he
    simp at he
    have := Int.le_of_dvd (by decide) he
    omega
  refine ⟨by omega, mod_of_dvd hM ?_⟩
  obtain ⟨c, hc⟩ := he
  refine ⟨c - X, ?_⟩
  have e1 : ((X * (M - F) : Nat) : Int) = (X : Int) * ((M : Int) - F) := by rw [Int.natCast_mul, Int.natCast_sub (by omega)]
  rw [e1, Int.mul_sub, Int.mul_sub, ← hc]
  have e2 : (-1 : Int) * F * X = -((F : Int) * X) := by rw [Int.neg_mul, Int.one_mul, Int.neg_mul]
  rw [e2, Int.mul_comm (X : Int) F, Int.mul_comm (X : Int) M]
  omega

theorem inv_uniq {M X i j : Nat} (hi : i < M) (hj : j < M) (h : X * i % M = 1) (k : X * j % M = 1) : i = j := by
  have e1 : i * (X * j) % M = i := by
    rw [Nat.mul_mod, k, Nat.mul_one, Nat.mod_mod, Nat.mod_eq_of_lt hi]
  have e2 : i * (X * j) % M = j := by
    rw [← Nat.mul_assoc, Nat.mul_comm i X, Nat.mul_mod, h, Nat.one_mul, Nat.mod_mod, Nat.mod_eq_of_lt hj]
  omega

/-- The inverse. -/
def invN (X M : Nat) : Nat := ((List.range M).find? fun i => X * i % M == 1).getD 0
theorem invN_eq {X M i : Nat} (hi : i < M) (h : X * i % M = 1) : invN X M = i := by
  unfold invN
  cases hf : (List.range M).find? fun i => X * i % M == 1 with
  | none =>
    have := List.find?_eq_none.1 hf i (List.mem_range.2 hi)
    simp [h] at this
  | some j =>
    have h1 := List.find?_some hf
    have h2 := List.mem_range.1 (List.mem_of_find?_eq_some hf)
    exact inv_uniq h2 hi (by simpa using h1) h

end Go.Proofs.Ytebfoalcmnpghaa
