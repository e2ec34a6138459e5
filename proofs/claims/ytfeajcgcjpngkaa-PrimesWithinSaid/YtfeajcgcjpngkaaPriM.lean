/-
  ROOTS, IN NUMBERS. No walk stands here.
-/
import Derived.Test.YtfeajcgcjpngkaaNatMath
namespace Go.Proofs.Ytfeajcgcjpngkaa
open Go.RowKit

/-- The greatest that fits. -/
def IsRoot (k X r : Nat) : Prop := r ^ k ≤ X ∧ X < (r + 1) ^ k
theorem IsRoot.uniq {k X r s : Nat} (h : IsRoot k X r) (j : IsRoot k X s) : r = s := by
  have key : ∀ a b : Nat, a ^ k ≤ X → X < (b + 1) ^ k → a ≤ b := by
    intro a b ha hb
    refine Nat.le_of_not_lt fun hlt => ?_
    have := Nat.pow_le_pow_left (show b + 1 ≤ a by omega) k
    omega
  exact Nat.le_antisymm (key r s h.1 j.2) (key s r j.1 h.2)
theorem IsRoot.le {k X r : Nat} (h : IsRoot k X r) (hk : 1 ≤ k) : r ≤ X := by
  rcases Nat.eq_zero_or_pos r with rfl | hr
  · exact Nat.zero_le _
  · have : r ^ 1 ≤ r ^ k := Nat.pow_le_pow_right hr hk
    rw [Nat.pow_one] at this
    exact Nat.le_trans this h.1

/-- What is known so far: t bits are still to come. -/
def RootI (k X R t : Nat) : Prop := R ^ k ≤ X ∧ X < (R + 2 ^ t) ^ k
theorem RootI.start {k X b : Nat} (hk : 1 ≤ k) (hb : X < 2 ^ b) : RootI k X 0 (b / k + 1) := by
  refine ⟨by rw [Nat.zero_pow hk]; exact Nat.zero_le _, ?_⟩
  rw [Nat.zero_add, ← Nat.pow_mul]
  refine Nat.lt_of_lt_of_le hb (Nat.pow_le_pow_right (by decide) ?_)
  have h1 := Nat.mod_lt b hk
  have h2 := Nat.div_add_mod b k
  rw [Nat.add_mul, Nat.one_mul, Nat.mul_comm]
  omega
theorem RootI.take {k X R t : Nat} (h : RootI k X R (t + 1)) (ht : (R + 2 ^ t) ^ k ≤ X) : RootI k X (R + 2 ^ t) t := by
  refine ⟨ht, ?_⟩
  have := h.2
  rw [Nat.pow_succ] at this
  rwa [Nat.add_assoc, show 2 ^ t + 2 ^ t = 2 ^ t * 2 by omega]
theorem RootI.skip {k X R t : Nat} (h : RootI k X R (t + 1)) (ht : ¬ (R + 2 ^ t) ^ k ≤ X) : RootI k X R t := ⟨h.1, by omega⟩
theorem RootI.fin {k X R : Nat} (h : RootI k X R 0) : IsRoot k X R := ⟨h.1, by have := h.2; rwa [Nat.pow_zero] at this⟩
theorem RootI.le {k X R t : Nat} (h : RootI k X R t) (hk : 1 ≤ k) : R ≤ X := by
  rcases Nat.eq_zero_or_pos R with rfl | hr
  · exact Nat.zero_le _
  · have : R ^ 1 ≤ R ^ k := Nat.pow_le_pow_right hr hk
    rw [Nat.pow_one] at this
    exact Nat.le_trans this h.1

/-- A power that is too great is greater than what fits. -/
theorem pow_over {R X T j k : Nat} (hX : X < T) (h : ¬ R ^ j * R < T) (hjk : j + 1 ≤ k) : ¬ R ^ k ≤ X := by
  intro h2
  rcases Nat.eq_zero_or_pos R with rfl | hr
  · simp at h; omega
  · have h3 : R ^ (j + 1) ≤ R ^ k := Nat.pow_le_pow_right hr hjk
    rw [Nat.pow_succ] at h3
    omega

theorem RootI.ex {k X : Nat} : ∀ (t R : Nat), RootI k X R t → ∃ r, IsRoot k X r := by
  intro t
  induction t with
  | zero => exact fun R h => ⟨R, h.fin⟩
  | succ t ih =>
    intro R h
    by_cases hc : (R + 2 ^ t) ^ k ≤ X
    · exact ih _ (h.take hc)
    · exact ih _ (h.skip hc)
noncomputable def rootN (k X : Nat) : Nat := @Classical.epsilon Nat ⟨0⟩ (fun r => IsRoot k X r)
theorem rootN_is {k : Nat} (X : Nat) (hk : 1 ≤ k) : IsRoot k X (rootN k X) :=
  @Classical.epsilon_spec_aux Nat ⟨0⟩ _ (RootI.ex _ _ (RootI.start (b := X) hk Nat.lt_two_pow_self))
theorem rootN_eq {k X r : Nat} (hk : 1 ≤ k) (h : IsRoot k X r) : r = rootN k X := h.uniq (rootN_is X hk)

/-- What Root answers. -/
noncomputable def rootP (X : Nat) (k : Int) : List Nat × Int := if k = 2 ∨ k = 3 then if X < topN then (nat32 (rootN k.toNat X), 0) else ([], 20) else ([], 2)
theorem rootP_bad {X : Nat} {k : Int} (h : ¬ (k = 2 ∨ k = 3)) : rootP X k = ([], 2) := if_neg h
theorem rootP_big {X : Nat} {k : Int} (h : k = 2 ∨ k = 3) (hX : ¬ X < topN) : rootP X k = ([], 20) := by unfold rootP; rw [if_pos h, if_neg hX]
theorem rootP_ok {X : Nat} {k : Int} (h : k = 2 ∨ k = 3) (hX : X < topN) : rootP X k = (nat32 (rootN k.toNat X), 0) := by unfold rootP; rw [if_pos h, if_pos hX]

theorem sum_lt_at (e : Nat) (he : 1 ≤ e) {k X R i t : Nat} (ht : t = 2 ^ e * 2 ^ e) (hX : X < t) (hk : 2 ≤ k) (h : R ^ k ≤ X) (hi : i ≤ e) : R < 2 ^ e ∧ R + 2 ^ i < t ∨ R < 2 ^ e ∧ R + 2 ^ i ≤ t := by
  have hR : R < 2 ^ e := by
    refine Nat.lt_of_not_le fun hc => ?_
    have h1 : R ^ 2 ≤ R ^ k := Nat.pow_le_pow_right (Nat.lt_of_lt_of_le (Nat.pow_pos (by decide)) hc) hk
    have h2 : 2 ^ e * 2 ^ e ≤ R * R := Nat.mul_le_mul hc hc
    rw [Nat.pow_two] at h1
    omega
  have h3 : 2 ^ i ≤ 2 ^ e := Nat.pow_le_pow_right (by decide) hi
  have h4 : 2 ^ 1 ≤ 2 ^ e := Nat.pow_le_pow_right (by decide) he
  have h5 : 2 ^ e * 2 ≤ 2 ^ e * 2 ^ e := Nat.mul_le_mul_left _ h4
  omega
theorem sum_lt_at' (e : Nat) (he : 1 ≤ e) {k X R i t : Nat} (ht : t = 2 ^ e * 2 ^ e) (hX : X < t) (hk : 2 ≤ k) (h : R ^ k ≤ X) (hi : i ≤ e) : R < 2 ^ e ∧ R + 2 ^ i < t := by
  rcases sum_lt_at e he ht hX hk h hi with h1 | h1
  · exact h1
  · refine ⟨h1.1, ?_⟩
    have h3 : 2 ^ i ≤ 2 ^ e := Nat.pow_le_pow_right (by decide) hi
    have h4 : 2 ^ 1 ≤ 2 ^ e := Nat.pow_le_pow_right (by decide) he
    have h5 : 2 ^ e * 2 ≤ 2 ^ e * 2 ^ e := Nat.mul_le_mul_left _ h4
    omega

theorem pow_below {R T j k : Nat} (h : R ^ k < T) (hjk : j + 1 ≤ k) : R ^ j * R < T := by
  rw [← Nat.pow_succ]
  rcases Nat.eq_zero_or_pos R with rfl | hr
  · rw [Nat.zero_pow (Nat.succ_pos _)]; exact Nat.lt_of_le_of_lt (Nat.zero_le _) h
  · exact Nat.lt_of_le_of_lt (Nat.pow_le_pow_right hr hjk) h
theorem pow_overT {R T j k : Nat} (hT : 0 < T) (h : ¬ R ^ j * R < T) (hjk : j + 1 ≤ k) : ¬ R ^ k < T := fun hc => h (pow_below hc hjk)
theorem sum2_lt_at (e : Nat) (he : 2 ≤ e) {k X R i t : Nat} (ht : t = 2 ^ e * 2 ^ e) (hX : X < t) (hk : 2 ≤ k) (h : R ^ k ≤ X) (hi : i ≤ e + 1) : R + 2 ^ i < t ∧ R + (R + 2 ^ i) < t ∧ 2 ^ i < t := by
  have hR : R < 2 ^ e := (sum_lt_at' e (by omega) ht hX hk h (Nat.zero_le _)).1
  have h3 : 2 ^ i ≤ 2 ^ (e + 1) := Nat.pow_le_pow_right (by decide) hi
  rw [Nat.pow_succ] at h3
  have h4 : 2 ^ 2 ≤ 2 ^ e := Nat.pow_le_pow_right (by decide) he
  have h5 : 2 ^ e * 2 ^ 2 ≤ 2 ^ e * 2 ^ e := Nat.mul_le_mul_left _ h4
  omega

/-- What Fraction answers. -/
noncomputable def fracP (A : Nat) (k n : Int) : Nat × Int := if (k = 2 ∨ k = 3) ∧ 1 ≤ n ∧ n ≤ 64 then (rootN k.toNat (A * 2 ^ (k * n).toNat) % 2 ^ n.toNat, 0) else (0, 2)
theorem fracP_bad {A : Nat} {k n : Int} (h : ¬ ((k = 2 ∨ k = 3) ∧ 1 ≤ n ∧ n ≤ 64)) : fracP A k n = (0, 2) := if_neg h
theorem fracP_ok {A : Nat} {k n p : Nat} (h : k = 2 ∨ k = 3) (h1 : 1 ≤ n) (h2 : n ≤ 64) (hp : p = k * n) : fracP A k n = (rootN k (A * 2 ^ p) % 2 ^ n, 0) := by
  unfold fracP
  rw [if_pos ⟨by omega, by omega, by omega⟩, Int.toNat_natCast, Int.toNat_natCast, show ((k : Int) * (n : Int)).toNat = p by rw [hp, ← Int.natCast_mul, Int.toNat_natCast]]
/-- The fraction's bits so far: t are still to come. -/
def FracI (r n t f : Nat) : Prop := f = r / 2 ^ t % 2 ^ (n - t)
theorem FracI.start (r n : Nat) : FracI r n n 0 := by unfold FracI; rw [Nat.sub_self, Nat.pow_zero, Nat.mod_one]
theorem FracI.fin {r n f : Nat} (h : FracI r n 0 f) : f = r % 2 ^ n := by unfold FracI at h; rwa [Nat.pow_zero, Nat.div_one, Nat.sub_zero] at h
theorem FracI.lt {r n t f : Nat} (h : FracI r n (t + 1) f) (hn : n ≤ 64) : f ≤ 9223372036854775807 := by
  unfold FracI at h
  have h1 : f < 2 ^ (n - (t + 1)) := by rw [h]; exact Nat.mod_lt _ (Nat.pow_pos (by decide))
  have h2 : 2 ^ (n - (t + 1)) ≤ 2 ^ 63 := Nat.pow_le_pow_right (by decide) (by omega)
  omega
theorem FracI.step {r n s f : Nat} (h : FracI r n (s + 1) f) (hs : s + 1 ≤ n) : FracI r n s (2 * f + r / 2 ^ s % 2) := by
  unfold FracI at *
  rw [show n - s = (n - (s + 1)) + 1 by omega, Nat.pow_succ, Nat.mul_comm _ 2, Nat.mod_mul, h, Nat.pow_succ, ← Nat.div_div_eq_div_mul]
  omega
theorem testBit_true {r s : Nat} (h : r.testBit s = true) : r / 2 ^ s % 2 = 1 := by
  rw [Nat.testBit_eq_decide_div_mod_eq] at h
  exact of_decide_eq_true h
theorem testBit_false {r s : Nat} (h : r.testBit s = false) : r / 2 ^ s % 2 = 0 := by
  rw [Nat.testBit_eq_decide_div_mod_eq] at h
  have := of_decide_eq_false h
  omega

end Go.Proofs.Ytfeajcgcjpngkaa
