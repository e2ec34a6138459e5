/-
  PRIMES AND THEIR MARKS, IN NUMBERS. No walk stands here.
-/
import Derived.Test.YtpfdehjllnhllaaNatMath
namespace Go.Proofs.Ytpfdehjllnhllaa
open Go.RowKit

def PrimeN (n : Nat) : Prop := 2 ≤ n ∧ ∀ d, 2 ≤ d → d * d ≤ n → n % d ≠ 0

/-- Is there no divisor from d on, among k numbers? -/
def noDiv (n : Nat) : Nat → Nat → Bool
  | 0, _ => true
  | k + 1, d => if n < d * d then true else if n % d = 0 then false else noDiv n k (d + 1)
def isPrime (n : Nat) : Bool := decide (2 ≤ n) && noDiv n n 2
theorem noDiv_iff (n : Nat) : ∀ k d : Nat, noDiv n k d = true ↔ ∀ e, d ≤ e → e < d + k → e * e ≤ n → n % e ≠ 0 := by
  intro k
  induction k with
  | zero => exact fun d => ⟨fun _ e h1 h2 => by omega, fun _ => rfl⟩
  | succ k ih =>
    intro d
    unfold noDiv
    by_cases h1 : n < d * d
    · rw [if_pos h1]
      refine ⟨fun _ e he _ hee => ?_, fun _ => rfl⟩
      have := Nat.mul_le_mul he he
      omega
    · rw [if_neg h1]
      by_cases h2 : n % d = 0
      · rw [if_pos h2]
        exact ⟨fun h => (by cases h), fun h => absurd h2 (h d (Nat.le_refl _) (by omega) (by omega))⟩
      · rw [if_neg h2, ih]
        refine ⟨fun h e he hk hee => ?_, fun h e he hk hee => h e (by omega) (by omega) hee⟩
        rcases Nat.eq_or_lt_of_le he with rfl | hlt
        · exact h2
        · exact h e hlt (by omega) hee
theorem isPrime_iff (n : Nat) : isPrime n = true ↔ PrimeN n := by
  unfold isPrime PrimeN
  rw [Bool.and_eq_true, decide_eq_true_iff, noDiv_iff]
  refine ⟨fun ⟨a, h⟩ => ⟨a, fun d hd hdd => h d hd ?_ hdd⟩, fun ⟨a, h⟩ => ⟨a, fun d hd _ hdd => h d hd hdd⟩⟩
  have : d * 1 ≤ d * d := Nat.mul_le_mul_left _ (by omega)
  omega

theorem prime_div (n : Nat) : ∀ d, 2 ≤ d → d * d ≤ n → n % d = 0 → ∃ p, PrimeN p ∧ p * p ≤ n ∧ n % p = 0 := by
  intro d
  induction d using Nat.strongRecOn with
  | _ d ih =>
    intro h2 hd hm
    by_cases hp : PrimeN d
    · exact ⟨d, hp, hd, hm⟩
    · obtain ⟨e, he2, hee, hem⟩ : ∃ e, 2 ≤ e ∧ e * e ≤ d ∧ d % e = 0 := by
        refine Classical.byContradiction fun hc => hp ⟨h2, fun e h1 h3 h4 => hc ⟨e, h1, h3, h4⟩⟩
      have hlt : e < d := by
        have : e * 2 ≤ e * e := Nat.mul_le_mul_left _ he2
        omega
      refine ih e hlt he2 ?_ ?_
      · have : d * 1 ≤ d * d := Nat.mul_le_mul_left _ (by omega)
        omega
      · exact Nat.mod_eq_zero_of_dvd (Nat.dvd_trans (Nat.dvd_of_mod_eq_zero hem) (Nat.dvd_of_mod_eq_zero hm))
theorem not_prime {n : Nat} (h2 : 2 ≤ n) (h : ¬ PrimeN n) : ∃ p, PrimeN p ∧ p * p ≤ n ∧ n % p = 0 := by
  obtain ⟨e, he2, hee, hem⟩ : ∃ e, 2 ≤ e ∧ e * e ≤ n ∧ n % e = 0 := by
    refine Classical.byContradiction fun hc => h ⟨h2, fun e h1 h3 h4 => hc ⟨e, h1, h3, h4⟩⟩
  exact prime_div n e he2 hee hem

/-- A mark that is right ahead of the number n. -/
def MarkOk (n : Nat) (x : Nat × Nat) : Prop := PrimeN x.2 ∧ x.2 < n ∧ n ≤ x.1 ∧ x.2 * x.2 ≤ x.1 ∧ x.1 % x.2 = 0 ∧ (x.1 = x.2 * x.2 ∨ x.1 < n + x.2)
theorem MarkOk.stay {n : Nat} {x : Nat × Nat} (h : MarkOk n x) (hx : n < x.1) : MarkOk (n + 1) x := by
  obtain ⟨h1, h2, h3, h4, h5, h6⟩ := h
  exact ⟨h1, by omega, hx, h4, h5, h6.imp id (by omega)⟩
theorem MarkOk.move {n : Nat} {x : Nat × Nat} (h : MarkOk n x) (hx : x.1 = n) : MarkOk (n + 1) (x.1 + x.2, x.2) := by
  obtain ⟨h1, h2, h3, h4, h5, h6⟩ := h
  have := h1.1
  exact ⟨h1, by omega, by simp; omega, by simp; omega, by simp [h5], .inr (by simp; omega)⟩
theorem MarkOk.new {n : Nat} (h : PrimeN n) : MarkOk (n + 1) (n * n, n) := by
  have h1 := h.1
  have : n * 2 ≤ n * n := Nat.mul_le_mul_left _ h1
  exact ⟨h, by simp, by simp; omega, by simp, by simp, .inl rfl⟩
/-- All that is marked ahead of n. -/
def MarksOk (n : Nat) (L : List (Nat × Nat)) : Prop := (∀ x ∈ L, MarkOk n x) ∧ ∀ p, PrimeN p → p < n → ∃ a, (a, p) ∈ L
theorem MarksOk.hit {n : Nat} {L : List (Nat × Nat)} (h : MarksOk n L) (h2 : 2 ≤ n) : PrimeN n ↔ ∀ x ∈ L, x.1 ≠ n := by
  constructor
  · intro hp x hx e
    obtain ⟨h1, h3, _, h4, h5, _⟩ := h.1 x hx
    rw [e] at h4 h5
    exact hp.2 x.2 h1.1 h4 h5
  · intro hx
    refine Classical.byContradiction fun hp => ?_
    obtain ⟨p, h1, h3, h4⟩ := not_prime h2 hp
    have hlt : p < n := by
      have : p * 2 ≤ p * p := Nat.mul_le_mul_left _ h1.1
      have := h1.1
      omega
    obtain ⟨a, ha⟩ := h.2 p h1 hlt
    obtain ⟨_, _, g1, g2, g3, g4⟩ := h.1 _ ha
    refine hx _ ha ?_
    rcases g4 with g4 | g4
    · simp only at *; omega
    · simp only at *
      have e1 := Nat.div_add_mod a p
      have e2 := Nat.div_add_mod n p
      rw [g3] at e1
      rw [h4] at e2
      have hle : n / p ≤ a / p := Nat.div_le_div_right g1
      rcases Nat.eq_or_lt_of_le hle with e | hl
      · rw [e] at e2; omega
      · have : p * (n / p + 1) ≤ p * (a / p) := Nat.mul_le_mul_left _ hl
        rw [Nat.mul_add, Nat.mul_one] at this
        omega

/-- The primes below a number, and how many they are. -/
def primesTo (n : Nat) : List Nat := (List.range n).filter isPrime
theorem primesTo_succ (n : Nat) : primesTo (n + 1) = if isPrime n = true then primesTo n ++ [n] else primesTo n := by
  unfold primesTo
  rw [List.range_succ, List.filter_append]
  by_cases h : isPrime n = true
  · rw [if_pos h, List.filter_cons_of_pos h]; rfl
  · rw [if_neg h, List.filter_cons_of_neg h]; simp
theorem primesTo_mono (n : Nat) : ∀ k, ∃ t, primesTo (n + k) = primesTo n ++ t := by
  intro k
  induction k with
  | zero => exact ⟨[], by simp⟩
  | succ k ih =>
    obtain ⟨t, ht⟩ := ih
    rw [← Nat.add_assoc, primesTo_succ]
    split
    · exact ⟨t ++ [n + k], by rw [ht, List.append_assoc]⟩
    · exact ⟨t, ht⟩
theorem primesTo_take {n m : Nat} (h : n ≤ m) : (primesTo m).take (primesTo n).length = primesTo n := by
  obtain ⟨t, ht⟩ := primesTo_mono n (m - n)
  rw [show n + (m - n) = m by omega] at ht
  rw [ht, List.take_left']
  rfl
theorem primesTo_len {n m : Nat} (h : n ≤ m) : (primesTo n).length ≤ (primesTo m).length := by
  obtain ⟨t, ht⟩ := primesTo_mono n (m - n)
  rw [show n + (m - n) = m by omega] at ht
  rw [ht, List.length_append]
  omega

/-- How many primes there are among k numbers from n on, counted on from c. -/
def countP : Nat → Nat → Nat → Nat
  | 0, _, c => c
  | k + 1, n, c => match isPrime n with
    | true => countP k (n + 1) (c + 1)
    | false => countP k (n + 1) c
theorem countP_eq : ∀ k n, countP k n (primesTo n).length = (primesTo (n + k)).length := by
  intro k
  induction k with
  | zero => exact fun n => rfl
  | succ k ih =>
    intro n
    have e := primesTo_succ n
    unfold countP
    cases h : isPrime n with
    | true =>
      rw [if_pos h] at e
      show countP k (n + 1) ((primesTo n).length + 1) = _
      rw [show (primesTo n).length + 1 = (primesTo (n + 1)).length by rw [e]; simp, ih, show n + 1 + k = n + (k + 1) by omega]
    | false =>
      rw [if_neg (by rw [h]; decide)] at e
      show countP k (n + 1) (primesTo n).length = _
      rw [← e, ih, show n + 1 + k = n + (k + 1) by omega]
theorem count_step (n k c d m : Nat) (hm : m = n + k) (h : (primesTo n).length = c) (e : countP k n c = d) : (primesTo m).length = d := by
  subst hm
  rw [← countP_eq, h, e]
theorem thousand : (primesTo 7920).length = 1000 := by
  have h0 : (primesTo 0).length = 0 := rfl
  have h1 := count_step 0 990 0 _ 990 rfl h0 rfl
  have h2 := count_step 990 990 _ _ 1980 rfl h1 rfl
  have h3 := count_step 1980 990 _ _ 2970 rfl h2 rfl
  have h4 := count_step 2970 990 _ _ 3960 rfl h3 rfl
  have h5 := count_step 3960 990 _ _ 4950 rfl h4 rfl
  have h6 := count_step 4950 990 _ _ 5940 rfl h5 rfl
  have h7 := count_step 5940 990 _ _ 6930 rfl h6 rfl
  exact count_step 6930 990 _ 1000 7920 rfl h7 (by kernel_rfl)

end Go.Proofs.Ytpfdehjllnhllaa
