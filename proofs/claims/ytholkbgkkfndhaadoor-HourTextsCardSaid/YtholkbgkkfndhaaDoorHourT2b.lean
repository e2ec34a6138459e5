/-
  HOUR: A GENERAL TEXT BY ITS FOURTEEN DIGITS AND ITS PARTS OF A SECOND (pure).
-/
import Derived.Test.YtholkbgkkfndhaaDoorHourT2
namespace Go.Proofs.YtholkbgkkfndhaaDoor
open Go.RowKit
set_option maxRecDepth 100000

/-! ### parts of a second -/
theorem frac1 (n : Nat) (h : n < 10) (h0 : n % 10 ≠ 0) : fracN (n * 100) = 46 :: pdN 1 n := by
  have h1 : ((List.range 10).all fun n => n % 10 == 0 || fracN (n * 100) == 46 :: pdN 1 n) = true := by kernel_rfl
  have h2 := List.all_eq_true.1 h1 n (List.mem_range.2 h)
  simpa [h0] using h2
theorem frac2 (n : Nat) (h : n < 100) (h0 : n % 10 ≠ 0) : fracN (n * 10) = 46 :: pdN 2 n := by
  have h1 : ((List.range 100).all fun n => n % 10 == 0 || fracN (n * 10) == 46 :: pdN 2 n) = true := by kernel_rfl
  have h2 := List.all_eq_true.1 h1 n (List.mem_range.2 h)
  simpa [h0] using h2
theorem frac3 (n : Nat) (h : n < 1000) (h0 : n % 10 ≠ 0) : fracN n = 46 :: pdN 3 n := by
  have h1 : ((List.range 1000).all fun n => n % 10 == 0 || fracN n == 46 :: pdN 3 n) = true := by kernel_rfl
  have h2 := List.all_eq_true.1 h1 n (List.mem_range.2 h)
  simpa [h0] using h2
/-- Parts of a second, but for none. -/
def PartH (r k n : Nat) : Prop := 1 ≤ k ∧ k ≤ 3 ∧ n < 10 ^ k ∧ n % 10 ≠ 0 ∧ r = n * 10 ^ (3 - k)
theorem PartH.frac {r k n : Nat} (h : PartH r k n) : fracN r = 46 :: pdN k n := by
  obtain ⟨h1, h2, h3, h4, rfl⟩ := h
  rcases (show k = 1 ∨ k = 2 ∨ k = 3 by omega) with rfl | rfl | rfl
  · exact frac1 n (by simpa using h3) h4
  · exact frac2 n (by simpa using h3) h4
  · simpa using frac3 n (by simpa using h3) h4
theorem PartH.small {r k n : Nat} (h : PartH r k n) : 0 < r ∧ r < 1000 := by
  obtain ⟨h1, h2, h3, h4, rfl⟩ := h
  rcases (show k = 1 ∨ k = 2 ∨ k = 3 by omega) with rfl | rfl | rfl <;> simp at h3 ⊢ <;> omega
theorem part_there (r : Nat) (h0 : r ≠ 0) (h : r < 1000) : ∃ k n, PartH r k n := by
  by_cases h1 : r % 10 = 0
  · by_cases h2 : r % 100 = 0
    · exact ⟨1, r / 100, by omega, by omega, by simp; omega, by omega, by simp; omega⟩
    · exact ⟨2, r / 10, by omega, by omega, by simp; omega, by omega, by simp; omega⟩
  · exact ⟨3, r, by omega, by omega, by simpa using h, h1, by simp⟩

end Go.Proofs.YtholkbgkkfndhaaDoor
