/-
  ROOTS, IN NUMBERS: how they rise. No walk stands here.
-/
import Derived.Test.YtfeajcgcjpngkaaPriM
namespace Go.Proofs.Ytfeajcgcjpngkaa
open Go.RowKit

theorem IsRoot.mono {k X Y r s : Nat} (h : IsRoot k X r) (j : IsRoot k Y s) (hXY : X ≤ Y) : r ≤ s := by
  refine Nat.le_of_not_lt fun hlt => ?_
  have h1 := Nat.pow_le_pow_left (show s + 1 ≤ r by omega) k
  have h2 := h.1
  have h3 := j.2
  omega
theorem rootN_mono {k X Y : Nat} (hk : 1 ≤ k) (h : X ≤ Y) : rootN k X ≤ rootN k Y := (rootN_is X hk).mono (rootN_is Y hk) h
theorem rootN_next {k : Nat} (X : Nat) (hk : 1 ≤ k) : rootN k (X + 1) = rootN k X ∨ rootN k (X + 1) = rootN k X + 1 := by
  have h1 := rootN_mono (X := X) (Y := X + 1) hk (by omega)
  have h2 : rootN k (X + 1) ≤ rootN k X + 1 := by
    refine Nat.le_of_not_lt fun hlt => ?_
    have h3 := (rootN_is X hk).2
    have h4 := (rootN_is (X + 1) hk).1
    have h5 := Nat.pow_le_pow_left (show rootN k X + 2 ≤ rootN k (X + 1) by omega) k
    have h6 := Nat.pow_lt_pow_left (show rootN k X + 1 < rootN k X + 2 by omega) (show k ≠ 0 by omega)
    omega
  omega
theorem rootN_pow {k : Nat} (X : Nat) (hk : 1 ≤ k) : rootN k (X ^ k) = X := (rootN_eq hk ⟨Nat.le_refl _, Nat.pow_lt_pow_left (Nat.lt_succ_self X) (by omega)⟩).symm
theorem rootN_whole {k : Nat} (M m : Nat) (hk : 1 ≤ k) : rootN k (M ^ k * 2 ^ (k * m)) = M * 2 ^ m := by
  rw [Nat.mul_comm k m, Nat.pow_mul, ← Nat.mul_pow, rootN_pow _ hk]
theorem rootN_shift {k : Nat} (N m d : Nat) (hk : 1 ≤ k) : rootN k (N * 2 ^ (k * (m + d))) / 2 ^ d = rootN k (N * 2 ^ (k * m)) := by
  have hT : 0 < 2 ^ d := Nat.pow_pos (by decide)
  have hTk : 0 < (2 ^ d) ^ k := Nat.pow_pos hT
  have e : N * 2 ^ (k * (m + d)) = N * 2 ^ (k * m) * (2 ^ d) ^ k := by
    rw [Nat.mul_add, Nat.pow_add, ← Nat.pow_mul, Nat.mul_comm d k, Nat.mul_assoc]
  rw [e]
  generalize N * 2 ^ (k * m) = M
  have h := rootN_is (M * (2 ^ d) ^ k) hk
  refine rootN_eq hk ⟨?_, ?_⟩
  · have h1 := Nat.pow_le_pow_left (Nat.div_mul_le_self (rootN k (M * (2 ^ d) ^ k)) (2 ^ d)) k
    rw [Nat.mul_pow] at h1
    exact Nat.le_of_mul_le_mul_right (Nat.le_trans h1 h.1) hTk
  · have h2 := Nat.lt_div_mul_add (a := rootN k (M * (2 ^ d) ^ k)) hT
    have h1 := Nat.pow_le_pow_left (show rootN k (M * (2 ^ d) ^ k) + 1 ≤ (rootN k (M * (2 ^ d) ^ k) / 2 ^ d + 1) * 2 ^ d by rw [Nat.add_mul, Nat.one_mul]; omega) k
    rw [Nat.mul_pow] at h1
    exact Nat.lt_of_mul_lt_mul_right (Nat.lt_of_lt_of_le h.2 h1)
theorem frac_few {k : Nat} (N m d : Nat) (hk : 1 ≤ k) : rootN k (N * 2 ^ (k * (m + d))) % 2 ^ (m + d) / 2 ^ d = rootN k (N * 2 ^ (k * m)) % 2 ^ m := by
  rw [Nat.add_comm m d, Nat.pow_add, Nat.mod_mul_right_div_self, Nat.add_comm d m, rootN_shift N m d hk]
theorem frac_whole {k : Nat} (M m : Nat) (hk : 1 ≤ k) : rootN k (M ^ k * 2 ^ (k * m)) % 2 ^ m = 0 := by
  rw [rootN_whole M m hk, Nat.mul_mod_left]

end Go.Proofs.Ytfeajcgcjpngkaa
