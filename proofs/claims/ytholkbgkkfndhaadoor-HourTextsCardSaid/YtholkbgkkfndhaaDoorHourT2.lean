/-
  HOUR: A GENERAL TEXT BY ITS FOURTEEN DIGITS AND ITS PARTS OF A SECOND (pure).
-/
import Derived.Test.YtholkbgkkfndhaaDoorHourT1
namespace Go.Proofs.YtholkbgkkfndhaaDoor
open Go.RowKit
set_option maxRecDepth 100000

/-! ### digits -/
def valH (w : List UInt8) : Nat := w.foldl (fun a c => 10 * a + (c.toNat - 48)) 0
def DigH (w : List UInt8) : Prop := ∀ c ∈ w, 48 ≤ c.toNat ∧ c.toNat ≤ 57
theorem valH_snoc (w : List UInt8) (c : UInt8) : valH (w ++ [c]) = 10 * valH w + (c.toNat - 48) := by
  unfold valH
  rw [List.foldl_append]
  rfl
theorem valH_lt_rev : ∀ (r : List UInt8), DigH r.reverse → valH r.reverse < 10 ^ r.length
  | [], _ => by decide
  | c :: r, h => by
    have hc := h c (by simp)
    have ih := valH_lt_rev r fun x hx => h x (by rw [List.reverse_cons]; exact List.mem_append_left _ hx)
    rw [List.reverse_cons, valH_snoc, List.length_cons, Nat.pow_succ]
    omega
theorem valH_lt (w : List UInt8) (h : DigH w) : valH w < 10 ^ w.length := by
  have := valH_lt_rev w.reverse (by rwa [List.reverse_reverse])
  rwa [List.reverse_reverse, List.length_reverse] at this
theorem pd_val_rev : ∀ (r : List UInt8), DigH r.reverse → pdN r.length (valH r.reverse) = r.reverse
  | [], _ => rfl
  | c :: r, h => by
    have hc := h c (by simp)
    have ih := pd_val_rev r fun x hx => h x (by rw [List.reverse_cons]; exact List.mem_append_left _ hx)
    rw [List.reverse_cons, valH_snoc, List.length_cons, pdN, show (10 * valH r.reverse + (c.toNat - 48)) / 10 = valH r.reverse by omega, show (10 * valH r.reverse + (c.toNat - 48)) % 10 = c.toNat - 48 by omega, ih]
    congr 2
    rw [show 48 + (c.toNat - 48) = c.toNat by omega]
    exact UInt8.ofNat_toNat
theorem pd_val (w : List UInt8) (h : DigH w) : pdN w.length (valH w) = w := by
  have := pd_val_rev w.reverse (by rwa [List.reverse_reverse])
  rwa [List.reverse_reverse, List.length_reverse] at this
theorem val_pd : ∀ (k n : Nat), valH (pdN k n) = n % 10 ^ k
  | 0, n => by simp [pdN, valH, Nat.mod_one]
  | k + 1, n => by
    rw [pdN, valH_snoc, val_pd k, dig_toNat, Nat.pow_succ, Nat.mul_comm (10 ^ k) 10, Nat.mod_mul]
    omega
theorem dig_pd : ∀ (k n : Nat), DigH (pdN k n)
  | 0, _, c, hc => by cases hc
  | k + 1, n, c, hc => by
    rw [pdN, List.mem_append, List.mem_singleton] at hc
    rcases hc with hc | rfl
    · exact dig_pd k _ c hc
    · rw [dig_toNat]; omega

end Go.Proofs.YtholkbgkkfndhaaDoor
