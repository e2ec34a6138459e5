/-
  MONTGOMERY's PRODUCT IN NUMBERS; THE INVERSE OF A LIMB. No walk stands here.
-/
import Derived.Test.YtebfoalcmnpghaaMonM
import Derived.Test.YtebfoalcmnpghaaInvM
namespace Go.Proofs.Ytebfoalcmnpghaa
open Go.RowKit

theorem mon_inv_of {M X : Nat} (hM : 2 ≤ M) (hg : Nat.gcd M X = 1) : ∀ (R E F T : Nat) (s : Int), InvI M X E R F T s → (s = 1 ∨ s = -1) → ∃ i, i < M ∧ X * i % M = 1 := by
  intro R
  induction R using Nat.strongRecOn with
  | _ R ih =>
    intro E F T s h hs
    rcases Nat.eq_zero_or_pos R with rfl | hR
    · obtain rfl : E = 1 := by rw [← hg, ← h.gcd, Nat.gcd_zero_right]
      rcases hs with rfl | rfl
      · exact ⟨F, h.fin_pos hM⟩
      · exact ⟨M - F, h.fin_neg hM⟩
    · exact ih (E % R) (Nat.mod_lt _ hR) R T _ (-s) (h.step hR hM) (by rcases hs with rfl | rfl <;> decide)
theorem mon_inv {M X : Nat} (hM : 2 ≤ M) (hg : Nat.gcd M X = 1) : invN X M < M ∧ X * invN X M % M = 1 := by
  obtain ⟨i, h1, h2⟩ := mon_inv_of hM hg _ _ _ _ _ (inv_start X hM) (.inr rfl)
  rw [invN_eq h1 h2]
  exact ⟨h1, h2⟩

/-- One limb more than all of R. -/
abbrev radix (n : Nat) : Nat := 4294967296 ^ n
theorem gcd_radix {M : Nat} (hM : M % 2 = 1) (n : Nat) : Nat.gcd M (radix n) = 1 := by
  have h2 : Nat.gcd M 2 = 1 := by rw [Nat.gcd_comm, Nat.gcd_rec, hM]; rfl
  have e : radix n = 2 ^ (32 * n) := by unfold radix; rw [Nat.pow_mul]
  rw [e]
  exact Nat.Coprime.pow_right _ h2

/-- What times R is z, modulo M. -/
def monN (n M z : Nat) : Nat := z * invN (radix n) M % M
theorem monN_lt {n M z : Nat} (hM : 0 < M) : monN n M z < M := Nat.mod_lt _ hM
theorem monN_eq {n M z r : Nat} (hM : 2 ≤ M) (ho : M % 2 = 1) (hr : r < M) (h : radix n * r % M = z % M) : r = monN n M z := by
  have hi := (mon_inv hM (gcd_radix ho n)).2
  unfold monN
  have e : z * invN (radix n) M % M = (radix n * r) * invN (radix n) M % M := by
    rw [← Nat.mod_mul_mod z, ← h, Nat.mod_mul_mod]
  rw [e, Nat.mul_right_comm, ← Nat.mod_mul_mod, hi, Nat.one_mul, Nat.mod_eq_of_lt hr]
theorem monN_mod {n M z : Nat} : monN n M (z % M) = monN n M z := by unfold monN; rw [Nat.mod_mul_mod]
theorem monN_in {n M x : Nat} (hM : 2 ≤ M) (ho : M % 2 = 1) : monN n M (x * radix n) = x % M := by
  refine (monN_eq hM ho (Nat.mod_lt _ (by omega)) ?_).symm
  rw [Nat.mul_mod_mod, Nat.mul_comm]
/-- The product of two that went in. -/
theorem monN_both {n M x y : Nat} (hM : 2 ≤ M) (ho : M % 2 = 1) : monN n M (x * radix n % M * (y * radix n % M)) = x * y * radix n % M := by
  refine (monN_eq hM ho (Nat.mod_lt _ (by omega)) ?_).symm
  rw [Nat.mul_mod_mod, ← Nat.mul_mod]
  congr 1
  ac_rfl

theorem mon_end {x m y t : List Nat} {n M X Y : Nat} (h : MonOut x m y t n) (hn : y.length = n) (hm : val32 m = M) (hx : val32 x = X) (hy : val32 y = Y) (hM : 2 ≤ M) (ho : M % 2 = 1) : val32 t % M = monN n M (X * Y) := by
  obtain ⟨K, hK⟩ := h.val
  rw [List.take_of_length_le (by omega), hm, hx, hy] at hK
  refine monN_eq hM ho (Nat.mod_lt _ (by omega)) ?_
  rw [Nat.mul_mod_mod]
  unfold radix
  rw [hK, Nat.add_mul_mod_self_left]

/-- A doubling of the bits that are right. -/
theorem limb_step {l x D V a b : Int} (h : D ∣ l * x - 1) (hV : D * D ∣ V) : D * D ∣ l * (x * (2 - l * x + V * a) + V * b) - 1 := by
  obtain ⟨c, hc⟩ := h
  obtain ⟨d, hd⟩ := hV
  refine ⟨-(c * c) + d * (l * x * a) + d * (l * b), ?_⟩
  have e : l * x = D * c + 1 := by omega
  have e1 : l * (x * (2 - l * x + V * a) + V * b) = l * x * 2 - l * x * (l * x) + V * (l * x * a) + V * (l * b) := by
    simp only [Int.mul_add, Int.mul_sub]
    have k1 : l * (x * 2) = l * x * 2 := by ac_rfl
    have k2 : l * (x * (l * x)) = l * x * (l * x) := by ac_rfl
    have k3 : l * (x * (V * a)) = V * (l * x * a) := by ac_rfl
    have k4 : l * (V * b) = V * (l * b) := by ac_rfl
    omega
  have e2 : l * x * (l * x) = D * D * (c * c) + 2 * (D * c) + 1 := by
    rw [e]
    simp only [Int.mul_add, Int.add_mul, Int.mul_one, Int.one_mul]
    have k1 : D * c * (D * c) = D * D * (c * c) := by ac_rfl
    omega
  rw [e1, e2, hd]
  simp only [Int.mul_add, Int.mul_neg]
  have k1 : D * D * d * (l * x * a) = D * D * (d * (l * x * a)) := by ac_rfl
  have k2 : D * D * d * (l * b) = D * D * (d * (l * b)) := by ac_rfl
  omega

/-- As wide as the modulus. -/
def wideN (n v : Nat) : List Nat := nat32 v ++ List.replicate (n - (nat32 v).length) 0
theorem wideN_len {n v : Nat} (h : v < radix n) : (wideN n v).length = n := by
  have := (natB_length (b := 4294967296) (by decide) v n).2 h
  unfold wideN
  simp only [List.length_append, List.length_replicate, nat32] at *
  omega
theorem wideN_lim (n v : Nat) : Lim (wideN n v) := fun x hx => by
  rcases List.mem_append.1 hx with h | h
  · exact natB_digit (by decide) _ x h
  · rw [List.eq_of_mem_replicate h]; decide
theorem wideN_val (n v : Nat) : val32 (wideN n v) = v := by
  unfold wideN val32
  rw [valB_append, valB_zeros, Nat.mul_zero, Nat.add_zero]
  exact natB_val (by decide) v
theorem wideN_uniq {n : Nat} {l : List Nat} (hL : Lim l) (hn : l.length = n) : l = wideN n (val32 l) := by
  have hv : val32 l < radix n := by rw [← hn]; exact valB_lt (by decide) hL
  have h1 := wideN_len hv
  refine List.ext_getElem (by omega) fun i h2 h3 => ?_
  have e1 := valB_get (b := 4294967296) (by decide) hL i
  have e2 := valB_get (b := 4294967296) (by decide) (wideN_lim n (val32 l)) i
  have e3 : valB 4294967296 (wideN n (val32 l)) = val32 l := wideN_val n _
  rw [e3] at e2
  have e4 : l[i]?.getD 0 = (wideN n (val32 l))[i]?.getD 0 := by rw [e1, e2]
  rw [List.getElem?_eq_getElem h2, List.getElem?_eq_getElem h3] at e4
  simpa using e4

end Go.Proofs.Ytebfoalcmnpghaa
