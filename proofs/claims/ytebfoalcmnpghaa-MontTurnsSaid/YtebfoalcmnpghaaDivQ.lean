/-
  A DIVISION's START AND END, IN NUMBERS. No walk stands here.
-/
import Derived.Test.YtebfoalcmnpghaaDivP
namespace Go.Proofs.Ytebfoalcmnpghaa
open Go.RowKit

theorem top_limb {Y k : Nat} (hk : (nat32 Y).length = k + 1) : 4294967296 ^ k ≤ Y ∧ Y < 4294967296 ^ (k + 1) ∧ 0 < (nat32 Y)[k]?.getD 0 ∧ (nat32 Y)[k]?.getD 0 < 4294967296 ∧ ((nat32 Y)[k]?.getD 0) * 4294967296 ^ k ≤ Y ∧ Y < ((nat32 Y)[k]?.getD 0 + 1) * 4294967296 ^ k := by
  have h1 := (natB_len_lt (b := 4294967296) (by decide) Y k).1 (by show k < (nat32 Y).length; omega)
  have h2 := (natB_length (b := 4294967296) (by decide) Y (k + 1)).1 (by show (nat32 Y).length ≤ k + 1; omega)
  have hl : Lim (nat32 Y) := natB_digit (by decide) Y
  have h3 := cut_bounds (val_cut1 (nat32 Y) k hk) (val_low hl k)
  rw [show val32 (nat32 Y) = Y from natB_val (by decide) Y] at h3
  refine ⟨h1, h2, ?_, lim_get hl k, h3.1, h3.2⟩
  apply Nat.pos_of_ne_zero
  intro e
  rw [e, Nat.zero_add, Nat.one_mul] at h3
  omega

/-- The divisor, shifted. -/
theorem norm_by {Y k n : Nat} {O : List Nat} (hk : (nat32 Y).length = k + 1) (hn : n + bitsN ((nat32 Y)[k]?.getD 0) = 32) (hO : O.length = k + 1 + 1) (hL : Lim O) (hv : val32 O = Y * 2 ^ n) :
    n < 32 ∧ val32 (O.take (k + 1)) = Y * 2 ^ n ∧ 4294967296 ≤ 2 * ((O.take (k + 1))[k]?.getD 0) := by
  obtain ⟨h1, h2, h3, h4, h5, h6⟩ := top_limb hk
  generalize (nat32 Y)[k]?.getD 0 = y at *
  obtain ⟨b1, b2, b3, b4⟩ := lead_bound h3 h4
  obtain rfl : n = 32 - bitsN y := by omega
  generalize hnn : 32 - bitsN y = n at *
  have hn32 : n < 32 := by omega
  have hp : 0 < 2 ^ n := Nat.pow_pos (by decide)
  have h7 : (y + 1) * 2 ^ n ≤ 4294967296 := by
    have e := two_pow_dvd hn32
    rw [e] at b4 ⊢
    rw [Nat.mul_comm (y + 1)]
    rw [Nat.mul_comm y] at b4
    exact Nat.mul_le_mul_left _ (Nat.lt_of_mul_lt_mul_left b4)
  have h8 : Y * 2 ^ n < 4294967296 ^ (k + 1) := by
    have e1 : Y * 2 ^ n < (y + 1) * 4294967296 ^ k * 2 ^ n := Nat.mul_lt_mul_of_pos_right h6 hp
    rw [Nat.mul_right_comm] at e1
    have e2 : (y + 1) * 2 ^ n * 4294967296 ^ k ≤ 4294967296 * 4294967296 ^ k := Nat.mul_le_mul_right _ h7
    rw [Nat.pow_succ, Nat.mul_comm (4294967296 ^ k)]
    exact Nat.lt_of_lt_of_le e1 e2
  have h9 : 2147483648 * 4294967296 ^ k ≤ Y * 2 ^ n := by
    have e1 : y * 4294967296 ^ k * 2 ^ n ≤ Y * 2 ^ n := Nat.mul_le_mul_right _ h5
    rw [Nat.mul_right_comm] at e1
    exact Nat.le_trans (Nat.mul_le_mul_right _ b3) e1
  have hlt : val32 (O.take (k + 1)) = Y * 2 ^ n := by
    simp only [val32] at *
    rw [valB_take (by decide) hL, hv, Nat.mod_eq_of_lt h8]
  refine ⟨hn32, hlt, ?_⟩
  have hLt : Lim (O.take (k + 1)) := fun x hx => hL x (List.mem_of_mem_take hx)
  have hg := valB_get (b := 4294967296) (by decide) hLt k
  have hd : 2147483648 ≤ val32 (O.take (k + 1)) / 4294967296 ^ k := by
    rw [hlt, Nat.le_div_iff_mul_le (Nat.pow_pos (by decide))]
    exact h9
  have hd2 : val32 (O.take (k + 1)) / 4294967296 ^ k < 4294967296 := by
    rw [hlt]
    exact Nat.div_lt_of_lt_mul (by rw [← Nat.pow_succ]; exact h8)
  simp only [val32] at *
  rw [hg, Nat.mod_eq_of_lt hd2]
  omega

theorem norm_start {X Y k n p m : Nat} {O : List Nat} (hk : (nat32 Y).length = k + 1) (hp : (nat32 X).length = p) (hm : m + (k + 1) = p + 1) (hO : O.length = p + 1) (hL : Lim O) (hv : val32 O = X * 2 ^ n) : Places (X * 2 ^ n) (Y * 2 ^ n) (k + 1) m O (List.replicate m 0) m := by
  refine places_start hL (by omega) hv ?_
  obtain ⟨h1, _⟩ := top_limb hk
  have h2 := (natB_length (b := 4294967296) (by decide) X p).1 (by show (nat32 X).length ≤ p; omega)
  have h3 : X < 4294967296 ^ m * Y := by
    refine Nat.lt_of_lt_of_le h2 ?_
    rw [show p = m + k by omega, Nat.pow_add]
    exact Nat.mul_le_mul_left _ h1
  rw [← Nat.mul_assoc]
  exact Nat.mul_lt_mul_of_pos_right h3 (Nat.pow_pos (by decide))

theorem norm_end {X Y k n m : Nat} {L Q : List Nat} (h : Places (X * 2 ^ n) (Y * 2 ^ n) (k + 1) m L Q 0) : val32 Q = X / Y ∧ val32 (L.take (k + 1)) / 2 ^ n = X % Y := by
  have h1 := h.fin
  have hp : 0 < 2 ^ n := Nat.pow_pos (by decide)
  rw [Nat.mul_div_mul_right _ _ hp, Nat.mul_mod_mul_right] at h1
  exact ⟨h1.1, by rw [h1.2, Nat.mul_div_cancel _ hp]⟩

theorem limbs_le {X Y p k : Nat} (hp : (nat32 X).length = p) (hk : (nat32 Y).length = k + 1) (h : Y ≤ X) : k + 1 ≤ p := by
  obtain ⟨h1, _⟩ := top_limb hk
  have := (natB_len_lt (b := 4294967296) (by decide) X k).2 (Nat.le_trans h1 h)
  have e : k < (nat32 X).length := this
  omega

end Go.Proofs.Ytebfoalcmnpghaa
