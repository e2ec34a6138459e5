/-
  SHIFTED AND UNSHIFTED: NUMBERS. No walk stands here.
-/
import Derived.Test.YtebfoalcmnpghaaDivN
namespace Go.Proofs.Ytebfoalcmnpghaa
open Go.RowKit

theorem unsh_step {u lj s c B : Nat} (hs : 0 < s) (hB : B = s * c) (hB0 : 0 < B) (hl : lj < B) : ((u % B) * B + lj) / s % B + B * (u / s) = (lj + B * u) / s := by
  have h1 : u % B % s = u % s := by rw [hB]; exact Nat.mod_mul_right_mod u s c
  have h2 := Nat.mod_add_div u s
  have h3 := Nat.mod_add_div (u % B) s
  rw [h1] at h3
  generalize ha : u / s = a at *
  generalize hb : u % s = b at *
  generalize he : (u % B) / s = e at *
  have hbs : b < s := by rw [← hb]; exact Nat.mod_lt _ hs
  have e1 : (u % B) * B + lj = s * (e * B) + (b * B + lj) := by rw [← h3, Nat.add_mul, Nat.mul_assoc]; omega
  have e2 : lj + B * u = s * (B * a) + (b * B + lj) := by
    rw [← h2, Nat.mul_add, Nat.mul_comm B b, Nat.mul_left_comm B s a]; omega
  rw [e1, e2, Nat.mul_add_div hs, Nat.mul_add_div hs]
  have h4 : (b * B + lj) / s < B := by
    rw [Nat.div_lt_iff_lt_mul hs]
    have : (b + 1) * B ≤ s * B := Nat.mul_le_mul_right _ hbs
    rw [Nat.add_mul, Nat.one_mul] at this
    rw [Nat.mul_comm B s]
    omega
  rw [Nat.mul_comm e B, Nat.mul_add_mod, Nat.mod_eq_of_lt h4]
  omega

/-- Unshifting: the limbs from k on are done. -/
structure Unsh (l O : List Nat) (n k hi : Nat) : Prop where
  len : O.length = l.length
  lim : Lim O
  val : val32 (O.drop k) = val32 (l.drop k) / 2 ^ n
  top : hi % 4294967296 = l[k]?.getD 0
  low : ∀ j, j < k → O[j]?.getD 0 = 0

theorem unsh_start {l O : List Nat} {n : Nat} (h : O = List.replicate l.length 0) : Unsh l O n l.length 0 := by
  subst h
  exact ⟨by simp, fun x hx => by rw [List.eq_of_mem_replicate hx]; decide, by rw [List.drop_of_length_le (by simp), List.drop_of_length_le (Nat.le_refl _)]; simp [val32, valB], by rw [List.getElem?_eq_none (Nat.le_refl _)]; rfl, fun j hj => by simp [hj]⟩

theorem two_pow_dvd {n : Nat} (hn : n < 32) : 4294967296 = 2 ^ n * 2 ^ (32 - n) := by rw [← Nat.pow_add, show n + (32 - n) = 32 by omega]

theorem unsh_next {l O : List Nat} {n k hi : Nat} (h : Unsh l O n (k + 1) hi) (hl : Lim l) (hn : n < 32) (hk : k < l.length) :
    Unsh l (O.set k (((hi % 4294967296) * 4294967296 + l[k]?.getD 0) / 2 ^ n % 4294967296)) n k ((hi % 4294967296) * 4294967296 + l[k]?.getD 0) := by
  obtain ⟨h1, h2, h3, h4, h5⟩ := h
  have hx := lim_get hl k
  refine ⟨by simp [h1], mem_set h2 (Nat.mod_lt _ (by decide)), ?_, by rw [Nat.mul_add_mod_self_right]; exact Nat.mod_eq_of_lt hx, fun j hj => by rw [getD_set _ _ _ _ (by omega), if_neg (by omega)]; exact h5 j (by omega)⟩
  have e1 : (O.set k (((hi % 4294967296) * 4294967296 + l[k]?.getD 0) / 2 ^ n % 4294967296)).drop k = ((hi % 4294967296) * 4294967296 + l[k]?.getD 0) / 2 ^ n % 4294967296 :: O.drop (k + 1) := by
    rw [List.drop_set, if_neg (by omega), Nat.sub_self, List.drop_eq_getElem_cons (by omega), List.set_cons_zero]
  have e2 : l.drop k = (l[k]?.getD 0) :: l.drop (k + 1) := by
    rw [List.drop_eq_getElem_cons hk, List.getElem?_eq_getElem hk]; rfl
  rw [e1, e2]
  simp only [val32] at *
  show _ + 4294967296 * valB 4294967296 (O.drop (k + 1)) = (l[k]?.getD 0 + 4294967296 * valB 4294967296 (l.drop (k + 1))) / 2 ^ n
  rw [h3]
  have h6 : hi % 4294967296 = valB 4294967296 (l.drop (k + 1)) % 4294967296 := by
    have := valB_get (b := 4294967296) (by decide) (l := l.drop (k + 1)) (fun x hx => hl x (List.mem_of_mem_drop hx)) 0
    rw [List.getElem?_drop, Nat.add_zero, Nat.pow_zero, Nat.div_one] at this
    rw [h4, this]
  rw [h6]
  exact unsh_step (Nat.pow_pos (by decide)) (two_pow_dvd hn) (by decide) hx

theorem unsh_fin {l O : List Nat} {n hi : Nat} (h : Unsh l O n 0 hi) : val32 O = val32 l / 2 ^ n := by
  have := h.val
  rwa [List.drop_zero, List.drop_zero] at this

/-- How far a limb is shifted: its highest bit is 1 then. -/
theorem lead_bound {x : Nat} (h0 : 0 < x) (hx : x < 4294967296) : bitsN x ≤ 32 ∧ 1 ≤ bitsN x ∧ 2147483648 ≤ x * 2 ^ (32 - bitsN x) ∧ x * 2 ^ (32 - bitsN x) < 4294967296 := by
  have h1 := (bitsN_le x 32).2 hx
  have h2 : 1 ≤ bitsN x := by
    apply Decidable.byContradiction
    intro h
    have := (bitsN_le x 0).1 (by omega)
    omega
  refine ⟨h1, h2, ?_, ?_⟩
  · have h3 : ¬ x < 2 ^ (bitsN x - 1) := fun h => by have := (bitsN_le x (bitsN x - 1)).2 h; omega
    have h4 : 2 ^ (bitsN x - 1) * 2 ^ (32 - bitsN x) ≤ x * 2 ^ (32 - bitsN x) := Nat.mul_le_mul_right _ (by omega)
    rw [← Nat.pow_add, show bitsN x - 1 + (32 - bitsN x) = 31 by omega] at h4
    exact h4
  · have h3 := (bitsN_le x (bitsN x)).1 (Nat.le_refl _)
    have h4 : x * 2 ^ (32 - bitsN x) < 2 ^ bitsN x * 2 ^ (32 - bitsN x) := Nat.mul_lt_mul_of_pos_right h3 (Nat.pow_pos (by decide))
    rw [← Nat.pow_add, show bitsN x + (32 - bitsN x) = 32 by omega] at h4
    exact h4

end Go.Proofs.Ytebfoalcmnpghaa
