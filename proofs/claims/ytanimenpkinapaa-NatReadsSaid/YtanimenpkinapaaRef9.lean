/-
  THE REFERENCE's Shr.
-/
import Derived.Test.YtanimenpkinapaaRef8
namespace Go.Proofs.Ytanimenpkinapaa
open Go.RowKit
namespace rf

def shrR (v : Nat) (n : Int) : List Nat × Int := if n < 0 then ([], 2) else if v < topN then (nat32 (v / 2 ^ n.toNat), 0) else ([], 20)

/-- The next bit is `i = n + 8 * K + s`; `K` digits are out, `acc` holds the next one's low bits. -/
def ShrG (v n b : Nat) (O : List Nat) (K s i place acc : Nat) : Prop := i = n + 8 * K + s ∧ s < 8 ∧ i < b ∧ place = 2 ^ s ∧ acc = v / 2 ^ (n + 8 * K) % 2 ^ s ∧ O.length = K ∧ Byt O ∧ valB 256 O = v / 2 ^ n % 256 ^ K
def ShrI (v n b : Nat) (O : List Nat) (i place acc : Nat) : Prop := (∃ K s, ShrG v n b O K s i place acc) ∨ (b ≤ i ∧ Byt O ∧ valB 256 O = v / 2 ^ n)

theorem pow8 (K : Nat) : (256 : Nat) ^ K = 2 ^ (8 * K) := by rw [Nat.pow_mul]
theorem shr_split (v n K : Nat) : v / 2 ^ (n + 8 * K) = v / 2 ^ n / 256 ^ K := by rw [pow8, Nat.pow_add, Nat.div_div_eq_div_mul]

theorem shrI_start {v n b : Nat} (hv : v < 2 ^ b) : ShrI v n b [] n 1 0 := by
  rcases Nat.lt_or_ge n b with h | h
  · exact .inl ⟨0, 0, by omega, by omega, h, rfl, by rw [Nat.pow_zero, Nat.mod_one], rfl, fun _ h => (by cases h), by rw [Nat.pow_zero, Nat.mod_one]; rfl⟩
  · refine .inr ⟨h, fun _ h => (by cases h), ?_⟩
    have : v < 2 ^ n := Nat.lt_of_lt_of_le hv (Nat.pow_le_pow_right (by decide) h)
    rw [Nat.div_eq_of_lt this]; rfl

theorem acc_next {v n b : Nat} {O : List Nat} {K s i place acc : Nat} (h : ShrG v n b O K s i place acc) (x : Nat) (hx : x = acc + if v.testBit i then place else 0) : x = v / 2 ^ (n + 8 * K) % 2 ^ (s + 1) := by
  obtain ⟨rfl, -, -, rfl, rfl, -⟩ := h
  rw [hx, Nat.mod_pow_succ, Nat.div_div_eq_div_mul, ← Nat.pow_add, Nat.testBit_eq_decide_div_mod_eq]
  have := Nat.mod_two_eq_zero_or_one (v / 2 ^ (n + 8 * K + s))
  rcases this with e | e <;> rw [e] <;> simp

theorem shr_push {v n b : Nat} {O : List Nat} {K s i place acc : Nat} (hv : v < 2 ^ b) (h : ShrG v n b O K s i place acc) (he : s = 7 ∨ i + 1 = b) (x : Nat) (hx : x = acc + if v.testBit i then place else 0) : x < 256 ∧ ShrI v n b (O ++ [x]) (i + 1) 1 0 := by
  have hacc := acc_next h x hx
  obtain ⟨hi, hs, hb, -, -, h5, h6, h7⟩ := h
  have h256 : 2 ^ (s + 1) ≤ 2 ^ 8 := Nat.pow_le_pow_right (by decide) (by omega)
  have hxl : x < 2 ^ (s + 1) := by rw [hacc]; exact Nat.mod_lt _ (Nat.pow_pos (by decide))
  have hx2 : x < 256 := by omega
  have hby : Byt (O ++ [x]) := fun y hy => by
    rcases List.mem_append.1 hy with h | h
    · exact h6 y h
    · obtain rfl := List.mem_singleton.1 h; exact hx2
  have hy : v / 2 ^ n < 2 ^ (b - n) := by
    rw [Nat.div_lt_iff_lt_mul (Nat.pow_pos (by decide)), ← Nat.pow_add, show b - n + n = b by omega]; exact hv
  rw [shr_split] at hacc
  generalize hyy : v / 2 ^ n = y at *
  have hval : valB 256 (O ++ [x]) = y % 256 ^ K + 256 ^ K * x := by rw [valB_snoc, h5, h7]
  refine ⟨hx2, ?_⟩
  rcases Nat.lt_or_ge (i + 1) b with hlt | hge
  · have e7 : s = 7 := by omega
    refine .inl ⟨K + 1, 0, by omega, by omega, hlt, rfl, by rw [Nat.pow_zero, Nat.mod_one], by rw [List.length_append, h5]; rfl, hby, ?_⟩
    rw [hval, hacc, e7, hyy, Nat.mod_pow_succ (b := 256)]
  · refine .inr ⟨hge, hby, ?_⟩
    have hyl : y / 256 ^ K < 2 ^ (s + 1) := by
      rw [Nat.div_lt_iff_lt_mul (Nat.pow_pos (by decide)), pow8, ← Nat.pow_add]
      exact Nat.lt_of_lt_of_le hy (Nat.pow_le_pow_right (by decide) (by omega))
    rw [hval, hacc, hyy, Nat.mod_eq_of_lt hyl, Nat.mod_add_div]

theorem shr_go {v n b : Nat} {O : List Nat} {K s i place acc : Nat} (h : ShrG v n b O K s i place acc) (hs : s < 7) (hi : i + 1 < b) (x : Nat) (hx : x = acc + if v.testBit i then place else 0) : ShrI v n b O (i + 1) (2 * place) x := by
  have hacc := acc_next h x hx
  obtain ⟨h1, h2, h3, h4, -, h5, h6, h7⟩ := h
  exact .inl ⟨K, s + 1, by omega, by omega, hi, by rw [h4, Nat.pow_succ, Nat.mul_comm], hacc, h5, h6, h7⟩

theorem shr_place {v n b : Nat} {O : List Nat} {K s i place acc : Nat} (h : ShrG v n b O K s i place acc) : (s = 7 ∧ place = 128 ∨ s < 7 ∧ place ≤ 64) ∧ acc < 256 := by
  obtain ⟨-, h2, -, h4, h5, -⟩ := h
  have hp : place ≤ 128 := by
    rw [h4]; exact Nat.pow_le_pow_right (show 0 < 2 by decide) (show s ≤ 7 by omega)
  refine ⟨?_, ?_⟩
  · rcases Nat.lt_or_ge s 7 with h | h
    · exact .inr ⟨h, by rw [h4]; exact Nat.pow_le_pow_right (show 0 < 2 by decide) (show s ≤ 6 by omega)⟩
    · exact .inl ⟨by omega, by rw [h4, show s = 7 by omega]⟩
  · have : acc < 2 ^ s := by rw [h5]; exact Nat.mod_lt _ (Nat.pow_pos (by decide))
    omega

theorem shr_len {v n b : Nat} {O : List Nat} {K s i place acc : Nat} (h : ShrG v n b O K s i place acc) : 8 * O.length ≤ b := by
  obtain ⟨h1, -, h3, -, -, h5, -⟩ := h
  omega

end rf

end Go.Proofs.Ytanimenpkinapaa
