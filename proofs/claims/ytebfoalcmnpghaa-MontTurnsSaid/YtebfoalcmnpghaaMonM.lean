/-
  MONTGOMERY's PRODUCT BY LIMBS: THE STATES OF ITS LOOPS. No walk stands here.
-/
import Derived.Test.YtebfoalcmnpghaaDivP
namespace Go.Proofs.Ytebfoalcmnpghaa
open Go.RowKit

/-- Within a round: j + 1 limbs are through. -/
structure MonIn (x m t t' : List Nat) (y q j F S : Nat) : Prop where
  len : t'.length = t.length
  lim : Lim t'
  val : val32 (x.take (j + 1)) * y + val32 (t.take (j + 1)) + q * val32 (m.take (j + 1)) = 4294967296 * val32 (t'.take j) + 4294967296 ^ (j + 1) * (F + S)
  rest : ∀ i, j ≤ i → t'[i]?.getD 0 = t[i]?.getD 0
  first : F < 4294967296
  second : S < 4294967296

theorem two_words {a b c d : Nat} (ha : a < 4294967296) (hb : b < 4294967296) (hc : c < 4294967296) (hd : d < 4294967296) : a * b + c + d < 18446744073709551616 ∧ (a * b + c + d) / 4294967296 < 4294967296 := by
  have h : a * b ≤ 4294967295 * 4294967295 := Nat.mul_le_mul (by omega) (by omega)
  have h2 : a * b + c + d < 18446744073709551616 := by omega
  exact ⟨h2, by omega⟩

theorem val_first (l : List Nat) : val32 (l.take 1) = l[0]?.getD 0 := by
  have := valB_succ (b := 4294967296) l 0
  simp only [List.take_zero, valB, Nat.pow_zero, Nat.one_mul, Nat.zero_add] at this
  exact this

theorem monIn_start {x m t : List Nat} {y q : Nat} (hx : Lim x) (hm : Lim m) (ht : Lim t) (hy : y < 4294967296) (hq : q < 4294967296)
    (h0 : (q * (m[0]?.getD 0) + (x[0]?.getD 0 * y + t[0]?.getD 0) % 4294967296) % 4294967296 = 0) :
    MonIn x m t t y q 0 ((x[0]?.getD 0 * y + t[0]?.getD 0) / 4294967296) ((q * (m[0]?.getD 0) + (x[0]?.getD 0 * y + t[0]?.getD 0) % 4294967296) / 4294967296) := by
  have hx0 := lim_get hx 0
  have hm0 := lim_get hm 0
  have ht0 := lim_get ht 0
  have b1 := two_words hx0 hy ht0 (show 0 < 4294967296 by decide)
  have b2 := two_words hq hm0 (Nat.mod_lt (x[0]?.getD 0 * y + t[0]?.getD 0) (show 0 < 4294967296 by decide)) (show 0 < 4294967296 by decide)
  rw [Nat.add_zero] at b1 b2
  refine ⟨rfl, ht, ?_, fun _ _ => rfl, b1.2, b2.2⟩
  rw [Nat.zero_add, val_first, val_first, val_first, List.take_zero]
  simp only [val32, valB, Nat.mul_zero, Nat.pow_one, Nat.zero_add]
  have e1 := Nat.mod_add_div (x[0]?.getD 0 * y + t[0]?.getD 0) 4294967296
  have e2 := Nat.mod_add_div (q * (m[0]?.getD 0) + (x[0]?.getD 0 * y + t[0]?.getD 0) % 4294967296) 4294967296
  omega

theorem monIn_step {x m t t' : List Nat} {y q j F S : Nat} (h : MonIn x m t t' y q j F S) (hx : Lim x) (hm : Lim m) (ht : Lim t) (hy : y < 4294967296) (hq : q < 4294967296) (hj : j + 1 < t.length) :
    let f := x[j + 1]?.getD 0 * y + t'[j + 1]?.getD 0 + F
    let s := q * (m[j + 1]?.getD 0) + f % 4294967296 + S
    MonIn x m t (t'.set j (s % 4294967296)) y q (j + 1) (f / 4294967296) (s / 4294967296) ∧ f < 18446744073709551616 ∧ s < 18446744073709551616 := by
  intro f s
  obtain ⟨h1, h2, h3, h4, h5, h6⟩ := h
  have b1 := two_words (lim_get hx (j + 1)) hy (lim_get h2 (j + 1)) h5
  have b2 := two_words hq (lim_get hm (j + 1)) (Nat.mod_lt f (show 0 < 4294967296 by decide)) h6
  refine ⟨⟨by simp [h1], mem_set h2 (Nat.mod_lt _ (by decide)), ?_, fun i hi => by rw [getD_set _ _ _ _ (by omega), if_neg (by omega)]; exact h4 i (by omega), b1.2, b2.2⟩, b1.1, b2.1⟩
  have e1 := valB_succ (b := 4294967296) x (j + 1)
  have e2 := valB_succ (b := 4294967296) t (j + 1)
  have e3 := valB_succ (b := 4294967296) m (j + 1)
  have e4 := h4 (j + 1) (by omega)
  have ef := Nat.mod_add_div f 4294967296
  have es := Nat.mod_add_div s 4294967296
  rw [take_set_succ _ _ _ (by omega)]
  simp only [val32] at *
  rw [valB_snoc, List.length_take, Nat.min_eq_left (by omega), e1, e2, e3]
  have hf : f = x[j + 1]?.getD 0 * y + t[j + 1]?.getD 0 + F := by rw [← e4]
  have hs : s = q * (m[j + 1]?.getD 0) + f % 4294967296 + S := rfl
  generalize hP : 4294967296 ^ (j + 1) = P at *
  have hP2 : 4294967296 * 4294967296 ^ j = P := by rw [← hP, Nat.pow_succ, Nat.mul_comm]
  generalize f / 4294967296 = fd at *
  generalize s / 4294967296 = sd at *
  generalize f % 4294967296 = fm at *
  generalize s % 4294967296 = sm at *
  rw [Nat.add_mul, Nat.mul_add q, Nat.mul_add 4294967296, ← Nat.mul_assoc 4294967296, hP2, Nat.pow_succ, hP]
  have k1 : P * (x[j + 1]?.getD 0) * y = P * (x[j + 1]?.getD 0 * y) := Nat.mul_assoc _ _ _
  have k2 : q * (P * (m[j + 1]?.getD 0)) = P * (q * (m[j + 1]?.getD 0)) := Nat.mul_left_comm _ _ _
  have k3 : P * (x[j + 1]?.getD 0 * y) + P * (t[j + 1]?.getD 0) + P * F = P * f := by rw [← Nat.mul_add, ← Nat.mul_add, hf]
  have k4 : P * (q * (m[j + 1]?.getD 0)) + P * fm + P * S = P * s := by rw [← Nat.mul_add, ← Nat.mul_add, hs]
  have k5 : P * f = P * fm + P * 4294967296 * fd := by rw [Nat.mul_assoc, ← Nat.mul_add, ef]
  have k6 : P * s = P * sm + P * 4294967296 * sd := by rw [Nat.mul_assoc, ← Nat.mul_add, es]
  rw [k1, k2, Nat.mul_add (P * 4294967296)]
  rw [Nat.mul_add] at h3
  omega

/-- Between two rounds: i limbs of y are through. -/
structure MonOut (x m y t : List Nat) (i : Nat) : Prop where
  len : t.length = m.length + 1
  lim : Lim t
  val : ∃ K, 4294967296 ^ i * val32 t = val32 x * val32 (y.take i) + val32 m * K
  less : val32 t < 2 * val32 m

theorem monOut_start {x m y : List Nat} (hm : 0 < val32 m) : MonOut x m y (List.replicate (m.length + 1) 0) 0 :=
  ⟨by simp, fun z hz => by rw [List.eq_of_mem_replicate hz]; decide, ⟨0, by simp [val32, valB_zeros, valB]⟩, by have := hm; simp only [val32, valB_zeros] at *; omega⟩

theorem monOut_step {x m y t t' : List Nat} {i q F S k : Nat} (h : MonOut x m y t i) (hn : m.length = k + 1) (hxl : x.length = k + 1) (hin : MonIn x m t t' (y[i]?.getD 0) q k F S) (hy : Lim y) (hq : q < 4294967296) (hx : val32 x < val32 m) :
    let top := t'[k + 1]?.getD 0 + F + S
    MonOut x m y ((t'.set k (top % 4294967296)).set (k + 1) (top / 4294967296)) (i + 1) := by
  intro top
  obtain ⟨h1, h2, ⟨K, h3⟩, h4⟩ := h
  obtain ⟨i1, i2, i3, i4, i5, i6⟩ := hin
  have hyi := lim_get hy i
  have htl : t'.length = k + 2 := by omega
  have htop := i4 (k + 1) (by omega)
  have ht1 := lim_get i2 (k + 1)
  have hlt : top / 4294967296 < 4294967296 := by
    have : top < 4294967296 * 3 := by show t'[k + 1]?.getD 0 + F + S < _; omega
    omega
  have hval : val32 ((t'.set k (top % 4294967296)).set (k + 1) (top / 4294967296)) = val32 (t'.take k) + 4294967296 ^ k * top := by
    have ea : (t'.set k (top % 4294967296)).set (k + 1) (top / 4294967296) = t'.take k ++ [top % 4294967296, top / 4294967296] := by
      have e1 := take_set_succ (t'.set k (top % 4294967296)) (k + 1) (top / 4294967296) (by simp; omega)
      rw [List.take_of_length_le (by simp; omega), take_set_succ _ _ _ (by omega)] at e1
      rw [e1, List.append_assoc]
      rfl
    rw [ea]
    simp only [val32]
    rw [valB_append, List.length_take, Nat.min_eq_left (by omega)]
    simp only [valB, Nat.mul_zero, Nat.add_zero]
    rw [Nat.mod_add_div]
  have hbig : 4294967296 * val32 ((t'.set k (top % 4294967296)).set (k + 1) (top / 4294967296)) = val32 x * (y[i]?.getD 0) + val32 t + q * val32 m := by
    rw [hval]
    have e1 := val_cut1 t (k + 1) (by omega)
    have e2 : x.take (k + 1) = x := List.take_of_length_le (by omega)
    have e3 : m.take (k + 1) = m := List.take_of_length_le (by omega)
    rw [e2, e3] at i3
    rw [e1]
    have e4 : top = t[k + 1]?.getD 0 + F + S := by rw [← htop]
    rw [Nat.mul_add, ← Nat.mul_assoc, Nat.mul_comm 4294967296 (4294967296 ^ k), show 4294967296 ^ k * 4294967296 = 4294967296 ^ (k + 1) from (Nat.pow_succ ..).symm, e4]
    rw [Nat.mul_add] at i3
    rw [Nat.mul_add, Nat.mul_add]
    simp only [val32] at *
    omega
  refine ⟨by simp [i1, h1], mem_set (mem_set i2 (Nat.mod_lt _ (by decide))) hlt, ⟨K + 4294967296 ^ i * q, ?_⟩, ?_⟩
  · have e5 := valB_succ (b := 4294967296) y i
    rw [Nat.pow_succ, Nat.mul_assoc, hbig]
    simp only [val32] at *
    rw [e5, Nat.mul_add, Nat.mul_add, h3, Nat.mul_add, Nat.mul_add]
    have c1 : 4294967296 ^ i * (valB 4294967296 x * (y[i]?.getD 0)) = valB 4294967296 x * (4294967296 ^ i * (y[i]?.getD 0)) := Nat.mul_left_comm _ _ _
    have c2 : 4294967296 ^ i * (q * valB 4294967296 m) = valB 4294967296 m * (4294967296 ^ i * q) := by rw [Nat.mul_comm q, Nat.mul_left_comm]
    rw [c1, c2]
    omega
  · have d1 : val32 x * (y[i]?.getD 0) ≤ val32 m * 4294967295 := Nat.mul_le_mul (Nat.le_of_lt hx) (by omega)
    have d2 : q * val32 m ≤ 4294967295 * val32 m := Nat.mul_le_mul_right _ (by omega)
    omega

/-- What is left is taken off once, if it can be. -/
theorem mon_less {t m L : List Nat} {b k : Nat} (hm : m.length = k) (ht : t.length = k + 1) (hl : Lim t) (hlm : Lim m) (hL : Lim L) (hLl : L.length = k) (hlt : val32 t < 2 * val32 m) (hb : b ≤ 1) (hv : val32 L + val32 m = val32 (t.take k) + 4294967296 ^ k * b) :
    (t[k]?.getD 0 < b → val32 (t.take k) = val32 t % val32 m) ∧ (¬ t[k]?.getD 0 < b → val32 L = val32 t % val32 m) := by
  have e1 := val_cut1 t k ht
  have hL2 := valB_lt (b := 4294967296) (by decide) hL
  have hm2 := valB_lt (b := 4294967296) (by decide) hlm
  have ht2 := val_low hl k
  rw [hLl] at hL2
  rw [hm] at hm2
  simp only [val32] at *
  generalize 4294967296 ^ k = P at *
  constructor
  · intro h
    have h0 : t[k]?.getD 0 = 0 := by omega
    have h1 : b = 1 := by omega
    rw [h0, Nat.mul_zero, Nat.add_zero] at e1
    rw [h1, Nat.mul_one] at hv
    rw [e1, Nat.mod_eq_of_lt (by omega)]
  · intro h
    have h2 : valB 4294967296 L + valB 4294967296 m = valB 4294967296 t := by
      rcases Nat.eq_zero_or_pos (t[k]?.getD 0) with h0 | h0
      · have : b = 0 := by omega
        rw [h0, Nat.mul_zero] at e1
        rw [this, Nat.mul_zero] at hv
        omega
      · have hc : t[k]?.getD 0 = 1 := by
          apply Decidable.byContradiction
          intro hn
          have : P * 2 ≤ P * (t[k]?.getD 0) := Nat.mul_le_mul_left _ (by omega)
          omega
        rw [hc, Nat.mul_one] at e1
        rcases Nat.eq_zero_or_pos b with hb0 | hb0
        · rw [hb0, Nat.mul_zero] at hv
          omega
        · have : b = 1 := by omega
          rw [this, Nat.mul_one] at hv
          omega
    rw [← h2, Nat.add_mod_right, Nat.mod_eq_of_lt (by omega)]

end Go.Proofs.Ytebfoalcmnpghaa
