/-
  HOUR: A GENERAL TEXT BY ITS FOURTEEN DIGITS AND ITS PARTS OF A SECOND (pure).
-/
import Derived.Test.YtholkbgkkfndhaaDoorHourT2b
namespace Go.Proofs.YtholkbgkkfndhaaDoor
open Go.RowKit
set_option maxRecDepth 100000

/-! ### texts -/
/-- What a text's digits must be. -/
def GoodH (a r : Nat) : Prop := a < 100000000000000 ∧ DateOk ((a / 10000000000 : Nat) : Int) ((a / 100000000 % 100 : Nat) : Int) ((a / 1000000 % 100 : Nat) : Int) ∧ a / 10000 % 100 ≤ 23 ∧ a / 100 % 100 ≤ 59 ∧ a % 100 ≤ 59 ∧ r < 1000
/-- The time of such ones. -/
def timeH (a r : Nat) : Nat := (numN ((a / 10000000000 : Nat) : Int) ((a / 100000000 % 100 : Nat) : Int) ((a / 1000000 % 100 : Nat) : Int)).toNat * 86400000 + (3600 * (a / 10000 % 100) + 60 * (a / 100 % 100) + a % 100) * 1000 + r

theorem div_chain (a : Nat) : a / 10000 = a / 100 / 100 ∧ a / 1000000 = a / 100 / 100 / 100 ∧ a / 100000000 = a / 100 / 100 / 100 / 100 ∧ a / 10000000000 = a / 100 / 100 / 100 / 100 / 100 := by
  refine ⟨?_, ?_, ?_, ?_⟩ <;> simp only [Nat.div_div_eq_div_mul]
theorem numT_of {a y m d h mi s : Nat} (h1 : a / 10000000000 = y) (h2 : a / 100000000 % 100 = m) (h3 : a / 1000000 % 100 = d) (h4 : a / 10000 % 100 = h) (h5 : a / 100 % 100 = mi) (h6 : a % 100 = s) : a = numT y m d h mi s := by
  obtain ⟨c1, c2, c3, c4⟩ := div_chain a
  rw [c1] at h4
  rw [c2] at h3
  rw [c3] at h2
  rw [c4] at h1
  clear c1 c2 c3 c4
  unfold numT
  generalize hb : a / 100 = b at *
  generalize hc : b / 100 = c at *
  generalize hd : c / 100 = dd at *
  generalize he : dd / 100 = ee at *
  generalize hf : ee / 100 = ff at *
  have k5 : ee = y * 100 + m := by omega
  have k4 : dd = (y * 100 + m) * 100 + d := by omega
  rw [← k5] at k4 ⊢
  have k3 : c = (ee * 100 + d) * 100 + h := by omega
  rw [← k4] at k3 ⊢
  have k2 : b = (dd * 100 + h) * 100 + mi := by omega
  rw [← k3] at k2 ⊢
  omega
theorem numT_parts {y m d h mi s : Nat} (hm : m < 100) (hd : d < 100) (hh : h < 100) (hmi : mi < 100) (hs : s < 100) : numT y m d h mi s / 10000000000 = y ∧ numT y m d h mi s / 100000000 % 100 = m ∧ numT y m d h mi s / 1000000 % 100 = d ∧ numT y m d h mi s / 10000 % 100 = h ∧ numT y m d h mi s / 100 % 100 = mi ∧ numT y m d h mi s % 100 = s := by
  obtain ⟨c1, c2, c3, c4⟩ := div_chain (numT y m d h mi s)
  rw [c1, c2, c3, c4]
  unfold numT
  generalize hk1 : y * 100 + m = k1
  generalize hk2 : k1 * 100 + d = k2
  generalize hk3 : k2 * 100 + h = k3
  generalize hk4 : k3 * 100 + mi = k4
  have e1 : (k4 * 100 + s) / 100 = k4 := by omega
  have e2 : k4 / 100 = k3 := by omega
  have e3 : k3 / 100 = k2 := by omega
  have e4 : k2 / 100 = k1 := by omega
  rw [e1, e2, e3, e4]
  refine ⟨by omega, by omega, by omega, by omega, by omega, by omega⟩
theorem numT_top {y m d h mi s : Nat} (hy : y ≤ 9999) (hm : m < 100) (hd : d < 100) (hh : h < 100) (hmi : mi < 100) (hs : s < 100) : numT y m d h mi s < 100000000000000 := by
  unfold numT
  omega

theorem text_digits {y m d h mi s r : Nat} (hm : m < 100) (hd : d < 100) (hh : h < 100) (hmi : mi < 100) (hs : s < 100) : textN y m d h mi s r = pdN 14 (numT y m d h mi s) ++ fracN r ++ [90] := by
  have h0 := text_whole (y := y) hm hd hh hmi hs
  have e : textN y m d h mi s 0 = (pdN 4 y ++ pdN 2 m ++ pdN 2 d ++ (pdN 2 h ++ pdN 2 mi ++ pdN 2 s)) ++ [90] := by
    simp only [textN, fracN, if_true, List.append_nil]
  rw [e] at h0
  have h1 := List.append_cancel_right h0
  rw [← h1]
  simp only [textN]

theorem GoodH.text {a r : Nat} (g : GoodH a r) : timeH a r ≤ 253402300799999 ∧ IsText (timeH a r) (pdN 14 a ++ fracN r ++ [90]) := by
  obtain ⟨g1, g2, g3, g4, g5, g6⟩ := g
  unfold timeH
  obtain ⟨y, hy⟩ : ∃ y, a / 10000000000 = y := ⟨_, rfl⟩
  obtain ⟨m, hm⟩ : ∃ m, a / 100000000 % 100 = m := ⟨_, rfl⟩
  obtain ⟨d, hd⟩ : ∃ d, a / 1000000 % 100 = d := ⟨_, rfl⟩
  obtain ⟨h, hh⟩ : ∃ h, a / 10000 % 100 = h := ⟨_, rfl⟩
  obtain ⟨mi, hmi⟩ : ∃ mi, a / 100 % 100 = mi := ⟨_, rfl⟩
  obtain ⟨s, hs⟩ : ∃ s, a % 100 = s := ⟨_, rfl⟩
  have ha : a = numT y m d h mi s := numT_of hy hm hd hh hmi hs
  rw [hy, hm, hd] at g2 ⊢
  rw [hh] at g3 ⊢
  rw [hmi] at g4 ⊢
  rw [hs] at g5 ⊢
  clear hy hm hd hh hmi hs
  obtain ⟨d1, d2, d3, d4, d5, d6⟩ := g2
  have hl := (longN_ge (y : Int) (m : Int)).2
  have hr := num_range (y : Int) (m : Int) (d : Int) d1 d2 d3 d4 d5 (by omega)
  obtain ⟨D, hD⟩ : ∃ D : Nat, numN (y : Int) (m : Int) (d : Int) = (D : Int) := ⟨(numN (y : Int) (m : Int) (d : Int)).toNat, by omega⟩
  rw [hD] at hr ⊢
  rw [Int.toNat_natCast]
  refine ⟨by omega, y, m, d, ?_, ?_⟩
  · rw [show (D * 86400000 + (3600 * h + 60 * mi + s) * 1000 + r) / 86400000 = D by omega]
    exact ⟨d1, d3, d4, d5, d6, hD⟩
  · rw [show (D * 86400000 + (3600 * h + 60 * mi + s) * 1000 + r) % 86400000 / 3600000 = h by omega, show (D * 86400000 + (3600 * h + 60 * mi + s) * 1000 + r) % 3600000 / 60000 = mi by omega, show (D * 86400000 + (3600 * h + 60 * mi + s) * 1000 + r) % 60000 / 1000 = s by omega, show (D * 86400000 + (3600 * h + 60 * mi + s) * 1000 + r) % 1000 = r by omega, ha]
    exact (text_digits (by omega) (by omega) (by omega) (by omega) (by omega)).symm

theorem text_good {n : Nat} {l : List UInt8} (h : IsText n l) (hn : n ≤ 253402300799999) : ∃ a r, GoodH a r ∧ l = pdN 14 a ++ fracN r ++ [90] ∧ n = timeH a r := by
  obtain ⟨y, m, d, c, rfl⟩ := clock_of h hn
  have hy := c.year
  have hmd := c.small
  have ho := c.ok
  have hdt := c.date.2.2.2.2.2
  have e := c.eq
  have b1 := c.bh
  have b2 := c.bm
  have b3 := c.bs
  have b4 := c.br
  generalize n % 86400000 / 3600000 = hh at *
  generalize n % 3600000 / 60000 = mi at *
  generalize n % 60000 / 1000 = s at *
  generalize n % 1000 = r at *
  obtain ⟨a, ha⟩ : ∃ a, a = numT y m d hh mi s := ⟨_, rfl⟩
  have hP := numT_parts (y := y) (m := m) (d := d) (h := hh) (mi := mi) (s := s) (by omega) (by omega) (by omega) (by omega) (by omega)
  have hTop := numT_top (y := y) (m := m) (d := d) (h := hh) (mi := mi) (s := s) (by omega) (by omega) (by omega) (by omega) (by omega) (by omega)
  rw [← ha] at hP hTop
  obtain ⟨e1, e2, e3, e4, e5, e6⟩ := hP
  refine ⟨a, r, ⟨hTop, by rw [e1, e2, e3]; exact ho, by omega, by omega, by omega, b4⟩, ?_, ?_⟩
  · rw [ha]
    exact text_digits (by omega) (by omega) (by omega) (by omega) (by omega)
  · unfold timeH
    rw [e1, e2, e3, e4, e5, e6, hdt, Int.toNat_natCast]
    have k : (3600 * hh + 60 * mi + s) * 1000 = hh * 3600000 + mi * 60000 + s * 1000 := by clear e; omega
    rw [k]
    clear k e1 e2 e3 e4 e5 e6 ha hTop hdt ho hmd hy b1 b2 b3 b4
    simpa only [Nat.add_assoc] using e

end Go.Proofs.YtholkbgkkfndhaaDoor
