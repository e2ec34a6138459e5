/-
  HOUR: A GENERAL TEXT BY ITS FOURTEEN DIGITS AND ITS PARTS OF A SECOND (pure).
-/
import Derived.Test.YtholkbgkkfndhaaDoorHourT2c
namespace Go.Proofs.YtholkbgkkfndhaaDoor
open Go.RowKit
set_option maxRecDepth 100000

/-- A text, by its parts: what it must be, read off. -/
theorem text_reads {n : Nat} {s : List UInt8} (h : IsText n s) (hn : n ≤ 253402300799999) :
    DigH (s.take 14) ∧ 15 ≤ s.length ∧ s[s.length - 1]? = some 90 ∧ ∃ r, GoodH (valH (s.take 14)) r ∧ n = timeH (valH (s.take 14)) r ∧
      ((s.length = 15 ∧ r = 0) ∨ (s[14]? = some 46 ∧ ∃ k m, PartH r k m ∧ s.length = 16 + k ∧ (s.take (s.length - 1)).drop 15 = pdN k m)) := by
  obtain ⟨a, r, g, rfl, rfl⟩ := text_good h hn
  have l14 := pdN_length 14 a
  have ht : (pdN 14 a ++ fracN r ++ [90]).take 14 = pdN 14 a := by
    rw [List.append_assoc, List.take_left' l14]
  have hv : valH (pdN 14 a) = a := by rw [val_pd, Nat.mod_eq_of_lt (by have := g.1; omega)]
  have hlen : (pdN 14 a ++ fracN r ++ [90]).length = 15 + (fracN r).length := by
    rw [List.length_append, List.length_append, l14]; simp; omega
  rw [ht, hv, hlen]
  refine ⟨dig_pd _ _, by omega, ?_, r, g, rfl, ?_⟩
  · rw [List.getElem?_append_right (by rw [List.length_append, l14]; omega), List.length_append, l14, show 15 + (fracN r).length - 1 - (14 + (fracN r).length) = 0 by omega]
    rfl
  · by_cases h0 : r = 0
    · left
      subst h0
      exact ⟨rfl, rfl⟩
    · right
      obtain ⟨k, m, p⟩ := part_there r h0 g.2.2.2.2.2
      have lk := pdN_length k m
      rw [p.frac]
      refine ⟨?_, k, m, p, by rw [List.length_cons, lk]; omega, ?_⟩
      · rw [List.append_assoc, List.getElem?_append_right (by omega), l14]
        rfl
      · have e : pdN 14 a ++ 46 :: pdN k m ++ [90] = (pdN 14 a ++ [46]) ++ (pdN k m ++ [90]) := by simp
        rw [List.length_cons, lk, e, show 15 + (k + 1) - 1 = 15 + k by omega]
        have l15 : (pdN 14 a ++ [46]).length = 15 := by rw [List.length_append, l14]; rfl
        rw [List.take_append, l15, List.take_of_length_le (by omega), show 15 + k - 15 = k by omega, List.take_left' lk, List.drop_left' l15]

theorem good_bare {s : List UInt8} (hd : DigH (s.take 14)) (hl : s.length = 15) (hz : s[14]? = some 90) (g : GoodH (valH (s.take 14)) 0) : IsText (timeH (valH (s.take 14)) 0) s ∧ timeH (valH (s.take 14)) 0 ≤ 253402300799999 := by
  have h := g.text
  have e : pdN 14 (valH (s.take 14)) ++ fracN 0 ++ [90] = s := by
    have h1 := pd_val _ hd
    rw [List.length_take, hl, Nat.min_eq_left (by decide)] at h1
    rw [h1]
    show s.take 14 ++ [] ++ [90] = s
    rw [List.append_nil]
    conv => rhs; rw [← List.take_append_drop 14 s]
    congr 1
    obtain ⟨hlt, hc⟩ := List.getElem?_eq_some_iff.1 hz
    rw [List.drop_eq_getElem_cons hlt, hc, List.drop_eq_nil_of_le (by omega)]
  rw [e] at h
  exact ⟨h.2, h.1⟩

theorem good_part {s : List UInt8} {k m r : Nat} (hd : DigH (s.take 14)) (hl : s.length = 16 + k) (hp : s[14]? = some 46) (hz : s[s.length - 1]? = some 90) (hf : DigH ((s.take (s.length - 1)).drop 15)) (hm : m = valH ((s.take (s.length - 1)).drop 15)) (p : PartH r k m) (g : GoodH (valH (s.take 14)) r) :
    IsText (timeH (valH (s.take 14)) r) s ∧ timeH (valH (s.take 14)) r ≤ 253402300799999 := by
  have h := g.text
  have e : pdN 14 (valH (s.take 14)) ++ fracN r ++ [90] = s := by
    have h1 := pd_val _ hd
    rw [List.length_take, hl, Nat.min_eq_left (by omega)] at h1
    have h2 := pd_val _ hf
    rw [List.length_drop, List.length_take, hl, ← hl, ← hm] at h2
    rw [show min (s.length - 1) s.length - 15 = k by omega] at h2
    rw [h1, p.frac, h2]
    have e1 : s = s.take 14 ++ (46 :: ((s.take (s.length - 1)).drop 15 ++ [90])) := by
      conv => lhs; rw [← List.take_append_drop 14 s]
      congr 1
      obtain ⟨hlt, hc⟩ := List.getElem?_eq_some_iff.1 hp
      rw [List.drop_eq_getElem_cons hlt, hc]
      congr 1
      have e2 : s = s.take (s.length - 1) ++ [90] := by
        conv => lhs; rw [← List.take_append_drop (s.length - 1) s]
        congr 1
        obtain ⟨hlt, hc⟩ := List.getElem?_eq_some_iff.1 hz
        rw [List.drop_eq_getElem_cons hlt, hc, List.drop_eq_nil_of_le (by omega)]
      conv => lhs; rw [e2]
      rw [List.drop_append_of_le_length (by rw [List.length_take]; omega)]
    conv => rhs; rw [e1]
    simp
  rw [e] at h
  exact ⟨h.2, h.1⟩
end Go.Proofs.YtholkbgkkfndhaaDoor
