/-
  OID: NUMERALS AND THEIR VALUES (pure).
-/
import Derived.Test.YtojphfkiblhhiaaDoorOidJ
namespace Go.Proofs.YtojphfkiblhhiaaDoor
open Go.RowKit
set_option maxRecDepth 100000

/-- A text of digits as a number. -/
def valD (w : List UInt8) : Nat := w.foldl (fun a c => 10 * a + (c.toNat - 48)) 0
def DigD (w : List UInt8) : Prop := ∀ c ∈ w, 48 ≤ c.toNat ∧ c.toNat ≤ 57
theorem valD_snoc (w : List UInt8) (c : UInt8) : valD (w ++ [c]) = 10 * valD w + (c.toNat - 48) := by
  unfold valD
  rw [List.foldl_append]
  rfl
theorem byte_back (c : UInt8) (h1 : 48 ≤ c.toNat) : UInt8.ofNat (48 + (c.toNat - 48)) = c := by
  rw [show 48 + (c.toNat - 48) = c.toNat by omega]
  exact UInt8.ofNat_toNat

theorem dec_val_rev : ∀ (r : List UInt8), r ≠ [] → DigD r.reverse → (1 < r.length → r.reverse[0]? ≠ some 48) → Lib.decDigits (valD r.reverse) = r.reverse
  | [], h, _, _ => absurd rfl h
  | [c], _, hd, _ => by
    have hc := hd c (by simp)
    show Lib.decDigits (valD ([] ++ [c])) = [c]
    rw [valD_snoc]
    show Lib.decDigits (10 * 0 + (c.toNat - 48)) = [c]
    rw [Nat.mul_zero, Nat.zero_add, dec_short _ (by omega), byte_back c hc.1]
  | c :: d :: r, _, hd, h0 => by
    have hc := hd c (by simp)
    have hu : Lib.decDigits (valD (d :: r).reverse) = (d :: r).reverse := dec_val_rev (d :: r) (by simp) (fun x hx => hd x (by rw [List.reverse_cons]; exact List.mem_append_left _ hx)) (fun hl he => h0 (by simp) (by
      rw [List.reverse_cons, List.getElem?_append_left (by simp)]
      exact he))
    rw [List.reverse_cons, valD_snoc]
    generalize hU : (d :: r).reverse = u at *
    have hu0 : u ≠ [] := fun e => by rw [e] at hU; simp at hU
    have hv : valD u ≠ 0 := fun e => by
      rw [e, dec_short 0 (by decide)] at hu
      refine h0 (by simp) ?_
      rw [List.reverse_cons, hU, ← hu]
      rfl
    rw [dec_step _ (by omega), show (10 * valD u + (c.toNat - 48)) / 10 = valD u by omega, show (10 * valD u + (c.toNat - 48)) % 10 = c.toNat - 48 by omega, hu, byte_back c hc.1]

theorem dec_val (w : List UInt8) (h : w ≠ []) (hd : DigD w) (h0 : 1 < w.length → w[0]? ≠ some 48) : Lib.decDigits (valD w) = w := by
  have := dec_val_rev w.reverse (by simpa using h) (by rwa [List.reverse_reverse]) (by rw [List.length_reverse, List.reverse_reverse]; exact h0)
  rwa [List.reverse_reverse] at this

theorem val_dec (n : Nat) : valD (Lib.decDigits n) = n := by
  induction n using Nat.strongRecOn with
  | ind n ih =>
    by_cases h : n < 10
    · rw [dec_short n h]
      show 10 * 0 + ((UInt8.ofNat (48 + n)).toNat - 48) = n
      rw [byte_digit n h]
      omega
    · rw [dec_step n (by omega), valD_snoc, ih (n / 10) (by omega), byte_digit _ (by omega)]
      omega
theorem dec_head (n : Nat) (h : 10 ≤ n) : (Lib.decDigits n)[0]? ≠ some 48 := by
  induction n using Nat.strongRecOn with
  | ind n ih =>
    rw [dec_step n h]
    by_cases h1 : n / 10 < 10
    · rw [dec_short _ h1]
      intro e
      have e2 := congrArg (Option.map UInt8.toNat) e
      simp only [List.cons_append, List.getElem?_cons_zero, Option.map_some, Option.some.injEq] at e2
      rw [byte_digit _ h1] at e2
      have : (48 : UInt8).toNat = 48 := rfl
      omega
    · have hl : 0 < (Lib.decDigits (n / 10)).length := by
        cases h9 : Lib.decDigits (n / 10) with
        | nil => exact absurd h9 (dec_some _)
        | cons _ _ => simp
      rw [List.getElem?_append_left hl]
      exact ih (n / 10) (by omega) (by omega)
theorem dec_length : ∀ (k n : Nat), n < 10 ^ (k + 1) → (Lib.decDigits n).length ≤ k + 1
  | 0, n, h => by rw [dec_short n (by simpa using h)]; simp
  | k + 1, n, h => by
    by_cases h1 : n < 10
    · rw [dec_short n h1]; simp
    · rw [dec_step n (by omega), List.length_append]
      have := dec_length k (n / 10) (by rw [Nat.pow_succ] at h; omega)
      simp
      omega

/-- What a text is that spells a number as it must be. -/
def SpelD (w : List UInt8) (n : Nat) : Prop := n < 9223372036854775808 ∧ w = Lib.decDigits n
theorem spelD_iff (w : List UInt8) : (∃ n, SpelD w n) ↔ w ≠ [] ∧ w.length ≤ 19 ∧ (1 < w.length → w[0]? ≠ some 48) ∧ DigD w ∧ valD w < 9223372036854775808 := by
  constructor
  · rintro ⟨n, hn, rfl⟩
    refine ⟨dec_some n, dec_length 18 n (Nat.lt_trans hn (by decide)), fun h => ?_, dec_range n, by rw [val_dec]; exact hn⟩
    by_cases h10 : n < 10
    · rw [dec_short n h10] at h; simp at h
    · exact dec_head n (by omega)
  · rintro ⟨h1, h2, h3, h4, h5⟩
    exact ⟨valD w, h5, (dec_val w h1 h4 h3).symm⟩
end Go.Proofs.YtojphfkiblhhiaaDoor
