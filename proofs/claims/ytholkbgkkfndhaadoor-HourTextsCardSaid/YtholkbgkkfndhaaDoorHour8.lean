/-
  HOUR: NUMBERS' TEXTS OF SO MANY DIGITS, AND A TIME'S TEXTS, AS LISTS OF BYTES.
-/
import Derived.Lib.ItoaNum
import Derived.Lib.Repeat
import Derived.Lib.TrimByte
import Derived.Test.YtholkbgkkfndhaaDoorHour3
namespace Go.Proofs.YtholkbgkkfndhaaDoor

/-- What digits gives: noughts ahead of the numeral. -/
def padN (size n : Nat) : List UInt8 := Lib.repeatL [48] (size - (Lib.decDigits n).length) ++ Lib.decDigits n

/-- So many digits, the last ones of a number. -/
def pdN : Nat → Nat → List UInt8
  | 0, _ => []
  | k + 1, n => pdN k (n / 10) ++ [UInt8.ofNat (48 + n % 10)]

theorem pdN_length : ∀ k n, (pdN k n).length = k
  | 0, _ => rfl
  | k + 1, n => by simp [pdN, pdN_length k]

theorem pdN_zero : ∀ k, pdN k 0 = Lib.repeatL [48] k
  | 0 => rfl
  | k + 1 => by
    rw [pdN, Nat.zero_div, pdN_zero k, Lib.repeatL_add [48] k 1, Lib.repeatL_one]
    rfl

theorem decDigits_ge (n : Nat) (h : ¬ n < 10) : Lib.decDigits n = Lib.decDigits (n / 10) ++ [UInt8.ofNat (48 + n % 10)] := by
  rw [Lib.decDigits, dif_neg h]

theorem nDigits_le : ∀ k n, n < 10 ^ (k + 1) → Lib.nDigits n ≤ k + 1
  | 0, n, h => by rw [Lib.nDigits_small (by simpa using h)]; omega
  | k + 1, n, h => by
    by_cases h10 : n < 10
    · rw [Lib.nDigits_small h10]; omega
    · rw [Lib.nDigits_big h10]
      have := nDigits_le k (n / 10) (by rw [Nat.pow_succ] at h; omega)
      omega

theorem padN_eq : ∀ k n, n < 10 ^ (k + 1) → padN (k + 1) n = pdN (k + 1) n
  | k, n, h => by
    by_cases h10 : n < 10
    · have e : n / 10 = 0 := by omega
      have e2 : n % 10 = n := by omega
      rw [padN, Lib.decDigits_one h10, pdN, e, pdN_zero, e2]
      rfl
    · match k, h with
      | 0, h => exact absurd (by simpa using h) h10
      | k + 1, h =>
        have hk : n / 10 < 10 ^ (k + 1) := by rw [Nat.pow_succ] at h; omega
        have ih := padN_eq k (n / 10) hk
        rw [pdN, ← ih, padN, padN, decDigits_ge n h10, List.length_append]
        have : k + 1 + 1 - ((Lib.decDigits (n / 10)).length + 1) = k + 1 - (Lib.decDigits (n / 10)).length := by omega
        rw [show [UInt8.ofNat (48 + n % 10)].length = 1 from rfl, this, List.append_assoc]

theorem dec_len {k n : Nat} (h : n < 10 ^ (k + 1)) : (Lib.decDigits n).length ≤ k + 1 := by
  rw [Lib.decDigits_length]; exact nDigits_le k n h

/-- The part of a general text behind the seconds, ahead of the Z. -/
def fracN (r : Nat) : List UInt8 := if r = 0 then [] else 46 :: Lib.trimRightB (pdN 3 r) 48

/-- A text by its numbers. -/
def textN (y m d h mi s r : Nat) : List UInt8 := pdN 4 y ++ pdN 2 m ++ pdN 2 d ++ (pdN 2 h ++ pdN 2 mi ++ pdN 2 s) ++ fracN r ++ [90]

/-- A time's general text: its date's, and its clock's. -/
def IsText (t : Nat) (l : List UInt8) : Prop :=
  ∃ y m d : Nat, IsDate ((t / 86400000 : Nat) : Int) (y : Int) (m : Int) (d : Int) ∧ l = textN y m d (t % 86400000 / 3600000) (t % 3600000 / 60000) (t % 60000 / 1000) (t % 1000)

theorem fracN_length (r : Nat) : (fracN r).length ≤ 4 := by
  unfold fracN
  split
  · simp
  · have : (Lib.trimRightB (pdN 3 r) 48).length ≤ (pdN 3 r).length := by
      unfold Lib.trimRightB
      have := (List.dropWhile_suffix (l := (pdN 3 r).reverse) (fun x => x == 48)).length_le
      simpa using this
    rw [pdN_length] at this
    simp
    omega

end Go.Proofs.YtholkbgkkfndhaaDoor
