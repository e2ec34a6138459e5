/-
  WHAT A NUMBER's BYTES ARE: as few as can be, and read as that number. Nothing of the program stands here but what the texts ahead say.
-/
import Derived.Test.YtkmphiakciihfaaDoorTrO
namespace Go.Proofs.YtkmphiakciihfaaDoor

theorem intB_pair (x y : Nat) (r : List Nat) : intB (x :: y :: r) = ((decide (x ≠ 0) && decide (x ≠ 255)) || decide (x / 128 ≠ y / 128)) := by
  unfold intB
  rw [if_neg (by simp)]
  rfl
theorem intB_one (x : Nat) : intB [x] = true := rfl

theorem pair_no (q : Int) (h : -128 ≤ q ∧ q < 128) : ((decide ((q / 256 % 256).toNat ≠ 0) && decide ((q / 256 % 256).toNat ≠ 255)) || decide ((q / 256 % 256).toNat / 128 ≠ (q % 256).toNat / 128)) = false := by
  rw [Bool.eq_false_iff]
  simp only [ne_eq, Bool.or_eq_true, Bool.and_eq_true, decide_eq_true_eq]
  omega
theorem pair_yes (q : Int) (h : -32768 ≤ q ∧ q < 32768) (h2 : ¬ (-128 ≤ q ∧ q < 128)) : ((decide ((q / 256 % 256).toNat ≠ 0) && decide ((q / 256 % 256).toNat ≠ 255)) || decide ((q / 256 % 256).toNat / 128 ≠ (q % 256).toNat / 128)) = true := by
  simp only [ne_eq, Bool.or_eq_true, Bool.and_eq_true, decide_eq_true_eq]
  omega

theorem div_2 (n : Int) : n / 256 = (n) / 256 := by omega
theorem no_2 (n : Int) (h : (-128 ≤ n ∧ n < 128)) : intB ((bytes8 n).drop 6) = false := by
  have e := pair_no (n) (by omega)
  show intB ((n / 256 % 256).toNat :: (n % 256).toNat :: _) = false
  rw [intB_pair, div_2]
  exact e
theorem yes_2 (n : Int) (h : (-32768 ≤ n ∧ n < 32768)) (h2 : ¬ (-128 ≤ n ∧ n < 128)) : intB ((bytes8 n).drop 6) = true := by
  have e := pair_yes (n) (by omega) (by omega)
  show intB ((n / 256 % 256).toNat :: (n % 256).toNat :: _) = true
  rw [intB_pair, div_2]
  exact e
theorem div_3 (n : Int) : n / 65536 = (n / 256) / 256 := by omega
theorem no_3 (n : Int) (h : (-32768 ≤ n ∧ n < 32768)) : intB ((bytes8 n).drop 5) = false := by
  have e := pair_no (n / 256) (by omega)
  show intB ((n / 65536 % 256).toNat :: (n / 256 % 256).toNat :: _) = false
  rw [intB_pair, div_3]
  exact e
theorem yes_3 (n : Int) (h : (-8388608 ≤ n ∧ n < 8388608)) (h2 : ¬ (-32768 ≤ n ∧ n < 32768)) : intB ((bytes8 n).drop 5) = true := by
  have e := pair_yes (n / 256) (by omega) (by omega)
  show intB ((n / 65536 % 256).toNat :: (n / 256 % 256).toNat :: _) = true
  rw [intB_pair, div_3]
  exact e
theorem div_4 (n : Int) : n / 16777216 = (n / 65536) / 256 := by omega
theorem no_4 (n : Int) (h : (-8388608 ≤ n ∧ n < 8388608)) : intB ((bytes8 n).drop 4) = false := by
  have e := pair_no (n / 65536) (by omega)
  show intB ((n / 16777216 % 256).toNat :: (n / 65536 % 256).toNat :: _) = false
  rw [intB_pair, div_4]
  exact e
theorem yes_4 (n : Int) (h : (-2147483648 ≤ n ∧ n < 2147483648)) (h2 : ¬ (-8388608 ≤ n ∧ n < 8388608)) : intB ((bytes8 n).drop 4) = true := by
  have e := pair_yes (n / 65536) (by omega) (by omega)
  show intB ((n / 16777216 % 256).toNat :: (n / 65536 % 256).toNat :: _) = true
  rw [intB_pair, div_4]
  exact e
theorem div_5 (n : Int) : n / 4294967296 = (n / 16777216) / 256 := by omega
theorem no_5 (n : Int) (h : (-2147483648 ≤ n ∧ n < 2147483648)) : intB ((bytes8 n).drop 3) = false := by
  have e := pair_no (n / 16777216) (by omega)
  show intB ((n / 4294967296 % 256).toNat :: (n / 16777216 % 256).toNat :: _) = false
  rw [intB_pair, div_5]
  exact e
theorem yes_5 (n : Int) (h : (-549755813888 ≤ n ∧ n < 549755813888)) (h2 : ¬ (-2147483648 ≤ n ∧ n < 2147483648)) : intB ((bytes8 n).drop 3) = true := by
  have e := pair_yes (n / 16777216) (by omega) (by omega)
  show intB ((n / 4294967296 % 256).toNat :: (n / 16777216 % 256).toNat :: _) = true
  rw [intB_pair, div_5]
  exact e
theorem div_6 (n : Int) : n / 1099511627776 = (n / 4294967296) / 256 := by omega
theorem no_6 (n : Int) (h : (-549755813888 ≤ n ∧ n < 549755813888)) : intB ((bytes8 n).drop 2) = false := by
  have e := pair_no (n / 4294967296) (by omega)
  show intB ((n / 1099511627776 % 256).toNat :: (n / 4294967296 % 256).toNat :: _) = false
  rw [intB_pair, div_6]
  exact e
theorem yes_6 (n : Int) (h : (-140737488355328 ≤ n ∧ n < 140737488355328)) (h2 : ¬ (-549755813888 ≤ n ∧ n < 549755813888)) : intB ((bytes8 n).drop 2) = true := by
  have e := pair_yes (n / 4294967296) (by omega) (by omega)
  show intB ((n / 1099511627776 % 256).toNat :: (n / 4294967296 % 256).toNat :: _) = true
  rw [intB_pair, div_6]
  exact e
theorem div_7 (n : Int) : n / 281474976710656 = (n / 1099511627776) / 256 := by omega
theorem no_7 (n : Int) (h : (-140737488355328 ≤ n ∧ n < 140737488355328)) : intB ((bytes8 n).drop 1) = false := by
  have e := pair_no (n / 1099511627776) (by omega)
  show intB ((n / 281474976710656 % 256).toNat :: (n / 1099511627776 % 256).toNat :: _) = false
  rw [intB_pair, div_7]
  exact e
theorem yes_7 (n : Int) (h : (-36028797018963968 ≤ n ∧ n < 36028797018963968)) (h2 : ¬ (-140737488355328 ≤ n ∧ n < 140737488355328)) : intB ((bytes8 n).drop 1) = true := by
  have e := pair_yes (n / 1099511627776) (by omega) (by omega)
  show intB ((n / 281474976710656 % 256).toNat :: (n / 1099511627776 % 256).toNat :: _) = true
  rw [intB_pair, div_7]
  exact e
theorem div_8 (n : Int) : n / 72057594037927936 = (n / 281474976710656) / 256 := by omega
theorem no_8 (n : Int) (h : (-36028797018963968 ≤ n ∧ n < 36028797018963968)) : intB ((bytes8 n).drop 0) = false := by
  have e := pair_no (n / 281474976710656) (by omega)
  show intB ((n / 72057594037927936 % 256).toNat :: (n / 281474976710656 % 256).toNat :: _) = false
  rw [intB_pair, div_8]
  exact e
theorem yes_8 (n : Int) (h : (-9223372036854775808 ≤ n ∧ n < 9223372036854775808)) (h2 : ¬ (-36028797018963968 ≤ n ∧ n < 36028797018963968)) : intB ((bytes8 n).drop 0) = true := by
  have e := pair_yes (n / 281474976710656) (by omega) (by omega)
  show intB ((n / 72057594037927936 % 256).toNat :: (n / 281474976710656 % 256).toNat :: _) = true
  rw [intB_pair, div_8]
  exact e
theorem yes_1 (n : Int) : intB ((bytes8 n).drop 7) = true := rfl
theorem intL_1 (n : Int) (h : (-128 ≤ n ∧ n < 128)) : intL n = (bytes8 n).drop 7 := by
  show cutI ((bytes8 n).drop 0) = _
  rw [cutI_yes (l := (bytes8 n).drop 0) (by simp [bytes8]) (no_8 n (by omega)), show ((bytes8 n).drop 0).drop 1 = (bytes8 n).drop 1 from rfl]
  rw [cutI_yes (l := (bytes8 n).drop 1) (by simp [bytes8]) (no_7 n (by omega)), show ((bytes8 n).drop 1).drop 1 = (bytes8 n).drop 2 from rfl]
  rw [cutI_yes (l := (bytes8 n).drop 2) (by simp [bytes8]) (no_6 n (by omega)), show ((bytes8 n).drop 2).drop 1 = (bytes8 n).drop 3 from rfl]
  rw [cutI_yes (l := (bytes8 n).drop 3) (by simp [bytes8]) (no_5 n (by omega)), show ((bytes8 n).drop 3).drop 1 = (bytes8 n).drop 4 from rfl]
  rw [cutI_yes (l := (bytes8 n).drop 4) (by simp [bytes8]) (no_4 n (by omega)), show ((bytes8 n).drop 4).drop 1 = (bytes8 n).drop 5 from rfl]
  rw [cutI_yes (l := (bytes8 n).drop 5) (by simp [bytes8]) (no_3 n (by omega)), show ((bytes8 n).drop 5).drop 1 = (bytes8 n).drop 6 from rfl]
  rw [cutI_yes (l := (bytes8 n).drop 6) (by simp [bytes8]) (no_2 n (by omega)), show ((bytes8 n).drop 6).drop 1 = (bytes8 n).drop 7 from rfl]
  exact cutI_no (.inr (yes_1 n))
theorem intL_2 (n : Int) (h : (-32768 ≤ n ∧ n < 32768)) (h2 : ¬ (-128 ≤ n ∧ n < 128)) : intL n = (bytes8 n).drop 6 := by
  show cutI ((bytes8 n).drop 0) = _
  rw [cutI_yes (l := (bytes8 n).drop 0) (by simp [bytes8]) (no_8 n (by omega)), show ((bytes8 n).drop 0).drop 1 = (bytes8 n).drop 1 from rfl]
  rw [cutI_yes (l := (bytes8 n).drop 1) (by simp [bytes8]) (no_7 n (by omega)), show ((bytes8 n).drop 1).drop 1 = (bytes8 n).drop 2 from rfl]
  rw [cutI_yes (l := (bytes8 n).drop 2) (by simp [bytes8]) (no_6 n (by omega)), show ((bytes8 n).drop 2).drop 1 = (bytes8 n).drop 3 from rfl]
  rw [cutI_yes (l := (bytes8 n).drop 3) (by simp [bytes8]) (no_5 n (by omega)), show ((bytes8 n).drop 3).drop 1 = (bytes8 n).drop 4 from rfl]
  rw [cutI_yes (l := (bytes8 n).drop 4) (by simp [bytes8]) (no_4 n (by omega)), show ((bytes8 n).drop 4).drop 1 = (bytes8 n).drop 5 from rfl]
  rw [cutI_yes (l := (bytes8 n).drop 5) (by simp [bytes8]) (no_3 n (by omega)), show ((bytes8 n).drop 5).drop 1 = (bytes8 n).drop 6 from rfl]
  exact cutI_no (.inr (yes_2 n h h2))
theorem intL_3 (n : Int) (h : (-8388608 ≤ n ∧ n < 8388608)) (h2 : ¬ (-32768 ≤ n ∧ n < 32768)) : intL n = (bytes8 n).drop 5 := by
  show cutI ((bytes8 n).drop 0) = _
  rw [cutI_yes (l := (bytes8 n).drop 0) (by simp [bytes8]) (no_8 n (by omega)), show ((bytes8 n).drop 0).drop 1 = (bytes8 n).drop 1 from rfl]
  rw [cutI_yes (l := (bytes8 n).drop 1) (by simp [bytes8]) (no_7 n (by omega)), show ((bytes8 n).drop 1).drop 1 = (bytes8 n).drop 2 from rfl]
  rw [cutI_yes (l := (bytes8 n).drop 2) (by simp [bytes8]) (no_6 n (by omega)), show ((bytes8 n).drop 2).drop 1 = (bytes8 n).drop 3 from rfl]
  rw [cutI_yes (l := (bytes8 n).drop 3) (by simp [bytes8]) (no_5 n (by omega)), show ((bytes8 n).drop 3).drop 1 = (bytes8 n).drop 4 from rfl]
  rw [cutI_yes (l := (bytes8 n).drop 4) (by simp [bytes8]) (no_4 n (by omega)), show ((bytes8 n).drop 4).drop 1 = (bytes8 n).drop 5 from rfl]
  exact cutI_no (.inr (yes_3 n h h2))
theorem intL_4 (n : Int) (h : (-2147483648 ≤ n ∧ n < 2147483648)) (h2 : ¬ (-8388608 ≤ n ∧ n < 8388608)) : intL n = (bytes8 n).drop 4 := by
  show cutI ((bytes8 n).drop 0) = _
  rw [cutI_yes (l := (bytes8 n).drop 0) (by simp [bytes8]) (no_8 n (by omega)), show ((bytes8 n).drop 0).drop 1 = (bytes8 n).drop 1 from rfl]
  rw [cutI_yes (l := (bytes8 n).drop 1) (by simp [bytes8]) (no_7 n (by omega)), show ((bytes8 n).drop 1).drop 1 = (bytes8 n).drop 2 from rfl]
  rw [cutI_yes (l := (bytes8 n).drop 2) (by simp [bytes8]) (no_6 n (by omega)), show ((bytes8 n).drop 2).drop 1 = (bytes8 n).drop 3 from rfl]
  rw [cutI_yes (l := (bytes8 n).drop 3) (by simp [bytes8]) (no_5 n (by omega)), show ((bytes8 n).drop 3).drop 1 = (bytes8 n).drop 4 from rfl]
  exact cutI_no (.inr (yes_4 n h h2))
theorem intL_5 (n : Int) (h : (-549755813888 ≤ n ∧ n < 549755813888)) (h2 : ¬ (-2147483648 ≤ n ∧ n < 2147483648)) : intL n = (bytes8 n).drop 3 := by
  show cutI ((bytes8 n).drop 0) = _
  rw [cutI_yes (l := (bytes8 n).drop 0) (by simp [bytes8]) (no_8 n (by omega)), show ((bytes8 n).drop 0).drop 1 = (bytes8 n).drop 1 from rfl]
  rw [cutI_yes (l := (bytes8 n).drop 1) (by simp [bytes8]) (no_7 n (by omega)), show ((bytes8 n).drop 1).drop 1 = (bytes8 n).drop 2 from rfl]
  rw [cutI_yes (l := (bytes8 n).drop 2) (by simp [bytes8]) (no_6 n (by omega)), show ((bytes8 n).drop 2).drop 1 = (bytes8 n).drop 3 from rfl]
  exact cutI_no (.inr (yes_5 n h h2))
theorem intL_6 (n : Int) (h : (-140737488355328 ≤ n ∧ n < 140737488355328)) (h2 : ¬ (-549755813888 ≤ n ∧ n < 549755813888)) : intL n = (bytes8 n).drop 2 := by
  show cutI ((bytes8 n).drop 0) = _
  rw [cutI_yes (l := (bytes8 n).drop 0) (by simp [bytes8]) (no_8 n (by omega)), show ((bytes8 n).drop 0).drop 1 = (bytes8 n).drop 1 from rfl]
  rw [cutI_yes (l := (bytes8 n).drop 1) (by simp [bytes8]) (no_7 n (by omega)), show ((bytes8 n).drop 1).drop 1 = (bytes8 n).drop 2 from rfl]
  exact cutI_no (.inr (yes_6 n h h2))
theorem intL_7 (n : Int) (h : (-36028797018963968 ≤ n ∧ n < 36028797018963968)) (h2 : ¬ (-140737488355328 ≤ n ∧ n < 140737488355328)) : intL n = (bytes8 n).drop 1 := by
  show cutI ((bytes8 n).drop 0) = _
  rw [cutI_yes (l := (bytes8 n).drop 0) (by simp [bytes8]) (no_8 n (by omega)), show ((bytes8 n).drop 0).drop 1 = (bytes8 n).drop 1 from rfl]
  exact cutI_no (.inr (yes_7 n h h2))
theorem intL_8 (n : Int) (h : (-9223372036854775808 ≤ n ∧ n < 9223372036854775808)) (h2 : ¬ (-36028797018963968 ≤ n ∧ n < 36028797018963968)) : intL n = (bytes8 n).drop 0 := by
  show cutI ((bytes8 n).drop 0) = _
  exact cutI_no (.inr (yes_8 n h h2))
theorem val_1 (n : Int) (h : (-128 ≤ n ∧ n < 128)) : valI ((bytes8 n).drop 7) = n := by
  show (if (n % 256).toNat < 128 then (((n % 256).toNat : Nat) : Int) else (((n % 256).toNat : Nat) : Int) - 256) = n
  have h0 : (if (n % 256).toNat < 128 then (((n % 256).toNat : Nat) : Int) else (((n % 256).toNat : Nat) : Int) - 256) = n := by split <;> omega
  rw [h0]
theorem val_2 (n : Int) (h : (-32768 ≤ n ∧ n < 32768)) : valI ((bytes8 n).drop 6) = n := by
  show accI ((if (n / 256 % 256).toNat < 128 then (((n / 256 % 256).toNat : Nat) : Int) else (((n / 256 % 256).toNat : Nat) : Int) - 256)) ((n % 256).toNat) = n
  have h0 : (if (n / 256 % 256).toNat < 128 then (((n / 256 % 256).toNat : Nat) : Int) else (((n / 256 % 256).toNat : Nat) : Int) - 256) = n / 256 := by split <;> omega
  rw [h0]
  have h1 : accI (n / 256) ((n % 256).toNat) = n := by unfold accI; omega
  rw [h1]
theorem val_3 (n : Int) (h : (-8388608 ≤ n ∧ n < 8388608)) : valI ((bytes8 n).drop 5) = n := by
  show accI (accI ((if (n / 65536 % 256).toNat < 128 then (((n / 65536 % 256).toNat : Nat) : Int) else (((n / 65536 % 256).toNat : Nat) : Int) - 256)) ((n / 256 % 256).toNat)) ((n % 256).toNat) = n
  have h0 : (if (n / 65536 % 256).toNat < 128 then (((n / 65536 % 256).toNat : Nat) : Int) else (((n / 65536 % 256).toNat : Nat) : Int) - 256) = n / 65536 := by split <;> omega
  rw [h0]
  have h1 : accI (n / 65536) ((n / 256 % 256).toNat) = n / 256 := by unfold accI; omega
  rw [h1]
  have h2 : accI (n / 256) ((n % 256).toNat) = n := by unfold accI; omega
  rw [h2]
theorem val_4 (n : Int) (h : (-2147483648 ≤ n ∧ n < 2147483648)) : valI ((bytes8 n).drop 4) = n := by
  show accI (accI (accI ((if (n / 16777216 % 256).toNat < 128 then (((n / 16777216 % 256).toNat : Nat) : Int) else (((n / 16777216 % 256).toNat : Nat) : Int) - 256)) ((n / 65536 % 256).toNat)) ((n / 256 % 256).toNat)) ((n % 256).toNat) = n
  have h0 : (if (n / 16777216 % 256).toNat < 128 then (((n / 16777216 % 256).toNat : Nat) : Int) else (((n / 16777216 % 256).toNat : Nat) : Int) - 256) = n / 16777216 := by split <;> omega
  rw [h0]
  have h1 : accI (n / 16777216) ((n / 65536 % 256).toNat) = n / 65536 := by unfold accI; omega
  rw [h1]
  have h2 : accI (n / 65536) ((n / 256 % 256).toNat) = n / 256 := by unfold accI; omega
  rw [h2]
  have h3 : accI (n / 256) ((n % 256).toNat) = n := by unfold accI; omega
  rw [h3]
theorem val_5 (n : Int) (h : (-549755813888 ≤ n ∧ n < 549755813888)) : valI ((bytes8 n).drop 3) = n := by
  show accI (accI (accI (accI ((if (n / 4294967296 % 256).toNat < 128 then (((n / 4294967296 % 256).toNat : Nat) : Int) else (((n / 4294967296 % 256).toNat : Nat) : Int) - 256)) ((n / 16777216 % 256).toNat)) ((n / 65536 % 256).toNat)) ((n / 256 % 256).toNat)) ((n % 256).toNat) = n
  have h0 : (if (n / 4294967296 % 256).toNat < 128 then (((n / 4294967296 % 256).toNat : Nat) : Int) else (((n / 4294967296 % 256).toNat : Nat) : Int) - 256) = n / 4294967296 := by split <;> omega
  rw [h0]
  have h1 : accI (n / 4294967296) ((n / 16777216 % 256).toNat) = n / 16777216 := by unfold accI; omega
  rw [h1]
  have h2 : accI (n / 16777216) ((n / 65536 % 256).toNat) = n / 65536 := by unfold accI; omega
  rw [h2]
  have h3 : accI (n / 65536) ((n / 256 % 256).toNat) = n / 256 := by unfold accI; omega
  rw [h3]
  have h4 : accI (n / 256) ((n % 256).toNat) = n := by unfold accI; omega
  rw [h4]
theorem val_6 (n : Int) (h : (-140737488355328 ≤ n ∧ n < 140737488355328)) : valI ((bytes8 n).drop 2) = n := by
  show accI (accI (accI (accI (accI ((if (n / 1099511627776 % 256).toNat < 128 then (((n / 1099511627776 % 256).toNat : Nat) : Int) else (((n / 1099511627776 % 256).toNat : Nat) : Int) - 256)) ((n / 4294967296 % 256).toNat)) ((n / 16777216 % 256).toNat)) ((n / 65536 % 256).toNat)) ((n / 256 % 256).toNat)) ((n % 256).toNat) = n
  have h0 : (if (n / 1099511627776 % 256).toNat < 128 then (((n / 1099511627776 % 256).toNat : Nat) : Int) else (((n / 1099511627776 % 256).toNat : Nat) : Int) - 256) = n / 1099511627776 := by split <;> omega
  rw [h0]
  have h1 : accI (n / 1099511627776) ((n / 4294967296 % 256).toNat) = n / 4294967296 := by unfold accI; omega
  rw [h1]
  have h2 : accI (n / 4294967296) ((n / 16777216 % 256).toNat) = n / 16777216 := by unfold accI; omega
  rw [h2]
  have h3 : accI (n / 16777216) ((n / 65536 % 256).toNat) = n / 65536 := by unfold accI; omega
  rw [h3]
  have h4 : accI (n / 65536) ((n / 256 % 256).toNat) = n / 256 := by unfold accI; omega
  rw [h4]
  have h5 : accI (n / 256) ((n % 256).toNat) = n := by unfold accI; omega
  rw [h5]
theorem val_7 (n : Int) (h : (-36028797018963968 ≤ n ∧ n < 36028797018963968)) : valI ((bytes8 n).drop 1) = n := by
  show accI (accI (accI (accI (accI (accI ((if (n / 281474976710656 % 256).toNat < 128 then (((n / 281474976710656 % 256).toNat : Nat) : Int) else (((n / 281474976710656 % 256).toNat : Nat) : Int) - 256)) ((n / 1099511627776 % 256).toNat)) ((n / 4294967296 % 256).toNat)) ((n / 16777216 % 256).toNat)) ((n / 65536 % 256).toNat)) ((n / 256 % 256).toNat)) ((n % 256).toNat) = n
  have h0 : (if (n / 281474976710656 % 256).toNat < 128 then (((n / 281474976710656 % 256).toNat : Nat) : Int) else (((n / 281474976710656 % 256).toNat : Nat) : Int) - 256) = n / 281474976710656 := by split <;> omega
  rw [h0]
  have h1 : accI (n / 281474976710656) ((n / 1099511627776 % 256).toNat) = n / 1099511627776 := by unfold accI; omega
  rw [h1]
  have h2 : accI (n / 1099511627776) ((n / 4294967296 % 256).toNat) = n / 4294967296 := by unfold accI; omega
  rw [h2]
  have h3 : accI (n / 4294967296) ((n / 16777216 % 256).toNat) = n / 16777216 := by unfold accI; omega
  rw [h3]
  have h4 : accI (n / 16777216) ((n / 65536 % 256).toNat) = n / 65536 := by unfold accI; omega
  rw [h4]
  have h5 : accI (n / 65536) ((n / 256 % 256).toNat) = n / 256 := by unfold accI; omega
  rw [h5]
  have h6 : accI (n / 256) ((n % 256).toNat) = n := by unfold accI; omega
  rw [h6]
theorem val_8 (n : Int) (h : (-9223372036854775808 ≤ n ∧ n < 9223372036854775808)) : valI ((bytes8 n).drop 0) = n := by
  show accI (accI (accI (accI (accI (accI (accI ((if (n / 72057594037927936 % 256).toNat < 128 then (((n / 72057594037927936 % 256).toNat : Nat) : Int) else (((n / 72057594037927936 % 256).toNat : Nat) : Int) - 256)) ((n / 281474976710656 % 256).toNat)) ((n / 1099511627776 % 256).toNat)) ((n / 4294967296 % 256).toNat)) ((n / 16777216 % 256).toNat)) ((n / 65536 % 256).toNat)) ((n / 256 % 256).toNat)) ((n % 256).toNat) = n
  have h0 : (if (n / 72057594037927936 % 256).toNat < 128 then (((n / 72057594037927936 % 256).toNat : Nat) : Int) else (((n / 72057594037927936 % 256).toNat : Nat) : Int) - 256) = n / 72057594037927936 := by split <;> omega
  rw [h0]
  have h1 : accI (n / 72057594037927936) ((n / 281474976710656 % 256).toNat) = n / 281474976710656 := by unfold accI; omega
  rw [h1]
  have h2 : accI (n / 281474976710656) ((n / 1099511627776 % 256).toNat) = n / 1099511627776 := by unfold accI; omega
  rw [h2]
  have h3 : accI (n / 1099511627776) ((n / 4294967296 % 256).toNat) = n / 4294967296 := by unfold accI; omega
  rw [h3]
  have h4 : accI (n / 4294967296) ((n / 16777216 % 256).toNat) = n / 16777216 := by unfold accI; omega
  rw [h4]
  have h5 : accI (n / 16777216) ((n / 65536 % 256).toNat) = n / 65536 := by unfold accI; omega
  rw [h5]
  have h6 : accI (n / 65536) ((n / 256 % 256).toNat) = n / 256 := by unfold accI; omega
  rw [h6]
  have h7 : accI (n / 256) ((n % 256).toNat) = n := by unfold accI; omega
  rw [h7]

/-- A number of so many bytes. -/
def FitsI (n : Int) (s : Nat) : Prop := match s with
  | 1 => (-128 ≤ n ∧ n < 128)
  | 2 => (-32768 ≤ n ∧ n < 32768)
  | 3 => (-8388608 ≤ n ∧ n < 8388608)
  | 4 => (-2147483648 ≤ n ∧ n < 2147483648)
  | 5 => (-549755813888 ≤ n ∧ n < 549755813888)
  | 6 => (-140737488355328 ≤ n ∧ n < 140737488355328)
  | 7 => (-36028797018963968 ≤ n ∧ n < 36028797018963968)
  | 8 => (-9223372036854775808 ≤ n ∧ n < 9223372036854775808)
  | _ => False

/-- What is known of a number's bytes. -/
structure IntF (n : Int) (s : Nat) : Prop where
  list : intL n = (bytes8 n).drop (8 - s)
  len : (intL n).length = s
  good : intB (intL n) = true
  val : valI (intL n) = n

theorem intF (n : Int) (h1 : -9223372036854775808 ≤ n) (h2 : n ≤ 9223372036854775807) : ∃ s : Nat, IntF n s ∧ (
    (s = 1 ∧ (-128 ≤ n ∧ n < 128)) ∨ (s = 2 ∧ (-32768 ≤ n ∧ n < 32768) ∧ ¬ (-128 ≤ n ∧ n < 128)) ∨ (s = 3 ∧ (-8388608 ≤ n ∧ n < 8388608) ∧ ¬ (-32768 ≤ n ∧ n < 32768)) ∨ (s = 4 ∧ (-2147483648 ≤ n ∧ n < 2147483648) ∧ ¬ (-8388608 ≤ n ∧ n < 8388608)) ∨ (s = 5 ∧ (-549755813888 ≤ n ∧ n < 549755813888) ∧ ¬ (-2147483648 ≤ n ∧ n < 2147483648)) ∨ (s = 6 ∧ (-140737488355328 ≤ n ∧ n < 140737488355328) ∧ ¬ (-549755813888 ≤ n ∧ n < 549755813888)) ∨ (s = 7 ∧ (-36028797018963968 ≤ n ∧ n < 36028797018963968) ∧ ¬ (-140737488355328 ≤ n ∧ n < 140737488355328)) ∨ (s = 8 ∧ (-9223372036854775808 ≤ n ∧ n < 9223372036854775808) ∧ ¬ (-36028797018963968 ≤ n ∧ n < 36028797018963968))) := by
  by_cases h : (-128 ≤ n ∧ n < 128)
  · exact ⟨1, ⟨intL_1 n h, by rw [intL_1 n h]; rfl, by rw [intL_1 n h]; exact yes_1 n, by rw [intL_1 n h]; exact val_1 n h⟩, .inl ⟨rfl, h⟩⟩
  have g := h
  clear h
  by_cases h : (-32768 ≤ n ∧ n < 32768)
  · exact ⟨2, ⟨intL_2 n h g, by rw [intL_2 n h g]; rfl, by rw [intL_2 n h g]; exact yes_2 n h g, by rw [intL_2 n h g]; exact val_2 n h⟩, .inr (.inl ⟨rfl, h, g⟩)⟩
  have g := h
  clear h
  by_cases h : (-8388608 ≤ n ∧ n < 8388608)
  · exact ⟨3, ⟨intL_3 n h g, by rw [intL_3 n h g]; rfl, by rw [intL_3 n h g]; exact yes_3 n h g, by rw [intL_3 n h g]; exact val_3 n h⟩, .inr (.inr (.inl ⟨rfl, h, g⟩))⟩
  have g := h
  clear h
  by_cases h : (-2147483648 ≤ n ∧ n < 2147483648)
  · exact ⟨4, ⟨intL_4 n h g, by rw [intL_4 n h g]; rfl, by rw [intL_4 n h g]; exact yes_4 n h g, by rw [intL_4 n h g]; exact val_4 n h⟩, .inr (.inr (.inr (.inl ⟨rfl, h, g⟩)))⟩
  have g := h
  clear h
  by_cases h : (-549755813888 ≤ n ∧ n < 549755813888)
  · exact ⟨5, ⟨intL_5 n h g, by rw [intL_5 n h g]; rfl, by rw [intL_5 n h g]; exact yes_5 n h g, by rw [intL_5 n h g]; exact val_5 n h⟩, .inr (.inr (.inr (.inr (.inl ⟨rfl, h, g⟩))))⟩
  have g := h
  clear h
  by_cases h : (-140737488355328 ≤ n ∧ n < 140737488355328)
  · exact ⟨6, ⟨intL_6 n h g, by rw [intL_6 n h g]; rfl, by rw [intL_6 n h g]; exact yes_6 n h g, by rw [intL_6 n h g]; exact val_6 n h⟩, .inr (.inr (.inr (.inr (.inr (.inl ⟨rfl, h, g⟩)))))⟩
  have g := h
  clear h
  by_cases h : (-36028797018963968 ≤ n ∧ n < 36028797018963968)
  · exact ⟨7, ⟨intL_7 n h g, by rw [intL_7 n h g]; rfl, by rw [intL_7 n h g]; exact yes_7 n h g, by rw [intL_7 n h g]; exact val_7 n h⟩, .inr (.inr (.inr (.inr (.inr (.inr (.inl ⟨rfl, h, g⟩))))))⟩
  have g := h
  clear h
  have h : (-9223372036854775808 ≤ n ∧ n < 9223372036854775808) := by omega
  exact ⟨8, ⟨intL_8 n h g, by rw [intL_8 n h g]; rfl, by rw [intL_8 n h g]; exact yes_8 n h g, by rw [intL_8 n h g]; exact val_8 n h⟩, .inr (.inr (.inr (.inr (.inr (.inr (.inr (⟨rfl, h, g⟩)))))))⟩

end Go.Proofs.YtkmphiakciihfaaDoor
