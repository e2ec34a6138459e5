/-
  PRIMES: Fraction. (Written by wip/gen_priC.py.)
-/
import Derived.Test.YtfeajcgcjpngkaaPriS
namespace Go.Proofs.Ytfeajcgcjpngkaa
open Go.RowKit

theorem reads_litP (w : World) (E : TypeId) (l : List Nat) (cs : Array Value) (h : cs = (l.map (num .u32)).toArray) (hm : l.length ≤ maxLen) : Reads .u32 (w.alloc (.cells cs E)) (some ⟨w.heap.size, 0, .none⟩) l.length l.length l := by
  subst h
  refine ⟨rfl, Nat.le_refl _, hm, (fun h => by cases h), fun _ => ⟨w.heap.size, 0, rfl, by simp, fun i hi => ?_⟩⟩
  rw [World.cell?_alloc_at _ _ _ _ (by simp)]
  simp [num, hi]
theorem frac_top {A p : Nat} (hA : A < 18446744073709551616) (hp : p ≤ 192) : A * 2 ^ p < topN := by
  rcases Nat.eq_zero_or_pos A with rfl | h
  · rw [Nat.zero_mul]; exact topN_pos
  · rw [shl_small h]
    have := (bitsN_le A 64).2 hA
    omega
theorem whole_le (r n : Nat) : r / 2 ^ n * 2 ^ n ≤ r := Nat.div_mul_le_self _ _
theorem rest_eq (r n : Nat) : r - r / 2 ^ n * 2 ^ n = r % 2 ^ n := by
  have := Nat.div_add_mod r (2 ^ n)
  rw [Nat.mul_comm] at this
  omega
theorem rest_lt {r n : Nat} (hn : n ≤ 64) : r % 2 ^ n < 18446744073709551616 := by
  have h1 : r % 2 ^ n < 2 ^ n := Nat.mod_lt _ (Nat.pow_pos (by decide))
  have h2 : 2 ^ n ≤ 2 ^ 64 := Nat.pow_le_pow_right (by decide) hn
  omega
theorem uint_ok {x : Value} {n : Nat} {w : World} (hx : NatAt w x n) (h : n < 18446744073709551616) : Calls Try.prog 44 #[x] w fun e w' => e = .returned (.tuple #[.int .u64 (n : Int), .bool true]) ∧ w = w' := by
  obtain ⟨a, len, cap, l, rfl, hr, hl, rfl⟩ := hx
  refine (uint_any _ _ _ _ w hr hl).mono fun e w' ⟨he, hw⟩ => ⟨?_, hw⟩
  unfold UintIs uintV at he
  rw [if_pos h, decide_eq_true h] at he
  exact he

theorem frac_bad1 (a k n : Int) (w : World) (h : ¬ (k = 2 ∨ k = 3)) : Calls Try.prog 18 #[.int .u64 a, .int .i64 k, .int .i64 n] w fun e w' => e = .returned (.tuple #[.int .u64 0, .int .i64 2]) ∧ w = w' := by
  have HF := Lib.hid (show false = decide (k = 2 ∨ k = 3) from (decide_eq_false h).symm)
  clear h
  go_enter Try.func18, Try.ntmps18
  go_wp2_with fail
  refine (rooted_any _ w _ HF.out).mono ?_
  rintro e w1 ⟨rfl, rfl⟩
  go_wp2
  go_ret2
  exact ⟨rfl, rfl⟩

theorem frac_low2 (a n : Int) (w : World) (h : n < 1) : Calls Try.prog 18 #[.int .u64 a, .int .i64 2, .int .i64 n] w fun e w' => e = .returned (.tuple #[.int .u64 0, .int .i64 2]) ∧ w = w' := by
  have HF := Lib.hid (show true = decide ((2 : Int) = 2 ∨ (2 : Int) = 3) from rfl)
  go_enter Try.func18, Try.ntmps18
  go_wp2_with fail
  refine (rooted_any _ w _ HF.out).mono ?_
  rintro e w1 ⟨rfl, rfl⟩
  go_wp2
  go_ret2
  exact ⟨rfl, rfl⟩

theorem frac_high2 (a n : Int) (w : World) (h : 64 < n) : Calls Try.prog 18 #[.int .u64 a, .int .i64 2, .int .i64 n] w fun e w' => e = .returned (.tuple #[.int .u64 0, .int .i64 2]) ∧ w = w' := by
  have HF := Lib.hid (show true = decide ((2 : Int) = 2 ∨ (2 : Int) = 3) from rfl)
  have h1 : ¬ n < 1 := by omega
  go_enter Try.func18, Try.ntmps18
  go_wp2_with fail
  refine (rooted_any _ w _ HF.out).mono ?_
  rintro e w1 ⟨rfl, rfl⟩
  go_wp2
  go_ret2
  exact ⟨rfl, rfl⟩

set_option maxHeartbeats 1000000 in
theorem frac_ok2 (A n : Nat) (a : Int) (w : World) (ha : a = A) (hA : A < 18446744073709551616) (h1 : 1 ≤ n) (h2 : n ≤ 64) (p : Nat) (hp : p = 2 * n) : Calls Try.prog 18 #[.int .u64 a, .int .i64 2, .int .i64 (n : Int)] w fun e w' => e = .returned (.tuple #[.int .u64 (rootN 2 (A * 2 ^ p) % 2 ^ n : Nat), .int .i64 0]) ∧ Below w.heap.size w w' := by
  have HF := Lib.hid (show true = decide ((2 : Int) = 2 ∨ (2 : Int) = 3) from rfl)
  have HA := Lib.hid ha
  have HA2 := Lib.hid hA
  have hp2 : p ≤ 192 := by omega
  have HP := Lib.hid (show (2 : Int) * (n : Int) = (p : Int) by omega)
  have HT := Lib.hid (frac_top hA hp2)
  have HR := Lib.hid (Nat.lt_of_le_of_lt ((rootN_is (k := 2) (A * 2 ^ p) (by decide)).le (by decide)) HT.out)
  obtain ⟨r, hr⟩ : ∃ r, r = rootN 2 (A * 2 ^ p) := ⟨_, rfl⟩
  rw [← hr] at HR ⊢
  have HRE := Lib.hid hr
  have HW := Lib.hid (Nat.lt_of_le_of_lt (whole_le r n) HR.out)
  have HL := Lib.hid (rest_lt (r := r) h2)
  have F := Lib.hid (Below.refl w.heap.size w)
  clear ha hA hp hr
  go_enter Try.func18, Try.ntmps18
  go_wp2_with fail
  refine (rooted_any _ w _ HF.out).mono ?_
  rintro e w1 ⟨rfl, rfl⟩
  go_wp2_with fail
  refine (of_c _ A HA.out _ HA2.out).mono ?_
  rintro e w2 ⟨⟨v1, rfl, ho⟩, hb⟩
  have O1 := Lib.hid (ho)
  replace F := Lib.hid (F.out.trans (hb.mono F.out.size))
  clear hb
  go_wp2_with fail
  refine (shl_nat O1.out.at _ p HP.out (by have := HP.out; omega) HT.out).mono ?_
  rintro e w3 ⟨⟨v2, rfl, ho⟩, hb⟩
  replace O1 := Lib.hid (O1.out.below hb)
  have O2 := Lib.hid (ho)
  replace F := Lib.hid (F.out.trans (hb.mono F.out.size))
  clear hb
  go_wp2_with fail
  refine (root_ok _ (A * 2 ^ p) 2 _ O2.out.at HT.out (.inl rfl)).mono ?_
  rintro e w4 ⟨⟨v3, rfl, ho⟩, hb⟩
  replace O1 := Lib.hid (O1.out.below hb)
  replace O2 := Lib.hid (O2.out.below hb)
  have O3 := Lib.hid (by rw [← HRE.out] at ho; exact NatC.of ho)
  replace F := Lib.hid (F.out.trans (hb.mono F.out.size))
  clear hb
  go_wp2_with fail
  refine (shr_nat O3.out.at _ n rfl (by omega) HR.out).mono ?_
  rintro e w5 ⟨⟨v4, rfl, ho⟩, hb⟩
  replace O1 := Lib.hid (O1.out.below hb)
  replace O2 := Lib.hid (O2.out.below hb)
  replace O3 := Lib.hid (O3.out.below hb)
  have O4 := Lib.hid (ho)
  replace F := Lib.hid (F.out.trans (hb.mono F.out.size))
  clear hb
  go_wp2_with fail
  refine (shl_nat O4.out.at _ n rfl (by omega) HW.out).mono ?_
  rintro e w6 ⟨⟨v5, rfl, ho⟩, hb⟩
  replace O1 := Lib.hid (O1.out.below hb)
  replace O2 := Lib.hid (O2.out.below hb)
  replace O3 := Lib.hid (O3.out.below hb)
  replace O4 := Lib.hid (O4.out.below hb)
  have O5 := Lib.hid (ho)
  replace F := Lib.hid (F.out.trans (hb.mono F.out.size))
  clear hb
  go_wp2_with fail
  refine (sub_nat O3.out.at O5.out.at HR.out (whole_le r n)).mono ?_
  rintro e w7 ⟨⟨v6, rfl, ho⟩, hb⟩
  replace O1 := Lib.hid (O1.out.below hb)
  replace O2 := Lib.hid (O2.out.below hb)
  replace O3 := Lib.hid (O3.out.below hb)
  replace O4 := Lib.hid (O4.out.below hb)
  replace O5 := Lib.hid (O5.out.below hb)
  have O6 := Lib.hid (by rw [rest_eq] at ho; exact ho)
  replace F := Lib.hid (F.out.trans (hb.mono F.out.size))
  clear hb
  go_wp2_with fail
  refine (uint_ok O6.out.at HL.out).mono ?_
  rintro e wz ⟨rfl, rfl⟩
  go_wp2
  go_ret2
  exact ⟨rfl, F.out⟩

theorem frac_low3 (a n : Int) (w : World) (h : n < 1) : Calls Try.prog 18 #[.int .u64 a, .int .i64 3, .int .i64 n] w fun e w' => e = .returned (.tuple #[.int .u64 0, .int .i64 2]) ∧ w = w' := by
  have HF := Lib.hid (show true = decide ((3 : Int) = 2 ∨ (3 : Int) = 3) from rfl)
  go_enter Try.func18, Try.ntmps18
  go_wp2_with fail
  refine (rooted_any _ w _ HF.out).mono ?_
  rintro e w1 ⟨rfl, rfl⟩
  go_wp2
  go_ret2
  exact ⟨rfl, rfl⟩

theorem frac_high3 (a n : Int) (w : World) (h : 64 < n) : Calls Try.prog 18 #[.int .u64 a, .int .i64 3, .int .i64 n] w fun e w' => e = .returned (.tuple #[.int .u64 0, .int .i64 2]) ∧ w = w' := by
  have HF := Lib.hid (show true = decide ((3 : Int) = 2 ∨ (3 : Int) = 3) from rfl)
  have h1 : ¬ n < 1 := by omega
  go_enter Try.func18, Try.ntmps18
  go_wp2_with fail
  refine (rooted_any _ w _ HF.out).mono ?_
  rintro e w1 ⟨rfl, rfl⟩
  go_wp2
  go_ret2
  exact ⟨rfl, rfl⟩

set_option maxHeartbeats 1000000 in
theorem frac_ok3 (A n : Nat) (a : Int) (w : World) (ha : a = A) (hA : A < 18446744073709551616) (h1 : 1 ≤ n) (h2 : n ≤ 64) (p : Nat) (hp : p = 3 * n) : Calls Try.prog 18 #[.int .u64 a, .int .i64 3, .int .i64 (n : Int)] w fun e w' => e = .returned (.tuple #[.int .u64 (rootN 3 (A * 2 ^ p) % 2 ^ n : Nat), .int .i64 0]) ∧ Below w.heap.size w w' := by
  have HF := Lib.hid (show true = decide ((3 : Int) = 2 ∨ (3 : Int) = 3) from rfl)
  have HA := Lib.hid ha
  have HA2 := Lib.hid hA
  have hp2 : p ≤ 192 := by omega
  have HP := Lib.hid (show (3 : Int) * (n : Int) = (p : Int) by omega)
  have HT := Lib.hid (frac_top hA hp2)
  have HR := Lib.hid (Nat.lt_of_le_of_lt ((rootN_is (k := 3) (A * 2 ^ p) (by decide)).le (by decide)) HT.out)
  obtain ⟨r, hr⟩ : ∃ r, r = rootN 3 (A * 2 ^ p) := ⟨_, rfl⟩
  rw [← hr] at HR ⊢
  have HRE := Lib.hid hr
  have HW := Lib.hid (Nat.lt_of_le_of_lt (whole_le r n) HR.out)
  have HL := Lib.hid (rest_lt (r := r) h2)
  have F := Lib.hid (Below.refl w.heap.size w)
  clear ha hA hp hr
  go_enter Try.func18, Try.ntmps18
  go_wp2_with fail
  refine (rooted_any _ w _ HF.out).mono ?_
  rintro e w1 ⟨rfl, rfl⟩
  go_wp2_with fail
  refine (of_c _ A HA.out _ HA2.out).mono ?_
  rintro e w2 ⟨⟨v1, rfl, ho⟩, hb⟩
  have O1 := Lib.hid (ho)
  replace F := Lib.hid (F.out.trans (hb.mono F.out.size))
  clear hb
  go_wp2_with fail
  refine (shl_nat O1.out.at _ p HP.out (by have := HP.out; omega) HT.out).mono ?_
  rintro e w3 ⟨⟨v2, rfl, ho⟩, hb⟩
  replace O1 := Lib.hid (O1.out.below hb)
  have O2 := Lib.hid (ho)
  replace F := Lib.hid (F.out.trans (hb.mono F.out.size))
  clear hb
  go_wp2_with fail
  refine (root_ok _ (A * 2 ^ p) 3 _ O2.out.at HT.out (.inr rfl)).mono ?_
  rintro e w4 ⟨⟨v3, rfl, ho⟩, hb⟩
  replace O1 := Lib.hid (O1.out.below hb)
  replace O2 := Lib.hid (O2.out.below hb)
  have O3 := Lib.hid (by rw [← HRE.out] at ho; exact NatC.of ho)
  replace F := Lib.hid (F.out.trans (hb.mono F.out.size))
  clear hb
  go_wp2_with fail
  refine (shr_nat O3.out.at _ n rfl (by omega) HR.out).mono ?_
  rintro e w5 ⟨⟨v4, rfl, ho⟩, hb⟩
  replace O1 := Lib.hid (O1.out.below hb)
  replace O2 := Lib.hid (O2.out.below hb)
  replace O3 := Lib.hid (O3.out.below hb)
  have O4 := Lib.hid (ho)
  replace F := Lib.hid (F.out.trans (hb.mono F.out.size))
  clear hb
  go_wp2_with fail
  refine (shl_nat O4.out.at _ n rfl (by omega) HW.out).mono ?_
  rintro e w6 ⟨⟨v5, rfl, ho⟩, hb⟩
  replace O1 := Lib.hid (O1.out.below hb)
  replace O2 := Lib.hid (O2.out.below hb)
  replace O3 := Lib.hid (O3.out.below hb)
  replace O4 := Lib.hid (O4.out.below hb)
  have O5 := Lib.hid (ho)
  replace F := Lib.hid (F.out.trans (hb.mono F.out.size))
  clear hb
  go_wp2_with fail
  refine (sub_nat O3.out.at O5.out.at HR.out (whole_le r n)).mono ?_
  rintro e w7 ⟨⟨v6, rfl, ho⟩, hb⟩
  replace O1 := Lib.hid (O1.out.below hb)
  replace O2 := Lib.hid (O2.out.below hb)
  replace O3 := Lib.hid (O3.out.below hb)
  replace O4 := Lib.hid (O4.out.below hb)
  replace O5 := Lib.hid (O5.out.below hb)
  have O6 := Lib.hid (by rw [rest_eq] at ho; exact ho)
  replace F := Lib.hid (F.out.trans (hb.mono F.out.size))
  clear hb
  go_wp2_with fail
  refine (uint_ok O6.out.at HL.out).mono ?_
  rintro e wz ⟨rfl, rfl⟩
  go_wp2
  go_ret2
  exact ⟨rfl, F.out⟩

def RetsF (r : Nat × Int) (e : Ending) : Prop := e = .returned (.tuple #[.int .u64 (r.1 : Int), .int .i64 r.2])
theorem frac_any (A : Nat) (a k n : Int) (w : World) (ha : a = A) (hA : A < 18446744073709551616) : Calls Try.prog 18 #[.int .u64 a, .int .i64 k, .int .i64 n] w fun e w' => RetsF (fracP A k n) e ∧ Below w.heap.size w w' := by
  by_cases h : k = 2 ∨ k = 3
  · by_cases h1 : 1 ≤ n ∧ n ≤ 64
    · obtain ⟨m, rfl⟩ : ∃ m : Nat, n = m := ⟨n.toNat, by omega⟩
      rcases h with rfl | rfl
      · have e := fracP_ok (A := A) (k := 2) (n := m) (p := 2 * m) (.inl rfl) (by omega) (by omega) rfl
        unfold RetsF
        rw [show fracP A 2 (m : Int) = _ from e]
        exact frac_ok2 A m a w ha hA (by omega) (by omega) (2 * m) rfl
      · have e := fracP_ok (A := A) (k := 3) (n := m) (p := 3 * m) (.inr rfl) (by omega) (by omega) rfl
        unfold RetsF
        rw [show fracP A 3 (m : Int) = _ from e]
        exact frac_ok3 A m a w ha hA (by omega) (by omega) (3 * m) rfl
    · unfold RetsF
      rw [fracP_bad (fun hc => h1 hc.2)]
      rcases Int.lt_or_le n 1 with h2 | h2
      · rcases h with rfl | rfl
        · exact (frac_low2 a n w h2).mono fun e w' ⟨he, hb⟩ => ⟨he, hb ▸ Below.refl _ _⟩
        · exact (frac_low3 a n w h2).mono fun e w' ⟨he, hb⟩ => ⟨he, hb ▸ Below.refl _ _⟩
      · rcases h with rfl | rfl
        · exact (frac_high2 a n w (by omega)).mono fun e w' ⟨he, hb⟩ => ⟨he, hb ▸ Below.refl _ _⟩
        · exact (frac_high3 a n w (by omega)).mono fun e w' ⟨he, hb⟩ => ⟨he, hb ▸ Below.refl _ _⟩
  · unfold RetsF
    rw [fracP_bad (fun hc => h hc.1)]
    exact (frac_bad1 a k n w h).mono fun e w' ⟨he, hb⟩ => ⟨he, hb ▸ Below.refl _ _⟩

namespace rf
theorem of_z (a : Int) (A : Nat) (w : World) (ha : a = A) (hA : A < 18446744073709551616) : Calls Try.prog 45 #[.int .u64 a] w fun e w' => (∃ v, e = .returned v ∧ NatZ w' v A) ∧ Below w.heap.size w w' := by
  subst ha
  go_enter Try.func45, Try.ntmps45
  go_wp2
  go_ret
  have hb := (Below.refl w.heap.size w).alloc (Nat.le_refl _) (.cells #[.int .u32 ((A % 4294967296 : Nat) : Int), .int .u32 ((A / 4294967296 : Nat) : Int)] 39)
  refine ⟨⟨_, rfl, some ⟨w.heap.size, 0, none⟩, 2, 2, [A % 4294967296, A / 4294967296], rfl, ?_, ?_, ?_, by omega⟩, hb⟩
  · exact reads_litP w 39 [A % 4294967296, A / 4294967296] #[.int .u32 ((A % 4294967296 : Nat) : Int), .int .u32 ((A / 4294967296 : Nat) : Int)] rfl (by simp [maxLen])
  · intro x hx
    simp at hx
    rcases hx with rfl | rfl <;> omega
  · simp [val32, valB]
    omega

theorem frac_bad1 (a k n : Int) (w : World) (h2 : (k != 2) = true) (h3 : (k != 3) = true) : Calls Try.prog 19 #[.int .u64 a, .int .i64 k, .int .i64 n] w fun e w' => e = .returned (.tuple #[.int .u64 0, .int .i64 2]) ∧ w = w' := by
  go_enter Try.func19, Try.ntmps19
  go_wp2
  go_ret2
  exact ⟨rfl, rfl⟩

theorem frac_low2 (a n : Int) (w : World) (h : n < 1) : Calls Try.prog 19 #[.int .u64 a, .int .i64 2, .int .i64 n] w fun e w' => e = .returned (.tuple #[.int .u64 0, .int .i64 2]) ∧ w = w' := by
  go_enter Try.func19, Try.ntmps19
  go_wp2
  go_ret2
  exact ⟨rfl, rfl⟩

theorem frac_high2 (a n : Int) (w : World) (h : 64 < n) : Calls Try.prog 19 #[.int .u64 a, .int .i64 2, .int .i64 n] w fun e w' => e = .returned (.tuple #[.int .u64 0, .int .i64 2]) ∧ w = w' := by
  have h1 : ¬ n < 1 := by omega
  go_enter Try.func19, Try.ntmps19
  go_wp2
  go_ret2
  exact ⟨rfl, rfl⟩

set_option maxHeartbeats 1000000 in
theorem frac_ok2 (A n : Nat) (a : Int) (w : World) (ha : a = A) (hA : A < 18446744073709551616) (h1 : 1 ≤ n) (h2 : n ≤ 64) (p : Nat) (hp : p = 2 * n) : Calls Try.prog 19 #[.int .u64 a, .int .i64 2, .int .i64 (n : Int)] w fun e w' => e = .returned (.tuple #[.int .u64 (rootN 2 (A * 2 ^ p) % 2 ^ n : Nat), .int .i64 0]) ∧ Below w.heap.size w w' := by
  have HA := Lib.hid ha
  have HA2 := Lib.hid hA
  have hp2 : p ≤ 192 := by omega
  have HP := Lib.hid (show (2 : Int) * (n : Int) = (p : Int) by omega)
  have HT := Lib.hid (frac_top hA hp2)
  have HR := Lib.hid (Nat.lt_of_le_of_lt ((rootN_is (k := 2) (A * 2 ^ p) (by decide)).le (by decide)) HT.out)
  obtain ⟨r, hr⟩ : ∃ r, r = rootN 2 (A * 2 ^ p) := ⟨_, rfl⟩
  rw [← hr] at HR ⊢
  have HRE := Lib.hid hr
  have F := Lib.hid (Below.refl w.heap.size w)
  clear ha hA hp hr
  go_enter Try.func19, Try.ntmps19
  go_wp2_with fail
  refine (of_z _ A _ HA.out HA2.out).mono ?_
  rintro e w1 ⟨⟨v1, rfl, ho⟩, hb⟩
  have O1 := Lib.hid (ho)
  replace F := Lib.hid (F.out.trans (hb.mono F.out.size))
  clear hb
  go_wp2_with fail
  refine (shl_okz O1.out _ p HP.out (by have := HP.out; omega) HT.out).mono ?_
  rintro e w2 ⟨⟨v2, rfl, ho⟩, hb⟩
  replace O1 := Lib.hid (O1.out.below hb)
  have O2 := Lib.hid (NatZ.of ho HT.out)
  replace F := Lib.hid (F.out.trans (hb.mono F.out.size))
  clear hb
  go_wp2_with fail
  refine (root_ok2 _ (A * 2 ^ p) _ O2.out HT.out).mono ?_
  rintro e w3 ⟨⟨v3, rfl, ho⟩, hb⟩
  replace O1 := Lib.hid (O1.out.below hb)
  replace O2 := Lib.hid (O2.out.below hb)
  have O3 := Lib.hid (by rw [← HRE.out] at ho; exact NatZ.of ho HR.out)
  replace F := Lib.hid (F.out.trans (hb.mono F.out.size))
  clear hb
  go_wp2
  go_loopw [12, 13] (fun fv i wr => ∃ t f : Nat, fv = .int .u64 (f : Int) ∧ ((∃ s : Nat, i = .int .i64 s ∧ t = s + 1) ∨ (i = .int .i64 (-1) ∧ t = 0)) ∧ t ≤ n ∧ Hid (FracI r n t f ∧ NatZ wr v3 r ∧ Below w.heap.size w wr)) (fun _ i _ => (intOf i + 1).toNat)
  case atStart => exact ⟨n, 0, rfl, .inl ⟨n - 1, by congr 1; omega, by omega⟩, Nat.le_refl _, FracI.start r n, O3.out, F.out⟩
  case round =>
    obtain ⟨t, f, rfl, hi, ht, hI⟩ := hrel
    rcases hi with ⟨s, rfl, rfl⟩ | ⟨rfl, rfl⟩
    · have hf := hI.out.1.lt h2
      have HN := Lib.hid (hI.out.1.step ht)
      cases htb : r.testBit s with
      | true =>
        have HTB := Lib.hid (show true = (decide (0 ≤ (s : Int)) && r.testBit (s : Int).toNat) by rw [Int.toNat_natCast, htb]; simp)
        rw [testBit_true htb] at HN
        clear htb
        go_wp2_with fail
        refine (bit_z hI.out.2.1 (s : Int) (by omega) _ HTB.out).mono ?_
        rintro e wq ⟨rfl, hb⟩
        have HB := Lib.hid hb
        clear hb
        go_wp2
        go_roundw
        case rel =>
          refine ⟨s, 2 * f + 1, by simp, ?_, by omega, HN.out, hI.out.2.1.below HB.out, hI.out.2.2.trans (HB.out.mono hI.out.2.2.size)⟩
          rcases s with _ | s
          · exact .inr ⟨rfl, rfl⟩
          · exact .inl ⟨s, by simp, rfl⟩
        case measure => simp [intOf]
      | false =>
        have HTB := Lib.hid (show false = (decide (0 ≤ (s : Int)) && r.testBit (s : Int).toNat) by rw [Int.toNat_natCast, htb]; simp)
        rw [testBit_false htb] at HN
        clear htb
        go_wp2_with fail
        refine (bit_z hI.out.2.1 (s : Int) (by omega) _ HTB.out).mono ?_
        rintro e wq ⟨rfl, hb⟩
        have HB := Lib.hid hb
        clear hb
        go_wp2
        go_roundw
        case rel =>
          refine ⟨s, 2 * f + 0, by simp, ?_, by omega, HN.out, hI.out.2.1.below HB.out, hI.out.2.2.trans (HB.out.mono hI.out.2.2.size)⟩
          rcases s with _ | s
          · exact .inr ⟨rfl, rfl⟩
          · exact .inl ⟨s, by simp, rfl⟩
        case measure => simp [intOf]
    · have hf := hI.out.1.fin
      go_wp2
      go_ret2
      exact ⟨by rw [← hf]; rfl, hI.out.2.2⟩

theorem frac_low3 (a n : Int) (w : World) (h : n < 1) : Calls Try.prog 19 #[.int .u64 a, .int .i64 3, .int .i64 n] w fun e w' => e = .returned (.tuple #[.int .u64 0, .int .i64 2]) ∧ w = w' := by
  go_enter Try.func19, Try.ntmps19
  go_wp2
  go_ret2
  exact ⟨rfl, rfl⟩

theorem frac_high3 (a n : Int) (w : World) (h : 64 < n) : Calls Try.prog 19 #[.int .u64 a, .int .i64 3, .int .i64 n] w fun e w' => e = .returned (.tuple #[.int .u64 0, .int .i64 2]) ∧ w = w' := by
  have h1 : ¬ n < 1 := by omega
  go_enter Try.func19, Try.ntmps19
  go_wp2
  go_ret2
  exact ⟨rfl, rfl⟩

set_option maxHeartbeats 1000000 in
theorem frac_ok3 (A n : Nat) (a : Int) (w : World) (ha : a = A) (hA : A < 18446744073709551616) (h1 : 1 ≤ n) (h2 : n ≤ 64) (p : Nat) (hp : p = 3 * n) : Calls Try.prog 19 #[.int .u64 a, .int .i64 3, .int .i64 (n : Int)] w fun e w' => e = .returned (.tuple #[.int .u64 (rootN 3 (A * 2 ^ p) % 2 ^ n : Nat), .int .i64 0]) ∧ Below w.heap.size w w' := by
  have HA := Lib.hid ha
  have HA2 := Lib.hid hA
  have hp2 : p ≤ 192 := by omega
  have HP := Lib.hid (show (3 : Int) * (n : Int) = (p : Int) by omega)
  have HT := Lib.hid (frac_top hA hp2)
  have HR := Lib.hid (Nat.lt_of_le_of_lt ((rootN_is (k := 3) (A * 2 ^ p) (by decide)).le (by decide)) HT.out)
  obtain ⟨r, hr⟩ : ∃ r, r = rootN 3 (A * 2 ^ p) := ⟨_, rfl⟩
  rw [← hr] at HR ⊢
  have HRE := Lib.hid hr
  have F := Lib.hid (Below.refl w.heap.size w)
  clear ha hA hp hr
  go_enter Try.func19, Try.ntmps19
  go_wp2_with fail
  refine (of_z _ A _ HA.out HA2.out).mono ?_
  rintro e w1 ⟨⟨v1, rfl, ho⟩, hb⟩
  have O1 := Lib.hid (ho)
  replace F := Lib.hid (F.out.trans (hb.mono F.out.size))
  clear hb
  go_wp2_with fail
  refine (shl_okz O1.out _ p HP.out (by have := HP.out; omega) HT.out).mono ?_
  rintro e w2 ⟨⟨v2, rfl, ho⟩, hb⟩
  replace O1 := Lib.hid (O1.out.below hb)
  have O2 := Lib.hid (NatZ.of ho HT.out)
  replace F := Lib.hid (F.out.trans (hb.mono F.out.size))
  clear hb
  go_wp2_with fail
  refine (root_ok3 _ (A * 2 ^ p) _ O2.out HT.out).mono ?_
  rintro e w3 ⟨⟨v3, rfl, ho⟩, hb⟩
  replace O1 := Lib.hid (O1.out.below hb)
  replace O2 := Lib.hid (O2.out.below hb)
  have O3 := Lib.hid (by rw [← HRE.out] at ho; exact NatZ.of ho HR.out)
  replace F := Lib.hid (F.out.trans (hb.mono F.out.size))
  clear hb
  go_wp2
  go_loopw [12, 13] (fun fv i wr => ∃ t f : Nat, fv = .int .u64 (f : Int) ∧ ((∃ s : Nat, i = .int .i64 s ∧ t = s + 1) ∨ (i = .int .i64 (-1) ∧ t = 0)) ∧ t ≤ n ∧ Hid (FracI r n t f ∧ NatZ wr v3 r ∧ Below w.heap.size w wr)) (fun _ i _ => (intOf i + 1).toNat)
  case atStart => exact ⟨n, 0, rfl, .inl ⟨n - 1, by congr 1; omega, by omega⟩, Nat.le_refl _, FracI.start r n, O3.out, F.out⟩
  case round =>
    obtain ⟨t, f, rfl, hi, ht, hI⟩ := hrel
    rcases hi with ⟨s, rfl, rfl⟩ | ⟨rfl, rfl⟩
    · have hf := hI.out.1.lt h2
      have HN := Lib.hid (hI.out.1.step ht)
      cases htb : r.testBit s with
      | true =>
        have HTB := Lib.hid (show true = (decide (0 ≤ (s : Int)) && r.testBit (s : Int).toNat) by rw [Int.toNat_natCast, htb]; simp)
        rw [testBit_true htb] at HN
        clear htb
        go_wp2_with fail
        refine (bit_z hI.out.2.1 (s : Int) (by omega) _ HTB.out).mono ?_
        rintro e wq ⟨rfl, hb⟩
        have HB := Lib.hid hb
        clear hb
        go_wp2
        go_roundw
        case rel =>
          refine ⟨s, 2 * f + 1, by simp, ?_, by omega, HN.out, hI.out.2.1.below HB.out, hI.out.2.2.trans (HB.out.mono hI.out.2.2.size)⟩
          rcases s with _ | s
          · exact .inr ⟨rfl, rfl⟩
          · exact .inl ⟨s, by simp, rfl⟩
        case measure => simp [intOf]
      | false =>
        have HTB := Lib.hid (show false = (decide (0 ≤ (s : Int)) && r.testBit (s : Int).toNat) by rw [Int.toNat_natCast, htb]; simp)
        rw [testBit_false htb] at HN
        clear htb
        go_wp2_with fail
        refine (bit_z hI.out.2.1 (s : Int) (by omega) _ HTB.out).mono ?_
        rintro e wq ⟨rfl, hb⟩
        have HB := Lib.hid hb
        clear hb
        go_wp2
        go_roundw
        case rel =>
          refine ⟨s, 2 * f + 0, by simp, ?_, by omega, HN.out, hI.out.2.1.below HB.out, hI.out.2.2.trans (HB.out.mono hI.out.2.2.size)⟩
          rcases s with _ | s
          · exact .inr ⟨rfl, rfl⟩
          · exact .inl ⟨s, by simp, rfl⟩
        case measure => simp [intOf]
    · have hf := hI.out.1.fin
      go_wp2
      go_ret2
      exact ⟨by rw [← hf]; rfl, hI.out.2.2⟩

theorem frac_any (A : Nat) (a k n : Int) (w : World) (ha : a = A) (hA : A < 18446744073709551616) : Calls Try.prog 19 #[.int .u64 a, .int .i64 k, .int .i64 n] w fun e w' => RetsF (fracP A k n) e ∧ Below w.heap.size w w' := by
  by_cases h : k = 2 ∨ k = 3
  · by_cases h1 : 1 ≤ n ∧ n ≤ 64
    · obtain ⟨m, rfl⟩ : ∃ m : Nat, n = m := ⟨n.toNat, by omega⟩
      rcases h with rfl | rfl
      · have e := fracP_ok (A := A) (k := 2) (n := m) (p := 2 * m) (.inl rfl) (by omega) (by omega) rfl
        unfold RetsF
        rw [show fracP A 2 (m : Int) = _ from e]
        exact frac_ok2 A m a w ha hA (by omega) (by omega) (2 * m) rfl
      · have e := fracP_ok (A := A) (k := 3) (n := m) (p := 3 * m) (.inr rfl) (by omega) (by omega) rfl
        unfold RetsF
        rw [show fracP A 3 (m : Int) = _ from e]
        exact frac_ok3 A m a w ha hA (by omega) (by omega) (3 * m) rfl
    · unfold RetsF
      rw [fracP_bad (fun hc => h1 hc.2)]
      rcases Int.lt_or_le n 1 with h2 | h2
      · rcases h with rfl | rfl
        · exact (frac_low2 a n w h2).mono fun e w' ⟨he, hb⟩ => ⟨he, hb ▸ Below.refl _ _⟩
        · exact (frac_low3 a n w h2).mono fun e w' ⟨he, hb⟩ => ⟨he, hb ▸ Below.refl _ _⟩
      · rcases h with rfl | rfl
        · exact (frac_high2 a n w (by omega)).mono fun e w' ⟨he, hb⟩ => ⟨he, hb ▸ Below.refl _ _⟩
        · exact (frac_high3 a n w (by omega)).mono fun e w' ⟨he, hb⟩ => ⟨he, hb ▸ Below.refl _ _⟩
  · unfold RetsF
    rw [fracP_bad (fun hc => h hc.1)]
    exact (frac_bad1 a k n w (bne_iff_ne.2 (by omega)) (bne_iff_ne.2 (by omega))).mono fun e w' ⟨he, hb⟩ => ⟨he, hb ▸ Below.refl _ _⟩

end rf

end Go.Proofs.Ytfeajcgcjpngkaa
