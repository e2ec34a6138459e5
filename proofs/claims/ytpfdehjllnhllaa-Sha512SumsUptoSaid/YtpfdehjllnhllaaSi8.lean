/-
  SHA-2, the reference: First. (Written by wip/gen_sh8.py; Prime as in XPriO.)
-/
import Derived.Test.YtpfdehjllnhllaaSi7
import Derived.Test.YtpfdehjllnhllaaPriP
namespace Go.Proofs.Ytpfdehjllnhllaa
open Go.RowKit

theorem div_le {p d : Nat} (hp : p < 100000) (h : ∀ e, 2 ≤ e → e < d → e * e ≤ p) : d ≤ 317 := by
  rcases Nat.lt_or_ge 317 d with hd | hd
  · have := h 317 (by decide) hd
    omega
  · exact hd
theorem div_next {p d : Nat} (h : ∀ e, 2 ≤ e → e < d → e * e ≤ p) (hd : d * d ≤ p) : ∀ e, 2 ≤ e → e < d + 1 → e * e ≤ p := fun e h1 h2 => by
  rcases Nat.lt_or_ge e d with h3 | h3
  · exact h e h1 h3
  · obtain rfl : e = d := by omega
    exact hd
theorem div_more {p d : Nat} (h : ∀ e, 2 ≤ e → e < d → p % e ≠ 0) (hd : p % d ≠ 0) : ∀ e, 2 ≤ e → e < d + 1 → p % e ≠ 0 := fun e h1 h2 => by
  rcases Nat.lt_or_ge e d with h3 | h3
  · exact h e h1 h3
  · obtain rfl : e = d := by omega
    exact hd
theorem prime_end {p d : Nat} (hp : 2 ≤ p) (h : ∀ e, 2 ≤ e → e < d → p % e ≠ 0) (hd : p < d * d) : isPrime p = true :=
  (isPrime_iff p).2 ⟨hp, fun e h1 h2 => h e h1 (by
    rcases Nat.lt_or_ge e d with h3 | h3
    · exact h3
    · have := Nat.mul_le_mul h3 h3
      omega)⟩
theorem prime_not {p d : Nat} (h2 : 2 ≤ d) (hd : d * d ≤ p) (h : p % d = 0) : isPrime p = false := by
  cases hi : isPrime p with
  | false => rfl
  | true => exact absurd h (((isPrime_iff p).1 hi).2 d h2 hd)

set_option maxHeartbeats 1000000 in
theorem prime_any (p : Nat) (w : World) (h2 : 2 ≤ p) (hp : p < 100000) (r : Bool) (hr : r = isPrime p) :
    Calls Try.prog 31 #[.int .i64 (p : Int)] w fun e w' => e = .returned (.bool r) ∧ w = w' := by
  have HR := Lib.hid hr
  clear hr
  go_enter Try.func31, Try.ntmps31
  go_wp2
  go_loop [3] (fun dv => ∃ d : Nat, dv = .int .i64 (d : Int) ∧ 2 ≤ d ∧ d ≤ 317 ∧ Hid ((∀ e, 2 ≤ e → e < d → e * e ≤ p) ∧ ∀ e, 2 ≤ e → e < d → p % e ≠ 0)) (fun dv => 400 - (intOf dv).toNat)
  case atStart => exact ⟨2, rfl, Nat.le_refl _, by decide, fun e h1 h2 => by omega, fun e h1 h2 => by omega⟩
  case round =>
    obtain ⟨d, rfl, hd2, hd3, hI⟩ := hrel
    obtain ⟨s, hs⟩ : ∃ s, s = d * d := ⟨_, rfl⟩
    have hcast : (d : Int) * (d : Int) = (s : Int) := by rw [hs, Int.natCast_mul]
    have hsb : s < 200000 := by
      rw [hs]
      exact Nat.lt_of_le_of_lt (Nat.mul_le_mul hd3 hd3) (by decide)
    have HS := Lib.hid hs
    clear hs
    rcases Nat.lt_or_ge p s with hlt | hge
    · have HE := Lib.hid (prime_end h2 hI.out.2 (HS.out ▸ hlt))
      go_wp2
      all_goals go_ret
      all_goals exact ⟨by rw [HR.out, HE.out]; rfl, rfl⟩
    · have HG := Lib.hid (show d * d ≤ p from HS.out ▸ hge)
      by_cases hm : p % d = 0
      · have HE := Lib.hid (prime_not hd2 HG.out hm)
        have t1 : ((p : Int) % (d : Int) == 0) = true := by rw [← Int.natCast_emod, hm]; rfl
        clear hm
        go_wp2
        all_goals go_ret
        all_goals exact ⟨by rw [HR.out, HE.out]; rfl, rfl⟩
      · have HM := Lib.hid hm
        have t1 : ((p : Int) % (d : Int) == 0) = false := by rw [← Int.natCast_emod]; simp; omega
        clear hm
        have HN := Lib.hid (div_next hI.out.1 HG.out)
        have HL := Lib.hid (div_le hp HN.out)
        go_wp2
        all_goals go_round
        case rel => exact ⟨d + 1, by go_num, by omega, HL.out, HN.out, div_more hI.out.2 HM.out⟩
        case measure => simp [intOf]; omega


def primesL : List Nat := [2,3,5,7,11,13,17,19,23,29,31,37,41,43,47,53,59,61,67,71,73,79,83,89,97,101,103,107,109,113,127,131,137,139,149,151,157,163,167,173,179,181,191,193,197,199,211,223,227,229,233,239,241,251,257,263,269,271,277,281,283,293,307,311,313,317,331,337,347,349,353,359,367,373,379,383,389,397,401,409]
theorem primesL_eq : primesTo 410 = primesL := eq_of_eqM (by kernel_rfl)
theorem primesL_len : primesL.length = 80 := rfl
theorem few_le {k : Nat} (h : (primesTo k).length < 80) : k < 410 := by
  rcases Nat.lt_or_ge k 410 with hk | hk
  · exact hk
  · have := primesTo_len hk
    rw [primesL_eq, primesL_len] at this
    omega
theorem infoI' : (Try.prog.info? 3).map (fun i => (i.zero, i.size, i.bytes)) = some (some (.int .i64 0), 1, 8) := by kernel_rfl
set_option maxRecDepth 100000 in
set_option maxHeartbeats 2000000 in
theorem first_any (w : World) :
    Calls Try.prog 18 #[.int .i64 80] w fun e w' => (∃ v, e = .returned (.tuple #[v, .int .i64 0]) ∧ OwnQ .i64 3 w.heap.size w' v primesL) ∧ Below w.heap.size w w' := by
  obtain ⟨i0, hi, hz0, hz1, hz2⟩ := info_parts infoI'
  go_enter Try.func18, Try.ntmps18
  go_wp2
  go_loopw [4, 5] (fun lv kv wr => ∃ (k m c : Nat) (a : Option Addr), lv = .slice a m c ∧ kv = .int .i64 (k : Int) ∧ 2 ≤ k ∧ k ≤ 410 ∧ m ≤ 80 ∧ Hid (OwnQ .i64 3 w.heap.size wr (.slice a m c) (primesTo k) ∧ m = (primesTo k).length ∧ Below w.heap.size w wr)) (fun _ kv _ => 9000 - (intOf kv).toNat)
  case atStart => exact ⟨2, 0, 0, none, rfl, rfl, Nat.le_refl _, by decide, Nat.zero_le _, OwnQ.nil _ _ _ _, rfl, Below.refl _ _⟩
  case round =>
    obtain ⟨k, m, c, a, rfl, rfl, hk2, hk8, hmN, hI⟩ := hrel
    rcases Nat.lt_or_ge m 80 with hlt | hge
    · have hk := few_le (k := k) (by rw [← hI.out.2.1]; exact hlt)
      cases hp : isPrime k with
      | false =>
        have HP := Lib.hid hp
        have HE := Lib.hid (show primesTo (k + 1) = primesTo k by rw [primesTo_succ, if_neg (by rw [HP.out]; decide)])
        clear hp
        go_wp2_with fail
        refine (prime_any k wr hk2 (by omega) false HP.out.symm).mono ?_
        rintro e w1 ⟨rfl, rfl⟩
        go_wp2
        go_roundw
        case rel => exact ⟨k + 1, m, c, a, rfl, by go_num, by omega, by omega, hmN, by rw [HE.out]; exact hI.out.1, by rw [HE.out]; exact hI.out.2.1, hI.out.2.2⟩
        case measure => simp [intOf]; omega
      | true =>
        have HP := Lib.hid hp
        have HE := Lib.hid (show primesTo (k + 1) = primesTo k ++ [k] by rw [primesTo_succ, if_pos HP.out])
        clear hp
        go_wp2_with fail
        refine (prime_any k wr hk2 (by omega) true HP.out.symm).mono ?_
        rintro e w1 ⟨rfl, rfl⟩
        go_wp2_with (at_builtin; refine wpList_append_q .i64 _ rfl _ _ 48 rfl w.heap.size 3 8 i0 Try.underlying48 hi hz0 hz1 hz2 (by decide) _ (primesTo k) rfl (hI.out.1.alloc _) _ _ _ [k] rfl (Reads.one .i64 _ _ _ _ rfl) (by rw [← hI.out.2.1]; omega) (by have := hI.out.2.2.size; simp; omega) ?_; intro v' w2 hown2 hgrow; obtain ⟨a2, n2, c2, rfl, hn2, hown3⟩ := own_sl hown2; have HO2 := Lib.hid hown3; have HN2 := Lib.hid hn2; have HB2 := Lib.hid (hgrow w (hI.out.2.2.alloc hI.out.2.2.size _)); clear hown2 hown3 hgrow hn2)
        go_roundw
        case rel => exact ⟨k + 1, _, _, _, rfl, by go_num, by omega, by omega, by rw [HN2.out, List.length_append, ← hI.out.2.1]; exact hlt, by rw [HE.out]; exact HO2.out, by rw [HE.out]; exact HN2.out, HB2.out⟩
        case measure => simp [intOf]; omega
    · have HE := Lib.hid (show primesTo k = primesL by
        have h1 := primesTo_take hk8
        rw [primesL_eq, ← hI.out.2.1, List.take_of_length_le (by rw [primesL_len]; exact hge)] at h1
        exact h1.symm)
      have t2 : decide ((m : Int) < 80) = false := by simp; omega
      go_wp2
      go_ret2
      exact ⟨⟨_, rfl, HE.out ▸ hI.out.1⟩, hI.out.2.2⟩

end Go.Proofs.Ytpfdehjllnhllaa
