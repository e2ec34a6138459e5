/-
  PRIMES: within.
-/
import Derived.Test.YtfeajcgcjpngkaaNatH
import Derived.Test.YtfeajcgcjpngkaaPriM
namespace Go.Proofs.Ytfeajcgcjpngkaa
open Go.RowKit

theorem ordN_cases (x y : Nat) : (ordN x y = -1 ∧ x < y) ∨ (ordN x y = 0 ∧ x = y) ∨ (ordN x y = 1 ∧ y < x) := by
  rcases Nat.lt_trichotomy x y with h | h | h
  · exact .inl ⟨ordN_lt h, h⟩
  · exact .inr (.inl ⟨ordN_eq h, h⟩)
  · exact .inr (.inr ⟨ordN_gt h, h⟩)

theorem trim_ok {x : Value} {n : Nat} {w : World} (hx : NatAt w x n) (h : n < topN) : Calls Try.prog 31 #[x] w fun e w' => (∃ v, e = .returned (.tuple #[v, .int .i64 0]) ∧ OwnQ .u32 39 w.heap.size w' v (nat32 n)) ∧ Below w.heap.size w w' := by
  obtain ⟨a, len, cap, l, rfl, hr, hl, rfl⟩ := hx
  refine (trim_any _ _ _ _ w hr hl).mono fun e w' ⟨he, hb⟩ => ⟨?_, hb⟩
  rw [cutR_small h] at he
  exact he
theorem trim_no {x : Value} {n : Nat} {w : World} (hx : NatAt w x n) (h : ¬ n < topN) : Calls Try.prog 31 #[x] w fun e w' => (∃ v, e = .returned (.tuple #[v, .int .i64 20])) ∧ Below w.heap.size w w' := by
  obtain ⟨a, len, cap, l, rfl, hr, hl, rfl⟩ := hx
  refine (trim_any _ _ _ _ w hr hl).mono fun e w' ⟨he, hb⟩ => ⟨?_, hb⟩
  rw [cutR_large h] at he
  obtain ⟨v, rfl, _⟩ := he
  exact ⟨v, rfl⟩
theorem mul_ok {x y : Value} {n m : Nat} {w : World} (hx : NatAt w x n) (hy : NatAt w y m) (hn : n < topN) (hm : m < topN) (h : n * m < topN) : Calls Try.prog 50 #[x, y] w fun e w' => (∃ v, e = .returned (.tuple #[v, .int .i64 0]) ∧ OwnQ .u32 39 w.heap.size w' v (nat32 (n * m))) ∧ Below w.heap.size w w' := by
  obtain ⟨a, len, cap, l, rfl, hr, hl, rfl⟩ := hx
  obtain ⟨a', len', cap', l', rfl, hr', hl', rfl⟩ := hy
  refine (mul_any _ _ _ _ _ _ _ _ w hr hr' hl hl').mono fun e w' ⟨he, hb⟩ => ⟨?_, hb⟩
  rw [mulR_yes hn hm, cutR_small h] at he
  exact he
theorem mul_no {x y : Value} {n m : Nat} {w : World} (hx : NatAt w x n) (hy : NatAt w y m) (hn : n < topN) (hm : m < topN) (h : ¬ n * m < topN) : Calls Try.prog 50 #[x, y] w fun e w' => (∃ v, e = .returned (.tuple #[v, .int .i64 20])) ∧ Below w.heap.size w w' := by
  obtain ⟨a, len, cap, l, rfl, hr, hl, rfl⟩ := hx
  obtain ⟨a', len', cap', l', rfl, hr', hl', rfl⟩ := hy
  refine (mul_any _ _ _ _ _ _ _ _ w hr hr' hl hl').mono fun e w' ⟨he, hb⟩ => ⟨?_, hb⟩
  rw [mulR_yes hn hm, cutR_large h] at he
  obtain ⟨v, rfl, _⟩ := he
  exact ⟨v, rfl⟩

set_option maxHeartbeats 1000000 in
theorem within_any (x y : Value) (R X k : Nat) (w : World) (hx : NatAt w x R) (hy : NatAt w y X) (hR : R < topN) (hX : X < topN) (hk : k = 2 ∨ k = 3) (c : Bool) (hc : c = decide (R ^ k ≤ X)) :
    Calls Try.prog 34 #[x, y, .int .i64 (k : Int)] w fun e w' => e = .returned (.bool c) ∧ Below w.heap.size w w' := by
  have NX := Lib.hid hx
  have NY := Lib.hid hy
  have HR := Lib.hid hR
  have HX := Lib.hid hX
  have HC := Lib.hid hc
  have hk1 : 2 ≤ k ∧ k ≤ 3 := by omega
  clear hx hy hR hX hk hc
  go_enter Try.func34, Try.ntmps34
  go_wp2
  go_loopw [7, 12] (fun v i wr => ∃ j : Nat, i = .int .i64 (j : Int) ∧ j + 1 ≤ k ∧ Hid (NatAt wr v (R ^ (j + 1)) ∧ R ^ (j + 1) < topN ∧ NatAt wr x R ∧ NatAt wr y X ∧ Below w.heap.size w wr)) (fun _ i _ => 4 - (intOf i).toNat)
  case atStart => exact ⟨0, rfl, by omega, by rw [Nat.zero_add, Nat.pow_one]; exact ⟨NX.out, HR.out, NX.out, NY.out, Below.refl _ _⟩⟩
  case round =>
    obtain ⟨j, rfl, hj, hI⟩ := hrel
    rcases Nat.lt_or_ge (j + 1) k with hlt | hge
    · by_cases hm : R ^ (j + 1) * R < topN
      · have HM := Lib.hid hm
        clear hm
        go_wp2_with fail
        refine (mul_ok hI.out.1 hI.out.2.2.1 hI.out.2.1 HR.out HM.out).mono ?_
        rintro e w1 ⟨⟨v1, rfl, ho⟩, hb⟩
        have O := Lib.hid (NatC.of ho).at
        have HB := Lib.hid hb
        clear ho hb
        go_wp2
        go_roundw
        case rel => exact ⟨j + 1, rfl, hlt, by rw [Nat.pow_succ]; exact O.out, by rw [Nat.pow_succ]; exact HM.out, hI.out.2.2.1.below HB.out, hI.out.2.2.2.1.below HB.out, hI.out.2.2.2.2.trans (HB.out.mono hI.out.2.2.2.2.size)⟩
        case measure => simp [intOf]; omega
      · have HM := Lib.hid hm
        have HF := Lib.hid (show false = c by rw [HC.out, decide_eq_false (pow_over HX.out hm (by omega))])
        clear hm
        go_wp2_with fail
        refine (mul_no hI.out.1 hI.out.2.2.1 hI.out.2.1 HR.out HM.out).mono ?_
        rintro e w1 ⟨⟨v1, rfl⟩, hb⟩
        have HB := Lib.hid (hI.out.2.2.2.2.trans (hb.mono hI.out.2.2.2.2.size))
        clear hb
        go_wp2
        go_ret
        exact ⟨by rw [← HF.out]; rfl, HB.out⟩
    · obtain rfl : k = j + 1 := by omega
      rcases ordN_cases (R ^ (j + 1)) X with ⟨ho, hl⟩ | ⟨ho, hl⟩ | ⟨ho, hl⟩
      · have HO := Lib.hid ho.symm
        have HF := Lib.hid (show true = c by rw [HC.out, decide_eq_true (Nat.le_of_lt hl)])
        clear ho hl
        go_wp2_with fail
        refine (cmp_nat hI.out.1 hI.out.2.2.2.1 _ HO.out).mono ?_
        rintro e w1 ⟨rfl, hb⟩
        have HB := Lib.hid (hI.out.2.2.2.2.trans (hb.mono hI.out.2.2.2.2.size))
        clear hb
        go_wp2
        go_ret
        exact ⟨by rw [← HF.out]; rfl, HB.out⟩
      · have HO := Lib.hid ho.symm
        have HF := Lib.hid (show true = c by rw [HC.out, decide_eq_true (Nat.le_of_eq hl)])
        clear ho hl
        go_wp2_with fail
        refine (cmp_nat hI.out.1 hI.out.2.2.2.1 _ HO.out).mono ?_
        rintro e w1 ⟨rfl, hb⟩
        have HB := Lib.hid (hI.out.2.2.2.2.trans (hb.mono hI.out.2.2.2.2.size))
        clear hb
        go_wp2
        go_ret
        exact ⟨by rw [← HF.out]; rfl, HB.out⟩
      · have HO := Lib.hid ho.symm
        have HF := Lib.hid (show false = c by rw [HC.out, decide_eq_false (Nat.not_le_of_lt hl)])
        clear ho hl
        go_wp2_with fail
        refine (cmp_nat hI.out.1 hI.out.2.2.2.1 _ HO.out).mono ?_
        rintro e w1 ⟨rfl, hb⟩
        have HB := Lib.hid (hI.out.2.2.2.2.trans (hb.mono hI.out.2.2.2.2.size))
        clear hb
        go_wp2
        go_ret
        exact ⟨by rw [← HF.out]; rfl, HB.out⟩

end Go.Proofs.Ytfeajcgcjpngkaa
