/-
  THE REFERENCE OF PRIMES: Power, Root.
-/
import Derived.Test.YtfeajcgcjpngkaaPriB
namespace Go.Proofs.Ytfeajcgcjpngkaa
open Go.RowKit
theorem sum2_top {k X R i : Nat} (hX : X < topN) (hk : 2 ≤ k) (h : R ^ k ≤ X) (hi : i ≤ 4097) : R + 2 ^ i < topN ∧ R + (R + 2 ^ i) < topN ∧ 2 ^ i < topN := sum2_lt_at 4096 (by decide) topN_sq hX hk h hi
theorem half_zero (L : Nat) : (L + (L + 2 ^ 0)) / 2 ^ 1 = L := by rw [Nat.pow_zero, Nat.pow_one]; omega
theorem half_succ (L s : Nat) : (L + (L + 2 ^ (s + 1))) / 2 ^ 1 = L + 2 ^ s := by rw [Nat.pow_one, Nat.pow_succ]; omega

namespace rf
theorem mul_noz {x y : Value} {X Y : Nat} {w : World} (hx : NatZ w x X) (hy : NatZ w y Y) (hX : X < topN) (hY : Y < topN) (h : ¬ X * Y < topN) : Calls Try.prog 58 #[x, y] w fun e w' => (∃ v, e = .returned (.tuple #[v, .int .i64 20])) ∧ Below w.heap.size w w' := by
  obtain ⟨a, n, c, l, rfl, hr, hl, rfl, hm⟩ := hx
  obtain ⟨a', n', c', l', rfl, hr', hl', rfl, hm'⟩ := hy
  refine (mul_any a a' n c n' c' l l' w hr hr' hl hl' hm hm').mono fun e w' ⟨he, hb⟩ => ⟨?_, hb⟩
  rw [mulR_yes ⟨hX, hY⟩, cutR_large h] at he
  obtain ⟨v, rfl, _⟩ := he
  exact ⟨v, rfl⟩

theorem ordR_cases (x y : Nat) : (ordR x y = -1 ∧ x < y) ∨ (ordR x y = 0 ∧ x = y) ∨ (ordR x y = 1 ∧ y < x) := by
  unfold ordR
  rcases Nat.lt_trichotomy x y with h | h | h
  · exact .inl ⟨by rw [if_pos h], h⟩
  · exact .inr (.inl ⟨by rw [if_neg (by omega), if_neg (by omega)], h⟩)
  · exact .inr (.inr ⟨by rw [if_neg (by omega), if_pos h], h⟩)

set_option maxHeartbeats 1000000 in
theorem power_ok (x : Value) (R k : Nat) (w : World) (hx : NatZ w x R) (hR : R < topN) (hk : k = 2 ∨ k = 3) (h : R ^ k < topN) :
    Calls Try.prog 41 #[x, .int .i64 (k : Int)] w fun e w' => (∃ v, e = .returned (.tuple #[v, .bool true]) ∧ NatZ w' v (R ^ k)) ∧ Below w.heap.size w w' := by
  have NX := Lib.hid hx
  have HR := Lib.hid hR
  have HP := Lib.hid h
  have hk1 : 2 ≤ k ∧ k ≤ 3 := by omega
  clear hx hR hk h
  go_enter Try.func41, Try.ntmps41
  go_wp2
  go_loopw [6, 7] (fun v i wr => ∃ j : Nat, i = .int .i64 (j : Int) ∧ 1 ≤ j ∧ j ≤ k ∧ Hid (NatZ wr v (R ^ j) ∧ R ^ j < topN ∧ NatZ wr x R ∧ Below w.heap.size w wr)) (fun _ i _ => 4 - (intOf i).toNat)
  case atStart => exact ⟨1, rfl, by omega, by omega, by rw [Nat.pow_one]; exact ⟨NX.out, HR.out, NX.out, Below.refl _ _⟩⟩
  case round =>
    obtain ⟨j, rfl, hj1, hj, hI⟩ := hrel
    rcases Nat.lt_or_ge j k with hlt | hge
    · have HM := Lib.hid (pow_below HP.out (show j + 1 ≤ k from hlt))
      go_wp2_with fail
      refine (mul_okz hI.out.1 hI.out.2.2.1 hI.out.2.1 HR.out HM.out).mono ?_
      rintro e w1 ⟨⟨v1, rfl, ho⟩, hb⟩
      have O := Lib.hid (NatZ.of ho HM.out)
      have HB := Lib.hid hb
      clear ho hb
      go_wp2
      go_roundw
      case rel => exact ⟨j + 1, rfl, by omega, hlt, by rw [Nat.pow_succ]; exact O.out, by rw [Nat.pow_succ]; exact HM.out, hI.out.2.2.1.below HB.out, hI.out.2.2.2.trans (HB.out.mono hI.out.2.2.2.size)⟩
      case measure => simp [intOf]; omega
    · obtain rfl : k = j := by omega
      go_wp2
      go_ret2
      exact ⟨⟨_, rfl, hI.out.1⟩, hI.out.2.2.2⟩

set_option maxHeartbeats 1000000 in
theorem power_no (x : Value) (R k : Nat) (w : World) (hx : NatZ w x R) (hR : R < topN) (hk : k = 2 ∨ k = 3) (h : ¬ R ^ k < topN) :
    Calls Try.prog 41 #[x, .int .i64 (k : Int)] w fun e w' => e = .returned (.tuple #[.slice none 0 0, .bool false]) ∧ Below w.heap.size w w' := by
  have NX := Lib.hid hx
  have HR := Lib.hid hR
  have HP := Lib.hid h
  have hk1 : 2 ≤ k ∧ k ≤ 3 := by omega
  clear hx hR hk h
  go_enter Try.func41, Try.ntmps41
  go_wp2
  go_loopw [6, 7] (fun v i wr => ∃ j : Nat, i = .int .i64 (j : Int) ∧ 1 ≤ j ∧ j ≤ k ∧ Hid (NatZ wr v (R ^ j) ∧ R ^ j < topN ∧ NatZ wr x R ∧ Below w.heap.size w wr)) (fun _ i _ => 4 - (intOf i).toNat)
  case atStart => exact ⟨1, rfl, by omega, by omega, by rw [Nat.pow_one]; exact ⟨NX.out, HR.out, NX.out, Below.refl _ _⟩⟩
  case round =>
    obtain ⟨j, rfl, hj1, hj, hI⟩ := hrel
    rcases Nat.lt_or_ge j k with hlt | hge
    · by_cases hm : R ^ j * R < topN
      · have HM := Lib.hid hm
        clear hm
        go_wp2_with fail
        refine (mul_okz hI.out.1 hI.out.2.2.1 hI.out.2.1 HR.out HM.out).mono ?_
        rintro e w1 ⟨⟨v1, rfl, ho⟩, hb⟩
        have O := Lib.hid (NatZ.of ho HM.out)
        have HB := Lib.hid hb
        clear ho hb
        go_wp2
        go_roundw
        case rel => exact ⟨j + 1, rfl, by omega, hlt, by rw [Nat.pow_succ]; exact O.out, by rw [Nat.pow_succ]; exact HM.out, hI.out.2.2.1.below HB.out, hI.out.2.2.2.trans (HB.out.mono hI.out.2.2.2.size)⟩
        case measure => simp [intOf]; omega
      · have HM := Lib.hid hm
        clear hm
        go_wp2_with fail
        refine (mul_noz hI.out.1 hI.out.2.2.1 hI.out.2.1 HR.out HM.out).mono ?_
        rintro e w1 ⟨⟨v1, rfl⟩, hb⟩
        have HB := Lib.hid (hI.out.2.2.2.trans (hb.mono hI.out.2.2.2.size))
        clear hb
        go_wp2
        go_ret2
        exact ⟨rfl, HB.out⟩
    · obtain rfl : k = j := by omega
      exact (HP.out hI.out.2.1).elim

theorem root_bad (x : Value) (k : Int) (w : World) (h : ¬ (k = 2 ∨ k = 3)) : Calls Try.prog 17 #[x, .int .i64 k] w fun e w' => e = .returned (.tuple #[.slice none 0 0, .int .i64 2]) ∧ w = w' := by
  have h2 : (k != 2) = true := bne_iff_ne.2 (by omega)
  have h3 : (k != 3) = true := bne_iff_ne.2 (by omega)
  clear h
  go_enter Try.func17, Try.ntmps17
  go_wp2
  go_ret2
  exact ⟨rfl, rfl⟩

theorem root_big (x : Value) (X : Nat) (k : Int) (w : World) (hx : NatZ w x X) (hX : ¬ X < topN) (h : k = 2 ∨ k = 3) : Calls Try.prog 17 #[x, .int .i64 k] w fun e w' => e = .returned (.tuple #[.slice none 0 0, .int .i64 20]) ∧ Below w.heap.size w w' := by
  have NX := Lib.hid hx
  have HX := Lib.hid (show false = decide (X < topN ∧ 0 < topN) from (decide_eq_false (fun h => hX h.1)).symm)
  clear hx hX
  rcases h with rfl | rfl
  · go_enter Try.func17, Try.ntmps17
    go_wp2_with fail
    refine (may_z NX.out (NatZ.nil _) _ HX.out).mono ?_
    rintro e w1 ⟨rfl, hb⟩
    have HB := Lib.hid hb
    clear hb
    go_wp2
    go_ret2
    exact ⟨rfl, HB.out⟩
  · go_enter Try.func17, Try.ntmps17
    go_wp2_with fail
    refine (may_z NX.out (NatZ.nil _) _ HX.out).mono ?_
    rintro e w1 ⟨rfl, hb⟩
    have HB := Lib.hid hb
    clear hb
    go_wp2
    go_ret2
    exact ⟨rfl, HB.out⟩

end rf
end Go.Proofs.Ytfeajcgcjpngkaa
