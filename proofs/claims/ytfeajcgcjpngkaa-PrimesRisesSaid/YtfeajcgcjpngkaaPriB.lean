/-
  PRIMES: Root.
-/
import Derived.Test.YtfeajcgcjpngkaaPriA
import Derived.Test.YtfeajcgcjpngkaaNatZ
namespace Go.Proofs.Ytfeajcgcjpngkaa
open Go.RowKit

theorem add_ok {x y : Value} {n m : Nat} {w : World} (hx : NatAt w x n) (hy : NatAt w y m) (h : n + m < topN) : Calls Try.prog 25 #[x, y] w fun e w' => (∃ v, e = .returned (.tuple #[v, .int .i64 0]) ∧ OwnQ .u32 39 w.heap.size w' v (nat32 (n + m))) ∧ Below w.heap.size w w' := by
  obtain ⟨a, len, cap, l, rfl, hr, hl, rfl⟩ := hx
  obtain ⟨a', len', cap', l', rfl, hr', hl', rfl⟩ := hy
  refine (add_any _ _ _ _ _ _ _ _ w hr hr' hl hl').mono fun e w' ⟨he, hb⟩ => ⟨?_, hb⟩
  rw [cutR_small h] at he
  exact he
theorem of_c (n : Int) (k : Nat) (hk : n = k) (w : World) (hn : k < 18446744073709551616) : Calls Try.prog 21 #[.int .u64 n] w fun e w' => (∃ v, e = .returned v ∧ NatC w' v k) ∧ Below w.heap.size w w' :=
  (of_any n k hk w hn).mono fun e w' ⟨⟨v, he, hv⟩, hb⟩ => ⟨⟨v, he, NatC.of hv⟩, hb⟩

theorem pow_split (a b c : Nat) (h : a = b + c) : 2 ^ a = 2 ^ b * 2 ^ c := by rw [h, Nat.pow_add]
theorem topN_sq : topN = 2 ^ 4096 * 2 ^ 4096 := topN_two.trans (pow_split 8192 4096 4096 (by decide))
theorem sum_top {k X R i : Nat} (hX : X < topN) (hk : 2 ≤ k) (h : R ^ k ≤ X) (hi : i ≤ 4096) : R < 2 ^ 4096 ∧ R + 2 ^ i < topN := sum_lt_at' 4096 (by decide) topN_sq hX hk h hi
theorem two_top {i : Nat} (hi : i ≤ 4096) : 1 * 2 ^ i < topN := by
  rw [Nat.one_mul]
  have := (sum_top (k := 2) (X := 0) (R := 0) topN_pos (Nat.le_refl _) (by decide) hi).2
  rwa [Nat.zero_add] at this

theorem rooted_any (k : Int) (w : World) (c : Bool) (hc : c = decide (k = 2 ∨ k = 3)) : Calls Try.prog 30 #[.int .i64 k] w fun e w' => e = .returned (.bool c) ∧ w = w' := by
  by_cases h2 : k = 2
  · subst h2
    obtain rfl : c = true := by rw [hc]; rfl
    clear hc
    go_enter Try.func30, Try.ntmps30
    go_wp2
    go_ret
    exact ⟨rfl, rfl⟩
  · by_cases h3 : k = 3
    · subst h3
      obtain rfl : c = true := by rw [hc]; rfl
      clear hc h2
      go_enter Try.func30, Try.ntmps30
      go_wp2
      go_ret
      exact ⟨rfl, rfl⟩
    · obtain rfl : c = false := by rw [hc]; exact decide_eq_false (by omega)
      clear hc
      go_enter Try.func30, Try.ntmps30
      go_wp2
      go_ret
      refine ⟨?_, rfl⟩
      show Ending.returned (.bool (k == 2 || k == 3)) = _
      simp [h2, h3]

theorem root_bad (x : Value) (k : Int) (w : World) (h : ¬ (k = 2 ∨ k = 3)) : Calls Try.prog 16 #[x, .int .i64 k] w fun e w' => e = .returned (.tuple #[.slice none 0 0, .int .i64 2]) ∧ w = w' := by
  have HF := Lib.hid (show false = decide (k = 2 ∨ k = 3) from (decide_eq_false h).symm)
  clear h
  go_enter Try.func16, Try.ntmps16
  go_wp2_with fail
  refine (rooted_any k w _ HF.out).mono ?_
  rintro e w1 ⟨rfl, rfl⟩
  go_wp2
  go_ret2
  exact ⟨rfl, rfl⟩

theorem root_big (x : Value) (X : Nat) (k : Int) (w : World) (hx : NatAt w x X) (hX : ¬ X < topN) (h : k = 2 ∨ k = 3) : Calls Try.prog 16 #[x, .int .i64 k] w fun e w' => e = .returned (.tuple #[.slice none 0 0, .int .i64 20]) ∧ Below w.heap.size w w' := by
  have HF := Lib.hid (show true = decide (k = 2 ∨ k = 3) from (decide_eq_true h).symm)
  have NX := Lib.hid hx
  have HX := Lib.hid hX
  clear h hx hX
  go_enter Try.func16, Try.ntmps16
  go_wp2_with fail
  refine (rooted_any k w _ HF.out).mono ?_
  rintro e w1 ⟨rfl, rfl⟩
  go_wp2_with fail
  refine (trim_no NX.out HX.out).mono ?_
  rintro e w1 ⟨⟨v, rfl⟩, hb⟩
  have HB := Lib.hid hb
  clear hb
  go_wp2
  go_ret2
  exact ⟨rfl, HB.out⟩

set_option maxHeartbeats 1000000 in
theorem root_ok (x : Value) (X k : Nat) (w : World) (hx : NatAt w x X) (hX : X < topN) (hk : k = 2 ∨ k = 3) : Calls Try.prog 16 #[x, .int .i64 (k : Int)] w fun e w' => (∃ v, e = .returned (.tuple #[v, .int .i64 0]) ∧ OwnQ .u32 39 w.heap.size w' v (nat32 (rootN k X))) ∧ Below w.heap.size w w' := by
  have HF := Lib.hid (show true = decide ((k : Int) = 2 ∨ (k : Int) = 3) from (decide_eq_true (by omega)).symm)
  have NX := Lib.hid hx
  have HX := Lib.hid hX
  have HK := Lib.hid hk
  obtain ⟨b, hb⟩ : ∃ b, b = bitsN X := ⟨_, rfl⟩
  have hb2 : b ≤ 8192 := by rw [hb, bitsN_le, ← topN_two]; exact hX
  have HST := Lib.hid (RootI.start (k := k) (X := X) (b := b) (by omega) ((bitsN_le X b).1 (by omega)))
  obtain ⟨q, hq⟩ : ∃ q, q = b / k := ⟨_, rfl⟩
  have hq2 : q ≤ 4096 := by
    rw [hq]
    rcases hk with rfl | rfl <;> omega
  have hqe : Int.tdiv (b : Int) (k : Int) = (q : Int) := by rw [hq]; rfl
  have HQ := Lib.hid hq
  have HB := Lib.hid hb
  have hk1 : 2 ≤ k ∧ k ≤ 3 := by omega
  clear hx hX hk hq hb
  go_enter Try.func16, Try.ntmps16
  go_wp2_with fail
  refine (rooted_any _ w _ HF.out).mono ?_
  rintro e w1 ⟨rfl, rfl⟩
  go_wp2_with fail
  refine (trim_ok NX.out HX.out).mono ?_
  rintro e w1 ⟨⟨y, rfl, ho⟩, hb⟩
  have NY := Lib.hid (NatZ.of ho HX.out)
  have B1 := Lib.hid hb
  clear ho hb
  go_wp2_with fail
  refine (bits_nat NY.out.at (by rintro a len cap rfl; obtain ⟨_, _, _, _, h, _, _, _, hm⟩ := NY.out; cases h; omega) b HB.out).mono ?_
  rintro e w2 ⟨rfl, rfl⟩
  go_wp2
  go_loopw [7, 8] (fun v i wr => ∃ t R : Nat, ((∃ s : Nat, i = .int .i64 s ∧ t = s + 1) ∨ (i = .int .i64 (-1) ∧ t = 0)) ∧ t ≤ 4097 ∧ Hid (RootI k X R t ∧ OwnQ .u32 39 w.heap.size wr v (nat32 R) ∧ NatZ wr y X ∧ Below w.heap.size w wr)) (fun _ i _ => (intOf i + 1).toNat)
  case atStart => exact ⟨q + 1, 0, .inl ⟨q, rfl, rfl⟩, by omega, by rw [HQ.out]; exact HST.out, by rw [show nat32 0 = [] from natB_zero _]; exact OwnQ.nil _ _ _ _, NY.out, B1.out⟩
  case round =>
    obtain ⟨t, R, hi, ht, hI⟩ := hrel
    rcases hi with ⟨s, rfl, rfl⟩ | ⟨rfl, rfl⟩
    · have hs := Lib.hid (sum_top HX.out hk1.1 hI.out.1.1 (show s ≤ 4096 by omega))
      have h2 := Lib.hid (two_top (show s ≤ 4096 by omega))
      by_cases hc : (R + 2 ^ s) ^ k ≤ X
      · have HC := Lib.hid (show true = decide ((R + 2 ^ s) ^ k ≤ X) from (decide_eq_true hc).symm)
        have HN := Lib.hid (hI.out.1.take hc)
        clear hc
        go_wp2_with fail
        refine (of_c 1 1 rfl _ (by decide)).mono ?_
        rintro e w3 ⟨⟨v3, rfl, ho⟩, hb⟩
        have O3 := Lib.hid ho
        have F := Lib.hid hb
        clear ho hb
        go_wp2_with fail
        refine (shl_nat O3.out.at (s : Int) s rfl (by omega) h2.out).mono ?_
        rintro e w4 ⟨⟨v4, rfl, ho⟩, hb⟩
        have O4 := Lib.hid (show NatC w4 v4 (2 ^ s) by rw [Nat.one_mul] at ho; exact ho)
        replace F := Lib.hid (F.out.trans (hb.mono F.out.size))
        clear ho hb
        go_wp2_with fail
        refine (add_ok (NatC.of (hI.out.2.1.below F.out)).at O4.out.at hs.out.2).mono ?_
        rintro e w5 ⟨⟨v5, rfl, ho⟩, hb⟩
        have O5 := Lib.hid (ho.mono (Nat.le_trans hI.out.2.2.2.size F.out.size))
        replace F := Lib.hid (F.out.trans (hb.mono F.out.size))
        clear ho hb
        go_wp2_with fail
        refine (within_any _ _ (R + 2 ^ s) X k _ (NatC.of O5.out).at (hI.out.2.2.1.below F.out).at hs.out.2 HX.out HK.out _ HC.out).mono ?_
        rintro e w6 ⟨rfl, hb⟩
        replace O5 := Lib.hid (O5.out.below hb)
        replace F := Lib.hid (F.out.trans (hb.mono F.out.size))
        clear hb
        go_wp2
        go_roundw
        case rel =>
          refine ⟨s, R + 2 ^ s, ?_, by omega, HN.out, O5.out, hI.out.2.2.1.below F.out, hI.out.2.2.2.trans (F.out.mono hI.out.2.2.2.size)⟩
          rcases s with _ | s
          · exact .inr ⟨rfl, rfl⟩
          · exact .inl ⟨s, by simp, rfl⟩
        case measure => simp [intOf]
      · have HC := Lib.hid (show false = decide ((R + 2 ^ s) ^ k ≤ X) from (decide_eq_false hc).symm)
        have HN := Lib.hid (hI.out.1.skip hc)
        clear hc
        go_wp2_with fail
        refine (of_c 1 1 rfl _ (by decide)).mono ?_
        rintro e w3 ⟨⟨v3, rfl, ho⟩, hb⟩
        have O3 := Lib.hid ho
        have F := Lib.hid hb
        clear ho hb
        go_wp2_with fail
        refine (shl_nat O3.out.at (s : Int) s rfl (by omega) h2.out).mono ?_
        rintro e w4 ⟨⟨v4, rfl, ho⟩, hb⟩
        have O4 := Lib.hid (show NatC w4 v4 (2 ^ s) by rw [Nat.one_mul] at ho; exact ho)
        replace F := Lib.hid (F.out.trans (hb.mono F.out.size))
        clear ho hb
        go_wp2_with fail
        refine (add_ok (NatC.of (hI.out.2.1.below F.out)).at O4.out.at hs.out.2).mono ?_
        rintro e w5 ⟨⟨v5, rfl, ho⟩, hb⟩
        have O5 := Lib.hid (ho.mono (Nat.le_trans hI.out.2.2.2.size F.out.size))
        replace F := Lib.hid (F.out.trans (hb.mono F.out.size))
        clear ho hb
        go_wp2_with fail
        refine (within_any _ _ (R + 2 ^ s) X k _ (NatC.of O5.out).at (hI.out.2.2.1.below F.out).at hs.out.2 HX.out HK.out _ HC.out).mono ?_
        rintro e w6 ⟨rfl, hb⟩
        replace F := Lib.hid (F.out.trans (hb.mono F.out.size))
        clear hb
        go_wp2
        go_roundw
        case rel =>
          refine ⟨s, R, ?_, by omega, HN.out, hI.out.2.1.below F.out, hI.out.2.2.1.below F.out, hI.out.2.2.2.trans (F.out.mono hI.out.2.2.2.size)⟩
          rcases s with _ | s
          · exact .inr ⟨rfl, rfl⟩
          · exact .inl ⟨s, by simp, rfl⟩
        case measure => simp [intOf]
    · have HR := Lib.hid (rootN_eq (by omega) hI.out.1.fin)
      go_wp2
      go_ret2
      exact ⟨⟨_, rfl, by rw [← HR.out]; exact hI.out.2.1⟩, hI.out.2.2.2⟩

theorem root_any (x : Value) (X : Nat) (k : Int) (w : World) (hx : NatAt w x X) : Calls Try.prog 16 #[x, .int .i64 k] w fun e w' => RetsQ2 .u32 39 w.heap.size w' (rootP X k) e ∧ Below w.heap.size w w' := by
  by_cases h : k = 2 ∨ k = 3
  · by_cases hX : X < topN
    · rw [rootP_ok h hX]
      rcases h with rfl | rfl
      · exact root_ok x X 2 w hx hX (.inl rfl)
      · exact root_ok x X 3 w hx hX (.inr rfl)
    · rw [rootP_big h hX]
      exact (root_big x X k w hx hX h).mono fun e w' ⟨he, hb⟩ => ⟨⟨_, he, OwnQ.nil _ _ _ _⟩, hb⟩
  · rw [rootP_bad h]
    exact (root_bad x k w h).mono fun e w' ⟨he, hb⟩ => ⟨⟨_, he, OwnQ.nil _ _ _ _⟩, hb ▸ Below.refl _ _⟩

end Go.Proofs.Ytfeajcgcjpngkaa
