/-
  THE REFERENCE OF PRIMES: Root, where it answers.
-/
import Derived.Test.YtfeajcgcjpngkaaPriR
namespace Go.Proofs.Ytfeajcgcjpngkaa
open Go.RowKit

namespace rf
set_option maxRecDepth 100000 in
set_option maxHeartbeats 2000000 in
theorem root_ok2 (x : Value) (X : Nat) (w : World) (hx : NatZ w x X) (hX : X < topN) : Calls Try.prog 17 #[x, .int .i64 (2 : Int)] w fun e w' => (∃ v, e = .returned (.tuple #[v, .int .i64 0]) ∧ OwnQ .u32 39 w.heap.size w' v (nat32 (rootN 2 X))) ∧ Below w.heap.size w w' := by
  have HF := Lib.hid (show true = decide (X < topN ∧ 0 < topN) from (decide_eq_true ⟨hX, topN_pos⟩).symm)
  have NX := Lib.hid hx
  have HX := Lib.hid hX
  obtain ⟨b, hb⟩ : ∃ b, b = Go.Proofs.Ytfeajcgcjpngkaa.bitsN X := ⟨_, rfl⟩
  have hb2 : b ≤ 8192 := by rw [hb, Go.Proofs.Ytfeajcgcjpngkaa.bitsN_le, ← topN_two]; exact hX
  obtain ⟨q, hq⟩ : ∃ q, q = b / 2 := ⟨_, rfl⟩
  have hq2 : q ≤ 4096 := by
    rw [hq]
    omega
  have HST := Lib.hid (show RootI 2 X 0 (q + 1) by rw [hq]; exact RootI.start (k := 2) (X := X) (b := b) (by decide) ((Go.Proofs.Ytfeajcgcjpngkaa.bitsN_le X b).1 (by omega)))
  have hqe := Lib.hid (show (b : Int) / 2 + 1 = ((q + 1 : Nat) : Int) by omega)
  have HB := Lib.hid hb
  have H2 := Lib.hid (sum2_top HX.out (by decide) HST.out.1 (show q + 1 ≤ 4097 by omega))
  clear hx hX hq hb
  go_enter Try.func17, Try.ntmps17
  go_wp2_with fail
  refine (may_z NX.out (NatZ.nil _) _ HF.out).mono ?_
  rintro e w1 ⟨rfl, hb⟩
  replace NX := Lib.hid (NX.out.below hb)
  have F := Lib.hid hb
  clear hb
  go_wp2_with fail
  refine (bits_z (NX.out.below ((Below.refl _ _).alloc (Nat.le_refl _) _)) b HB.out).mono ?_
  rintro e w2 ⟨rfl, hb⟩
  have NO := Lib.hid ((NatZ.one w1 39).below hb)
  replace hb := ((Below.refl w1.heap.size w1).alloc (Nat.le_refl _) (.cells #[.int .u32 1] 39)).trans (hb.mono (by simp))
  replace NX := Lib.hid (NX.out.below hb)
  replace F := Lib.hid (F.out.trans (hb.mono F.out.size))
  clear hb
  go_wp2_with fail
  refine (shl_okz NO.out _ (q + 1) hqe.out (by have := hqe.out; omega) (by rw [Nat.one_mul]; exact H2.out.2.2)).mono ?_
  rintro e w3 ⟨⟨hv, rfl, ho⟩, hb⟩
  have O := Lib.hid (show NatZ w3 hv (0 + 2 ^ (q + 1)) by rw [Nat.zero_add]; rw [Nat.one_mul] at ho; exact NatZ.of ho H2.out.2.2)
  replace NX := Lib.hid (NX.out.below hb)
  replace F := Lib.hid (F.out.trans (hb.mono F.out.size))
  clear hb ho NO
  go_wp2
  go_loopw [8, 9, 11] (fun lv hv i wr => ∃ n t L : Nat, i = .int .i64 (n : Int) ∧ n + t = q + 1 ∧ Hid (RootI 2 X L t ∧ OwnQ .u32 39 w.heap.size wr lv (nat32 L) ∧ NatZ wr hv (L + 2 ^ t) ∧ NatZ wr x X ∧ Below w.heap.size w wr)) (fun _ _ i _ => 9000 - (intOf i).toNat)
  case atStart => exact ⟨0, q + 1, 0, rfl, by omega, HST.out, by rw [show nat32 0 = [] from natB_zero _]; exact OwnQ.nil _ _ _ _, O.out, NX.out, F.out⟩
  case round =>
    obtain ⟨n, t, L, rfl, hnt, hI⟩ := hrel
    have hs := Lib.hid (sum2_top HX.out (by decide) hI.out.1.1 (show t ≤ 4097 by omega))
    have HL := Lib.hid (show L < topN from Nat.lt_of_le_of_lt (Nat.le_add_right _ _) hs.out.1)
    have NL := Lib.hid (NatZ.of hI.out.2.1 HL.out)
    go_wp2_with fail
    refine (add_okz NL.out hI.out.2.2.1 hs.out.2.1).mono ?_
    rintro e w4 ⟨⟨v4, rfl, ho⟩, hb⟩
    have O4 := Lib.hid (NatZ.of ho hs.out.2.1)
    have F4 := Lib.hid hb
    clear ho hb
    go_wp2_with fail
    refine (shr_okz O4.out 1 1 rfl (by decide) hs.out.2.1).mono ?_
    rcases t with _ | s
    · rw [half_zero]
      rintro e w5 ⟨⟨v5, rfl, ho⟩, hb⟩
      have O5 := Lib.hid (NatZ.of ho HL.out)
      replace F4 := Lib.hid (F4.out.trans (hb.mono F4.out.size))
      clear ho hb
      have HR := Lib.hid (rootN_eq (by decide) hI.out.1.fin)
      go_wp2_with fail
      refine (cmp_z O5.out (NL.out.below F4.out) 0 (by unfold ordR; rw [if_neg (by omega), if_neg (by omega)])).mono ?_
      rintro e w6 ⟨rfl, hb⟩
      replace F4 := Lib.hid (F4.out.trans (hb.mono F4.out.size))
      clear hb
      go_wp2
      go_ret2
      exact ⟨⟨_, rfl, by rw [← HR.out]; exact hI.out.2.1.below F4.out⟩, hI.out.2.2.2.2.trans (F4.out.mono hI.out.2.2.2.2.size)⟩
    · rw [half_succ]
      rintro e w5 ⟨⟨v5, rfl, ho⟩, hb⟩
      have HM := Lib.hid (sum2_top HX.out (by decide) hI.out.1.1 (show s ≤ 4097 by omega)).1
      have O5 := Lib.hid (ho.mono (Nat.le_trans hI.out.2.2.2.2.size F4.out.size))
      have N5 := Lib.hid (NatZ.of ho HM.out)
      replace F4 := Lib.hid (F4.out.trans (hb.mono F4.out.size))
      clear ho hb
      have h2s := Lib.hid (show 0 < 2 ^ s from Nat.pow_pos (by decide))
      go_wp2_with fail
      refine (cmp_z N5.out (NL.out.below F4.out) 1 (by have := h2s.out; unfold ordR; rw [if_neg (by omega), if_pos (by omega)])).mono ?_
      rintro e w6 ⟨rfl, hb⟩
      replace F4 := Lib.hid (F4.out.trans (hb.mono F4.out.size))
      replace O5 := Lib.hid (O5.out.below hb)
      replace N5 := Lib.hid (N5.out.below hb)
      clear hb
      by_cases hf : (L + 2 ^ s) ^ 2 < topN
      · have HP := Lib.hid hf
        clear hf
        by_cases hc : (L + 2 ^ s) ^ 2 ≤ X
        · have HN := Lib.hid (hI.out.1.take hc)
          obtain ⟨o, ho, ho0⟩ : ∃ o, o = ordR ((L + 2 ^ s) ^ 2) X ∧ (o = -1 ∨ o = 0) := ⟨_, rfl, by rcases ordR_cases ((L + 2 ^ s) ^ 2) X with h | h | h <;> omega⟩
          have HO := Lib.hid ho
          clear ho hc
          go_wp2_with fail
          refine (power_ok _ (L + 2 ^ s) 2 _ N5.out HM.out (.inl rfl) HP.out).mono ?_
          rintro e w7 ⟨⟨v7, rfl, ho⟩, hb⟩
          have N7 := Lib.hid ho
          replace F4 := Lib.hid (F4.out.trans (hb.mono F4.out.size))
          replace O5 := Lib.hid (O5.out.below hb)
          clear ho hb
          go_wp2_with fail
          refine (cmp_z N7.out (hI.out.2.2.2.1.below F4.out) o HO.out).mono ?_
          rintro e w8 ⟨rfl, hb⟩
          replace F4 := Lib.hid (F4.out.trans (hb.mono F4.out.size))
          replace O5 := Lib.hid (O5.out.below hb)
          clear hb HO
          have hrel : ∃ n' t' L' : Nat, n + 1 = n' ∧ n' + t' = q + 1 ∧ L' = L + 2 ^ s ∧ t' = s := ⟨_, _, _, rfl, by omega, rfl, rfl⟩
          clear hrel
          rcases ho0 with rfl | rfl
          · go_wp2
            go_roundw
            case rel => exact ⟨n + 1, s, L + 2 ^ s, rfl, by omega, HN.out, O5.out, by rw [show L + 2 ^ s + 2 ^ s = L + 2 ^ (s + 1) by rw [Nat.pow_succ]; omega]; exact hI.out.2.2.1.below F4.out, hI.out.2.2.2.1.below F4.out, hI.out.2.2.2.2.trans (F4.out.mono hI.out.2.2.2.2.size)⟩
            case measure => simp [intOf]; omega
          · go_wp2
            go_roundw
            case rel => exact ⟨n + 1, s, L + 2 ^ s, rfl, by omega, HN.out, O5.out, by rw [show L + 2 ^ s + 2 ^ s = L + 2 ^ (s + 1) by rw [Nat.pow_succ]; omega]; exact hI.out.2.2.1.below F4.out, hI.out.2.2.2.1.below F4.out, hI.out.2.2.2.2.trans (F4.out.mono hI.out.2.2.2.2.size)⟩
            case measure => simp [intOf]; omega
        · have HN := Lib.hid (hI.out.1.skip hc)
          have HO := Lib.hid (show (1 : Int) = ordR ((L + 2 ^ s) ^ 2) X by rcases ordR_cases ((L + 2 ^ s) ^ 2) X with h | h | h <;> omega)
          clear hc
          go_wp2_with fail
          refine (power_ok _ (L + 2 ^ s) 2 _ N5.out HM.out (.inl rfl) HP.out).mono ?_
          rintro e w7 ⟨⟨v7, rfl, ho⟩, hb⟩
          have N7 := Lib.hid ho
          replace F4 := Lib.hid (F4.out.trans (hb.mono F4.out.size))
          replace N5 := Lib.hid (N5.out.below hb)
          clear ho hb
          go_wp2_with fail
          refine (cmp_z N7.out (hI.out.2.2.2.1.below F4.out) 1 HO.out).mono ?_
          rintro e w8 ⟨rfl, hb⟩
          replace F4 := Lib.hid (F4.out.trans (hb.mono F4.out.size))
          replace N5 := Lib.hid (N5.out.below hb)
          clear hb HO
          go_wp2
          go_roundw
          case rel => exact ⟨n + 1, s, L, rfl, by omega, HN.out, hI.out.2.1.below F4.out, N5.out, hI.out.2.2.2.1.below F4.out, hI.out.2.2.2.2.trans (F4.out.mono hI.out.2.2.2.2.size)⟩
          case measure => simp [intOf]; omega
      · have HN := Lib.hid (hI.out.1.skip (fun hc => hf (Nat.lt_of_le_of_lt hc HX.out)))
        have HP := Lib.hid hf
        clear hf
        go_wp2_with fail
        refine (power_no _ (L + 2 ^ s) 2 _ N5.out HM.out (.inl rfl) HP.out).mono ?_
        rintro e w7 ⟨rfl, hb⟩
        replace F4 := Lib.hid (F4.out.trans (hb.mono F4.out.size))
        replace N5 := Lib.hid (N5.out.below hb)
        clear hb
        go_wp2
        go_roundw
        case rel => exact ⟨n + 1, s, L, rfl, by omega, HN.out, hI.out.2.1.below F4.out, N5.out, hI.out.2.2.2.1.below F4.out, hI.out.2.2.2.2.trans (F4.out.mono hI.out.2.2.2.2.size)⟩
        case measure => simp [intOf]; omega

set_option maxRecDepth 100000 in
set_option maxHeartbeats 2000000 in
theorem root_ok3 (x : Value) (X : Nat) (w : World) (hx : NatZ w x X) (hX : X < topN) : Calls Try.prog 17 #[x, .int .i64 (3 : Int)] w fun e w' => (∃ v, e = .returned (.tuple #[v, .int .i64 0]) ∧ OwnQ .u32 39 w.heap.size w' v (nat32 (rootN 3 X))) ∧ Below w.heap.size w w' := by
  have HF := Lib.hid (show true = decide (X < topN ∧ 0 < topN) from (decide_eq_true ⟨hX, topN_pos⟩).symm)
  have NX := Lib.hid hx
  have HX := Lib.hid hX
  obtain ⟨b, hb⟩ : ∃ b, b = Go.Proofs.Ytfeajcgcjpngkaa.bitsN X := ⟨_, rfl⟩
  have hb2 : b ≤ 8192 := by rw [hb, Go.Proofs.Ytfeajcgcjpngkaa.bitsN_le, ← topN_two]; exact hX
  obtain ⟨q, hq⟩ : ∃ q, q = b / 3 := ⟨_, rfl⟩
  have hq2 : q ≤ 4096 := by
    rw [hq]
    omega
  have HST := Lib.hid (show RootI 3 X 0 (q + 1) by rw [hq]; exact RootI.start (k := 3) (X := X) (b := b) (by decide) ((Go.Proofs.Ytfeajcgcjpngkaa.bitsN_le X b).1 (by omega)))
  have hqe := Lib.hid (show (b : Int) / 3 + 1 = ((q + 1 : Nat) : Int) by omega)
  have HB := Lib.hid hb
  have H2 := Lib.hid (sum2_top HX.out (by decide) HST.out.1 (show q + 1 ≤ 4097 by omega))
  clear hx hX hq hb
  go_enter Try.func17, Try.ntmps17
  go_wp2_with fail
  refine (may_z NX.out (NatZ.nil _) _ HF.out).mono ?_
  rintro e w1 ⟨rfl, hb⟩
  replace NX := Lib.hid (NX.out.below hb)
  have F := Lib.hid hb
  clear hb
  go_wp2_with fail
  refine (bits_z (NX.out.below ((Below.refl _ _).alloc (Nat.le_refl _) _)) b HB.out).mono ?_
  rintro e w2 ⟨rfl, hb⟩
  have NO := Lib.hid ((NatZ.one w1 39).below hb)
  replace hb := ((Below.refl w1.heap.size w1).alloc (Nat.le_refl _) (.cells #[.int .u32 1] 39)).trans (hb.mono (by simp))
  replace NX := Lib.hid (NX.out.below hb)
  replace F := Lib.hid (F.out.trans (hb.mono F.out.size))
  clear hb
  go_wp2_with fail
  refine (shl_okz NO.out _ (q + 1) hqe.out (by have := hqe.out; omega) (by rw [Nat.one_mul]; exact H2.out.2.2)).mono ?_
  rintro e w3 ⟨⟨hv, rfl, ho⟩, hb⟩
  have O := Lib.hid (show NatZ w3 hv (0 + 2 ^ (q + 1)) by rw [Nat.zero_add]; rw [Nat.one_mul] at ho; exact NatZ.of ho H2.out.2.2)
  replace NX := Lib.hid (NX.out.below hb)
  replace F := Lib.hid (F.out.trans (hb.mono F.out.size))
  clear hb ho NO
  go_wp2
  go_loopw [8, 9, 11] (fun lv hv i wr => ∃ n t L : Nat, i = .int .i64 (n : Int) ∧ n + t = q + 1 ∧ Hid (RootI 3 X L t ∧ OwnQ .u32 39 w.heap.size wr lv (nat32 L) ∧ NatZ wr hv (L + 2 ^ t) ∧ NatZ wr x X ∧ Below w.heap.size w wr)) (fun _ _ i _ => 9000 - (intOf i).toNat)
  case atStart => exact ⟨0, q + 1, 0, rfl, by omega, HST.out, by rw [show nat32 0 = [] from natB_zero _]; exact OwnQ.nil _ _ _ _, O.out, NX.out, F.out⟩
  case round =>
    obtain ⟨n, t, L, rfl, hnt, hI⟩ := hrel
    have hs := Lib.hid (sum2_top HX.out (by decide) hI.out.1.1 (show t ≤ 4097 by omega))
    have HL := Lib.hid (show L < topN from Nat.lt_of_le_of_lt (Nat.le_add_right _ _) hs.out.1)
    have NL := Lib.hid (NatZ.of hI.out.2.1 HL.out)
    go_wp2_with fail
    refine (add_okz NL.out hI.out.2.2.1 hs.out.2.1).mono ?_
    rintro e w4 ⟨⟨v4, rfl, ho⟩, hb⟩
    have O4 := Lib.hid (NatZ.of ho hs.out.2.1)
    have F4 := Lib.hid hb
    clear ho hb
    go_wp2_with fail
    refine (shr_okz O4.out 1 1 rfl (by decide) hs.out.2.1).mono ?_
    rcases t with _ | s
    · rw [half_zero]
      rintro e w5 ⟨⟨v5, rfl, ho⟩, hb⟩
      have O5 := Lib.hid (NatZ.of ho HL.out)
      replace F4 := Lib.hid (F4.out.trans (hb.mono F4.out.size))
      clear ho hb
      have HR := Lib.hid (rootN_eq (by decide) hI.out.1.fin)
      go_wp2_with fail
      refine (cmp_z O5.out (NL.out.below F4.out) 0 (by unfold ordR; rw [if_neg (by omega), if_neg (by omega)])).mono ?_
      rintro e w6 ⟨rfl, hb⟩
      replace F4 := Lib.hid (F4.out.trans (hb.mono F4.out.size))
      clear hb
      go_wp2
      go_ret2
      exact ⟨⟨_, rfl, by rw [← HR.out]; exact hI.out.2.1.below F4.out⟩, hI.out.2.2.2.2.trans (F4.out.mono hI.out.2.2.2.2.size)⟩
    · rw [half_succ]
      rintro e w5 ⟨⟨v5, rfl, ho⟩, hb⟩
      have HM := Lib.hid (sum2_top HX.out (by decide) hI.out.1.1 (show s ≤ 4097 by omega)).1
      have O5 := Lib.hid (ho.mono (Nat.le_trans hI.out.2.2.2.2.size F4.out.size))
      have N5 := Lib.hid (NatZ.of ho HM.out)
      replace F4 := Lib.hid (F4.out.trans (hb.mono F4.out.size))
      clear ho hb
      have h2s := Lib.hid (show 0 < 2 ^ s from Nat.pow_pos (by decide))
      go_wp2_with fail
      refine (cmp_z N5.out (NL.out.below F4.out) 1 (by have := h2s.out; unfold ordR; rw [if_neg (by omega), if_pos (by omega)])).mono ?_
      rintro e w6 ⟨rfl, hb⟩
      replace F4 := Lib.hid (F4.out.trans (hb.mono F4.out.size))
      replace O5 := Lib.hid (O5.out.below hb)
      replace N5 := Lib.hid (N5.out.below hb)
      clear hb
      by_cases hf : (L + 2 ^ s) ^ 3 < topN
      · have HP := Lib.hid hf
        clear hf
        by_cases hc : (L + 2 ^ s) ^ 3 ≤ X
        · have HN := Lib.hid (hI.out.1.take hc)
          obtain ⟨o, ho, ho0⟩ : ∃ o, o = ordR ((L + 2 ^ s) ^ 3) X ∧ (o = -1 ∨ o = 0) := ⟨_, rfl, by rcases ordR_cases ((L + 2 ^ s) ^ 3) X with h | h | h <;> omega⟩
          have HO := Lib.hid ho
          clear ho hc
          go_wp2_with fail
          refine (power_ok _ (L + 2 ^ s) 3 _ N5.out HM.out (.inr rfl) HP.out).mono ?_
          rintro e w7 ⟨⟨v7, rfl, ho⟩, hb⟩
          have N7 := Lib.hid ho
          replace F4 := Lib.hid (F4.out.trans (hb.mono F4.out.size))
          replace O5 := Lib.hid (O5.out.below hb)
          clear ho hb
          go_wp2_with fail
          refine (cmp_z N7.out (hI.out.2.2.2.1.below F4.out) o HO.out).mono ?_
          rintro e w8 ⟨rfl, hb⟩
          replace F4 := Lib.hid (F4.out.trans (hb.mono F4.out.size))
          replace O5 := Lib.hid (O5.out.below hb)
          clear hb HO
          have hrel : ∃ n' t' L' : Nat, n + 1 = n' ∧ n' + t' = q + 1 ∧ L' = L + 2 ^ s ∧ t' = s := ⟨_, _, _, rfl, by omega, rfl, rfl⟩
          clear hrel
          rcases ho0 with rfl | rfl
          · go_wp2
            go_roundw
            case rel => exact ⟨n + 1, s, L + 2 ^ s, rfl, by omega, HN.out, O5.out, by rw [show L + 2 ^ s + 2 ^ s = L + 2 ^ (s + 1) by rw [Nat.pow_succ]; omega]; exact hI.out.2.2.1.below F4.out, hI.out.2.2.2.1.below F4.out, hI.out.2.2.2.2.trans (F4.out.mono hI.out.2.2.2.2.size)⟩
            case measure => simp [intOf]; omega
          · go_wp2
            go_roundw
            case rel => exact ⟨n + 1, s, L + 2 ^ s, rfl, by omega, HN.out, O5.out, by rw [show L + 2 ^ s + 2 ^ s = L + 2 ^ (s + 1) by rw [Nat.pow_succ]; omega]; exact hI.out.2.2.1.below F4.out, hI.out.2.2.2.1.below F4.out, hI.out.2.2.2.2.trans (F4.out.mono hI.out.2.2.2.2.size)⟩
            case measure => simp [intOf]; omega
        · have HN := Lib.hid (hI.out.1.skip hc)
          have HO := Lib.hid (show (1 : Int) = ordR ((L + 2 ^ s) ^ 3) X by rcases ordR_cases ((L + 2 ^ s) ^ 3) X with h | h | h <;> omega)
          clear hc
          go_wp2_with fail
          refine (power_ok _ (L + 2 ^ s) 3 _ N5.out HM.out (.inr rfl) HP.out).mono ?_
          rintro e w7 ⟨⟨v7, rfl, ho⟩, hb⟩
          have N7 := Lib.hid ho
          replace F4 := Lib.hid (F4.out.trans (hb.mono F4.out.size))
          replace N5 := Lib.hid (N5.out.below hb)
          clear ho hb
          go_wp2_with fail
          refine (cmp_z N7.out (hI.out.2.2.2.1.below F4.out) 1 HO.out).mono ?_
          rintro e w8 ⟨rfl, hb⟩
          replace F4 := Lib.hid (F4.out.trans (hb.mono F4.out.size))
          replace N5 := Lib.hid (N5.out.below hb)
          clear hb HO
          go_wp2
          go_roundw
          case rel => exact ⟨n + 1, s, L, rfl, by omega, HN.out, hI.out.2.1.below F4.out, N5.out, hI.out.2.2.2.1.below F4.out, hI.out.2.2.2.2.trans (F4.out.mono hI.out.2.2.2.2.size)⟩
          case measure => simp [intOf]; omega
      · have HN := Lib.hid (hI.out.1.skip (fun hc => hf (Nat.lt_of_le_of_lt hc HX.out)))
        have HP := Lib.hid hf
        clear hf
        go_wp2_with fail
        refine (power_no _ (L + 2 ^ s) 3 _ N5.out HM.out (.inr rfl) HP.out).mono ?_
        rintro e w7 ⟨rfl, hb⟩
        replace F4 := Lib.hid (F4.out.trans (hb.mono F4.out.size))
        replace N5 := Lib.hid (N5.out.below hb)
        clear hb
        go_wp2
        go_roundw
        case rel => exact ⟨n + 1, s, L, rfl, by omega, HN.out, hI.out.2.1.below F4.out, N5.out, hI.out.2.2.2.1.below F4.out, hI.out.2.2.2.2.trans (F4.out.mono hI.out.2.2.2.2.size)⟩
        case measure => simp [intOf]; omega

theorem root_any (x : Value) (X : Nat) (k : Int) (w : World) (hx : NatZ w x X) : Calls Try.prog 17 #[x, .int .i64 k] w fun e w' => RetsQ2 .u32 39 w.heap.size w' (rootP X k) e ∧ Below w.heap.size w w' := by
  by_cases h : k = 2 ∨ k = 3
  · by_cases hX : X < topN
    · rw [rootP_ok h hX]
      rcases h with rfl | rfl
      · exact root_ok2 x X w hx hX
      · exact root_ok3 x X w hx hX
    · rw [rootP_big h hX]
      exact (rf.root_big x X k w hx hX h).mono fun e w' ⟨he, hb⟩ => ⟨⟨_, he, OwnQ.nil _ _ _ _⟩, hb⟩
  · rw [rootP_bad h]
    exact (rf.root_bad x k w h).mono fun e w' ⟨he, hb⟩ => ⟨⟨_, he, OwnQ.nil _ _ _ _⟩, hb ▸ Below.refl _ _⟩
end rf
end Go.Proofs.Ytfeajcgcjpngkaa
