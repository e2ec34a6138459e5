/-
  THE REFERENCE's Shr, walked. (Written by wip/gen_refA.py.)
-/
import Derived.Test.YtanimenpkinapaaRef9
namespace Go.Proofs.Ytanimenpkinapaa
open Go.RowKit
namespace rf

set_option maxRecDepth 100000 in
set_option maxHeartbeats 4000000 in
theorem shr_any (a : Option Addr) (len cap : Nat) (l : List Nat) (w : World) (h : Reads .u32 w a len cap l) (hL : Lim l) (hm : len ≤ 1000000000000) (n : Int) (hn : n ≤ 9223372036854775807) :
    Calls Try.prog 39 #[.slice a len cap, .int .i64 n] w fun e w' => RetsQ2 .u32 54 w.heap.size w' (shrR (val32 l) n) e ∧ Below w.heap.size w w' := by
  obtain ⟨i0, hi, hz0, hz1, hz2⟩ := info_parts infoI
  have HMY := Lib.hid (may_any a none len cap 0 0 l [] w h (Reads.none _ _) hL (fun _ h => by cases h) hm (by decide) _ rfl)
  by_cases h0 : n < 0
  · have hr := Lib.hid (show shrR (val32 l) n = ([], 2) from if_pos h0)
    rw [hr.out]
    clear HMY
    go_enter Try.func39, Try.ntmps39
    go_wp2
    go_ret2
    exact ⟨⟨_, rfl, OwnQ.nil _ _ _ _⟩, Below.refl _ _⟩
  · obtain ⟨k, rfl⟩ := Int.eq_ofNat_of_zero_le (show 0 ≤ n by omega)
    have hr := Lib.hid (show shrR (val32 l) (k : Int) = if val32 l < topN then (nat32 (val32 l / 2 ^ k), 0) else ([], 20) from by unfold shrR; rw [if_neg h0, Int.toNat_natCast])
    rw [hr.out]
    have hk63 : k ≤ 9223372036854775807 := by omega
    have HR := Lib.hid h
    have HL := Lib.hid hL
    clear h0 h hL hr hn
    have hb64 : bitsN (val32 l) ≤ 32 * len := by
      rw [bitsN_le, Nat.pow_mul, ← HR.out.length]; exact valB_lt (by decide) HL.out
    have hbt := (bitsN_le (val32 l) _).1 (Nat.le_refl _)
    obtain ⟨bb, hbb⟩ : ∃ bb, bb = bitsN (val32 l) := ⟨_, rfl⟩
    rw [← hbb] at hb64 hbt
    have HBB := Lib.hid hbb
    have HBT := Lib.hid hbt
    clear hbb hbt
    by_cases hin : val32 l < topN
    · rw [decide_eq_true (show val32 l < topN ∧ val32 [] < topN from ⟨hin, topN_pos⟩)] at HMY
      rw [if_pos hin]
      have HIN := Lib.hid (Nat.lt_of_le_of_lt (Nat.div_le_self (val32 l) (2 ^ k)) hin)
      clear hin
      have hb13 : bb ≤ 32000000000000 := by omega
      clear hb64
      go_enter Try.func39, Try.ntmps39
      go_wp2_with fail
      refine HMY.out.mono ?_
      rintro e w1 ⟨rfl, hb1⟩
      have H1 := Lib.hid hb1
      clear hb1
      go_wp2_with fail
      refine (bits_any a len cap l _ (HR.out.below H1.out) HL.out hm bb HBB.out).mono ?_
      rintro e w2 ⟨rfl, hb2⟩
      have H2 := Lib.hid (H1.out.trans (hb2.mono H1.out.size))
      clear hb2
      have HR2 := Lib.hid (HR.out.below H2.out)
      go_wp2
      go_loopw [8, 9, 10, 11, 12] (fun v p s i _ wr => ∃ (O : List Nat) (j pl ac : Nat), i = .int .i64 (j : Int) ∧ p = .int .i64 (pl : Int) ∧ s = .int .i64 (ac : Int) ∧ j ≤ 9223372036854775807 ∧ Hid (ShrI (val32 l) k bb O j pl ac) ∧ OwnQ .i64 3 w2.heap.size wr v O ∧ Hid (Below w2.heap.size w2 wr)) (fun _ _ _ i _ _ => bb - (intOf i).toNat)
      case atStart => exact ⟨[], k, 1, 0, rfl, rfl, rfl, hk63, shrI_start HBT.out, OwnQ.nil _ _ _ _, Below.refl _ _⟩
      case round =>
        obtain ⟨O, j, pl, ac, rfl, rfl, rfl, hj63, hinv, hown, hbel⟩ := hrel
        obtain ⟨wo, rfl⟩ : ∃ wo : World, wo = wr := ⟨_, rfl⟩
        obtain ⟨v2, n3, c3, rfl, -, hown⟩ := own_slice hown
        rcases hinv.out with ⟨K, s, hG⟩ | ⟨hge, hby, hval⟩
        · have HG := Lib.hid hG
          obtain ⟨hpl, hac⟩ := shr_place hG
          have hjb : j < bb := hG.2.2.1
          have hOl := Lib.hid (shr_len hG)
          have HO := Lib.hid hown
          clear hG hown hinv
          cases hbit : (val32 l).testBit j with
          | true =>
            have HC := Lib.hid (bit_any a len cap l wo (HR2.out.below hbel.out) HL.out hm (j : Int) (by omega) true (by simp [hbit]))
            rcases hpl with ⟨rfl, rfl⟩ | ⟨hs7, hpl⟩
            · have hst := Lib.hid (shr_push HBT.out HG.out (.inl rfl) (ac + 128) (by rw [hbit]; rfl))
              obtain ⟨hx256, hst2⟩ := hst.out
              have HST := Lib.hid hst2
              clear hst hst2 hbit HG
              go_wp2_with (first | (go_at_call 20; refine HC.out.mono ?_; rintro e w3 ⟨rfl, hb3⟩; have HB3 := Lib.hid (hbel.out.trans (hb3.mono hbel.out.size)); have HO3 := Lib.hid (OwnQ.below HO.out hb3); clear hb3) | (at_builtin; refine wpList_append_q .i64 _ rfl _ _ 33 rfl w2.heap.size 3 8 i0 Try.underlying33 hi hz0 hz1 hz2 (by decide) _ O rfl (HO3.out.alloc _) _ _ _ [ac + 128] rfl (Reads.one .i64 _ _ _ _ (by omega)) (by have := hOl.out; omega) (by have := HB3.out.size; simp; omega) ?_; intro v' w4 hown3 hgrow))
              go_roundw
              case rel => exact ⟨_, j + 1, 1, 0, by go_num, by go_num, by go_num, by omega, HST.out, hown3, hgrow _ (HB3.out.alloc HB3.out.size _)⟩
              case measure => simp [intOf] <;> omega
            · have t1 : ((2 * (pl : Int)) == 256) = false := by simp; omega
              by_cases hlast : j + 1 = bb
              · have t2 : ((j : Int) == (bb : Int) - 1) = true := by simp; omega
                have hst := Lib.hid (shr_push HBT.out HG.out (.inr hlast) (ac + pl) (by rw [hbit]; rfl))
                obtain ⟨hx256, hst2⟩ := hst.out
                have HST := Lib.hid hst2
                clear hst hst2 hbit HG
                go_wp2_with (first | (go_at_call 20; refine HC.out.mono ?_; rintro e w3 ⟨rfl, hb3⟩; have HB3 := Lib.hid (hbel.out.trans (hb3.mono hbel.out.size)); have HO3 := Lib.hid (OwnQ.below HO.out hb3); clear hb3) | (at_builtin; refine wpList_append_q .i64 _ rfl _ _ 33 rfl w2.heap.size 3 8 i0 Try.underlying33 hi hz0 hz1 hz2 (by decide) _ O rfl (HO3.out.alloc _) _ _ _ [ac + pl] rfl (Reads.one .i64 _ _ _ _ (by omega)) (by have := hOl.out; omega) (by have := HB3.out.size; simp; omega) ?_; intro v' w4 hown3 hgrow))
                go_roundw
                case rel => exact ⟨_, j + 1, 1, 0, by go_num, by go_num, by go_num, by omega, HST.out, hown3, hgrow _ (HB3.out.alloc HB3.out.size _)⟩
                case measure => simp [intOf] <;> omega
              · have t2 : ((j : Int) == (bb : Int) - 1) = false := by simp; omega
                have HST := Lib.hid (shr_go HG.out hs7 (by omega) (ac + pl) (by rw [hbit]; rfl))
                clear hbit HG
                go_wp2_with (go_at_call 20; refine HC.out.mono ?_; rintro e w3 ⟨rfl, hb3⟩; have HB3 := Lib.hid (hbel.out.trans (hb3.mono hbel.out.size)); have HO3 := Lib.hid (OwnQ.below HO.out hb3); clear hb3)
                go_roundw
                case rel => exact ⟨_, j + 1, 2 * pl, ac + pl, by go_num, by go_num, by go_num, by omega, HST.out, HO3.out, HB3.out⟩
                case measure => simp [intOf] <;> omega
          | false =>
            have HC := Lib.hid (bit_any a len cap l wo (HR2.out.below hbel.out) HL.out hm (j : Int) (by omega) false (by simp [hbit]))
            rcases hpl with ⟨rfl, rfl⟩ | ⟨hs7, hpl⟩
            · have hst := Lib.hid (shr_push HBT.out HG.out (.inl rfl) (ac) (by rw [hbit]; rfl))
              obtain ⟨hx256, hst2⟩ := hst.out
              have HST := Lib.hid hst2
              clear hst hst2 hbit HG
              go_wp2_with (first | (go_at_call 20; refine HC.out.mono ?_; rintro e w3 ⟨rfl, hb3⟩; have HB3 := Lib.hid (hbel.out.trans (hb3.mono hbel.out.size)); have HO3 := Lib.hid (OwnQ.below HO.out hb3); clear hb3) | (at_builtin; refine wpList_append_q .i64 _ rfl _ _ 33 rfl w2.heap.size 3 8 i0 Try.underlying33 hi hz0 hz1 hz2 (by decide) _ O rfl (HO3.out.alloc _) _ _ _ [ac] rfl (Reads.one .i64 _ _ _ _ (by omega)) (by have := hOl.out; omega) (by have := HB3.out.size; simp; omega) ?_; intro v' w4 hown3 hgrow))
              go_roundw
              case rel => exact ⟨_, j + 1, 1, 0, by go_num, by go_num, by go_num, by omega, HST.out, hown3, hgrow _ (HB3.out.alloc HB3.out.size _)⟩
              case measure => simp [intOf] <;> omega
            · have t1 : ((2 * (pl : Int)) == 256) = false := by simp; omega
              by_cases hlast : j + 1 = bb
              · have t2 : ((j : Int) == (bb : Int) - 1) = true := by simp; omega
                have hst := Lib.hid (shr_push HBT.out HG.out (.inr hlast) (ac) (by rw [hbit]; rfl))
                obtain ⟨hx256, hst2⟩ := hst.out
                have HST := Lib.hid hst2
                clear hst hst2 hbit HG
                go_wp2_with (first | (go_at_call 20; refine HC.out.mono ?_; rintro e w3 ⟨rfl, hb3⟩; have HB3 := Lib.hid (hbel.out.trans (hb3.mono hbel.out.size)); have HO3 := Lib.hid (OwnQ.below HO.out hb3); clear hb3) | (at_builtin; refine wpList_append_q .i64 _ rfl _ _ 33 rfl w2.heap.size 3 8 i0 Try.underlying33 hi hz0 hz1 hz2 (by decide) _ O rfl (HO3.out.alloc _) _ _ _ [ac] rfl (Reads.one .i64 _ _ _ _ (by omega)) (by have := hOl.out; omega) (by have := HB3.out.size; simp; omega) ?_; intro v' w4 hown3 hgrow))
                go_roundw
                case rel => exact ⟨_, j + 1, 1, 0, by go_num, by go_num, by go_num, by omega, HST.out, hown3, hgrow _ (HB3.out.alloc HB3.out.size _)⟩
                case measure => simp [intOf] <;> omega
              · have t2 : ((j : Int) == (bb : Int) - 1) = false := by simp; omega
                have HST := Lib.hid (shr_go HG.out hs7 (by omega) (ac) (by rw [hbit]; rfl))
                clear hbit HG
                go_wp2_with (go_at_call 20; refine HC.out.mono ?_; rintro e w3 ⟨rfl, hb3⟩; have HB3 := Lib.hid (hbel.out.trans (hb3.mono hbel.out.size)); have HO3 := Lib.hid (OwnQ.below HO.out hb3); clear hb3)
                go_roundw
                case rel => exact ⟨_, j + 1, 2 * pl, ac, by go_num, by go_num, by go_num, by omega, HST.out, HO3.out, HB3.out⟩
                case measure => simp [intOf] <;> omega
        · have hby2 := Lib.hid hby
          have hv2 := Lib.hid hval
          have HC := Lib.hid (cut_any _ _ _ O _ hown.reads hby2.out)
          rw [hv2.out, cutR_small HIN.out] at HC
          have hsz := hbel.out.size
          clear hown hby hval hinv
          go_wp2_with fail
          refine HC.out.mono ?_
          rintro e w3 ⟨⟨v3, rfl, ho3⟩, hb3⟩
          have HBZ := Lib.hid (H2.out.trans ((hbel.out.trans (hb3.mono hsz)).mono H2.out.size))
          go_wp2
          go_ret2
          exact ⟨⟨_, rfl, ho3.mono (Nat.le_trans H2.out.size hsz)⟩, HBZ.out⟩
    · rw [decide_eq_false (fun e : val32 l < topN ∧ val32 [] < topN => hin e.1)] at HMY
      rw [if_neg hin]
      clear hin
      go_enter Try.func39, Try.ntmps39
      go_wp2_with fail
      refine HMY.out.mono ?_
      rintro e w1 ⟨rfl, hb1⟩
      have H1 := Lib.hid hb1
      clear hb1
      go_wp2
      go_ret2
      exact ⟨⟨_, rfl, OwnQ.nil _ _ _ _⟩, H1.out⟩

end rf

end Go.Proofs.Ytanimenpkinapaa
