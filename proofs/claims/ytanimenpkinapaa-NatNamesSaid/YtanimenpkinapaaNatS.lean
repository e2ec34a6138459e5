/-
  THE LAW NatNames.
-/
import Derived.Test.YtanimenpkinapaaNatR
namespace Go.Proofs.Ytanimenpkinapaa
open Go.RowKit

set_option maxRecDepth 100000 in
set_option maxHeartbeats 8000000 in
theorem names_walk (w : World) : Calls Try.prog 6 #[] w fun e w' => e = .returned (.bool true) ∧ Below w.heap.size w w' := by
  obtain ⟨pa, hpa⟩ : ∃ a : Nat, a = 8191 := ⟨_, rfl⟩
  obtain ⟨pb, hpb⟩ : ∃ a : Nat, a = 8192 := ⟨_, rfl⟩
  obtain ⟨pc, hpc⟩ : ∃ a : Nat, a = 1099511627776 := ⟨_, rfl⟩
  have kc := Lib.hid (show (1099511627776 : Int) = (pc : Int) by omega)
  have hpf := pow_facts pa pb (by omega) (by rw [hpb]; exact topN_two)
  have tw1 := Lib.hid hpf.1
  have tw2 := Lib.hid hpf.2.1
  have tw3 := Lib.hid hpf.2.2.1
  have tw4 := Lib.hid hpf.2.2.2.1
  have tw6 := Lib.hid hpf.2.2.2.2
  have tw5 := Lib.hid (len_top pa 256 255 (pow_le _ _ (by omega)) (pow_lt _ _ (by omega)) rfl)
  have ka := Lib.hid (show (8191 : Int) = (pa : Int) by omega)
  have kb := Lib.hid (show (8192 : Int) = (pb : Int) by omega)
  clear hpf hpa hpb hpc
  obtain ⟨q1, hq1⟩ : ∃ a : Nat, a = 1024 := ⟨_, rfl⟩
  obtain ⟨q2, hq2⟩ : ∃ a : Nat, a = 2000 := ⟨_, rfl⟩
  obtain ⟨q3, hq3⟩ : ∃ a : Nat, a = 300 := ⟨_, rfl⟩
  have r1 := Lib.hid (show (1024 : Int) = (q1 : Int) by omega)
  have r2 := Lib.hid (show (2000 : Int) = (q2 : Int) by omega)
  have r3 := Lib.hid (show (300 : Int) = (q3 : Int) by omega)
  have s1 := Lib.hid hq1
  have s2 := Lib.hid hq2
  have s3 := Lib.hid hq3
  obtain ⟨i8, hi8, hi0, hi1, hi2⟩ := info_parts Try.info8
  obtain ⟨i32, hj8, hj0, hj1, hj2⟩ := info_parts Try.info32
  have rd1 := Lib.hid (show ¬ valB 256 (([1] ++ List.replicate q1 0).reverse) < topN by rw [topN_256, ← hq1]; exact big_bytes _)
  clear hq1 hq2 hq3
  go_enter Try.func6, Try.ntmps6
  go_wp2_with fail
  refine (of_nat 1 1 rfl _ (by decide)).mono ?_
  rintro e w1 ⟨⟨v, rfl, hv⟩, hb⟩
  have H0 := Lib.hid hb
  have A1 := Lib.hid hv
  clear hb hv
  go_wp2_with fail
  refine (of_nat 2 2 rfl _ (by decide)).mono ?_
  rintro e w2 ⟨⟨v, rfl, hv⟩, hb⟩
  replace H0 := Lib.hid (H0.out.trans (hb.mono H0.out.size))
  replace A1 := Lib.hid (A1.out.below hb)
  have A2 := Lib.hid hv
  clear hb hv
  go_wp2_with fail
  refine (sub_less A1.out.at A2.out.at (by decide)).mono ?_
  rintro e w3 ⟨⟨v, rfl⟩, hb⟩
  replace H0 := Lib.hid (H0.out.trans (hb.mono H0.out.size))
  replace A1 := Lib.hid (A1.out.below hb)
  replace A2 := Lib.hid (A2.out.below hb)
  clear hb
  clear A1 A2
  go_wp2_with fail
  refine (of_nat 4294967295 4294967295 rfl _ (by decide)).mono ?_
  rintro e w4 ⟨⟨v, rfl, hv⟩, hb⟩
  replace H0 := Lib.hid (H0.out.trans (hb.mono H0.out.size))
  have A3 := Lib.hid hv
  clear hb hv
  go_wp2_with fail
  refine (of_nat 4294967295 4294967295 rfl _ (by decide)).mono ?_
  rintro e w5 ⟨⟨v, rfl, hv⟩, hb⟩
  replace H0 := Lib.hid (H0.out.trans (hb.mono H0.out.size))
  replace A3 := Lib.hid (A3.out.below hb)
  have A4 := Lib.hid hv
  clear hb hv
  go_wp2_with fail
  refine (mul_nat A3.out.at A4.out.at (lt_top (by decide)) (lt_top (by decide)) (lt_top (by decide))).mono ?_
  rintro e w6 ⟨⟨v, rfl, hv⟩, hb⟩
  replace H0 := Lib.hid (H0.out.trans (hb.mono H0.out.size))
  replace A3 := Lib.hid (A3.out.below hb)
  replace A4 := Lib.hid (A4.out.below hb)
  have VA := Lib.hid hv
  clear hb hv
  clear A3 A4
  go_wp2_with fail
  refine (of_nat 3 3 rfl _ (by decide)).mono ?_
  rintro e w7 ⟨⟨v, rfl, hv⟩, hb⟩
  replace H0 := Lib.hid (H0.out.trans (hb.mono H0.out.size))
  replace VA := Lib.hid (VA.out.below hb)
  have A5 := Lib.hid hv
  clear hb hv
  go_wp2_with fail
  refine (shl_nat A5.out.at 33 33 rfl (by decide) (lt_top (by decide))).mono ?_
  rintro e w8 ⟨⟨v, rfl, hv⟩, hb⟩
  replace H0 := Lib.hid (H0.out.trans (hb.mono H0.out.size))
  replace VA := Lib.hid (VA.out.below hb)
  replace A5 := Lib.hid (A5.out.below hb)
  have VB := Lib.hid hv
  clear hb hv
  clear A5
  go_wp2_with fail
  refine (shr_nat VB.out.at 34 34 rfl (by decide) (lt_top (by decide))).mono ?_
  rintro e w9 ⟨⟨v, rfl, hv⟩, hb⟩
  replace H0 := Lib.hid (H0.out.trans (hb.mono H0.out.size))
  replace VA := Lib.hid (VA.out.below hb)
  replace VB := Lib.hid (VB.out.below hb)
  have VC := Lib.hid hv
  clear hb hv
  go_wp2_with fail
  refine (of_nat 1 1 rfl _ (by decide)).mono ?_
  rintro e w10 ⟨⟨v, rfl, hv⟩, hb⟩
  replace H0 := Lib.hid (H0.out.trans (hb.mono H0.out.size))
  replace VA := Lib.hid (VA.out.below hb)
  replace VB := Lib.hid (VB.out.below hb)
  replace VC := Lib.hid (VC.out.below hb)
  have A6 := Lib.hid hv
  clear hb hv
  go_wp2_with fail
  refine (shl_err A6.out.at 8192 pb kb.out (by decide) tw1.out).mono ?_
  rintro e w11 ⟨⟨v, rfl⟩, hb⟩
  replace H0 := Lib.hid (H0.out.trans (hb.mono H0.out.size))
  replace VA := Lib.hid (VA.out.below hb)
  replace VB := Lib.hid (VB.out.below hb)
  replace VC := Lib.hid (VC.out.below hb)
  replace A6 := Lib.hid (A6.out.below hb)
  clear hb
  clear A6
  go_wp2_with fail
  refine (of_nat 1 1 rfl _ (by decide)).mono ?_
  rintro e w12 ⟨⟨v, rfl, hv⟩, hb⟩
  replace H0 := Lib.hid (H0.out.trans (hb.mono H0.out.size))
  replace VA := Lib.hid (VA.out.below hb)
  replace VB := Lib.hid (VB.out.below hb)
  replace VC := Lib.hid (VC.out.below hb)
  have A7 := Lib.hid hv
  clear hb hv
  go_wp2_with fail
  refine (shl_nat A7.out.at 8191 pa ka.out (by decide) tw2.out).mono ?_
  rintro e w13 ⟨⟨v, rfl, hv⟩, hb⟩
  replace H0 := Lib.hid (H0.out.trans (hb.mono H0.out.size))
  replace VA := Lib.hid (VA.out.below hb)
  replace VB := Lib.hid (VB.out.below hb)
  replace VC := Lib.hid (VC.out.below hb)
  replace A7 := Lib.hid (A7.out.below hb)
  have TP := Lib.hid hv
  clear hb hv
  clear A7
  rw [Nat.one_mul] at TP
  obtain ⟨ta, tc, rfl, TQ⟩ := natC_len TP.out 256 tw5.out
  clear TP
  have TP := Lib.hid TQ
  clear TQ
  go_wp2_with fail
  refine (add_err TP.out.at TP.out.at tw3.out).mono ?_
  rintro e w14 ⟨⟨v, rfl⟩, hb⟩
  replace H0 := Lib.hid (H0.out.trans (hb.mono H0.out.size))
  replace VA := Lib.hid (VA.out.below hb)
  replace VB := Lib.hid (VB.out.below hb)
  replace VC := Lib.hid (VC.out.below hb)
  replace TP := Lib.hid (TP.out.below hb)
  clear hb
  go_wp2_with fail
  refine (of_nat 2 2 rfl _ (by decide)).mono ?_
  rintro e w15 ⟨⟨v, rfl, hv⟩, hb⟩
  replace H0 := Lib.hid (H0.out.trans (hb.mono H0.out.size))
  replace VA := Lib.hid (VA.out.below hb)
  replace VB := Lib.hid (VB.out.below hb)
  replace VC := Lib.hid (VC.out.below hb)
  replace TP := Lib.hid (TP.out.below hb)
  have A8 := Lib.hid hv
  clear hb hv
  go_wp2_with fail
  refine (mul_err TP.out.at A8.out.at tw6.out (lt_top (by decide)) tw4.out).mono ?_
  rintro e w16 ⟨⟨v, rfl⟩, hb⟩
  replace H0 := Lib.hid (H0.out.trans (hb.mono H0.out.size))
  replace VA := Lib.hid (VA.out.below hb)
  replace VB := Lib.hid (VB.out.below hb)
  replace VC := Lib.hid (VC.out.below hb)
  replace TP := Lib.hid (TP.out.below hb)
  replace A8 := Lib.hid (A8.out.below hb)
  clear hb
  clear A8
  go_wp2_with fail
  refine (of_nat 1 1 rfl _ (by decide)).mono ?_
  rintro e w17 ⟨⟨v, rfl, hv⟩, hb⟩
  replace H0 := Lib.hid (H0.out.trans (hb.mono H0.out.size))
  replace VA := Lib.hid (VA.out.below hb)
  replace VB := Lib.hid (VB.out.below hb)
  replace VC := Lib.hid (VC.out.below hb)
  replace TP := Lib.hid (TP.out.below hb)
  have A9 := Lib.hid hv
  clear hb hv
  go_wp2_with fail
  refine (shl_neg A9.out.at (-1) (by decide)).mono ?_
  rintro e w18 ⟨⟨v, rfl⟩, hb⟩
  replace H0 := Lib.hid (H0.out.trans (hb.mono H0.out.size))
  replace VA := Lib.hid (VA.out.below hb)
  replace VB := Lib.hid (VB.out.below hb)
  replace VC := Lib.hid (VC.out.below hb)
  replace TP := Lib.hid (TP.out.below hb)
  replace A9 := Lib.hid (A9.out.below hb)
  clear hb
  clear A9
  go_wp2_with fail
  refine (of_nat 1 1 rfl _ (by decide)).mono ?_
  rintro e w19 ⟨⟨v, rfl, hv⟩, hb⟩
  replace H0 := Lib.hid (H0.out.trans (hb.mono H0.out.size))
  replace VA := Lib.hid (VA.out.below hb)
  replace VB := Lib.hid (VB.out.below hb)
  replace VC := Lib.hid (VC.out.below hb)
  replace TP := Lib.hid (TP.out.below hb)
  have A10 := Lib.hid hv
  clear hb hv
  go_wp2_with fail
  refine (shr_neg A10.out.at (-1) (by decide)).mono ?_
  rintro e w20 ⟨⟨v, rfl⟩, hb⟩
  replace H0 := Lib.hid (H0.out.trans (hb.mono H0.out.size))
  replace VA := Lib.hid (VA.out.below hb)
  replace VB := Lib.hid (VB.out.below hb)
  replace VC := Lib.hid (VC.out.below hb)
  replace TP := Lib.hid (TP.out.below hb)
  replace A10 := Lib.hid (A10.out.below hb)
  clear hb
  clear A10
  go_wp2_with fail
  refine (shl_nat (natAt_nil _) 1099511627776 pc kc.out (by decide) (by rw [Nat.zero_mul]; exact topN_pos)).mono ?_
  rintro e w21 ⟨⟨v, rfl, hv⟩, hb⟩
  replace H0 := Lib.hid (H0.out.trans (hb.mono H0.out.size))
  replace VA := Lib.hid (VA.out.below hb)
  replace VB := Lib.hid (VB.out.below hb)
  replace VC := Lib.hid (VC.out.below hb)
  replace TP := Lib.hid (TP.out.below hb)
  rw [Nat.zero_mul] at hv
  obtain ⟨da, dc, rfl, -⟩ := natC_len hv 0 (by rw [show nat32 0 = [] from natB_zero _]; rfl)
  clear hb hv
  go_wp2_with (at_builtin; go_loud (refine wpList_append_zeros _ rfl _ _ 24 3 rfl w21.heap.size 5 i8 Try.underlying24 Try.underlying3 hi8 hi0 hi1 hi2 w21.heap.size 1 1 [1] rfl (OwnQ.one .u8 _ 5 _ (Nat.le_refl _) 1 1 rfl) 1024 rfl (by decide) (by decide) (by decide) (by simp) ?_); intro c8 wz hz8 hbz; have HZ8 := Lib.hid hz8.reads; have HBZ := Lib.hid hbz; clear hz8 hbz)
  have hbz2 := ((Below.refl w21.heap.size w21).alloc (Nat.le_refl _) (.cells #[.int .u8 1] 5)).trans (HBZ.out.mono (by simp))
  have H8 := Lib.hid (show Reads .u8 wz (some ⟨w21.heap.size + 1, 0, none⟩) 1025 c8 ([1] ++ List.replicate q1 0) from by have h := HZ8.out; rw [World.size_alloc] at h; rw [s1.out]; exact h)
  clear HZ8
  replace H0 := Lib.hid (H0.out.trans (hbz2.mono H0.out.size))
  replace VA := Lib.hid (VA.out.below hbz2)
  replace VB := Lib.hid (VB.out.below hbz2)
  replace VC := Lib.hid (VC.out.below hbz2)
  replace TP := Lib.hid (TP.out.below hbz2)
  clear hbz2 HBZ
  go_wp2_with fail
  refine (read_err H8.out (byt_big _) (by decide) rd1.out).mono ?_
  rintro e w22 ⟨⟨v, rfl⟩, hb⟩
  replace H0 := Lib.hid (H0.out.trans (hb.mono H0.out.size))
  replace VA := Lib.hid (VA.out.below hb)
  replace VB := Lib.hid (VB.out.below hb)
  replace VC := Lib.hid (VC.out.below hb)
  replace TP := Lib.hid (TP.out.below hb)
  clear hb
  clear H8
  go_wp2_with (at_make; refine wpList_make_lc .u8 _ rfl _ _ 24 rfl w22.heap.size 5 i8 Try.underlying24 hi8 hi0 hi1 _ _ _ _ q2 q2 rfl rfl r2.out r2.out (Nat.le_refl _) (by rw [hi2]; have := s2.out; omega) (by unfold maxLen; have := s2.out; omega) (Nat.le_refl _) ?_; intro wm hown hgrow; have H9 := Lib.hid hown.reads; have HGR := Lib.hid hgrow; clear hown hgrow)
  have hbm := (Below.refl w22.heap.size w22).grown HGR.out (Nat.le_refl _) (fun _ h => by cases h)
  replace H0 := Lib.hid (H0.out.trans (hbm.mono H0.out.size))
  replace VA := Lib.hid (VA.out.below hbm)
  replace VB := Lib.hid (VB.out.below hbm)
  replace VC := Lib.hid (VC.out.below hbm)
  replace TP := Lib.hid (TP.out.below hbm)
  clear HGR hbm
  go_wp2_with fail
  refine (read_nought H9.out (by have := s2.out; omega)).mono ?_
  rintro e w23 ⟨⟨v, rfl, hv⟩, hb⟩
  replace H0 := Lib.hid (H0.out.trans (hb.mono H0.out.size))
  replace VA := Lib.hid (VA.out.below hb)
  replace VB := Lib.hid (VB.out.below hb)
  replace VC := Lib.hid (VC.out.below hb)
  replace TP := Lib.hid (TP.out.below hb)
  obtain ⟨fa, fc, rfl, -⟩ := natC_len hv 0 (by rw [show nat32 0 = [] from natB_zero _]; rfl)
  clear hb hv
  clear H9
  have hsz := Lib.hid H0.out.size
  go_wp2_with (at_make; refine wpList_make_lc .u32 _ rfl _ _ 23 rfl w23.heap.size 54 i32 Try.underlying23 hj8 hj0 hj1 _ _ _ _ q3 q3 rfl rfl r3.out r3.out (Nat.le_refl _) (by rw [hj2]; have := s3.out; omega) (by unfold maxLen; have := s3.out; omega) (Nat.le_refl _) ?_; intro wl hown hgrow; have LG := Lib.hid hown; have HGR := Lib.hid hgrow; clear hown hgrow)
  have hbm := (Below.refl w23.heap.size w23).grown HGR.out (Nat.le_refl _) (fun _ h => by cases h)
  replace H0 := Lib.hid (H0.out.trans (hbm.mono H0.out.size))
  have HK := Lib.hid hbm
  clear HGR hbm
  go_wp2_with fail
  refine (trim_nat (natAt_own LG.out (lim_zeros _) (val_zeros _)) topN_pos).mono ?_
  rintro e w24 ⟨⟨v, rfl, hv⟩, hb⟩
  replace H0 := Lib.hid (H0.out.trans (hb.mono H0.out.size))
  replace LG := Lib.hid (LG.out.below hb)
  replace HK := Lib.hid (HK.out.trans (hb.mono HK.out.size))
  obtain ⟨ga, gc, rfl, -⟩ := natC_len hv 0 (by rw [show nat32 0 = [] from natB_zero _]; rfl)
  clear hb hv
  have hlf := LG.out.frozenAt (rep_len _) 256
  have hlc := LG.out.cellAt (rep_len _) 256 (by have := s3.out; omega)
  rw [rep_get] at hlc
  have hq3 : 256 < q3 := by have := s3.out; omega
  have hst := LG.out.stored (rep_len _) 256 1 1 rfl
  have LG2 := Lib.hid hst.1
  have HK2 := Lib.hid (hst.2 _ HK.out)
  have H02 := Lib.hid (H0.out.setCell (p := ⟨w23.heap.size, 256, none⟩) hsz.out (.int .u32 1))
  clear hst LG HK H0
  go_wp2_with fail
  have LG := Lib.hid LG2.out
  have HK := Lib.hid HK2.out
  have H0 := Lib.hid H02.out
  clear LG2 HK2 H02 hlf hlc
  obtain ⟨ws, hws⟩ : ∃ ws, w24.setCell ⟨w23.heap.size, 256, none⟩ (.int .u32 1) = ws := ⟨_, rfl⟩
  rw [hws] at LG HK H0
  simp only [hws]
  clear hws
  have NL := Lib.hid (natAt_own LG.out (lim_long _) (val_long _ hq3))
  clear hq3
  clear LG
  refine (trim_err NL.out (Nat.lt_irrefl _)).mono ?_
  rintro e w25 ⟨⟨v, rfl⟩, hb⟩
  replace H0 := Lib.hid (H0.out.trans (hb.mono H0.out.size))
  replace NL := Lib.hid (NL.out.below hb)
  replace HK := Lib.hid (HK.out.trans (hb.mono HK.out.size))
  clear hb
  go_wp2_with fail
  refine (sub_less NL.out NL.out (fun h => Nat.lt_irrefl _ h.1)).mono ?_
  rintro e w26 ⟨⟨v, rfl⟩, hb⟩
  replace H0 := Lib.hid (H0.out.trans (hb.mono H0.out.size))
  replace NL := Lib.hid (NL.out.below hb)
  replace HK := Lib.hid (HK.out.trans (hb.mono HK.out.size))
  clear hb
  go_wp2_with fail
  refine (pure_lit (uint_yes (n := 8589934593) (reads_lit w26 54 [1, 2, 0] #[.int .u32 1, .int .u32 2, .int .u32 0] rfl (by decide)) (by decide) (by decide) (by decide))).mono ?_
  rintro e w27 ⟨rfl, hb⟩
  replace H0 := Lib.hid (H0.out.trans (hb.mono H0.out.size))
  replace NL := Lib.hid (NL.out.below hb)
  replace HK := Lib.hid (HK.out.trans (hb.mono HK.out.size))
  clear hb
  go_wp2_with fail
  refine (pure_lit (uint_no (reads_lit w27 54 [0, 0, 1] #[.int .u32 0, .int .u32 0, .int .u32 1] rfl (by decide)) (by decide) (by decide))).mono ?_
  rintro e w28 ⟨rfl, hb⟩
  replace H0 := Lib.hid (H0.out.trans (hb.mono H0.out.size))
  replace NL := Lib.hid (NL.out.below hb)
  replace HK := Lib.hid (HK.out.trans (hb.mono HK.out.size))
  clear hb
  replace VA := Lib.hid (VA.out.below HK.out)
  replace VB := Lib.hid (VB.out.below HK.out)
  replace VC := Lib.hid (VC.out.below HK.out)
  replace TP := Lib.hid (TP.out.below HK.out)
  go_wp2_with fail
  refine (below_lit (is_nat (VA.out.below ((Below.refl _ _).alloc (Nat.le_refl _) _)) (reads_lit w28 54 [1, 4294967294] #[.int .u32 1, .int .u32 4294967294] rfl (by decide)) (nat32_lit [1, 4294967294] _ (by decide) (by decide) (by decide)))).mono ?_
  rintro e w29 ⟨rfl, hb⟩
  replace H0 := Lib.hid (H0.out.trans (hb.mono H0.out.size))
  replace NL := Lib.hid (NL.out.below hb)
  replace VA := Lib.hid (VA.out.below hb)
  replace VB := Lib.hid (VB.out.below hb)
  replace VC := Lib.hid (VC.out.below hb)
  replace TP := Lib.hid (TP.out.below hb)
  replace HK := Lib.hid (HK.out.trans (hb.mono HK.out.size))
  clear hb
  clear VA
  go_wp2_with fail
  refine (below_lit (is_nat (VB.out.below ((Below.refl _ _).alloc (Nat.le_refl _) _)) (reads_lit w29 54 [0, 6] #[.int .u32 0, .int .u32 6] rfl (by decide)) (nat32_lit [0, 6] _ (by decide) (by decide) (by decide)))).mono ?_
  rintro e w30 ⟨rfl, hb⟩
  replace H0 := Lib.hid (H0.out.trans (hb.mono H0.out.size))
  replace NL := Lib.hid (NL.out.below hb)
  replace VB := Lib.hid (VB.out.below hb)
  replace VC := Lib.hid (VC.out.below hb)
  replace TP := Lib.hid (TP.out.below hb)
  replace HK := Lib.hid (HK.out.trans (hb.mono HK.out.size))
  clear hb
  clear VB
  go_wp2_with fail
  refine (below_lit (is_nat (VC.out.below ((Below.refl _ _).alloc (Nat.le_refl _) _)) (reads_lit w30 54 [1] #[.int .u32 1] rfl (by decide)) (nat32_lit [1] _ (by decide) (by decide) (by decide)))).mono ?_
  rintro e w31 ⟨rfl, hb⟩
  replace H0 := Lib.hid (H0.out.trans (hb.mono H0.out.size))
  replace NL := Lib.hid (NL.out.below hb)
  replace VC := Lib.hid (VC.out.below hb)
  replace TP := Lib.hid (TP.out.below hb)
  replace HK := Lib.hid (HK.out.trans (hb.mono HK.out.size))
  clear hb
  clear VC
  go_wp2_with fail
  refine (of_nat 8 8 rfl _ (by decide)).mono ?_
  rintro e w32 ⟨⟨v, rfl, hv⟩, hb⟩
  replace H0 := Lib.hid (H0.out.trans (hb.mono H0.out.size))
  replace NL := Lib.hid (NL.out.below hb)
  replace TP := Lib.hid (TP.out.below hb)
  have E8 := Lib.hid hv
  replace HK := Lib.hid (HK.out.trans (hb.mono HK.out.size))
  clear hb hv
  obtain ⟨ea, ec, rfl, EQ⟩ := natC_len E8.out 1 (by rw [nat32_lit [8] 8 (by decide) (by decide) (by decide)]; rfl)
  clear E8
  have E8 := Lib.hid EQ
  clear EQ
  go_wp2_with fail
  refine (alive_any _).mono ?_
  rintro e w33 ⟨rfl, hb⟩
  replace H0 := Lib.hid (H0.out.trans (hb.mono H0.out.size))
  replace NL := Lib.hid (NL.out.below hb)
  replace TP := Lib.hid (TP.out.below hb)
  replace E8 := Lib.hid (E8.out.below hb)
  replace HK := Lib.hid (HK.out.trans (hb.mono HK.out.size))
  clear hb
  go_wp2_with fail
  refine (bits_nat E8.out.at (fun a len cap e => by cases e; decide) 4 (by decide)).mono ?_
  rintro e w' ⟨rfl, rfl⟩
  go_wp2_with fail
  refine (bit_nat E8.out.at 3 (by decide) true (by decide)).mono ?_
  rintro e w' ⟨rfl, rfl⟩
  go_wp2_with fail
  refine (bit_nat E8.out.at 2 (by decide) false (by decide)).mono ?_
  rintro e w' ⟨rfl, rfl⟩
  go_wp2_with fail
  refine (bit_nat E8.out.at (-1) (by decide) false (by decide)).mono ?_
  rintro e w' ⟨rfl, rfl⟩
  go_wp2_with fail
  refine (pure_lit (bits_nat (n := 0) ⟨_, _, _, [0, 0], rfl, (reads_lit w33 54 [0, 0] #[.int .u32 0, .int .u32 0] rfl (by decide)), by decide, by decide⟩ (fun a len cap e => by cases e; decide) 0 (by decide))).mono ?_
  rintro e w34 ⟨rfl, hb⟩
  replace H0 := Lib.hid (H0.out.trans (hb.mono H0.out.size))
  replace NL := Lib.hid (NL.out.below hb)
  replace TP := Lib.hid (TP.out.below hb)
  replace E8 := Lib.hid (E8.out.below hb)
  replace HK := Lib.hid (HK.out.trans (hb.mono HK.out.size))
  clear hb
  go_wp2_with fail
  refine (below_lit2 (cmp_nat (n := 5) (m := 5) ⟨_, _, _, [5], rfl, (reads_lit w34 54 [5] #[.int .u32 5] rfl (by decide)).below ((Below.refl _ _).alloc (Nat.le_refl _) _), by decide, rfl⟩ ⟨_, _, _, [5, 0], rfl, reads_lit2 w34 _ 54 [5, 0] #[.int .u32 5, .int .u32 0] rfl (by decide), by decide, rfl⟩ 0 (by decide))).mono ?_
  rintro e w35 ⟨rfl, hb⟩
  replace H0 := Lib.hid (H0.out.trans (hb.mono H0.out.size))
  replace NL := Lib.hid (NL.out.below hb)
  replace TP := Lib.hid (TP.out.below hb)
  replace E8 := Lib.hid (E8.out.below hb)
  replace HK := Lib.hid (HK.out.trans (hb.mono HK.out.size))
  clear hb
  go_wp2_with fail
  refine (cmp_nat NL.out TP.out.at 1 (ordN_gt tw6.out).symm).mono ?_
  rintro e w36 ⟨rfl, hb⟩
  replace H0 := Lib.hid (H0.out.trans (hb.mono H0.out.size))
  replace NL := Lib.hid (NL.out.below hb)
  replace TP := Lib.hid (TP.out.below hb)
  replace E8 := Lib.hid (E8.out.below hb)
  replace HK := Lib.hid (HK.out.trans (hb.mono HK.out.size))
  clear hb
  go_wp2_with fail
  refine (of_nat0 _).mono ?_
  rintro e w37 ⟨⟨v, rfl, hv⟩, hb⟩
  replace H0 := Lib.hid (H0.out.trans (hb.mono H0.out.size))
  replace NL := Lib.hid (NL.out.below hb)
  replace TP := Lib.hid (TP.out.below hb)
  replace E8 := Lib.hid (E8.out.below hb)
  replace HK := Lib.hid (HK.out.trans (hb.mono HK.out.size))
  obtain ⟨za, zc, rfl, -⟩ := natC_len hv 0 (by rw [show nat32 0 = [] from natB_zero _]; rfl)
  clear hb hv
  go_wp2_with fail
  go_ret
  exact ⟨rfl, H0.out⟩

end Go.Proofs.Ytanimenpkinapaa
