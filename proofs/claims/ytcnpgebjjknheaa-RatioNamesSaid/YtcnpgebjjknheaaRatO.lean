/-
  THE LAW RatioNames: it has no input.
-/
import Derived.Test.YtcnpgebjjknheaaRatN
namespace Go.Proofs.Ytcnpgebjjknheaa
open Go.RowKit

set_option maxRecDepth 100000 in
set_option maxHeartbeats 8000000 in
theorem names_walk (w : World) : Calls Try.prog 6 #[] w fun e w' => e = .returned (.bool true) ∧ Below w.heap.size w w' := by
  obtain ⟨q3, hq3⟩ : ∃ a : Nat, a = 257 := ⟨_, rfl⟩
  obtain ⟨q4, hq4⟩ : ∃ a : Nat, a = 129 := ⟨_, rfl⟩
  have r3 := Lib.hid (show (257 : Int) = (q3 : Int) by omega)
  have r4' := Lib.hid (show (129 : Int) = (q4 : Int) by omega)
  have s3 := Lib.hid hq3
  have s4 := Lib.hid hq4
  have hsm := Lib.hid (fun (a : Option Addr) (c : Nat) => small_len (a := a) (n := q4) (c := c) (k := 129) (by omega) (by decide))
  obtain ⟨i32, hj8, hj0, hj1, hj2⟩ := info_parts Try.info32
  clear hq3 hq4
  go_enter Try.func6, Try.ntmps6
  have hl := reads_lit w 41 [0, 0, 1] #[.int .u32 0, .int .u32 0, .int .u32 1] rfl (by decide)
  have NX := Lib.hid (show NatAt (w.alloc (.cells #[.int .u32 0, .int .u32 0, .int .u32 1] 41)) (.slice (some ⟨w.heap.size, 0, none⟩) 3 3) 18446744073709551616 from ⟨_, _, _, [0, 0, 1], rfl, hl, by decide, by decide⟩)
  have hb0 := (Below.refl w.heap.size w).alloc (Nat.le_refl _) (.cells #[.int .u32 0, .int .u32 0, .int .u32 1] 41)
  have H0 := Lib.hid hb0
  clear hl hb0
  go_wp2_with fail
  refine (of_nat 4294967297 4294967297 rfl _ (by decide)).mono ?_
  rintro e w1 ⟨⟨v, rfl, hv⟩, hb⟩
  replace H0 := Lib.hid (H0.out.trans (hb.mono H0.out.size))
  replace NX := Lib.hid (NX.out.below hb)
  have A1 := Lib.hid hv
  clear hb hv
  go_wp2_with fail
  refine (div_nat NX.out A1.out.at (top_le (k := 3) (by decide) (by decide)) (lt_top (by decide)) (by decide)).mono ?_
  rintro e w2 ⟨⟨qv, rv, rfl, hq, hr⟩, hb⟩
  replace H0 := Lib.hid (H0.out.trans (hb.mono H0.out.size))
  replace NX := Lib.hid (NX.out.below hb)
  replace A1 := Lib.hid (A1.out.below hb)
  have Q := Lib.hid hq
  have R := Lib.hid hr
  clear hb hq hr
  clear NX A1
  rw [show (18446744073709551616 : Nat) / 4294967297 = 4294967295 from by decide] at Q
  rw [show (18446744073709551616 : Nat) % 4294967297 = 1 from by decide] at R
  go_wp2_with fail
  refine (of_nat 1 1 rfl _ (by decide)).mono ?_
  rintro e w3 ⟨⟨v, rfl, hv⟩, hb⟩
  replace H0 := Lib.hid (H0.out.trans (hb.mono H0.out.size))
  replace Q := Lib.hid (Q.out.below hb)
  replace R := Lib.hid (R.out.below hb)
  have A2 := Lib.hid hv
  clear hb hv
  go_wp2_with fail
  refine (div_err A2.out.at (natAt_nil _) (divR_zero (lt_top (by decide)))).mono ?_
  rintro e w4 ⟨⟨qa, ra, rfl⟩, hb⟩
  replace H0 := Lib.hid (H0.out.trans (hb.mono H0.out.size))
  replace Q := Lib.hid (Q.out.below hb)
  replace R := Lib.hid (R.out.below hb)
  replace A2 := Lib.hid (A2.out.below hb)
  clear hb
  clear A2
  go_wp2_with fail
  refine (of_nat 1 1 rfl _ (by decide)).mono ?_
  rintro e w5 ⟨⟨v, rfl, hv⟩, hb⟩
  replace H0 := Lib.hid (H0.out.trans (hb.mono H0.out.size))
  replace Q := Lib.hid (Q.out.below hb)
  replace R := Lib.hid (R.out.below hb)
  have A3 := Lib.hid hv
  clear hb hv
  go_wp2_with fail
  have N3 := Lib.hid (show NatAt (w5.alloc (.cells #[.int .u32 0, .int .u32 0] 41)) (.slice (some ⟨w5.heap.size, 0, none⟩) 2 2) 0 from ⟨_, _, _, [0, 0], rfl, (reads_lit w5 41 [0, 0] #[.int .u32 0, .int .u32 0] rfl (by decide)), by decide, by decide⟩)
  have hb0 := (Below.refl w5.heap.size w5).alloc (Nat.le_refl _) (.cells #[.int .u32 0, .int .u32 0] 41)
  replace H0 := Lib.hid (H0.out.trans (hb0.mono H0.out.size))
  replace Q := Lib.hid (Q.out.below hb0)
  replace R := Lib.hid (R.out.below hb0)
  replace A3 := Lib.hid (A3.out.below hb0)
  clear hb0
  refine (mod_err A3.out.at N3.out (modR_zero (lt_top (by decide)))).mono ?_
  rintro e w6 ⟨⟨v, rfl⟩, hb⟩
  replace H0 := Lib.hid (H0.out.trans (hb.mono H0.out.size))
  replace Q := Lib.hid (Q.out.below hb)
  replace R := Lib.hid (R.out.below hb)
  replace A3 := Lib.hid (A3.out.below hb)
  clear hb
  clear A3
  clear N3
  go_wp2_with fail
  refine (of_nat 7 7 rfl _ (by decide)).mono ?_
  rintro e w7 ⟨⟨v, rfl, hv⟩, hb⟩
  replace H0 := Lib.hid (H0.out.trans (hb.mono H0.out.size))
  replace Q := Lib.hid (Q.out.below hb)
  replace R := Lib.hid (R.out.below hb)
  have A4 := Lib.hid hv
  clear hb hv
  go_wp2_with fail
  refine (gcd_nat (natAt_nil _) A4.out.at topN_pos (lt_top (by decide))).mono ?_
  rintro e w8 ⟨⟨v, rfl, hv⟩, hb⟩
  replace H0 := Lib.hid (H0.out.trans (hb.mono H0.out.size))
  replace Q := Lib.hid (Q.out.below hb)
  replace R := Lib.hid (R.out.below hb)
  replace A4 := Lib.hid (A4.out.below hb)
  have G := Lib.hid hv
  clear hb hv
  clear A4
  rw [Nat.gcd_zero_left] at G
  go_wp2_with fail
  refine (gcd_nat (natAt_nil _) (natAt_nil _) topN_pos topN_pos).mono ?_
  rintro e w9 ⟨⟨v, rfl, hv⟩, hb⟩
  replace H0 := Lib.hid (H0.out.trans (hb.mono H0.out.size))
  replace Q := Lib.hid (Q.out.below hb)
  replace R := Lib.hid (R.out.below hb)
  replace G := Lib.hid (G.out.below hb)
  have G0 := Lib.hid hv
  clear hb hv
  rw [Nat.gcd_zero_left] at G0
  go_wp2_with fail
  refine (of_nat 7 7 rfl _ (by decide)).mono ?_
  rintro e w10 ⟨⟨v, rfl, hv⟩, hb⟩
  replace H0 := Lib.hid (H0.out.trans (hb.mono H0.out.size))
  replace Q := Lib.hid (Q.out.below hb)
  replace R := Lib.hid (R.out.below hb)
  replace G := Lib.hid (G.out.below hb)
  replace G0 := Lib.hid (G0.out.below hb)
  have A5 := Lib.hid hv
  clear hb hv
  go_wp2_with fail
  refine (of_nat 8 8 rfl _ (by decide)).mono ?_
  rintro e w11 ⟨⟨v, rfl, hv⟩, hb⟩
  replace H0 := Lib.hid (H0.out.trans (hb.mono H0.out.size))
  replace Q := Lib.hid (Q.out.below hb)
  replace R := Lib.hid (R.out.below hb)
  replace G := Lib.hid (G.out.below hb)
  replace G0 := Lib.hid (G0.out.below hb)
  replace A5 := Lib.hid (A5.out.below hb)
  have A6 := Lib.hid hv
  clear hb hv
  go_wp2_with fail
  refine (of_nat 10 10 rfl _ (by decide)).mono ?_
  rintro e w12 ⟨⟨v, rfl, hv⟩, hb⟩
  replace H0 := Lib.hid (H0.out.trans (hb.mono H0.out.size))
  replace Q := Lib.hid (Q.out.below hb)
  replace R := Lib.hid (R.out.below hb)
  replace G := Lib.hid (G.out.below hb)
  replace G0 := Lib.hid (G0.out.below hb)
  replace A5 := Lib.hid (A5.out.below hb)
  replace A6 := Lib.hid (A6.out.below hb)
  have A7 := Lib.hid hv
  clear hb hv
  go_wp2_with fail
  refine (mulMod_nat A5.out.at A6.out.at A7.out.at (lt_topM (by decide)) (lt_top (by decide)) (lt_top (by decide)) (by decide)).mono ?_
  rintro e w13 ⟨⟨v, rfl, hv⟩, hb⟩
  replace H0 := Lib.hid (H0.out.trans (hb.mono H0.out.size))
  replace Q := Lib.hid (Q.out.below hb)
  replace R := Lib.hid (R.out.below hb)
  replace G := Lib.hid (G.out.below hb)
  replace G0 := Lib.hid (G0.out.below hb)
  replace A5 := Lib.hid (A5.out.below hb)
  replace A6 := Lib.hid (A6.out.below hb)
  replace A7 := Lib.hid (A7.out.below hb)
  have C := Lib.hid hv
  clear hb hv
  clear A5 A6 A7
  rw [show (7 : Nat) * 8 % 10 = 6 from rfl] at C
  go_wp2_with fail
  refine (of_nat 4 4 rfl _ (by decide)).mono ?_
  rintro e w14 ⟨⟨v, rfl, hv⟩, hb⟩
  replace H0 := Lib.hid (H0.out.trans (hb.mono H0.out.size))
  replace Q := Lib.hid (Q.out.below hb)
  replace R := Lib.hid (R.out.below hb)
  replace G := Lib.hid (G.out.below hb)
  replace G0 := Lib.hid (G0.out.below hb)
  replace C := Lib.hid (C.out.below hb)
  have A8 := Lib.hid hv
  clear hb hv
  go_wp2_with fail
  refine (of_nat 10 10 rfl _ (by decide)).mono ?_
  rintro e w15 ⟨⟨v, rfl, hv⟩, hb⟩
  replace H0 := Lib.hid (H0.out.trans (hb.mono H0.out.size))
  replace Q := Lib.hid (Q.out.below hb)
  replace R := Lib.hid (R.out.below hb)
  replace G := Lib.hid (G.out.below hb)
  replace G0 := Lib.hid (G0.out.below hb)
  replace C := Lib.hid (C.out.below hb)
  replace A8 := Lib.hid (A8.out.below hb)
  have A9 := Lib.hid hv
  clear hb hv
  go_wp2_with fail
  refine (inv_err A8.out.at A9.out.at (natC_small A8.out (lt_top (by decide))) (invR_none (lt_topM (by decide)) (lt_top (by decide)) (by decide))).mono ?_
  rintro e w16 ⟨⟨v, rfl⟩, hb⟩
  replace H0 := Lib.hid (H0.out.trans (hb.mono H0.out.size))
  replace Q := Lib.hid (Q.out.below hb)
  replace R := Lib.hid (R.out.below hb)
  replace G := Lib.hid (G.out.below hb)
  replace G0 := Lib.hid (G0.out.below hb)
  replace C := Lib.hid (C.out.below hb)
  replace A8 := Lib.hid (A8.out.below hb)
  replace A9 := Lib.hid (A9.out.below hb)
  clear hb
  clear A8 A9
  go_wp2_with fail
  refine (of_nat 1 1 rfl _ (by decide)).mono ?_
  rintro e w17 ⟨⟨v, rfl, hv⟩, hb⟩
  replace H0 := Lib.hid (H0.out.trans (hb.mono H0.out.size))
  replace Q := Lib.hid (Q.out.below hb)
  replace R := Lib.hid (R.out.below hb)
  replace G := Lib.hid (G.out.below hb)
  replace G0 := Lib.hid (G0.out.below hb)
  replace C := Lib.hid (C.out.below hb)
  have B1 := Lib.hid hv
  clear hb hv
  go_wp2_with fail
  refine (of_nat 1 1 rfl _ (by decide)).mono ?_
  rintro e w18 ⟨⟨v, rfl, hv⟩, hb⟩
  replace H0 := Lib.hid (H0.out.trans (hb.mono H0.out.size))
  replace Q := Lib.hid (Q.out.below hb)
  replace R := Lib.hid (R.out.below hb)
  replace G := Lib.hid (G.out.below hb)
  replace G0 := Lib.hid (G0.out.below hb)
  replace C := Lib.hid (C.out.below hb)
  replace B1 := Lib.hid (B1.out.below hb)
  have B2 := Lib.hid hv
  clear hb hv
  go_wp2_with fail
  refine (inv_err B1.out.at B2.out.at (natC_small B1.out (lt_top (by decide))) (invR_none (lt_topM (by decide)) (lt_top (by decide)) (by decide))).mono ?_
  rintro e w19 ⟨⟨v, rfl⟩, hb⟩
  replace H0 := Lib.hid (H0.out.trans (hb.mono H0.out.size))
  replace Q := Lib.hid (Q.out.below hb)
  replace R := Lib.hid (R.out.below hb)
  replace G := Lib.hid (G.out.below hb)
  replace G0 := Lib.hid (G0.out.below hb)
  replace C := Lib.hid (C.out.below hb)
  replace B1 := Lib.hid (B1.out.below hb)
  replace B2 := Lib.hid (B2.out.below hb)
  clear hb
  clear B1 B2
  go_wp2_with fail
  refine (of_nat 1 1 rfl _ (by decide)).mono ?_
  rintro e w20 ⟨⟨v, rfl, hv⟩, hb⟩
  replace H0 := Lib.hid (H0.out.trans (hb.mono H0.out.size))
  replace Q := Lib.hid (Q.out.below hb)
  replace R := Lib.hid (R.out.below hb)
  replace G := Lib.hid (G.out.below hb)
  replace G0 := Lib.hid (G0.out.below hb)
  replace C := Lib.hid (C.out.below hb)
  have B3 := Lib.hid hv
  clear hb hv
  go_wp2_with fail
  refine (inv_err B3.out.at (natAt_nil _) (natC_small B3.out (lt_top (by decide))) (invR_none topM_pos (lt_top (by decide)) (by decide))).mono ?_
  rintro e w21 ⟨⟨v, rfl⟩, hb⟩
  replace H0 := Lib.hid (H0.out.trans (hb.mono H0.out.size))
  replace Q := Lib.hid (Q.out.below hb)
  replace R := Lib.hid (R.out.below hb)
  replace G := Lib.hid (G.out.below hb)
  replace G0 := Lib.hid (G0.out.below hb)
  replace C := Lib.hid (C.out.below hb)
  replace B3 := Lib.hid (B3.out.below hb)
  clear hb
  clear B3
  go_wp2_with fail
  refine (of_nat 1 1 rfl _ (by decide)).mono ?_
  rintro e w22 ⟨⟨v, rfl, hv⟩, hb⟩
  replace H0 := Lib.hid (H0.out.trans (hb.mono H0.out.size))
  replace Q := Lib.hid (Q.out.below hb)
  replace R := Lib.hid (R.out.below hb)
  replace G := Lib.hid (G.out.below hb)
  replace G0 := Lib.hid (G0.out.below hb)
  replace C := Lib.hid (C.out.below hb)
  have B4 := Lib.hid hv
  clear hb hv
  go_wp2_with fail
  refine (of_nat 1 1 rfl _ (by decide)).mono ?_
  rintro e w23 ⟨⟨v, rfl, hv⟩, hb⟩
  replace H0 := Lib.hid (H0.out.trans (hb.mono H0.out.size))
  replace Q := Lib.hid (Q.out.below hb)
  replace R := Lib.hid (R.out.below hb)
  replace G := Lib.hid (G.out.below hb)
  replace G0 := Lib.hid (G0.out.below hb)
  replace C := Lib.hid (C.out.below hb)
  replace B4 := Lib.hid (B4.out.below hb)
  have B5 := Lib.hid hv
  clear hb hv
  go_wp2_with fail
  refine (mm_err B4.out.at B5.out.at (natAt_nil _) (mulModR_zero (lt_top (by decide)) (lt_top (by decide)))).mono ?_
  rintro e w24 ⟨⟨v, rfl⟩, hb⟩
  replace H0 := Lib.hid (H0.out.trans (hb.mono H0.out.size))
  replace Q := Lib.hid (Q.out.below hb)
  replace R := Lib.hid (R.out.below hb)
  replace G := Lib.hid (G.out.below hb)
  replace G0 := Lib.hid (G0.out.below hb)
  replace C := Lib.hid (C.out.below hb)
  replace B4 := Lib.hid (B4.out.below hb)
  replace B5 := Lib.hid (B5.out.below hb)
  clear hb
  clear B4 B5
  have hsza := Lib.hid H0.out.size
  go_wp2_with (at_make; refine wpList_make_lc .u32 _ rfl _ _ 23 rfl w24.heap.size 41 i32 Try.underlying23 hj8 hj0 hj1 _ _ _ _ q3 q3 rfl rfl r3.out r3.out (Nat.le_refl _) (by rw [hj2]; have := s3.out; omega) (by unfold maxLen; have := s3.out; omega) (Nat.le_refl _) ?_; intro wl hown hgrow; have hlf := hown.frozenAt (rep_len _) 256; have hlc := hown.cellAt (rep_len _) 256 (by have := s3.out; omega); rw [rep_get] at hlc; have hqq : 256 < q3 := (by have := s3.out; omega); have LG := Lib.hid hown; have HGR := Lib.hid hgrow; clear hown hgrow)
  have hbm := (Below.refl w24.heap.size w24).grown HGR.out (Nat.le_refl _) (fun _ h => by cases h)
  have hst := LG.out.stored (rep_len _) 256 1 1 rfl
  have NL := Lib.hid (show NatAt _ _ topN from natAt_own' hst.1 (lim_long _ _) (val_long _ _ hqq))
  have HKn := Lib.hid (hst.2 _ hbm)
  replace H0 := Lib.hid ((H0.out.trans (hbm.mono H0.out.size)).setCell (p := ⟨w24.heap.size, 256, none⟩) hsza.out (.int .u32 1))
  clear hst LG HGR hbm hlf hlc hqq
  obtain ⟨wsa, hws⟩ : ∃ ws, wl.setCell ⟨w24.heap.size, 256, none⟩ (.int .u32 1) = ws := ⟨_, rfl⟩
  rw [hws] at NL HKn H0
  simp only [hws]
  clear hws
  replace Q := Lib.hid (Q.out.belowB HKn.out)
  replace R := Lib.hid (R.out.belowB HKn.out)
  replace G := Lib.hid (G.out.belowB HKn.out)
  replace G0 := Lib.hid (G0.out.belowB HKn.out)
  replace C := Lib.hid (C.out.belowB HKn.out)
  clear HKn
  refine (of_nat 1 1 rfl _ (by decide)).mono ?_
  rintro e w25 ⟨⟨v, rfl, hv⟩, hb⟩
  replace H0 := Lib.hid (H0.out.trans (hb.mono H0.out.size))
  replace Q := Lib.hid (Q.out.below hb)
  replace R := Lib.hid (R.out.below hb)
  replace G := Lib.hid (G.out.below hb)
  replace G0 := Lib.hid (G0.out.below hb)
  replace C := Lib.hid (C.out.below hb)
  replace NL := Lib.hid (NL.out.below hb)
  have D1 := Lib.hid hv
  clear hb hv
  go_wp2_with fail
  refine (div_err NL.out D1.out.at (divR_no (fun h => Nat.lt_irrefl _ h.1))).mono ?_
  rintro e w26 ⟨⟨qb, rb, rfl⟩, hb⟩
  replace H0 := Lib.hid (H0.out.trans (hb.mono H0.out.size))
  replace Q := Lib.hid (Q.out.below hb)
  replace R := Lib.hid (R.out.below hb)
  replace G := Lib.hid (G.out.below hb)
  replace G0 := Lib.hid (G0.out.below hb)
  replace C := Lib.hid (C.out.below hb)
  replace NL := Lib.hid (NL.out.below hb)
  replace D1 := Lib.hid (D1.out.below hb)
  clear hb
  clear D1
  go_wp2_with fail
  refine (div_err NL.out (natAt_nil _) (divR_no (fun h => Nat.lt_irrefl _ h.1))).mono ?_
  rintro e w27 ⟨⟨qc, rc, rfl⟩, hb⟩
  replace H0 := Lib.hid (H0.out.trans (hb.mono H0.out.size))
  replace Q := Lib.hid (Q.out.below hb)
  replace R := Lib.hid (R.out.below hb)
  replace G := Lib.hid (G.out.below hb)
  replace G0 := Lib.hid (G0.out.below hb)
  replace C := Lib.hid (C.out.below hb)
  replace NL := Lib.hid (NL.out.below hb)
  clear hb
  have hszb := Lib.hid H0.out.size
  go_wp2_with (at_make; refine wpList_make_lc .u32 _ rfl _ _ 23 rfl w27.heap.size 41 i32 Try.underlying23 hj8 hj0 hj1 _ _ _ _ q4 q4 rfl rfl r4'.out r4'.out (Nat.le_refl _) (by rw [hj2]; have := s4.out; omega) (by unfold maxLen; have := s4.out; omega) (Nat.le_refl _) ?_; intro wl hown hgrow; have hlf := hown.frozenAt (rep_len _) 128; have hlc := hown.cellAt (rep_len _) 128 (by have := s4.out; omega); rw [rep_get] at hlc; have hqq : 128 < q4 := (by have := s4.out; omega); have LG := Lib.hid hown; have HGR := Lib.hid hgrow; clear hown hgrow)
  have hbm := (Below.refl w27.heap.size w27).grown HGR.out (Nat.le_refl _) (fun _ h => by cases h)
  have hst := LG.out.stored (rep_len _) 128 1 1 rfl
  have NM := Lib.hid (show NatAt _ _ topM from natAt_own' hst.1 (lim_long _ _) (val_long _ _ hqq))
  have HKn := Lib.hid (hst.2 _ hbm)
  replace H0 := Lib.hid ((H0.out.trans (hbm.mono H0.out.size)).setCell (p := ⟨w27.heap.size, 128, none⟩) hszb.out (.int .u32 1))
  clear hst LG HGR hbm hlf hlc hqq
  obtain ⟨wsb, hws⟩ : ∃ ws, wl.setCell ⟨w27.heap.size, 128, none⟩ (.int .u32 1) = ws := ⟨_, rfl⟩
  rw [hws] at NM HKn H0
  simp only [hws]
  clear hws
  replace Q := Lib.hid (Q.out.belowB HKn.out)
  replace R := Lib.hid (R.out.belowB HKn.out)
  replace G := Lib.hid (G.out.belowB HKn.out)
  replace G0 := Lib.hid (G0.out.belowB HKn.out)
  replace C := Lib.hid (C.out.belowB HKn.out)
  replace NL := Lib.hid (NL.out.belowB HKn.out)
  clear HKn
  refine (of_nat 1 1 rfl _ (by decide)).mono ?_
  rintro e w28 ⟨⟨v, rfl, hv⟩, hb⟩
  replace H0 := Lib.hid (H0.out.trans (hb.mono H0.out.size))
  replace Q := Lib.hid (Q.out.below hb)
  replace R := Lib.hid (R.out.below hb)
  replace G := Lib.hid (G.out.below hb)
  replace G0 := Lib.hid (G0.out.below hb)
  replace C := Lib.hid (C.out.below hb)
  replace NL := Lib.hid (NL.out.below hb)
  replace NM := Lib.hid (NM.out.below hb)
  have D2 := Lib.hid hv
  clear hb hv
  go_wp2_with fail
  refine (of_nat 1 1 rfl _ (by decide)).mono ?_
  rintro e w29 ⟨⟨v, rfl, hv⟩, hb⟩
  replace H0 := Lib.hid (H0.out.trans (hb.mono H0.out.size))
  replace Q := Lib.hid (Q.out.below hb)
  replace R := Lib.hid (R.out.below hb)
  replace G := Lib.hid (G.out.below hb)
  replace G0 := Lib.hid (G0.out.below hb)
  replace C := Lib.hid (C.out.below hb)
  replace NL := Lib.hid (NL.out.below hb)
  replace NM := Lib.hid (NM.out.below hb)
  replace D2 := Lib.hid (D2.out.below hb)
  have D3 := Lib.hid hv
  clear hb hv
  go_wp2_with fail
  refine (mm_err D2.out.at D3.out.at NM.out (mulModR_no (fun h => Nat.lt_irrefl _ h.1))).mono ?_
  rintro e w30 ⟨⟨v, rfl⟩, hb⟩
  replace H0 := Lib.hid (H0.out.trans (hb.mono H0.out.size))
  replace Q := Lib.hid (Q.out.below hb)
  replace R := Lib.hid (R.out.below hb)
  replace G := Lib.hid (G.out.below hb)
  replace G0 := Lib.hid (G0.out.below hb)
  replace C := Lib.hid (C.out.below hb)
  replace NL := Lib.hid (NL.out.below hb)
  replace NM := Lib.hid (NM.out.below hb)
  replace D2 := Lib.hid (D2.out.below hb)
  replace D3 := Lib.hid (D3.out.below hb)
  clear hb
  clear D2 D3
  go_wp2_with fail
  refine (of_nat 1 1 rfl _ (by decide)).mono ?_
  rintro e w31 ⟨⟨v, rfl, hv⟩, hb⟩
  replace H0 := Lib.hid (H0.out.trans (hb.mono H0.out.size))
  replace Q := Lib.hid (Q.out.below hb)
  replace R := Lib.hid (R.out.below hb)
  replace G := Lib.hid (G.out.below hb)
  replace G0 := Lib.hid (G0.out.below hb)
  replace C := Lib.hid (C.out.below hb)
  replace NL := Lib.hid (NL.out.below hb)
  replace NM := Lib.hid (NM.out.below hb)
  have D4 := Lib.hid hv
  clear hb hv
  go_wp2_with fail
  refine (inv_err D4.out.at NM.out (natC_small D4.out (lt_top (by decide))) (invR_no (fun h => Nat.lt_irrefl _ h.1))).mono ?_
  rintro e w32 ⟨⟨v, rfl⟩, hb⟩
  replace H0 := Lib.hid (H0.out.trans (hb.mono H0.out.size))
  replace Q := Lib.hid (Q.out.below hb)
  replace R := Lib.hid (R.out.below hb)
  replace G := Lib.hid (G.out.below hb)
  replace G0 := Lib.hid (G0.out.below hb)
  replace C := Lib.hid (C.out.below hb)
  replace NL := Lib.hid (NL.out.below hb)
  replace NM := Lib.hid (NM.out.below hb)
  replace D4 := Lib.hid (D4.out.below hb)
  clear hb
  clear D4
  go_wp2_with fail
  refine (gcd_err NL.out (natAt_nil _) (gcdR_no (fun h => Nat.lt_irrefl _ h.1))).mono ?_
  rintro e w33 ⟨⟨v, rfl⟩, hb⟩
  replace H0 := Lib.hid (H0.out.trans (hb.mono H0.out.size))
  replace Q := Lib.hid (Q.out.below hb)
  replace R := Lib.hid (R.out.below hb)
  replace G := Lib.hid (G.out.below hb)
  replace G0 := Lib.hid (G0.out.below hb)
  replace C := Lib.hid (C.out.below hb)
  replace NL := Lib.hid (NL.out.below hb)
  replace NM := Lib.hid (NM.out.below hb)
  clear hb
  go_wp2_with fail
  refine (of_nat 3 3 rfl _ (by decide)).mono ?_
  rintro e w34 ⟨⟨v, rfl, hv⟩, hb⟩
  replace H0 := Lib.hid (H0.out.trans (hb.mono H0.out.size))
  replace Q := Lib.hid (Q.out.below hb)
  replace R := Lib.hid (R.out.below hb)
  replace G := Lib.hid (G.out.below hb)
  replace G0 := Lib.hid (G0.out.below hb)
  replace C := Lib.hid (C.out.below hb)
  replace NL := Lib.hid (NL.out.below hb)
  replace NM := Lib.hid (NM.out.below hb)
  have D5 := Lib.hid hv
  clear hb hv
  go_wp2_with fail
  refine (inv_nat NM.out D5.out.at (hsm.out _ _) (lt_topM (by decide)) topM_lt (by decide) gcd3).mono ?_
  rintro e w35 ⟨⟨v, rfl, hv⟩, hb⟩
  replace H0 := Lib.hid (H0.out.trans (hb.mono H0.out.size))
  replace Q := Lib.hid (Q.out.below hb)
  replace R := Lib.hid (R.out.below hb)
  replace G := Lib.hid (G.out.below hb)
  replace G0 := Lib.hid (G0.out.below hb)
  replace C := Lib.hid (C.out.below hb)
  replace NL := Lib.hid (NL.out.below hb)
  replace NM := Lib.hid (NM.out.below hb)
  replace D5 := Lib.hid (D5.out.below hb)
  have D := Lib.hid hv
  clear hb hv
  clear D5
  rw [inv3] at D
  go_wp2_with fail
  refine (alive_any _).mono ?_
  rintro e w36 ⟨rfl, hb⟩
  replace H0 := Lib.hid (H0.out.trans (hb.mono H0.out.size))
  replace Q := Lib.hid (Q.out.below hb)
  replace R := Lib.hid (R.out.below hb)
  replace G := Lib.hid (G.out.below hb)
  replace G0 := Lib.hid (G0.out.below hb)
  replace C := Lib.hid (C.out.below hb)
  replace NL := Lib.hid (NL.out.below hb)
  replace NM := Lib.hid (NM.out.below hb)
  replace D := Lib.hid (D.out.below hb)
  clear hb
  go_wp2_with fail
  refine (is_nat _ 4294967295 4294967295 4294967295 rfl _ Q.out (by decide) true rfl).mono ?_
  rintro e w37 ⟨rfl, hb⟩
  replace H0 := Lib.hid (H0.out.trans (hb.mono H0.out.size))
  replace Q := Lib.hid (Q.out.below hb)
  replace R := Lib.hid (R.out.below hb)
  replace G := Lib.hid (G.out.below hb)
  replace G0 := Lib.hid (G0.out.below hb)
  replace C := Lib.hid (C.out.below hb)
  replace NL := Lib.hid (NL.out.below hb)
  replace NM := Lib.hid (NM.out.below hb)
  replace D := Lib.hid (D.out.below hb)
  clear hb
  go_wp2_with fail
  refine (is_nat _ 1 1 1 rfl _ R.out (by decide) true rfl).mono ?_
  rintro e w38 ⟨rfl, hb⟩
  replace H0 := Lib.hid (H0.out.trans (hb.mono H0.out.size))
  replace Q := Lib.hid (Q.out.below hb)
  replace R := Lib.hid (R.out.below hb)
  replace G := Lib.hid (G.out.below hb)
  replace G0 := Lib.hid (G0.out.below hb)
  replace C := Lib.hid (C.out.below hb)
  replace NL := Lib.hid (NL.out.below hb)
  replace NM := Lib.hid (NM.out.below hb)
  replace D := Lib.hid (D.out.below hb)
  clear hb
  go_wp2_with fail
  refine (is_nat _ 7 7 7 rfl _ G.out (by decide) true rfl).mono ?_
  rintro e w39 ⟨rfl, hb⟩
  replace H0 := Lib.hid (H0.out.trans (hb.mono H0.out.size))
  replace Q := Lib.hid (Q.out.below hb)
  replace R := Lib.hid (R.out.below hb)
  replace G := Lib.hid (G.out.below hb)
  replace G0 := Lib.hid (G0.out.below hb)
  replace C := Lib.hid (C.out.below hb)
  replace NL := Lib.hid (NL.out.below hb)
  replace NM := Lib.hid (NM.out.below hb)
  replace D := Lib.hid (D.out.below hb)
  clear hb
  go_wp2_with fail
  refine (is_nat _ 0 0 0 rfl _ G0.out (by decide) true rfl).mono ?_
  rintro e w40 ⟨rfl, hb⟩
  replace H0 := Lib.hid (H0.out.trans (hb.mono H0.out.size))
  replace Q := Lib.hid (Q.out.below hb)
  replace R := Lib.hid (R.out.below hb)
  replace G := Lib.hid (G.out.below hb)
  replace G0 := Lib.hid (G0.out.below hb)
  replace C := Lib.hid (C.out.below hb)
  replace NL := Lib.hid (NL.out.below hb)
  replace NM := Lib.hid (NM.out.below hb)
  replace D := Lib.hid (D.out.below hb)
  clear hb
  go_wp2_with fail
  refine (is_nat _ 6 6 6 rfl _ C.out (by decide) true rfl).mono ?_
  rintro e w41 ⟨rfl, hb⟩
  replace H0 := Lib.hid (H0.out.trans (hb.mono H0.out.size))
  replace Q := Lib.hid (Q.out.below hb)
  replace R := Lib.hid (R.out.below hb)
  replace G := Lib.hid (G.out.below hb)
  replace G0 := Lib.hid (G0.out.below hb)
  replace C := Lib.hid (C.out.below hb)
  replace NL := Lib.hid (NL.out.below hb)
  replace NM := Lib.hid (NM.out.below hb)
  replace D := Lib.hid (D.out.below hb)
  clear hb
  go_wp2_with fail
  refine (is_nat _ 1 1 1 rfl _ D.out (by decide) true rfl).mono ?_
  rintro e w42 ⟨rfl, hb⟩
  replace H0 := Lib.hid (H0.out.trans (hb.mono H0.out.size))
  replace Q := Lib.hid (Q.out.below hb)
  replace R := Lib.hid (R.out.below hb)
  replace G := Lib.hid (G.out.below hb)
  replace G0 := Lib.hid (G0.out.below hb)
  replace C := Lib.hid (C.out.below hb)
  replace NL := Lib.hid (NL.out.below hb)
  replace NM := Lib.hid (NM.out.below hb)
  replace D := Lib.hid (D.out.below hb)
  clear hb
  go_wp2_with fail
  go_ret
  exact ⟨rfl, H0.out⟩

end Go.Proofs.Ytcnpgebjjknheaa
