/-
  Texts of ours, one behind the other: Qk1
-/
import Derived.Test.YtcdglhmapijebaaDoorPk11
set_option linter.unusedVariables false
set_option linter.unusedSimpArgs false

namespace Go.Proofs.YtcdglhmapijebaaDoor.L5
open Go.RowKit Go.Shelf

set_option maxRecDepth 100000 in
set_option maxHeartbeats 8000000 in
theorem ref_of512 (a : Option Addr) (n c : Nat) (bl : List Nat) (w : World) (hr : Reads .u8 w a n c bl) (hb : ∀ x ∈ bl, x < 256) (hn : n ≤ 9000) :
    Calls Tryd.prog 41 #[.int .i64 512, .slice a n c] w fun e w' => (∃ v, e = .returned (.tuple #[v, .int .i64 0]) ∧ OwnQ .u8 5 w.heap.size w' v (hashN 512 bl)) ∧ Below w.heap.size w w' := by
  have hzR : ∀ w, (zeroValue 103).run Tryd.prog w = .ok (.agg (arrC .u64 zR)) w := fun _ => by kernel_rfl
  have hz8 : ∀ w, (zeroValue 104).run Tryd.prog w = .ok (.agg (arrC .u64 z8)) w := fun _ => by kernel_rfl
  have HR := Lib.hid hr
  have HBL := Lib.hid hb
  clear hr hb
  go_enter Tryd.func41, Tryd.ntmps41
  go_wp2_with fail
  refine (first_any w).mono ?_
  rintro e w1 ⟨⟨v, rfl, hp⟩, hb1⟩
  obtain ⟨gp, cp, rfl⟩ := hp.succ (by decide)
  rw [primesL_len] at hp ⊢
  have HP := Lib.hid hp.reads
  have hgp := Lib.hid (hp.lt gp rfl)
  have HB1 := Lib.hid hb1
  clear hp hb1
  go_wp2_with fail
  have HO := Lib.hid (of_start w w1 gp cp (startN 512) HP.out HB1.out hgp.out.2)
  generalize (w1.alloc (.cells (arrC .u64 zR) 103)).alloc (.cells (arrC .u64 z8) 104) = W0 at *
  obtain ⟨gk, hgk⟩ : ∃ g, g = w1.heap.size := ⟨_, rfl⟩
  obtain ⟨gh, hgh⟩ : ∃ g, g = w1.heap.size + 1 := ⟨_, rfl⟩
  rw [← hgh, ← hgk] at HO
  rw [← hgh, ← hgk]
  clear hgk hgh hgp HP HB1
  go_loopw [10] (fun iv wq => ∃ i : Nat, iv = .int .i64 (i : Int) ∧ i ≤ 80 ∧ Hid (OfP w wq gp cp gk gh (fillT kL 80 i) (fillT (startN 512) 8 0))) (fun iv _ => 80 - (intOf iv).toNat)
  case atStart => exact ⟨0, rfl, by decide, HO.out⟩
  case round =>
    obtain ⟨i, rfl, hi, hI⟩ := hrel
    by_cases hlt : i < 80
    · have cp1 := reads_cellG hI.out.p i hlt
      obtain ⟨v, hv, hm⟩ := k_at i hlt
      have hp5 : g0 primesL i < 512 := g0_lt prime_lt (by decide) i
      generalize g0 primesL i = x at *
      obtain ⟨y, hy⟩ : ∃ y, y = g0 kL i := ⟨_, rfl⟩
      have hv : fracV x 3 64 = some y := by rw [hv]; rw [← hy] at hm; rw [← hm, Nat.mod_zero]
      have HY := Lib.hid (show fillT kL 80 (i + 1) = (fillT kL 80 i).set i y by rw [hy]; exact (fillT_set hlt (by rw [kL_len]; exact Nat.le_refl _)).symm)
      have hcp := hI.out.p.le
      clear hy hm
      go_wp2_with fail
      refine (fraction_any x 3 64 y (by decide) (by decide) hp5 hv wr).mono ?_
      rintro e w2 ⟨rfl, hb2⟩
      have HO2 := Lib.hid (hI.out.on hb2)
      have ck := HO2.out.k.cell i (by rw [fillT_len hi (by rw [kL_len]; exact Nat.le_refl _)]; exact hlt)
      have fk := HO2.out.k.frozen i
      clear hb2 cp1
      go_wp2
      go_roundw
      case rel => exact ⟨i + 1, by go_num, by omega, by rw [HY.out]; exact HO2.out.setk i y _ rfl⟩
      case measure => simp [intOf] <;> omega
    · have hiR : i = 80 := by omega
      have tI : decide ((i : Int) < 80) = false := by simp; omega
      have HO2 := Lib.hid (show OfP w wr gp cp gk gh kL (fillT (startN 512) 8 0) by have := hI.out; rw [hiR, fillT_all kL_len] at this; exact this)
      clear hI hiR hlt hi HO
      go_wp2_with fail
      go_loopw [11] (fun iv wq => ∃ i : Nat, iv = .int .i64 (i : Int) ∧ i ≤ 8 ∧ Hid (OfP w wq gp cp gk gh kL (fillT (startN 512) 8 i))) (fun iv _ => 8 - (intOf iv).toNat)
      case atStart => exact ⟨0, rfl, by decide, HO2.out⟩
      case round =>
        obtain ⟨i2, rfl, hi, hI⟩ := hrel
        by_cases hlt : i2 < 8
        · obtain ⟨v, hv, hm⟩ := h1_at i2 hlt

          have cp1 := reads_cellG hI.out.p i2 (by omega)
          have hp5 : g0 primesL i2 < 512 := g0_lt prime_lt (by decide) _
          generalize g0 primesL i2 = x at *
          obtain ⟨y, hy⟩ : ∃ y, y = g0 (startN 512) i2 := ⟨_, rfl⟩
          have hv : fracV x 2 64 = some y := by rw [hv]; rw [← hy] at hm; rw [← hm, Nat.mod_zero]
          have HY := Lib.hid (show fillT (startN 512) 8 (i2 + 1) = (fillT (startN 512) 8 i2).set i2 y by rw [hy]; exact (fillT_set hlt (by rw [startN_len]; exact Nat.le_refl _)).symm)
          have hcp := hI.out.p.le
          clear hy hm
          go_wp2_with fail
          refine (fraction_any x 2 64 y (by decide) (by decide) hp5 hv wr).mono ?_
          rintro e w2 ⟨rfl, hb2⟩
          have HO3 := Lib.hid (hI.out.on hb2)
          have ck := HO3.out.h.cell i2 (by rw [fillT_len hi (by rw [startN_len]; exact Nat.le_refl _)]; exact hlt)
          have fk := HO3.out.h.frozen i2
          clear hb2 cp1
          go_wp2
          go_roundw
          case rel => exact ⟨i2 + 1, by go_num, by omega, by rw [HY.out]; exact HO3.out.seth i2 y _ rfl⟩
          case measure => simp [intOf] <;> omega
        · have hiR : i2 = 8 := by omega
          have tI2 : decide ((i2 : Int) < 8) = false := by simp; omega
          have HO3 := Lib.hid (show OfP w wr gp cp gk gh kL (startN 512) by have := hI.out; rw [hiR, fillT_all (startN_len _)] at this; exact this)
          clear hI hiR hlt hi HO2
          go_wp2_with fail
          refine (fill_any a n c bl wr (HR.out.below HO3.out.below) (by omega)).mono ?_
          rintro e w3 ⟨⟨v3, rfl, ho3⟩, hb3⟩
          obtain ⟨gm, cm, rfl⟩ := ho3.succ (fillN_ne bl)
          have hgm := ho3.lt gm rfl
          have HS := Lib.hid (show OfS w w3 gk gh gm (fillN bl).length cm (startN 512) (fillN bl) from ⟨HO3.out.k.below hb3 HO3.out.k.lt, HO3.out.h.below hb3 HO3.out.h.lt, ho3.reads, HO3.out.below.trans (hb3.mono HO3.out.below.size), HO3.out.ne.2.2.1, (by have := HO3.out.h.lt; omega), HO3.out.ne.2.2.2.2⟩)
          obtain ⟨nb, hnb, hnb2⟩ := fillN_blocks bl
          have hml := fillN_len bl
          rw [HR.out.length] at hml
          have HMB := Lib.hid (fillN_lt HBL.out)
          have HFN := Lib.hid (show fillN bl = fillN bl from rfl)
          generalize hM : fillN bl = M at *
          have HM := Lib.hid hM.symm
          obtain ⟨ml, hml2⟩ : ∃ l, l = M.length := ⟨_, rfl⟩
          rw [← hml2] at HS hnb hml ⊢
          have HML := Lib.hid hml2
          have HNB := Lib.hid hnb
          clear hM hml2 ho3 hb3 hgm HO3 HFN hnb
          have hmlb : ml ≤ 9300 := by omega
          clear hml
          go_wp2_with fail
          go_loopw [13] (fun av wq => ∃ j at' : Nat, av = .int .i64 (at' : Int) ∧ at' ≤ 11000 ∧ j ≤ nb ∧ Hid (at' = 128 * j ∧ OfS w wq gk gh gm ml cm (wsK 512 M j) M)) (fun av _ => ml - (intOf av).toNat)
          case atStart => exact ⟨0, 0, rfl, by decide, Nat.zero_le _, rfl, HS.out⟩
          case round =>
            obtain ⟨j, at', rfl, hat, hj, hI⟩ := hrel
            by_cases hlt : j < nb
            · have hat2 : at' + 128 ≤ ml := by rw [hI.out.1, HNB.out]; omega
              have tJ : decide (at' < ml) = true := by simp; omega
              have HSS := Lib.hid hI.out.2
              have HAT := Lib.hid hI.out.1
              clear hI
              go_wp2_with fail
              have HO4 := Lib.hid (HSS.out.beside (by omega))
              have HW := Lib.hid (show Arr .u64 103 (wr.alloc (.cells (arrC .u64 zR) 103)) wr.heap.size zR from Go.heap_alloc_new wr _)
              have HSS := Lib.hid (HSS.out.on ((Below.refl _ _).alloc (Nat.le_refl _) (.cells (arrC .u64 zR) 103)))
              generalize wr.alloc (.cells (arrC .u64 zR) 103) = W2 at *
              generalize wr.heap.size = gw at *
              obtain ⟨bb, hbb⟩ : ∃ b, b = (M.drop at').take 128 := ⟨_, rfl⟩
              have HBB := Lib.hid hbb
              have HBY := Lib.hid (show ∀ x ∈ bb, x < 256 by rw [hbb]; exact fun x hx => HMB.out x (List.mem_of_mem_drop (List.mem_of_mem_take hx)))
              have HBG := Lib.hid (show ∀ k, k < 128 → g0 bb k = g0 M (at' + k) by
                intro k hk
                rw [hbb]
                unfold g0
                rw [List.getElem?_take_of_lt hk, List.getElem?_drop])
              clear hbb
              go_loopw [15] (fun iv wq => ∃ i : Nat, iv = .int .i64 (i : Int) ∧ i ≤ 16 ∧ Hid (OfS w wq gk gh gm ml cm (wsK 512 M j) M ∧ Arr .u64 103 wq gw (packN bb (8 * i)))) (fun iv _ => 16 - (intOf iv).toNat)
              case atStart => exact ⟨0, rfl, by decide, HSS.out, HW.out⟩
              case round =>
                obtain ⟨i, rfl, hi, hI⟩ := hrel
                by_cases hlt2 : i < 16
                · have HI := Lib.hid hI.out
                  clear hI HSS HW
                  go_wp2_with fail
                  go_loopw [16] (fun nv wq => ∃ m : Nat, nv = .int .i64 (m : Int) ∧ m ≤ 8 ∧ Hid (OfS w wq gk gh gm ml cm (wsK 512 M j) M ∧ Arr .u64 103 wq gw (packN bb (8 * i + m)))) (fun nv _ => 8 - (intOf nv).toNat)
                  case atStart => exact ⟨0, rfl, by decide, HI.out⟩
                  case round =>
                    obtain ⟨m, rfl, hm, hJ⟩ := hrel
                    by_cases hlt3 : m < 8
                    · have cw := hJ.out.2.cell i (by rw [packN_len]; omega)
                      have fw := hJ.out.2.frozen i
                      obtain ⟨x, hx⟩ : ∃ x, x = g0 (packN bb (8 * i + m)) i := ⟨_, rfl⟩
                      have lx : x < 18446744073709551616 := hx ▸ g0_lt (packN_lt bb HBY.out _) (by decide) i
                      change wr.cell? _ = some (.int .u64 ((g0 (packN bb (8 * i + m)) i : Nat) : Int)) at cw
                      rw [← hx] at cw
                      obtain ⟨i4, hi4⟩ : ∃ k, k = 8 * i := ⟨_, rfl⟩
                      obtain ⟨ai, hai⟩ : ∃ k, k = at' + i4 := ⟨_, rfl⟩
                      obtain ⟨ix, hix⟩ : ∃ k, k = ai + m := ⟨_, rfl⟩
                      have ei4 : (8 : Int) * (i : Int) = (i4 : Int) := by omega
                      have eai : (at' : Int) + (i4 : Int) = (ai : Int) := by omega
                      have eix : (ai : Int) + (m : Int) = (ix : Int) := by omega
                      have lix : ix < ml := by omega
                      have lai : ai < ml := by omega
                      have li4 : i4 < 128 := by omega
                      have cy := reads_cellG hJ.out.1.m ix lix
                      have ly : g0 M ix < 256 := g0_lt HMB.out (by decide) ix
                      have hgy : g0 bb (8 * i + m) = g0 M ix := by rw [HBG.out _ (by omega), hix, hai, hi4, Nat.add_assoc]
                      generalize g0 M ix = y at *
                      have HST := Lib.hid (pack_step bb i m x y hlt3 hx hgy.symm ly)
                      have hcm := hJ.out.1.m.le
                      obtain ⟨x2, hx2⟩ : ∃ z, z = 256 * x % 18446744073709551616 := ⟨_, rfl⟩
                      obtain ⟨r, hr⟩ : ∃ z, z = (256 * x + y) % 18446744073709551616 := ⟨_, rfl⟩
                      have ex2 : (256 : Int) * (x : Int) % 18446744073709551616 = (x2 : Int) := by omega
                      have er : ((x2 : Int) + (y : Int)) % 18446744073709551616 = (r : Int) := by omega
                      have lx2 : x2 < 18446744073709551616 := by omega
                      have wx2 : IntKind.u64.wrap (256 * (x : Int)) = (x2 : Int) := by simp [IntKind.wrap, IntKind.bits, IntKind.signed]; omega
                      have wr1 : IntKind.u64.wrap ((x2 : Int) + (y : Int)) = (r : Int) := by simp [IntKind.wrap, IntKind.bits, IntKind.signed]; omega
                      have wr2 : IntKind.u64.wrap (IntKind.u64.wrap (256 * (x : Int)) + (y : Int)) = (r : Int) := by rw [wx2, wr1]
                      rw [← hr] at HST
                      clear hx hi4 hai hix hgy hx2 hr
                      have HJ := Lib.hid hJ.out
                      clear hJ HI
                      go_wp2_with fail
                      go_region
                      all_goals go_wp2
                      all_goals go_roundw
                      case rel => exact ⟨m + 1, by go_num, by omega, (HJ.out.1.set HO4.out i _).drew, by
                        rw [HST.out]
                        exact Arr.stored (w := wr) HJ.out.2 i r _ (by omega)⟩
                      case measure => simp [intOf] <;> omega
                    · have hmW : m = 8 := by omega
                      have tm : decide ((m : Int) < 8) = false := by simp; omega
                      have HJ := Lib.hid hJ.out
                      have HNX := Lib.hid (show Arr .u64 103 wr gw (packN bb (8 * (i + 1))) by have := hJ.out.2; rw [hmW] at this; exact this)
                      clear hJ HI hmW hlt3 hm
                      go_wp2
                      go_roundw
                      case rel => exact ⟨i + 1, by go_num, by omega, HJ.out.1, HNX.out⟩
                      case measure => simp [intOf] <;> omega
                · have hi16 : i = 16 := by omega
                  have ti : decide ((i : Int) < 16) = false := by simp; omega
                  have HP := Lib.hid hI.out.1
                  have HPA := Lib.hid (show Arr .u64 103 wr gw (extN (packN bb 128) 0) by have := hI.out.2; rw [hi16] at this; exact this)
                  clear hI hi16 hlt2 hi HSS HW
                  go_wp2_with fail
                  go_loopw [17] (fun tv wq => ∃ t : Nat, tv = .int .i64 (t : Int) ∧ 16 ≤ t ∧ t ≤ 80 ∧ Hid (OfS w wq gk gh gm ml cm (wsK 512 M j) M ∧ Arr .u64 103 wq gw (extN (packN bb 128) (t - 16)))) (fun tv _ => 80 - (intOf tv).toNat)
                  case atStart => exact ⟨16, rfl, by decide, by decide, HP.out, HPA.out⟩
                  case round =>
                    obtain ⟨t, rfl, ht1, ht2, hI⟩ := hrel
                    have hlR := Lib.hid (extN_len (packN bb 128) (packN_len bb 128) (t - 16))
                    have hltR := Lib.hid (extN_lt (packN bb 128) (packN_lt bb HBY.out 128) (t - 16))
                    by_cases hltt : t < 80
                    · have HE := Lib.hid (show extN (packN bb 128) (t + 1 - 16) = extS t (extN (packN bb 128) (t - 16)) by
                        rw [show t + 1 - 16 = (t - 16) + 1 by omega]
                        show extS (16 + (t - 16)) _ = _
                        rw [show 16 + (t - 16) = t by omega])
                      have HOS := Lib.hid hI.out.1
                      have HLA := Lib.hid hI.out.2
                      generalize extN (packN bb 128) (t - 16) = L at *
                      clear hI HP HPA
                      obtain ⟨p16, hp16⟩ : ∃ p, p = t - 16 := ⟨_, rfl⟩
                      have ep16 : (t : Int) - 16 = (p16 : Int) := by omega
                      have lp16 : p16 < 80 := by omega
                      have wp16 : IntKind.i64.wrap (p16 : Int) = (p16 : Int) := by simp [IntKind.wrap, IntKind.bits, IntKind.signed]; omega
                      have ip16 : (p16 : Int) < 80 := by omega
                      have cx16 := HLA.out.cell p16 (by rw [hlR.out]; omega)
                      obtain ⟨x16, hx16⟩ : ∃ zz, zz = g0 L p16 := ⟨_, rfl⟩
                      have lx16 : x16 < 18446744073709551616 := hx16 ▸ g0_lt hltR.out (by decide) _
                      rw [show L[p16]?.getD 0 = x16 from hx16.symm] at cx16
                      obtain ⟨p7, hp7⟩ : ∃ p, p = t - 7 := ⟨_, rfl⟩
                      have ep7 : (t : Int) - 7 = (p7 : Int) := by omega
                      have lp7 : p7 < 80 := by omega
                      have wp7 : IntKind.i64.wrap (p7 : Int) = (p7 : Int) := by simp [IntKind.wrap, IntKind.bits, IntKind.signed]; omega
                      have ip7 : (p7 : Int) < 80 := by omega
                      have cx7 := HLA.out.cell p7 (by rw [hlR.out]; omega)
                      obtain ⟨x7, hx7⟩ : ∃ zz, zz = g0 L p7 := ⟨_, rfl⟩
                      have lx7 : x7 < 18446744073709551616 := hx7 ▸ g0_lt hltR.out (by decide) _
                      rw [show L[p7]?.getD 0 = x7 from hx7.symm] at cx7
                      obtain ⟨p15, hp15⟩ : ∃ p, p = t - 15 := ⟨_, rfl⟩
                      have ep15 : (t : Int) - 15 = (p15 : Int) := by omega
                      have lp15 : p15 < 80 := by omega
                      have wp15 : IntKind.i64.wrap (p15 : Int) = (p15 : Int) := by simp [IntKind.wrap, IntKind.bits, IntKind.signed]; omega
                      have ip15 : (p15 : Int) < 80 := by omega
                      have cx15 := HLA.out.cell p15 (by rw [hlR.out]; omega)
                      obtain ⟨x15, hx15⟩ : ∃ zz, zz = g0 L p15 := ⟨_, rfl⟩
                      have lx15 : x15 < 18446744073709551616 := hx15 ▸ g0_lt hltR.out (by decide) _
                      rw [show L[p15]?.getD 0 = x15 from hx15.symm] at cx15
                      obtain ⟨p2, hp2⟩ : ∃ p, p = t - 2 := ⟨_, rfl⟩
                      have ep2 : (t : Int) - 2 = (p2 : Int) := by omega
                      have lp2 : p2 < 80 := by omega
                      have wp2 : IntKind.i64.wrap (p2 : Int) = (p2 : Int) := by simp [IntKind.wrap, IntKind.bits, IntKind.signed]; omega
                      have ip2 : (p2 : Int) < 80 := by omega
                      have cx2 := HLA.out.cell p2 (by rw [hlR.out]; omega)
                      obtain ⟨x2, hx2⟩ : ∃ zz, zz = g0 L p2 := ⟨_, rfl⟩
                      have lx2 : x2 < 18446744073709551616 := hx2 ▸ g0_lt hltR.out (by decide) _
                      rw [show L[p2]?.getD 0 = x2 from hx2.symm] at cx2
                      obtain ⟨f1, hf1⟩ : ∃ zz, zz = rotr x15 1 := ⟨_, rfl⟩
                      have lf1 : f1 < 18446744073709551616 := hf1 ▸ rotr_lt lx15
                      have Rf1 := Lib.hid hf1
                      obtain ⟨f2, hf2⟩ : ∃ zz, zz = rotr x15 8 := ⟨_, rfl⟩
                      have lf2 : f2 < 18446744073709551616 := hf2 ▸ rotr_lt lx15
                      have Rf2 := Lib.hid hf2
                      obtain ⟨f3, hf3⟩ : ∃ zz, zz = f1 ^^^ f2 := ⟨_, rfl⟩
                      have lf3 : f3 < 18446744073709551616 := by rw [hf3]; exact Nat.xor_lt_two_pow (n := 64) lf1 lf2
                      have ef3 : bits BinOp.xor IntKind.u64 (f1 : Int) (f2 : Int) = (f3 : Int) := by rw [u64_xor_nat _ _ lf1 lf2, hf3]
                      obtain ⟨f4, hf4⟩ : ∃ zz, zz = x15 / 2 ^ 7 := ⟨_, rfl⟩
                      have lf4 : f4 < 18446744073709551616 := by rw [hf4]; exact Nat.lt_of_le_of_lt (Nat.div_le_self _ _) lx15
                      have Rf4 := Lib.hid hf4
                      obtain ⟨f, hf⟩ : ∃ zz, zz = f3 ^^^ f4 := ⟨_, rfl⟩
                      have lf : f < 18446744073709551616 := by rw [hf]; exact Nat.xor_lt_two_pow (n := 64) lf3 lf4
                      have ef : bits BinOp.xor IntKind.u64 (f3 : Int) (f4 : Int) = (f : Int) := by rw [u64_xor_nat _ _ lf3 lf4, hf]
                      obtain ⟨u1, hu1⟩ : ∃ zz, zz = rotr x2 19 := ⟨_, rfl⟩
                      have lu1 : u1 < 18446744073709551616 := hu1 ▸ rotr_lt lx2
                      have Ru1 := Lib.hid hu1
                      obtain ⟨u2, hu2⟩ : ∃ zz, zz = rotr x2 61 := ⟨_, rfl⟩
                      have lu2 : u2 < 18446744073709551616 := hu2 ▸ rotr_lt lx2
                      have Ru2 := Lib.hid hu2
                      obtain ⟨u3, hu3⟩ : ∃ zz, zz = u1 ^^^ u2 := ⟨_, rfl⟩
                      have lu3 : u3 < 18446744073709551616 := by rw [hu3]; exact Nat.xor_lt_two_pow (n := 64) lu1 lu2
                      have eu3 : bits BinOp.xor IntKind.u64 (u1 : Int) (u2 : Int) = (u3 : Int) := by rw [u64_xor_nat _ _ lu1 lu2, hu3]
                      obtain ⟨u4, hu4⟩ : ∃ zz, zz = x2 / 2 ^ 6 := ⟨_, rfl⟩
                      have lu4 : u4 < 18446744073709551616 := by rw [hu4]; exact Nat.lt_of_le_of_lt (Nat.div_le_self _ _) lx2
                      have Ru4 := Lib.hid hu4
                      obtain ⟨u, hu⟩ : ∃ zz, zz = u3 ^^^ u4 := ⟨_, rfl⟩
                      have lu : u < 18446744073709551616 := by rw [hu]; exact Nat.xor_lt_two_pow (n := 64) lu3 lu4
                      have eu : bits BinOp.xor IntKind.u64 (u3 : Int) (u4 : Int) = (u : Int) := by rw [u64_xor_nat _ _ lu3 lu4, hu]
                      obtain ⟨s1, hs1⟩ : ∃ zz, zz = (x16 + x7) % 18446744073709551616 := ⟨_, rfl⟩
                      have es1 : ((x16 : Int) + (x7 : Int)) % 18446744073709551616 = (s1 : Int) := by omega
                      have ls1 : s1 < 18446744073709551616 := by omega
                      have ws1 : IntKind.u64.wrap ((x16 : Int) + (x7 : Int)) = (s1 : Int) := by simp [IntKind.wrap, IntKind.bits, IntKind.signed]; omega
                      obtain ⟨s2, hs2⟩ : ∃ zz, zz = (s1 + f) % 18446744073709551616 := ⟨_, rfl⟩
                      have es2 : ((s1 : Int) + (f : Int)) % 18446744073709551616 = (s2 : Int) := by omega
                      have ls2 : s2 < 18446744073709551616 := by omega
                      have ws2 : IntKind.u64.wrap ((s1 : Int) + (f : Int)) = (s2 : Int) := by simp [IntKind.wrap, IntKind.bits, IntKind.signed]; omega
                      obtain ⟨s3, hs3⟩ : ∃ zz, zz = (s2 + u) % 18446744073709551616 := ⟨_, rfl⟩
                      have es3 : ((s2 : Int) + (u : Int)) % 18446744073709551616 = (s3 : Int) := by omega
                      have ls3 : s3 < 18446744073709551616 := by omega
                      have ws3 : IntKind.u64.wrap ((s2 : Int) + (u : Int)) = (s3 : Int) := by simp [IntKind.wrap, IntKind.bits, IntKind.signed]; omega
                      have HE2 := Lib.hid (show extN (packN bb 128) (t + 1 - 16) = L.set t s3 by
                        rw [HE.out]
                        unfold extS farN nearN
                        have hf4 : f4 = x15 / 128 := hf4
                        have hu4 : u4 = x2 / 64 := hu4
                        rw [← hp16, ← hp7, ← hp15, ← hp2, ← hx16, ← hx7, ← hx15, ← hx2, ← hf1, ← hf2, ← hf4, ← hf3, ← hf, ← hu1, ← hu2, ← hu4, ← hu3, ← hu, ← hs1, ← hs2, ← hs3])
                      have hft := HLA.out.frozen t
                      have hkt := HLA.out.cell t (by rw [hlR.out]; exact hltt)
                      have wt : IntKind.i64.wrap (t : Int) = (t : Int) := by simp [IntKind.wrap, IntKind.bits, IntKind.signed]; omega
                      have it : (t : Int) < 80 := by omega
                      clear hp16 hp7 hp15 hp2 hx16 hx7 hx15 hx2 hf1 hf2 hf3 hf4 hf hu1 hu2 hu3 hu4 hu hs1 hs2 hs3 HE
                      go_wp2_with fail
                      go_still_tail 29, (by kernel_rfl)
                      still_call (right_s x15 1 f1 _ (by decide) rfl lx15 Rf1.out _)
                      repeat still_step
                      still_call (right_s x15 8 f2 _ (by decide) rfl lx15 Rf2.out _)
                      repeat still_step
                      still_call (down_s x15 7 f4 _ (by decide) rfl lx15 Rf4.out _)
                      repeat still_step
                      still_call (right_s x2 19 u1 _ (by decide) rfl lx2 Ru1.out _)
                      repeat still_step
                      still_call (right_s x2 61 u2 _ (by decide) rfl lx2 Ru2.out _)
                      repeat still_step
                      still_call (down_s x2 6 u4 _ (by decide) rfl lx2 Ru4.out _)
                      repeat still_step
                      refine wpStill_nil ?_
                      change wpList _ _ _ _ _ wr.drew
                      have hkt2 : wr.drew.cell? ⟨gw, t, none⟩ = some (.int .u64 ((L[t]?.getD 0 : Nat) : Int)) := hkt
                      have hft2 : wr.drew.frozen? ⟨gw, t, none⟩ = false := hft
                      go_wp2
                      go_roundw
                      case rel => exact ⟨t + 1, by go_num, by omega, by omega, HOS.out.drew.set HO4.out t _, by rw [HE2.out]; exact Arr.stored (w := wr.drew) HLA.out t s3 _ rfl⟩
                      case measure => simp [intOf] <;> omega
                    · have htR : t = 80 := by omega
                      have tt : decide ((t : Int) < 80) = false := by simp; omega
                      have HP := Lib.hid hI.out.1
                      have HSC := Lib.hid (show Arr .u64 103 wr gw (schedN bb) by have := hI.out.2; rw [htR] at this; exact this)
                      have HSL := Lib.hid (schedN_len bb)
                      have HSB := Lib.hid (schedN_lt bb HBY.out)
                      have HWL := Lib.hid (wsK_len 512 M j)
                      have HWB := Lib.hid (wsK_lt 512 M j)
                      have HNXT := Lib.hid (show wsK 512 M (j + 1) = addTo (wsK 512 M j) (rdsN (wsK 512 M j) (schedN bb) 80) 8 by
                        rw [HBB.out, HAT.out]
                        rfl)
                      clear hI htR hltt ht1 ht2 hlR hltR HPA
                      generalize schedN bb = sc at *
                      generalize wsK 512 M j = H at *
                      go_wp2_with (first | (refine wpList_load8 rfl _ rfl gh H rfl HP.out.h HWL.out ?_) | (refine wpList_store8 rfl _ _ rfl wr.heap.size z8 H rfl rfl (Go.heap_alloc_new wr _) rfl HWL.out ?_))
                      have HFR := Lib.hid (below_fresh (Below.refl wr.heap.size wr) (Nat.le_refl _) (.cells (arrC .u64 z8) 104) (arrC .u64 H))
                      have HGS := Lib.hid (show Arr .u64 104 ((wr.alloc (.cells (arrC .u64 z8) 104)).setRow wr.heap.size (arrC .u64 H)) wr.heap.size H from Arr.laid (l := z8) (Go.heap_alloc_new wr _) H)
                      have HO5 := Lib.hid (HP.out.beside (by omega))
                      have hws := Lib.hid (show gw ≠ wr.heap.size from Nat.ne_of_lt HSC.out.lt)
                      have HSC := Lib.hid (HSC.out.below HFR.out HSC.out.lt)
                      have HP := Lib.hid (HP.out.on HFR.out)
                      clear HFR
                      generalize (wr.alloc (.cells (arrC .u64 z8) 104)).setRow wr.heap.size (arrC .u64 H) = W3 at *
                      generalize wr.heap.size = gs at *
                      go_wp2_with fail
                      go_loopw [21] (fun iv wq => ∃ i : Nat, iv = .int .i64 (i : Int) ∧ i ≤ 80 ∧ Hid (OfS w wq gk gh gm ml cm H M ∧ Arr .u64 103 wq gw sc ∧ Arr .u64 104 wq gs (rdsN H sc i))) (fun iv _ => 80 - (intOf iv).toNat)
                      case atStart => exact ⟨0, rfl, by decide, HP.out, HSC.out, HGS.out⟩
                      case round =>
                        obtain ⟨i, rfl, hii, hI⟩ := hrel
                        by_cases hlti : i < 80
                        · skip
                          have hVl := Lib.hid (rdsN_len H sc HWL.out i)
                          have hVb := Lib.hid (rdsN_lt H sc HWB.out i)
                          have cv0 := hI.out.2.2.cell 0 (by rw [hVl.out]; decide)
                          obtain ⟨a, ha⟩ : ∃ x, x = g0 (rdsN H sc i) 0 := ⟨_, rfl⟩
                          have la : a < 18446744073709551616 := ha ▸ g0_lt hVb.out (by decide) 0
                          rw [show (rdsN H sc i)[0]?.getD 0 = a from ha.symm] at cv0
                          have cv1 := hI.out.2.2.cell 1 (by rw [hVl.out]; decide)
                          obtain ⟨b, hb⟩ : ∃ x, x = g0 (rdsN H sc i) 1 := ⟨_, rfl⟩
                          have lb : b < 18446744073709551616 := hb ▸ g0_lt hVb.out (by decide) 1
                          rw [show (rdsN H sc i)[1]?.getD 0 = b from hb.symm] at cv1
                          have cv2 := hI.out.2.2.cell 2 (by rw [hVl.out]; decide)
                          obtain ⟨c, hc⟩ : ∃ x, x = g0 (rdsN H sc i) 2 := ⟨_, rfl⟩
                          have lc : c < 18446744073709551616 := hc ▸ g0_lt hVb.out (by decide) 2
                          rw [show (rdsN H sc i)[2]?.getD 0 = c from hc.symm] at cv2
                          have cv3 := hI.out.2.2.cell 3 (by rw [hVl.out]; decide)
                          obtain ⟨d, hd⟩ : ∃ x, x = g0 (rdsN H sc i) 3 := ⟨_, rfl⟩
                          have ld : d < 18446744073709551616 := hd ▸ g0_lt hVb.out (by decide) 3
                          rw [show (rdsN H sc i)[3]?.getD 0 = d from hd.symm] at cv3
                          have cv4 := hI.out.2.2.cell 4 (by rw [hVl.out]; decide)
                          obtain ⟨e, he⟩ : ∃ x, x = g0 (rdsN H sc i) 4 := ⟨_, rfl⟩
                          have le : e < 18446744073709551616 := he ▸ g0_lt hVb.out (by decide) 4
                          rw [show (rdsN H sc i)[4]?.getD 0 = e from he.symm] at cv4
                          have cv5 := hI.out.2.2.cell 5 (by rw [hVl.out]; decide)
                          obtain ⟨f, hf⟩ : ∃ x, x = g0 (rdsN H sc i) 5 := ⟨_, rfl⟩
                          have lf : f < 18446744073709551616 := hf ▸ g0_lt hVb.out (by decide) 5
                          rw [show (rdsN H sc i)[5]?.getD 0 = f from hf.symm] at cv5
                          have cv6 := hI.out.2.2.cell 6 (by rw [hVl.out]; decide)
                          obtain ⟨m, hm⟩ : ∃ x, x = g0 (rdsN H sc i) 6 := ⟨_, rfl⟩
                          have lm : m < 18446744073709551616 := hm ▸ g0_lt hVb.out (by decide) 6
                          rw [show (rdsN H sc i)[6]?.getD 0 = m from hm.symm] at cv6
                          have cv7 := hI.out.2.2.cell 7 (by rw [hVl.out]; decide)
                          obtain ⟨h, hh⟩ : ∃ x, x = g0 (rdsN H sc i) 7 := ⟨_, rfl⟩
                          have lh : h < 18446744073709551616 := hh ▸ g0_lt hVb.out (by decide) 7
                          rw [show (rdsN H sc i)[7]?.getD 0 = h from hh.symm] at cv7
                          have ck := hI.out.1.k.cell i (by rw [kL_len]; exact hlti)
                          obtain ⟨k, hk⟩ : ∃ x, x = g0 kL i := ⟨_, rfl⟩
                          have lk : k < 18446744073709551616 := hk ▸ g0_lt kL_lt (by decide) i
                          rw [show kL[i]?.getD 0 = k from hk.symm] at ck
                          have cu := hI.out.2.1.cell i (by rw [HSL.out]; exact hlti)
                          obtain ⟨u, hu⟩ : ∃ x, x = g0 sc i := ⟨_, rfl⟩
                          have lu : u < 18446744073709551616 := hu ▸ g0_lt HSB.out (by decide) i
                          rw [show sc[i]?.getD 0 = u from hu.symm] at cu
                          have HE := Lib.hid (show rdsN H sc (i + 1) = [(yN e f m h k u + zN a b c) % 18446744073709551616, a, b, c, (d + yN e f m h k u) % 18446744073709551616, e, f, m] by rw [ha, hb, hc, hd, he, hf, hm, hh, hk, hu]; rfl)
                          clear ha hb hc hd he hf hm hh hk hu
                          obtain ⟨r1, hr1⟩ : ∃ zz, zz = rotr e 14 := ⟨_, rfl⟩
                          have lr1 : r1 < 18446744073709551616 := hr1 ▸ rotr_lt le
                          have Rr1 := Lib.hid hr1
                          obtain ⟨r2, hr2⟩ : ∃ zz, zz = rotr e 18 := ⟨_, rfl⟩
                          have lr2 : r2 < 18446744073709551616 := hr2 ▸ rotr_lt le
                          have Rr2 := Lib.hid hr2
                          obtain ⟨r3, hr3⟩ : ∃ zz, zz = rotr e 41 := ⟨_, rfl⟩
                          have lr3 : r3 < 18446744073709551616 := hr3 ▸ rotr_lt le
                          have Rr3 := Lib.hid hr3
                          obtain ⟨r4, hr4⟩ : ∃ zz, zz = r1 ^^^ r2 := ⟨_, rfl⟩
                          have lr4 : r4 < 18446744073709551616 := by rw [hr4]; exact Nat.xor_lt_two_pow (n := 64) lr1 lr2
                          have er4 : bits BinOp.xor IntKind.u64 (r1 : Int) (r2 : Int) = (r4 : Int) := by rw [u64_xor_nat _ _ lr1 lr2, hr4]
                          obtain ⟨r5, hr5⟩ : ∃ zz, zz = r4 ^^^ r3 := ⟨_, rfl⟩
                          have lr5 : r5 < 18446744073709551616 := by rw [hr5]; exact Nat.xor_lt_two_pow (n := 64) lr4 lr3
                          have er5 : bits BinOp.xor IntKind.u64 (r4 : Int) (r3 : Int) = (r5 : Int) := by rw [u64_xor_nat _ _ lr4 lr3, hr5]
                          obtain ⟨q1, hq1⟩ : ∃ zz, zz = rotr a 28 := ⟨_, rfl⟩
                          have lq1 : q1 < 18446744073709551616 := hq1 ▸ rotr_lt la
                          have Rq1 := Lib.hid hq1
                          obtain ⟨q2, hq2⟩ : ∃ zz, zz = rotr a 34 := ⟨_, rfl⟩
                          have lq2 : q2 < 18446744073709551616 := hq2 ▸ rotr_lt la
                          have Rq2 := Lib.hid hq2
                          obtain ⟨q3, hq3⟩ : ∃ zz, zz = rotr a 39 := ⟨_, rfl⟩
                          have lq3 : q3 < 18446744073709551616 := hq3 ▸ rotr_lt la
                          have Rq3 := Lib.hid hq3
                          obtain ⟨q4, hq4⟩ : ∃ zz, zz = q1 ^^^ q2 := ⟨_, rfl⟩
                          have lq4 : q4 < 18446744073709551616 := by rw [hq4]; exact Nat.xor_lt_two_pow (n := 64) lq1 lq2
                          have eq4 : bits BinOp.xor IntKind.u64 (q1 : Int) (q2 : Int) = (q4 : Int) := by rw [u64_xor_nat _ _ lq1 lq2, hq4]
                          obtain ⟨q5, hq5⟩ : ∃ zz, zz = q4 ^^^ q3 := ⟨_, rfl⟩
                          have lq5 : q5 < 18446744073709551616 := by rw [hq5]; exact Nat.xor_lt_two_pow (n := 64) lq4 lq3
                          have eq5 : bits BinOp.xor IntKind.u64 (q4 : Int) (q3 : Int) = (q5 : Int) := by rw [u64_xor_nat _ _ lq4 lq3, hq5]
                          obtain ⟨s1, hs1⟩ : ∃ zz, zz = (h + k) % 18446744073709551616 := ⟨_, rfl⟩
                          have es1 : ((h : Int) + (k : Int)) % 18446744073709551616 = (s1 : Int) := by omega
                          have ls1 : s1 < 18446744073709551616 := by omega
                          have ws1 : IntKind.u64.wrap ((h : Int) + (k : Int)) = (s1 : Int) := by simp [IntKind.wrap, IntKind.bits, IntKind.signed]; omega
                          obtain ⟨s2, hs2⟩ : ∃ zz, zz = (s1 + u) % 18446744073709551616 := ⟨_, rfl⟩
                          have es2 : ((s1 : Int) + (u : Int)) % 18446744073709551616 = (s2 : Int) := by omega
                          have ls2 : s2 < 18446744073709551616 := by omega
                          have ws2 : IntKind.u64.wrap ((s1 : Int) + (u : Int)) = (s2 : Int) := by simp [IntKind.wrap, IntKind.bits, IntKind.signed]; omega
                          obtain ⟨s3, hs3⟩ : ∃ zz, zz = (s2 + r5) % 18446744073709551616 := ⟨_, rfl⟩
                          have es3 : ((s2 : Int) + (r5 : Int)) % 18446744073709551616 = (s3 : Int) := by omega
                          have ls3 : s3 < 18446744073709551616 := by omega
                          have ws3 : IntKind.u64.wrap ((s2 : Int) + (r5 : Int)) = (s3 : Int) := by simp [IntKind.wrap, IntKind.bits, IntKind.signed]; omega
                          obtain ⟨A1, hA1⟩ : ∃ zz, zz = e &&& f := ⟨_, rfl⟩
                          have lA1 : A1 < 18446744073709551616 := by rw [hA1]; exact Nat.and_lt_two_pow (n := 64) e lf
                          have eA1 : bits BinOp.and IntKind.u64 (e : Int) (f : Int) = (A1 : Int) := by rw [u64_and_nat _ _ le lf, hA1]
                          obtain ⟨N1, hN1⟩ : ∃ x, x = 18446744073709551615 - e := ⟨_, rfl⟩
                          have lN1 : N1 < 18446744073709551616 := by omega
                          have eN1 : (18446744073709551615 : Int) - (e : Int) = (N1 : Int) := by omega
                          obtain ⟨A2, hA2⟩ : ∃ zz, zz = N1 &&& m := ⟨_, rfl⟩
                          have lA2 : A2 < 18446744073709551616 := by rw [hA2]; exact Nat.and_lt_two_pow (n := 64) N1 lm
                          have eA2 : bits BinOp.and IntKind.u64 (N1 : Int) (m : Int) = (A2 : Int) := by rw [u64_and_nat _ _ lN1 lm, hA2]
                          obtain ⟨X1, hX1⟩ : ∃ zz, zz = A1 ||| A2 := ⟨_, rfl⟩
                          have lX1 : X1 < 18446744073709551616 := by rw [hX1]; exact Nat.or_lt_two_pow (n := 64) lA1 lA2
                          have eX1 : bits BinOp.or IntKind.u64 (A1 : Int) (A2 : Int) = (X1 : Int) := by rw [u64_or_nat _ _ lA1 lA2, hX1]
                          obtain ⟨y, hy⟩ : ∃ zz, zz = (s3 + X1) % 18446744073709551616 := ⟨_, rfl⟩
                          have ey : ((s3 : Int) + (X1 : Int)) % 18446744073709551616 = (y : Int) := by omega
                          have ly : y < 18446744073709551616 := by omega
                          have wy : IntKind.u64.wrap ((s3 : Int) + (X1 : Int)) = (y : Int) := by simp [IntKind.wrap, IntKind.bits, IntKind.signed]; omega
                          obtain ⟨B1, hB1⟩ : ∃ zz, zz = a &&& b := ⟨_, rfl⟩
                          have lB1 : B1 < 18446744073709551616 := by rw [hB1]; exact Nat.and_lt_two_pow (n := 64) a lb
                          have eB1 : bits BinOp.and IntKind.u64 (a : Int) (b : Int) = (B1 : Int) := by rw [u64_and_nat _ _ la lb, hB1]
                          obtain ⟨B2, hB2⟩ : ∃ zz, zz = a &&& c := ⟨_, rfl⟩
                          have lB2 : B2 < 18446744073709551616 := by rw [hB2]; exact Nat.and_lt_two_pow (n := 64) a lc
                          have eB2 : bits BinOp.and IntKind.u64 (a : Int) (c : Int) = (B2 : Int) := by rw [u64_and_nat _ _ la lc, hB2]
                          obtain ⟨B3, hB3⟩ : ∃ zz, zz = b &&& c := ⟨_, rfl⟩
                          have lB3 : B3 < 18446744073709551616 := by rw [hB3]; exact Nat.and_lt_two_pow (n := 64) b lc
                          have eB3 : bits BinOp.and IntKind.u64 (b : Int) (c : Int) = (B3 : Int) := by rw [u64_and_nat _ _ lb lc, hB3]
                          obtain ⟨X2, hX2⟩ : ∃ zz, zz = B1 ||| B2 := ⟨_, rfl⟩
                          have lX2 : X2 < 18446744073709551616 := by rw [hX2]; exact Nat.or_lt_two_pow (n := 64) lB1 lB2
                          have eX2 : bits BinOp.or IntKind.u64 (B1 : Int) (B2 : Int) = (X2 : Int) := by rw [u64_or_nat _ _ lB1 lB2, hX2]
                          obtain ⟨X3, hX3⟩ : ∃ zz, zz = X2 ||| B3 := ⟨_, rfl⟩
                          have lX3 : X3 < 18446744073709551616 := by rw [hX3]; exact Nat.or_lt_two_pow (n := 64) lX2 lB3
                          have eX3 : bits BinOp.or IntKind.u64 (X2 : Int) (B3 : Int) = (X3 : Int) := by rw [u64_or_nat _ _ lX2 lB3, hX3]
                          obtain ⟨z, hz⟩ : ∃ zz, zz = (q5 + X3) % 18446744073709551616 := ⟨_, rfl⟩
                          have ez : ((q5 : Int) + (X3 : Int)) % 18446744073709551616 = (z : Int) := by omega
                          have lz : z < 18446744073709551616 := by omega
                          have wz : IntKind.u64.wrap ((q5 : Int) + (X3 : Int)) = (z : Int) := by simp [IntKind.wrap, IntKind.bits, IntKind.signed]; omega
                          obtain ⟨n0, hn0⟩ : ∃ zz, zz = (y + z) % 18446744073709551616 := ⟨_, rfl⟩
                          have en0 : ((y : Int) + (z : Int)) % 18446744073709551616 = (n0 : Int) := by omega
                          have ln0 : n0 < 18446744073709551616 := by omega
                          have wn0 : IntKind.u64.wrap ((y : Int) + (z : Int)) = (n0 : Int) := by simp [IntKind.wrap, IntKind.bits, IntKind.signed]; omega
                          obtain ⟨n4, hn4⟩ : ∃ zz, zz = (d + y) % 18446744073709551616 := ⟨_, rfl⟩
                          have en4 : ((d : Int) + (y : Int)) % 18446744073709551616 = (n4 : Int) := by omega
                          have ln4 : n4 < 18446744073709551616 := by omega
                          have wn4 : IntKind.u64.wrap ((d : Int) + (y : Int)) = (n4 : Int) := by simp [IntKind.wrap, IntKind.bits, IntKind.signed]; omega
                          have HE2 := Lib.hid (show rdsN H sc (i + 1) = [n0, a, b, c, n4, e, f, m] by
                            have h1 : yN e f m h k u = y := by unfold yN laidN; rw [← ch_eq e f m le, ← hr1, ← hr2, ← hr3, ← hr4, ← hr5, ← hN1, ← hA1, ← hA2, ← hX1, ← hs1, ← hs2, ← hs3, ← hy]
                            have h2 : zN a b c = z := by unfold zN laidN; rw [← maj_eq a b c, ← hq1, ← hq2, ← hq3, ← hq4, ← hq5, ← hB1, ← hB2, ← hB3, ← hX2, ← hX3, ← hz]
                            rw [HE.out, h1, h2, ← hn0, ← hn4])
                          clear HE hr1 hr2 hr3 hr4 hr5 hq1 hq2 hq3 hq4 hq5 hs1 hs2 hs3 hA1 hN1 hA2 hX1 hy hB1 hB2 hB3 hX2 hX3 hz hn0 hn4
                          have HI := Lib.hid hI.out
                          clear hI
                          go_wp2_with fail
                          refine wp_region_quiet_lit (by kernel_rfl) (by kernel_rfl) ?_
                          go_big_quiet_step (fail)
                          go_big_quiet_step (fail)
                          go_big_quiet_step (fail)
                          go_big_quiet_step (fail)
                          go_big_quiet_step (fail)
                          go_big_quiet_step (fail)
                          go_big_quiet_step (fail)
                          go_big_quiet_step (fail)
                          go_big_quiet_step (fail)
                          go_big_quiet_step (fail)
                          go_big_quiet_step (fail)
                          go_big_quiet_step ((go_at_call 57; exact Calls.quiet_of_same (right_s e 14 r1 _ (by decide) rfl le Rr1.out _)))
                          go_big_quiet_step (fail)
                          go_big_quiet_step ((go_at_call 57; exact Calls.quiet_of_same (right_s e 18 r2 _ (by decide) rfl le Rr2.out _)))
                          go_big_quiet_step (fail)
                          go_big_quiet_step (fail)
                          go_big_quiet_step ((go_at_call 57; exact Calls.quiet_of_same (right_s e 41 r3 _ (by decide) rfl le Rr3.out _)))
                          go_big_quiet_step (fail)
                          go_big_quiet_step (fail)
                          go_big_quiet_step (fail)
                          go_big_quiet_step (fail)
                          go_big_quiet_step (fail)
                          go_big_quiet_step (fail)
                          go_big_quiet_step (fail)
                          go_big_quiet_step (fail)
                          go_big_quiet_step (fail)
                          go_big_quiet_step (fail)
                          go_big_quiet_step (fail)
                          go_big_quiet_step (fail)
                          go_big_quiet_step (fail)
                          go_big_quiet_step (fail)
                          refine wpQuiet_nil ?_
                          intro _ hw1
                          obtain ⟨nq, hw2⟩ := hw1
                          subst hw2
                          have q5 : Hid (OfS w (wr.drewN nq) gk gh gm ml cm H M ∧ Arr .u64 103 (wr.drewN nq) gw sc ∧ Arr .u64 104 (wr.drewN nq) gs (rdsN H sc i)) := ⟨HI.out.1.drewN nq, HI.out.2.1, HI.out.2.2⟩
                          have d0 : (wr.drewN nq).cell? ⟨gs, 0, none⟩ = some (.int .u64 (a : Int)) := cv0
                          have d1 : (wr.drewN nq).cell? ⟨gs, 1, none⟩ = some (.int .u64 (b : Int)) := cv1
                          have d2 : (wr.drewN nq).cell? ⟨gs, 2, none⟩ = some (.int .u64 (c : Int)) := cv2
                          have d3 : (wr.drewN nq).cell? ⟨gs, 3, none⟩ = some (.int .u64 (d : Int)) := cv3
                          have d4 : (wr.drewN nq).cell? ⟨gs, 4, none⟩ = some (.int .u64 (e : Int)) := cv4
                          have d5 : (wr.drewN nq).cell? ⟨gs, 5, none⟩ = some (.int .u64 (f : Int)) := cv5
                          have d6 : (wr.drewN nq).cell? ⟨gs, 6, none⟩ = some (.int .u64 (m : Int)) := cv6
                          generalize wr.drewN nq = w5 at *
                          clear cv0 cv1 cv2 cv3 cv4 cv5 cv6 cv7 ck cu HI
                          have hff := q5.out.2.2.frozen
                          have ff0 := hff 0
                          have ff1 := hff 1
                          have ff2 := hff 2
                          have ff3 := hff 3
                          have ff4 := hff 4
                          have ff5 := hff 5
                          have ff6 := hff 6
                          have ff7 := hff 7
                          have c7 := q5.out.2.2.cell 7 (by rw [hVl.out]; decide)
                          clear hff
                          go_wp2_with fail
                          refine wp_region_quiet_lit (by kernel_rfl) (by kernel_rfl) ?_
                          go_big_quiet_step (fail)
                          go_big_quiet_step ((go_at_call 57; exact Calls.quiet_of_same (right_s a 28 q1 _ (by decide) rfl la Rq1.out _)))
                          go_big_quiet_step (fail)
                          go_big_quiet_step ((go_at_call 57; exact Calls.quiet_of_same (right_s a 34 q2 _ (by decide) rfl la Rq2.out _)))
                          go_big_quiet_step (fail)
                          go_big_quiet_step (fail)
                          go_big_quiet_step ((go_at_call 57; exact Calls.quiet_of_same (right_s a 39 q3 _ (by decide) rfl la Rq3.out _)))
                          go_big_quiet_step (fail)
                          go_big_quiet_step (fail)
                          go_big_quiet_step (fail)
                          go_big_quiet_step (fail)
                          go_big_quiet_step (fail)
                          go_big_quiet_step (fail)
                          go_big_quiet_step (fail)
                          go_big_quiet_step (fail)
                          go_big_quiet_step (fail)
                          go_big_quiet_step (fail)
                          go_big_quiet_step (fail)
                          go_big_quiet_step (fail)
                          go_big_quiet_step (fail)
                          go_big_quiet_step (fail)
                          go_big_quiet_step (fail)
                          go_big_quiet_step (fail)
                          go_big_quiet_step (fail)
                          go_big_quiet_step (fail)
                          refine wpQuiet_nil ?_
                          intro _ hw1
                          obtain ⟨nq, hw2⟩ := hw1
                          subst hw2
                          clear hz8 hzR
                          go_wp2
                          go_roundw
                          case rel =>
                            refine ⟨i + 1, by go_num, by omega, ?_⟩
                            rw [HE2.out, ← set8 hVl.out n0 a b c n4 e f m]
                            exact ⟨(((((((((q5.out.1.drewN nq).set HO5.out 0 _).set HO5.out 1 _).set HO5.out 2 _).set HO5.out 3 _).set HO5.out 4 _).set HO5.out 5 _).set HO5.out 6 _).set HO5.out 7 _), (((((((((show Arr .u64 103 (w5.drewN nq) gw sc from q5.out.2.1).other _ _ hws.out).other _ _ hws.out).other _ _ hws.out).other _ _ hws.out).other _ _ hws.out).other _ _ hws.out).other _ _ hws.out).other _ _ hws.out), (((((((((show Arr .u64 104 (w5.drewN nq) gs (rdsN H sc i) from q5.out.2.2).stored 0 n0 _ rfl).stored 1 a _ rfl).stored 2 b _ rfl).stored 3 c _ rfl).stored 4 n4 _ rfl).stored 5 e _ rfl).stored 6 f _ rfl).stored 7 m _ rfl)⟩
                          case measure => simp [intOf] <;> omega
                        · have hiR : i = 80 := by omega
                          have tiR : decide ((i : Int) < 80) = false := by simp; omega
                          have HA8 := Lib.hid (show OfS w wr gk gh gm ml cm (addTo H (rdsN H sc 80) 0) M from hI.out.1)
                          have HGV := Lib.hid (show Arr .u64 104 wr gs (rdsN H sc 80) by have := hI.out.2.2; rw [hiR] at this; exact this)
                          have HVL := Lib.hid (rdsN_len H sc HWL.out 80)
                          have HVB := Lib.hid (rdsN_lt H sc HWB.out 80)
                          generalize rdsN H sc 80 = v at *
                          clear hI hiR hlti hii HP HSC HGS
                          go_wp2_with fail
                          go_loopw [26] (fun iv wq => ∃ g : Nat, iv = .int .i64 (g : Int) ∧ g ≤ 8 ∧ Hid (OfS w wq gk gh gm ml cm (addTo H v g) M ∧ Arr .u64 104 wq gs v)) (fun iv _ => 8 - (intOf iv).toNat)
                          case atStart => exact ⟨0, rfl, by decide, HA8.out, HGV.out⟩
                          case round =>
                            obtain ⟨g, rfl, hg, hI⟩ := hrel
                            by_cases hltg : g < 8
                            · have cx := hI.out.1.h.cell g (by rw [addTo_len H v HWL.out]; exact hltg)
                              have fx := hI.out.1.h.frozen g
                              have cy := hI.out.2.cell g (by rw [HVL.out]; exact hltg)
                              obtain ⟨x, hx⟩ : ∃ x, x = g0 (addTo H v g) g := ⟨_, rfl⟩
                              obtain ⟨y, hy⟩ : ∃ y, y = g0 v g := ⟨_, rfl⟩
                              have lx : x < 18446744073709551616 := hx ▸ g0_lt (addTo_lt H v HWB.out g) (by decide) g
                              have ly : y < 18446744073709551616 := hy ▸ g0_lt HVB.out (by decide) g
                              rw [show (addTo H v g)[g]?.getD 0 = x from hx.symm] at cx
                              rw [show v[g]?.getD 0 = y from hy.symm] at cy
                              obtain ⟨s, hs⟩ : ∃ s, s = (x + y) % 18446744073709551616 := ⟨_, rfl⟩
                              have ls : s < 18446744073709551616 := by omega
                              have es : ((x : Int) + (y : Int)) % 18446744073709551616 = (s : Int) := by omega
                              have ws : IntKind.u64.wrap ((x : Int) + (y : Int)) = (s : Int) := by simp [IntKind.wrap, IntKind.bits, IntKind.signed]; omega
                              have HE := Lib.hid (show addTo H v (g + 1) = (addTo H v g).set g s by rw [hs, hx, hy]; rfl)
                              have HI := Lib.hid hI.out
                              clear hx hy hs hI
                              go_wp2_with fail
                              go_region
                              all_goals go_wp2
                              all_goals go_roundw
                              case rel => exact ⟨g + 1, by go_num, by omega, by rw [HE.out]; exact (HI.out.1.seth g s _ rfl).drew, Arr.other (w := wr) HI.out.2 _ _ (fun e => HO5.out.ne.2.1 e.symm)⟩
                              case measure => simp [intOf] <;> omega
                            · have hg8 : g = 8 := by omega
                              have tg : decide ((g : Int) < 8) = false := by simp; omega
                              have HN := Lib.hid (show OfS w wr gk gh gm ml cm (wsK 512 M (j + 1)) M by have := hI.out.1; rw [hg8, ← HNXT.out] at this; exact this)
                              clear hI hg8 hltg hg
                              go_wp2
                              go_roundw
                              case rel => exact ⟨j + 1, at' + 128, by go_num, by omega, by omega, by show at' + 128 = 128 * (j + 1); rw [HAT.out]; omega, HN.out⟩
                              case measure => simp [intOf] <;> omega
            · have hjn : j = nb := by omega
              have hatm : at' = ml := by rw [hI.out.1, HNB.out, hjn]
              have tJ : decide (at' < ml) = false := by simp; omega
              have HF := Lib.hid (show OfS w wr gk gh gm ml cm (wsK 512 M nb) M by have := hI.out.2; rw [hjn] at this; exact this)
              have HHR := Lib.hid (show bytesW (wsK 512 M nb) (512 / 64) = hashN 512 bl by
                rw [HM.out]
                exact hash_ref 512  bl nb (by rw [HR.out.length]; omega) (by rw [← HM.out, ← HML.out, HNB.out]))
              have HWL := Lib.hid (wsK_len 512 M nb)
              have HWB := Lib.hid (wsK_lt 512 M nb)
              generalize wsK 512 M nb = H at *
              clear hI hjn hatm hlt hj hat HS
              go_wp2_with fail
              obtain ⟨i0, hi0, hz0, hz1, hz2⟩ := info_parts infoB
              obtain ⟨wE, rfl⟩ : ∃ x, x = wr := ⟨_, rfl⟩
              go_loopw [27, 28] (fun ov iv wq => ∃ (i m9 c9 : Nat) (a9 : Option Addr), ov = .slice a9 m9 c9 ∧ iv = .int .i64 (i : Int) ∧ i ≤ 8 ∧ Hid (OwnQ .u8 5 wE.heap.size wq (.slice a9 m9 c9) (bytesW H i) ∧ Below wE.heap.size wE wq)) (fun _ iv _ => 8 - (intOf iv).toNat)
              case atStart => exact ⟨0, 0, 0, none, rfl, rfl, by decide, OwnQ.nil _ _ _ _, Below.refl _ _⟩
              case round =>
                obtain ⟨i, m9, c9, a9, rfl, rfl, hi, hI⟩ := hrel
                by_cases hlti : i < 8
                · have cx := (HF.out.on hI.out.2).h.cell i (by rw [HWL.out]; omega)
                  obtain ⟨x, hx⟩ : ∃ x, x = g0 H i := ⟨_, rfl⟩
                  have lx : x < 18446744073709551616 := hx ▸ g0_lt HWB.out (by decide) i
                  rw [show H[i]?.getD 0 = x from hx.symm] at cx
                  have HBS := Lib.hid (show bytesW H (i + 1) = bytesW H i ++ lbN x 8 by rw [bytesW_succ, ← hx, lb_wd])
                  have ti : decide ((i : Int) < 8) = true := by simp; omega
                  have HI := Lib.hid hI.out
                  have HBL2 := Lib.hid (bytesW_len H i)
                  clear hx hI
                  go_wp2_with fail
                  go_loopw [29, 30, 31] (fun lv xv cv wq => ∃ (j z cc : Nat) (aa : Option Addr), lv = .slice aa j cc ∧ xv = .int .u64 (z : Int) ∧ cv = .int .i64 (j : Int) ∧ j ≤ 8 ∧ z < 18446744073709551616 ∧ Hid (z = x / 256 ^ j ∧ OwnQ .u8 5 wE.heap.size wq (.slice aa j cc) (lbN x j) ∧ OwnQ .u8 5 wE.heap.size wq (.slice a9 m9 c9) (bytesW H i) ∧ Below wE.heap.size wE wq)) (fun _ _ cv _ => 8 - (intOf cv).toNat)
                  case atStart => exact ⟨0, x, 0, none, rfl, rfl, rfl, by decide, lx, by simp, OwnQ.nil _ _ _ _, HI.out.1, HI.out.2⟩
                  case round =>
                    obtain ⟨j, z, cc, aa, rfl, rfl, rfl, hj8, hz9, hJ⟩ := hrel
                    by_cases hltj : j < 8
                    · obtain ⟨y, hy⟩ : ∃ y, y = z % 256 := ⟨_, rfl⟩
                      obtain ⟨z', hz'⟩ : ∃ y, y = z / 256 := ⟨_, rfl⟩
                      have hyi : (z : Int) % 256 = (y : Int) := by omega
                      have hzi : (z : Int) / 256 = (z' : Int) := by omega
                      have hy2 : y < 256 := by omega
                      have hz3 : z' < 18446744073709551616 := by omega
                      have HY := Lib.hid (show lbN x (j + 1) = [y] ++ lbN x j by rw [lbN, ← hJ.out.1, ← hy]; rfl)
                      have HZ := Lib.hid (show z' = x / 256 ^ (j + 1) by rw [hz', hJ.out.1, Nat.pow_succ, Nat.div_div_eq_div_mul])
                      clear hy hz'
                      go_wp2_with (at_builtin; refine wpList_append_q .u8 _ rfl _ _ 22 rfl wr.heap.size 5 1 i0 Tryd.underlying22 hi0 hz0 hz1 hz2 (by decide) _ [y] rfl (World.ownsRow_lit wr #[.int .u8 (y : Int)] 1 (Nat.le_refl _) (by unfold maxLen; omega) rfl) aa j cc (lbN x j) rfl (hJ.out.2.1.reads.below ((Below.refl _ _).alloc (Nat.le_refl _) _)) (by simp; omega) (by simp) ?_; intro v4 w4 hown4 hgrow4; have HB4 := Lib.hid (hgrow4 wr ((Below.refl _ _).alloc (Nat.le_refl _) _)); obtain ⟨a5, n5, c5, rfl, hn5, ho5⟩ := own_sl hown4; have HO5' := Lib.hid (ho5.mono hJ.out.2.2.2.size); have hn6 : n5 = j + 1 := (by rw [hn5]; simp [lbN_len]); clear hown4 hgrow4 hn5 ho5)
                      subst hn6
                      go_roundw
                      case rel => exact ⟨j + 1, z', c5, a5, rfl, rfl, by go_num, by omega, hz3, HZ.out, by rw [HY.out]; exact HO5'.out, hJ.out.2.2.1.below HB4.out, hJ.out.2.2.2.trans (HB4.out.mono hJ.out.2.2.2.size)⟩
                      case measure => simp [intOf] <;> omega
                    · have hjL : j = 8 := by omega
                      have tL : decide ((j : Int) < 8) = false := by simp; omega
                      have HL8 := Lib.hid (show lbN x j = lbN x 8 by rw [hjL])
                      clear hjL hltj cx HI
                      go_wp2_with (at_builtin; refine wpList_append_q .u8 _ rfl _ _ 22 rfl wE.heap.size 5 1 i0 Tryd.underlying22 hi0 hz0 hz1 hz2 (by decide) _ (bytesW H i) rfl hJ.out.2.2.1 aa j cc (lbN x j) rfl hJ.out.2.1.reads (by rw [HBL2.out]; omega) hJ.out.2.2.2.size ?_; intro v6 w6 hown6 hgrow6; obtain ⟨aA, nA, cA, rfl, hnA, hoA⟩ := own_sl hown6; have HOA := Lib.hid hoA; have HBA := Lib.hid (hgrow6 wE hJ.out.2.2.2); clear hown6 hgrow6 hnA hoA)
                      go_roundw
                      case rel => exact ⟨i + 1, nA, cA, aA, rfl, by go_num, by omega, by rw [HBS.out, ← HL8.out]; exact HOA.out, HBA.out⟩
                      case measure => simp [intOf] <;> omega
                · have hi8 : i = 8 := by omega
                  have ti : decide ((i : Int) < 8) = false := by simp; omega
                  have HOF := Lib.hid (show OwnQ .u8 5 wE.heap.size wr (.slice a9 m9 c9) (hashN 512 bl) by have := hI.out.1; rw [hi8] at this; rw [← HHR.out]; exact this)
                  have HBF := Lib.hid hI.out.2
                  clear hI hi8 hlti hi
                  go_wp2
                  go_ret2
                  exact ⟨⟨_, rfl, HOF.out.mono HF.out.below.size⟩, HF.out.below.trans (HBF.out.mono HF.out.below.size)⟩

end Go.Proofs.YtcdglhmapijebaaDoor.L5
