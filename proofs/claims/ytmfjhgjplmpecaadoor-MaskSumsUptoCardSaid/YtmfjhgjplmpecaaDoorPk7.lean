/-
  Texts of ours, one behind the other: Sj2 ShaN2 Sj3 QiY QbR QbP QbQ Qb3 Qb4 Qb7 Qi1 Qi2
-/
import Derived.Test.YtmfjhgjplmpecaaDoorPk1
import Derived.Test.YtmfjhgjplmpecaaDoorPk2
import Derived.Test.YtmfjhgjplmpecaaDoorPk3
import Derived.Test.YtmfjhgjplmpecaaDoorPk4
import Derived.Test.YtmfjhgjplmpecaaDoorPk5
import Derived.Test.YtmfjhgjplmpecaaDoorPk6
import Derived.KernelRfl
import Derived.Deep.RegionHeld3
import Derived.Lib.ConvBytes
import Derived.BigQuiet
set_option linter.unusedVariables false
set_option linter.unusedSimpArgs false

namespace Go.Proofs.YtmfjhgjplmpecaaDoor
open Go.RowKit Go.Shelf

set_option maxRecDepth 100000 in
set_option maxHeartbeats 8000000 in
theorem ref_of224 (a : Option Addr) (n c : Nat) (bl : List Nat) (w : World) (hr : Reads .u8 w a n c bl) (hb : ∀ x ∈ bl, x < 256) (hn : n ≤ 9000) :
    Calls Tryd.prog 27 #[.int .i64 224, .slice a n c] w fun e w' => (∃ v, e = .returned (.tuple #[v, .int .i64 0]) ∧ OwnQ .u8 5 w.heap.size w' v (hashN 224 bl)) ∧ Below w.heap.size w w' := by
  have hzR : ∀ w, (zeroValue 73).run Tryd.prog w = .ok (.agg (arrC .u32 zR)) w := fun _ => by kernel_rfl
  have hz8 : ∀ w, (zeroValue 74).run Tryd.prog w = .ok (.agg (arrC .u32 z8)) w := fun _ => by kernel_rfl
  have HR := Lib.hid hr
  have HBL := Lib.hid hb
  clear hr hb
  go_enter Tryd.func27, Tryd.ntmps27
  go_wp2_with fail
  refine (first_any w).mono ?_
  rintro e w1 ⟨⟨v, rfl, hp⟩, hb1⟩
  obtain ⟨gp, cp, rfl⟩ := hp.succ (by decide)
  rw [primesL_len] at hp ⊢
  have HP := Lib.hid hp.reads
  have hgp := Lib.hid (hp.lt gp rfl)
  have HB1 := Lib.hid hb1
  clear hp hb1
  go_wp2_with fail
  have HO := Lib.hid (of_start w w1 gp cp (startN 224) HP.out HB1.out hgp.out.2)
  generalize (w1.alloc (.cells (arrC .u32 zR) 73)).alloc (.cells (arrC .u32 z8) 74) = W0 at *
  obtain ⟨gk, hgk⟩ : ∃ g, g = w1.heap.size := ⟨_, rfl⟩
  obtain ⟨gh, hgh⟩ : ∃ g, g = w1.heap.size + 1 := ⟨_, rfl⟩
  rw [← hgh, ← hgk] at HO
  rw [← hgh, ← hgk]
  clear hgk hgh hgp HP HB1
  go_loopw [10] (fun iv wq => ∃ i : Nat, iv = .int .i64 (i : Int) ∧ i ≤ 64 ∧ Hid (OfP w wq gp cp gk gh (fillT kL 64 i) (fillT (startN 224) 8 0))) (fun iv _ => 64 - (intOf iv).toNat)
  case atStart => exact ⟨0, rfl, by decide, HO.out⟩
  case round =>
    obtain ⟨i, rfl, hi, hI⟩ := hrel
    by_cases hlt : i < 64
    · have cp1 := reads_cellG hI.out.p i hlt
      obtain ⟨v, hv, hm⟩ := k_at i hlt
      have hp5 : g0 primesL i < 512 := g0_lt prime_lt (by decide) i
      generalize g0 primesL i = x at *
      obtain ⟨y, hy⟩ : ∃ y, y = g0 kL i := ⟨_, rfl⟩
      have hw : IntKind.u32.wrap (v : Int) = (y : Int) := by rw [← hy] at hm; simp [IntKind.wrap, IntKind.bits, IntKind.signed]; omega
      have HY := Lib.hid (show fillT kL 64 (i + 1) = (fillT kL 64 i).set i y by rw [hy]; exact (fillT_set hlt (by rw [kL_len]; exact Nat.le_refl _)).symm)
      have hcp := hI.out.p.le
      clear hy hm
      go_wp2_with fail
      refine (fraction_any x 3 32 v (by decide) (by decide) hp5 hv wr).mono ?_
      rintro e w2 ⟨rfl, hb2⟩
      have HO2 := Lib.hid (hI.out.on hb2)
      have ck := HO2.out.k.cell i (by rw [fillT_len hi (by rw [kL_len]; exact Nat.le_refl _)]; exact hlt)
      have fk := HO2.out.k.frozen i
      clear hb2 cp1
      go_wp2
      go_roundw
      case rel => exact ⟨i + 1, by go_num, by omega, by rw [HY.out]; exact HO2.out.setk i y _ rfl⟩
      case measure => simp [intOf] <;> omega
    · have hiR : i = 64 := by omega
      have tI : decide ((i : Int) < 64) = false := by simp; omega
      have HO2 := Lib.hid (show OfP w wr gp cp gk gh kL (fillT (startN 224) 8 0) by have := hI.out; rw [hiR, fillT_all kL_len] at this; exact this)
      clear hI hiR hlt hi HO
      go_wp2_with fail
      go_loopw [11] (fun iv wq => ∃ i : Nat, iv = .int .i64 (i : Int) ∧ i ≤ 8 ∧ Hid (OfP w wq gp cp gk gh kL (fillT (startN 224) 8 i))) (fun iv _ => 8 - (intOf iv).toNat)
      case atStart => exact ⟨0, rfl, by decide, HO2.out⟩
      case round =>
        obtain ⟨i2, rfl, hi, hI⟩ := hrel
        by_cases hlt : i2 < 8
        · obtain ⟨v, hv, hm⟩ := h2_at i2 hlt
          obtain ⟨j2, hj2⟩ : ∃ j, j = i2 + 8 := ⟨_, rfl⟩
          have hi8 : (i2 : Int) + 8 = (j2 : Int) := by omega
          have hj64 : j2 < 64 := by omega
          rw [← hj2] at hv
          clear hj2
          have cp1 := reads_cellG hI.out.p j2 (by omega)
          have hp5 : g0 primesL j2 < 512 := g0_lt prime_lt (by decide) _
          generalize g0 primesL j2 = x at *
          obtain ⟨y, hy⟩ : ∃ y, y = g0 (startN 224) i2 := ⟨_, rfl⟩
          have hw : (v : Int) % 4294967296 = (y : Int) := by rw [← hy] at hm; omega
          have ly : y < 4294967296 := by rw [← hy] at hm; omega
          have HY := Lib.hid (show fillT (startN 224) 8 (i2 + 1) = (fillT (startN 224) 8 i2).set i2 y by rw [hy]; exact (fillT_set hlt (by rw [startN_len]; exact Nat.le_refl _)).symm)
          have hcp := hI.out.p.le
          clear hy hm
          go_wp2_with fail
          refine (fraction_any x 2 64 v (by decide) (by decide) hp5 hv wr).mono ?_
          rintro e w2 ⟨rfl, hb2⟩
          have HO3 := Lib.hid (hI.out.on hb2)
          have ck := HO3.out.h.cell i2 (by rw [fillT_len hi (by rw [startN_len]; exact Nat.le_refl _)]; exact hlt)
          have fk := HO3.out.h.frozen i2
          clear hb2 cp1
          go_wp2
          go_roundw
          case rel => exact ⟨i2 + 1, by go_num, by omega, by rw [HY.out]; exact HO3.out.seth i2 y _ rfl⟩
          case measure => simp [intOf] <;> omega
        · have hiR : i2 = 8 := by omega
          have tI2 : decide ((i2 : Int) < 8) = false := by simp; omega
          have HO3 := Lib.hid (show OfP w wr gp cp gk gh kL (startN 224) by have := hI.out; rw [hiR, fillT_all (startN_len _)] at this; exact this)
          clear hI hiR hlt hi HO2
          go_wp2_with fail
          refine (fill_any a n c bl wr (HR.out.below HO3.out.below) (by omega)).mono ?_
          rintro e w3 ⟨⟨v3, rfl, ho3⟩, hb3⟩
          obtain ⟨gm, cm, rfl⟩ := ho3.succ (fillN_ne bl)
          have hgm := ho3.lt gm rfl
          have HS := Lib.hid (show OfS w w3 gk gh gm (fillN bl).length cm (startN 224) (fillN bl) from ⟨HO3.out.k.below hb3 HO3.out.k.lt, HO3.out.h.below hb3 HO3.out.h.lt, ho3.reads, HO3.out.below.trans (hb3.mono HO3.out.below.size), HO3.out.ne.2.2.1, (by have := HO3.out.h.lt; omega), HO3.out.ne.2.2.2.2⟩)
          obtain ⟨nb, hnb, hnb2⟩ := fillN_blocks bl
          have hml := fillN_len bl
          rw [HR.out.length] at hml
          have HMB := Lib.hid (fillN_lt HBL.out)
          have HFN := Lib.hid (show fillN bl = fillN bl from rfl)
          generalize hM : fillN bl = M at *
          have HM := Lib.hid hM.symm
          obtain ⟨ml, hml2⟩ : ∃ l, l = M.length := ⟨_, rfl⟩
          rw [← hml2] at HS hnb hml ⊢
          have HML := Lib.hid hml2
          have HNB := Lib.hid hnb
          clear hM hml2 ho3 hb3 hgm HO3 HFN hnb
          have hmlb : ml ≤ 9300 := by omega
          clear hml
          go_wp2_with fail
          go_loopw [13] (fun av wq => ∃ j at' : Nat, av = .int .i64 (at' : Int) ∧ at' ≤ 11000 ∧ j ≤ nb ∧ Hid (at' = 64 * j ∧ OfS w wq gk gh gm ml cm (wsK 224 M j) M)) (fun av _ => ml - (intOf av).toNat)
          case atStart => exact ⟨0, 0, rfl, by decide, Nat.zero_le _, rfl, HS.out⟩
          case round =>
            obtain ⟨j, at', rfl, hat, hj, hI⟩ := hrel
            by_cases hlt : j < nb
            · have hat2 : at' + 64 ≤ ml := by rw [hI.out.1, HNB.out]; omega
              have tJ : decide (at' < ml) = true := by simp; omega
              have HSS := Lib.hid hI.out.2
              have HAT := Lib.hid hI.out.1
              clear hI
              go_wp2_with fail
              have HO4 := Lib.hid (HSS.out.beside (by omega))
              have HW := Lib.hid (show Arr .u32 73 (wr.alloc (.cells (arrC .u32 zR) 73)) wr.heap.size zR from Go.heap_alloc_new wr _)
              have HSS := Lib.hid (HSS.out.on ((Below.refl _ _).alloc (Nat.le_refl _) (.cells (arrC .u32 zR) 73)))
              generalize wr.alloc (.cells (arrC .u32 zR) 73) = W2 at *
              generalize wr.heap.size = gw at *
              obtain ⟨bb, hbb⟩ : ∃ b, b = (M.drop at').take 64 := ⟨_, rfl⟩
              have HBB := Lib.hid hbb
              have HBY := Lib.hid (show ∀ x ∈ bb, x < 256 by rw [hbb]; exact fun x hx => HMB.out x (List.mem_of_mem_drop (List.mem_of_mem_take hx)))
              have HBG := Lib.hid (show ∀ k, k < 64 → g0 bb k = g0 M (at' + k) by
                intro k hk
                rw [hbb]
                unfold g0
                rw [List.getElem?_take_of_lt hk, List.getElem?_drop])
              clear hbb
              go_loopw [15] (fun iv wq => ∃ i : Nat, iv = .int .i64 (i : Int) ∧ i ≤ 16 ∧ Hid (OfS w wq gk gh gm ml cm (wsK 224 M j) M ∧ Arr .u32 73 wq gw (packN bb (4 * i)))) (fun iv _ => 16 - (intOf iv).toNat)
              case atStart => exact ⟨0, rfl, by decide, HSS.out, HW.out⟩
              case round =>
                obtain ⟨i, rfl, hi, hI⟩ := hrel
                by_cases hlt2 : i < 16
                · have HI := Lib.hid hI.out
                  clear hI HSS HW
                  go_wp2_with fail
                  go_loopw [16] (fun nv wq => ∃ m : Nat, nv = .int .i64 (m : Int) ∧ m ≤ 4 ∧ Hid (OfS w wq gk gh gm ml cm (wsK 224 M j) M ∧ Arr .u32 73 wq gw (packN bb (4 * i + m)))) (fun nv _ => 4 - (intOf nv).toNat)
                  case atStart => exact ⟨0, rfl, by decide, HI.out⟩
                  case round =>
                    obtain ⟨m, rfl, hm, hJ⟩ := hrel
                    by_cases hlt3 : m < 4
                    · have cw := hJ.out.2.cell i (by rw [packN_len]; omega)
                      have fw := hJ.out.2.frozen i
                      obtain ⟨x, hx⟩ : ∃ x, x = g0 (packN bb (4 * i + m)) i := ⟨_, rfl⟩
                      have lx : x < 4294967296 := hx ▸ g0_lt (packN_lt bb HBY.out _) (by decide) i
                      change wr.cell? _ = some (.int .u32 ((g0 (packN bb (4 * i + m)) i : Nat) : Int)) at cw
                      rw [← hx] at cw
                      obtain ⟨i4, hi4⟩ : ∃ k, k = 4 * i := ⟨_, rfl⟩
                      obtain ⟨ai, hai⟩ : ∃ k, k = at' + i4 := ⟨_, rfl⟩
                      obtain ⟨ix, hix⟩ : ∃ k, k = ai + m := ⟨_, rfl⟩
                      have ei4 : (4 : Int) * (i : Int) = (i4 : Int) := by omega
                      have eai : (at' : Int) + (i4 : Int) = (ai : Int) := by omega
                      have eix : (ai : Int) + (m : Int) = (ix : Int) := by omega
                      have lix : ix < ml := by omega
                      have lai : ai < ml := by omega
                      have li4 : i4 < 64 := by omega
                      have cy := reads_cellG hJ.out.1.m ix lix
                      have ly : g0 M ix < 256 := g0_lt HMB.out (by decide) ix
                      have hgy : g0 bb (4 * i + m) = g0 M ix := by rw [HBG.out _ (by omega), hix, hai, hi4, Nat.add_assoc]
                      generalize g0 M ix = y at *
                      have HST := Lib.hid (pack_step bb i m x y hlt3 hx hgy.symm ly)
                      have hcm := hJ.out.1.m.le
                      obtain ⟨x2, hx2⟩ : ∃ z, z = 256 * x % 4294967296 := ⟨_, rfl⟩
                      obtain ⟨r, hr⟩ : ∃ z, z = (256 * x + y) % 4294967296 := ⟨_, rfl⟩
                      have ex2 : (256 : Int) * (x : Int) % 4294967296 = (x2 : Int) := by omega
                      have er : ((x2 : Int) + (y : Int)) % 4294967296 = (r : Int) := by omega
                      have lx2 : x2 < 4294967296 := by omega
                      rw [← hr] at HST
                      clear hx hi4 hai hix hgy hx2 hr
                      have HJ := Lib.hid hJ.out
                      clear hJ HI
                      go_wp2_with fail
                      go_region
                      all_goals go_wp2
                      all_goals go_roundw
                      case rel => exact ⟨m + 1, by go_num, by omega, (HJ.out.1.set HO4.out i _).drew, by
                        rw [HST.out]
                        exact Arr.stored (w := wr) HJ.out.2 i r _ (by omega)⟩
                      case measure => simp [intOf] <;> omega
                    · have hmW : m = 4 := by omega
                      have tm : decide ((m : Int) < 4) = false := by simp; omega
                      have HJ := Lib.hid hJ.out
                      have HNX := Lib.hid (show Arr .u32 73 wr gw (packN bb (4 * (i + 1))) by have := hJ.out.2; rw [hmW] at this; exact this)
                      clear hJ HI hmW hlt3 hm
                      go_wp2
                      go_roundw
                      case rel => exact ⟨i + 1, by go_num, by omega, HJ.out.1, HNX.out⟩
                      case measure => simp [intOf] <;> omega
                · have hi16 : i = 16 := by omega
                  have ti : decide ((i : Int) < 16) = false := by simp; omega
                  have HP := Lib.hid hI.out.1
                  have HPA := Lib.hid (show Arr .u32 73 wr gw (extN (packN bb 64) 0) by have := hI.out.2; rw [hi16] at this; exact this)
                  clear hI hi16 hlt2 hi HSS HW
                  go_wp2_with fail
                  go_loopw [17] (fun tv wq => ∃ t : Nat, tv = .int .i64 (t : Int) ∧ 16 ≤ t ∧ t ≤ 64 ∧ Hid (OfS w wq gk gh gm ml cm (wsK 224 M j) M ∧ Arr .u32 73 wq gw (extN (packN bb 64) (t - 16)))) (fun tv _ => 64 - (intOf tv).toNat)
                  case atStart => exact ⟨16, rfl, by decide, by decide, HP.out, HPA.out⟩
                  case round =>
                    obtain ⟨t, rfl, ht1, ht2, hI⟩ := hrel
                    have hlR := Lib.hid (extN_len (packN bb 64) (packN_len bb 64) (t - 16))
                    have hltR := Lib.hid (extN_lt (packN bb 64) (packN_lt bb HBY.out 64) (t - 16))
                    by_cases hltt : t < 64
                    · have HE := Lib.hid (show extN (packN bb 64) (t + 1 - 16) = extS t (extN (packN bb 64) (t - 16)) by
                        rw [show t + 1 - 16 = (t - 16) + 1 by omega]
                        show extS (16 + (t - 16)) _ = _
                        rw [show 16 + (t - 16) = t by omega])
                      have HOS := Lib.hid hI.out.1
                      have HLA := Lib.hid hI.out.2
                      generalize extN (packN bb 64) (t - 16) = L at *
                      clear hI HP HPA
                      obtain ⟨p16, hp16⟩ : ∃ p, p = t - 16 := ⟨_, rfl⟩
                      have ep16 : (t : Int) - 16 = (p16 : Int) := by omega
                      have lp16 : p16 < 64 := by omega
                      have wp16 : IntKind.i64.wrap (p16 : Int) = (p16 : Int) := by simp [IntKind.wrap, IntKind.bits, IntKind.signed]; omega
                      have ip16 : (p16 : Int) < 64 := by omega
                      have cx16 := HLA.out.cell p16 (by rw [hlR.out]; omega)
                      obtain ⟨x16, hx16⟩ : ∃ zz, zz = g0 L p16 := ⟨_, rfl⟩
                      have lx16 : x16 < 4294967296 := hx16 ▸ g0_lt hltR.out (by decide) _
                      rw [show L[p16]?.getD 0 = x16 from hx16.symm] at cx16
                      obtain ⟨p7, hp7⟩ : ∃ p, p = t - 7 := ⟨_, rfl⟩
                      have ep7 : (t : Int) - 7 = (p7 : Int) := by omega
                      have lp7 : p7 < 64 := by omega
                      have wp7 : IntKind.i64.wrap (p7 : Int) = (p7 : Int) := by simp [IntKind.wrap, IntKind.bits, IntKind.signed]; omega
                      have ip7 : (p7 : Int) < 64 := by omega
                      have cx7 := HLA.out.cell p7 (by rw [hlR.out]; omega)
                      obtain ⟨x7, hx7⟩ : ∃ zz, zz = g0 L p7 := ⟨_, rfl⟩
                      have lx7 : x7 < 4294967296 := hx7 ▸ g0_lt hltR.out (by decide) _
                      rw [show L[p7]?.getD 0 = x7 from hx7.symm] at cx7
                      obtain ⟨p15, hp15⟩ : ∃ p, p = t - 15 := ⟨_, rfl⟩
                      have ep15 : (t : Int) - 15 = (p15 : Int) := by omega
                      have lp15 : p15 < 64 := by omega
                      have wp15 : IntKind.i64.wrap (p15 : Int) = (p15 : Int) := by simp [IntKind.wrap, IntKind.bits, IntKind.signed]; omega
                      have ip15 : (p15 : Int) < 64 := by omega
                      have cx15 := HLA.out.cell p15 (by rw [hlR.out]; omega)
                      obtain ⟨x15, hx15⟩ : ∃ zz, zz = g0 L p15 := ⟨_, rfl⟩
                      have lx15 : x15 < 4294967296 := hx15 ▸ g0_lt hltR.out (by decide) _
                      rw [show L[p15]?.getD 0 = x15 from hx15.symm] at cx15
                      obtain ⟨p2, hp2⟩ : ∃ p, p = t - 2 := ⟨_, rfl⟩
                      have ep2 : (t : Int) - 2 = (p2 : Int) := by omega
                      have lp2 : p2 < 64 := by omega
                      have wp2 : IntKind.i64.wrap (p2 : Int) = (p2 : Int) := by simp [IntKind.wrap, IntKind.bits, IntKind.signed]; omega
                      have ip2 : (p2 : Int) < 64 := by omega
                      have cx2 := HLA.out.cell p2 (by rw [hlR.out]; omega)
                      obtain ⟨x2, hx2⟩ : ∃ zz, zz = g0 L p2 := ⟨_, rfl⟩
                      have lx2 : x2 < 4294967296 := hx2 ▸ g0_lt hltR.out (by decide) _
                      rw [show L[p2]?.getD 0 = x2 from hx2.symm] at cx2
                      obtain ⟨f1, hf1⟩ : ∃ zz, zz = rotr x15 7 := ⟨_, rfl⟩
                      have lf1 : f1 < 4294967296 := hf1 ▸ rotr_lt lx15
                      have Rf1 := Lib.hid hf1
                      obtain ⟨f2, hf2⟩ : ∃ zz, zz = rotr x15 18 := ⟨_, rfl⟩
                      have lf2 : f2 < 4294967296 := hf2 ▸ rotr_lt lx15
                      have Rf2 := Lib.hid hf2
                      obtain ⟨f3, hf3⟩ : ∃ zz, zz = f1 ^^^ f2 := ⟨_, rfl⟩
                      have lf3 : f3 < 4294967296 := by rw [hf3]; exact Nat.xor_lt_two_pow (n := 32) lf1 lf2
                      have ef3 : bits BinOp.xor IntKind.u32 (f1 : Int) (f2 : Int) = (f3 : Int) := by rw [u32_xor_nat _ _ lf1 lf2, hf3]
                      obtain ⟨f4, hf4⟩ : ∃ zz, zz = x15 / 2 ^ 3 := ⟨_, rfl⟩
                      have lf4 : f4 < 4294967296 := by rw [hf4]; exact Nat.lt_of_le_of_lt (Nat.div_le_self _ _) lx15
                      have Rf4 := Lib.hid hf4
                      obtain ⟨f, hf⟩ : ∃ zz, zz = f3 ^^^ f4 := ⟨_, rfl⟩
                      have lf : f < 4294967296 := by rw [hf]; exact Nat.xor_lt_two_pow (n := 32) lf3 lf4
                      have ef : bits BinOp.xor IntKind.u32 (f3 : Int) (f4 : Int) = (f : Int) := by rw [u32_xor_nat _ _ lf3 lf4, hf]
                      obtain ⟨u1, hu1⟩ : ∃ zz, zz = rotr x2 17 := ⟨_, rfl⟩
                      have lu1 : u1 < 4294967296 := hu1 ▸ rotr_lt lx2
                      have Ru1 := Lib.hid hu1
                      obtain ⟨u2, hu2⟩ : ∃ zz, zz = rotr x2 19 := ⟨_, rfl⟩
                      have lu2 : u2 < 4294967296 := hu2 ▸ rotr_lt lx2
                      have Ru2 := Lib.hid hu2
                      obtain ⟨u3, hu3⟩ : ∃ zz, zz = u1 ^^^ u2 := ⟨_, rfl⟩
                      have lu3 : u3 < 4294967296 := by rw [hu3]; exact Nat.xor_lt_two_pow (n := 32) lu1 lu2
                      have eu3 : bits BinOp.xor IntKind.u32 (u1 : Int) (u2 : Int) = (u3 : Int) := by rw [u32_xor_nat _ _ lu1 lu2, hu3]
                      obtain ⟨u4, hu4⟩ : ∃ zz, zz = x2 / 2 ^ 10 := ⟨_, rfl⟩
                      have lu4 : u4 < 4294967296 := by rw [hu4]; exact Nat.lt_of_le_of_lt (Nat.div_le_self _ _) lx2
                      have Ru4 := Lib.hid hu4
                      obtain ⟨u, hu⟩ : ∃ zz, zz = u3 ^^^ u4 := ⟨_, rfl⟩
                      have lu : u < 4294967296 := by rw [hu]; exact Nat.xor_lt_two_pow (n := 32) lu3 lu4
                      have eu : bits BinOp.xor IntKind.u32 (u3 : Int) (u4 : Int) = (u : Int) := by rw [u32_xor_nat _ _ lu3 lu4, hu]
                      obtain ⟨s1, hs1⟩ : ∃ zz, zz = (x16 + x7) % 4294967296 := ⟨_, rfl⟩
                      have es1 : ((x16 : Int) + (x7 : Int)) % 4294967296 = (s1 : Int) := by omega
                      have ls1 : s1 < 4294967296 := by omega
                      have ws1 : IntKind.u32.wrap ((x16 : Int) + (x7 : Int)) = (s1 : Int) := by simp [IntKind.wrap, IntKind.bits, IntKind.signed]; omega
                      obtain ⟨s2, hs2⟩ : ∃ zz, zz = (s1 + f) % 4294967296 := ⟨_, rfl⟩
                      have es2 : ((s1 : Int) + (f : Int)) % 4294967296 = (s2 : Int) := by omega
                      have ls2 : s2 < 4294967296 := by omega
                      have ws2 : IntKind.u32.wrap ((s1 : Int) + (f : Int)) = (s2 : Int) := by simp [IntKind.wrap, IntKind.bits, IntKind.signed]; omega
                      obtain ⟨s3, hs3⟩ : ∃ zz, zz = (s2 + u) % 4294967296 := ⟨_, rfl⟩
                      have es3 : ((s2 : Int) + (u : Int)) % 4294967296 = (s3 : Int) := by omega
                      have ls3 : s3 < 4294967296 := by omega
                      have ws3 : IntKind.u32.wrap ((s2 : Int) + (u : Int)) = (s3 : Int) := by simp [IntKind.wrap, IntKind.bits, IntKind.signed]; omega
                      have HE2 := Lib.hid (show extN (packN bb 64) (t + 1 - 16) = L.set t s3 by
                        rw [HE.out]
                        unfold extS sigN
                        rw [← hp16, ← hp7, ← hp15, ← hp2, ← hx16, ← hx7, ← hx15, ← hx2, ← hf1, ← hf2, ← hf4, ← hf3, ← hf, ← hu1, ← hu2, ← hu4, ← hu3, ← hu, ← hs1, ← hs2, ← hs3])
                      have hft := HLA.out.frozen t
                      have hkt := HLA.out.cell t (by rw [hlR.out]; exact hltt)
                      have wt : IntKind.i64.wrap (t : Int) = (t : Int) := by simp [IntKind.wrap, IntKind.bits, IntKind.signed]; omega
                      have it : (t : Int) < 64 := by omega
                      clear hp16 hp7 hp15 hp2 hx16 hx7 hx15 hx2 hf1 hf2 hf3 hf4 hf hu1 hu2 hu3 hu4 hu hs1 hs2 hs3 HE
                      go_wp2_with fail
                      go_still_tail 29, (by kernel_rfl)
                      still_call (right_s x15 7 f1 _ (by decide) rfl lx15 Rf1.out _)
                      repeat still_step
                      still_call (right_s x15 18 f2 _ (by decide) rfl lx15 Rf2.out _)
                      repeat still_step
                      still_call (down_s x15 3 f4 _ (by decide) rfl lx15 Rf4.out _)
                      repeat still_step
                      still_call (right_s x2 17 u1 _ (by decide) rfl lx2 Ru1.out _)
                      repeat still_step
                      still_call (right_s x2 19 u2 _ (by decide) rfl lx2 Ru2.out _)
                      repeat still_step
                      still_call (down_s x2 10 u4 _ (by decide) rfl lx2 Ru4.out _)
                      repeat still_step
                      refine wpStill_nil ?_
                      change wpList _ _ _ _ _ wr.drew
                      have hkt2 : wr.drew.cell? ⟨gw, t, none⟩ = some (.int .u32 ((L[t]?.getD 0 : Nat) : Int)) := hkt
                      have hft2 : wr.drew.frozen? ⟨gw, t, none⟩ = false := hft
                      go_wp2
                      go_roundw
                      case rel => exact ⟨t + 1, by go_num, by omega, by omega, HOS.out.drew.set HO4.out t _, by rw [HE2.out]; exact Arr.stored (w := wr.drew) HLA.out t s3 _ rfl⟩
                      case measure => simp [intOf] <;> omega
                    · have htR : t = 64 := by omega
                      have tt : decide ((t : Int) < 64) = false := by simp; omega
                      have HP := Lib.hid hI.out.1
                      have HSC := Lib.hid (show Arr .u32 73 wr gw (schedN bb) by have := hI.out.2; rw [htR] at this; exact this)
                      have HSL := Lib.hid (schedN_len bb)
                      have HSB := Lib.hid (schedN_lt bb HBY.out)
                      have HWL := Lib.hid (wsK_len 224 M j)
                      have HWB := Lib.hid (wsK_lt 224 M j)
                      have HNXT := Lib.hid (show wsK 224 M (j + 1) = addTo (wsK 224 M j) (rdsN (wsK 224 M j) (schedN bb) 64) 8 by
                        rw [HBB.out, HAT.out]
                        rfl)
                      clear hI htR hltt ht1 ht2 hlR hltR HPA
                      generalize schedN bb = sc at *
                      generalize wsK 224 M j = H at *
                      go_wp2_with (first | (refine wpList_load8 rfl _ rfl gh H rfl HP.out.h HWL.out ?_) | (refine wpList_store8 rfl _ _ rfl wr.heap.size z8 H rfl rfl (Go.heap_alloc_new wr _) rfl HWL.out ?_))
                      have HFR := Lib.hid (below_fresh (Below.refl wr.heap.size wr) (Nat.le_refl _) (.cells (arrC .u32 z8) 74) (arrC .u32 H))
                      have HGS := Lib.hid (show Arr .u32 74 ((wr.alloc (.cells (arrC .u32 z8) 74)).setRow wr.heap.size (arrC .u32 H)) wr.heap.size H from Arr.laid (l := z8) (Go.heap_alloc_new wr _) H)
                      have HO5 := Lib.hid (HP.out.beside (by omega))
                      have hws := Lib.hid (show gw ≠ wr.heap.size from Nat.ne_of_lt HSC.out.lt)
                      have HSC := Lib.hid (HSC.out.below HFR.out HSC.out.lt)
                      have HP := Lib.hid (HP.out.on HFR.out)
                      clear HFR
                      generalize (wr.alloc (.cells (arrC .u32 z8) 74)).setRow wr.heap.size (arrC .u32 H) = W3 at *
                      generalize wr.heap.size = gs at *
                      go_wp2_with fail
                      go_loopw [21] (fun iv wq => ∃ i : Nat, iv = .int .i64 (i : Int) ∧ i ≤ 64 ∧ Hid (OfS w wq gk gh gm ml cm H M ∧ Arr .u32 73 wq gw sc ∧ Arr .u32 74 wq gs (rdsN H sc i))) (fun iv _ => 64 - (intOf iv).toNat)
                      case atStart => exact ⟨0, rfl, by decide, HP.out, HSC.out, HGS.out⟩
                      case round =>
                        obtain ⟨i, rfl, hii, hI⟩ := hrel
                        by_cases hlti : i < 64
                        · skip
                          have hVl := Lib.hid (rdsN_len H sc HWL.out i)
                          have hVb := Lib.hid (rdsN_lt H sc HWB.out i)
                          have cv0 := hI.out.2.2.cell 0 (by rw [hVl.out]; decide)
                          obtain ⟨a, ha⟩ : ∃ x, x = g0 (rdsN H sc i) 0 := ⟨_, rfl⟩
                          have la : a < 4294967296 := ha ▸ g0_lt hVb.out (by decide) 0
                          rw [show (rdsN H sc i)[0]?.getD 0 = a from ha.symm] at cv0
                          have cv1 := hI.out.2.2.cell 1 (by rw [hVl.out]; decide)
                          obtain ⟨b, hb⟩ : ∃ x, x = g0 (rdsN H sc i) 1 := ⟨_, rfl⟩
                          have lb : b < 4294967296 := hb ▸ g0_lt hVb.out (by decide) 1
                          rw [show (rdsN H sc i)[1]?.getD 0 = b from hb.symm] at cv1
                          have cv2 := hI.out.2.2.cell 2 (by rw [hVl.out]; decide)
                          obtain ⟨c, hc⟩ : ∃ x, x = g0 (rdsN H sc i) 2 := ⟨_, rfl⟩
                          have lc : c < 4294967296 := hc ▸ g0_lt hVb.out (by decide) 2
                          rw [show (rdsN H sc i)[2]?.getD 0 = c from hc.symm] at cv2
                          have cv3 := hI.out.2.2.cell 3 (by rw [hVl.out]; decide)
                          obtain ⟨d, hd⟩ : ∃ x, x = g0 (rdsN H sc i) 3 := ⟨_, rfl⟩
                          have ld : d < 4294967296 := hd ▸ g0_lt hVb.out (by decide) 3
                          rw [show (rdsN H sc i)[3]?.getD 0 = d from hd.symm] at cv3
                          have cv4 := hI.out.2.2.cell 4 (by rw [hVl.out]; decide)
                          obtain ⟨e, he⟩ : ∃ x, x = g0 (rdsN H sc i) 4 := ⟨_, rfl⟩
                          have le : e < 4294967296 := he ▸ g0_lt hVb.out (by decide) 4
                          rw [show (rdsN H sc i)[4]?.getD 0 = e from he.symm] at cv4
                          have cv5 := hI.out.2.2.cell 5 (by rw [hVl.out]; decide)
                          obtain ⟨f, hf⟩ : ∃ x, x = g0 (rdsN H sc i) 5 := ⟨_, rfl⟩
                          have lf : f < 4294967296 := hf ▸ g0_lt hVb.out (by decide) 5
                          rw [show (rdsN H sc i)[5]?.getD 0 = f from hf.symm] at cv5
                          have cv6 := hI.out.2.2.cell 6 (by rw [hVl.out]; decide)
                          obtain ⟨m, hm⟩ : ∃ x, x = g0 (rdsN H sc i) 6 := ⟨_, rfl⟩
                          have lm : m < 4294967296 := hm ▸ g0_lt hVb.out (by decide) 6
                          rw [show (rdsN H sc i)[6]?.getD 0 = m from hm.symm] at cv6
                          have cv7 := hI.out.2.2.cell 7 (by rw [hVl.out]; decide)
                          obtain ⟨h, hh⟩ : ∃ x, x = g0 (rdsN H sc i) 7 := ⟨_, rfl⟩
                          have lh : h < 4294967296 := hh ▸ g0_lt hVb.out (by decide) 7
                          rw [show (rdsN H sc i)[7]?.getD 0 = h from hh.symm] at cv7
                          have ck := hI.out.1.k.cell i (by rw [kL_len]; exact hlti)
                          obtain ⟨k, hk⟩ : ∃ x, x = g0 kL i := ⟨_, rfl⟩
                          have lk : k < 4294967296 := hk ▸ g0_lt kL_lt (by decide) i
                          rw [show kL[i]?.getD 0 = k from hk.symm] at ck
                          have cu := hI.out.2.1.cell i (by rw [HSL.out]; exact hlti)
                          obtain ⟨u, hu⟩ : ∃ x, x = g0 sc i := ⟨_, rfl⟩
                          have lu : u < 4294967296 := hu ▸ g0_lt HSB.out (by decide) i
                          rw [show sc[i]?.getD 0 = u from hu.symm] at cu
                          have HE := Lib.hid (show rdsN H sc (i + 1) = [(yN e f m h k u + zN a b c) % 4294967296, a, b, c, (d + yN e f m h k u) % 4294967296, e, f, m] by rw [ha, hb, hc, hd, he, hf, hm, hh, hk, hu]; rfl)
                          clear ha hb hc hd he hf hm hh hk hu
                          obtain ⟨r1, hr1⟩ : ∃ zz, zz = rotr e 6 := ⟨_, rfl⟩
                          have lr1 : r1 < 4294967296 := hr1 ▸ rotr_lt le
                          have Rr1 := Lib.hid hr1
                          obtain ⟨r2, hr2⟩ : ∃ zz, zz = rotr e 11 := ⟨_, rfl⟩
                          have lr2 : r2 < 4294967296 := hr2 ▸ rotr_lt le
                          have Rr2 := Lib.hid hr2
                          obtain ⟨r3, hr3⟩ : ∃ zz, zz = rotr e 25 := ⟨_, rfl⟩
                          have lr3 : r3 < 4294967296 := hr3 ▸ rotr_lt le
                          have Rr3 := Lib.hid hr3
                          obtain ⟨r4, hr4⟩ : ∃ zz, zz = r1 ^^^ r2 := ⟨_, rfl⟩
                          have lr4 : r4 < 4294967296 := by rw [hr4]; exact Nat.xor_lt_two_pow (n := 32) lr1 lr2
                          have er4 : bits BinOp.xor IntKind.u32 (r1 : Int) (r2 : Int) = (r4 : Int) := by rw [u32_xor_nat _ _ lr1 lr2, hr4]
                          obtain ⟨r5, hr5⟩ : ∃ zz, zz = r4 ^^^ r3 := ⟨_, rfl⟩
                          have lr5 : r5 < 4294967296 := by rw [hr5]; exact Nat.xor_lt_two_pow (n := 32) lr4 lr3
                          have er5 : bits BinOp.xor IntKind.u32 (r4 : Int) (r3 : Int) = (r5 : Int) := by rw [u32_xor_nat _ _ lr4 lr3, hr5]
                          obtain ⟨q1, hq1⟩ : ∃ zz, zz = rotr a 2 := ⟨_, rfl⟩
                          have lq1 : q1 < 4294967296 := hq1 ▸ rotr_lt la
                          have Rq1 := Lib.hid hq1
                          obtain ⟨q2, hq2⟩ : ∃ zz, zz = rotr a 13 := ⟨_, rfl⟩
                          have lq2 : q2 < 4294967296 := hq2 ▸ rotr_lt la
                          have Rq2 := Lib.hid hq2
                          obtain ⟨q3, hq3⟩ : ∃ zz, zz = rotr a 22 := ⟨_, rfl⟩
                          have lq3 : q3 < 4294967296 := hq3 ▸ rotr_lt la
                          have Rq3 := Lib.hid hq3
                          obtain ⟨q4, hq4⟩ : ∃ zz, zz = q1 ^^^ q2 := ⟨_, rfl⟩
                          have lq4 : q4 < 4294967296 := by rw [hq4]; exact Nat.xor_lt_two_pow (n := 32) lq1 lq2
                          have eq4 : bits BinOp.xor IntKind.u32 (q1 : Int) (q2 : Int) = (q4 : Int) := by rw [u32_xor_nat _ _ lq1 lq2, hq4]
                          obtain ⟨q5, hq5⟩ : ∃ zz, zz = q4 ^^^ q3 := ⟨_, rfl⟩
                          have lq5 : q5 < 4294967296 := by rw [hq5]; exact Nat.xor_lt_two_pow (n := 32) lq4 lq3
                          have eq5 : bits BinOp.xor IntKind.u32 (q4 : Int) (q3 : Int) = (q5 : Int) := by rw [u32_xor_nat _ _ lq4 lq3, hq5]
                          obtain ⟨s1, hs1⟩ : ∃ zz, zz = (h + k) % 4294967296 := ⟨_, rfl⟩
                          have es1 : ((h : Int) + (k : Int)) % 4294967296 = (s1 : Int) := by omega
                          have ls1 : s1 < 4294967296 := by omega
                          have ws1 : IntKind.u32.wrap ((h : Int) + (k : Int)) = (s1 : Int) := by simp [IntKind.wrap, IntKind.bits, IntKind.signed]; omega
                          obtain ⟨s2, hs2⟩ : ∃ zz, zz = (s1 + u) % 4294967296 := ⟨_, rfl⟩
                          have es2 : ((s1 : Int) + (u : Int)) % 4294967296 = (s2 : Int) := by omega
                          have ls2 : s2 < 4294967296 := by omega
                          have ws2 : IntKind.u32.wrap ((s1 : Int) + (u : Int)) = (s2 : Int) := by simp [IntKind.wrap, IntKind.bits, IntKind.signed]; omega
                          obtain ⟨s3, hs3⟩ : ∃ zz, zz = (s2 + r5) % 4294967296 := ⟨_, rfl⟩
                          have es3 : ((s2 : Int) + (r5 : Int)) % 4294967296 = (s3 : Int) := by omega
                          have ls3 : s3 < 4294967296 := by omega
                          have ws3 : IntKind.u32.wrap ((s2 : Int) + (r5 : Int)) = (s3 : Int) := by simp [IntKind.wrap, IntKind.bits, IntKind.signed]; omega
                          obtain ⟨A1, hA1⟩ : ∃ zz, zz = e &&& f := ⟨_, rfl⟩
                          have lA1 : A1 < 4294967296 := by rw [hA1]; exact Nat.and_lt_two_pow (n := 32) e lf
                          have eA1 : bits BinOp.and IntKind.u32 (e : Int) (f : Int) = (A1 : Int) := by rw [u32_and_nat _ _ le lf, hA1]
                          obtain ⟨N1, hN1⟩ : ∃ x, x = 4294967295 - e := ⟨_, rfl⟩
                          have lN1 : N1 < 4294967296 := by omega
                          have eN1 : (4294967295 : Int) - (e : Int) = (N1 : Int) := by omega
                          obtain ⟨A2, hA2⟩ : ∃ zz, zz = N1 &&& m := ⟨_, rfl⟩
                          have lA2 : A2 < 4294967296 := by rw [hA2]; exact Nat.and_lt_two_pow (n := 32) N1 lm
                          have eA2 : bits BinOp.and IntKind.u32 (N1 : Int) (m : Int) = (A2 : Int) := by rw [u32_and_nat _ _ lN1 lm, hA2]
                          obtain ⟨X1, hX1⟩ : ∃ zz, zz = A1 ||| A2 := ⟨_, rfl⟩
                          have lX1 : X1 < 4294967296 := by rw [hX1]; exact Nat.or_lt_two_pow (n := 32) lA1 lA2
                          have eX1 : bits BinOp.or IntKind.u32 (A1 : Int) (A2 : Int) = (X1 : Int) := by rw [u32_or_nat _ _ lA1 lA2, hX1]
                          obtain ⟨y, hy⟩ : ∃ zz, zz = (s3 + X1) % 4294967296 := ⟨_, rfl⟩
                          have ey : ((s3 : Int) + (X1 : Int)) % 4294967296 = (y : Int) := by omega
                          have ly : y < 4294967296 := by omega
                          have wy : IntKind.u32.wrap ((s3 : Int) + (X1 : Int)) = (y : Int) := by simp [IntKind.wrap, IntKind.bits, IntKind.signed]; omega
                          obtain ⟨B1, hB1⟩ : ∃ zz, zz = a &&& b := ⟨_, rfl⟩
                          have lB1 : B1 < 4294967296 := by rw [hB1]; exact Nat.and_lt_two_pow (n := 32) a lb
                          have eB1 : bits BinOp.and IntKind.u32 (a : Int) (b : Int) = (B1 : Int) := by rw [u32_and_nat _ _ la lb, hB1]
                          obtain ⟨B2, hB2⟩ : ∃ zz, zz = a &&& c := ⟨_, rfl⟩
                          have lB2 : B2 < 4294967296 := by rw [hB2]; exact Nat.and_lt_two_pow (n := 32) a lc
                          have eB2 : bits BinOp.and IntKind.u32 (a : Int) (c : Int) = (B2 : Int) := by rw [u32_and_nat _ _ la lc, hB2]
                          obtain ⟨B3, hB3⟩ : ∃ zz, zz = b &&& c := ⟨_, rfl⟩
                          have lB3 : B3 < 4294967296 := by rw [hB3]; exact Nat.and_lt_two_pow (n := 32) b lc
                          have eB3 : bits BinOp.and IntKind.u32 (b : Int) (c : Int) = (B3 : Int) := by rw [u32_and_nat _ _ lb lc, hB3]
                          obtain ⟨X2, hX2⟩ : ∃ zz, zz = B1 ||| B2 := ⟨_, rfl⟩
                          have lX2 : X2 < 4294967296 := by rw [hX2]; exact Nat.or_lt_two_pow (n := 32) lB1 lB2
                          have eX2 : bits BinOp.or IntKind.u32 (B1 : Int) (B2 : Int) = (X2 : Int) := by rw [u32_or_nat _ _ lB1 lB2, hX2]
                          obtain ⟨X3, hX3⟩ : ∃ zz, zz = X2 ||| B3 := ⟨_, rfl⟩
                          have lX3 : X3 < 4294967296 := by rw [hX3]; exact Nat.or_lt_two_pow (n := 32) lX2 lB3
                          have eX3 : bits BinOp.or IntKind.u32 (X2 : Int) (B3 : Int) = (X3 : Int) := by rw [u32_or_nat _ _ lX2 lB3, hX3]
                          obtain ⟨z, hz⟩ : ∃ zz, zz = (q5 + X3) % 4294967296 := ⟨_, rfl⟩
                          have ez : ((q5 : Int) + (X3 : Int)) % 4294967296 = (z : Int) := by omega
                          have lz : z < 4294967296 := by omega
                          have wz : IntKind.u32.wrap ((q5 : Int) + (X3 : Int)) = (z : Int) := by simp [IntKind.wrap, IntKind.bits, IntKind.signed]; omega
                          obtain ⟨n0, hn0⟩ : ∃ zz, zz = (y + z) % 4294967296 := ⟨_, rfl⟩
                          have en0 : ((y : Int) + (z : Int)) % 4294967296 = (n0 : Int) := by omega
                          have ln0 : n0 < 4294967296 := by omega
                          have wn0 : IntKind.u32.wrap ((y : Int) + (z : Int)) = (n0 : Int) := by simp [IntKind.wrap, IntKind.bits, IntKind.signed]; omega
                          obtain ⟨n4, hn4⟩ : ∃ zz, zz = (d + y) % 4294967296 := ⟨_, rfl⟩
                          have en4 : ((d : Int) + (y : Int)) % 4294967296 = (n4 : Int) := by omega
                          have ln4 : n4 < 4294967296 := by omega
                          have wn4 : IntKind.u32.wrap ((d : Int) + (y : Int)) = (n4 : Int) := by simp [IntKind.wrap, IntKind.bits, IntKind.signed]; omega
                          have HE2 := Lib.hid (show rdsN H sc (i + 1) = [n0, a, b, c, n4, e, f, m] by
                            have h1 : yN e f m h k u = y := by unfold yN laidN; rw [← ch_eq e f m le, ← hr1, ← hr2, ← hr3, ← hr4, ← hr5, ← hN1, ← hA1, ← hA2, ← hX1, ← hs1, ← hs2, ← hs3, ← hy]
                            have h2 : zN a b c = z := by unfold zN laidN; rw [← maj_eq a b c, ← hq1, ← hq2, ← hq3, ← hq4, ← hq5, ← hB1, ← hB2, ← hB3, ← hX2, ← hX3, ← hz]
                            rw [HE.out, h1, h2, ← hn0, ← hn4])
                          clear HE hr1 hr2 hr3 hr4 hr5 hq1 hq2 hq3 hq4 hq5 hs1 hs2 hs3 hA1 hN1 hA2 hX1 hy hB1 hB2 hB3 hX2 hX3 hz hn0 hn4
                          have HI := Lib.hid hI.out
                          clear hI
                          go_wp2_with fail
                          refine wp_region_quiet_lit (by kernel_rfl) (by kernel_rfl) ?_
                          go_big_quiet_step (fail)
                          go_big_quiet_step (fail)
                          go_big_quiet_step (fail)
                          go_big_quiet_step (fail)
                          go_big_quiet_step (fail)
                          go_big_quiet_step (fail)
                          go_big_quiet_step (fail)
                          go_big_quiet_step (fail)
                          go_big_quiet_step (fail)
                          go_big_quiet_step (fail)
                          go_big_quiet_step (fail)
                          go_big_quiet_step ((go_at_call 40; exact Calls.quiet_of_same (right_s e 6 r1 _ (by decide) rfl le Rr1.out _)))
                          go_big_quiet_step (fail)
                          go_big_quiet_step ((go_at_call 40; exact Calls.quiet_of_same (right_s e 11 r2 _ (by decide) rfl le Rr2.out _)))
                          go_big_quiet_step (fail)
                          go_big_quiet_step (fail)
                          go_big_quiet_step ((go_at_call 40; exact Calls.quiet_of_same (right_s e 25 r3 _ (by decide) rfl le Rr3.out _)))
                          go_big_quiet_step (fail)
                          go_big_quiet_step (fail)
                          go_big_quiet_step (fail)
                          go_big_quiet_step (fail)
                          go_big_quiet_step (fail)
                          go_big_quiet_step (fail)
                          go_big_quiet_step (fail)
                          go_big_quiet_step (fail)
                          go_big_quiet_step (fail)
                          go_big_quiet_step (fail)
                          go_big_quiet_step (fail)
                          go_big_quiet_step (fail)
                          go_big_quiet_step (fail)
                          go_big_quiet_step (fail)
                          refine wpQuiet_nil ?_
                          intro _ hw1
                          obtain ⟨nq, hw2⟩ := hw1
                          subst hw2
                          have q5 : Hid (OfS w (wr.drewN nq) gk gh gm ml cm H M ∧ Arr .u32 73 (wr.drewN nq) gw sc ∧ Arr .u32 74 (wr.drewN nq) gs (rdsN H sc i)) := ⟨HI.out.1.drewN nq, HI.out.2.1, HI.out.2.2⟩
                          have d0 : (wr.drewN nq).cell? ⟨gs, 0, none⟩ = some (.int .u32 (a : Int)) := cv0
                          have d1 : (wr.drewN nq).cell? ⟨gs, 1, none⟩ = some (.int .u32 (b : Int)) := cv1
                          have d2 : (wr.drewN nq).cell? ⟨gs, 2, none⟩ = some (.int .u32 (c : Int)) := cv2
                          have d3 : (wr.drewN nq).cell? ⟨gs, 3, none⟩ = some (.int .u32 (d : Int)) := cv3
                          have d4 : (wr.drewN nq).cell? ⟨gs, 4, none⟩ = some (.int .u32 (e : Int)) := cv4
                          have d5 : (wr.drewN nq).cell? ⟨gs, 5, none⟩ = some (.int .u32 (f : Int)) := cv5
                          have d6 : (wr.drewN nq).cell? ⟨gs, 6, none⟩ = some (.int .u32 (m : Int)) := cv6
                          generalize wr.drewN nq = w5 at *
                          clear cv0 cv1 cv2 cv3 cv4 cv5 cv6 cv7 ck cu HI
                          have hff := q5.out.2.2.frozen
                          have ff0 := hff 0
                          have ff1 := hff 1
                          have ff2 := hff 2
                          have ff3 := hff 3
                          have ff4 := hff 4
                          have ff5 := hff 5
                          have ff6 := hff 6
                          have ff7 := hff 7
                          have c7 := q5.out.2.2.cell 7 (by rw [hVl.out]; decide)
                          clear hff
                          go_wp2_with fail
                          refine wp_region_quiet_lit (by kernel_rfl) (by kernel_rfl) ?_
                          go_big_quiet_step (fail)
                          go_big_quiet_step ((go_at_call 40; exact Calls.quiet_of_same (right_s a 2 q1 _ (by decide) rfl la Rq1.out _)))
                          go_big_quiet_step (fail)
                          go_big_quiet_step ((go_at_call 40; exact Calls.quiet_of_same (right_s a 13 q2 _ (by decide) rfl la Rq2.out _)))
                          go_big_quiet_step (fail)
                          go_big_quiet_step (fail)
                          go_big_quiet_step ((go_at_call 40; exact Calls.quiet_of_same (right_s a 22 q3 _ (by decide) rfl la Rq3.out _)))
                          go_big_quiet_step (fail)
                          go_big_quiet_step (fail)
                          go_big_quiet_step (fail)
                          go_big_quiet_step (fail)
                          go_big_quiet_step (fail)
                          go_big_quiet_step (fail)
                          go_big_quiet_step (fail)
                          go_big_quiet_step (fail)
                          go_big_quiet_step (fail)
                          go_big_quiet_step (fail)
                          go_big_quiet_step (fail)
                          go_big_quiet_step (fail)
                          go_big_quiet_step (fail)
                          go_big_quiet_step (fail)
                          go_big_quiet_step (fail)
                          go_big_quiet_step (fail)
                          go_big_quiet_step (fail)
                          go_big_quiet_step (fail)
                          refine wpQuiet_nil ?_
                          intro _ hw1
                          obtain ⟨nq, hw2⟩ := hw1
                          subst hw2
                          clear hz8 hzR
                          go_wp2
                          go_roundw
                          case rel =>
                            refine ⟨i + 1, by go_num, by omega, ?_⟩
                            rw [HE2.out, ← set8 hVl.out n0 a b c n4 e f m]
                            exact ⟨(((((((((q5.out.1.drewN nq).set HO5.out 0 _).set HO5.out 1 _).set HO5.out 2 _).set HO5.out 3 _).set HO5.out 4 _).set HO5.out 5 _).set HO5.out 6 _).set HO5.out 7 _), (((((((((show Arr .u32 73 (w5.drewN nq) gw sc from q5.out.2.1).other _ _ hws.out).other _ _ hws.out).other _ _ hws.out).other _ _ hws.out).other _ _ hws.out).other _ _ hws.out).other _ _ hws.out).other _ _ hws.out), (((((((((show Arr .u32 74 (w5.drewN nq) gs (rdsN H sc i) from q5.out.2.2).stored 0 n0 _ rfl).stored 1 a _ rfl).stored 2 b _ rfl).stored 3 c _ rfl).stored 4 n4 _ rfl).stored 5 e _ rfl).stored 6 f _ rfl).stored 7 m _ rfl)⟩
                          case measure => simp [intOf] <;> omega
                        · have hiR : i = 64 := by omega
                          have tiR : decide ((i : Int) < 64) = false := by simp; omega
                          have HA8 := Lib.hid (show OfS w wr gk gh gm ml cm (addTo H (rdsN H sc 64) 0) M from hI.out.1)
                          have HGV := Lib.hid (show Arr .u32 74 wr gs (rdsN H sc 64) by have := hI.out.2.2; rw [hiR] at this; exact this)
                          have HVL := Lib.hid (rdsN_len H sc HWL.out 64)
                          have HVB := Lib.hid (rdsN_lt H sc HWB.out 64)
                          generalize rdsN H sc 64 = v at *
                          clear hI hiR hlti hii HP HSC HGS
                          go_wp2_with fail
                          go_loopw [26] (fun iv wq => ∃ g : Nat, iv = .int .i64 (g : Int) ∧ g ≤ 8 ∧ Hid (OfS w wq gk gh gm ml cm (addTo H v g) M ∧ Arr .u32 74 wq gs v)) (fun iv _ => 8 - (intOf iv).toNat)
                          case atStart => exact ⟨0, rfl, by decide, HA8.out, HGV.out⟩
                          case round =>
                            obtain ⟨g, rfl, hg, hI⟩ := hrel
                            by_cases hltg : g < 8
                            · have cx := hI.out.1.h.cell g (by rw [addTo_len H v HWL.out]; exact hltg)
                              have fx := hI.out.1.h.frozen g
                              have cy := hI.out.2.cell g (by rw [HVL.out]; exact hltg)
                              obtain ⟨x, hx⟩ : ∃ x, x = g0 (addTo H v g) g := ⟨_, rfl⟩
                              obtain ⟨y, hy⟩ : ∃ y, y = g0 v g := ⟨_, rfl⟩
                              have lx : x < 4294967296 := hx ▸ g0_lt (addTo_lt H v HWB.out g) (by decide) g
                              have ly : y < 4294967296 := hy ▸ g0_lt HVB.out (by decide) g
                              rw [show (addTo H v g)[g]?.getD 0 = x from hx.symm] at cx
                              rw [show v[g]?.getD 0 = y from hy.symm] at cy
                              obtain ⟨s, hs⟩ : ∃ s, s = (x + y) % 4294967296 := ⟨_, rfl⟩
                              have ls : s < 4294967296 := by omega
                              have es : ((x : Int) + (y : Int)) % 4294967296 = (s : Int) := by omega
                              have HE := Lib.hid (show addTo H v (g + 1) = (addTo H v g).set g s by rw [hs, hx, hy]; rfl)
                              have HI := Lib.hid hI.out
                              clear hx hy hs hI
                              go_wp2_with fail
                              go_region
                              all_goals go_wp2
                              all_goals go_roundw
                              case rel => exact ⟨g + 1, by go_num, by omega, by rw [HE.out]; exact (HI.out.1.seth g s _ rfl).drew, Arr.other (w := wr) HI.out.2 _ _ (fun e => HO5.out.ne.2.1 e.symm)⟩
                              case measure => simp [intOf] <;> omega
                            · have hg8 : g = 8 := by omega
                              have tg : decide ((g : Int) < 8) = false := by simp; omega
                              have HN := Lib.hid (show OfS w wr gk gh gm ml cm (wsK 224 M (j + 1)) M by have := hI.out.1; rw [hg8, ← HNXT.out] at this; exact this)
                              clear hI hg8 hltg hg
                              go_wp2
                              go_roundw
                              case rel => exact ⟨j + 1, at' + 64, by go_num, by omega, by omega, by show at' + 64 = 64 * (j + 1); rw [HAT.out]; omega, HN.out⟩
                              case measure => simp [intOf] <;> omega
            · have hjn : j = nb := by omega
              have hatm : at' = ml := by rw [hI.out.1, HNB.out, hjn]
              have tJ : decide (at' < ml) = false := by simp; omega
              have HF := Lib.hid (show OfS w wr gk gh gm ml cm (wsK 224 M nb) M by have := hI.out.2; rw [hjn] at this; exact this)
              have HHR := Lib.hid (show bytesW (wsK 224 M nb) (224 / 32) = hashN 224 bl by
                rw [HM.out]
                exact hash_ref 224 (by decide) bl nb (by rw [← HM.out, ← HML.out, HNB.out]))
              have HWL := Lib.hid (wsK_len 224 M nb)
              have HWB := Lib.hid (wsK_lt 224 M nb)
              generalize wsK 224 M nb = H at *
              clear hI hjn hatm hlt hj hat HS
              go_wp2_with fail
              obtain ⟨i0, hi0, hz0, hz1, hz2⟩ := info_parts infoB
              obtain ⟨wE, rfl⟩ : ∃ x, x = wr := ⟨_, rfl⟩
              go_loopw [27, 28] (fun ov iv wq => ∃ (i m9 c9 : Nat) (a9 : Option Addr), ov = .slice a9 m9 c9 ∧ iv = .int .i64 (i : Int) ∧ i ≤ 7 ∧ Hid (OwnQ .u8 5 wE.heap.size wq (.slice a9 m9 c9) (bytesW H i) ∧ Below wE.heap.size wE wq)) (fun _ iv _ => 7 - (intOf iv).toNat)
              case atStart => exact ⟨0, 0, 0, none, rfl, rfl, by decide, OwnQ.nil _ _ _ _, Below.refl _ _⟩
              case round =>
                obtain ⟨i, m9, c9, a9, rfl, rfl, hi, hI⟩ := hrel
                by_cases hlti : i < 7
                · have cx := (HF.out.on hI.out.2).h.cell i (by rw [HWL.out]; omega)
                  obtain ⟨x, hx⟩ : ∃ x, x = g0 H i := ⟨_, rfl⟩
                  have lx : x < 4294967296 := hx ▸ g0_lt HWB.out (by decide) i
                  have HX := Lib.hid (show H[i]?.getD 0 = x from hx.symm)
                  rw [HX.out] at cx
                  obtain ⟨y0, hy0⟩ : ∃ y, y = x / 16777216 := ⟨_, rfl⟩
                  obtain ⟨z1, hz1'⟩ : ∃ y, y = x / 65536 := ⟨_, rfl⟩
                  obtain ⟨y1, hy1⟩ : ∃ y, y = z1 % 256 := ⟨_, rfl⟩
                  obtain ⟨z2, hz2'⟩ : ∃ y, y = x / 256 := ⟨_, rfl⟩
                  obtain ⟨y2, hy2⟩ : ∃ y, y = z2 % 256 := ⟨_, rfl⟩
                  obtain ⟨y3, hy3⟩ : ∃ y, y = x % 256 := ⟨_, rfl⟩
                  have e0 : (x : Int) / 16777216 = (y0 : Int) := by omega
                  have e1 : (x : Int) / 65536 = (z1 : Int) := by omega
                  have e1' : (z1 : Int) % 256 = (y1 : Int) := by omega
                  have e2 : (x : Int) / 256 = (z2 : Int) := by omega
                  have e2' : (z2 : Int) % 256 = (y2 : Int) := by omega
                  have e3 : (x : Int) % 256 = (y3 : Int) := by omega
                  have w0 : IntKind.u8.wrap (y0 : Int) = (y0 : Int) := by simp [IntKind.wrap, IntKind.bits, IntKind.signed]; omega
                  have w1 : IntKind.u8.wrap (y1 : Int) = (y1 : Int) := by simp [IntKind.wrap, IntKind.bits, IntKind.signed]; omega
                  have w2 : IntKind.u8.wrap (y2 : Int) = (y2 : Int) := by simp [IntKind.wrap, IntKind.bits, IntKind.signed]; omega
                  have w3 : IntKind.u8.wrap (y3 : Int) = (y3 : Int) := by simp [IntKind.wrap, IntKind.bits, IntKind.signed]; omega
                  have u0 : IntKind.u32.wrap (y0 : Int) = (y0 : Int) := by simp [IntKind.wrap, IntKind.bits, IntKind.signed]; omega
                  have u1 : IntKind.u32.wrap (z1 : Int) = (z1 : Int) := by simp [IntKind.wrap, IntKind.bits, IntKind.signed]; omega
                  have u2 : IntKind.u32.wrap (z2 : Int) = (z2 : Int) := by simp [IntKind.wrap, IntKind.bits, IntKind.signed]; omega
                  have v0 : IntKind.u8.wrap (IntKind.u32.wrap (y0 : Int)) = (y0 : Int) := by rw [u0, w0]
                  have v1 : IntKind.u8.wrap ((IntKind.u32.wrap (z1 : Int)).tmod 256) = (y1 : Int) := by rw [u1, Int.tmod_eq_emod_of_nonneg (by omega), e1', w1]
                  have v2 : IntKind.u8.wrap ((IntKind.u32.wrap (z2 : Int)).tmod 256) = (y2 : Int) := by rw [u2, Int.tmod_eq_emod_of_nonneg (by omega), e2', w2]
                  have v3 : IntKind.u8.wrap ((x : Int).tmod 256) = (y3 : Int) := by rw [Int.tmod_eq_emod_of_nonneg (by omega), e3, w3]
                  clear u0 u1 u2
                  have wi : IntKind.i64.wrap (i : Int) = (i : Int) := by simp [IntKind.wrap, IntKind.bits, IntKind.signed]; omega
                  have ii : (i : Int) < 8 := by omega
                  have HBS := Lib.hid (show bytesW H (i + 1) = bytesW H i ++ [y0, y1, y2, y3] by
                    rw [bytesW_succ, ← hx]
                    unfold wordB
                    rw [show x / 16777216 % 256 = y0 by omega, show x / 65536 % 256 = y1 by omega, show x / 256 % 256 = y2 by omega, ← hy3])
                  have HI := Lib.hid hI.out
                  have HBL2 := Lib.hid (bytesW_len H i)
                  clear hx hy0 hz1' hy1 hz2' hy2 hy3 hI
                  have HB8 := Lib.hid (show Below wE.heap.size wE wr.drew from HI.out.2.trans ((Below.refl _ _).drew.mono HI.out.2.size))
                  have HC := Lib.hid (show ∀ W, Below wE.heap.size wE W → W.cell? ⟨gh, i, none⟩ = some (.int .u32 (x : Int)) from fun W hb => by
                    have := (HF.out.on hb).h.cell i (by rw [HWL.out]; omega)
                    rwa [HX.out] at this)
                  go_wp2_with fail
                  refine wp_region_held_drew (S := fun W => W.cell? ⟨gh, i, none⟩ = some (.int .u32 (x : Int))) (by kernel_rfl) (HC.out _ HB8.out) (fun hHeld => ?_)
                  refine' wpAnyH_take (i := 0) (oi := _) (v := _) rfl (by kernel_rfl) (by kernel_rfl) (by kernel_rfl) (fun _ _ _ h => h) (Or.inl ⟨?_, ?_⟩) (by assumption) ?_
                  rotate_left
                  all_goals (try simp only [List.getElem_toArray, List.getElem_cons_zero])
                  · rfl
                  · intro W hSw; (try dsimp only at hSw); go_simp; (try with_reducible rfl)
                  try simp only [Act.put, List.setIfInBounds_toArray, List.set_cons_zero, List.set_cons_succ]
                  refine' wpAnyH_take (i := 1) (oi := _) (v := _) rfl (by kernel_rfl) (by kernel_rfl) (by kernel_rfl) (fun _ _ _ h => h) (Or.inl ⟨?_, ?_⟩) (by assumption) ?_
                  rotate_left
                  all_goals (try simp only [List.getElem_toArray, List.getElem_cons_succ, List.getElem_cons_zero])
                  · rfl
                  · intro W hSw; (try dsimp only at hSw); go_simp; (try with_reducible rfl)
                  try simp only [Act.put, List.setIfInBounds_toArray, List.set_cons_zero, List.set_cons_succ]
                  refine' wpAnyH_take (i := 2) (oi := _) (v := _) rfl (by kernel_rfl) (by kernel_rfl) (by kernel_rfl) (fun _ _ _ h => h) (Or.inl ⟨?_, ?_⟩) (by assumption) ?_
                  rotate_left
                  all_goals (try simp only [List.getElem_toArray, List.getElem_cons_succ, List.getElem_cons_zero])
                  · rfl
                  · intro W hSw; (try dsimp only at hSw); go_simp; (try with_reducible rfl)
                  try simp only [Act.put, List.setIfInBounds_toArray, List.set_cons_zero, List.set_cons_succ]
                  refine' wpAnyH_take (i := 3) (oi := _) (v := _) rfl (by kernel_rfl) (by kernel_rfl) (by kernel_rfl) (fun _ _ _ h => h) (Or.inl ⟨?_, ?_⟩) (by assumption) ?_
                  rotate_left
                  all_goals (try simp only [List.getElem_toArray, List.getElem_cons_succ, List.getElem_cons_zero])
                  · rfl
                  · intro W hSw; (try dsimp only at hSw); go_simp; (try with_reducible rfl)
                  try simp only [Act.put, List.setIfInBounds_toArray, List.set_cons_zero, List.set_cons_succ]
                  refine' wpAnyH_take (i := 4) (oi := _) (v := _) rfl (by kernel_rfl) (by kernel_rfl) (by kernel_rfl) (fun _ _ _ h => h) (Or.inl ⟨?_, ?_⟩) (by assumption) ?_
                  rotate_left
                  all_goals (try simp only [List.getElem_toArray, List.getElem_cons_succ, List.getElem_cons_zero])
                  · rfl
                  · intro W hSw; (try dsimp only at hSw); go_simp; (try with_reducible rfl)
                  try simp only [Act.put, List.setIfInBounds_toArray, List.set_cons_zero, List.set_cons_succ]
                  refine' wpAnyH_take (i := 5) (oi := _) (v := _) rfl (by kernel_rfl) (by kernel_rfl) (by kernel_rfl) (fun _ _ _ h => h) (Or.inl ⟨?_, ?_⟩) (by assumption) ?_
                  rotate_left
                  all_goals (try simp only [List.getElem_toArray, List.getElem_cons_succ, List.getElem_cons_zero])
                  · rfl
                  · intro W hSw; (try dsimp only at hSw); go_simp; (try with_reducible rfl)
                  try simp only [Act.put, List.setIfInBounds_toArray, List.set_cons_zero, List.set_cons_succ]
                  refine' wpAnyH_take (i := 6) (oi := _) (v := _) rfl (by kernel_rfl) (by kernel_rfl) (by kernel_rfl) (fun _ _ _ h => h) (Or.inl ⟨?_, ?_⟩) (by assumption) ?_
                  rotate_left
                  all_goals (try simp only [List.getElem_toArray, List.getElem_cons_succ, List.getElem_cons_zero])
                  · rfl
                  · intro W hSw; (try dsimp only at hSw); go_simp; (try with_reducible rfl)
                  try simp only [Act.put, List.setIfInBounds_toArray, List.set_cons_zero, List.set_cons_succ]
                  refine' wpAnyH_take (i := 7) (oi := _) (v := _) rfl (by kernel_rfl) (by kernel_rfl) (by kernel_rfl) (fun _ _ _ h => h) (Or.inl ⟨?_, ?_⟩) (by assumption) ?_
                  rotate_left
                  all_goals (try simp only [List.getElem_toArray, List.getElem_cons_succ, List.getElem_cons_zero])
                  · rfl
                  · intro W hSw; (try dsimp only at hSw); go_simp; (try with_reducible rfl)
                  try simp only [Act.put, List.setIfInBounds_toArray, List.set_cons_zero, List.set_cons_succ]
                  refine' wpAnyH_take (i := 8) (oi := _) (v := _) rfl (by kernel_rfl) (by kernel_rfl) (by kernel_rfl) (fun _ _ _ h => h) (Or.inl ⟨?_, ?_⟩) (by assumption) ?_
                  rotate_left
                  all_goals (try simp only [List.getElem_toArray, List.getElem_cons_succ, List.getElem_cons_zero])
                  · rfl
                  · intro W hSw; (try dsimp only at hSw); go_simp; (try with_reducible rfl)
                  try simp only [Act.put, List.setIfInBounds_toArray, List.set_cons_zero, List.set_cons_succ]
                  refine' wpAnyH_take (i := 9) (oi := _) (v := _) rfl (by kernel_rfl) (by kernel_rfl) (by kernel_rfl) (fun _ _ _ h => h) (Or.inl ⟨?_, ?_⟩) (by assumption) ?_
                  rotate_left
                  all_goals (try simp only [List.getElem_toArray, List.getElem_cons_succ, List.getElem_cons_zero])
                  · rfl
                  · intro W hSw; (try dsimp only at hSw); go_simp; (try with_reducible rfl)
                  try simp only [Act.put, List.setIfInBounds_toArray, List.set_cons_zero, List.set_cons_succ]
                  refine' wpAnyH_take (i := 10) (oi := _) (v := _) rfl (by kernel_rfl) (by kernel_rfl) (by kernel_rfl) (fun _ _ _ h => h) (Or.inl ⟨?_, ?_⟩) (by assumption) ?_
                  rotate_left
                  all_goals (try simp only [List.getElem_toArray, List.getElem_cons_succ, List.getElem_cons_zero])
                  · rfl
                  · intro W hSw; (try dsimp only at hSw); go_simp; (try with_reducible rfl)
                  try simp only [Act.put, List.setIfInBounds_toArray, List.set_cons_zero, List.set_cons_succ]
                  refine' wpAnyH_take (i := 11) (oi := _) (v := _) rfl (by kernel_rfl) (by kernel_rfl) (by kernel_rfl) (fun _ _ _ h => h) (Or.inl ⟨?_, ?_⟩) (by assumption) ?_
                  rotate_left
                  all_goals (try simp only [List.getElem_toArray, List.getElem_cons_succ, List.getElem_cons_zero])
                  · rfl
                  · intro W hSw; (try dsimp only at hSw); go_simp; (try with_reducible rfl)
                  try simp only [Act.put, List.setIfInBounds_toArray, List.set_cons_zero, List.set_cons_succ]
                  refine' wpAnyH_take (i := 12) (oi := _) (v := _) rfl (by kernel_rfl) (by kernel_rfl) (by kernel_rfl) (fun _ _ _ h => h) (Or.inl ⟨?_, ?_⟩) (by assumption) ?_
                  rotate_left
                  all_goals (try simp only [List.getElem_toArray, List.getElem_cons_succ, List.getElem_cons_zero])
                  · rfl
                  · intro W hSw; (try dsimp only at hSw); go_simp; (try with_reducible rfl)
                  try simp only [Act.put, List.setIfInBounds_toArray, List.set_cons_zero, List.set_cons_succ]
                  refine' wpAnyH_take (i := 13) (oi := _) (v := _) rfl (by kernel_rfl) (by kernel_rfl) (by kernel_rfl) (fun _ _ _ h => h) (Or.inl ⟨?_, ?_⟩) (by assumption) ?_
                  rotate_left
                  all_goals (try simp only [List.getElem_toArray, List.getElem_cons_succ, List.getElem_cons_zero])
                  · rfl
                  · intro W hSw; (try dsimp only at hSw); go_simp; (try with_reducible rfl)
                  try simp only [Act.put, List.setIfInBounds_toArray, List.set_cons_zero, List.set_cons_succ]
                  refine' wpAnyH_take (i := 14) (oi := _) (v := _) rfl (by kernel_rfl) (by kernel_rfl) (by kernel_rfl) (fun _ _ _ h => h) (Or.inl ⟨?_, ?_⟩) (by assumption) ?_
                  rotate_left
                  all_goals (try simp only [List.getElem_toArray, List.getElem_cons_succ, List.getElem_cons_zero])
                  · rfl
                  · intro W hSw; (try dsimp only at hSw); go_simp; (try with_reducible rfl)
                  try simp only [Act.put, List.setIfInBounds_toArray, List.set_cons_zero, List.set_cons_succ]
                  refine' wpAnyH_take (i := 15) (oi := _) (v := _) rfl (by kernel_rfl) (by kernel_rfl) (by kernel_rfl) (fun _ _ _ h => h) (Or.inl ⟨?_, ?_⟩) (by assumption) ?_
                  rotate_left
                  all_goals (try simp only [List.getElem_toArray, List.getElem_cons_succ, List.getElem_cons_zero])
                  · rfl
                  · intro W hSw; (try dsimp only at hSw); go_simp; (try with_reducible rfl)
                  try simp only [Act.put, List.setIfInBounds_toArray, List.set_cons_zero, List.set_cons_succ]
                  refine' wpAnyH_take (i := 16) (oi := _) (v := _) rfl (by kernel_rfl) (by kernel_rfl) (by kernel_rfl) (fun _ _ _ h => h) (Or.inl ⟨?_, ?_⟩) (by assumption) ?_
                  rotate_left
                  all_goals (try simp only [List.getElem_toArray, List.getElem_cons_succ, List.getElem_cons_zero])
                  · rfl
                  · intro W hSw; (try dsimp only at hSw); go_simp; (try with_reducible rfl)
                  try simp only [Act.put, List.setIfInBounds_toArray, List.set_cons_zero, List.set_cons_succ]
                  refine' wpAnyH_take (i := 17) (oi := _) (v := _) rfl (by kernel_rfl) (by kernel_rfl) (by kernel_rfl) (fun _ _ _ h => h) (Or.inl ⟨?_, ?_⟩) (by assumption) ?_
                  rotate_left
                  all_goals (try simp only [List.getElem_toArray, List.getElem_cons_succ, List.getElem_cons_zero])
                  · rfl
                  · intro W hSw; (try dsimp only at hSw); go_simp; (try with_reducible rfl)
                  try simp only [Act.put, List.setIfInBounds_toArray, List.set_cons_zero, List.set_cons_succ]
                  refine' wpAnyH_take (i := 18) (oi := _) (v := _) rfl (by kernel_rfl) (by kernel_rfl) (by kernel_rfl) (fun _ _ _ h => h) (Or.inl ⟨?_, ?_⟩) (by assumption) ?_
                  rotate_left
                  all_goals (try simp only [List.getElem_toArray, List.getElem_cons_succ, List.getElem_cons_zero])
                  · rfl
                  · intro W hSw; (try dsimp only at hSw); go_simp; (try with_reducible rfl)
                  try simp only [Act.put, List.setIfInBounds_toArray, List.set_cons_zero, List.set_cons_succ]
                  refine' wpAnyH_take (i := 19) (oi := _) (v := _) rfl (by kernel_rfl) (by kernel_rfl) (by kernel_rfl) (fun _ _ _ h => h) (Or.inl ⟨?_, ?_⟩) (by assumption) ?_
                  rotate_left
                  all_goals (try simp only [List.getElem_toArray, List.getElem_cons_succ, List.getElem_cons_zero])
                  · rfl
                  · intro W hSw; (try dsimp only at hSw); go_simp; (try with_reducible rfl)
                  try simp only [Act.put, List.setIfInBounds_toArray, List.set_cons_zero, List.set_cons_succ]
                  refine' wpAnyH_take (i := 20) (oi := _) (v := _) rfl (by kernel_rfl) (by kernel_rfl) (by kernel_rfl) (fun _ _ _ h => h) (Or.inl ⟨?_, ?_⟩) (by assumption) ?_
                  rotate_left
                  all_goals (try simp only [List.getElem_toArray, List.getElem_cons_succ, List.getElem_cons_zero])
                  · rfl
                  · intro W hSw; (try dsimp only at hSw); go_simp; (try with_reducible rfl)
                  try simp only [Act.put, List.setIfInBounds_toArray, List.set_cons_zero, List.set_cons_succ]
                  refine' wpAnyH_take (i := 21) (oi := _) (v := _) rfl (by kernel_rfl) (by kernel_rfl) (by kernel_rfl) (fun _ _ _ h => h) (Or.inl ⟨?_, ?_⟩) (by assumption) ?_
                  rotate_left
                  all_goals (try simp only [List.getElem_toArray, List.getElem_cons_succ, List.getElem_cons_zero])
                  · rfl
                  · intro W hSw; (try dsimp only at hSw); go_simp; (try with_reducible rfl)
                  try simp only [Act.put, List.setIfInBounds_toArray, List.set_cons_zero, List.set_cons_succ]
                  refine' wpAnyH_take (i := 22) (oi := _) (v := _) rfl (by kernel_rfl) (by kernel_rfl) (by kernel_rfl) (fun _ _ _ h => h) (Or.inl ⟨?_, ?_⟩) (by assumption) ?_
                  rotate_left
                  all_goals (try simp only [List.getElem_toArray, List.getElem_cons_succ, List.getElem_cons_zero])
                  · rfl
                  · intro W hSw; (try dsimp only at hSw); go_simp; (try with_reducible rfl)
                  try simp only [Act.put, List.setIfInBounds_toArray, List.set_cons_zero, List.set_cons_succ]
                  refine wpAnyH_ready (rs := [23]) (by kernel_rfl) (by simp) ?_
                  refine AllReadyH.cons (o := _) rfl (fun K hK => ?_) AllReadyH.nil
                  try simp only [List.getElem_toArray, List.getElem_cons_succ, List.getElem_cons_zero]
                  go_simp
                  refine hK.out _ _ (HC.out _ (HB8.out.alloc HB8.out.size _)) (fun hHeld => ?_)
                  clear hK K
                  try simp only [Act.put, List.setIfInBounds_toArray, List.set_cons_zero, List.set_cons_succ]
                  refine wpAnyH_ready (rs := [24]) (by kernel_rfl) (by simp) ?_
                  refine AllReadyH.cons (o := _) rfl (fun K hK => ?_) AllReadyH.nil
                  try simp only [List.getElem_toArray, List.getElem_cons_succ, List.getElem_cons_zero]
                  rw [if_pos (by rfl)]
                  refine step_append_q .u8 _ (.tmp 249) (.tmp 272) 23 rfl wE.heap.size 5 1 i0 Tryd.underlying23 hi0 hz0 hz1 hz2 (by decide) _ (bytesW H i) rfl (show OwnQ .u8 5 wE.heap.size _ (.slice a9 m9 c9) (bytesW H i) from OwnQ.alloc (w := wr.drew) HI.out.1 _) _ _ _ [y0, y1, y2, y3] rfl (reads_four .u8 wr.drew _ _ _ _ _ y0 y1 y2 y3 (by omega) (by omega) (by omega) (by omega)) (by rw [HBL2.out]; omega) ((HB8.out.alloc HB8.out.size _).size) ?_; intro v' wA hown hgrow; obtain ⟨aA, nA, cA, rfl, hnA, hoA⟩ := own_sl hown; have HOA := Lib.hid hoA; have HBA := Lib.hid (hgrow wE (HB8.out.alloc HB8.out.size _)); clear hown hgrow hnA hoA
                  refine hK.out _ _ (HC.out _ HBA.out) (fun hHeld => ?_)
                  clear hK K
                  try simp only [Act.put, List.setIfInBounds_toArray, List.set_cons_zero, List.set_cons_succ]
                  refine' wpAnyH_take (i := 25) (oi := _) (v := _) rfl (by kernel_rfl) (by kernel_rfl) (by kernel_rfl) (fun _ _ _ h => h) (Or.inl ⟨?_, ?_⟩) (by assumption) ?_
                  rotate_left
                  all_goals (try simp only [List.getElem_toArray, List.getElem_cons_succ, List.getElem_cons_zero])
                  · rfl
                  · intro W hSw; (try dsimp only at hSw); go_simp; (try with_reducible rfl)
                  try simp only [Act.put, List.setIfInBounds_toArray, List.set_cons_zero, List.set_cons_succ]
                  refine wpAnyH_done (by kernel_rfl) ?_ _
                  go_wp2_with fail
                  go_roundw
                  case rel => exact ⟨i + 1, nA, cA, aA, rfl, by go_num, by omega, by rw [HBS.out]; exact HOA.out, HBA.out⟩
                  case measure => simp [intOf] <;> omega
                · have hi8 : i = 7 := by omega
                  have ti : decide ((i : Int) < 7) = false := by simp; omega
                  have HOF := Lib.hid (show OwnQ .u8 5 wE.heap.size wr (.slice a9 m9 c9) (hashN 224 bl) by have := hI.out.1; rw [hi8] at this; rw [← HHR.out]; exact this)
                  have HBF := Lib.hid hI.out.2
                  clear hI hi8 hlti hi
                  go_wp2
                  go_ret2
                  exact ⟨⟨_, rfl, HOF.out.mono HF.out.below.size⟩, HF.out.below.trans (HBF.out.mono HF.out.below.size)⟩

end Go.Proofs.YtmfjhgjplmpecaaDoor

namespace Go.Proofs.YtmfjhgjplmpecaaDoor
open Go.RowKit Go.Shelf
attribute [local go_sem] Oper.semAt_some

theorem OwnQ.block {q : IntKind} {E : TypeId} {B : Nat} {w w' : World} {g n cap : Nat} {l : List Nat} (h : OwnQ q E B w (.slice (some ⟨g, 0, none⟩) n cap) l) (hb : w'.heap[g]? = w.heap[g]?) : OwnQ q E B w' (.slice (some ⟨g, 0, none⟩) n cap) l := by
  obtain ⟨h1, h2⟩ := h
  refine ⟨h1, ?_⟩
  rcases h2 with ⟨h2, -⟩ | ⟨g', cap', cur, e, hB, hg, r⟩
  · cases h2
  · cases e
    exact .inr ⟨g, cap, cur, rfl, hB, hb.trans hg, r⟩
set_option maxRecDepth 100000 in
set_option maxHeartbeats 4000000 in
theorem sum_own (g bt : Nat) (m : List Nat) (w : World) (h : StateOf w g bt m) (hbt : bt = 224 ∨ bt = 256) :
    Calls Tryd.prog 33 #[.pointer (some ⟨g, 0, none⟩)] w fun e w' => (∃ h1 cc, e = .returned (.slice (some ⟨h1, 0, none⟩) (bt / 8) (bt / 8)) ∧ OwnQ .u8 5 w.heap.size w' (.slice (some ⟨h1, 0, none⟩) (bt / 8) cc) (hashN bt m)) ∧ Below w.heap.size w w' := by
  obtain ⟨ws, tail, hst, hfin, hmb, hm0⟩ := h
  have HM0 := Lib.hid hm0
  have HF := Lib.hid hfin
  have hgw := Lib.hid hst.lt
  have hbt0 : bt ≠ 0 := by omega
  have HBT := Lib.hid hbt
  have HRES := Lib.hid (show Tryd.f33.results = #[.tmp 2] by kernel_rfl)
  obtain ⟨T, hT⟩ : ∃ T, T = m.length := ⟨_, rfl⟩
  rw [← hT] at hst hmb
  have HT := Lib.hid hT
  clear hm0 hfin hbt hT
  obtain ⟨us, hus⟩ : ∃ x, x = T % 64 := ⟨_, rfl⟩
  have hatc : (T : Int) % 64 = (us : Int) := by omega
  have hus64 : us < 64 := by omega
  obtain ⟨k, hk⟩ : ∃ k, k = (119 - us) % 64 := ⟨_, rfl⟩
  have hkc : Int.tmod (119 - (us : Int)) 64 = (k : Int) := by
    rw [Int.tmod_eq_emod_of_nonneg (by omega)]
    omega
  have cT := hst.taken
  have HST := Lib.hid hst
  have hsl := slice_used g us hus64
  have HUS := Lib.hid hus
  have HK := Lib.hid hk
  clear hus hk
  have htl := hst.tail.upto us (by omega)
  have HTL := Lib.hid htl
  refine (callsIn_wide (n := 3)).1 ?_
  refine callsIn_of_wp_marks Tryd.func33 rfl trivial ?_ rfl
  simp only [Tryd.ntmps33, List.size_toArray, List.length_cons, List.length_nil, Nat.reduceAdd, Nat.reduceSub, Array.replicate_succ, Array.replicate_zero, List.push_toArray, List.append_toArray, List.nil_append, List.cons_append]
  refine wpIn_wide.2 ?_
  go_wp2_with fail
  refine (made_yes g bt ws tail T w hst hbt0).mono ?_
  rintro e w1 ⟨rfl, rfl⟩
  clear hst htl
  obtain ⟨i0, hi, hz0, hz1, hz2⟩ := info_parts infoB
  have hpl : (tail.take us).length = us := HTL.out.length
  obtain ⟨p, hp⟩ : ∃ p, p = tail.take us := ⟨_, rfl⟩
  rw [← hp] at hpl HTL
  have HP := Lib.hid hp
  have HPL := Lib.hid hpl
  clear hp hpl
  go_wp2_with (at_builtin; first
    | (refine wpList_append_grows _ rfl _ _ 23 rfl 5 i0 (.int .u8 0) 1 1 Tryd.underlying23 hi hz0 hz1 hz2 rfl (by decide) (some ⟨g, 9, none⟩) us us (p.map (num .u8)) rfl (fun e => by cases e) (by rw [List.length_map, HPL.out, Nat.mul_one]) (fun b e j u hu => by cases e; exact (HTL.out.below ((Below.refl _ _).alloc (Nat.le_refl _) _)).news j u hu) _ 1 1 [.int .u8 128] rfl rfl (Reads.one .u8 w _ 128 128 rfl).news (fun u hu => by simp at hu; rw [hu]; rfl) (by omega) (by unfold maxLen; omega) (by omega) ?_; intro v1 w1 hown1 hgrow1; have HO1 := Lib.hid (owned_nums (l := p ++ [128]) (by rw [List.map_append]; exact hown1)); have HB1 := Lib.hid (((Below.refl w.heap.size w).alloc (Nat.le_refl _) (.cells #[.int .u8 128] 5)).grown hgrow1 (by simp) (fun r e => by cases e)); clear hown1 hgrow1)
    | (refine wpList_append_noughts _ rfl _ _ 23 3 rfl w.heap.size 5 i0 Tryd.underlying23 Tryd.underlying3 hi hz0 hz1 hz2 _ (p ++ [128]) rfl (HO1.out.mono (by simp)) (by simp) k rfl (by have := HPL.out; have := HK.out; simp; omega) HB1.out.size ?_; intro v2 w2 hown2 hgrow2; have HO2 := Lib.hid hown2; have HB2 := Lib.hid (hgrow2 _ HB1.out); clear hown2 hgrow2))
  obtain ⟨R0, hR0⟩ : ∃ R, R = p ++ [128] ++ List.replicate k 0 := ⟨_, rfl⟩
  rw [← hR0] at HO2
  have hRl : R0.length ≤ 120 := by
    have := HPL.out
    have := HK.out
    rw [hR0]
    simp
    omega
  have HR0 := Lib.hid hR0
  clear hR0
  go_loopw [36, 5] (fun iv sv wq => ∃ j : Nat, iv = .int .i64 (j : Int) ∧ j ≤ 8 ∧ Hid (OwnQ .u8 5 w.heap.size wq sv (R0 ++ lenB T j) ∧ Below w.heap.size w wq)) (fun iv _ _ => 8 - (intOf iv).toNat)
  case atStart => exact ⟨0, rfl, by decide, by rw [show lenB T 0 = [] from rfl, List.append_nil]; exact HO2.out, HB2.out⟩
  case round =>
    obtain ⟨j, rfl, hj, hI⟩ := hrel
    obtain ⟨ho, hb⟩ := hI.out
    have HO := Lib.hid ho
    have HB := Lib.hid hb
    clear ho hb
    have cT3 := (HST.out.below HB.out hgw.out).taken
    by_cases hlt : j < 8
    · go_wp2_with (at_builtin; refine wpList_append_q .u8 _ rfl _ _ 23 rfl w.heap.size 5 1 i0 Tryd.underlying23 hi hz0 hz1 hz2 (by decide) _ (R0 ++ lenB T j) rfl (HO.out.alloc _) _ _ _ [T * 8 / 2 ^ (8 * (7 - j)) % 256] rfl (Reads.one .u8 _ _ _ _ (by push_cast; rfl)) (by simp [lenB_len]; omega) (by have := HB.out.size; simp; omega) ?_; intro v' w3 hown3 hgrow3)
      go_roundw
      case rel => exact ⟨j + 1, by go_num, by omega, by rw [lenB_succ, ← List.append_assoc]; exact hown3, hgrow3 _ (HB.out.alloc HB.out.size _)⟩
      case measure => simp [intOf] <;> omega
    · obtain rfl : j = 8 := by omega
      have HS := Lib.hid (HST.out.below HB.out hgw.out)
      have hR : R0 ++ lenB T 8 = restN m := by
        unfold restN
        rw [← HT.out, HR0.out, HP.out, HUS.out, HK.out, HUS.out]
        have := HF.out.2
        rw [← HT.out] at this
        rw [this]
      rw [hR] at HO
      obtain ⟨g1, c1, hv⟩ := HO.out.succ (by intro e; have := restN_len m; rw [e] at this; simp at this)
      obtain ⟨N, hN⟩ : ∃ N, N = (restN m).length := ⟨_, rfl⟩
      rw [← hN] at hv
      subst hv
      have HN := Lib.hid hN
      have hN2 : N = 64 ∨ N = 128 := by rw [hN]; exact restN_len m
      clear hN hR
      go_wp2_with fail
      refine (copy_any g bt ws tail T wr HS.out hbt0).mono ?_
      rintro e w3 ⟨rfl, rfl⟩
      have hs3 := Lib.hid (show StateAt (wr.alloc (.cells (stL bt ws tail T).toArray 86)) wr.heap.size bt ws tail T from ⟨Go.heap_alloc_new wr _, HST.out.wlen, HST.out.tlen, HST.out.wlt, HST.out.tlt⟩)
      have hb3 := Lib.hid (HB.out.alloc HB.out.size (.cells (stL bt ws tail T).toArray 86))
      have ho3 := Lib.hid (HO.out.alloc (.cells (stL bt ws tail T).toArray 86))
      have hz3 := (Array.getElem?_eq_some_iff.1 (Go.heap_alloc_new wr (.cells (stL bt ws tail T).toArray 86))).1
      obtain ⟨f, hf⟩ : ∃ f, f = wr.heap.size := ⟨_, rfl⟩
      rw [← hf] at hs3 hz3 ⊢
      have hfw : w.heap.size ≤ f := by rw [hf]; exact HB.out.size
      have hgf : Hid (g1 ≠ f) := by
        have := (HO.out.lt g1 rfl).2
        show g1 ≠ f
        omega
      generalize wr.alloc (.cells (stL bt ws tail T).toArray 86) = w3 at *
      clear HO HB HS hI hf
      go_wp2_with fail
      have bF := Boxed.new w3 63 (.pointer (some ⟨f, 0, none⟩))
      have hs4 := hs3.out.below ((Below.refl _ _).alloc (Nat.le_refl _) (.cells #[.pointer (some ⟨f, 0, none⟩)] 63)) hz3
      have hb4 := hb3.out.alloc hb3.out.size (.cells #[.pointer (some ⟨f, 0, none⟩)] 63)
      have ho4 := ho3.out.alloc (.cells #[.pointer (some ⟨f, 0, none⟩)] 63)
      have hz4 := Lib.hid (show (w3.alloc (.cells #[.pointer (some ⟨f, 0, none⟩)] 63)).heap.size = w3.heap.size + 1 by simp)
      have hg4 := grown_below ((Below.refl w3.heap.size w3).alloc (Nat.le_refl _) (.cells #[.pointer (some ⟨f, 0, none⟩)] 63)) (some f)
      generalize w3.alloc (.cells #[.pointer (some ⟨f, 0, none⟩)] 63) = w4 at *
      refine (pieces_any _ _ _ _ _).mono ?_
      rintro e w5 ⟨rfl, rfl⟩
      go_wp2_with fail
      refine (wpIn_wide (n := 3)).1 ?_
      have bF5 := (bF.alloc (.cells #[.slice (some ⟨g1, 0, none⟩) N c1] 23)).alloc (.cells #[.int .i64 64] 3)
      have bB5 := (Boxed.new w4 23 (.slice (some ⟨g1, 0, none⟩) N c1)).alloc (.cells #[.int .i64 64] 3)
      have bR5 := Boxed.new (w4.alloc (.cells #[.slice (some ⟨g1, 0, none⟩) N c1] 23)) 3 (.int .i64 64)
      rw [World.size_alloc] at bR5
      have hb5 := ((Below.refl w4.heap.size w4).alloc (Nat.le_refl _) (.cells #[.slice (some ⟨g1, 0, none⟩) N c1] 23)).alloc (by simp) (.cells #[.int .i64 64] 3)
      have hs5 := hs4.below hb5 hs4.lt
      have hg5 := Lib.hid (grown_trans hg4 (grown_below hb5 (some f)))
      have hz5 := Lib.hid (show ((w4.alloc (.cells #[.slice (some ⟨g1, 0, none⟩) N c1] 23)).alloc (.cells #[.int .i64 64] 3)).heap.size = w4.heap.size + 2 by simp)
      generalize (w4.alloc (.cells #[.slice (some ⟨g1, 0, none⟩) N c1] 23)).alloc (.cells #[.int .i64 64] 3) = W0 at *
      obtain ⟨b0, hb0⟩ : ∃ b, b = w3.heap.size := ⟨_, rfl⟩
      obtain ⟨bb, hbb⟩ : ∃ b, b = w4.heap.size := ⟨_, rfl⟩
      rw [← hb0] at bF5 ⊢
      rw [← hbb] at bB5 bR5 ⊢
      have hord : Hid (b0 = w3.heap.size ∧ f < b0 ∧ bb = b0 + 1 ∧ W0.heap.size = b0 + 3 ∧ w.heap.size ≤ f) := ⟨hb0, by omega, by have := hz4.out; omega, by have := hz4.out; have := hz5.out; omega, hfw⟩
      have hrd := Lib.hid ho3.out.reads
      have hcm := hrd.out.max
      have hnc := hrd.out.le
      clear hb0 hbb hz5 hz4 hs4 hb5 hg4 bF
      refine wpIn_rangeR (F := Fence.wide) (R := fun k => k = bb ∨ k = bb + 1) rfl (show 1 ≤ 3 by decide) (gf := 64) (lb := #[.pointer (some ⟨bb, 0, none⟩), .pointer (some ⟨bb + 1, 0, none⟩)]) rfl trivial (enters_of Tryd.func64 (by kernel_rfl) rfl)
        (pieces_come (3 - 1) (by decide) (fun p => p.1 + p.2 ≤ N ∧ p.2 = 64) bb (bb + 1) g1 0 N c1 64 _ W0 bB5 bR5 (by omega) (fun _ => rfl) hnc hcm (by decide) (by decide) (fun j hj => by have := stP_le N 64 (j + 1); have := stP_64 hN2 j hj; simp only; omega)) (fun k hk => by have := hord.out; rcases hk with rfl | rfl <;> omega) (Below.refl _ _) (fun _ => rfl)
        (fun pre W => ShI w3 f bt b0 N T tail ws (restN m) (pre.map (·.1)) W)
        (fun _ _ _ => False)
        ?_ ?_ ⟨ws, bF5, hs5, fun _ => rfl, hg5.out, by have := hord.out; omega⟩ ?_ ?_ ?_ ?_ ?_
      rotate_left 3
      · intro lp x W K hK
        gi_wp2
        exact hK
      · rintro lp pre ⟨⟨s, l⟩, hC⟩ W ⟨wz, hbF, hst, hsem, hgr, hWz⟩
        obtain ⟨hC1, hC2⟩ : s + l ≤ N ∧ l = 64 := hC
        subst hC2
        have hrp0 := piece_reads (hrd.out.grownNe hgr (fun _ ad e h => hgf.out (by cases e; cases h; rfl))) (fun _ => rfl) s 64 hC1
        rw [Nat.zero_add] at hrp0
        have hrp := hrp0
        clear hrp0
        have hpb : ∀ x ∈ ((restN m).drop s).take 64, x < 256 := fun x hx => restN_lt HM0.out x (List.mem_of_mem_drop (List.mem_of_mem_take hx))
        have cF := hbF.cell
        have HSTz := Lib.hid hst
        have HRP := Lib.hid hrp
        have HPB := Lib.hid hpb
        have HSEM := Lib.hid hsem
        have HGR := Lib.hid hgr
        have HBF := Lib.hid hbF
        clear hst hrp hpb hsem hgr hbF
        gi_wp2_with fail
        refine ⟨trivial, ?_⟩
        refine (CallsIn.inRound lp (callsIn_wide.2 (turn_any f bt wz tail T _ _ _ W HSTz.out HRP.out HPB.out))).mono ?_
        rintro e w7 ⟨rfl, hst7, hg7⟩
        have HST7 := Lib.hid hst7
        have HG7 := Lib.hid hg7
        clear hst7 hg7
        gi_wp2_with fail
        have hg7 : W.grownBy w7 (some f) := ⟨HG7.out.os, HG7.out.tape, HG7.out.output, HG7.out.size, HG7.out.block⟩
        have hKO := keeps_state HSTz.out hg7
        refine ⟨hKO.from _, ?_, turnN wz (((restN m).drop s).take 64), HBF.out.kept hg7 (fun e => by have := hord.out; cases e; omega), HST7.out, ?_, grown_trans HGR.out hg7, Nat.le_trans hWz hg7.size⟩
        · exact KpR.grown hg7 (fun k hk => by have := hord.out; rcases hk with rfl | rfl <;> omega) (fun r e hk => by have := hord.out; cases e; rcases hk with h | h <;> omega)
        · intro he
          rw [List.map_append] at he ⊢
          obtain ⟨h1, h2⟩ := sem_split he
          have h3 := HSEM.out h1
          have h4 : s = stP N 64 (pre.map (·.1)).length := by have := congrArg Prod.fst h2; exact this
          have h5 := stP_64 hN2 (pre.map (·.1)).length (by rw [← h4]; omega)
          have e1 : ((pre.map (·.1)) ++ [((s, 64) : Nat × Nat)]).length = (pre.map (·.1)).length + 1 := by simp
          show turnN wz _ = foldW ws (restN m) ((pre.map (·.1)) ++ [((s, 64) : Nat × Nat)]).length
          rw [e1]
          show turnN wz _ = turnN (foldW ws (restN m) (pre.map (·.1)).length) (((restN m).drop (64 * (pre.map (·.1)).length)).take 64)
          rw [h3, h4, h5.1]
      · rintro D xs W hD ⟨mm, hmap, hst9⟩ ⟨wz, hbF, hst, hsem, hgr, hWz⟩ hK
        have hwz := hsem (by rw [hmap, pcs_len])
        rw [hmap, pcs_len] at hwz
        have hmm : mm = N / 64 := stP_end hN2 mm hst9 (fun i hi => by
          have h1 : (stP N 64 i, stP N 64 (i + 1) - stP N 64 i) ∈ xs.map (·.1) := by
            rw [hmap]
            exact List.mem_map.2 ⟨i, List.mem_range.2 hi, rfl⟩
          obtain ⟨x, -, hx⟩ := List.mem_map.1 h1
          have h2 := x.2.2
          rw [hx] at h2
          have h3 := stP_le N 64 (i + 1)
          simp only at h2
          omega)
        rw [hmm, HN.out] at hwz
        have hwz2 : wz = sumW bt m := by
          rw [hwz]
          unfold sumW
          rw [HF.out.1]
        subst hwz2
        have HGR := Lib.hid hgr
        have HST9 := Lib.hid hst
        have cF := hbF.cell
        have HBF := Lib.hid hbF
        have HK := Lib.hid hK
        have HD := Lib.hid hD
        clear hsem hgr hst hbF hK hmap hwz hst9 hmm
        have hfW := HST9.out.lt
        have hbW := hord.out
        have HBW := Lib.hid (hb3.out.grown HGR.out hb3.out.size (fun r e => by cases e; exact hbW.2.2.2.2))
        have hDW := Lib.hid (Array.getElem?_eq_some_iff.1 HK.out).1
        clear hbW
        go_wp2_with (at_make; refine wpList_make_room .u8 _ rfl _ _ 23 rfl W.heap.size 5 i0 Tryd.underlying23 hi hz0 hz1 _ _ _ _ 0 32 rfl rfl rfl rfl (by decide) (by rw [hz2]; decide) (by unfold maxLen; omega) (Nat.le_refl _) ?_; intro w8 hown8 hgrow8; have HO8 := Lib.hid hown8; have HG8 := Lib.hid hgrow8; have cF8 := (HBF.out.kept hgrow8 (fun e => by cases e)).cell; have hst8 := HST9.out.block (hgrow8.block f hfW (fun e => by cases e)); have HST8 := Lib.hid hst8; have c0 := hst8.word 0 (by decide); have c1' := hst8.word 1 (by decide); have c2 := hst8.word 2 (by decide); have c3 := hst8.word 3 (by decide); have c4 := hst8.word 4 (by decide); have c5 := hst8.word 5 (by decide); have c6 := hst8.word 6 (by decide); have c7 := hst8.word 7 (by decide); simp only [Nat.reduceAdd] at c0 c1' c2 c3 c4 c5 c6 c7; clear hown8 hgrow8 hst8 cF)
        rw [arrC_eight (sumW bt m) HST8.out.wlen]
        have hzl := Lib.hid HST8.out.wlen
        have hzb := Lib.hid HST8.out.wlt
        obtain ⟨z, hz⟩ : ∃ z, z = sumW bt m := ⟨_, rfl⟩
        rw [← hz] at hzl hzb ⊢
        have HZ := Lib.hid hz
        clear hz c0 c1' c2 c3 c4 c5 c6 c7
        have HB8 := Lib.hid ((Below.refl W.heap.size W).grown HG8.out (Nat.le_refl _) (fun r e => by cases e))
        go_loopw [66, 9] (fun iv sv wq => ∃ j : Nat, iv = .int .i64 (j : Int) ∧ j ≤ 8 ∧ Hid (OwnQ .u8 5 W.heap.size wq sv (bytesW z j) ∧ Below W.heap.size W wq)) (fun iv _ _ => 8 - (intOf iv).toNat)
        case atStart => exact ⟨0, rfl, by decide, HO8.out, HB8.out⟩
        case round =>
          obtain ⟨j, rfl, hj, hI⟩ := hrel
          obtain ⟨ho, hb⟩ := hI.out
          have HO := Lib.hid ho
          have HB := Lib.hid hb
          clear ho hb hI
          by_cases hlt : j < 8
          · have ix := idx8 z j hlt hzl.out
            have lx : g0 z j < 4294967296 := g0_lt hzb.out (by decide) j
            have hbl := bytesW_len z j
            have HBL := Lib.hid hbl
            clear hbl
            have hbs := Lib.hid (bytesW_succ z j)
            unfold g0 at lx hbs
            generalize z[j]?.getD 0 = x at *
            go_wp2_with (at_builtin; refine wpList_append_q .u8 _ rfl _ _ 23 rfl W.heap.size 5 1 i0 Tryd.underlying23 hi hz0 hz1 hz2 (by decide) _ (bytesW z j) rfl (HO.out.alloc _) _ _ _ (wordB x) rfl (reads_four .u8 _ _ _ _ _ _ _ _ _ _ (by omega) (by omega) (by omega) (by omega)) (by have := HBL.out; omega) (by have := HB.out.size; simp; omega) ?_; intro v' w9 hown9 hgrow9)
            go_roundw
            case rel => exact ⟨j + 1, by go_num, by omega, by rw [hbs.out]; exact hown9, hgrow9 _ (HB.out.alloc HB.out.size _)⟩
            case measure => simp [intOf] <;> omega
          · obtain rfl : j = 8 := by omega
            have hBw := HBW.out.trans (HB.out.mono HBW.out.size)
            have cB := (HST.out.below hBw hgw.out).bits
            obtain ⟨h1, cc, hv⟩ := HO.out.succ (by intro e; have := bytesW_len z 8; rw [e] at this; simp at this)
            rw [bytesW_len] at hv
            subst hv
            obtain ⟨-, hcap, hcm8⟩ := HO.out.cap
            unfold maxLen at hcm8
            obtain ⟨q, hq⟩ : ∃ q, q = bt / 8 := ⟨_, rfl⟩
            have hq1 : Int.tdiv (bt : Int) 8 = (q : Int) := by
              rw [Int.tdiv_eq_ediv_of_nonneg (by omega)]
              omega
            have hq2 : q ≤ 32 ∧ 1 ≤ q := by have := HBT.out; omega
            have HQ := Lib.hid hq
            clear hq
            go_wp2
            have hKr := (HB.out.block D hDW.out).trans HK.out
            refine ⟨by simp, .inl ⟨_, _, rfl, run_takeDeferred hKr, ?_⟩⟩
            have hgr := grownBy_putObj' wr D (.deferred none)
            have hh1 := HO.out.lt h1 rfl
            have hrd1 := HO.out.reads.upto q (by omega)
            have hrd2 : Reads .u8 wr (some ⟨h1, 0, none⟩) q q ((bytesW z 8).take q) := ⟨hrd1.length, Nat.le_refl _, by unfold maxLen; omega, (fun e => by cases e), hrd1.cells⟩
            have hrd3 := hrd2.grownNe hgr (fun _ ad e h => by have h' : h1 = D := (by cases e; exact Option.some.inj h); have := hDW.out; have := hh1.1; omega)
            have hor := hord.out
            have hDD := HD.out
            have hne : h1 ≠ D := by have := hDW.out; have := hh1.1; omega
            have hoq := ((HO.out.upto q (by omega)).block (hgr.block h1 hh1.2 (fun h => hne (Option.some.inj h)))).mono HBW.out.size
            refine ⟨_, results_tmp HRES.out _ _ _, ⟨h1, cc, by rw [← HQ.out]; rfl, ?_⟩, hBw.grown hgr hBw.size (fun r e => by cases e; omega)⟩
            rw [← HQ.out]
            unfold hashN
            rw [← HZ.out, ← HQ.out]
            exact hoq
      · rintro D cc pre W hD hSp h
        exact h.elim
      · exact fun s X X' row h hg hr => h.stays hg (fun r e => by
          have h2 := hord.out
          rcases hr r e with h3 | ⟨h3, -⟩
          · rcases h3 with rfl | rfl <;> omega
          · omega)
      · exact fun cc s X X' row h hg hr => h

end Go.Proofs.YtmfjhgjplmpecaaDoor

namespace Go.Proofs.YtmfjhgjplmpecaaDoor
open Go.RowKit Go.Shelf

set_option maxRecDepth 100000 in
theorem ref_no (b : Int) (h : b ≠ 224 ∧ b ≠ 256) (a : Option Addr) (n c : Nat) (w : World) : Calls Tryd.prog 27 #[.int .i64 b, .slice a n c] w fun e w' => e = .returned (.tuple #[.slice none 0 0, .int .i64 2]) ∧ w = w' := by
  have t1 : (b != 224) = true := by simp; exact h.1
  have t2 : (b != 256) = true := by simp; exact h.2
  clear h
  go_enter Tryd.func27, Tryd.ntmps27
  go_wp2
  go_ret2
  exact ⟨rfl, rfl⟩
theorem ref_hash (bt : Nat) (hbt : bt = 224 ∨ bt = 256) (a : Option Addr) (n c : Nat) (bl : List Nat) (w : World) (hr : Reads .u8 w a n c bl) (hb : ∀ x ∈ bl, x < 256) (hn : n ≤ 9000) :
    Calls Tryd.prog 27 #[.int .i64 (bt : Int), .slice a n c] w fun e w' => (∃ v, e = .returned (.tuple #[v, .int .i64 0]) ∧ OwnQ .u8 5 w.heap.size w' v (hashN bt bl)) ∧ Below w.heap.size w w' := by
  rcases hbt with rfl | rfl
  · exact ref_of224 a n c bl w hr hb hn
  · exact ref_of256 a n c bl w hr hb hn
/-- Rows that came in. -/
structure RowsIn (w : World) (a : Option Addr) (n cap : Nat) (R : Nat → Option Addr × Nat × Nat × List Nat) : Prop where
  le : n ≤ cap
  max : cap ≤ maxLen
  each : ∀ i, i < n → Reads .u8 w (R i).1 (R i).2.1 (R i).2.2.1 (R i).2.2.2 ∧ Byt (R i).2.2.2 ∧ (R i).2.1 ≤ 1048576
  cells : 0 < n → ∃ b off, a = some ⟨b, off, none⟩ ∧ b < w.heap.size ∧ ∀ i, i < n → w.cell? ⟨b, off + i, none⟩ = some (.slice (R i).1 (R i).2.1 (R i).2.2.1)
theorem OwnQ.keptG {q : IntKind} {E : TypeId} {B g n c : Nat} {w w' : World} {oa : Option Addr} {l : List Nat} (h : OwnQ q E B w (.slice oa n c) l) (hg : w.grownBy w' (some g)) (hne : ∀ x, oa = some x → x.block ≠ g) : OwnQ q E B w' (.slice oa n c) l := by
  obtain ⟨h1, h2⟩ := h
  refine ⟨h1, ?_⟩
  rcases h2 with h2 | ⟨g', cap', cur, e, hB, hh, r⟩
  · exact .inl h2
  · cases e
    exact .inr ⟨g', c, cur, rfl, hB, (hg.block g' (Array.getElem?_eq_some_iff.1 hh).1 (fun hc => hne _ rfl (Option.some.inj hc))).trans hh, r⟩
def flatN (R : Nat → Option Addr × Nat × Nat × List Nat) : Nat → List Nat
  | 0 => []
  | i + 1 => flatN R i ++ (R i).2.2.2
theorem flatN_byt {w : World} {a : Option Addr} {n cap : Nat} {R : Nat → Option Addr × Nat × Nat × List Nat} (h : RowsIn w a n cap R) : ∀ i, i ≤ n → Byt (flatN R i)
  | 0, _ => fun x hx => by cases hx
  | i + 1, hi => fun x hx => by
    rcases List.mem_append.1 hx with hx | hx
    · exact flatN_byt h i (by omega) x hx
    · exact (h.each i (by omega)).2.1 x hx
theorem flatN_le (R : Nat → Option Addr × Nat × Nat × List Nat) {i n : Nat} (h : i ≤ n) : ∃ t, flatN R n = flatN R i ++ t := by
  induction n with
  | zero => exact ⟨[], by rw [show i = 0 by omega, List.append_nil]⟩
  | succ n ih =>
    rcases Nat.lt_or_ge n i with hlt | hge
    · exact ⟨[], by rw [show i = n + 1 by omega, List.append_nil]⟩
    · obtain ⟨t, ht⟩ := ih hge
      exact ⟨t ++ (R n).2.2.2, by rw [flatN, ht, List.append_assoc]⟩

end Go.Proofs.YtmfjhgjplmpecaaDoor

namespace Go.Proofs.YtmfjhgjplmpecaaDoor.L5

/-- Numbers compared by computation. -/
def eqM : List Nat → List Nat → Bool
  | [], [] => true
  | x :: l, y :: m => Nat.beq x y && eqM l m
  | _, _ => false
theorem eq_of_eqM : ∀ {l m : List Nat}, eqM l m = true → l = m
  | [], [], _ => rfl
  | [], _ :: _, h => by cases h
  | _ :: _, [], h => by cases h
  | x :: l, y :: m, h => by
    simp only [eqM, Bool.and_eq_true] at h
    rw [Nat.eq_of_beq_eq_true h.1, eq_of_eqM h.2]

/-- Rotated right by halves. -/
def halfs (x : Nat) : Nat → Nat
  | 0 => x
  | n + 1 => halfs x n / 2 + halfs x n % 2 * 9223372036854775808
theorem halfs_eq (x : Nat) (hx : x < 18446744073709551616) : ∀ n, n ≤ 63 → halfs x n = x % 2 ^ n * 2 ^ (64 - n) + x / 2 ^ n
  | 0, _ => by simp [halfs, Nat.mod_one]
  | n + 1, h => by
    have ih := halfs_eq x hx n (by omega)
    have e1 : 64 - n = (63 - n) + 1 := by omega
    have e2 : 64 - (n + 1) = 63 - n := by omega
    rw [halfs, ih, e1, e2]
    obtain ⟨q, hq⟩ : ∃ q, q = x / 2 ^ n := ⟨_, rfl⟩
    obtain ⟨m, hm⟩ : ∃ m, m = x % 2 ^ n := ⟨_, rfl⟩
    have hd : x / 2 ^ (n + 1) = q / 2 := by rw [hq, Nat.pow_succ, Nat.div_div_eq_div_mul]
    have hmod : x % 2 ^ (n + 1) = m + 2 ^ n * (q % 2) := by rw [hm, hq, Nat.pow_succ, Nat.mod_mul]
    rw [hd, hmod, ← hq, ← hm]
    have hp : 2 ^ n * 2 ^ (63 - n) = 9223372036854775808 := by rw [← Nat.pow_add, show n + (63 - n) = 63 by omega]
    obtain ⟨t, ht⟩ : ∃ t, t = m * 2 ^ (63 - n) := ⟨_, rfl⟩
    have e3 : m * 2 ^ (63 - n + 1) = 2 * t := by rw [ht, Nat.pow_succ, ← Nat.mul_assoc, Nat.mul_comm]
    have e4 : (m + 2 ^ n * (q % 2)) * 2 ^ (63 - n) = t + 9223372036854775808 * (q % 2) := by
      rw [Nat.add_mul, ← ht, Nat.mul_right_comm, hp]
    rw [e3, e4]
    omega
theorem halfs_rot (x a : Nat) (hx : x < 18446744073709551616) (ha : a ≤ 63) : halfs x a = (x * 2 ^ (64 - a) % 18446744073709551616 ||| x / 2 ^ a) := by
  rw [halfs_eq x hx a ha]
  have hp : (18446744073709551616 : Nat) = 2 ^ a * 2 ^ (64 - a) := by rw [← Nat.pow_add, show a + (64 - a) = 64 by omega]
  have e1 : x * 2 ^ (64 - a) % 18446744073709551616 = x % 2 ^ a * 2 ^ (64 - a) := by rw [hp, Nat.mul_mod_mul_right]
  have hlt : x / 2 ^ a < 2 ^ (64 - a) := by
    rw [Nat.div_lt_iff_lt_mul (Nat.two_pow_pos a), Nat.mul_comm, ← hp]
    exact hx
  rw [e1, Nat.mul_comm, ← Nat.two_pow_add_eq_or_of_lt hlt]
/-- 'or' where the program has 'xor'. -/
theorem ch_eq (e f g : Nat) (he : e < 18446744073709551616) : ((e &&& f) ||| ((18446744073709551615 - e) &&& g)) = ((e &&& f) ^^^ ((18446744073709551615 - e) &&& g)) := by
  apply Nat.eq_of_testBit_eq
  intro i
  have h : (18446744073709551615 - e).testBit i = (decide (i < 64) && !e.testBit i) := by
    have := Nat.testBit_two_pow_sub_succ (n := 64) (x := e) he i
    simpa using this
  simp only [Nat.testBit_or, Nat.testBit_xor, Nat.testBit_and, h]
  cases e.testBit i <;> cases f.testBit i <;> cases g.testBit i <;> cases decide (i < 64) <;> rfl
theorem maj_eq (a b c : Nat) : ((a &&& b) ||| (a &&& c) ||| (b &&& c)) = ((a &&& b) ^^^ (a &&& c) ^^^ (b &&& c)) := by
  apply Nat.eq_of_testBit_eq
  intro i
  simp only [Nat.testBit_or, Nat.testBit_xor, Nat.testBit_and]
  cases a.testBit i <;> cases b.testBit i <;> cases c.testBit i <;> rfl

end Go.Proofs.YtmfjhgjplmpecaaDoor.L5

namespace Go.Proofs.YtmfjhgjplmpecaaDoor.L5
open Go.RowKit Go.Shelf
set_option maxRecDepth 100000

/-- A state that nobody made. -/
def Unmade (w : World) (v : Value) : Prop := v = .pointer none ∨ ∃ z, v = .pointer (some ⟨z, 0, none⟩) ∧ w.cell? ⟨z, 0, none⟩ = some (.int .i64 0) ∧ z < w.heap.size
theorem Unmade.below {w w' : World} {v : Value} (h : Unmade w v) (hb : Below w.heap.size w w') : Unmade w' v := by
  rcases h with h | ⟨z, h, h1, h2⟩
  · exact .inl h
  · exact .inr ⟨z, h, (World.cell?_of_block (hb.block z h2)).trans h1, Nat.lt_of_lt_of_le h2 hb.size⟩
theorem made_no (v : Value) (w : World) (h : Unmade w v) : Calls Tryd.prog 55 #[v] w fun e w' => e = .returned (.bool false) ∧ w = w' := by
  rcases h with rfl | ⟨z, rfl, h0, -⟩
  · go_enter Tryd.func55, Tryd.ntmps55
    go_wp2
    go_ret
    exact ⟨rfl, rfl⟩
  · go_enter Tryd.func55, Tryd.ntmps55
    go_wp2
    go_ret
    exact ⟨rfl, rfl⟩
theorem copy_no (v : Value) (w : World) (h : Unmade w v) : Calls Tryd.prog 57 #[v] w fun e w' => e = .returned (.pointer none) ∧ w = w' := by
  go_enter Tryd.func57, Tryd.ntmps57
  go_wp2_with fail
  refine (made_no v w h).mono ?_
  rintro e w1 ⟨rfl, rfl⟩
  go_wp2
  go_ret
  exact ⟨rfl, rfl⟩
theorem sum_no (v : Value) (w : World) (h : Unmade w v) : Calls Tryd.prog 36 #[v] w fun e w' => e = .returned (.slice none 0 0) ∧ w = w' := by
  go_enter Tryd.func36, Tryd.ntmps36
  go_wp2_with fail
  refine (made_no v w h).mono ?_
  rintro e w1 ⟨rfl, rfl⟩
  go_wp2
  go_ret
  exact ⟨rfl, rfl⟩
theorem write_no (v : Value) (a : Option Addr) (n c : Nat) (w : World) (h : Unmade w v) : Calls Tryd.prog 35 #[v, .slice a n c] w fun e w' => e = .returned (.tuple #[]) ∧ w = w' := by
  have h0 : Tryd.f35.results = #[] := by kernel_rfl
  go_enter Tryd.func35, Tryd.ntmps35
  go_wp2_with fail
  refine (made_no v w h).mono ?_
  rintro e w1 ⟨rfl, rfl⟩
  go_wp2
  refine bodyPost_ret (v := .tuple #[]) (by simp [results, h0]) rfl ?_
  exact ⟨rfl, rfl⟩
end Go.Proofs.YtmfjhgjplmpecaaDoor.L5

namespace Go.Proofs.YtmfjhgjplmpecaaDoor.L5
open Go.RowKit Go.Shelf

abbrev Byt (l : List Nat) : Prop := ∀ x ∈ l, x < 256
theorem take_snoc8 (l : List UInt8) (k : Nat) (hk : k < l.length) : l.take (k + 1) = l.take k ++ [l[k]?.getD 0] := by
  rw [List.take_add_one, List.getElem?_eq_getElem hk]; rfl
theorem convB {w : World} {a : Option Addr} {len cap : Nat} {l : List UInt8} (h : Bts w a len cap l) :
    (convert 23 9 (.slice a len cap)).run Tryd.prog w = .ok (.string (strOf l)) w :=
  h.convert (P := Tryd.prog) _ _ _ Tryd.underlying23 Tryd.underlying5 Tryd.underlying9

/-- Numbers as bytes. -/
def u8s (l : List Nat) : List UInt8 := l.map UInt8.ofNat
theorem u8s_get (l : List Nat) (h : Byt l) (i : Nat) : ((u8s l)[i]?.getD 0).toNat = l[i]?.getD 0 := by
  by_cases hi : i < l.length
  · have := h _ (List.getElem_mem hi)
    simp [u8s, hi, UInt8.toNat_ofNat']
    omega
  · simp [u8s, List.getElem?_eq_none (show l.length ≤ i by omega)]
theorem u8s_inj {l m : List Nat} (h : Byt l) (k : Byt m) (e : u8s l = u8s m) : l = m := by
  apply List.ext_getElem
  · have := congrArg List.length e; simpa [u8s] using this
  · intro i h1 h2
    have e1 := u8s_get l h i
    have e2 := u8s_get m k i
    rw [e] at e1
    rw [e1] at e2
    rwa [List.getElem?_eq_getElem h1, List.getElem?_eq_getElem h2] at e2

theorem _root_.Go.Proofs.YtmfjhgjplmpecaaDoor.Reads.bts5 {w : World} {a : Option Addr} {n c : Nat} {l : List Nat} (h : Reads .u8 w a n c l) (hB : Byt l) : Bts w a n c (u8s l) :=
  ⟨by rw [u8s, List.length_map, h.length], h.le, h.max, h.nil, fun hp => by
    obtain ⟨b, off, rfl, hb, hc⟩ := h.cells hp
    exact ⟨b, off, rfl, hb, fun i hi => by rw [hc i hi, u8s_get l hB]⟩⟩

def signN (n : Nat) : Nat := if n < 10 then 48 + n else 87 + n
def signC (n : Nat) : UInt8 := UInt8.ofNat (signN n)

theorem signC_toNat (n : Nat) (h : n < 16) : (signC n).toNat = signN n := by
  simp only [signC, UInt8.toNat_ofNat', signN]
  split <;> omega

/-- Bytes' text. -/
def hexL (l : List UInt8) : List UInt8 := l.flatMap fun c => [signC (c.toNat / 16), signC (c.toNat % 16)]

theorem hexL_step (l : List UInt8) (k : Nat) (hk : k < l.length) : hexL (l.take (k + 1)) = hexL (l.take k) ++ [signC ((l[k]?.getD 0).toNat / 16), signC ((l[k]?.getD 0).toNat % 16)] := by
  rw [take_snoc8 l k hk, hexL, List.flatMap_append]
  rfl

theorem hexL_length (l : List UInt8) : (hexL l).length = 2 * l.length := by
  induction l with
  | nil => rfl
  | cons c l ih => simp only [hexL, List.flatMap_cons, List.length_append, List.length_cons, List.length_nil] at *; omega

/-- 'append(s, x...)' as a step of a drawn region; x is not nil. -/
theorem Own8.drew {E : TypeId} {B : Nat} {w : World} {v : Value} {l : List UInt8} (h : Own8 E B w v l) : Own8 E B w.drew v l := World.ownsRow.drew h

theorem step_append_bts {P : Program} (w : World) {o : Oper} {a : Act} {K : Act → World → Prop} {Q : Exit → Act → World → Prop} (s x : Operand) (t : TypeId)
    (ho : o.op = .call { callee := .builtin .append, args := #[s, x], argTypes := #[t, t] })
    (B E : Nat) (i : TypeInfo) (ht : P.underlying t = some (.slice E)) (hi : P.info? E = some i) (hz : i.zero = some (.int .u8 0)) (hsize : i.size = 1) (hby : i.bytes = 1)
    (v : Value) (l : List UInt8) (hs : a.eval s = v) (hown : Own8 E B w v l) (ad : Addr) (m c : Nat) (l2 : List UInt8) (hx : a.eval x = .slice (some ad) m c) (hb : Bts w (some ad) m c l2)
    (hsum : l.length + m ≤ 140737488355328) (hbase : B ≤ w.heap.size)
    (h : ∀ v' w', Own8 E B w' v' (l ++ l2) → (∀ w0, Below B w0 w → Below B w0 w') → K (a.put o.dst v') w') : o.wp P a w K Q := by
  have hlen := hb.length
  refine wp_append_own w s x t ho B E i (.int .u8 0) 1 1 ht hi hz hsize hby rfl (by decide) v l.length (l.map byt) hs hown ad m c (l2.map byt) hx (by simpa using hlen) hb.news (byts_oneCell _) (by unfold maxLen; omega) (by omega) hbase ?_
  intro v' w' ho' hg _
  refine h v' w' ?_ (fun w0 h0 => h0.grown hg hbase (fun k hk => (hown.lt k hk).1))
  unfold Own8
  rw [List.map_append, List.length_append, hlen]
  exact ho'

theorem Bts.two (w : World) (E : TypeId) (n m : Int) (c d : UInt8) (hn : n = (c.toNat : Int)) (hm : m = (d.toNat : Int)) : Bts (w.alloc (.cells #[.int .u8 n, .int .u8 m] E)) (some ⟨w.heap.size, 0, .none⟩) 2 2 [c, d] := by
  subst hn hm
  refine ⟨rfl, Nat.le_refl _, by unfold maxLen; omega, (fun h => by cases h), fun _ => ⟨w.heap.size, 0, rfl, by simp, fun i hi => ?_⟩⟩
  rw [World.cell?_alloc_at _ _ _ _ (by simp)]
  match i, hi with
  | 0, _ => rfl
  | 1, _ => rfl

theorem dig_get (i : Int) (n : Nat) (hi : i = (n : Int)) (hn : n < 16) (h : i.toNat < (⟨#[48, 49, 50, 51, 52, 53, 54, 55, 56, 57, 97, 98, 99, 100, 101, 102]⟩ : ByteArray).size) : ((⟨#[48, 49, 50, 51, 52, 53, 54, 55, 56, 57, 97, 98, 99, 100, 101, 102]⟩ : ByteArray)[i.toNat]'h).toNat = signN n := by
  subst hi
  have : ∀ n < 16, ∀ h, ((⟨#[48, 49, 50, 51, 52, 53, 54, 55, 56, 57, 97, 98, 99, 100, 101, 102]⟩ : ByteArray)[n]'h).toNat = signN n := by decide
  exact this n hn _

theorem and15 (x : Nat) (hx : x < 256) : bits BinOp.and IntKind.u8 (x : Int) 15 = (x : Int) % 16 := by
  rw [show (15 : Int) = ((15 : Nat) : Int) from rfl, u8_and_nat _ _ hx (by omega), show (15 : Nat) = 2 ^ 4 - 1 from rfl, Nat.and_two_pow_sub_one_eq_mod]
  rfl

set_option maxHeartbeats 800000 in
theorem hex_any (a : Option Addr) (len cap : Nat) (l : List UInt8) (w : World) (h : Bts w a len cap l) (hm : len ≤ 70368744177) :
    Calls Tryd.prog 23 #[.slice a len cap] w fun e w' => e = .returned (.string (strOf (hexL l))) ∧ Below w.heap.size w w' := by
  obtain ⟨i0, hi, hz0, hz1, hz2⟩ := info_parts infoB
  have H := Lib.hid h
  have L := Lib.hid h.length
  clear h
  go_enter Tryd.func23, Tryd.ntmps23
  go_wp2_with (at_make; refine wpList_make_own _ rfl _ _ 23 rfl w.heap.size 5 i0 (.int .u8 0) 1 Tryd.underlying23 hi hz0 hz1 _ _ _ (2 * len) rfl rfl (by simp) (by rw [hz2]; omega) (by unfold maxLen; omega) (Nat.le_refl _) ?_; intro w1 hown0 hgrow0)
  have hb0 : Below w.heap.size w w1 := (Below.refl _ _).grown hgrow0 (Nat.le_refl _) (fun _ h => by cases h)
  have HO := Lib.hid hown0
  clear hown0 hgrow0
  go_loopw [3, 12] (fun v i wr => ∃ k : Nat, k ≤ len ∧ i = .int .i64 k ∧ Own8 5 w.heap.size wr v (hexL (l.take k)) ∧ Below w.heap.size w wr) (fun _ i _ => len - (intOf i).toNat)
  case atStart => exact ⟨0, Nat.zero_le _, rfl, HO.out, hb0⟩
  case round =>
    obtain ⟨k, hk, rfl, hown, hb⟩ := hrel
    have hsz := hb.size
    by_cases hlt : k < len
    · obtain ⟨b, off, rfl, hbl, hc⟩ := (H.out.below hb).cells (by omega)
      have hck := hc k hlt
      have hst := Lib.hid (hexL_step l k (by rw [L.out]; exact hlt))
      have hx8 := UInt8.toNat_lt (l[k]?.getD 0)
      clear hc
      generalize (l[k]?.getD 0).toNat = x at *
      go_wp2
      have hbit := and15 x hx8
      refine wp_region_held_drew (S := fun _ => True) (by kernel_rfl) trivial (fun hHeld => ?_)
      refine' wpAnyH_take (i := 0) (oi := _) (v := _) rfl (by kernel_rfl) (by kernel_rfl) (by kernel_rfl) (fun _ _ _ h => h) (Or.inl ⟨?_, ?_⟩) (by assumption) ?_
      rotate_left
      all_goals (try simp only [List.getElem_toArray, List.getElem_cons_succ, List.getElem_cons_zero])
      · rfl
      · intro W hSw; (try dsimp only at hSw); go_simp; (try with_reducible rfl)
      try simp only [Act.put, List.setIfInBounds_toArray, List.set_cons_zero, List.set_cons_succ]
      refine' wpAnyH_take (i := 1) (oi := _) (v := _) rfl (by kernel_rfl) (by kernel_rfl) (by kernel_rfl) (fun _ _ _ h => h) (Or.inl ⟨?_, ?_⟩) (by assumption) ?_
      rotate_left
      all_goals (try simp only [List.getElem_toArray, List.getElem_cons_succ, List.getElem_cons_zero])
      · rfl
      · intro W hSw; (try dsimp only at hSw); go_simp; (try with_reducible rfl)
      try simp only [Act.put, List.setIfInBounds_toArray, List.set_cons_zero, List.set_cons_succ]
      refine' wpAnyH_take (i := 2) (oi := _) (v := _) rfl (by kernel_rfl) (by kernel_rfl) (by kernel_rfl) (fun _ _ _ h => h) (Or.inl ⟨?_, ?_⟩) (by assumption) ?_
      rotate_left
      all_goals (try simp only [List.getElem_toArray, List.getElem_cons_succ, List.getElem_cons_zero])
      · rfl
      · intro W hSw; (try dsimp only at hSw); go_simp; (try with_reducible rfl)
      try simp only [Act.put, List.setIfInBounds_toArray, List.set_cons_zero, List.set_cons_succ]
      refine' wpAnyH_take (i := 3) (oi := _) (v := (.int .u8 (signN (x / 16) : Nat))) rfl (by kernel_rfl) (by kernel_rfl) (by kernel_rfl) (fun _ _ _ h => h) (Or.inl ⟨?_, ?_⟩) (by assumption) ?_
      all_goals (try simp only [List.getElem_toArray, List.getElem_cons_succ, List.getElem_cons_zero])
      · rfl
      · intro W hSw; (try dsimp only at hSw); go_simp; (first | rw [dif_pos (by omega)] | skip); simp only [Result.andThen]; exact congrArg (fun z : Nat => Result.ok (Next.value (.int .u8 (z : Int))) W) (dig_get _ (x / 16) (by omega) (by omega) _)
      try simp only [Act.put, List.setIfInBounds_toArray, List.set_cons_zero, List.set_cons_succ]
      refine' wpAnyH_take (i := 4) (oi := _) (v := _) rfl (by kernel_rfl) (by kernel_rfl) (by kernel_rfl) (fun _ _ _ h => h) (Or.inl ⟨?_, ?_⟩) (by assumption) ?_
      rotate_left
      all_goals (try simp only [List.getElem_toArray, List.getElem_cons_succ, List.getElem_cons_zero])
      · rfl
      · intro W hSw; (try dsimp only at hSw); go_simp; (try with_reducible rfl)
      try simp only [Act.put, List.setIfInBounds_toArray, List.set_cons_zero, List.set_cons_succ]
      refine' wpAnyH_take (i := 5) (oi := _) (v := _) rfl (by kernel_rfl) (by kernel_rfl) (by kernel_rfl) (fun _ _ _ h => h) (Or.inl ⟨?_, ?_⟩) (by assumption) ?_
      rotate_left
      all_goals (try simp only [List.getElem_toArray, List.getElem_cons_succ, List.getElem_cons_zero])
      · rfl
      · intro W hSw; (try dsimp only at hSw); go_simp; (try with_reducible rfl)
      try simp only [Act.put, List.setIfInBounds_toArray, List.set_cons_zero, List.set_cons_succ]
      refine' wpAnyH_take (i := 6) (oi := _) (v := (.int .u8 (signN (x % 16) : Nat))) rfl (by kernel_rfl) (by kernel_rfl) (by kernel_rfl) (fun _ _ _ h => h) (Or.inl ⟨?_, ?_⟩) (by assumption) ?_
      all_goals (try simp only [List.getElem_toArray, List.getElem_cons_succ, List.getElem_cons_zero])
      · rfl
      · intro W hSw; (try dsimp only at hSw); go_simp; (first | rw [dif_pos (by omega)] | skip); simp only [Result.andThen]; exact congrArg (fun z : Nat => Result.ok (Next.value (.int .u8 (z : Int))) W) (dig_get _ (x % 16) (by omega) (by omega) _)
      try simp only [Act.put, List.setIfInBounds_toArray, List.set_cons_zero, List.set_cons_succ]
      refine wpAnyH_ready (rs := [7]) (by kernel_rfl) (by simp) ?_
      refine AllReadyH.cons (o := _) rfl (fun K hK => ?_) AllReadyH.nil
      try simp only [List.getElem_toArray, List.getElem_cons_succ, List.getElem_cons_zero]
      go_simp
      refine hK.out _ _ trivial (fun hHeld => ?_)
      clear hK K
      try simp only [Act.put, List.setIfInBounds_toArray, List.set_cons_zero, List.set_cons_succ]
      refine wpAnyH_ready (rs := [8]) (by kernel_rfl) (by simp) ?_
      refine AllReadyH.cons (o := _) rfl (fun K hK => ?_) AllReadyH.nil
      try simp only [List.getElem_toArray, List.getElem_cons_succ, List.getElem_cons_zero]
      rw [if_pos (by rfl)]
      refine step_append_bts _ (.tmp 16) (.tmp 23) 23 rfl w.heap.size 5 i0 Tryd.underlying23 hi hz0 hz1 hz2 _ (hexL (l.take k)) rfl (hown.alloc _).drew _ _ _ [signC (x / 16), signC (x % 16)] rfl ((Bts.two wr 5 _ _ (signC (x / 16)) (signC (x % 16)) (by rw [signC_toNat _ (by omega)]) (by rw [signC_toNat _ (by omega)])).below (Below.refl _ _).drew) (by rw [hexL_length, List.length_take]; simp; omega) (by simp; omega) ?_; intro v' w2 hown2 hgrow; have hb2 := hgrow _ (hb.alloc (by omega) _).drew
      refine hK.out _ _ trivial (fun hHeld => ?_)
      clear hK K
      try simp only [Act.put, List.setIfInBounds_toArray, List.set_cons_zero, List.set_cons_succ]
      refine' wpAnyH_take (i := 9) (oi := _) (v := _) rfl (by kernel_rfl) (by kernel_rfl) (by kernel_rfl) (fun _ _ _ h => h) (Or.inl ⟨?_, ?_⟩) (by assumption) ?_
      rotate_left
      all_goals (try simp only [List.getElem_toArray, List.getElem_cons_succ, List.getElem_cons_zero])
      · rfl
      · intro W hSw; (try dsimp only at hSw); go_simp; (try with_reducible rfl)
      try simp only [Act.put, List.setIfInBounds_toArray, List.set_cons_zero, List.set_cons_succ]
      refine wpAnyH_done (by kernel_rfl) ?_ _
      go_wp2_with fail
      go_roundw
      case rel => exact ⟨k + 1, by omega, by go_num, by rw [hst.out]; exact hown2, hb2⟩
      case measure => simp [intOf] <;> omega
    · obtain rfl : k = len := by omega
      rw [List.take_of_length_le (by rw [L.out]; omega)] at hown
      obtain ⟨a1, c1, rfl, hB, -⟩ := hown.form
      have hcv := convB hB
      go_wp2
      go_ret
      exact ⟨rfl, hb⟩

end Go.Proofs.YtmfjhgjplmpecaaDoor.L5

namespace Go.Proofs.YtmfjhgjplmpecaaDoor.L5
open Go.RowKit Go.Shelf

theorem strOf_size3 (a : List UInt8) : (strOf a).size = a.length := by simp [strOf, ByteArray.size]
theorem bytes_below (w : World) (e : TypeId) (s : ByteArray) : Below w.heap.size w (Lib.bytesWorld w e s) := ⟨rfl, rfl, rfl, by rw [Lib.bytesWorld_size]; omega, fun j hj => Lib.bytesWorld_at_old w e s j hj⟩
theorem bytes_reads (w : World) (e : TypeId) (l : List Nat) (hl : Byt l) (hn : l.length < 1000) : Reads .u8 (Lib.bytesWorld w e (strOf (u8s l))) (some ⟨w.heap.size, 0, none⟩) l.length (grownCap w l.length 0 e) l := by
  refine ⟨rfl, grownCap_ge w l.length 0 e, grownCap_le_maxLen w l.length 0 e (by unfold maxLen; omega), (fun h => by cases h), fun _ => ⟨w.heap.size, 0, rfl, by rw [Lib.bytesWorld_size]; omega, fun i hi => ?_⟩⟩
  rw [Nat.zero_add, Lib.bytesWorld_cell w e _ i (by rw [strOf_size3]; simpa [u8s] using hi)]
  have := u8s_get l hl i
  rw [← this]
  simp [strOf, List.getD]
theorem strOf_beq {A B : List UInt8} (h : A = B) : ((strOf A).toList == (strOf B).toList) = true := by rw [h]; simp
end Go.Proofs.YtmfjhgjplmpecaaDoor.L5

namespace Go.Proofs.YtmfjhgjplmpecaaDoor.L5
open Go.RowKit Go.Shelf

theorem StateOf.lt {w : World} {g bt : Nat} {m : List Nat} (h : StateOf w g bt m) : g < w.heap.size := by
  obtain ⟨ws, tail, h, -⟩ := h
  exact h.lt
theorem StateOf.below {w w' : World} {g bt B : Nat} {m : List Nat} (h : StateOf w g bt m) (hb : Below B w w') (hg : g < B) : StateOf w' g bt m := by
  obtain ⟨ws, tail, h, k⟩ := h
  exact ⟨ws, tail, h.below hb hg, k⟩
theorem reads_block {q : IntKind} {w : World} {a : Option Addr} {n c : Nat} {l : List Nat} (h : Reads q w a n c l) {g : Nat} (hg : w.heap.size ≤ g) : 0 < n → ∀ ad, a = some ad → ad.block ≠ g := fun hp ad e => by
  subst e
  obtain ⟨b, off, e, hlt, -⟩ := h.cells hp
  cases e
  show b ≠ g
  omega
theorem below_on {w x y : World} (h : Below w.heap.size w x) (k : Below x.heap.size x y) : Below w.heap.size w y := h.trans (k.mono h.size)
theorem byt_drop {l : List Nat} (h : Byt l) (k : Nat) : Byt (l.drop k) := fun x hx => h x (List.mem_of_mem_drop hx)
theorem byt_take {l : List Nat} (h : Byt l) (k : Nat) : Byt (l.take k) := fun x hx => h x (List.mem_of_mem_take hx)

end Go.Proofs.YtmfjhgjplmpecaaDoor.L5

namespace Go.Proofs.YtmfjhgjplmpecaaDoor.L5
open Go.RowKit Go.Shelf

def btOf (long : Bool) : Nat := if long then 512 else 384
theorem btOf_or (long : Bool) : btOf long = 384 ∨ btOf long = 512 := by cases long <;> decide
theorem btOf_ne (long : Bool) : btOf long ≠ 0 := by cases long <;> decide
/-- Two states, in one world. -/
structure Two (w0 W : World) (g1 g2 bt : Nat) (l m : List Nat) : Prop where
  one : StateOf W g1 bt l
  two : StateOf W g2 bt m
  below : Below w0.heap.size w0 W
theorem Two.on {w0 W W' : World} {g1 g2 bt : Nat} {l m : List Nat} (h : Two w0 W g1 g2 bt l m) (hb : Below W.heap.size W W') : Two w0 W' g1 g2 bt l m :=
  ⟨h.one.below hb h.one.lt, h.two.below hb h.two.lt, below_on h.below hb⟩
theorem Two.drew {w0 W : World} {g1 g2 bt : Nat} {l m : List Nat} (h : Two w0 W g1 g2 bt l m) : Two w0 W.drew g1 g2 bt l m := h.on (Below.refl _ _).drew
theorem StateOf.kept {W W' : World} {g1 g2 bt : Nat} {l : List Nat} (h : StateOf W g1 bt l) (hg : W.grownBy W' (some g2)) (hne : g1 ≠ g2) : StateOf W' g1 bt l := by
  obtain ⟨ws, tail, h, k⟩ := h
  exact ⟨ws, tail, h.block (hg.block g1 h.lt (fun e => hne (Option.some.inj e))), k⟩
theorem Two.write2 {w0 W : World} {g1 g2 bt : Nat} {l m : List Nat} (h : Two w0 W g1 g2 bt l m) (hne : g1 ≠ g2) (hg : w0.heap.size ≤ g2) (hbt : bt ≠ 0) (a : Option Addr) (n c : Nat) (bl : List Nat) (hr : Reads .u8 W a n c bl) (hb : Byt bl) (hln : m.length + n < 1152921504606846976) (hn : 0 < n → ∀ ad, a = some ad → ad.block ≠ g2) :
    Calls Tryd.prog 35 #[.pointer (some ⟨g2, 0, none⟩), .slice a n c] W fun e W' => e = .returned (.tuple #[]) ∧ Two w0 W' g1 g2 bt l (m ++ bl) ∧ W.grownBy W' (some g2) :=
  (write_any g2 bt m bl a n c W h.two hbt hr hb hln hn).mono fun _ _ ⟨h1, h2, h3⟩ => ⟨h1, ⟨h.one.kept h3 hne, h2, h.below.grown h3 h.below.size (fun _ e => by cases e; exact hg)⟩, h3⟩
theorem Two.write1 {w0 W : World} {g1 g2 bt : Nat} {l m : List Nat} (h : Two w0 W g1 g2 bt l m) (hne : g1 ≠ g2) (hg : w0.heap.size ≤ g1) (hbt : bt ≠ 0) (a : Option Addr) (n c : Nat) (bl : List Nat) (hr : Reads .u8 W a n c bl) (hb : Byt bl) (hln : l.length + n < 1152921504606846976) (hn : 0 < n → ∀ ad, a = some ad → ad.block ≠ g1) :
    Calls Tryd.prog 35 #[.pointer (some ⟨g1, 0, none⟩), .slice a n c] W fun e W' => e = .returned (.tuple #[]) ∧ Two w0 W' g1 g2 bt (l ++ bl) m ∧ W.grownBy W' (some g1) :=
  (write_any g1 bt l bl a n c W h.one hbt hr hb hln hn).mono fun _ _ ⟨h1, h2, h3⟩ => ⟨h1, ⟨h2, h.two.kept h3 (Ne.symm hne), h.below.grown h3 h.below.size (fun _ e => by cases e; exact hg)⟩, h3⟩
/-- A hash that Sum told: it stays, and reads as text. -/
def SumAt (w0 W : World) (ad : Addr × Nat) (bt : Nat) (l : List Nat) : Prop := Reads .u8 W (some ad.1) (bt / 8) ad.2 (hashN bt l) ∧ w0.heap.size ≤ ad.1.block
theorem SumAt.on {w0 W W' : World} {ad : Addr × Nat} {bt : Nat} {l : List Nat} (h : SumAt w0 W ad bt l) (hb : Below W.heap.size W W') : SumAt w0 W' ad bt l := ⟨h.1.below hb, h.2⟩
theorem SumAt.conv {w0 W : World} {ad : Addr × Nat} {bt : Nat} {l : List Nat} (h : SumAt w0 W ad bt l) : (convert 23 9 (.slice (some ad.1) (bt / 8) ad.2)).run Tryd.prog W = .ok (.string (strOf (u8s (hashN bt l)))) W := convB (h.1.bts5 (hashN_lt bt l))
theorem Two.sum1 {w0 W : World} {g1 g2 bt : Nat} {l m : List Nat} (h : Two w0 W g1 g2 bt l m) (hbt : bt = 384 ∨ bt = 512) :
    Calls Tryd.prog 36 #[.pointer (some ⟨g1, 0, none⟩)] W fun e W' => (∃ ad : Addr × Nat, e = .returned (.slice (some ad.1) (bt / 8) ad.2) ∧ SumAt w0 W' ad bt l) ∧ Two w0 W' g1 g2 bt l m ∧ Below W.heap.size W W' :=
  (sum_any g1 bt l W h.one hbt).mono fun _ _ ⟨⟨ad, h1, h2, h3⟩, h4⟩ => ⟨⟨ad, h1, h2, Nat.le_trans h.below.size h3⟩, h.on h4, h4⟩
theorem Two.sum2 {w0 W : World} {g1 g2 bt : Nat} {l m : List Nat} (h : Two w0 W g1 g2 bt l m) (hbt : bt = 384 ∨ bt = 512) :
    Calls Tryd.prog 36 #[.pointer (some ⟨g2, 0, none⟩)] W fun e W' => (∃ ad : Addr × Nat, e = .returned (.slice (some ad.1) (bt / 8) ad.2) ∧ SumAt w0 W' ad bt m) ∧ Two w0 W' g1 g2 bt l m ∧ Below W.heap.size W W' :=
  (sum_any g2 bt m W h.two hbt).mono fun _ _ ⟨⟨ad, h1, h2, h3⟩, h4⟩ => ⟨⟨ad, h1, h2, Nat.le_trans h.below.size h3⟩, h.on h4, h4⟩
theorem reads_of_bytes {w : World} {a : Option Addr} {len cap : Nat} {zs : List Int}
    (h : (a = .none ∧ len = 0 ∧ cap = 0 ∧ zs = []) ∨ ∃ x, a = some x ∧ len ≤ cap ∧ cap ≤ maxLen ∧ zs.length = cap ∧ (∀ i, i < zs.length → w.cell? (x.add i) = some (.int .u8 (zs.getD i 0))) ∧ ∀ n ∈ zs, (Lit.int .u8 n).wf = true) :
    ∃ l : List Nat, Reads .u8 w a len cap l ∧ ∀ x ∈ l, x < 256 := by
  rcases h with ⟨rfl, rfl, rfl, rfl⟩ | ⟨x, rfl, hl, hm, hz, hc, hw⟩
  · exact ⟨[], Reads.none _ w, fun _ h => by cases h⟩
  · have hbd : ∀ n ∈ zs, 0 ≤ n ∧ n < 256 := fun n hn => by
      have := hw n hn
      simp [Lit.wf, IntKind.min, IntKind.max, IntKind.signed, IntKind.bits] at this
      omega
    refine ⟨(zs.take len).map fun n => n.toNat, ⟨by simp; omega, hl, hm, (fun h => by cases h), fun hp => ?_⟩, fun y hy => ?_⟩
    · obtain ⟨b, off, spot⟩ := x
      have h0 := hc 0 (by omega)
      have hs : spot = .none := by simpa [Addr.add] using World.cell?_spot h0
      subst hs
      refine ⟨b, off, rfl, World.block_lt_of_cell? w _ (by simpa [Addr.add] using h0), fun i hi => ?_⟩
      have hci := hc i (by omega)
      have e : (⟨b, off, .none⟩ : Addr).add i = ⟨b, off + i, .none⟩ := by unfold Addr.add; split <;> simp_all
      rw [e] at hci
      rw [hci]
      have hlt : i < zs.length := by omega
      have hb := hbd zs[i] (List.getElem_mem _)
      have h1 : zs.getD i 0 = zs[i] := by simp [List.getD, hlt]
      rw [h1]
      simp [hi, hlt]
      omega
    · obtain ⟨n, hn, rfl⟩ := List.mem_map.1 hy
      have := hbd n (List.mem_of_mem_take hn)
      omega

end Go.Proofs.YtmfjhgjplmpecaaDoor.L5

namespace Go.Proofs.YtmfjhgjplmpecaaDoor.L5
open Go.RowKit Go.Shelf

theorem nilB : Byt [] := fun x hx => by cases hx
theorem StateOf.copy {W : World} {g bt : Nat} {l : List Nat} (h : StateOf W g bt l) (hbt : bt ≠ 0) : Calls Tryd.prog 57 #[.pointer (some ⟨g, 0, none⟩)] W fun e W' => e = .returned (.pointer (some ⟨W.heap.size, 0, none⟩)) ∧ StateOf W' W.heap.size bt l ∧ Below W.heap.size W W' := by
  obtain ⟨ws, tail, h, k⟩ := h
  refine (copy_any g bt ws tail _ W h hbt).mono ?_
  rintro e W' ⟨rfl, rfl⟩
  exact ⟨rfl, ⟨ws, tail, ⟨Go.heap_alloc_new W _, h.wlen, h.tlen, h.wlt, h.tlt⟩, k⟩, (Below.refl _ _).alloc (Nat.le_refl _) _⟩
theorem byt_app {l m : List Nat} (h : Byt l) (k : Byt m) : Byt (l ++ m) := all_lt h k
end Go.Proofs.YtmfjhgjplmpecaaDoor.L5

namespace Go.Proofs.YtmfjhgjplmpecaaDoor.L5
open Go.RowKit Go.Shelf

theorem halfs_lt (x : Nat) (hx : x < 18446744073709551616) : ∀ n, halfs x n < 18446744073709551616
  | 0 => hx
  | n + 1 => by
    have := halfs_lt x hx n
    show halfs x n / 2 + halfs x n % 2 * 9223372036854775808 < _
    omega
theorem right_any (x n : Nat) (y k : Int) (w : World) (hy : y = x) (hk : k = n) (hx : x < 18446744073709551616) (hn : n ≤ 63) :
    Calls Tryd.prog 42 #[.int .u64 y, .int .i64 k] w fun e w' => e = .returned (.int .u64 (halfs x n : Nat)) ∧ w = w' := by
  subst hy hk
  go_enter Tryd.func42, Tryd.ntmps42
  go_wp2_with fail
  go_loopw [0, 5] (fun xv iv wq => ∃ i v : Nat, iv = .int .i64 (i : Int) ∧ xv = .int .u64 (v : Int) ∧ i ≤ n ∧ v < 18446744073709551616 ∧ Hid (v = halfs x i) ∧ w = wq) (fun _ iv _ => n - (intOf iv).toNat)
  case atStart => exact ⟨0, x, rfl, rfl, Nat.zero_le _, hx, rfl, rfl⟩
  case round =>
    obtain ⟨i, v, rfl, rfl, hi, hv, hI, rfl⟩ := hrel
    by_cases hlt : i < n
    · go_wp2
      go_roundw
      case rel => exact ⟨i + 1, v / 2 + v % 2 * 9223372036854775808, by go_num, by go_num, by omega, by omega, by rw [hI.out]; rfl, trivial⟩
      case measure => simp [intOf] <;> omega
    · obtain rfl : i = n := by omega
      go_wp2
      go_ret
      exact ⟨by rw [← hI.out]; rfl, rfl⟩
def downN (x : Nat) : Nat → Nat
  | 0 => x
  | n + 1 => downN x n / 2
theorem downN_eq (x : Nat) : ∀ n, downN x n = x / 2 ^ n
  | 0 => by simp [downN]
  | n + 1 => by rw [downN, downN_eq x n, Nat.pow_succ, Nat.div_div_eq_div_mul]
theorem down_any (x n : Nat) (y k : Int) (w : World) (hy : y = x) (hk : k = n) (hx : x < 18446744073709551616) (hn : n ≤ 63) :
    Calls Tryd.prog 43 #[.int .u64 y, .int .i64 k] w fun e w' => e = .returned (.int .u64 (x / 2 ^ n : Nat)) ∧ w = w' := by
  rw [← downN_eq]
  subst hy hk
  go_enter Tryd.func43, Tryd.ntmps43
  go_wp2_with fail
  go_loopw [0, 5] (fun xv iv wq => ∃ i v : Nat, iv = .int .i64 (i : Int) ∧ xv = .int .u64 (v : Int) ∧ i ≤ n ∧ v < 18446744073709551616 ∧ Hid (v = downN x i) ∧ w = wq) (fun _ iv _ => n - (intOf iv).toNat)
  case atStart => exact ⟨0, x, rfl, rfl, Nat.zero_le _, hx, rfl, rfl⟩
  case round =>
    obtain ⟨i, v, rfl, rfl, hi, hv, hI, rfl⟩ := hrel
    by_cases hlt : i < n
    · go_wp2
      go_roundw
      case rel => exact ⟨i + 1, v / 2, by go_num, by go_num, by omega, by omega, by rw [hI.out]; rfl, trivial⟩
      case measure => simp [intOf] <;> omega
    · obtain rfl : i = n := by omega
      go_wp2
      go_ret
      exact ⟨by rw [← hI.out]; rfl, rfl⟩

end Go.Proofs.YtmfjhgjplmpecaaDoor.L5

namespace Go.Proofs.YtmfjhgjplmpecaaDoor.L5
open Go.RowKit Go.Shelf

/-- Is one wide number more than another one? -/
def moreN (a b : List Nat) : Nat → Bool
  | 0 => false
  | j + 1 => if g0 a j = g0 b j then moreN a b j else decide (g0 b j < g0 a j)
set_option maxHeartbeats 1000000 in
theorem more_any (a b : List Nat) (ha : a.length = 8) (hb : b.length = 8) (w : World) :
    Calls Tryd.prog 63 #[.agg (arrC .u64 a), .agg (arrC .u64 b)] w fun e w' => e = .returned (.bool (moreN a b 8)) ∧ Below w.heap.size w w' := by
  go_enter Tryd.func63, Tryd.ntmps63
  go_wp2_with fail
  have HA := Lib.hid (show Arr .u64 107 ((w.alloc (.cells (arrC .u64 a) 107)).alloc (.cells (arrC .u64 b) 107)) w.heap.size a from Arr.alloc (Go.heap_alloc_new w _) _)
  have HB := Lib.hid (show Arr .u64 107 ((w.alloc (.cells (arrC .u64 a) 107)).alloc (.cells (arrC .u64 b) 107)) (w.heap.size + 1) b from by
    have := Go.heap_alloc_new (w.alloc (.cells (arrC .u64 a) 107)) (.cells (arrC .u64 b) 107)
    rwa [World.size_alloc] at this)
  have HW := Lib.hid (((Below.refl w.heap.size w).alloc (Nat.le_refl _) (.cells (arrC .u64 a) 107)).alloc (by simp) (.cells (arrC .u64 b) 107))
  generalize (w.alloc (.cells (arrC .u64 a) 107)).alloc (.cells (arrC .u64 b) 107) = W at *
  have HLA := Lib.hid ha
  have HLB := Lib.hid hb
  clear ha hb
  obtain ⟨g1, hg1⟩ : ∃ g, g = w.heap.size := ⟨_, rfl⟩
  obtain ⟨g2, hg2⟩ : ∃ g, g = w.heap.size + 1 := ⟨_, rfl⟩
  rw [← hg2] at HB ⊢
  rw [← hg1] at HA ⊢
  clear hg1 hg2
  go_loopw [5] (fun iv wq => ∃ j : Nat, iv = .int .i64 ((j : Int) - 1) ∧ j ≤ 8 ∧ Hid (moreN a b 8 = moreN a b j ∧ Arr .u64 107 wq g1 a ∧ Arr .u64 107 wq g2 b ∧ Below w.heap.size w wq)) (fun iv _ => (intOf iv + 1).toNat)
  case atStart => exact ⟨8, rfl, by decide, rfl, HA.out, HB.out, HW.out⟩
  case round =>
    obtain ⟨j, rfl, hj, hI⟩ := hrel
    cases j with
    | zero =>
      go_wp2
      go_ret
      exact ⟨by rw [hI.out.1]; rfl, hI.out.2.2.2⟩
    | succ j =>
      have e : (((j + 1 : Nat) : Int) - 1) = (j : Int) := by omega
      rw [e]
      clear e
      have c1 := hI.out.2.1.cell j (by rw [HLA.out]; omega)
      have c2 := hI.out.2.2.1.cell j (by rw [HLB.out]; omega)
      have HM := Lib.hid (show moreN a b (j + 1) = if g0 a j = g0 b j then moreN a b j else decide (g0 b j < g0 a j) from rfl)
      unfold g0 at HM
      generalize a[j]?.getD 0 = x at *
      generalize b[j]?.getD 0 = y at *
      by_cases hxy : x = y
      · have HXY := Lib.hid hxy
        have t1 : ((x : Int) != (y : Int)) = false := by simp; omega
        clear hxy
        go_wp2_with fail
        go_quiet (fail)
        go_wp2
        go_roundw
        case rel => exact ⟨j, rfl, by omega, by rw [hI.out.1, HM.out, if_pos HXY.out], hI.out.2.1.drewN nq, hI.out.2.2.1.drewN nq, below_drewS hI.out.2.2.2 nq⟩
        case measure => simp [intOf] <;> omega
      · have HXY := Lib.hid hxy
        have t1 : ((x : Int) != (y : Int)) = true := by simp; omega
        clear hxy
        go_wp2_with fail
        go_quiet (fail)
        go_wp2_with fail
        have c3 : (wr.drewN nq).cell? ⟨g1, j, none⟩ = some (.int .u64 (x : Int)) := c1
        have c4 : (wr.drewN nq).cell? ⟨g2, j, none⟩ = some (.int .u64 (y : Int)) := c2
        have H5 := Lib.hid (below_drewS hI.out.2.2.2 nq)
        have HE := Lib.hid (show moreN a b 8 = decide (y < x) by rw [hI.out.1, HM.out, if_neg HXY.out])
        clear c1 c2 hI HM
        generalize wr.drewN nq = w5 at *
        go_quiet (fail)
        go_wp2
        go_ret
        refine ⟨?_, below_drewS H5.out _⟩
        rw [HE.out]
        simp

end Go.Proofs.YtmfjhgjplmpecaaDoor.L5
