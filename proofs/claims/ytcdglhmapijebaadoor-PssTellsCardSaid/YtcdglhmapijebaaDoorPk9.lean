/-
  Texts of ours, one behind the other: Sj1
-/
import Derived.Test.YtcdglhmapijebaaDoorPk8
set_option linter.unusedVariables false
set_option linter.unusedSimpArgs false

namespace Go.Proofs.YtcdglhmapijebaaDoor
open Go.RowKit Go.Shelf

set_option maxRecDepth 100000 in
set_option maxHeartbeats 8000000 in
theorem ref_of256 (a : Option Addr) (n c : Nat) (bl : List Nat) (w : World) (hr : Reads .u8 w a n c bl) (hb : ∀ x ∈ bl, x < 256) (hn : n ≤ 9000) :
    Calls Tryd.prog 40 #[.int .i64 256, .slice a n c] w fun e w' => (∃ v, e = .returned (.tuple #[v, .int .i64 0]) ∧ OwnQ .u8 5 w.heap.size w' v (hashN 256 bl)) ∧ Below w.heap.size w w' := by
  have hzR : ∀ w, (zeroValue 97).run Tryd.prog w = .ok (.agg (arrC .u32 zR)) w := fun _ => by kernel_rfl
  have hz8 : ∀ w, (zeroValue 98).run Tryd.prog w = .ok (.agg (arrC .u32 z8)) w := fun _ => by kernel_rfl
  have HR := Lib.hid hr
  have HBL := Lib.hid hb
  clear hr hb
  go_enter Tryd.func40, Tryd.ntmps40
  go_wp2_with fail
  refine (first_any w).mono ?_
  rintro e w1 ⟨⟨v, rfl, hp⟩, hb1⟩
  obtain ⟨gp, cp, rfl⟩ := hp.succ (by decide)
  rw [primesL_len] at hp ⊢
  have HP := Lib.hid hp.reads
  have hgp := Lib.hid (hp.lt gp rfl)
  have HB1 := Lib.hid hb1
  clear hp hb1
  go_wp2_with fail
  have HO := Lib.hid (of_start w w1 gp cp (startN 256) HP.out HB1.out hgp.out.2)
  generalize (w1.alloc (.cells (arrC .u32 zR) 97)).alloc (.cells (arrC .u32 z8) 98) = W0 at *
  obtain ⟨gk, hgk⟩ : ∃ g, g = w1.heap.size := ⟨_, rfl⟩
  obtain ⟨gh, hgh⟩ : ∃ g, g = w1.heap.size + 1 := ⟨_, rfl⟩
  rw [← hgh, ← hgk] at HO
  rw [← hgh, ← hgk]
  clear hgk hgh hgp HP HB1
  go_loopw [10] (fun iv wq => ∃ i : Nat, iv = .int .i64 (i : Int) ∧ i ≤ 64 ∧ Hid (OfP w wq gp cp gk gh (fillT kL 64 i) (fillT (startN 256) 8 0))) (fun iv _ => 64 - (intOf iv).toNat)
  case atStart => exact ⟨0, rfl, by decide, HO.out⟩
  case round =>
    obtain ⟨i, rfl, hi, hI⟩ := hrel
    by_cases hlt : i < 64
    · have cp1 := reads_cellG hI.out.p i hlt
      obtain ⟨v, hv, hm⟩ := k_at i hlt
      have hp5 : g0 primesL i < 512 := g0_lt prime_lt (by decide) i
      generalize g0 primesL i = x at *
      obtain ⟨y, hy⟩ : ∃ y, y = g0 kL i := ⟨_, rfl⟩
      have hw : IntKind.u32.wrap (v : Int) = (y : Int) := by rw [← hy] at hm; simp [IntKind.wrap, IntKind.bits, IntKind.signed]; omega
      have HY := Lib.hid (show fillT kL 64 (i + 1) = (fillT kL 64 i).set i y by rw [hy]; exact (fillT_set hlt (by rw [kL_len]; exact Nat.le_refl _)).symm)
      have hcp := hI.out.p.le
      clear hy hm
      go_wp2_with fail
      refine (fraction_any x 3 32 v (by decide) (by decide) hp5 hv wr).mono ?_
      rintro e w2 ⟨rfl, hb2⟩
      have HO2 := Lib.hid (hI.out.on hb2)
      have ck := HO2.out.k.cell i (by rw [fillT_len hi (by rw [kL_len]; exact Nat.le_refl _)]; exact hlt)
      have fk := HO2.out.k.frozen i
      clear hb2 cp1
      go_wp2
      go_roundw
      case rel => exact ⟨i + 1, by go_num, by omega, by rw [HY.out]; exact HO2.out.setk i y _ rfl⟩
      case measure => simp [intOf] <;> omega
    · have hiR : i = 64 := by omega
      have tI : decide ((i : Int) < 64) = false := by simp; omega
      have HO2 := Lib.hid (show OfP w wr gp cp gk gh kL (fillT (startN 256) 8 0) by have := hI.out; rw [hiR, fillT_all kL_len] at this; exact this)
      clear hI hiR hlt hi HO
      go_wp2_with fail
      go_loopw [11] (fun iv wq => ∃ i : Nat, iv = .int .i64 (i : Int) ∧ i ≤ 8 ∧ Hid (OfP w wq gp cp gk gh kL (fillT (startN 256) 8 i))) (fun iv _ => 8 - (intOf iv).toNat)
      case atStart => exact ⟨0, rfl, by decide, HO2.out⟩
      case round =>
        obtain ⟨i2, rfl, hi, hI⟩ := hrel
        by_cases hlt : i2 < 8
        · obtain ⟨v, hv, hm⟩ := h1_at i2 hlt

          have cp1 := reads_cellG hI.out.p i2 (by omega)
          have hp5 : g0 primesL i2 < 512 := g0_lt prime_lt (by decide) _
          generalize g0 primesL i2 = x at *
          obtain ⟨y, hy⟩ : ∃ y, y = g0 (startN 256) i2 := ⟨_, rfl⟩
          have hw : IntKind.u32.wrap (v : Int) = (y : Int) := by rw [← hy] at hm; simp [IntKind.wrap, IntKind.bits, IntKind.signed]; omega
          have HY := Lib.hid (show fillT (startN 256) 8 (i2 + 1) = (fillT (startN 256) 8 i2).set i2 y by rw [hy]; exact (fillT_set hlt (by rw [startN_len]; exact Nat.le_refl _)).symm)
          have hcp := hI.out.p.le
          clear hy hm
          go_wp2_with fail
          refine (fraction_any x 2 32 v (by decide) (by decide) hp5 hv wr).mono ?_
          rintro e w2 ⟨rfl, hb2⟩
          have HO3 := Lib.hid (hI.out.on hb2)
          have ck := HO3.out.h.cell i2 (by rw [fillT_len hi (by rw [startN_len]; exact Nat.le_refl _)]; exact hlt)
          have fk := HO3.out.h.frozen i2
          clear hb2 cp1
          go_wp2
          go_roundw
          case rel => exact ⟨i2 + 1, by go_num, by omega, by rw [HY.out]; exact HO3.out.seth i2 y _ rfl⟩
          case measure => simp [intOf] <;> omega
        · have hiR : i2 = 8 := by omega
          have tI2 : decide ((i2 : Int) < 8) = false := by simp; omega
          have HO3 := Lib.hid (show OfP w wr gp cp gk gh kL (startN 256) by have := hI.out; rw [hiR, fillT_all (startN_len _)] at this; exact this)
          clear hI hiR hlt hi HO2
          go_wp2_with fail
          refine (fill_any a n c bl wr (HR.out.below HO3.out.below) (by omega)).mono ?_
          rintro e w3 ⟨⟨v3, rfl, ho3⟩, hb3⟩
          obtain ⟨gm, cm, rfl⟩ := ho3.succ (fillN_ne bl)
          have hgm := ho3.lt gm rfl
          have HS := Lib.hid (show OfS w w3 gk gh gm (fillN bl).length cm (startN 256) (fillN bl) from ⟨HO3.out.k.below hb3 HO3.out.k.lt, HO3.out.h.below hb3 HO3.out.h.lt, ho3.reads, HO3.out.below.trans (hb3.mono HO3.out.below.size), HO3.out.ne.2.2.1, (by have := HO3.out.h.lt; omega), HO3.out.ne.2.2.2.2⟩)
          obtain ⟨nb, hnb, hnb2⟩ := fillN_blocks bl
          have hml := fillN_len bl
          rw [HR.out.length] at hml
          have HMB := Lib.hid (fillN_lt HBL.out)
          have HFN := Lib.hid (show fillN bl = fillN bl from rfl)
          generalize hM : fillN bl = M at *
          have HM := Lib.hid hM.symm
          obtain ⟨ml, hml2⟩ : ∃ l, l = M.length := ⟨_, rfl⟩
          rw [← hml2] at HS hnb hml ⊢
          have HML := Lib.hid hml2
          have HNB := Lib.hid hnb
          clear hM hml2 ho3 hb3 hgm HO3 HFN hnb
          have hmlb : ml ≤ 9300 := by omega
          clear hml
          go_wp2_with fail
          go_loopw [13] (fun av wq => ∃ j at' : Nat, av = .int .i64 (at' : Int) ∧ at' ≤ 11000 ∧ j ≤ nb ∧ Hid (at' = 64 * j ∧ OfS w wq gk gh gm ml cm (wsK 256 M j) M)) (fun av _ => ml - (intOf av).toNat)
          case atStart => exact ⟨0, 0, rfl, by decide, Nat.zero_le _, rfl, HS.out⟩
          case round =>
            obtain ⟨j, at', rfl, hat, hj, hI⟩ := hrel
            by_cases hlt : j < nb
            · have hat2 : at' + 64 ≤ ml := by rw [hI.out.1, HNB.out]; omega
              have tJ : decide (at' < ml) = true := by simp; omega
              have HSS := Lib.hid hI.out.2
              have HAT := Lib.hid hI.out.1
              clear hI
              go_wp2_with fail
              have HO4 := Lib.hid (HSS.out.beside (by omega))
              have HW := Lib.hid (show Arr .u32 97 (wr.alloc (.cells (arrC .u32 zR) 97)) wr.heap.size zR from Go.heap_alloc_new wr _)
              have HSS := Lib.hid (HSS.out.on ((Below.refl _ _).alloc (Nat.le_refl _) (.cells (arrC .u32 zR) 97)))
              generalize wr.alloc (.cells (arrC .u32 zR) 97) = W2 at *
              generalize wr.heap.size = gw at *
              obtain ⟨bb, hbb⟩ : ∃ b, b = (M.drop at').take 64 := ⟨_, rfl⟩
              have HBB := Lib.hid hbb
              have HBY := Lib.hid (show ∀ x ∈ bb, x < 256 by rw [hbb]; exact fun x hx => HMB.out x (List.mem_of_mem_drop (List.mem_of_mem_take hx)))
              have HBG := Lib.hid (show ∀ k, k < 64 → g0 bb k = g0 M (at' + k) by
                intro k hk
                rw [hbb]
                unfold g0
                rw [List.getElem?_take_of_lt hk, List.getElem?_drop])
              clear hbb
              go_loopw [15] (fun iv wq => ∃ i : Nat, iv = .int .i64 (i : Int) ∧ i ≤ 16 ∧ Hid (OfS w wq gk gh gm ml cm (wsK 256 M j) M ∧ Arr .u32 97 wq gw (packN bb (4 * i)))) (fun iv _ => 16 - (intOf iv).toNat)
              case atStart => exact ⟨0, rfl, by decide, HSS.out, HW.out⟩
              case round =>
                obtain ⟨i, rfl, hi, hI⟩ := hrel
                by_cases hlt2 : i < 16
                · have HI := Lib.hid hI.out
                  clear hI HSS HW
                  go_wp2_with fail
                  go_loopw [16] (fun nv wq => ∃ m : Nat, nv = .int .i64 (m : Int) ∧ m ≤ 4 ∧ Hid (OfS w wq gk gh gm ml cm (wsK 256 M j) M ∧ Arr .u32 97 wq gw (packN bb (4 * i + m)))) (fun nv _ => 4 - (intOf nv).toNat)
                  case atStart => exact ⟨0, rfl, by decide, HI.out⟩
                  case round =>
                    obtain ⟨m, rfl, hm, hJ⟩ := hrel
                    by_cases hlt3 : m < 4
                    · have cw := hJ.out.2.cell i (by rw [packN_len]; omega)
                      have fw := hJ.out.2.frozen i
                      obtain ⟨x, hx⟩ : ∃ x, x = g0 (packN bb (4 * i + m)) i := ⟨_, rfl⟩
                      have lx : x < 4294967296 := hx ▸ g0_lt (packN_lt bb HBY.out _) (by decide) i
                      change wr.cell? _ = some (.int .u32 ((g0 (packN bb (4 * i + m)) i : Nat) : Int)) at cw
                      rw [← hx] at cw
                      obtain ⟨i4, hi4⟩ : ∃ k, k = 4 * i := ⟨_, rfl⟩
                      obtain ⟨ai, hai⟩ : ∃ k, k = at' + i4 := ⟨_, rfl⟩
                      obtain ⟨ix, hix⟩ : ∃ k, k = ai + m := ⟨_, rfl⟩
                      have ei4 : (4 : Int) * (i : Int) = (i4 : Int) := by omega
                      have eai : (at' : Int) + (i4 : Int) = (ai : Int) := by omega
                      have eix : (ai : Int) + (m : Int) = (ix : Int) := by omega
                      have lix : ix < ml := by omega
                      have lai : ai < ml := by omega
                      have li4 : i4 < 64 := by omega
                      have cy := reads_cellG hJ.out.1.m ix lix
                      have ly : g0 M ix < 256 := g0_lt HMB.out (by decide) ix
                      have hgy : g0 bb (4 * i + m) = g0 M ix := by rw [HBG.out _ (by omega), hix, hai, hi4, Nat.add_assoc]
                      generalize g0 M ix = y at *
                      have HST := Lib.hid (pack_step bb i m x y hlt3 hx hgy.symm ly)
                      have hcm := hJ.out.1.m.le
                      obtain ⟨x2, hx2⟩ : ∃ z, z = 256 * x % 4294967296 := ⟨_, rfl⟩
                      obtain ⟨r, hr⟩ : ∃ z, z = (256 * x + y) % 4294967296 := ⟨_, rfl⟩
                      have ex2 : (256 : Int) * (x : Int) % 4294967296 = (x2 : Int) := by omega
                      have er : ((x2 : Int) + (y : Int)) % 4294967296 = (r : Int) := by omega
                      have lx2 : x2 < 4294967296 := by omega
                      rw [← hr] at HST
                      clear hx hi4 hai hix hgy hx2 hr
                      have HJ := Lib.hid hJ.out
                      clear hJ HI
                      go_wp2_with fail
                      go_region
                      all_goals go_wp2
                      all_goals go_roundw
                      case rel => exact ⟨m + 1, by go_num, by omega, (HJ.out.1.set HO4.out i _).drew, by
                        rw [HST.out]
                        exact Arr.stored (w := wr) HJ.out.2 i r _ (by omega)⟩
                      case measure => simp [intOf] <;> omega
                    · have hmW : m = 4 := by omega
                      have tm : decide ((m : Int) < 4) = false := by simp; omega
                      have HJ := Lib.hid hJ.out
                      have HNX := Lib.hid (show Arr .u32 97 wr gw (packN bb (4 * (i + 1))) by have := hJ.out.2; rw [hmW] at this; exact this)
                      clear hJ HI hmW hlt3 hm
                      go_wp2
                      go_roundw
                      case rel => exact ⟨i + 1, by go_num, by omega, HJ.out.1, HNX.out⟩
                      case measure => simp [intOf] <;> omega
                · have hi16 : i = 16 := by omega
                  have ti : decide ((i : Int) < 16) = false := by simp; omega
                  have HP := Lib.hid hI.out.1
                  have HPA := Lib.hid (show Arr .u32 97 wr gw (extN (packN bb 64) 0) by have := hI.out.2; rw [hi16] at this; exact this)
                  clear hI hi16 hlt2 hi HSS HW
                  go_wp2_with fail
                  go_loopw [17] (fun tv wq => ∃ t : Nat, tv = .int .i64 (t : Int) ∧ 16 ≤ t ∧ t ≤ 64 ∧ Hid (OfS w wq gk gh gm ml cm (wsK 256 M j) M ∧ Arr .u32 97 wq gw (extN (packN bb 64) (t - 16)))) (fun tv _ => 64 - (intOf tv).toNat)
                  case atStart => exact ⟨16, rfl, by decide, by decide, HP.out, HPA.out⟩
                  case round =>
                    obtain ⟨t, rfl, ht1, ht2, hI⟩ := hrel
                    have hlR := Lib.hid (extN_len (packN bb 64) (packN_len bb 64) (t - 16))
                    have hltR := Lib.hid (extN_lt (packN bb 64) (packN_lt bb HBY.out 64) (t - 16))
                    by_cases hltt : t < 64
                    · as_aux_lemma =>
                        have HE := Lib.hid (show extN (packN bb 64) (t + 1 - 16) = extS t (extN (packN bb 64) (t - 16)) by
                          rw [show t + 1 - 16 = (t - 16) + 1 by omega]
                          show extS (16 + (t - 16)) _ = _
                          rw [show 16 + (t - 16) = t by omega])
                        have HOS := Lib.hid hI.out.1
                        have HLA := Lib.hid hI.out.2
                        generalize extN (packN bb 64) (t - 16) = L at *
                        clear hI HP HPA
                        obtain ⟨p16, hp16⟩ : ∃ p, p = t - 16 := ⟨_, rfl⟩
                        have ep16 : (t : Int) - 16 = (p16 : Int) := by omega
                        have lp16 : p16 < 64 := by omega
                        have wp16 : IntKind.i64.wrap (p16 : Int) = (p16 : Int) := by simp [IntKind.wrap, IntKind.bits, IntKind.signed]; omega
                        have ip16 : (p16 : Int) < 64 := by omega
                        have cx16 := HLA.out.cell p16 (by rw [hlR.out]; omega)
                        obtain ⟨x16, hx16⟩ : ∃ zz, zz = g0 L p16 := ⟨_, rfl⟩
                        have lx16 : x16 < 4294967296 := hx16 ▸ g0_lt hltR.out (by decide) _
                        rw [show L[p16]?.getD 0 = x16 from hx16.symm] at cx16
                        obtain ⟨p7, hp7⟩ : ∃ p, p = t - 7 := ⟨_, rfl⟩
                        have ep7 : (t : Int) - 7 = (p7 : Int) := by omega
                        have lp7 : p7 < 64 := by omega
                        have wp7 : IntKind.i64.wrap (p7 : Int) = (p7 : Int) := by simp [IntKind.wrap, IntKind.bits, IntKind.signed]; omega
                        have ip7 : (p7 : Int) < 64 := by omega
                        have cx7 := HLA.out.cell p7 (by rw [hlR.out]; omega)
                        obtain ⟨x7, hx7⟩ : ∃ zz, zz = g0 L p7 := ⟨_, rfl⟩
                        have lx7 : x7 < 4294967296 := hx7 ▸ g0_lt hltR.out (by decide) _
                        rw [show L[p7]?.getD 0 = x7 from hx7.symm] at cx7
                        obtain ⟨p15, hp15⟩ : ∃ p, p = t - 15 := ⟨_, rfl⟩
                        have ep15 : (t : Int) - 15 = (p15 : Int) := by omega
                        have lp15 : p15 < 64 := by omega
                        have wp15 : IntKind.i64.wrap (p15 : Int) = (p15 : Int) := by simp [IntKind.wrap, IntKind.bits, IntKind.signed]; omega
                        have ip15 : (p15 : Int) < 64 := by omega
                        have cx15 := HLA.out.cell p15 (by rw [hlR.out]; omega)
                        obtain ⟨x15, hx15⟩ : ∃ zz, zz = g0 L p15 := ⟨_, rfl⟩
                        have lx15 : x15 < 4294967296 := hx15 ▸ g0_lt hltR.out (by decide) _
                        rw [show L[p15]?.getD 0 = x15 from hx15.symm] at cx15
                        obtain ⟨p2, hp2⟩ : ∃ p, p = t - 2 := ⟨_, rfl⟩
                        have ep2 : (t : Int) - 2 = (p2 : Int) := by omega
                        have lp2 : p2 < 64 := by omega
                        have wp2 : IntKind.i64.wrap (p2 : Int) = (p2 : Int) := by simp [IntKind.wrap, IntKind.bits, IntKind.signed]; omega
                        have ip2 : (p2 : Int) < 64 := by omega
                        have cx2 := HLA.out.cell p2 (by rw [hlR.out]; omega)
                        obtain ⟨x2, hx2⟩ : ∃ zz, zz = g0 L p2 := ⟨_, rfl⟩
                        have lx2 : x2 < 4294967296 := hx2 ▸ g0_lt hltR.out (by decide) _
                        rw [show L[p2]?.getD 0 = x2 from hx2.symm] at cx2
                        obtain ⟨f1, hf1⟩ : ∃ zz, zz = rotr x15 7 := ⟨_, rfl⟩
                        have lf1 : f1 < 4294967296 := hf1 ▸ rotr_lt lx15
                        have Rf1 := Lib.hid hf1
                        obtain ⟨f2, hf2⟩ : ∃ zz, zz = rotr x15 18 := ⟨_, rfl⟩
                        have lf2 : f2 < 4294967296 := hf2 ▸ rotr_lt lx15
                        have Rf2 := Lib.hid hf2
                        obtain ⟨f3, hf3⟩ : ∃ zz, zz = f1 ^^^ f2 := ⟨_, rfl⟩
                        have lf3 : f3 < 4294967296 := by rw [hf3]; exact Nat.xor_lt_two_pow (n := 32) lf1 lf2
                        have ef3 : bits BinOp.xor IntKind.u32 (f1 : Int) (f2 : Int) = (f3 : Int) := by rw [u32_xor_nat _ _ lf1 lf2, hf3]
                        obtain ⟨f4, hf4⟩ : ∃ zz, zz = x15 / 2 ^ 3 := ⟨_, rfl⟩
                        have lf4 : f4 < 4294967296 := by rw [hf4]; exact Nat.lt_of_le_of_lt (Nat.div_le_self _ _) lx15
                        have Rf4 := Lib.hid hf4
                        obtain ⟨f, hf⟩ : ∃ zz, zz = f3 ^^^ f4 := ⟨_, rfl⟩
                        have lf : f < 4294967296 := by rw [hf]; exact Nat.xor_lt_two_pow (n := 32) lf3 lf4
                        have ef : bits BinOp.xor IntKind.u32 (f3 : Int) (f4 : Int) = (f : Int) := by rw [u32_xor_nat _ _ lf3 lf4, hf]
                        obtain ⟨u1, hu1⟩ : ∃ zz, zz = rotr x2 17 := ⟨_, rfl⟩
                        have lu1 : u1 < 4294967296 := hu1 ▸ rotr_lt lx2
                        have Ru1 := Lib.hid hu1
                        obtain ⟨u2, hu2⟩ : ∃ zz, zz = rotr x2 19 := ⟨_, rfl⟩
                        have lu2 : u2 < 4294967296 := hu2 ▸ rotr_lt lx2
                        have Ru2 := Lib.hid hu2
                        obtain ⟨u3, hu3⟩ : ∃ zz, zz = u1 ^^^ u2 := ⟨_, rfl⟩
                        have lu3 : u3 < 4294967296 := by rw [hu3]; exact Nat.xor_lt_two_pow (n := 32) lu1 lu2
                        have eu3 : bits BinOp.xor IntKind.u32 (u1 : Int) (u2 : Int) = (u3 : Int) := by rw [u32_xor_nat _ _ lu1 lu2, hu3]
                        obtain ⟨u4, hu4⟩ : ∃ zz, zz = x2 / 2 ^ 10 := ⟨_, rfl⟩
                        have lu4 : u4 < 4294967296 := by rw [hu4]; exact Nat.lt_of_le_of_lt (Nat.div_le_self _ _) lx2
                        have Ru4 := Lib.hid hu4
                        obtain ⟨u, hu⟩ : ∃ zz, zz = u3 ^^^ u4 := ⟨_, rfl⟩
                        have lu : u < 4294967296 := by rw [hu]; exact Nat.xor_lt_two_pow (n := 32) lu3 lu4
                        have eu : bits BinOp.xor IntKind.u32 (u3 : Int) (u4 : Int) = (u : Int) := by rw [u32_xor_nat _ _ lu3 lu4, hu]
                        obtain ⟨s1, hs1⟩ : ∃ zz, zz = (x16 + x7) % 4294967296 := ⟨_, rfl⟩
                        have es1 : ((x16 : Int) + (x7 : Int)) % 4294967296 = (s1 : Int) := by omega
                        have ls1 : s1 < 4294967296 := by omega
                        have ws1 : IntKind.u32.wrap ((x16 : Int) + (x7 : Int)) = (s1 : Int) := by simp [IntKind.wrap, IntKind.bits, IntKind.signed]; omega
                        obtain ⟨s2, hs2⟩ : ∃ zz, zz = (s1 + f) % 4294967296 := ⟨_, rfl⟩
                        have es2 : ((s1 : Int) + (f : Int)) % 4294967296 = (s2 : Int) := by omega
                        have ls2 : s2 < 4294967296 := by omega
                        have ws2 : IntKind.u32.wrap ((s1 : Int) + (f : Int)) = (s2 : Int) := by simp [IntKind.wrap, IntKind.bits, IntKind.signed]; omega
                        obtain ⟨s3, hs3⟩ : ∃ zz, zz = (s2 + u) % 4294967296 := ⟨_, rfl⟩
                        have es3 : ((s2 : Int) + (u : Int)) % 4294967296 = (s3 : Int) := by omega
                        have ls3 : s3 < 4294967296 := by omega
                        have ws3 : IntKind.u32.wrap ((s2 : Int) + (u : Int)) = (s3 : Int) := by simp [IntKind.wrap, IntKind.bits, IntKind.signed]; omega
                        have HE2 := Lib.hid (show extN (packN bb 64) (t + 1 - 16) = L.set t s3 by
                          rw [HE.out]
                          unfold extS sigN
                          rw [← hp16, ← hp7, ← hp15, ← hp2, ← hx16, ← hx7, ← hx15, ← hx2, ← hf1, ← hf2, ← hf4, ← hf3, ← hf, ← hu1, ← hu2, ← hu4, ← hu3, ← hu, ← hs1, ← hs2, ← hs3])
                        have hft := HLA.out.frozen t
                        have hkt := HLA.out.cell t (by rw [hlR.out]; exact hltt)
                        have wt : IntKind.i64.wrap (t : Int) = (t : Int) := by simp [IntKind.wrap, IntKind.bits, IntKind.signed]; omega
                        have it : (t : Int) < 64 := by omega
                        clear hp16 hp7 hp15 hp2 hx16 hx7 hx15 hx2 hf1 hf2 hf3 hf4 hf hu1 hu2 hu3 hu4 hu hs1 hs2 hs3 HE
                        go_wp2_with fail
                        go_still_tail 29, (by kernel_rfl)
                        still_call (right_s x15 7 f1 _ (by decide) rfl lx15 Rf1.out _)
                        repeat still_step
                        still_call (right_s x15 18 f2 _ (by decide) rfl lx15 Rf2.out _)
                        repeat still_step
                        still_call (down_s x15 3 f4 _ (by decide) rfl lx15 Rf4.out _)
                        repeat still_step
                        still_call (right_s x2 17 u1 _ (by decide) rfl lx2 Ru1.out _)
                        repeat still_step
                        still_call (right_s x2 19 u2 _ (by decide) rfl lx2 Ru2.out _)
                        repeat still_step
                        still_call (down_s x2 10 u4 _ (by decide) rfl lx2 Ru4.out _)
                        repeat still_step
                        refine wpStill_nil ?_
                        change wpList _ _ _ _ _ wr.drew
                        have hkt2 : wr.drew.cell? ⟨gw, t, none⟩ = some (.int .u32 ((L[t]?.getD 0 : Nat) : Int)) := hkt
                        have hft2 : wr.drew.frozen? ⟨gw, t, none⟩ = false := hft
                        go_wp2
                        go_roundw
                        case rel => exact ⟨t + 1, by go_num, by omega, by omega, HOS.out.drew.set HO4.out t _, by rw [HE2.out]; exact Arr.stored (w := wr.drew) HLA.out t s3 _ rfl⟩
                        case measure => simp [intOf] <;> omega
                    · have htR : t = 64 := by omega
                      have tt : decide ((t : Int) < 64) = false := by simp; omega
                      have HP := Lib.hid hI.out.1
                      have HSC := Lib.hid (show Arr .u32 97 wr gw (schedN bb) by have := hI.out.2; rw [htR] at this; exact this)
                      have HSL := Lib.hid (schedN_len bb)
                      have HSB := Lib.hid (schedN_lt bb HBY.out)
                      have HWL := Lib.hid (wsK_len 256 M j)
                      have HWB := Lib.hid (wsK_lt 256 M j)
                      have HNXT := Lib.hid (show wsK 256 M (j + 1) = addTo (wsK 256 M j) (rdsN (wsK 256 M j) (schedN bb) 64) 8 by
                        rw [HBB.out, HAT.out]
                        rfl)
                      clear hI htR hltt ht1 ht2 hlR hltR HPA
                      generalize schedN bb = sc at *
                      generalize wsK 256 M j = H at *
                      go_wp2_with (first | (refine wpList_load8 rfl _ rfl gh H rfl HP.out.h HWL.out ?_) | (refine wpList_store8 rfl _ _ rfl wr.heap.size z8 H rfl rfl (Go.heap_alloc_new wr _) rfl HWL.out ?_))
                      have HFR := Lib.hid (below_fresh (Below.refl wr.heap.size wr) (Nat.le_refl _) (.cells (arrC .u32 z8) 98) (arrC .u32 H))
                      have HGS := Lib.hid (show Arr .u32 98 ((wr.alloc (.cells (arrC .u32 z8) 98)).setRow wr.heap.size (arrC .u32 H)) wr.heap.size H from Arr.laid (l := z8) (Go.heap_alloc_new wr _) H)
                      have HO5 := Lib.hid (HP.out.beside (by omega))
                      have hws := Lib.hid (show gw ≠ wr.heap.size from Nat.ne_of_lt HSC.out.lt)
                      have HSC := Lib.hid (HSC.out.below HFR.out HSC.out.lt)
                      have HP := Lib.hid (HP.out.on HFR.out)
                      clear HFR
                      generalize (wr.alloc (.cells (arrC .u32 z8) 98)).setRow wr.heap.size (arrC .u32 H) = W3 at *
                      generalize wr.heap.size = gs at *
                      go_wp2_with fail
                      go_loopw [21] (fun iv wq => ∃ i : Nat, iv = .int .i64 (i : Int) ∧ i ≤ 64 ∧ Hid (OfS w wq gk gh gm ml cm H M ∧ Arr .u32 97 wq gw sc ∧ Arr .u32 98 wq gs (rdsN H sc i))) (fun iv _ => 64 - (intOf iv).toNat)
                      case atStart => exact ⟨0, rfl, by decide, HP.out, HSC.out, HGS.out⟩
                      case round =>
                        obtain ⟨i, rfl, hii, hI⟩ := hrel
                        by_cases hlti : i < 64
                        · skip
                          have hVl := Lib.hid (rdsN_len H sc HWL.out i)
                          have hVb := Lib.hid (rdsN_lt H sc HWB.out i)
                          have cv0 := hI.out.2.2.cell 0 (by rw [hVl.out]; decide)
                          obtain ⟨a, ha⟩ : ∃ x, x = g0 (rdsN H sc i) 0 := ⟨_, rfl⟩
                          have la : a < 4294967296 := ha ▸ g0_lt hVb.out (by decide) 0
                          rw [show (rdsN H sc i)[0]?.getD 0 = a from ha.symm] at cv0
                          have cv1 := hI.out.2.2.cell 1 (by rw [hVl.out]; decide)
                          obtain ⟨b, hb⟩ : ∃ x, x = g0 (rdsN H sc i) 1 := ⟨_, rfl⟩
                          have lb : b < 4294967296 := hb ▸ g0_lt hVb.out (by decide) 1
                          rw [show (rdsN H sc i)[1]?.getD 0 = b from hb.symm] at cv1
                          have cv2 := hI.out.2.2.cell 2 (by rw [hVl.out]; decide)
                          obtain ⟨c, hc⟩ : ∃ x, x = g0 (rdsN H sc i) 2 := ⟨_, rfl⟩
                          have lc : c < 4294967296 := hc ▸ g0_lt hVb.out (by decide) 2
                          rw [show (rdsN H sc i)[2]?.getD 0 = c from hc.symm] at cv2
                          have cv3 := hI.out.2.2.cell 3 (by rw [hVl.out]; decide)
                          obtain ⟨d, hd⟩ : ∃ x, x = g0 (rdsN H sc i) 3 := ⟨_, rfl⟩
                          have ld : d < 4294967296 := hd ▸ g0_lt hVb.out (by decide) 3
                          rw [show (rdsN H sc i)[3]?.getD 0 = d from hd.symm] at cv3
                          have cv4 := hI.out.2.2.cell 4 (by rw [hVl.out]; decide)
                          obtain ⟨e, he⟩ : ∃ x, x = g0 (rdsN H sc i) 4 := ⟨_, rfl⟩
                          have le : e < 4294967296 := he ▸ g0_lt hVb.out (by decide) 4
                          rw [show (rdsN H sc i)[4]?.getD 0 = e from he.symm] at cv4
                          have cv5 := hI.out.2.2.cell 5 (by rw [hVl.out]; decide)
                          obtain ⟨f, hf⟩ : ∃ x, x = g0 (rdsN H sc i) 5 := ⟨_, rfl⟩
                          have lf : f < 4294967296 := hf ▸ g0_lt hVb.out (by decide) 5
                          rw [show (rdsN H sc i)[5]?.getD 0 = f from hf.symm] at cv5
                          have cv6 := hI.out.2.2.cell 6 (by rw [hVl.out]; decide)
                          obtain ⟨m, hm⟩ : ∃ x, x = g0 (rdsN H sc i) 6 := ⟨_, rfl⟩
                          have lm : m < 4294967296 := hm ▸ g0_lt hVb.out (by decide) 6
                          rw [show (rdsN H sc i)[6]?.getD 0 = m from hm.symm] at cv6
                          have cv7 := hI.out.2.2.cell 7 (by rw [hVl.out]; decide)
                          obtain ⟨h, hh⟩ : ∃ x, x = g0 (rdsN H sc i) 7 := ⟨_, rfl⟩
                          have lh : h < 4294967296 := hh ▸ g0_lt hVb.out (by decide) 7
                          rw [show (rdsN H sc i)[7]?.getD 0 = h from hh.symm] at cv7
                          have ck := hI.out.1.k.cell i (by rw [kL_len]; exact hlti)
                          obtain ⟨k, hk⟩ : ∃ x, x = g0 kL i := ⟨_, rfl⟩
                          have lk : k < 4294967296 := hk ▸ g0_lt kL_lt (by decide) i
                          rw [show kL[i]?.getD 0 = k from hk.symm] at ck
                          have cu := hI.out.2.1.cell i (by rw [HSL.out]; exact hlti)
                          obtain ⟨u, hu⟩ : ∃ x, x = g0 sc i := ⟨_, rfl⟩
                          have lu : u < 4294967296 := hu ▸ g0_lt HSB.out (by decide) i
                          rw [show sc[i]?.getD 0 = u from hu.symm] at cu
                          have HE := Lib.hid (show rdsN H sc (i + 1) = [(yN e f m h k u + zN a b c) % 4294967296, a, b, c, (d + yN e f m h k u) % 4294967296, e, f, m] by rw [ha, hb, hc, hd, he, hf, hm, hh, hk, hu]; rfl)
                          clear ha hb hc hd he hf hm hh hk hu
                          obtain ⟨r1, hr1⟩ : ∃ zz, zz = rotr e 6 := ⟨_, rfl⟩
                          have lr1 : r1 < 4294967296 := hr1 ▸ rotr_lt le
                          have Rr1 := Lib.hid hr1
                          obtain ⟨r2, hr2⟩ : ∃ zz, zz = rotr e 11 := ⟨_, rfl⟩
                          have lr2 : r2 < 4294967296 := hr2 ▸ rotr_lt le
                          have Rr2 := Lib.hid hr2
                          obtain ⟨r3, hr3⟩ : ∃ zz, zz = rotr e 25 := ⟨_, rfl⟩
                          have lr3 : r3 < 4294967296 := hr3 ▸ rotr_lt le
                          have Rr3 := Lib.hid hr3
                          obtain ⟨r4, hr4⟩ : ∃ zz, zz = r1 ^^^ r2 := ⟨_, rfl⟩
                          have lr4 : r4 < 4294967296 := by rw [hr4]; exact Nat.xor_lt_two_pow (n := 32) lr1 lr2
                          have er4 : bits BinOp.xor IntKind.u32 (r1 : Int) (r2 : Int) = (r4 : Int) := by rw [u32_xor_nat _ _ lr1 lr2, hr4]
                          obtain ⟨r5, hr5⟩ : ∃ zz, zz = r4 ^^^ r3 := ⟨_, rfl⟩
                          have lr5 : r5 < 4294967296 := by rw [hr5]; exact Nat.xor_lt_two_pow (n := 32) lr4 lr3
                          have er5 : bits BinOp.xor IntKind.u32 (r4 : Int) (r3 : Int) = (r5 : Int) := by rw [u32_xor_nat _ _ lr4 lr3, hr5]
                          obtain ⟨q1, hq1⟩ : ∃ zz, zz = rotr a 2 := ⟨_, rfl⟩
                          have lq1 : q1 < 4294967296 := hq1 ▸ rotr_lt la
                          have Rq1 := Lib.hid hq1
                          obtain ⟨q2, hq2⟩ : ∃ zz, zz = rotr a 13 := ⟨_, rfl⟩
                          have lq2 : q2 < 4294967296 := hq2 ▸ rotr_lt la
                          have Rq2 := Lib.hid hq2
                          obtain ⟨q3, hq3⟩ : ∃ zz, zz = rotr a 22 := ⟨_, rfl⟩
                          have lq3 : q3 < 4294967296 := hq3 ▸ rotr_lt la
                          have Rq3 := Lib.hid hq3
                          obtain ⟨q4, hq4⟩ : ∃ zz, zz = q1 ^^^ q2 := ⟨_, rfl⟩
                          have lq4 : q4 < 4294967296 := by rw [hq4]; exact Nat.xor_lt_two_pow (n := 32) lq1 lq2
                          have eq4 : bits BinOp.xor IntKind.u32 (q1 : Int) (q2 : Int) = (q4 : Int) := by rw [u32_xor_nat _ _ lq1 lq2, hq4]
                          obtain ⟨q5, hq5⟩ : ∃ zz, zz = q4 ^^^ q3 := ⟨_, rfl⟩
                          have lq5 : q5 < 4294967296 := by rw [hq5]; exact Nat.xor_lt_two_pow (n := 32) lq4 lq3
                          have eq5 : bits BinOp.xor IntKind.u32 (q4 : Int) (q3 : Int) = (q5 : Int) := by rw [u32_xor_nat _ _ lq4 lq3, hq5]
                          obtain ⟨s1, hs1⟩ : ∃ zz, zz = (h + k) % 4294967296 := ⟨_, rfl⟩
                          have es1 : ((h : Int) + (k : Int)) % 4294967296 = (s1 : Int) := by omega
                          have ls1 : s1 < 4294967296 := by omega
                          have ws1 : IntKind.u32.wrap ((h : Int) + (k : Int)) = (s1 : Int) := by simp [IntKind.wrap, IntKind.bits, IntKind.signed]; omega
                          obtain ⟨s2, hs2⟩ : ∃ zz, zz = (s1 + u) % 4294967296 := ⟨_, rfl⟩
                          have es2 : ((s1 : Int) + (u : Int)) % 4294967296 = (s2 : Int) := by omega
                          have ls2 : s2 < 4294967296 := by omega
                          have ws2 : IntKind.u32.wrap ((s1 : Int) + (u : Int)) = (s2 : Int) := by simp [IntKind.wrap, IntKind.bits, IntKind.signed]; omega
                          obtain ⟨s3, hs3⟩ : ∃ zz, zz = (s2 + r5) % 4294967296 := ⟨_, rfl⟩
                          have es3 : ((s2 : Int) + (r5 : Int)) % 4294967296 = (s3 : Int) := by omega
                          have ls3 : s3 < 4294967296 := by omega
                          have ws3 : IntKind.u32.wrap ((s2 : Int) + (r5 : Int)) = (s3 : Int) := by simp [IntKind.wrap, IntKind.bits, IntKind.signed]; omega
                          obtain ⟨A1, hA1⟩ : ∃ zz, zz = e &&& f := ⟨_, rfl⟩
                          have lA1 : A1 < 4294967296 := by rw [hA1]; exact Nat.and_lt_two_pow (n := 32) e lf
                          have eA1 : bits BinOp.and IntKind.u32 (e : Int) (f : Int) = (A1 : Int) := by rw [u32_and_nat _ _ le lf, hA1]
                          obtain ⟨N1, hN1⟩ : ∃ x, x = 4294967295 - e := ⟨_, rfl⟩
                          have lN1 : N1 < 4294967296 := by omega
                          have eN1 : (4294967295 : Int) - (e : Int) = (N1 : Int) := by omega
                          obtain ⟨A2, hA2⟩ : ∃ zz, zz = N1 &&& m := ⟨_, rfl⟩
                          have lA2 : A2 < 4294967296 := by rw [hA2]; exact Nat.and_lt_two_pow (n := 32) N1 lm
                          have eA2 : bits BinOp.and IntKind.u32 (N1 : Int) (m : Int) = (A2 : Int) := by rw [u32_and_nat _ _ lN1 lm, hA2]
                          obtain ⟨X1, hX1⟩ : ∃ zz, zz = A1 ||| A2 := ⟨_, rfl⟩
                          have lX1 : X1 < 4294967296 := by rw [hX1]; exact Nat.or_lt_two_pow (n := 32) lA1 lA2
                          have eX1 : bits BinOp.or IntKind.u32 (A1 : Int) (A2 : Int) = (X1 : Int) := by rw [u32_or_nat _ _ lA1 lA2, hX1]
                          obtain ⟨y, hy⟩ : ∃ zz, zz = (s3 + X1) % 4294967296 := ⟨_, rfl⟩
                          have ey : ((s3 : Int) + (X1 : Int)) % 4294967296 = (y : Int) := by omega
                          have ly : y < 4294967296 := by omega
                          have wy : IntKind.u32.wrap ((s3 : Int) + (X1 : Int)) = (y : Int) := by simp [IntKind.wrap, IntKind.bits, IntKind.signed]; omega
                          obtain ⟨B1, hB1⟩ : ∃ zz, zz = a &&& b := ⟨_, rfl⟩
                          have lB1 : B1 < 4294967296 := by rw [hB1]; exact Nat.and_lt_two_pow (n := 32) a lb
                          have eB1 : bits BinOp.and IntKind.u32 (a : Int) (b : Int) = (B1 : Int) := by rw [u32_and_nat _ _ la lb, hB1]
                          obtain ⟨B2, hB2⟩ : ∃ zz, zz = a &&& c := ⟨_, rfl⟩
                          have lB2 : B2 < 4294967296 := by rw [hB2]; exact Nat.and_lt_two_pow (n := 32) a lc
                          have eB2 : bits BinOp.and IntKind.u32 (a : Int) (c : Int) = (B2 : Int) := by rw [u32_and_nat _ _ la lc, hB2]
                          obtain ⟨B3, hB3⟩ : ∃ zz, zz = b &&& c := ⟨_, rfl⟩
                          have lB3 : B3 < 4294967296 := by rw [hB3]; exact Nat.and_lt_two_pow (n := 32) b lc
                          have eB3 : bits BinOp.and IntKind.u32 (b : Int) (c : Int) = (B3 : Int) := by rw [u32_and_nat _ _ lb lc, hB3]
                          obtain ⟨X2, hX2⟩ : ∃ zz, zz = B1 ||| B2 := ⟨_, rfl⟩
                          have lX2 : X2 < 4294967296 := by rw [hX2]; exact Nat.or_lt_two_pow (n := 32) lB1 lB2
                          have eX2 : bits BinOp.or IntKind.u32 (B1 : Int) (B2 : Int) = (X2 : Int) := by rw [u32_or_nat _ _ lB1 lB2, hX2]
                          obtain ⟨X3, hX3⟩ : ∃ zz, zz = X2 ||| B3 := ⟨_, rfl⟩
                          have lX3 : X3 < 4294967296 := by rw [hX3]; exact Nat.or_lt_two_pow (n := 32) lX2 lB3
                          have eX3 : bits BinOp.or IntKind.u32 (X2 : Int) (B3 : Int) = (X3 : Int) := by rw [u32_or_nat _ _ lX2 lB3, hX3]
                          obtain ⟨z, hz⟩ : ∃ zz, zz = (q5 + X3) % 4294967296 := ⟨_, rfl⟩
                          have ez : ((q5 : Int) + (X3 : Int)) % 4294967296 = (z : Int) := by omega
                          have lz : z < 4294967296 := by omega
                          have wz : IntKind.u32.wrap ((q5 : Int) + (X3 : Int)) = (z : Int) := by simp [IntKind.wrap, IntKind.bits, IntKind.signed]; omega
                          obtain ⟨n0, hn0⟩ : ∃ zz, zz = (y + z) % 4294967296 := ⟨_, rfl⟩
                          have en0 : ((y : Int) + (z : Int)) % 4294967296 = (n0 : Int) := by omega
                          have ln0 : n0 < 4294967296 := by omega
                          have wn0 : IntKind.u32.wrap ((y : Int) + (z : Int)) = (n0 : Int) := by simp [IntKind.wrap, IntKind.bits, IntKind.signed]; omega
                          obtain ⟨n4, hn4⟩ : ∃ zz, zz = (d + y) % 4294967296 := ⟨_, rfl⟩
                          have en4 : ((d : Int) + (y : Int)) % 4294967296 = (n4 : Int) := by omega
                          have ln4 : n4 < 4294967296 := by omega
                          have wn4 : IntKind.u32.wrap ((d : Int) + (y : Int)) = (n4 : Int) := by simp [IntKind.wrap, IntKind.bits, IntKind.signed]; omega
                          have HE2 := Lib.hid (show rdsN H sc (i + 1) = [n0, a, b, c, n4, e, f, m] by
                            have h1 : yN e f m h k u = y := by unfold yN laidN; rw [← ch_eq e f m le, ← hr1, ← hr2, ← hr3, ← hr4, ← hr5, ← hN1, ← hA1, ← hA2, ← hX1, ← hs1, ← hs2, ← hs3, ← hy]
                            have h2 : zN a b c = z := by unfold zN laidN; rw [← maj_eq a b c, ← hq1, ← hq2, ← hq3, ← hq4, ← hq5, ← hB1, ← hB2, ← hB3, ← hX2, ← hX3, ← hz]
                            rw [HE.out, h1, h2, ← hn0, ← hn4])
                          clear HE hr1 hr2 hr3 hr4 hr5 hq1 hq2 hq3 hq4 hq5 hs1 hs2 hs3 hA1 hN1 hA2 hX1 hy hB1 hB2 hB3 hX2 hX3 hz hn0 hn4
                          have HI := Lib.hid hI.out
                          clear hI
                          go_wp2_with fail
                          refine wp_region_quiet_lit (by kernel_rfl) (by kernel_rfl) ?_
                          go_big_quiet_step (fail)
                          go_big_quiet_step (fail)
                          go_big_quiet_step (fail)
                          go_big_quiet_step (fail)
                          go_big_quiet_step (fail)
                          go_big_quiet_step (fail)
                          go_big_quiet_step (fail)
                          go_big_quiet_step (fail)
                          go_big_quiet_step (fail)
                          go_big_quiet_step (fail)
                          go_big_quiet_step (fail)
                          go_big_quiet_step ((go_at_call 55; exact Calls.quiet_of_same (right_s e 6 r1 _ (by decide) rfl le Rr1.out _)))
                          go_big_quiet_step (fail)
                          go_big_quiet_step ((go_at_call 55; exact Calls.quiet_of_same (right_s e 11 r2 _ (by decide) rfl le Rr2.out _)))
                          go_big_quiet_step (fail)
                          go_big_quiet_step (fail)
                          go_big_quiet_step ((go_at_call 55; exact Calls.quiet_of_same (right_s e 25 r3 _ (by decide) rfl le Rr3.out _)))
                          go_big_quiet_step (fail)
                          go_big_quiet_step (fail)
                          go_big_quiet_step (fail)
                          go_big_quiet_step (fail)
                          go_big_quiet_step (fail)
                          go_big_quiet_step (fail)
                          go_big_quiet_step (fail)
                          go_big_quiet_step (fail)
                          go_big_quiet_step (fail)
                          go_big_quiet_step (fail)
                          go_big_quiet_step (fail)
                          go_big_quiet_step (fail)
                          go_big_quiet_step (fail)
                          go_big_quiet_step (fail)
                          refine wpQuiet_nil ?_
                          intro _ hw1
                          obtain ⟨nq, hw2⟩ := hw1
                          subst hw2
                          have q5 : Hid (OfS w (wr.drewN nq) gk gh gm ml cm H M ∧ Arr .u32 97 (wr.drewN nq) gw sc ∧ Arr .u32 98 (wr.drewN nq) gs (rdsN H sc i)) := ⟨HI.out.1.drewN nq, HI.out.2.1, HI.out.2.2⟩
                          have d0 : (wr.drewN nq).cell? ⟨gs, 0, none⟩ = some (.int .u32 (a : Int)) := cv0
                          have d1 : (wr.drewN nq).cell? ⟨gs, 1, none⟩ = some (.int .u32 (b : Int)) := cv1
                          have d2 : (wr.drewN nq).cell? ⟨gs, 2, none⟩ = some (.int .u32 (c : Int)) := cv2
                          have d3 : (wr.drewN nq).cell? ⟨gs, 3, none⟩ = some (.int .u32 (d : Int)) := cv3
                          have d4 : (wr.drewN nq).cell? ⟨gs, 4, none⟩ = some (.int .u32 (e : Int)) := cv4
                          have d5 : (wr.drewN nq).cell? ⟨gs, 5, none⟩ = some (.int .u32 (f : Int)) := cv5
                          have d6 : (wr.drewN nq).cell? ⟨gs, 6, none⟩ = some (.int .u32 (m : Int)) := cv6
                          generalize wr.drewN nq = w5 at *
                          clear cv0 cv1 cv2 cv3 cv4 cv5 cv6 cv7 ck cu HI
                          have hff := q5.out.2.2.frozen
                          have ff0 := hff 0
                          have ff1 := hff 1
                          have ff2 := hff 2
                          have ff3 := hff 3
                          have ff4 := hff 4
                          have ff5 := hff 5
                          have ff6 := hff 6
                          have ff7 := hff 7
                          have c7 := q5.out.2.2.cell 7 (by rw [hVl.out]; decide)
                          clear hff
                          go_wp2_with fail
                          refine wp_region_quiet_lit (by kernel_rfl) (by kernel_rfl) ?_
                          go_big_quiet_step (fail)
                          go_big_quiet_step ((go_at_call 55; exact Calls.quiet_of_same (right_s a 2 q1 _ (by decide) rfl la Rq1.out _)))
                          go_big_quiet_step (fail)
                          go_big_quiet_step ((go_at_call 55; exact Calls.quiet_of_same (right_s a 13 q2 _ (by decide) rfl la Rq2.out _)))
                          go_big_quiet_step (fail)
                          go_big_quiet_step (fail)
                          go_big_quiet_step ((go_at_call 55; exact Calls.quiet_of_same (right_s a 22 q3 _ (by decide) rfl la Rq3.out _)))
                          go_big_quiet_step (fail)
                          go_big_quiet_step (fail)
                          go_big_quiet_step (fail)
                          go_big_quiet_step (fail)
                          go_big_quiet_step (fail)
                          go_big_quiet_step (fail)
                          go_big_quiet_step (fail)
                          go_big_quiet_step (fail)
                          go_big_quiet_step (fail)
                          go_big_quiet_step (fail)
                          go_big_quiet_step (fail)
                          go_big_quiet_step (fail)
                          go_big_quiet_step (fail)
                          go_big_quiet_step (fail)
                          go_big_quiet_step (fail)
                          go_big_quiet_step (fail)
                          go_big_quiet_step (fail)
                          go_big_quiet_step (fail)
                          refine wpQuiet_nil ?_
                          intro _ hw1
                          obtain ⟨nq, hw2⟩ := hw1
                          subst hw2
                          clear hz8 hzR
                          go_wp2
                          go_roundw
                          case rel =>
                            refine ⟨i + 1, by go_num, by omega, ?_⟩
                            rw [HE2.out, ← set8 hVl.out n0 a b c n4 e f m]
                            exact ⟨(((((((((q5.out.1.drewN nq).set HO5.out 0 _).set HO5.out 1 _).set HO5.out 2 _).set HO5.out 3 _).set HO5.out 4 _).set HO5.out 5 _).set HO5.out 6 _).set HO5.out 7 _), (((((((((show Arr .u32 97 (w5.drewN nq) gw sc from q5.out.2.1).other _ _ hws.out).other _ _ hws.out).other _ _ hws.out).other _ _ hws.out).other _ _ hws.out).other _ _ hws.out).other _ _ hws.out).other _ _ hws.out), (((((((((show Arr .u32 98 (w5.drewN nq) gs (rdsN H sc i) from q5.out.2.2).stored 0 n0 _ rfl).stored 1 a _ rfl).stored 2 b _ rfl).stored 3 c _ rfl).stored 4 n4 _ rfl).stored 5 e _ rfl).stored 6 f _ rfl).stored 7 m _ rfl)⟩
                          case measure => simp [intOf] <;> omega
                        · have hiR : i = 64 := by omega
                          have tiR : decide ((i : Int) < 64) = false := by simp; omega
                          have HA8 := Lib.hid (show OfS w wr gk gh gm ml cm (addTo H (rdsN H sc 64) 0) M from hI.out.1)
                          have HGV := Lib.hid (show Arr .u32 98 wr gs (rdsN H sc 64) by have := hI.out.2.2; rw [hiR] at this; exact this)
                          have HVL := Lib.hid (rdsN_len H sc HWL.out 64)
                          have HVB := Lib.hid (rdsN_lt H sc HWB.out 64)
                          generalize rdsN H sc 64 = v at *
                          clear hI hiR hlti hii HP HSC HGS
                          go_wp2_with fail
                          go_loopw [26] (fun iv wq => ∃ g : Nat, iv = .int .i64 (g : Int) ∧ g ≤ 8 ∧ Hid (OfS w wq gk gh gm ml cm (addTo H v g) M ∧ Arr .u32 98 wq gs v)) (fun iv _ => 8 - (intOf iv).toNat)
                          case atStart => exact ⟨0, rfl, by decide, HA8.out, HGV.out⟩
                          case round =>
                            obtain ⟨g, rfl, hg, hI⟩ := hrel
                            by_cases hltg : g < 8
                            · have cx := hI.out.1.h.cell g (by rw [addTo_len H v HWL.out]; exact hltg)
                              have fx := hI.out.1.h.frozen g
                              have cy := hI.out.2.cell g (by rw [HVL.out]; exact hltg)
                              obtain ⟨x, hx⟩ : ∃ x, x = g0 (addTo H v g) g := ⟨_, rfl⟩
                              obtain ⟨y, hy⟩ : ∃ y, y = g0 v g := ⟨_, rfl⟩
                              have lx : x < 4294967296 := hx ▸ g0_lt (addTo_lt H v HWB.out g) (by decide) g
                              have ly : y < 4294967296 := hy ▸ g0_lt HVB.out (by decide) g
                              rw [show (addTo H v g)[g]?.getD 0 = x from hx.symm] at cx
                              rw [show v[g]?.getD 0 = y from hy.symm] at cy
                              obtain ⟨s, hs⟩ : ∃ s, s = (x + y) % 4294967296 := ⟨_, rfl⟩
                              have ls : s < 4294967296 := by omega
                              have es : ((x : Int) + (y : Int)) % 4294967296 = (s : Int) := by omega
                              have HE := Lib.hid (show addTo H v (g + 1) = (addTo H v g).set g s by rw [hs, hx, hy]; rfl)
                              have HI := Lib.hid hI.out
                              clear hx hy hs hI
                              go_wp2_with fail
                              go_region
                              all_goals go_wp2
                              all_goals go_roundw
                              case rel => exact ⟨g + 1, by go_num, by omega, by rw [HE.out]; exact (HI.out.1.seth g s _ rfl).drew, Arr.other (w := wr) HI.out.2 _ _ (fun e => HO5.out.ne.2.1 e.symm)⟩
                              case measure => simp [intOf] <;> omega
                            · have hg8 : g = 8 := by omega
                              have tg : decide ((g : Int) < 8) = false := by simp; omega
                              have HN := Lib.hid (show OfS w wr gk gh gm ml cm (wsK 256 M (j + 1)) M by have := hI.out.1; rw [hg8, ← HNXT.out] at this; exact this)
                              clear hI hg8 hltg hg
                              go_wp2
                              go_roundw
                              case rel => exact ⟨j + 1, at' + 64, by go_num, by omega, by omega, by show at' + 64 = 64 * (j + 1); rw [HAT.out]; omega, HN.out⟩
                              case measure => simp [intOf] <;> omega
            · have hjn : j = nb := by omega
              have hatm : at' = ml := by rw [hI.out.1, HNB.out, hjn]
              have tJ : decide (at' < ml) = false := by simp; omega
              have HF := Lib.hid (show OfS w wr gk gh gm ml cm (wsK 256 M nb) M by have := hI.out.2; rw [hjn] at this; exact this)
              have HHR := Lib.hid (show bytesW (wsK 256 M nb) (256 / 32) = hashN 256 bl by
                rw [HM.out]
                exact hash_ref 256 (by decide) bl nb (by rw [← HM.out, ← HML.out, HNB.out]))
              have HWL := Lib.hid (wsK_len 256 M nb)
              have HWB := Lib.hid (wsK_lt 256 M nb)
              generalize wsK 256 M nb = H at *
              clear hI hjn hatm hlt hj hat HS
              go_wp2_with fail
              obtain ⟨i0, hi0, hz0, hz1, hz2⟩ := info_parts infoB
              obtain ⟨wE, rfl⟩ : ∃ x, x = wr := ⟨_, rfl⟩
              go_loopw [27, 28] (fun ov iv wq => ∃ (i m9 c9 : Nat) (a9 : Option Addr), ov = .slice a9 m9 c9 ∧ iv = .int .i64 (i : Int) ∧ i ≤ 8 ∧ Hid (OwnQ .u8 5 wE.heap.size wq (.slice a9 m9 c9) (bytesW H i) ∧ Below wE.heap.size wE wq)) (fun _ iv _ => 8 - (intOf iv).toNat)
              case atStart => exact ⟨0, 0, 0, none, rfl, rfl, by decide, OwnQ.nil _ _ _ _, Below.refl _ _⟩
              case round =>
                obtain ⟨i, m9, c9, a9, rfl, rfl, hi, hI⟩ := hrel
                by_cases hlti : i < 8
                · as_aux_lemma =>
                    have cx := (HF.out.on hI.out.2).h.cell i (by rw [HWL.out]; omega)
                    obtain ⟨x, hx⟩ : ∃ x, x = g0 H i := ⟨_, rfl⟩
                    have lx : x < 4294967296 := hx ▸ g0_lt HWB.out (by decide) i
                    have HX := Lib.hid (show H[i]?.getD 0 = x from hx.symm)
                    rw [HX.out] at cx
                    obtain ⟨y0, hy0⟩ : ∃ y, y = x / 16777216 := ⟨_, rfl⟩
                    obtain ⟨z1, hz1'⟩ : ∃ y, y = x / 65536 := ⟨_, rfl⟩
                    obtain ⟨y1, hy1⟩ : ∃ y, y = z1 % 256 := ⟨_, rfl⟩
                    obtain ⟨z2, hz2'⟩ : ∃ y, y = x / 256 := ⟨_, rfl⟩
                    obtain ⟨y2, hy2⟩ : ∃ y, y = z2 % 256 := ⟨_, rfl⟩
                    obtain ⟨y3, hy3⟩ : ∃ y, y = x % 256 := ⟨_, rfl⟩
                    have e0 : (x : Int) / 16777216 = (y0 : Int) := by omega
                    have e1 : (x : Int) / 65536 = (z1 : Int) := by omega
                    have e1' : (z1 : Int) % 256 = (y1 : Int) := by omega
                    have e2 : (x : Int) / 256 = (z2 : Int) := by omega
                    have e2' : (z2 : Int) % 256 = (y2 : Int) := by omega
                    have e3 : (x : Int) % 256 = (y3 : Int) := by omega
                    have w0 : IntKind.u8.wrap (y0 : Int) = (y0 : Int) := by simp [IntKind.wrap, IntKind.bits, IntKind.signed]; omega
                    have w1 : IntKind.u8.wrap (y1 : Int) = (y1 : Int) := by simp [IntKind.wrap, IntKind.bits, IntKind.signed]; omega
                    have w2 : IntKind.u8.wrap (y2 : Int) = (y2 : Int) := by simp [IntKind.wrap, IntKind.bits, IntKind.signed]; omega
                    have w3 : IntKind.u8.wrap (y3 : Int) = (y3 : Int) := by simp [IntKind.wrap, IntKind.bits, IntKind.signed]; omega
                    have u0 : IntKind.u32.wrap (y0 : Int) = (y0 : Int) := by simp [IntKind.wrap, IntKind.bits, IntKind.signed]; omega
                    have u1 : IntKind.u32.wrap (z1 : Int) = (z1 : Int) := by simp [IntKind.wrap, IntKind.bits, IntKind.signed]; omega
                    have u2 : IntKind.u32.wrap (z2 : Int) = (z2 : Int) := by simp [IntKind.wrap, IntKind.bits, IntKind.signed]; omega
                    have v0 : IntKind.u8.wrap (IntKind.u32.wrap (y0 : Int)) = (y0 : Int) := by rw [u0, w0]
                    have v1 : IntKind.u8.wrap ((IntKind.u32.wrap (z1 : Int)).tmod 256) = (y1 : Int) := by rw [u1, Int.tmod_eq_emod_of_nonneg (by omega), e1', w1]
                    have v2 : IntKind.u8.wrap ((IntKind.u32.wrap (z2 : Int)).tmod 256) = (y2 : Int) := by rw [u2, Int.tmod_eq_emod_of_nonneg (by omega), e2', w2]
                    have v3 : IntKind.u8.wrap ((x : Int).tmod 256) = (y3 : Int) := by rw [Int.tmod_eq_emod_of_nonneg (by omega), e3, w3]
                    clear u0 u1 u2
                    have wi : IntKind.i64.wrap (i : Int) = (i : Int) := by simp [IntKind.wrap, IntKind.bits, IntKind.signed]; omega
                    have ii : (i : Int) < 8 := by omega
                    have HBS := Lib.hid (show bytesW H (i + 1) = bytesW H i ++ [y0, y1, y2, y3] by
                      rw [bytesW_succ, ← hx]
                      unfold wordB
                      rw [show x / 16777216 % 256 = y0 by omega, show x / 65536 % 256 = y1 by omega, show x / 256 % 256 = y2 by omega, ← hy3])
                    have HI := Lib.hid hI.out
                    have HBL2 := Lib.hid (bytesW_len H i)
                    clear hx hy0 hz1' hy1 hz2' hy2 hy3 hI
                    have HB8 := Lib.hid (show Below wE.heap.size wE wr.drew from HI.out.2.trans ((Below.refl _ _).drew.mono HI.out.2.size))
                    have HC := Lib.hid (show ∀ W, Below wE.heap.size wE W → W.cell? ⟨gh, i, none⟩ = some (.int .u32 (x : Int)) from fun W hb => by
                      have := (HF.out.on hb).h.cell i (by rw [HWL.out]; omega)
                      rwa [HX.out] at this)
                    go_wp2_with fail
                    refine wp_region_held_drew (S := fun W => W.cell? ⟨gh, i, none⟩ = some (.int .u32 (x : Int))) (by kernel_rfl) (HC.out _ HB8.out) (fun hHeld => ?_)
                    refine' wpAnyH_take (i := 0) (oi := _) (v := _) rfl (by kernel_rfl) (by kernel_rfl) (by kernel_rfl) (fun _ _ _ h => h) (Or.inl ⟨?_, ?_⟩) (by assumption) ?_
                    rotate_left
                    all_goals (try simp only [List.getElem_toArray, List.getElem_cons_zero])
                    · rfl
                    · intro W hSw; (try dsimp only at hSw); go_simp; (try with_reducible rfl)
                    try simp only [Act.put, List.setIfInBounds_toArray, List.set_cons_zero, List.set_cons_succ]
                    refine' wpAnyH_take (i := 1) (oi := _) (v := _) rfl (by kernel_rfl) (by kernel_rfl) (by kernel_rfl) (fun _ _ _ h => h) (Or.inl ⟨?_, ?_⟩) (by assumption) ?_
                    rotate_left
                    all_goals (try simp only [List.getElem_toArray, List.getElem_cons_succ, List.getElem_cons_zero])
                    · rfl
                    · intro W hSw; (try dsimp only at hSw); go_simp; (try with_reducible rfl)
                    try simp only [Act.put, List.setIfInBounds_toArray, List.set_cons_zero, List.set_cons_succ]
                    refine' wpAnyH_take (i := 2) (oi := _) (v := _) rfl (by kernel_rfl) (by kernel_rfl) (by kernel_rfl) (fun _ _ _ h => h) (Or.inl ⟨?_, ?_⟩) (by assumption) ?_
                    rotate_left
                    all_goals (try simp only [List.getElem_toArray, List.getElem_cons_succ, List.getElem_cons_zero])
                    · rfl
                    · intro W hSw; (try dsimp only at hSw); go_simp; (try with_reducible rfl)
                    try simp only [Act.put, List.setIfInBounds_toArray, List.set_cons_zero, List.set_cons_succ]
                    refine' wpAnyH_take (i := 3) (oi := _) (v := _) rfl (by kernel_rfl) (by kernel_rfl) (by kernel_rfl) (fun _ _ _ h => h) (Or.inl ⟨?_, ?_⟩) (by assumption) ?_
                    rotate_left
                    all_goals (try simp only [List.getElem_toArray, List.getElem_cons_succ, List.getElem_cons_zero])
                    · rfl
                    · intro W hSw; (try dsimp only at hSw); go_simp; (try with_reducible rfl)
                    try simp only [Act.put, List.setIfInBounds_toArray, List.set_cons_zero, List.set_cons_succ]
                    refine' wpAnyH_take (i := 4) (oi := _) (v := _) rfl (by kernel_rfl) (by kernel_rfl) (by kernel_rfl) (fun _ _ _ h => h) (Or.inl ⟨?_, ?_⟩) (by assumption) ?_
                    rotate_left
                    all_goals (try simp only [List.getElem_toArray, List.getElem_cons_succ, List.getElem_cons_zero])
                    · rfl
                    · intro W hSw; (try dsimp only at hSw); go_simp; (try with_reducible rfl)
                    try simp only [Act.put, List.setIfInBounds_toArray, List.set_cons_zero, List.set_cons_succ]
                    refine' wpAnyH_take (i := 5) (oi := _) (v := _) rfl (by kernel_rfl) (by kernel_rfl) (by kernel_rfl) (fun _ _ _ h => h) (Or.inl ⟨?_, ?_⟩) (by assumption) ?_
                    rotate_left
                    all_goals (try simp only [List.getElem_toArray, List.getElem_cons_succ, List.getElem_cons_zero])
                    · rfl
                    · intro W hSw; (try dsimp only at hSw); go_simp; (try with_reducible rfl)
                    try simp only [Act.put, List.setIfInBounds_toArray, List.set_cons_zero, List.set_cons_succ]
                    refine' wpAnyH_take (i := 6) (oi := _) (v := _) rfl (by kernel_rfl) (by kernel_rfl) (by kernel_rfl) (fun _ _ _ h => h) (Or.inl ⟨?_, ?_⟩) (by assumption) ?_
                    rotate_left
                    all_goals (try simp only [List.getElem_toArray, List.getElem_cons_succ, List.getElem_cons_zero])
                    · rfl
                    · intro W hSw; (try dsimp only at hSw); go_simp; (try with_reducible rfl)
                    try simp only [Act.put, List.setIfInBounds_toArray, List.set_cons_zero, List.set_cons_succ]
                    refine' wpAnyH_take (i := 7) (oi := _) (v := _) rfl (by kernel_rfl) (by kernel_rfl) (by kernel_rfl) (fun _ _ _ h => h) (Or.inl ⟨?_, ?_⟩) (by assumption) ?_
                    rotate_left
                    all_goals (try simp only [List.getElem_toArray, List.getElem_cons_succ, List.getElem_cons_zero])
                    · rfl
                    · intro W hSw; (try dsimp only at hSw); go_simp; (try with_reducible rfl)
                    try simp only [Act.put, List.setIfInBounds_toArray, List.set_cons_zero, List.set_cons_succ]
                    refine' wpAnyH_take (i := 8) (oi := _) (v := _) rfl (by kernel_rfl) (by kernel_rfl) (by kernel_rfl) (fun _ _ _ h => h) (Or.inl ⟨?_, ?_⟩) (by assumption) ?_
                    rotate_left
                    all_goals (try simp only [List.getElem_toArray, List.getElem_cons_succ, List.getElem_cons_zero])
                    · rfl
                    · intro W hSw; (try dsimp only at hSw); go_simp; (try with_reducible rfl)
                    try simp only [Act.put, List.setIfInBounds_toArray, List.set_cons_zero, List.set_cons_succ]
                    refine' wpAnyH_take (i := 9) (oi := _) (v := _) rfl (by kernel_rfl) (by kernel_rfl) (by kernel_rfl) (fun _ _ _ h => h) (Or.inl ⟨?_, ?_⟩) (by assumption) ?_
                    rotate_left
                    all_goals (try simp only [List.getElem_toArray, List.getElem_cons_succ, List.getElem_cons_zero])
                    · rfl
                    · intro W hSw; (try dsimp only at hSw); go_simp; (try with_reducible rfl)
                    try simp only [Act.put, List.setIfInBounds_toArray, List.set_cons_zero, List.set_cons_succ]
                    refine' wpAnyH_take (i := 10) (oi := _) (v := _) rfl (by kernel_rfl) (by kernel_rfl) (by kernel_rfl) (fun _ _ _ h => h) (Or.inl ⟨?_, ?_⟩) (by assumption) ?_
                    rotate_left
                    all_goals (try simp only [List.getElem_toArray, List.getElem_cons_succ, List.getElem_cons_zero])
                    · rfl
                    · intro W hSw; (try dsimp only at hSw); go_simp; (try with_reducible rfl)
                    try simp only [Act.put, List.setIfInBounds_toArray, List.set_cons_zero, List.set_cons_succ]
                    refine' wpAnyH_take (i := 11) (oi := _) (v := _) rfl (by kernel_rfl) (by kernel_rfl) (by kernel_rfl) (fun _ _ _ h => h) (Or.inl ⟨?_, ?_⟩) (by assumption) ?_
                    rotate_left
                    all_goals (try simp only [List.getElem_toArray, List.getElem_cons_succ, List.getElem_cons_zero])
                    · rfl
                    · intro W hSw; (try dsimp only at hSw); go_simp; (try with_reducible rfl)
                    try simp only [Act.put, List.setIfInBounds_toArray, List.set_cons_zero, List.set_cons_succ]
                    refine' wpAnyH_take (i := 12) (oi := _) (v := _) rfl (by kernel_rfl) (by kernel_rfl) (by kernel_rfl) (fun _ _ _ h => h) (Or.inl ⟨?_, ?_⟩) (by assumption) ?_
                    rotate_left
                    all_goals (try simp only [List.getElem_toArray, List.getElem_cons_succ, List.getElem_cons_zero])
                    · rfl
                    · intro W hSw; (try dsimp only at hSw); go_simp; (try with_reducible rfl)
                    try simp only [Act.put, List.setIfInBounds_toArray, List.set_cons_zero, List.set_cons_succ]
                    refine' wpAnyH_take (i := 13) (oi := _) (v := _) rfl (by kernel_rfl) (by kernel_rfl) (by kernel_rfl) (fun _ _ _ h => h) (Or.inl ⟨?_, ?_⟩) (by assumption) ?_
                    rotate_left
                    all_goals (try simp only [List.getElem_toArray, List.getElem_cons_succ, List.getElem_cons_zero])
                    · rfl
                    · intro W hSw; (try dsimp only at hSw); go_simp; (try with_reducible rfl)
                    try simp only [Act.put, List.setIfInBounds_toArray, List.set_cons_zero, List.set_cons_succ]
                    refine' wpAnyH_take (i := 14) (oi := _) (v := _) rfl (by kernel_rfl) (by kernel_rfl) (by kernel_rfl) (fun _ _ _ h => h) (Or.inl ⟨?_, ?_⟩) (by assumption) ?_
                    rotate_left
                    all_goals (try simp only [List.getElem_toArray, List.getElem_cons_succ, List.getElem_cons_zero])
                    · rfl
                    · intro W hSw; (try dsimp only at hSw); go_simp; (try with_reducible rfl)
                    try simp only [Act.put, List.setIfInBounds_toArray, List.set_cons_zero, List.set_cons_succ]
                    refine' wpAnyH_take (i := 15) (oi := _) (v := _) rfl (by kernel_rfl) (by kernel_rfl) (by kernel_rfl) (fun _ _ _ h => h) (Or.inl ⟨?_, ?_⟩) (by assumption) ?_
                    rotate_left
                    all_goals (try simp only [List.getElem_toArray, List.getElem_cons_succ, List.getElem_cons_zero])
                    · rfl
                    · intro W hSw; (try dsimp only at hSw); go_simp; (try with_reducible rfl)
                    try simp only [Act.put, List.setIfInBounds_toArray, List.set_cons_zero, List.set_cons_succ]
                    refine' wpAnyH_take (i := 16) (oi := _) (v := _) rfl (by kernel_rfl) (by kernel_rfl) (by kernel_rfl) (fun _ _ _ h => h) (Or.inl ⟨?_, ?_⟩) (by assumption) ?_
                    rotate_left
                    all_goals (try simp only [List.getElem_toArray, List.getElem_cons_succ, List.getElem_cons_zero])
                    · rfl
                    · intro W hSw; (try dsimp only at hSw); go_simp; (try with_reducible rfl)
                    try simp only [Act.put, List.setIfInBounds_toArray, List.set_cons_zero, List.set_cons_succ]
                    refine' wpAnyH_take (i := 17) (oi := _) (v := _) rfl (by kernel_rfl) (by kernel_rfl) (by kernel_rfl) (fun _ _ _ h => h) (Or.inl ⟨?_, ?_⟩) (by assumption) ?_
                    rotate_left
                    all_goals (try simp only [List.getElem_toArray, List.getElem_cons_succ, List.getElem_cons_zero])
                    · rfl
                    · intro W hSw; (try dsimp only at hSw); go_simp; (try with_reducible rfl)
                    try simp only [Act.put, List.setIfInBounds_toArray, List.set_cons_zero, List.set_cons_succ]
                    refine' wpAnyH_take (i := 18) (oi := _) (v := _) rfl (by kernel_rfl) (by kernel_rfl) (by kernel_rfl) (fun _ _ _ h => h) (Or.inl ⟨?_, ?_⟩) (by assumption) ?_
                    rotate_left
                    all_goals (try simp only [List.getElem_toArray, List.getElem_cons_succ, List.getElem_cons_zero])
                    · rfl
                    · intro W hSw; (try dsimp only at hSw); go_simp; (try with_reducible rfl)
                    try simp only [Act.put, List.setIfInBounds_toArray, List.set_cons_zero, List.set_cons_succ]
                    refine' wpAnyH_take (i := 19) (oi := _) (v := _) rfl (by kernel_rfl) (by kernel_rfl) (by kernel_rfl) (fun _ _ _ h => h) (Or.inl ⟨?_, ?_⟩) (by assumption) ?_
                    rotate_left
                    all_goals (try simp only [List.getElem_toArray, List.getElem_cons_succ, List.getElem_cons_zero])
                    · rfl
                    · intro W hSw; (try dsimp only at hSw); go_simp; (try with_reducible rfl)
                    try simp only [Act.put, List.setIfInBounds_toArray, List.set_cons_zero, List.set_cons_succ]
                    refine' wpAnyH_take (i := 20) (oi := _) (v := _) rfl (by kernel_rfl) (by kernel_rfl) (by kernel_rfl) (fun _ _ _ h => h) (Or.inl ⟨?_, ?_⟩) (by assumption) ?_
                    rotate_left
                    all_goals (try simp only [List.getElem_toArray, List.getElem_cons_succ, List.getElem_cons_zero])
                    · rfl
                    · intro W hSw; (try dsimp only at hSw); go_simp; (try with_reducible rfl)
                    try simp only [Act.put, List.setIfInBounds_toArray, List.set_cons_zero, List.set_cons_succ]
                    refine' wpAnyH_take (i := 21) (oi := _) (v := _) rfl (by kernel_rfl) (by kernel_rfl) (by kernel_rfl) (fun _ _ _ h => h) (Or.inl ⟨?_, ?_⟩) (by assumption) ?_
                    rotate_left
                    all_goals (try simp only [List.getElem_toArray, List.getElem_cons_succ, List.getElem_cons_zero])
                    · rfl
                    · intro W hSw; (try dsimp only at hSw); go_simp; (try with_reducible rfl)
                    try simp only [Act.put, List.setIfInBounds_toArray, List.set_cons_zero, List.set_cons_succ]
                    refine' wpAnyH_take (i := 22) (oi := _) (v := _) rfl (by kernel_rfl) (by kernel_rfl) (by kernel_rfl) (fun _ _ _ h => h) (Or.inl ⟨?_, ?_⟩) (by assumption) ?_
                    rotate_left
                    all_goals (try simp only [List.getElem_toArray, List.getElem_cons_succ, List.getElem_cons_zero])
                    · rfl
                    · intro W hSw; (try dsimp only at hSw); go_simp; (try with_reducible rfl)
                    try simp only [Act.put, List.setIfInBounds_toArray, List.set_cons_zero, List.set_cons_succ]
                    refine wpAnyH_ready (rs := [23]) (by kernel_rfl) (by simp) ?_
                    refine AllReadyH.cons (o := _) rfl (fun K hK => ?_) AllReadyH.nil
                    try simp only [List.getElem_toArray, List.getElem_cons_succ, List.getElem_cons_zero]
                    go_simp
                    refine hK.out _ _ (HC.out _ (HB8.out.alloc HB8.out.size _)) (fun hHeld => ?_)
                    clear hK K
                    try simp only [Act.put, List.setIfInBounds_toArray, List.set_cons_zero, List.set_cons_succ]
                    refine wpAnyH_ready (rs := [24]) (by kernel_rfl) (by simp) ?_
                    refine AllReadyH.cons (o := _) rfl (fun K hK => ?_) AllReadyH.nil
                    try simp only [List.getElem_toArray, List.getElem_cons_succ, List.getElem_cons_zero]
                    rw [if_pos (by rfl)]
                    refine step_append_q .u8 _ (.tmp 249) (.tmp 272) 22 rfl wE.heap.size 5 1 i0 Tryd.underlying22 hi0 hz0 hz1 hz2 (by decide) _ (bytesW H i) rfl (show OwnQ .u8 5 wE.heap.size _ (.slice a9 m9 c9) (bytesW H i) from OwnQ.alloc (w := wr.drew) HI.out.1 _) _ _ _ [y0, y1, y2, y3] rfl (reads_four .u8 wr.drew _ _ _ _ _ y0 y1 y2 y3 (by omega) (by omega) (by omega) (by omega)) (by rw [HBL2.out]; omega) ((HB8.out.alloc HB8.out.size _).size) ?_; intro v' wA hown hgrow; obtain ⟨aA, nA, cA, rfl, hnA, hoA⟩ := own_sl hown; have HOA := Lib.hid hoA; have HBA := Lib.hid (hgrow wE (HB8.out.alloc HB8.out.size _)); clear hown hgrow hnA hoA
                    refine hK.out _ _ (HC.out _ HBA.out) (fun hHeld => ?_)
                    clear hK K
                    try simp only [Act.put, List.setIfInBounds_toArray, List.set_cons_zero, List.set_cons_succ]
                    refine' wpAnyH_take (i := 25) (oi := _) (v := _) rfl (by kernel_rfl) (by kernel_rfl) (by kernel_rfl) (fun _ _ _ h => h) (Or.inl ⟨?_, ?_⟩) (by assumption) ?_
                    rotate_left
                    all_goals (try simp only [List.getElem_toArray, List.getElem_cons_succ, List.getElem_cons_zero])
                    · rfl
                    · intro W hSw; (try dsimp only at hSw); go_simp; (try with_reducible rfl)
                    try simp only [Act.put, List.setIfInBounds_toArray, List.set_cons_zero, List.set_cons_succ]
                    refine wpAnyH_done (by kernel_rfl) ?_ _
                    go_wp2_with fail
                    go_roundw
                    case rel => exact ⟨i + 1, nA, cA, aA, rfl, by go_num, by omega, by rw [HBS.out]; exact HOA.out, HBA.out⟩
                    case measure => simp [intOf] <;> omega
                · have hi8 : i = 8 := by omega
                  have ti : decide ((i : Int) < 8) = false := by simp; omega
                  have HOF := Lib.hid (show OwnQ .u8 5 wE.heap.size wr (.slice a9 m9 c9) (hashN 256 bl) by have := hI.out.1; rw [hi8] at this; rw [← HHR.out]; exact this)
                  have HBF := Lib.hid hI.out.2
                  clear hI hi8 hlti hi
                  go_wp2
                  go_ret2
                  exact ⟨⟨_, rfl, HOF.out.mono HF.out.below.size⟩, HF.out.below.trans (HBF.out.mono HF.out.below.size)⟩

end Go.Proofs.YtcdglhmapijebaaDoor
