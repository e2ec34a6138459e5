/-
  PSS: the law PssBack. (Written by wip/gen_psB.py.)
-/
import Derived.Test.YtcdglhmapijebaaDoorPk1
import Derived.Test.YtcdglhmapijebaaDoorPk2
import Derived.Test.YtcdglhmapijebaaDoorPk3
import Derived.Laws.BitsLemmas
namespace Go.Proofs.YtcdglhmapijebaaDoor
open Go.RowKit
set_option maxRecDepth 100000

theorem fits_low (n x : Nat) (h : n % 8 ≠ 0) (hf : x &&& lowP n = x) : x / 2 ^ (n % 8) = 0 := by
  have h2 := lenP_bits n
  have h3 : ∀ k, k < 8 → 1 ≤ k → 255 / 2 ^ k < 2 ^ (8 - k) := by decide
  have h4 := h3 _ h2.1 (by unfold lenP; omega)
  have h5 : lowP n < 2 ^ (n % 8) := by
    have : 8 - (8 * lenP n - n) = n % 8 := by unfold lenP; omega
    rw [this] at h4
    exact h4
  have h6 : x ≤ lowP n := by rw [← hf]; exact Nat.and_le_right
  exact Nat.div_eq_of_lt (Nat.lt_of_le_of_lt h6 h5)
theorem ems_first {g : Nat} (hh : IsHash g) (d s : List Nat) {sn n : Nat} (hsl : s.length = sn) (hr : RoomP (g : Int) (sn : Int) (n : Int)) : ((emsP g d s n)[0]?.getD 0) &&& lowP n = (emsP g d s n)[0]?.getD 0 := by
  obtain ⟨K, S, a, hS, hN, ha⟩ := room_parts hr
  have hf := masked_fits g (blockP (lenP n - mSize g - 1) s) (innerP g d s) n
  have hl : (maskedP g (blockP (lenP n - mSize g - 1) s) (innerP g d s) n).length = K := by
    rw [masked_len hh, blockP_len (by rw [hsl]; omega)]; omega
  unfold FitsP at hf
  unfold emsP
  rw [List.append_assoc, List.getElem?_append_left (by omega)]
  exact hf

set_option maxHeartbeats 4000000 in
theorem back_walk (n bits : Nat) (hn : n < 256) (hbits : bits < 65536) (a : Option Addr) (la ca : Nat) (A : List Nat) (b : Option Addr) (lb cb : Nat) (B : List Nat) (o : Option Addr) (lo co : Nat) (C : List Nat) (w : World) (hk : Kinds w)
    (hA : Reads .u8 w a la ca A) (bA : Byt A) (hB : Reads .u8 w b lb cb B) (bB : Byt B) (hC : Reads .u8 w o lo co C) (bC : Byt C) :
    Calls Tryd.prog 5 #[.int .u8 (n : Int), .slice a la ca, .slice b lb cb, .slice o lo co, .int .u16 (bits : Int)] w fun e w' => e = .returned (.bool true) ∧ Below w.heap.size w w' := by
  obtain ⟨i0, hi, hz0, hz1, hz2⟩ := info_parts infoMk
  have HK := Lib.hid hk
  have HA := Lib.hid hA
  have HLA := Lib.hid hA.length
  have HAB := Lib.hid bA
  have HSB := Lib.hid hB
  have HSL := Lib.hid hB.length
  have HSBB := Lib.hid bB
  have HC := Lib.hid hC
  have HLC := Lib.hid hC.length
  have HCB := Lib.hid bC
  obtain ⟨q, hq⟩ : ∃ q, q = n % 4 := ⟨_, rfl⟩
  obtain ⟨g, hg⟩ : ∃ g, g = 1 + q := ⟨_, rfl⟩
  obtain ⟨long, hlong⟩ : ∃ long, long = bits % 3000 := ⟨_, rfl⟩
  obtain ⟨r8, hr8⟩ : ∃ r8, r8 = long % 8 := ⟨_, rfl⟩
  obtain ⟨N, hN⟩ : ∃ N, lenP long = N := ⟨_, rfl⟩
  have HG := Lib.hid (show IsHash g by unfold IsHash; omega)
  have eq1 : Int.tmod (n : Int) 4 = (q : Int) := by rw [Int.tmod_eq_emod_of_nonneg (by omega)]; omega
  have eq2 : (1 : Int) + (q : Int) = (g : Int) := by omega
  have eq3 : Int.tmod (bits : Int) 3000 = (long : Int) := by rw [Int.tmod_eq_emod_of_nonneg (by omega)]; omega
  have eq4 : Int.tmod (long : Int) 8 = (r8 : Int) := by rw [Int.tmod_eq_emod_of_nonneg (by omega)]; omega
  have eq5 : Int.tdiv ((long : Int) + 7) 8 = (N : Int) := by rw [Int.tdiv_eq_ediv_of_nonneg (by omega), ← hN]; unfold lenP; omega
  have hq4 : q < 4 := by omega
  have hg4 : 1 ≤ g ∧ g ≤ 4 := by omega
  have hlong3 : long < 3000 := by omega
  have hr88 : r8 < 8 := by omega
  have hN1 : N ≤ 1000 := by rw [← hN]; unfold lenP; omega
  have HR8 := Lib.hid hr8
  have HN := Lib.hid hN
  clear hk hA bA hB bB hC bC hq hg hlong hr8 hN hn hbits
  go_enter Tryd.func5, Tryd.ntmps5
  go_wp2_with fail
  refine (alive_p w HK.out).mono ?_
  rintro e w1 ⟨rfl, h1⟩
  have HB1 := Lib.hid h1
  clear h1
  by_cases hl1 : 100 < lb
  · have t1 : decide ((100 : Int) < (lb : Int)) = true := decide_eq_true (by omega)
    go_wp2
    go_ret
    exact ⟨rfl, HB1.out⟩
  have t1 : decide ((100 : Int) < (lb : Int)) = false := decide_eq_false (by omega)
  by_cases hl3 : 100 < lo
  · have t2 : decide ((100 : Int) < (lo : Int)) = true := decide_eq_true (by omega)
    go_wp2
    go_ret
    exact ⟨rfl, HB1.out⟩
  have t3 : decide ((100 : Int) < (lo : Int)) = false := decide_eq_false (by omega)
  by_cases hl2 : 1000 < la
  · have t2 : decide ((1000 : Int) < (la : Int)) = true := decide_eq_true (by omega)
    go_wp2
    go_ret
    exact ⟨rfl, HB1.out⟩
  have t2 : decide ((1000 : Int) < (la : Int)) = false := decide_eq_false (by omega)
  go_wp2_with fail
  refine (size_yes g HG.out _ (HK.out.below HB1.out)).mono ?_
  rintro e w2 ⟨rfl, hb⟩
  obtain ⟨sg, hsg⟩ : ∃ s, s = mSize g := ⟨_, rfl⟩
  have hsgb : 28 ≤ sg ∧ sg ≤ 64 := by rw [hsg]; exact mSize_le HG.out
  rw [← hsg]
  have Hsg := Lib.hid hsg
  have HB2w := Lib.hid (HB1.out.trans (hb.mono HB1.out.size))
  clear hb hsg HB1
  go_wp2_with (at_builtin; first
    | (refine wpList_append_q1 .u8 _ rfl _ _ 22 rfl w2.heap.size 5 i0 Tryd.underlying22 hi hz0 hz1 hz2 _ [] rfl (OwnQ.empty .u8 w2 _ _ (Nat.le_refl _)) a la ca A rfl (HA.out.below (HB2w.out.alloc HB2w.out.size _)) (by simp; omega) (by simp) ?_; intro v2 w2A hown hgrow; rw [List.nil_append] at hown; have HO2 := Lib.hid hown; have HB2 := Lib.hid (hgrow w2 ((Below.refl _ _).alloc (Nat.le_refl _) _)); clear hown hgrow)
    | (refine wpList_append_noughtsM _ rfl _ _ 22 3 rfl w2.heap.size 5 i0 Tryd.underlying22 Tryd.underlying3 hi hz0 hz1 hz2 _ A rfl HO2.out 64 (by decide) rfl (by rw [HLA.out]; omega) (by decide) HB2.out.size ?_; intro v3 w3A hown hgrow; obtain ⟨xA, nA, cA, rfl, hxn, ho⟩ := own_slM hown; have HOA := Lib.hid ho; have HNA := Lib.hid (show nA = la + 64 by rw [hxn, List.length_append, HLA.out, List.length_replicate]); have hAc : nA ≤ cA := ho.cap.2.1; have hsgc : sg ≤ nA := (by rw [hxn, List.length_append, HLA.out, List.length_replicate]; omega); have HB3 := Lib.hid (hgrow w2 HB2.out); clear hown hgrow hxn ho HO2 HB2))
  have HB4 := Lib.hid (HB2w.out.trans (HB3.out.mono HB2w.out.size))
  have HX := Lib.hid (show OwnQ .u8 5 _ w3A (.slice xA sg cA) (fillP g A) from by
    have h1 := HOA.out.upto sg hsgc
    rw [Hsg.out] at h1 ⊢
    exact h1)
  have HD := Lib.hid HX.out.reads
  have HDB := Lib.hid (fillP_byt (g := g) HAB.out)
  have HDL := Lib.hid (fillP_len HG.out A)
  rw [← Hsg.out] at HDL
  replace HK := Lib.hid (HK.out.below HB4.out)
  have HB := HB4
  clear HX HOA HB4 HB3 HB2w
  generalize fillP g A = D at *
  refine (encode_any (g : Int) _ sg _ D b lb cb B (long : Int) (by omega) (by omega) (by omega) _ HK.out HD.out (HSB.out.below HB.out) HDB.out HSBB.out).mono ?_
  rintro e w5 ⟨hb, ⟨⟨hrm, -⟩, gE, rfl, hO⟩ | ⟨hno, rfl⟩⟩
  rotate_left
  · have HNO := Lib.hid (show ¬ RoomP (g : Int) (lb : Int) (long : Int) from fun h => hno ⟨h, by rw [Int.toNat_natCast]; exact Hsg.out⟩)
    replace HK := Lib.hid (HK.out.below hb)
    replace HB := Lib.hid (HB.out.trans (hb.mono HB.out.size))
    clear hb hno
    go_wp2_with fail
    refine (room_p (g : Int) (lb : Int) (long : Int) (by omega) (by omega) (by omega) (by omega) _ HK.out).mono ?_
    rintro e w6 ⟨rfl, hb⟩
    rw [room_no HNO.out]
    replace HB := Lib.hid (HB.out.trans (hb.mono HB.out.size))
    clear hb
    go_wp2
    go_ret
    exact ⟨rfl, HB.out⟩
  simp only [Int.toNat_natCast] at hO ⊢
  have hv := ver_ems HG.out D B (sn := lb) (n := long) HSL.out HSBB.out (HDL.out.trans Hsg.out) hrm
  have hem := ems_fine HG.out D B (sn := lb) (n := long) HSL.out HSBB.out hrm
  have hfi := ems_first HG.out D B (sn := lb) (n := long) HSL.out hrm
  have HEM := Lib.hid (show ∃ em, em = emsP g D B long from ⟨_, rfl⟩)
  generalize hEM : emsP g D B long = em at *
  have hN2 : 30 ≤ N := by
    have := hrm.2.2.2.2
    rw [Int.toNat_natCast, Int.toNat_natCast, ← Hsg.out, HN.out] at this
    omega
  rw [HN.out] at hO hem ⊢
  obtain ⟨x0, er, her⟩ : ∃ x0 er, em = x0 :: er := by
    cases em with
    | nil => have := hem.2.2.2.1; simp at this; omega
    | cons x r => exact ⟨x, r, rfl⟩
  have hx0 : x0 < 256 := hem.2.2.2.2 x0 (by rw [her]; exact List.mem_cons_self)
  have hx0f : r8 ≠ 0 → x0 / 2 ^ r8 = 0 := fun h => by
    have h1 := HR8.out
    rw [h1]
    rw [her] at hfi
    exact fits_low long x0 (by omega) hfi
  have hc := hO.cellAt hO.cap.1 0 (by omega)
  rw [her] at hc
  have c0 : w5.cell? ⟨gE, 0, none⟩ = some (.int .u8 (x0 : Int)) := hc
  have HV := Lib.hid hv
  have HEF := Lib.hid hem
  have HEE := Lib.hid hEM
  have HRM := Lib.hid hrm
  have HX0 := Lib.hid hx0f
  have HO := Lib.hid hO
  have HER := Lib.hid her
  replace HK := Lib.hid (HK.out.below hb)
  replace HD := Lib.hid (HD.out.below hb)
  replace HB := Lib.hid (HB.out.trans (hb.mono HB.out.size))
  clear hb hO hv hem hEM hrm hx0f hfi hc her HEM
  go_wp2_with fail
  refine (room_p (g : Int) (lb : Int) (long : Int) (by omega) (by omega) (by omega) (by omega) _ HK.out).mono ?_
  rintro e w6 ⟨rfl, hb⟩
  rw [room_dec HRM.out]
  have c0' : w6.cell? ⟨gE, 0, none⟩ = some (.int .u8 (x0 : Int)) := (World.cell?_of_block (a := ⟨gE, 0, none⟩) (hb.block gE (World.block_lt_of_cell? _ _ c0))).trans c0
  replace HK := Lib.hid (HK.out.below hb)
  replace HD := Lib.hid (HD.out.below hb)
  replace HO := Lib.hid (HO.out.below hb)
  replace HB := Lib.hid (HB.out.trans (hb.mono HB.out.size))
  clear hb c0
  by_cases hr0 : r8 = 0
  · skip
    have th : decide ((0 : Int) < (r8 : Int)) = false := decide_eq_false (by omega)
    have th2 : decide (0 < r8) = false := decide_eq_false (by omega)
    have th3 : ¬ 0 < r8 := by omega
    clear hr0
    go_wp2_with fail
    refine (salt_any (g : Int) _ N _ em (lb : Int) (long : Int) (by omega) (by omega) (by omega) (by omega) (by omega) _ HK.out HO.out.reads HEF.out.2.2.2.2).mono ?_
    rintro e w7 ⟨hb, ⟨-, sa, sc, rfl, hS⟩ | ⟨hno, -⟩⟩
    rotate_left
    · exact absurd (by have := good_ems HG.out D B (sn := lb) (n := long) HSL.out HSBB.out HRM.out; rwa [HEE.out] at this) hno
    simp only [Int.toNat_natCast] at hS ⊢
    rw [HEF.out.2.2.1] at hS
    replace HK := Lib.hid (HK.out.below hb)
    replace HD := Lib.hid (HD.out.below hb)
    replace HO := Lib.hid (HO.out.below hb)
    replace HB := Lib.hid (HB.out.trans (hb.mono HB.out.size))
    have cv1 := convB (hS.reads.bts HSBB.out)
    have cv2 := convB ((HSB.out.below HB.out).bts HSBB.out)
    clear hb hS
    go_wp2_with fail
    refine (verify_any (g : Int) _ sg _ D _ N _ em (lb : Int) (long : Int) (by omega) (by omega) (by omega) (by omega) (by omega) _ HK.out HD.out HDB.out HO.out.reads HEF.out.2.2.2.2).mono ?_
    rintro e w1 ⟨⟨v, rfl, hv⟩, hb⟩
    replace HK := Lib.hid (HK.out.below hb)
    replace HD := Lib.hid (HD.out.below hb)
    replace HO := Lib.hid (HO.out.below hb)
    replace HB := Lib.hid (HB.out.trans (hb.mono HB.out.size))
    clear hb
    obtain rfl : v = true := hv.2 HV.out
    clear hv cv1 cv2
    go_wp2_with (at_builtin; first
      | (refine wpList_append_q1 .u8 _ rfl _ _ 22 rfl w1.heap.size 5 i0 Tryd.underlying22 hi hz0 hz1 hz2 _ [] rfl (OwnQ.empty .u8 w1 _ _ (Nat.le_refl _)) o lo co C rfl (HC.out.below (HB.out.alloc HB.out.size _)) (by simp; omega) (by simp) ?_; intro v2 w2C hown hgrow; rw [List.nil_append] at hown; have HO2 := Lib.hid hown; have HB2 := Lib.hid (hgrow w1 ((Below.refl _ _).alloc (Nat.le_refl _) _)); clear hown hgrow)
      | (refine wpList_append_noughtsM _ rfl _ _ 22 3 rfl w1.heap.size 5 i0 Tryd.underlying22 Tryd.underlying3 hi hz0 hz1 hz2 _ C rfl HO2.out 100 (by decide) rfl (by rw [HLC.out]; omega) (by decide) HB2.out.size ?_; intro v3 w3C hown hgrow; obtain ⟨xC, nC, cC, rfl, hxn, ho⟩ := own_slM hown; have HOC := Lib.hid ho; have hCc : nC ≤ cC := ho.cap.2.1; have hsgc : lb ≤ nC := (by rw [hxn, List.length_append, HLC.out, List.length_replicate]; omega); have HB3 := Lib.hid (hgrow w1 HB2.out); clear hown hgrow hxn ho HO2 HB2))
    have HOx := Lib.hid (HOC.out.upto lb hsgc)
    have HOl := Lib.hid HOx.out.cap.1
    have HOb := Lib.hid (show Byt ((C ++ List.replicate 100 0).take lb) from byt_take (fun x hx => by
      rcases List.mem_append.1 hx with hx | hx
      · exact HCB.out x hx
      · exact byt_rep 100 x hx) lb)
    replace HK := Lib.hid (HK.out.below HB3.out)
    replace HD := Lib.hid (HD.out.below HB3.out)
    replace HO := Lib.hid (HO.out.below HB3.out)
    replace HB := Lib.hid (HB.out.trans (HB3.out.mono HB.out.size))
    clear HB3 HOC
    generalize (C ++ List.replicate 100 0).take lb = O at *
    refine (encode_any (g : Int) _ sg _ D _ lb _ O (long : Int) (by omega) (by omega) (by omega) _ HK.out HD.out HOx.out.reads HDB.out HOb.out).mono ?_
    rintro e w9 ⟨hb, ⟨-, gF, rfl, hF⟩ | ⟨hno, -⟩⟩
    rotate_left
    · exact absurd ⟨HRM.out, by rw [Int.toNat_natCast]; exact Hsg.out⟩ hno
    simp only [Int.toNat_natCast] at hF ⊢
    have heo := ems_fine HG.out D O (sn := lb) (n := long) HOl.out.symm HOb.out HRM.out
    generalize hEO : emsP g D O long = eo at *
    rw [HN.out] at hF heo ⊢
    replace HO := Lib.hid (HO.out.below hb)
    replace HOx := Lib.hid (HOx.out.below hb)
    replace HB := Lib.hid (HB.out.trans (hb.mono HB.out.size))
    have cv1 := convB (HO.out.reads.bts HEF.out.2.2.2.2)
    have cv2 := convB (hF.reads.bts heo.2.2.2.2)
    have cv3 := convB (HOx.out.reads.bts HOb.out)
    have cv4 := convB ((HSB.out.below HB.out).bts HSBB.out)
    by_cases hOB : O = B
    · subst hOB
      have hee : eo = em := by rw [← hEO]; exact HEE.out
      rw [hee] at cv2
      clear hee hb hF heo hEO
      go_wp2
      go_ret
      exact ⟨by simp, HB.out⟩
    · have hne : em ≠ eo := fun e => hOB (by rw [← heo.2.2.1, ← e]; exact HEF.out.2.2.1)
      have s1 := strOf_neP HEF.out.2.2.2.2 heo.2.2.2.2 hne
      have s2 := strOf_neP HOb.out HSBB.out hOB
      clear hb hF heo hEO hOB hne
      go_wp2
      go_ret
      exact ⟨by simp, HB.out⟩
  · skip
    have th : decide ((0 : Int) < (r8 : Int)) = true := decide_eq_true (by omega)
    have th2 : decide (0 < r8) = true := decide_eq_true (by omega)
    have th3 : 0 < r8 := by omega
    have hsh : (x0 : Int) / 2 ^ r8 = 0 := by
      have h1 := HX0.out hr0
      have h2 : ((x0 / 2 ^ r8 : Nat) : Int) = 0 := by rw [h1]; rfl
      rwa [Int.natCast_ediv, Int.natCast_pow] at h2
    clear hr0
    go_wp2_with fail
    refine (salt_any (g : Int) _ N _ em (lb : Int) (long : Int) (by omega) (by omega) (by omega) (by omega) (by omega) _ HK.out HO.out.reads HEF.out.2.2.2.2).mono ?_
    rintro e w7 ⟨hb, ⟨-, sa, sc, rfl, hS⟩ | ⟨hno, -⟩⟩
    rotate_left
    · exact absurd (by have := good_ems HG.out D B (sn := lb) (n := long) HSL.out HSBB.out HRM.out; rwa [HEE.out] at this) hno
    simp only [Int.toNat_natCast] at hS ⊢
    rw [HEF.out.2.2.1] at hS
    replace HK := Lib.hid (HK.out.below hb)
    replace HD := Lib.hid (HD.out.below hb)
    replace HO := Lib.hid (HO.out.below hb)
    replace HB := Lib.hid (HB.out.trans (hb.mono HB.out.size))
    have cv1 := convB (hS.reads.bts HSBB.out)
    have cv2 := convB ((HSB.out.below HB.out).bts HSBB.out)
    clear hb hS
    go_wp2_with fail
    refine (verify_any (g : Int) _ sg _ D _ N _ em (lb : Int) (long : Int) (by omega) (by omega) (by omega) (by omega) (by omega) _ HK.out HD.out HDB.out HO.out.reads HEF.out.2.2.2.2).mono ?_
    rintro e w1 ⟨⟨v, rfl, hv⟩, hb⟩
    replace HK := Lib.hid (HK.out.below hb)
    replace HD := Lib.hid (HD.out.below hb)
    replace HO := Lib.hid (HO.out.below hb)
    replace HB := Lib.hid (HB.out.trans (hb.mono HB.out.size))
    clear hb
    obtain rfl : v = true := hv.2 HV.out
    clear hv cv1 cv2
    go_wp2_with (at_builtin; first
      | (refine wpList_append_q1 .u8 _ rfl _ _ 22 rfl w1.heap.size 5 i0 Tryd.underlying22 hi hz0 hz1 hz2 _ [] rfl (OwnQ.empty .u8 w1 _ _ (Nat.le_refl _)) o lo co C rfl (HC.out.below (HB.out.alloc HB.out.size _)) (by simp; omega) (by simp) ?_; intro v2 w2C hown hgrow; rw [List.nil_append] at hown; have HO2 := Lib.hid hown; have HB2 := Lib.hid (hgrow w1 ((Below.refl _ _).alloc (Nat.le_refl _) _)); clear hown hgrow)
      | (refine wpList_append_noughtsM _ rfl _ _ 22 3 rfl w1.heap.size 5 i0 Tryd.underlying22 Tryd.underlying3 hi hz0 hz1 hz2 _ C rfl HO2.out 100 (by decide) rfl (by rw [HLC.out]; omega) (by decide) HB2.out.size ?_; intro v3 w3C hown hgrow; obtain ⟨xC, nC, cC, rfl, hxn, ho⟩ := own_slM hown; have HOC := Lib.hid ho; have hCc : nC ≤ cC := ho.cap.2.1; have hsgc : lb ≤ nC := (by rw [hxn, List.length_append, HLC.out, List.length_replicate]; omega); have HB3 := Lib.hid (hgrow w1 HB2.out); clear hown hgrow hxn ho HO2 HB2))
    have HOx := Lib.hid (HOC.out.upto lb hsgc)
    have HOl := Lib.hid HOx.out.cap.1
    have HOb := Lib.hid (show Byt ((C ++ List.replicate 100 0).take lb) from byt_take (fun x hx => by
      rcases List.mem_append.1 hx with hx | hx
      · exact HCB.out x hx
      · exact byt_rep 100 x hx) lb)
    replace HK := Lib.hid (HK.out.below HB3.out)
    replace HD := Lib.hid (HD.out.below HB3.out)
    replace HO := Lib.hid (HO.out.below HB3.out)
    replace HB := Lib.hid (HB.out.trans (HB3.out.mono HB.out.size))
    clear HB3 HOC
    generalize (C ++ List.replicate 100 0).take lb = O at *
    refine (encode_any (g : Int) _ sg _ D _ lb _ O (long : Int) (by omega) (by omega) (by omega) _ HK.out HD.out HOx.out.reads HDB.out HOb.out).mono ?_
    rintro e w9 ⟨hb, ⟨-, gF, rfl, hF⟩ | ⟨hno, -⟩⟩
    rotate_left
    · exact absurd ⟨HRM.out, by rw [Int.toNat_natCast]; exact Hsg.out⟩ hno
    simp only [Int.toNat_natCast] at hF ⊢
    have heo := ems_fine HG.out D O (sn := lb) (n := long) HOl.out.symm HOb.out HRM.out
    generalize hEO : emsP g D O long = eo at *
    rw [HN.out] at hF heo ⊢
    replace HO := Lib.hid (HO.out.below hb)
    replace HOx := Lib.hid (HOx.out.below hb)
    replace HB := Lib.hid (HB.out.trans (hb.mono HB.out.size))
    have cv1 := convB (HO.out.reads.bts HEF.out.2.2.2.2)
    have cv2 := convB (hF.reads.bts heo.2.2.2.2)
    have cv3 := convB (HOx.out.reads.bts HOb.out)
    have cv4 := convB ((HSB.out.below HB.out).bts HSBB.out)
    by_cases hOB : O = B
    · subst hOB
      have hee : eo = em := by rw [← hEO]; exact HEE.out
      rw [hee] at cv2
      clear hee hb hF heo hEO
      go_wp2
      go_ret
      exact ⟨by simp, HB.out⟩
    · have hne : em ≠ eo := fun e => hOB (by rw [← heo.2.2.1, ← e]; exact HEF.out.2.2.1)
      have s1 := strOf_neP HEF.out.2.2.2.2 heo.2.2.2.2 hne
      have s2 := strOf_neP HOb.out HSBB.out hOB
      clear hb hF heo hEO hOB hne
      go_wp2
      go_ret
      exact ⟨by simp, HB.out⟩
end Go.Proofs.YtcdglhmapijebaaDoor
