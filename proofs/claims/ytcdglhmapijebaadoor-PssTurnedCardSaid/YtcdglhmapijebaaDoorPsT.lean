/-
  PSS: the law PssTurned. (Written by wip/gen_psT.py.)
-/
import Derived.Test.YtcdglhmapijebaaDoorPk1
import Derived.Test.YtcdglhmapijebaaDoorPk2
import Derived.Test.YtcdglhmapijebaaDoorPk3
import Derived.Laws.BitsLemmas
namespace Go.Proofs.YtcdglhmapijebaaDoor
open Go.RowKit
set_option maxRecDepth 100000

theorem em_row (w6 : World) (gX N1 zx E : Nat) (em : List Nat) {a : Option Addr} {N c : Nat} (h : Reads .u8 (w6.setCell ⟨gX, N1, none⟩ (.int .u8 (zx : Int))) a N c em) :
    OwnQ .u8 E w6.heap.size ((w6.setCell ⟨gX, N1, none⟩ (.int .u8 (zx : Int))).alloc (.cells #[] E)) (.slice (some ⟨w6.heap.size, 0, none⟩) 0 0) [] ∧ Below w6.heap.size (w6.setCell ⟨gX, N1, none⟩ (.int .u8 (zx : Int))) ((w6.setCell ⟨gX, N1, none⟩ (.int .u8 (zx : Int))).alloc (.cells #[] E)) ∧ Reads .u8 ((w6.setCell ⟨gX, N1, none⟩ (.int .u8 (zx : Int))).alloc (.cells #[] E)) a N c em := by
  have h1 := OwnQ.empty .u8 (w6.setCell ⟨gX, N1, none⟩ (.int .u8 (zx : Int))) E _ (Nat.le_refl _)
  have h2 := (Below.refl _ (w6.setCell ⟨gX, N1, none⟩ (.int .u8 (zx : Int)))).alloc (Nat.le_refl _) (.cells #[] E)
  have h3 := h.below h2
  rw [World.size_setCell] at h1 h2
  exact ⟨h1, h2, h3⟩
theorem u8_or_nat (x y : Nat) (hx : x < 256) (hy : y < 256) : Go.bits BinOp.or IntKind.u8 (x : Int) (y : Int) = ((x ||| y : Nat) : Int) := by
  exact (Go.bits_nat .u8 8 (Nat.le_refl _) Go.wraps_u8 x y hx hy).2
theorem low_high (n : Nat) (h : n % 8 ≠ 0) : lowP n < 2 ^ 7 := by
  have h2 := lenP_bits n
  have h3 : ∀ k, k < 8 → 1 ≤ k → 255 / 2 ^ k < 2 ^ 7 := by decide
  exact h3 _ h2.1 (by unfold lenP; omega)

set_option maxHeartbeats 4000000 in
theorem turned_walk (n bits bit : Nat) (hn : n < 256) (hbits : bits < 65536) (hbit : bit < 256) (a : Option Addr) (la ca : Nat) (A : List Nat) (b : Option Addr) (lb cb : Nat) (B : List Nat) (w : World) (hk : Kinds w)
    (hA : Reads .u8 w a la ca A) (bA : Byt A) (hB : Reads .u8 w b lb cb B) (bB : Byt B) :
    Calls Tryd.prog 7 #[.int .u8 (n : Int), .slice a la ca, .slice b lb cb, .int .u16 (bits : Int), .int .u8 (bit : Int)] w fun e w' => e = .returned (.bool true) ∧ Below w.heap.size w w' := by
  obtain ⟨i0, hi, hz0, hz1, hz2⟩ := info_parts infoMk
  have HK := Lib.hid hk
  have HA := Lib.hid hA
  have HLA := Lib.hid hA.length
  have HAB := Lib.hid bA
  have HSB := Lib.hid hB
  have HSL := Lib.hid hB.length
  have HSBB := Lib.hid bB
  obtain ⟨q, hq⟩ : ∃ q, q = n % 4 := ⟨_, rfl⟩
  obtain ⟨g, hg⟩ : ∃ g, g = 1 + q := ⟨_, rfl⟩
  obtain ⟨long, hlong⟩ : ∃ long, long = bits % 3000 := ⟨_, rfl⟩
  obtain ⟨r8, hr8⟩ : ∃ r8, r8 = long % 8 := ⟨_, rfl⟩
  obtain ⟨k8, hk8⟩ : ∃ k8, k8 = bit % 8 := ⟨_, rfl⟩
  have HG := Lib.hid (show IsHash g by unfold IsHash; omega)
  have eq1 : Int.tmod (n : Int) 4 = (q : Int) := by rw [Int.tmod_eq_emod_of_nonneg (by omega)]; omega
  have eq2 : (1 : Int) + (q : Int) = (g : Int) := by omega
  have eq3 : Int.tmod (bits : Int) 3000 = (long : Int) := by rw [Int.tmod_eq_emod_of_nonneg (by omega)]; omega
  have eq4 : Int.tmod (long : Int) 8 = (r8 : Int) := by rw [Int.tmod_eq_emod_of_nonneg (by omega)]; omega
  have eq5 : Int.tmod (bit : Int) 8 = (k8 : Int) := by rw [Int.tmod_eq_emod_of_nonneg (by omega)]; omega
  have hq4 : q < 4 := by omega
  have hg4 : 1 ≤ g ∧ g ≤ 4 := by omega
  have hlong3 : long < 3000 := by omega
  have hr88 : r8 < 8 := by omega
  have hk88 : k8 < 8 := by omega
  have HR8 := Lib.hid hr8
  clear hk hA bA hB bB hq hg hlong hr8 hk8 hn hbits hbit
  go_enter Tryd.func7, Tryd.ntmps7
  go_wp2_with fail
  refine (alive_p w HK.out).mono ?_
  rintro e w1 ⟨rfl, h1⟩
  have HB1 := Lib.hid h1
  clear h1
  by_cases hl1 : 100 < lb
  · have t1 : decide ((100 : Int) < (lb : Int)) = true := decide_eq_true (by omega)
    go_wp2
    go_ret
    exact ⟨rfl, HB1.out⟩
  have t1 : decide ((100 : Int) < (lb : Int)) = false := decide_eq_false (by omega)
  by_cases hl2 : 1000 < la
  · have t2 : decide ((1000 : Int) < (la : Int)) = true := decide_eq_true (by omega)
    go_wp2
    go_ret
    exact ⟨rfl, HB1.out⟩
  have t2 : decide ((1000 : Int) < (la : Int)) = false := decide_eq_false (by omega)
  go_wp2_with (at_builtin; first
    | (refine wpList_append_q1 .u8 _ rfl _ _ 22 rfl w1.heap.size 5 i0 Tryd.underlying22 hi hz0 hz1 hz2 _ [] rfl (OwnQ.empty .u8 w1 _ _ (Nat.le_refl _)) a la ca A rfl (HA.out.below (HB1.out.alloc HB1.out.size _)) (by simp; omega) (by simp) ?_; intro v2 w2A hown hgrow; rw [List.nil_append] at hown; have HO2 := Lib.hid hown; have HB2 := Lib.hid (hgrow w1 ((Below.refl _ _).alloc (Nat.le_refl _) _)); clear hown hgrow)
    | (refine wpList_append_noughtsM _ rfl _ _ 22 3 rfl w1.heap.size 5 i0 Tryd.underlying22 Tryd.underlying3 hi hz0 hz1 hz2 _ A rfl HO2.out 64 (by decide) rfl (by rw [HLA.out]; omega) (by decide) HB2.out.size ?_; intro v3 w3A hown hgrow; obtain ⟨xA, nA, cA, rfl, hxn, ho⟩ := own_slM hown; have HOA := Lib.hid ho; have HNA := Lib.hid (show nA = la + 64 by rw [hxn, List.length_append, HLA.out, List.length_replicate]); have hAc : nA ≤ cA := ho.cap.2.1; have HB3 := Lib.hid (hgrow w1 HB2.out); clear hown hgrow hxn ho HO2 HB2))
  have HB4 := Lib.hid (HB1.out.trans (HB3.out.mono HB1.out.size))
  refine (size_yes g HG.out w3A (HK.out.below HB4.out)).mono ?_
  rintro e w4 ⟨rfl, h4⟩
  obtain ⟨sg, hsg⟩ : ∃ s, s = mSize g := ⟨_, rfl⟩
  have hsgb : 28 ≤ sg ∧ sg ≤ 64 := by rw [hsg]; exact mSize_le HG.out
  rw [← hsg]
  have HXA := Lib.hid (show OwnQ .u8 5 _ w4 (.slice xA sg cA) (fillP g A) by
    have h1 := (HOA.out.below h4).upto sg (by have := HNA.out; omega)
    rw [hsg] at h1 ⊢
    exact h1)
  have Hsg := Lib.hid hsg
  have hsgc : sg ≤ cA := by have := HNA.out; omega
  have HB5 := Lib.hid (HB4.out.trans (h4.mono HB4.out.size))
  clear h4 hsg HOA
  have HD := Lib.hid HXA.out.reads
  have HDB := Lib.hid (fillP_byt (g := g) HAB.out)
  have HDL := Lib.hid (fillP_len HG.out A)
  rw [← Hsg.out] at HDL
  replace HK := Lib.hid (HK.out.below HB5.out)
  have HB := HB5
  clear HXA HB5 HB4 HB3 HB1
  generalize fillP g A = D at *
  go_wp2_with fail
  refine (encode_any (g : Int) _ sg _ D b lb cb B (long : Int) (by omega) (by omega) (by omega) _ HK.out HD.out (HSB.out.below HB.out) HDB.out HSBB.out).mono ?_
  rintro e w5 ⟨hb, ⟨⟨hrm, -⟩, gE, rfl, hO⟩ | ⟨hno, rfl⟩⟩
  rotate_left
  · have HNO := Lib.hid (show ¬ RoomP (g : Int) (lb : Int) (long : Int) from fun h => hno ⟨h, by rw [Int.toNat_natCast]; exact Hsg.out⟩)
    replace HK := Lib.hid (HK.out.below hb)
    replace HB := Lib.hid (HB.out.trans (hb.mono HB.out.size))
    clear hb hno
    go_wp2_with fail
    refine (room_p (g : Int) (lb : Int) (long : Int) (by omega) (by omega) (by omega) (by omega) _ HK.out).mono ?_
    rintro e w6 ⟨rfl, hb⟩
    rw [room_no HNO.out]
    replace HB := Lib.hid (HB.out.trans (hb.mono HB.out.size))
    clear hb
    go_wp2
    go_ret
    exact ⟨rfl, HB.out⟩
  simp only [Int.toNat_natCast] at hO ⊢
  obtain ⟨m, hm, hml⟩ := ems_last HG.out D B (sn := lb) (n := long) HSL.out HSBB.out hrm
  have hv := ver_ems HG.out D B (sn := lb) (n := long) HSL.out HSBB.out (HDL.out.trans Hsg.out) hrm
  have hby := (ems_fine HG.out D B (sn := lb) (n := long) HSL.out HSBB.out hrm).2.2.2.2
  have hel := (ems_fine HG.out D B (sn := lb) (n := long) HSL.out HSBB.out hrm).2.2.2.1
  generalize emsP g D B long = em at *
  obtain ⟨N, hN⟩ : ∃ N, lenP long = N := ⟨_, rfl⟩
  have hN1 : N ≤ 1000 := by rw [← hN]; unfold lenP; omega
  have hN2 : 30 ≤ N := by
    have := hrm.2.2.2.2
    rw [Int.toNat_natCast, Int.toNat_natCast, ← Hsg.out, hN] at this
    omega
  rw [hN] at hO hml hel ⊢
  have HN := Lib.hid hN
  have HM := Lib.hid (And.intro hm hml)
  have HV := Lib.hid hv
  have HBY := Lib.hid hby
  have HEL := Lib.hid hel
  have HO := Lib.hid hO
  replace HK := Lib.hid (HK.out.below hb)
  replace HD := Lib.hid (HD.out.below hb)
  replace HB := Lib.hid (HB.out.trans (hb.mono HB.out.size))
  clear hb hO hm hml hv hby hel hN hrm
  obtain ⟨N1, hN1e⟩ : ∃ N1, N = N1 + 1 := ⟨N - 1, by omega⟩
  have e1 : (N : Int) - 1 = (N1 : Int) := by omega
  have hlt1 : N1 < N := by omega
  have HN1 := Lib.hid hN1e
  clear hN1e
  obtain ⟨zx, hzx, hz1x, heqx⟩ : ∃ zx : Nat, zx ≠ 188 ∧ zx < 256 ∧ Go.bits BinOp.xor IntKind.u8 188 (2 ^ k8 % 256) = (zx : Int) := by
    rcases (show k8 = 0 ∨ k8 = 1 ∨ k8 = 2 ∨ k8 = 3 ∨ k8 = 4 ∨ k8 = 5 ∨ k8 = 6 ∨ k8 = 7 by omega) with rfl | rfl | rfl | rfl | rfl | rfl | rfl | rfl
    · exact ⟨189, by decide, by decide, by kernel_rfl⟩
    · exact ⟨190, by decide, by decide, by kernel_rfl⟩
    · exact ⟨184, by decide, by decide, by kernel_rfl⟩
    · exact ⟨180, by decide, by decide, by kernel_rfl⟩
    · exact ⟨172, by decide, by decide, by kernel_rfl⟩
    · exact ⟨156, by decide, by decide, by kernel_rfl⟩
    · exact ⟨252, by decide, by decide, by kernel_rfl⟩
    · exact ⟨60, by decide, by decide, by kernel_rfl⟩
  have HZX := Lib.hid (And.intro hzx hz1x)
  clear hzx hz1x
  obtain ⟨x0, er, her⟩ : ∃ x0 er, em = x0 :: er := by
    cases em with
    | nil => have := HEL.out; simp at this; omega
    | cons x r => exact ⟨x, r, rfl⟩
  have HER := Lib.hid her
  have hx0b : x0 < 256 := HBY.out x0 (by rw [her]; exact List.mem_cons_self)
  clear her
  have orx : Go.bits BinOp.or IntKind.u8 (x0 : Int) 128 = ((x0 ||| 128 : Nat) : Int) := u8_or_nat x0 128 hx0b (by decide)
  obtain ⟨y0, hy0⟩ : ∃ y0, x0 ||| 128 = y0 := ⟨_, rfl⟩
  have HY0 := Lib.hid hy0
  rw [hy0] at orx
  clear hy0
  by_cases hhi : r8 = 0
  · skip
    have th : decide ((0 : Int) < (r8 : Int)) = false := decide_eq_false (by omega)
    have th2 : decide (0 < r8) = false := decide_eq_false (by omega)
    have th3 : ¬ 0 < r8 := by omega
    have HHI := Lib.hid hhi
    clear hhi
    go_wp2_with (at_builtin; first
        | (refine wpList_append_q1 .u8 _ rfl _ _ 22 rfl (w5).heap.size 5 i0 Tryd.underlying22 hi hz0 hz1 hz2 _ [] rfl (OwnQ.empty .u8 (w5) _ _ (Nat.le_refl _)) _ N _ em rfl (Reads.below HO.out.reads ((Below.refl _ (w5)).alloc (Nat.le_refl _) _)) (by simp; omega) (by simp) ?_; intro v2 w6 hown hgrow; rw [List.nil_append] at hown; have HX := Lib.hid hown; have HBX := Lib.hid (hgrow (w5) ((Below.refl _ _).alloc (Nat.le_refl _) _)); clear hown hgrow; obtain ⟨gX, cX, hvx⟩ := HX.out.succ (by intro e; have := HEL.out; rw [e] at this; simp at this; omega); rw [HEL.out] at hvx; subst hvx; have hcx := HX.out.cellAt HEL.out.symm N1 hlt1; rw [HM.out.1, List.getElem?_append_right (by have := HM.out.2; have := HN1.out; omega), show N1 - m.length = 0 by (have := HM.out.2; have := HN1.out; omega)] at hcx; have cx : w6.cell? ⟨gX, N1, none⟩ = some (.int .u8 188) := hcx; have fx := HX.out.frozenAt HEL.out.symm N1; have HXS := Lib.hid (HX.out.stored HEL.out.symm N1 zx (zx : Int) rfl); have HEM := Lib.hid (em_row w6 gX N1 zx 5 _ (HO.out.reads.below (HXS.out.2 w5 HBX.out))); clear hcx)
        | (refine wpList_append_q1 .u8 _ rfl _ _ 22 rfl w6.heap.size 5 i0 Tryd.underlying22 hi hz0 hz1 hz2 _ [] rfl HEM.out.1 _ N _ em rfl HEM.out.2.2 (by simp; omega) (by simp) ?_; intro v2 w8 hown hgrow; rw [List.nil_append] at hown; have HY := Lib.hid hown; have HBYw := Lib.hid (hgrow (w6.setCell ⟨gX, N1, none⟩ (.int .u8 (zx : Int))) HEM.out.2.1); clear hown hgrow HEM; obtain ⟨gY, cY, hvx⟩ := HY.out.succ (by intro e; have := HEL.out; rw [e] at this; simp at this; omega); rw [HEL.out] at hvx; subst hvx; have hcy := HY.out.cellAt HEL.out.symm 0 (by omega); rw [HER.out] at hcy; have cy : w8.cell? ⟨gY, 0, none⟩ = some (.int .u8 (x0 : Int)) := hcy; have fy := HY.out.frozenAt HEL.out.symm 0; have HYS := Lib.hid (HY.out.stored HEL.out.symm 0 y0 (y0 : Int) rfl); clear hcy))
    have hw7 := HXS.out.2 w5 HBX.out
    have hs6 : w5.heap.size ≤ w6.heap.size := HBX.out.size
    have hs5 : w.heap.size ≤ w5.heap.size := HB.out.size
    have hw8 : Below w.heap.size w w8 := (HB.out.trans (hw7.mono hs5)).trans (HBYw.out.mono (Nat.le_trans hs5 hs6))
    have hw9 := hw8
    have h59 : Below w5.heap.size w5 w8 := hw7.trans (HBYw.out.mono hs6)
    have h79 : Below (w6.setCell ⟨gX, N1, none⟩ (.int .u8 (zx : Int))).heap.size (w6.setCell ⟨gX, N1, none⟩ (.int .u8 (zx : Int))) w8 := by rw [World.size_setCell]; exact HBYw.out
    have HYr := Lib.hid HY.out.reads
    clear HYS
    generalize w8 = w9 at *
    have hxs : em.set N1 zx = m ++ [zx] := by rw [HM.out.1, List.set_append_right _ _ (by have := HM.out.2; have := HN1.out; omega), show N1 - m.length = 0 by (have := HM.out.2; have := HN1.out; omega)]; rfl
    have HXr := Lib.hid (HXS.out.1.reads.below h79)
    rw [hxs] at HXr
    have HXb := Lib.hid (show Byt (m ++ [zx]) from fun x hx => by
      rcases List.mem_append.1 hx with hx | hx
      · exact HBY.out x (by rw [HM.out.1]; exact List.mem_append_left _ hx)
      · rw [List.mem_singleton.1 hx]; exact HZX.out.2)
    have HOr := Lib.hid (HO.out.reads.below h59)
    replace HK := Lib.hid (HK.out.below h59)
    replace HD := Lib.hid (HD.out.below h59)
    replace HB := Lib.hid hw9
    clear hw9 h59 h79 hw8 hw7 hxs HXS HX HY HO HBX HBYw
    skip
    refine (verify_any (g : Int) _ sg _ D _ N _ (m ++ [zx]) (lb : Int) (long : Int) (by omega) (by omega) (by omega) (by omega) (by omega) _ HK.out HD.out HDB.out HXr.out HXb.out).mono ?_
    rintro e w1 ⟨⟨v, rfl, hv⟩, hb⟩
    replace HK := Lib.hid (HK.out.below hb)
    replace HD := Lib.hid (HD.out.below hb)
    replace HXr := Lib.hid (HXr.out.below hb)
    replace HYr := Lib.hid (HYr.out.below hb)
    replace HOr := Lib.hid (HOr.out.below hb)
    replace HB := Lib.hid (HB.out.trans (hb.mono HB.out.size))
    clear hb
    obtain rfl : v = false := Bool.eq_false_iff.2 fun e => bad_last m zx HZX.out.1 D (hv.1 e)
    clear hv
    go_wp2_with fail
    refine (verify_any (g : Int) _ sg _ D _ N _ em (lb : Int) (long : Int) (by omega) (by omega) (by omega) (by omega) (by omega) _ HK.out HD.out HDB.out HYr.out HBY.out).mono ?_
    rintro e w2 ⟨⟨v, rfl, hv⟩, hb⟩
    replace HK := Lib.hid (HK.out.below hb)
    replace HD := Lib.hid (HD.out.below hb)
    replace HXr := Lib.hid (HXr.out.below hb)
    replace HYr := Lib.hid (HYr.out.below hb)
    replace HOr := Lib.hid (HOr.out.below hb)
    replace HB := Lib.hid (HB.out.trans (hb.mono HB.out.size))
    clear hb
    obtain rfl : v = true := hv.2 HV.out
    clear hv
    go_wp2_with (at_builtin; refine wpList_unguard (by kernel_rfl) ?_; refine wpList_append_q .u8 _ rfl _ _ 22 rfl w2.heap.size 5 1 i0 Tryd.underlying22 hi hz0 hz1 hz2 (by decide) _ [0] rfl (OwnQ.litM .u8 w2 5 w2.heap.size (Nat.le_refl _) [0] #[.int .u8 0] 1 (by simp [num]) rfl (by decide)) _ N _ em rfl (HOr.out.below ((Below.refl _ w2).alloc (Nat.le_refl _) _)) (by simp; omega) (by simp) ?_; intro v4 wA hown hgrow; have HBn := Lib.hid (hgrow w2 ((Below.refl _ w2).alloc (Nat.le_refl _) _)); obtain ⟨o1, n1, k1, rfl, hon, ho⟩ := own_slM hown; have HZr := Lib.hid ho.reads; have HZn := Lib.hid hon; clear hown hgrow hon ho)
    replace HK := Lib.hid (HK.out.below HBn.out)
    replace HD := Lib.hid (HD.out.below HBn.out)
    replace HOr := Lib.hid (HOr.out.below HBn.out)
    replace HB := Lib.hid (HB.out.trans (HBn.out.mono HB.out.size))
    clear HBn HXr HYr
    have HZb := Lib.hid (show Byt ([0] ++ em) from fun x hx => by
      rcases List.mem_append.1 hx with hx | hx
      · rw [List.mem_singleton.1 hx]; decide
      · exact HBY.out x hx)
    skip
    refine (verify_any (g : Int) _ sg _ D _ n1 _ ([0] ++ em) (lb : Int) (long : Int) (by omega) (by omega) (by omega) (by omega) (by omega) _ HK.out HD.out HDB.out HZr.out HZb.out).mono ?_
    rintro e w3 ⟨⟨v, rfl, hv⟩, hb⟩
    replace HK := Lib.hid (HK.out.below hb)
    replace HD := Lib.hid (HD.out.below hb)
    replace HOr := Lib.hid (HOr.out.below hb)
    replace HB := Lib.hid (HB.out.trans (hb.mono HB.out.size))
    clear hb
    obtain rfl : v = false := Bool.eq_false_iff.2 fun e => bad_len _ (by rw [Int.toNat_natCast, HN.out, List.length_append, HEL.out]; simp) D (hv.1 e)
    clear hv
    have hTr := HOr.out.sub 1 N (by omega) (Nat.le_refl _)
    rw [if_neg (by omega), List.take_of_length_le (by rw [HEL.out]; exact Nat.le_refl _)] at hTr
    simp only [Option.map_some, Addr.add_lit, Nat.zero_add] at hTr
    have HT := Lib.hid hTr
    clear hTr
    have HTb := Lib.hid (show Byt (em.drop 1) from fun x hx => HBY.out x (List.mem_of_mem_drop hx))
    go_wp2_with fail
    skip
    refine (verify_any (g : Int) _ sg _ D (some ⟨gE, 1, none⟩) (N - 1) (N - 1) (em.drop 1) (lb : Int) (long : Int) (by omega) (by omega) (by omega) (by omega) (by omega) _ HK.out HD.out HDB.out HT.out HTb.out).mono ?_
    rintro e w4 ⟨⟨v, rfl, hv⟩, hb⟩
    replace HK := Lib.hid (HK.out.below hb)
    replace HD := Lib.hid (HD.out.below hb)
    replace HOr := Lib.hid (HOr.out.below hb)
    replace HB := Lib.hid (HB.out.trans (hb.mono HB.out.size))
    clear hb
    obtain rfl : v = false := Bool.eq_false_iff.2 fun e => bad_len _ (by rw [Int.toNat_natCast, HN.out, List.length_drop, HEL.out]; omega) D (hv.1 e)
    clear hv
    go_wp2
    go_ret
    exact ⟨rfl, HB.out⟩
  · skip
    have th : decide ((0 : Int) < (r8 : Int)) = true := decide_eq_true (by omega)
    have th2 : decide (0 < r8) = true := decide_eq_true (by omega)
    have th3 : 0 < r8 := by omega
    have HHI := Lib.hid hhi
    clear hhi
    go_wp2_with (at_builtin; first
        | (refine wpList_append_q1 .u8 _ rfl _ _ 22 rfl (w5).heap.size 5 i0 Tryd.underlying22 hi hz0 hz1 hz2 _ [] rfl (OwnQ.empty .u8 (w5) _ _ (Nat.le_refl _)) _ N _ em rfl (Reads.below HO.out.reads ((Below.refl _ (w5)).alloc (Nat.le_refl _) _)) (by simp; omega) (by simp) ?_; intro v2 w6 hown hgrow; rw [List.nil_append] at hown; have HX := Lib.hid hown; have HBX := Lib.hid (hgrow (w5) ((Below.refl _ _).alloc (Nat.le_refl _) _)); clear hown hgrow; obtain ⟨gX, cX, hvx⟩ := HX.out.succ (by intro e; have := HEL.out; rw [e] at this; simp at this; omega); rw [HEL.out] at hvx; subst hvx; have hcx := HX.out.cellAt HEL.out.symm N1 hlt1; rw [HM.out.1, List.getElem?_append_right (by have := HM.out.2; have := HN1.out; omega), show N1 - m.length = 0 by (have := HM.out.2; have := HN1.out; omega)] at hcx; have cx : w6.cell? ⟨gX, N1, none⟩ = some (.int .u8 188) := hcx; have fx := HX.out.frozenAt HEL.out.symm N1; have HXS := Lib.hid (HX.out.stored HEL.out.symm N1 zx (zx : Int) rfl); have HEM := Lib.hid (em_row w6 gX N1 zx 5 _ (HO.out.reads.below (HXS.out.2 w5 HBX.out))); clear hcx)
        | (refine wpList_append_q1 .u8 _ rfl _ _ 22 rfl w6.heap.size 5 i0 Tryd.underlying22 hi hz0 hz1 hz2 _ [] rfl HEM.out.1 _ N _ em rfl HEM.out.2.2 (by simp; omega) (by simp) ?_; intro v2 w8 hown hgrow; rw [List.nil_append] at hown; have HY := Lib.hid hown; have HBYw := Lib.hid (hgrow (w6.setCell ⟨gX, N1, none⟩ (.int .u8 (zx : Int))) HEM.out.2.1); clear hown hgrow HEM; obtain ⟨gY, cY, hvx⟩ := HY.out.succ (by intro e; have := HEL.out; rw [e] at this; simp at this; omega); rw [HEL.out] at hvx; subst hvx; have hcy := HY.out.cellAt HEL.out.symm 0 (by omega); rw [HER.out] at hcy; have cy : w8.cell? ⟨gY, 0, none⟩ = some (.int .u8 (x0 : Int)) := hcy; have fy := HY.out.frozenAt HEL.out.symm 0; have HYS := Lib.hid (HY.out.stored HEL.out.symm 0 y0 (y0 : Int) rfl); clear hcy))
    have hw7 := HXS.out.2 w5 HBX.out
    have hs6 : w5.heap.size ≤ w6.heap.size := HBX.out.size
    have hs5 : w.heap.size ≤ w5.heap.size := HB.out.size
    have hw8 : Below w.heap.size w w8 := (HB.out.trans (hw7.mono hs5)).trans (HBYw.out.mono (Nat.le_trans hs5 hs6))
    have hw9 : Below w.heap.size w (w8.setCell ⟨gY, 0, none⟩ (.int .u8 (y0 : Int))) := (HB.out.trans (hw7.mono hs5)).trans ((HYS.out.2 _ HBYw.out).mono (Nat.le_trans hs5 hs6))
    have h59 : Below w5.heap.size w5 (w8.setCell ⟨gY, 0, none⟩ (.int .u8 (y0 : Int))) := hw7.trans ((HYS.out.2 _ HBYw.out).mono hs6)
    have h79 : Below (w6.setCell ⟨gX, N1, none⟩ (.int .u8 (zx : Int))).heap.size (w6.setCell ⟨gX, N1, none⟩ (.int .u8 (zx : Int))) (w8.setCell ⟨gY, 0, none⟩ (.int .u8 (y0 : Int))) := by rw [World.size_setCell]; exact HYS.out.2 _ HBYw.out
    have HYr := Lib.hid (show Reads .u8 _ (some ⟨gY, 0, none⟩) N cY (y0 :: er) from by have := HYS.out.1.reads; rw [HER.out] at this; exact this)
    generalize w8.setCell ⟨gY, 0, none⟩ (.int .u8 (y0 : Int)) = w9 at *
    have hxs : em.set N1 zx = m ++ [zx] := by rw [HM.out.1, List.set_append_right _ _ (by have := HM.out.2; have := HN1.out; omega), show N1 - m.length = 0 by (have := HM.out.2; have := HN1.out; omega)]; rfl
    have HXr := Lib.hid (HXS.out.1.reads.below h79)
    rw [hxs] at HXr
    have HXb := Lib.hid (show Byt (m ++ [zx]) from fun x hx => by
      rcases List.mem_append.1 hx with hx | hx
      · exact HBY.out x (by rw [HM.out.1]; exact List.mem_append_left _ hx)
      · rw [List.mem_singleton.1 hx]; exact HZX.out.2)
    have HOr := Lib.hid (HO.out.reads.below h59)
    replace HK := Lib.hid (HK.out.below h59)
    replace HD := Lib.hid (HD.out.below h59)
    replace HB := Lib.hid hw9
    clear hw9 h59 h79 hw8 hw7 hxs HXS HX HY HO HBX HBYw
    skip
    refine (verify_any (g : Int) _ sg _ D _ N _ (m ++ [zx]) (lb : Int) (long : Int) (by omega) (by omega) (by omega) (by omega) (by omega) _ HK.out HD.out HDB.out HXr.out HXb.out).mono ?_
    rintro e w1 ⟨⟨v, rfl, hv⟩, hb⟩
    replace HK := Lib.hid (HK.out.below hb)
    replace HD := Lib.hid (HD.out.below hb)
    replace HXr := Lib.hid (HXr.out.below hb)
    replace HYr := Lib.hid (HYr.out.below hb)
    replace HOr := Lib.hid (HOr.out.below hb)
    replace HB := Lib.hid (HB.out.trans (hb.mono HB.out.size))
    clear hb
    obtain rfl : v = false := Bool.eq_false_iff.2 fun e => bad_last m zx HZX.out.1 D (hv.1 e)
    clear hv
    have HYb := Lib.hid (show Byt (y0 :: er) from fun x hx => by
      rcases List.mem_cons.1 hx with rfl | hx
      · rw [← HY0.out]; exact Nat.or_lt_two_pow (n := 8) hx0b (by decide)
      · exact HBY.out x (by rw [HER.out]; exact List.mem_cons_of_mem _ hx))
    go_wp2_with fail
    refine (verify_any (g : Int) _ sg _ D _ N _ (y0 :: er) (lb : Int) (long : Int) (by omega) (by omega) (by omega) (by omega) (by omega) _ HK.out HD.out HDB.out HYr.out HYb.out).mono ?_
    rintro e w2 ⟨⟨v, rfl, hv⟩, hb⟩
    replace HK := Lib.hid (HK.out.below hb)
    replace HD := Lib.hid (HD.out.below hb)
    replace HXr := Lib.hid (HXr.out.below hb)
    replace HYr := Lib.hid (HYr.out.below hb)
    replace HOr := Lib.hid (HOr.out.below hb)
    replace HB := Lib.hid (HB.out.trans (hb.mono HB.out.size))
    clear hb
    obtain rfl : v = false := Bool.eq_false_iff.2 fun e => by
      have h9 := hv.1 e
      rw [← HY0.out] at h9
      exact bad_high x0 er 7 (by decide) (low_high long (by have := HR8.out; have := HHI.out; omega)) D h9
    clear hv
    go_wp2_with (at_builtin; refine wpList_unguard (by kernel_rfl) ?_; refine wpList_append_q .u8 _ rfl _ _ 22 rfl w2.heap.size 5 1 i0 Tryd.underlying22 hi hz0 hz1 hz2 (by decide) _ [0] rfl (OwnQ.litM .u8 w2 5 w2.heap.size (Nat.le_refl _) [0] #[.int .u8 0] 1 (by simp [num]) rfl (by decide)) _ N _ em rfl (HOr.out.below ((Below.refl _ w2).alloc (Nat.le_refl _) _)) (by simp; omega) (by simp) ?_; intro v4 wA hown hgrow; have HBn := Lib.hid (hgrow w2 ((Below.refl _ w2).alloc (Nat.le_refl _) _)); obtain ⟨o1, n1, k1, rfl, hon, ho⟩ := own_slM hown; have HZr := Lib.hid ho.reads; have HZn := Lib.hid hon; clear hown hgrow hon ho)
    replace HK := Lib.hid (HK.out.below HBn.out)
    replace HD := Lib.hid (HD.out.below HBn.out)
    replace HOr := Lib.hid (HOr.out.below HBn.out)
    replace HB := Lib.hid (HB.out.trans (HBn.out.mono HB.out.size))
    clear HBn HXr HYr
    have HZb := Lib.hid (show Byt ([0] ++ em) from fun x hx => by
      rcases List.mem_append.1 hx with hx | hx
      · rw [List.mem_singleton.1 hx]; decide
      · exact HBY.out x hx)
    skip
    refine (verify_any (g : Int) _ sg _ D _ n1 _ ([0] ++ em) (lb : Int) (long : Int) (by omega) (by omega) (by omega) (by omega) (by omega) _ HK.out HD.out HDB.out HZr.out HZb.out).mono ?_
    rintro e w3 ⟨⟨v, rfl, hv⟩, hb⟩
    replace HK := Lib.hid (HK.out.below hb)
    replace HD := Lib.hid (HD.out.below hb)
    replace HOr := Lib.hid (HOr.out.below hb)
    replace HB := Lib.hid (HB.out.trans (hb.mono HB.out.size))
    clear hb
    obtain rfl : v = false := Bool.eq_false_iff.2 fun e => bad_len _ (by rw [Int.toNat_natCast, HN.out, List.length_append, HEL.out]; simp) D (hv.1 e)
    clear hv
    have hTr := HOr.out.sub 1 N (by omega) (Nat.le_refl _)
    rw [if_neg (by omega), List.take_of_length_le (by rw [HEL.out]; exact Nat.le_refl _)] at hTr
    simp only [Option.map_some, Addr.add_lit, Nat.zero_add] at hTr
    have HT := Lib.hid hTr
    clear hTr
    have HTb := Lib.hid (show Byt (em.drop 1) from fun x hx => HBY.out x (List.mem_of_mem_drop hx))
    go_wp2_with fail
    skip
    refine (verify_any (g : Int) _ sg _ D (some ⟨gE, 1, none⟩) (N - 1) (N - 1) (em.drop 1) (lb : Int) (long : Int) (by omega) (by omega) (by omega) (by omega) (by omega) _ HK.out HD.out HDB.out HT.out HTb.out).mono ?_
    rintro e w4 ⟨⟨v, rfl, hv⟩, hb⟩
    replace HK := Lib.hid (HK.out.below hb)
    replace HD := Lib.hid (HD.out.below hb)
    replace HOr := Lib.hid (HOr.out.below hb)
    replace HB := Lib.hid (HB.out.trans (hb.mono HB.out.size))
    clear hb
    obtain rfl : v = false := Bool.eq_false_iff.2 fun e => bad_len _ (by rw [Int.toNat_natCast, HN.out, List.length_drop, HEL.out]; omega) D (hv.1 e)
    clear hv
    go_wp2
    go_ret
    exact ⟨rfl, HB.out⟩
end Go.Proofs.YtcdglhmapijebaaDoor
