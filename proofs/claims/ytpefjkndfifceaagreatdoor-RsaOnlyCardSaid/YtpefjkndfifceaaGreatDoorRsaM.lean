/-
  RSA: RsaOnly. (Written by wip/gen_rsaL.py.)
-/
import Derived.Test.YtpefjkndfifceaaGreatDoorRsaL
set_option linter.unusedVariables false
set_option linter.unusedSimpArgs false
namespace Go.Proofs.YtpefjkndfifceaaGreatDoor
open Go.RowKit
set_option maxRecDepth 100000

theorem nV_cons (x : Nat) (r : List Nat) : nV (x :: r) = nV r + 256 ^ r.length * x := by
  show valB 256 (x :: r).reverse = valB 256 r.reverse + _
  rw [List.reverse_cons, valB_snoc, List.length_reverse]
theorem nV_top {N : List Nat} (hok : numOk N = true) (h : 0 < N.length) : 256 ^ (N.length - 1) ≤ nV N := by
  cases N with
  | nil => simp at h
  | cons x r =>
    have hx : 1 ≤ x := by
      unfold numOk at hok
      simp at hok
      omega
    rw [nV_cons, List.length_cons, Nat.add_sub_cancel]
    have := Nat.mul_le_mul_left (256 ^ r.length) hx
    omega
theorem ems_fits {g : Nat} (hh : IsHash g) (d s : List Nat) (t : Nat) : FitsP (lowP t) (emsP g d s t) := by
  unfold emsP
  have hm := masked_fits g (blockP (lenP t - mSize g - 1) s) (innerP g d s) t
  generalize hM : maskedP g (blockP (lenP t - mSize g - 1) s) (innerP g d s) t = M at *
  cases M with
  | nil =>
    exfalso
    have h1 := congrArg List.length hM
    rw [masked_len hh] at h1
    unfold blockP at h1
    simp at h1
  | cons x r => simpa [FitsP] using hm
theorem fits_lt {l : List Nat} {t : Nat} (hb : Byt l) (hf : FitsP (lowP t) l) (hl : l.length = lenP t) : nV l < 2 ^ t := by
  have hbits := lenP_bits t
  cases l with
  | nil =>
    have : nV [] = 0 := rfl
    rw [this]
    exact Nat.pow_pos (by decide)
  | cons x r =>
    rw [List.length_cons] at hl
    have hx : x &&& lowP t = x := by simpa [FitsP] using hf
    have hx2 : x ≤ lowP t := by rw [← hx]; exact Nat.and_le_right
    obtain ⟨j, hj⟩ : ∃ j, 8 * lenP t - t = j := ⟨_, rfl⟩
    have hj8 : j < 8 := by omega
    have hlow : lowP t + 1 ≤ 2 ^ (8 - j) := by
      unfold lowP
      rw [hj]
      have : ∀ j, j < 8 → 255 / 2 ^ j + 1 ≤ 2 ^ (8 - j) := by decide
      exact this j hj8
    have h1 : nV r < 256 ^ r.length := nV_lt fun y hy => hb y (List.mem_cons_of_mem _ hy)
    rw [nV_cons]
    have h2 : 256 ^ r.length * (x + 1) ≤ 256 ^ r.length * 2 ^ (8 - j) := Nat.mul_le_mul_left _ (by omega)
    have h3 : 256 ^ r.length * 2 ^ (8 - j) = 2 ^ t := by
      rw [show (256 : Nat) = 2 ^ 8 from rfl, ← Nat.pow_mul, ← Nat.pow_add]
      congr 1
      omega
    rw [Nat.mul_add, Nat.mul_one] at h2
    omega
/-- What is signed fits below the modulus. -/
theorem sgn_fits {N E : List Nat} (hp : PubP N E) (bN : Byt N) {way h : Int} {d s : List Nat} (bd : Byt d) (bs : Byt s) (h0 : (sgnV N way h d s).2 = 0) : nV (sgnV N way h d s).1 < nV N ∧ (way = 1 → (sgnV N way h d s).1.length = N.length) := by
  obtain ⟨a, b, c⟩ := (sgn_ok hp bN).1 h0
  have hb := (sgn_byt hp bN (way := way) (h := h) bd bs).1
  have hl := pub_len hp bN
  obtain ⟨hn, hb1, hb2⟩ := pub_bits hp
  have hg := isHash_nat a
  rcases c with ⟨w1, c⟩ | ⟨w2, c, e⟩
  · have e1 : sgnV N way h d s = encR h d (N.length : Int) := by unfold sgnV; rw [if_pos w1]
    rw [e1] at h0 hb ⊢
    rw [encR_yes h0, Int.toNat_natCast] at hb ⊢
    have hlen : (encL h.toNat d N.length).length = N.length := by
      unfold encL mEncP frameL
      simp only [List.length_append, List.length_cons, List.length_nil, List.length_replicate, frameH_len]
      omega
    refine ⟨?_, fun _ => hlen⟩
    obtain ⟨r, hr⟩ : ∃ r, encL h.toNat d N.length = 0 :: r := ⟨_, rfl⟩
    rw [hr] at hb hlen ⊢
    rw [nV_cons, Nat.mul_zero, Nat.add_zero]
    have h1 : nV r < 256 ^ r.length := nV_lt fun x hx => hb x (List.mem_cons_of_mem _ hx)
    rw [List.length_cons] at hlen
    have h2 := nV_top hp.1 (by omega)
    rw [← hlen, Nat.add_sub_cancel] at h2
    omega
  · have w1 : way ≠ 1 := by omega
    refine ⟨?_, fun k => absurd k w1⟩
    have e1 : sgnV N way h d s = pssV h d s ((bitsN (numV N) : Int) - 1) := by unfold sgnV; rw [if_neg w1, if_pos w2, if_pos (by rw [c, hSz_yes a])]
    rw [e1] at h0 hb ⊢
    have hr := pssV_ok.1 h0
    unfold pssV at hb ⊢
    rw [if_pos hr] at hb ⊢
    obtain ⟨t, ht⟩ : ∃ t, bitsN (nV N) = t + 1 := ⟨bitsN (nV N) - 1, by omega⟩
    have hnn : ((bitsN (numV N) : Int) - 1) = (t : Int) := by rw [hn]; omega
    rw [hnn] at hr hb ⊢
    rw [Int.toNat_natCast] at hb ⊢
    have hrm := hr.1
    generalize h.toNat = g at *
    subst hg
    have hf := ems_fine a d s rfl bs hrm
    have hfit : FitsP (lowP t) (emsP g d s t) := ems_fits a _ _ _
    have hlt := fits_lt hb hfit hf.2.2.2.1
    have h3 : 2 ^ t ≤ nV N := by
      by_cases k : nV N < 2 ^ t
      · have := (bitsN_le (nV N) t).2 k
        omega
      · omega
    exact Nat.lt_of_lt_of_le hlt h3
open Classical in
set_option maxHeartbeats 16000000 in
theorem only_walk (na : Option Addr) (nn nc : Nat) (N : List Nat) (ea : Option Addr) (en ec : Nat) (E : List Nat) (da : Option Addr) (dn dc : Nat) (D : List Nat) (h : Int) (ga : Option Addr) (gn gc : Nat) (G : List Nat) (sa : Option Addr) (sn sc : Nat) (S : List Nat) (w : World) (hk : Kinds w) (hN : Reads .u8 w na nn nc N) (bN : Byt N) (hE : Reads .u8 w ea en ec E) (bE : Byt E) (hD : Reads .u8 w da dn dc D) (bD : Byt D) (xn : nn ≤ 140737488351232) (xe : en ≤ 140737488351232) (xd : dn ≤ 140737488351232) (hg : Reads .u8 w ga gn gc G) (bg : Byt G) (xg : gn ≤ 140737488351232) (hs : Reads .u8 w sa sn sc S) (bs : Byt S) (xs : sn ≤ 140737488351232) :
    Calls Tryz.prog 8 #[.agg #[.slice na nn nc, .slice ea en ec, .slice da dn dc], .int .i64 h, .slice ga gn gc, .slice sa sn sc] w fun e w' => e = .returned (.bool true) ∧ Below w.heap.size w w' := by
  have HRN0 := Lib.hid hN
  have HRE0 := Lib.hid hE
  have HRD0 := Lib.hid hD
  have HBN := Lib.hid bN
  have HBE := Lib.hid bE
  have HBD := Lib.hid bD
  have HNL := Lib.hid hN.length
  have HEL := Lib.hid hE.length
  have HDL := Lib.hid hD.length
  have HKs0 := Lib.hid hk
  have Hg0 := Lib.hid hg
  have HBg := Lib.hid bg
  have HLg := Lib.hid hg.length
  have Hs0 := Lib.hid hs
  have HBs := Lib.hid bs
  have HLs := Lib.hid hs.length
  have hba := (Below.refl w.heap.size w).alloc (Nat.le_refl _) (.cells #[.slice na nn nc, .slice ea en ec, .slice da dn dc] 24)
  have hq0 : (w.alloc (.cells #[.slice na nn nc, .slice ea en ec, .slice da dn dc] 24)).heap[w.heap.size]? = some (.cells #[.slice na nn nc, .slice ea en ec, .slice da dn dc] 24) := World.alloc_heap_new w _
  have HQ0 := Lib.hid hq0
  have HB := Lib.hid hba
  clear hN bN hE bE hD bD hk hba hq0 hg bg hs bs
  go_enter Tryz.func8, Tryz.ntmps8
  go_wp2_with fail
  generalize w.alloc (.cells #[.slice na nn nc, .slice ea en ec, .slice da dn dc] 24) = w0 at *
  obtain ⟨P, hP⟩ : ∃ P, w.heap.size = P := ⟨_, rfl⟩
  rw [hP] at HQ0 ⊢
  have HPW := Lib.hid hP
  have HQ : Hid (∀ X, Below w0.heap.size w0 X → X.heap[P]? = some (.cells #[.slice na nn nc, .slice ea en ec, .slice da dn dc] 24)) := Lib.hid fun X hX => (hX.block P (Array.getElem?_eq_some_iff.1 HQ0.out).1).trans HQ0.out
  have HKs : Hid (∀ X, Below w0.heap.size w0 X → Kinds X) := Lib.hid fun X hX => (HKs0.out.below HB.out).below hX
  have HRN := Lib.hid (fun (X : World) (hX : Below w0.heap.size w0 X) => (HRN0.out.below HB.out).below hX)
  have HRE := Lib.hid (fun (X : World) (hX : Below w0.heap.size w0 X) => (HRE0.out.below HB.out).below hX)
  have HRD := Lib.hid (fun (X : World) (hX : Below w0.heap.size w0 X) => (HRD0.out.below HB.out).below hX)
  have Hg := Lib.hid (fun (X : World) (hX : Below w0.heap.size w0 X) => (Hg0.out.below HB.out).below hX)
  have Hs := Lib.hid (fun (X : World) (hX : Below w0.heap.size w0 X) => (Hs0.out.below HB.out).below hX)
  clear hP HQ0 HRN0 HRE0 HRD0 HKs0 Hg0 Hs0
  have HC := Lib.hid (Below.refl w0.heap.size w0)
  refine (alive_k _ (HKs.out _ HC.out)).mono ?_
  rintro e wa ⟨rfl, hb⟩
  replace HC := Lib.hid (HC.out.trans (hb.mono HC.out.size))
  clear hb
  obtain ⟨k0, k1, k2⟩ := key_cells (HQ.out _ HC.out)
  go_wp2_with fail
  refine (great_k na nn nc N ea en ec E da dn dc _ (HRN.out _ HC.out) HBN.out (HRE.out _ HC.out) HBE.out xn xe xd).mono ?_
  rintro e wg ⟨rfl | ⟨rfl, g1, g2, g3, g4⟩, hb⟩
  · replace HC := Lib.hid (HC.out.trans (hb.mono HC.out.size))
    clear hb k0 k1 k2
    go_wp2
    go_ret
    exact ⟨rfl, HPW.out ▸ (HB.out.trans (HC.out.mono HB.out.size))⟩
  replace HC := Lib.hid (HC.out.trans (hb.mono HC.out.size))
  have HG4 := Lib.hid g4
  clear hb k0 k1 k2 g4
  have HKey : Hid (∀ X, Below w0.heap.size w0 X → KeyAt X (.agg #[.slice na nn nc, .slice ea en ec, .slice da dn dc]) N E D) := Lib.hid fun X hX => ⟨na, nn, nc, ea, en, ec, da, dn, dc, rfl, ⟨HRN.out X hX, HBN.out, g1⟩, ⟨HRE.out X hX, HBE.out, g2⟩, HRD.out X hX, HBD.out, g3⟩
  have HSM := Lib.hid (HKey.out _ (Below.refl _ _)).small
  by_cases hl : 200 < gn
  · have t1 : decide ((200 : Int) < (gn : Int)) = true := decide_eq_true (by omega)
    clear hl
    go_wp2
    go_ret
    exact ⟨rfl, HPW.out ▸ (HB.out.trans (HC.out.mono HB.out.size))⟩
  have ug : decide ((200 : Int) < (gn : Int)) = false := decide_eq_false (by omega)
  have lg : gn ≤ 200 := by omega
  clear hl
  by_cases hl : 200 < sn
  · have t1 : decide ((200 : Int) < (sn : Int)) = true := decide_eq_true (by omega)
    clear hl
    go_wp2
    go_ret
    exact ⟨rfl, HPW.out ▸ (HB.out.trans (HC.out.mono HB.out.size))⟩
  have us : decide ((200 : Int) < (sn : Int)) = false := decide_eq_false (by omega)
  have ls : sn ≤ 200 := by omega
  clear hl
  obtain ⟨k0, k1, k2⟩ := key_cells (HQ.out _ HC.out)
  go_wp2_with fail
  refine (proper_any _ N E D _ (HKey.out _ HC.out)).mono ?_
  rintro e wp ⟨⟨r, rfl, hr⟩, hb⟩
  replace HC := Lib.hid (HC.out.trans (hb.mono HC.out.size))
  clear hb k0 k1 k2
  rcases hr with rfl | ⟨rfl, hg⟩
  · go_wp2
    go_ret
    exact ⟨rfl, HPW.out ▸ (HB.out.trans (HC.out.mono HB.out.size))⟩
  have HGK := Lib.hid hg
  have HPR := Lib.hid hg.1
  clear hg
  clear ug
  clear us
  obtain ⟨k0, k1, k2⟩ := key_cells (HQ.out _ HC.out)
  have bnil : Byt ([] : List Nat) := fun x hx => by cases hx
  go_wp2_with fail
  refine (sign_any _ N E D 1 h ga gn gc G none 0 0 [] _ (HKey.out _ HC.out) (HKs.out _ HC.out) (Hg.out _ HC.out) (Reads.none _ _) HBg.out bnil).mono ?_
  rintro e w1 ⟨hq, hb⟩
  have HBT := Lib.hid (sgn_byt HPR.out.1 HSM.out.1.1 (way := 1) (h := h) HBg.out bnil).1
  have HFT := Lib.hid (sgn_fits HPR.out.1 HSM.out.1.1 (way := 1) (h := h) HBg.out bnil)
  replace HC := Lib.hid (HC.out.trans (hb.mono HC.out.size))
  clear k0 k1 k2
  by_cases hok : (sgnV N 1 h G []).2 = 0
  rotate_left
  · rw [show signV N E D 1 h G [] = ([], 101) by unfold signV; rw [if_pos HPR.out, if_neg hok]] at hq
    obtain ⟨v1, rfl, hv⟩ := hq
    have HNV := Lib.hid (show ¬ VerK N E 1 h G S from fun k => hok (by rw [k.2.2.2.1 rfl]))
    clear hb hv hok
    obtain ⟨k0, k1, k2⟩ := key_cells (HQ.out _ HC.out)
    go_wp2_with fail
    refine (kverify_one _ N E D h ga gn gc G sa sn sc S _ (HKey.out _ HC.out) (HKs.out _ HC.out) (Hg.out _ HC.out) (Hs.out _ HC.out) HBg.out HBs.out).mono ?_
    rintro e w2 ⟨rfl, hb⟩
    rw [decide_eq_false HNV.out]
    replace HC := Lib.hid (HC.out.trans (hb.mono HC.out.size))
    clear hb k0 k1 k2
    go_wp2
    go_ret
    exact ⟨by first | rfl | (simp; done) | (simp; rfl), HPW.out ▸ (HB.out.trans (HC.out.mono HB.out.size))⟩
  obtain ⟨hfit, hflen⟩ := HFT.out hok
  have hflen := hflen rfl
  rw [show signV N E D 1 h G [] = raiseV N (sgnV N 1 h G []).1 D by unfold signV; rw [if_pos HPR.out, if_pos hok], raise_yes HSM.out.1.1 HSM.out.1.2 hfit] at hq
  obtain ⟨v1, rfl, hv⟩ := hq
  have hRM := ((sgn_room HPR.out.1 HSM.out.1.1).1 hok).1
  have hsg : sgnV N 1 h G [] = ((sgnV N 1 h G []).1, 0) := Prod.ext rfl hok
  have hN0 : 0 < nV N := by omega
  have HV := Lib.hid (show VerK N E 1 h G S ↔ beN N.length (nV (sgnV N 1 h G []).1 ^ nV D % nV N) = S from by
    have hbt := HBT.out
    generalize (sgnV N 1 h G []).1 = F at *
    unfold VerK upZ
    rw [hsg]
    constructor
    · rintro ⟨-, k2, k3, k4, -⟩
      have k5 : F = beN N.length (nV S ^ nV E % nV N) := congrArg Prod.fst (k4 rfl)
      have k6 : nV F = nV S ^ nV E % nV N := by rw [k5, beN_val]
      rw [k6, HGK.out.up k3, ← k2, beN_of HBs.out]
    · intro k
      have k2 : S.length = N.length := by rw [← k]; exact beN_len (Nat.lt_trans (Nat.mod_lt _ hN0) (nV_lt HSM.out.1.1))
      have k3 : nV S = nV F ^ nV D % nV N := by rw [← k, beN_val]
      refine ⟨hRM, k2, by rw [k3]; exact Nat.mod_lt _ hN0, fun _ => ?_, fun k => absurd rfl k⟩
      rw [k3, HGK.out.down hfit, ← hflen, beN_of hbt])
  obtain ⟨Y, hY⟩ : ∃ y, nV (sgnV N 1 h G []).1 ^ nV D % nV N = y := ⟨_, rfl⟩
  rw [hY] at hv HV
  obtain ⟨xa, xm, xc, rfl, hxm, ho⟩ := own_be hv (beN_byt _ _)
  have HX := Lib.hid ho.reads
  clear hb hv ho hok hfit hflen hRM hsg hN0 hY hxm HBT HFT
  obtain ⟨k0, k1, k2⟩ := key_cells (HQ.out _ HC.out)
  go_wp2_with fail
  refine (kverify_one _ N E D h ga gn gc G sa sn sc S _ (HKey.out _ HC.out) (HKs.out _ HC.out) (Hg.out _ HC.out) (Hs.out _ HC.out) HBg.out HBs.out).mono ?_
  rintro e w2 ⟨rfl, hb⟩
  replace HX := Lib.hid (HX.out.below hb)
  replace HC := Lib.hid (HC.out.trans (hb.mono HC.out.size))
  clear hb k0 k1 k2
  have cv1 := convB (HX.out.bts (beN_byt _ _))
  have cv2 := convB ((Hs.out _ HC.out).bts HBs.out)
  by_cases hq : beN N.length Y = S
  · rw [decide_eq_true (HV.out.2 hq)]
    rw [hq] at cv1
    clear hq
    go_wp2
    go_ret
    exact ⟨by first | rfl | (simp; done) | (simp; rfl), HPW.out ▸ (HB.out.trans (HC.out.mono HB.out.size))⟩
  · rw [decide_eq_false fun k => hq (HV.out.1 k)]
    have hst := strOf_neP (beN_byt _ _) HBs.out hq
    clear hq
    go_wp2
    go_ret
    exact ⟨by first | rfl | (simp; done) | (simp; rfl), HPW.out ▸ (HB.out.trans (HC.out.mono HB.out.size))⟩

end Go.Proofs.YtpefjkndfifceaaGreatDoor
