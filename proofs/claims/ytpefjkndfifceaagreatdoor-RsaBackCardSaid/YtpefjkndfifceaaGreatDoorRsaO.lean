/-
  RSA: RsaBack. (Written by wip/gen_rsaL.py.)
-/
import Derived.Test.YtpefjkndfifceaaGreatDoorPkb1
import Derived.Test.YtpefjkndfifceaaGreatDoorPkb2
import Derived.Test.YtpefjkndfifceaaGreatDoorPkb3
import Derived.Test.YtpefjkndfifceaaGreatDoorPkb4
import Derived.Test.YtpefjkndfifceaaGreatDoorPkb5
import Derived.Test.YtpefjkndfifceaaGreatDoorPkb6
import Derived.Test.YtpefjkndfifceaaGreatDoorPkb7
import Derived.Test.YtpefjkndfifceaaGreatDoorPkb8
import Derived.Test.YtpefjkndfifceaaGreatDoorPkb9
import Derived.Test.YtpefjkndfifceaaGreatDoorPkb10
import Derived.Test.YtpefjkndfifceaaGreatDoorPkb11
import Derived.Test.YtpefjkndfifceaaGreatDoorPkb12
import Derived.Test.YtpefjkndfifceaaGreatDoorPkb13
import Derived.Test.YtpefjkndfifceaaGreatDoorPkb14
import Derived.Test.YtpefjkndfifceaaGreatDoorPkb15
import Derived.Test.YtpefjkndfifceaaGreatDoorPkb16
set_option linter.unusedVariables false
set_option linter.unusedSimpArgs false
namespace Go.Proofs.YtpefjkndfifceaaGreatDoor
open Go.RowKit
set_option maxRecDepth 100000

theorem encR_inj {h : Int} {d o : List Nat} {n : Nat} (h0 : (encR h d (n : Int)).2 = 0) : encR h o (n : Int) = ((encR h d (n : Int)).1, 0) ↔ d = o := by
  constructor
  · intro he
    have h1 : (encR h o (n : Int)).2 = 0 := by rw [he]
    have h2 : (encR h o (n : Int)).1 = (encR h d (n : Int)).1 := by rw [he]
    rw [encR_yes h0, encR_yes h1] at h2
    unfold encL mEncP frameL at h2
    rw [← List.append_assoc, ← List.append_assoc] at h2
    exact (List.append_cancel_left h2).symm
  · rintro rfl
    exact Prod.ext rfl h0
/-- What was signed, against any digest. -/
theorem back_iff {N E D : List Nat} (hg : GoodK N E D) (bN : Byt N) {way h : Int} {d s o : List Nat} (bd : Byt d) (bs : Byt s) (h0 : (sgnV N way h d s).2 = 0) :
    VerK N E way h o (beN N.length (nV (sgnV N way h d s).1 ^ nV D % nV N)) ↔ (way = 1 ∧ d = o) ∨ (way = 2 ∧ o.length = mSize h.toNat ∧ innerP h.toNat o s = innerP h.toNat d s) := by
  have hp := hg.1.1
  obtain ⟨a, b, c⟩ := (sgn_ok hp bN).1 h0
  obtain ⟨hfit, hflen⟩ := sgn_fits hp bN bd bs h0
  have hbt := (sgn_byt hp bN (way := way) (h := h) bd bs).1
  have hRM := ((sgn_room hp bN).1 h0).1
  have hN0 : 0 < nV N := by omega
  have hY : nV (sgnV N way h d s).1 ^ nV D % nV N < nV N := Nat.mod_lt _ hN0
  have hup : upZ N E (beN N.length (nV (sgnV N way h d s).1 ^ nV D % nV N)) = nV (sgnV N way h d s).1 := by
    unfold upZ
    rw [beN_val]
    exact hg.down hfit
  have k2 := beN_len (Nat.lt_trans hY (nV_lt bN))
  have k3 : nV (beN N.length (nV (sgnV N way h d s).1 ^ nV D % nV N)) < nV N := by rw [beN_val]; exact hY
  rcases c with ⟨w1, c⟩ | ⟨w2, c, e⟩
  · subst w1
    have e1 : ∀ x y, sgnV N 1 h x y = encR h x (N.length : Int) := fun x y => by unfold sgnV; rw [if_pos rfl]
    have hF : beN N.length (nV (sgnV N 1 h d s).1) = (sgnV N 1 h d s).1 := by
      have := hflen rfl
      generalize (sgnV N 1 h d s).1 = F at *
      rw [← this, beN_of hbt]
    have key : sgnV N 1 h o [] = (beN N.length (upZ N E (beN N.length (nV (sgnV N 1 h d s).1 ^ nV D % nV N))), 0) ↔ d = o := by
      rw [hup, hF, e1, e1]
      exact encR_inj (by rw [← e1 d s]; exact h0)
    constructor
    · intro k
      exact .inl ⟨rfl, key.1 (k.2.2.2.1 rfl)⟩
    · rintro (⟨-, k⟩ | ⟨k, -⟩)
      · exact ⟨hRM, k2, k3, fun _ => key.2 k, fun k => absurd rfl k⟩
      · omega
  · have w1 : way ≠ 1 := by omega
    obtain ⟨hn, hb1, hb2⟩ := pub_bits hp
    obtain ⟨t, ht⟩ : ∃ t, bitsN (nV N) = t + 1 := ⟨bitsN (nV N) - 1, by omega⟩
    have hnn : ((bitsN (numV N) : Int) - 1) = (t : Int) := by rw [hn]; omega
    have hto : bitsN (nV N) - 1 = t := by omega
    have e1 : sgnV N way h d s = pssV h d s (t : Int) := by unfold sgnV; rw [if_neg w1, if_pos w2, if_pos (by rw [c, hSz_yes a]), hnn]
    have hpo := pssV_ok.1 (by rw [← e1]; exact h0)
    have e2 : sgnV N way h d s = (emsP h.toNat d s t, 0) := by rw [e1]; unfold pssV; rw [if_pos hpo, Int.toNat_natCast]
    have hrm := hpo.1
    have hg2 := isHash_nat a
    have hsz := hSz_yes a
    unfold VerK
    rw [hup, hto, hsz]
    rw [e2] at hbt k2 k3 ⊢
    dsimp only at hbt k2 k3 ⊢
    generalize h.toNat = g at *
    subst hg2
    obtain ⟨f1, f2, f3, f4, f5⟩ := ems_fine a d s rfl bs hrm
    have hF : beN (lenP t) (nV (emsP g d s t)) = emsP g d s t := by rw [← f4, beN_of f5]
    have hFl : nV (emsP g d s t) < 256 ^ lenP t := by rw [← f4]; exact nV_lt f5
    rw [hF]
    have hgood := good_ems a d s rfl bs hrm
    rw [c] at hgood f3
    constructor
    · rintro ⟨-, -, -, -, k⟩
      obtain ⟨-, -, v2, v3⟩ := k w1
      simp only [Int.toNat_natCast] at v2 v3
      rw [f2, f3] at v3
      exact .inr ⟨w2, v2, v3⟩
    · rintro (⟨k, -⟩ | ⟨-, v2, v3⟩)
      · exact absurd k w1
      · refine ⟨hRM, k2, k3, fun k => absurd k w1, fun _ => ⟨hFl, hgood, ?_, ?_⟩⟩ <;> simp only [Int.toNat_natCast]
        · exact v2
        · rw [f2, f3]; exact v3

/-- The three rows that the inner hash is of. -/
def inRp2 (no : Option Addr) (da : Option Addr) (dn dc : Nat) (d : List Nat) (sa : Option Addr) (sn sc : Nat) (s : List Nat) : Nat → Option Addr × Nat × Nat × List Nat
  | 0 => (no, 8, 8, List.replicate 8 0)
  | 1 => (da, dn, dc, d)
  | _ => (sa, sn, sc, s)
open Classical in
set_option maxHeartbeats 16000000 in
theorem back_walk (na : Option Addr) (nn nc : Nat) (N : List Nat) (ea : Option Addr) (en ec : Nat) (E : List Nat) (da : Option Addr) (dn dc : Nat) (D : List Nat) (way : Int) (h : Int) (ga : Option Addr) (gn gc : Nat) (G : List Nat) (oa : Option Addr) (on oc : Nat) (O : List Nat) (ta : Option Addr) (tn tc : Nat) (T : List Nat) (w : World) (hk : Kinds w) (hN : Reads .u8 w na nn nc N) (bN : Byt N) (hE : Reads .u8 w ea en ec E) (bE : Byt E) (hD : Reads .u8 w da dn dc D) (bD : Byt D) (xn : nn ≤ 140737488351232) (xe : en ≤ 140737488351232) (xd : dn ≤ 140737488351232) (hg : Reads .u8 w ga gn gc G) (bg : Byt G) (xg : gn ≤ 140737488351232) (ho : Reads .u8 w oa on oc O) (bo : Byt O) (xo : on ≤ 140737488351232) (ht : Reads .u8 w ta tn tc T) (bt : Byt T) (xt : tn ≤ 140737488351232) :
    Calls Tryz.prog 7 #[.agg #[.slice na nn nc, .slice ea en ec, .slice da dn dc], .int .i64 way, .int .i64 h, .slice ga gn gc, .slice oa on oc, .slice ta tn tc] w fun e w' => e = .returned (.bool true) ∧ Below w.heap.size w w' := by
  obtain ⟨i0, hi0, hz0, hz1, hz2⟩ := info_parts infoMk
  have HRN0 := Lib.hid hN
  have HRE0 := Lib.hid hE
  have HRD0 := Lib.hid hD
  have HBN := Lib.hid bN
  have HBE := Lib.hid bE
  have HBD := Lib.hid bD
  have HNL := Lib.hid hN.length
  have HEL := Lib.hid hE.length
  have HDL := Lib.hid hD.length
  have HKs0 := Lib.hid hk
  have Hg0 := Lib.hid hg
  have HBg := Lib.hid bg
  have HLg := Lib.hid hg.length
  have Ho0 := Lib.hid ho
  have HBo := Lib.hid bo
  have HLo := Lib.hid ho.length
  have Ht0 := Lib.hid ht
  have HBt := Lib.hid bt
  have HLt := Lib.hid ht.length
  have hba := (Below.refl w.heap.size w).alloc (Nat.le_refl _) (.cells #[.slice na nn nc, .slice ea en ec, .slice da dn dc] 24)
  have hq0 : (w.alloc (.cells #[.slice na nn nc, .slice ea en ec, .slice da dn dc] 24)).heap[w.heap.size]? = some (.cells #[.slice na nn nc, .slice ea en ec, .slice da dn dc] 24) := World.alloc_heap_new w _
  have HQ0 := Lib.hid hq0
  have HB := Lib.hid hba
  clear hN bN hE bE hD bD hk hba hq0 hg bg ho bo ht bt
  go_enter Tryz.func7, Tryz.ntmps7
  go_wp2_with fail
  generalize w.alloc (.cells #[.slice na nn nc, .slice ea en ec, .slice da dn dc] 24) = w0 at *
  obtain ⟨P, hP⟩ : ∃ P, w.heap.size = P := ⟨_, rfl⟩
  rw [hP] at HQ0 ⊢
  have HPW := Lib.hid hP
  have HQ : Hid (∀ X, Below w0.heap.size w0 X → X.heap[P]? = some (.cells #[.slice na nn nc, .slice ea en ec, .slice da dn dc] 24)) := Lib.hid fun X hX => (hX.block P (Array.getElem?_eq_some_iff.1 HQ0.out).1).trans HQ0.out
  have HKs : Hid (∀ X, Below w0.heap.size w0 X → Kinds X) := Lib.hid fun X hX => (HKs0.out.below HB.out).below hX
  have HRN := Lib.hid (fun (X : World) (hX : Below w0.heap.size w0 X) => (HRN0.out.below HB.out).below hX)
  have HRE := Lib.hid (fun (X : World) (hX : Below w0.heap.size w0 X) => (HRE0.out.below HB.out).below hX)
  have HRD := Lib.hid (fun (X : World) (hX : Below w0.heap.size w0 X) => (HRD0.out.below HB.out).below hX)
  have Hg := Lib.hid (fun (X : World) (hX : Below w0.heap.size w0 X) => (Hg0.out.below HB.out).below hX)
  have Ho := Lib.hid (fun (X : World) (hX : Below w0.heap.size w0 X) => (Ho0.out.below HB.out).below hX)
  have Ht := Lib.hid (fun (X : World) (hX : Below w0.heap.size w0 X) => (Ht0.out.below HB.out).below hX)
  clear hP HQ0 HRN0 HRE0 HRD0 HKs0 Hg0 Ho0 Ht0
  have HC := Lib.hid (Below.refl w0.heap.size w0)
  refine (alive_k _ (HKs.out _ HC.out)).mono ?_
  rintro e wa ⟨rfl, hb⟩
  replace HC := Lib.hid (HC.out.trans (hb.mono HC.out.size))
  clear hb
  obtain ⟨k0, k1, k2⟩ := key_cells (HQ.out _ HC.out)
  go_wp2_with fail
  refine (great_k na nn nc N ea en ec E da dn dc _ (HRN.out _ HC.out) HBN.out (HRE.out _ HC.out) HBE.out xn xe xd).mono ?_
  rintro e wg ⟨rfl | ⟨rfl, g1, g2, g3, g4⟩, hb⟩
  · replace HC := Lib.hid (HC.out.trans (hb.mono HC.out.size))
    clear hb k0 k1 k2
    go_wp2
    go_ret
    exact ⟨rfl, HPW.out ▸ (HB.out.trans (HC.out.mono HB.out.size))⟩
  replace HC := Lib.hid (HC.out.trans (hb.mono HC.out.size))
  have HG4 := Lib.hid g4
  clear hb k0 k1 k2 g4
  have HKey : Hid (∀ X, Below w0.heap.size w0 X → KeyAt X (.agg #[.slice na nn nc, .slice ea en ec, .slice da dn dc]) N E D) := Lib.hid fun X hX => ⟨na, nn, nc, ea, en, ec, da, dn, dc, rfl, ⟨HRN.out X hX, HBN.out, g1⟩, ⟨HRE.out X hX, HBE.out, g2⟩, HRD.out X hX, HBD.out, g3⟩
  have HSM := Lib.hid (HKey.out _ (Below.refl _ _)).small
  by_cases hl : 100 < gn
  · have t1 : decide ((100 : Int) < (gn : Int)) = true := decide_eq_true (by omega)
    clear hl
    go_wp2
    go_ret
    exact ⟨rfl, HPW.out ▸ (HB.out.trans (HC.out.mono HB.out.size))⟩
  have ug : decide ((100 : Int) < (gn : Int)) = false := decide_eq_false (by omega)
  have lg : gn ≤ 100 := by omega
  clear hl
  by_cases hl : 100 < on
  · have t1 : decide ((100 : Int) < (on : Int)) = true := decide_eq_true (by omega)
    clear hl
    go_wp2
    go_ret
    exact ⟨rfl, HPW.out ▸ (HB.out.trans (HC.out.mono HB.out.size))⟩
  have uo : decide ((100 : Int) < (on : Int)) = false := decide_eq_false (by omega)
  have lo : on ≤ 100 := by omega
  clear hl
  by_cases hl : 100 < tn
  · have t1 : decide ((100 : Int) < (tn : Int)) = true := decide_eq_true (by omega)
    clear hl
    go_wp2
    go_ret
    exact ⟨rfl, HPW.out ▸ (HB.out.trans (HC.out.mono HB.out.size))⟩
  have ut : decide ((100 : Int) < (tn : Int)) = false := decide_eq_false (by omega)
  have lt : tn ≤ 100 := by omega
  clear hl
  obtain ⟨k0, k1, k2⟩ := key_cells (HQ.out _ HC.out)
  go_wp2_with fail
  refine (proper_any _ N E D _ (HKey.out _ HC.out)).mono ?_
  rintro e wp ⟨⟨r, rfl, hr⟩, hb⟩
  replace HC := Lib.hid (HC.out.trans (hb.mono HC.out.size))
  clear hb k0 k1 k2
  rcases hr with rfl | ⟨rfl, hg⟩
  · go_wp2
    go_ret
    exact ⟨rfl, HPW.out ▸ (HB.out.trans (HC.out.mono HB.out.size))⟩
  have HGK := Lib.hid hg
  have HPR := Lib.hid hg.1
  clear hg
  clear ug
  clear uo
  clear ut
  obtain ⟨k0, k1, k2⟩ := key_cells (HQ.out _ HC.out)
  go_wp2_with fail
  refine (sign_any _ N E D way h ga gn gc G ta tn tc T _ (HKey.out _ HC.out) (HKs.out _ HC.out) (Hg.out _ HC.out) (Ht.out _ HC.out) HBg.out HBt.out).mono ?_
  rintro e w1 ⟨hq, hb⟩
  replace HC := Lib.hid (HC.out.trans (hb.mono HC.out.size))
  clear hb k0 k1 k2
  obtain ⟨z, hz⟩ : ∃ z, hSz h = z := ⟨_, rfl⟩
  have HZ := Lib.hid hz
  have hz9 : z ≤ 64 := by rw [← hz]; exact hSz_le h
  clear hz
  by_cases hok : (sgnV N way h G T).2 = 0
  rotate_left
  · rw [show signV N E D way h G T = ([], 101) by unfold signV; rw [if_pos HPR.out, if_neg hok]] at hq
    obtain ⟨v1, rfl, -⟩ := hq
    have HNR := Lib.hid (show ¬ (RoomK N E way h ∧ gn = z ∧ (way = 2 → tn = z)) from fun k => hok ((sgn_room HPR.out.1 HSM.out.1.1).2 ⟨k.1, by rw [HLg.out, HZ.out]; exact k.2.1, fun e => by rw [HLt.out, HZ.out]; exact k.2.2 e⟩))
    clear hok
    go_wp2_with fail
    refine (msize_any h _ (HKs.out _ HC.out)).mono ?_
    rintro e w2 ⟨rfl, hb⟩
    rw [HZ.out]
    replace HC := Lib.hid (HC.out.trans (hb.mono HC.out.size))
    clear hb
    obtain ⟨k0, k1, k2⟩ := key_cells (HQ.out _ HC.out)
    go_wp2_with fail
    refine (kroom_any _ N E D way h _ (HKey.out _ HC.out) (HKs.out _ HC.out)).mono ?_
    rintro e w3 ⟨rfl, hb⟩
    replace HC := Lib.hid (HC.out.trans (hb.mono HC.out.size))
    clear hb k0 k1 k2
    by_cases hroom : RoomK N E way h
    rotate_left
    · rw [decide_eq_false hroom]
      clear hroom
      go_wp2
      go_ret
      exact ⟨by first | rfl | (simp; done) | (simp; rfl), HPW.out ▸ (HB.out.trans (HC.out.mono HB.out.size))⟩
    rw [decide_eq_true hroom]
    by_cases hgz : gn = z
    rotate_left
    · have t1 : ((gn : Int) == (z : Int)) = false := by simp; omega
      have t2 : (gn == z) = false := by simpa using hgz
      have t3 : ((gn : Int) != (z : Int)) = true := by simp; omega
      clear hroom hgz
      go_wp2
      go_ret
      exact ⟨by first | rfl | (simp; done) | (simp; rfl), HPW.out ▸ (HB.out.trans (HC.out.mono HB.out.size))⟩
    have hw2 : way = 2 := by
      by_cases k : way = 2
      · exact k
      · exact absurd ⟨hroom, hgz, fun e => absurd e k⟩ HNR.out
    have htz : tn ≠ z := fun k => HNR.out ⟨hroom, hgz, fun _ => k⟩
    subst hgz hw2
    have t1 : ((gn : Int) == (gn : Int)) = true := by simp
    have t2 : (gn == gn) = true := by simp
    have t3 : ((tn : Int) == (gn : Int)) = false := by simp; omega
    have t4 : (tn == gn) = false := by simpa using htz
    have t5 : ((tn : Int) != (gn : Int)) = true := by simp; omega
    clear hroom htz
    go_wp2
    go_ret
    exact ⟨by first | rfl | (simp; done) | (simp; rfl), HPW.out ▸ (HB.out.trans (HC.out.mono HB.out.size))⟩
  have HBK := Lib.hid (fun (O : List Nat) => back_iff (o := O) HGK.out HSM.out.1.1 HBg.out HBt.out hok)
  have hfit := (sgn_fits HPR.out.1 HSM.out.1.1 HBg.out HBt.out hok).1
  rw [show signV N E D way h G T = raiseV N (sgnV N way h G T).1 D by unfold signV; rw [if_pos HPR.out, if_pos hok], raise_yes HSM.out.1.1 HSM.out.1.2 hfit] at hq
  obtain ⟨v1, rfl, hv⟩ := hq
  have hokk := (sgn_ok HPR.out.1 HSM.out.1.1).1 hok
  have hRM := Lib.hid ((sgn_room HPR.out.1 HSM.out.1.1).1 hok)
  have hN0 : 0 < nV N := by omega
  have hY0 : nV (sgnV N way h G T).1 ^ nV D % nV N < nV N := Nat.mod_lt _ hN0
  obtain ⟨Y, hY⟩ : ∃ y, nV (sgnV N way h G T).1 ^ nV D % nV N = y := ⟨_, rfl⟩
  rw [hY] at hv HBK hY0
  obtain ⟨xa, xm, xc, rfl, hxm, ho⟩ := own_be hv (beN_byt _ _)
  have HX := Lib.hid ho.reads
  have lx : xm = nn := by rw [hxm, beN_len (Nat.lt_trans hY0 (nV_lt HSM.out.1.1))]; exact HNL.out
  subst lx
  have HBX := Lib.hid (beN_byt N.length Y)
  have HHH := Lib.hid hokk.1
  have hgz : gn = z := by have := hRM.out.2.1; rw [HLg.out, HZ.out] at this; exact this
  have hw12 : way = 1 ∨ way = 2 := by rcases hokk.2.2 with k | k; exact .inl k.1; exact .inr k.1
  clear hv ho hfit hok hokk hN0 hY hxm hY0
  subst hgz
  obtain ⟨g, hg⟩ : ∃ g, h.toNat = g := ⟨_, rfl⟩
  have hgi := isHash_nat HHH.out
  rw [hg] at hgi HHH HBK
  subst hgi
  have HHg := Lib.hid HHH.out
  have HMz := Lib.hid (show mSize g = gn by rw [← HZ.out, hSz_yes (by rw [Int.toNat_natCast]; exact HHH.out), Int.toNat_natCast])
  clear hg HHH
  go_wp2_with fail
  refine (msize_any (g : Int) _ (HKs.out _ HC.out)).mono ?_
  rintro e w2 ⟨rfl, hb⟩
  rw [HZ.out]
  replace HX := Lib.hid (HX.out.below hb)
  replace HC := Lib.hid (HC.out.trans (hb.mono HC.out.size))
  clear hb
  obtain ⟨k0, k1, k2⟩ := key_cells (HQ.out _ HC.out)
  go_wp2_with fail
  refine (kverify_any _ N E D way (g : Int) ga gn gc G xa xm xc (beN N.length Y) _ (HKey.out _ HC.out) (HKs.out _ HC.out) (Hg.out _ HC.out) HX.out HBg.out HBX.out).mono ?_
  rintro e w3 ⟨rfl, hb⟩
  rw [decide_eq_true ((HBK.out G).2 (by
    rcases hw12 with k | k
    · exact .inl ⟨k, rfl⟩
    · exact .inr ⟨k, by rw [HLg.out, HMz.out], rfl⟩))]
  replace HX := Lib.hid (HX.out.below hb)
  replace HC := Lib.hid (HC.out.trans (hb.mono HC.out.size))
  clear hb k0 k1 k2
  obtain ⟨k0, k1, k2⟩ := key_cells (HQ.out _ HC.out)
  go_wp2_with fail
  refine (kroom_any _ N E D way (g : Int) _ (HKey.out _ HC.out) (HKs.out _ HC.out)).mono ?_
  rintro e w4 ⟨rfl, hb⟩
  rw [decide_eq_true hRM.out.1]
  replace HX := Lib.hid (HX.out.below hb)
  replace HC := Lib.hid (HC.out.trans (hb.mono HC.out.size))
  clear hb k0 k1 k2
  have cv1 := convB ((Hg.out _ HC.out).bts HBg.out)
  have cv2 := convB ((Ho.out _ HC.out).bts HBo.out)
  obtain ⟨bq, hbq⟩ : ∃ bq, decide (G = O) = bq := ⟨_, rfl⟩
  have HBQ := Lib.hid hbq
  have hst : ((strOf (u8s G)).toList == (strOf (u8s O)).toList) = bq := by
    rw [← hbq]
    by_cases k : G = O
    · rw [decide_eq_true k, k]; simp
    · rw [decide_eq_false k]; exact strOf_neP HBg.out HBo.out k
  have tb : (bq == bq) = true := by simp
  clear hbq
  rcases hw12 with hw | hw
  · subst hw
    obtain ⟨k0, k1, k2⟩ := key_cells (HQ.out _ HC.out)
    go_wp2_with fail
    refine (kverify_any _ N E D 1 (g : Int) oa on oc O xa xm xc (beN N.length Y) _ (HKey.out _ HC.out) (HKs.out _ HC.out) (Ho.out _ HC.out) HX.out HBo.out HBX.out).mono ?_
    rintro e w5 ⟨rfl, hb⟩
    rw [show decide (VerK N E 1 (g : Int) O (beN N.length Y)) = bq by
      rw [← HBQ.out]
      refine decide_eq_decide.2 ((HBK.out O).trans ⟨fun k => ?_, fun k => .inl ⟨by trivial, k⟩⟩)
      rcases k with k | k
      · exact k.2
      · omega]
    replace HC := Lib.hid (HC.out.trans (hb.mono HC.out.size))
    clear hb k0 k1 k2 cv1 cv2 hst
    go_wp2
    go_ret
    exact ⟨by first | rfl | (simp; done) | (simp; rfl), HPW.out ▸ (HB.out.trans (HC.out.mono HB.out.size))⟩
  subst hw
  by_cases hoz : on = gn
  rotate_left
  · have t1 : ((on : Int) == (gn : Int)) = false := by simp; omega
    have t2 : (on == gn) = false := by simpa using hoz
    have HOZ := Lib.hid hoz
    clear hoz
    obtain ⟨k0, k1, k2⟩ := key_cells (HQ.out _ HC.out)
    go_wp2_with fail
    refine (kverify_any _ N E D 2 (g : Int) oa on oc O xa xm xc (beN N.length Y) _ (HKey.out _ HC.out) (HKs.out _ HC.out) (Ho.out _ HC.out) HX.out HBo.out HBX.out).mono ?_
    rintro e w5 ⟨rfl, hb⟩
    rw [show decide (VerK N E 2 (g : Int) O (beN N.length Y)) = bq by
      rw [← HBQ.out]
      refine decide_eq_decide.2 ((HBK.out O).trans ⟨fun k => ?_, fun k => ?_⟩)
      · rcases k with k | k
        · omega
        · exact absurd (by rw [← HLo.out, k.2.1, HMz.out]) HOZ.out
      · exact absurd (by rw [← HLo.out, ← k, HLg.out]) HOZ.out]
    replace HC := Lib.hid (HC.out.trans (hb.mono HC.out.size))
    clear hb k0 k1 k2 cv1 cv2 hst
    go_wp2
    go_ret
    exact ⟨by first | rfl | (simp; done) | (simp; rfl), HPW.out ▸ (HB.out.trans (HC.out.mono HB.out.size))⟩
  subst hoz
  have t1 : ((on : Int) == (on : Int)) = true := by simp
  have t2 : (on == on) = true := by simp
  obtain ⟨no, hno⟩ : ∃ x : Option Addr, some (⟨w4.heap.size, 0, none⟩ : Addr) = x := ⟨_, rfl⟩
  go_wp2_with (at_make; refine wpList_make_lcM .u8 _ rfl _ _ 22 rfl w4.heap.size 5 i0 Tryz.underlying22 hi0 hz0 hz1 _ _ _ _ 8 8 rfl rfl rfl rfl (Nat.le_refl _) (by rw [hz2]; decide) (by unfold maxLen; decide) (Nat.le_refl _) ?_; intro wn hown hgrow; have HNo := Lib.hid hown.reads; have hb := (Below.refl w4.heap.size w4).grown hgrow (Nat.le_refl _) (fun r e => by cases e); replace HX := Lib.hid (HX.out.below hb); replace HC := Lib.hid (HC.out.trans (hb.mono HC.out.size)); clear hown hgrow hb)
  rw [hno] at HNo
  clear hno cv1 cv2 hst
  have HR := Lib.hid (show RowsM (wn.alloc (.cells #[.slice no 8 8, .slice ga on gc, .slice ta tn tc] 22)) (some ⟨wn.heap.size, 0, none⟩) 3 (inRp2 no ga on gc G ta tn tc T) from by
    have hba := (Below.refl wn.heap.size wn).alloc (Nat.le_refl _) (.cells #[.slice no 8 8, .slice ga on gc, .slice ta tn tc] 22)
    refine ⟨fun i hi => ?_, fun _ => ⟨_, 0, rfl, by simp, fun i hi => ?_⟩⟩
    · rcases (show i = 0 ∨ i = 1 ∨ i = 2 by omega) with rfl | rfl | rfl
      · exact ⟨HNo.out.below hba, (by decide : Byt (List.replicate 8 0)), (by decide : 8 ≤ 1048576)⟩
      · exact ⟨(Hg.out _ HC.out).below hba, HBg.out, (show on ≤ 1048576 by omega)⟩
      · exact ⟨(Ht.out _ HC.out).below hba, HBt.out, (show tn ≤ 1048576 by omega)⟩
    · rw [Nat.zero_add, World.cell?_alloc_new]
      rcases (show i = 0 ∨ i = 1 ∨ i = 2 by omega) with rfl | rfl | rfl <;> rfl)
  have hb := (Below.refl wn.heap.size wn).alloc (Nat.le_refl _) (.cells #[.slice no 8 8, .slice ga on gc, .slice ta tn tc] 22)
  have HFl := Lib.hid (show flatM (inRp2 no ga on gc G ta tn tc T) 3 = List.replicate 8 0 ++ G ++ T from rfl)
  replace HX := Lib.hid (HX.out.below hb)
  replace HNo := Lib.hid (HNo.out.below hb)
  replace HC := Lib.hid (HC.out.trans (hb.mono HC.out.size))
  clear hb
  generalize wn.alloc (.cells #[.slice no 8 8, .slice ga on gc, .slice ta tn tc] 22) = wns at *
  refine (sum_yes g HHg.out _ 3 3 _ _ (HKs.out _ HC.out) HR.out (by decide)).mono ?_
  rintro e HAw ⟨⟨ad, cc, rfl, h1, h2⟩, hb⟩
  rw [HFl.out] at h1
  obtain ⟨HAa, hHAa⟩ : ∃ x, some ad = x := ⟨_, rfl⟩
  rw [hHAa] at h1
  simp only [hHAa]
  have HHA := Lib.hid (show Reads .u8 HAw HAa (mSize g) cc (innerP g G T) from h1)
  replace HX := Lib.hid (HX.out.below hb)
  replace HNo := Lib.hid (HNo.out.below hb)
  replace HC := Lib.hid (HC.out.trans (hb.mono HC.out.size))
  clear hb h1 h2 hHAa HR HFl
  have HR := Lib.hid (show RowsM (HAw.alloc (.cells #[.slice no 8 8, .slice oa on oc, .slice ta tn tc] 22)) (some ⟨HAw.heap.size, 0, none⟩) 3 (inRp2 no oa on oc O ta tn tc T) from by
    have hba := (Below.refl HAw.heap.size HAw).alloc (Nat.le_refl _) (.cells #[.slice no 8 8, .slice oa on oc, .slice ta tn tc] 22)
    refine ⟨fun i hi => ?_, fun _ => ⟨_, 0, rfl, by simp, fun i hi => ?_⟩⟩
    · rcases (show i = 0 ∨ i = 1 ∨ i = 2 by omega) with rfl | rfl | rfl
      · exact ⟨HNo.out.below hba, (by decide : Byt (List.replicate 8 0)), (by decide : 8 ≤ 1048576)⟩
      · exact ⟨(Ho.out _ HC.out).below hba, HBo.out, (show on ≤ 1048576 by omega)⟩
      · exact ⟨(Ht.out _ HC.out).below hba, HBt.out, (show tn ≤ 1048576 by omega)⟩
    · rw [Nat.zero_add, World.cell?_alloc_new]
      rcases (show i = 0 ∨ i = 1 ∨ i = 2 by omega) with rfl | rfl | rfl <;> rfl)
  have hb := (Below.refl HAw.heap.size HAw).alloc (Nat.le_refl _) (.cells #[.slice no 8 8, .slice oa on oc, .slice ta tn tc] 22)
  have HFl := Lib.hid (show flatM (inRp2 no oa on oc O ta tn tc T) 3 = List.replicate 8 0 ++ O ++ T from rfl)
  replace HX := Lib.hid (HX.out.below hb)
  replace HNo := Lib.hid (HNo.out.below hb)
  replace HHA := Lib.hid (HHA.out.below hb)
  replace HC := Lib.hid (HC.out.trans (hb.mono HC.out.size))
  clear hb
  go_wp2_with fail
  generalize HAw.alloc (.cells #[.slice no 8 8, .slice oa on oc, .slice ta tn tc] 22) = HAws at *
  refine (sum_yes g HHg.out _ 3 3 _ _ (HKs.out _ HC.out) HR.out (by decide)).mono ?_
  rintro e HO2w ⟨⟨ad, cc, rfl, h1, h2⟩, hb⟩
  rw [HFl.out] at h1
  obtain ⟨HO2a, hHO2a⟩ : ∃ x, some ad = x := ⟨_, rfl⟩
  rw [hHO2a] at h1
  simp only [hHO2a]
  have HHO2 := Lib.hid (show Reads .u8 HO2w HO2a (mSize g) cc (innerP g O T) from h1)
  replace HX := Lib.hid (HX.out.below hb)
  replace HNo := Lib.hid (HNo.out.below hb)
  replace HHA := Lib.hid (HHA.out.below hb)
  replace HC := Lib.hid (HC.out.trans (hb.mono HC.out.size))
  clear hb h1 h2 hHO2a HR HFl

  have bA := Lib.hid (show Byt (innerP g G T) from mHash_byt HHg.out _)
  have bO := Lib.hid (show Byt (innerP g O T) from mHash_byt HHg.out _)
  have cvA := convB (HHA.out.bts bA.out)
  have cvO := convB (HHO2.out.bts bO.out)
  obtain ⟨bp, hbp⟩ : ∃ bp, decide (innerP g O T = innerP g G T) = bp := ⟨_, rfl⟩
  have HBP := Lib.hid hbp
  have hst : ((strOf (u8s (innerP g G T))).toList == (strOf (u8s (innerP g O T))).toList) = bp := by
    rw [← hbp]
    by_cases k : innerP g O T = innerP g G T
    · rw [decide_eq_true k, k]; simp
    · rw [decide_eq_false k]; exact strOf_neP bA.out bO.out (fun e => k e.symm)
  have tp : (bp == bp) = true := by simp
  clear hbp
  obtain ⟨k0, k1, k2⟩ := key_cells (HQ.out _ HC.out)
  go_wp2_with fail
  refine (kverify_any _ N E D 2 (g : Int) oa on oc O xa xm xc (beN N.length Y) _ (HKey.out _ HC.out) (HKs.out _ HC.out) (Ho.out _ HC.out) HX.out HBo.out HBX.out).mono ?_
  rintro e w9 ⟨rfl, hb⟩
  rw [show decide (VerK N E 2 (g : Int) O (beN N.length Y)) = bp by
    rw [← HBP.out]
    refine decide_eq_decide.2 ((HBK.out O).trans ⟨fun k => ?_, fun k => .inr ⟨by trivial, by rw [HLo.out, HMz.out], k⟩⟩)
    rcases k with k | k
    · omega
    · exact k.2.2]
  replace HC := Lib.hid (HC.out.trans (hb.mono HC.out.size))
  clear hb k0 k1 k2 cvA cvO hst
  go_wp2
  go_ret
  exact ⟨by first | rfl | (simp; done) | (simp; rfl), HPW.out ▸ (HB.out.trans (HC.out.mono HB.out.size))⟩

end Go.Proofs.YtpefjkndfifceaaGreatDoor
