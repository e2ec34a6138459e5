/-
  RSA: RsaUndoes. (Written by wip/gen_rsaL.py.)
-/
import Derived.Test.YtpefjkndfifceaaGreatDoorPk1
import Derived.Test.YtpefjkndfifceaaGreatDoorPk2
import Derived.Test.YtpefjkndfifceaaGreatDoorPk3
import Derived.Test.YtpefjkndfifceaaGreatDoorPk4
import Derived.Test.YtpefjkndfifceaaGreatDoorPk5
import Derived.Test.YtpefjkndfifceaaGreatDoorPk6
import Derived.Test.YtpefjkndfifceaaGreatDoorPk7
import Derived.Test.YtpefjkndfifceaaGreatDoorPk8
import Derived.Test.YtpefjkndfifceaaGreatDoorPk9
import Derived.Test.YtpefjkndfifceaaGreatDoorPk10
import Derived.Test.YtpefjkndfifceaaGreatDoorPk11
import Derived.Test.YtpefjkndfifceaaGreatDoorPk12
import Derived.Test.YtpefjkndfifceaaGreatDoorPk13
import Derived.Test.YtpefjkndfifceaaGreatDoorPk14
import Derived.Test.YtpefjkndfifceaaGreatDoorPk15
import Derived.Test.YtpefjkndfifceaaGreatDoorPk16
set_option linter.unusedVariables false
set_option linter.unusedSimpArgs false
namespace Go.Proofs.YtpefjkndfifceaaGreatDoor
open Go.RowKit
set_option maxRecDepth 100000

theorem two_lt {N E : List Nat} (h : PubP N E) : 2 < nV N := by
  by_cases h2 : 2 < nV N
  · exact h2
  · have h1 := (bitsN_le (nV N) 2).2 (by omega)
    have := h.2.2.1
    omega
theorem GoodK.halves {N E D : List Nat} (h : GoodK N E D) : HalvP N E D := ⟨h.1, h.up (two_lt h.1.1)⟩
theorem nV_rev (z : Nat) : nV (natB 256 z).reverse = z := by
  show valB 256 (natB 256 z).reverse.reverse = z
  rw [List.reverse_reverse, natB_val (by decide)]
open Classical in
set_option maxHeartbeats 16000000 in
theorem undoes_walk (na : Option Addr) (nn nc : Nat) (N : List Nat) (ea : Option Addr) (en ec : Nat) (E : List Nat) (da : Option Addr) (dn dc : Nat) (D : List Nat) (ba : Option Addr) (bn bc : Nat) (B : List Nat) (w : World) (hk : Kinds w) (hN : Reads .u8 w na nn nc N) (bN : Byt N) (hE : Reads .u8 w ea en ec E) (bE : Byt E) (hD : Reads .u8 w da dn dc D) (bD : Byt D) (xn : nn ≤ 140737488351232) (xe : en ≤ 140737488351232) (xd : dn ≤ 140737488351232) (hb : Reads .u8 w ba bn bc B) (bb : Byt B) (xb : bn ≤ 140737488351232) :
    Calls Tryz.prog 6 #[.agg #[.slice na nn nc, .slice ea en ec, .slice da dn dc], .slice ba bn bc] w fun e w' => e = .returned (.bool true) ∧ Below w.heap.size w w' := by
  have HRN0 := Lib.hid hN
  have HRE0 := Lib.hid hE
  have HRD0 := Lib.hid hD
  have HBN := Lib.hid bN
  have HBE := Lib.hid bE
  have HBD := Lib.hid bD
  have HNL := Lib.hid hN.length
  have HEL := Lib.hid hE.length
  have HDL := Lib.hid hD.length
  have HKs0 := Lib.hid hk
  have Hb0 := Lib.hid hb
  have HBb := Lib.hid bb
  have HLb := Lib.hid hb.length
  have hba := (Below.refl w.heap.size w).alloc (Nat.le_refl _) (.cells #[.slice na nn nc, .slice ea en ec, .slice da dn dc] 24)
  have hq0 : (w.alloc (.cells #[.slice na nn nc, .slice ea en ec, .slice da dn dc] 24)).heap[w.heap.size]? = some (.cells #[.slice na nn nc, .slice ea en ec, .slice da dn dc] 24) := World.alloc_heap_new w _
  have HQ0 := Lib.hid hq0
  have HB := Lib.hid hba
  clear hN bN hE bE hD bD hk hba hq0 hb bb
  go_enter Tryz.func6, Tryz.ntmps6
  go_wp2_with fail
  generalize w.alloc (.cells #[.slice na nn nc, .slice ea en ec, .slice da dn dc] 24) = w0 at *
  obtain ⟨P, hP⟩ : ∃ P, w.heap.size = P := ⟨_, rfl⟩
  rw [hP] at HQ0 ⊢
  have HPW := Lib.hid hP
  have HQ : Hid (∀ X, Below w0.heap.size w0 X → X.heap[P]? = some (.cells #[.slice na nn nc, .slice ea en ec, .slice da dn dc] 24)) := Lib.hid fun X hX => (hX.block P (Array.getElem?_eq_some_iff.1 HQ0.out).1).trans HQ0.out
  have HKs : Hid (∀ X, Below w0.heap.size w0 X → Kinds X) := Lib.hid fun X hX => (HKs0.out.below HB.out).below hX
  have HRN := Lib.hid (fun (X : World) (hX : Below w0.heap.size w0 X) => (HRN0.out.below HB.out).below hX)
  have HRE := Lib.hid (fun (X : World) (hX : Below w0.heap.size w0 X) => (HRE0.out.below HB.out).below hX)
  have HRD := Lib.hid (fun (X : World) (hX : Below w0.heap.size w0 X) => (HRD0.out.below HB.out).below hX)
  have Hb := Lib.hid (fun (X : World) (hX : Below w0.heap.size w0 X) => (Hb0.out.below HB.out).below hX)
  clear hP HQ0 HRN0 HRE0 HRD0 HKs0 Hb0
  have HC := Lib.hid (Below.refl w0.heap.size w0)
  refine (alive_k _ (HKs.out _ HC.out)).mono ?_
  rintro e wa ⟨rfl, hb⟩
  replace HC := Lib.hid (HC.out.trans (hb.mono HC.out.size))
  clear hb
  obtain ⟨k0, k1, k2⟩ := key_cells (HQ.out _ HC.out)
  go_wp2_with fail
  refine (great_k na nn nc N ea en ec E da dn dc _ (HRN.out _ HC.out) HBN.out (HRE.out _ HC.out) HBE.out xn xe xd).mono ?_
  rintro e wg ⟨rfl | ⟨rfl, g1, g2, g3, g4⟩, hb⟩
  · replace HC := Lib.hid (HC.out.trans (hb.mono HC.out.size))
    clear hb k0 k1 k2
    go_wp2
    go_ret
    exact ⟨rfl, HPW.out ▸ (HB.out.trans (HC.out.mono HB.out.size))⟩
  replace HC := Lib.hid (HC.out.trans (hb.mono HC.out.size))
  have HG4 := Lib.hid g4
  clear hb k0 k1 k2 g4
  have HKey : Hid (∀ X, Below w0.heap.size w0 X → KeyAt X (.agg #[.slice na nn nc, .slice ea en ec, .slice da dn dc]) N E D) := Lib.hid fun X hX => ⟨na, nn, nc, ea, en, ec, da, dn, dc, rfl, ⟨HRN.out X hX, HBN.out, g1⟩, ⟨HRE.out X hX, HBE.out, g2⟩, HRD.out X hX, HBD.out, g3⟩
  have HSM := Lib.hid (HKey.out _ (Below.refl _ _)).small
  by_cases hl : 1000 < bn
  · have t1 : decide ((1000 : Int) < (bn : Int)) = true := decide_eq_true (by omega)
    clear hl
    go_wp2
    go_ret
    exact ⟨rfl, HPW.out ▸ (HB.out.trans (HC.out.mono HB.out.size))⟩
  have ub : decide ((1000 : Int) < (bn : Int)) = false := decide_eq_false (by omega)
  have lb : bn ≤ 1000 := by omega
  clear hl
  obtain ⟨k0, k1, k2⟩ := key_cells (HQ.out _ HC.out)
  go_wp2_with fail
  refine (proper_any _ N E D _ (HKey.out _ HC.out)).mono ?_
  rintro e wp ⟨⟨r, rfl, hr⟩, hb⟩
  replace HC := Lib.hid (HC.out.trans (hb.mono HC.out.size))
  clear hb k0 k1 k2
  rcases hr with rfl | ⟨rfl, hg⟩
  · go_wp2
    go_ret
    exact ⟨rfl, HPW.out ▸ (HB.out.trans (HC.out.mono HB.out.size))⟩
  have HGK := Lib.hid hg
  have HPR := Lib.hid hg.1
  clear hg
  clear ub
  obtain ⟨k0, k1, k2⟩ := key_cells (HQ.out _ HC.out)
  by_cases hlt : nV B < nV N
  rotate_left
  · go_wp2_with fail
    refine (kraise _ N E D ba bn bc B _ (HKey.out _ HC.out) (Hb.out _ HC.out) HBb.out (by omega)).mono ?_
    rintro e w1 ⟨hq, hb⟩
    rw [show rRaise N E B = raiseV N B E by unfold rRaise; rw [if_pos HPR.out.1], raise_no hlt] at hq
    obtain ⟨v1, rfl, -⟩ := hq
    replace HC := Lib.hid (HC.out.trans (hb.mono HC.out.size))
    clear hb k0 k1 k2
    obtain ⟨k0, k1, k2⟩ := key_cells (HQ.out _ HC.out)
    go_wp2_with fail
    refine (klower _ N E D ba bn bc B _ (HKey.out _ HC.out) (Hb.out _ HC.out) HBb.out (by omega)).mono ?_
    rintro e w2 ⟨hq, hb⟩
    rw [show rLower N E D B = raiseV N B D by unfold rLower; rw [if_pos HPR.out], raise_no hlt] at hq
    obtain ⟨v2, rfl, -⟩ := hq
    replace HC := Lib.hid (HC.out.trans (hb.mono HC.out.size))
    clear hb k0 k1 k2 hlt
    go_wp2
    go_ret
    exact ⟨rfl, HPW.out ▸ (HB.out.trans (HC.out.mono HB.out.size))⟩
  have HLT := Lib.hid hlt
  have HNB := Lib.hid (nV_lt HSM.out.1.1)
  have hN0 : 0 < nV N := by omega
  obtain ⟨Z1, hZ1⟩ : ∃ z, nV B ^ nV E % nV N = z := ⟨_, rfl⟩
  obtain ⟨Z2, hZ2⟩ : ∃ z, nV B ^ nV D % nV N = z := ⟨_, rfl⟩
  have HZ1 := Lib.hid hZ1
  have HZ2 := Lib.hid hZ2
  have HN1 := Lib.hid (show Z1 < nV N by rw [← hZ1]; exact Nat.mod_lt _ hN0)
  have HN2 := Lib.hid (show Z2 < nV N by rw [← hZ2]; exact Nat.mod_lt _ hN0)
  have HB1 := Lib.hid (show Z2 ^ nV E % nV N = nV B by rw [← hZ2]; exact HGK.out.down hlt)
  have HB2 := Lib.hid (show Z1 ^ nV D % nV N = nV B by rw [← hZ1]; exact HGK.out.up hlt)
  clear hlt hZ1 hZ2 hN0
  go_wp2_with fail
  refine (kraise _ N E D ba bn bc B _ (HKey.out _ HC.out) (Hb.out _ HC.out) HBb.out (by omega)).mono ?_
  rintro e w1 ⟨hq, hb⟩
  rw [show rRaise N E B = raiseV N B E by unfold rRaise; rw [if_pos HPR.out.1], raise_yes HSM.out.1.1 HSM.out.1.2 HLT.out, HZ1.out] at hq
  obtain ⟨v1, rfl, hv⟩ := hq
  obtain ⟨xa, xm, xc, rfl, hxm, ho⟩ := own_be hv (beN_byt _ _)
  have HX := Lib.hid ho.reads
  have lx : xm ≤ 700 := by rw [hxm, beN_len (Nat.lt_trans HN1.out HNB.out)]; exact HSM.out.1.2
  replace HC := Lib.hid (HC.out.trans (hb.mono HC.out.size))
  clear hb hv ho hxm k0 k1 k2
  obtain ⟨k0, k1, k2⟩ := key_cells (HQ.out _ HC.out)
  go_wp2_with fail
  refine (klower _ N E D ba bn bc B _ (HKey.out _ HC.out) (Hb.out _ HC.out) HBb.out (by omega)).mono ?_
  rintro e w2 ⟨hq, hb⟩
  rw [show rLower N E D B = raiseV N B D by unfold rLower; rw [if_pos HPR.out], raise_yes HSM.out.1.1 HSM.out.1.2 HLT.out, HZ2.out] at hq
  obtain ⟨v2, rfl, hv⟩ := hq
  obtain ⟨ya, ym, yc, rfl, hym, ho⟩ := own_be hv (beN_byt _ _)
  have HY := Lib.hid ho.reads
  have ly : ym ≤ 700 := by rw [hym, beN_len (Nat.lt_trans HN2.out HNB.out)]; exact HSM.out.1.2
  replace HX := Lib.hid (HX.out.below hb)
  replace HC := Lib.hid (HC.out.trans (hb.mono HC.out.size))
  clear hb hv ho hym k0 k1 k2
  obtain ⟨k0, k1, k2⟩ := key_cells (HQ.out _ HC.out)
  go_wp2_with fail
  refine (kraise _ N E D ya ym yc (beN N.length Z2) _ (HKey.out _ HC.out) HY.out (beN_byt _ _) (by omega)).mono ?_
  rintro e w3 ⟨hq, hb⟩
  rw [show rRaise N E (beN N.length Z2) = raiseV N (beN N.length Z2) E by unfold rRaise; rw [if_pos HPR.out.1], raise_yes HSM.out.1.1 HSM.out.1.2 (by rw [beN_val]; exact HN2.out), beN_val, HB1.out] at hq
  obtain ⟨v3, rfl, hv⟩ := hq
  obtain ⟨pa, pm, pc, rfl, hpm, ho⟩ := own_be hv (beN_byt _ _)
  have HP := Lib.hid ho.reads
  have lp : pm = nn := by rw [hpm, beN_len (Nat.lt_trans HLT.out HNB.out)]; exact HNL.out
  subst lp
  replace HX := Lib.hid (HX.out.below hb)
  replace HC := Lib.hid (HC.out.trans (hb.mono HC.out.size))
  clear hb hv ho hpm k0 k1 k2 HY
  obtain ⟨k0, k1, k2⟩ := key_cells (HQ.out _ HC.out)
  go_wp2_with fail
  refine (klower _ N E D xa xm xc (beN N.length Z1) _ (HKey.out _ HC.out) HX.out (beN_byt _ _) (by omega)).mono ?_
  rintro e w4 ⟨hq, hb⟩
  rw [show rLower N E D (beN N.length Z1) = raiseV N (beN N.length Z1) D by unfold rLower; rw [if_pos HPR.out], raise_yes HSM.out.1.1 HSM.out.1.2 (by rw [beN_val]; exact HN1.out), beN_val, HB2.out] at hq
  obtain ⟨v4, rfl, hv⟩ := hq
  obtain ⟨qa, qm, qc, rfl, hqm, ho⟩ := own_be hv (beN_byt _ _)
  have HW := Lib.hid ho.reads
  have lq : qm ≤ 700 := by rw [hqm, beN_len (Nat.lt_trans HLT.out HNB.out)]; exact HSM.out.1.2
  replace HP := Lib.hid (HP.out.below hb)
  replace HC := Lib.hid (HC.out.trans (hb.mono HC.out.size))
  clear hb hv ho hqm k0 k1 k2 HX
  obtain ⟨L8, hL8⟩ : ∃ l, (natB 256 (nV B)).reverse = l := ⟨_, rfl⟩
  have HL8 := Lib.hid hL8
  have HBL := Lib.hid (show Byt L8 by rw [← hL8]; exact fun x hx => natB_digit (by decide) _ x (List.mem_reverse.1 hx))
  clear hL8
  go_wp2_with fail
  refine (Oc.trim_any ba bn bc _ _ ((Hb.out _ HC.out).bts HBb.out) (by omega)).mono ?_
  rintro e w5 ⟨⟨v5, rfl, hv⟩, hb⟩
  rw [bare_u8s _ HBb.out, HL8.out] at hv
  obtain ⟨ta, tm, tc, rfl, htm, ho⟩ := own_be hv HBL.out
  have cv1 := convB (ho.reads.bts HBL.out)
  replace HP := Lib.hid (HP.out.below hb)
  replace HW := Lib.hid (HW.out.below hb)
  replace HC := Lib.hid (HC.out.trans (hb.mono HC.out.size))
  clear hb hv ho htm
  go_wp2_with fail
  refine (Oc.trim_any pa pm pc _ _ (HP.out.bts (beN_byt _ _)) (by omega)).mono ?_
  rintro e w6 ⟨⟨v6, rfl, hv⟩, hb⟩
  rw [bare_u8s _ (beN_byt _ _), beN_val, HL8.out] at hv
  obtain ⟨ta2, tm2, tc2, rfl, htm, ho⟩ := own_be hv HBL.out
  have cv2 := convB (ho.reads.bts HBL.out)
  replace HW := Lib.hid (HW.out.below hb)
  replace HC := Lib.hid (HC.out.trans (hb.mono HC.out.size))
  clear hb hv ho htm cv1
  go_wp2_with fail
  refine (Oc.trim_any qa qm qc _ _ (HW.out.bts (beN_byt _ _)) (by omega)).mono ?_
  rintro e w7 ⟨⟨v7, rfl, hv⟩, hb⟩
  rw [bare_u8s _ (beN_byt _ _), beN_val, HL8.out] at hv
  obtain ⟨ta3, tm3, tc3, rfl, htm, ho⟩ := own_be hv HBL.out
  have cv3 := convB (ho.reads.bts HBL.out)
  replace HC := Lib.hid (HC.out.trans (hb.mono HC.out.size))
  clear hb hv ho htm cv2
  obtain ⟨k0, k1, k2⟩ := key_cells (HQ.out _ HC.out)
  go_wp2_with fail
  refine (halves_any _ N E D _ (HKey.out _ HC.out)).mono ?_
  rintro e w8 ⟨rfl, hb⟩
  rw [decide_eq_true HGK.out.halves]
  replace HC := Lib.hid (HC.out.trans (hb.mono HC.out.size))
  clear hb cv3 k0 k1 k2
  go_wp2
  go_ret
  exact ⟨by first | rfl | (simp; done) | (simp; rfl), HPW.out ▸ (HB.out.trans (HC.out.mono HB.out.size))⟩

end Go.Proofs.YtpefjkndfifceaaGreatDoor
