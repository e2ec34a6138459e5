/-
  PSS: the law PssNames. (Written by wip/gen_psN.py.)
-/
import Derived.Test.YtcdglhmapijebaaDoorPk1
import Derived.Test.YtcdglhmapijebaaDoorPk2
import Derived.Test.YtcdglhmapijebaaDoorPk3
import Derived.Laws.BitsLemmas
set_option linter.unusedVariables false
set_option linter.unusedSimpArgs false
namespace Go.Proofs.YtcdglhmapijebaaDoor
open Go.RowKit
set_option maxRecDepth 100000

theorem em_rowN (w6 : World) (gX N1 E : Nat) (x : Int) (em : List Nat) {a : Option Addr} {N c : Nat} (h : Reads .u8 (w6.setCell ⟨gX, N1, none⟩ (.int .u8 x)) a N c em) :
    OwnQ .u8 E w6.heap.size ((w6.setCell ⟨gX, N1, none⟩ (.int .u8 x)).alloc (.cells #[] E)) (.slice (some ⟨w6.heap.size, 0, none⟩) 0 0) [] ∧ Below w6.heap.size (w6.setCell ⟨gX, N1, none⟩ (.int .u8 x)) ((w6.setCell ⟨gX, N1, none⟩ (.int .u8 x)).alloc (.cells #[] E)) ∧ Reads .u8 ((w6.setCell ⟨gX, N1, none⟩ (.int .u8 x)).alloc (.cells #[] E)) a N c em := by
  have h1 := OwnQ.empty .u8 (w6.setCell ⟨gX, N1, none⟩ (.int .u8 x)) E _ (Nat.le_refl _)
  have h2 := (Below.refl _ (w6.setCell ⟨gX, N1, none⟩ (.int .u8 x))).alloc (Nat.le_refl _) (.cells #[] E)
  have h3 := h.below h2
  rw [World.size_setCell] at h1 h2
  exact ⟨h1, h2, h3⟩
theorem or2_nat (x : Nat) (hx : x < 256) : Go.bits BinOp.or IntKind.u8 (x : Int) 2 = ((x ||| 2 : Nat) : Int) := (Go.bits_nat .u8 8 (Nat.le_refl _) Go.wraps_u8 x 2 hx (by decide)).2

set_option maxHeartbeats 8000000 in
theorem pnames_walk (w : World) (hk : Kinds w) : Calls Tryd.prog 4 #[] w fun e w' => e = .returned (.bool true) ∧ Below w.heap.size w w' := by
  obtain ⟨i0, hi, hz0, hz1, hz2⟩ := info_parts infoMk
  have HK := Lib.hid hk
  have hh2 : IsHash 2 := .inr (.inl rfl)
  have HRM := Lib.hid (show RoomP ((2 : Nat) : Int) ((0 : Nat) : Int) ((265 : Nat) : Int) from ⟨.inr (.inl rfl), by decide, by decide, by decide, by decide⟩)
  clear hk
  go_enter Tryd.func4, Tryd.ntmps4
  go_wp2_with (at_make; refine wpList_make_full _ rfl _ _ 22 rfl w.heap.size 5 i0 (.int .u8 0) 1 Tryd.underlying22 hi hz0 hz1 _ _ _ _ 32 rfl rfl rfl rfl (by rw [hz2]; omega) (by unfold maxLen; omega) (Nat.le_refl _) ?_; intro w0 hown hgrow; have HD := Lib.hid (OwnQ.madeM hown rfl).reads; have HB := Lib.hid (Below.grown (Below.refl w.heap.size w) hgrow (Nat.le_refl _) (fun _ e => by cases e)); clear hown hgrow)
  replace HK := Lib.hid (HK.out.below HB.out)
  have HDB := Lib.hid (byt_rep 32)
  have HDL := Lib.hid (show (List.replicate 32 0).length = 32 from rfl)
  skip
  refine (encode_no 2 (some ⟨w.heap.size, 0, none⟩) 31 32 none 0 0 900 (by decide) (by decide) (by decide) (by decide) _ HK.out (fun h => absurd h.2 (by decide))).mono ?_
  rintro e w1 ⟨rfl, hb⟩
  replace HK := Lib.hid (HK.out.below hb)
  replace HD := Lib.hid (HD.out.below hb)
  replace HB := Lib.hid (HB.out.trans (hb.mono HB.out.size))
  clear hb
  go_wp2_with fail
  refine (encode_no 0 none 0 0 none 0 0 900 (by decide) (by decide) (by decide) (by decide) _ HK.out (fun h => by have h1 := h.1.1; revert h1; unfold IsHash; omega)).mono ?_
  rintro e w2 ⟨rfl, hb⟩
  replace HK := Lib.hid (HK.out.below hb)
  replace HD := Lib.hid (HD.out.below hb)
  replace HB := Lib.hid (HB.out.trans (hb.mono HB.out.size))
  clear hb
  go_wp2_with fail
  refine (encode_no 2 (some ⟨w.heap.size, 0, none⟩) 32 32 none 0 0 264 (by decide) (by decide) (by decide) (by decide) _ HK.out (fun h => by have h1 := h.1.2.2.2.2; revert h1; decide)).mono ?_
  rintro e w3 ⟨rfl, hb⟩
  replace HK := Lib.hid (HK.out.below hb)
  replace HD := Lib.hid (HD.out.below hb)
  replace HB := Lib.hid (HB.out.trans (hb.mono HB.out.size))
  clear hb
  go_wp2_with fail
  refine (encode_p 2 hh2 _ 32 32 _ none 0 0 [] 265 _ HK.out HD.out (Reads.none _ _) HDB.out (fun x hx => by cases hx) HRM.out rfl (by decide)).mono ?_
  rintro e wE ⟨⟨gE, rfl, hO⟩, hb⟩
  have hv := ver_ems hh2 (List.replicate 32 0) [] (sn := 0) (n := 265) rfl (fun x hx => by cases hx) HDL.out HRM.out
  have hgd := good_ems hh2 (List.replicate 32 0) [] (sn := 0) (n := 265) rfl (fun x hx => by cases hx) HRM.out
  have hem := ems_fine hh2 (List.replicate 32 0) [] (sn := 0) (n := 265) rfl (fun x hx => by cases hx) HRM.out
  obtain ⟨m, hm, hml⟩ := ems_last hh2 (List.replicate 32 0) [] (sn := 0) (n := 265) rfl (fun x hx => by cases hx) HRM.out
  rw [show lenP 265 = 34 from rfl] at hO hml hem ⊢
  generalize hEM : emsP 2 (List.replicate 32 0) [] 265 = em at *
  obtain ⟨x0, er, her⟩ : ∃ x0 er, em = x0 :: er := by
    cases em with
    | nil => have := hem.2.2.2.1; simp at this
    | cons x r => exact ⟨x, r, rfl⟩
  have hx0b : x0 < 256 := hem.2.2.2.2 x0 (by rw [her]; exact List.mem_cons_self)
  have HV := Lib.hid hv
  have HGD := Lib.hid hgd
  have HEM := Lib.hid hem
  have HM := Lib.hid (And.intro hm hml)
  have HER := Lib.hid her
  have HO := Lib.hid hO
  replace HK := Lib.hid (HK.out.below hb)
  replace HD := Lib.hid (HD.out.below hb)
  replace HB := Lib.hid (HB.out.trans (hb.mono HB.out.size))
  clear hv hgd hem hEM hm hml her hO hb
  go_wp2_with fail
  refine (encode_no 2 (some ⟨w.heap.size, 0, none⟩) 32 32 none 0 0 524289 (by decide) (by decide) (by decide) (by decide) _ HK.out (fun h => by have h1 := h.1.2.2.2.1; revert h1; decide)).mono ?_
  rintro e w4 ⟨rfl, hb⟩
  replace HK := Lib.hid (HK.out.below hb)
  replace HD := Lib.hid (HD.out.below hb)
  replace HO := Lib.hid (HO.out.below hb)
  replace HB := Lib.hid (HB.out.trans (hb.mono HB.out.size))
  clear hb
  go_wp2_with fail
  refine (encode_no 2 (some ⟨w.heap.size, 0, none⟩) 32 32 none 0 0 (-5) (by decide) (by decide) (by decide) (by decide) _ HK.out (fun h => by have h1 := h.1.2.2.1; revert h1; decide)).mono ?_
  rintro e w5 ⟨rfl, hb⟩
  replace HK := Lib.hid (HK.out.below hb)
  replace HD := Lib.hid (HD.out.below hb)
  replace HO := Lib.hid (HO.out.below hb)
  replace HB := Lib.hid (HB.out.trans (hb.mono HB.out.size))
  clear hb
  go_wp2_with fail
  refine (salt_any 2 (some ⟨gE, 0, none⟩) 33 34 (em.take 33) 0 265 (by decide) (by decide) (by decide) (by decide) (by decide) _ HK.out (HO.out.reads.upto 33 (by decide)) (byt_take HEM.out.2.2.2.2 33)).mono ?_
  rintro e v6 ⟨hb, ⟨hg, sa, sc, rfl, -⟩ | ⟨hg, rfl⟩⟩
  · exact absurd hg (fun h => by have h1 := h.2.1; rw [List.length_take, HEM.out.2.2.2.1] at h1; revert h1; decide)
  replace HK := Lib.hid (HK.out.below hb)
  replace HD := Lib.hid (HD.out.below hb)
  replace HO := Lib.hid (HO.out.below hb)
  replace HB := Lib.hid (HB.out.trans (hb.mono HB.out.size))
  clear hb hg
  go_wp2_with fail
  refine (salt_any 2 (some ⟨gE, 0, none⟩) 34 34 em 0 265 (by decide) (by decide) (by decide) (by decide) (by decide) _ HK.out (HO.out.reads) (HEM.out.2.2.2.2)).mono ?_
  rintro e v7 ⟨hb, ⟨hg, sa, sc, rfl, -⟩ | ⟨hg, rfl⟩⟩
  rotate_left
  · exact absurd HGD.out hg
  simp only [Int.toNat_zero] at ⊢
  replace HK := Lib.hid (HK.out.below hb)
  replace HD := Lib.hid (HD.out.below hb)
  replace HO := Lib.hid (HO.out.below hb)
  replace HB := Lib.hid (HB.out.trans (hb.mono HB.out.size))
  clear hb hg
  go_wp2_with fail
  refine (salt_any 2 (some ⟨gE, 0, none⟩) 34 34 em (-1) 265 (by decide) (by decide) (by decide) (by decide) (by decide) _ HK.out (HO.out.reads) (HEM.out.2.2.2.2)).mono ?_
  rintro e v8 ⟨hb, ⟨hg, sa, sc, rfl, -⟩ | ⟨hg, rfl⟩⟩
  · exact absurd hg (fun h => by have h1 := h.1.2.1; revert h1; decide)
  replace HK := Lib.hid (HK.out.below hb)
  replace HD := Lib.hid (HD.out.below hb)
  replace HO := Lib.hid (HO.out.below hb)
  replace HB := Lib.hid (HB.out.trans (hb.mono HB.out.size))
  clear hb hg
  go_wp2_with fail
  refine (salt_any 2 none 0 0 [] 0 0 (by decide) (by decide) (by decide) (by decide) (by decide) _ HK.out (Reads.none _ _) (fun x hx => by cases hx)).mono ?_
  rintro e v9 ⟨hb, ⟨hg, sa, sc, rfl, -⟩ | ⟨hg, rfl⟩⟩
  · exact absurd hg (fun h => by have h1 := h.1.2.2.2.2; revert h1; decide)
  replace HK := Lib.hid (HK.out.below hb)
  replace HD := Lib.hid (HD.out.below hb)
  replace HO := Lib.hid (HO.out.below hb)
  replace HB := Lib.hid (HB.out.trans (hb.mono HB.out.size))
  clear hb hg
  have or2 := or2_nat x0 hx0b
  obtain ⟨y0, hy0⟩ : ∃ y0, x0 ||| 2 = y0 := ⟨_, rfl⟩
  have HY0 := Lib.hid hy0
  rw [hy0] at or2
  clear hy0
  go_wp2_with (at_builtin; first
    | (refine wpList_append_q1 .u8 _ rfl _ _ 22 rfl v9.heap.size 5 i0 Tryd.underlying22 hi hz0 hz1 hz2 _ [] rfl (OwnQ.empty .u8 v9 _ _ (Nat.le_refl _)) _ 34 _ em rfl (HO.out.reads.below ((Below.refl _ v9).alloc (Nat.le_refl _) _)) (by simp) (by simp) ?_; intro v2 w6 hown hgrow; rw [List.nil_append] at hown; have HX := Lib.hid hown; have HBX := Lib.hid (hgrow v9 ((Below.refl _ _).alloc (Nat.le_refl _) _)); clear hown hgrow; obtain ⟨gX, cX, hvx⟩ := HX.out.succ (by rw [HER.out]; simp); rw [HEM.out.2.2.2.1] at hvx; subst hvx; have cx := HX.out.cellAt HEM.out.2.2.2.1.symm 33 (by decide); have fx := HX.out.frozenAt HEM.out.2.2.2.1.symm 33; have HXS := Lib.hid (HX.out.stored HEM.out.2.2.2.1.symm 33 189 189 rfl); have HEMr := Lib.hid (em_rowN w6 gX 33 5 189 _ (HO.out.reads.below (HXS.out.2 v9 HBX.out))))
    | (refine wpList_append_q1 .u8 _ rfl _ _ 22 rfl w6.heap.size 5 i0 Tryd.underlying22 hi hz0 hz1 hz2 _ [] rfl HEMr.out.1 _ 34 _ em rfl HEMr.out.2.2 (by simp) (by simp) ?_; intro v2 w8 hown hgrow; rw [List.nil_append] at hown; have HY := Lib.hid hown; have HBYw := Lib.hid (hgrow (w6.setCell ⟨gX, 33, none⟩ (.int .u8 189)) HEMr.out.2.1); clear hown hgrow HEMr; obtain ⟨gY, cY, hvx⟩ := HY.out.succ (by rw [HER.out]; simp); rw [HEM.out.2.2.2.1] at hvx; subst hvx; have hcy := HY.out.cellAt HEM.out.2.2.2.1.symm 0 (by decide); rw [HER.out] at hcy; have cy : w8.cell? ⟨gY, 0, none⟩ = some (.int .u8 (x0 : Int)) := hcy; have fy := HY.out.frozenAt HEM.out.2.2.2.1.symm 0; have HYS := Lib.hid (HY.out.stored HEM.out.2.2.2.1.symm 0 y0 (y0 : Int) rfl); clear hcy))
  have hw7 := HXS.out.2 v9 HBX.out
  have hs6 : v9.heap.size ≤ w6.heap.size := HBX.out.size
  have hs5 : w.heap.size ≤ v9.heap.size := HB.out.size
  have hw9 : Below w.heap.size w (w8.setCell ⟨gY, 0, none⟩ (.int .u8 (y0 : Int))) := (HB.out.trans (hw7.mono hs5)).trans ((HYS.out.2 _ HBYw.out).mono (Nat.le_trans hs5 hs6))
  have h59 : Below v9.heap.size v9 (w8.setCell ⟨gY, 0, none⟩ (.int .u8 (y0 : Int))) := hw7.trans ((HYS.out.2 _ HBYw.out).mono hs6)
  have h79 : Below (w6.setCell ⟨gX, 33, none⟩ (.int .u8 189)).heap.size (w6.setCell ⟨gX, 33, none⟩ (.int .u8 189)) (w8.setCell ⟨gY, 0, none⟩ (.int .u8 (y0 : Int))) := by rw [World.size_setCell]; exact HYS.out.2 _ HBYw.out
  have HYr := Lib.hid (show Reads .u8 _ (some ⟨gY, 0, none⟩) 34 cY (y0 :: er) from by have := HYS.out.1.reads; rw [HER.out] at this; exact this)
  have HXr := Lib.hid (HXS.out.1.reads.below h79)
  generalize w8.setCell ⟨gY, 0, none⟩ (.int .u8 (y0 : Int)) = w9 at *
  have hxs : em.set 33 189 = m ++ [189] := by rw [HM.out.1, List.set_append_right _ _ (by have := HM.out.2; omega), show 33 - m.length = 0 by (have := HM.out.2; omega)]; rfl
  rw [hxs] at HXr
  have HXb := Lib.hid (show Byt (m ++ [189]) from fun x hx => by
    rcases List.mem_append.1 hx with hx | hx
    · exact HEM.out.2.2.2.2 x (by rw [HM.out.1]; exact List.mem_append_left _ hx)
    · rw [List.mem_singleton.1 hx]; decide)
  have HYb := Lib.hid (show Byt (y0 :: er) from fun x hx => by
    rcases List.mem_cons.1 hx with rfl | hx
    · rw [← HY0.out]; exact Nat.or_lt_two_pow (n := 8) hx0b (by decide)
    · exact HEM.out.2.2.2.2 x (by rw [HER.out]; exact List.mem_cons_of_mem _ hx))
  replace HK := Lib.hid (HK.out.below h59)
  replace HD := Lib.hid (HD.out.below h59)
  replace HO := Lib.hid (HO.out.below h59)
  replace HB := Lib.hid hw9
  clear hw9 h59 h79 hw7 hxs HXS HX HY HYS HBX HBYw cx fx cy fy
  skip
  refine (verify_any 2 (some ⟨w.heap.size, 0, none⟩) 32 32 (List.replicate 32 0) (some ⟨gE, 0, none⟩) 34 34 em 0 265 (by decide) (by decide) (by decide) (by decide) (by decide) _ HK.out (HD.out) (HDB.out) (HO.out.reads) (HEM.out.2.2.2.2)).mono ?_
  rintro e w10 ⟨⟨v, rfl, hv⟩, hb⟩
  replace HK := Lib.hid (HK.out.below hb)
  replace HD := Lib.hid (HD.out.below hb)
  replace HO := Lib.hid (HO.out.below hb)
  replace HXr := Lib.hid (HXr.out.below hb)
  replace HYr := Lib.hid (HYr.out.below hb)
  replace HB := Lib.hid (HB.out.trans (hb.mono HB.out.size))
  clear hb
  obtain rfl : v = true := hv.2 HV.out
  clear hv
  go_wp2_with fail
  refine (verify_any 2 (some ⟨w.heap.size, 0, none⟩) 32 32 (List.replicate 32 0) _ 34 _ (m ++ [189]) 0 265 (by decide) (by decide) (by decide) (by decide) (by decide) _ HK.out (HD.out) (HDB.out) (HXr.out) (HXb.out)).mono ?_
  rintro e w11 ⟨⟨v, rfl, hv⟩, hb⟩
  replace HK := Lib.hid (HK.out.below hb)
  replace HD := Lib.hid (HD.out.below hb)
  replace HO := Lib.hid (HO.out.below hb)
  replace HXr := Lib.hid (HXr.out.below hb)
  replace HYr := Lib.hid (HYr.out.below hb)
  replace HB := Lib.hid (HB.out.trans (hb.mono HB.out.size))
  clear hb
  obtain rfl : v = false := Bool.eq_false_iff.2 fun e => bad_last m 189 (by decide) _ (hv.1 e)
  clear hv
  go_wp2_with fail
  refine (verify_any 2 (some ⟨w.heap.size, 0, none⟩) 32 32 (List.replicate 32 0) _ 34 _ (y0 :: er) 0 265 (by decide) (by decide) (by decide) (by decide) (by decide) _ HK.out (HD.out) (HDB.out) (HYr.out) (HYb.out)).mono ?_
  rintro e w12 ⟨⟨v, rfl, hv⟩, hb⟩
  replace HK := Lib.hid (HK.out.below hb)
  replace HD := Lib.hid (HD.out.below hb)
  replace HO := Lib.hid (HO.out.below hb)
  replace HXr := Lib.hid (HXr.out.below hb)
  replace HYr := Lib.hid (HYr.out.below hb)
  replace HB := Lib.hid (HB.out.trans (hb.mono HB.out.size))
  clear hb
  obtain rfl : v = false := Bool.eq_false_iff.2 fun e => by
    have h9 := hv.1 e
    rw [← HY0.out] at h9
    exact bad_high (n := 265) x0 er 1 (by decide) (by decide) _ h9
  clear hv
  go_wp2_with fail
  refine (verify_any 2 (some ⟨w.heap.size, 0, none⟩) 32 32 (List.replicate 32 0) (some ⟨gE, 0, none⟩) 34 34 em 0 273 (by decide) (by decide) (by decide) (by decide) (by decide) _ HK.out (HD.out) (HDB.out) (HO.out.reads) (HEM.out.2.2.2.2)).mono ?_
  rintro e w13 ⟨⟨v, rfl, hv⟩, hb⟩
  replace HK := Lib.hid (HK.out.below hb)
  replace HD := Lib.hid (HD.out.below hb)
  replace HO := Lib.hid (HO.out.below hb)
  replace HXr := Lib.hid (HXr.out.below hb)
  replace HYr := Lib.hid (HYr.out.below hb)
  replace HB := Lib.hid (HB.out.trans (hb.mono HB.out.size))
  clear hb
  obtain rfl : v = false := Bool.eq_false_iff.2 fun e => bad_len _ (by rw [HEM.out.2.2.2.1]; decide) _ (hv.1 e)
  clear hv
  go_wp2_with fail
  refine (verify_any 1 (some ⟨w.heap.size, 0, none⟩) 32 32 (List.replicate 32 0) (some ⟨gE, 0, none⟩) 34 34 em 0 265 (by decide) (by decide) (by decide) (by decide) (by decide) _ HK.out (HD.out) (HDB.out) (HO.out.reads) (HEM.out.2.2.2.2)).mono ?_
  rintro e w14 ⟨⟨v, rfl, hv⟩, hb⟩
  replace HK := Lib.hid (HK.out.below hb)
  replace HD := Lib.hid (HD.out.below hb)
  replace HO := Lib.hid (HO.out.below hb)
  replace HXr := Lib.hid (HXr.out.below hb)
  replace HYr := Lib.hid (HYr.out.below hb)
  replace HB := Lib.hid (HB.out.trans (hb.mono HB.out.size))
  clear hb
  obtain rfl : v = false := Bool.eq_false_iff.2 fun e => by have h9 := (hv.1 e).2.1; revert h9; decide
  clear hv
  go_wp2_with fail
  refine (verify_any 2 (some ⟨w.heap.size, 0, none⟩) 31 32 (List.take 31 (List.replicate 32 0)) (some ⟨gE, 0, none⟩) 34 34 em 0 265 (by decide) (by decide) (by decide) (by decide) (by decide) _ HK.out (HD.out.upto 31 (by decide)) (byt_take HDB.out 31) (HO.out.reads) (HEM.out.2.2.2.2)).mono ?_
  rintro e w15 ⟨⟨v, rfl, hv⟩, hb⟩
  replace HK := Lib.hid (HK.out.below hb)
  replace HD := Lib.hid (HD.out.below hb)
  replace HO := Lib.hid (HO.out.below hb)
  replace HXr := Lib.hid (HXr.out.below hb)
  replace HYr := Lib.hid (HYr.out.below hb)
  replace HB := Lib.hid (HB.out.trans (hb.mono HB.out.size))
  clear hb
  obtain rfl : v = false := Bool.eq_false_iff.2 fun e => by have h9 := (hv.1 e).2.1; revert h9; decide
  clear hv
  go_wp2_with fail
  refine (verify_any 2 none 0 0 [] none 0 0 [] 0 0 (by decide) (by decide) (by decide) (by decide) (by decide) _ HK.out (Reads.none _ _) (fun x hx => by cases hx) (Reads.none _ _) (fun x hx => by cases hx)).mono ?_
  rintro e w16 ⟨⟨v, rfl, hv⟩, hb⟩
  replace HK := Lib.hid (HK.out.below hb)
  replace HD := Lib.hid (HD.out.below hb)
  replace HO := Lib.hid (HO.out.below hb)
  replace HXr := Lib.hid (HXr.out.below hb)
  replace HYr := Lib.hid (HYr.out.below hb)
  replace HB := Lib.hid (HB.out.trans (hb.mono HB.out.size))
  clear hb
  obtain rfl : v = false := Bool.eq_false_iff.2 fun e => by have h9 := (hv.1 e).2.1; revert h9; decide
  clear hv
  clear HD HO HXr HYr HXb HYb HV HGD HM HER HY0 HDB HDL
  go_wp2_with fail
  refine (alive_p _ HK.out).mono ?_
  rintro e w17 ⟨rfl, hb⟩
  replace HK := Lib.hid (HK.out.below hb)
  replace HB := Lib.hid (HB.out.trans (hb.mono HB.out.size))
  clear hb
  go_wp2_with fail
  refine (room_p 2 32 521 (by decide) (by decide) (by decide) (by decide) _ HK.out).mono ?_
  rintro e w18 ⟨rfl, hb⟩
  replace HK := Lib.hid (HK.out.below hb)
  replace HB := Lib.hid (HB.out.trans (hb.mono HB.out.size))
  clear hb
  rw [room_dec (show RoomP 2 32 521 from ⟨.inr (.inl rfl), by decide, by decide, by decide, by decide⟩)]
  go_wp2_with fail
  refine (room_p 2 (-1) 999 (by decide) (by decide) (by decide) (by decide) _ HK.out).mono ?_
  rintro e w19 ⟨rfl, hb⟩
  replace HK := Lib.hid (HK.out.below hb)
  replace HB := Lib.hid (HB.out.trans (hb.mono HB.out.size))
  clear hb
  rw [room_no (show ¬ RoomP 2 (-1) 999 from fun h => by have h1 := h.2.1; revert h1; decide)]
  go_wp2_with fail
  refine (room_p 5 0 999 (by decide) (by decide) (by decide) (by decide) _ HK.out).mono ?_
  rintro e w20 ⟨rfl, hb⟩
  replace HK := Lib.hid (HK.out.below hb)
  replace HB := Lib.hid (HB.out.trans (hb.mono HB.out.size))
  clear hb
  rw [room_no (show ¬ RoomP 5 0 999 from fun h => by have h1 := h.1; revert h1; unfold IsHash; omega)]
  go_wp2_with fail
  refine (room_p 2 4611686018427387904 999 (by decide) (by decide) (by decide) (by decide) _ HK.out).mono ?_
  rintro e w21 ⟨rfl, hb⟩
  replace HK := Lib.hid (HK.out.below hb)
  replace HB := Lib.hid (HB.out.trans (hb.mono HB.out.size))
  clear hb
  rw [room_no (show ¬ RoomP 2 4611686018427387904 999 from fun h => by have h1 := h.2.2.2.2; revert h1; decide)]
  go_wp2_with fail
  refine (room_p 2 0 4611686018427387904 (by decide) (by decide) (by decide) (by decide) _ HK.out).mono ?_
  rintro e w22 ⟨rfl, hb⟩
  replace HK := Lib.hid (HK.out.below hb)
  replace HB := Lib.hid (HB.out.trans (hb.mono HB.out.size))
  clear hb
  rw [room_no (show ¬ RoomP 2 0 4611686018427387904 from fun h => by have h1 := h.2.2.2.1; revert h1; decide)]
  go_wp2
  go_ret
  exact ⟨rfl, HB.out⟩
end Go.Proofs.YtcdglhmapijebaaDoor
