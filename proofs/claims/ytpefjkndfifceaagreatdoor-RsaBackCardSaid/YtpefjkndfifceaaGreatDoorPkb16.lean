/- Part of the proofs: what the functions that the law calls do. -/
import Derived.Test.YtpefjkndfifceaaGreatDoorPkb6
import Derived.Test.YtpefjkndfifceaaGreatDoorPkb7
import Derived.Test.YtpefjkndfifceaaGreatDoorPkb9
import Derived.Test.YtpefjkndfifceaaGreatDoorPkb10
import Derived.Test.YtpefjkndfifceaaGreatDoorPkb14
import Derived.Test.YtpefjkndfifceaaGreatDoorPkb15
import Derived.OrdersHeld
import Derived.Deep.RegionHeld
import Derived.Laws.ResultCell
open Go.Lib renaming hid → zH
open List renaming setIfInBounds_toArray → zq1, set_cons_zero → zq2, set_cons_succ → zq3, getElem_toArray → zq4, getElem_cons_succ → zq5, getElem_cons_zero → zq6
set_option linter.unusedVariables false
set_option linter.unusedSimpArgs false
namespace Go.Proofs.YtpefjkndfifceaaGreatDoor
open Go.RowKit
set_option maxRecDepth 100000
set_option maxHeartbeats 8000000 in
theorem signed_any (k : Value) (N E D : List Nat) (way h : Int) (ga : Option Addr) (gn gc : Nat) (d : List Nat) (sa : Option Addr) (sn sc : Nat) (s : List Nat) (w : World) (hkey : KeyAt w k N E D) (hk : Kinds w) (hd : Reads .u8 w ga gn gc d) (hs : Reads .u8 w sa sn sc s) (bd : Byt d) (bs : Byt s) :
  Calls Tryz.prog 39 #[k, .int .i64 way, .int .i64 h, .slice ga gn gc, .slice sa sn sc] w fun e w' => (∃ a n c, e = .returned (.tuple #[.slice a n c, .int .i64 (sgnV N way h d s).2]) ∧ OwnQ .u8 5 w.heap.size w' (.slice a n c) (sgnV N way h d s).1) ∧ Below w.heap.size w w' := by
 obtain ⟨R, hR⟩ : ∃ R, sgnV N way h d s = R := ⟨_, rfl⟩
 rw [hR]
 have HBd := zH bd
 have HBs := zH bs
 have HSL := zH hs.length
 have HDL := zH hd.length
 clear bd bs
 by_cases w1 : way = 1
 ·subst w1
  have HR := zH (show R = encR h d (N.length : Int) by rw [← hR]; unfold sgnV; rw [if_pos rfl])
  clear hR
  obtain ⟨na, nn, nc, ea, en, ec, da, dn, dc, rfl, ⟨hN, bN, ln⟩, ⟨hE, bE, le⟩, hD, bD, ld⟩ := hkey
  have hkey : KeyAt w (.agg #[.slice na nn nc, .slice ea en ec, .slice da dn dc]) N E D := ⟨na, nn, nc, ea, en, ec, da, dn, dc, rfl, ⟨hN, bN, ln⟩, ⟨hE, bE, le⟩, hD, bD, ld⟩
  have HNL := zH hN.length
  have HSM := zH hkey.small
  have hba := (Below.refl w.heap.size w).alloc (Nat.le_refl _) (.cells #[.slice na nn nc, .slice ea en ec, .slice da dn dc] 24)
  have hq0 : (w.alloc (.cells #[.slice na nn nc, .slice ea en ec, .slice da dn dc] 24)).heap[w.heap.size]? = some (.cells #[.slice na nn nc, .slice ea en ec, .slice da dn dc] 24) := World.alloc_heap_new w _
  have HQ0 := zH hq0
  have HB := zH hba
  have HKey0 := zH hkey
  have HKs0 := zH hk
  have HD0 := zH hd
  have HS0 := zH hs
  clear hN bN hE bE hD bD hba hq0 hkey hk hd hs
  go_enter Tryz.func39, Tryz.ntmps39
  go_wp2_with fail
  generalize w.alloc (.cells #[.slice na nn nc, .slice ea en ec, .slice da dn dc] 24) = w0 at *
  obtain ⟨P, hP⟩ : ∃ P, w.heap.size = P := ⟨_, rfl⟩
  rw [hP] at HQ0 ⊢
  have HPW := zH hP
  have HQ : Hid (∀ X, Below w0.heap.size w0 X → X.heap[P]? = some (.cells #[.slice na nn nc, .slice ea en ec, .slice da dn dc] 24)) := zH fun X hX => (hX.block P (Array.getElem?_eq_some_iff.1 HQ0.out).1).trans HQ0.out
  have HKey : Hid (∀ X, Below w0.heap.size w0 X → KeyAt X (.agg #[.slice na nn nc, .slice ea en ec, .slice da dn dc]) N E D) := zH fun X hX => (HKey0.out.below HB.out).below hX
  have HKs : Hid (∀ X, Below w0.heap.size w0 X → Kinds X) := zH fun X hX => (HKs0.out.below HB.out).below hX
  have HD := zH (fun (X : World) (hX : Below w0.heap.size w0 X) => (HD0.out.below HB.out).below hX)
  have HS := zH (fun (X : World) (hX : Below w0.heap.size w0 X) => (HS0.out.below HB.out).below hX)
  clear hP HQ0
  have HC := zH (Below.refl w0.heap.size w0)
  obtain ⟨k0, k1, k2⟩ := key_cells (HQ.out _ HC.out)
  go_wp2_with fail
  refine (encode_any h ga gn gc d (nn : Int) _ (HKs.out _ HC.out) (HD.out _ HC.out)).mono ?_
  rintro e w1 ⟨⟨v, rfl, hv⟩, hb⟩
  rw [show encR h d (nn : Int) = R by rw [HR.out, HNL.out]] at hv ⊢
  obtain ⟨a1, n1, c1, rfl, -, ho⟩ := own_slM hv
  have HO := zH ho
  replace HC := zH (HC.out.trans (hb.mono HC.out.size))
  clear hb hv ho k0 k1 k2
  go_wp2
  go_ret2
  exact ⟨⟨a1, n1, c1, rfl, HO.out.mono (by have h1 := HB.out.size; have h3 := HPW.out; omega)⟩, HPW.out ▸ (HB.out.trans (HC.out.mono HB.out.size))⟩
 have t1 : (way == 1) = false := by simpa using w1
 by_cases w2 : way = 2
 rotate_left
 ·have t2 : (way == 2) = false := by simpa using w2
  have HR := zH (show R = ([], 101) by rw [← hR]; unfold sgnV; rw [if_neg w1, if_neg w2])
  clear hR w1 w2
  obtain ⟨na, nn, nc, ea, en, ec, da, dn, dc, rfl, ⟨hN, bN, ln⟩, ⟨hE, bE, le⟩, hD, bD, ld⟩ := hkey
  have hkey : KeyAt w (.agg #[.slice na nn nc, .slice ea en ec, .slice da dn dc]) N E D := ⟨na, nn, nc, ea, en, ec, da, dn, dc, rfl, ⟨hN, bN, ln⟩, ⟨hE, bE, le⟩, hD, bD, ld⟩
  have HNL := zH hN.length
  have HSM := zH hkey.small
  have hba := (Below.refl w.heap.size w).alloc (Nat.le_refl _) (.cells #[.slice na nn nc, .slice ea en ec, .slice da dn dc] 24)
  have hq0 : (w.alloc (.cells #[.slice na nn nc, .slice ea en ec, .slice da dn dc] 24)).heap[w.heap.size]? = some (.cells #[.slice na nn nc, .slice ea en ec, .slice da dn dc] 24) := World.alloc_heap_new w _
  have HQ0 := zH hq0
  have HB := zH hba
  have HKey0 := zH hkey
  have HKs0 := zH hk
  have HD0 := zH hd
  have HS0 := zH hs
  clear hN bN hE bE hD bD hba hq0 hkey hk hd hs
  go_enter Tryz.func39, Tryz.ntmps39
  go_wp2_with fail
  generalize w.alloc (.cells #[.slice na nn nc, .slice ea en ec, .slice da dn dc] 24) = w0 at *
  obtain ⟨P, hP⟩ : ∃ P, w.heap.size = P := ⟨_, rfl⟩
  rw [hP] at HQ0 ⊢
  have HPW := zH hP
  have HQ : Hid (∀ X, Below w0.heap.size w0 X → X.heap[P]? = some (.cells #[.slice na nn nc, .slice ea en ec, .slice da dn dc] 24)) := zH fun X hX => (hX.block P (Array.getElem?_eq_some_iff.1 HQ0.out).1).trans HQ0.out
  have HKey : Hid (∀ X, Below w0.heap.size w0 X → KeyAt X (.agg #[.slice na nn nc, .slice ea en ec, .slice da dn dc]) N E D) := zH fun X hX => (HKey0.out.below HB.out).below hX
  have HKs : Hid (∀ X, Below w0.heap.size w0 X → Kinds X) := zH fun X hX => (HKs0.out.below HB.out).below hX
  have HD := zH (fun (X : World) (hX : Below w0.heap.size w0 X) => (HD0.out.below HB.out).below hX)
  have HS := zH (fun (X : World) (hX : Below w0.heap.size w0 X) => (HS0.out.below HB.out).below hX)
  clear hP HQ0
  have HC := zH (Below.refl w0.heap.size w0)
  go_wp2
  go_ret2
  exact ⟨⟨none, 0, 0, by rw [HR.out]; rfl, by rw [HR.out]; exact OwnQ.nil _ _ _ _⟩, HPW.out ▸ (HB.out.trans (HC.out.mono HB.out.size))⟩
 subst w2
 have HR := zH (show R = (if s.length = hSz h then pssV h d s ((bitsN (numV N) : Int) - 1) else ([], 101)) by rw [← hR]; unfold sgnV; rw [if_neg (by decide), if_pos rfl])
 clear hR w1 t1
 have hz := hSz_le h
 obtain ⟨z, hz2⟩ : ∃ z, hSz h = z := ⟨_, rfl⟩
 rw [hz2] at hz
 have HZ := zH hz2
 obtain ⟨b, hb2⟩ : ∃ b, bitsN (numV N) = b := ⟨_, rfl⟩
 have HBB := zH hb2
 have hb9 : b ≤ 8192 := by
  rw [← hb2]
  have h1 := numV_small hkey.small.1.1 hkey.small.1.2
  rw [topN_two] at h1
  exact (bitsN_le (numV N) 8192).2 h1
 clear hz2 hb2
 obtain ⟨na, nn, nc, ea, en, ec, da, dn, dc, rfl, ⟨hN, bN, ln⟩, ⟨hE, bE, le⟩, hD, bD, ld⟩ := hkey
 have hkey : KeyAt w (.agg #[.slice na nn nc, .slice ea en ec, .slice da dn dc]) N E D := ⟨na, nn, nc, ea, en, ec, da, dn, dc, rfl, ⟨hN, bN, ln⟩, ⟨hE, bE, le⟩, hD, bD, ld⟩
 have HNL := zH hN.length
 have HSM := zH hkey.small
 have hba := (Below.refl w.heap.size w).alloc (Nat.le_refl _) (.cells #[.slice na nn nc, .slice ea en ec, .slice da dn dc] 24)
 have hq0 : (w.alloc (.cells #[.slice na nn nc, .slice ea en ec, .slice da dn dc] 24)).heap[w.heap.size]? = some (.cells #[.slice na nn nc, .slice ea en ec, .slice da dn dc] 24) := World.alloc_heap_new w _
 have HQ0 := zH hq0
 have HB := zH hba
 have HKey0 := zH hkey
 have HKs0 := zH hk
 have HD0 := zH hd
 have HS0 := zH hs
 clear hN bN hE bE hD bD hba hq0 hkey hk hd hs
 go_enter Tryz.func39, Tryz.ntmps39
 go_wp2_with fail
 generalize w.alloc (.cells #[.slice na nn nc, .slice ea en ec, .slice da dn dc] 24) = w0 at *
 obtain ⟨P, hP⟩ : ∃ P, w.heap.size = P := ⟨_, rfl⟩
 rw [hP] at HQ0 ⊢
 have HPW := zH hP
 have HQ : Hid (∀ X, Below w0.heap.size w0 X → X.heap[P]? = some (.cells #[.slice na nn nc, .slice ea en ec, .slice da dn dc] 24)) := zH fun X hX => (hX.block P (Array.getElem?_eq_some_iff.1 HQ0.out).1).trans HQ0.out
 have HKey : Hid (∀ X, Below w0.heap.size w0 X → KeyAt X (.agg #[.slice na nn nc, .slice ea en ec, .slice da dn dc]) N E D) := zH fun X hX => (HKey0.out.below HB.out).below hX
 have HKs : Hid (∀ X, Below w0.heap.size w0 X → Kinds X) := zH fun X hX => (HKs0.out.below HB.out).below hX
 have HD := zH (fun (X : World) (hX : Below w0.heap.size w0 X) => (HD0.out.below HB.out).below hX)
 have HS := zH (fun (X : World) (hX : Below w0.heap.size w0 X) => (HS0.out.below HB.out).below hX)
 clear hP HQ0
 have HC := zH (Below.refl w0.heap.size w0)
 go_wp2_with fail
 refine (msize_any h _ (HKs.out _ HC.out)).mono ?_
 rintro e w1 ⟨rfl, hb⟩
 rw [HZ.out]
 replace HC := zH (HC.out.trans (hb.mono HC.out.size))
 clear hb
 by_cases hsz : sn = z
 rotate_left
 ·have t1 : ((sn : Int) == (z : Int)) = false := by simp; omega
  have t2 : (sn == z) = false := by simpa using hsz
  have HF := zH (show R = ([], 101) by rw [HR.out, if_neg (by rw [HSL.out, HZ.out]; exact hsz)])
  clear hsz
  go_wp2
  go_ret2
  exact ⟨⟨none, 0, 0, by rw [HF.out]; rfl, by rw [HF.out]; exact OwnQ.nil _ _ _ _⟩, HPW.out ▸ (HB.out.trans (HC.out.mono HB.out.size))⟩
 subst hsz
 have HF := zH (show R = pssV h d s ((b : Int) - 1) by rw [HR.out, if_pos (by rw [HSL.out, HZ.out]), HBB.out])
 have t1 : ((sn : Int) == (sn : Int)) = true := by simp
 have t2 : (sn == sn) = true := by simp
 obtain ⟨k0, k1, k2⟩ := key_cells (HQ.out _ HC.out)
 go_wp2_with fail
 refine (kbits _ N E D _ (HKey.out _ HC.out)).mono ?_
 rintro e w2 ⟨rfl, hb⟩
 rw [HBB.out]
 replace HC := zH (HC.out.trans (hb.mono HC.out.size))
 clear hb k0 k1 k2
 go_wp2_with fail
 refine (pencode_any h ga gn gc d sa sn sc s ((b : Int) - 1) (by omega) (by omega) (by omega) _ (HKs.out _ HC.out) (HD.out _ HC.out) (HS.out _ HC.out) HBd.out HBs.out).mono ?_
 rintro e w3 ⟨hb, ⟨hok, g, rfl, ho⟩ | ⟨hno, rfl⟩⟩
 ·have HO := zH ho
  have HZ2 := zH HC.out.size
  have HG := zH (show R = (emsP h.toNat d s ((b : Int) - 1).toNat, 0) by rw [HF.out]; unfold pssV; rw [if_pos ⟨by rw [HSL.out]; exact hok.1, by rw [HDL.out]; exact hok.2⟩])
  replace HC := zH (HC.out.trans (hb.mono HC.out.size))
  clear hb ho hok
  generalize lenP ((b : Int) - 1).toNat = ll at *
  go_wp2
  go_ret2
  exact ⟨⟨some ⟨g, 0, none⟩, ll, ll, by rw [HG.out]; rfl, by rw [HG.out]; exact HO.out.mono (by have h1 := HB.out.size; have h2 := HZ2.out; have h3 := HPW.out; omega)⟩, HPW.out ▸ (HB.out.trans (HC.out.mono HB.out.size))⟩
 ·have HG := zH (show R = ([], 90) by rw [HF.out]; unfold pssV; rw [if_neg (fun k => hno ⟨by rw [← HSL.out]; exact k.1, by rw [← HDL.out]; exact k.2⟩)])
  replace HC := zH (HC.out.trans (hb.mono HC.out.size))
  clear hb hno
  go_wp2
  go_ret2
  exact ⟨⟨none, 0, 0, by rw [HG.out]; rfl, by rw [HG.out]; exact OwnQ.nil _ _ _ _⟩, HPW.out ▸ (HB.out.trans (HC.out.mono HB.out.size))⟩
open Classical in
theorem roomK_dec {N E : List Nat} {way h : Int} {z : Nat} {q : Int} (hz : hSz h = z) (hp : PubP N E) (hq : (sgnV N way h (List.replicate z 0) (List.replicate z 0)).2 = q) : decide (RoomK N E way h) = decide (q = 0) := by
 subst hz
 by_cases k : q = 0
 ·rw [decide_eq_true k]
  exact decide_eq_true (show RoomK N E way h from ⟨hp, hq.trans k⟩)
 ·rw [decide_eq_false k]
  exact decide_eq_false fun e : RoomK N E way h => k (hq.symm.trans e.2)
open Classical in
set_option maxHeartbeats 8000000 in
theorem kroom_any (k : Value) (N E D : List Nat) (way h : Int) (w : World) (hkey : KeyAt w k N E D) (hk : Kinds w) :
  Calls Tryz.prog 23 #[k, .int .i64 way, .int .i64 h] w fun e w' => e = .returned (.bool (decide (RoomK N E way h))) ∧ Below w.heap.size w w' := by
 obtain ⟨i0, hi0, hz0, hz1, hz2⟩ := info_parts infoMk
 obtain ⟨r, hr⟩ : ∃ r, decide (RoomK N E way h) = r := ⟨_, rfl⟩
 have HRR := zH hr
 rw [hr]
 clear hr
 have hz := hSz_le h
 obtain ⟨z, hze⟩ : ∃ z, hSz h = z := ⟨_, rfl⟩
 rw [hze] at hz
 have HZ := zH hze
 clear hze
 obtain ⟨na, nn, nc, ea, en, ec, da, dn, dc, rfl, ⟨hN, bN, ln⟩, ⟨hE, bE, le⟩, hD, bD, ld⟩ := hkey
 have hkey : KeyAt w (.agg #[.slice na nn nc, .slice ea en ec, .slice da dn dc]) N E D := ⟨na, nn, nc, ea, en, ec, da, dn, dc, rfl, ⟨hN, bN, ln⟩, ⟨hE, bE, le⟩, hD, bD, ld⟩
 have HNL := zH hN.length
 have HSM := zH hkey.small
 have hba := (Below.refl w.heap.size w).alloc (Nat.le_refl _) (.cells #[.slice na nn nc, .slice ea en ec, .slice da dn dc] 24)
 have hq0 : (w.alloc (.cells #[.slice na nn nc, .slice ea en ec, .slice da dn dc] 24)).heap[w.heap.size]? = some (.cells #[.slice na nn nc, .slice ea en ec, .slice da dn dc] 24) := World.alloc_heap_new w _
 have HQ0 := zH hq0
 have HB := zH hba
 have HKey0 := zH hkey
 have HKs0 := zH hk
 clear hN bN hE bE hD bD hba hq0 hkey hk
 go_enter Tryz.func23, Tryz.ntmps23
 go_wp2_with fail
 generalize w.alloc (.cells #[.slice na nn nc, .slice ea en ec, .slice da dn dc] 24) = w0 at *
 obtain ⟨P, hP⟩ : ∃ P, w.heap.size = P := ⟨_, rfl⟩
 rw [hP] at HQ0 ⊢
 have HPW := zH hP
 have HQ : Hid (∀ X, Below w0.heap.size w0 X → X.heap[P]? = some (.cells #[.slice na nn nc, .slice ea en ec, .slice da dn dc] 24)) := zH fun X hX => (hX.block P (Array.getElem?_eq_some_iff.1 HQ0.out).1).trans HQ0.out
 have HKey : Hid (∀ X, Below w0.heap.size w0 X → KeyAt X (.agg #[.slice na nn nc, .slice ea en ec, .slice da dn dc]) N E D) := zH fun X hX => (HKey0.out.below HB.out).below hX
 have HKs : Hid (∀ X, Below w0.heap.size w0 X → Kinds X) := zH fun X hX => (HKs0.out.below HB.out).below hX
 clear hP HQ0
 have HC := zH (Below.refl w0.heap.size w0)
 obtain ⟨k0, k1, k2⟩ := key_cells (HQ.out _ HC.out)
 go_wp2_with fail
 refine (kpublic _ N E D _ (HKey.out _ HC.out)).mono ?_
 rintro e w1 ⟨rfl, hb⟩
 replace HC := zH (HC.out.trans (hb.mono HC.out.size))
 clear hb k0 k1 k2
 by_cases hp : PubP N E
 rotate_left
 ·rw [show pubE N E = 100 by unfold pubE; rw [if_neg hp]]
  have HF := zH (show r = false by rw [← HRR.out]; exact decide_eq_false fun k => hp k.1)
  clear hp
  go_wp2
  go_ret
  exact ⟨by rw [HF.out]; rfl, HPW.out ▸ (HB.out.trans (HC.out.mono HB.out.size))⟩
 rw [show pubE N E = 0 by unfold pubE; rw [if_pos hp]]
 have HP := zH hp
 clear hp
 go_wp2_with fail
 refine (msize_any h _ (HKs.out _ HC.out)).mono ?_
 rintro e w2 ⟨rfl, hb⟩
 rw [HZ.out]
 replace HC := zH (HC.out.trans (hb.mono HC.out.size))
 clear hb
 go_wp2_with (at_make; refine wpList_make_lcM .u8 _ rfl _ _ 22 rfl w2.heap.size 5 i0 Tryz.underlying22 hi0 hz0 hz1 _ _ _ _ z z rfl rfl rfl rfl (Nat.le_refl _) (by rw [hz2]; omega) (by unfold maxLen; omega) (Nat.le_refl _) ?_; intro w3 hown hgrow; have HO := zH hown; have hb := (Below.refl w2.heap.size w2).grown hgrow (Nat.le_refl _) (fun r e => by cases e); replace HC := zH (HC.out.trans (hb.mono HC.out.size)); obtain ⟨k0, k1, k2⟩ := key_cells (HQ.out _ HC.out); clear hown hgrow hb)
 generalize w2.heap.size = S2 at *
 refine (signed_any _ N E D way h _ _ _ (List.replicate z 0) _ _ _ (List.replicate z 0) _ (HKey.out _ HC.out) (HKs.out _ HC.out) HO.out.reads HO.out.reads (byt_rep _) (byt_rep _)).mono ?_
 rintro e w4 ⟨⟨a4, n4, c4, rfl, ho⟩, hb⟩
 replace HC := zH (HC.out.trans (hb.mono HC.out.size))
 clear hb ho k0 k1 k2
 obtain ⟨q, hq⟩ : ∃ q, (sgnV N way h (List.replicate z 0) (List.replicate z 0)).2 = q := ⟨_, rfl⟩
 rw [hq]
 have HQR := zH (show r = decide (q = 0) by rw [← HRR.out]; exact roomK_dec HZ.out HP.out hq)
 clear hq
 by_cases hq0 : q = 0
 ·subst hq0
  have HF := zH (show r = true by rw [HQR.out]; rfl)
  go_wp2
  go_ret
  exact ⟨by rw [HF.out]; rfl, HPW.out ▸ (HB.out.trans (HC.out.mono HB.out.size))⟩
 ·have t1 : (q == 0) = false := by simpa using hq0
  have HF := zH (show r = false by rw [HQR.out]; exact decide_eq_false hq0)
  clear hq0
  go_wp2
  go_ret
  exact ⟨by rw [HF.out]; rfl, HPW.out ▸ (HB.out.trans (HC.out.mono HB.out.size))⟩
set_option maxRecDepth 100000
open Classical in
noncomputable def signV (N E D : List Nat) (way h : Int) (d s : List Nat) : List UInt8 × Int := if PrivP N E D then (if (sgnV N way h d s).2 = 0 then raiseV N (sgnV N way h d s).1 D else ([], 101)) else ([], 100)
set_option maxHeartbeats 8000000 in
theorem sign_any (k : Value) (N E D : List Nat) (way h : Int) (ga : Option Addr) (gn gc : Nat) (d : List Nat) (sa : Option Addr) (sn sc : Nat) (s : List Nat) (w : World) (hkey : KeyAt w k N E D) (hk : Kinds w) (hd : Reads .u8 w ga gn gc d) (hs : Reads .u8 w sa sn sc s) (bd : Byt d) (bs : Byt s) :
  Calls Tryz.prog 11 #[k, .int .i64 way, .int .i64 h, .slice ga gn gc, .slice sa sn sc] w fun e w' => Oc.RetsOwn2 w.heap.size w' (signV N E D way h d s) e ∧ Below w.heap.size w w' := by
 obtain ⟨R, hR⟩ : ∃ R, signV N E D way h d s = R := ⟨_, rfl⟩
 have HR := zH hR
 rw [hR]
 have HBd := zH bd
 have HBs := zH bs
 clear bd bs hR
 obtain ⟨na, nn, nc, ea, en, ec, da, dn, dc, rfl, ⟨hN, bN, ln⟩, ⟨hE, bE, le⟩, hD, bD, ld⟩ := hkey
 have hkey : KeyAt w (.agg #[.slice na nn nc, .slice ea en ec, .slice da dn dc]) N E D := ⟨na, nn, nc, ea, en, ec, da, dn, dc, rfl, ⟨hN, bN, ln⟩, ⟨hE, bE, le⟩, hD, bD, ld⟩
 have HNL := zH hN.length
 have HSM := zH hkey.small
 have hba := (Below.refl w.heap.size w).alloc (Nat.le_refl _) (.cells #[.slice na nn nc, .slice ea en ec, .slice da dn dc] 24)
 have hq0 : (w.alloc (.cells #[.slice na nn nc, .slice ea en ec, .slice da dn dc] 24)).heap[w.heap.size]? = some (.cells #[.slice na nn nc, .slice ea en ec, .slice da dn dc] 24) := World.alloc_heap_new w _
 have HQ0 := zH hq0
 have HB := zH hba
 have HKey0 := zH hkey
 have HKs0 := zH hk
 have HD0 := zH hd
 have HS0 := zH hs
 clear hN bN hE bE hD bD hba hq0 hkey hk hd hs
 go_enter Tryz.func11, Tryz.ntmps11
 go_wp2_with fail
 have HZ0 := zH (World.size_alloc w (.cells #[.slice na nn nc, .slice ea en ec, .slice da dn dc] 24))
 generalize w.alloc (.cells #[.slice na nn nc, .slice ea en ec, .slice da dn dc] 24) = w0 at *
 obtain ⟨P, hP⟩ : ∃ P, w.heap.size = P := ⟨_, rfl⟩
 rw [hP] at HQ0 HZ0 ⊢
 have HPW := zH hP
 have HQ : Hid (∀ X, Below w0.heap.size w0 X → X.heap[P]? = some (.cells #[.slice na nn nc, .slice ea en ec, .slice da dn dc] 24)) := zH fun X hX => (hX.block P (Array.getElem?_eq_some_iff.1 HQ0.out).1).trans HQ0.out
 have HKey : Hid (∀ X, Below w0.heap.size w0 X → KeyAt X (.agg #[.slice na nn nc, .slice ea en ec, .slice da dn dc]) N E D) := zH fun X hX => (HKey0.out.below HB.out).below hX
 have HKs : Hid (∀ X, Below w0.heap.size w0 X → Kinds X) := zH fun X hX => (HKs0.out.below HB.out).below hX
 have HD := zH (fun (X : World) (hX : Below w0.heap.size w0 X) => (HD0.out.below HB.out).below hX)
 have HS := zH (fun (X : World) (hX : Below w0.heap.size w0 X) => (HS0.out.below HB.out).below hX)
 clear hP HQ0
 have HC := zH (Below.refl w0.heap.size w0)
 obtain ⟨k0, k1, k2⟩ := key_cells (HQ.out _ HC.out)
 go_wp2_with fail
 refine (kprivate _ N E D _ (HKey.out _ HC.out)).mono ?_
 rintro e w1 ⟨rfl, hb⟩
 replace HC := zH (HC.out.trans (hb.mono HC.out.size))
 clear hb k0 k1 k2
 by_cases hp : PrivP N E D
 rotate_left
 ·rw [show privE N E D = 100 by unfold privE; rw [if_neg hp]]
  have HF := zH (show R = ([], 100) by rw [← HR.out]; unfold signV; rw [if_neg hp])
  clear hp
  go_wp2
  go_ret2
  exact ⟨by rw [HF.out]; exact ⟨.slice none 0 0, rfl, World.ownsRow_nil _ _ _ _⟩, HPW.out ▸ (HB.out.trans (HC.out.mono HB.out.size))⟩
 rw [show privE N E D = 0 by unfold privE; rw [if_pos hp]]
 have HP := zH hp
 clear hp
 obtain ⟨k0, k1, k2⟩ := key_cells (HQ.out _ HC.out)
 go_wp2_with fail
 refine (signed_any _ N E D way h ga gn gc d sa sn sc s _ (HKey.out _ HC.out) (HKs.out _ HC.out) (HD.out _ HC.out) (HS.out _ HC.out) HBd.out HBs.out).mono ?_
 rintro e w2 ⟨⟨a2, n2, c2, rfl, ho⟩, hb⟩
 replace HC := zH (HC.out.trans (hb.mono HC.out.size))
 have HO := zH ho
 have HSB := zH (sgn_byt HP.out.1 HSM.out.1.1 (way := way) (h := h) HBd.out HBs.out)
 have HF := zH (show R = (if (sgnV N way h d s).2 = 0 then raiseV N (sgnV N way h d s).1 D else ([], 101)) by rw [← HR.out]; unfold signV; rw [if_pos HP.out])
 clear hb ho k0 k1 k2
 generalize sgnV N way h d s = Q at *
 obtain ⟨F, q⟩ := Q
 dsimp only at HO HSB HF ⊢
 by_cases hq0 : q = 0
 rotate_left
 ·have t1 : (q == 0) = false := by simpa using hq0
  have HG := zH (show R = ([], 101) by rw [HF.out, if_neg hq0])
  clear hq0
  go_wp2
  go_ret2
  exact ⟨by rw [HG.out]; exact ⟨.slice none 0 0, rfl, World.ownsRow_nil _ _ _ _⟩, HPW.out ▸ (HB.out.trans (HC.out.mono HB.out.size))⟩
 subst hq0
 have HG := zH (show R = rLower N E D F by rw [HF.out, if_pos rfl]; unfold rLower; rw [if_pos HP.out])
 have hn2 : n2 ≤ 700 := by have := HO.out.cap.1; have := HSB.out.2; omega
 obtain ⟨k0, k1, k2⟩ := key_cells (HQ.out _ HC.out)
 go_wp2_with fail
 refine (klower _ N E D a2 n2 c2 F _ (HKey.out _ HC.out) HO.out.reads HSB.out.1 (by omega)).mono ?_
 rintro e w3 ⟨hq, hb⟩
 rw [← HG.out] at hq
 obtain ⟨v3, rfl, hv⟩ := hq
 have HV := zH (hv.mono (show P ≤ _ by have h1 := HB.out.size; have h2 := HC.out.size; have h3 := HPW.out; omega))
 replace HC := zH (HC.out.trans (hb.mono HC.out.size))
 clear hb hv k0 k1 k2
 go_wp2
 go_ret2
 exact ⟨⟨v3, rfl, HPW.out ▸ HV.out⟩, HPW.out ▸ (HB.out.trans (HC.out.mono HB.out.size))⟩
def upZ (N E S : List Nat) : Nat := nV S ^ nV E % nV N
def VerK (N E : List Nat) (way h : Int) (d S : List Nat) : Prop := RoomK N E way h ∧ S.length = N.length ∧ nV S < nV N ∧ (way = 1 → sgnV N way h d [] = (beN N.length (upZ N E S), 0)) ∧ (way ≠ 1 → upZ N E S < 256 ^ lenP (bitsN (nV N) - 1) ∧ VerP h d (hSz h : Int) ((bitsN (nV N) - 1 : Nat) : Int) (beN (lenP (bitsN (nV N) - 1)) (upZ N E S)))
theorem pad_of_be {n m z : Nat} (hm : m ≤ 65536) : Oc.padR (u8s (beN n z)) (m : Int) = if z < 256 ^ m then (u8s (beN m z), 0) else ([], 10) := by
 have e : Oc.bareL (u8s (beN n z)) = u8s (natB 256 z).reverse := by rw [bare_u8s _ (beN_byt n z), beN_val]
 have hl : (u8s (natB 256 z).reverse).length = (natB 256 z).length := by simp [u8s]
 have hlt := natB_length (show 2 ≤ 256 by decide) z m
 by_cases h : z < 256 ^ m
 ·rw [if_pos h, Oc.padR_yes hm (by rw [e, hl]; exact hlt.2 h), e, hl]
  unfold beN u8s
  rw [List.map_append, List.map_replicate]
  rfl
 ·rw [if_neg h, Oc.padR_long hm (by rw [e, hl]; have := fun k => h (hlt.1 k); omega)]
theorem own_be {E B : Nat} {w : World} {v : Value} {x : List Nat} (h : Own8 E B w v (u8s x)) (hx : Byt x) : ∃ a n c, v = .slice a n c ∧ n = x.length ∧ OwnQ .u8 E B w (.slice a n c) x := own_slM (own_of8 h (u8s_num hx))
open Classical in
set_option maxHeartbeats 16000000 in
theorem kverify_any (k : Value) (N E D : List Nat) (way h : Int) (ga : Option Addr) (gn gc : Nat) (d : List Nat) (sa : Option Addr) (sn sc : Nat) (S : List Nat) (w : World) (hkey : KeyAt w k N E D) (hk : Kinds w) (hd : Reads .u8 w ga gn gc d) (hs : Reads .u8 w sa sn sc S) (bd : Byt d) (bs : Byt S) :
  Calls Tryz.prog 20 #[k, .int .i64 way, .int .i64 h, .slice ga gn gc, .slice sa sn sc] w fun e w' => e = .returned (.bool (decide (VerK N E way h d S))) ∧ Below w.heap.size w w' := by
 obtain ⟨r, hr⟩ : ∃ r, decide (VerK N E way h d S) = r := ⟨_, rfl⟩
 have HNO := zH (show ¬ VerK N E way h d S → r = false from fun k => by rw [← hr]; exact decide_eq_false k)
 have HYES := zH (show VerK N E way h d S → r = true from fun k => by rw [← hr]; exact decide_eq_true k)
 rw [hr]
 clear hr
 have HBd := zH bd
 have HBs := zH bs
 have HSL := zH hs.length
 have HDL := zH hd.length
 have hsm := hs.len_le
 unfold maxLen at hsm
 have HSX := zH hsm
 have sc1 := hs.le
 clear bd bs hsm
 obtain ⟨na, nn, nc, ea, en, ec, da, dn, dc, rfl, ⟨hN, bN, ln⟩, ⟨hE, bE, le⟩, hD, bD, ld⟩ := hkey
 have hkey : KeyAt w (.agg #[.slice na nn nc, .slice ea en ec, .slice da dn dc]) N E D := ⟨na, nn, nc, ea, en, ec, da, dn, dc, rfl, ⟨hN, bN, ln⟩, ⟨hE, bE, le⟩, hD, bD, ld⟩
 have HNL := zH hN.length
 have HSM := zH hkey.small
 have hba := (Below.refl w.heap.size w).alloc (Nat.le_refl _) (.cells #[.slice na nn nc, .slice ea en ec, .slice da dn dc] 24)
 have hq0 : (w.alloc (.cells #[.slice na nn nc, .slice ea en ec, .slice da dn dc] 24)).heap[w.heap.size]? = some (.cells #[.slice na nn nc, .slice ea en ec, .slice da dn dc] 24) := World.alloc_heap_new w _
 have HQ0 := zH hq0
 have HB := zH hba
 have HKey0 := zH hkey
 have HKs0 := zH hk
 have HD0 := zH hd
 have HS0 := zH hs
 clear hN bN hE bE hD bD hba hq0 hkey hk hd hs
 go_enter Tryz.func20, Tryz.ntmps20
 go_wp2_with fail
 have HZ0 := zH (World.size_alloc w (.cells #[.slice na nn nc, .slice ea en ec, .slice da dn dc] 24))
 generalize w.alloc (.cells #[.slice na nn nc, .slice ea en ec, .slice da dn dc] 24) = w0 at *
 obtain ⟨P, hP⟩ : ∃ P, w.heap.size = P := ⟨_, rfl⟩
 rw [hP] at HQ0 HZ0 ⊢
 have HPW := zH hP
 have HQ : Hid (∀ X, Below w0.heap.size w0 X → X.heap[P]? = some (.cells #[.slice na nn nc, .slice ea en ec, .slice da dn dc] 24)) := zH fun X hX => (hX.block P (Array.getElem?_eq_some_iff.1 HQ0.out).1).trans HQ0.out
 have HKey : Hid (∀ X, Below w0.heap.size w0 X → KeyAt X (.agg #[.slice na nn nc, .slice ea en ec, .slice da dn dc]) N E D) := zH fun X hX => (HKey0.out.below HB.out).below hX
 have HKs : Hid (∀ X, Below w0.heap.size w0 X → Kinds X) := zH fun X hX => (HKs0.out.below HB.out).below hX
 have HD := zH (fun (X : World) (hX : Below w0.heap.size w0 X) => (HD0.out.below HB.out).below hX)
 have HS := zH (fun (X : World) (hX : Below w0.heap.size w0 X) => (HS0.out.below HB.out).below hX)
 clear hP HQ0
 have HC := zH (Below.refl w0.heap.size w0)
 obtain ⟨k0, k1, k2⟩ := key_cells (HQ.out _ HC.out)
 go_wp2_with fail
 refine (kroom_any _ N E D way h _ (HKey.out _ HC.out) (HKs.out _ HC.out)).mono ?_
 rintro e w1 ⟨rfl, hb⟩
 replace HC := zH (HC.out.trans (hb.mono HC.out.size))
 clear hb k0 k1 k2
 by_cases hroom : RoomK N E way h
 rotate_left
 ·rw [decide_eq_false hroom]
  have HF := zH (HNO.out fun k => hroom k.1)
  clear hroom
  go_wp2
  go_ret
  exact ⟨by rw [HF.out]; rfl, HPW.out ▸ (HB.out.trans (HC.out.mono HB.out.size))⟩
 rw [decide_eq_true hroom]
 have HRM := zH hroom
 clear hroom
 obtain ⟨k0, k1, k2⟩ := key_cells (HQ.out _ HC.out)
 have sx := HSX.out
 by_cases hlen : sn = nn
 rotate_left
 ·have t1 : ((sn : Int) == (nn : Int)) = false := by simp; omega
  have t2 : (sn == nn) = false := by simpa using hlen
  have HF := zH (HNO.out fun k => hlen (by have h1 := k.2.1; rw [HSL.out, HNL.out] at h1; exact h1))
  clear hlen
  go_wp2
  go_ret
  exact ⟨by rw [HF.out]; rfl, HPW.out ▸ (HB.out.trans (HC.out.mono HB.out.size))⟩
 subst hlen
 have t1 : ((sn : Int) == (sn : Int)) = true := by simp
 have t2 : (sn == sn) = true := by simp
 go_wp2_with fail
 refine (kraise _ N E D sa sn sc S _ (HKey.out _ HC.out) (HS.out _ HC.out) HBs.out (by omega)).mono ?_
 rintro e w2 ⟨hq, hb⟩
 rw [show rRaise N E S = raiseV N S E by unfold rRaise; rw [if_pos HRM.out.1]] at hq
 by_cases hlt : nV S < nV N
 rotate_left
 ·rw [raise_no hlt] at hq
  obtain ⟨v, rfl, -⟩ := hq
  have HF := zH (HNO.out fun k => hlt k.2.2.1)
  replace HC := zH (HC.out.trans (hb.mono HC.out.size))
  clear hlt hb k0 k1 k2
  go_wp2
  go_ret
  exact ⟨by rw [HF.out]; rfl, HPW.out ▸ (HB.out.trans (HC.out.mono HB.out.size))⟩
 rw [raise_yes HSM.out.1.1 HSM.out.1.2 hlt] at hq
 obtain ⟨v, rfl, hv⟩ := hq
 have hZN : upZ N E S < nV N := Nat.mod_lt _ (by omega)
 have HZN := zH hZN
 have HLT := zH hlt
 obtain ⟨Z, hZ⟩ : ∃ Z, upZ N E S = Z := ⟨_, rfl⟩
 rw [show nV S ^ nV E % nV N = Z from hZ] at hv
 have HZ := zH hZ
 obtain ⟨ra, rn, rc, rfl, hrn, ho⟩ := own_be hv (beN_byt _ _)
 have HO := zH ho
 have hrl : rn ≤ 700 := by rw [hrn, beN_len (Nat.lt_trans (hZ ▸ hZN) (nV_lt HSM.out.1.1))]; exact HSM.out.1.2
 replace HC := zH (HC.out.trans (hb.mono HC.out.size))
 clear hlt hb hv ho hZ hZN hrn k0 k1 k2
 by_cases w1 : way = 1
 ·subst w1
  obtain ⟨k0, k1, k2⟩ := key_cells (HQ.out _ HC.out)
  go_wp2_with fail
  refine (signed_any _ N E D 1 h ga gn gc d none 0 0 [] _ (HKey.out _ HC.out) (HKs.out _ HC.out) (HD.out _ HC.out) (Reads.none _ _) HBd.out (fun x hx => by cases hx)).mono ?_
  rintro e w3 ⟨⟨a2, n2, c2, rfl, ho⟩, hb⟩
  have HSB := zH (sgn_byt HRM.out.1 HSM.out.1.1 (way := 1) (h := h) (s := []) HBd.out (fun x hx => by cases hx))
  have HW := zH ho
  replace HO := zH (HO.out.below hb)
  have HVK := zH (show VerK N E 1 h d S ↔ sgnV N 1 h d [] = (beN N.length Z, 0) from ⟨fun k => by rw [← HZ.out]; exact k.2.2.2.1 rfl, fun k => ⟨HRM.out, by rw [HSL.out, HNL.out], HLT.out, fun _ => by rw [HZ.out]; exact k, fun k => absurd rfl k⟩⟩)
  replace HC := zH (HC.out.trans (hb.mono HC.out.size))
  clear hb ho k0 k1 k2
  generalize sgnV N 1 h d [] = Q at *
  obtain ⟨F, q⟩ := Q
  dsimp only at HW HSB HVK ⊢
  by_cases hq0 : q = 0
  rotate_left
  ·have t3 : (q == 0) = false := by simpa using hq0
   have HF := zH (HNO.out fun k => hq0 (by have := HVK.out.1 k; exact congrArg Prod.snd this))
   clear hq0
   go_wp2
   go_ret
   exact ⟨by rw [HF.out]; rfl, HPW.out ▸ (HB.out.trans (HC.out.mono HB.out.size))⟩
  subst hq0
  go_wp2_with fail
  refine (equal_any _ _ _ _ _ _ _ _ _ HO.out.reads HW.out.reads (beN_byt _ _) HSB.out.1).mono ?_
  rintro e w4 ⟨rfl, rfl⟩
  by_cases hqe : beN N.length Z = F
  ·rw [decide_eq_true hqe]
   have HF := zH (HYES.out (HVK.out.2 (by rw [hqe])))
   clear hqe
   go_wp2
   go_ret
   exact ⟨by rw [HF.out]; rfl, HPW.out ▸ (HB.out.trans (HC.out.mono HB.out.size))⟩
  ·rw [decide_eq_false hqe]
   have HF := zH (HNO.out fun k => hqe (congrArg Prod.fst (HVK.out.1 k)).symm)
   clear hqe
   go_wp2
   go_ret
   exact ⟨by rw [HF.out]; rfl, HPW.out ▸ (HB.out.trans (HC.out.mono HB.out.size))⟩
 have t3 : (way == 1) = false := by simpa using w1
 have HW1 := zH w1
 obtain ⟨hnN, hb1, hb2⟩ := pub_bits HRM.out.1
 obtain ⟨t, ht⟩ : ∃ t, bitsN (nV N) = t + 1 := ⟨bitsN (nV N) - 1, by omega⟩
 obtain ⟨m, hm⟩ : ∃ m, lenP t = m := ⟨_, rfl⟩
 have HBB := zH (show bitsN (numV N) = t + 1 by rw [hnN]; exact ht)
 have HT := zH (show bitsN (nV N) - 1 = t by omega)
 have HM := zH hm
 have ht9 : t ≤ 4096 := by omega
 have hm9 : m ≤ 600 := by rw [← hm]; unfold lenP; omega
 have e1 : ((t + 1 : Nat) : Int) - 1 = (t : Int) := by omega
 have e1' : (t : Int) + 1 - 1 = (t : Int) := by omega
 have e2 : ((t : Int) + 7) / 8 = (m : Int) := by rw [← hm]; unfold lenP; omega
 have HVK := zH (show VerK N E way h d S ↔ Z < 256 ^ m ∧ VerP h d (hSz h : Int) (t : Int) (beN m Z) from by
  rw [← hm, ← HZ.out, show t = bitsN (nV N) - 1 by omega]
  exact ⟨fun k => k.2.2.2.2 w1, fun k => ⟨HRM.out, by rw [HSL.out, HNL.out], HLT.out, fun k => absurd k w1, fun _ => k⟩⟩)
 clear w1 hnN hb1 hb2 ht hm
 obtain ⟨k0, k1, k2⟩ := key_cells (HQ.out _ HC.out)
 go_wp2_with fail
 refine (kbits _ N E D _ (HKey.out _ HC.out)).mono ?_
 rintro e w3 ⟨rfl, hb⟩
 rw [HBB.out]
 replace HO := zH (HO.out.below hb)
 replace HC := zH (HC.out.trans (hb.mono HC.out.size))
 clear hb k0 k1 k2
 go_wp2_with fail
 refine (Oc.pad_any ra rn rc _ (m : Int) _ (HO.out.reads.bts (beN_byt _ _))).mono ?_
 rintro e w4 ⟨hq, hb⟩
 rw [pad_of_be (by omega)] at hq
 replace HC := zH (HC.out.trans (hb.mono HC.out.size))
 clear hb
 by_cases hzm : Z < 256 ^ m
 rotate_left
 ·rw [if_neg hzm] at hq
  obtain ⟨v, rfl, -⟩ := hq
  have HF := zH (HNO.out fun k => hzm (HVK.out.1 k).1)
  clear hzm
  go_wp2
  go_ret
  exact ⟨by rw [HF.out]; rfl, HPW.out ▸ (HB.out.trans (HC.out.mono HB.out.size))⟩
 rw [if_pos hzm] at hq
 obtain ⟨v, rfl, hv⟩ := hq
 obtain ⟨pa, pn, pc, rfl, hpn, ho⟩ := own_be hv (beN_byt _ _)
 have HP := zH ho
 have HZM := zH hzm
 obtain ⟨z, hz⟩ : ∃ z, hSz h = z := ⟨_, rfl⟩
 have HSz := zH hz
 have hz9 : z ≤ 64 := by rw [← hz]; exact hSz_le h
 clear hv ho hzm hpn hz
 go_wp2_with fail
 refine (msize_any h _ (HKs.out _ HC.out)).mono ?_
 rintro e w5 ⟨rfl, hb⟩
 rw [HSz.out]
 replace HP := zH (HP.out.below hb)
 replace HC := zH (HC.out.trans (hb.mono HC.out.size))
 clear hb
 go_wp2_with fail
 refine (verify_any h ga gn gc d pa pn pc (beN m Z) (z : Int) (t : Int) (by omega) (by omega) (by omega) (by omega) (by omega) _ (HKs.out _ HC.out) (HD.out _ HC.out) HBd.out HP.out.reads (beN_byt _ _)).mono ?_
 rintro e w6 ⟨⟨vb, rfl, hvb⟩, hb⟩
 replace HC := zH (HC.out.trans (hb.mono HC.out.size))
 clear hb
 have HF := zH (show r = vb from by
  cases vb with
  | true => exact HYES.out (HVK.out.2 ⟨HZM.out, by rw [HSz.out]; exact hvb.1 rfl⟩)
  | false => exact HNO.out fun k => by have h1 := (HVK.out.1 k).2; rw [HSz.out] at h1; cases hvb.2 h1)
 clear hvb
 go_wp2
 go_ret
 exact ⟨by rw [HF.out]; rfl, HPW.out ▸ (HB.out.trans (HC.out.mono HB.out.size))⟩
open Classical in
def HalvP (N E D : List Nat) : Prop := PrivP N E D ∧ (2 ^ nV E % nV N) ^ nV D % nV N = 2
open Classical in
set_option maxRecDepth 100000
theorem shl_s (x : Value) (X : Nat) (w : World) (hx : NatS w x X) (n : Int) (hn : n ≤ 9223372036854775807) : Calls Tryz.prog 92 #[x, .int .i64 n] w fun e w' => RetsQ2 .u32 71 w.heap.size w' (shlR X n) e ∧ Below w.heap.size w w' := by
 obtain ⟨a, l1, c, l, rfl, hr, hl, rfl, hm⟩ := hx
 exact rf.shl_any a l1 c l w hr hl hm n hn
theorem two_topN {j k : Nat} (hj : topN = 2 ^ j) (hk : k < j) : 2 ^ k < topN := by
 rw [hj]
 exact Nat.pow_lt_pow_right (by decide) hk
set_option maxHeartbeats 2000000 in
theorem lprime_any (n p : Nat) (z : Int) (hz : z = (n : Int)) (hp : 2 ^ n - 1 = p) (hn : n ≤ 4000) (w : World) :
  Calls Tryz.prog 51 #[.int .i64 z] w fun e w' => (∃ v, e = .returned v ∧ OwnQ .u32 71 w.heap.size w' v (nat32 p)) ∧ Below w.heap.size w w' := by
 subst hz
 obtain ⟨q, hq⟩ : ∃ q, 2 ^ n = q := ⟨_, rfl⟩
 have hqt : q < topN := by rw [← hq]; exact two_topN topN_two (by omega)
 have hq1 : 1 ≤ q := by rw [← hq]; exact Nat.pow_pos (by decide)
 have HQ := zH (show shlR 1 (n : Int) = (nat32 q, 0) by
  unfold shlR
  rw [if_neg (by omega), Nat.one_mul, Int.toNat_natCast, hq]
  unfold cutR32
  rw [if_pos hqt])
 have HP := zH (show q - 1 = p by rw [← hq]; exact hp)
 have HT := zH hqt
 have H1 := zH hq1
 clear hp hq hqt hq1
 have HB := zH ((Below.refl w.heap.size w).alloc (Nat.le_refl _) (.cells #[.int .u32 1] 71))
 have HO := zH (NatS.one w 71)
 go_enter Tryz.func51, Tryz.ntmps51
 go_wp2_with fail
 generalize w.alloc (.cells #[.int .u32 1] 71) = w0 at *
 generalize (Value.slice (some { block := w.heap.size, off := 0, spot := none }) 1 1) = vo at *
 refine (shl_s vo 1 w0 HO.out (n : Int) (by omega)).mono ?_
 rintro e w1 ⟨hq, hb⟩
 rw [HQ.out] at hq
 obtain ⟨v1, rfl, hv⟩ := hq
 have HV := zH (NatS.of hv HT.out)
 replace HB := zH (HB.out.trans (hb.mono HB.out.size))
 clear hv hb
 have HO1 := zH (NatS.one w1 71)
 have hb := (Below.refl w1.heap.size w1).alloc (Nat.le_refl _) (.cells #[.int .u32 1] 71)
 replace HV := zH (HV.out.below hb)
 replace HB := zH (HB.out.trans (hb.mono HB.out.size))
 clear hb
 go_wp2_with fail
 generalize w1.alloc (.cells #[.int .u32 1] 71) = w2 at *
 generalize (Value.slice (some { block := w1.heap.size, off := 0, spot := none }) 1 1) = vp at *
 refine (rf.sub_ok HV.out HO1.out HT.out H1.out).mono ?_
 rintro e w3 ⟨⟨v3, rfl, hv⟩, hb⟩
 rw [HP.out] at hv
 have HW := zH (hv.mono HB.out.size)
 replace HB := zH (HB.out.trans (hb.mono HB.out.size))
 clear hv hb
 go_wp2
 go_ret
 exact ⟨⟨v3, rfl, HW.out⟩, HB.out⟩
theorem four_cells {X : World} {P : Nat} {c0 c1 c2 c3 : Value} {t : TypeId} (h : X.heap[P]? = some (.cells #[c0, c1, c2, c3] t)) : X.cell? ⟨P, 0, none⟩ = some c0 ∧ X.cell? ⟨P, 1, none⟩ = some c1 ∧ X.cell? ⟨P, 2, none⟩ = some c2 ∧ X.cell? ⟨P, 3, none⟩ = some c3 := by
 simp [World.cell?, h]
def PQ (p q : Nat) : Prop := LL.Pr p ∧ LL.Pr q ∧ p ≠ q ∧ p * q < topM ∧ 2 ≤ p ∧ 2 ≤ q
theorem pq_of (x y : Nat) (hx : LL.Pr (2 ^ x - 1)) (hy : LL.Pr (2 ^ y - 1)) (h : x < y) (hs : x + y ≤ 4096) : PQ (2 ^ x - 1) (2 ^ y - 1) := by
 have h1 := hx.1
 have h2 := hy.1
 have hlt : 2 ^ x < 2 ^ y := Nat.pow_lt_pow_right (by decide) h
 refine ⟨hx, hy, by omega, ?_, by omega, by omega⟩
 have h3 : (2 ^ x - 1) * (2 ^ y - 1) < 2 ^ (x + y) := by
  rw [Nat.pow_add]
  exact Nat.mul_lt_mul'' (by omega) (by omega)
 exact two_top (topM_2 rfl) hs h3
theorem ord_zero {a b : Nat} (h : rf.ordR a b = 0) : a = b := by
 unfold rf.ordR at h
 split at h
 ·omega
 ·split at h <;> omega
theorem pq_top {p q : Nat} (h : PQ p q) : p < topN ∧ q < topN ∧ p * q < topN ∧ 1 ≤ p ∧ 1 ≤ q ∧ (p - 1) * (q - 1) < topM ∧ 0 < (p - 1) * (q - 1) := by
 obtain ⟨-, -, -, h1, h2, h3⟩ := h
 have a1 : p ≤ p * q := Nat.le_mul_of_pos_right _ (by omega)
 have a2 : q ≤ p * q := Nat.le_mul_of_pos_left _ (by omega)
 have a3 := topM_le
 have a4 : (p - 1) * (q - 1) ≤ p * q := Nat.mul_le_mul (by omega) (by omega)
 exact ⟨by omega, by omega, by omega, by omega, by omega, by omega, Nat.mul_pos (by omega) (by omega)⟩
set_option maxHeartbeats 16000000 in
theorem proper_any (k : Value) (N E D : List Nat) (w : World) (hkey : KeyAt w k N E D) :
  Calls Tryz.prog 17 #[k] w fun e w' => (∃ r : Int, e = .returned (.int .i64 r) ∧ (r = 0 ∨ r = 1 ∧ GoodK N E D)) ∧ Below w.heap.size w w' := by
 have HSN := zH (key_small hkey.small.1.1 hkey.small.1.2)
 have HSE := zH (key_small hkey.small.2.1.1 hkey.small.2.1.2)
 have HSD := zH (key_small hkey.small.2.2.1 hkey.small.2.2.2)
 obtain ⟨na, nn, nc, ea, en, ec, da, dn, dc, rfl, ⟨hN, bN, ln⟩, ⟨hE, bE, le⟩, hD, bD, ld⟩ := hkey
 have hkey : KeyAt w (.agg #[.slice na nn nc, .slice ea en ec, .slice da dn dc]) N E D := ⟨na, nn, nc, ea, en, ec, da, dn, dc, rfl, ⟨hN, bN, ln⟩, ⟨hE, bE, le⟩, hD, bD, ld⟩
 have HNL := zH hN.length
 have HSM := zH hkey.small
 have HRN := zH hN
 have HBN := zH bN
 have HRE := zH hE
 have HBE := zH bE
 have HRD := zH hD
 have HBD := zH bD
 have hba := (Below.refl w.heap.size w).alloc (Nat.le_refl _) (.cells #[.slice na nn nc, .slice ea en ec, .slice da dn dc] 24)
 have hq0 : (w.alloc (.cells #[.slice na nn nc, .slice ea en ec, .slice da dn dc] 24)).heap[w.heap.size]? = some (.cells #[.slice na nn nc, .slice ea en ec, .slice da dn dc] 24) := World.alloc_heap_new w _
 have HQ0 := zH hq0
 have HB := zH hba
 have HKey0 := zH hkey
 clear hN bN hE bE hD bD hba hq0 hkey
 go_enter Tryz.func17, Tryz.ntmps17
 go_wp2_with fail
 have HZ0 := zH (World.size_alloc w (.cells #[.slice na nn nc, .slice ea en ec, .slice da dn dc] 24))
 generalize w.alloc (.cells #[.slice na nn nc, .slice ea en ec, .slice da dn dc] 24) = w0 at *
 obtain ⟨P, hP⟩ : ∃ P, w.heap.size = P := ⟨_, rfl⟩
 rw [hP] at HQ0 HZ0 ⊢
 have HPW := zH hP
 have HQ : Hid (∀ X, Below w0.heap.size w0 X → X.heap[P]? = some (.cells #[.slice na nn nc, .slice ea en ec, .slice da dn dc] 24)) := zH fun X hX => (hX.block P (Array.getElem?_eq_some_iff.1 HQ0.out).1).trans HQ0.out
 have HKey : Hid (∀ X, Below w0.heap.size w0 X → KeyAt X (.agg #[.slice na nn nc, .slice ea en ec, .slice da dn dc]) N E D) := zH fun X hX => (HKey0.out.below HB.out).below hX
 clear hP HQ0
 have HC := zH (Below.refl w0.heap.size w0)
 obtain ⟨k0, k1, k2⟩ := key_cells (HQ.out _ HC.out)
 go_wp2_with fail
 refine (krprivate _ N E D _ (HKey.out _ HC.out)).mono ?_
 rintro e w1 ⟨rfl, hb⟩
 replace HC := zH (HC.out.trans (hb.mono HC.out.size))
 clear hb k0 k1 k2
 by_cases hp : PrivP N E D
 rotate_left
 ·rw [show privE N E D = 100 by unfold privE; rw [if_neg hp]]
  clear hp
  go_wp2
  go_ret
  exact ⟨⟨0, rfl, .inl rfl⟩, HPW.out ▸ (HB.out.trans (HC.out.mono HB.out.size))⟩
 rw [show privE N E D = 0 by unfold privE; rw [if_pos hp]]
 have HP := zH hp
 clear hp
 obtain ⟨k0, k1, k2⟩ := key_cells (HQ.out _ HC.out)
 go_wp2_with fail
 refine (rf.read_any na nn nc N _ ((HRN.out.below HB.out).below HC.out) HBN.out (by omega)).mono ?_
 rintro e w2 ⟨⟨v, rfl, hv⟩, hb⟩
 rw [cutR_small HSN.out] at hv ⊢
 obtain ⟨a2, n2, c2, rfl, hn2, ho⟩ := num_slice hv HSN.out
 have V2 := zH (NatS.of ho HSN.out)
 replace HC := zH (HC.out.trans (hb.mono HC.out.size))
 clear hb hv ho k0 k1 k2
 obtain ⟨k0, k1, k2⟩ := key_cells (HQ.out _ HC.out)
 go_wp2_with fail
 refine (rf.read_any ea en ec E _ ((HRE.out.below HB.out).below HC.out) HBE.out (by omega)).mono ?_
 rintro e w3 ⟨⟨v, rfl, hv⟩, hb⟩
 rw [cutR_small HSE.out] at hv ⊢
 obtain ⟨a3, n3, c3, rfl, hn3, ho⟩ := num_slice hv HSE.out
 have V3 := zH (NatS.of ho HSE.out)
 replace V2 := zH (V2.out.below hb)
 replace HC := zH (HC.out.trans (hb.mono HC.out.size))
 clear hb hv ho k0 k1 k2
 obtain ⟨k0, k1, k2⟩ := key_cells (HQ.out _ HC.out)
 go_wp2_with fail
 refine (rf.read_any da dn dc D _ ((HRD.out.below HB.out).below HC.out) HBD.out (by omega)).mono ?_
 rintro e w4 ⟨⟨v, rfl, hv⟩, hb⟩
 rw [cutR_small HSD.out] at hv ⊢
 obtain ⟨a4, n4, c4, rfl, hn4, ho⟩ := num_slice hv HSD.out
 have V4 := zH (NatS.of ho HSD.out)
 replace V2 := zH (V2.out.below hb)
 replace V3 := zH (V3.out.below hb)
 replace HC := zH (HC.out.trans (hb.mono HC.out.size))
 clear hb hv ho k0 k1 k2
 have hqc : (w4.alloc (.cells #[.int .i64 61, .int .i64 521, .int .i64 521, .int .i64 607] 68)).heap[w4.heap.size]? = some (.cells #[.int .i64 61, .int .i64 521, .int .i64 521, .int .i64 607] 68) := World.alloc_heap_new w4 _
 have hb := (Below.refl w4.heap.size w4).alloc (Nat.le_refl _) (.cells #[.int .i64 61, .int .i64 521, .int .i64 521, .int .i64 607] 68)
 have HQC0 := zH hqc
 replace V2 := zH (V2.out.below hb)
 replace V3 := zH (V3.out.below hb)
 replace V4 := zH (V4.out.below hb)
 replace HC := zH (HC.out.trans (hb.mono HC.out.size))
 clear hqc hb
 go_wp2_with fail
 generalize w4.alloc (.cells #[.int .i64 61, .int .i64 521, .int .i64 521, .int .i64 607] 68) = w5 at *
 obtain ⟨B6, hB6⟩ : ∃ x, w4.heap.size = x := ⟨_, rfl⟩
 rw [hB6] at HQC0
 simp only [hB6]
 clear hB6
 have HQC : Hid (∀ X, Below w5.heap.size w5 X → X.heap[B6]? = some (.cells #[.int .i64 61, .int .i64 521, .int .i64 521, .int .i64 607] 68)) := zH fun X hX => (hX.block _ (Array.getElem?_eq_some_iff.1 HQC0.out).1).trans HQC0.out
 clear HQC0
 go_loopw [48] (fun i wr => ∃ k : Nat, i = .int .i64 (k : Int) ∧ k ≤ 2 ∧ Hid (Below w5.heap.size w5 wr)) (fun i _ => 2 - (intOf i).toNat)
 case atStart => exact ⟨0, rfl, Nat.zero_le _, Below.refl _ _⟩
 case round =>
  obtain ⟨k, rfl, hk, hI⟩ := hrel
  obtain ⟨q0, q1, q2, q3⟩ := four_cells (HQC.out _ hI.out)
  obtain rfl | rfl | rfl : k = 2 ∨ k = 0 ∨ k = 1 := by omega
  ·go_wp2
   go_ret
   exact ⟨⟨0, rfl, .inl rfl⟩, HPW.out ▸ (HB.out.trans ((HC.out.trans (hI.out.mono HC.out.size)).mono HB.out.size))⟩
  ·go_wp2_with fail
   obtain ⟨p, hp⟩ : ∃ p, 2 ^ 61 - 1 = p := ⟨_, rfl⟩
   obtain ⟨q, hq⟩ : ∃ q, 2 ^ 521 - 1 = q := ⟨_, rfl⟩
   have hpq := pq_of 61 521 LL.pr61 LL.pr521 (by decide) (by decide)
   rw [hp, hq] at hpq
   have HXP := zH hp
   have HYQ := zH hq
   have HPQ := zH hpq
   have HPT := zH (pq_top hpq)
   clear hp hq hpq
   have hql : (wr.alloc (.cells #[.int .i64 61, .int .i64 521] 68)).heap[wr.heap.size]? = some (.cells #[.int .i64 61, .int .i64 521] 68) := World.alloc_heap_new wr _
   have HL0 := zH hql
   have hb := (Below.refl wr.heap.size wr).alloc (Nat.le_refl _) (.cells #[.int .i64 61, .int .i64 521] 68)
   have hI2 := zH (hI.out.trans (hb.mono hI.out.size))
   clear hql hb q0 q1 q2 q3 hI
   generalize wr.alloc (.cells #[.int .i64 61, .int .i64 521] 68) = w6 at *
   obtain ⟨L, hL⟩ : ∃ x, wr.heap.size = x := ⟨_, rfl⟩
   rw [hL] at HL0
   simp only [hL]
   clear hL
   have HL : Hid (∀ X, Below w6.heap.size w6 X → X.heap[L]? = some (.cells #[.int .i64 61, .int .i64 521] 68)) := zH fun X hX => (hX.block _ (Array.getElem?_eq_some_iff.1 HL0.out).1).trans HL0.out
   have V2 := zH (V2.out.below hI2.out)
   have V3 := zH (V3.out.below hI2.out)
   have V4 := zH (V4.out.below hI2.out)
   clear HL0
   have HX := zH (Below.refl w6.heap.size w6)
   refine wp_region_held_drew (S := fun X => X.cell? ⟨L, 0, none⟩ = some (.int .i64 61) ∧ X.cell? ⟨L, 1, none⟩ = some (.int .i64 521)) (by kernel_rfl) (half_cells (HL.out _ HX.out.drew)) (fun hHeld => ?_)
   have hb := (Below.refl w6.heap.size w6).drew
   replace V2 := zH (V2.out.below hb); replace V3 := zH (V3.out.below hb); replace V4 := zH (V4.out.below hb)
   replace HX := zH HX.out.drew
   clear hb
   generalize w6.drew = w7 at *
   refine' wpAnyH_take (i := 0) rfl (by kernel_rfl) (by kernel_rfl) (by kernel_rfl) (fun _ _ _ h => h) (Or.inl ⟨?_, ?_⟩) (by assumption) ?_
   rotate_left
   all_goals (try simp only [zq4, zq5, zq6])
   ·rfl
   ·intro W hSw; (try dsimp only at hSw); go_simp; (try with_reducible rfl)
   try simp only [Act.put, zq1, zq2, zq3]
   refine' wpAnyH_take (i := 1) rfl (by kernel_rfl) (by kernel_rfl) (by kernel_rfl) (fun _ _ _ h => h) (Or.inl ⟨?_, ?_⟩) (by assumption) ?_
   rotate_left
   all_goals (try simp only [zq4, zq5, zq6])
   ·rfl
   ·intro W hSw; (try dsimp only at hSw); go_simp; (try with_reducible rfl)
   try simp only [Act.put, zq1, zq2, zq3]
   refine' wpAnyH_take (i := 3) rfl (by kernel_rfl) (by kernel_rfl) (by kernel_rfl) (fun _ _ _ h => h) (Or.inl ⟨?_, ?_⟩) (by assumption) ?_
   rotate_left
   all_goals (try simp only [zq4, zq5, zq6])
   ·rfl
   ·intro W hSw; (try dsimp only at hSw); go_simp; (try with_reducible rfl)
   try simp only [Act.put, zq1, zq2, zq3]
   refine' wpAnyH_take (i := 4) rfl (by kernel_rfl) (by kernel_rfl) (by kernel_rfl) (fun _ _ _ h => h) (Or.inl ⟨?_, ?_⟩) (by assumption) ?_
   rotate_left
   all_goals (try simp only [zq4, zq5, zq6])
   ·rfl
   ·intro W hSw; (try dsimp only at hSw); go_simp; (try with_reducible rfl)
   try simp only [Act.put, zq1, zq2, zq3]
   refine wpAnyH_ready (rs := [2]) (by kernel_rfl) (by simp) ?_
   refine AllReadyH.cons (o := _) rfl (fun K hK => ?_) AllReadyH.nil
   try simp only [zq4, zq5, zq6]
   go_simp
   refine (lprime_any 61 p _ rfl HXP.out (by decide) _).mono ?_; rintro e w8 ⟨⟨va, rfl, hv⟩, hb⟩; have VA := zH (NatS.of hv HPT.out.1); replace V2 := zH (V2.out.below hb); replace V3 := zH (V3.out.below hb); replace V4 := zH (V4.out.below hb); replace HX := zH (HX.out.trans (hb.mono HX.out.size)); clear hv hb
   go_wp2_with fail
   refine hK.out _ _ (half_cells (HL.out _ HX.out)) (fun hHeld => ?_)
   clear hK K
   try simp only [Act.put, zq1, zq2, zq3]
   refine wpAnyH_ready (rs := [5]) (by kernel_rfl) (by simp) ?_
   refine AllReadyH.cons (o := _) rfl (fun K hK => ?_) AllReadyH.nil
   try simp only [zq4, zq5, zq6]
   go_simp
   refine (lprime_any 521 q _ rfl HYQ.out (by decide) _).mono ?_; rintro e w9 ⟨⟨vb, rfl, hv⟩, hb⟩; have VB := zH (NatS.of hv HPT.out.2.1); replace V2 := zH (V2.out.below hb); replace V3 := zH (V3.out.below hb); replace V4 := zH (V4.out.below hb); replace VA := zH (VA.out.below hb); replace HX := zH (HX.out.trans (hb.mono HX.out.size)); clear hv hb
   go_wp2_with fail
   refine hK.out _ _ (half_cells (HL.out _ HX.out)) (fun hHeld => ?_)
   clear hK K
   try simp only [Act.put, zq1, zq2, zq3]
   refine' wpAnyH_take (i := 6) rfl (by kernel_rfl) (by kernel_rfl) (by kernel_rfl) (fun _ _ _ h => h) (Or.inl ⟨?_, ?_⟩) (by assumption) ?_
   rotate_left
   all_goals (try simp only [zq4, zq5, zq6])
   ·rfl
   ·intro W hSw; (try dsimp only at hSw); go_simp; (try with_reducible rfl)
   try simp only [Act.put, zq1, zq2, zq3]
   refine' wpAnyH_take (i := 7) rfl (by kernel_rfl) (by kernel_rfl) (by kernel_rfl) (fun _ _ _ h => h) (Or.inl ⟨?_, ?_⟩) (by assumption) ?_
   rotate_left
   all_goals (try simp only [zq4, zq5, zq6])
   ·rfl
   ·intro W hSw; (try dsimp only at hSw); go_simp; (try with_reducible rfl)
   try simp only [Act.put, zq1, zq2, zq3]
   refine wpAnyH_done (by kernel_rfl) ?_ _
   simp only [Exit.then]
   clear hHeld
   go_wp2_with fail
   refine (rf.mul_ok VA.out VB.out HPT.out.1 HPT.out.2.1 HPT.out.2.2.1).mono ?_
   rintro e m1 ⟨⟨vm, rfl, hv⟩, hb⟩
   have VM := zH (NatS.of hv HPT.out.2.2.1)
   replace VA := zH (VA.out.below hb); replace VB := zH (VB.out.below hb); replace V2 := zH (V2.out.below hb); replace V3 := zH (V3.out.below hb); replace V4 := zH (V4.out.below hb)
   replace HX := zH (HX.out.trans (hb.mono HX.out.size))
   clear hv hb
   obtain ⟨o, ho⟩ : ∃ o, o = rf.ordR (p * q) (nV N) := ⟨_, rfl⟩
   have HOo := zH ho
   clear ho
   go_wp2_with fail
   refine (rf.cmp_s VM.out V2.out o HOo.out).mono ?_
   rintro e m2 ⟨rfl, hb⟩
   replace VA := zH (VA.out.below hb); replace VB := zH (VB.out.below hb); replace V2 := zH (V2.out.below hb); replace V3 := zH (V3.out.below hb); replace V4 := zH (V4.out.below hb)
   replace HX := zH (HX.out.trans (hb.mono HX.out.size))
   clear hb VM
   by_cases ho0 : o = 0
   rotate_left
   ·have t1 : (o == 0) = false := by simpa using ho0
    clear ho0
    go_wp2
    go_roundw
    case rel => exact ⟨1, by go_num, by omega, hI2.out.trans (HX.out.mono hI2.out.size)⟩
    case measure => simp [intOf]
   have HEQ := zH (ord_zero (by rw [← HOo.out]; exact ho0) : p * q = nV N)
   subst ho0
   have HO := zH (NatS.one m2 71)
   have hb := (Below.refl m2.heap.size m2).alloc (Nat.le_refl _) (.cells #[.int .u32 1] 71)
   replace VA := zH (VA.out.below hb); replace VB := zH (VB.out.below hb); replace V3 := zH (V3.out.below hb); replace V4 := zH (V4.out.below hb)
   replace HX := zH (HX.out.trans (hb.mono HX.out.size))
   clear hb
   go_wp2_with fail
   generalize m2.alloc (.cells #[.int .u32 1] 71) = m3 at *
   generalize (Value.slice (some { block := m2.heap.size, off := 0, spot := none }) 1 1) = vo at *
   refine (rf.sub_ok VA.out HO.out HPT.out.1 HPT.out.2.2.2.1).mono ?_
   rintro e m4 ⟨⟨va1, rfl, hv⟩, hb⟩
   have VA1 := zH (NatS.of hv (Nat.lt_of_le_of_lt (Nat.sub_le _ _) HPT.out.1))
   replace VB := zH (VB.out.below hb); replace V3 := zH (V3.out.below hb); replace V4 := zH (V4.out.below hb)
   replace HX := zH (HX.out.trans (hb.mono HX.out.size))
   clear hv hb HO VA
   go_wp2_with fail
   have HO := zH (NatS.one m4 71)
   have hb := (Below.refl m4.heap.size m4).alloc (Nat.le_refl _) (.cells #[.int .u32 1] 71)
   replace VA1 := zH (VA1.out.below hb); replace VB := zH (VB.out.below hb); replace V3 := zH (V3.out.below hb); replace V4 := zH (V4.out.below hb)
   replace HX := zH (HX.out.trans (hb.mono HX.out.size))
   clear hb
   go_wp2_with fail
   generalize m4.alloc (.cells #[.int .u32 1] 71) = m5 at *
   generalize (Value.slice (some { block := m4.heap.size, off := 0, spot := none }) 1 1) = vo at *
   refine (rf.sub_ok VB.out HO.out HPT.out.2.1 HPT.out.2.2.2.2.1).mono ?_
   rintro e m6 ⟨⟨vb1, rfl, hv⟩, hb⟩
   have VB1 := zH (NatS.of hv (Nat.lt_of_le_of_lt (Nat.sub_le _ _) HPT.out.2.1))
   replace VA1 := zH (VA1.out.below hb); replace V3 := zH (V3.out.below hb); replace V4 := zH (V4.out.below hb)
   replace HX := zH (HX.out.trans (hb.mono HX.out.size))
   clear hv hb HO VB
   go_wp2_with fail
   refine (rf.mul_ok VA1.out VB1.out (Nat.lt_of_le_of_lt (Nat.sub_le _ _) HPT.out.1) (Nat.lt_of_le_of_lt (Nat.sub_le _ _) HPT.out.2.1) (Nat.lt_of_lt_of_le HPT.out.2.2.2.2.2.1 topM_le)).mono ?_
   rintro e m7 ⟨⟨vf, rfl, hv⟩, hb⟩
   have VF := zH (NatS.of hv (Nat.lt_of_lt_of_le HPT.out.2.2.2.2.2.1 topM_le))
   replace V3 := zH (V3.out.below hb); replace V4 := zH (V4.out.below hb)
   replace HX := zH (HX.out.trans (hb.mono HX.out.size))
   clear hv hb VA1 VB1
   go_wp2_with fail
   refine (rf.mulMod_s _ _ _ _ _ _ _ V3.out V4.out VF.out).mono ?_
   rintro e m8 ⟨hq, hb⟩
   rw [mulModR_yes HPT.out.2.2.2.2.2.1 HSE.out HSD.out HPT.out.2.2.2.2.2.2] at hq
   obtain ⟨vr, rfl, hv⟩ := hq
   have VR := zH (NatS.of hv (Nat.lt_trans (Nat.mod_lt _ HPT.out.2.2.2.2.2.2) (Nat.lt_of_lt_of_le HPT.out.2.2.2.2.2.1 topM_le)))
   replace HX := zH (HX.out.trans (hb.mono HX.out.size))
   clear hv hb VF V3 V4
   go_wp2_with fail
   have HO := zH (NatS.one m8 71)
   have hb := (Below.refl m8.heap.size m8).alloc (Nat.le_refl _) (.cells #[.int .u32 1] 71)
   replace VR := zH (VR.out.below hb)
   replace HX := zH (HX.out.trans (hb.mono HX.out.size))
   clear hb
   go_wp2_with fail
   generalize m8.alloc (.cells #[.int .u32 1] 71) = m9 at *
   generalize (Value.slice (some { block := m8.heap.size, off := 0, spot := none }) 1 1) = vo at *
   obtain ⟨o2, ho2⟩ : ∃ o2, o2 = rf.ordR (valB 256 E.reverse * valB 256 D.reverse % ((p - 1) * (q - 1))) 1 := ⟨_, rfl⟩
   have HO2 := zH ho2
   clear ho2
   refine (rf.cmp_s VR.out HO.out o2 HO2.out).mono ?_
   rintro e m10 ⟨rfl, hb⟩
   replace HX := zH (HX.out.trans (hb.mono HX.out.size))
   clear hb VR HO
   by_cases ho0 : o2 = 0
   ·have HG := zH (show GoodK N E D from ⟨HP.out, p, q, HPQ.out.1, HPQ.out.2.1, HPQ.out.2.2.1, HEQ.out.symm, ord_zero (by rw [← HO2.out]; exact ho0)⟩)
    subst ho0
    go_wp2
    go_ret
    exact ⟨⟨1, rfl, .inr ⟨rfl, HG.out⟩⟩, HPW.out ▸ (HB.out.trans ((HC.out.trans ((hI2.out.trans (HX.out.mono hI2.out.size)).mono HC.out.size)).mono HB.out.size))⟩
   ·have t1 : (o2 == 0) = false := by simpa using ho0
    clear ho0
    go_wp2
    go_roundw
    case rel => exact ⟨1, by go_num, by omega, hI2.out.trans (HX.out.mono hI2.out.size)⟩
    case measure => simp [intOf]
  ·go_wp2_with fail
   obtain ⟨p, hp⟩ : ∃ p, 2 ^ 521 - 1 = p := ⟨_, rfl⟩
   obtain ⟨q, hq⟩ : ∃ q, 2 ^ 607 - 1 = q := ⟨_, rfl⟩
   have hpq := pq_of 521 607 LL.pr521 LL.pr607 (by decide) (by decide)
   rw [hp, hq] at hpq
   have HXP := zH hp
   have HYQ := zH hq
   have HPQ := zH hpq
   have HPT := zH (pq_top hpq)
   clear hp hq hpq
   have hql : (wr.alloc (.cells #[.int .i64 521, .int .i64 607] 68)).heap[wr.heap.size]? = some (.cells #[.int .i64 521, .int .i64 607] 68) := World.alloc_heap_new wr _
   have HL0 := zH hql
   have hb := (Below.refl wr.heap.size wr).alloc (Nat.le_refl _) (.cells #[.int .i64 521, .int .i64 607] 68)
   have hI2 := zH (hI.out.trans (hb.mono hI.out.size))
   clear hql hb q0 q1 q2 q3 hI
   generalize wr.alloc (.cells #[.int .i64 521, .int .i64 607] 68) = w6 at *
   obtain ⟨L, hL⟩ : ∃ x, wr.heap.size = x := ⟨_, rfl⟩
   rw [hL] at HL0
   simp only [hL]
   clear hL
   have HL : Hid (∀ X, Below w6.heap.size w6 X → X.heap[L]? = some (.cells #[.int .i64 521, .int .i64 607] 68)) := zH fun X hX => (hX.block _ (Array.getElem?_eq_some_iff.1 HL0.out).1).trans HL0.out
   have V2 := zH (V2.out.below hI2.out)
   have V3 := zH (V3.out.below hI2.out)
   have V4 := zH (V4.out.below hI2.out)
   clear HL0
   have HX := zH (Below.refl w6.heap.size w6)
   refine wp_region_held_drew (S := fun X => X.cell? ⟨L, 0, none⟩ = some (.int .i64 521) ∧ X.cell? ⟨L, 1, none⟩ = some (.int .i64 607)) (by kernel_rfl) (half_cells (HL.out _ HX.out.drew)) (fun hHeld => ?_)
   have hb := (Below.refl w6.heap.size w6).drew
   replace V2 := zH (V2.out.below hb); replace V3 := zH (V3.out.below hb); replace V4 := zH (V4.out.below hb)
   replace HX := zH HX.out.drew
   clear hb
   generalize w6.drew = w7 at *
   refine' wpAnyH_take (i := 0) rfl (by kernel_rfl) (by kernel_rfl) (by kernel_rfl) (fun _ _ _ h => h) (Or.inl ⟨?_, ?_⟩) (by assumption) ?_
   rotate_left
   all_goals (try simp only [zq4, zq5, zq6])
   ·rfl
   ·intro W hSw; (try dsimp only at hSw); go_simp; (try with_reducible rfl)
   try simp only [Act.put, zq1, zq2, zq3]
   refine' wpAnyH_take (i := 1) rfl (by kernel_rfl) (by kernel_rfl) (by kernel_rfl) (fun _ _ _ h => h) (Or.inl ⟨?_, ?_⟩) (by assumption) ?_
   rotate_left
   all_goals (try simp only [zq4, zq5, zq6])
   ·rfl
   ·intro W hSw; (try dsimp only at hSw); go_simp; (try with_reducible rfl)
   try simp only [Act.put, zq1, zq2, zq3]
   refine' wpAnyH_take (i := 3) rfl (by kernel_rfl) (by kernel_rfl) (by kernel_rfl) (fun _ _ _ h => h) (Or.inl ⟨?_, ?_⟩) (by assumption) ?_
   rotate_left
   all_goals (try simp only [zq4, zq5, zq6])
   ·rfl
   ·intro W hSw; (try dsimp only at hSw); go_simp; (try with_reducible rfl)
   try simp only [Act.put, zq1, zq2, zq3]
   refine' wpAnyH_take (i := 4) rfl (by kernel_rfl) (by kernel_rfl) (by kernel_rfl) (fun _ _ _ h => h) (Or.inl ⟨?_, ?_⟩) (by assumption) ?_
   rotate_left
   all_goals (try simp only [zq4, zq5, zq6])
   ·rfl
   ·intro W hSw; (try dsimp only at hSw); go_simp; (try with_reducible rfl)
   try simp only [Act.put, zq1, zq2, zq3]
   refine wpAnyH_ready (rs := [2]) (by kernel_rfl) (by simp) ?_
   refine AllReadyH.cons (o := _) rfl (fun K hK => ?_) AllReadyH.nil
   try simp only [zq4, zq5, zq6]
   go_simp
   refine (lprime_any 521 p _ rfl HXP.out (by decide) _).mono ?_; rintro e w8 ⟨⟨va, rfl, hv⟩, hb⟩; have VA := zH (NatS.of hv HPT.out.1); replace V2 := zH (V2.out.below hb); replace V3 := zH (V3.out.below hb); replace V4 := zH (V4.out.below hb); replace HX := zH (HX.out.trans (hb.mono HX.out.size)); clear hv hb
   go_wp2_with fail
   refine hK.out _ _ (half_cells (HL.out _ HX.out)) (fun hHeld => ?_)
   clear hK K
   try simp only [Act.put, zq1, zq2, zq3]
   refine wpAnyH_ready (rs := [5]) (by kernel_rfl) (by simp) ?_
   refine AllReadyH.cons (o := _) rfl (fun K hK => ?_) AllReadyH.nil
   try simp only [zq4, zq5, zq6]
   go_simp
   refine (lprime_any 607 q _ rfl HYQ.out (by decide) _).mono ?_; rintro e w9 ⟨⟨vb, rfl, hv⟩, hb⟩; have VB := zH (NatS.of hv HPT.out.2.1); replace V2 := zH (V2.out.below hb); replace V3 := zH (V3.out.below hb); replace V4 := zH (V4.out.below hb); replace VA := zH (VA.out.below hb); replace HX := zH (HX.out.trans (hb.mono HX.out.size)); clear hv hb
   go_wp2_with fail
   refine hK.out _ _ (half_cells (HL.out _ HX.out)) (fun hHeld => ?_)
   clear hK K
   try simp only [Act.put, zq1, zq2, zq3]
   refine' wpAnyH_take (i := 6) rfl (by kernel_rfl) (by kernel_rfl) (by kernel_rfl) (fun _ _ _ h => h) (Or.inl ⟨?_, ?_⟩) (by assumption) ?_
   rotate_left
   all_goals (try simp only [zq4, zq5, zq6])
   ·rfl
   ·intro W hSw; (try dsimp only at hSw); go_simp; (try with_reducible rfl)
   try simp only [Act.put, zq1, zq2, zq3]
   refine' wpAnyH_take (i := 7) rfl (by kernel_rfl) (by kernel_rfl) (by kernel_rfl) (fun _ _ _ h => h) (Or.inl ⟨?_, ?_⟩) (by assumption) ?_
   rotate_left
   all_goals (try simp only [zq4, zq5, zq6])
   ·rfl
   ·intro W hSw; (try dsimp only at hSw); go_simp; (try with_reducible rfl)
   try simp only [Act.put, zq1, zq2, zq3]
   refine wpAnyH_done (by kernel_rfl) ?_ _
   simp only [Exit.then]
   clear hHeld
   go_wp2_with fail
   refine (rf.mul_ok VA.out VB.out HPT.out.1 HPT.out.2.1 HPT.out.2.2.1).mono ?_
   rintro e m1 ⟨⟨vm, rfl, hv⟩, hb⟩
   have VM := zH (NatS.of hv HPT.out.2.2.1)
   replace VA := zH (VA.out.below hb); replace VB := zH (VB.out.below hb); replace V2 := zH (V2.out.below hb); replace V3 := zH (V3.out.below hb); replace V4 := zH (V4.out.below hb)
   replace HX := zH (HX.out.trans (hb.mono HX.out.size))
   clear hv hb
   obtain ⟨o, ho⟩ : ∃ o, o = rf.ordR (p * q) (nV N) := ⟨_, rfl⟩
   have HOo := zH ho
   clear ho
   go_wp2_with fail
   refine (rf.cmp_s VM.out V2.out o HOo.out).mono ?_
   rintro e m2 ⟨rfl, hb⟩
   replace VA := zH (VA.out.below hb); replace VB := zH (VB.out.below hb); replace V2 := zH (V2.out.below hb); replace V3 := zH (V3.out.below hb); replace V4 := zH (V4.out.below hb)
   replace HX := zH (HX.out.trans (hb.mono HX.out.size))
   clear hb VM
   by_cases ho0 : o = 0
   rotate_left
   ·have t1 : (o == 0) = false := by simpa using ho0
    clear ho0
    go_wp2
    go_roundw
    case rel => exact ⟨2, by go_num, by omega, hI2.out.trans (HX.out.mono hI2.out.size)⟩
    case measure => simp [intOf]
   have HEQ := zH (ord_zero (by rw [← HOo.out]; exact ho0) : p * q = nV N)
   subst ho0
   have HO := zH (NatS.one m2 71)
   have hb := (Below.refl m2.heap.size m2).alloc (Nat.le_refl _) (.cells #[.int .u32 1] 71)
   replace VA := zH (VA.out.below hb); replace VB := zH (VB.out.below hb); replace V3 := zH (V3.out.below hb); replace V4 := zH (V4.out.below hb)
   replace HX := zH (HX.out.trans (hb.mono HX.out.size))
   clear hb
   go_wp2_with fail
   generalize m2.alloc (.cells #[.int .u32 1] 71) = m3 at *
   generalize (Value.slice (some { block := m2.heap.size, off := 0, spot := none }) 1 1) = vo at *
   refine (rf.sub_ok VA.out HO.out HPT.out.1 HPT.out.2.2.2.1).mono ?_
   rintro e m4 ⟨⟨va1, rfl, hv⟩, hb⟩
   have VA1 := zH (NatS.of hv (Nat.lt_of_le_of_lt (Nat.sub_le _ _) HPT.out.1))
   replace VB := zH (VB.out.below hb); replace V3 := zH (V3.out.below hb); replace V4 := zH (V4.out.below hb)
   replace HX := zH (HX.out.trans (hb.mono HX.out.size))
   clear hv hb HO VA
   go_wp2_with fail
   have HO := zH (NatS.one m4 71)
   have hb := (Below.refl m4.heap.size m4).alloc (Nat.le_refl _) (.cells #[.int .u32 1] 71)
   replace VA1 := zH (VA1.out.below hb); replace VB := zH (VB.out.below hb); replace V3 := zH (V3.out.below hb); replace V4 := zH (V4.out.below hb)
   replace HX := zH (HX.out.trans (hb.mono HX.out.size))
   clear hb
   go_wp2_with fail
   generalize m4.alloc (.cells #[.int .u32 1] 71) = m5 at *
   generalize (Value.slice (some { block := m4.heap.size, off := 0, spot := none }) 1 1) = vo at *
   refine (rf.sub_ok VB.out HO.out HPT.out.2.1 HPT.out.2.2.2.2.1).mono ?_
   rintro e m6 ⟨⟨vb1, rfl, hv⟩, hb⟩
   have VB1 := zH (NatS.of hv (Nat.lt_of_le_of_lt (Nat.sub_le _ _) HPT.out.2.1))
   replace VA1 := zH (VA1.out.below hb); replace V3 := zH (V3.out.below hb); replace V4 := zH (V4.out.below hb)
   replace HX := zH (HX.out.trans (hb.mono HX.out.size))
   clear hv hb HO VB
   go_wp2_with fail
   refine (rf.mul_ok VA1.out VB1.out (Nat.lt_of_le_of_lt (Nat.sub_le _ _) HPT.out.1) (Nat.lt_of_le_of_lt (Nat.sub_le _ _) HPT.out.2.1) (Nat.lt_of_lt_of_le HPT.out.2.2.2.2.2.1 topM_le)).mono ?_
   rintro e m7 ⟨⟨vf, rfl, hv⟩, hb⟩
   have VF := zH (NatS.of hv (Nat.lt_of_lt_of_le HPT.out.2.2.2.2.2.1 topM_le))
   replace V3 := zH (V3.out.below hb); replace V4 := zH (V4.out.below hb)
   replace HX := zH (HX.out.trans (hb.mono HX.out.size))
   clear hv hb VA1 VB1
   go_wp2_with fail
   refine (rf.mulMod_s _ _ _ _ _ _ _ V3.out V4.out VF.out).mono ?_
   rintro e m8 ⟨hq, hb⟩
   rw [mulModR_yes HPT.out.2.2.2.2.2.1 HSE.out HSD.out HPT.out.2.2.2.2.2.2] at hq
   obtain ⟨vr, rfl, hv⟩ := hq
   have VR := zH (NatS.of hv (Nat.lt_trans (Nat.mod_lt _ HPT.out.2.2.2.2.2.2) (Nat.lt_of_lt_of_le HPT.out.2.2.2.2.2.1 topM_le)))
   replace HX := zH (HX.out.trans (hb.mono HX.out.size))
   clear hv hb VF V3 V4
   go_wp2_with fail
   have HO := zH (NatS.one m8 71)
   have hb := (Below.refl m8.heap.size m8).alloc (Nat.le_refl _) (.cells #[.int .u32 1] 71)
   replace VR := zH (VR.out.below hb)
   replace HX := zH (HX.out.trans (hb.mono HX.out.size))
   clear hb
   go_wp2_with fail
   generalize m8.alloc (.cells #[.int .u32 1] 71) = m9 at *
   generalize (Value.slice (some { block := m8.heap.size, off := 0, spot := none }) 1 1) = vo at *
   obtain ⟨o2, ho2⟩ : ∃ o2, o2 = rf.ordR (valB 256 E.reverse * valB 256 D.reverse % ((p - 1) * (q - 1))) 1 := ⟨_, rfl⟩
   have HO2 := zH ho2
   clear ho2
   refine (rf.cmp_s VR.out HO.out o2 HO2.out).mono ?_
   rintro e m10 ⟨rfl, hb⟩
   replace HX := zH (HX.out.trans (hb.mono HX.out.size))
   clear hb VR HO
   by_cases ho0 : o2 = 0
   ·have HG := zH (show GoodK N E D from ⟨HP.out, p, q, HPQ.out.1, HPQ.out.2.1, HPQ.out.2.2.1, HEQ.out.symm, ord_zero (by rw [← HO2.out]; exact ho0)⟩)
    subst ho0
    go_wp2
    go_ret
    exact ⟨⟨1, rfl, .inr ⟨rfl, HG.out⟩⟩, HPW.out ▸ (HB.out.trans ((HC.out.trans ((hI2.out.trans (HX.out.mono hI2.out.size)).mono HC.out.size)).mono HB.out.size))⟩
   ·have t1 : (o2 == 0) = false := by simpa using ho0
    clear ho0
    go_wp2
    go_roundw
    case rel => exact ⟨2, by go_num, by omega, hI2.out.trans (HX.out.mono hI2.out.size)⟩
    case measure => simp [intOf]
set_option maxRecDepth 100000
set_option maxHeartbeats 2000000 in
theorem mersenne_any (n p : Nat) (z : Int) (hz : z = (n : Int)) (hp : 2 ^ n - 1 = p) (hn : n ≤ 4100) (w : World) :
  Calls Tryz.prog 31 #[.int .i64 z] w fun e w' => (∃ v, e = .returned v ∧ NatC w' v p) ∧ Below w.heap.size w w' := by
 subst hz
 obtain ⟨q, hq⟩ : ∃ q, 2 ^ n = q := ⟨_, rfl⟩
 have hqt : q < topN := by rw [← hq]; exact two_topN topN_two (by omega)
 have hq1 : 1 ≤ q := by rw [← hq]; exact Nat.pow_pos (by decide)
 have HP := zH (show q - 1 = p by rw [← hq]; exact hp)
 have HT := zH hqt
 have H1 := zH hq1
 have HQ := zH (show 1 * 2 ^ n = q by rw [Nat.one_mul]; exact hq)
 clear hp hq hqt hq1
 go_enter Tryz.func31, Tryz.ntmps31
 go_wp2_with fail
 refine (of_nat 1 1 rfl _ (by decide)).mono ?_
 rintro e w1 ⟨⟨v1, rfl, hv⟩, hb⟩
 have V1 := zH hv
 have HB := zH hb
 clear hv hb
 go_wp2_with fail
 refine (shl_nat V1.out.at (n : Int) n rfl (by omega) (by rw [HQ.out]; exact HT.out)).mono ?_
 rintro e w2 ⟨⟨v2, rfl, hv⟩, hb⟩
 rw [HQ.out] at hv
 have V2 := zH hv
 replace HB := zH (HB.out.trans (hb.mono HB.out.size))
 clear hv hb V1
 go_wp2_with fail
 refine (of_nat 1 1 rfl _ (by decide)).mono ?_
 rintro e w3 ⟨⟨v3, rfl, hv⟩, hb⟩
 have V3 := zH hv
 replace V2 := zH (V2.out.at.below hb)
 replace HB := zH (HB.out.trans (hb.mono HB.out.size))
 clear hv hb
 go_wp2_with fail
 refine (sub_nat V2.out V3.out.at HT.out H1.out).mono ?_
 rintro e w4 ⟨⟨v4, rfl, hv⟩, hb⟩
 rw [HP.out] at hv
 have V4 := zH hv
 replace HB := zH (HB.out.trans (hb.mono HB.out.size))
 clear hv hb V2 V3
 go_wp2
 go_ret
 exact ⟨⟨v4, rfl, V4.out⟩, HB.out⟩
def keyN : List Nat := [63, 255, 255, 255, 255, 255, 255, 253, 255, 255, 255, 255, 255, 255, 255, 255, 255, 255, 255, 255, 255, 255, 255, 255, 255, 255, 255, 255, 255, 255, 255, 255, 255, 255, 255, 255, 255, 255, 255, 255, 255, 255, 255, 255, 255, 255, 255, 255, 255, 255, 255, 255, 255, 255, 255, 255, 255, 255, 255, 255, 255, 255, 255, 255, 255, 224, 0, 0, 0, 0, 0, 0, 1]
def keyE : List Nat := [1, 0, 1]
theorem keyN_byt : Byt keyN := by decide +kernel
theorem keyE_byt : Byt keyE := by decide +kernel
theorem keyN_len : keyN.length = 73 := by decide +kernel
theorem keyN_val : nV keyN = (2 ^ 521 - 1) * (2 ^ 61 - 1) := by decide +kernel
theorem keyE_val : nV keyE = 65537 := by decide +kernel
theorem keyN_nat : (natB 256 ((2 ^ 521 - 1) * (2 ^ 61 - 1))).reverse = keyN := by
 rw [nat8_lit keyN.reverse _ (fun x hx => keyN_byt x (List.mem_reverse.1 hx)) (by decide +kernel) keyN_val, List.reverse_reverse]
theorem bits_eq {n k : Nat} (h1 : n < 2 ^ (k + 1)) (h2 : 2 ^ k ≤ n) : bitsN n = k + 1 := by
 have a := (bitsN_le n (k + 1)).2 h1
 by_cases b : bitsN n ≤ k
 ·have := (bitsN_le n k).1 b
  omega
 ·omega
theorem keyN_bits : bitsN (nV keyN) = 582 := bits_eq (k := 581) (by rw [keyN_val]; decide +kernel) (by rw [keyN_val]; decide +kernel)
theorem keyE_bits : bitsN (nV keyE) = 17 := bits_eq (k := 16) (by rw [keyE_val]; decide +kernel) (by rw [keyE_val]; decide +kernel)
theorem key_pub : PubP keyN keyE := by
 refine ⟨by decide +kernel, by decide +kernel, by rw [keyN_bits]; decide, by rw [keyN_bits]; decide, by rw [keyE_bits]; decide, by rw [keyE_bits]; decide, ?_, ?_, ?_⟩
 ·rw [keyN_val]; decide +kernel
 ·rw [keyE_val]; decide +kernel
 ·rw [keyE_val, keyN_val]; decide +kernel
theorem key_prod_top : (2 ^ 521 - 1) * (2 ^ 61 - 1) < topN := by rw [← keyN_val]; exact key_small keyN_byt (by rw [keyN_len]; decide)
theorem left_top {a b : Nat} (h : a * b < topN) (hb : 0 < b) : a < topN := Nat.lt_of_le_of_lt (Nat.le_mul_of_pos_right _ hb) h
theorem right_top {a b : Nat} (h : a * b < topN) (ha : 0 < a) : b < topN := Nat.lt_of_le_of_lt (Nat.le_mul_of_pos_left _ ha) h
theorem key_pos : 0 < 2 ^ 521 - 1 ∧ 0 < 2 ^ 61 - 1 := by decide +kernel
theorem natC_bytes {v : Value} {n : Nat} {w : World} (h : NatC w v n) (ht : n < topN) : Calls Tryz.prog 30 #[v] w fun e w' => (∃ a m c, e = .returned (.slice a m c) ∧ OwnQ .u8 5 w.heap.size w' (.slice a m c) (natB 256 n).reverse) ∧ Below w.heap.size w w' := by
 obtain ⟨a, len, cap, rfl, hr⟩ := h
 have hl := hr.length
 have := nat32_len ht
 refine (bytes_any a len cap _ w hr (lim_nat _) (by omega)).mono ?_
 rintro e w' ⟨⟨v, rfl, hv⟩, hb⟩
 rw [val_nat] at hv
 obtain ⟨a', n', c', rfl, -, ho⟩ := own_slM hv
 exact ⟨⟨a', n', c', rfl, ho⟩, hb⟩
theorem Reads.apart {q : IntKind} {w X : World} {a : Option Addr} {n c P : Nat} {l : List Nat} (h : Reads q w a n c l) (hs : w.heap.size ≤ X.heap.size) (hk : ∀ k, k ≠ P → X.heap[k]? = w.heap[k]?) (hne : 0 < n → ∀ b off, a = some ⟨b, off, .none⟩ → b ≠ P) : Reads q X a n c l :=
 ⟨h.length, h.le, h.max, h.nil, fun hp => by
  obtain ⟨b, off, rfl, hlt, hc⟩ := h.cells hp
  exact ⟨b, off, rfl, Nat.lt_of_lt_of_le hlt hs, fun i hi => by
   have h1 := hc i hi
   have h2 := hk b (hne hp b off rfl)
   unfold World.cell? at h1 ⊢
   dsimp only at h1 ⊢
   rw [h2]
   exact h1⟩⟩
theorem three_cells (W : World) (B : Nat) (v0 v1 v2 u0 u1 u2 : Value) (t : TypeId) (h : W.heap[B]? = some (.cells #[u0, u1, u2] t)) : (((W.setCell ⟨B, 0, none⟩ v0).setCell ⟨B, 1, none⟩ v1).setCell ⟨B, 2, none⟩ v2).cell? ⟨B, 0, none⟩ = some v0 ∧ (((W.setCell ⟨B, 0, none⟩ v0).setCell ⟨B, 1, none⟩ v1).setCell ⟨B, 2, none⟩ v2).cell? ⟨B, 1, none⟩ = some v1 ∧ (((W.setCell ⟨B, 0, none⟩ v0).setCell ⟨B, 1, none⟩ v1).setCell ⟨B, 2, none⟩ v2).cell? ⟨B, 2, none⟩ = some v2 := by
 have c0 : W.cell? ⟨B, 0, none⟩ = some u0 := by simp [World.cell?, h]
 have c1 : W.cell? ⟨B, 1, none⟩ = some u1 := by simp [World.cell?, h]
 have c2 : W.cell? ⟨B, 2, none⟩ = some u2 := by simp [World.cell?, h]
 clear h
 refine ⟨?_, ?_, ?_⟩ <;> go_simp
theorem three_keeps (W : World) (B : Nat) (v0 v1 v2 : Value) : W.heap.size ≤ (((W.setCell ⟨B, 0, none⟩ v0).setCell ⟨B, 1, none⟩ v1).setCell ⟨B, 2, none⟩ v2).heap.size ∧ ∀ k, k ≠ B → (((W.setCell ⟨B, 0, none⟩ v0).setCell ⟨B, 1, none⟩ v1).setCell ⟨B, 2, none⟩ v2).heap[k]? = W.heap[k]? := by
 refine ⟨Nat.le_trans (KeepsWalks.setCell _ _ _).size (Nat.le_trans (KeepsWalks.setCell _ _ _).size (KeepsWalks.setCell _ _ _).size), fun k hk => ?_⟩
 rw [Below.heap_setCell _ _ _ k (fun e => hk e), Below.heap_setCell _ _ _ k (fun e => hk e), Below.heap_setCell _ _ _ k (fun e => hk e)]
theorem three_below (W : World) (B : Nat) (v0 v1 v2 : Value) (w : World) (k : Nat) (h : Below k w W) (hB : k ≤ B) : Below k w (((W.setCell ⟨B, 0, none⟩ v0).setCell ⟨B, 1, none⟩ v1).setCell ⟨B, 2, none⟩ v2) :=
 ((h.setCell (p := ⟨B, 0, none⟩) hB _).setCell (p := ⟨B, 1, none⟩) hB _).setCell (p := ⟨B, 2, none⟩) hB _
theorem key_frozen {X : World} {P : Nat} {c0 c1 c2 : Value} {t : TypeId} (h : X.heap[P]? = some (.cells #[c0, c1, c2] t)) (i : Nat) : X.frozen? ⟨P, i, none⟩ = false := by
 simp [World.frozen?, h]
set_option maxHeartbeats 4000000 in
theorem some_any (da : Option Addr) (dn dc : Nat) (D : List Nat) (w : World) (hD : Reads .u8 w da dn dc D) (bD : Byt D) (ld : dn ≤ 700) :
  Calls Tryz.prog 22 #[.slice da dn dc] w fun e w' => (∃ na nn nc ea en ec, e = .returned (.agg #[.slice na nn nc, .slice ea en ec, .slice da dn dc]) ∧ KeyAt w' (.agg #[.slice na nn nc, .slice ea en ec, .slice da dn dc]) keyN keyE D) ∧ Below w.heap.size w w' := by
 obtain ⟨p, hp⟩ : ∃ p, 2 ^ 521 - 1 = p := ⟨_, rfl⟩
 obtain ⟨q, hq⟩ : ∃ q, 2 ^ 61 - 1 = q := ⟨_, rfl⟩
 have hpos := key_pos
 have hpq := key_prod_top
 have hnn := keyN_nat
 rw [hp] at hpos hpq hnn
 rw [hq] at hpos hpq hnn
 have hpt := left_top hpq hpos.2
 have hqt := right_top hpq hpos.1
 clear hpos
 have HXP := zH hp
 have HYQ := zH hq
 have HPT := zH hpt
 have HQT := zH hqt
 have HPQ := zH hpq
 clear hpq
 have HNN := zH hnn
 have HRD := zH hD
 have HBD := zH bD
 have hb := (Below.refl w.heap.size w).alloc (Nat.le_refl _) (.cells #[.slice none 0 0, .slice none 0 0, .slice none 0 0] 24)
 have hq0 : (w.alloc (.cells #[.slice none 0 0, .slice none 0 0, .slice none 0 0] 24)).heap[w.heap.size]? = some (.cells #[.slice none 0 0, .slice none 0 0, .slice none 0 0] 24) := World.alloc_heap_new w _
 have HQ0 := zH hq0
 have HB := zH hb
 clear hp hq hpt hqt hnn hD bD hb hq0
 go_enter Tryz.func22, Tryz.ntmps22
 go_wp2_with fail
 generalize w.alloc (.cells #[.slice none 0 0, .slice none 0 0, .slice none 0 0] 24) = w0 at *
 obtain ⟨P, hP⟩ : ∃ P, w.heap.size = P := ⟨_, rfl⟩
 simp only [hP] at HQ0 ⊢
 have HPW := zH hP
 clear hP
 have HQ : Hid (∀ X, Below w0.heap.size w0 X → X.heap[P]? = some (.cells #[.slice none 0 0, .slice none 0 0, .slice none 0 0] 24)) := zH fun X hX => (hX.block P (Array.getElem?_eq_some_iff.1 HQ0.out).1).trans HQ0.out
 clear HQ0
 have HC := zH (Below.refl w0.heap.size w0)
 refine (mersenne_any 521 p _ rfl HXP.out (by decide) _).mono ?_
 rintro e w1 ⟨⟨v1, rfl, hv⟩, hb⟩
 have V1 := zH hv
 replace HC := zH (HC.out.trans (hb.mono HC.out.size))
 clear hv hb
 go_wp2_with fail
 refine (mersenne_any 61 q _ rfl HYQ.out (by decide) _).mono ?_
 rintro e w2 ⟨⟨v2, rfl, hv⟩, hb⟩
 have V2 := zH hv
 replace V1 := zH (V1.out.below hb)
 replace HC := zH (HC.out.trans (hb.mono HC.out.size))
 clear hv hb
 go_wp2_with fail
 refine (mul_nat V1.out.at V2.out.at HPT.out HQT.out HPQ.out).mono ?_
 rintro e w3 ⟨⟨v3, rfl, hv⟩, hb⟩
 have V3 := zH hv
 replace HC := zH (HC.out.trans (hb.mono HC.out.size))
 clear hv hb V1 V2
 go_wp2_with fail
 refine (natC_bytes V3.out HPQ.out).mono ?_
 rintro e w4 ⟨⟨na, nn, nc, rfl, ho⟩, hb⟩
 rw [HNN.out] at ho
 have HO := zH ho.reads
 have HAdr := zH (show ∀ b off, na = some ⟨b, off, none⟩ → w0.heap.size ≤ b from fun b off e => by
  obtain ⟨a', c', he, -, h3⟩ := ho.form
  injection he with e1 e2 e3
  subst e1
  exact Nat.le_trans HC.out.size (h3 _ e).1)
 have hnl : nn ≤ 700 := by have := ho.cap.1; rw [keyN_len] at this; omega
 replace HC := zH (HC.out.trans (hb.mono HC.out.size))
 have HC4 := zH HC.out.size
 clear ho hb V3
 have HEE := zH (Reads.litM .u8 w4 5 keyE #[.int .u8 1, .int .u8 0, .int .u8 1] 3 rfl rfl (by decide))
 have hb := (Below.refl w4.heap.size w4).alloc (Nat.le_refl _) (.cells #[.int .u8 1, .int .u8 0, .int .u8 1] 5)
 replace HO := zH (HO.out.below hb)
 replace HC := zH (HC.out.trans (hb.mono HC.out.size))
 clear hb
 have cP := HQ.out _ HC.out
 have f0 := key_frozen cP 0
 have f1 := key_frozen cP 1
 have f2 := key_frozen cP 2
 obtain ⟨k0, k1, k2⟩ := key_cells cP
 clear cP
 have hne : P ≠ w4.heap.size := by
  have h1 := (Array.getElem?_eq_some_iff.1 (HQ.out _ (Below.refl _ _))).1
  have h2 := HC4.out
  omega
 go_wp2
 obtain ⟨c0, c1, c2⟩ := three_cells (w4.alloc (.cells #[.int .u8 1, .int .u8 0, .int .u8 1] 5)) P (.slice na nn nc) (.slice (some ⟨w4.heap.size, 0, none⟩) 3 3) (.slice da dn dc) _ _ _ _ (HQ.out _ HC.out)
 have hk3 := three_keeps (w4.alloc (.cells #[.int .u8 1, .int .u8 0, .int .u8 1] 5)) P (.slice na nn nc) (.slice (some ⟨w4.heap.size, 0, none⟩) 3 3) (.slice da dn dc)
 have hbb := three_below (w4.alloc (.cells #[.int .u8 1, .int .u8 0, .int .u8 1] 5)) P (.slice na nn nc) (.slice (some ⟨w4.heap.size, 0, none⟩) 3 3) (.slice da dn dc) w w.heap.size (HB.out.trans (HC.out.mono HB.out.size)) (by have := HPW.out; omega)
 generalize (((w4.alloc (.cells #[.int .u8 1, .int .u8 0, .int .u8 1] 5)).setCell ⟨P, 0, none⟩ (.slice na nn nc)).setCell ⟨P, 1, none⟩ (.slice (some ⟨w4.heap.size, 0, none⟩) 3 3)).setCell ⟨P, 2, none⟩ (.slice da dn dc) = X at *
 refine bodyPost_ret (v := .agg #[.slice na nn nc, .slice (some ⟨w4.heap.size, 0, none⟩) 3 3, .slice da dn dc]) ?_ rfl ⟨⟨_, _, _, _, _, _, rfl, ?_⟩, hbb⟩
 ·clear k0 k1 k2 f0 f1 f2
  rw [results_cell1 rfl]
  go_simp
 ·refine ⟨na, nn, nc, _, 3, 3, da, dn, dc, rfl, ⟨HO.out.apart hk3.1 hk3.2 (fun _ b off e => ?_), keyN_byt, hnl⟩, ⟨HEE.out.apart hk3.1 hk3.2 (fun _ b off e => ?_), keyE_byt, by decide⟩, (HRD.out.below (HB.out.trans (HC.out.mono HB.out.size))).apart hk3.1 hk3.2 (fun hp b off e => ?_), HBD.out, ld⟩
  ·have h1 := HAdr.out b off e
   have h2 := (Array.getElem?_eq_some_iff.1 (HQ.out _ (Below.refl _ _))).1
   omega
  ·cases e
   exact fun h => hne h.symm
  ·obtain ⟨b', off', e', hlt, -⟩ := HRD.out.cells hp
   rw [e'] at e
   cases e
   have := HPW.out
   omega
set_option maxRecDepth 100000
theorem ksize_k (k : Value) (N E D : List Nat) (w : World) (hkey : KeyAt w k N E D) :
  Calls Tryz.prog 33 #[k] w fun e w' => e = .returned (.int .i64 (if pubE N E = 0 then (N.length : Int) else 0)) ∧ Below w.heap.size w w' := by
 obtain ⟨na, nn, nc, ea, en, ec, da, dn, dc, rfl, ⟨hN, bN, ln⟩, ⟨hE, bE, le⟩, hD, bD, ld⟩ := hkey
 rw [hN.length]
 exact ksize_any na nn nc N ea en ec E da dn dc _ w hN bN hE bE ln le rfl
theorem natB_one : natB 256 1 = [1] := nat8_lit [1] 1 (by decide) (by decide) (by decide)
theorem be_one : beN 73 1 = List.replicate 72 0 ++ [1] := by
 unfold beN
 rw [natB_one]
 rfl
theorem key_room : RoomK keyN keyE 2 2 := (roomK_iff keyN_byt).2 ⟨key_pub, by decide, .inr ⟨rfl, by rw [keyN_bits]; decide⟩⟩
theorem nV_one : nV [1] = 1 := by decide +kernel
theorem key_one (h : 1 < nV keyN) : nV [1] ^ nV keyE % nV keyN = 1 := by
 rw [nV_one]
 generalize nV keyE = x
 rw [Nat.one_pow, Nat.mod_eq_of_lt h]
open Classical in
set_option maxHeartbeats 8000000 in
theorem alive_k (w : World) (hk : Kinds w) : Calls Tryz.prog 19 #[] w fun e w' => e = .returned (.bool true) ∧ Below w.heap.size w w' := by
 have HKs := zH hk
 have HO := zH (Reads.one .u8 w 5 1 1 rfl)
 have HB := zH ((Below.refl w.heap.size w).alloc (Nat.le_refl _) (.cells #[.int .u8 1] 5))
 have h1N := zH (show 1 < nV keyN by rw [keyN_val]; decide +kernel)
 clear hk
 go_enter Tryz.func19, Tryz.ntmps19
 go_wp2_with fail
 generalize w.alloc (.cells #[.int .u8 1] 5) = w0 at *
 refine (some_any _ 1 1 [1] w0 HO.out (by decide) (by decide)).mono ?_
 rintro e w1 ⟨⟨na, nn, nc, ea, en, ec, rfl, hkey⟩, hb⟩
 replace HB := zH (HB.out.trans (hb.mono HB.out.size))
 clear hb
 have hq0 : (w1.alloc (.cells #[.slice na nn nc, .slice ea en ec, .slice (some ⟨w.heap.size, 0, none⟩) 1 1] 24)).heap[w1.heap.size]? = some (.cells #[.slice na nn nc, .slice ea en ec, .slice (some ⟨w.heap.size, 0, none⟩) 1 1] 24) := World.alloc_heap_new w1 _
 have hb := (Below.refl w1.heap.size w1).alloc (Nat.le_refl _) (.cells #[.slice na nn nc, .slice ea en ec, .slice (some ⟨w.heap.size, 0, none⟩) 1 1] 24)
 have HKey0 := zH (hkey.below hb)
 have HQ0 := zH hq0
 replace HB := zH (HB.out.trans (hb.mono HB.out.size))
 clear hkey hb hq0
 go_upto_region 2 with fail
 generalize w1.alloc (.cells #[.slice na nn nc, .slice ea en ec, .slice (some ⟨w.heap.size, 0, none⟩) 1 1] 24) = w2 at *
 obtain ⟨P, hP⟩ : ∃ x, w1.heap.size = x := ⟨_, rfl⟩
 rw [hP] at HQ0
 simp only [hP]
 clear hP
 have HQ : Hid (∀ X, Below w2.heap.size w2 X → X.heap[P]? = some (.cells #[.slice na nn nc, .slice ea en ec, .slice (some ⟨w.heap.size, 0, none⟩) 1 1] 24)) := zH fun X hX => (hX.block P (Array.getElem?_eq_some_iff.1 HQ0.out).1).trans HQ0.out
 have HKey : Hid (∀ X, Below w2.heap.size w2 X → KeyAt X (.agg #[.slice na nn nc, .slice ea en ec, .slice (some ⟨w.heap.size, 0, none⟩) 1 1]) keyN keyE [1]) := zH fun X hX => HKey0.out.below hX
 have HKk : Hid (∀ X, Below w2.heap.size w2 X → Kinds X) := zH fun X hX => (HKs.out.below HB.out).below hX
 clear HQ0
 have HO1 := zH (Reads.one .u8 w2 5 1 1 rfl)
 have hb := (Below.refl w2.heap.size w2).alloc (Nat.le_refl _) (.cells #[.int .u8 1] 5)
 have HC := zH hb
 clear hb
 have q0 := key_cells (HQ.out _ (Below.refl _ _))
 obtain ⟨k0, k1, k2⟩ := q0
 go_wp2_with fail
 generalize w2.alloc (.cells #[.int .u8 1] 5) = w3 at *
 clear k0 k1 k2
 refine (kraise _ keyN keyE [1] _ 1 1 [1] _ (HKey.out _ HC.out) HO1.out (by decide) (by decide)).mono ?_
 rintro e w4 ⟨hq, hb⟩
 rw [show rRaise keyN keyE [1] = raiseV keyN [1] keyE by unfold rRaise; rw [if_pos key_pub], raise_yes keyN_byt (by rw [keyN_len]; decide) (by rw [nV_one]; exact h1N.out), key_one h1N.out, keyN_len] at hq
 obtain ⟨v, rfl, hv⟩ := hq
 obtain ⟨ra, rn, rc, rfl, hrn, ho⟩ := own_be hv (beN_byt _ _)
 have hr73 : rn = 73 := by rw [hrn, be_one]; rfl
 subst hr73
 obtain ⟨g, hg⟩ : ∃ g, ra = some ⟨g, 0, none⟩ := by
  obtain ⟨g, c', he⟩ := ho.succ (by rw [be_one]; decide)
  injection he with e1
  exact ⟨g, e1⟩
 subst hg
 have HR := zH ho
 replace HC := zH (HC.out.trans (hb.mono HC.out.size))
 clear hv hb ho hrn
 have PE := zH (show pubE keyN keyE = 0 by unfold pubE; rw [if_pos key_pub])
 obtain ⟨k0, k1, k2⟩ := key_cells (HQ.out _ HC.out)
 go_wp2_with fail
 refine (kpublic _ keyN keyE [1] _ (HKey.out _ HC.out)).mono ?_
 rintro e w5 ⟨rfl, hb⟩
 rw [PE.out]
 replace HR := zH (HR.out.below hb)
 replace HC := zH (HC.out.trans (hb.mono HC.out.size))
 clear hb k0 k1 k2
 obtain ⟨k0, k1, k2⟩ := key_cells (HQ.out _ HC.out)
 go_wp2_with fail
 refine (ksize_k _ keyN keyE [1] _ (HKey.out _ HC.out)).mono ?_
 rintro e w6 ⟨rfl, hb⟩
 rw [PE.out, if_pos rfl, keyN_len]
 replace HR := zH (HR.out.below hb)
 replace HC := zH (HC.out.trans (hb.mono HC.out.size))
 clear hb k0 k1 k2
 obtain ⟨k0, k1, k2⟩ := key_cells (HQ.out _ HC.out)
 go_wp2_with fail
 refine (kroom_any _ keyN keyE [1] 2 2 _ (HKey.out _ HC.out) (HKk.out _ HC.out)).mono ?_
 rintro e w7 ⟨rfl, hb⟩
 rw [decide_eq_true key_room]
 replace HR := zH (HR.out.below hb)
 replace HC := zH (HC.out.trans (hb.mono HC.out.size))
 clear hb k0 k1 k2
 have c72 := HR.out.cellAt (by rw [be_one]; rfl) 72 (by decide)
 rw [show (beN 73 1)[72]?.getD 0 = 1 by rw [be_one]; rfl] at c72
 go_wp2_with fail
 refine (Oc.trim_any _ 73 rc _ _ (HR.out.reads.bts (beN_byt _ _)) (by decide)).mono ?_
 rintro e w8 ⟨⟨v8, rfl, hv⟩, hb⟩
 rw [bare_u8s _ (beN_byt _ _), beN_val, natB_one] at hv
 obtain ⟨ta, tn, tc, rfl, htn, -⟩ := own_be hv (by decide)
 have ht1 : tn = 1 := htn
 subst ht1
 replace HC := zH (HC.out.trans (hb.mono HC.out.size))
 clear hb hv c72 htn
 go_wp2
 go_ret
 exact ⟨rfl, HB.out.trans (HC.out.mono HB.out.size)⟩
set_option maxRecDepth 100000
open Classical in
set_option maxRecDepth 100000
theorem nV_cons (x : Nat) (r : List Nat) : nV (x :: r) = nV r + 256 ^ r.length * x := by
 show valB 256 (x :: r).reverse = valB 256 r.reverse + _
 rw [List.reverse_cons, valB_snoc, List.length_reverse]
theorem nV_top {N : List Nat} (hok : numOk N = true) (h : 0 < N.length) : 256 ^ (N.length - 1) ≤ nV N := by
 cases N with
 | nil => simp at h
 | cons x r =>
  have hx : 1 ≤ x := by
   unfold numOk at hok
   simp at hok
   omega
  rw [nV_cons, List.length_cons, Nat.add_sub_cancel]
  have := Nat.mul_le_mul_left (256 ^ r.length) hx
  omega
theorem ems_fits {g : Nat} (hh : IsHash g) (d s : List Nat) (t : Nat) : FitsP (lowP t) (emsP g d s t) := by
 unfold emsP
 have hm := masked_fits g (blockP (lenP t - mSize g - 1) s) (innerP g d s) t
 generalize hM : maskedP g (blockP (lenP t - mSize g - 1) s) (innerP g d s) t = M at *
 cases M with
 | nil =>
  exfalso
  have h1 := congrArg List.length hM
  rw [masked_len hh] at h1
  unfold blockP at h1
  simp at h1
 | cons x r => simpa [FitsP] using hm
theorem fits_lt {l : List Nat} {t : Nat} (hb : Byt l) (hf : FitsP (lowP t) l) (hl : l.length = lenP t) : nV l < 2 ^ t := by
 have hbits := lenP_bits t
 cases l with
 | nil =>
  have : nV [] = 0 := rfl
  rw [this]
  exact Nat.pow_pos (by decide)
 | cons x r =>
  rw [List.length_cons] at hl
  have hx : x &&& lowP t = x := by simpa [FitsP] using hf
  have hx2 : x ≤ lowP t := by rw [← hx]; exact Nat.and_le_right
  obtain ⟨j, hj⟩ : ∃ j, 8 * lenP t - t = j := ⟨_, rfl⟩
  have hj8 : j < 8 := by omega
  have hlow : lowP t + 1 ≤ 2 ^ (8 - j) := by
   unfold lowP
   rw [hj]
   have : ∀ j, j < 8 → 255 / 2 ^ j + 1 ≤ 2 ^ (8 - j) := by decide
   exact this j hj8
  have h1 : nV r < 256 ^ r.length := nV_lt fun y hy => hb y (List.mem_cons_of_mem _ hy)
  rw [nV_cons]
  have h2 : 256 ^ r.length * (x + 1) ≤ 256 ^ r.length * 2 ^ (8 - j) := Nat.mul_le_mul_left _ (by omega)
  have h3 : 256 ^ r.length * 2 ^ (8 - j) = 2 ^ t := by
   rw [show (256 : Nat) = 2 ^ 8 from rfl, ← Nat.pow_mul, ← Nat.pow_add]
   congr 1
   omega
  rw [Nat.mul_add, Nat.mul_one] at h2
  omega
theorem sgn_fits {N E : List Nat} (hp : PubP N E) (bN : Byt N) {way h : Int} {d s : List Nat} (bd : Byt d) (bs : Byt s) (h0 : (sgnV N way h d s).2 = 0) : nV (sgnV N way h d s).1 < nV N ∧ (way = 1 → (sgnV N way h d s).1.length = N.length) := by
 obtain ⟨a, b, c⟩ := (sgn_ok hp bN).1 h0
 have hb := (sgn_byt hp bN (way := way) (h := h) bd bs).1
 have hl := pub_len hp bN
 obtain ⟨hn, hb1, hb2⟩ := pub_bits hp
 have hg := isHash_nat a
 rcases c with ⟨w1, c⟩ | ⟨w2, c, e⟩
 ·have e1 : sgnV N way h d s = encR h d (N.length : Int) := by unfold sgnV; rw [if_pos w1]
  rw [e1] at h0 hb ⊢
  rw [encR_yes h0, Int.toNat_natCast] at hb ⊢
  have hlen : (encL h.toNat d N.length).length = N.length := by
   unfold encL mEncP frameL
   simp only [List.length_append, List.length_cons, List.length_nil, List.length_replicate, frameH_len]
   omega
  refine ⟨?_, fun _ => hlen⟩
  obtain ⟨r, hr⟩ : ∃ r, encL h.toNat d N.length = 0 :: r := ⟨_, rfl⟩
  rw [hr] at hb hlen ⊢
  rw [nV_cons, Nat.mul_zero, Nat.add_zero]
  have h1 : nV r < 256 ^ r.length := nV_lt fun x hx => hb x (List.mem_cons_of_mem _ hx)
  rw [List.length_cons] at hlen
  have h2 := nV_top hp.1 (by omega)
  rw [← hlen, Nat.add_sub_cancel] at h2
  omega
 ·have w1 : way ≠ 1 := by omega
  refine ⟨?_, fun k => absurd k w1⟩
  have e1 : sgnV N way h d s = pssV h d s ((bitsN (numV N) : Int) - 1) := by unfold sgnV; rw [if_neg w1, if_pos w2, if_pos (by rw [c, hSz_yes a])]
  rw [e1] at h0 hb ⊢
  have hr := pssV_ok.1 h0
  unfold pssV at hb ⊢
  rw [if_pos hr] at hb ⊢
  obtain ⟨t, ht⟩ : ∃ t, bitsN (nV N) = t + 1 := ⟨bitsN (nV N) - 1, by omega⟩
  have hnn : ((bitsN (numV N) : Int) - 1) = (t : Int) := by rw [hn]; omega
  rw [hnn] at hr hb ⊢
  rw [Int.toNat_natCast] at hb ⊢
  have hrm := hr.1
  generalize h.toNat = g at *
  subst hg
  have hf := ems_fine a d s rfl bs hrm
  have hfit : FitsP (lowP t) (emsP g d s t) := ems_fits a _ _ _
  have hlt := fits_lt hb hfit hf.2.2.2.1
  have h3 : 2 ^ t ≤ nV N := by
   by_cases k : nV N < 2 ^ t
   ·have := (bitsN_le (nV N) t).2 k
    omega
   ·omega
  exact Nat.lt_of_lt_of_le hlt h3
open Classical in
set_option maxRecDepth 100000
def BigAsk (dn sn bn : Nat) (n : Int) : Prop := 2000 < dn + sn + bn ∨ (5000 < n ∧ n ≤ 524288)
instance (dn sn bn : Nat) (n : Int) : Decidable (BigAsk dn sn bn n) := inferInstanceAs (Decidable (_ ∨ _))
end Go.Proofs.YtpefjkndfifceaaGreatDoor
