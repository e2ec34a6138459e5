/- Part of the proofs: what the functions that the law calls do. -/
import Derived.Test.YtpefjkndfifceaaGreatDoorPkb1
import Derived.Test.YtpefjkndfifceaaGreatDoorPkb2
import Derived.Test.YtpefjkndfifceaaGreatDoorPkb8
import Derived.BigQuiet
import Derived.Deep.RegionHeld
import Derived.OrdersHeld
import Derived.Shelf.Small.Bits
import Derived.Test.YtpefjkndfifceaaGreatDoorProg
import Derived.Lib.ItoaNum
import Derived.Maps.OwnIn
import Derived.Maps.AppendAt
open Go.Lib renaming hid → zH
open List renaming setIfInBounds_toArray → zq1, set_cons_zero → zq2, set_cons_succ → zq3, getElem_toArray → zq4, getElem_cons_succ → zq5, getElem_cons_zero → zq6
set_option linter.unusedVariables false
set_option linter.unusedSimpArgs false
namespace Go.Proofs.YtpefjkndfifceaaGreatDoor
open Go.RowKit
set_option maxRecDepth 100000
def GoodP (h sn n : Int) (b : List Nat) : Prop := RoomP h sn n ∧ b.length = lenP n.toNat ∧ fineP h.toNat sn.toNat b n.toNat = true
def VerP (h : Int) (d : List Nat) (sn n : Int) (b : List Nat) : Prop := GoodP h sn n b ∧ d.length = mSize h.toNat ∧ innerP h.toNat d (partS h.toNat sn.toNat n.toNat b) = partI h.toNat n.toNat b
theorem pread_any (h : Int) (ba : Option Addr) (bn bc : Nat) (b : List Nat) (sn n : Int) (s0 : -9223372036854775808 ≤ sn) (s1 : sn ≤ 9223372036854775807) (n0 : -9223372036854775808 ≤ n) (n1 : n ≤ 9223372036854775807) (hn : n ≤ 100000 ∨ 524288 < n) (w : World) (hk : Kinds w) (hr : Reads .u8 w ba bn bc b) (hby : Byt b) :
  Calls Tryz.prog 99 #[.int .i64 h, .slice ba bn bc, .int .i64 sn, .int .i64 n] w fun e w' => Below w.heap.size w w' ∧
   ((GoodP h sn n b ∧ ∃ ia ic sa sc, e = .returned (.tuple #[.agg #[.slice ia (mSize h.toNat) ic, .slice sa sn.toNat sc], .int .i64 0]) ∧ OwnQ .u8 5 w.heap.size w' (.slice ia (mSize h.toNat) ic) (partI h.toNat n.toNat b) ∧ OwnQ .u8 5 w.heap.size w' (.slice sa sn.toNat sc) (partS h.toNat sn.toNat n.toNat b)) ∨
   (¬ GoodP h sn n b ∧ e = .returned (.tuple #[.agg #[.slice none 0 0, .slice none 0 0], .int .i64 90]))) := by
 by_cases hroom : RoomP h sn n ∧ bn = lenP n.toNat
 ·obtain ⟨hrm, hbn⟩ := hroom
  obtain ⟨hh, hs, hn2, hn5, hfit⟩ := hrm
  obtain ⟨g, rfl⟩ : ∃ g : Nat, h = (g : Int) := ⟨h.toNat, by rcases hh with e | e | e | e <;> omega⟩
  obtain ⟨s, rfl⟩ : ∃ s : Nat, sn = (s : Int) := ⟨sn.toNat, by omega⟩
  obtain ⟨m, rfl⟩ : ∃ m : Nat, n = (m : Int) := ⟨n.toNat, by omega⟩
  simp only [Int.toNat_natCast] at hh hbn ⊢
  have hrm : RoomP (g : Int) (s : Int) (m : Int) := ⟨by rwa [Int.toNat_natCast], hs, hn2, hn5, hfit⟩
  refine (read_good g hh ba bn bc b s m w hk hr hby hrm hbn (by omega)).mono ?_
  rintro e w' ⟨hb, ⟨hf, rest⟩ | ⟨hf, rest⟩⟩
  ·exact ⟨hb, .inl ⟨⟨hrm, hr.length.trans hbn, hf⟩, rest⟩⟩
  ·refine ⟨hb, .inr ⟨fun hg => ?_, rest⟩⟩
   have h2 := hg.2.2
   rw [Int.toNat_natCast, Int.toNat_natCast, Int.toNat_natCast, hf] at h2
   cases h2
 ·refine (read_bad h ba bn bc sn n (by have := hr.len_le; unfold maxLen at this; exact this) s0 s1 n0 n1 w hk hroom).mono ?_
  rintro e w' ⟨he, hb⟩
  exact ⟨hb, .inr ⟨fun hg => hroom ⟨hg.1, hr.length.symm.trans hg.2.1⟩, he⟩⟩
theorem strOf_neP {l m : List Nat} (hl : Byt l) (hm : Byt m) (h : l ≠ m) : ((strOf (u8s l)).toList == (strOf (u8s m)).toList) = false := by
 rw [Bool.eq_false_iff]
 intro he
 have h1 : (strOf (u8s l)).toList = (strOf (u8s m)).toList := by simpa using he
 have h2 : ∀ b : List UInt8, (strOf b).toList = b := fun b => by simp [strOf]
 rw [h2, h2] at h1
 exact h (u8s_inj hl hm h1)
theorem equal_any (a a' : Option Addr) (n c n' c' : Nat) (l m : List Nat) (w : World) (hl : Reads .u8 w a n c l) (hm : Reads .u8 w a' n' c' m) (bl : Byt l) (bm : Byt m) :
  Calls Tryz.prog 55 #[.slice a n c, .slice a' n' c'] w fun e w' => e = .returned (.bool (decide (l = m))) ∧ w' = w := by
 have c1 := convB (hl.bts bl)
 have c2 := convB (hm.bts bm)
 by_cases h : l = m
 ·subst h
  go_enter Tryz.func55, Tryz.ntmps55
  go_wp2
  go_ret
  exact ⟨by first | rfl | (simp; rfl), rfl⟩
 ·have hne : True := trivial
  have hd := zH (show decide (l = m) = false from decide_eq_false h)
  have hst := strOf_neP bl bm h
  clear h hne
  go_enter Tryz.func55, Tryz.ntmps55
  go_wp2
  go_ret
  exact ⟨by rw [hd.out]; rfl, rfl⟩
set_option maxHeartbeats 2000000 in
theorem verify_any (h : Int) (da : Option Addr) (dn dc : Nat) (d : List Nat) (ba : Option Addr) (bn bc : Nat) (b : List Nat) (sn n : Int) (s0 : -9223372036854775808 ≤ sn) (s1 : sn ≤ 9223372036854775807) (n0 : -9223372036854775808 ≤ n) (n1 : n ≤ 9223372036854775807) (hn : n ≤ 100000 ∨ 524288 < n) (w : World) (hk : Kinds w) (hd : Reads .u8 w da dn dc d) (bd : Byt d) (hr : Reads .u8 w ba bn bc b) (hby : Byt b) :
  Calls Tryz.prog 58 #[.int .i64 h, .slice da dn dc, .slice ba bn bc, .int .i64 sn, .int .i64 n] w fun e w' => (∃ v : Bool, e = .returned (.bool v) ∧ (v = true ↔ VerP h d sn n b)) ∧ Below w.heap.size w w' := by
 have HK := zH hk
 have HD := zH hd
 have HDL := zH hd.length
 have HBD := zH bd
 have HBB := zH hby
 have hdle : dn ≤ 9223372036854775807 := by have := hd.len_le; unfold maxLen at this; exact this
 clear bd
 go_enter Tryz.func58, Tryz.ntmps58
 go_wp2_with fail
 refine (pread_any h ba bn bc b sn n s0 s1 n0 n1 hn _ hk hr hby).mono ?_
 rintro e w1 ⟨hb, ⟨hg, ia, ic, sa, sc, rfl, hI, hS⟩ | ⟨hg, rfl⟩⟩
 rotate_left
 ·have HB := zH hb
  have HV := zH (show (false = true ↔ VerP h d sn n b) from ⟨fun e => Bool.noConfusion e, fun hv => absurd hv.1 hg⟩)
  clear hb hg hk hd hr hby
  go_wp2_with fail
  go_big_quiet (fail)
  simp only [Exit.then]
  go_wp2
  go_ret
  exact ⟨⟨_, rfl, HV.out⟩, (HB.out.alloc HB.out.size _).trans (⟨rfl, rfl, rfl, Nat.le_refl _, fun _ _ => rfl⟩)⟩
 have hgr := hg.1
 obtain ⟨hh, hs0, hn2, hn5, hfit⟩ := hgr
 obtain ⟨g, rfl⟩ : ∃ g : Nat, h = (g : Int) := ⟨h.toNat, by rcases hh with e | e | e | e <;> omega⟩
 obtain ⟨s, rfl⟩ : ∃ s : Nat, sn = (s : Int) := ⟨sn.toNat, by omega⟩
 rw [Int.toNat_natCast] at hh hI hS hfit
 rw [Int.toNat_natCast] at hS
 have HH := zH hh
 have hsz := mSize_le hh
 obtain ⟨S, hSS⟩ : ∃ S, mSize g = S := ⟨_, rfl⟩
 have HSS := zH hSS
 rw [hSS] at hsz hI
 have HG := zH hg
 have HBS := zH (show Byt (partS g s n.toNat b) from fun x hx => byt_drop (masked_byt hh _ _ (byt_take hby _)) _ x hx)
 have HBI := zH (show Byt (partI g n.toNat b) from byt_take (byt_drop hby _) _)
 have hsle : s ≤ 70000 := by
  have : lenP n.toNat ≤ 65537 := by (unfold lenP; omega)
  omega
 have HFIT := zH hfit
 simp only [Int.toNat_natCast, hSS]
 have HB := zH hb
 have HI := zH hI
 have HS := zH hS
 clear hb hI hS hg hk hd hr hby hh hSS hfit
 go_wp2_with fail
 obtain ⟨W0, hW0⟩ : ∃ W0, w1.alloc (.cells #[.slice ia S ic, .slice sa s sc] 120) = W0 := ⟨_, rfl⟩
 have hq : W0.heap[w1.heap.size]? = some (.cells #[.slice ia S ic, .slice sa s sc] 120) := by rw [← hW0]; exact World.alloc_heap_new w1 _
 have hbW : Below w1.heap.size w1 W0 := by rw [← hW0]; exact (Below.refl _ w1).alloc (Nat.le_refl _) _
 rw [hW0]
 obtain ⟨P, hP⟩ : ∃ P, w1.heap.size = P := ⟨_, rfl⟩
 rw [hP] at hq ⊢
 have HQ := zH hq
 have HBW := zH hbW
 clear hW0 hq hbW hP
 have HWP := zH HB.out.size
 have cc : ∀ (X : World), X.heap[P]? = some (.cells #[.slice ia S ic, .slice sa s sc] 120) → X.cell? ⟨P, 0, none⟩ = some (.slice ia S ic) ∧ X.cell? ⟨P, 1, none⟩ = some (.slice sa s sc) := fun X hX => ⟨by simp [World.cell?, hX], by simp [World.cell?, hX]⟩
 have CC := zH cc
 clear cc
 by_cases hdS : dn = S
 ·have t1 : ((dn : Int) == (S : Int)) = true := by simp [hdS]
  have hdn64 : dn ≤ 64 := by omega
  have HXB := zH (show Byt (innerP g d (partS g s n.toNat b)) from mHash_byt HH.out _)
  have HV := zH (show decide (innerP g d (partS g s n.toNat b) = partI g n.toNat b) = true ↔ VerP (g : Int) d (s : Int) n b from by
   rw [decide_eq_true_iff]
   refine ⟨fun he => ⟨HG.out, by rw [Int.toNat_natCast, HSS.out, HDL.out, hdS], by rw [Int.toNat_natCast, Int.toNat_natCast]; exact he⟩, fun hv => by have := hv.2.2; rwa [Int.toNat_natCast, Int.toNat_natCast] at this⟩)
  clear hdS
  refine wp_region_held_drew (S := fun X => X.cell? ⟨P, 0, none⟩ = some (.slice ia S ic) ∧ X.cell? ⟨P, 1, none⟩ = some (.slice sa s sc)) (by kernel_rfl) (CC.out _ HQ.out) (fun hHeld => ?_)
  have HBW := zH HBW.out.drew
  have HQ := zH (show W0.drew.heap[P]? = some (.cells #[.slice ia S ic, .slice sa s sc] 120) from HQ.out)
  generalize W0.drew = Wd at *
  refine' wpAnyH_take (i := 0) rfl (by kernel_rfl) (by kernel_rfl) (by kernel_rfl) (fun _ _ _ h => h) (Or.inl ⟨?_, ?_⟩) (by assumption) ?_
  rotate_left
  all_goals (try simp only [zq4, zq5, zq6])
  ·rfl
  ·intro W hSw; (try dsimp only at hSw); go_simp; (try with_reducible rfl)
  try simp only [Act.put, zq1, zq2, zq3]
  refine' wpAnyH_take (i := 1) rfl (by kernel_rfl) (by kernel_rfl) (by kernel_rfl) (fun _ _ _ h => h) (Or.inl ⟨?_, ?_⟩) (by assumption) ?_
  rotate_left
  all_goals (try simp only [zq4, zq5, zq6])
  ·rfl
  ·intro W hSw; (try dsimp only at hSw); go_simp; (try with_reducible rfl)
  try simp only [Act.put, zq1, zq2, zq3]
  refine' wpAnyH_take (i := 2) rfl (by kernel_rfl) (by kernel_rfl) (by kernel_rfl) (fun _ _ _ h => h) (Or.inl ⟨?_, ?_⟩) (by assumption) ?_
  rotate_left
  all_goals (try simp only [zq4, zq5, zq6])
  ·rfl
  ·intro W hSw; (try dsimp only at hSw); go_simp; (try with_reducible rfl)
  try simp only [Act.put, zq1, zq2, zq3]
  refine' wpAnyH_take (i := 3) rfl (by kernel_rfl) (by kernel_rfl) (by kernel_rfl) (fun _ _ _ h => h) (Or.inl ⟨?_, ?_⟩) (by assumption) ?_
  rotate_left
  all_goals (try simp only [zq4, zq5, zq6])
  ·rfl
  ·intro W hSw; (try dsimp only at hSw); go_simp; (try with_reducible rfl)
  try simp only [Act.put, zq1, zq2, zq3]
  refine' wpAnyH_take (i := 4) rfl (by kernel_rfl) (by kernel_rfl) (by kernel_rfl) (fun _ _ _ h => h) (Or.inl ⟨?_, ?_⟩) (by assumption) ?_
  rotate_left
  all_goals (try simp only [zq4, zq5, zq6])
  ·rfl
  ·intro W hSw; (try dsimp only at hSw); go_simp; (try with_reducible rfl)
  try simp only [Act.put, zq1, zq2, zq3]
  refine' wpAnyH_take (i := 5) rfl (by kernel_rfl) (by kernel_rfl) (by kernel_rfl) (fun _ _ _ h => h) (Or.inl ⟨?_, ?_⟩) (by assumption) ?_
  rotate_left
  all_goals (try simp only [zq4, zq5, zq6])
  ·rfl
  ·intro W hSw; (try dsimp only at hSw); go_simp; (try with_reducible rfl)
  try simp only [Act.put, zq1, zq2, zq3]
  refine wpAnyH_ready (rs := [6]) (by kernel_rfl) (by simp) ?_
  refine AllReadyH.cons (o := _) rfl (fun K hK => ?_) AllReadyH.nil
  try simp only [zq4, zq5, zq6]
  go_simp
  refine (size_yes g HH.out _ (HK.out.below (HB.out.trans (HBW.out.mono HWP.out)))).mono ?_; rintro e V1 ⟨rfl, hb⟩; rw [HSS.out]; have HQ := zH ((hb.block P (Array.getElem?_eq_some_iff.1 HQ.out).1).trans HQ.out); have HBW := zH (HBW.out.trans (hb.mono HBW.out.size)); clear hb
  go_wp2_with fail
  refine hK.out _ _ (CC.out _ HQ.out) (fun hHeld => ?_)
  clear hK K
  try simp only [Act.put, zq1, zq2, zq3]
  refine' wpAnyH_take (i := 7) rfl (by kernel_rfl) (by kernel_rfl) (by kernel_rfl) (fun _ _ _ h => h) (Or.inl ⟨?_, ?_⟩) (by assumption) ?_
  rotate_left
  all_goals (try simp only [zq4, zq5, zq6])
  ·rfl
  ·intro W hSw; (try dsimp only at hSw); go_simp; (try with_reducible rfl)
  try simp only [Act.put, zq1, zq2, zq3]
  refine' wpAnyH_take (i := 8) rfl (by kernel_rfl) (by kernel_rfl) (by kernel_rfl) (fun _ _ _ h => h) (Or.inl ⟨?_, ?_⟩) (by assumption) ?_
  rotate_left
  all_goals (try simp only [zq4, zq5, zq6])
  ·rfl
  ·intro W hSw; (try dsimp only at hSw); go_simp; (try with_reducible rfl)
  try simp only [Act.put, zq1, zq2, zq3]
  refine' wpAnyH_take (i := 9) rfl (by kernel_rfl) (by kernel_rfl) (by kernel_rfl) (fun _ _ _ h => h) (Or.inl ⟨?_, ?_⟩) (by assumption) ?_
  rotate_left
  all_goals (try simp only [zq4, zq5, zq6])
  ·rfl
  ·intro W hSw; (try dsimp only at hSw); go_simp; (try with_reducible rfl)
  try simp only [Act.put, zq1, zq2, zq3]
  refine' wpAnyH_take (i := 10) rfl (by kernel_rfl) (by kernel_rfl) (by kernel_rfl) (fun _ _ _ h => h) (Or.inl ⟨?_, ?_⟩) (by assumption) ?_
  rotate_left
  all_goals (try simp only [zq4, zq5, zq6])
  ·rfl
  ·intro W hSw; (try dsimp only at hSw); go_simp; (try with_reducible rfl)
  try simp only [Act.put, zq1, zq2, zq3]
  refine' wpAnyH_take (i := 11) rfl (by kernel_rfl) (by kernel_rfl) (by kernel_rfl) (fun _ _ _ h => h) (Or.inl ⟨?_, ?_⟩) (by assumption) ?_
  rotate_left
  all_goals (try simp only [zq4, zq5, zq6])
  ·rfl
  ·intro W hSw; (try dsimp only at hSw); go_simp; (try with_reducible rfl)
  try simp only [Act.put, zq1, zq2, zq3]
  refine' wpAnyH_take (i := 12) rfl (by kernel_rfl) (by kernel_rfl) (by kernel_rfl) (fun _ _ _ h => h) (Or.inl ⟨?_, ?_⟩) (by assumption) ?_
  rotate_left
  all_goals (try simp only [zq4, zq5, zq6])
  ·rfl
  ·intro W hSw; (try dsimp only at hSw); go_simp; (try with_reducible rfl)
  try simp only [Act.put, zq1, zq2, zq3]
  refine' wpAnyH_take (i := 13) rfl (by kernel_rfl) (by kernel_rfl) (by kernel_rfl) (fun _ _ _ h => h) (Or.inl ⟨?_, ?_⟩) (by assumption) ?_
  rotate_left
  all_goals (try simp only [zq4, zq5, zq6])
  ·rfl
  ·intro W hSw; (try dsimp only at hSw); go_simp; (try with_reducible rfl)
  try simp only [Act.put, zq1, zq2, zq3]
  refine' wpAnyH_take (i := 15) rfl (by kernel_rfl) (by kernel_rfl) (by kernel_rfl) (fun _ _ _ h => h) (Or.inl ⟨?_, ?_⟩) (by assumption) ?_
  rotate_left
  all_goals (try simp only [zq4, zq5, zq6])
  ·rfl
  ·intro W hSw; (try dsimp only at hSw); go_simp; (try with_reducible rfl)
  try simp only [Act.put, zq1, zq2, zq3]
  refine' wpAnyH_take (i := 16) rfl (by kernel_rfl) (by kernel_rfl) (by kernel_rfl) (fun _ _ _ h => h) (Or.inl ⟨?_, ?_⟩) (by assumption) ?_
  rotate_left
  all_goals (try simp only [zq4, zq5, zq6])
  ·rfl
  ·intro W hSw; (try dsimp only at hSw); go_simp; (try with_reducible rfl)
  try simp only [Act.put, zq1, zq2, zq3]
  refine wpAnyH_ready (rs := [14]) (by kernel_rfl) (by simp) ?_
  refine AllReadyH.cons (o := _) rfl (fun K hK => ?_) AllReadyH.nil
  try simp only [zq4, zq5, zq6]
  go_simp
  refine (inner_p g HH.out da dn dc d sa s sc (partS g s n.toNat b) _ (HK.out.below (HB.out.trans (HBW.out.mono HWP.out))) (HD.out.below (HB.out.trans (HBW.out.mono HWP.out))) (HS.out.reads.below HBW.out) HBD.out HBS.out (by omega) (by omega)).mono ?_; rintro e V2 ⟨⟨ad, xc, rfl, hv, -⟩, hb⟩; rw [HSS.out] at hv ⊢; have HX := zH hv; have HQ := zH ((hb.block P (Array.getElem?_eq_some_iff.1 HQ.out).1).trans HQ.out); have HBW := zH (HBW.out.trans (hb.mono HBW.out.size)); clear hb hv
  go_wp2_with fail
  refine hK.out _ _ (CC.out _ HQ.out) (fun hHeld => ?_)
  clear hK K
  try simp only [Act.put, zq1, zq2, zq3]
  refine wpAnyH_ready (rs := [17]) (by kernel_rfl) (by simp) ?_
  refine AllReadyH.cons (o := _) rfl (fun K hK => ?_) AllReadyH.nil
  try simp only [zq4, zq5, zq6]
  go_simp
  refine (equal_any _ _ _ _ _ _ _ _ _ HX.out (HI.out.reads.below HBW.out) HXB.out HBI.out).mono ?_; rintro e V3 ⟨rfl, rfl⟩
  go_wp2_with fail
  refine hK.out _ _ (CC.out _ HQ.out) (fun hHeld => ?_)
  clear hK K
  try simp only [Act.put, zq1, zq2, zq3]
  refine' wpAnyH_take (i := 18) rfl (by kernel_rfl) (by kernel_rfl) (by kernel_rfl) (fun _ _ _ h => h) (Or.inl ⟨?_, ?_⟩) (by assumption) ?_
  rotate_left
  all_goals (try simp only [zq4, zq5, zq6])
  ·rfl
  ·intro W hSw; (try dsimp only at hSw); go_simp; (try with_reducible rfl)
  try simp only [Act.put, zq1, zq2, zq3]
  refine' wpAnyH_take (i := 19) rfl (by kernel_rfl) (by kernel_rfl) (by kernel_rfl) (fun _ _ _ h => h) (Or.inl ⟨?_, ?_⟩) (by assumption) ?_
  rotate_left
  all_goals (try simp only [zq4, zq5, zq6])
  ·rfl
  ·intro W hSw; (try dsimp only at hSw); go_simp; (try with_reducible rfl)
  try simp only [Act.put, zq1, zq2, zq3]
  refine wpAnyH_done (by kernel_rfl) ?_ _
  go_wp2
  go_ret
  exact ⟨⟨_, rfl, HV.out⟩, HB.out.trans (HBW.out.mono HWP.out)⟩
 ·have t1 : ((dn : Int) == (S : Int)) = false := by simp; omega
  have HV := zH (show (false = true ↔ VerP (g : Int) d (s : Int) n b) from ⟨fun e => Bool.noConfusion e, fun hv => absurd (by have := hv.2.1; rwa [Int.toNat_natCast, HSS.out, HDL.out] at this) hdS⟩)
  clear hdS
  refine wp_region_held_drew (S := fun X => X.cell? ⟨P, 0, none⟩ = some (.slice ia S ic) ∧ X.cell? ⟨P, 1, none⟩ = some (.slice sa s sc)) (by kernel_rfl) (CC.out _ HQ.out) (fun hHeld => ?_)
  have HBW := zH HBW.out.drew
  have HQ := zH (show W0.drew.heap[P]? = some (.cells #[.slice ia S ic, .slice sa s sc] 120) from HQ.out)
  generalize W0.drew = Wd at *
  refine' wpAnyH_take (i := 0) rfl (by kernel_rfl) (by kernel_rfl) (by kernel_rfl) (fun _ _ _ h => h) (Or.inl ⟨?_, ?_⟩) (by assumption) ?_
  rotate_left
  all_goals (try simp only [zq4, zq5, zq6])
  ·rfl
  ·intro W hSw; (try dsimp only at hSw); go_simp; (try with_reducible rfl)
  try simp only [Act.put, zq1, zq2, zq3]
  refine' wpAnyH_take (i := 1) rfl (by kernel_rfl) (by kernel_rfl) (by kernel_rfl) (fun _ _ _ h => h) (Or.inl ⟨?_, ?_⟩) (by assumption) ?_
  rotate_left
  all_goals (try simp only [zq4, zq5, zq6])
  ·rfl
  ·intro W hSw; (try dsimp only at hSw); go_simp; (try with_reducible rfl)
  try simp only [Act.put, zq1, zq2, zq3]
  refine' wpAnyH_take (i := 2) rfl (by kernel_rfl) (by kernel_rfl) (by kernel_rfl) (fun _ _ _ h => h) (Or.inl ⟨?_, ?_⟩) (by assumption) ?_
  rotate_left
  all_goals (try simp only [zq4, zq5, zq6])
  ·rfl
  ·intro W hSw; (try dsimp only at hSw); go_simp; (try with_reducible rfl)
  try simp only [Act.put, zq1, zq2, zq3]
  refine' wpAnyH_take (i := 3) rfl (by kernel_rfl) (by kernel_rfl) (by kernel_rfl) (fun _ _ _ h => h) (Or.inl ⟨?_, ?_⟩) (by assumption) ?_
  rotate_left
  all_goals (try simp only [zq4, zq5, zq6])
  ·rfl
  ·intro W hSw; (try dsimp only at hSw); go_simp; (try with_reducible rfl)
  try simp only [Act.put, zq1, zq2, zq3]
  refine' wpAnyH_take (i := 4) rfl (by kernel_rfl) (by kernel_rfl) (by kernel_rfl) (fun _ _ _ h => h) (Or.inl ⟨?_, ?_⟩) (by assumption) ?_
  rotate_left
  all_goals (try simp only [zq4, zq5, zq6])
  ·rfl
  ·intro W hSw; (try dsimp only at hSw); go_simp; (try with_reducible rfl)
  try simp only [Act.put, zq1, zq2, zq3]
  refine' wpAnyH_take (i := 5) rfl (by kernel_rfl) (by kernel_rfl) (by kernel_rfl) (fun _ _ _ h => h) (Or.inl ⟨?_, ?_⟩) (by assumption) ?_
  rotate_left
  all_goals (try simp only [zq4, zq5, zq6])
  ·rfl
  ·intro W hSw; (try dsimp only at hSw); go_simp; (try with_reducible rfl)
  try simp only [Act.put, zq1, zq2, zq3]
  refine wpAnyH_ready (rs := [6]) (by kernel_rfl) (by simp) ?_
  refine AllReadyH.cons (o := _) rfl (fun K hK => ?_) AllReadyH.nil
  try simp only [zq4, zq5, zq6]
  go_simp
  refine (size_yes g HH.out _ (HK.out.below (HB.out.trans (HBW.out.mono HWP.out)))).mono ?_; rintro e V1 ⟨rfl, hb⟩; rw [HSS.out]; have HQ := zH ((hb.block P (Array.getElem?_eq_some_iff.1 HQ.out).1).trans HQ.out); have HBW := zH (HBW.out.trans (hb.mono HBW.out.size)); clear hb
  go_wp2_with fail
  refine hK.out _ _ (CC.out _ HQ.out) (fun hHeld => ?_)
  clear hK K
  try simp only [Act.put, zq1, zq2, zq3]
  refine' wpAnyH_take (i := 7) rfl (by kernel_rfl) (by kernel_rfl) (by kernel_rfl) (fun _ _ _ h => h) (Or.inl ⟨?_, ?_⟩) (by assumption) ?_
  rotate_left
  all_goals (try simp only [zq4, zq5, zq6])
  ·rfl
  ·intro W hSw; (try dsimp only at hSw); go_simp; (try with_reducible rfl)
  try simp only [Act.put, zq1, zq2, zq3]
  refine' wpAnyH_take (i := 8) rfl (by kernel_rfl) (by kernel_rfl) (by kernel_rfl) (fun _ _ _ h => h) (Or.inl ⟨?_, ?_⟩) (by assumption) ?_
  rotate_left
  all_goals (try simp only [zq4, zq5, zq6])
  ·rfl
  ·intro W hSw; (try dsimp only at hSw); go_simp; (try with_reducible rfl)
  try simp only [Act.put, zq1, zq2, zq3]
  refine' wpAnyH_take (i := 9) rfl (by kernel_rfl) (by kernel_rfl) (by kernel_rfl) (fun _ _ _ h => h) (Or.inl ⟨?_, ?_⟩) (by assumption) ?_
  rotate_left
  all_goals (try simp only [zq4, zq5, zq6])
  ·rfl
  ·intro W hSw; (try dsimp only at hSw); go_simp; (try with_reducible rfl)
  try simp only [Act.put, zq1, zq2, zq3]
  refine' wpAnyH_take (i := 10) (oi := _) (v := undef) rfl (by kernel_rfl) (by kernel_rfl) (by kernel_rfl) (fun _ _ _ h => h) (Or.inr ⟨by kernel_rfl, rfl⟩) (by assumption) ?_
  try simp only [Act.put, zq1, zq2, zq3]
  refine' wpAnyH_take (i := 11) (oi := _) (v := undef) rfl (by kernel_rfl) (by kernel_rfl) (by kernel_rfl) (fun _ _ _ h => h) (Or.inr ⟨by kernel_rfl, rfl⟩) (by assumption) ?_
  try simp only [Act.put, zq1, zq2, zq3]
  refine' wpAnyH_take (i := 12) (oi := _) (v := undef) rfl (by kernel_rfl) (by kernel_rfl) (by kernel_rfl) (fun _ _ _ h => h) (Or.inr ⟨by kernel_rfl, rfl⟩) (by assumption) ?_
  try simp only [Act.put, zq1, zq2, zq3]
  refine' wpAnyH_take (i := 13) (oi := _) (v := undef) rfl (by kernel_rfl) (by kernel_rfl) (by kernel_rfl) (fun _ _ _ h => h) (Or.inr ⟨by kernel_rfl, rfl⟩) (by assumption) ?_
  try simp only [Act.put, zq1, zq2, zq3]
  refine' wpAnyH_take (i := 15) (oi := _) (v := undef) rfl (by kernel_rfl) (by kernel_rfl) (by kernel_rfl) (fun _ _ _ h => h) (Or.inr ⟨by kernel_rfl, rfl⟩) (by assumption) ?_
  try simp only [Act.put, zq1, zq2, zq3]
  refine' wpAnyH_take (i := 16) (oi := _) (v := undef) rfl (by kernel_rfl) (by kernel_rfl) (by kernel_rfl) (fun _ _ _ h => h) (Or.inr ⟨by kernel_rfl, rfl⟩) (by assumption) ?_
  try simp only [Act.put, zq1, zq2, zq3]
  refine wpAnyH_ready (rs := [14]) (by kernel_rfl) (by simp) ?_
  refine AllReadyH.cons (o := _) rfl (fun K hK => ?_) AllReadyH.nil
  try simp only [zq4, zq5, zq6]
  rw [if_neg (by rw [show Region.wanted _ _ = false by kernel_rfl]; exact Bool.false_ne_true)]
  refine hK.out _ _ (CC.out _ HQ.out) (fun hHeld => ?_)
  clear hK K
  try simp only [Act.put, zq1, zq2, zq3]
  refine wpAnyH_ready (rs := [17]) (by kernel_rfl) (by simp) ?_
  refine AllReadyH.cons (o := _) rfl (fun K hK => ?_) AllReadyH.nil
  try simp only [zq4, zq5, zq6]
  rw [if_neg (by rw [show Region.wanted _ _ = false by kernel_rfl]; exact Bool.false_ne_true)]
  refine hK.out _ _ (CC.out _ HQ.out) (fun hHeld => ?_)
  clear hK K
  try simp only [Act.put, zq1, zq2, zq3]
  refine' wpAnyH_take (i := 18) rfl (by kernel_rfl) (by kernel_rfl) (by kernel_rfl) (fun _ _ _ h => h) (Or.inl ⟨?_, ?_⟩) (by assumption) ?_
  rotate_left
  all_goals (try simp only [zq4, zq5, zq6])
  ·rfl
  ·intro W hSw; (try dsimp only at hSw); go_simp; (try with_reducible rfl)
  try simp only [Act.put, zq1, zq2, zq3]
  refine' wpAnyH_take (i := 19) rfl (by kernel_rfl) (by kernel_rfl) (by kernel_rfl) (fun _ _ _ h => h) (Or.inl ⟨?_, ?_⟩) (by assumption) ?_
  rotate_left
  all_goals (try simp only [zq4, zq5, zq6])
  ·rfl
  ·intro W hSw; (try dsimp only at hSw); go_simp; (try with_reducible rfl)
  try simp only [Act.put, zq1, zq2, zq3]
  refine wpAnyH_done (by kernel_rfl) ?_ _
  go_wp2
  go_ret
  exact ⟨⟨_, rfl, HV.out⟩, HB.out.trans (HBW.out.mono HWP.out)⟩
end Go.Proofs.YtpefjkndfifceaaGreatDoor
namespace Go.Proofs.YtpefjkndfifceaaGreatDoor
open Go.RowKit
set_option maxRecDepth 100000
def fillP (g : Nat) (A : List Nat) : List Nat := (A ++ List.replicate 64 0).take (mSize g)
theorem good_ems {g : Nat} (hh : IsHash g) (d s : List Nat) {sn n : Nat} (hsl : s.length = sn) (bs : Byt s) (hr : RoomP (g : Int) (sn : Int) (n : Int)) : GoodP (g : Int) (sn : Int) (n : Int) (emsP g d s n) := by
 obtain ⟨h1, h2, h3, h4, -⟩ := ems_fine hh d s hsl bs hr
 refine ⟨hr, ?_, ?_⟩ <;> simp only [Int.toNat_natCast]
 ·exact h4
 ·exact h1
theorem pencode_any (h : Int) (da : Option Addr) (dn dc : Nat) (d : List Nat) (sa : Option Addr) (sn sc : Nat) (s : List Nat) (n : Int) (n0 : -9223372036854775808 ≤ n) (n1 : n ≤ 9223372036854775807) (hn : n ≤ 100000 ∨ 524288 < n) (w : World) (hk : Kinds w) (hd : Reads .u8 w da dn dc d) (hs : Reads .u8 w sa sn sc s) (bd : Byt d) (bs : Byt s) :
  Calls Tryz.prog 81 #[.int .i64 h, .slice da dn dc, .slice sa sn sc, .int .i64 n] w fun e w' => Below w.heap.size w w' ∧
   (((RoomP h (sn : Int) n ∧ dn = mSize h.toNat) ∧ ∃ g, e = .returned (.tuple #[.slice (some ⟨g, 0, none⟩) (lenP n.toNat) (lenP n.toNat), .int .i64 0]) ∧ OwnQ .u8 5 w.heap.size w' (.slice (some ⟨g, 0, none⟩) (lenP n.toNat) (lenP n.toNat)) (emsP h.toNat d s n.toNat)) ∨
   (¬ (RoomP h (sn : Int) n ∧ dn = mSize h.toNat) ∧ e = .returned (.tuple #[.slice none 0 0, .int .i64 90]))) := by
 by_cases hr : RoomP h (sn : Int) n ∧ dn = mSize h.toNat
 ·obtain ⟨hrm, hdn⟩ := hr
  have hrm' := hrm
  obtain ⟨hh, hs0, hn2, hn5, hfit⟩ := hrm
  obtain ⟨g, rfl⟩ : ∃ g : Nat, h = (g : Int) := ⟨h.toNat, by rcases hh with e | e | e | e <;> omega⟩
  obtain ⟨m, rfl⟩ : ∃ m : Nat, n = (m : Int) := ⟨n.toNat, by omega⟩
  simp only [Int.toNat_natCast] at hh hdn ⊢
  refine (encode_p g hh da dn dc d sa sn sc s m w hk hd hs bd bs hrm' hdn (by omega)).mono ?_
  rintro e w' ⟨he, hb⟩
  exact ⟨hb, .inl ⟨⟨hrm', hdn⟩, he⟩⟩
 ·refine (encode_no h da dn dc sa sn sc n (by have := hd.len_le; unfold maxLen at this; exact this) (by have := hs.len_le; unfold maxLen at this; exact this) n0 n1 w hk hr).mono ?_
  rintro e w' ⟨he, hb⟩
  exact ⟨hb, .inr ⟨hr, he⟩⟩
theorem byt_rep (n : Nat) : Byt (List.replicate n 0) := fun x hx => by rw [List.eq_of_mem_replicate hx]; decide
end Go.Proofs.YtpefjkndfifceaaGreatDoor
namespace Go.Proofs
open Go.Shelf
def Tryz.lays128_ren : Go.Shelf.Ren := ⟨fun | 128 => 109 | n => n, fun | 51 => 71 | 3 => 3 | 4 => 4 | 46 => 89 | 5 => 5 | 9 => 9 | n => n, fun | n => n⟩
theorem Tryz.lays128 : Go.Proofs.Lays.n128 Tryz.prog Tryz.lays128_ren := {
 mixed := by kernel_rfl
 f128 := Tryz.func109.trans (congrArg some (by kernel_rfl))
 t3 := Tryz.underlying3
 a3 := Tryz.isAgg3
 z3 := Tryz.sizeOf3
 v3 := Tryz.zeroValue3
 t4 := Tryz.underlying4
 a4 := Tryz.isAgg4
 z4 := Tryz.sizeOf4
 v4 := Tryz.zeroValue4
 t5 := Tryz.underlying5
 a5 := Tryz.isAgg5
 z5 := Tryz.sizeOf5
 v5 := Tryz.zeroValue5
 t9 := Tryz.underlying9
 a9 := Tryz.isAgg9
 z9 := Tryz.sizeOf9
 v9 := Tryz.zeroValue9
 t46 := Tryz.underlying89
 a46 := Tryz.isAgg89
 z46 := Tryz.sizeOf89
 v46 := Tryz.zeroValue89
 t51 := Tryz.underlying71
 a51 := Tryz.isAgg71
 z51 := Tryz.sizeOf71
 v51 := Tryz.zeroValue71 }
theorem Tryz.bits_Len32 (x : Int) (w : World) (h0 : 0 ≤ x) (h1 : x ≤ 4294967295) :
  Calls Tryz.prog 109 #[.int .u32 x] w fun e w' => e = .returned (.int .i64 (Lib.bitLen x.toNat)) ∧ w' = w := Any.bits_Len32 Tryz.lays128 x w h0 h1
def Tryz.lays133_ren : Go.Shelf.Ren := ⟨fun | 133 => 142 | 128 => 109 | n => n, fun | 51 => 71 | 3 => 3 | 4 => 4 | 46 => 89 | 5 => 5 | 9 => 9 | n => n, fun | n => n⟩
end Go.Proofs
namespace Go.Proofs.YtpefjkndfifceaaGreatDoor
open Go.RowKit
def subD (x y b : Nat) : Nat := if x < y + b then x + 4294967296 - y - b else x - y - b
def subB (x y b : Nat) : Nat := if x < y + b then 1 else 0
theorem bit_cases (X Y D : Nat) (hX : X ≤ 1) (hY : Y ≤ 1) (hD : D ≤ 1) : ((1 ^^^ X) &&& Y) ||| ((1 ^^^ (X ^^^ Y)) &&& D) = if X = Y then D else Y := by
 have h1 : X = 0 ∨ X = 1 := by omega
 have h2 : Y = 0 ∨ Y = 1 := by omega
 have h3 : D = 0 ∨ D = 1 := by omega
 rcases h1 with rfl | rfl <;> rcases h2 with rfl | rfl <;> rcases h3 with rfl | rfl <;> rfl
theorem borrow_eq (x y b d : Nat) (hx : x < 4294967296) (hy : y < 4294967296) (hb : b ≤ 1) (hd : d = subD x y b) : (((4294967295 ^^^ x) &&& y) ||| ((4294967295 ^^^ (x ^^^ y)) &&& d)) / 2147483648 = subB x y b := by
 have hd2 : d < 4294967296 := by rw [hd]; unfold subD; split <;> omega
 have e : ∀ n : Nat, n / 2147483648 = n >>> 31 := fun n => by rw [Nat.shiftRight_eq_div_pow]
 rw [e, Nat.shiftRight_or_distrib, Nat.shiftRight_and_distrib, Nat.shiftRight_and_distrib, Nat.shiftRight_xor_distrib, Nat.shiftRight_xor_distrib, Nat.shiftRight_xor_distrib, show 4294967295 >>> 31 = 1 from rfl, ← e, ← e, ← e]
 rw [bit_cases _ _ _ (by omega) (by omega) (by omega)]
 subst hd
 unfold subD subB at *
 split <;> split <;> simp_all <;> omega
set_option maxHeartbeats 400000 in
theorem sub32_any (x y b : Nat) (w : World) (hx : x < 4294967296) (hy : y < 4294967296) (hb : b ≤ 1) :
  Calls Tryz.prog 111 #[.int .u32 (x : Int), .int .u32 (y : Int), .int .u32 (b : Int)] w fun e w' => e = .returned (.tuple #[.int .u32 (subD x y b : Nat), .int .u32 (subB x y b : Nat)]) ∧ w = w' := by
 have hd : (((x : Int) - (y : Int) - (b : Int)) % 4294967296) = ((subD x y b : Nat) : Int) := by unfold subD; split <;> omega
 have hd2 : subD x y b < 4294967296 := by unfold subD; split <;> omega
 have h2 := zH (borrow_eq x y b _ hx hy hb rfl)
 have hm : IntKind.u32.max = ((4294967295 : Nat) : Int) := rfl
 have n1 : 4294967295 ^^^ x < 4294967296 := Nat.xor_lt_two_pow (n := 32) (by decide) hx
 have n2 : x ^^^ y < 4294967296 := Nat.xor_lt_two_pow (n := 32) hx hy
 have n3 : 4294967295 ^^^ (x ^^^ y) < 4294967296 := Nat.xor_lt_two_pow (n := 32) (by decide) n2
 have h3 := zH (show bits BinOp.or IntKind.u32 (bits BinOp.and IntKind.u32 (bits BinOp.xor IntKind.u32 IntKind.u32.max (x : Int)) (y : Int)) (bits BinOp.and IntKind.u32 (bits BinOp.xor IntKind.u32 IntKind.u32.max (bits BinOp.xor IntKind.u32 (x : Int) (y : Int))) (((x : Int) - (y : Int) - (b : Int)) % 4294967296)) / 2147483648 = ((subB x y b : Nat) : Int) by
  rw [hd, hm, u32_xor_nat _ _ (by decide) hx, u32_and_nat _ _ n1 hy, u32_xor_nat _ _ hx hy, u32_xor_nat _ _ (by decide) n2, u32_and_nat _ _ n3 hd2, u32_or_nat _ _ (Nat.lt_of_le_of_lt Nat.and_le_left n1) (Nat.lt_of_le_of_lt Nat.and_le_left n3)]
  have := h2.out
  omega)
 have HD := zH hd
 clear hd hd2 hm n1 n2 n3
 go_enter Tryz.func111, Tryz.ntmps111
 go_wp2
 go_ret2
 exact ⟨by rw [← HD.out, ← h3.out]; rfl, rfl⟩
def bitsN (n : Nat) : Nat := if n = 0 then 0 else Nat.log2 n + 1
theorem bitsN_le (n k : Nat) : bitsN n ≤ k ↔ n < 2 ^ k := by
 unfold bitsN
 by_cases h : n = 0
 ·simp [h, Nat.pow_pos]
 ·rw [if_neg h, ← Nat.log2_lt h]; omega
theorem bitsN_uniq {n m : Nat} (h : ∀ k, m ≤ k ↔ n < 2 ^ k) : bitsN n = m := by
 have h1 := (bitsN_le n m).2 ((h m).1 (Nat.le_refl _))
 have h2 := (h (bitsN n)).2 ((bitsN_le n _).1 (Nat.le_refl _))
 omega
theorem bitLen_bitsN (x : Nat) (hx : x < 4294967296) : Lib.bitLen x = bitsN x := by
 by_cases h : x = 0
 ·subst h; rfl
 ·obtain ⟨h1, h2, h3⟩ := Lib.bitLenAux_bounds 64 x (Nat.lt_of_lt_of_le hx (by decide)) h
  symm
  apply bitsN_uniq
  intro k
  show Lib.bitLenAux 64 x ≤ k ↔ _
  constructor
  ·intro h4; exact Nat.lt_of_lt_of_le h3 (Nat.pow_le_pow_right (by decide) h4)
  ·intro h4
   apply Decidable.byContradiction
   intro h5
   have : 2 ^ k ≤ 2 ^ (Lib.bitLenAux 64 x - 1) := Nat.pow_le_pow_right (by decide) (by omega)
   omega
theorem bitsN_top (v d n : Nat) (hd : 0 < d) (hv : v < 2 ^ n) : bitsN (v + 2 ^ n * d) = n + bitsN d := by
 apply bitsN_uniq
 intro k
 by_cases hk : n ≤ k
 ·obtain ⟨j, rfl⟩ : ∃ j, k = n + j := ⟨k - n, by omega⟩
  rw [Nat.add_le_add_iff_left, bitsN_le, Nat.pow_add]
  constructor
  ·intro h
   have : 2 ^ n * (d + 1) ≤ 2 ^ n * 2 ^ j := Nat.mul_le_mul_left _ h
   rw [Nat.mul_add] at this
   omega
  ·intro h
   have h2 : 2 ^ n * d < 2 ^ n * 2 ^ j := by omega
   exact Nat.lt_of_mul_lt_mul_left h2
 ·constructor
  ·omega
  ·intro h
   have h1 : 2 ^ k ≤ 2 ^ n := Nat.pow_le_pow_right (by decide) (by omega)
   have h2 : 2 ^ n * 1 ≤ 2 ^ n * d := Nat.mul_le_mul_left _ hd
   omega
theorem bareN_bareN (l : List Nat) : bareN (bareN l) = bareN l := by
 induction l with
 | nil => rfl
 | cons d t ih =>
  rw [bareN]
  split
  ·rfl
  ·next hz =>
   rw [bareN, ih, if_neg hz]
theorem bare_top (l : List Nat) (k : Nat) (h : (bareN l).length = k + 1) : 0 < (bareN l)[k]?.getD 0 := by
 have h2 := bareN_bareN l
 generalize bareN l = m at *
 apply Nat.pos_of_ne_zero
 intro e
 have h3 : m = m.take k ++ [m[k]?.getD 0] := by rw [← take_snocN m k (by omega), List.take_of_length_le (by omega)]
 rw [e] at h3
 have h4 : (bareN m).length ≤ k := by
  rw [h3, bareN_snoc_zero]
  have := bareN_le (m.take k)
  rw [List.length_take] at this
  omega
 rw [h2] at h4
 omega
theorem bits_val {l : List Nat} (hL : Lim l) (k : Nat) (h : (bareN l).length = k + 1) : bitsN (val32 l) = 32 * k + bitsN ((bareN l)[k]?.getD 0) := by
 have h1 := bare_top l k h
 have hb := bareN_val 4294967296 l
 have hLm : Lim (bareN l) := fun x hx => hL x (bareN_mem hx)
 generalize bareN l = m at *
 have h3 : m = m.take k ++ [m[k]?.getD 0] := by rw [← take_snocN m k (by omega), List.take_of_length_le (by omega)]
 have h4 := valB_lt (b := 4294967296) (by decide) (l := m.take k) (fun x hx => hLm x (List.mem_of_mem_take hx))
 rw [List.length_take, Nat.min_eq_left (by omega)] at h4
 have h5 : (4294967296 : Nat) ^ k = 2 ^ (32 * k) := by rw [Nat.pow_mul]
 have h6 : valB 4294967296 m = valB 4294967296 (m.take k) + 4294967296 ^ k * (m[k]?.getD 0) := by
  conv => lhs; rw [h3, valB_snoc, List.length_take, Nat.min_eq_left (show k ≤ m.length by omega)]
 rw [h5] at h4 h6
 rw [← bitsN_top _ _ _ h1 h4, ← h6, hb]
theorem len32_any (d : Nat) (w : World) (hd : d < 4294967296) : Calls Tryz.prog 109 #[.int .u32 (d : Int)] w fun e w' => e = .returned (.int .i64 (bitsN d : Nat)) ∧ w = w' :=
 (Tryz.bits_Len32 d w (by omega) (by omega)).mono fun e w' ⟨he, hw⟩ => ⟨by rw [he, Int.toNat_natCast, bitLen_bitsN d hd], hw.symm⟩
set_option maxHeartbeats 400000 in
theorem bits_any (a : Option Addr) (len cap : Nat) (l : List Nat) (w : World) (h : Reads .u32 w a len cap l) (hL : Lim l) (hm : len ≤ 288230376151711743) :
  Calls Tryz.prog 71 #[.slice a len cap] w fun e w' => e = .returned (.int .i64 (bitsN (val32 l) : Nat)) ∧ w = w' := by
 have hb := h.bare
 have hbl := bareN_le l
 rw [h.length] at hbl
 have HB := zH (bare32_any a len cap l w h)
 have hbv := bits_val hL
 have hz : (bareN l).length = 0 → val32 l = 0 := fun e => by
  have e1 : bareN l = [] := List.eq_nil_of_length_eq_zero e
  rw [bareN_nat hL] at e1
  exact (natB_nil (by decide)).1 e1
 have hLm : Lim (bareN l) := fun x hx => hL x (bareN_mem hx)
 clear h
 generalize bareN l = m at *
 have HM := zH hb
 clear hb
 cases hk : m.length with
 | zero =>
  have hr := zH (show bitsN (val32 l) = 0 by rw [hz hk]; rfl)
  clear hz hbv
  rw [hk] at HB
  clear hk
  go_enter Tryz.func71, Tryz.ntmps71
  go_wp2_with fail
  refine HB.out.mono ?_
  rintro e w1 ⟨rfl, rfl⟩
  go_wp2
  go_ret
  exact ⟨by rw [hr.out]; rfl, rfl⟩
 | succ k =>
  have hr := zH (hbv k hk)
  rw [hk] at HB HM hbl
  clear hz hbv hk
  have hd := lim_get hLm k
  obtain ⟨b, off, rfl, hbk, hc⟩ := HM.out.cells (by omega)
  have hck := hc k (by omega)
  clear hc hLm
  generalize m[k]?.getD 0 = d at *
  have hb32 := (bitsN_le d 32).2 hd
  go_enter Tryz.func71, Tryz.ntmps71
  go_wp2_with fail
  refine HB.out.mono ?_
  rintro e w1 ⟨rfl, rfl⟩
  go_wp2_with (go_at_call 109; refine (len32_any d _ hd).mono ?_; rintro e w' ⟨rfl, rfl⟩)
  go_ret
  exact ⟨by rw [hr.out]; simp, rfl⟩
end Go.Proofs.YtpefjkndfifceaaGreatDoor
namespace Go.Proofs.YtpefjkndfifceaaGreatDoor
open Go.RowKit
theorem bit_eq (v d q r k : Nat) (hd : d = v / 4294967296 ^ q % 4294967296) (hr : r < 32) (hk : k = 32 * q + r) : (bits BinOp.and IntKind.u32 ((d : Int) / 2 ^ r) 1 == 1) = v.testBit k := by
 have hlt : d < 4294967296 := by rw [hd]; exact Nat.mod_lt _ (by decide)
 have e1 : ((d : Int) / 2 ^ r) = ((d / 2 ^ r : Nat) : Int) := by rw [Int.natCast_ediv]; simp
 have e2 : d / 2 ^ r < 4294967296 := Nat.lt_of_le_of_lt (Nat.div_le_self _ _) hlt
 rw [e1, show (1 : Int) = ((1 : Nat) : Int) from rfl, u32_and_nat _ 1 e2 (by decide), Nat.and_one_is_mod]
 have e3 : v.testBit k = d.testBit r := by
  rw [hd, show (4294967296 : Nat) ^ q = 2 ^ (32 * q) by rw [Nat.pow_mul], show (4294967296 : Nat) = 2 ^ 32 from rfl, Nat.testBit_mod_two_pow, Nat.testBit_div_two_pow, hk]
  simp [hr, Nat.add_comm]
 rw [e3, Nat.testBit_eq_decide_div_mod_eq]
 rw [Bool.eq_iff_iff]
 simp
 omega
set_option maxHeartbeats 400000 in
theorem bit_any (a : Option Addr) (len cap : Nat) (l : List Nat) (w : World) (h : Reads .u32 w a len cap l) (hL : Lim l) (i : Int) (hi : i ≤ 9223372036854775807) :
  Calls Tryz.prog 113 #[.slice a len cap, .int .i64 i] w fun e w' => e = .returned (.bool (decide (0 ≤ i) && (val32 l).testBit i.toNat)) ∧ w = w' := by
 by_cases h0 : i < 0
 ·have e := zH (show (decide (0 ≤ i) && (val32 l).testBit i.toNat) = false by simp; omega)
  go_enter Tryz.func113, Tryz.ntmps113
  go_wp2
  go_ret
  exact ⟨by rw [e.out]; rfl, rfl⟩
 ·obtain ⟨k, rfl⟩ := Int.eq_ofNat_of_zero_le (show 0 ≤ i by omega)
  have hq : (k : Int) / 32 = ((k / 32 : Nat) : Int) := by omega
  have hr : (k : Int) % 32 = ((k % 32 : Nat) : Int) := by omega
  have hr2 : k % 32 < 32 := by omega
  have hbe := fun d hd => bit_eq (val32 l) d (k / 32) (k % 32) k hd (by omega) (by omega)
  have hg := valB_get (b := 4294967296) (by decide) hL (k / 32)
  have HB := zH (hbe _ hg)
  clear hbe hg
  generalize k / 32 = q at *
  generalize k % 32 = r at *
  go_enter Tryz.func113, Tryz.ntmps113
  go_wp2_with fail
  refine (limb_any a len cap l _ h q q rfl).mono ?_
  rintro e w1 ⟨rfl, rfl⟩
  have hd := lim_get hL q
  generalize l[q]?.getD 0 = d at *
  go_wp2
  go_ret
  exact ⟨by have := HB.out; simp only [show decide (0 ≤ (k : Int)) = true from decide_eq_true (by omega), Bool.true_and, Int.toNat_natCast]; rw [← this]; rfl, rfl⟩
theorem wpList_make_lc {P : Program} (q : IntKind) (w : World) {ops : Array Oper} {rest : List Oper} {o : Oper} {a : Act} {Q : Exit → Act → World → Prop}
  (hg : o.guard = none) (l c : Operand) (t : TypeId) (hop : o.op = Op.makeSlice t l c)
  (base : Nat) (e : TypeId) (i : TypeInfo) (h1 : P.underlying t = some (.slice e)) (h2 : P.info? e = some i) (h3 : i.zero = some (.int q 0)) (h4 : i.size = 1)
  (kl kc : IntKind) (L C : Int) (m n : Nat) (hl : a.eval l = .int kl L) (hc : a.eval c = .int kc C) (hL : L = (m : Int)) (hC : C = (n : Int)) (hmn : m ≤ n) (b2 : i.bytes * n ≤ 281474976710656) (b3 : n ≤ maxLen) (b4 : base ≤ w.heap.size)
  (hK : ∀ w', OwnQ q e base w' (.slice (some ⟨w.heap.size, 0, none⟩) m n) (List.replicate m 0) → w.grownBy w' none → wpList P ops Q rest (a.put o.dst (.slice (some ⟨w.heap.size, 0, none⟩) m n)) w') :
  wpList P ops Q (o :: rest) a w := by
 refine wpList_plain hg fun K hK' => ?_
 subst hL
 subst hC
 have h63' : (n : Int) ≤ 9223372036854775807 := by
  have h := b3
  simp [maxLen] at h
  omega
 have hb' : (i.bytes : Int) * (n : Int) ≤ 281474976710656 := by
  have h : ((i.bytes * n : Nat) : Int) ≤ 281474976710656 := by omega
  rwa [Int.natCast_mul] at h
 have hr := run_make (P := P) w t e i (.int q 0) h1 h2 h3 kl kc m n (by omega) (by omega) hb' h63'
 simp only [Int.toNat_natCast] at hr
 have hown : OwnQ q e base (w.alloc (.cells (madeCells (Value.int q 0).cells (n * i.size)) e)) (.slice (some ⟨w.heap.size, 0, none⟩) n n) (List.replicate n 0) := by
  rw [h4]
  exact OwnQ.made (World.ownsRow_lit w _ n b4 b3 (size_madeCells _ _)) rfl
 have hup := hown.upto m hmn
 rw [List.take_replicate, Nat.min_eq_left hmn] at hup
 unfold Oper.wp
 simp [execOp, hop, hl, hc, hr, Result.andThen]
 exact hK' _ _ (hK _ hup (World.grownBy_alloc w _ none))
def shlR (v : Nat) (n : Int) : List Nat × Int := if n < 0 then ([], 2) else cutR32 (v * 2 ^ n.toNat)
def shrR (v : Nat) (n : Int) : List Nat × Int := if n < 0 then ([], 2) else if v < topN then (nat32 (v / 2 ^ n.toNat), 0) else ([], 20)
theorem topN_pos : 0 < topN := by unfold topN; exact Nat.pow_pos (by decide)
theorem topN_two : topN = 2 ^ 8192 := by
 have h : ∀ a b c d e : Nat, a = b ^ c → e = c * d → a ^ d = b ^ e := by
  rintro a b c d e rfl rfl
  exact (Nat.pow_mul b c d).symm
 exact h 4294967296 2 32 256 8192 (by decide) (by decide)
theorem shl_small {v n : Nat} (hv : 0 < v) : v * 2 ^ n < topN ↔ n + bitsN v ≤ 8192 := by
 rw [topN_two]
 have h := bitsN_top 0 v n hv (Nat.pow_pos (by decide))
 rw [Nat.zero_add, Nat.mul_comm] at h
 rw [← h, bitsN_le]
theorem shl_step (v low x r : Nat) (B : Nat) : v + B * ((low + x * 2 ^ r) % 4294967296) + B * 4294967296 * ((low + x * 2 ^ r) / 4294967296) = v + B * low + B * x * 2 ^ r := by
 have h := Nat.mod_add_div (low + x * 2 ^ r) 4294967296
 have h2 : B * ((low + x * 2 ^ r) % 4294967296 + 4294967296 * ((low + x * 2 ^ r) / 4294967296)) = B * (low + x * 2 ^ r) := by rw [h]
 rw [Nat.mul_add, Nat.mul_add] at h2
 rw [Nat.mul_assoc B x, Nat.mul_assoc B 4294967296]
 omega
theorem or64 (low x r : Nat) (hr : r < 32) (hl : low < 2 ^ r) (hx : x < 4294967296) : bits BinOp.or IntKind.u64 (low : Int) (IntKind.u64.wrap ((x : Int) * 2 ^ r)) = ((low + x * 2 ^ r : Nat) : Int) := by
 have h1 : 2 ^ r ≤ 2 ^ 31 := Nat.pow_le_pow_right (by decide) (by omega)
 have h2 : x * 2 ^ r ≤ 4294967295 * 2 ^ 31 := Nat.mul_le_mul (by omega) h1
 have e : ((x : Int) * 2 ^ r) = ((x * 2 ^ r : Nat) : Int) := by simp
 have e2 : IntKind.u64.wrap ((x * 2 ^ r : Nat) : Int) = ((x * 2 ^ r : Nat) : Int) := by
  generalize x * 2 ^ r = y at *
  simp only [IntKind.wrap, IntKind.bits, IntKind.signed]
  simp
  omega
 rw [e, e2, u64_or_nat _ _ (by omega) (by omega), shl_or low x r _ rfl hl, Nat.mul_comm]
set_option maxRecDepth 100000 in
set_option maxHeartbeats 1000000 in
theorem shl_any (a : Option Addr) (len cap : Nat) (l : List Nat) (w : World) (h : Reads .u32 w a len cap l) (hL : Lim l) (n : Int) (hn : n ≤ 9223372036854775807) :
  Calls Tryz.prog 28 #[.slice a len cap, .int .i64 n] w fun e w' => RetsQ2 .u32 71 w.heap.size w' (shlR (val32 l) n) e ∧ Below w.heap.size w w' := by
 obtain ⟨i0, hi, hz0, hz1, hz2⟩ := info_parts Tryz.info32
 by_cases h0 : n < 0
 ·have hr := zH (show shlR (val32 l) n = ([], 2) from if_pos h0)
  go_enter Tryz.func28, Tryz.ntmps28
  go_wp2
  go_ret2
  refine ⟨⟨_, by rw [hr.out]; rfl, ?_⟩, Below.refl _ _⟩
  rw [hr.out]; exact OwnQ.nil _ _ _ _
 obtain ⟨k, rfl⟩ := Int.eq_ofNat_of_zero_le (show 0 ≤ n by omega)
 have hR := zH (show shlR (val32 l) (k : Int) = cutR32 (val32 l * 2 ^ k) by unfold shlR; rw [if_neg (by omega), Int.toNat_natCast])
 clear h0
 have hb := h.bare
 have hbl := bareN_le l
 have hmx := h.len_le
 unfold maxLen at hmx
 rw [h.length] at hbl
 have HB := zH (bare32_any a len cap l w h)
 have hci := cut_iff l hL
 have hbn := bareN_nat hL
 have HV := zH (bareN_val 4294967296 l)
 have hLm : Lim (bareN l) := fun x hx => hL x (bareN_mem hx)
 clear h
 generalize bareN l = m at *
 have HM := zH hb
 have HLm := zH hLm
 clear hb hLm
 have HBN := zH hbn
 clear hbn
 generalize hMM : m.length = M at *
 have HMM := zH hMM
 clear hMM
 by_cases hc : M ≤ 256
 ·have hvt := hci.1 hc
  have HVT := zH hvt
  clear hci hvt
  go_enter Tryz.func28, Tryz.ntmps28
  go_wp2_with fail
  refine HB.out.mono ?_
  rintro e w1 ⟨rfl, rfl⟩
  go_wp2_with fail
  refine (may1_any w.heap.size a M cap _ (World.cell?_alloc_at _ _ _ _ rfl) true (by simp [hc]) (by omega)).mono ?_
  rintro e w1 ⟨rfl, rfl⟩
  rcases Nat.eq_zero_or_pos M with rfl | hp
  ·have hz := zH (show cutR32 (val32 l * 2 ^ k) = ([], 0) by
    have e : val32 l = 0 := by
     have h1 := HBN.out
     rw [List.eq_nil_of_length_eq_zero HMM.out] at h1
     exact (natB_nil (by decide)).1 h1.symm
    rw [e, Nat.zero_mul, cutR_small topN_pos]
    rw [show nat32 0 = [] from natB_zero _])
   go_wp2
   go_ret2
   refine ⟨⟨_, by rw [hR.out, hz.out]; rfl, ?_⟩, (Below.refl _ _).alloc (Nat.le_refl _) _⟩
   rw [hR.out, hz.out]; exact OwnQ.nil _ _ _ _
  ·have hvp : 0 < val32 l := by
    apply Nat.pos_of_ne_zero
    intro e
    have h1 := HBN.out
    rw [e, show nat32 0 = [] from natB_zero _] at h1
    have := HMM.out
    rw [h1] at this
    simp at this
    omega
   have hsm := shl_small (n := k) hvp
   have hmz : ((M : Int) == 0) = false := by simp; omega
   have HB8 := zH (bits_any a M cap m _ (HM.out.below ((Below.refl w.heap.size w).alloc (Nat.le_refl _) (.cells #[.slice a M cap] 44))) HLm.out (by omega))
   rw [show val32 m = val32 l from HV.out] at HB8
   have hbits := (bitsN_le (val32 l) 8192).2 (by rw [← topN_two]; exact HVT.out)
   generalize bitsN (val32 l) = bn at *
   clear hvp
   by_cases hk : k + bn ≤ 8192
   ·have HV2 := zH (hsm.2 hk)
    clear hsm
    have hdec : decide ((8192 : Int) - (bn : Int) < (k : Int)) = false := by simp; omega
    have hkq : (k : Int) / 32 = ((k / 32 : Nat) : Int) := by omega
    have hkr : (k : Int) % 32 = ((k % 32 : Nat) : Int) := by omega
    have hr32 : k % 32 < 32 := by omega
    have HK := zH (show k = 32 * (k / 32) + k % 32 by omega)
    have hq8 : k / 32 ≤ 256 := by omega
    generalize k / 32 = q at *
    generalize k % 32 = r at *
    go_wp2_with (first | (go_at_call 71; refine HB8.out.mono ?_; rintro e w' ⟨rfl, rfl⟩) | (at_make; refine wpList_make_lc .u32 _ rfl _ _ 44 rfl w.heap.size 71 i0 Tryz.underlying44 hi hz0 hz1 _ _ _ _ q (q + M + 1) rfl rfl (by omega) (by omega) (by omega) (by rw [hz2]; omega) (by unfold maxLen; omega) (by simp) ?_; intro w1 hown hgrow))
    have hb1 : Below w.heap.size w w1 := ((Below.refl _ _).alloc (Nat.le_refl _) _).grown hgrow (by simp) (fun _ h => by cases h)
    simp only [World.size_alloc] at hown
    have HO := zH hown
    have HB1 := zH hb1
    clear hown hgrow hb1
    have h2r := zH (Nat.pow_le_pow_right (show 0 < 2 by decide) (show r ≤ 31 by omega))
    go_loopw [6, 7, 40] (fun v lo i wr => ∃ (j : Nat) (O : List Nat) (low : Nat), i = .int .i64 j ∧ lo = .int .u64 (low : Int) ∧ j ≤ M ∧ OwnQ .u32 71 w.heap.size wr v O ∧ Hid (O.length = q + j ∧ Lim O ∧ low < 2 ^ r ∧ val32 O + 4294967296 ^ (q + j) * low = val32 (m.take j) * 2 ^ k) ∧ Hid (Below w.heap.size w wr)) (fun _ _ i _ => M - (intOf i).toNat)
    case atStart => exact ⟨0, _, 0, rfl, rfl, Nat.zero_le _, HO.out, ⟨by simp, fun x hx => by rw [List.eq_of_mem_replicate hx]; decide, Nat.pow_pos (by decide), by rw [List.take_zero]; simp [val32, valB_zeros, valB]⟩, HB1.out⟩
    case round =>
     obtain ⟨j, O, low, rfl, rfl, hj, hown, hinv, hbel⟩ := hrel
     obtain ⟨ov, on, oc, rfl, -, hown⟩ := hown.slice
     by_cases hlt : j < M
     ·obtain ⟨b, off, rfl, hbk, hc2⟩ := (HM.out.below hbel.out).cells (by omega)
      have hck := hc2 j hlt
      have hx := lim_get HLm.out j
      have hst := zH (valB_succ (b := 4294967296) m j)
      clear hc2
      obtain ⟨i1, i2, i3, i4⟩ := hinv.out
      have I1 := zH i1
      have I2 := zH i2
      have I4 := zH i4
      clear i1 i2 i4
      generalize m[j]?.getD 0 = x at *
      have hor := or64 low x r hr32 i3 hx
      have hlow : low < 2147483648 := by have := h2r.out; omega
      have I3 := zH i3
      clear i3
      have hx2 : x * 2 ^ r ≤ 4294967295 * 2147483648 := Nat.mul_le_mul (by omega) h2r.out
      have hss := zH (shl_step (val32 O) low x r (4294967296 ^ (q + j)))
      have hlo2 : (low + x * 2 ^ r) / 4294967296 < 2 ^ r := by
       have e1 : x * 2 ^ r + 2 ^ r ≤ 4294967296 * 2 ^ r := by rw [← Nat.succ_mul]; exact Nat.mul_le_mul_right _ (by omega)
       have e2 := I3.out
       rw [Nat.div_lt_iff_lt_mul (by decide)]
       omega
      have HL2 := zH hlo2
      clear hlo2
      generalize hsg : low + x * 2 ^ r = s at *
      have HS := zH hsg
      have hs63 : s < 9223372036854775808 := by omega
      clear hsg hx2 hlow
      have hbs := hbel.out.size
      have HO1 := zH hown
      have hlen : O.length ≤ 1000 := by have := I1.out; omega
      clear hown
      go_wp2_with (at_builtin; refine wpList_append_q .u32 _ rfl _ _ 44 rfl w.heap.size 71 4 i0 Tryz.underlying44 hi hz0 hz1 hz2 (by decide) _ O rfl (HO1.out.alloc _) _ _ _ [s % 4294967296] rfl (Reads.one .u32 _ _ _ _ (by omega)) (by omega) (by simp; omega) ?_; intro v' w2 hown2 hgrow)
      go_roundw
      case rel =>
       refine ⟨j + 1, O ++ [s % 4294967296], s / 4294967296, by go_num, by go_num, by omega, hown2, ⟨by simp [I1.out]; omega, ?_, HL2.out, ?_⟩, hgrow _ (hbel.out.alloc hbs _)⟩
       ·intro y hy
        rcases List.mem_append.1 hy with h | h
        ·exact I2.out y h
        ·obtain rfl := List.mem_singleton.1 h; exact Nat.mod_lt _ (by decide)
       ·have e1 := I4.out
        have e2 := hss.out
        have e3 := hst.out
        have e4 : 2 ^ k = 4294967296 ^ q * 2 ^ r := by rw [HK.out, Nat.pow_add, Nat.pow_mul]
        have e5 : 4294967296 ^ j * x * 2 ^ k = 4294967296 ^ (q + j) * x * 2 ^ r := by
         rw [e4, Nat.pow_add]
         simp only [Nat.mul_assoc, Nat.mul_comm, Nat.mul_left_comm]
        simp only [val32, valB_snoc, I1.out] at e1 e2 ⊢
        rw [e3, Nat.add_mul, e5, ← e1]
        have e6 : 4294967296 ^ (q + (j + 1)) = 4294967296 ^ (q + j) * 4294967296 := by rw [← Nat.pow_succ]; rfl
        rw [e6, e2]
      case measure => simp [intOf] <;> omega
     ·obtain rfl : j = M := by omega
      obtain ⟨i1, i2, i3, i4⟩ := hinv.out
      rw [List.take_of_length_le (by rw [HMM.out]; exact Nat.le_refl _)] at i4
      have hlow : low < 4294967296 := by have := h2r.out; omega
      have hfin := zH (show bareN (O ++ [low]) = nat32 (val32 l * 2 ^ k) by
       rw [bareN_nat (fun y hy => by
        rcases List.mem_append.1 hy with h | h
        ·exact i2 y h
        ·obtain rfl := List.mem_singleton.1 h; exact hlow)]
       have e := HV.out
       simp only [val32, valB_snoc, i1] at i4 ⊢
       rw [i4, e])
      have I1 := zH i1
      clear i1 i2 i3 i4
      have hbs := hbel.out.size
      have HO1 := zH hown
      have hlen : O.length ≤ 1000 := by have := I1.out; omega
      clear hown
      go_wp2_with (first | (at_builtin; refine wpList_append_q .u32 _ rfl _ _ 44 rfl w.heap.size 71 4 i0 Tryz.underlying44 hi hz0 hz1 hz2 (by decide) _ O rfl (HO1.out.alloc _) _ _ _ [low] rfl (Reads.one .u32 _ _ _ _ rfl) (by omega) (by simp; omega) ?_; intro v' w2 hown2 hgrow; obtain ⟨av, an, ac, rfl, hl2, hown2⟩ := hown2.slice; have HO2 := zH hown2; have HL2 := zH hl2; clear hown2 hl2) | (go_at_call 69; refine (bare32_any _ _ _ _ _ HO2.out.reads).mono ?_; rintro e w3 ⟨rfl, rfl⟩))
      go_ret2
      have hu := HO2.out.upto (bareN (O ++ [low])).length (by rw [HL2.out]; exact bareN_le _)
      rw [← bareN_prefix] at hu
      refine ⟨⟨_, by rw [hR.out, cutR_small HV2.out]; rfl, ?_⟩, hgrow _ (hbel.out.alloc hbs _)⟩
      rw [hR.out, cutR_small HV2.out]
      rw [hfin.out] at hu ⊢
      exact hu
   ·have hr := zH (show cutR32 (val32 l * 2 ^ k) = ([], 20) from cutR_large (fun h => hk (hsm.1 h)))
    have hdec : decide ((8192 : Int) - (bn : Int) < (k : Int)) = true := by simp; omega
    clear hsm
    go_wp2_with (go_at_call 71; refine HB8.out.mono ?_; rintro e w' ⟨rfl, rfl⟩)
    go_ret2
    refine ⟨⟨_, by rw [hR.out, hr.out]; rfl, ?_⟩, (Below.refl _ _).alloc (Nat.le_refl _) _⟩
    rw [hR.out, hr.out]; exact OwnQ.nil _ _ _ _
 ·have hr := zH (show cutR32 (val32 l * 2 ^ k) = ([], 20) from cutR_large (fun h => hc (hci.2 (Nat.lt_of_le_of_lt (Nat.le_mul_of_pos_right _ (Nat.pow_pos (by decide))) h))))
  clear hci
  go_enter Tryz.func28, Tryz.ntmps28
  go_wp2_with fail
  refine HB.out.mono ?_
  rintro e w1 ⟨rfl, rfl⟩
  go_wp2_with fail
  refine (may1_any w.heap.size a M cap _ (World.cell?_alloc_at _ _ _ _ rfl) false (by simp; omega) (by omega)).mono ?_
  rintro e w1 ⟨rfl, rfl⟩
  go_wp2
  go_ret2
  refine ⟨⟨_, by rw [hR.out, hr.out]; rfl, ?_⟩, (Below.refl _ _).alloc (Nat.le_refl _) _⟩
  rw [hR.out, hr.out]; exact OwnQ.nil _ _ _ _
end Go.Proofs.YtpefjkndfifceaaGreatDoor
namespace Go.Proofs.YtpefjkndfifceaaGreatDoor
open Go.RowKit
theorem below_drewN {B : Nat} {a w : World} (h : Below B a w) (n : Nat) : Below B a (w.drewN n) := h.trans ⟨rfl, rfl, rfl, Nat.le_refl _, fun _ _ => rfl⟩
theorem or_lo (x y : Nat) (hx : x < 4294967296) (hy : y < 4294967296) : bits BinOp.or IntKind.u64 ((x : Int) * 4294967296) (y : Int) = ((x * 4294967296 + y : Nat) : Int) := by
 rw [or32 x y hx hy]; congr 1; omega
end Go.Proofs.YtpefjkndfifceaaGreatDoor
namespace Go.Proofs.YtpefjkndfifceaaGreatDoor
open Go.RowKit Go.Shelf
attribute [local go_sem] Oper.semAt_some
theorem boxed_other {W : World} {B : Nat} {t : TypeId} {v : Value} (h : Boxed W B t v) (p : Addr) (u : Value) (hp : B ≠ p.block) : Boxed (W.setCell p u) B t v := (Below.heap_setCell W p u B hp).trans h
theorem Boxed.keptCells {W W' : World} {row : Option Nat} {B : Nat} {t : TypeId} {v : Value} (h : Boxed W B t v) (hg : W.grownBy W' row) (hr : ∀ r, row = some r → ∃ o : Obj, W.heap[r]? = some o ∧ o.isCells = false) : Boxed W' B t v :=
 Boxed.kept h hg fun e' => by obtain ⟨o, ho, hc⟩ := hr B e'.symm; rw [show W.heap[B]? = _ from h] at ho; cases ho; cases hc
theorem boxed_same {W W' : World} {B : Nat} {t t' : TypeId} {v v' : Value} (h : Boxed W B t v) (k : Boxed W' B t v) (g : Boxed W B t' v') : Boxed W' B t' v' := by
 have e : W'.heap[B]? = W.heap[B]? := Eq.trans k (Eq.symm h)
 exact e.trans g
set_option maxRecDepth 100000 in
set_option maxHeartbeats 2000000 in
theorem cmp_any (a a' : Option Addr) (nx cx ny cy : Nat) (lx ly : List Nat) (w : World) (hx : Reads .u32 w a nx cx lx) (hy : Reads .u32 w a' ny cy ly) (hLx : Lim lx) (hLy : Lim ly) :
  Calls Tryz.prog 104 #[.slice a nx cx, .slice a' ny cy] w fun e w' => e = .returned (.int .i64 (ordN (val32 lx) (val32 ly))) ∧ Below w.heap.size w w' := by
 have HX := zH hx
 have HY := zH hy
 clear hx hy
 refine (callsIn_wide (n := 3)).1 ?_
 refine callsIn_of_wp_marks Tryz.func104 rfl trivial ?_ rfl
 simp only [Tryz.ntmps104, List.size_toArray, List.length_cons, List.length_nil, Nat.reduceAdd, Nat.reduceSub, Array.replicate_succ, Array.replicate_zero, List.push_toArray, List.append_toArray, List.nil_append, List.cons_append]
 gi_wp2
 refine wpIn_wide.2 (wp_scope_straight ((wpIn_wide (n := 3)).1 ?_))
 gi_wp2
 refine wpIn_label ?_
 gi_wp2_with (refine ⟨trivial, ?_⟩; gi_at_call 136; refine (callsIn_wide.2 (down_any _ _ _ _ _ _ _)).mono ?_; rintro e w' ⟨rfl, rfl⟩)
 have bA := ((Boxed.new w 3 (.int .i64 0)).alloc (.cells #[.slice a nx cx] 44)).alloc (.cells #[.slice a' ny cy] 44)
 have bX := (Boxed.new (w.alloc (.cells #[.int .i64 0] 3)) 44 (.slice a nx cx)).alloc (.cells #[.slice a' ny cy] 44)
 have bY := Boxed.new ((w.alloc (.cells #[.int .i64 0] 3)).alloc (.cells #[.slice a nx cx] 44)) 44 (.slice a' ny cy)
 have hBW := (((Below.refl w.heap.size w).alloc (Nat.le_refl _) (.cells #[.int .i64 0] 3)).alloc (by simp only [World.size_alloc]; omega) (.cells #[.slice a nx cx] 44)).alloc (by simp only [World.size_alloc]; omega) (.cells #[.slice a' ny cy] 44)
 simp only [World.size_alloc] at bX bY
 obtain ⟨W0, hW0⟩ : ∃ W0, ((w.alloc (.cells #[.int .i64 0] 3)).alloc (.cells #[.slice a nx cx] 44)).alloc (.cells #[.slice a' ny cy] 44) = W0 := ⟨_, rfl⟩
 have hsz1 : W0.heap.size = w.heap.size + 3 := by rw [← hW0]; simp
 rw [hW0] at bA bX bY hBW ⊢
 clear hW0
 have h1 : 1 ≤ 3 := by decide
 obtain ⟨m, hm⟩ : ∃ m, m = max nx ny := ⟨_, rfl⟩
 refine wpIn_rangeFunc_ownF (F := Fence.wide) rfl h1 (gf := 173) (lb := #[.pointer (some ⟨w.heap.size + 1, 0, none⟩), .pointer (some ⟨w.heap.size + 1 + 1, 0, none⟩)]) rfl trivial (enters_of Tryz.func173 (by kernel_rfl) rfl)
  (down_stops (3 - 1) (by decide) w.heap.size (w.heap.size + 1) (w.heap.size + 1 + 1) a a' nx cx ny cy lx ly hLx hLy W0 bX bY (HX.out.below hBW) (HY.out.below hBW) HX.out.block HY.out.block (by omega) m hm) kpUp_t (kpUp_b (by omega)) (Below.refl _ _) (fun _ => rfl)
  (fun pre W => (Boxed W w.heap.size 3 (.int .i64 0) ∧ Boxed W (w.heap.size + 1) 44 (.slice a nx cx) ∧ Boxed W (w.heap.size + 1 + 1) 44 (.slice a' ny cy) ∧ Hid (∀ p ∈ pre, p.1.1 = p.1.2)) ∧ Below w.heap.size w W)
  (fun c pre W => (c = .exit 0 ∧ ∃ r : Int, Boxed W w.heap.size 3 (.int .i64 r) ∧ Hid (Broke pre r)) ∧ Below w.heap.size w W)
  (OwnFrom.and (fun s X Y row hs hg hr => ⟨Boxed.keptCells hs.1 hg (fun r e => (hr r e).2), Boxed.keptCells hs.2.1 hg (fun r e => (hr r e).2), Boxed.keptCells hs.2.2.1 hg (fun r e => (hr r e).2), hs.2.2.2⟩) (ownFrom_below (Nat.le_refl _) (by omega)))
  (fun c => OwnFrom.and (fun s X Y row hs hg hr => ⟨hs.1, hs.2.elim fun r hr2 => ⟨r, Boxed.keptCells hr2.1 hg (fun r e => (hr r e).2), hr2.2⟩⟩) (ownFrom_below (Nat.le_refl _) (by omega)))
  ⟨⟨bA, bX, bY, fun _ h => by cases h⟩, hBW⟩
  (fun x => { tmps := #[.slice a nx cx, .slice a' ny cy, undef, undef, .int .i64 0, .pointer (some ⟨w.heap.size, 0, none⟩), .int .u32 (x.1.1 : Int), .int .u32 (x.1.2 : Int), .slice a nx cx, .slice a' ny cy, .func (.func 173) #[] #[.pointer (some ⟨w.heap.size + 1, 0, none⟩), .pointer (some ⟨w.heap.size + 1 + 1, 0, none⟩)], .int .u32 (x.1.1 : Int), .int .u32 (x.1.2 : Int), undef, undef, undef, undef, undef, undef, undef, undef, undef], defers := [] }) ?assign ?body ?done ?stop
 case assign =>
  intro lp x W K hK
  gi_wp2
  exact hK
 case body =>
  rintro lp pre x W ⟨⟨bA, bX, bY, hok⟩, hB⟩ hlt
  have cA := bA.cell
  have fA := bA.frozen
  have BA := zH bA
  have BX := zH bX
  have BY := zH bY
  clear bA bX bY
  rcases Nat.lt_trichotomy x.1.1 x.1.2 with hc | hc | hc
  ·have HC := zH hc
   gi_wp2
   exact ⟨KeepsOthers.setCell _ _ _, ⟨rfl, _, BA.out.set _, ⟨pre, x, rfl, hok.out, .inl ⟨HC.out, rfl⟩⟩⟩, hB.setCell (p := ⟨w.heap.size, 0, none⟩) (Nat.le_refl _) _⟩
  ·have HC := zH hc
   have t1 : decide (x.1.1 < x.1.2) = false := by simp; omega
   have t2 : decide (x.1.2 < x.1.1) = false := by simp; omega
   clear hc
   gi_wp2
   exact ⟨KeepsOthers.refl _, ⟨Below.refl _ _, fun _ _ h => h, fun _ _ h => h⟩, ⟨BA.out, BX.out, BY.out, fun p hp => by
    rcases List.mem_append.1 hp with h | h
    ·exact hok.out p h
    ·obtain rfl := List.mem_singleton.1 h; exact HC.out⟩, hB⟩
  ·have HC := zH hc
   have t1 : decide (x.1.1 < x.1.2) = false := by simp; omega
   gi_wp2
   exact ⟨KeepsOthers.setCell _ _ _, ⟨rfl, _, BA.out.set _, ⟨pre, x, rfl, hok.out, .inr ⟨HC.out, rfl⟩⟩⟩, hB.setCell (p := ⟨w.heap.size, 0, none⟩) (Nat.le_refl _) _⟩
 case done =>
  rintro D xs W hD rfl ⟨⟨bA, bX, bY, hok⟩, hB⟩ hK
  have cA := bA.cell
  have he := zH (show (0 : Int) = ordN (val32 lx) (val32 ly) from (ordN_eq (valB_ext _ _ _ fun i => down_eq (Nat.le_refl m) (by rw [HX.out.length]; omega) (by rw [HY.out.length]; omega) hok.out i (by omega))).symm)
  clear bA bX bY
  gi_wp2
  rw [Exit.noGoto_ret]
  refine ⟨by simp, .inl ⟨_, _, rfl, run_takeDeferred hK, ?_⟩⟩
  exact ⟨_, results_tmp rfl _ _ _, by rw [← he.out]; rfl, hB.trans (belowK_b (w := w) (Nat.le_refl _) W D _ _ (by omega) hK rfl rfl)⟩
 case stop =>
  rintro D c pre W hD ⟨k, hk, rfl⟩ ⟨⟨rfl, r, bA, hbr⟩, hB⟩ hK
  have cA := bA.cell
  have he := zH (broke_ord hk (by rw [HX.out.length]; omega) (by rw [HY.out.length]; omega) hbr.out)
  clear bA
  gi_wp2
  rw [Exit.noGoto_ret]
  refine ⟨by simp, .inl ⟨_, _, rfl, run_takeDeferred hK, ?_⟩⟩
  exact ⟨_, results_tmp rfl _ _ _, by rw [← he.out]; rfl, hB.trans (belowK_b (w := w) (Nat.le_refl _) W D _ _ (by omega) hK rfl rfl)⟩
end Go.Proofs.YtpefjkndfifceaaGreatDoor
namespace Go.Proofs.YtpefjkndfifceaaGreatDoor
open Go.RowKit Go.Shelf
attribute [local go_sem] Oper.semAt_some
theorem OwnQ.keptCells {q : IntKind} {E B : Nat} {W W' : World} {row : Option Nat} {v : Value} {l : List Nat} (h : OwnQ q E B W v l) (hg : W.grownBy W' row) (hr : ∀ r, row = some r → ∃ o : Obj, W.heap[r]? = some o ∧ o.isCells = false) : OwnQ q E B W' v l := by
 refine World.ownsRow.kept h hg ?_
 rcases h.2 with ⟨rfl, _⟩ | ⟨g, cap, cur, rfl, _, hgb, _⟩
 ·exact .inl rfl
 ·refine .inr fun e' => ?_
  obtain ⟨o, ho, hc⟩ := hr g (by simpa [Value.ownBlock] using e'.symm)
  rw [hgb] at ho; cases ho; cases hc
theorem OwnQ.setOther {q : IntKind} {E B : Nat} {W : World} {v : Value} {l : List Nat} (h : OwnQ q E B W v l) {b : Nat} (hne : v.ownBlock ≠ some b) (u : Value) : OwnQ q E B (W.setCell ⟨b, 0, none⟩ u) v l := ownsRow_setCell_other (a := ⟨b, 0, none⟩) h hne u
theorem OwnQ.ownLt {q : IntKind} {E B : Nat} {W : World} {v : Value} {l : List Nat} (h : OwnQ q E B W v l) {b : Nat} (hb : W.heap.size ≤ b) : v.ownBlock ≠ some b := by
 rcases h.2 with ⟨rfl, _⟩ | ⟨g, cap, cur, rfl, _, hgb, _⟩
 ·simp [Value.ownBlock]
 ·have := (Array.getElem?_eq_some_iff.1 hgb).1
  simp only [Value.ownBlock, ne_eq, Option.some.injEq]
  omega
theorem appended {q : IntKind} {E n₀ : Nat} {W w1 : World} {v : Value} {l : List Nat} {tmp : Obj} (hrow : OwnQ q E n₀ W v l) (hn₀ : n₀ ≤ W.heap.size) (hgrow : (W.alloc tmp).grownBy w1 v.ownBlock) :
  KeepsOthers W w1 ∧ (∀ w0, Below n₀ w0 W → Below n₀ w0 w1) ∧ (∀ b t u, Boxed W b t u → v.ownBlock ≠ some b → Boxed w1 b t u) := by
 refine ⟨?_, ?_, fun b t u hb hne => (hb.alloc tmp).kept hgrow (fun e => hne e.symm)⟩
 ·refine (KeepsOthers.alloc W tmp).trans (KeepsOthers.of_grownBy hgrow fun j o ej hj => ?_)
  rcases (World.ownsRow.alloc hrow tmp).2 with ⟨rfl, _⟩ | ⟨g, cap, cur, rfl, _, hgb, _⟩
  ·simp [Value.ownBlock] at ej
  ·obtain rfl : g = j := by simpa [Value.ownBlock] using ej
   rw [hgb] at hj; cases hj; rfl
 ·intro w0 h0
  refine (h0.alloc hn₀ tmp).grown hgrow (by simp; omega) fun j ej => ?_
  rcases hrow.2 with ⟨rfl, _⟩ | ⟨g, cap, cur, rfl, hb, _, _⟩
  ·simp [Value.ownBlock] at ej
  ·obtain rfl : g = j := by simpa [Value.ownBlock] using ej
   exact hb
theorem cell_one_at (w : World) (x : Value) (t : TypeId) (n : Nat) (h : n = w.heap.size) : ∀ j u, [x][j]? = some u → (w.alloc (.cells #[x] t)).cell? ((⟨n, 0, none⟩ : Addr).add j) = some u := by subst h; exact cell_one_new w x t
def AddInv (pre : List Two) (O : List Nat) (c : Nat) : Prop := O.length = pre.length ∧ Lim O ∧ c ≤ 1 ∧ val32 O + 4294967296 ^ pre.length * c = val32 (pre.map (·.1.1)) + val32 (pre.map (·.1.2))
theorem upTo_fst (lx ly : List Nat) (hx : Lim lx) (hy : Lim ly) (m : Nat) (h : lx.length ≤ m) : val32 ((upTo lx ly hx hy m).map (·.1.1)) = val32 lx := by
 conv => rhs; rw [val32, ← padN_val _ lx m h]
 simp only [upTo, List.map_map, padN]
 rfl
theorem upTo_snd (lx ly : List Nat) (hx : Lim lx) (hy : Lim ly) (m : Nat) (h : ly.length ≤ m) : val32 ((upTo lx ly hx hy m).map (·.1.2)) = val32 ly := by
 conv => rhs; rw [val32, ← padN_val _ ly m h]
 simp only [upTo, List.map_map, padN]
 rfl
theorem upTo_length (lx ly : List Nat) (hx : Lim lx) (hy : Lim ly) (m : Nat) : (upTo lx ly hx hy m).length = m := by simp [upTo]
def AddI (n₀ A : Nat) (x y : Value) (pre : List Two) (W : World) : Prop :=
 ∃ (v : Value) (O : List Nat) (c : Nat), Boxed W A 44 v ∧ Boxed W (A + 1) 48 (.int .u64 (c : Int)) ∧ Boxed W (A + 1 + 1) 44 x ∧ Boxed W (A + 1 + 1 + 1) 44 y ∧ OwnQ .u32 71 n₀ W v O ∧ Hid (AddInv pre O c) ∧ Hid (∀ b, A ≤ b → b ≤ A + 1 + 1 + 1 → v.ownBlock ≠ some b)
end Go.Proofs.YtpefjkndfifceaaGreatDoor
namespace Go.Proofs.YtpefjkndfifceaaGreatDoor
open Go.RowKit Go.Shelf
attribute [local go_sem] Oper.semAt_some
def subR (x y : Nat) : List Nat × Int := if x < topN ∧ y < topN ∧ y ≤ x then (nat32 (x - y), 0) else ([], 20)
theorem subR_yes {x y : Nat} (h : x < topN ∧ y < topN ∧ y ≤ x) : subR x y = (nat32 (x - y), 0) := if_pos h
theorem subR_no {x y : Nat} (h : ¬ (x < topN ∧ y < topN ∧ y ≤ x)) : subR x y = ([], 20) := if_neg h
def SubInv (pre : List Two) (O : List Nat) (c : Nat) : Prop := O.length = pre.length ∧ Lim O ∧ c ≤ 1 ∧ val32 O + val32 (pre.map (·.1.2)) = val32 (pre.map (·.1.1)) + 4294967296 ^ pre.length * c
theorem subInv_nil : SubInv [] [] 0 := ⟨rfl, fun _ h => (by cases h), by omega, rfl⟩
theorem subInv_step {pre : List Two} {O : List Nat} {c : Nat} (h : SubInv pre O c) (x : Two) : SubInv (pre ++ [x]) (O ++ [subD x.1.1 x.1.2 c]) (subB x.1.1 x.1.2 c) := by
 obtain ⟨h1, h2, h3, h4⟩ := h
 have hx := x.2
 have hd : subD x.1.1 x.1.2 c + x.1.2 + c = x.1.1 + 4294967296 * subB x.1.1 x.1.2 c := by unfold subD subB; split <;> omega
 have hd2 : subD x.1.1 x.1.2 c < 4294967296 := by unfold subD; split <;> omega
 have hb2 : subB x.1.1 x.1.2 c ≤ 1 := by unfold subB; split <;> omega
 generalize subD x.1.1 x.1.2 c = d at *
 generalize subB x.1.1 x.1.2 c = b at *
 refine ⟨by simp [h1], ?_, hb2, ?_⟩
 ·intro y hy
  rcases List.mem_append.1 hy with hy | hy
  ·exact h2 y hy
  ·obtain rfl := List.mem_singleton.1 hy; exact hd2
 ·simp only [val32, List.map_append, List.map_cons, List.map_nil, valB_snoc, List.length_map, h1, List.length_append, List.length_cons, List.length_nil, Nat.zero_add] at h4 ⊢
  have e : 4294967296 ^ (pre.length + 1) * b = 4294967296 ^ pre.length * (4294967296 * b) := by rw [Nat.pow_succ, Nat.mul_assoc]
  have e2 : 4294967296 ^ pre.length * (d + x.1.2 + c) = 4294967296 ^ pre.length * (x.1.1 + 4294967296 * b) := by rw [hd]
  rw [Nat.mul_add, Nat.mul_add, Nat.mul_add] at e2
  rw [e]
  omega
def SubI (n₀ A : Nat) (x y : Value) (pre : List Two) (W : World) : Prop :=
 ∃ (v : Value) (O : List Nat) (c : Nat), Boxed W A 44 v ∧ Boxed W (A + 1) 71 (.int .u32 (c : Int)) ∧ Boxed W (A + 1 + 1) 44 x ∧ Boxed W (A + 1 + 1 + 1) 44 y ∧ OwnQ .u32 71 n₀ W v O ∧ Hid (SubInv pre O c) ∧ Hid (∀ b, A ≤ b → b ≤ A + 1 + 1 + 1 → v.ownBlock ≠ some b)
theorem subI_own (n₀ A : Nat) (x y : Value) : Own (SubI n₀ A x y) := fun s X Y row hs hg hr => by
 obtain ⟨v, O, c, h1, h2, h3, h4, h5, h6, h7⟩ := hs
 exact ⟨v, O, c, Boxed.keptCells h1 hg hr, Boxed.keptCells h2 hg hr, Boxed.keptCells h3 hg hr, Boxed.keptCells h4 hg hr, h5.keptCells hg hr, h6, h7⟩
set_option maxRecDepth 100000 in
set_option maxHeartbeats 2000000 in
theorem sub_any (a a' : Option Addr) (nx cx ny cy : Nat) (lx ly : List Nat) (w : World) (hx : Reads .u32 w a nx cx lx) (hy : Reads .u32 w a' ny cy ly) (hLx : Lim lx) (hLy : Lim ly) :
  Calls Tryz.prog 74 #[.slice a nx cx, .slice a' ny cy] w fun e w' => RetsQ2 .u32 71 w.heap.size w' (subR (val32 lx) (val32 ly)) e ∧ Below w.heap.size w w' := by
 obtain ⟨i0, hi, hz0, hz1, hz2⟩ := info_parts Tryz.info32
 have HX := zH hx.bare
 have HY := zH hy.bare
 have CX := zH (bare32_any a nx cx lx w hx)
 have CY := zH (bare32_any a' ny cy ly w hy)
 have hcx := cut_iff lx hLx
 have hcy := cut_iff ly hLy
 have VX := zH (bareN_val 4294967296 lx)
 have VY := zH (bareN_val 4294967296 ly)
 have hBx : Lim (bareN lx) := fun x h => hLx x (bareN_mem h)
 have hBy : Lim (bareN ly) := fun x h => hLy x (bareN_mem h)
 have hlx := bareN_le lx
 have hly := bareN_le ly
 have hmx := hx.len_le
 have hmy := hy.len_le
 rw [hx.length] at hlx
 rw [hy.length] at hly
 unfold maxLen at hmx hmy
 clear hx hy
 generalize bareN lx = p at *
 generalize bareN ly = q at *
 generalize hnp : p.length = np at *
 generalize hnq : q.length = nq at *
 have NP := zH hnp
 have NQ := zH hnq
 clear hnp hnq
 by_cases hc : np ≤ 256 ∧ nq ≤ 256
 ·have hdec := zH (show true = decide (np ≤ 256 ∧ nq ≤ 256) by simp [hc])
  obtain ⟨hcp, hcq⟩ := hc
  obtain ⟨m, hm, hmp⟩ : ∃ m, m = max np nq ∧ Hid (m ≤ 256) := ⟨_, rfl, by unfold Hid; omega⟩
  have HM := zH hm
  clear hm
  have hb0 : Below w.heap.size w (w.alloc (.cells #[.slice a np cx, .slice a' nq cy] 44)) := (Below.refl _ _).alloc (Nat.le_refl _) _
  have HC := zH (cmp_any a a' np cx nq cy p q _ (HX.out.below hb0) (HY.out.below hb0) hBx hBy)
  rw [show val32 p = val32 lx from VX.out, show val32 q = val32 ly from VY.out] at HC
  by_cases hle : val32 ly ≤ val32 lx
  ·have hR := zH (show subR (val32 lx) (val32 ly) = (nat32 (val32 lx - val32 ly), 0) from subR_yes ⟨hcx.1 hcp, hcy.1 hcq, hle⟩)
   have HLE := zH hle
   have hord : 0 ≤ ordN (val32 lx) (val32 ly) := by
    unfold ordN
    rw [if_neg (by omega)]
    split <;> omega
   generalize ordN (val32 lx) (val32 ly) = o at *
   have HB0 := zH hb0
   clear hcx hcy hle hb0
   refine (callsIn_wide (n := 3)).1 ?_
   refine callsIn_of_wp_marks Tryz.func74 rfl trivial ?_ rfl
   simp only [Tryz.ntmps74, List.size_toArray, List.length_cons, List.length_nil, Nat.reduceAdd, Nat.reduceSub, Array.replicate_succ, Array.replicate_zero, List.push_toArray, List.append_toArray, List.nil_append, List.cons_append]
   gi_wp2_with (refine ⟨trivial, ?_⟩; gi_at_call 69; first | ((with_reducible refine (callsIn_wide.2 CX.out).mono ?_); rintro e w1 ⟨rfl, rfl⟩) | ((with_reducible refine (callsIn_wide.2 CY.out).mono ?_); rintro e w1 ⟨rfl, rfl⟩))
   gi_wp2_with (refine ⟨trivial, ?_⟩; gi_at_call 70; refine (callsIn_wide.2 (may2_any w.heap.size a a' np cx nq cy _ (World.cell?_alloc_at _ _ _ _ rfl) (World.cell?_alloc_at _ _ _ _ rfl) true hdec.out (by omega) (by omega))).mono ?_; rintro e w1 ⟨rfl, rfl⟩)
   refine ⟨trivial, ?_⟩
   refine (callsIn_wide.2 HC.out).mono ?_
   rintro e w2 ⟨rfl, hbc⟩
   have hbw2 : Below w.heap.size w w2 := HB0.out.trans (hbc.mono (by simp))
   clear hbc
   have hw2 : w.heap.size ≤ w2.heap.size := hbw2.size
   gi_wp2_with (first | (gi_at_make; refine wpListIn_make_own _ rfl _ _ 44 rfl w.heap.size 71 i0 (.int .u32 0) 1 Tryz.underlying44 hi hz0 hz1 _ _ _ np rfl rfl rfl (by rw [hz2]; omega) (by unfold maxLen; omega) hw2 ?_; intro w1 hown hgrow) | (refine ⟨trivial, ?_⟩; gi_at_call 110; refine (callsIn_wide.2 (up_any _ _ _ _ _ _ _)).mono ?_; rintro e w' ⟨rfl, rfl⟩))
   have hrow0 : OwnQ .u32 71 w.heap.size w1 (.slice (some ⟨w2.heap.size, 0, none⟩) 0 np) [] := by simpa [OwnQ] using hown
   have hb1 : Below w.heap.size w w1 := hbw2.grown hgrow hw2 (fun _ h => by cases h)
   clear hown hgrow
   have bA := (((Boxed.new w1 44 (.slice (some ⟨w2.heap.size, 0, none⟩) 0 np)).alloc (.cells #[.int .u32 0] 71)).alloc (.cells #[.slice a np cx] 44)).alloc (.cells #[.slice a' nq cy] 44)
   have bC := ((Boxed.new (w1.alloc (.cells #[.slice (some ⟨w2.heap.size, 0, none⟩) 0 np] 44)) 71 (.int .u32 0)).alloc (.cells #[.slice a np cx] 44)).alloc (.cells #[.slice a' nq cy] 44)
   have bX := (Boxed.new ((w1.alloc (.cells #[.slice (some ⟨w2.heap.size, 0, none⟩) 0 np] 44)).alloc (.cells #[.int .u32 0] 71)) 44 (.slice a np cx)).alloc (.cells #[.slice a' nq cy] 44)
   have bY := Boxed.new (((w1.alloc (.cells #[.slice (some ⟨w2.heap.size, 0, none⟩) 0 np] 44)).alloc (.cells #[.int .u32 0] 71)).alloc (.cells #[.slice a np cx] 44)) 44 (.slice a' nq cy)
   have hO := (((hrow0.alloc (.cells #[.slice (some ⟨w2.heap.size, 0, none⟩) 0 np] 44)).alloc (.cells #[.int .u32 0] 71)).alloc (.cells #[.slice a np cx] 44)).alloc (.cells #[.slice a' nq cy] 44)
   have hBW := (((hb1.alloc hb1.size (.cells #[.slice (some ⟨w2.heap.size, 0, none⟩) 0 np] 44)).alloc (by have := hb1.size; simp only [World.size_alloc]; omega) (.cells #[.int .u32 0] 71)).alloc (by have := hb1.size; simp only [World.size_alloc]; omega) (.cells #[.slice a np cx] 44)).alloc (by have := hb1.size; simp only [World.size_alloc]; omega) (.cells #[.slice a' nq cy] 44)
   have hne : Hid (∀ b, w1.heap.size ≤ b → b ≤ w1.heap.size + 1 + 1 + 1 → (Value.slice (some ⟨w2.heap.size, 0, none⟩) 0 np).ownBlock ≠ some b) := fun b h _ => hrow0.ownLt h
   simp only [World.size_alloc] at bC bX bY
   obtain ⟨W0, hW0⟩ : ∃ W0, (((w1.alloc (.cells #[.slice (some ⟨w2.heap.size, 0, none⟩) 0 np] 44)).alloc (.cells #[.int .u32 0] 71)).alloc (.cells #[.slice a np cx] 44)).alloc (.cells #[.slice a' nq cy] 44) = W0 := ⟨_, rfl⟩
   rw [hW0] at bA bC bX bY hBW hO ⊢
   have hsA := hb1.size
   have hsz0 : w1.heap.size + 4 = W0.heap.size := by rw [← hW0]; simp
   clear hW0 hrow0 hb1
   generalize w1.heap.size = A at *
   have h1 : 1 ≤ 3 := by decide
   refine wpIn_rangeFunc_ownF (F := Fence.wide) rfl h1 (gf := 140) (lb := #[.pointer (some ⟨A + 1 + 1, 0, none⟩), .pointer (some ⟨A + 1 + 1 + 1, 0, none⟩)]) rfl trivial (enters_of Tryz.func140 (by kernel_rfl) rfl)
    (up_stops (3 - 1) (by decide) w.heap.size (A + 1 + 1) (A + 1 + 1 + 1) a a' np cx nq cy p q hBx hBy W0 bX bY (HX.out.below hBW) (HY.out.below hBW) HX.out.block HY.out.block (by omega) m HM.out) kpUp_t (kpUp_b (by omega)) (Below.refl _ _) (fun _ => rfl)
    (fun pre W => SubI w.heap.size A (.slice a np cx) (.slice a' nq cy) pre W ∧ Below w.heap.size w W) (fun _ _ _ => False)
    (OwnFrom.and (Own.from (subI_own _ _ _ _) _) (ownFrom_below (Nat.le_refl _) (by omega))) (fun _ _ _ _ _ hs _ _ => hs)
    ⟨⟨_, [], 0, bA, bC, bX, bY, hO, subInv_nil, hne⟩, hBW⟩ ?_ ?_ ?_ ?_ ?_
   rotate_left 1
   ·intro lp x W K hK
    gi_wp2
    exact hK
   ·rintro lp pre x W ⟨⟨v, O, c, bA, bC, bX, bY, hown, hinv, hne⟩, hB⟩ hlt
    obtain ⟨av, nv, cv, rfl, -, hown⟩ := hown.slice
    have cC := bC.cell
    have fC := bC.frozen
    have cA := bA.cell
    have hx1 := x.2.1
    have hx2 := x.2.2
    have hc1 : c ≤ 1 := hinv.out.2.2.1
    have hlen := zH hinv.out.1
    have hstep := zH (subInv_step hinv.out x)
    have HSB := zH (fun W => sub32_any x.1.1 x.1.2 c W hx1 hx2 hc1)
    generalize subD x.1.1 x.1.2 c = d at *
    generalize subB x.1.1 x.1.2 c = c' at *
    have BA := zH (boxed_other bA ⟨A + 1, 0, none⟩ (.int .u32 (c' : Int)) (by show A ≠ A + 1; omega))
    have BC := zH (bC.set (.int .u32 (c' : Int)))
    have BX := zH (boxed_other bX ⟨A + 1, 0, none⟩ (.int .u32 (c' : Int)) (by show A + 1 + 1 ≠ A + 1; omega))
    have BY := zH (boxed_other bY ⟨A + 1, 0, none⟩ (.int .u32 (c' : Int)) (by show A + 1 + 1 + 1 ≠ A + 1; omega))
    have HO := zH (hown.setOther (hne.out (A + 1) (by omega) (by omega)) (.int .u32 (c' : Int)))
    have hsB := hB.size
    have HB := zH hB
    have hltY := bY.lt
    have BX0 := zH bX
    have BY0 := zH bY
    have hpl := hmp.out
    clear bA bC bX bY hown hB
    gi_wp2_with (first | (refine ⟨trivial, ?_⟩; gi_at_call 111; refine (CallsIn.inRound lp (callsIn_wide.2 (HSB.out _))).mono ?_; rintro e w' ⟨rfl, rfl⟩) | (gi_at_builtin; refine wpListIn_append_own_at _ rfl _ _ 44 rfl w.heap.size 71 i0 (.int .u32 0) 1 4 Tryz.underlying44 hi hz0 hz1 hz2 rfl (by decide) _ _ _ rfl (World.ownsRow.alloc HO.out _) ⟨W.heap.size, 0, none⟩ 1 1 [.int .u32 (d : Int)] rfl rfl (cell_one_at _ _ _ _ (by simp)) (by simp [Value.oneCell']) (by unfold maxLen; have := hlen.out; omega) (by have := hlen.out; omega) (by simp; omega) ?_; intro v' w1 hown' hgrow _ hblk; obtain ⟨g', cap', rfl⟩ := ownsRow_succ hown'; have hp := appended HO.out (by simp; omega) hgrow; have bA1 := hp.2.2 A _ _ BA.out (hne.out A (by omega) (by omega)); have c1 := bA1.cell; have f1 := bA1.frozen; have bC1 := hp.2.2 (A + 1) _ _ BC.out (hne.out (A + 1) (by omega) (by omega)); have BA1 := zH bA1; have BC1 := zH bC1; have HP := zH hp; have HOW := zH hown'; have HBL := zH hblk; clear bA1 bC1 hp hown' hgrow hblk))
    have hneR : ∀ b, A ≤ b → b ≤ A + 1 + 1 + 1 → (Value.slice (some ⟨g', 0, none⟩) (O.length + 1) cap').ownBlock ≠ some b := fun b h1 h2 => by
     rcases HBL.out with e | e
     ·rw [e]; exact hne.out b h1 h2
     ·rw [e]; simp; omega
    have hrow' : OwnQ .u32 71 w.heap.size w1 (.slice (some ⟨g', 0, none⟩) (O.length + 1) cap') (O ++ [d]) := by
     unfold OwnQ
     rw [List.map_append, List.length_append]
     exact HOW.out
    have hp := HP.out
    have fX := boxed_other (hp.2.2 _ _ _ BX.out (hne.out _ (by omega) (by omega))) ⟨A, 0, none⟩ (.slice (some ⟨g', 0, none⟩) (O.length + 1) cap') (by show A + 1 + 1 ≠ A; omega)
    have fY := boxed_other (hp.2.2 _ _ _ BY.out (hne.out _ (by omega) (by omega))) ⟨A, 0, none⟩ (.slice (some ⟨g', 0, none⟩) (O.length + 1) cap') (by show A + 1 + 1 + 1 ≠ A; omega)
    have hbW : Below w.heap.size W (w1.setCell ⟨A, 0, none⟩ (.slice (some ⟨g', 0, none⟩) (O.length + 1) cap')) :=
     (hp.2.1 _ ((Below.refl w.heap.size W).setCell (p := ⟨A + 1, 0, none⟩) (by show w.heap.size ≤ A + 1; omega) _)).setCell (p := ⟨A, 0, none⟩) (by show w.heap.size ≤ A; omega) _
    exact ⟨((KeepsOthers.setCell _ _ _).trans hp.1).trans (KeepsOthers.setCell _ _ _), ⟨hbW, fun t v h => boxed_same BX0.out fX h, fun t v h => boxed_same BY0.out fY h⟩, ⟨_, _, _, BA1.out.set _, boxed_other BC1.out _ _ (by show A + 1 ≠ A; omega), fX, fY, hrow'.setOther (hneR A (by omega) (by omega)) _, hstep.out, hneR⟩, HB.out.trans hbW⟩
   ·rintro D xs W hD rfl ⟨⟨v, O, c, bA, bC, bX, bY, hown, hinv, hne⟩, hB⟩ hK
    obtain ⟨av, nv, cv, rfl, hnv, hown⟩ := hown.slice
    have NV := zH hnv
    clear hnv
    have cA := bA.cell
    obtain ⟨i1, i2, hc1, i4⟩ := hinv.out
    rw [upTo_length] at i1 i4
    rw [upTo_fst p q hBx hBy m (by rw [NP.out, HM.out]; omega), upTo_snd p q hBx hBy m (by rw [NQ.out, HM.out]; omega)] at i4
    have hfin := zH (show bareN O = nat32 (val32 lx - val32 ly) by
     have e1 := VX.out
     have e2 := VY.out
     have e3 := valB_lt (b := 4294967296) (by decide) i2
     have e4 := HLE.out
     rw [i1] at e3
     rw [bareN_nat i2]
     congr 1
     simp only [val32] at *
     have hc0 : c = 0 := by
      apply Decidable.byContradiction
      intro hcn
      obtain rfl : c = 1 := by omega
      omega
     subst hc0
     omega)
    have HO := zH hown
    have HB := zH hB
    have HBB := zH (bare32_any _ _ _ _ _ hown.reads)
    clear bA bC bX bY hown hB i1 i2 i4
    gi_wp2_with (refine ⟨trivial, ?_⟩; gi_at_call 69; refine (callsIn_wide.2 HBB.out).mono ?_; rintro e w3 ⟨rfl, rfl⟩)
    refine ⟨by simp, .inl ⟨_, _, rfl, run_takeDeferred hK, ?_⟩⟩
    have hu := HO.out.upto (bareN O).length (by rw [NV.out]; exact bareN_le _)
    rw [← bareN_prefix] at hu
    have hu2 : OwnQ .u32 71 w.heap.size W (.slice av (bareN O).length cv) (nat32 (val32 lx - val32 ly)) := by
     rw [← hfin.out]; exact hu
    clear hu
    rw [hR.out]
    exact ⟨_, results_tmp2 rfl _ _ _, ⟨_, rfl, ownsRow_putObj hu2 (.deferred none) hK rfl⟩, HB.out.trans (belowK_b (w := w) (Nat.le_refl _) W D _ _ (by omega) hK rfl rfl)⟩
   ·rintro D c pre W _ _ h _
    exact h.elim
  ·have hR := zH (show subR (val32 lx) (val32 ly) = ([], 20) from subR_no (fun h => hle h.2.2))
   have hord : ordN (val32 lx) (val32 ly) < 0 := by
    unfold ordN
    rw [if_pos (by omega)]
    decide
   generalize ordN (val32 lx) (val32 ly) = o at *
   have HB0 := zH hb0
   clear hcx hcy hle hb0
   go_enter Tryz.func74, Tryz.ntmps74
   go_wp2_with (go_at_call 69; first | ((with_reducible refine CX.out.mono ?_); rintro e w1 ⟨rfl, rfl⟩) | ((with_reducible refine CY.out.mono ?_); rintro e w1 ⟨rfl, rfl⟩))
   refine (may2_any w.heap.size a a' np cx nq cy _ (World.cell?_alloc_at _ _ _ _ rfl) (World.cell?_alloc_at _ _ _ _ rfl) true hdec.out (by omega) (by omega)).mono ?_
   rintro e w1 ⟨rfl, rfl⟩
   go_wp2_with fail
   refine HC.out.mono ?_
   rintro e w2 ⟨rfl, hbc⟩
   go_wp2
   go_ret2
   refine ⟨⟨_, by rw [hR.out]; rfl, ?_⟩, HB0.out.trans (hbc.mono (by simp))⟩
   rw [hR.out]; exact OwnQ.nil _ _ _ _
 ·have hdec := zH (show false = decide (np ≤ 256 ∧ nq ≤ 256) by simp; omega)
  have hr := zH (show subR (val32 lx) (val32 ly) = ([], 20) from subR_no (fun h => hc ⟨hcx.2 h.1, hcy.2 h.2.1⟩))
  clear hcx hcy
  go_enter Tryz.func74, Tryz.ntmps74
  go_wp2_with (go_at_call 69; first | ((with_reducible refine CX.out.mono ?_); rintro e w1 ⟨rfl, rfl⟩) | ((with_reducible refine CY.out.mono ?_); rintro e w1 ⟨rfl, rfl⟩))
  refine (may2_any w.heap.size a a' np cx nq cy _ (World.cell?_alloc_at _ _ _ _ rfl) (World.cell?_alloc_at _ _ _ _ rfl) false hdec.out (by omega) (by omega)).mono ?_
  rintro e w1 ⟨rfl, rfl⟩
  go_wp2
  go_ret2
  refine ⟨⟨_, by rw [hr.out]; rfl, ?_⟩, (Below.refl _ _).alloc (Nat.le_refl _) _⟩
  rw [hr.out]; exact OwnQ.nil _ _ _ _
end Go.Proofs.YtpefjkndfifceaaGreatDoor
namespace Go.Proofs.YtpefjkndfifceaaGreatDoor
open Go.RowKit
def mulR (x y : Nat) : List Nat × Int := if x < topN ∧ y < topN then cutR32 (x * y) else ([], 20)
theorem mulR_yes {x y : Nat} (h : x < topN) (k : y < topN) : mulR x y = cutR32 (x * y) := if_pos ⟨h, k⟩
theorem mulR_no {x y : Nat} (h : ¬ (x < topN ∧ y < topN)) : mulR x y = ([], 20) := if_neg h
def MulOut (x y P : List Nat) (i : Nat) : Prop := P.length = x.length + y.length ∧ Lim P ∧ val32 P = val32 (x.take i) * val32 y ∧ (∀ t, i + y.length ≤ t → P[t]?.getD 0 = 0)
def MulIn (x y P : List Nat) (i j c : Nat) : Prop := P.length = x.length + y.length ∧ Lim P ∧ c < 4294967296 ∧ val32 P + 4294967296 ^ (i + j) * c = val32 (x.take i) * val32 y + 4294967296 ^ i * (x[i]?.getD 0) * val32 (y.take j) ∧ (∀ t, i + y.length ≤ t → P[t]?.getD 0 = 0)
theorem mulOut_start (x y : List Nat) : MulOut x y (List.replicate (x.length + y.length) 0) 0 :=
 ⟨by simp, fun t ht => by rw [List.eq_of_mem_replicate ht]; decide, by rw [List.take_zero, val32, valB_zeros]; simp [val32, valB], fun t _ => by
  by_cases h : t < x.length + y.length
  ·simp [h]
  ·simp [h]⟩
theorem mulIn_start {x y P : List Nat} {i : Nat} (h : MulOut x y P i) : MulIn x y P i 0 0 := by
 obtain ⟨h1, h2, h3, h4⟩ := h
 exact ⟨h1, h2, by decide, by rw [List.take_zero, h3]; simp [val32, valB], h4⟩
theorem getD_set (P : List Nat) (t d s : Nat) (h : t < P.length) : (P.set t d)[s]?.getD 0 = if t = s then d else P[s]?.getD 0 := by
 rw [List.getElem?_set]
 by_cases e : t = s
 ·subst e; simp [h]
 ·simp [e]
theorem val_set {P : List Nat} (t d : Nat) (h : t < P.length) : val32 (P.set t d) + 4294967296 ^ t * (P[t]?.getD 0) = val32 P + 4294967296 ^ t * d := valB_set _ P t d h
theorem mul_bound (a b p c : Nat) (ha : a < 4294967296) (hb : b < 4294967296) (hp : p < 4294967296) (hc : c < 4294967296) : c + (a * b + p) < 18446744073709551616 := by
 have h : a * b ≤ 4294967295 * 4294967295 := Nat.mul_le_mul (by omega) (by omega)
 omega
theorem mulIn_step {x y P : List Nat} {i j c : Nat} (h : MulIn x y P i j c) (hx : Lim x) (hy : Lim y) (hi : i < x.length) (hj : j < y.length) :
  MulIn x y (P.set (i + j) ((c + ((x[i]?.getD 0) * (y[j]?.getD 0) + P[i + j]?.getD 0)) % 4294967296)) i (j + 1) ((c + ((x[i]?.getD 0) * (y[j]?.getD 0) + P[i + j]?.getD 0)) / 4294967296) := by
 obtain ⟨h1, h2, h3, h4, h5⟩ := h
 have hb := mul_bound _ _ _ c (lim_get hx i) (lim_get hy j) (lim_get h2 (i + j)) h3
 have hv := val_set (i + j) ((c + ((x[i]?.getD 0) * (y[j]?.getD 0) + P[i + j]?.getD 0)) % 4294967296) (show i + j < P.length by omega)
 have hs := valB_succ (b := 4294967296) y j
 refine ⟨by simp [h1], mem_set h2 (Nat.mod_lt _ (by decide)), by omega, ?_, fun t ht => by rw [getD_set _ _ _ _ (by omega), if_neg (by omega)]; exact h5 t ht⟩
 generalize hS : c + ((x[i]?.getD 0) * (y[j]?.getD 0) + P[i + j]?.getD 0) = S at *
 have e1 : 4294967296 ^ (i + (j + 1)) * (S / 4294967296) = 4294967296 ^ (i + j) * (4294967296 * (S / 4294967296)) := by rw [← Nat.add_assoc, Nat.pow_succ, Nat.mul_assoc]
 have e2 : 4294967296 ^ (i + j) * (S % 4294967296) + 4294967296 ^ (i + j) * (4294967296 * (S / 4294967296)) = 4294967296 ^ (i + j) * S := by rw [← Nat.mul_add, Nat.mod_add_div]
 have e3 : 4294967296 ^ (i + j) * S = 4294967296 ^ (i + j) * c + (4294967296 ^ (i + j) * ((x[i]?.getD 0) * (y[j]?.getD 0)) + 4294967296 ^ (i + j) * (P[i + j]?.getD 0)) := by rw [← hS, Nat.mul_add, Nat.mul_add]
 have e4 : 4294967296 ^ i * (x[i]?.getD 0) * (4294967296 ^ j * (y[j]?.getD 0)) = 4294967296 ^ (i + j) * ((x[i]?.getD 0) * (y[j]?.getD 0)) := by
  rw [Nat.pow_add]
  simp only [Nat.mul_assoc, Nat.mul_left_comm]
 simp only [val32] at *
 rw [hs, Nat.mul_add, e4, e1]
 omega
theorem mulIn_end {x y P : List Nat} {i c : Nat} (h : MulIn x y P i y.length c) (hi : i < x.length) : MulOut x y (P.set (i + y.length) c) (i + 1) := by
 obtain ⟨h1, h2, h3, h4, h5⟩ := h
 have hv := val_set (i + y.length) c (show i + y.length < P.length by omega)
 rw [h5 _ (Nat.le_refl _)] at hv
 have hs := valB_succ (b := 4294967296) x i
 refine ⟨by simp [h1], mem_set h2 h3, ?_, fun t ht => by rw [getD_set _ _ _ _ (by omega), if_neg (by omega)]; exact h5 t (by omega)⟩
 rw [List.take_length] at h4
 simp only [val32] at *
 rw [hs, Nat.add_mul]
 omega
set_option maxHeartbeats 2000000 in
theorem mul_any (a a' : Option Addr) (nx cx ny cy : Nat) (lx ly : List Nat) (w : World) (hx : Reads .u32 w a nx cx lx) (hy : Reads .u32 w a' ny cy ly) (hLx : Lim lx) (hLy : Lim ly) :
  Calls Tryz.prog 61 #[.slice a nx cx, .slice a' ny cy] w fun e w' => RetsQ2 .u32 71 w.heap.size w' (mulR (val32 lx) (val32 ly)) e ∧ Below w.heap.size w w' := by
 obtain ⟨i0, hi, hz0, hz1, hz2⟩ := info_parts Tryz.info32
 have HX := zH hx.bare
 have HY := zH hy.bare
 have CX := zH (bare32_any a nx cx lx w hx)
 have CY := zH (bare32_any a' ny cy ly w hy)
 have hcx := cut_iff lx hLx
 have hcy := cut_iff ly hLy
 have VX := zH (bareN_val 4294967296 lx)
 have VY := zH (bareN_val 4294967296 ly)
 have hBx : Lim (bareN lx) := fun x h => hLx x (bareN_mem h)
 have hBy : Lim (bareN ly) := fun x h => hLy x (bareN_mem h)
 have hlx := bareN_le lx
 have hly := bareN_le ly
 have hmx := hx.len_le
 have hmy := hy.len_le
 rw [hx.length] at hlx
 rw [hy.length] at hly
 unfold maxLen at hmx hmy
 clear hx hy
 generalize bareN lx = p at *
 generalize bareN ly = q at *
 generalize hnp : p.length = np at *
 generalize hnq : q.length = nq at *
 have NP := zH hnp
 have NQ := zH hnq
 have BX := zH hBx
 have BY := zH hBy
 clear hnp hnq hBx hBy
 by_cases hc : np ≤ 256 ∧ nq ≤ 256
 ·have hdec := zH (show true = decide (np ≤ 256 ∧ nq ≤ 256) by simp [hc])
  obtain ⟨hcp, hcq⟩ := hc
  have hR := zH (show mulR (val32 lx) (val32 ly) = cutR32 (val32 lx * val32 ly) from mulR_yes (hcx.1 hcp) (hcy.1 hcq))
  clear hcx hcy
  go_enter Tryz.func61, Tryz.ntmps61
  go_wp2_with (go_at_call 69; first | ((with_reducible refine CX.out.mono ?_); rintro e w1 ⟨rfl, rfl⟩) | ((with_reducible refine CY.out.mono ?_); rintro e w1 ⟨rfl, rfl⟩))
  refine (may2_any w.heap.size a a' np cx nq cy _ (World.cell?_alloc_at _ _ _ _ rfl) (World.cell?_alloc_at _ _ _ _ rfl) true hdec.out (by omega) (by omega)).mono ?_
  rintro e w1 ⟨rfl, rfl⟩
  go_wp2_with (at_make; refine wpList_make_lc .u32 _ rfl _ _ 44 rfl w.heap.size 71 i0 Tryz.underlying44 hi hz0 hz1 _ _ _ _ (np + nq) (np + nq) rfl rfl (by omega) (by omega) (Nat.le_refl _) (by rw [hz2]; omega) (by unfold maxLen; omega) (by simp) ?_; intro w1 hown hgrow)
  have hb1 : Below w.heap.size w w1 := ((Below.refl _ _).alloc (Nat.le_refl _) _).grown hgrow (by simp) (fun _ h => by cases h)
  simp only [World.size_alloc] at hown
  have HO := zH hown
  have HB1 := zH hb1
  clear hown hgrow hb1
  go_loopw [29] (fun i wr => ∃ (k : Nat) (P : List Nat), i = .int .i64 k ∧ k ≤ np ∧ Hid (MulOut p q P k) ∧ OwnQ .u32 71 w.heap.size wr (.slice (some ⟨w.heap.size + 1, 0, none⟩) (np + nq) (np + nq)) P ∧ Hid (Below w.heap.size w wr)) (fun i _ => np - (intOf i).toNat)
  case atStart => exact ⟨0, _, rfl, Nat.zero_le _, (by have := mulOut_start p q; rwa [NP.out, NQ.out] at this), HO.out, HB1.out⟩
  case round =>
   obtain ⟨k, P, rfl, hk, hinv, hown, hbel⟩ := hrel
   obtain ⟨wo, rfl⟩ : ∃ wo : World, wo = wr := ⟨_, rfl⟩
   by_cases hlt : k < np
   ·obtain ⟨b, off, rfl, hbk, hc2⟩ := (HX.out.below hbel.out).cells (by omega)
    have hck := hc2 k hlt
    have hx := lim_get BX.out k
    have hin0 := zH (mulIn_start hinv.out)
    have HO1 := zH hown
    clear hc2 hown
    generalize hxx : p[k]?.getD 0 = x at *
    have HXX := zH hxx
    clear hxx
    go_wp2
    go_loopw [9, 36] (fun c j wr => ∃ (t cc : Nat) (P : List Nat), j = .int .i64 t ∧ c = .int .u64 (cc : Int) ∧ t ≤ nq ∧ Hid (MulIn p q P k t cc) ∧ OwnQ .u32 71 w.heap.size wr (.slice (some ⟨w.heap.size + 1, 0, none⟩) (np + nq) (np + nq)) P ∧ Hid (Below w.heap.size w wr)) (fun _ j _ => nq - (intOf j).toNat)
    case atStart => exact ⟨0, 0, P, rfl, rfl, Nat.zero_le _, hin0.out, HO1.out, hbel.out⟩
    case round =>
     obtain ⟨t, c, P2, rfl, rfl, ht, hin, hown, hbel2⟩ := hrel
     by_cases hlt2 : t < nq
     ·obtain ⟨b2, off2, rfl, hbk2, hc2⟩ := (HY.out.below hbel2.out).cells (by omega)
      have hck2 := hc2 t hlt2
      have hy := lim_get BY.out t
      have hst := zH (mulIn_step hin.out BX.out BY.out (by rw [NP.out]; exact hlt) (by rw [NQ.out]; exact hlt2))
      obtain ⟨i1, i2, i3, -, -⟩ := hin.out
      rw [NP.out, NQ.out] at i1
      have I1 := zH i1
      have hcell := hown.cellAt I1.out.symm (k + t) (by omega)
      have hfr := hown.frozenAt I1.out.symm (k + t)
      have hp := lim_get i2 (k + t)
      rw [HXX.out] at hst
      have HO2 := zH hown
      clear hc2 hown i1 i2
      generalize q[t]?.getD 0 = y at *
      generalize P2[k + t]?.getD 0 = z at *
      have hbd := mul_bound x y z c hx hy hp i3
      have hxy : x * y ≤ 4294967295 * 4294967295 := Nat.mul_le_mul (by omega) (by omega)
      generalize hs : c + (x * y + z) = s at *
      have HS := zH hs
      have hmul : Hid ((x : Int) * (y : Int) = ((x * y : Nat) : Int)) := by unfold Hid; simp
      clear hs
      go_wp2
      go_roundw
      case rel =>
       have hS : ((c : Int) + ((x : Int) * (y : Int) + (z : Int))) = (s : Int) := by rw [← HS.out]; simp
       rw [hS]
       have s1 := HO2.out.stored I1.out.symm (k + t) (s % 4294967296) ((s : Int) % 4294967296) (by omega)
       exact ⟨t + 1, s / 4294967296, P2.set (k + t) (s % 4294967296), by go_num, by go_num, by omega, hst.out, s1.1, s1.2 _ hbel2.out⟩
      case measure => simp [intOf] <;> omega
     ·obtain rfl : t = nq := by omega
      obtain ⟨i1, i2, i3, -, -⟩ := hin.out
      rw [NP.out, NQ.out] at i1
      have I1 := zH i1
      have hend := zH (show MulOut p q (P2.set (k + t) c) (k + 1) by
       have h1 := hin.out
       rw [← NQ.out] at h1
       have h2 := mulIn_end h1 (by rw [NP.out]; exact hlt)
       rwa [NQ.out] at h2)
      have hcell := hown.cellAt I1.out.symm (k + t) (by omega)
      have hfr := hown.frozenAt I1.out.symm (k + t)
      have hp := lim_get i2 (k + t)
      have HO2 := zH hown
      clear hown i1 i2
      generalize P2[k + t]?.getD 0 = z at *
      go_wp2
      go_roundw
      case rel =>
       have s1 := HO2.out.stored I1.out.symm (k + t) c (c : Int) rfl
       exact ⟨k + 1, P2.set (k + t) c, by go_num, by omega, hend.out, s1.1, s1.2 _ hbel2.out⟩
      case measure => simp [intOf] <;> omega
   ·obtain rfl : k = np := by omega
    obtain ⟨i1, i2, i3, -⟩ := hinv.out
    rw [List.take_of_length_le (by rw [NP.out]; exact Nat.le_refl _)] at i3
    have hv := zH (show val32 P = val32 lx * val32 ly by
     have e1 := VX.out
     have e2 := VY.out
     simp only [val32] at *
     rw [i3, e1, e2])
    have hbs := hbel.out.size
    have HT := zH (trim_any _ _ _ _ _ hown.reads i2)
    rw [hv.out] at HT
    clear hown i1 i2 i3
    go_wp2_with (go_at_call 102; refine HT.out.mono ?_; rintro e w2 ⟨⟨v2, rfl, ho2⟩, hb2⟩)
    go_ret2
    exact ⟨⟨_, by rw [hR.out]; rfl, by rw [hR.out]; exact ho2.mono hbs⟩, hbel.out.trans (hb2.mono hbs)⟩
 ·have hdec := zH (show false = decide (np ≤ 256 ∧ nq ≤ 256) by simp; omega)
  have hr := zH (show mulR (val32 lx) (val32 ly) = ([], 20) from mulR_no (fun h => hc ⟨hcx.2 h.1, hcy.2 h.2⟩))
  clear hcx hcy
  go_enter Tryz.func61, Tryz.ntmps61
  go_wp2_with (go_at_call 69; first | ((with_reducible refine CX.out.mono ?_); rintro e w1 ⟨rfl, rfl⟩) | ((with_reducible refine CY.out.mono ?_); rintro e w1 ⟨rfl, rfl⟩))
  refine (may2_any w.heap.size a a' np cx nq cy _ (World.cell?_alloc_at _ _ _ _ rfl) (World.cell?_alloc_at _ _ _ _ rfl) false hdec.out (by omega) (by omega)).mono ?_
  rintro e w1 ⟨rfl, rfl⟩
  go_wp2
  go_ret2
  refine ⟨⟨_, by rw [hr.out]; rfl, ?_⟩, (Below.refl _ _).alloc (Nat.le_refl _) _⟩
  rw [hr.out]; exact OwnQ.nil _ _ _ _
end Go.Proofs.YtpefjkndfifceaaGreatDoor
namespace Go.Proofs.YtpefjkndfifceaaGreatDoor
open Go.RowKit
theorem nat8_lit (l : List Nat) (v : Nat) (h : Byt l) (hb : bareN l = l) (hv : valB 256 l = v) : natB 256 v = l := by rw [← hv, ← bareN_eq (by decide) h, hb]
end Go.Proofs.YtpefjkndfifceaaGreatDoor
