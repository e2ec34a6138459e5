/-
  Texts of ours, one behind the other: Ps9 Rs0 ShaY ShaR ShaT ShaV ShaX Sh1 Sh2 Sh3 Sh4 NatMath Sh5 Sh6 Sh7 PriP
-/
import Derived.Test.YtcdglhmapijebaaDoorPk1
import Derived.Test.YtcdglhmapijebaaDoorPk2
import Derived.Test.YtcdglhmapijebaaDoorPk5
import Derived.Test.YtcdglhmapijebaaDoorPk6
import Derived.BigQuiet
import Derived.Deep.RegionHeld
import Derived.OrdersHeld
import Derived.KernelRfl
import Derived.Deep.RegionHeld3
set_option linter.unusedVariables false
set_option linter.unusedSimpArgs false

namespace Go.Proofs.YtcdglhmapijebaaDoor
open Go.RowKit
set_option maxRecDepth 100000

/-- Bytes that look like an encoding. -/
def GoodP (h sn n : Int) (b : List Nat) : Prop := RoomP h sn n ∧ b.length = lenP n.toNat ∧ fineP h.toNat sn.toNat b n.toNat = true
/-- Bytes that are a digest's encoding. -/
def VerP (h : Int) (d : List Nat) (sn n : Int) (b : List Nat) : Prop := GoodP h sn n b ∧ d.length = mSize h.toNat ∧ innerP h.toNat d (partS h.toNat sn.toNat n.toNat b) = partI h.toNat n.toNat b

theorem read_any (h : Int) (ba : Option Addr) (bn bc : Nat) (b : List Nat) (sn n : Int) (s0 : -9223372036854775808 ≤ sn) (s1 : sn ≤ 9223372036854775807) (n0 : -9223372036854775808 ≤ n) (n1 : n ≤ 9223372036854775807) (hn : n ≤ 100000 ∨ 524288 < n) (w : World) (hk : Kinds w) (hr : Reads .u8 w ba bn bc b) (hby : Byt b) :
    Calls Tryd.prog 27 #[.int .i64 h, .slice ba bn bc, .int .i64 sn, .int .i64 n] w fun e w' => Below w.heap.size w w' ∧
      ((GoodP h sn n b ∧ ∃ ia ic sa sc, e = .returned (.tuple #[.agg #[.slice ia (mSize h.toNat) ic, .slice sa sn.toNat sc], .int .i64 0]) ∧ OwnQ .u8 5 w.heap.size w' (.slice ia (mSize h.toNat) ic) (partI h.toNat n.toNat b) ∧ OwnQ .u8 5 w.heap.size w' (.slice sa sn.toNat sc) (partS h.toNat sn.toNat n.toNat b)) ∨
      (¬ GoodP h sn n b ∧ e = .returned (.tuple #[.agg #[.slice none 0 0, .slice none 0 0], .int .i64 90]))) := by
  by_cases hroom : RoomP h sn n ∧ bn = lenP n.toNat
  · obtain ⟨hrm, hbn⟩ := hroom
    obtain ⟨hh, hs, hn2, hn5, hfit⟩ := hrm
    obtain ⟨g, rfl⟩ : ∃ g : Nat, h = (g : Int) := ⟨h.toNat, by rcases hh with e | e | e | e <;> omega⟩
    obtain ⟨s, rfl⟩ : ∃ s : Nat, sn = (s : Int) := ⟨sn.toNat, by omega⟩
    obtain ⟨m, rfl⟩ : ∃ m : Nat, n = (m : Int) := ⟨n.toNat, by omega⟩
    simp only [Int.toNat_natCast] at hh hbn ⊢
    have hrm : RoomP (g : Int) (s : Int) (m : Int) := ⟨by rwa [Int.toNat_natCast], hs, hn2, hn5, hfit⟩
    refine (read_good g hh ba bn bc b s m w hk hr hby hrm hbn (by omega)).mono ?_
    rintro e w' ⟨hb, ⟨hf, rest⟩ | ⟨hf, rest⟩⟩
    · exact ⟨hb, .inl ⟨⟨hrm, hr.length.trans hbn, hf⟩, rest⟩⟩
    · refine ⟨hb, .inr ⟨fun hg => ?_, rest⟩⟩
      have h2 := hg.2.2
      rw [Int.toNat_natCast, Int.toNat_natCast, Int.toNat_natCast, hf] at h2
      cases h2
  · refine (read_bad h ba bn bc sn n (by have := hr.len_le; unfold maxLen at this; exact this) s0 s1 n0 n1 w hk hroom).mono ?_
    rintro e w' ⟨he, hb⟩
    exact ⟨hb, .inr ⟨fun hg => hroom ⟨hg.1, hr.length.symm.trans hg.2.1⟩, he⟩⟩

theorem salt_any (h : Int) (ba : Option Addr) (bn bc : Nat) (b : List Nat) (sn n : Int) (s0 : -9223372036854775808 ≤ sn) (s1 : sn ≤ 9223372036854775807) (n0 : -9223372036854775808 ≤ n) (n1 : n ≤ 9223372036854775807) (hn : n ≤ 100000 ∨ 524288 < n) (w : World) (hk : Kinds w) (hr : Reads .u8 w ba bn bc b) (hby : Byt b) :
    Calls Tryd.prog 11 #[.int .i64 h, .slice ba bn bc, .int .i64 sn, .int .i64 n] w fun e w' => Below w.heap.size w w' ∧
      ((GoodP h sn n b ∧ ∃ sa sc, e = .returned (.tuple #[.slice sa sn.toNat sc, .int .i64 0]) ∧ OwnQ .u8 5 w.heap.size w' (.slice sa sn.toNat sc) (partS h.toNat sn.toNat n.toNat b)) ∨
      (¬ GoodP h sn n b ∧ e = .returned (.tuple #[.slice none 0 0, .int .i64 90]))) := by
  go_enter Tryd.func11, Tryd.ntmps11
  go_wp2_with fail
  refine (read_any h ba bn bc b sn n s0 s1 n0 n1 hn _ hk hr hby).mono ?_
  rintro e w1 ⟨hb, ⟨hg, ia, ic, sa, sc, rfl, hI, hS⟩ | ⟨hg, rfl⟩⟩
  · have HB := Lib.hid hb
    have HS := Lib.hid hS
    have HG := Lib.hid hg
    clear hb hS hg hI
    go_wp2
    go_ret2
    exact ⟨HB.out.alloc HB.out.size _, .inl ⟨HG.out, _, _, rfl, HS.out.alloc _⟩⟩
  · have HB := Lib.hid hb
    have HG := Lib.hid hg
    clear hb hg
    go_wp2
    go_ret2
    exact ⟨HB.out.alloc HB.out.size _, .inr ⟨HG.out, rfl⟩⟩

theorem strOf_neP {l m : List Nat} (hl : Byt l) (hm : Byt m) (h : l ≠ m) : ((strOf (u8s l)).toList == (strOf (u8s m)).toList) = false := by
  rw [Bool.eq_false_iff]
  intro he
  have h1 : (strOf (u8s l)).toList = (strOf (u8s m)).toList := by simpa using he
  have h2 : ∀ b : List UInt8, (strOf b).toList = b := fun b => by simp [strOf]
  rw [h2, h2] at h1
  exact h (u8s_inj hl hm h1)
theorem equal_any (a a' : Option Addr) (n c n' c' : Nat) (l m : List Nat) (w : World) (hl : Reads .u8 w a n c l) (hm : Reads .u8 w a' n' c' m) (bl : Byt l) (bm : Byt m) :
    Calls Tryd.prog 29 #[.slice a n c, .slice a' n' c'] w fun e w' => e = .returned (.bool (decide (l = m))) ∧ w' = w := by
  have c1 := convB (hl.bts bl)
  have c2 := convB (hm.bts bm)
  by_cases h : l = m
  · subst h
    go_enter Tryd.func29, Tryd.ntmps29
    go_wp2
    go_ret
    exact ⟨by first | rfl | (simp; rfl), rfl⟩
  · have hne : True := trivial
    have hd := Lib.hid (show decide (l = m) = false from decide_eq_false h)
    have hst := strOf_neP bl bm h
    clear h hne
    go_enter Tryd.func29, Tryd.ntmps29
    go_wp2
    go_ret
    exact ⟨by rw [hd.out]; rfl, rfl⟩

set_option maxHeartbeats 2000000 in
theorem verify_any (h : Int) (da : Option Addr) (dn dc : Nat) (d : List Nat) (ba : Option Addr) (bn bc : Nat) (b : List Nat) (sn n : Int) (s0 : -9223372036854775808 ≤ sn) (s1 : sn ≤ 9223372036854775807) (n0 : -9223372036854775808 ≤ n) (n1 : n ≤ 9223372036854775807) (hn : n ≤ 100000 ∨ 524288 < n) (w : World) (hk : Kinds w) (hd : Reads .u8 w da dn dc d) (bd : Byt d) (hr : Reads .u8 w ba bn bc b) (hby : Byt b) :
    Calls Tryd.prog 13 #[.int .i64 h, .slice da dn dc, .slice ba bn bc, .int .i64 sn, .int .i64 n] w fun e w' => (∃ v : Bool, e = .returned (.bool v) ∧ (v = true ↔ VerP h d sn n b)) ∧ Below w.heap.size w w' := by
  have HK := Lib.hid hk
  have HD := Lib.hid hd
  have HDL := Lib.hid hd.length
  have HBD := Lib.hid bd
  have HBB := Lib.hid hby
  have hdle : dn ≤ 9223372036854775807 := by have := hd.len_le; unfold maxLen at this; exact this
  clear bd
  go_enter Tryd.func13, Tryd.ntmps13
  go_wp2_with fail
  refine (read_any h ba bn bc b sn n s0 s1 n0 n1 hn _ hk hr hby).mono ?_
  rintro e w1 ⟨hb, ⟨hg, ia, ic, sa, sc, rfl, hI, hS⟩ | ⟨hg, rfl⟩⟩
  rotate_left
  · have HB := Lib.hid hb
    have HV := Lib.hid (show (false = true ↔ VerP h d sn n b) from ⟨fun e => Bool.noConfusion e, fun hv => absurd hv.1 hg⟩)
    clear hb hg hk hd hr hby
    go_wp2_with fail
    go_big_quiet (fail)
    simp only [Exit.then]
    go_wp2
    go_ret
    exact ⟨⟨_, rfl, HV.out⟩, (HB.out.alloc HB.out.size _).trans (⟨rfl, rfl, rfl, Nat.le_refl _, fun _ _ => rfl⟩)⟩
  have hgr := hg.1
  obtain ⟨hh, hs0, hn2, hn5, hfit⟩ := hgr
  obtain ⟨g, rfl⟩ : ∃ g : Nat, h = (g : Int) := ⟨h.toNat, by rcases hh with e | e | e | e <;> omega⟩
  obtain ⟨s, rfl⟩ : ∃ s : Nat, sn = (s : Int) := ⟨sn.toNat, by omega⟩
  rw [Int.toNat_natCast] at hh hI hS hfit
  rw [Int.toNat_natCast] at hS
  have HH := Lib.hid hh
  have hsz := mSize_le hh
  obtain ⟨S, hSS⟩ : ∃ S, mSize g = S := ⟨_, rfl⟩
  have HSS := Lib.hid hSS
  rw [hSS] at hsz hI
  have HG := Lib.hid hg
  have HBS := Lib.hid (show Byt (partS g s n.toNat b) from fun x hx => byt_drop (masked_byt hh _ _ (byt_take hby _)) _ x hx)
  have HBI := Lib.hid (show Byt (partI g n.toNat b) from byt_take (byt_drop hby _) _)
  have hsle : s ≤ 70000 := by have : lenP n.toNat ≤ 65537 := by (unfold lenP; omega)
                              omega
  have HFIT := Lib.hid hfit
  simp only [Int.toNat_natCast, hSS]
  have HB := Lib.hid hb
  have HI := Lib.hid hI
  have HS := Lib.hid hS
  clear hb hI hS hg hk hd hr hby hh hSS hfit
  go_wp2_with fail
  obtain ⟨W0, hW0⟩ : ∃ W0, w1.alloc (.cells #[.slice ia S ic, .slice sa s sc] 53) = W0 := ⟨_, rfl⟩
  have hq : W0.heap[w1.heap.size]? = some (.cells #[.slice ia S ic, .slice sa s sc] 53) := by rw [← hW0]; exact World.alloc_heap_new w1 _
  have hbW : Below w1.heap.size w1 W0 := by rw [← hW0]; exact (Below.refl _ w1).alloc (Nat.le_refl _) _
  rw [hW0]
  obtain ⟨P, hP⟩ : ∃ P, w1.heap.size = P := ⟨_, rfl⟩
  rw [hP] at hq ⊢
  have HQ := Lib.hid hq
  have HBW := Lib.hid hbW
  clear hW0 hq hbW hP
  have HWP := Lib.hid HB.out.size
  have cc : ∀ (X : World), X.heap[P]? = some (.cells #[.slice ia S ic, .slice sa s sc] 53) → X.cell? ⟨P, 0, none⟩ = some (.slice ia S ic) ∧ X.cell? ⟨P, 1, none⟩ = some (.slice sa s sc) := fun X hX => ⟨by simp [World.cell?, hX], by simp [World.cell?, hX]⟩
  have CC := Lib.hid cc
  clear cc
  by_cases hdS : dn = S
  · have t1 : ((dn : Int) == (S : Int)) = true := by simp [hdS]
    have hdn64 : dn ≤ 64 := by omega
    have HXB := Lib.hid (show Byt (innerP g d (partS g s n.toNat b)) from mHash_byt HH.out _)
    have HV := Lib.hid (show decide (innerP g d (partS g s n.toNat b) = partI g n.toNat b) = true ↔ VerP (g : Int) d (s : Int) n b from by
      rw [decide_eq_true_iff]
      refine ⟨fun he => ⟨HG.out, by rw [Int.toNat_natCast, HSS.out, HDL.out, hdS], by rw [Int.toNat_natCast, Int.toNat_natCast]; exact he⟩, fun hv => by have := hv.2.2; rwa [Int.toNat_natCast, Int.toNat_natCast] at this⟩)
    clear hdS
    refine wp_region_held_drew (S := fun X => X.cell? ⟨P, 0, none⟩ = some (.slice ia S ic) ∧ X.cell? ⟨P, 1, none⟩ = some (.slice sa s sc)) (by kernel_rfl) (CC.out _ HQ.out) (fun hHeld => ?_)
    have HBW := Lib.hid HBW.out.drew
    have HQ := Lib.hid (show W0.drew.heap[P]? = some (.cells #[.slice ia S ic, .slice sa s sc] 53) from HQ.out)
    generalize W0.drew = Wd at *
    refine' wpAnyH_take (i := 0) (oi := _) (v := _) rfl (by kernel_rfl) (by kernel_rfl) (by kernel_rfl) (fun _ _ _ h => h) (Or.inl ⟨?_, ?_⟩) (by assumption) ?_
    rotate_left
    all_goals (try simp only [List.getElem_toArray, List.getElem_cons_succ, List.getElem_cons_zero])
    · rfl
    · intro W hSw; (try dsimp only at hSw); go_simp; (try with_reducible rfl)
    try simp only [Act.put, List.setIfInBounds_toArray, List.set_cons_zero, List.set_cons_succ]
    refine' wpAnyH_take (i := 1) (oi := _) (v := _) rfl (by kernel_rfl) (by kernel_rfl) (by kernel_rfl) (fun _ _ _ h => h) (Or.inl ⟨?_, ?_⟩) (by assumption) ?_
    rotate_left
    all_goals (try simp only [List.getElem_toArray, List.getElem_cons_succ, List.getElem_cons_zero])
    · rfl
    · intro W hSw; (try dsimp only at hSw); go_simp; (try with_reducible rfl)
    try simp only [Act.put, List.setIfInBounds_toArray, List.set_cons_zero, List.set_cons_succ]
    refine' wpAnyH_take (i := 2) (oi := _) (v := _) rfl (by kernel_rfl) (by kernel_rfl) (by kernel_rfl) (fun _ _ _ h => h) (Or.inl ⟨?_, ?_⟩) (by assumption) ?_
    rotate_left
    all_goals (try simp only [List.getElem_toArray, List.getElem_cons_succ, List.getElem_cons_zero])
    · rfl
    · intro W hSw; (try dsimp only at hSw); go_simp; (try with_reducible rfl)
    try simp only [Act.put, List.setIfInBounds_toArray, List.set_cons_zero, List.set_cons_succ]
    refine' wpAnyH_take (i := 3) (oi := _) (v := _) rfl (by kernel_rfl) (by kernel_rfl) (by kernel_rfl) (fun _ _ _ h => h) (Or.inl ⟨?_, ?_⟩) (by assumption) ?_
    rotate_left
    all_goals (try simp only [List.getElem_toArray, List.getElem_cons_succ, List.getElem_cons_zero])
    · rfl
    · intro W hSw; (try dsimp only at hSw); go_simp; (try with_reducible rfl)
    try simp only [Act.put, List.setIfInBounds_toArray, List.set_cons_zero, List.set_cons_succ]
    refine' wpAnyH_take (i := 4) (oi := _) (v := _) rfl (by kernel_rfl) (by kernel_rfl) (by kernel_rfl) (fun _ _ _ h => h) (Or.inl ⟨?_, ?_⟩) (by assumption) ?_
    rotate_left
    all_goals (try simp only [List.getElem_toArray, List.getElem_cons_succ, List.getElem_cons_zero])
    · rfl
    · intro W hSw; (try dsimp only at hSw); go_simp; (try with_reducible rfl)
    try simp only [Act.put, List.setIfInBounds_toArray, List.set_cons_zero, List.set_cons_succ]
    refine' wpAnyH_take (i := 5) (oi := _) (v := _) rfl (by kernel_rfl) (by kernel_rfl) (by kernel_rfl) (fun _ _ _ h => h) (Or.inl ⟨?_, ?_⟩) (by assumption) ?_
    rotate_left
    all_goals (try simp only [List.getElem_toArray, List.getElem_cons_succ, List.getElem_cons_zero])
    · rfl
    · intro W hSw; (try dsimp only at hSw); go_simp; (try with_reducible rfl)
    try simp only [Act.put, List.setIfInBounds_toArray, List.set_cons_zero, List.set_cons_succ]
    refine wpAnyH_ready (rs := [6]) (by kernel_rfl) (by simp) ?_
    refine AllReadyH.cons (o := _) rfl (fun K hK => ?_) AllReadyH.nil
    try simp only [List.getElem_toArray, List.getElem_cons_succ, List.getElem_cons_zero]
    go_simp
    refine (size_yes g HH.out _ (HK.out.below (HB.out.trans (HBW.out.mono HWP.out)))).mono ?_; rintro e V1 ⟨rfl, hb⟩; rw [HSS.out]; have HQ := Lib.hid ((hb.block P (Array.getElem?_eq_some_iff.1 HQ.out).1).trans HQ.out); have HBW := Lib.hid (HBW.out.trans (hb.mono HBW.out.size)); clear hb
    go_wp2_with fail
    refine hK.out _ _ (CC.out _ HQ.out) (fun hHeld => ?_)
    clear hK K
    try simp only [Act.put, List.setIfInBounds_toArray, List.set_cons_zero, List.set_cons_succ]
    refine' wpAnyH_take (i := 7) (oi := _) (v := _) rfl (by kernel_rfl) (by kernel_rfl) (by kernel_rfl) (fun _ _ _ h => h) (Or.inl ⟨?_, ?_⟩) (by assumption) ?_
    rotate_left
    all_goals (try simp only [List.getElem_toArray, List.getElem_cons_succ, List.getElem_cons_zero])
    · rfl
    · intro W hSw; (try dsimp only at hSw); go_simp; (try with_reducible rfl)
    try simp only [Act.put, List.setIfInBounds_toArray, List.set_cons_zero, List.set_cons_succ]
    refine' wpAnyH_take (i := 8) (oi := _) (v := _) rfl (by kernel_rfl) (by kernel_rfl) (by kernel_rfl) (fun _ _ _ h => h) (Or.inl ⟨?_, ?_⟩) (by assumption) ?_
    rotate_left
    all_goals (try simp only [List.getElem_toArray, List.getElem_cons_succ, List.getElem_cons_zero])
    · rfl
    · intro W hSw; (try dsimp only at hSw); go_simp; (try with_reducible rfl)
    try simp only [Act.put, List.setIfInBounds_toArray, List.set_cons_zero, List.set_cons_succ]
    refine' wpAnyH_take (i := 9) (oi := _) (v := _) rfl (by kernel_rfl) (by kernel_rfl) (by kernel_rfl) (fun _ _ _ h => h) (Or.inl ⟨?_, ?_⟩) (by assumption) ?_
    rotate_left
    all_goals (try simp only [List.getElem_toArray, List.getElem_cons_succ, List.getElem_cons_zero])
    · rfl
    · intro W hSw; (try dsimp only at hSw); go_simp; (try with_reducible rfl)
    try simp only [Act.put, List.setIfInBounds_toArray, List.set_cons_zero, List.set_cons_succ]
    refine' wpAnyH_take (i := 10) (oi := _) (v := _) rfl (by kernel_rfl) (by kernel_rfl) (by kernel_rfl) (fun _ _ _ h => h) (Or.inl ⟨?_, ?_⟩) (by assumption) ?_
    rotate_left
    all_goals (try simp only [List.getElem_toArray, List.getElem_cons_succ, List.getElem_cons_zero])
    · rfl
    · intro W hSw; (try dsimp only at hSw); go_simp; (try with_reducible rfl)
    try simp only [Act.put, List.setIfInBounds_toArray, List.set_cons_zero, List.set_cons_succ]
    refine' wpAnyH_take (i := 11) (oi := _) (v := _) rfl (by kernel_rfl) (by kernel_rfl) (by kernel_rfl) (fun _ _ _ h => h) (Or.inl ⟨?_, ?_⟩) (by assumption) ?_
    rotate_left
    all_goals (try simp only [List.getElem_toArray, List.getElem_cons_succ, List.getElem_cons_zero])
    · rfl
    · intro W hSw; (try dsimp only at hSw); go_simp; (try with_reducible rfl)
    try simp only [Act.put, List.setIfInBounds_toArray, List.set_cons_zero, List.set_cons_succ]
    refine' wpAnyH_take (i := 12) (oi := _) (v := _) rfl (by kernel_rfl) (by kernel_rfl) (by kernel_rfl) (fun _ _ _ h => h) (Or.inl ⟨?_, ?_⟩) (by assumption) ?_
    rotate_left
    all_goals (try simp only [List.getElem_toArray, List.getElem_cons_succ, List.getElem_cons_zero])
    · rfl
    · intro W hSw; (try dsimp only at hSw); go_simp; (try with_reducible rfl)
    try simp only [Act.put, List.setIfInBounds_toArray, List.set_cons_zero, List.set_cons_succ]
    refine' wpAnyH_take (i := 13) (oi := _) (v := _) rfl (by kernel_rfl) (by kernel_rfl) (by kernel_rfl) (fun _ _ _ h => h) (Or.inl ⟨?_, ?_⟩) (by assumption) ?_
    rotate_left
    all_goals (try simp only [List.getElem_toArray, List.getElem_cons_succ, List.getElem_cons_zero])
    · rfl
    · intro W hSw; (try dsimp only at hSw); go_simp; (try with_reducible rfl)
    try simp only [Act.put, List.setIfInBounds_toArray, List.set_cons_zero, List.set_cons_succ]
    refine' wpAnyH_take (i := 15) (oi := _) (v := _) rfl (by kernel_rfl) (by kernel_rfl) (by kernel_rfl) (fun _ _ _ h => h) (Or.inl ⟨?_, ?_⟩) (by assumption) ?_
    rotate_left
    all_goals (try simp only [List.getElem_toArray, List.getElem_cons_succ, List.getElem_cons_zero])
    · rfl
    · intro W hSw; (try dsimp only at hSw); go_simp; (try with_reducible rfl)
    try simp only [Act.put, List.setIfInBounds_toArray, List.set_cons_zero, List.set_cons_succ]
    refine' wpAnyH_take (i := 16) (oi := _) (v := _) rfl (by kernel_rfl) (by kernel_rfl) (by kernel_rfl) (fun _ _ _ h => h) (Or.inl ⟨?_, ?_⟩) (by assumption) ?_
    rotate_left
    all_goals (try simp only [List.getElem_toArray, List.getElem_cons_succ, List.getElem_cons_zero])
    · rfl
    · intro W hSw; (try dsimp only at hSw); go_simp; (try with_reducible rfl)
    try simp only [Act.put, List.setIfInBounds_toArray, List.set_cons_zero, List.set_cons_succ]
    refine wpAnyH_ready (rs := [14]) (by kernel_rfl) (by simp) ?_
    refine AllReadyH.cons (o := _) rfl (fun K hK => ?_) AllReadyH.nil
    try simp only [List.getElem_toArray, List.getElem_cons_succ, List.getElem_cons_zero]
    go_simp
    refine (inner_p g HH.out da dn dc d sa s sc (partS g s n.toNat b) _ (HK.out.below (HB.out.trans (HBW.out.mono HWP.out))) (HD.out.below (HB.out.trans (HBW.out.mono HWP.out))) (HS.out.reads.below HBW.out) HBD.out HBS.out (by omega) (by omega)).mono ?_; rintro e V2 ⟨⟨ad, xc, rfl, hv, -⟩, hb⟩; rw [HSS.out] at hv ⊢; have HX := Lib.hid hv; have HQ := Lib.hid ((hb.block P (Array.getElem?_eq_some_iff.1 HQ.out).1).trans HQ.out); have HBW := Lib.hid (HBW.out.trans (hb.mono HBW.out.size)); clear hb hv
    go_wp2_with fail
    refine hK.out _ _ (CC.out _ HQ.out) (fun hHeld => ?_)
    clear hK K
    try simp only [Act.put, List.setIfInBounds_toArray, List.set_cons_zero, List.set_cons_succ]
    refine wpAnyH_ready (rs := [17]) (by kernel_rfl) (by simp) ?_
    refine AllReadyH.cons (o := _) rfl (fun K hK => ?_) AllReadyH.nil
    try simp only [List.getElem_toArray, List.getElem_cons_succ, List.getElem_cons_zero]
    go_simp
    refine (equal_any _ _ _ _ _ _ _ _ _ HX.out (HI.out.reads.below HBW.out) HXB.out HBI.out).mono ?_; rintro e V3 ⟨rfl, rfl⟩
    go_wp2_with fail
    refine hK.out _ _ (CC.out _ HQ.out) (fun hHeld => ?_)
    clear hK K
    try simp only [Act.put, List.setIfInBounds_toArray, List.set_cons_zero, List.set_cons_succ]
    refine' wpAnyH_take (i := 18) (oi := _) (v := _) rfl (by kernel_rfl) (by kernel_rfl) (by kernel_rfl) (fun _ _ _ h => h) (Or.inl ⟨?_, ?_⟩) (by assumption) ?_
    rotate_left
    all_goals (try simp only [List.getElem_toArray, List.getElem_cons_succ, List.getElem_cons_zero])
    · rfl
    · intro W hSw; (try dsimp only at hSw); go_simp; (try with_reducible rfl)
    try simp only [Act.put, List.setIfInBounds_toArray, List.set_cons_zero, List.set_cons_succ]
    refine' wpAnyH_take (i := 19) (oi := _) (v := _) rfl (by kernel_rfl) (by kernel_rfl) (by kernel_rfl) (fun _ _ _ h => h) (Or.inl ⟨?_, ?_⟩) (by assumption) ?_
    rotate_left
    all_goals (try simp only [List.getElem_toArray, List.getElem_cons_succ, List.getElem_cons_zero])
    · rfl
    · intro W hSw; (try dsimp only at hSw); go_simp; (try with_reducible rfl)
    try simp only [Act.put, List.setIfInBounds_toArray, List.set_cons_zero, List.set_cons_succ]
    refine wpAnyH_done (by kernel_rfl) ?_ _
    go_wp2
    go_ret
    exact ⟨⟨_, rfl, HV.out⟩, HB.out.trans (HBW.out.mono HWP.out)⟩
  · have t1 : ((dn : Int) == (S : Int)) = false := by simp; omega
    have HV := Lib.hid (show (false = true ↔ VerP (g : Int) d (s : Int) n b) from ⟨fun e => Bool.noConfusion e, fun hv => absurd (by have := hv.2.1; rwa [Int.toNat_natCast, HSS.out, HDL.out] at this) hdS⟩)
    clear hdS
    refine wp_region_held_drew (S := fun X => X.cell? ⟨P, 0, none⟩ = some (.slice ia S ic) ∧ X.cell? ⟨P, 1, none⟩ = some (.slice sa s sc)) (by kernel_rfl) (CC.out _ HQ.out) (fun hHeld => ?_)
    have HBW := Lib.hid HBW.out.drew
    have HQ := Lib.hid (show W0.drew.heap[P]? = some (.cells #[.slice ia S ic, .slice sa s sc] 53) from HQ.out)
    generalize W0.drew = Wd at *
    refine' wpAnyH_take (i := 0) (oi := _) (v := _) rfl (by kernel_rfl) (by kernel_rfl) (by kernel_rfl) (fun _ _ _ h => h) (Or.inl ⟨?_, ?_⟩) (by assumption) ?_
    rotate_left
    all_goals (try simp only [List.getElem_toArray, List.getElem_cons_succ, List.getElem_cons_zero])
    · rfl
    · intro W hSw; (try dsimp only at hSw); go_simp; (try with_reducible rfl)
    try simp only [Act.put, List.setIfInBounds_toArray, List.set_cons_zero, List.set_cons_succ]
    refine' wpAnyH_take (i := 1) (oi := _) (v := _) rfl (by kernel_rfl) (by kernel_rfl) (by kernel_rfl) (fun _ _ _ h => h) (Or.inl ⟨?_, ?_⟩) (by assumption) ?_
    rotate_left
    all_goals (try simp only [List.getElem_toArray, List.getElem_cons_succ, List.getElem_cons_zero])
    · rfl
    · intro W hSw; (try dsimp only at hSw); go_simp; (try with_reducible rfl)
    try simp only [Act.put, List.setIfInBounds_toArray, List.set_cons_zero, List.set_cons_succ]
    refine' wpAnyH_take (i := 2) (oi := _) (v := _) rfl (by kernel_rfl) (by kernel_rfl) (by kernel_rfl) (fun _ _ _ h => h) (Or.inl ⟨?_, ?_⟩) (by assumption) ?_
    rotate_left
    all_goals (try simp only [List.getElem_toArray, List.getElem_cons_succ, List.getElem_cons_zero])
    · rfl
    · intro W hSw; (try dsimp only at hSw); go_simp; (try with_reducible rfl)
    try simp only [Act.put, List.setIfInBounds_toArray, List.set_cons_zero, List.set_cons_succ]
    refine' wpAnyH_take (i := 3) (oi := _) (v := _) rfl (by kernel_rfl) (by kernel_rfl) (by kernel_rfl) (fun _ _ _ h => h) (Or.inl ⟨?_, ?_⟩) (by assumption) ?_
    rotate_left
    all_goals (try simp only [List.getElem_toArray, List.getElem_cons_succ, List.getElem_cons_zero])
    · rfl
    · intro W hSw; (try dsimp only at hSw); go_simp; (try with_reducible rfl)
    try simp only [Act.put, List.setIfInBounds_toArray, List.set_cons_zero, List.set_cons_succ]
    refine' wpAnyH_take (i := 4) (oi := _) (v := _) rfl (by kernel_rfl) (by kernel_rfl) (by kernel_rfl) (fun _ _ _ h => h) (Or.inl ⟨?_, ?_⟩) (by assumption) ?_
    rotate_left
    all_goals (try simp only [List.getElem_toArray, List.getElem_cons_succ, List.getElem_cons_zero])
    · rfl
    · intro W hSw; (try dsimp only at hSw); go_simp; (try with_reducible rfl)
    try simp only [Act.put, List.setIfInBounds_toArray, List.set_cons_zero, List.set_cons_succ]
    refine' wpAnyH_take (i := 5) (oi := _) (v := _) rfl (by kernel_rfl) (by kernel_rfl) (by kernel_rfl) (fun _ _ _ h => h) (Or.inl ⟨?_, ?_⟩) (by assumption) ?_
    rotate_left
    all_goals (try simp only [List.getElem_toArray, List.getElem_cons_succ, List.getElem_cons_zero])
    · rfl
    · intro W hSw; (try dsimp only at hSw); go_simp; (try with_reducible rfl)
    try simp only [Act.put, List.setIfInBounds_toArray, List.set_cons_zero, List.set_cons_succ]
    refine wpAnyH_ready (rs := [6]) (by kernel_rfl) (by simp) ?_
    refine AllReadyH.cons (o := _) rfl (fun K hK => ?_) AllReadyH.nil
    try simp only [List.getElem_toArray, List.getElem_cons_succ, List.getElem_cons_zero]
    go_simp
    refine (size_yes g HH.out _ (HK.out.below (HB.out.trans (HBW.out.mono HWP.out)))).mono ?_; rintro e V1 ⟨rfl, hb⟩; rw [HSS.out]; have HQ := Lib.hid ((hb.block P (Array.getElem?_eq_some_iff.1 HQ.out).1).trans HQ.out); have HBW := Lib.hid (HBW.out.trans (hb.mono HBW.out.size)); clear hb
    go_wp2_with fail
    refine hK.out _ _ (CC.out _ HQ.out) (fun hHeld => ?_)
    clear hK K
    try simp only [Act.put, List.setIfInBounds_toArray, List.set_cons_zero, List.set_cons_succ]
    refine' wpAnyH_take (i := 7) (oi := _) (v := _) rfl (by kernel_rfl) (by kernel_rfl) (by kernel_rfl) (fun _ _ _ h => h) (Or.inl ⟨?_, ?_⟩) (by assumption) ?_
    rotate_left
    all_goals (try simp only [List.getElem_toArray, List.getElem_cons_succ, List.getElem_cons_zero])
    · rfl
    · intro W hSw; (try dsimp only at hSw); go_simp; (try with_reducible rfl)
    try simp only [Act.put, List.setIfInBounds_toArray, List.set_cons_zero, List.set_cons_succ]
    refine' wpAnyH_take (i := 8) (oi := _) (v := _) rfl (by kernel_rfl) (by kernel_rfl) (by kernel_rfl) (fun _ _ _ h => h) (Or.inl ⟨?_, ?_⟩) (by assumption) ?_
    rotate_left
    all_goals (try simp only [List.getElem_toArray, List.getElem_cons_succ, List.getElem_cons_zero])
    · rfl
    · intro W hSw; (try dsimp only at hSw); go_simp; (try with_reducible rfl)
    try simp only [Act.put, List.setIfInBounds_toArray, List.set_cons_zero, List.set_cons_succ]
    refine' wpAnyH_take (i := 9) (oi := _) (v := _) rfl (by kernel_rfl) (by kernel_rfl) (by kernel_rfl) (fun _ _ _ h => h) (Or.inl ⟨?_, ?_⟩) (by assumption) ?_
    rotate_left
    all_goals (try simp only [List.getElem_toArray, List.getElem_cons_succ, List.getElem_cons_zero])
    · rfl
    · intro W hSw; (try dsimp only at hSw); go_simp; (try with_reducible rfl)
    try simp only [Act.put, List.setIfInBounds_toArray, List.set_cons_zero, List.set_cons_succ]
    refine' wpAnyH_take (i := 10) (oi := _) (v := undef) rfl (by kernel_rfl) (by kernel_rfl) (by kernel_rfl) (fun _ _ _ h => h) (Or.inr ⟨by kernel_rfl, rfl⟩) (by assumption) ?_
    try simp only [Act.put, List.setIfInBounds_toArray, List.set_cons_zero, List.set_cons_succ]
    refine' wpAnyH_take (i := 11) (oi := _) (v := undef) rfl (by kernel_rfl) (by kernel_rfl) (by kernel_rfl) (fun _ _ _ h => h) (Or.inr ⟨by kernel_rfl, rfl⟩) (by assumption) ?_
    try simp only [Act.put, List.setIfInBounds_toArray, List.set_cons_zero, List.set_cons_succ]
    refine' wpAnyH_take (i := 12) (oi := _) (v := undef) rfl (by kernel_rfl) (by kernel_rfl) (by kernel_rfl) (fun _ _ _ h => h) (Or.inr ⟨by kernel_rfl, rfl⟩) (by assumption) ?_
    try simp only [Act.put, List.setIfInBounds_toArray, List.set_cons_zero, List.set_cons_succ]
    refine' wpAnyH_take (i := 13) (oi := _) (v := undef) rfl (by kernel_rfl) (by kernel_rfl) (by kernel_rfl) (fun _ _ _ h => h) (Or.inr ⟨by kernel_rfl, rfl⟩) (by assumption) ?_
    try simp only [Act.put, List.setIfInBounds_toArray, List.set_cons_zero, List.set_cons_succ]
    refine' wpAnyH_take (i := 15) (oi := _) (v := undef) rfl (by kernel_rfl) (by kernel_rfl) (by kernel_rfl) (fun _ _ _ h => h) (Or.inr ⟨by kernel_rfl, rfl⟩) (by assumption) ?_
    try simp only [Act.put, List.setIfInBounds_toArray, List.set_cons_zero, List.set_cons_succ]
    refine' wpAnyH_take (i := 16) (oi := _) (v := undef) rfl (by kernel_rfl) (by kernel_rfl) (by kernel_rfl) (fun _ _ _ h => h) (Or.inr ⟨by kernel_rfl, rfl⟩) (by assumption) ?_
    try simp only [Act.put, List.setIfInBounds_toArray, List.set_cons_zero, List.set_cons_succ]
    refine wpAnyH_ready (rs := [14]) (by kernel_rfl) (by simp) ?_
    refine AllReadyH.cons (o := _) rfl (fun K hK => ?_) AllReadyH.nil
    try simp only [List.getElem_toArray, List.getElem_cons_succ, List.getElem_cons_zero]
    rw [if_neg (by rw [show Region.wanted _ _ = false by kernel_rfl]; exact Bool.false_ne_true)]
    refine hK.out _ _ (CC.out _ HQ.out) (fun hHeld => ?_)
    clear hK K
    try simp only [Act.put, List.setIfInBounds_toArray, List.set_cons_zero, List.set_cons_succ]
    refine wpAnyH_ready (rs := [17]) (by kernel_rfl) (by simp) ?_
    refine AllReadyH.cons (o := _) rfl (fun K hK => ?_) AllReadyH.nil
    try simp only [List.getElem_toArray, List.getElem_cons_succ, List.getElem_cons_zero]
    rw [if_neg (by rw [show Region.wanted _ _ = false by kernel_rfl]; exact Bool.false_ne_true)]
    refine hK.out _ _ (CC.out _ HQ.out) (fun hHeld => ?_)
    clear hK K
    try simp only [Act.put, List.setIfInBounds_toArray, List.set_cons_zero, List.set_cons_succ]
    refine' wpAnyH_take (i := 18) (oi := _) (v := _) rfl (by kernel_rfl) (by kernel_rfl) (by kernel_rfl) (fun _ _ _ h => h) (Or.inl ⟨?_, ?_⟩) (by assumption) ?_
    rotate_left
    all_goals (try simp only [List.getElem_toArray, List.getElem_cons_succ, List.getElem_cons_zero])
    · rfl
    · intro W hSw; (try dsimp only at hSw); go_simp; (try with_reducible rfl)
    try simp only [Act.put, List.setIfInBounds_toArray, List.set_cons_zero, List.set_cons_succ]
    refine' wpAnyH_take (i := 19) (oi := _) (v := _) rfl (by kernel_rfl) (by kernel_rfl) (by kernel_rfl) (fun _ _ _ h => h) (Or.inl ⟨?_, ?_⟩) (by assumption) ?_
    rotate_left
    all_goals (try simp only [List.getElem_toArray, List.getElem_cons_succ, List.getElem_cons_zero])
    · rfl
    · intro W hSw; (try dsimp only at hSw); go_simp; (try with_reducible rfl)
    try simp only [Act.put, List.setIfInBounds_toArray, List.set_cons_zero, List.set_cons_succ]
    refine wpAnyH_done (by kernel_rfl) ?_ _
    go_wp2
    go_ret
    exact ⟨⟨_, rfl, HV.out⟩, HB.out.trans (HBW.out.mono HWP.out)⟩
end Go.Proofs.YtcdglhmapijebaaDoor

namespace Go.Proofs.YtcdglhmapijebaaDoor
open Go.RowKit
set_option maxRecDepth 100000

instance isHashDecR (h : Nat) : Decidable (IsHash h) := by unfold IsHash; infer_instance
def rSize (h : Int) : Int := if IsHash h.toNat then (mSize h.toNat : Int) else 0
theorem rSize_yes {h : Nat} (hh : IsHash h) : rSize (h : Int) = (mSize h : Int) := by simp [rSize, hh]
theorem rSize_no {h : Int} (hh : ¬ IsHash h.toNat) : rSize h = 0 := by unfold rSize; rw [if_neg hh]
theorem isHash_int (h : Int) : (h = 1 ∨ h = 2 ∨ h = 3 ∨ h = 4) ∨ ¬ IsHash h.toNat ∧ h ≠ 1 ∧ h ≠ 2 ∧ h ≠ 3 ∧ h ≠ 4 := by
  unfold IsHash
  omega
theorem rsize_any (h : Int) (w : World) : Calls Tryd.prog 22 #[.int .i64 h] w fun e w' => e = .returned (.int .i64 (rSize h)) ∧ w = w' := by
  rcases isHash_int h with (rfl | rfl | rfl | rfl) | ⟨hn, h1, h2, h3, h4⟩
  · rw [show rSize 1 = 28 by decide]
    go_enter Tryd.func22, Tryd.ntmps22
    go_wp2
    go_ret
    exact ⟨rfl, rfl⟩
  · rw [show rSize 2 = 32 by decide]
    go_enter Tryd.func22, Tryd.ntmps22
    go_wp2
    go_ret
    exact ⟨rfl, rfl⟩
  · rw [show rSize 3 = 48 by decide]
    go_enter Tryd.func22, Tryd.ntmps22
    go_wp2
    go_ret
    exact ⟨rfl, rfl⟩
  · rw [show rSize 4 = 64 by decide]
    go_enter Tryd.func22, Tryd.ntmps22
    go_wp2
    go_ret
    exact ⟨rfl, rfl⟩
  · rw [rSize_no hn]
    have t1 : (h == 1) = false := by simpa using h1
    have t2 : (h == 2) = false := by simpa using h2
    have t3 : (h == 3) = false := by simpa using h3
    have t4 : (h == 4) = false := by simpa using h4
    clear hn h1 h2 h3 h4
    go_enter Tryd.func22, Tryd.ntmps22
    go_wp2
    go_ret
    exact ⟨rfl, rfl⟩
end Go.Proofs.YtcdglhmapijebaaDoor

namespace Go.Proofs.YtcdglhmapijebaaDoor

/-- Numbers compared by computation. -/
def eqM : List Nat → List Nat → Bool
  | [], [] => true
  | x :: l, y :: m => Nat.beq x y && eqM l m
  | _, _ => false
theorem eq_of_eqM : ∀ {l m : List Nat}, eqM l m = true → l = m
  | [], [], _ => rfl
  | [], _ :: _, h => by cases h
  | _ :: _, [], h => by cases h
  | x :: l, y :: m, h => by
    simp only [eqM, Bool.and_eq_true] at h
    rw [Nat.eq_of_beq_eq_true h.1, eq_of_eqM h.2]

/-- A root's bits, the highest one first: i bits are still to be tried. -/
def rootB (x k : Nat) : Nat → Nat → Nat
  | 0, r => r
  | i + 1, r => rootB x k i (if Nat.ble ((r + 2 ^ i) ^ k) x then r + 2 ^ i else r)
/-- The bits behind the point of the k-th root. -/
def fracB (n k bits : Nat) : Nat := rootB (n * 2 ^ (k * bits)) k (bits + 6) 0 % 2 ^ bits
def primes64 : List Nat := [2,3,5,7,11,13,17,19,23,29,31,37,41,43,47,53,59,61,67,71,73,79,83,89,97,101,103,107,109,113,127,131,137,139,149,151,157,163,167,173,179,181,191,193,197,199,211,223,227,229,233,239,241,251,257,263,269,271,277,281,283,293,307,311]
/-- Rotated right by halves. -/
def halfs (x : Nat) : Nat → Nat
  | 0 => x
  | n + 1 => halfs x n / 2 + halfs x n % 2 * 2147483648
theorem halfs_eq (x : Nat) (hx : x < 4294967296) : ∀ n, n ≤ 31 → halfs x n = x % 2 ^ n * 2 ^ (32 - n) + x / 2 ^ n
  | 0, _ => by simp [halfs, Nat.mod_one]
  | n + 1, h => by
    have ih := halfs_eq x hx n (by omega)
    have e1 : 32 - n = (31 - n) + 1 := by omega
    have e2 : 32 - (n + 1) = 31 - n := by omega
    rw [halfs, ih, e1, e2]
    obtain ⟨q, hq⟩ : ∃ q, q = x / 2 ^ n := ⟨_, rfl⟩
    obtain ⟨m, hm⟩ : ∃ m, m = x % 2 ^ n := ⟨_, rfl⟩
    have hd : x / 2 ^ (n + 1) = q / 2 := by rw [hq, Nat.pow_succ, Nat.div_div_eq_div_mul]
    have hmod : x % 2 ^ (n + 1) = m + 2 ^ n * (q % 2) := by rw [hm, hq, Nat.pow_succ, Nat.mod_mul]
    rw [hd, hmod, ← hq, ← hm]
    have hp : 2 ^ n * 2 ^ (31 - n) = 2147483648 := by rw [← Nat.pow_add, show n + (31 - n) = 31 by omega]
    obtain ⟨t, ht⟩ : ∃ t, t = m * 2 ^ (31 - n) := ⟨_, rfl⟩
    have e3 : m * 2 ^ (31 - n + 1) = 2 * t := by rw [ht, Nat.pow_succ, ← Nat.mul_assoc, Nat.mul_comm]
    have e4 : (m + 2 ^ n * (q % 2)) * 2 ^ (31 - n) = t + 2147483648 * (q % 2) := by
      rw [Nat.add_mul, ← ht, Nat.mul_right_comm, hp]
    rw [e3, e4]
    omega
theorem halfs_rot (x a : Nat) (hx : x < 4294967296) (ha : a ≤ 31) : halfs x a = (x * 2 ^ (32 - a) % 4294967296 ||| x / 2 ^ a) := by
  rw [halfs_eq x hx a ha]
  have hp : (4294967296 : Nat) = 2 ^ a * 2 ^ (32 - a) := by rw [← Nat.pow_add, show a + (32 - a) = 32 by omega]
  have e1 : x * 2 ^ (32 - a) % 4294967296 = x % 2 ^ a * 2 ^ (32 - a) := by rw [hp, Nat.mul_mod_mul_right]
  have hlt : x / 2 ^ a < 2 ^ (32 - a) := by
    rw [Nat.div_lt_iff_lt_mul (Nat.two_pow_pos a), Nat.mul_comm, ← hp]
    exact hx
  rw [e1, Nat.mul_comm, ← Nat.two_pow_add_eq_or_of_lt hlt]
/-- 'or' where the program has 'xor'. -/
theorem ch_eq (e f g : Nat) (he : e < 4294967296) : ((e &&& f) ||| ((4294967295 - e) &&& g)) = ((e &&& f) ^^^ ((4294967295 - e) &&& g)) := by
  apply Nat.eq_of_testBit_eq
  intro i
  have h : (4294967295 - e).testBit i = (decide (i < 32) && !e.testBit i) := by
    have := Nat.testBit_two_pow_sub_succ (n := 32) (x := e) he i
    simpa using this
  simp only [Nat.testBit_or, Nat.testBit_xor, Nat.testBit_and, h]
  cases e.testBit i <;> cases f.testBit i <;> cases g.testBit i <;> cases decide (i < 32) <;> rfl
theorem maj_eq (a b c : Nat) : ((a &&& b) ||| (a &&& c) ||| (b &&& c)) = ((a &&& b) ^^^ (a &&& c) ^^^ (b &&& c)) := by
  apply Nat.eq_of_testBit_eq
  intro i
  simp only [Nat.testBit_or, Nat.testBit_xor, Nat.testBit_and]
  cases a.testBit i <;> cases b.testBit i <;> cases c.testBit i <;> rfl

end Go.Proofs.YtcdglhmapijebaaDoor

namespace Go.Proofs.YtcdglhmapijebaaDoor
open Go.RowKit Go.Shelf
attribute [local go_sem] Oper.semAt_some

/-- A state that nobody made. -/
def Unmade (w : World) (v : Value) : Prop := v = .pointer none ∨ ∃ z, v = .pointer (some ⟨z, 0, none⟩) ∧ w.cell? ⟨z, 0, none⟩ = some (.int .i64 0) ∧ z < w.heap.size
theorem Unmade.below {w w' : World} {v : Value} (h : Unmade w v) (hb : Below w.heap.size w w') : Unmade w' v := by
  rcases h with h | ⟨z, h, h1, h2⟩
  · exact .inl h
  · exact .inr ⟨z, h, (World.cell?_of_block (hb.block z h2)).trans h1, Nat.lt_of_lt_of_le h2 hb.size⟩
end Go.Proofs.YtcdglhmapijebaaDoor

namespace Go.Proofs.YtcdglhmapijebaaDoor
open Go.RowKit Go.Shelf

theorem StateOf.lt {w : World} {g bt : Nat} {m : List Nat} (h : StateOf w g bt m) : g < w.heap.size := by
  obtain ⟨ws, tail, h, -⟩ := h
  exact h.lt
theorem StateOf.below {w w' : World} {g bt B : Nat} {m : List Nat} (h : StateOf w g bt m) (hb : Below B w w') (hg : g < B) : StateOf w' g bt m := by
  obtain ⟨ws, tail, h, k⟩ := h
  exact ⟨ws, tail, h.below hb hg, k⟩
theorem below_on {w x y : World} (h : Below w.heap.size w x) (k : Below x.heap.size x y) : Below w.heap.size w y := h.trans (k.mono h.size)

end Go.Proofs.YtcdglhmapijebaaDoor

namespace Go.Proofs.YtcdglhmapijebaaDoor
open Go.RowKit Go.Shelf

def btOf (long : Bool) : Nat := if long then 256 else 224
/-- Two states, in one world. -/
structure Two (w0 W : World) (g1 g2 bt : Nat) (l m : List Nat) : Prop where
  one : StateOf W g1 bt l
  two : StateOf W g2 bt m
  below : Below w0.heap.size w0 W
theorem Two.on {w0 W W' : World} {g1 g2 bt : Nat} {l m : List Nat} (h : Two w0 W g1 g2 bt l m) (hb : Below W.heap.size W W') : Two w0 W' g1 g2 bt l m :=
  ⟨h.one.below hb h.one.lt, h.two.below hb h.two.lt, below_on h.below hb⟩
theorem Two.drew {w0 W : World} {g1 g2 bt : Nat} {l m : List Nat} (h : Two w0 W g1 g2 bt l m) : Two w0 W.drew g1 g2 bt l m := h.on (Below.refl _ _).drew
theorem StateOf.kept {W W' : World} {g1 g2 bt : Nat} {l : List Nat} (h : StateOf W g1 bt l) (hg : W.grownBy W' (some g2)) (hne : g1 ≠ g2) : StateOf W' g1 bt l := by
  obtain ⟨ws, tail, h, k⟩ := h
  exact ⟨ws, tail, h.block (hg.block g1 h.lt (fun e => hne (Option.some.inj e))), k⟩
/-- A hash that Sum told: it stays, and reads as text. -/
def SumAt (w0 W : World) (ad : Addr) (bt : Nat) (l : List Nat) : Prop := Reads .u8 W (some ad) (bt / 8) (bt / 8) (hashN bt l) ∧ w0.heap.size ≤ ad.block
theorem SumAt.on {w0 W W' : World} {ad : Addr} {bt : Nat} {l : List Nat} (h : SumAt w0 W ad bt l) (hb : Below W.heap.size W W') : SumAt w0 W' ad bt l := ⟨h.1.below hb, h.2⟩
end Go.Proofs.YtcdglhmapijebaaDoor

namespace Go.Proofs.YtcdglhmapijebaaDoor
open Go.RowKit Go.Shelf

end Go.Proofs.YtcdglhmapijebaaDoor

namespace Go.Proofs.YtcdglhmapijebaaDoor
open Go.RowKit Go.Shelf

theorem right_any (x n : Nat) (y k : Int) (w : World) (hy : y = x) (hk : k = n) (hx : x < 4294967296) (hn : n ≤ 31) :
    Calls Tryd.prog 55 #[.int .u32 y, .int .i64 k] w fun e w' => e = .returned (.int .u32 (halfs x n : Nat)) ∧ w = w' := by
  subst hy hk
  go_enter Tryd.func55, Tryd.ntmps55
  go_wp2_with fail
  go_loopw [0, 5] (fun xv iv wq => ∃ i v : Nat, iv = .int .i64 (i : Int) ∧ xv = .int .u32 (v : Int) ∧ i ≤ n ∧ v < 4294967296 ∧ Hid (v = halfs x i) ∧ w = wq) (fun _ iv _ => n - (intOf iv).toNat)
  case atStart => exact ⟨0, x, rfl, rfl, Nat.zero_le _, hx, rfl, rfl⟩
  case round =>
    obtain ⟨i, v, rfl, rfl, hi, hv, hI, rfl⟩ := hrel
    by_cases hlt : i < n
    · go_wp2
      go_roundw
      case rel => exact ⟨i + 1, v / 2 + v % 2 * 2147483648, by go_num, by go_num, by omega, by omega, by rw [hI.out]; rfl, trivial⟩
      case measure => simp [intOf] <;> omega
    · obtain rfl : i = n := by omega
      go_wp2
      go_ret
      exact ⟨by rw [← hI.out]; rfl, rfl⟩
def downN (x : Nat) : Nat → Nat
  | 0 => x
  | n + 1 => downN x n / 2
theorem downN_eq (x : Nat) : ∀ n, downN x n = x / 2 ^ n
  | 0 => by simp [downN]
  | n + 1 => by rw [downN, downN_eq x n, Nat.pow_succ, Nat.div_div_eq_div_mul]
theorem down_any (x n : Nat) (y k : Int) (w : World) (hy : y = x) (hk : k = n) (hx : x < 4294967296) (hn : n ≤ 31) :
    Calls Tryd.prog 56 #[.int .u32 y, .int .i64 k] w fun e w' => e = .returned (.int .u32 (x / 2 ^ n : Nat)) ∧ w = w' := by
  rw [← downN_eq]
  subst hy hk
  go_enter Tryd.func56, Tryd.ntmps56
  go_wp2_with fail
  go_loopw [0, 5] (fun xv iv wq => ∃ i v : Nat, iv = .int .i64 (i : Int) ∧ xv = .int .u32 (v : Int) ∧ i ≤ n ∧ v < 4294967296 ∧ Hid (v = downN x i) ∧ w = wq) (fun _ iv _ => n - (intOf iv).toNat)
  case atStart => exact ⟨0, x, rfl, rfl, Nat.zero_le _, hx, rfl, rfl⟩
  case round =>
    obtain ⟨i, v, rfl, rfl, hi, hv, hI, rfl⟩ := hrel
    by_cases hlt : i < n
    · go_wp2
      go_roundw
      case rel => exact ⟨i + 1, v / 2, by go_num, by go_num, by omega, by omega, by rw [hI.out]; rfl, trivial⟩
      case measure => simp [intOf] <;> omega
    · obtain rfl : i = n := by omega
      go_wp2
      go_ret
      exact ⟨by rw [← hI.out]; rfl, rfl⟩

end Go.Proofs.YtcdglhmapijebaaDoor

namespace Go.Proofs.YtcdglhmapijebaaDoor
open Go.RowKit Go.Shelf

/-- Is one wide number more than another one? -/
def moreN (a b : List Nat) : Nat → Bool
  | 0 => false
  | j + 1 => if g0 a j = g0 b j then moreN a b j else decide (g0 b j < g0 a j)
set_option maxHeartbeats 1000000 in
theorem more_any (a b : List Nat) (ha : a.length = 8) (hb : b.length = 8) (w : World) :
    Calls Tryd.prog 79 #[.agg (arrC .u64 a), .agg (arrC .u64 b)] w fun e w' => e = .returned (.bool (moreN a b 8)) ∧ Below w.heap.size w w' := by
  go_enter Tryd.func79, Tryd.ntmps79
  go_wp2_with fail
  have HA := Lib.hid (show Arr .u64 130 ((w.alloc (.cells (arrC .u64 a) 130)).alloc (.cells (arrC .u64 b) 130)) w.heap.size a from Arr.alloc (Go.heap_alloc_new w _) _)
  have HB := Lib.hid (show Arr .u64 130 ((w.alloc (.cells (arrC .u64 a) 130)).alloc (.cells (arrC .u64 b) 130)) (w.heap.size + 1) b from by
    have := Go.heap_alloc_new (w.alloc (.cells (arrC .u64 a) 130)) (.cells (arrC .u64 b) 130)
    rwa [World.size_alloc] at this)
  have HW := Lib.hid (((Below.refl w.heap.size w).alloc (Nat.le_refl _) (.cells (arrC .u64 a) 130)).alloc (by simp) (.cells (arrC .u64 b) 130))
  generalize (w.alloc (.cells (arrC .u64 a) 130)).alloc (.cells (arrC .u64 b) 130) = W at *
  have HLA := Lib.hid ha
  have HLB := Lib.hid hb
  clear ha hb
  obtain ⟨g1, hg1⟩ : ∃ g, g = w.heap.size := ⟨_, rfl⟩
  obtain ⟨g2, hg2⟩ : ∃ g, g = w.heap.size + 1 := ⟨_, rfl⟩
  rw [← hg2] at HB ⊢
  rw [← hg1] at HA ⊢
  clear hg1 hg2
  go_loopw [5] (fun iv wq => ∃ j : Nat, iv = .int .i64 ((j : Int) - 1) ∧ j ≤ 8 ∧ Hid (moreN a b 8 = moreN a b j ∧ Arr .u64 130 wq g1 a ∧ Arr .u64 130 wq g2 b ∧ Below w.heap.size w wq)) (fun iv _ => (intOf iv + 1).toNat)
  case atStart => exact ⟨8, rfl, by decide, rfl, HA.out, HB.out, HW.out⟩
  case round =>
    obtain ⟨j, rfl, hj, hI⟩ := hrel
    cases j with
    | zero =>
      go_wp2
      go_ret
      exact ⟨by rw [hI.out.1]; rfl, hI.out.2.2.2⟩
    | succ j =>
      have e : (((j + 1 : Nat) : Int) - 1) = (j : Int) := by omega
      rw [e]
      clear e
      have c1 := hI.out.2.1.cell j (by rw [HLA.out]; omega)
      have c2 := hI.out.2.2.1.cell j (by rw [HLB.out]; omega)
      have HM := Lib.hid (show moreN a b (j + 1) = if g0 a j = g0 b j then moreN a b j else decide (g0 b j < g0 a j) from rfl)
      unfold g0 at HM
      generalize a[j]?.getD 0 = x at *
      generalize b[j]?.getD 0 = y at *
      by_cases hxy : x = y
      · have HXY := Lib.hid hxy
        have t1 : ((x : Int) != (y : Int)) = false := by simp; omega
        clear hxy
        go_wp2_with fail
        go_quiet (fail)
        go_wp2
        go_roundw
        case rel => exact ⟨j, rfl, by omega, by rw [hI.out.1, HM.out, if_pos HXY.out], hI.out.2.1.drewN nq, hI.out.2.2.1.drewN nq, below_drewS hI.out.2.2.2 nq⟩
        case measure => simp [intOf] <;> omega
      · have HXY := Lib.hid hxy
        have t1 : ((x : Int) != (y : Int)) = true := by simp; omega
        clear hxy
        go_wp2_with fail
        go_quiet (fail)
        go_wp2_with fail
        have c3 : (wr.drewN nq).cell? ⟨g1, j, none⟩ = some (.int .u64 (x : Int)) := c1
        have c4 : (wr.drewN nq).cell? ⟨g2, j, none⟩ = some (.int .u64 (y : Int)) := c2
        have H5 := Lib.hid (below_drewS hI.out.2.2.2 nq)
        have HE := Lib.hid (show moreN a b 8 = decide (y < x) by rw [hI.out.1, HM.out, if_neg HXY.out])
        clear c1 c2 hI HM
        generalize wr.drewN nq = w5 at *
        go_quiet (fail)
        go_wp2
        go_ret
        refine ⟨?_, below_drewS H5.out _⟩
        rw [HE.out]
        simp

end Go.Proofs.YtcdglhmapijebaaDoor

namespace Go.Proofs.YtcdglhmapijebaaDoor
open Go.RowKit Go.Shelf

/-- One step of a row's product. -/
def inS (a b : List Nat) (i : Nat) (st : List Nat × Nat) (k : Nat) : List Nat × Nat :=
  (st.1.set (i + k) ((g0 st.1 (i + k) + g0 a i * g0 b k + st.2) % 4294967296), (g0 st.1 (i + k) + g0 a i * g0 b k + st.2) / 4294967296)
def inN (a b : List Nat) (i : Nat) (out : List Nat) : Nat → List Nat × Nat
  | 0 => (out, 0)
  | k + 1 => inS a b i (inN a b i out k) k
def outN (a b : List Nat) : Nat → List Nat
  | 0 => List.replicate 8 0
  | i + 1 => (inN a b i (outN a b i) (8 - i)).1
def productN (a b : List Nat) : List Nat := outN a b 8
/-- Eight limbs. -/
def Eight (l : List Nat) : Prop := l.length = 8 ∧ ∀ x ∈ l, x < 4294967296
theorem step_lt {x y z c : Nat} (hx : x < 4294967296) (hy : y < 4294967296) (hz : z < 4294967296) (hc : c < 4294967296) : x * y ≤ 18446744065119617025 ∧ z + x * y + c < 18446744073709551616 := by
  have h : x * y ≤ 4294967295 * 4294967295 := Nat.mul_le_mul (by omega) (by omega)
  omega
theorem inS_ok {a b : List Nat} {i k : Nat} {st : List Nat × Nat} (ha : Eight a) (hb : Eight b) (h : Eight st.1) (hc : st.2 < 4294967296) : Eight (inS a b i st k).1 ∧ (inS a b i st k).2 < 4294967296 := by
  have := step_lt (g0_lt ha.2 (by decide) i) (g0_lt hb.2 (by decide) k) (g0_lt h.2 (by decide) (i + k)) hc
  refine ⟨⟨by simp [inS, h.1], set_lt h.2 _ _ (Nat.mod_lt _ (by decide))⟩, ?_⟩
  show _ / 4294967296 < 4294967296
  omega
theorem inN_ok {a b : List Nat} {i : Nat} {out : List Nat} (ha : Eight a) (hb : Eight b) (h : Eight out) : ∀ k, Eight (inN a b i out k).1 ∧ (inN a b i out k).2 < 4294967296
  | 0 => ⟨h, Nat.lt_of_lt_of_le (Nat.zero_lt_one) (by decide)⟩
  | k + 1 => inS_ok ha hb (inN_ok ha hb h k).1 (inN_ok ha hb h k).2
theorem outN_ok {a b : List Nat} (ha : Eight a) (hb : Eight b) : ∀ i, Eight (outN a b i)
  | 0 => ⟨by simp [outN], fun x hx => by have := List.eq_of_mem_replicate hx; omega⟩
  | i + 1 => (inN_ok ha hb (outN_ok ha hb i) (8 - i)).1
theorem productN_ok {a b : List Nat} (ha : Eight a) (hb : Eight b) : Eight (productN a b) := outN_ok ha hb 8
/-- What product's blocks hold. -/
structure Prd (w W : World) (h2 h3 h4 h5 : Nat) (a b out : List Nat) : Prop where
  one : Arr .u64 130 W h2 a
  two : Arr .u64 130 W h3 b
  res : Arr .u64 130 W h4 (List.replicate 8 0)
  out : Arr .u64 130 W h5 out
  below : Below w.heap.size w W
theorem Prd.drewN {w W : World} {h2 h3 h4 h5 : Nat} {a b out : List Nat} (h : Prd w W h2 h3 h4 h5 a b out) (n : Nat) : Prd w (W.drewN n) h2 h3 h4 h5 a b out := ⟨h.one, h.two, h.res, h.out, below_drewS h.below n⟩
theorem Prd.stored {w W : World} {h2 h3 h4 h5 : Nat} {a b out : List Nat} (h : Prd w W h2 h3 h4 h5 a b out) (hd : h2 ≠ h5 ∧ h3 ≠ h5 ∧ h4 ≠ h5 ∧ w.heap.size ≤ h5) (i x : Nat) (y : Int) (hy : y = (x : Int)) : Prd w (W.setCell ⟨h5, i, none⟩ (.int .u64 y)) h2 h3 h4 h5 a b (out.set i x) :=
  ⟨h.one.other _ _ hd.1, h.two.other _ _ hd.2.1, h.res.other _ _ hd.2.2.1, h.out.stored i x y hy, h.below.setCell hd.2.2.2 _⟩
theorem prd_start (a b : List Nat) (w : World) : Prd w ((((w.alloc (.cells (arrC .u64 a) 130)).alloc (.cells (arrC .u64 b) 130)).alloc (.cells (arrC .u64 [0, 0, 0, 0, 0, 0, 0, 0]) 130)).alloc (.cells (arrC .u64 [0, 0, 0, 0, 0, 0, 0, 0]) 130)) w.heap.size (w.heap.size + 1) (w.heap.size + 1 + 1) (w.heap.size + 1 + 1 + 1) a b (List.replicate 8 0) := by
  have h1 : Arr .u64 130 (w.alloc (.cells (arrC .u64 a) 130)) w.heap.size a := Go.heap_alloc_new w _
  have hb1 := (Below.refl w.heap.size w).alloc (Nat.le_refl _) (.cells (arrC .u64 a) 130)
  have s1 : (w.alloc (.cells (arrC .u64 a) 130)).heap.size = w.heap.size + 1 := World.size_alloc _ _
  generalize w.alloc (.cells (arrC .u64 a) 130) = w1 at *
  have h2 : Arr .u64 130 (w1.alloc (.cells (arrC .u64 b) 130)) (w.heap.size + 1) b := by rw [← s1]; exact Go.heap_alloc_new w1 _
  have h12 := h1.alloc (.cells (arrC .u64 b) 130)
  have hb2 := hb1.alloc (by omega) (.cells (arrC .u64 b) 130)
  have s2 : (w1.alloc (.cells (arrC .u64 b) 130)).heap.size = w.heap.size + 1 + 1 := by rw [World.size_alloc, s1]
  generalize w1.alloc (.cells (arrC .u64 b) 130) = w2 at *
  have h3 : Arr .u64 130 (w2.alloc (.cells (arrC .u64 [0, 0, 0, 0, 0, 0, 0, 0]) 130)) (w.heap.size + 1 + 1) [0, 0, 0, 0, 0, 0, 0, 0] := by rw [← s2]; exact Go.heap_alloc_new w2 _
  have h23 := h2.alloc (.cells (arrC .u64 [0, 0, 0, 0, 0, 0, 0, 0]) 130)
  have h13 := h12.alloc (.cells (arrC .u64 [0, 0, 0, 0, 0, 0, 0, 0]) 130)
  have hb3 := hb2.alloc (by omega) (.cells (arrC .u64 [0, 0, 0, 0, 0, 0, 0, 0]) 130)
  have s3 : (w2.alloc (.cells (arrC .u64 [0, 0, 0, 0, 0, 0, 0, 0]) 130)).heap.size = w.heap.size + 1 + 1 + 1 := by rw [World.size_alloc, s2]
  generalize w2.alloc (.cells (arrC .u64 [0, 0, 0, 0, 0, 0, 0, 0]) 130) = w3 at *
  refine ⟨h13.alloc _, h23.alloc _, h3.alloc _, ?_, hb3.alloc (by omega) _⟩
  rw [← s3]
  exact Go.heap_alloc_new w3 _
theorem out_ok {a b out : List Nat} {w W : World} {h2 h3 h4 h5 : Nat} (h : Prd w W h2 h3 h4 h5 a b out) (ho : Eight out) (i : Nat) (hi : i < 8) : W.cell? ⟨h5, i, none⟩ = some (.int .u64 ((g0 out i : Nat) : Int)) := h.out.cell i (by rw [ho.1]; exact hi)
set_option maxRecDepth 100000 in
set_option maxHeartbeats 2000000 in
theorem product_any (a b : List Nat) (ha : Eight a) (hb : Eight b) (w : World) :
    Calls Tryd.prog 78 #[.agg (arrC .u64 a), .agg (arrC .u64 b)] w fun e w' => e = .returned (.agg (arrC .u64 (productN a b))) ∧ Below w.heap.size w w' := by
  have hz : ∀ w, (zeroValue 130).run Tryd.prog w = .ok (.agg (arrC .u64 (List.replicate 8 0))) w := fun _ => by kernel_rfl
  have HA := Lib.hid ha
  have HB := Lib.hid hb
  clear ha hb
  go_enter Tryd.func78, Tryd.ntmps78
  go_wp2_with fail
  have HP := Lib.hid (prd_start a b w)
  generalize (((w.alloc (.cells (arrC .u64 a) 130)).alloc (.cells (arrC .u64 b) 130)).alloc (.cells (arrC .u64 [0, 0, 0, 0, 0, 0, 0, 0]) 130)).alloc (.cells (arrC .u64 [0, 0, 0, 0, 0, 0, 0, 0]) 130) = W at *
  obtain ⟨h5, e5⟩ : ∃ h, h = w.heap.size + 1 + 1 + 1 := ⟨_, rfl⟩
  obtain ⟨h4, e4⟩ : ∃ h, h = w.heap.size + 1 + 1 := ⟨_, rfl⟩
  obtain ⟨h3, e3⟩ : ∃ h, h = w.heap.size + 1 := ⟨_, rfl⟩
  obtain ⟨h2, e2⟩ : ∃ h, h = w.heap.size := ⟨_, rfl⟩
  have hd : Hid (h2 ≠ h5 ∧ h3 ≠ h5 ∧ h4 ≠ h5 ∧ w.heap.size ≤ h5) := ⟨by omega, by omega, by omega, by omega⟩
  have hd4 : Hid (w.heap.size ≤ h4) := by show _ ≤ _; omega
  rw [← e5, ← e4, ← e3] at HP ⊢
  have HP2 : Hid (Prd w W h2 h3 h4 h5 a b (List.replicate 8 0)) := by rw [e2]; exact HP
  rw [← e2]
  clear e5 e4 e3 e2 HP
  go_loopw [6] (fun iv wq => ∃ i : Nat, iv = .int .i64 (i : Int) ∧ i ≤ 8 ∧ Hid (Prd w wq h2 h3 h4 h5 a b (outN a b i))) (fun iv _ => 8 - (intOf iv).toNat)
  case atStart => exact ⟨0, rfl, by decide, HP2.out⟩
  case round =>
    obtain ⟨i, rfl, hi, hI⟩ := hrel
    rcases Nat.lt_or_ge i 8 with hlt | hge
    · have tI : decide ((i : Int) < 8) = true := by simp; omega
      go_wp2_with fail
      go_loopw [7, 8] (fun cv kv wq => ∃ k c : Nat, kv = .int .i64 (k : Int) ∧ cv = .int .u64 (c : Int) ∧ i + k ≤ 8 ∧ c < 4294967296 ∧ Hid (c = (inN a b i (outN a b i) k).2 ∧ Prd w wq h2 h3 h4 h5 a b (inN a b i (outN a b i) k).1)) (fun _ kv _ => 8 - (intOf kv).toNat)
      case atStart => exact ⟨0, 0, rfl, rfl, by omega, by decide, rfl, hI.out⟩
      case round =>
        obtain ⟨k, c, rfl, rfl, hk, hc, hJ⟩ := hrel
        have hok := inN_ok (i := i) HA.out HB.out (outN_ok HA.out HB.out i) k
        rcases Nat.lt_or_ge (i + k) 8 with hlt2 | hge2
        · have cO := out_ok hJ.out.2 hok.1 (i + k) hlt2
          have fO := hJ.out.2.out.frozen (i + k)
          have cA := hJ.out.2.one.cell i (by rw [HA.out.1]; omega)
          have cB := hJ.out.2.two.cell k (by rw [HB.out.1]; omega)
          have lx : g0 a i < 4294967296 := g0_lt HA.out.2 (by decide) i
          have ly : g0 b k < 4294967296 := g0_lt HB.out.2 (by decide) k
          have lz : g0 (inN a b i (outN a b i) k).1 (i + k) < 4294967296 := g0_lt hok.1.2 (by decide) _
          obtain ⟨z, hz1⟩ : ∃ z, z = g0 (inN a b i (outN a b i) k).1 (i + k) := ⟨_, rfl⟩
          obtain ⟨x, hx1⟩ : ∃ x, x = g0 a i := ⟨_, rfl⟩
          obtain ⟨y, hy1⟩ : ∃ y, y = g0 b k := ⟨_, rfl⟩
          change wr.cell? _ = some (.int .u64 ((g0 a i : Nat) : Int)) at cA
          change wr.cell? _ = some (.int .u64 ((g0 b k : Nat) : Int)) at cB
          rw [← hx1] at cA lx
          rw [← hy1] at cB ly
          rw [← hz1] at cO lz
          have hs := step_lt lx ly lz hc
          obtain ⟨p, hp⟩ : ∃ p, p = x * y := ⟨_, rfl⟩
          have hpi : (x : Int) * (y : Int) = (p : Int) := by rw [hp]; push_cast; rfl
          rw [← hp] at hs
          obtain ⟨hs1, hs2⟩ := hs
          have HZ := Lib.hid (show inS a b i (inN a b i (outN a b i) k) k = ((inN a b i (outN a b i) k).1.set (i + k) ((z + p + c) % 4294967296), (z + p + c) / 4294967296) by
            unfold inS
            rw [← hz1, ← hx1, ← hy1, ← hp, hJ.out.1])
          clear hp hz1 hx1 hy1 hok
          go_wp2_with fail
          have HN := Lib.hid (show inN a b i (outN a b i) (k + 1) = ((inN a b i (outN a b i) k).1.set (i + k) ((z + p + c) % 4294967296), (z + p + c) / 4294967296) from HZ.out)
          go_quiet (fail)
          go_wp2_with fail
          go_roundw
          case rel => exact ⟨k + 1, (z + p + c) / 4294967296, by go_num, by go_num, by omega, by omega, by
            rw [HN.out]
            exact ⟨rfl, (hJ.out.2.drewN nq).stored hd.out (i + k) ((z + p + c) % 4294967296) _ (by omega)⟩⟩
          case measure => simp [intOf] <;> omega
        · have hk8 : Hid (k = 8 - i) := by show k = 8 - i; omega
          go_wp2_with fail
          go_roundw
          case rel => exact ⟨i + 1, by go_num, by omega, by
            have := hJ.out.2
            rw [hk8.out] at this
            exact this⟩
          case measure => simp [intOf] <;> omega
    · obtain rfl : i = 8 := by omega
      have hO := outN_ok HA.out HB.out 8
      have hP8 := hI.out
      have HPN := Lib.hid (show productN a b = outN a b 8 from rfl)
      generalize outN a b 8 = o at *
      have hsz : (arrC .u64 o).size = 8 := by rw [arrC_size, hO.1]
      have HP8 := Lib.hid hP8
      have HSZ := Lib.hid hsz
      clear hP8 hO hI hsz
      go_wp2_with (first | (refine wpList_load_row rfl _ _ rfl h5 rfl _ (arrC .u64 o) _ _ HP8.out.out Tryd.underlying130 rfl (by rw [HSZ.out]; kernel_rfl) ?_) | (refine wpList_store_row rfl _ _ _ rfl h4 (arrC .u64 o) rfl rfl 130 _ HP8.out.res (by rw [HSZ.out]; kernel_rfl) (by rw [HSZ.out]; kernel_rfl) (arrC_one _ _) ?_))
      have hgr := grown_setRow (x := wr) (y := wr) (g := h4) ⟨rfl, rfl, rfl, Nat.le_refl _, fun _ _ _ => rfl⟩ (arrC .u64 o)
      refine bodyPost_ret (v := .agg (arrC .u64 o)) (results_cell_row (ty := 130) (p := 4) (by kernel_rfl) _ _ h4 130 (arrC .u64 o) (0, 0) _ rfl (setRow_heap wr h4 _ _ _ _ HP8.out.res) Tryd.underlying130 rfl (by rw [HSZ.out]; kernel_rfl)) rfl ?_
      exact ⟨by rw [HPN.out], HP8.out.below.grown hgr HP8.out.below.size (fun r e => by cases e; exact hd4.out)⟩

end Go.Proofs.YtcdglhmapijebaaDoor

namespace Go.Proofs.YtcdglhmapijebaaDoor
open Go.RowKit Go.Shelf

def withN (a : List Nat) (bit : Nat) : List Nat := a.set (bit / 32) (g0 a (bit / 32) + 2 ^ (bit % 32))
theorem with_start (a : List Nat) (w : World) : Arr .u64 130 ((w.alloc (.cells (arrC .u64 a) 130)).alloc (.cells (arrC .u64 [0, 0, 0, 0, 0, 0, 0, 0]) 130)) w.heap.size a ∧ Arr .u64 130 ((w.alloc (.cells (arrC .u64 a) 130)).alloc (.cells (arrC .u64 [0, 0, 0, 0, 0, 0, 0, 0]) 130)) (w.heap.size + 1) (List.replicate 8 0) ∧ Below w.heap.size w ((w.alloc (.cells (arrC .u64 a) 130)).alloc (.cells (arrC .u64 [0, 0, 0, 0, 0, 0, 0, 0]) 130)) := by
  refine ⟨Arr.alloc (Go.heap_alloc_new w _) _, ?_, ((Below.refl w.heap.size w).alloc (Nat.le_refl _) _).alloc (by simp) _⟩
  have := Go.heap_alloc_new (w.alloc (.cells (arrC .u64 a) 130)) (.cells (arrC .u64 [0, 0, 0, 0, 0, 0, 0, 0]) 130)
  rwa [World.size_alloc] at this
theorem two_pow_lt (i : Nat) (h : i ≤ 31) : 2 ^ i ≤ 2147483648 := Nat.pow_le_pow_right (by decide) h
set_option maxHeartbeats 1000000 in
theorem with_any (a : List Nat) (bit : Nat) (k : Int) (ha : Eight a) (hk : k = bit) (hbit : bit < 256) (w : World) :
    Calls Tryd.prog 77 #[.agg (arrC .u64 a), .int .i64 k] w fun e w' => e = .returned (.agg (arrC .u64 (withN a bit))) ∧ Below w.heap.size w w' := by
  subst hk
  have hz : ∀ w, (zeroValue 130).run Tryd.prog w = .ok (.agg (arrC .u64 (List.replicate 8 0))) w := fun _ => by kernel_rfl
  obtain ⟨q, hq⟩ : ∃ q, q = bit / 32 := ⟨_, rfl⟩
  obtain ⟨r, hr⟩ : ∃ r, r = bit % 32 := ⟨_, rfl⟩
  have hqi : Int.tdiv (bit : Int) 32 = (q : Int) := by rw [Int.tdiv_eq_ediv_of_nonneg (by omega)]; omega
  have hri : Int.tmod (bit : Int) 32 = (r : Int) := by rw [Int.tmod_eq_emod_of_nonneg (by omega)]; omega
  have hq8 : q < 8 := by omega
  have hr32 : r < 32 := by omega
  have HQ := Lib.hid hq
  have HR := Lib.hid hr
  have HA := Lib.hid ha
  clear hq hr ha
  go_enter Tryd.func77, Tryd.ntmps77
  go_wp2_with fail
  have HP := Lib.hid (with_start a w)
  generalize (w.alloc (.cells (arrC .u64 a) 130)).alloc (.cells (arrC .u64 [0, 0, 0, 0, 0, 0, 0, 0]) 130) = W at *
  obtain ⟨h4, e4⟩ : ∃ h, h = w.heap.size + 1 := ⟨_, rfl⟩
  obtain ⟨h2, e2⟩ : ∃ h, h = w.heap.size := ⟨_, rfl⟩
  have hd : Hid (h4 ≠ h2 ∧ w.heap.size ≤ h4 ∧ w.heap.size ≤ h2) := ⟨by omega, by omega, by omega⟩
  rw [← e4] at HP ⊢
  have HP2 : Hid (Arr .u64 130 W h2 a ∧ Arr .u64 130 W h4 (List.replicate 8 0) ∧ Below w.heap.size w W) := by rw [e2]; exact HP
  rw [← e2]
  clear e4 e2 HP
  go_loopw [5, 6] (fun xv iv wq => ∃ i v : Nat, iv = .int .i64 (i : Int) ∧ xv = .int .u64 (v : Int) ∧ i ≤ r ∧ v ≤ 2147483648 ∧ Hid (v = 2 ^ i) ∧ W = wq) (fun _ iv _ => r - (intOf iv).toNat)
  case atStart => exact ⟨0, 1, rfl, rfl, Nat.zero_le _, by decide, rfl, rfl⟩
  case round =>
    obtain ⟨i, v, rfl, rfl, hi, hv, hI, rfl⟩ := hrel
    by_cases hlt : i < r
    · have hv2 := two_pow_lt (i + 1) (by omega)
      rw [Nat.pow_succ, ← hI.out] at hv2
      go_wp2
      go_roundw
      case rel => exact ⟨i + 1, 2 * v, by go_num, by go_num, by omega, by omega, by show 2 * v = 2 ^ (i + 1); rw [hI.out, Nat.pow_succ, Nat.mul_comm], trivial⟩
      case measure => simp [intOf] <;> omega
    · obtain rfl : i = r := by omega
      have cA := HP2.out.1.cell q (by rw [HA.out.1]; exact hq8)
      have fA := HP2.out.1.frozen q
      have lx : g0 a q < 4294967296 := g0_lt HA.out.2 (by decide) q
      obtain ⟨x, hx⟩ : ∃ x, x = g0 a q := ⟨_, rfl⟩
      change W.cell? _ = some (.int .u64 ((g0 a q : Nat) : Int)) at cA
      rw [← hx] at cA lx
      have HO := Lib.hid (show withN a bit = a.set q (x + v) by unfold withN; rw [← HQ.out, ← HR.out, ← hI.out, hx])
      have HS := Lib.hid (HP2.out.1.stored q (x + v) ((x : Int) + (v : Int)) (by push_cast; rfl))
      have H4 := Lib.hid (HP2.out.2.1.other ⟨h2, q, none⟩ (.int .u64 ((x : Int) + (v : Int))) hd.out.1)
      have HBW := Lib.hid (HP2.out.2.2.setCell (p := ⟨h2, q, none⟩) hd.out.2.2 (.int .u64 ((x : Int) + (v : Int))))
      have hsz : (arrC .u64 (a.set q (x + v))).size = 8 := by rw [arrC_size, List.length_set, HA.out.1]
      have HSZ := Lib.hid hsz
      clear hx hsz
      generalize a.set q (x + v) = o at *
      go_wp2_with (first | (refine wpList_load_row rfl _ _ rfl h2 rfl _ (arrC .u64 o) _ _ HS.out Tryd.underlying130 rfl (by rw [HSZ.out]; kernel_rfl) ?_) | (refine wpList_store_row rfl _ _ _ rfl h4 (arrC .u64 o) rfl rfl 130 _ H4.out (by rw [HSZ.out]; kernel_rfl) (by rw [HSZ.out]; kernel_rfl) (arrC_one _ _) ?_))
      have hgr := grown_setRow (x := W.setCell ⟨h2, q, none⟩ (.int .u64 ((x : Int) + (v : Int)))) (y := W.setCell ⟨h2, q, none⟩ (.int .u64 ((x : Int) + (v : Int)))) (g := h4) ⟨rfl, rfl, rfl, Nat.le_refl _, fun _ _ _ => rfl⟩ (arrC .u64 o)
      refine bodyPost_ret (v := .agg (arrC .u64 o)) (results_cell_row (ty := 130) (p := 4) (by kernel_rfl) _ _ h4 130 (arrC .u64 o) (0, 0) _ rfl (setRow_heap _ h4 _ _ _ _ H4.out) Tryd.underlying130 rfl (by rw [HSZ.out]; kernel_rfl)) rfl ?_
      exact ⟨by rw [HO.out], HBW.out.grown hgr HBW.out.size (fun r e => by cases e; exact hd.out.2.1)⟩

end Go.Proofs.YtcdglhmapijebaaDoor

namespace Go.Proofs.YtcdglhmapijebaaDoor
open Go.RowKit

/-- The number that digits to base b are. -/
def valB (b : Nat) : List Nat → Nat
  | [] => 0
  | d :: t => d + b * valB b t

/-- Digits without noughts at the end. -/
def bareN : List Nat → List Nat
  | [] => []
  | d :: t => if bareN t = [] ∧ d = 0 then [] else d :: bareN t

/-- A number's digits. -/
def natB (b n : Nat) : List Nat := if _h : n = 0 ∨ b < 2 then [] else n % b :: natB b (n / b)
termination_by n
decreasing_by exact Nat.div_lt_self (by omega) (by omega)

theorem valB_append (b : Nat) : ∀ l m : List Nat, valB b (l ++ m) = valB b l + b ^ l.length * valB b m
  | [], m => by simp [valB]
  | d :: t, m => by
    simp only [List.cons_append, valB, valB_append b t m, List.length_cons]
    rw [Nat.pow_succ, Nat.mul_add, Nat.add_assoc, ← Nat.mul_assoc, Nat.mul_comm b (b ^ t.length)]

theorem valB_snoc (b : Nat) (l : List Nat) (d : Nat) : valB b (l ++ [d]) = valB b l + b ^ l.length * d := by rw [valB_append]; simp [valB]

theorem valB_lt {b : Nat} (hb : 2 ≤ b) : ∀ {l : List Nat}, (∀ x ∈ l, x < b) → valB b l < b ^ l.length
  | [], _ => by simp [valB]
  | d :: t, h => by
    have h1 := valB_lt hb (l := t) (fun x hx => h x (List.mem_cons_of_mem _ hx))
    have h2 := h d List.mem_cons_self
    simp only [valB, List.length_cons, Nat.pow_succ]
    have h3 : b * (valB b t + 1) ≤ b * b ^ t.length := Nat.mul_le_mul_left _ h1
    rw [Nat.mul_comm (b ^ t.length) b]
    rw [Nat.mul_add] at h3
    omega

theorem take_snocN (l : List Nat) (k : Nat) (hk : k < l.length) : l.take (k + 1) = l.take k ++ [l[k]?.getD 0] := by
  rw [List.take_add_one, List.getElem?_eq_getElem hk]; rfl

/-- A natural's number. -/
abbrev val32 (l : List Nat) : Nat := valB 4294967296 l
abbrev nat32 (n : Nat) : List Nat := natB 4294967296 n
abbrev Lim (l : List Nat) : Prop := ∀ x ∈ l, x < 4294967296
/-- The least number that is too great. -/
def topN : Nat := 4294967296 ^ 256
/-- A natural, or the error. -/
def cutR32 (n : Nat) : List Nat × Int := if n < topN then (nat32 n, 0) else ([], 20)
end Go.Proofs.YtcdglhmapijebaaDoor

namespace Go.Proofs.YtcdglhmapijebaaDoor
open Go.RowKit

theorem valB_setW (b : Nat) : ∀ (l : List Nat) (t d : Nat), t < l.length → valB b (l.set t d) + b ^ t * (l[t]?.getD 0) = valB b l + b ^ t * d
  | [], t, d, h => by simp at h
  | c :: l, 0, d, _ => by simp [valB]; omega
  | c :: l, t + 1, d, h => by
    have := valB_setW b l t d (by simpa using h)
    simp only [List.set_cons_succ, valB, List.getElem?_cons_succ, Nat.pow_succ]
    have e1 : b ^ t * b * (l[t]?.getD 0) = b * (b ^ t * (l[t]?.getD 0)) := by rw [Nat.mul_comm (b ^ t) b, Nat.mul_assoc]
    have e2 : b ^ t * b * d = b * (b ^ t * d) := by rw [Nat.mul_comm (b ^ t) b, Nat.mul_assoc]
    have e3 : b * (valB b (l.set t d) + b ^ t * (l[t]?.getD 0)) = b * (valB b l + b ^ t * d) := by rw [this]
    rw [Nat.mul_add, Nat.mul_add] at e3
    omega

theorem val_take_succ {l : List Nat} (k : Nat) (hk : k < l.length) : valB 4294967296 (l.take (k + 1)) = valB 4294967296 (l.take k) + 4294967296 ^ k * g0 l k := by
  rw [take_snocN l k hk, valB_snoc, List.length_take, Nat.min_eq_left (by omega)]
  rfl
theorem in_step {V W z s P x y c : Nat} (h : W + P * z = V + P * (s % 4294967296)) (hs : s = z + x * y + c) : W + s / 4294967296 * (P * 4294967296) = V + P * c + P * (x * y) := by
  have h1 : P * s = P * (s % 4294967296) + s / 4294967296 * (P * 4294967296) := by
    have := Nat.div_add_mod s 4294967296
    rw [← Nat.mul_assoc, Nat.mul_comm (s / 4294967296) P, Nat.mul_assoc, ← Nat.mul_add]
    congr 1
    omega
  have h2 : P * s = P * z + P * (x * y) + P * c := by rw [hs, Nat.mul_add, Nat.mul_add]
  omega
theorem inN_val {a b : List Nat} {i : Nat} {out : List Nat} (ha : Eight a) (hb : Eight b) (ho : Eight out) : ∀ k, i + k ≤ 8 →
    valB 4294967296 (inN a b i out k).1 + (inN a b i out k).2 * 4294967296 ^ (i + k) = valB 4294967296 out + g0 a i * valB 4294967296 (b.take k) * 4294967296 ^ i
  | 0, _ => by simp [inN, valB]
  | k + 1, h => by
    have ih := inN_val ha hb ho (i := i) k (by omega)
    have hok := (inN_ok (i := i) ha hb ho k).1.1
    have hset := valB_setW 4294967296 (inN a b i out k).1 (i + k) ((g0 (inN a b i out k).1 (i + k) + g0 a i * g0 b k + (inN a b i out k).2) % 4294967296) (by omega)
    have hst := in_step hset rfl
    show valB 4294967296 ((inN a b i out k).1.set (i + k) _) + (g0 (inN a b i out k).1 (i + k) + g0 a i * g0 b k + (inN a b i out k).2) / 4294967296 * 4294967296 ^ (i + k + 1) = _
    rw [Nat.pow_succ, hst, val_take_succ k (by rw [hb.1]; omega), Nat.mul_comm (4294967296 ^ (i + k)) (inN a b i out k).2, ih, Nat.mul_add, Nat.add_mul, Nat.pow_add]
    generalize 4294967296 ^ i = Q
    generalize 4294967296 ^ k = R
    rw [Nat.add_assoc]
    congr 2
    ac_rfl
theorem outN_val {a b : List Nat} (ha : Eight a) (hb : Eight b) : ∀ i, i ≤ 8 → ∃ m, valB 4294967296 (outN a b i) + m * 4294967296 ^ 8 = valB 4294967296 (a.take i) * valB 4294967296 b
  | 0, _ => ⟨0, by simp [outN, valB]⟩
  | i + 1, h => by
    obtain ⟨m, hm⟩ := outN_val ha hb i (by omega)
    have hin := inN_val ha hb (outN_ok ha hb i) (i := i) (8 - i) (by omega)
    have hb2 := valB_append 4294967296 (b.take (8 - i)) (b.drop (8 - i))
    rw [List.take_append_drop, List.length_take, hb.1, Nat.min_eq_left (by omega)] at hb2
    have hP : 4294967296 ^ 8 = 4294967296 ^ (8 - i) * 4294967296 ^ i := by rw [← Nat.pow_add]; congr 1; omega
    rw [show i + (8 - i) = 8 by omega] at hin
    refine ⟨(inN a b i (outN a b i) (8 - i)).2 + m + g0 a i * valB 4294967296 (b.drop (8 - i)), ?_⟩
    show valB 4294967296 (inN a b i (outN a b i) (8 - i)).1 + _ = _
    have e0 : (valB 4294967296 (a.take i) + 4294967296 ^ i * g0 a i) * valB 4294967296 b = valB 4294967296 (a.take i) * valB 4294967296 b + 4294967296 ^ i * g0 a i * valB 4294967296 b := Nat.add_mul _ _ _
    have e1 : ((inN a b i (outN a b i) (8 - i)).2 + m + g0 a i * valB 4294967296 (b.drop (8 - i))) * 4294967296 ^ 8 = (inN a b i (outN a b i) (8 - i)).2 * 4294967296 ^ 8 + m * 4294967296 ^ 8 + g0 a i * valB 4294967296 (b.drop (8 - i)) * 4294967296 ^ 8 := by rw [Nat.add_mul, Nat.add_mul]
    rw [val_take_succ (l := a) i (by rw [ha.1]; omega), e0, ← hm, e1]
    have e : 4294967296 ^ i * g0 a i * valB 4294967296 b = g0 a i * valB 4294967296 (b.take (8 - i)) * 4294967296 ^ i + g0 a i * valB 4294967296 (b.drop (8 - i)) * 4294967296 ^ 8 := by
      rw [hP]
      generalize 4294967296 ^ (8 - i) = R at *
      generalize 4294967296 ^ i = Q at *
      rw [hb2, Nat.mul_add]
      congr 1 <;> ac_rfl
    rw [e]
    generalize 4294967296 ^ 8 = M at *
    omega
theorem eight_lt {l : List Nat} (h : Eight l) : valB 4294967296 l < 4294967296 ^ 8 := by
  have := valB_lt (b := 4294967296) (by decide) h.2
  rwa [h.1] at this
theorem productN_val {a b : List Nat} (ha : Eight a) (hb : Eight b) : valB 4294967296 (productN a b) = valB 4294967296 a * valB 4294967296 b % 4294967296 ^ 8 := by
  obtain ⟨m, hm⟩ := outN_val ha hb 8 (Nat.le_refl _)
  rw [List.take_of_length_le (by rw [ha.1]; exact Nat.le_refl _)] at hm
  rw [← hm, Nat.add_mul_mod_self_right]
  exact (Nat.mod_eq_of_lt (eight_lt (productN_ok ha hb))).symm
theorem blt_dec (x y : Nat) : Nat.blt x y = decide (x < y) := by
  rw [Bool.eq_iff_iff, Nat.blt_eq, decide_eq_true_iff]
theorem moreN_val {a b : List Nat} (ha : Eight a) (hb : Eight b) : ∀ j, j ≤ 8 → moreN a b j = Nat.blt (valB 4294967296 (b.take j)) (valB 4294967296 (a.take j))
  | 0, _ => by show false = Nat.blt 0 0; rfl
  | j + 1, h => by
    have ih := moreN_val ha hb j (by omega)
    have la := valB_lt (b := 4294967296) (by decide) (l := a.take j) (fun x hx => ha.2 x (List.mem_of_mem_take hx))
    have lb := valB_lt (b := 4294967296) (by decide) (l := b.take j) (fun x hx => hb.2 x (List.mem_of_mem_take hx))
    rw [List.length_take, ha.1, Nat.min_eq_left (by omega)] at la
    rw [List.length_take, hb.1, Nat.min_eq_left (by omega)] at lb
    rw [val_take_succ (l := a) j (by rw [ha.1]; omega), val_take_succ (l := b) j (by rw [hb.1]; omega), moreN]
    generalize 4294967296 ^ j = P at *
    generalize g0 a j = x at *
    generalize g0 b j = y at *
    split
    · next e =>
      rw [ih, e]
      rw [blt_dec, blt_dec, decide_eq_decide]
      omega
    · next e =>
      rw [blt_dec, decide_eq_decide]
      rcases Nat.lt_or_ge y x with hlt | hge
      · have : P * (y + 1) ≤ P * x := Nat.mul_le_mul_left _ hlt
        rw [Nat.mul_succ] at this
        omega
      · have : P * (x + 1) ≤ P * y := Nat.mul_le_mul_left _ (by omega)
        rw [Nat.mul_succ] at this
        omega
theorem more_val {a b : List Nat} (ha : Eight a) (hb : Eight b) : moreN a b 8 = Nat.blt (valB 4294967296 b) (valB 4294967296 a) := by
  rw [moreN_val ha hb 8 (Nat.le_refl _), List.take_of_length_le (l := a) (by rw [ha.1]; exact Nat.le_refl _), List.take_of_length_le (l := b) (by rw [hb.1]; exact Nat.le_refl _)]
/-- Eight limbs, by computation. -/
def eightB (l : List Nat) : Bool := Nat.beq l.length 8 && l.all fun x => Nat.blt x 4294967296
theorem eight_of_B {l : List Nat} (h : eightB l = true) : Eight l := by
  simp only [eightB, Bool.and_eq_true, List.all_eq_true] at h
  exact ⟨Nat.eq_of_beq_eq_true h.1, fun x hx => by have := h.2 x hx; rw [Nat.blt_eq] at this; exact this⟩
/-- The number's bits, laid so far up. -/
def xV (s : Nat) : Nat → Nat → List Nat → Option (List Nat)
  | 0, _, x => some x
  | f + 1, n, x => bif Nat.beq (n % 2) 1 then (bif eightB (withN x (s + (8 - f))) then xV s f (n / 2) (withN x (s + (8 - f))) else none) else xV s f (n / 2) x
/-- A root's bits, the highest one first. -/
def rV (k X : Nat) : Nat → List Nat → Option (List Nat)
  | 0, r => some r
  | i + 1, r => bif eightB (withN r i) then rV k X i (bif Nat.blt X ((valB 4294967296 (withN r i)) ^ k % 4294967296 ^ 8) then r else withN r i) else none
def fracV (n k bits : Nat) : Option Nat :=
  match xV (k * bits) 9 n (List.replicate 8 0) with
  | none => none
  | some x => match rV k (valB 4294967296 x) (bits + 6) (List.replicate 8 0) with
    | none => none
    | some r => some (bif Nat.beq bits 32 then g0 r 0 else g0 r 0 + 4294967296 * g0 r 1)
def fracsB (k bits m : Nat) : List Nat → List Nat → Bool
  | [], [] => true
  | p :: l, x :: t => (match fracV p k bits with
    | none => false
    | some v => Nat.beq (v % m) x) && fracsB k bits m l t
  | _, _ => false
theorem fracs_at {k bits m : Nat} : ∀ {l t : List Nat}, fracsB k bits m l t = true → ∀ i, i < l.length → ∃ v, fracV (g0 l i) k bits = some v ∧ v % m = g0 t i
  | [], _, _, i, hi => by simp at hi
  | _ :: _, [], h, _, _ => by simp [fracsB] at h
  | p :: l, x :: t, h, 0, _ => by
    simp only [fracsB, Bool.and_eq_true] at h
    show ∃ v, fracV p k bits = some v ∧ v % m = x
    cases e : fracV p k bits with
    | none => rw [e] at h; cases h.1
    | some v => rw [e] at h; exact ⟨v, rfl, Nat.eq_of_beq_eq_true h.1⟩
  | p :: l, x :: t, h, i + 1, hi => by
    simp only [fracsB, Bool.and_eq_true] at h
    exact fracs_at h.2 i (by simpa using hi)

end Go.Proofs.YtcdglhmapijebaaDoor

namespace Go.Proofs.YtcdglhmapijebaaDoor
open Go.RowKit Go.Shelf

theorem wpList_loadW {ops : Array Oper} {rest : List Oper} {o : Oper} {a : Act} {w : World} {Q : Exit → Act → World → Prop} (hgd : o.guard = none) (x : Operand) (ho : o.op = .load 130 x)
    (g : Nat) (l : List Nat) (hx : a.eval x = .pointer (some ⟨g, 0, none⟩)) (hA : Arr .u64 130 w g l) (h8 : l.length = 8)
    (h : wpList Tryd.prog ops Q rest (a.put o.dst (.agg (arrC .u64 l))) w) : wpList Tryd.prog ops Q (o :: rest) a w :=
  wpList_load_row hgd _ x ho g hx _ (arrC .u64 l) _ _ hA Tryd.underlying130 rfl (by rw [arrC_size, h8]; kernel_rfl) h
theorem wpList_storeW {ops : Array Oper} {rest : List Oper} {o : Oper} {a : Act} {w : World} {Q : Exit → Act → World → Prop} (hgd : o.guard = none) (x y : Operand) (ho : o.op = .store 130 x y)
    (g : Nat) (l m : List Nat) (hx : a.eval x = .pointer (some ⟨g, 0, none⟩)) (hy : a.eval y = .agg (arrC .u64 m)) (hA : Arr .u64 130 w g l) (hl8 : l.length = 8) (h8 : m.length = 8)
    (h : wpList Tryd.prog ops Q rest (a.put o.dst undef) (w.setRow g (arrC .u64 m))) : wpList Tryd.prog ops Q (o :: rest) a w :=
  wpList_store_row hgd _ _ _ ho g (arrC .u64 m) hx hy 130 _ hA (by rw [arrC_size, h8]; kernel_rfl) (by rw [arrC_size, arrC_size, h8, hl8]) (arrC_one _ _) h
theorem Arr.laid {q : IntKind} {E g : Nat} {w : World} {l : List Nat} (h : Arr q E w g l) (m : List Nat) : Arr q E (w.setRow g (arrC q m)) g m := setRow_heap w g _ _ _ _ h
theorem Arr.beside {q : IntKind} {E g : Nat} {w : World} {l : List Nat} (h : Arr q E w g l) (k : Nat) (cs : Array Value) (hk : g ≠ k) : Arr q E (w.setRow k cs) g l := (setRow_other w k g cs hk).trans h
theorem below_setRow {B : Nat} {w0 w : World} (h : Below B w0 w) (g : Nat) (cs : Array Value) (hg : B ≤ g) (hB : B ≤ w.heap.size) : Below B w0 (w.setRow g cs) :=
  h.grown (grown_setRow (x := w) (y := w) (g := g) ⟨rfl, rfl, rfl, Nat.le_refl _, fun _ _ _ => rfl⟩ cs) hB (fun r e => by cases e; exact hg)
theorem Arr.fresh {q : IntKind} {E h : Nat} {W : World} {l : List Nat} (H : Arr q E W h l) (o : Obj) (cs : Array Value) : Arr q E ((W.alloc o).setRow W.heap.size cs) h l := (H.alloc o).beside _ _ (Nat.ne_of_lt H.lt)
theorem arr_fresh (W : World) (E : TypeId) (l t : List Nat) : Arr .u64 E ((W.alloc (.cells (arrC .u64 l) E)).setRow W.heap.size (arrC .u64 t)) W.heap.size t := Arr.laid (l := l) (Go.heap_alloc_new W _) t
theorem below_fresh {B : Nat} {w0 W : World} (h : Below B w0 W) (hB : B ≤ W.heap.size) (o : Obj) (cs : Array Value) : Below B w0 ((W.alloc o).setRow W.heap.size cs) := below_setRow (h.alloc hB o) _ _ hB (by rw [World.size_alloc]; omega)
theorem Arr.new (w : World) (E : TypeId) (l : List Nat) : Arr .u64 E (w.alloc (.cells (arrC .u64 l) E)) w.heap.size l := Go.heap_alloc_new w _
def zero8 : List Nat := List.replicate 8 0
theorem eight_zero : Eight zero8 := ⟨rfl, fun x hx => by have := List.eq_of_mem_replicate hx; omega⟩
theorem xV_one {s f n : Nat} {x y : List Nat} (h : xV s (f + 1) n x = some y) (hn : n % 2 = 1) : Eight (withN x (s + (8 - f))) ∧ xV s f (n / 2) (withN x (s + (8 - f))) = some y := by
  rw [xV, show Nat.beq (n % 2) 1 = true by rw [hn]; rfl, cond_true] at h
  cases e : eightB (withN x (s + (8 - f))) with
  | true => rw [e, cond_true] at h; exact ⟨eight_of_B e, h⟩
  | false => rw [e, cond_false] at h; cases h
theorem xV_two {s f n : Nat} {x y : List Nat} (h : xV s (f + 1) n x = some y) (hn : n % 2 = 0) : xV s f (n / 2) x = some y := by
  rw [xV, show Nat.beq (n % 2) 1 = false by rw [hn]; rfl, cond_false] at h
  exact h
theorem rV_step {k X i : Nat} {r y : List Nat} (h : rV k X (i + 1) r = some y) : Eight (withN r i) ∧ rV k X i (bif Nat.blt X ((valB 4294967296 (withN r i)) ^ k % 4294967296 ^ 8) then r else withN r i) = some y := by
  rw [rV] at h
  cases e : eightB (withN r i) with
  | true => rw [e, cond_true] at h; exact ⟨eight_of_B e, h⟩
  | false => rw [e, cond_false] at h; cases h
/-- The power that is held against the number. -/
def powN (k : Nat) (t : List Nat) : List Nat := if k = 3 then productN (productN t t) t else productN t t
theorem powN_ok {k : Nat} {t : List Nat} (h : Eight t) : Eight (powN k t) := by
  unfold powN
  split
  · exact productN_ok (productN_ok h h) h
  · exact productN_ok h h
theorem powN_val {k : Nat} {t : List Nat} (hk : k = 2 ∨ k = 3) (h : Eight t) : valB 4294967296 (powN k t) = (valB 4294967296 t) ^ k % 4294967296 ^ 8 := by
  have h2 : valB 4294967296 (productN t t) = (valB 4294967296 t) ^ 2 % 4294967296 ^ 8 := by rw [productN_val h h, Nat.pow_two]
  rcases hk with rfl | rfl
  · exact h2
  · show valB 4294967296 (productN (productN t t) t) = _
    rw [productN_val (productN_ok h h) h, h2, Nat.mod_mul_mod, ← Nat.pow_succ]
theorem above_val {k : Nat} {t x : List Nat} (hk : k = 2 ∨ k = 3) (h : Eight t) (hx : Eight x) : moreN (powN k t) x 8 = Nat.blt (valB 4294967296 x) ((valB 4294967296 t) ^ k % 4294967296 ^ 8) := by
  rw [more_val (powN_ok h) hx, powN_val hk h]

set_option maxRecDepth 100000 in
set_option maxHeartbeats 4000000 in
theorem fraction_any (n k bits v : Nat) (hk : k = 2 ∨ k = 3) (hb : bits = 32 ∨ bits = 64) (hn : n < 512) (h : fracV n k bits = some v) (w : World) :
    Calls Tryd.prog 53 #[.int .i64 (n : Int), .int .i64 (k : Int), .int .i64 (bits : Int)] w fun e w' => e = .returned (.int .u64 (v : Int)) ∧ Below w.heap.size w w' := by
  have hz : ∀ w, (zeroValue 130).run Tryd.prog w = .ok (.agg (arrC .u64 (List.replicate 8 0))) w := fun _ => by kernel_rfl
  obtain ⟨p, hp⟩ : ∃ p, p = k * bits := ⟨_, rfl⟩
  have hpi : (k : Int) * (bits : Int) = (p : Int) := by rw [hp]; push_cast; rfl
  have hp200 : p ≤ 192 := by rw [hp]; rcases hk with rfl | rfl <;> rcases hb with rfl | rfl <;> decide
  unfold fracV at h
  rw [← hp] at h
  cases hx : xV p 9 n (List.replicate 8 0) with
  | none => rw [hx] at h; cases h
  | some X => ?_
  rw [hx] at h
  change (match rV k (valB 4294967296 X) (bits + 6) (List.replicate 8 0) with | none => none | some r => some (bif Nat.beq bits 32 then g0 r 0 else g0 r 0 + 4294967296 * g0 r 1)) = some v at h
  cases hr : rV k (valB 4294967296 X) (bits + 6) (List.replicate 8 0) with
  | none => rw [hr] at h; cases h
  | some R => ?_
  rw [hr] at h
  have hv := Option.some.inj h
  have HV := Lib.hid hv
  have HX := Lib.hid hx
  have HR := Lib.hid hr
  have HK := Lib.hid hk
  clear hp hx hr hv h
  have hb64 : bits ≤ 64 := by omega
  go_enter Tryd.func53, Tryd.ntmps53
  go_wp2_with fail
  have HA := Lib.hid (show Arr .u64 130 (w.alloc (.cells (arrC .u64 [0, 0, 0, 0, 0, 0, 0, 0]) 130)) w.heap.size zero8 from Arr.new _ _ _)
  have HB := Lib.hid ((Below.refl w.heap.size w).alloc (Nat.le_refl _) (.cells (arrC .u64 [0, 0, 0, 0, 0, 0, 0, 0]) 130))
  obtain ⟨hx, ehx⟩ : ∃ g, g = w.heap.size := ⟨_, rfl⟩
  have hxw : Hid (w.heap.size ≤ hx) := Nat.le_of_eq ehx.symm
  rw [← ehx] at HA ⊢
  generalize w.alloc (.cells (arrC .u64 [0, 0, 0, 0, 0, 0, 0, 0]) 130) = W at *
  clear ehx
  go_loopw [0, 8] (fun nv iv wq => ∃ (i m : Nat) (x : List Nat), nv = .int .i64 (m : Int) ∧ iv = .int .i64 (i : Int) ∧ i ≤ 9 ∧ m < 512 ∧ Hid (Arr .u64 130 wq hx x ∧ Eight x ∧ Below w.heap.size w wq ∧ xV p (9 - i) m x = some X)) (fun _ iv _ => 9 - (intOf iv).toNat)
  case atStart => exact ⟨0, n, zero8, rfl, rfl, by decide, hn, HA.out, eight_zero, HB.out, HX.out⟩
  case round =>
    obtain ⟨i, m, x, rfl, rfl, hi, hm, hI⟩ := hrel
    by_cases hlt : i < 9
    · obtain ⟨f, hf⟩ : ∃ f, 9 - i = f + 1 := ⟨8 - i, by omega⟩
      obtain ⟨m2, hm2⟩ : ∃ q, q = m / 2 := ⟨_, rfl⟩
      have hmd : Int.tdiv (m : Int) 2 = (m2 : Int) := by rw [Int.tdiv_eq_ediv_of_nonneg (by omega)]; omega
      have hm5 : m2 < 512 := by omega
      have hf2 : 9 - (i + 1) = f := by omega
      have hf3 : p + (8 - f) = p + i := by omega
      have HM := Lib.hid hm2
      have HF := Lib.hid hf
      have HF2 := Lib.hid hf2
      have HF3 := Lib.hid hf3
      clear hf hf2 hf3 hm2
      by_cases hodd : m % 2 = 1
      · have hmo : Int.tmod (m : Int) 2 = 1 := by rw [Int.tmod_eq_emod_of_nonneg (by omega)]; omega
        have hst := xV_one (by rw [← HF.out]; exact hI.out.2.2.2) hodd
        rw [HF3.out, ← HM.out] at hst
        have HST := Lib.hid hst
        have hx8 := Lib.hid hI.out.2.1.1
        clear hst hodd
        go_wp2_with (refine wpList_loadW rfl _ rfl hx x rfl hI.out.1 hx8.out ?_)
        refine (with_any x (p + i) _ hI.out.2.1 (by push_cast; rfl) (by omega) wr).mono ?_
        rintro e w2 ⟨rfl, hb2⟩
        have HA2 := Lib.hid (hI.out.1.below hb2 hI.out.1.lt)
        have HB2 := Lib.hid (hI.out.2.2.1.trans (hb2.mono hI.out.2.2.1.size))
        clear hb2
        go_wp2_with (refine wpList_storeW rfl _ _ rfl hx x (withN x (p + i)) rfl rfl HA2.out hx8.out HST.out.1.1 ?_)
        go_roundw
        case rel => exact ⟨i + 1, m2, withN x (p + i), rfl, by go_num, by omega, hm5, HA2.out.laid _, HST.out.1, below_setRow HB2.out hx _ hxw.out HB2.out.size, by rw [HF2.out]; exact HST.out.2⟩
        case measure => simp [intOf] <;> omega
      · have hmo : Int.tmod (m : Int) 2 = 0 := by rw [Int.tmod_eq_emod_of_nonneg (by omega)]; omega
        have hst := xV_two (by rw [← HF.out]; exact hI.out.2.2.2) (by omega)
        rw [← HM.out] at hst
        have HST := Lib.hid hst
        clear hst hodd
        go_wp2
        go_roundw
        case rel => exact ⟨i + 1, m2, x, rfl, by go_num, by omega, hm5, hI.out.1, hI.out.2.1, hI.out.2.2.1, by rw [HF2.out]; exact HST.out⟩
        case measure => simp [intOf] <;> omega
    · have hi9 : i = 9 := by omega
      obtain rfl : x = X := by have := hI.out.2.2.2; rw [hi9] at this; exact Option.some.inj this
      have t9 : decide ((i : Int) < 9) = false := by simp; omega
      clear hlt hi hi9
      have HAX := Lib.hid hI.out.1
      have HEX := Lib.hid hI.out.2.1
      have HBX := Lib.hid hI.out.2.2.1
      clear hI HX HA HB
      go_wp2_with fail
      have HA3 := Lib.hid (HAX.out.alloc (.cells (arrC .u64 [0, 0, 0, 0, 0, 0, 0, 0]) 130))
      have HR3 := Lib.hid (show Arr .u64 130 (wr.alloc (.cells (arrC .u64 [0, 0, 0, 0, 0, 0, 0, 0]) 130)) wr.heap.size zero8 from Arr.new _ _ _)
      have HB3 := Lib.hid (HBX.out.alloc HBX.out.size (.cells (arrC .u64 [0, 0, 0, 0, 0, 0, 0, 0]) 130))
      have hne : Hid (hx ≠ wr.heap.size) := Nat.ne_of_lt HAX.out.lt
      have hrw := Lib.hid HBX.out.size
      generalize wr.alloc (.cells (arrC .u64 [0, 0, 0, 0, 0, 0, 0, 0]) 130) = W3 at *
      generalize wr.heap.size = hr at *
      clear HAX HBX
      go_loopw [10] (fun iv wq => ∃ (i : Nat) (z : Int) (r : List Nat), iv = .int .i64 z ∧ z = (i : Int) - 1 ∧ i ≤ bits + 6 ∧ Hid (Arr .u64 130 wq hx x ∧ Arr .u64 130 wq hr r ∧ Eight r ∧ Below w.heap.size w wq ∧ rV k (valB 4294967296 x) i r = some R)) (fun iv _ => (intOf iv + 1).toNat)
      case atStart => exact ⟨bits + 6, _, zero8, by go_num, by push_cast; omega, Nat.le_refl _, HA3.out, HR3.out, eight_zero, HB3.out, HR.out⟩
      case round =>
        obtain ⟨i, z, r, rfl, hzi, hi, hI⟩ := hrel
        cases i with
        | zero =>
          have tz : decide ((0 : Int) ≤ z) = false := by simp; omega
          obtain rfl : r = R := by have := hI.out.2.2.2.2; exact Option.some.inj this
          have c0 := hI.out.2.1.cell 0 (by rw [hI.out.2.2.1.1]; decide)
          have c1 := hI.out.2.1.cell 1 (by rw [hI.out.2.2.1.1]; decide)
          have l0 : g0 r 0 < 4294967296 := g0_lt hI.out.2.2.1.2 (by decide) 0
          have l1 : g0 r 1 < 4294967296 := g0_lt hI.out.2.2.1.2 (by decide) 1
          have hv := HV.out
          change wr.cell? _ = some (.int .u64 ((g0 r 0 : Nat) : Int)) at c0
          change wr.cell? _ = some (.int .u64 ((g0 r 1 : Nat) : Int)) at c1
          generalize g0 r 0 = x0 at *
          generalize g0 r 1 = x1 at *
          have HBf := Lib.hid hI.out.2.2.2.1
          clear hI hzi hi
          rcases hb with hb | hb
          · have tb : ((bits : Int) == 32) = true := by rw [hb]; rfl
            obtain rfl : x0 = v := by rw [hb] at hv; exact hv
            clear hb hv
            go_wp2
            go_ret
            exact ⟨rfl, HBf.out⟩
          · have tb : ((bits : Int) == 32) = false := by rw [hb]; rfl
            have hv2 : x0 + 4294967296 * x1 = v := by rw [hb] at hv; exact hv
            obtain ⟨y1, hy⟩ : ∃ y, y = 4294967296 * x1 := ⟨_, rfl⟩
            have e1 : (4294967296 : Int) * (x1 : Int) = (y1 : Int) := by omega
            have e2 : (x0 : Int) + (y1 : Int) = (v : Int) := by omega
            have by1 : y1 < 18446744073709551616 := by omega
            have bv1 : v < 18446744073709551616 := by omega
            clear hb hv hv2 hy
            go_wp2
            go_ret
            exact ⟨rfl, HBf.out⟩
        | succ j =>
          obtain rfl : z = (j : Int) := by omega
          have hst := rV_step hI.out.2.2.2.2
          have HST := Lib.hid hst
          have HA := Lib.hid hI.out.1
          have HQ := Lib.hid hI.out.2.1
          have HE := Lib.hid hI.out.2.2.1
          have HB := Lib.hid hI.out.2.2.2.1
          have hnn : ¬ ((j : Int) < 0) := by omega
          clear hst hI hzi
          go_wp2_with (refine wpList_loadW rfl _ rfl hr r rfl HQ.out HE.out.1 ?_)
          refine (with_any r j _ HE.out rfl (by omega) wr).mono ?_
          rintro e w2 ⟨rfl, hb2⟩
          generalize hT : withN r j = T at *
          have HTE := Lib.hid hT.symm
          have HET := Lib.hid HST.out.1
          clear hT
          have HA := Lib.hid (HA.out.below hb2 HA.out.lt)
          have HQ := Lib.hid (HQ.out.below hb2 HQ.out.lt)
          have HB := Lib.hid (HB.out.trans (hb2.mono HB.out.size))
          clear hb2
          go_wp2_with (first | (refine wpList_storeW rfl _ _ rfl w2.heap.size zero8 T rfl rfl (Arr.new w2 _ zero8) rfl HET.out.1 ?_) | (refine wpList_loadW rfl _ rfl w2.heap.size T rfl (arr_fresh w2 _ zero8 T) HET.out.1 ?_))
          have HT := Lib.hid (show Arr .u64 130 ((w2.alloc (.cells (arrC .u64 [0, 0, 0, 0, 0, 0, 0, 0]) 130)).setRow w2.heap.size (arrC .u64 T)) w2.heap.size T from arr_fresh w2 _ _ T)
          have hf := Lib.hid (show hx ≠ w2.heap.size ∧ hr ≠ w2.heap.size from ⟨Nat.ne_of_lt HA.out.lt, Nat.ne_of_lt HQ.out.lt⟩)
          have HA := Lib.hid (HA.out.fresh (.cells (arrC .u64 [0, 0, 0, 0, 0, 0, 0, 0]) 130) (arrC .u64 T))
          have HQ := Lib.hid (HQ.out.fresh (.cells (arrC .u64 [0, 0, 0, 0, 0, 0, 0, 0]) 130) (arrC .u64 T))
          have HB := Lib.hid (below_fresh HB.out HB.out.size (.cells (arrC .u64 [0, 0, 0, 0, 0, 0, 0, 0]) 130) (arrC .u64 T))
          generalize (w2.alloc (.cells (arrC .u64 [0, 0, 0, 0, 0, 0, 0, 0]) 130)).setRow w2.heap.size (arrC .u64 T) = w3 at *
          generalize w2.heap.size = f at *
          refine (product_any T T HET.out HET.out w3).mono ?_
          rintro e w4 ⟨rfl, hb4⟩
          have HP8 := Lib.hid (productN_ok HET.out HET.out)
          generalize hP : productN T T = pp at *
          have HPP := Lib.hid hP.symm
          clear hP
          have HA := Lib.hid (HA.out.below hb4 HA.out.lt)
          have HQ := Lib.hid (HQ.out.below hb4 HQ.out.lt)
          have HT := Lib.hid (HT.out.below hb4 HT.out.lt)
          have HB := Lib.hid (HB.out.trans (hb4.mono HB.out.size))
          clear hb4
          rcases HK.out with hk | hk
          · have tk : ((k : Int) == 3) = false := by rw [hk]; rfl
            have HK2 := Lib.hid hk
            clear hk
            go_wp2_with (first | (refine wpList_storeW rfl _ _ rfl w4.heap.size zero8 pp rfl rfl (Arr.new w4 _ zero8) rfl HP8.out.1 ?_) | (refine wpList_loadW rfl _ rfl w4.heap.size pp rfl (arr_fresh w4 _ zero8 pp) HP8.out.1 ?_) | (refine wpList_loadW rfl _ rfl hx x rfl (HA.out.fresh _ _) HEX.out.1 ?_))
            have HP := Lib.hid (show Arr .u64 130 ((w4.alloc (.cells (arrC .u64 [0, 0, 0, 0, 0, 0, 0, 0]) 130)).setRow w4.heap.size (arrC .u64 pp)) w4.heap.size pp from arr_fresh w4 _ _ pp)
            have hg := Lib.hid (show hx ≠ w4.heap.size ∧ hr ≠ w4.heap.size ∧ f ≠ w4.heap.size ∧ w.heap.size ≤ w4.heap.size from ⟨Nat.ne_of_lt HA.out.lt, Nat.ne_of_lt HQ.out.lt, Nat.ne_of_lt HT.out.lt, HB.out.size⟩)
            have HA := Lib.hid (HA.out.fresh (.cells (arrC .u64 [0, 0, 0, 0, 0, 0, 0, 0]) 130) (arrC .u64 pp))
            have HQ := Lib.hid (HQ.out.fresh (.cells (arrC .u64 [0, 0, 0, 0, 0, 0, 0, 0]) 130) (arrC .u64 pp))
            have HT := Lib.hid (HT.out.fresh (.cells (arrC .u64 [0, 0, 0, 0, 0, 0, 0, 0]) 130) (arrC .u64 pp))
            have HB := Lib.hid (below_fresh HB.out HB.out.size (.cells (arrC .u64 [0, 0, 0, 0, 0, 0, 0, 0]) 130) (arrC .u64 pp))
            generalize (w4.alloc (.cells (arrC .u64 [0, 0, 0, 0, 0, 0, 0, 0]) 130)).setRow w4.heap.size (arrC .u64 pp) = w5 at *
            generalize w4.heap.size = g at *
            have HPW := Lib.hid (show pp = powN k T by rw [HK2.out]; exact HPP.out)
            have HP8 := Lib.hid (show Eight pp by rw [HPW.out]; exact powN_ok HET.out)
            refine (more_any pp x HP8.out.1 HEX.out.1 w5).mono ?_
            rintro e w6 ⟨rfl, hb6⟩
            have HT6 := Lib.hid (HT.out.below hb6 HT.out.lt)
            have HA6 := Lib.hid (HA.out.below hb6 HA.out.lt)
            have HQ6 := Lib.hid (HQ.out.below hb6 HQ.out.lt)
            have HB6 := Lib.hid (HB.out.trans (hb6.mono HB.out.size))
            have hab := above_val HK.out HET.out HEX.out
            rw [← HPW.out] at hab
            have hnx := HST.out.2
            rw [← hab] at hnx
            clear hb6 hab
            cases hmo : moreN pp x 8 with
            | true =>
              rw [hmo, cond_true] at hnx
              have HNX := Lib.hid hnx
              clear hnx hmo
              go_wp2
              go_roundw
              case rel => exact ⟨j, _, r, rfl, by go_num, by omega, HA6.out, HQ6.out, HE.out, HB6.out, HNX.out⟩
              case measure => simp [intOf] <;> omega
            | false =>
              rw [hmo, cond_false] at hnx
              have HNX := Lib.hid hnx
              clear hnx hmo
              go_wp2_with (first | (refine wpList_loadW rfl _ rfl f T rfl HT6.out HET.out.1 ?_) | (refine wpList_storeW rfl _ _ rfl hr r T rfl rfl HQ6.out HE.out.1 HET.out.1 ?_))
              go_roundw
              case rel => exact ⟨j, _, T, rfl, by go_num, by omega, HA6.out.beside _ _ hne.out, HQ6.out.laid _, HET.out, below_setRow HB6.out _ _ hrw.out HB6.out.size, HNX.out⟩
              case measure => simp [intOf] <;> omega
          · have tk : ((k : Int) == 3) = true := by rw [hk]; rfl
            have HK2 := Lib.hid hk
            clear hk
            go_wp2_with (first | (refine wpList_storeW rfl _ _ rfl w4.heap.size zero8 pp rfl rfl (Arr.new w4 _ zero8) rfl HP8.out.1 ?_) | (refine wpList_loadW rfl _ rfl w4.heap.size pp rfl (arr_fresh w4 _ zero8 pp) HP8.out.1 ?_) | (refine wpList_loadW rfl _ rfl f T rfl (HT.out.fresh _ _) HET.out.1 ?_))
            have HP := Lib.hid (show Arr .u64 130 ((w4.alloc (.cells (arrC .u64 [0, 0, 0, 0, 0, 0, 0, 0]) 130)).setRow w4.heap.size (arrC .u64 pp)) w4.heap.size pp from arr_fresh w4 _ _ pp)
            have hg := Lib.hid (show hx ≠ w4.heap.size ∧ hr ≠ w4.heap.size ∧ f ≠ w4.heap.size ∧ w.heap.size ≤ w4.heap.size from ⟨Nat.ne_of_lt HA.out.lt, Nat.ne_of_lt HQ.out.lt, Nat.ne_of_lt HT.out.lt, HB.out.size⟩)
            have HA := Lib.hid (HA.out.fresh (.cells (arrC .u64 [0, 0, 0, 0, 0, 0, 0, 0]) 130) (arrC .u64 pp))
            have HQ := Lib.hid (HQ.out.fresh (.cells (arrC .u64 [0, 0, 0, 0, 0, 0, 0, 0]) 130) (arrC .u64 pp))
            have HT := Lib.hid (HT.out.fresh (.cells (arrC .u64 [0, 0, 0, 0, 0, 0, 0, 0]) 130) (arrC .u64 pp))
            have HB := Lib.hid (below_fresh HB.out HB.out.size (.cells (arrC .u64 [0, 0, 0, 0, 0, 0, 0, 0]) 130) (arrC .u64 pp))
            generalize (w4.alloc (.cells (arrC .u64 [0, 0, 0, 0, 0, 0, 0, 0]) 130)).setRow w4.heap.size (arrC .u64 pp) = w5 at *
            generalize w4.heap.size = g at *
            refine (product_any pp T HP8.out HET.out w5).mono ?_
            rintro e w7 ⟨rfl, hb7⟩
            have HA := Lib.hid (HA.out.below hb7 HA.out.lt)
            have HQ := Lib.hid (HQ.out.below hb7 HQ.out.lt)
            have HT := Lib.hid (HT.out.below hb7 HT.out.lt)
            have HP := Lib.hid (HP.out.below hb7 HP.out.lt)
            have HB := Lib.hid (HB.out.trans (hb7.mono HB.out.size))
            have HP9 := Lib.hid (productN_ok HP8.out HET.out)
            generalize hP : productN pp T = pw at *
            have HPP := Lib.hid (show pw = productN (productN T T) T by rw [← HPP.out]; exact hP.symm)
            clear hP hb7
            go_wp2_with (first | (refine wpList_storeW rfl _ _ rfl g pp pw rfl rfl HP.out HP8.out.1 HP9.out.1 ?_) | (refine wpList_loadW rfl _ rfl g pw rfl (HP.out.laid pw) HP9.out.1 ?_) | (refine wpList_loadW rfl _ rfl hx x rfl (HA.out.beside _ _ hg.out.1) HEX.out.1 ?_))
            have HA := Lib.hid (HA.out.beside g (arrC .u64 pw) hg.out.1)
            have HQ := Lib.hid (HQ.out.beside g (arrC .u64 pw) hg.out.2.1)
            have HT := Lib.hid (HT.out.beside g (arrC .u64 pw) hg.out.2.2.1)
            have HB := Lib.hid (below_setRow HB.out g (arrC .u64 pw) hg.out.2.2.2 HB.out.size)
            generalize w7.setRow g (arrC .u64 pw) = w8 at *
            have HPW := Lib.hid (show pw = powN k T by rw [HK2.out]; exact HPP.out)
            have HP8 := Lib.hid (show Eight pw by rw [HPW.out]; exact powN_ok HET.out)
            refine (more_any pw x HP8.out.1 HEX.out.1 w8).mono ?_
            rintro e w6 ⟨rfl, hb6⟩
            have HT6 := Lib.hid (HT.out.below hb6 HT.out.lt)
            have HA6 := Lib.hid (HA.out.below hb6 HA.out.lt)
            have HQ6 := Lib.hid (HQ.out.below hb6 HQ.out.lt)
            have HB6 := Lib.hid (HB.out.trans (hb6.mono HB.out.size))
            have hab := above_val HK.out HET.out HEX.out
            rw [← HPW.out] at hab
            have hnx := HST.out.2
            rw [← hab] at hnx
            clear hb6 hab
            cases hmo : moreN pw x 8 with
            | true =>
              rw [hmo, cond_true] at hnx
              have HNX := Lib.hid hnx
              clear hnx hmo
              go_wp2
              go_roundw
              case rel => exact ⟨j, _, r, rfl, by go_num, by omega, HA6.out, HQ6.out, HE.out, HB6.out, HNX.out⟩
              case measure => simp [intOf] <;> omega
            | false =>
              rw [hmo, cond_false] at hnx
              have HNX := Lib.hid hnx
              clear hnx hmo
              go_wp2_with (first | (refine wpList_loadW rfl _ rfl f T rfl HT6.out HET.out.1 ?_) | (refine wpList_storeW rfl _ _ rfl hr r T rfl rfl HQ6.out HE.out.1 HET.out.1 ?_))
              go_roundw
              case rel => exact ⟨j, _, T, rfl, by go_num, by omega, HA6.out.beside _ _ hne.out, HQ6.out.laid _, HET.out, below_setRow HB6.out _ _ hrw.out HB6.out.size, HNX.out⟩
              case measure => simp [intOf] <;> omega

end Go.Proofs.YtcdglhmapijebaaDoor

namespace Go.Proofs.YtcdglhmapijebaaDoor
open Go.RowKit Go.Shelf

/-- A number's last bytes, the highest one first. -/
def lbN (N : Nat) : Nat → List Nat
  | 0 => []
  | i + 1 => N / 256 ^ i % 256 :: lbN N i
theorem lbN_len (N : Nat) : ∀ i, (lbN N i).length = i
  | 0 => rfl
  | i + 1 => by rw [lbN, List.length_cons, lbN_len N i]
def lenV : Value → Nat
  | .slice _ m _ => m
  | _ => 0
theorem own_sl {q : IntKind} {E B : Nat} {w : World} {v : Value} {l : List Nat} (h : OwnQ q E B w v l) : ∃ a n cap, v = .slice a n cap ∧ n = l.length ∧ OwnQ q E B w (.slice a n cap) l := by
  obtain ⟨a, c, rfl, -, -⟩ := h.form
  exact ⟨a, _, c, rfl, rfl, h⟩
/-- A message, filled up. -/
def fillN (bl : List Nat) : List Nat := bl ++ [128] ++ List.replicate ((64 - (bl.length + 1 + 8) % 64) % 64) 0 ++ lbN (8 * bl.length) 8
theorem fillN_len (bl : List Nat) : (fillN bl).length = bl.length + 1 + (64 - (bl.length + 1 + 8) % 64) % 64 + 8 := by
  unfold fillN
  rw [List.length_append, List.length_append, List.length_append, List.length_replicate, lbN_len]
  rfl
theorem fillN_ne (bl : List Nat) : fillN bl ≠ [] := fun e => by
  have := fillN_len bl
  rw [e, List.length_nil] at this
  omega
theorem fillN_blocks (bl : List Nat) : ∃ q, (fillN bl).length = 64 * q ∧ 0 < q := ⟨(fillN bl).length / 64, by rw [fillN_len]; omega, by rw [fillN_len]; omega⟩
theorem lbN_lt (N : Nat) : ∀ i, ∀ x ∈ lbN N i, x < 256
  | 0 => fun x hx => by cases hx
  | i + 1 => fun x hx => by
    rcases List.mem_cons.1 hx with h | h
    · rw [h]
      exact Nat.mod_lt _ (by decide)
    · exact lbN_lt N i x h
theorem fillN_lt {bl : List Nat} (h : ∀ x ∈ bl, x < 256) : ∀ x ∈ fillN bl, x < 256 := fun x hx => by
  unfold fillN at hx
  simp only [List.mem_append, List.mem_singleton] at hx
  rcases hx with ((hx | hx) | hx) | hx
  · exact h x hx
  · omega
  · have := List.eq_of_mem_replicate hx
    omega
  · exact lbN_lt _ _ x hx
set_option maxRecDepth 1000000 in
set_option maxHeartbeats 2000000 in
theorem fill_any (a : Option Addr) (n c : Nat) (bl : List Nat) (w : World) (hr : Reads .u8 w a n c bl) (hn : n ≤ 10000) :
    Calls Tryd.prog 54 #[.slice a n c, .int .i64 64, .int .i64 8] w fun e w' => (∃ v, e = .returned v ∧ OwnQ .u8 5 w.heap.size w' v (fillN bl)) ∧ Below w.heap.size w w' := by
  obtain ⟨i0, hi, hz0, hz1, hz2'⟩ := info_parts infoB
  have HR := Lib.hid hr
  have HLN := Lib.hid hr.length
  obtain ⟨k, hk⟩ : ∃ k, k = (64 - (n + 1 + 8) % 64) % 64 := ⟨_, rfl⟩
  obtain ⟨N, hN⟩ : ∃ N, N = 8 * n := ⟨_, rfl⟩
  have hNi : (8 : Int) * (n : Int) = (N : Int) := by omega
  have hNb : N ≤ 80000 := by omega
  have hkb : k < 64 := by omega
  have HK := Lib.hid hk
  have HN := Lib.hid hN
  clear hr hk hN
  go_enter Tryd.func54, Tryd.ntmps54
  go_wp2_with (at_builtin; first
    | (refine wpList_append_q .u8 _ rfl _ _ 22 rfl w.heap.size 5 1 i0 Tryd.underlying22 hi hz0 hz1 hz2' (by decide) _ [] rfl (OwnQ.nil _ _ _ _) a n c bl rfl HR.out (by simp; omega) (Nat.le_refl _) ?_; intro v1 w1 hown1 hgrow1; rw [List.nil_append] at hown1; have HO1 := Lib.hid hown1; have HB1 := Lib.hid (hgrow1 _ (Below.refl _ _)); clear hown1 hgrow1)
    | (refine wpList_append_q .u8 _ rfl _ _ 22 rfl w.heap.size 5 1 i0 Tryd.underlying22 hi hz0 hz1 hz2' (by decide) _ bl rfl (HO1.out.alloc _) _ _ _ [128] rfl (Reads.one .u8 _ _ _ _ rfl) (by rw [HLN.out]; omega) (by have := HB1.out.size; simp; omega) ?_; intro v2 w2 hown2 hgrow2; have HO2 := Lib.hid hown2; have HB2 := Lib.hid (hgrow2 _ (HB1.out.alloc HB1.out.size _)); clear hown2 hgrow2))
  obtain ⟨a3, n3, c3, rfl, hn3, ho3⟩ := own_sl HO2.out
  rw [List.length_append, HLN.out] at hn3
  have HO3 := Lib.hid ho3
  have HN3 := Lib.hid hn3
  have hn3b : n3 ≤ 10001 := by rw [hn3]; simp; omega
  clear HO2 ho3 hn3
  go_loopw [7] (fun sv wq => ∃ (j m c' : Nat) (a' : Option Addr), sv = .slice a' m c' ∧ m ≤ 11000 ∧ j ≤ k ∧ Hid (m = n + 1 + j ∧ OwnQ .u8 5 w.heap.size wq (.slice a' m c') (bl ++ [128] ++ List.replicate j 0) ∧ Below w.heap.size w wq)) (fun sv _ => n + 1 + k - lenV sv)
  case atStart => exact ⟨0, n3, c3, a3, rfl, by omega, Nat.zero_le _, HN3.out, by rw [List.replicate_zero, List.append_nil]; exact HO3.out, HB2.out⟩
  case round =>
    obtain ⟨j, m, c', a', rfl, hm, hj, hI⟩ := hrel
    obtain ⟨r, hr⟩ : ∃ r, r = (m + 8) % 64 := ⟨_, rfl⟩
    have hri : Int.tmod ((m : Int) + 8) 64 = (r : Int) := by
      rw [Int.tmod_eq_emod_of_nonneg (by omega)]
      omega
    by_cases hlt : j < k
    · have hrn : ((r : Int) != 0) = true := by
        have h1 := hI.out.1
        have h2 := HK.out
        simp
        omega
      have hm2 : m ≤ 10001 + 64 := by have h1 := hI.out.1; omega
      clear hr
      go_wp2_with (at_builtin; refine wpList_append_q .u8 _ rfl _ _ 22 rfl w.heap.size 5 1 i0 Tryd.underlying22 hi hz0 hz1 hz2' (by decide) _ (bl ++ [128] ++ List.replicate j 0) rfl (hI.out.2.1.alloc _) _ _ _ [0] rfl (Reads.one .u8 _ _ _ _ rfl) (by rw [List.length_append, List.length_append, HLN.out, List.length_replicate]; simp; omega) (by have := hI.out.2.2.size; simp; omega) ?_; intro v4 w4 hown4 hgrow4; obtain ⟨a5, n5, c5, rfl, hn5, ho5⟩ := own_sl hown4; have HO5 := Lib.hid ho5; have HN5 := Lib.hid hn5; have HB5 := Lib.hid (hgrow4 _ (hI.out.2.2.alloc hI.out.2.2.size _)); clear hown4 hgrow4 hn5 ho5)
      have hn6 : n5 = n + 1 + (j + 1) := by rw [HN5.out, List.length_append, List.length_append, List.length_append, HLN.out, List.length_replicate]; simp; omega
      go_roundw
      case rel => exact ⟨j + 1, n5, c5, a5, rfl, by omega, by omega, hn6, by
        have h := HO5.out
        rw [List.append_assoc, ← List.replicate_succ'] at h
        exact h, HB5.out⟩
      case measure =>
        have h1 := hI.out.1
        simp [lenV]
        omega
    · obtain rfl : j = k := by omega
      have hrn : ((r : Int) != 0) = false := by
        have h1 := hI.out.1
        have h2 := HK.out
        simp
        omega
      have HOF := Lib.hid hI.out.2.1
      have HBF := Lib.hid hI.out.2.2
      clear hI hr
      have hnb : (n : Int) < 18446744073709551616 := by omega
      go_wp2_with fail
      clear hNi hri hrn hnb hj hlt
      go_loopw [8, 9, 10] (fun xv lv iv wq => ∃ (i x c9 : Nat) (a9 : Option Addr), xv = .int .u64 (x : Int) ∧ lv = .slice a9 i c9 ∧ iv = .int .i64 (i : Int) ∧ i ≤ 8 ∧ x ≤ 80000 ∧ Hid (x = N / 256 ^ i ∧ OwnQ .u8 5 w.heap.size wq (.slice a9 i c9) (lbN N i) ∧ OwnQ .u8 5 w.heap.size wq (.slice a' m c') (bl ++ [128] ++ List.replicate j 0) ∧ Below w.heap.size w wq)) (fun _ _ iv _ => 8 - (intOf iv).toNat)
      case atStart => exact ⟨0, N, 0, none, rfl, rfl, rfl, by decide, hNb, by simp, OwnQ.nil _ _ _ _, HOF.out, HBF.out⟩
      case round =>
        obtain ⟨i, x, c9, a9, rfl, rfl, rfl, hi9, hx9, hI⟩ := hrel
        by_cases hlt2 : i < 8
        · obtain ⟨y, hy⟩ : ∃ y, y = x % 256 := ⟨_, rfl⟩
          obtain ⟨z, hz⟩ : ∃ z, z = x / 256 := ⟨_, rfl⟩
          have hyi : (x : Int) % 256 = (y : Int) := by omega
          have hzi : (x : Int) / 256 = (z : Int) := by omega
          have hyw : IntKind.u8.wrap (y : Int) = (y : Int) := by simp [IntKind.wrap, IntKind.bits, IntKind.signed]; omega
          have hy2 : y < 256 := by omega
          have hz2 : z ≤ 80000 := by omega
          have HY := Lib.hid (show lbN N (i + 1) = [y] ++ lbN N i by rw [lbN, ← hI.out.1, ← hy]; rfl)
          have HZ := Lib.hid (show z = N / 256 ^ (i + 1) by rw [hz, hI.out.1, Nat.pow_succ, Nat.div_div_eq_div_mul])
          clear hy hz
          go_wp2_with (at_builtin; refine wpList_append_q .u8 _ rfl _ _ 22 rfl wr.heap.size 5 1 i0 Tryd.underlying22 hi hz0 hz1 hz2' (by decide) _ [y] rfl (World.ownsRow_lit wr #[.int .u8 (y : Int)] 1 (Nat.le_refl _) (by unfold maxLen; omega) rfl) a9 i c9 (lbN N i) rfl (hI.out.2.1.reads.below ((Below.refl _ _).alloc (Nat.le_refl _) _)) (by simp; omega) (by simp) ?_; intro v4 w4 hown4 hgrow4; have HB4 := Lib.hid (hgrow4 wr ((Below.refl _ _).alloc (Nat.le_refl _) _)); obtain ⟨a5, n5, c5, rfl, hn5, ho5⟩ := own_sl hown4; have HO5 := Lib.hid (ho5.mono hI.out.2.2.2.size); have hn6 : n5 = i + 1 := (by rw [hn5]; simp [lbN_len]); clear hown4 hgrow4 hn5 ho5)
          subst hn6
          go_roundw
          case rel => exact ⟨i + 1, z, c5, a5, rfl, rfl, by go_num, by omega, hz2, HZ.out, by rw [HY.out]; exact HO5.out, hI.out.2.2.1.below HB4.out, hI.out.2.2.2.trans (HB4.out.mono hI.out.2.2.2.size)⟩
          case measure => simp [intOf] <;> omega
        · have hiL : i = 8 := by omega
          have HF := Lib.hid (show bl ++ [128] ++ List.replicate j 0 ++ lbN N i = fillN bl by
            unfold fillN
            rw [hiL, HLN.out, ← HK.out, ← HN.out])
          have tL : decide ((i : Int) < 8) = false := by simp; omega
          have hmb : (bl ++ [128] ++ List.replicate j 0).length + i ≤ 20000 := by rw [List.length_append, List.length_append, HLN.out, List.length_replicate]; simp; omega
          clear hiL hlt2 hi9
          go_wp2_with (at_builtin; refine wpList_append_q .u8 _ rfl _ _ 22 rfl w.heap.size 5 1 i0 Tryd.underlying22 hi hz0 hz1 hz2' (by decide) _ (bl ++ [128] ++ List.replicate j 0) rfl hI.out.2.2.1 a9 i c9 (lbN N i) rfl hI.out.2.1.reads (by omega) hI.out.2.2.2.size ?_; intro v6 w6 hown6 hgrow6; have HO6 := Lib.hid hown6; have HB6 := Lib.hid (hgrow6 _ hI.out.2.2.2); clear hown6 hgrow6)
          go_ret
          exact ⟨⟨_, rfl, by rw [← HF.out]; exact HO6.out⟩, HB6.out⟩

end Go.Proofs.YtcdglhmapijebaaDoor

namespace Go.Proofs.YtcdglhmapijebaaDoor
open Go.RowKit

def PrimeN (n : Nat) : Prop := 2 ≤ n ∧ ∀ d, 2 ≤ d → d * d ≤ n → n % d ≠ 0

/-- Is there no divisor from d on, among k numbers? -/
def noDiv (n : Nat) : Nat → Nat → Bool
  | 0, _ => true
  | k + 1, d => if n < d * d then true else if n % d = 0 then false else noDiv n k (d + 1)
def isPrime (n : Nat) : Bool := decide (2 ≤ n) && noDiv n n 2
theorem noDiv_iff (n : Nat) : ∀ k d : Nat, noDiv n k d = true ↔ ∀ e, d ≤ e → e < d + k → e * e ≤ n → n % e ≠ 0 := by
  intro k
  induction k with
  | zero => exact fun d => ⟨fun _ e h1 h2 => by omega, fun _ => rfl⟩
  | succ k ih =>
    intro d
    unfold noDiv
    by_cases h1 : n < d * d
    · rw [if_pos h1]
      refine ⟨fun _ e he _ hee => ?_, fun _ => rfl⟩
      have := Nat.mul_le_mul he he
      omega
    · rw [if_neg h1]
      by_cases h2 : n % d = 0
      · rw [if_pos h2]
        exact ⟨fun h => (by cases h), fun h => absurd h2 (h d (Nat.le_refl _) (by omega) (by omega))⟩
      · rw [if_neg h2, ih]
        refine ⟨fun h e he hk hee => ?_, fun h e he hk hee => h e (by omega) (by omega) hee⟩
        rcases Nat.eq_or_lt_of_le he with rfl | hlt
        · exact h2
        · exact h e hlt (by omega) hee
theorem isPrime_iff (n : Nat) : isPrime n = true ↔ PrimeN n := by
  unfold isPrime PrimeN
  rw [Bool.and_eq_true, decide_eq_true_iff, noDiv_iff]
  refine ⟨fun ⟨a, h⟩ => ⟨a, fun d hd hdd => h d hd ?_ hdd⟩, fun ⟨a, h⟩ => ⟨a, fun d hd _ hdd => h d hd hdd⟩⟩
  have : d * 1 ≤ d * d := Nat.mul_le_mul_left _ (by omega)
  omega

/-- A mark that is right ahead of the number n. -/
def MarkOk (n : Nat) (x : Nat × Nat) : Prop := PrimeN x.2 ∧ x.2 < n ∧ n ≤ x.1 ∧ x.2 * x.2 ≤ x.1 ∧ x.1 % x.2 = 0 ∧ (x.1 = x.2 * x.2 ∨ x.1 < n + x.2)
theorem MarkOk.stay {n : Nat} {x : Nat × Nat} (h : MarkOk n x) (hx : n < x.1) : MarkOk (n + 1) x := by
  obtain ⟨h1, h2, h3, h4, h5, h6⟩ := h
  exact ⟨h1, by omega, hx, h4, h5, h6.imp id (by omega)⟩
theorem MarkOk.new {n : Nat} (h : PrimeN n) : MarkOk (n + 1) (n * n, n) := by
  have h1 := h.1
  have : n * 2 ≤ n * n := Nat.mul_le_mul_left _ h1
  exact ⟨h, by simp, by simp; omega, by simp, by simp, .inl rfl⟩
/-- All that is marked ahead of n. -/
def MarksOk (n : Nat) (L : List (Nat × Nat)) : Prop := (∀ x ∈ L, MarkOk n x) ∧ ∀ p, PrimeN p → p < n → ∃ a, (a, p) ∈ L
/-- The primes below a number, and how many they are. -/
def primesTo (n : Nat) : List Nat := (List.range n).filter isPrime
theorem primesTo_succ (n : Nat) : primesTo (n + 1) = if isPrime n = true then primesTo n ++ [n] else primesTo n := by
  unfold primesTo
  rw [List.range_succ, List.filter_append]
  by_cases h : isPrime n = true
  · rw [if_pos h, List.filter_cons_of_pos h]; rfl
  · rw [if_neg h, List.filter_cons_of_neg h]; simp
theorem primesTo_mono (n : Nat) : ∀ k, ∃ t, primesTo (n + k) = primesTo n ++ t := by
  intro k
  induction k with
  | zero => exact ⟨[], by simp⟩
  | succ k ih =>
    obtain ⟨t, ht⟩ := ih
    rw [← Nat.add_assoc, primesTo_succ]
    split
    · exact ⟨t ++ [n + k], by rw [ht, List.append_assoc]⟩
    · exact ⟨t, ht⟩
theorem primesTo_take {n m : Nat} (h : n ≤ m) : (primesTo m).take (primesTo n).length = primesTo n := by
  obtain ⟨t, ht⟩ := primesTo_mono n (m - n)
  rw [show n + (m - n) = m by omega] at ht
  rw [ht, List.take_left']
  rfl
theorem primesTo_len {n m : Nat} (h : n ≤ m) : (primesTo n).length ≤ (primesTo m).length := by
  obtain ⟨t, ht⟩ := primesTo_mono n (m - n)
  rw [show n + (m - n) = m by omega] at ht
  rw [ht, List.length_append]
  omega

/-- How many primes there are among k numbers from n on, counted on from c. -/
def countP : Nat → Nat → Nat → Nat
  | 0, _, c => c
  | k + 1, n, c => match isPrime n with
    | true => countP k (n + 1) (c + 1)
    | false => countP k (n + 1) c
end Go.Proofs.YtcdglhmapijebaaDoor
