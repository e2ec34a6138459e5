/-
  Layer 8: the law MaskFrames. (Written by wip/gen_mkM.py.)
-/
import Derived.Test.YtmfjhgjplmpecaaDoorMk2
import Derived.Test.YtmfjhgjplmpecaaDoorShaQ
namespace Go.Proofs.YtmfjhgjplmpecaaDoor
open Go.RowKit Go.Shelf
set_option maxRecDepth 100000

theorem byt_appM {l m : List Nat} (h : Byt l) (k : Byt m) : Byt (l ++ m) := fun x hx => by
  rcases List.mem_append.1 hx with hx | hx
  · exact h x hx
  · exact k x hx
theorem frameL_byt {h : Nat} (hh : IsHash h) {d : List Nat} (hd : Byt d) : Byt (frameL h d) := byt_appM (frameH_lt hh) hd
theorem frameR_byt (h : Int) {d : List Nat} (hd : Byt d) : Byt (frameR h d).1 := by
  unfold frameR
  split
  · rename_i hf
    exact frameL_byt hf.1 hd
  · intro x hx
    cases hx
theorem encL_byt {h : Nat} (hh : IsHash h) {d : List Nat} (size : Nat) (hd : Byt d) : Byt (encL h d size) :=
  byt_appM (byt_appM (byt_appM (by decide) (fun x hx => by rw [List.eq_of_mem_replicate hx]; decide)) (by decide)) (frameL_byt hh hd)
theorem encR_byt (h : Int) {d : List Nat} (size : Int) (hd : Byt d) : Byt (encR h d size).1 := by
  unfold encR
  split
  · rename_i hf
    split
    · intro x hx
      cases hx
    · exact encL_byt hf.1 _ hd
  · intro x hx
    cases hx
theorem strOf_app7 (l : List Nat) : strOf (u8s l) ++ ⟨#[7]⟩ = strOf (u8s (l ++ [7])) := ByteArray.ext (by simp [strOf, u8s, ByteArray.data_append])
theorem OwnQ.keptM {q : IntKind} {E : TypeId} {B g n c : Nat} {w w' : World} {oa : Option Addr} {l : List Nat} (h : OwnQ q E B w (.slice oa n c) l) (hg : w.grownBy w' (some g)) (hne : g < B) : OwnQ q E B w' (.slice oa n c) l := by
  obtain ⟨h1, h2⟩ := h
  refine ⟨h1, ?_⟩
  rcases h2 with h2 | ⟨g', cap', cur, e, hB, hh, r⟩
  · exact .inl h2
  · cases e
    exact .inr ⟨g', c, cur, rfl, hB, (hg.block g' (Array.getElem?_eq_some_iff.1 hh).1 (fun hc => by have := Option.some.inj hc; omega)).trans hh, r⟩
theorem byt_set {l : List Nat} (h : Byt l) (i x : Nat) (hx : x < 256) : Byt (l.set i x) := fun y hy => by
  rcases List.mem_or_eq_of_mem_set hy with h1 | rfl
  · exact h y h1
  · exact hx
theorem OwnQ.blkM {q : IntKind} {E : TypeId} {B : Nat} {w : World} {a : Option Addr} {n c : Nat} {l : List Nat} (h : OwnQ q E B w (.slice a n c) l) : ∀ x, a = some x → B ≤ x.block ∧ x.block < w.heap.size := by
  obtain ⟨a', c', he, -, h2⟩ := h.form
  cases he
  exact h2
theorem frame_r (F : List Nat) (fe : Int) (h : Int) (a : Option Addr) (n c : Nat) (d : List Nat) (w : World) (hF : frameR h d = (F, fe)) (hk : Kinds w) (hr : Reads .u8 w a n c d) :
    Calls Tryd.prog 19 #[.int .i64 h, .slice a n c] w fun e w' => (∃ (a1 : Option Addr) (n1 c1 : Nat), e = .returned (.tuple #[.slice a1 n1 c1, .int .i64 fe]) ∧ OwnQ .u8 5 w.heap.size w' (.slice a1 n1 c1) F) ∧ Below w.heap.size w w' :=
  (frame_any h a n c d w hk hr).mono fun e w' ⟨⟨v, h1, h2⟩, h3⟩ => by
    rw [hF] at h1 h2
    obtain ⟨a1, n1, c1, rfl, -, h4⟩ := own_slM h2
    exact ⟨⟨a1, n1, c1, h1, h4⟩, h3⟩
theorem rframe_r (F : List Nat) (fe : Int) (h : Int) (a : Option Addr) (n c : Nat) (d : List Nat) (w : World) (hF : frameR h d = (F, fe)) (hr : Reads .u8 w a n c d) :
    Calls Tryd.prog 20 #[.int .i64 h, .slice a n c] w fun e w' => (∃ (a1 : Option Addr) (n1 c1 : Nat), e = .returned (.tuple #[.slice a1 n1 c1, .int .i64 fe]) ∧ OwnQ .u8 5 w.heap.size w' (.slice a1 n1 c1) F) ∧ Below w.heap.size w w' :=
  (rframe_any h a n c d w hr).mono fun e w' ⟨⟨v, h1, h2⟩, h3⟩ => by
    rw [hF] at h1 h2
    obtain ⟨a1, n1, c1, rfl, -, h4⟩ := own_slM h2
    exact ⟨⟨a1, n1, c1, h1, h4⟩, h3⟩
theorem encode_r (F : List Nat) (fe : Int) (h : Int) (a : Option Addr) (n c : Nat) (d : List Nat) (size : Int) (w : World) (hF : encR h d size = (F, fe)) (hk : Kinds w) (hr : Reads .u8 w a n c d) :
    Calls Tryd.prog 21 #[.int .i64 h, .slice a n c, .int .i64 size] w fun e w' => (∃ (a1 : Option Addr) (n1 c1 : Nat), e = .returned (.tuple #[.slice a1 n1 c1, .int .i64 fe]) ∧ OwnQ .u8 5 w.heap.size w' (.slice a1 n1 c1) F) ∧ Below w.heap.size w w' :=
  (encode_any h a n c d size w hk hr).mono fun e w' ⟨⟨v, h1, h2⟩, h3⟩ => by
    rw [hF] at h1 h2
    obtain ⟨a1, n1, c1, rfl, -, h4⟩ := own_slM h2
    exact ⟨⟨a1, n1, c1, h1, h4⟩, h3⟩
theorem rencode_r (F : List Nat) (fe : Int) (h : Int) (a : Option Addr) (n c : Nat) (d : List Nat) (size : Int) (w : World) (hF : encR h d size = (F, fe)) (hr : Reads .u8 w a n c d) :
    Calls Tryd.prog 22 #[.int .i64 h, .slice a n c, .int .i64 size] w fun e w' => (∃ (a1 : Option Addr) (n1 c1 : Nat), e = .returned (.tuple #[.slice a1 n1 c1, .int .i64 fe]) ∧ OwnQ .u8 5 w.heap.size w' (.slice a1 n1 c1) F) ∧ Below w.heap.size w w' :=
  (rencode_any h a n c d size w hr).mono fun e w' ⟨⟨v, h1, h2⟩, h3⟩ => by
    rw [hF] at h1 h2
    obtain ⟨a1, n1, c1, rfl, -, h4⟩ := own_slM h2
    exact ⟨⟨a1, n1, c1, h1, h4⟩, h3⟩


set_option maxHeartbeats 4000000 in
theorem frames_small (h : Int) (a : Option Addr) (n cap : Nat) (d : List Nat) (size : Int) (w : World) (hk : Kinds w) (hr : Reads .u8 w a n cap d) (hbd : Byt d) (hn : n ≤ 200) (hcond : size ≤ 5000) :
    Calls Tryd.prog 4 #[.int .i64 h, .slice a n cap, .int .i64 size] w fun e w' => e = .returned (.bool true) ∧ Below w.heap.size w w' := by
  obtain ⟨i0, hi, hz0, hz1, hz2⟩ := info_parts infoMk
  have d1 : decide ((200 : Int) < (n : Int)) = false := by simp; omega
  have d2 : decide ((5000 : Int) < size) = false := by simp; omega
  have HR := Lib.hid hr
  have HDL := Lib.hid (show d.length = n from hr.length)
  have HBD := Lib.hid hbd
  have HK := Lib.hid hk
  have BF := Lib.hid (frameR_byt h hbd)
  have BE := Lib.hid (encR_byt h size hbd)
  obtain ⟨⟨F, fe⟩, hF⟩ : ∃ R, R = frameR h d := ⟨_, rfl⟩
  obtain ⟨⟨G, ge⟩, hG⟩ : ∃ R, R = encR h d size := ⟨_, rfl⟩
  have hF' := hF.symm
  have hG' := hG.symm
  rw [hF'] at BF
  rw [hG'] at BE
  have HF := Lib.hid hF'
  have HG := Lib.hid hG'
  clear hr hbd hk hF hG hF' hG' hcond
  go_enter Tryd.func4, Tryd.ntmps4
  go_wp2_with (at_builtin; first
    | (refine wpList_append_q .u8 _ rfl _ _ 23 rfl w.heap.size 5 1 i0 Tryd.underlying23 hi hz0 hz1 hz2 (by decide) _ [] rfl (OwnQ.empty .u8 w _ _ (Nat.le_refl _)) a n cap d rfl (HR.out.below ((Below.refl _ _).alloc (Nat.le_refl _) _)) (by simp; omega) (by simp) ?_; intro v1 w1 hown hgrow; rw [List.nil_append] at hown; have HO1 := Lib.hid hown; have HB1 := Lib.hid (hgrow w ((Below.refl _ _).alloc (Nat.le_refl _) _)); clear hown hgrow)
    | (refine wpList_append_q .u8 _ rfl _ _ 23 rfl w.heap.size 5 1 i0 Tryd.underlying23 hi hz0 hz1 hz2 (by decide) _ d rfl (HO1.out.alloc _) _ 1 1 [7] rfl (Reads.one .u8 _ _ _ _ rfl) (by rw [HDL.out]; omega) (by have := HB1.out.size; simp; omega) ?_; intro v2 w2 hown hgrow; obtain ⟨oa, on, oc, rfl, hon, ho⟩ := own_slM hown; have HO := Lib.hid ho; have HON := Lib.hid hon; have hoc : n ≤ oc := (by have h1 := ho.cap; have h2 := HDL.out; rw [List.length_append] at h1; omega); have HB2 := Lib.hid (hgrow w (HB1.out.alloc HB1.out.size _)); clear hown hgrow hon ho))
  refine (frame_r F fe h oa n oc d w2 HF.out (HK.out.below HB2.out) (by have h1 := (HO.out.upto n (by have := HON.out; rw [List.length_append, HDL.out] at this; omega)).reads; rwa [List.take_left' HDL.out] at h1)).mono ?_
  rintro e w3 ⟨⟨a1, n1, c1, rfl, ho⟩, hb⟩
  have HA := Lib.hid ho
  have hz23 : w2.heap.size ≤ w3.heap.size := hb.size
  have hz02 : w.heap.size ≤ w2.heap.size := HB2.out.size
  have HGA := Lib.hid HA.out.blkM
  have HB3 := Lib.hid hb
  clear ho hb
  go_wp2_with fail
  refine (rframe_r F fe h a n cap d w3 HF.out (HR.out.below (HB2.out.trans (HB3.out.mono hz02)))).mono ?_
  rintro e w4 ⟨⟨a2, n2, c2, rfl, ho⟩, hb⟩
  have HB := Lib.hid ho
  have HA := Lib.hid (HA.out.below hb)
  have hz34 : w3.heap.size ≤ w4.heap.size := hb.size
  have HB4 := Lib.hid (HB3.out.trans (hb.mono hz23))
  clear ho hb
  go_wp2_with fail
  refine (encode_r G ge h oa n oc d size w4 HG.out (HK.out.below (HB2.out.trans (HB4.out.mono hz02))) (by have h1 := ((HO.out.below HB4.out).upto n (by have := HON.out; rw [List.length_append, HDL.out] at this; omega)).reads; rwa [List.take_left' HDL.out] at h1)).mono ?_
  rintro e w5 ⟨⟨a3, n3, c3, rfl, ho⟩, hb⟩
  have HC := Lib.hid ho
  have HA := Lib.hid (HA.out.below hb)
  have HB := Lib.hid (HB.out.below hb)
  have hz45 : w4.heap.size ≤ w5.heap.size := hb.size
  have HB5 := Lib.hid (HB4.out.trans (hb.mono (Nat.le_trans hz23 hz34)))
  clear ho hb
  go_wp2_with fail
  refine (rencode_r G ge h a n cap d size w5 HG.out (HR.out.below (HB2.out.trans (HB5.out.mono hz02)))).mono ?_
  rintro e w6 ⟨⟨a4, n4, c4, rfl, ho⟩, hb⟩
  have HD := Lib.hid ho
  have HA := Lib.hid (HA.out.below hb)
  have HB := Lib.hid (HB.out.below hb)
  have HC := Lib.hid (HC.out.below hb)
  have HB6 := Lib.hid (HB5.out.trans (hb.mono (Nat.le_trans hz23 (Nat.le_trans hz34 hz45))))
  have cA := convB (HA.out.reads.bts BF.out)
  have cB := convB (HB.out.reads.bts BF.out)
  have cC := convB (HC.out.reads.bts BE.out)
  have cD := convB (HD.out.reads.bts BE.out)
  clear ho hb
  go_wp2_with fail
  clear cA cB cC cD HB HD
  have hn1 : n1 ≤ 9223372036854775807 := (by have h1 := HA.out.cap.2; unfold maxLen at h1; omega)
  have hn3 : n3 ≤ 9223372036854775807 := (by have h1 := HC.out.cap.2; unfold maxLen at h1; omega)
  have H0 := Lib.hid (show Below w2.heap.size w6 w6 from Below.refl _ _)
  go_loopw [90] (fun iv wq => ∃ i : Nat, iv = .int .i64 (i : Int) ∧ i ≤ n1 ∧ Hid (∃ l, l.length = n1 ∧ Byt l ∧ OwnQ .u8 5 w2.heap.size wq (.slice a1 n1 c1) l ∧ OwnQ .u8 5 w4.heap.size wq (.slice a3 n3 c3) G ∧ Below w2.heap.size w6 wq)) (fun iv _ => n1 - (intOf iv).toNat)
  case atStart => exact ⟨0, rfl, Nat.zero_le _, F, HA.out.cap.1.symm, BF.out, HA.out, HC.out, H0.out⟩
  case round =>
    obtain ⟨i, rfl, hi1, hI⟩ := hrel
    obtain ⟨l, hl, hlb, hoA, hoC, hbq⟩ := hI.out
    by_cases hlt : i < n1
    · have tl : decide ((i : Int) < (n1 : Int)) = true := by simp; omega
      obtain ⟨g, c1', hg⟩ := hoA.succ (by intro e; subst e; simp at hl; omega)
      obtain ⟨rfl, -, rfl⟩ : a1 = some ⟨g, 0, .none⟩ ∧ n1 = l.length ∧ c1 = c1' := by simpa using hg
      obtain ⟨x, hx⟩ : ∃ x, x = l[i]?.getD 0 := ⟨_, rfl⟩
      have hx256 : x < 256 := by rw [hx, List.getElem?_eq_getElem (by omega)]; exact hlb _ (List.getElem_mem _)
      have cx := hoA.cellAt hl.symm i hlt
      rw [← hx] at cx
      have fx := hoA.frozenAt hl.symm i
      obtain ⟨y, hy⟩ : ∃ y, y = (x + 1) % 256 := ⟨_, rfl⟩
      have hw : IntKind.u8.wrap ((x : Int) + 1) = (y : Int) := by rw [IntKind.wrap_u8]; omega
      have hy256 : y < 256 := by omega
      have HST := Lib.hid (hoA.stored hl.symm i y (y : Int) rfl)
      have HC1 := Lib.hid (hoC.keptM (grown_set (grown_below (Below.refl _ wr) (some g)) i (.int .u8 (y : Int))) (Nat.lt_of_lt_of_le (HGA.out _ rfl).2 hz34))
      have HL := Lib.hid hl
      have HLB := Lib.hid hlb
      have HBQ := Lib.hid hbq
      clear hl hlb hoA hbq hx hy hI hg hoC
      go_wp2
      go_roundw
      case rel => exact ⟨i + 1, by go_num, by omega, l.set i y, by rw [List.length_set]; exact HL.out, byt_set HLB.out i y hy256, HST.out.1, HC1.out, HST.out.2 _ HBQ.out⟩
      case measure => simp [intOf] <;> omega
    · have tl : decide ((i : Int) < (n1 : Int)) = false := by simp; omega
      have HC1 := Lib.hid hoC
      have HBq := Lib.hid hbq
      clear hl hlb hoA hoC hbq hI HA HC
      go_wp2_with fail
      go_loopw [102] (fun iv wq => ∃ i : Nat, iv = .int .i64 (i : Int) ∧ i ≤ n3 ∧ Hid (∃ l, l.length = n3 ∧ Byt l ∧ OwnQ .u8 5 w2.heap.size wq (.slice a3 n3 c3) l ∧ Below w2.heap.size w6 wq)) (fun iv _ => n3 - (intOf iv).toNat)
      case atStart => exact ⟨0, rfl, Nat.zero_le _, G, HC1.out.cap.1.symm, BE.out, HC1.out.mono (Nat.le_trans hz23 hz34), HBq.out⟩
      case round =>
        obtain ⟨i, rfl, hi1, hI⟩ := hrel
        obtain ⟨l, hl, hlb, hoA, hbq⟩ := hI.out
        by_cases hlt : i < n3
        · have tl : decide ((i : Int) < (n3 : Int)) = true := by simp; omega
          obtain ⟨g, c1', hg⟩ := hoA.succ (by intro e; subst e; simp at hl; omega)
          obtain ⟨rfl, -, rfl⟩ : a3 = some ⟨g, 0, .none⟩ ∧ n3 = l.length ∧ c3 = c1' := by simpa using hg
          obtain ⟨x, hx⟩ : ∃ x, x = l[i]?.getD 0 := ⟨_, rfl⟩
          have hx256 : x < 256 := by rw [hx, List.getElem?_eq_getElem (by omega)]; exact hlb _ (List.getElem_mem _)
          have cx := hoA.cellAt hl.symm i hlt
          rw [← hx] at cx
          have fx := hoA.frozenAt hl.symm i
          obtain ⟨y, hy⟩ : ∃ y, y = (x + 1) % 256 := ⟨_, rfl⟩
          have hw : IntKind.u8.wrap ((x : Int) + 1) = (y : Int) := by rw [IntKind.wrap_u8]; omega
          have hy256 : y < 256 := by omega
          have HST := Lib.hid (hoA.stored hl.symm i y (y : Int) rfl)
          have HL := Lib.hid hl
          have HLB := Lib.hid hlb
          have HBQ := Lib.hid hbq
          clear hl hlb hoA hbq hx hy hI hg
          go_wp2

          go_roundw
          case rel => exact ⟨i + 1, by go_num, by omega, l.set i y, by rw [List.length_set]; exact HL.out, byt_set HLB.out i y hy256, HST.out.1, HST.out.2 _ HBQ.out⟩
          case measure => simp [intOf] <;> omega
        · have tl : decide ((i : Int) < (n3 : Int)) = false := by simp; omega
          have HBZ := Lib.hid (HB6.out.trans hbq)
          have cO := convB ((HO.out.below HBZ.out).reads.bts (byt_appM HBD.out (by decide)))
          have cR := convB ((HR.out.below (HB2.out.trans (HBZ.out.mono hz02))).bts HBD.out)
          have ct := strOf_app7 d
          have cz : (strOf (u8s d)).size = n := by rw [strOf_size3]; simp [u8s]; exact HDL.out
          clear hl hlb hoA hbq hI
          go_wp2

          go_ret
          exact ⟨rfl, HB2.out.trans (HBZ.out.mono hz02)⟩

set_option maxHeartbeats 4000000 in
theorem frames_big (h : Int) (a : Option Addr) (n cap : Nat) (d : List Nat) (size : Int) (w : World) (hk : Kinds w) (hr : Reads .u8 w a n cap d) (hbd : Byt d) (hn : n ≤ 200) (hcond : 65536 < size) :
    Calls Tryd.prog 4 #[.int .i64 h, .slice a n cap, .int .i64 size] w fun e w' => e = .returned (.bool true) ∧ Below w.heap.size w w' := by
  obtain ⟨i0, hi, hz0, hz1, hz2⟩ := info_parts infoMk
  have d1 : decide ((200 : Int) < (n : Int)) = false := by simp; omega
  have d2 : decide ((5000 : Int) < size) = true := by simp; omega
  have d3 : decide (size ≤ (65536 : Int)) = false := by simp; omega
  have HR := Lib.hid hr
  have HDL := Lib.hid (show d.length = n from hr.length)
  have HBD := Lib.hid hbd
  have HK := Lib.hid hk
  have BF := Lib.hid (frameR_byt h hbd)
  have BE := Lib.hid (encR_byt h size hbd)
  obtain ⟨⟨F, fe⟩, hF⟩ : ∃ R, R = frameR h d := ⟨_, rfl⟩
  obtain ⟨⟨G, ge⟩, hG⟩ : ∃ R, R = encR h d size := ⟨_, rfl⟩
  have hF' := hF.symm
  have hG' := hG.symm
  rw [hF'] at BF
  rw [hG'] at BE
  have HF := Lib.hid hF'
  have HG := Lib.hid hG'
  clear hr hbd hk hF hG hF' hG' hcond
  go_enter Tryd.func4, Tryd.ntmps4
  go_wp2_with (at_builtin; first
    | (refine wpList_append_q .u8 _ rfl _ _ 23 rfl w.heap.size 5 1 i0 Tryd.underlying23 hi hz0 hz1 hz2 (by decide) _ [] rfl (OwnQ.empty .u8 w _ _ (Nat.le_refl _)) a n cap d rfl (HR.out.below ((Below.refl _ _).alloc (Nat.le_refl _) _)) (by simp; omega) (by simp) ?_; intro v1 w1 hown hgrow; rw [List.nil_append] at hown; have HO1 := Lib.hid hown; have HB1 := Lib.hid (hgrow w ((Below.refl _ _).alloc (Nat.le_refl _) _)); clear hown hgrow)
    | (refine wpList_append_q .u8 _ rfl _ _ 23 rfl w.heap.size 5 1 i0 Tryd.underlying23 hi hz0 hz1 hz2 (by decide) _ d rfl (HO1.out.alloc _) _ 1 1 [7] rfl (Reads.one .u8 _ _ _ _ rfl) (by rw [HDL.out]; omega) (by have := HB1.out.size; simp; omega) ?_; intro v2 w2 hown hgrow; obtain ⟨oa, on, oc, rfl, hon, ho⟩ := own_slM hown; have HO := Lib.hid ho; have HON := Lib.hid hon; have hoc : n ≤ oc := (by have h1 := ho.cap; have h2 := HDL.out; rw [List.length_append] at h1; omega); have HB2 := Lib.hid (hgrow w (HB1.out.alloc HB1.out.size _)); clear hown hgrow hon ho))
  refine (frame_r F fe h oa n oc d w2 HF.out (HK.out.below HB2.out) (by have h1 := (HO.out.upto n (by have := HON.out; rw [List.length_append, HDL.out] at this; omega)).reads; rwa [List.take_left' HDL.out] at h1)).mono ?_
  rintro e w3 ⟨⟨a1, n1, c1, rfl, ho⟩, hb⟩
  have HA := Lib.hid ho
  have hz23 : w2.heap.size ≤ w3.heap.size := hb.size
  have hz02 : w.heap.size ≤ w2.heap.size := HB2.out.size
  have HGA := Lib.hid HA.out.blkM
  have HB3 := Lib.hid hb
  clear ho hb
  go_wp2_with fail
  refine (rframe_r F fe h a n cap d w3 HF.out (HR.out.below (HB2.out.trans (HB3.out.mono hz02)))).mono ?_
  rintro e w4 ⟨⟨a2, n2, c2, rfl, ho⟩, hb⟩
  have HB := Lib.hid ho
  have HA := Lib.hid (HA.out.below hb)
  have hz34 : w3.heap.size ≤ w4.heap.size := hb.size
  have HB4 := Lib.hid (HB3.out.trans (hb.mono hz23))
  clear ho hb
  go_wp2_with fail
  refine (encode_r G ge h oa n oc d size w4 HG.out (HK.out.below (HB2.out.trans (HB4.out.mono hz02))) (by have h1 := ((HO.out.below HB4.out).upto n (by have := HON.out; rw [List.length_append, HDL.out] at this; omega)).reads; rwa [List.take_left' HDL.out] at h1)).mono ?_
  rintro e w5 ⟨⟨a3, n3, c3, rfl, ho⟩, hb⟩
  have HC := Lib.hid ho
  have HA := Lib.hid (HA.out.below hb)
  have HB := Lib.hid (HB.out.below hb)
  have hz45 : w4.heap.size ≤ w5.heap.size := hb.size
  have HB5 := Lib.hid (HB4.out.trans (hb.mono (Nat.le_trans hz23 hz34)))
  clear ho hb
  go_wp2_with fail
  refine (rencode_r G ge h a n cap d size w5 HG.out (HR.out.below (HB2.out.trans (HB5.out.mono hz02)))).mono ?_
  rintro e w6 ⟨⟨a4, n4, c4, rfl, ho⟩, hb⟩
  have HD := Lib.hid ho
  have HA := Lib.hid (HA.out.below hb)
  have HB := Lib.hid (HB.out.below hb)
  have HC := Lib.hid (HC.out.below hb)
  have HB6 := Lib.hid (HB5.out.trans (hb.mono (Nat.le_trans hz23 (Nat.le_trans hz34 hz45))))
  have cA := convB (HA.out.reads.bts BF.out)
  have cB := convB (HB.out.reads.bts BF.out)
  have cC := convB (HC.out.reads.bts BE.out)
  have cD := convB (HD.out.reads.bts BE.out)
  clear ho hb
  go_wp2_with fail
  clear cA cB cC cD HB HD
  have hn1 : n1 ≤ 9223372036854775807 := (by have h1 := HA.out.cap.2; unfold maxLen at h1; omega)
  have hn3 : n3 ≤ 9223372036854775807 := (by have h1 := HC.out.cap.2; unfold maxLen at h1; omega)
  have H0 := Lib.hid (show Below w2.heap.size w6 w6 from Below.refl _ _)
  go_loopw [90] (fun iv wq => ∃ i : Nat, iv = .int .i64 (i : Int) ∧ i ≤ n1 ∧ Hid (∃ l, l.length = n1 ∧ Byt l ∧ OwnQ .u8 5 w2.heap.size wq (.slice a1 n1 c1) l ∧ OwnQ .u8 5 w4.heap.size wq (.slice a3 n3 c3) G ∧ Below w2.heap.size w6 wq)) (fun iv _ => n1 - (intOf iv).toNat)
  case atStart => exact ⟨0, rfl, Nat.zero_le _, F, HA.out.cap.1.symm, BF.out, HA.out, HC.out, H0.out⟩
  case round =>
    obtain ⟨i, rfl, hi1, hI⟩ := hrel
    obtain ⟨l, hl, hlb, hoA, hoC, hbq⟩ := hI.out
    by_cases hlt : i < n1
    · have tl : decide ((i : Int) < (n1 : Int)) = true := by simp; omega
      obtain ⟨g, c1', hg⟩ := hoA.succ (by intro e; subst e; simp at hl; omega)
      obtain ⟨rfl, -, rfl⟩ : a1 = some ⟨g, 0, .none⟩ ∧ n1 = l.length ∧ c1 = c1' := by simpa using hg
      obtain ⟨x, hx⟩ : ∃ x, x = l[i]?.getD 0 := ⟨_, rfl⟩
      have hx256 : x < 256 := by rw [hx, List.getElem?_eq_getElem (by omega)]; exact hlb _ (List.getElem_mem _)
      have cx := hoA.cellAt hl.symm i hlt
      rw [← hx] at cx
      have fx := hoA.frozenAt hl.symm i
      obtain ⟨y, hy⟩ : ∃ y, y = (x + 1) % 256 := ⟨_, rfl⟩
      have hw : IntKind.u8.wrap ((x : Int) + 1) = (y : Int) := by rw [IntKind.wrap_u8]; omega
      have hy256 : y < 256 := by omega
      have HST := Lib.hid (hoA.stored hl.symm i y (y : Int) rfl)
      have HC1 := Lib.hid (hoC.keptM (grown_set (grown_below (Below.refl _ wr) (some g)) i (.int .u8 (y : Int))) (Nat.lt_of_lt_of_le (HGA.out _ rfl).2 hz34))
      have HL := Lib.hid hl
      have HLB := Lib.hid hlb
      have HBQ := Lib.hid hbq
      clear hl hlb hoA hbq hx hy hI hg hoC
      go_wp2
      go_roundw
      case rel => exact ⟨i + 1, by go_num, by omega, l.set i y, by rw [List.length_set]; exact HL.out, byt_set HLB.out i y hy256, HST.out.1, HC1.out, HST.out.2 _ HBQ.out⟩
      case measure => simp [intOf] <;> omega
    · have tl : decide ((i : Int) < (n1 : Int)) = false := by simp; omega
      have HC1 := Lib.hid hoC
      have HBq := Lib.hid hbq
      clear hl hlb hoA hoC hbq hI HA HC
      go_wp2_with fail
      go_loopw [102] (fun iv wq => ∃ i : Nat, iv = .int .i64 (i : Int) ∧ i ≤ n3 ∧ Hid (∃ l, l.length = n3 ∧ Byt l ∧ OwnQ .u8 5 w2.heap.size wq (.slice a3 n3 c3) l ∧ Below w2.heap.size w6 wq)) (fun iv _ => n3 - (intOf iv).toNat)
      case atStart => exact ⟨0, rfl, Nat.zero_le _, G, HC1.out.cap.1.symm, BE.out, HC1.out.mono (Nat.le_trans hz23 hz34), HBq.out⟩
      case round =>
        obtain ⟨i, rfl, hi1, hI⟩ := hrel
        obtain ⟨l, hl, hlb, hoA, hbq⟩ := hI.out
        by_cases hlt : i < n3
        · have tl : decide ((i : Int) < (n3 : Int)) = true := by simp; omega
          obtain ⟨g, c1', hg⟩ := hoA.succ (by intro e; subst e; simp at hl; omega)
          obtain ⟨rfl, -, rfl⟩ : a3 = some ⟨g, 0, .none⟩ ∧ n3 = l.length ∧ c3 = c1' := by simpa using hg
          obtain ⟨x, hx⟩ : ∃ x, x = l[i]?.getD 0 := ⟨_, rfl⟩
          have hx256 : x < 256 := by rw [hx, List.getElem?_eq_getElem (by omega)]; exact hlb _ (List.getElem_mem _)
          have cx := hoA.cellAt hl.symm i hlt
          rw [← hx] at cx
          have fx := hoA.frozenAt hl.symm i
          obtain ⟨y, hy⟩ : ∃ y, y = (x + 1) % 256 := ⟨_, rfl⟩
          have hw : IntKind.u8.wrap ((x : Int) + 1) = (y : Int) := by rw [IntKind.wrap_u8]; omega
          have hy256 : y < 256 := by omega
          have HST := Lib.hid (hoA.stored hl.symm i y (y : Int) rfl)
          have HL := Lib.hid hl
          have HLB := Lib.hid hlb
          have HBQ := Lib.hid hbq
          clear hl hlb hoA hbq hx hy hI hg
          go_wp2

          go_roundw
          case rel => exact ⟨i + 1, by go_num, by omega, l.set i y, by rw [List.length_set]; exact HL.out, byt_set HLB.out i y hy256, HST.out.1, HST.out.2 _ HBQ.out⟩
          case measure => simp [intOf] <;> omega
        · have tl : decide ((i : Int) < (n3 : Int)) = false := by simp; omega
          have HBZ := Lib.hid (HB6.out.trans hbq)
          have cO := convB ((HO.out.below HBZ.out).reads.bts (byt_appM HBD.out (by decide)))
          have cR := convB ((HR.out.below (HB2.out.trans (HBZ.out.mono hz02))).bts HBD.out)
          have ct := strOf_app7 d
          have cz : (strOf (u8s d)).size = n := by rw [strOf_size3]; simp [u8s]; exact HDL.out
          clear hl hlb hoA hbq hI
          go_wp2

          go_ret
          exact ⟨rfl, HB2.out.trans (HBZ.out.mono hz02)⟩

theorem frames_walk (h : Int) (a : Option Addr) (n cap : Nat) (d : List Nat) (size : Int) (w : World) (hk : Kinds w) (hr : Reads .u8 w a n cap d) (hbd : Byt d) :
    Calls Tryd.prog 4 #[.int .i64 h, .slice a n cap, .int .i64 size] w fun e w' => e = .returned (.bool true) ∧ Below w.heap.size w w' := by
  by_cases hn : n ≤ 200
  · rcases (show size ≤ 5000 ∨ 65536 < size ∨ 5000 < size ∧ size ≤ 65536 by omega) with h1 | h1 | ⟨h1, h2⟩
    · exact frames_small h a n cap d size w hk hr hbd hn h1
    · exact frames_big h a n cap d size w hk hr hbd hn h1
    · have d1 : decide ((200 : Int) < (n : Int)) = false := by simp; omega
      have d2 : decide ((5000 : Int) < size) = true := by simp; omega
      have d3 : decide (size ≤ (65536 : Int)) = true := by simp; omega
      clear hk hr hbd hn h1 h2
      go_enter Tryd.func4, Tryd.ntmps4
      go_wp2
      go_ret
      exact ⟨rfl, Below.refl _ _⟩
  · have d1 : decide ((200 : Int) < (n : Int)) = true := by simp; omega
    clear hk hr hbd hn
    go_enter Tryd.func4, Tryd.ntmps4
    go_wp2
    go_ret
    exact ⟨rfl, Below.refl _ _⟩

end Go.Proofs.YtmfjhgjplmpecaaDoor
