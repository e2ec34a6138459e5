/-
  Layer 8: the law MaskNames. (Written by wip/gen_mkW.py.)
-/
import Derived.Test.YtmfjhgjplmpecaaDoorMkU
namespace Go.Proofs.YtmfjhgjplmpecaaDoor
open Go.RowKit Go.Shelf
set_option maxRecDepth 100000

theorem mask_noHash (h : Int) (hn : h < 1 ∨ 4 < h) (a : Option Addr) (n c : Nat) (size : Int) (w : World) : Calls Tryd.prog 12 #[.int .i64 h, .slice a n c, .int .i64 size] w fun e w' => e = .returned (.tuple #[.slice none 0 0, .int .i64 80]) ∧ Below w.heap.size w w' := by
  have HB0 := Lib.hid ((Below.refl w.heap.size w).alloc (Nat.le_refl _) (.cells #[.int .i64 size] 3))
  go_enter Tryd.func12, Tryd.ntmps12
  go_wp2_with fail
  refine wp_scope_straight ?_
  go_wp2_with fail
  refine (known_noM h hn _).mono ?_
  rintro e w1 ⟨rfl, h1⟩
  have H1 := Lib.hid (HB0.out.trans (h1.mono HB0.out.size))
  clear h1 hn
  go_wp2
  rw [Exit.noGoto_ret]
  go_ret2
  exact ⟨rfl, (by have h := H1.out; have hs := h.size; (repeat' (first | exact h | refine Below.drew ?_ | refine Below.alloc ?_ (by first | omega | (simp; omega)) _)))⟩
theorem mask_noSize (h : Nat) (hh : IsHash h) (a : Option Addr) (n c : Nat) (size : Int) (w : World) (hk : Kinds w) (hs : size < 0 ∨ 65536 < size) : Calls Tryd.prog 12 #[.int .i64 (h : Int), .slice a n c, .int .i64 size] w fun e w' => e = .returned (.tuple #[.slice none 0 0, .int .i64 2]) ∧ Below w.heap.size w w' := by
  have HB0 := Lib.hid ((Below.refl w.heap.size w).alloc (Nat.le_refl _) (.cells #[.int .i64 size] 3))
  have BZ0 := Lib.hid (Boxed.new w 3 (.int .i64 size))
  have HK := Lib.hid hk
  have d1 : decide (size < 0) = true ∨ decide (size < 0) = false ∧ decide (65536 < size) = true := by
    by_cases h1 : size < 0
    · exact .inl (by simpa using h1)
    · exact .inr ⟨by simpa using h1, by simp; omega⟩
  clear hs hk
  rcases d1 with d1 | ⟨d1, d2⟩
  · go_enter Tryd.func12, Tryd.ntmps12
    go_wp2_with fail
    refine wp_scope_straight ?_
    go_wp2_with fail
    refine (known_yesM h hh _ (HK.out.below HB0.out)).mono ?_
    rintro e w1 ⟨rfl, h1⟩
    have H1 := Lib.hid (HB0.out.trans (h1.mono HB0.out.size))
    have cZ := (show Boxed w1 w.heap.size 3 (.int .i64 size) from (h1.block w.heap.size BZ0.out.lt).trans BZ0.out).cell
    have hlt : w.heap.size < w1.heap.size := by have := h1.size; simp at this; omega
    unfold kindV
    clear h1
    go_wp2
    rw [Exit.noGoto_ret]
    go_ret2
    exact ⟨rfl, (by have h := H1.out; have hs := h.size; (repeat' (first | exact h | refine Below.drew ?_ | refine Below.alloc ?_ (by first | omega | (simp; omega)) _)))⟩
  · go_enter Tryd.func12, Tryd.ntmps12
    go_wp2_with fail
    refine wp_scope_straight ?_
    go_wp2_with fail
    refine (known_yesM h hh _ (HK.out.below HB0.out)).mono ?_
    rintro e w1 ⟨rfl, h1⟩
    have H1 := Lib.hid (HB0.out.trans (h1.mono HB0.out.size))
    have cZ := (show Boxed w1 w.heap.size 3 (.int .i64 size) from (h1.block w.heap.size BZ0.out.lt).trans BZ0.out).cell
    have hlt : w.heap.size < w1.heap.size := by have := h1.size; simp at this; omega
    unfold kindV
    clear h1
    go_wp2
    rw [Exit.noGoto_ret]
    go_ret2
    exact ⟨rfl, (by have h := H1.out; have hs := h.size; (repeat' (first | exact h | refine Below.drew ?_ | refine Below.alloc ?_ (by first | omega | (simp; omega)) _)))⟩

set_option maxHeartbeats 4000000 in
theorem mnames_walk (w : World) (hk : Kinds w) : Calls Tryd.prog 5 #[] w fun e w' => e = .returned (.bool true) ∧ Below w.heap.size w w' := by
  obtain ⟨i0, hi, hz0, hz1, hz2⟩ := info_parts infoMk
  have HK := Lib.hid hk
  clear hk
  go_enter Tryd.func5, Tryd.ntmps5
  go_wp2_with (at_make; refine wpList_make_lcM .u8 _ rfl _ _ 23 rfl w.heap.size 5 i0 Tryd.underlying23 hi hz0 hz1 _ _ _ _ 32 32 rfl rfl rfl rfl (Nat.le_refl _) (by rw [hz2]; decide) (by unfold maxLen; omega) (Nat.le_refl _) ?_; intro w1 hown hgrow; have HD := Lib.hid hown; have HB := Lib.hid ((Below.refl w.heap.size w).grown hgrow (Nat.le_refl _) (fun r e => by cases e)); clear hown hgrow)
  refine (encode_yes 2 (by simp [IsHash]) (some ⟨w.heap.size, 0, none⟩) 32 32 (List.replicate 32 0) 62 w1 (HK.out.below HB.out) HD.out.reads rfl (by decide) (by decide)).mono ?_
  rintro e w2 ⟨⟨v, rfl, ho0⟩, hb⟩
  have HD := Lib.hid (HD.out.below hb)
  have HB := Lib.hid (HB.out.trans (hb.mono HB.out.size))
  obtain ⟨ea, en, ec, rfl, hen, ho⟩ := own_slM ho0
  have HE := Lib.hid ho
  clear ho0 ho
  rw [show (encL 2 (List.replicate 32 0) 62).length = 62 by kernel_rfl] at hen
  rw [hen] at HE ⊢
  clear hen
  clear hb
  go_wp2_with fail
  refine (encode_noSize 2 (by simp [IsHash]) (some ⟨w.heap.size, 0, none⟩) 32 32 (List.replicate 32 0) 61 w2 (HK.out.below HB.out) HD.out.reads rfl (.inl (by decide))).mono ?_
  rintro e w3 ⟨rfl, hb⟩
  have HD := Lib.hid (HD.out.below hb)
  have HE := Lib.hid (HE.out.below hb)
  have HB := Lib.hid (HB.out.trans (hb.mono HB.out.size))
  clear hb
  go_wp2_with fail
  refine (encode_noFrame 2 (some ⟨w.heap.size, 0, none⟩) 31 32 99 w3 (HK.out.below HB.out) (fun k hk e => by obtain rfl : k = 2 := (by omega); decide)).mono ?_
  rintro e w4 ⟨rfl, hb⟩
  have HD := Lib.hid (HD.out.below hb)
  have HE := Lib.hid (HE.out.below hb)
  have HB := Lib.hid (HB.out.trans (hb.mono HB.out.size))
  clear hb
  go_wp2_with fail
  refine (mask_noSize 2 (by simp [IsHash]) none 0 0 (-1) w4 (HK.out.below HB.out) (.inl (by decide))).mono ?_
  rintro e w5 ⟨rfl, hb⟩
  have HD := Lib.hid (HD.out.below hb)
  have HE := Lib.hid (HE.out.below hb)
  have HB := Lib.hid (HB.out.trans (hb.mono HB.out.size))
  clear hb
  go_wp2_with fail
  refine (mask_noSize 4 (by simp [IsHash]) none 0 0 65537 w5 (HK.out.below HB.out) (.inr (by decide))).mono ?_
  rintro e w6 ⟨rfl, hb⟩
  have HD := Lib.hid (HD.out.below hb)
  have HE := Lib.hid (HE.out.below hb)
  have HB := Lib.hid (HB.out.trans (hb.mono HB.out.size))
  clear hb
  go_wp2_with fail
  refine (mask_noHash 0 (.inl (by decide)) none 0 0 (-1) w6).mono ?_
  rintro e w7 ⟨rfl, hb⟩
  have HD := Lib.hid (HD.out.below hb)
  have HE := Lib.hid (HE.out.below hb)
  have HB := Lib.hid (HB.out.trans (hb.mono HB.out.size))
  clear hb
  go_wp2_with fail
  refine (sum_no 5 (.inr (by decide)) none 0 0 w7).mono ?_
  rintro e w8 ⟨rfl, hb⟩
  have HD := Lib.hid (HD.out.below hb)
  have HE := Lib.hid (HE.out.below hb)
  have HB := Lib.hid (HB.out.trans (hb.mono HB.out.size))
  clear hb
  go_wp2_with fail
  refine (sum_no (-1) (.inl (by decide)) _ 1 1 _).mono ?_
  rintro e w9 ⟨rfl, hb0⟩
  have hb := ((Below.refl w8.heap.size w8).alloc (Nat.le_refl _) _).trans (hb0.mono (by simp))
  have HD := Lib.hid (HD.out.below hb)
  have HE := Lib.hid (HE.out.below hb)
  have HB := Lib.hid (HB.out.trans (hb.mono HB.out.size))
  clear hb0
  clear hb
  go_wp2_with fail
  refine (frame_no 0 none 0 0 w9 (HK.out.below HB.out) (fun k hk e => by obtain rfl : k = 0 := (by omega); simp [IsHash] at hk)).mono ?_
  rintro e w10 ⟨rfl, hb⟩
  have HD := Lib.hid (HD.out.below hb)
  have HE := Lib.hid (HE.out.below hb)
  have HB := Lib.hid (HB.out.trans (hb.mono HB.out.size))
  clear hb
  go_wp2_with fail
  refine (mask_yes 1 (by simp [IsHash]) none 0 0 [] 0 w10 (HK.out.below HB.out) (Reads.none _ _) (by decide) (by decide) (by decide)).mono ?_
  rintro e w11 ⟨⟨v, rfl, ho0⟩, hb⟩
  have HD := Lib.hid (HD.out.below hb)
  have HE := Lib.hid (HE.out.below hb)
  have HB := Lib.hid (HB.out.trans (hb.mono HB.out.size))
  obtain ⟨na, nn, nc, rfl, hnn, ho⟩ := own_slM ho0
  clear ho0 ho
  obtain rfl : nn = 0 := by rw [hnn]; simp [maskN]
  clear hnn
  clear hb
  go_wp2_with fail
  refine (hex_any _ _ _ _ w11 (HE.out.reads.bts (by unfold encL; exact fun x hx => (by decide : ∀ y ∈ mEncP 2 (62 - (19 + mSize 2) - 3) (List.replicate 32 0), y < 256) x hx)) (by decide)).mono ?_
  rintro e w12 ⟨rfl, hb⟩
  have HD := Lib.hid (HD.out.below hb)
  have HE := Lib.hid (HE.out.below hb)
  have HB := Lib.hid (HB.out.trans (hb.mono HB.out.size))
  rw [show hexL (u8s (encL 2 (List.replicate 32 0) 62)) = [48, 48, 48, 49, 102, 102, 102, 102, 102, 102, 102, 102, 102, 102, 102, 102, 102, 102, 102, 102, 48, 48, 51, 48, 51, 49, 51, 48, 48, 100, 48, 54, 48, 57, 54, 48, 56, 54, 52, 56, 48, 49, 54, 53, 48, 51, 48, 52, 48, 50, 48, 49, 48, 53, 48, 48, 48, 52, 50, 48, 48, 48, 48, 48, 48, 48, 48, 48, 48, 48, 48, 48, 48, 48, 48, 48, 48, 48, 48, 48, 48, 48, 48, 48, 48, 48, 48, 48, 48, 48, 48, 48, 48, 48, 48, 48, 48, 48, 48, 48, 48, 48, 48, 48, 48, 48, 48, 48, 48, 48, 48, 48, 48, 48, 48, 48, 48, 48, 48, 48, 48, 48, 48, 48] by kernel_rfl]
  clear hb
  go_wp2_with fail
  refine (hex_any _ _ _ _ w12 (HD.out.reads.bts (by decide)) (by decide)).mono ?_
  rintro e w13 ⟨rfl, hb⟩
  have HD := Lib.hid (HD.out.below hb)
  have HE := Lib.hid (HE.out.below hb)
  have HB := Lib.hid (HB.out.trans (hb.mono HB.out.size))
  rw [show hexL (u8s (List.replicate 32 0)) = [48, 48, 48, 48, 48, 48, 48, 48, 48, 48, 48, 48, 48, 48, 48, 48, 48, 48, 48, 48, 48, 48, 48, 48, 48, 48, 48, 48, 48, 48, 48, 48, 48, 48, 48, 48, 48, 48, 48, 48, 48, 48, 48, 48, 48, 48, 48, 48, 48, 48, 48, 48, 48, 48, 48, 48, 48, 48, 48, 48, 48, 48, 48, 48] by kernel_rfl]
  have cat : (⟨#[48, 48, 48, 49, 102, 102, 102, 102, 102, 102, 102, 102, 102, 102, 102, 102, 102, 102, 102, 102, 48, 48, 51, 48, 51, 49, 51, 48, 48, 100, 48, 54, 48, 57, 54, 48, 56, 54, 52, 56, 48, 49, 54, 53, 48, 51, 48, 52, 48, 50, 48, 49, 48, 53, 48, 48, 48, 52, 50, 48]⟩ : ByteArray) ++ strOf [48, 48, 48, 48, 48, 48, 48, 48, 48, 48, 48, 48, 48, 48, 48, 48, 48, 48, 48, 48, 48, 48, 48, 48, 48, 48, 48, 48, 48, 48, 48, 48, 48, 48, 48, 48, 48, 48, 48, 48, 48, 48, 48, 48, 48, 48, 48, 48, 48, 48, 48, 48, 48, 48, 48, 48, 48, 48, 48, 48, 48, 48, 48, 48] = strOf [48, 48, 48, 49, 102, 102, 102, 102, 102, 102, 102, 102, 102, 102, 102, 102, 102, 102, 102, 102, 48, 48, 51, 48, 51, 49, 51, 48, 48, 100, 48, 54, 48, 57, 54, 48, 56, 54, 52, 56, 48, 49, 54, 53, 48, 51, 48, 52, 48, 50, 48, 49, 48, 53, 48, 48, 48, 52, 50, 48, 48, 48, 48, 48, 48, 48, 48, 48, 48, 48, 48, 48, 48, 48, 48, 48, 48, 48, 48, 48, 48, 48, 48, 48, 48, 48, 48, 48, 48, 48, 48, 48, 48, 48, 48, 48, 48, 48, 48, 48, 48, 48, 48, 48, 48, 48, 48, 48, 48, 48, 48, 48, 48, 48, 48, 48, 48, 48, 48, 48, 48, 48, 48, 48] := by kernel_rfl
  have cz : (strOf [48, 48, 48, 48, 48, 48, 48, 48, 48, 48, 48, 48, 48, 48, 48, 48, 48, 48, 48, 48, 48, 48, 48, 48, 48, 48, 48, 48, 48, 48, 48, 48, 48, 48, 48, 48, 48, 48, 48, 48, 48, 48, 48, 48, 48, 48, 48, 48, 48, 48, 48, 48, 48, 48, 48, 48, 48, 48, 48, 48, 48, 48, 48, 48]).size = 64 := by kernel_rfl
  clear hb
  go_wp2_with fail
  clear cat cz
  refine (frame_yes 1 (by simp [IsHash]) (some ⟨w.heap.size, 0, none⟩) 28 32 (List.replicate 28 0) w13 (HK.out.below HB.out) (by have h1 := (HD.out.upto 28 (by decide)).reads; rwa [List.take_replicate] at h1) rfl).mono ?_
  rintro e w14 ⟨⟨v, rfl, ho0⟩, hb⟩
  have HD := Lib.hid (HD.out.below hb)
  have HE := Lib.hid (HE.out.below hb)
  have HB := Lib.hid (HB.out.trans (hb.mono HB.out.size))
  obtain ⟨fa, fn, fc, rfl, hfn, ho⟩ := own_slM ho0
  have HF := Lib.hid ho
  clear ho0 ho
  rw [show (frameL 1 (List.replicate 28 0)).length = 47 by kernel_rfl] at hfn
  rw [hfn] at HF ⊢
  have hfc : 47 ≤ fc := HF.out.cap.2.1
  clear hfn
  clear hb
  go_wp2_with (at_make; refine wpList_make_lcM .u8 _ rfl _ _ 23 rfl w14.heap.size 5 i0 Tryd.underlying23 hi hz0 hz1 _ _ _ _ 48 48 rfl rfl rfl rfl (Nat.le_refl _) (by rw [hz2]; decide) (by unfold maxLen; omega) (Nat.le_refl _) ?_; intro w15 hown hgrow; have HMG := Lib.hid hown; have hb := (Below.refl w14.heap.size w14).grown hgrow (Nat.le_refl _) (fun r e => by cases e); have HD := Lib.hid (HD.out.below hb); have HF := Lib.hid (HF.out.below hb); have HB := Lib.hid (HB.out.trans (hb.mono HB.out.size)); clear hown hgrow hb)
  refine (frame_yes 3 (by simp [IsHash]) (some ⟨w14.heap.size, 0, none⟩) 48 48 (List.replicate 48 0) w15 (HK.out.below HB.out) HMG.out.reads rfl).mono ?_
  rintro e w16 ⟨⟨v, rfl, ho0⟩, hb⟩
  have HD := Lib.hid (HD.out.below hb)
  have HF := Lib.hid (HF.out.below hb)
  have HB := Lib.hid (HB.out.trans (hb.mono HB.out.size))
  obtain ⟨Ga, Gn, Gc, rfl, hfn, ho⟩ := own_slM ho0
  have HG := Lib.hid ho
  clear ho0 ho
  rw [show (frameL 3 (List.replicate 48 0)).length = 67 by kernel_rfl] at hfn
  rw [hfn] at HG ⊢
  have hGc : 67 ≤ Gc := HG.out.cap.2.1
  clear hfn
  clear hb
  go_wp2_with (at_make; refine wpList_make_lcM .u8 _ rfl _ _ 23 rfl w16.heap.size 5 i0 Tryd.underlying23 hi hz0 hz1 _ _ _ _ 64 64 rfl rfl rfl rfl (Nat.le_refl _) (by rw [hz2]; decide) (by unfold maxLen; omega) (Nat.le_refl _) ?_; intro w17 hown hgrow; have HMH := Lib.hid hown; have hb := (Below.refl w16.heap.size w16).grown hgrow (Nat.le_refl _) (fun r e => by cases e); have HD := Lib.hid (HD.out.below hb); have HF := Lib.hid (HF.out.below hb); have HG := Lib.hid (HG.out.below hb); have HB := Lib.hid (HB.out.trans (hb.mono HB.out.size)); clear hown hgrow hb)
  refine (frame_yes 4 (by simp [IsHash]) (some ⟨w16.heap.size, 0, none⟩) 64 64 (List.replicate 64 0) w17 (HK.out.below HB.out) HMH.out.reads rfl).mono ?_
  rintro e w18 ⟨⟨v, rfl, ho0⟩, hb⟩
  have HD := Lib.hid (HD.out.below hb)
  have HF := Lib.hid (HF.out.below hb)
  have HG := Lib.hid (HG.out.below hb)
  have HB := Lib.hid (HB.out.trans (hb.mono HB.out.size))
  obtain ⟨Ha, Hn, Hc, rfl, hfn, ho⟩ := own_slM ho0
  have HH := Lib.hid ho
  clear ho0 ho
  rw [show (frameL 4 (List.replicate 64 0)).length = 83 by kernel_rfl] at hfn
  rw [hfn] at HH ⊢
  have hHc : 83 ≤ Hc := HH.out.cap.2.1
  clear hfn
  clear hb
  go_wp2_with fail
  refine (hex_any _ 19 _ (u8s (frameH 1)) w18 (by have h1 := (HF.out.upto 19 (by decide)).reads; rw [show (frameL 1 (List.replicate 28 0)).take 19 = frameH 1 by kernel_rfl] at h1; exact h1.bts (frameH_lt (by simp [IsHash]))) (by decide)).mono ?_
  rintro e w19 ⟨rfl, hb⟩
  have HD := Lib.hid (HD.out.below hb)
  have HF := Lib.hid (HF.out.below hb)
  have HG := Lib.hid (HG.out.below hb)
  have HH := Lib.hid (HH.out.below hb)
  have HB := Lib.hid (HB.out.trans (hb.mono HB.out.size))
  rw [show hexL (u8s (frameH 1)) = [51, 48, 50, 100, 51, 48, 48, 100, 48, 54, 48, 57, 54, 48, 56, 54, 52, 56, 48, 49, 54, 53, 48, 51, 48, 52, 48, 50, 48, 52, 48, 53, 48, 48, 48, 52, 49, 99] by kernel_rfl]
  have tq1 : ((strOf [51, 48, 50, 100, 51, 48, 48, 100, 48, 54, 48, 57, 54, 48, 56, 54, 52, 56, 48, 49, 54, 53, 48, 51, 48, 52, 48, 50, 48, 52, 48, 53, 48, 48, 48, 52, 49, 99]).toList == [51, 48, 50, 100, 51, 48, 48, 100, 48, 54, 48, 57, 54, 48, 56, 54, 52, 56, 48, 49, 54, 53, 48, 51, 48, 52, 48, 50, 48, 52, 48, 53, 48, 48, 48, 52, 49, 99]) = true := by simp [strOf]
  clear hb
  go_wp2_with fail
  refine (hex_any _ 19 _ (u8s (frameH 3)) w19 (by have h1 := (HG.out.upto 19 (by decide)).reads; rw [show (frameL 3 (List.replicate 48 0)).take 19 = frameH 3 by kernel_rfl] at h1; exact h1.bts (frameH_lt (by simp [IsHash]))) (by decide)).mono ?_
  rintro e w20 ⟨rfl, hb⟩
  have HD := Lib.hid (HD.out.below hb)
  have HG := Lib.hid (HG.out.below hb)
  have HH := Lib.hid (HH.out.below hb)
  have HB := Lib.hid (HB.out.trans (hb.mono HB.out.size))
  rw [show hexL (u8s (frameH 3)) = [51, 48, 52, 49, 51, 48, 48, 100, 48, 54, 48, 57, 54, 48, 56, 54, 52, 56, 48, 49, 54, 53, 48, 51, 48, 52, 48, 50, 48, 50, 48, 53, 48, 48, 48, 52, 51, 48] by kernel_rfl]
  have tq3 : ((strOf [51, 48, 52, 49, 51, 48, 48, 100, 48, 54, 48, 57, 54, 48, 56, 54, 52, 56, 48, 49, 54, 53, 48, 51, 48, 52, 48, 50, 48, 50, 48, 53, 48, 48, 48, 52, 51, 48]).toList == [51, 48, 52, 49, 51, 48, 48, 100, 48, 54, 48, 57, 54, 48, 56, 54, 52, 56, 48, 49, 54, 53, 48, 51, 48, 52, 48, 50, 48, 50, 48, 53, 48, 48, 48, 52, 51, 48]) = true := by simp [strOf]
  clear hb
  go_wp2_with fail
  refine (hex_any _ 19 _ (u8s (frameH 4)) w20 (by have h1 := (HH.out.upto 19 (by decide)).reads; rw [show (frameL 4 (List.replicate 64 0)).take 19 = frameH 4 by kernel_rfl] at h1; exact h1.bts (frameH_lt (by simp [IsHash]))) (by decide)).mono ?_
  rintro e w21 ⟨rfl, hb⟩
  have HD := Lib.hid (HD.out.below hb)
  have HH := Lib.hid (HH.out.below hb)
  have HB := Lib.hid (HB.out.trans (hb.mono HB.out.size))
  rw [show hexL (u8s (frameH 4)) = [51, 48, 53, 49, 51, 48, 48, 100, 48, 54, 48, 57, 54, 48, 56, 54, 52, 56, 48, 49, 54, 53, 48, 51, 48, 52, 48, 50, 48, 51, 48, 53, 48, 48, 48, 52, 52, 48] by kernel_rfl]
  have tq4 : ((strOf [51, 48, 53, 49, 51, 48, 48, 100, 48, 54, 48, 57, 54, 48, 56, 54, 52, 56, 48, 49, 54, 53, 48, 51, 48, 52, 48, 50, 48, 51, 48, 53, 48, 48, 48, 52, 52, 48]).toList == [51, 48, 53, 49, 51, 48, 48, 100, 48, 54, 48, 57, 54, 48, 56, 54, 52, 56, 48, 49, 54, 53, 48, 51, 48, 52, 48, 50, 48, 51, 48, 53, 48, 48, 48, 52, 52, 48]) = true := by simp [strOf]
  clear hb
  go_wp2_with fail
  refine (size_no 0 (.inl (by decide)) w21).mono ?_
  rintro e w22 ⟨rfl, hb⟩
  have HD := Lib.hid (HD.out.below hb)
  have HB := Lib.hid (HB.out.trans (hb.mono HB.out.size))
  clear hb
  go_wp2_with fail
  refine (size_no (-1) (.inl (by decide)) w22).mono ?_
  rintro e w23 ⟨rfl, hb⟩
  have HD := Lib.hid (HD.out.below hb)
  have HB := Lib.hid (HB.out.trans (hb.mono HB.out.size))
  clear hb
  go_wp2_with fail
  refine (size_yes 4 (by simp [IsHash]) w23 (HK.out.below HB.out)).mono ?_
  rintro e w24 ⟨rfl, hb⟩
  have HD := Lib.hid (HD.out.below hb)
  have HB := Lib.hid (HB.out.trans (hb.mono HB.out.size))
  rw [show mSize 4 = 64 from rfl]
  clear hb
  go_wp2_with fail
  refine (name_yes 1 (by simp [IsHash]) w24 (HK.out.below HB.out)).mono ?_
  rintro e w25 ⟨rfl, hb⟩
  have HD := Lib.hid (HD.out.below hb)
  have HB := Lib.hid (HB.out.trans (hb.mono HB.out.size))
  rw [show mName 1 = [115, 104, 97, 50, 50, 52] from rfl]
  have tn : ((strOf [115, 104, 97, 50, 50, 52]).toList == [115, 104, 97, 50, 50, 52]) = true := by simp [strOf]
  clear hb
  go_wp2_with fail
  refine (named_any _ w25 (HK.out.below HB.out)).mono ?_
  rintro e w26 ⟨rfl, hb⟩
  have HD := Lib.hid (HD.out.below hb)
  have HB := Lib.hid (HB.out.trans (hb.mono HB.out.size))
  rw [show mNamed { data := #[115, 104, 97] } = 0 by kernel_rfl]
  clear hb
  go_wp2_with fail
  refine (named_any _ w26 (HK.out.below HB.out)).mono ?_
  rintro e w27 ⟨rfl, hb⟩
  have HD := Lib.hid (HD.out.below hb)
  have HB := Lib.hid (HB.out.trans (hb.mono HB.out.size))
  rw [show mNamed { data := #[] } = 0 by kernel_rfl]
  clear hb
  go_wp2_with fail
  refine (alive_m w27 (HK.out.below HB.out)).mono ?_
  rintro e w28 ⟨rfl, hb⟩
  have HD := Lib.hid (HD.out.below hb)
  have HB := Lib.hid (HB.out.trans (hb.mono HB.out.size))
  clear hb
  go_wp2
  go_ret
  exact ⟨by simp, HB.out⟩

end Go.Proofs.YtmfjhgjplmpecaaDoor
