/-
  Layer 8: the reference's Size, Frame, Encode. (Written by wip/gen_mkF.py.)
-/
import Derived.Test.YtmfjhgjplmpecaaDoorMkE
namespace Go.Proofs.YtmfjhgjplmpecaaDoor
open Go.RowKit
set_option maxRecDepth 100000

instance (h : Nat) : Decidable (IsHash h) := by unfold IsHash; infer_instance
def rSize (h : Int) : Int := if IsHash h.toNat then (mSize h.toNat : Int) else 0
theorem rSize_yes {h : Nat} (hh : IsHash h) : rSize (h : Int) = (mSize h : Int) := by simp [rSize, hh]
theorem rSize_no {h : Int} (hh : ¬ IsHash h.toNat) : rSize h = 0 := by unfold rSize; rw [if_neg hh]
theorem isHash_int (h : Int) : (h = 1 ∨ h = 2 ∨ h = 3 ∨ h = 4) ∨ ¬ IsHash h.toNat ∧ h ≠ 1 ∧ h ≠ 2 ∧ h ≠ 3 ∧ h ≠ 4 := by
  unfold IsHash
  omega
theorem rsize_any (h : Int) (w : World) : Calls Tryd.prog 16 #[.int .i64 h] w fun e w' => e = .returned (.int .i64 (rSize h)) ∧ w = w' := by
  rcases isHash_int h with (rfl | rfl | rfl | rfl) | ⟨hn, h1, h2, h3, h4⟩
  · rw [show rSize 1 = 28 by decide]
    go_enter Tryd.func16, Tryd.ntmps16
    go_wp2
    go_ret
    exact ⟨rfl, rfl⟩
  · rw [show rSize 2 = 32 by decide]
    go_enter Tryd.func16, Tryd.ntmps16
    go_wp2
    go_ret
    exact ⟨rfl, rfl⟩
  · rw [show rSize 3 = 48 by decide]
    go_enter Tryd.func16, Tryd.ntmps16
    go_wp2
    go_ret
    exact ⟨rfl, rfl⟩
  · rw [show rSize 4 = 64 by decide]
    go_enter Tryd.func16, Tryd.ntmps16
    go_wp2
    go_ret
    exact ⟨rfl, rfl⟩
  · rw [rSize_no hn]
    have t1 : (h == 1) = false := by simpa using h1
    have t2 : (h == 2) = false := by simpa using h2
    have t3 : (h == 3) = false := by simpa using h3
    have t4 : (h == 4) = false := by simpa using h4
    clear hn h1 h2 h3 h4
    go_enter Tryd.func16, Tryd.ntmps16
    go_wp2
    go_ret
    exact ⟨rfl, rfl⟩
set_option maxHeartbeats 1000000 in
theorem rframe_yes (h : Nat) (hh : IsHash h) (a : Option Addr) (n c : Nat) (d : List Nat) (w : World) (hr : Reads .u8 w a n c d) (hn : n = mSize h) :
    Calls Tryd.prog 20 #[.int .i64 (h : Int), .slice a n c] w fun e w' => (∃ v, e = .returned (.tuple #[v, .int .i64 0]) ∧ OwnQ .u8 5 w.heap.size w' v (frameL h d)) ∧ Below w.heap.size w w' := by
  obtain ⟨i0, hi, hz0, hz1, hz2⟩ := info_parts infoMk
  have HR := Lib.hid hr
  have HDL := Lib.hid (show d.length = n from hr.length)
  have HN := Lib.hid hn
  have hs := mSize_le hh
  have hn64 : n ≤ 64 := by omega
  clear hr hn hs
  rcases hh with rfl | rfl | rfl | rfl
  · have t1 : ((n : Int) != 28) = false := by have : n = 28 := HN.out; simp; omega
    have hsz := rsize_any 1 w
    have hk0 := OwnQ.litM .u8 (w.alloc (.cells #[.int .u8 4, .int .u8 1, .int .u8 2, .int .u8 3] 5)) 5 w.heap.size (by simp) (frameH 1) #[.int .u8 48, .int .u8 45, .int .u8 48, .int .u8 13, .int .u8 6, .int .u8 9, .int .u8 96, .int .u8 134, .int .u8 72, .int .u8 1, .int .u8 101, .int .u8 3, .int .u8 4, .int .u8 2, .int .u8 4, .int .u8 5, .int .u8 0, .int .u8 4, .int .u8 28] 19 (by simp [frameH, mSize, mMark, num]) rfl (by rw [frameH_len]; decide)
    rw [World.size_alloc] at hk0
    have HK0 := Lib.hid hk0
    clear hk0 hsz
    go_enter Tryd.func20, Tryd.ntmps20
    go_wp2_with fail
    refine (rsize_any 1 w).mono ?_
    rintro e w1 ⟨rfl, rfl⟩
    rw [show rSize 1 = 28 by decide]
    go_wp2_with (at_builtin; refine wpList_append_q .u8 _ rfl _ _ 23 rfl w.heap.size 5 1 i0 Tryd.underlying23 hi hz0 hz1 hz2 (by decide) _ (frameH 1) rfl HK0.out a n c d rfl (HR.out.below (((Below.refl _ _).alloc (Nat.le_refl _) _).alloc (by simp) _)) (by rw [frameH_len]; omega) (by simp; omega) ?_; intro v2 w2 hown hgrow; have HO := Lib.hid hown; have HB2 := Lib.hid (hgrow w (((Below.refl _ _).alloc (Nat.le_refl _) _).alloc (by simp) _)); clear hown hgrow)
    go_ret2
    exact ⟨⟨_, rfl, HO.out⟩, HB2.out⟩
  · have t1 : ((n : Int) != 32) = false := by have : n = 32 := HN.out; simp; omega
    have hsz := rsize_any 1 w
    have hk0 := OwnQ.litM .u8 (w.alloc (.cells #[.int .u8 4, .int .u8 1, .int .u8 2, .int .u8 3] 5)) 5 w.heap.size (by simp) (frameH 2) #[.int .u8 48, .int .u8 49, .int .u8 48, .int .u8 13, .int .u8 6, .int .u8 9, .int .u8 96, .int .u8 134, .int .u8 72, .int .u8 1, .int .u8 101, .int .u8 3, .int .u8 4, .int .u8 2, .int .u8 1, .int .u8 5, .int .u8 0, .int .u8 4, .int .u8 32] 19 (by simp [frameH, mSize, mMark, num]) rfl (by rw [frameH_len]; decide)
    rw [World.size_alloc] at hk0
    have HK0 := Lib.hid hk0
    clear hk0 hsz
    go_enter Tryd.func20, Tryd.ntmps20
    go_wp2_with fail
    refine (rsize_any 2 w).mono ?_
    rintro e w1 ⟨rfl, rfl⟩
    rw [show rSize 2 = 32 by decide]
    go_wp2_with (at_builtin; refine wpList_append_q .u8 _ rfl _ _ 23 rfl w.heap.size 5 1 i0 Tryd.underlying23 hi hz0 hz1 hz2 (by decide) _ (frameH 2) rfl HK0.out a n c d rfl (HR.out.below (((Below.refl _ _).alloc (Nat.le_refl _) _).alloc (by simp) _)) (by rw [frameH_len]; omega) (by simp; omega) ?_; intro v2 w2 hown hgrow; have HO := Lib.hid hown; have HB2 := Lib.hid (hgrow w (((Below.refl _ _).alloc (Nat.le_refl _) _).alloc (by simp) _)); clear hown hgrow)
    go_ret2
    exact ⟨⟨_, rfl, HO.out⟩, HB2.out⟩
  · have t1 : ((n : Int) != 48) = false := by have : n = 48 := HN.out; simp; omega
    have hsz := rsize_any 1 w
    have hk0 := OwnQ.litM .u8 (w.alloc (.cells #[.int .u8 4, .int .u8 1, .int .u8 2, .int .u8 3] 5)) 5 w.heap.size (by simp) (frameH 3) #[.int .u8 48, .int .u8 65, .int .u8 48, .int .u8 13, .int .u8 6, .int .u8 9, .int .u8 96, .int .u8 134, .int .u8 72, .int .u8 1, .int .u8 101, .int .u8 3, .int .u8 4, .int .u8 2, .int .u8 2, .int .u8 5, .int .u8 0, .int .u8 4, .int .u8 48] 19 (by simp [frameH, mSize, mMark, num]) rfl (by rw [frameH_len]; decide)
    rw [World.size_alloc] at hk0
    have HK0 := Lib.hid hk0
    clear hk0 hsz
    go_enter Tryd.func20, Tryd.ntmps20
    go_wp2_with fail
    refine (rsize_any 3 w).mono ?_
    rintro e w1 ⟨rfl, rfl⟩
    rw [show rSize 3 = 48 by decide]
    go_wp2_with (at_builtin; refine wpList_append_q .u8 _ rfl _ _ 23 rfl w.heap.size 5 1 i0 Tryd.underlying23 hi hz0 hz1 hz2 (by decide) _ (frameH 3) rfl HK0.out a n c d rfl (HR.out.below (((Below.refl _ _).alloc (Nat.le_refl _) _).alloc (by simp) _)) (by rw [frameH_len]; omega) (by simp; omega) ?_; intro v2 w2 hown hgrow; have HO := Lib.hid hown; have HB2 := Lib.hid (hgrow w (((Below.refl _ _).alloc (Nat.le_refl _) _).alloc (by simp) _)); clear hown hgrow)
    go_ret2
    exact ⟨⟨_, rfl, HO.out⟩, HB2.out⟩
  · have t1 : ((n : Int) != 64) = false := by have : n = 64 := HN.out; simp; omega
    have hsz := rsize_any 1 w
    have hk0 := OwnQ.litM .u8 (w.alloc (.cells #[.int .u8 4, .int .u8 1, .int .u8 2, .int .u8 3] 5)) 5 w.heap.size (by simp) (frameH 4) #[.int .u8 48, .int .u8 81, .int .u8 48, .int .u8 13, .int .u8 6, .int .u8 9, .int .u8 96, .int .u8 134, .int .u8 72, .int .u8 1, .int .u8 101, .int .u8 3, .int .u8 4, .int .u8 2, .int .u8 3, .int .u8 5, .int .u8 0, .int .u8 4, .int .u8 64] 19 (by simp [frameH, mSize, mMark, num]) rfl (by rw [frameH_len]; decide)
    rw [World.size_alloc] at hk0
    have HK0 := Lib.hid hk0
    clear hk0 hsz
    go_enter Tryd.func20, Tryd.ntmps20
    go_wp2_with fail
    refine (rsize_any 4 w).mono ?_
    rintro e w1 ⟨rfl, rfl⟩
    rw [show rSize 4 = 64 by decide]
    go_wp2_with (at_builtin; refine wpList_append_q .u8 _ rfl _ _ 23 rfl w.heap.size 5 1 i0 Tryd.underlying23 hi hz0 hz1 hz2 (by decide) _ (frameH 4) rfl HK0.out a n c d rfl (HR.out.below (((Below.refl _ _).alloc (Nat.le_refl _) _).alloc (by simp) _)) (by rw [frameH_len]; omega) (by simp; omega) ?_; intro v2 w2 hown hgrow; have HO := Lib.hid hown; have HB2 := Lib.hid (hgrow w (((Below.refl _ _).alloc (Nat.le_refl _) _).alloc (by simp) _)); clear hown hgrow)
    go_ret2
    exact ⟨⟨_, rfl, HO.out⟩, HB2.out⟩
theorem rframe_no (h : Int) (a : Option Addr) (n c : Nat) (w : World) (hn : ∀ k : Nat, IsHash k → h = (k : Int) → n ≠ mSize k) :
    Calls Tryd.prog 20 #[.int .i64 h, .slice a n c] w fun e w' => e = .returned (.tuple #[.slice none 0 0, .int .i64 80]) ∧ w = w' := by
  by_cases hh : IsHash h.toNat
  · obtain ⟨k, rfl⟩ : ∃ k : Nat, h = (k : Int) := ⟨h.toNat, by have := isHash_lt hh; omega⟩
    have hh' : IsHash k := hh
    have hne := hn k hh' rfl
    have hs := mSize_le hh'
    have HRS := Lib.hid (rSize_yes hh')
    obtain ⟨s, hse⟩ : ∃ s, s = mSize k := ⟨_, rfl⟩
    rw [← hse] at hne hs HRS
    have t0 : ((s : Int) == 0) = false := by simp; omega
    have t1 : ((n : Int) != (s : Int)) = true := by simp; omega
    clear hn hne hs hse hh hh'
    go_enter Tryd.func20, Tryd.ntmps20
    go_wp2_with fail
    refine (rsize_any k w).mono ?_
    rintro e w1 ⟨rfl, rfl⟩
    rw [HRS.out]
    go_wp2
    go_ret2
    exact ⟨rfl, rfl⟩
  · have HRS := Lib.hid (rSize_no hh)
    clear hn hh
    go_enter Tryd.func20, Tryd.ntmps20
    go_wp2_with fail
    refine (rsize_any h w).mono ?_
    rintro e w1 ⟨rfl, rfl⟩
    rw [HRS.out]
    go_wp2
    go_ret2
    exact ⟨rfl, rfl⟩
theorem rframe_any (h : Int) (a : Option Addr) (n c : Nat) (d : List Nat) (w : World) (hr : Reads .u8 w a n c d) :
    Calls Tryd.prog 20 #[.int .i64 h, .slice a n c] w fun e w' => (∃ v, e = .returned (.tuple #[v, .int .i64 (frameR h d).2]) ∧ OwnQ .u8 5 w.heap.size w' v (frameR h d).1) ∧ Below w.heap.size w w' := by
  have hl := hr.length
  by_cases hf : FrameOk h n
  · have e : frameR h d = (frameL h.toNat d, 0) := by unfold frameR; rw [if_pos (by rw [hl]; exact hf)]
    rw [e]
    obtain ⟨k, rfl, h1, h2⟩ := frameOk_nat hf
    exact rframe_yes k h1 a n c d w hr h2
  · have e : frameR h d = ([], 80) := by unfold frameR; rw [if_neg (by rw [hl]; exact hf)]
    rw [e]
    exact (rframe_no h a n c w (frameOk_no hf)).mono fun _ _ ⟨h1, h2⟩ => ⟨⟨_, h1, OwnQ.nil _ _ _ _⟩, h2 ▸ Below.refl _ _⟩

end Go.Proofs.YtmfjhgjplmpecaaDoor
