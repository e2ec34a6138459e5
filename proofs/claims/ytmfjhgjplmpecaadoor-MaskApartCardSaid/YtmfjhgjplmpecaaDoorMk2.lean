/-
  MERGED: MkF MkG
-/
import Derived.Test.YtmfjhgjplmpecaaDoorMk1
namespace Go.Proofs.YtmfjhgjplmpecaaDoor
open Go.RowKit
set_option maxRecDepth 100000

instance (h : Nat) : Decidable (IsHash h) := by unfold IsHash; infer_instance
def rSize (h : Int) : Int := if IsHash h.toNat then (mSize h.toNat : Int) else 0
theorem rSize_yes {h : Nat} (hh : IsHash h) : rSize (h : Int) = (mSize h : Int) := by simp [rSize, hh]
theorem rSize_no {h : Int} (hh : ¬ IsHash h.toNat) : rSize h = 0 := by unfold rSize; rw [if_neg hh]
theorem isHash_int (h : Int) : (h = 1 ∨ h = 2 ∨ h = 3 ∨ h = 4) ∨ ¬ IsHash h.toNat ∧ h ≠ 1 ∧ h ≠ 2 ∧ h ≠ 3 ∧ h ≠ 4 := by
  unfold IsHash
  omega
theorem rsize_any (h : Int) (w : World) : Calls Tryd.prog 16 #[.int .i64 h] w fun e w' => e = .returned (.int .i64 (rSize h)) ∧ w = w' := by
  rcases isHash_int h with (rfl | rfl | rfl | rfl) | ⟨hn, h1, h2, h3, h4⟩
  · rw [show rSize 1 = 28 by decide]
    go_enter Tryd.func16, Tryd.ntmps16
    go_wp2
    go_ret
    exact ⟨rfl, rfl⟩
  · rw [show rSize 2 = 32 by decide]
    go_enter Tryd.func16, Tryd.ntmps16
    go_wp2
    go_ret
    exact ⟨rfl, rfl⟩
  · rw [show rSize 3 = 48 by decide]
    go_enter Tryd.func16, Tryd.ntmps16
    go_wp2
    go_ret
    exact ⟨rfl, rfl⟩
  · rw [show rSize 4 = 64 by decide]
    go_enter Tryd.func16, Tryd.ntmps16
    go_wp2
    go_ret
    exact ⟨rfl, rfl⟩
  · rw [rSize_no hn]
    have t1 : (h == 1) = false := by simpa using h1
    have t2 : (h == 2) = false := by simpa using h2
    have t3 : (h == 3) = false := by simpa using h3
    have t4 : (h == 4) = false := by simpa using h4
    clear hn h1 h2 h3 h4
    go_enter Tryd.func16, Tryd.ntmps16
    go_wp2
    go_ret
    exact ⟨rfl, rfl⟩
set_option maxHeartbeats 1000000 in
theorem rframe_yes (h : Nat) (hh : IsHash h) (a : Option Addr) (n c : Nat) (d : List Nat) (w : World) (hr : Reads .u8 w a n c d) (hn : n = mSize h) :
    Calls Tryd.prog 20 #[.int .i64 (h : Int), .slice a n c] w fun e w' => (∃ v, e = .returned (.tuple #[v, .int .i64 0]) ∧ OwnQ .u8 5 w.heap.size w' v (frameL h d)) ∧ Below w.heap.size w w' := by
  obtain ⟨i0, hi, hz0, hz1, hz2⟩ := info_parts infoMk
  have HR := Lib.hid hr
  have HDL := Lib.hid (show d.length = n from hr.length)
  have HN := Lib.hid hn
  have hs := mSize_le hh
  have hn64 : n ≤ 64 := by omega
  clear hr hn hs
  rcases hh with rfl | rfl | rfl | rfl
  · have t1 : ((n : Int) != 28) = false := by have : n = 28 := HN.out; simp; omega
    have hsz := rsize_any 1 w
    have hk0 := OwnQ.litM .u8 (w.alloc (.cells #[.int .u8 4, .int .u8 1, .int .u8 2, .int .u8 3] 5)) 5 w.heap.size (by simp) (frameH 1) #[.int .u8 48, .int .u8 45, .int .u8 48, .int .u8 13, .int .u8 6, .int .u8 9, .int .u8 96, .int .u8 134, .int .u8 72, .int .u8 1, .int .u8 101, .int .u8 3, .int .u8 4, .int .u8 2, .int .u8 4, .int .u8 5, .int .u8 0, .int .u8 4, .int .u8 28] 19 (by simp [frameH, mSize, mMark, num]) rfl (by rw [frameH_len]; decide)
    rw [World.size_alloc] at hk0
    have HK0 := Lib.hid hk0
    clear hk0 hsz
    go_enter Tryd.func20, Tryd.ntmps20
    go_wp2_with fail
    refine (rsize_any 1 w).mono ?_
    rintro e w1 ⟨rfl, rfl⟩
    rw [show rSize 1 = 28 by decide]
    go_wp2_with (at_builtin; refine wpList_append_q .u8 _ rfl _ _ 23 rfl w.heap.size 5 1 i0 Tryd.underlying23 hi hz0 hz1 hz2 (by decide) _ (frameH 1) rfl HK0.out a n c d rfl (HR.out.below (((Below.refl _ _).alloc (Nat.le_refl _) _).alloc (by simp) _)) (by rw [frameH_len]; omega) (by simp; omega) ?_; intro v2 w2 hown hgrow; have HO := Lib.hid hown; have HB2 := Lib.hid (hgrow w (((Below.refl _ _).alloc (Nat.le_refl _) _).alloc (by simp) _)); clear hown hgrow)
    go_ret2
    exact ⟨⟨_, rfl, HO.out⟩, HB2.out⟩
  · have t1 : ((n : Int) != 32) = false := by have : n = 32 := HN.out; simp; omega
    have hsz := rsize_any 1 w
    have hk0 := OwnQ.litM .u8 (w.alloc (.cells #[.int .u8 4, .int .u8 1, .int .u8 2, .int .u8 3] 5)) 5 w.heap.size (by simp) (frameH 2) #[.int .u8 48, .int .u8 49, .int .u8 48, .int .u8 13, .int .u8 6, .int .u8 9, .int .u8 96, .int .u8 134, .int .u8 72, .int .u8 1, .int .u8 101, .int .u8 3, .int .u8 4, .int .u8 2, .int .u8 1, .int .u8 5, .int .u8 0, .int .u8 4, .int .u8 32] 19 (by simp [frameH, mSize, mMark, num]) rfl (by rw [frameH_len]; decide)
    rw [World.size_alloc] at hk0
    have HK0 := Lib.hid hk0
    clear hk0 hsz
    go_enter Tryd.func20, Tryd.ntmps20
    go_wp2_with fail
    refine (rsize_any 2 w).mono ?_
    rintro e w1 ⟨rfl, rfl⟩
    rw [show rSize 2 = 32 by decide]
    go_wp2_with (at_builtin; refine wpList_append_q .u8 _ rfl _ _ 23 rfl w.heap.size 5 1 i0 Tryd.underlying23 hi hz0 hz1 hz2 (by decide) _ (frameH 2) rfl HK0.out a n c d rfl (HR.out.below (((Below.refl _ _).alloc (Nat.le_refl _) _).alloc (by simp) _)) (by rw [frameH_len]; omega) (by simp; omega) ?_; intro v2 w2 hown hgrow; have HO := Lib.hid hown; have HB2 := Lib.hid (hgrow w (((Below.refl _ _).alloc (Nat.le_refl _) _).alloc (by simp) _)); clear hown hgrow)
    go_ret2
    exact ⟨⟨_, rfl, HO.out⟩, HB2.out⟩
  · have t1 : ((n : Int) != 48) = false := by have : n = 48 := HN.out; simp; omega
    have hsz := rsize_any 1 w
    have hk0 := OwnQ.litM .u8 (w.alloc (.cells #[.int .u8 4, .int .u8 1, .int .u8 2, .int .u8 3] 5)) 5 w.heap.size (by simp) (frameH 3) #[.int .u8 48, .int .u8 65, .int .u8 48, .int .u8 13, .int .u8 6, .int .u8 9, .int .u8 96, .int .u8 134, .int .u8 72, .int .u8 1, .int .u8 101, .int .u8 3, .int .u8 4, .int .u8 2, .int .u8 2, .int .u8 5, .int .u8 0, .int .u8 4, .int .u8 48] 19 (by simp [frameH, mSize, mMark, num]) rfl (by rw [frameH_len]; decide)
    rw [World.size_alloc] at hk0
    have HK0 := Lib.hid hk0
    clear hk0 hsz
    go_enter Tryd.func20, Tryd.ntmps20
    go_wp2_with fail
    refine (rsize_any 3 w).mono ?_
    rintro e w1 ⟨rfl, rfl⟩
    rw [show rSize 3 = 48 by decide]
    go_wp2_with (at_builtin; refine wpList_append_q .u8 _ rfl _ _ 23 rfl w.heap.size 5 1 i0 Tryd.underlying23 hi hz0 hz1 hz2 (by decide) _ (frameH 3) rfl HK0.out a n c d rfl (HR.out.below (((Below.refl _ _).alloc (Nat.le_refl _) _).alloc (by simp) _)) (by rw [frameH_len]; omega) (by simp; omega) ?_; intro v2 w2 hown hgrow; have HO := Lib.hid hown; have HB2 := Lib.hid (hgrow w (((Below.refl _ _).alloc (Nat.le_refl _) _).alloc (by simp) _)); clear hown hgrow)
    go_ret2
    exact ⟨⟨_, rfl, HO.out⟩, HB2.out⟩
  · have t1 : ((n : Int) != 64) = false := by have : n = 64 := HN.out; simp; omega
    have hsz := rsize_any 1 w
    have hk0 := OwnQ.litM .u8 (w.alloc (.cells #[.int .u8 4, .int .u8 1, .int .u8 2, .int .u8 3] 5)) 5 w.heap.size (by simp) (frameH 4) #[.int .u8 48, .int .u8 81, .int .u8 48, .int .u8 13, .int .u8 6, .int .u8 9, .int .u8 96, .int .u8 134, .int .u8 72, .int .u8 1, .int .u8 101, .int .u8 3, .int .u8 4, .int .u8 2, .int .u8 3, .int .u8 5, .int .u8 0, .int .u8 4, .int .u8 64] 19 (by simp [frameH, mSize, mMark, num]) rfl (by rw [frameH_len]; decide)
    rw [World.size_alloc] at hk0
    have HK0 := Lib.hid hk0
    clear hk0 hsz
    go_enter Tryd.func20, Tryd.ntmps20
    go_wp2_with fail
    refine (rsize_any 4 w).mono ?_
    rintro e w1 ⟨rfl, rfl⟩
    rw [show rSize 4 = 64 by decide]
    go_wp2_with (at_builtin; refine wpList_append_q .u8 _ rfl _ _ 23 rfl w.heap.size 5 1 i0 Tryd.underlying23 hi hz0 hz1 hz2 (by decide) _ (frameH 4) rfl HK0.out a n c d rfl (HR.out.below (((Below.refl _ _).alloc (Nat.le_refl _) _).alloc (by simp) _)) (by rw [frameH_len]; omega) (by simp; omega) ?_; intro v2 w2 hown hgrow; have HO := Lib.hid hown; have HB2 := Lib.hid (hgrow w (((Below.refl _ _).alloc (Nat.le_refl _) _).alloc (by simp) _)); clear hown hgrow)
    go_ret2
    exact ⟨⟨_, rfl, HO.out⟩, HB2.out⟩
theorem rframe_no (h : Int) (a : Option Addr) (n c : Nat) (w : World) (hn : ∀ k : Nat, IsHash k → h = (k : Int) → n ≠ mSize k) :
    Calls Tryd.prog 20 #[.int .i64 h, .slice a n c] w fun e w' => e = .returned (.tuple #[.slice none 0 0, .int .i64 80]) ∧ w = w' := by
  by_cases hh : IsHash h.toNat
  · obtain ⟨k, rfl⟩ : ∃ k : Nat, h = (k : Int) := ⟨h.toNat, by have := isHash_lt hh; omega⟩
    have hh' : IsHash k := hh
    have hne := hn k hh' rfl
    have hs := mSize_le hh'
    have HRS := Lib.hid (rSize_yes hh')
    obtain ⟨s, hse⟩ : ∃ s, s = mSize k := ⟨_, rfl⟩
    rw [← hse] at hne hs HRS
    have t0 : ((s : Int) == 0) = false := by simp; omega
    have t1 : ((n : Int) != (s : Int)) = true := by simp; omega
    clear hn hne hs hse hh hh'
    go_enter Tryd.func20, Tryd.ntmps20
    go_wp2_with fail
    refine (rsize_any k w).mono ?_
    rintro e w1 ⟨rfl, rfl⟩
    rw [HRS.out]
    go_wp2
    go_ret2
    exact ⟨rfl, rfl⟩
  · have HRS := Lib.hid (rSize_no hh)
    clear hn hh
    go_enter Tryd.func20, Tryd.ntmps20
    go_wp2_with fail
    refine (rsize_any h w).mono ?_
    rintro e w1 ⟨rfl, rfl⟩
    rw [HRS.out]
    go_wp2
    go_ret2
    exact ⟨rfl, rfl⟩
theorem rframe_any (h : Int) (a : Option Addr) (n c : Nat) (d : List Nat) (w : World) (hr : Reads .u8 w a n c d) :
    Calls Tryd.prog 20 #[.int .i64 h, .slice a n c] w fun e w' => (∃ v, e = .returned (.tuple #[v, .int .i64 (frameR h d).2]) ∧ OwnQ .u8 5 w.heap.size w' v (frameR h d).1) ∧ Below w.heap.size w w' := by
  have hl := hr.length
  by_cases hf : FrameOk h n
  · have e : frameR h d = (frameL h.toNat d, 0) := by unfold frameR; rw [if_pos (by rw [hl]; exact hf)]
    rw [e]
    obtain ⟨k, rfl, h1, h2⟩ := frameOk_nat hf
    exact rframe_yes k h1 a n c d w hr h2
  · have e : frameR h d = ([], 80) := by unfold frameR; rw [if_neg (by rw [hl]; exact hf)]
    rw [e]
    exact (rframe_no h a n c w (frameOk_no hf)).mono fun _ _ ⟨h1, h2⟩ => ⟨⟨_, h1, OwnQ.nil _ _ _ _⟩, h2 ▸ Below.refl _ _⟩

end Go.Proofs.YtmfjhgjplmpecaaDoor

namespace Go.Proofs.YtmfjhgjplmpecaaDoor
open Go.RowKit
set_option maxRecDepth 100000

set_option maxHeartbeats 2000000 in
theorem rencode_yes (h : Nat) (hh : IsHash h) (a : Option Addr) (n c : Nat) (d : List Nat) (size : Nat) (w : World) (hr : Reads .u8 w a n c d) (hn : n = mSize h) (hlo : n + 30 ≤ size) (hhi : size ≤ 65536) :
    Calls Tryd.prog 22 #[.int .i64 (h : Int), .slice a n c, .int .i64 (size : Int)] w fun e w' => (∃ v, e = .returned (.tuple #[v, .int .i64 0]) ∧ OwnQ .u8 5 w.heap.size w' v (encL h d size)) ∧ Below w.heap.size w w' := by
  obtain ⟨i0, hi, hz0, hz1, hz2⟩ := info_parts infoMk
  have hs := mSize_le hh
  have hn64 : n ≤ 64 := by omega
  obtain ⟨P, hP⟩ : ∃ P, P = size - (19 + n) - 3 := ⟨_, rfl⟩
  have HE := Lib.hid (show encL h d size = mEncP h P d by rw [hP, hn]; rfl)
  have hPs : size = 19 + n + 3 + P := by omega
  have HDL := Lib.hid (show d.length = n from hr.length)
  have HR := Lib.hid hr
  have HN := Lib.hid hn
  clear hr hn hP hs
  subst hPs
  have hP2 : P ≤ 65536 := by omega
  have t1 : decide (((19 + n + 3 + P : Nat) : Int) < ((19 + n : Nat) : Int) + 11) = false := by simp; omega
  have t2 : decide ((65536 : Int) < ((19 + n + 3 + P : Nat) : Int)) = false := by simp; omega
  obtain ⟨size, hsize⟩ : ∃ size, size = 19 + n + 3 + P := ⟨_, rfl⟩
  obtain ⟨f, hf⟩ : ∃ f, f = 19 + n := ⟨_, rfl⟩
  rw [← hsize] at t1 t2 hlo hhi ⊢
  rw [← hf] at t1
  have hsub : (size : Int) - (f : Int) - 1 = ((2 + P : Nat) : Int) := by omega
  have HSZ := Lib.hid hsize
  have HFF := Lib.hid hf
  have hfb : f ≤ 83 := by omega
  clear hsize hf
  go_enter Tryd.func22, Tryd.ntmps22
  go_wp2_with fail
  refine (rframe_yes h hh a n c d w HR.out HN.out).mono ?_
  rintro e w1 ⟨⟨v, rfl, ho⟩, h1⟩
  obtain ⟨fa, fn, fc, rfl, hfn, ho⟩ := own_slM ho
  rw [frameL, List.length_append, frameH_len, HDL.out, ← HFF.out] at hfn
  subst hfn
  have HF := Lib.hid ho
  have HB1 := Lib.hid h1
  have hz1w : w.heap.size ≤ w1.heap.size := h1.size
  clear ho h1
  have hk0 := OwnQ.litM .u8 w1 5 w1.heap.size (Nat.le_refl _) [0, 1] #[.int .u8 0, .int .u8 1] 2 (by simp [num]) rfl (by decide)
  have HO4 := Lib.hid hk0
  have HB3 := Lib.hid ((Below.refl w1.heap.size w1).alloc (Nat.le_refl _) (.cells #[.int .u8 0, .int .u8 1] 5))
  clear hk0
  go_wp2_with fail
  go_loopw [10] (fun sv wq => ∃ (j m c' : Nat) (a' : Option Addr), sv = .slice a' m c' ∧ m ≤ 70000 ∧ j ≤ P ∧ Hid (m = 2 + j ∧ OwnQ .u8 5 w1.heap.size wq (.slice a' m c') ([0, 1] ++ List.replicate j 255) ∧ Below w1.heap.size w1 wq)) (fun sv _ => 2 + P - lenM sv)
  case atStart => exact ⟨0, 2, 2, some ⟨w1.heap.size, 0, none⟩, rfl, by omega, Nat.zero_le _, rfl, by rw [List.replicate_zero, List.append_nil]; exact HO4.out, HB3.out⟩
  case round =>
    obtain ⟨j, m, c', a', rfl, hm, hj, hI⟩ := hrel
    have hszr := hI.out.2.2.size
    by_cases hlt : j < P
    · have tl : decide ((m : Int) < 2 + (P : Int)) = true := by have := hI.out.1; simp; omega
      go_wp2_with (at_builtin; (refine wpList_append_q .u8 _ rfl _ _ 23 rfl w1.heap.size 5 1 i0 Tryd.underlying23 hi hz0 hz1 hz2 (by decide) _ ([0, 1] ++ List.replicate j 255) rfl (hI.out.2.1.alloc _) _ 1 1 ([255]) rfl (Reads.one .u8 _ _ _ _ rfl) (by simp; omega) (by have := hI.out.2.2.size; simp; omega) ?_; intro v5 w5 hown hgrow; obtain ⟨a5, n5, c5, rfl, hn5, ho5⟩ := own_slM hown; have HO5 := Lib.hid ho5; have HN5 := Lib.hid hn5; have HB5 := Lib.hid (hgrow w1 (hI.out.2.2.alloc hI.out.2.2.size _)); clear hown hgrow hn5 ho5))
      have hn6 : n5 = 2 + (j + 1) := by rw [HN5.out]; simp; omega
      go_roundw
      case rel => exact ⟨j + 1, n5, c5, a5, rfl, by omega, by omega, hn6, by
        have h := HO5.out
        rw [List.append_assoc, ← List.replicate_succ'] at h
        exact h, HB5.out⟩
      case measure =>
        have h1 := hI.out.1
        simp [lenM]
        omega
    · obtain rfl : j = P := by omega
      have tl : decide ((m : Int) < 2 + (j : Int)) = false := by have := hI.out.1; simp; omega
      have HI := Lib.hid hI.out
      have HFR := Lib.hid (HF.out.below hI.out.2.2)
      have hmj := hI.out.1
      clear hI
      go_wp2_with (at_builtin; first
        | (refine wpList_append_q .u8 _ rfl _ _ 23 rfl w1.heap.size 5 1 i0 Tryd.underlying23 hi hz0 hz1 hz2 (by decide) _ ([0, 1] ++ List.replicate j 255) rfl (HI.out.2.1.alloc _) _ 1 1 ([0]) rfl (Reads.one .u8 _ _ _ _ rfl) (by simp; omega) (by have := HI.out.2.2.size; simp; omega) ?_; intro v6 w6 hown hgrow; have HO6 := Lib.hid hown; have HB6 := Lib.hid (hgrow w1 (HI.out.2.2.alloc HI.out.2.2.size _)); clear hown hgrow)
        | (refine wpList_append_q .u8 _ rfl _ _ 23 rfl w1.heap.size 5 1 i0 Tryd.underlying23 hi hz0 hz1 hz2 (by decide) _ ([0, 1] ++ List.replicate j 255 ++ [0]) rfl (HO6.out) fa fn fc (frameL h d) rfl ((HF.out.below HB6.out).reads) (by simp; omega) (HB6.out.size) ?_; intro v7 w7 hown hgrow; have HO7 := Lib.hid hown; have HB7 := Lib.hid (hgrow w1 HB6.out); clear hown hgrow))
      go_ret2
      exact ⟨⟨_, rfl, by have := HO7.out.mono hz1w; rw [HSZ.out, HE.out]; exact this⟩, HB1.out.trans (HB7.out.mono hz1w)⟩

theorem rencode_noFrame (h : Int) (a : Option Addr) (n c : Nat) (size : Int) (w : World) (hn : ∀ k : Nat, IsHash k → h = (k : Int) → n ≠ mSize k) :
    Calls Tryd.prog 22 #[.int .i64 h, .slice a n c, .int .i64 size] w fun e w' => e = .returned (.tuple #[.slice none 0 0, .int .i64 80]) ∧ Below w.heap.size w w' := by
  go_enter Tryd.func22, Tryd.ntmps22
  go_wp2_with fail
  refine (rframe_no h a n c w hn).mono ?_
  rintro e w1 ⟨rfl, rfl⟩
  clear hn
  go_wp2
  go_ret2
  exact ⟨rfl, Below.refl _ _⟩
theorem rencode_noSize (h : Nat) (hh : IsHash h) (a : Option Addr) (n c : Nat) (d : List Nat) (size : Int) (w : World) (hr : Reads .u8 w a n c d) (hn : n = mSize h) (hs : size < n + 30 ∨ 65536 < size) :
    Calls Tryd.prog 22 #[.int .i64 (h : Int), .slice a n c, .int .i64 size] w fun e w' => e = .returned (.tuple #[.slice none 0 0, .int .i64 2]) ∧ Below w.heap.size w w' := by
  have HDL := Lib.hid (show d.length = n from hr.length)
  have hsz := mSize_le hh
  have hn64 : n ≤ 64 := by omega
  have HR := Lib.hid hr
  have HN := Lib.hid hn
  obtain ⟨f, hf⟩ : ∃ f, f = 19 + n := ⟨_, rfl⟩
  have hfb : f ≤ 83 := by omega
  have HFF := Lib.hid hf
  have hs2 : size < (f : Int) + 11 ∨ ¬ size < (f : Int) + 11 ∧ 65536 < size := by omega
  clear hr hn hf hsz hs
  rcases hs2 with h2 | ⟨h2, h3⟩
  · have t1 : decide (size < (f : Int) + 11) = true := by simpa using h2
    clear h2
    go_enter Tryd.func22, Tryd.ntmps22
    go_wp2_with fail
    refine (rframe_yes h hh a n c d w HR.out HN.out).mono ?_
    rintro e w1 ⟨⟨v, rfl, ho⟩, h1⟩
    obtain ⟨fa, fn, fc, rfl, hfn, ho⟩ := own_slM ho
    rw [frameL, List.length_append, frameH_len, HDL.out, ← HFF.out] at hfn
    subst hfn
    have HB1 := Lib.hid h1
    clear ho h1
    go_wp2
    go_ret2
    exact ⟨rfl, HB1.out⟩
  · have t1 : decide (size < (f : Int) + 11) = false := by simpa using h2
    have t2 : decide (65536 < size) = true := by simpa using h3
    clear h2 h3
    go_enter Tryd.func22, Tryd.ntmps22
    go_wp2_with fail
    refine (rframe_yes h hh a n c d w HR.out HN.out).mono ?_
    rintro e w1 ⟨⟨v, rfl, ho⟩, h1⟩
    obtain ⟨fa, fn, fc, rfl, hfn, ho⟩ := own_slM ho
    rw [frameL, List.length_append, frameH_len, HDL.out, ← HFF.out] at hfn
    subst hfn
    have HB1 := Lib.hid h1
    clear ho h1
    go_wp2
    go_ret2
    exact ⟨rfl, HB1.out⟩

theorem rencode_any (h : Int) (a : Option Addr) (n c : Nat) (d : List Nat) (size : Int) (w : World) (hr : Reads .u8 w a n c d) :
    Calls Tryd.prog 22 #[.int .i64 h, .slice a n c, .int .i64 size] w fun e w' => (∃ v, e = .returned (.tuple #[v, .int .i64 (encR h d size).2]) ∧ OwnQ .u8 5 w.heap.size w' v (encR h d size).1) ∧ Below w.heap.size w w' := by
  have hl := hr.length
  by_cases hf : FrameOk h n
  · by_cases hs : size < n + 30 ∨ 65536 < size
    · have e : encR h d size = ([], 2) := by unfold encR; rw [if_pos (by rw [hl]; exact hf), if_pos (by rw [hl]; exact hs)]
      rw [e]
      obtain ⟨k, rfl, h1, h2⟩ := frameOk_nat hf
      exact (rencode_noSize k h1 a n c d size w hr h2 hs).mono fun _ _ ⟨h1, h2⟩ => ⟨⟨_, h1, OwnQ.nil _ _ _ _⟩, h2⟩
    · have e : encR h d size = (encL h.toNat d size.toNat, 0) := by unfold encR; rw [if_pos (by rw [hl]; exact hf), if_neg (by rw [hl]; exact hs)]
      rw [e]
      obtain ⟨k, rfl, h1, h2⟩ := frameOk_nat hf
      obtain ⟨z, rfl⟩ : ∃ z : Nat, size = (z : Int) := ⟨size.toNat, by omega⟩
      exact rencode_yes k h1 a n c d z w hr h2 (by omega) (by omega)
  · have e : encR h d size = ([], 80) := by unfold encR; rw [if_neg (by rw [hl]; exact hf)]
    rw [e]
    exact (rencode_noFrame h a n c size w (frameOk_no hf)).mono fun _ _ ⟨h1, h2⟩ => ⟨⟨_, h1, OwnQ.nil _ _ _ _⟩, h2⟩

end Go.Proofs.YtmfjhgjplmpecaaDoor
