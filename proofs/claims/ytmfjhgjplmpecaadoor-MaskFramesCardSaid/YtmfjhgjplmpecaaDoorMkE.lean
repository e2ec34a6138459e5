/-
  Layer 8: frames and encodings, whatever is handed in.
-/
import Derived.Test.YtmfjhgjplmpecaaDoorMkD
namespace Go.Proofs.YtmfjhgjplmpecaaDoor
open Go.RowKit
set_option maxRecDepth 100000

theorem encode_noFrame (h : Int) (a : Option Addr) (n c : Nat) (size : Int) (w : World) (hk : Kinds w) (hn : ∀ k : Nat, IsHash k → h = (k : Int) → n ≠ mSize k) :
    Calls Tryd.prog 21 #[.int .i64 h, .slice a n c, .int .i64 size] w fun e w' => e = .returned (.tuple #[.slice none 0 0, .int .i64 80]) ∧ Below w.heap.size w w' := by
  go_enter Tryd.func21, Tryd.ntmps21
  go_wp2_with fail
  refine (frame_no h a n c w hk hn).mono ?_
  rintro e w1 ⟨rfl, h1⟩
  have H1 := Lib.hid h1
  clear h1 hn
  go_wp2
  go_ret2
  exact ⟨rfl, H1.out⟩
theorem encode_noSize (h : Nat) (hh : IsHash h) (a : Option Addr) (n c : Nat) (d : List Nat) (size : Int) (w : World) (hk : Kinds w) (hr : Reads .u8 w a n c d) (hn : n = mSize h) (hs : size < n + 30 ∨ 65536 < size) :
    Calls Tryd.prog 21 #[.int .i64 (h : Int), .slice a n c, .int .i64 size] w fun e w' => e = .returned (.tuple #[.slice none 0 0, .int .i64 2]) ∧ Below w.heap.size w w' := by
  have HDL := Lib.hid (show d.length = n from hr.length)
  have hsz := mSize_le hh
  have hn64 : n ≤ 64 := by omega
  have HR := Lib.hid hr
  have HN := Lib.hid hn
  obtain ⟨f, hf⟩ : ∃ f, f = 19 + n := ⟨_, rfl⟩
  have hfb : f ≤ 83 := by omega
  have HFF := Lib.hid hf
  have hs2 : size < (f : Int) + 11 ∨ ¬ size < (f : Int) + 11 ∧ 65536 < size := by omega
  clear hr hn hf hsz hs
  rcases hs2 with h2 | ⟨h2, h3⟩
  · have t1 : decide (size < (f : Int) + 11) = true := by simpa using h2
    clear h2
    go_enter Tryd.func21, Tryd.ntmps21
    go_wp2_with fail
    refine (frame_yes h hh a n c d w hk HR.out HN.out).mono ?_
    rintro e w1 ⟨⟨v, rfl, ho⟩, h1⟩
    obtain ⟨fa, fn, fc, rfl, hfn, ho⟩ := own_slM ho
    rw [frameL, List.length_append, frameH_len, HDL.out, ← HFF.out] at hfn
    subst hfn
    have HB1 := Lib.hid h1
    clear ho h1 hk
    go_wp2
    go_ret2
    exact ⟨rfl, HB1.out⟩
  · have t1 : decide (size < (f : Int) + 11) = false := by simpa using h2
    have t2 : decide (65536 < size) = true := by simpa using h3
    clear h2 h3
    go_enter Tryd.func21, Tryd.ntmps21
    go_wp2_with fail
    refine (frame_yes h hh a n c d w hk HR.out HN.out).mono ?_
    rintro e w1 ⟨⟨v, rfl, ho⟩, h1⟩
    obtain ⟨fa, fn, fc, rfl, hfn, ho⟩ := own_slM ho
    rw [frameL, List.length_append, frameH_len, HDL.out, ← HFF.out] at hfn
    subst hfn
    have HB1 := Lib.hid h1
    clear ho h1 hk
    go_wp2
    go_ret2
    exact ⟨rfl, HB1.out⟩

/-- What Frame and Encode answer. -/
def FrameOk (h : Int) (n : Nat) : Prop := IsHash h.toNat ∧ n = mSize h.toNat
instance (h : Int) (n : Nat) : Decidable (FrameOk h n) := by unfold FrameOk IsHash; infer_instance
def frameR (h : Int) (d : List Nat) : List Nat × Int := if FrameOk h d.length then (frameL h.toNat d, 0) else ([], 80)
def encR (h : Int) (d : List Nat) (size : Int) : List Nat × Int := if FrameOk h d.length then (if size < d.length + 30 ∨ 65536 < size then ([], 2) else (encL h.toNat d size.toNat, 0)) else ([], 80)
theorem frameOk_nat {h : Int} {n : Nat} (hf : FrameOk h n) : ∃ k : Nat, h = (k : Int) ∧ IsHash k ∧ n = mSize k := by
  obtain ⟨h1, h2⟩ := hf
  refine ⟨h.toNat, ?_, h1, h2⟩
  have := isHash_lt h1
  omega
theorem frameOk_no {h : Int} {n : Nat} (hf : ¬ FrameOk h n) : ∀ k : Nat, IsHash k → h = (k : Int) → n ≠ mSize k := fun k hk e hn => by
  subst e
  exact hf ⟨hk, hn⟩
theorem frame_any (h : Int) (a : Option Addr) (n c : Nat) (d : List Nat) (w : World) (hk : Kinds w) (hr : Reads .u8 w a n c d) :
    Calls Tryd.prog 19 #[.int .i64 h, .slice a n c] w fun e w' => (∃ v, e = .returned (.tuple #[v, .int .i64 (frameR h d).2]) ∧ OwnQ .u8 5 w.heap.size w' v (frameR h d).1) ∧ Below w.heap.size w w' := by
  have hl := hr.length
  by_cases hf : FrameOk h n
  · have e : frameR h d = (frameL h.toNat d, 0) := by unfold frameR; rw [if_pos (by rw [hl]; exact hf)]
    rw [e]
    obtain ⟨k, rfl, h1, h2⟩ := frameOk_nat hf
    exact frame_yes k h1 a n c d w hk hr h2
  · have e : frameR h d = ([], 80) := by unfold frameR; rw [if_neg (by rw [hl]; exact hf)]
    rw [e]
    exact (frame_no h a n c w hk (frameOk_no hf)).mono fun _ _ ⟨h1, h2⟩ => ⟨⟨_, h1, OwnQ.nil _ _ _ _⟩, h2⟩
theorem encode_any (h : Int) (a : Option Addr) (n c : Nat) (d : List Nat) (size : Int) (w : World) (hk : Kinds w) (hr : Reads .u8 w a n c d) :
    Calls Tryd.prog 21 #[.int .i64 h, .slice a n c, .int .i64 size] w fun e w' => (∃ v, e = .returned (.tuple #[v, .int .i64 (encR h d size).2]) ∧ OwnQ .u8 5 w.heap.size w' v (encR h d size).1) ∧ Below w.heap.size w w' := by
  have hl := hr.length
  by_cases hf : FrameOk h n
  · by_cases hs : size < n + 30 ∨ 65536 < size
    · have e : encR h d size = ([], 2) := by unfold encR; rw [if_pos (by rw [hl]; exact hf), if_pos (by rw [hl]; exact hs)]
      rw [e]
      obtain ⟨k, rfl, h1, h2⟩ := frameOk_nat hf
      exact (encode_noSize k h1 a n c d size w hk hr h2 hs).mono fun _ _ ⟨h1, h2⟩ => ⟨⟨_, h1, OwnQ.nil _ _ _ _⟩, h2⟩
    · have e : encR h d size = (encL h.toNat d size.toNat, 0) := by unfold encR; rw [if_pos (by rw [hl]; exact hf), if_neg (by rw [hl]; exact hs)]
      rw [e]
      obtain ⟨k, rfl, h1, h2⟩ := frameOk_nat hf
      obtain ⟨z, rfl⟩ : ∃ z : Nat, size = (z : Int) := ⟨size.toNat, by omega⟩
      exact encode_yes k h1 a n c d z w hk hr h2 (by omega) (by omega)
  · have e : encR h d size = ([], 80) := by unfold encR; rw [if_neg (by rw [hl]; exact hf)]
    rw [e]
    exact (encode_noFrame h a n c size w hk (frameOk_no hf)).mono fun _ _ ⟨h1, h2⟩ => ⟨⟨_, h1, OwnQ.nil _ _ _ _⟩, h2⟩

end Go.Proofs.YtmfjhgjplmpecaaDoor
