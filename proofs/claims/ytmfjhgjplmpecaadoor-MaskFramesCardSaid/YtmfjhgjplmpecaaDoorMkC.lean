/-
  Layer 8: frames.
-/
import Derived.Test.YtmfjhgjplmpecaaDoorMkB
import Derived.OwnWalk
namespace Go.Proofs.YtmfjhgjplmpecaaDoor
open Go.RowKit
set_option maxRecDepth 100000

theorem infoMk : (Tryd.prog.info? 5).map (fun i => (i.zero, i.size, i.bytes)) = some (some (.int .u8 0), 1, 1) := by kernel_rfl
theorem own_slM {q : IntKind} {E B : Nat} {w : World} {v : Value} {l : List Nat} (h : OwnQ q E B w v l) : ∃ a n cap, v = .slice a n cap ∧ n = l.length ∧ OwnQ q E B w (.slice a n cap) l := by
  obtain ⟨a, c, rfl, -, -⟩ := h.form
  exact ⟨a, _, c, rfl, rfl, h⟩
theorem OwnQ.litM (q : IntKind) (w : World) (E : TypeId) (B : Nat) (hB : B ≤ w.heap.size) (l : List Nat) (cs : Array Value) (n : Nat) (h : cs = (l.map (num q)).toArray) (hn : n = l.length) (hm : l.length ≤ maxLen) : OwnQ q E B (w.alloc (.cells cs E)) (.slice (some ⟨w.heap.size, 0, .none⟩) n n) l := by
  subst h hn
  exact World.ownsRow_lit w _ l.length hB hm (by simp)
theorem Reads.litM (q : IntKind) (w : World) (E : TypeId) (l : List Nat) (cs : Array Value) (n : Nat) (h : cs = (l.map (num q)).toArray) (hn : n = l.length) (hm : l.length ≤ maxLen) : Reads q (w.alloc (.cells cs E)) (some ⟨w.heap.size, 0, .none⟩) n n l :=
  (OwnQ.litM q w E w.heap.size (Nat.le_refl _) l cs n h hn hm).reads

/-- A frame's first bytes; a frame. -/
def frameH (h : Nat) : List Nat := [48, 17 + mSize h, 48, 13, 6, 9, 96, 134, 72, 1, 101, 3, 4, 2, mMark h, 5, 0, 4, mSize h]
def frameL (h : Nat) (d : List Nat) : List Nat := frameH h ++ d
theorem frameH_len (h : Nat) : (frameH h).length = 19 := rfl
theorem mMark_lt {h : Nat} (hh : IsHash h) : mMark h < 256 := by rcases hh with rfl | rfl | rfl | rfl <;> decide
theorem frameH_lt {h : Nat} (hh : IsHash h) : ∀ x ∈ frameH h, x < 256 := by
  rcases hh with rfl | rfl | rfl | rfl <;> decide

set_option maxHeartbeats 1000000 in
theorem frame_yes (h : Nat) (hh : IsHash h) (a : Option Addr) (n c : Nat) (d : List Nat) (w : World) (hk : Kinds w) (hr : Reads .u8 w a n c d) (hn : n = mSize h) :
    Calls Tryd.prog 19 #[.int .i64 (h : Int), .slice a n c] w fun e w' => (∃ v, e = .returned (.tuple #[v, .int .i64 0]) ∧ OwnQ .u8 5 w.heap.size w' v (frameL h d)) ∧ Below w.heap.size w w' := by
  obtain ⟨i0, hi, hz0, hz1, hz2⟩ := info_parts infoMk
  have HR := Lib.hid hr
  have hs := mSize_le hh
  have hn64 : n ≤ 64 := by omega
  have HMK := Lib.hid (mMark_lt hh)
  obtain ⟨s, hse⟩ : ∃ s, s = mSize h := ⟨_, rfl⟩
  obtain ⟨m, hme⟩ : ∃ m, m = mMark h := ⟨_, rfl⟩
  have HF := Lib.hid (show frameH h = [48, 17 + s, 48, 13, 6, 9, 96, 134, 72, 1, 101, 3, 4, 2, m, 5, 0, 4, s] by rw [hse, hme]; rfl)
  have t1 : ((n : Int) != (s : Int)) = false := by simp; omega
  have w1 : IntKind.u8.wrap (s : Int) = (s : Int) := by rw [IntKind.wrap_u8]; omega
  have w2 : IntKind.u8.wrap (17 + (s : Int)) = ((17 + s : Nat) : Int) := by rw [IntKind.wrap_u8]; omega
  go_enter Tryd.func19, Tryd.ntmps19
  go_wp2_with fail
  refine (known_yesM h hh w hk).mono ?_
  rintro e w1 ⟨rfl, h1⟩
  have HB1 := Lib.hid h1
  have HDL := Lib.hid (show d.length = n from HR.out.length)
  unfold kindV
  rw [← hse, ← hme]
  have HSE := Lib.hid hse
  have hz1s : w.heap.size ≤ w1.heap.size := h1.size
  have hk0 := OwnQ.litM .u8 (w1.alloc (.cells #[.string (strOf (mName h)), .int .i64 (s : Int), .int .u8 (m : Int)] 54)) 5 w.heap.size (by simp; omega) (frameH h) #[.int .u8 48, .int .u8 (17 + (s : Int)), .int .u8 48, .int .u8 13, .int .u8 6, .int .u8 9, .int .u8 96, .int .u8 134, .int .u8 72, .int .u8 1, .int .u8 101, .int .u8 3, .int .u8 4, .int .u8 2, .int .u8 (m : Int), .int .u8 5, .int .u8 0, .int .u8 4, .int .u8 (s : Int)] 19 (by rw [HF.out]; simp [num]) (by rw [frameH_len]) (by rw [frameH_len]; decide)
  rw [World.size_alloc] at hk0
  have HK0 := Lib.hid hk0
  clear hk0
  clear h1 hr hse hme hs hk hn
  go_wp2_with (at_builtin; go_loud (refine wpList_append_q .u8 _ rfl _ _ 23 rfl w.heap.size 5 1 i0 Tryd.underlying23 hi hz0 hz1 hz2 (by decide) _ (frameH h) rfl HK0.out a n c d rfl (HR.out.below (by have h := HB1.out; have hs := h.size; (repeat' (first | exact h | refine Below.drew ?_ | refine Below.alloc ?_ (by first | omega | (simp; omega)) _)))) (by rw [frameH_len]; omega) (by have := HB1.out.size; simp; omega) ?_); intro v2 w2 hown hgrow; have HO := Lib.hid hown; have HB2 := Lib.hid (hgrow w (by have h := HB1.out; have hs := h.size; (repeat' (first | exact h | refine Below.drew ?_ | refine Below.alloc ?_ (by first | omega | (simp; omega)) _)))); clear hown hgrow)
  go_ret2
  exact ⟨⟨_, rfl, HO.out⟩, HB2.out⟩
theorem frame_no (h : Int) (a : Option Addr) (n c : Nat) (w : World) (hk : Kinds w) (hn : ∀ k : Nat, IsHash k → h = (k : Int) → n ≠ mSize k) :
    Calls Tryd.prog 19 #[.int .i64 h, .slice a n c] w fun e w' => e = .returned (.tuple #[.slice none 0 0, .int .i64 80]) ∧ Below w.heap.size w w' := by
  by_cases hh : h < 1 ∨ 4 < h
  · go_enter Tryd.func19, Tryd.ntmps19
    go_wp2_with fail
    refine (known_noM h hh w).mono ?_
    rintro e w1 ⟨rfl, h1⟩
    have H1 := Lib.hid h1
    clear h1 hh hn
    go_wp2
    go_ret2
    exact ⟨rfl, by have h := H1.out; have hs := h.size; (repeat' (first | exact h | refine Below.drew ?_ | refine Below.alloc ?_ (by first | omega | (simp; omega)) _))⟩
  · obtain ⟨k, hk1, hk2⟩ : ∃ k : Nat, IsHash k ∧ h = (k : Int) := ⟨h.toNat, by unfold IsHash; omega, by omega⟩
    have hne := hn k hk1 hk2
    have t1 : ((n : Int) != (mSize k : Int)) = true := by simp; omega
    subst hk2
    clear hh hn hne
    go_enter Tryd.func19, Tryd.ntmps19
    go_wp2_with fail
    refine (known_yesM k hk1 w hk).mono ?_
    rintro e w1 ⟨rfl, h1⟩
    have H1 := Lib.hid h1
    unfold kindV
    clear h1
    go_wp2
    go_ret2
    exact ⟨rfl, by have h := H1.out; have hs := h.size; (repeat' (first | exact h | refine Below.drew ?_ | refine Below.alloc ?_ (by first | omega | (simp; omega)) _))⟩

end Go.Proofs.YtmfjhgjplmpecaaDoor
