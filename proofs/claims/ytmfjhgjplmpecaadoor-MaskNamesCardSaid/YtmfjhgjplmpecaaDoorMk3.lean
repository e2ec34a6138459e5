/-
  MERGED: MkH MkI MkJ
-/
import Derived.Test.YtmfjhgjplmpecaaDoorMk1
import Derived.Test.YtmfjhgjplmpecaaDoorShaQ
import Derived.Test.YtmfjhgjplmpecaaDoorQb2
import Derived.Laws.EntriesVeiled
import Derived.Laws.ResultCell
namespace Go.Proofs.YtmfjhgjplmpecaaDoor
open Go.RowKit Go.Shelf
set_option maxRecDepth 100000

theorem stM_lt {w : World} {g bt : Nat} {m : List Nat} (h : StateOf w g bt m) : g < w.heap.size := by
  obtain ⟨ws, tail, h, -⟩ := h
  exact h.lt
theorem stM_below {w w' : World} {g bt B : Nat} {m : List Nat} (h : StateOf w g bt m) (hb : Below B w w') (hg : g < B) : StateOf w' g bt m := by
  obtain ⟨ws, tail, h, k⟩ := h
  exact ⟨ws, tail, h.below hb hg, k⟩
theorem stM_kept {W W' : World} {g1 g2 bt : Nat} {l : List Nat} (h : StateOf W g1 bt l) (hg : W.grownBy W' (some g2)) (hne : g1 ≠ g2) : StateOf W' g1 bt l := by
  obtain ⟨ws, tail, h, k⟩ := h
  exact ⟨ws, tail, h.block (hg.block g1 h.lt (fun e => hne (Option.some.inj e))), k⟩
theorem L5.stM_kept {W W' : World} {g1 g2 bt : Nat} {l : List Nat} (h : L5.StateOf W g1 bt l) (hg : W.grownBy W' (some g2)) (hne : g1 ≠ g2) : L5.StateOf W' g1 bt l := by
  obtain ⟨ws, tail, h, k⟩ := h
  exact ⟨ws, tail, h.block (hg.block g1 h.lt (fun e => hne (Option.some.inj e))), k⟩
theorem L5.stM_lt {w : World} {g bt : Nat} {m : List Nat} (h : L5.StateOf w g bt m) : g < w.heap.size := by
  obtain ⟨ws, tail, h, -⟩ := h
  exact h.lt
theorem L5.stM_below {w w' : World} {g bt B : Nat} {m : List Nat} (h : L5.StateOf w g bt m) (hb : Below B w w') (hg : g < B) : L5.StateOf w' g bt m := by
  obtain ⟨ws, tail, h, k⟩ := h
  exact ⟨ws, tail, h.below hb hg, k⟩

theorem open_1 (w : World) (hk : Kinds w) : Calls Tryd.prog 26 #[.int .i64 1] w fun e w' => (∃ g, e = .returned (.tuple #[.agg #[.func (.func 32) #[.pointer (some ⟨g, 0, none⟩)] #[], .func (.func 33) #[.pointer (some ⟨g, 0, none⟩)] #[]], .bool true]) ∧ w.heap.size ≤ g ∧ StateOf w' g 224 []) ∧ Below w.heap.size w w' := by
  have HK := Lib.hid hk
  clear hk
  go_enter Tryd.func26, Tryd.ntmps26
  go_wp2_with fail
  refine (known_yesM 1 (by simp [IsHash]) _ (HK.out.below ((Below.refl _ _).alloc (Nat.le_refl _) _))).mono ?_
  rintro e w1 ⟨rfl, h1⟩
  have hz1 : w.heap.size + 1 ≤ w1.heap.size := by have := h1.size; simpa using this
  have B1 := Lib.hid (((Below.refl w.heap.size w).alloc (Nat.le_refl _) (.cells #[.nilFunc, .nilFunc] 50)).trans (h1.mono (by simp)))
  have c0 : w1.cell? ⟨w.heap.size, 0, none⟩ = some .nilFunc := (h1.cell (p := ⟨w.heap.size, 0, none⟩) (by simp)).trans (by simp)
  have c1 : w1.cell? ⟨w.heap.size, 1, none⟩ = some .nilFunc := (h1.cell (p := ⟨w.heap.size, 1, none⟩) (by simp)).trans (by simp)
  have f0 : w1.frozen? ⟨w.heap.size, 0, none⟩ = false := (h1.frozen (p := ⟨w.heap.size, 0, none⟩) (by simp)).trans (by simp)
  have f1 : w1.frozen? ⟨w.heap.size, 1, none⟩ = false := (h1.frozen (p := ⟨w.heap.size, 1, none⟩) (by simp)).trans (by simp)
  unfold kindV
  rw [show mSize 1 = 28 from rfl, show mMark 1 = 4 from rfl]
  clear h1
  go_wp2_with fail
  refine (new224_any _).mono ?_
  rintro e w2 ⟨rfl, hs, h2⟩
  rw [World.size_alloc] at h2
  have hz2 : w1.heap.size + 1 ≤ w2.heap.size := by have := h2.size; simpa using this
  have B2 := Lib.hid (B1.out.trans ((((Below.refl w1.heap.size w1).alloc (Nat.le_refl _) _).trans (h2.mono (by simp))).mono (by omega)))
  have c0' : w2.cell? ⟨w.heap.size, 0, none⟩ = some .nilFunc := (h2.cell (p := ⟨w.heap.size, 0, none⟩) (by simp; omega)).trans ((((Below.refl w1.heap.size w1).alloc (Nat.le_refl _) _).cell (p := ⟨w.heap.size, 0, none⟩) (by simp; omega)).trans c0)
  have c1' : w2.cell? ⟨w.heap.size, 1, none⟩ = some .nilFunc := (h2.cell (p := ⟨w.heap.size, 1, none⟩) (by simp; omega)).trans ((((Below.refl w1.heap.size w1).alloc (Nat.le_refl _) _).cell (p := ⟨w.heap.size, 1, none⟩) (by simp; omega)).trans c1)
  have f0' : w2.frozen? ⟨w.heap.size, 0, none⟩ = false := (h2.frozen (p := ⟨w.heap.size, 0, none⟩) (by simp; omega)).trans ((((Below.refl w1.heap.size w1).alloc (Nat.le_refl _) _).frozen (p := ⟨w.heap.size, 0, none⟩) (by simp; omega)).trans f0)
  have f1' : w2.frozen? ⟨w.heap.size, 1, none⟩ = false := (h2.frozen (p := ⟨w.heap.size, 1, none⟩) (by simp; omega)).trans ((((Below.refl w1.heap.size w1).alloc (Nat.le_refl _) _).frozen (p := ⟨w.heap.size, 1, none⟩) (by simp; omega)).trans f1)
  rw [World.size_alloc] at hs ⊢
  have HS := Lib.hid hs
  have hgl := stM_lt hs
  clear c0 c1 f0 f1 hs h2
  have hgw : w.heap.size < w1.heap.size + 1 := by omega
  generalize w1.heap.size + 1 = g at *
  go_wp2
  refine bodyPost_ret (v := .tuple #[.agg #[.func (.func 32) #[.pointer (some ⟨g, 0, none⟩)] #[], .func (.func 33) #[.pointer (some ⟨g, 0, none⟩)] #[]], .bool true]) ?_ rfl ⟨⟨g, rfl, by omega, stM_kept HS.out (grown_set (grown_set (grown_below (Below.refl _ w2) (some w.heap.size)) 0 _) 1 _) (by omega)⟩, (B2.out.setCell (p := ⟨w.heap.size, 0, none⟩) (Nat.le_refl _) _).setCell (p := ⟨w.heap.size, 1, none⟩) (Nat.le_refl _) _⟩
  rw [results_cell_tmp rfl]
  go_simp

theorem open_2 (w : World) (hk : Kinds w) : Calls Tryd.prog 26 #[.int .i64 2] w fun e w' => (∃ g, e = .returned (.tuple #[.agg #[.func (.func 32) #[.pointer (some ⟨g, 0, none⟩)] #[], .func (.func 33) #[.pointer (some ⟨g, 0, none⟩)] #[]], .bool true]) ∧ w.heap.size ≤ g ∧ StateOf w' g 256 []) ∧ Below w.heap.size w w' := by
  have HK := Lib.hid hk
  clear hk
  go_enter Tryd.func26, Tryd.ntmps26
  go_wp2_with fail
  refine (known_yesM 2 (by simp [IsHash]) _ (HK.out.below ((Below.refl _ _).alloc (Nat.le_refl _) _))).mono ?_
  rintro e w1 ⟨rfl, h1⟩
  have hz1 : w.heap.size + 1 ≤ w1.heap.size := by have := h1.size; simpa using this
  have B1 := Lib.hid (((Below.refl w.heap.size w).alloc (Nat.le_refl _) (.cells #[.nilFunc, .nilFunc] 50)).trans (h1.mono (by simp)))
  have c0 : w1.cell? ⟨w.heap.size, 0, none⟩ = some .nilFunc := (h1.cell (p := ⟨w.heap.size, 0, none⟩) (by simp)).trans (by simp)
  have c1 : w1.cell? ⟨w.heap.size, 1, none⟩ = some .nilFunc := (h1.cell (p := ⟨w.heap.size, 1, none⟩) (by simp)).trans (by simp)
  have f0 : w1.frozen? ⟨w.heap.size, 0, none⟩ = false := (h1.frozen (p := ⟨w.heap.size, 0, none⟩) (by simp)).trans (by simp)
  have f1 : w1.frozen? ⟨w.heap.size, 1, none⟩ = false := (h1.frozen (p := ⟨w.heap.size, 1, none⟩) (by simp)).trans (by simp)
  unfold kindV
  rw [show mSize 2 = 32 from rfl, show mMark 2 = 1 from rfl]
  clear h1
  go_wp2_with fail
  refine (new256_any _).mono ?_
  rintro e w2 ⟨rfl, hs, h2⟩
  rw [World.size_alloc] at h2
  have hz2 : w1.heap.size + 1 ≤ w2.heap.size := by have := h2.size; simpa using this
  have B2 := Lib.hid (B1.out.trans ((((Below.refl w1.heap.size w1).alloc (Nat.le_refl _) _).trans (h2.mono (by simp))).mono (by omega)))
  have c0' : w2.cell? ⟨w.heap.size, 0, none⟩ = some .nilFunc := (h2.cell (p := ⟨w.heap.size, 0, none⟩) (by simp; omega)).trans ((((Below.refl w1.heap.size w1).alloc (Nat.le_refl _) _).cell (p := ⟨w.heap.size, 0, none⟩) (by simp; omega)).trans c0)
  have c1' : w2.cell? ⟨w.heap.size, 1, none⟩ = some .nilFunc := (h2.cell (p := ⟨w.heap.size, 1, none⟩) (by simp; omega)).trans ((((Below.refl w1.heap.size w1).alloc (Nat.le_refl _) _).cell (p := ⟨w.heap.size, 1, none⟩) (by simp; omega)).trans c1)
  have f0' : w2.frozen? ⟨w.heap.size, 0, none⟩ = false := (h2.frozen (p := ⟨w.heap.size, 0, none⟩) (by simp; omega)).trans ((((Below.refl w1.heap.size w1).alloc (Nat.le_refl _) _).frozen (p := ⟨w.heap.size, 0, none⟩) (by simp; omega)).trans f0)
  have f1' : w2.frozen? ⟨w.heap.size, 1, none⟩ = false := (h2.frozen (p := ⟨w.heap.size, 1, none⟩) (by simp; omega)).trans ((((Below.refl w1.heap.size w1).alloc (Nat.le_refl _) _).frozen (p := ⟨w.heap.size, 1, none⟩) (by simp; omega)).trans f1)
  rw [World.size_alloc] at hs ⊢
  have HS := Lib.hid hs
  have hgl := stM_lt hs
  clear c0 c1 f0 f1 hs h2
  have hgw : w.heap.size < w1.heap.size + 1 := by omega
  generalize w1.heap.size + 1 = g at *
  go_wp2
  refine bodyPost_ret (v := .tuple #[.agg #[.func (.func 32) #[.pointer (some ⟨g, 0, none⟩)] #[], .func (.func 33) #[.pointer (some ⟨g, 0, none⟩)] #[]], .bool true]) ?_ rfl ⟨⟨g, rfl, by omega, stM_kept HS.out (grown_set (grown_set (grown_below (Below.refl _ w2) (some w.heap.size)) 0 _) 1 _) (by omega)⟩, (B2.out.setCell (p := ⟨w.heap.size, 0, none⟩) (Nat.le_refl _) _).setCell (p := ⟨w.heap.size, 1, none⟩) (Nat.le_refl _) _⟩
  rw [results_cell_tmp rfl]
  go_simp

theorem open_3 (w : World) (hk : Kinds w) : Calls Tryd.prog 26 #[.int .i64 3] w fun e w' => (∃ g, e = .returned (.tuple #[.agg #[.func (.func 35) #[.pointer (some ⟨g, 0, none⟩)] #[], .func (.func 36) #[.pointer (some ⟨g, 0, none⟩)] #[]], .bool true]) ∧ w.heap.size ≤ g ∧ L5.StateOf w' g 384 []) ∧ Below w.heap.size w w' := by
  have HK := Lib.hid hk
  clear hk
  go_enter Tryd.func26, Tryd.ntmps26
  go_wp2_with fail
  refine (known_yesM 3 (by simp [IsHash]) _ (HK.out.below ((Below.refl _ _).alloc (Nat.le_refl _) _))).mono ?_
  rintro e w1 ⟨rfl, h1⟩
  have hz1 : w.heap.size + 1 ≤ w1.heap.size := by have := h1.size; simpa using this
  have B1 := Lib.hid (((Below.refl w.heap.size w).alloc (Nat.le_refl _) (.cells #[.nilFunc, .nilFunc] 50)).trans (h1.mono (by simp)))
  have c0 : w1.cell? ⟨w.heap.size, 0, none⟩ = some .nilFunc := (h1.cell (p := ⟨w.heap.size, 0, none⟩) (by simp)).trans (by simp)
  have c1 : w1.cell? ⟨w.heap.size, 1, none⟩ = some .nilFunc := (h1.cell (p := ⟨w.heap.size, 1, none⟩) (by simp)).trans (by simp)
  have f0 : w1.frozen? ⟨w.heap.size, 0, none⟩ = false := (h1.frozen (p := ⟨w.heap.size, 0, none⟩) (by simp)).trans (by simp)
  have f1 : w1.frozen? ⟨w.heap.size, 1, none⟩ = false := (h1.frozen (p := ⟨w.heap.size, 1, none⟩) (by simp)).trans (by simp)
  unfold kindV
  rw [show mSize 3 = 48 from rfl, show mMark 3 = 2 from rfl]
  clear h1
  go_wp2_with fail
  refine (L5.new384_any _).mono ?_
  rintro e w2 ⟨rfl, hs, h2⟩
  rw [World.size_alloc] at h2
  have hz2 : w1.heap.size + 1 ≤ w2.heap.size := by have := h2.size; simpa using this
  have B2 := Lib.hid (B1.out.trans ((((Below.refl w1.heap.size w1).alloc (Nat.le_refl _) _).trans (h2.mono (by simp))).mono (by omega)))
  have c0' : w2.cell? ⟨w.heap.size, 0, none⟩ = some .nilFunc := (h2.cell (p := ⟨w.heap.size, 0, none⟩) (by simp; omega)).trans ((((Below.refl w1.heap.size w1).alloc (Nat.le_refl _) _).cell (p := ⟨w.heap.size, 0, none⟩) (by simp; omega)).trans c0)
  have c1' : w2.cell? ⟨w.heap.size, 1, none⟩ = some .nilFunc := (h2.cell (p := ⟨w.heap.size, 1, none⟩) (by simp; omega)).trans ((((Below.refl w1.heap.size w1).alloc (Nat.le_refl _) _).cell (p := ⟨w.heap.size, 1, none⟩) (by simp; omega)).trans c1)
  have f0' : w2.frozen? ⟨w.heap.size, 0, none⟩ = false := (h2.frozen (p := ⟨w.heap.size, 0, none⟩) (by simp; omega)).trans ((((Below.refl w1.heap.size w1).alloc (Nat.le_refl _) _).frozen (p := ⟨w.heap.size, 0, none⟩) (by simp; omega)).trans f0)
  have f1' : w2.frozen? ⟨w.heap.size, 1, none⟩ = false := (h2.frozen (p := ⟨w.heap.size, 1, none⟩) (by simp; omega)).trans ((((Below.refl w1.heap.size w1).alloc (Nat.le_refl _) _).frozen (p := ⟨w.heap.size, 1, none⟩) (by simp; omega)).trans f1)
  rw [World.size_alloc] at hs ⊢
  have HS := Lib.hid hs
  have hgl := L5.stM_lt hs
  clear c0 c1 f0 f1 hs h2
  have hgw : w.heap.size < w1.heap.size + 1 := by omega
  generalize w1.heap.size + 1 = g at *
  go_wp2
  refine bodyPost_ret (v := .tuple #[.agg #[.func (.func 35) #[.pointer (some ⟨g, 0, none⟩)] #[], .func (.func 36) #[.pointer (some ⟨g, 0, none⟩)] #[]], .bool true]) ?_ rfl ⟨⟨g, rfl, by omega, L5.stM_kept HS.out (grown_set (grown_set (grown_below (Below.refl _ w2) (some w.heap.size)) 0 _) 1 _) (by omega)⟩, (B2.out.setCell (p := ⟨w.heap.size, 0, none⟩) (Nat.le_refl _) _).setCell (p := ⟨w.heap.size, 1, none⟩) (Nat.le_refl _) _⟩
  rw [results_cell_tmp rfl]
  go_simp

theorem open_4 (w : World) (hk : Kinds w) : Calls Tryd.prog 26 #[.int .i64 4] w fun e w' => (∃ g, e = .returned (.tuple #[.agg #[.func (.func 35) #[.pointer (some ⟨g, 0, none⟩)] #[], .func (.func 36) #[.pointer (some ⟨g, 0, none⟩)] #[]], .bool true]) ∧ w.heap.size ≤ g ∧ L5.StateOf w' g 512 []) ∧ Below w.heap.size w w' := by
  have HK := Lib.hid hk
  clear hk
  go_enter Tryd.func26, Tryd.ntmps26
  go_wp2_with fail
  refine (known_yesM 4 (by simp [IsHash]) _ (HK.out.below ((Below.refl _ _).alloc (Nat.le_refl _) _))).mono ?_
  rintro e w1 ⟨rfl, h1⟩
  have hz1 : w.heap.size + 1 ≤ w1.heap.size := by have := h1.size; simpa using this
  have B1 := Lib.hid (((Below.refl w.heap.size w).alloc (Nat.le_refl _) (.cells #[.nilFunc, .nilFunc] 50)).trans (h1.mono (by simp)))
  have c0 : w1.cell? ⟨w.heap.size, 0, none⟩ = some .nilFunc := (h1.cell (p := ⟨w.heap.size, 0, none⟩) (by simp)).trans (by simp)
  have c1 : w1.cell? ⟨w.heap.size, 1, none⟩ = some .nilFunc := (h1.cell (p := ⟨w.heap.size, 1, none⟩) (by simp)).trans (by simp)
  have f0 : w1.frozen? ⟨w.heap.size, 0, none⟩ = false := (h1.frozen (p := ⟨w.heap.size, 0, none⟩) (by simp)).trans (by simp)
  have f1 : w1.frozen? ⟨w.heap.size, 1, none⟩ = false := (h1.frozen (p := ⟨w.heap.size, 1, none⟩) (by simp)).trans (by simp)
  unfold kindV
  rw [show mSize 4 = 64 from rfl, show mMark 4 = 3 from rfl]
  clear h1
  go_wp2_with fail
  refine (L5.new512_any _).mono ?_
  rintro e w2 ⟨rfl, hs, h2⟩
  rw [World.size_alloc] at h2
  have hz2 : w1.heap.size + 1 ≤ w2.heap.size := by have := h2.size; simpa using this
  have B2 := Lib.hid (B1.out.trans ((((Below.refl w1.heap.size w1).alloc (Nat.le_refl _) _).trans (h2.mono (by simp))).mono (by omega)))
  have c0' : w2.cell? ⟨w.heap.size, 0, none⟩ = some .nilFunc := (h2.cell (p := ⟨w.heap.size, 0, none⟩) (by simp; omega)).trans ((((Below.refl w1.heap.size w1).alloc (Nat.le_refl _) _).cell (p := ⟨w.heap.size, 0, none⟩) (by simp; omega)).trans c0)
  have c1' : w2.cell? ⟨w.heap.size, 1, none⟩ = some .nilFunc := (h2.cell (p := ⟨w.heap.size, 1, none⟩) (by simp; omega)).trans ((((Below.refl w1.heap.size w1).alloc (Nat.le_refl _) _).cell (p := ⟨w.heap.size, 1, none⟩) (by simp; omega)).trans c1)
  have f0' : w2.frozen? ⟨w.heap.size, 0, none⟩ = false := (h2.frozen (p := ⟨w.heap.size, 0, none⟩) (by simp; omega)).trans ((((Below.refl w1.heap.size w1).alloc (Nat.le_refl _) _).frozen (p := ⟨w.heap.size, 0, none⟩) (by simp; omega)).trans f0)
  have f1' : w2.frozen? ⟨w.heap.size, 1, none⟩ = false := (h2.frozen (p := ⟨w.heap.size, 1, none⟩) (by simp; omega)).trans ((((Below.refl w1.heap.size w1).alloc (Nat.le_refl _) _).frozen (p := ⟨w.heap.size, 1, none⟩) (by simp; omega)).trans f1)
  rw [World.size_alloc] at hs ⊢
  have HS := Lib.hid hs
  have hgl := L5.stM_lt hs
  clear c0 c1 f0 f1 hs h2
  have hgw : w.heap.size < w1.heap.size + 1 := by omega
  generalize w1.heap.size + 1 = g at *
  go_wp2
  refine bodyPost_ret (v := .tuple #[.agg #[.func (.func 35) #[.pointer (some ⟨g, 0, none⟩)] #[], .func (.func 36) #[.pointer (some ⟨g, 0, none⟩)] #[]], .bool true]) ?_ rfl ⟨⟨g, rfl, by omega, L5.stM_kept HS.out (grown_set (grown_set (grown_below (Below.refl _ w2) (some w.heap.size)) 0 _) 1 _) (by omega)⟩, (B2.out.setCell (p := ⟨w.heap.size, 0, none⟩) (Nat.le_refl _) _).setCell (p := ⟨w.heap.size, 1, none⟩) (Nat.le_refl _) _⟩
  rw [results_cell_tmp rfl]
  go_simp

end Go.Proofs.YtmfjhgjplmpecaaDoor

namespace Go.Proofs.YtmfjhgjplmpecaaDoor
open Go.RowKit Go.Shelf
set_option maxRecDepth 100000

/-- Rows that came in, or were made. -/
structure RowsM (w : World) (a : Option Addr) (n : Nat) (R : Nat → Option Addr × Nat × Nat × List Nat) : Prop where
  each : ∀ i, i < n → Reads .u8 w (R i).1 (R i).2.1 (R i).2.2.1 (R i).2.2.2 ∧ Byt (R i).2.2.2 ∧ (R i).2.1 ≤ 1048576
  cells : 0 < n → ∃ b off, a = some ⟨b, off, none⟩ ∧ b < w.heap.size ∧ ∀ i, i < n → w.cell? ⟨b, off + i, none⟩ = some (.slice (R i).1 (R i).2.1 (R i).2.2.1)
def flatM (R : Nat → Option Addr × Nat × Nat × List Nat) : Nat → List Nat
  | 0 => []
  | i + 1 => flatM R i ++ (R i).2.2.2
theorem flatM_byt {w : World} {a : Option Addr} {n : Nat} {R : Nat → Option Addr × Nat × Nat × List Nat} (h : RowsM w a n R) : ∀ i, i ≤ n → Byt (flatM R i)
  | 0, _ => fun x hx => by cases hx
  | i + 1, hi => fun x hx => by
    rcases List.mem_append.1 hx with hx | hx
    · exact flatM_byt h i (by omega) x hx
    · exact (h.each i (by omega)).2.1 x hx
theorem RowsM.below {w w' : World} {a : Option Addr} {n : Nat} {R : Nat → Option Addr × Nat × Nat × List Nat} (h : RowsM w a n R) (hb : Below w.heap.size w w') : RowsM w' a n R :=
  ⟨fun i hi => ⟨(h.each i hi).1.below hb, (h.each i hi).2⟩, fun hp => by
    obtain ⟨b, off, ha, hlt, hc⟩ := h.cells hp
    exact ⟨b, off, ha, Nat.lt_of_lt_of_le hlt hb.size, fun i hi => (hb.cell (p := ⟨b, off + i, .none⟩) hlt).trans (hc i hi)⟩⟩
theorem flatM_len {w : World} {a : Option Addr} {n : Nat} {R : Nat → Option Addr × Nat × Nat × List Nat} (h : RowsM w a n R) : ∀ i, i ≤ n → (flatM R i).length ≤ 1048576 * i
  | 0, _ => Nat.zero_le _
  | i + 1, hi => by
    have h1 := flatM_len h i (by omega)
    obtain ⟨h2, -, h3⟩ := h.each i (by omega)
    have h4 := h2.length
    rw [flatM, List.length_append]
    omega
def mHash (h : Nat) (m : List Nat) : List Nat := match h with
  | 1 => hashN 224 m
  | 2 => hashN 256 m
  | 3 => L5.hashN 384 m
  | 4 => L5.hashN 512 m
  | _ => []

theorem open_A (h bt : Nat) (hh : h = 1 ∧ bt = 224 ∨ h = 2 ∧ bt = 256) (w : World) (hk : Kinds w) : Calls Tryd.prog 26 #[.int .i64 (h : Int)] w fun e w' => (∃ g, e = .returned (.tuple #[.agg #[.func (.func 32) #[.pointer (some ⟨g, 0, none⟩)] #[], .func (.func 33) #[.pointer (some ⟨g, 0, none⟩)] #[]], .bool true]) ∧ w.heap.size ≤ g ∧ StateOf w' g bt []) ∧ Below w.heap.size w w' := by
  rcases hh with ⟨rfl, rfl⟩ | ⟨rfl, rfl⟩
  · exact open_1 w hk
  · exact open_2 w hk
set_option maxHeartbeats 1000000 in
theorem sum_A (h bt : Nat) (hh : h = 1 ∧ bt = 224 ∨ h = 2 ∧ bt = 256) (a : Option Addr) (n cap : Nat) (R : Nat → Option Addr × Nat × Nat × List Nat) (w : World) (hk : Kinds w) (hR : RowsM w a n R) (hn : n ≤ 1000) :
    Calls Tryd.prog 10 #[.int .i64 (h : Int), .slice a n cap] w fun e w' => (∃ ad c, e = .returned (.tuple #[.slice (some ad) (bt / 8) c, .int .i64 0]) ∧ Reads .u8 w' (some ad) (bt / 8) c (hashN bt (flatM R n)) ∧ w.heap.size ≤ ad.block) ∧ Below w.heap.size w w' := by
  have HR := Lib.hid hR
  have HH := Lib.hid hh
  have HBT := Lib.hid (show bt = 224 ∨ bt = 256 by omega)
  have hbt0 : bt ≠ 0 := by omega
  clear hR hh
  go_enter Tryd.func10, Tryd.ntmps10
  go_wp2_with fail
  refine (open_A h bt HH.out w hk).mono ?_
  rintro e w1 ⟨⟨g, rfl, hg, hs⟩, h1⟩
  have hgl := stM_lt hs
  have HB1 := Lib.hid h1
  have HGW := Lib.hid hg
  have HS1 := Lib.hid (stM_below hs ((Below.refl w1.heap.size w1).alloc (Nat.le_refl _) (.cells #[.func (.func 32) #[.pointer (some ⟨g, 0, none⟩)] #[], .func (.func 33) #[.pointer (some ⟨g, 0, none⟩)] #[]] 50)) hgl)
  have HB2 := Lib.hid (h1.alloc h1.size (.cells #[.func (.func 32) #[.pointer (some ⟨g, 0, none⟩)] #[], .func (.func 33) #[.pointer (some ⟨g, 0, none⟩)] #[]] 50))
  have cF0 : (w1.alloc (.cells #[.func (.func 32) #[.pointer (some ⟨g, 0, none⟩)] #[], .func (.func 33) #[.pointer (some ⟨g, 0, none⟩)] #[]] 50)).cell? ⟨w1.heap.size, 0, none⟩ = some (.func (.func 32) #[.pointer (some ⟨g, 0, none⟩)] #[]) := by simp
  have cF1 : (w1.alloc (.cells #[.func (.func 32) #[.pointer (some ⟨g, 0, none⟩)] #[], .func (.func 33) #[.pointer (some ⟨g, 0, none⟩)] #[]] 50)).cell? ⟨w1.heap.size, 1, none⟩ = some (.func (.func 33) #[.pointer (some ⟨g, 0, none⟩)] #[]) := by simp
  have CF0 := Lib.hid cF0
  have CF1 := Lib.hid cF1
  have hfs : w1.heap.size < (w1.alloc (.cells #[.func (.func 32) #[.pointer (some ⟨g, 0, none⟩)] #[], .func (.func 33) #[.pointer (some ⟨g, 0, none⟩)] #[]] 50)).heap.size := by simp
  clear hs h1 hg cF0 cF1 hk
  go_wp2_with fail
  generalize w1.alloc (.cells #[.func (.func 32) #[.pointer (some ⟨g, 0, none⟩)] #[], .func (.func 33) #[.pointer (some ⟨g, 0, none⟩)] #[]] 50) = w2 at *
  have hz02 := HB2.out.size
  clear HB1
  generalize w1.heap.size = fb at *
  have HG2 := Lib.hid (show w2.grownBy w2 (some g) from ⟨rfl, rfl, rfl, Nat.le_refl _, fun _ _ _ => rfl⟩)
  go_loopw [19] (fun iv wq => ∃ i : Nat, iv = .int .i64 (i : Int) ∧ i ≤ n ∧ Hid (StateOf wq g bt (flatM R i) ∧ w2.grownBy wq (some g))) (fun iv _ => n - (intOf iv).toNat)
  case atStart => exact ⟨0, rfl, Nat.zero_le _, HS1.out, HG2.out⟩
  case round =>
    obtain ⟨i, rfl, hi, hI⟩ := hrel
    have HST := Lib.hid hI.out.1
    have HG := Lib.hid hI.out.2
    have cF0 := (World.cell?_of_block (a := ⟨fb, 0, none⟩) (HG.out.block fb hfs (fun e => by have := Option.some.inj e; omega))).trans CF0.out
    have cF1 := (World.cell?_of_block (a := ⟨fb, 1, none⟩) (HG.out.block fb hfs (fun e => by have := Option.some.inj e; omega))).trans CF1.out
    clear hI
    by_cases hlt : i < n
    · have tn : decide (i < n) = true := by simp; omega
      obtain ⟨b, off, rfl, hbk, hc⟩ := HR.out.cells (by omega)
      have HBW := Lib.hid (HB2.out.grown HG.out HB2.out.size (fun r e => by cases e; exact HGW.out))
      have hci := (World.cell?_of_block (a := ⟨b, off + i, none⟩) (HBW.out.block b hbk)).trans (hc i hlt)
      have he := HR.out.each i hlt
      have HEL := Lib.hid (show flatM R (i + 1) = flatM R i ++ (R i).2.2.2 from rfl)
      have HLN := Lib.hid (flatM_len HR.out i (by omega))
      obtain ⟨⟨ra, rl, rc, l⟩, hri⟩ : ∃ r, r = R i := ⟨_, rfl⟩
      rw [← hri] at hci he HEL
      dsimp only at hci he HEL
      have HE := Lib.hid he
      have hrl := he.2.2
      clear hc he hri
      go_wp2_with fail
      refine (write_any g bt (flatM R i) l ra rl rc wr HST.out hbt0 (HE.out.1.below HBW.out) HE.out.2.1 (by have := HLN.out; omega) (fun hp ad e => by
        subst e
        obtain ⟨b', off', e, hb', -⟩ := HE.out.1.cells hp
        cases e
        have := HGW.out
        exact Nat.ne_of_lt (Nat.lt_of_lt_of_le hb' this))).mono ?_
      rintro e w6 ⟨rfl, hs6, hg6⟩
      rw [← HEL.out] at hs6
      have HS6 := Lib.hid hs6
      have HG6 := Lib.hid (grown_trans HG.out hg6)
      clear hs6 hg6 hci cF0 cF1
      go_wp2
      go_roundw
      case rel => exact ⟨i + 1, by go_num, by omega, HS6.out, HG6.out⟩
      case measure => simp [intOf] <;> omega
    · have hin : i = n := by omega
      have tn : decide (i < n) = false := by simp; omega
      have HBW := Lib.hid (HB2.out.grown HG.out HB2.out.size (fun r e => by cases e; exact HGW.out))
      subst hin
      clear hlt
      go_wp2_with fail
      refine (sum_any g bt (flatM R i) wr HST.out HBT.out).mono ?_
      rintro e w7 ⟨⟨ad, rfl, h7, h8⟩, h9⟩
      try dsimp only at h7 h8
      have H7 := Lib.hid h7
      have HB7 := Lib.hid (HBW.out.trans (h9.mono HBW.out.size))
      have had : w.heap.size ≤ ad.block := Nat.le_trans HBW.out.size h8
      clear h7 h8 h9 cF0 cF1
      go_wp2
      go_ret2
      exact ⟨⟨ad, _, rfl, H7.out, had⟩, HB7.out⟩

theorem open_B (h bt : Nat) (hh : h = 3 ∧ bt = 384 ∨ h = 4 ∧ bt = 512) (w : World) (hk : Kinds w) : Calls Tryd.prog 26 #[.int .i64 (h : Int)] w fun e w' => (∃ g, e = .returned (.tuple #[.agg #[.func (.func 35) #[.pointer (some ⟨g, 0, none⟩)] #[], .func (.func 36) #[.pointer (some ⟨g, 0, none⟩)] #[]], .bool true]) ∧ w.heap.size ≤ g ∧ L5.StateOf w' g bt []) ∧ Below w.heap.size w w' := by
  rcases hh with ⟨rfl, rfl⟩ | ⟨rfl, rfl⟩
  · exact open_3 w hk
  · exact open_4 w hk
set_option maxHeartbeats 1000000 in
theorem sum_B (h bt : Nat) (hh : h = 3 ∧ bt = 384 ∨ h = 4 ∧ bt = 512) (a : Option Addr) (n cap : Nat) (R : Nat → Option Addr × Nat × Nat × List Nat) (w : World) (hk : Kinds w) (hR : RowsM w a n R) (hn : n ≤ 1000) :
    Calls Tryd.prog 10 #[.int .i64 (h : Int), .slice a n cap] w fun e w' => (∃ ad c, e = .returned (.tuple #[.slice (some ad) (bt / 8) c, .int .i64 0]) ∧ Reads .u8 w' (some ad) (bt / 8) c (L5.hashN bt (flatM R n)) ∧ w.heap.size ≤ ad.block) ∧ Below w.heap.size w w' := by
  have HR := Lib.hid hR
  have HH := Lib.hid hh
  have HBT := Lib.hid (show bt = 384 ∨ bt = 512 by omega)
  have hbt0 : bt ≠ 0 := by omega
  clear hR hh
  go_enter Tryd.func10, Tryd.ntmps10
  go_wp2_with fail
  refine (open_B h bt HH.out w hk).mono ?_
  rintro e w1 ⟨⟨g, rfl, hg, hs⟩, h1⟩
  have hgl := L5.stM_lt hs
  have HB1 := Lib.hid h1
  have HGW := Lib.hid hg
  have HS1 := Lib.hid (L5.stM_below hs ((Below.refl w1.heap.size w1).alloc (Nat.le_refl _) (.cells #[.func (.func 35) #[.pointer (some ⟨g, 0, none⟩)] #[], .func (.func 36) #[.pointer (some ⟨g, 0, none⟩)] #[]] 50)) hgl)
  have HB2 := Lib.hid (h1.alloc h1.size (.cells #[.func (.func 35) #[.pointer (some ⟨g, 0, none⟩)] #[], .func (.func 36) #[.pointer (some ⟨g, 0, none⟩)] #[]] 50))
  have cF0 : (w1.alloc (.cells #[.func (.func 35) #[.pointer (some ⟨g, 0, none⟩)] #[], .func (.func 36) #[.pointer (some ⟨g, 0, none⟩)] #[]] 50)).cell? ⟨w1.heap.size, 0, none⟩ = some (.func (.func 35) #[.pointer (some ⟨g, 0, none⟩)] #[]) := by simp
  have cF1 : (w1.alloc (.cells #[.func (.func 35) #[.pointer (some ⟨g, 0, none⟩)] #[], .func (.func 36) #[.pointer (some ⟨g, 0, none⟩)] #[]] 50)).cell? ⟨w1.heap.size, 1, none⟩ = some (.func (.func 36) #[.pointer (some ⟨g, 0, none⟩)] #[]) := by simp
  have CF0 := Lib.hid cF0
  have CF1 := Lib.hid cF1
  have hfs : w1.heap.size < (w1.alloc (.cells #[.func (.func 35) #[.pointer (some ⟨g, 0, none⟩)] #[], .func (.func 36) #[.pointer (some ⟨g, 0, none⟩)] #[]] 50)).heap.size := by simp
  clear hs h1 hg cF0 cF1 hk
  go_wp2_with fail
  generalize w1.alloc (.cells #[.func (.func 35) #[.pointer (some ⟨g, 0, none⟩)] #[], .func (.func 36) #[.pointer (some ⟨g, 0, none⟩)] #[]] 50) = w2 at *
  have hz02 := HB2.out.size
  clear HB1
  generalize w1.heap.size = fb at *
  have HG2 := Lib.hid (show w2.grownBy w2 (some g) from ⟨rfl, rfl, rfl, Nat.le_refl _, fun _ _ _ => rfl⟩)
  go_loopw [19] (fun iv wq => ∃ i : Nat, iv = .int .i64 (i : Int) ∧ i ≤ n ∧ Hid (L5.StateOf wq g bt (flatM R i) ∧ w2.grownBy wq (some g))) (fun iv _ => n - (intOf iv).toNat)
  case atStart => exact ⟨0, rfl, Nat.zero_le _, HS1.out, HG2.out⟩
  case round =>
    obtain ⟨i, rfl, hi, hI⟩ := hrel
    have HST := Lib.hid hI.out.1
    have HG := Lib.hid hI.out.2
    have cF0 := (World.cell?_of_block (a := ⟨fb, 0, none⟩) (HG.out.block fb hfs (fun e => by have := Option.some.inj e; omega))).trans CF0.out
    have cF1 := (World.cell?_of_block (a := ⟨fb, 1, none⟩) (HG.out.block fb hfs (fun e => by have := Option.some.inj e; omega))).trans CF1.out
    clear hI
    by_cases hlt : i < n
    · have tn : decide (i < n) = true := by simp; omega
      obtain ⟨b, off, rfl, hbk, hc⟩ := HR.out.cells (by omega)
      have HBW := Lib.hid (HB2.out.grown HG.out HB2.out.size (fun r e => by cases e; exact HGW.out))
      have hci := (World.cell?_of_block (a := ⟨b, off + i, none⟩) (HBW.out.block b hbk)).trans (hc i hlt)
      have he := HR.out.each i hlt
      have HEL := Lib.hid (show flatM R (i + 1) = flatM R i ++ (R i).2.2.2 from rfl)
      have HLN := Lib.hid (flatM_len HR.out i (by omega))
      obtain ⟨⟨ra, rl, rc, l⟩, hri⟩ : ∃ r, r = R i := ⟨_, rfl⟩
      rw [← hri] at hci he HEL
      dsimp only at hci he HEL
      have HE := Lib.hid he
      have hrl := he.2.2
      clear hc he hri
      go_wp2_with fail
      refine (L5.write_any g bt (flatM R i) l ra rl rc wr HST.out hbt0 (HE.out.1.below HBW.out) HE.out.2.1 (by have := HLN.out; omega) (fun hp ad e => by
        subst e
        obtain ⟨b', off', e, hb', -⟩ := HE.out.1.cells hp
        cases e
        have := HGW.out
        exact Nat.ne_of_lt (Nat.lt_of_lt_of_le hb' this))).mono ?_
      rintro e w6 ⟨rfl, hs6, hg6⟩
      rw [← HEL.out] at hs6
      have HS6 := Lib.hid hs6
      have HG6 := Lib.hid (grown_trans HG.out hg6)
      clear hs6 hg6 hci cF0 cF1
      go_wp2
      go_roundw
      case rel => exact ⟨i + 1, by go_num, by omega, HS6.out, HG6.out⟩
      case measure => simp [intOf] <;> omega
    · have hin : i = n := by omega
      have tn : decide (i < n) = false := by simp; omega
      have HBW := Lib.hid (HB2.out.grown HG.out HB2.out.size (fun r e => by cases e; exact HGW.out))
      subst hin
      clear hlt
      go_wp2_with fail
      refine (L5.sum_any g bt (flatM R i) wr HST.out HBT.out).mono ?_
      rintro e w7 ⟨⟨⟨ad, cc⟩, rfl, h7, h8⟩, h9⟩
      try dsimp only at h7 h8
      have H7 := Lib.hid h7
      have HB7 := Lib.hid (HBW.out.trans (h9.mono HBW.out.size))
      have had : w.heap.size ≤ ad.block := Nat.le_trans HBW.out.size h8
      clear h7 h8 h9 cF0 cF1
      go_wp2
      go_ret2
      exact ⟨⟨ad, _, rfl, H7.out, had⟩, HB7.out⟩

end Go.Proofs.YtmfjhgjplmpecaaDoor

namespace Go.Proofs.YtmfjhgjplmpecaaDoor
open Go.RowKit Go.Shelf
set_option maxRecDepth 100000

theorem sum_yes (h : Nat) (hh : IsHash h) (a : Option Addr) (n cap : Nat) (R : Nat → Option Addr × Nat × Nat × List Nat) (w : World) (hk : Kinds w) (hR : RowsM w a n R) (hn : n ≤ 1000) :
    Calls Tryd.prog 10 #[.int .i64 (h : Int), .slice a n cap] w fun e w' => (∃ ad c, e = .returned (.tuple #[.slice (some ad) (mSize h) c, .int .i64 0]) ∧ Reads .u8 w' (some ad) (mSize h) c (mHash h (flatM R n)) ∧ w.heap.size ≤ ad.block) ∧ Below w.heap.size w w' := by
  rcases hh with rfl | rfl | rfl | rfl
  · exact sum_A 1 224 (.inl ⟨rfl, rfl⟩) a n cap R w hk hR hn
  · exact sum_A 2 256 (.inr ⟨rfl, rfl⟩) a n cap R w hk hR hn
  · exact sum_B 3 384 (.inl ⟨rfl, rfl⟩) a n cap R w hk hR hn
  · exact sum_B 4 512 (.inr ⟨rfl, rfl⟩) a n cap R w hk hR hn
theorem open_no (h : Int) (hn : h < 1 ∨ 4 < h) (w : World) : Calls Tryd.prog 26 #[.int .i64 h] w fun e w' => e = .returned (.tuple #[.agg #[.nilFunc, .nilFunc], .bool false]) ∧ Below w.heap.size w w' := by
  go_enter Tryd.func26, Tryd.ntmps26
  go_wp2_with fail
  refine (known_noM h hn _).mono ?_
  rintro e w1 ⟨rfl, h1⟩
  have hz1 : w.heap.size + 1 ≤ w1.heap.size := by have := h1.size; simpa using this
  have B1 := Lib.hid (((Below.refl w.heap.size w).alloc (Nat.le_refl _) (.cells #[.nilFunc, .nilFunc] 50)).trans (h1.mono (by simp)))
  have c0 : w1.cell? ⟨w.heap.size, 0, none⟩ = some .nilFunc := (h1.cell (p := ⟨w.heap.size, 0, none⟩) (by simp)).trans (by simp)
  have c1 : w1.cell? ⟨w.heap.size, 1, none⟩ = some .nilFunc := (h1.cell (p := ⟨w.heap.size, 1, none⟩) (by simp)).trans (by simp)
  have f0 : w1.frozen? ⟨w.heap.size, 0, none⟩ = false := (h1.frozen (p := ⟨w.heap.size, 0, none⟩) (by simp)).trans (by simp)
  have f1 : w1.frozen? ⟨w.heap.size, 1, none⟩ = false := (h1.frozen (p := ⟨w.heap.size, 1, none⟩) (by simp)).trans (by simp)
  clear h1 hn
  have hz1' : w.heap.size < w1.heap.size := by omega
  go_wp2
  refine bodyPost_ret (v := .tuple #[.agg #[.nilFunc, .nilFunc], .bool false]) ?_ rfl ⟨rfl, ?_⟩
  · rw [results_cell_tmp rfl]
    go_simp
  · have h := B1.out
    have hs := h.size
    (repeat' (first | exact h | exact (h.setCell (p := ⟨w.heap.size, 0, none⟩) (Nat.le_refl _) _).setCell (p := ⟨w.heap.size, 1, none⟩) (Nat.le_refl _) _ | exact ((h.alloc hs _).setCell (p := ⟨w.heap.size, 0, none⟩) (Nat.le_refl _) _).setCell (p := ⟨w.heap.size, 1, none⟩) (Nat.le_refl _) _ | refine Below.drew ?_ | refine Below.alloc ?_ (by first | omega | (simp; omega)) _))
theorem sum_no (h : Int) (hn : h < 1 ∨ 4 < h) (a : Option Addr) (n cap : Nat) (w : World) : Calls Tryd.prog 10 #[.int .i64 h, .slice a n cap] w fun e w' => e = .returned (.tuple #[.slice none 0 0, .int .i64 80]) ∧ Below w.heap.size w w' := by
  go_enter Tryd.func10, Tryd.ntmps10
  go_wp2_with fail
  refine (open_no h hn w).mono ?_
  rintro e w1 ⟨rfl, h1⟩
  have H1 := Lib.hid h1
  clear h1 hn
  go_wp2
  go_ret2
  exact ⟨rfl, H1.out.alloc H1.out.size _⟩
theorem mHash_byt {h : Nat} (hh : IsHash h) (m : List Nat) : Byt (mHash h m) := by
  rcases hh with rfl | rfl | rfl | rfl
  · exact hashN_lt 224 m
  · exact hashN_lt 256 m
  · exact L5.hashN_lt 384 m
  · exact L5.hashN_lt 512 m

end Go.Proofs.YtmfjhgjplmpecaaDoor
