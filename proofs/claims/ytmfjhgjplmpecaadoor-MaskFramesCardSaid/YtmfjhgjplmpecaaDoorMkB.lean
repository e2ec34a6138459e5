/-
  Layer 8: known, Size, Name. (Written by wip/gen_mkB.py.)
-/
import Derived.Test.YtmfjhgjplmpecaaDoorMkA
import Derived.Laws.ResultCell
namespace Go.Proofs.YtmfjhgjplmpecaaDoor
open Go.RowKit

/-- A hash's row of the table, as a value. -/
def kindV (h : Nat) : Value := .agg #[.string (strOf (mName h)), .int .i64 (mSize h : Int), .int .u8 (mMark h : Int)]
def IsHash (h : Nat) : Prop := h = 1 ∨ h = 2 ∨ h = 3 ∨ h = 4
theorem isHash_lt {h : Nat} (hh : IsHash h) : 1 ≤ h ∧ h ≤ 4 := by unfold IsHash at hh; omega
theorem mSize_le {h : Nat} (hh : IsHash h) : 28 ≤ mSize h ∧ mSize h ≤ 64 := by rcases hh with rfl | rfl | rfl | rfl <;> decide

theorem known_yesM (h : Nat) (hh : IsHash h) (w : World) (hk : Kinds w) : Calls Tryd.prog 29 #[.int .i64 (h : Int)] w fun e w' => e = .returned (.tuple #[kindV h, .bool true]) ∧ Below w.heap.size w w' := by
  rcases hh with rfl | rfl | rfl | rfl
  · have c0 : w.cell? ⟨0, 0, none⟩ = some (.string (strOf [115, 104, 97, 50, 50, 52])) := hk 0 (by decide)
    have c1 : w.cell? ⟨0, 1, none⟩ = some (.int .i64 28) := hk 1 (by decide)
    have c2 : w.cell? ⟨0, 2, none⟩ = some (.int .u8 4) := hk 2 (by decide)
    have hlt := hk.lt
    clear hk
    go_enter Tryd.func29, Tryd.ntmps29
    go_wp2
    refine bodyPost_ret (v := .tuple #[kindV 1, .bool true]) ?_ rfl ⟨rfl, ?_⟩
    · rw [results_cell_tmp rfl]
      go_simp
      rfl
    · (repeat' (first | exact Below.refl _ _ | refine Below.drew ?_ | refine Below.alloc ?_ (by simp <;> omega) _))
  · have c0 : w.cell? ⟨0, 3, none⟩ = some (.string (strOf [115, 104, 97, 50, 53, 54])) := hk 3 (by decide)
    have c1 : w.cell? ⟨0, 4, none⟩ = some (.int .i64 32) := hk 4 (by decide)
    have c2 : w.cell? ⟨0, 5, none⟩ = some (.int .u8 1) := hk 5 (by decide)
    have hlt := hk.lt
    clear hk
    go_enter Tryd.func29, Tryd.ntmps29
    go_wp2
    refine bodyPost_ret (v := .tuple #[kindV 2, .bool true]) ?_ rfl ⟨rfl, ?_⟩
    · rw [results_cell_tmp rfl]
      go_simp
      rfl
    · (repeat' (first | exact Below.refl _ _ | refine Below.drew ?_ | refine Below.alloc ?_ (by simp <;> omega) _))
  · have c0 : w.cell? ⟨0, 6, none⟩ = some (.string (strOf [115, 104, 97, 51, 56, 52])) := hk 6 (by decide)
    have c1 : w.cell? ⟨0, 7, none⟩ = some (.int .i64 48) := hk 7 (by decide)
    have c2 : w.cell? ⟨0, 8, none⟩ = some (.int .u8 2) := hk 8 (by decide)
    have hlt := hk.lt
    clear hk
    go_enter Tryd.func29, Tryd.ntmps29
    go_wp2
    refine bodyPost_ret (v := .tuple #[kindV 3, .bool true]) ?_ rfl ⟨rfl, ?_⟩
    · rw [results_cell_tmp rfl]
      go_simp
      rfl
    · (repeat' (first | exact Below.refl _ _ | refine Below.drew ?_ | refine Below.alloc ?_ (by simp <;> omega) _))
  · have c0 : w.cell? ⟨0, 9, none⟩ = some (.string (strOf [115, 104, 97, 53, 49, 50])) := hk 9 (by decide)
    have c1 : w.cell? ⟨0, 10, none⟩ = some (.int .i64 64) := hk 10 (by decide)
    have c2 : w.cell? ⟨0, 11, none⟩ = some (.int .u8 3) := hk 11 (by decide)
    have hlt := hk.lt
    clear hk
    go_enter Tryd.func29, Tryd.ntmps29
    go_wp2
    refine bodyPost_ret (v := .tuple #[kindV 4, .bool true]) ?_ rfl ⟨rfl, ?_⟩
    · rw [results_cell_tmp rfl]
      go_simp
      rfl
    · (repeat' (first | exact Below.refl _ _ | refine Below.drew ?_ | refine Below.alloc ?_ (by simp <;> omega) _))
theorem known_noM (h : Int) (hn : h < 1 ∨ 4 < h) (w : World) : Calls Tryd.prog 29 #[.int .i64 h] w fun e w' => e = .returned (.tuple #[.agg #[.string ⟨#[]⟩, .int .i64 0, .int .u8 0], .bool false]) ∧ Below w.heap.size w w' := by
  by_cases h1 : h < 1
  · have d1 : decide (h < 1) = true := by simpa using h1
    clear hn h1
    go_enter Tryd.func29, Tryd.ntmps29
    go_wp2
    refine bodyPost_ret (v := .tuple #[.agg #[.string ⟨#[]⟩, .int .i64 0, .int .u8 0], .bool false]) ?_ rfl ⟨rfl, ?_⟩
    · rw [results_cell_tmp rfl]
      go_simp
    · (repeat' (first | exact Below.refl _ _ | refine Below.drew ?_ | refine Below.alloc ?_ (by simp <;> omega) _))
  · have d1 : decide (h < 1) = false := by simpa using h1
    have d2 : decide (4 < h) = true := by simp; omega
    clear hn h1
    go_enter Tryd.func29, Tryd.ntmps29
    go_wp2
    refine bodyPost_ret (v := .tuple #[.agg #[.string ⟨#[]⟩, .int .i64 0, .int .u8 0], .bool false]) ?_ rfl ⟨rfl, ?_⟩
    · rw [results_cell_tmp rfl]
      go_simp
    · (repeat' (first | exact Below.refl _ _ | refine Below.drew ?_ | refine Below.alloc ?_ (by simp <;> omega) _))
theorem size_yes (h : Nat) (hh : IsHash h) (w : World) (hk : Kinds w) : Calls Tryd.prog 15 #[.int .i64 (h : Int)] w fun e w' => e = .returned (.int .i64 (mSize h : Int)) ∧ Below w.heap.size w w' := by
  go_enter Tryd.func15, Tryd.ntmps15
  go_wp2_with fail
  refine (known_yesM h hh w hk).mono ?_
  rintro e w1 ⟨rfl, h1⟩
  have H1 := Lib.hid h1
  clear h1
  unfold kindV
  go_wp2
  go_ret
  exact ⟨rfl, by have h := H1.out; have hs := h.size; (repeat' (first | exact h | refine Below.drew ?_ | refine Below.alloc ?_ (by first | omega | (simp; omega)) _))⟩
theorem size_no (h : Int) (hn : h < 1 ∨ 4 < h) (w : World) : Calls Tryd.prog 15 #[.int .i64 h] w fun e w' => e = .returned (.int .i64 0) ∧ Below w.heap.size w w' := by
  go_enter Tryd.func15, Tryd.ntmps15
  go_wp2_with fail
  refine (known_noM h hn w).mono ?_
  rintro e w1 ⟨rfl, h1⟩
  have H1 := Lib.hid h1
  clear h1
  go_wp2
  go_ret
  exact ⟨rfl, by have h := H1.out; have hs := h.size; (repeat' (first | exact h | refine Below.drew ?_ | refine Below.alloc ?_ (by first | omega | (simp; omega)) _))⟩
theorem name_yes (h : Nat) (hh : IsHash h) (w : World) (hk : Kinds w) : Calls Tryd.prog 17 #[.int .i64 (h : Int)] w fun e w' => e = .returned (.string (strOf (mName h))) ∧ Below w.heap.size w w' := by
  go_enter Tryd.func17, Tryd.ntmps17
  go_wp2_with fail
  refine (known_yesM h hh w hk).mono ?_
  rintro e w1 ⟨rfl, h1⟩
  have H1 := Lib.hid h1
  clear h1
  unfold kindV
  go_wp2
  go_ret
  exact ⟨rfl, by have h := H1.out; have hs := h.size; (repeat' (first | exact h | refine Below.drew ?_ | refine Below.alloc ?_ (by first | omega | (simp; omega)) _))⟩
theorem name_no (h : Int) (hn : h < 1 ∨ 4 < h) (w : World) : Calls Tryd.prog 17 #[.int .i64 h] w fun e w' => e = .returned (.string ⟨#[]⟩) ∧ Below w.heap.size w w' := by
  go_enter Tryd.func17, Tryd.ntmps17
  go_wp2_with fail
  refine (known_noM h hn w).mono ?_
  rintro e w1 ⟨rfl, h1⟩
  have H1 := Lib.hid h1
  clear h1
  go_wp2
  go_ret
  exact ⟨rfl, by have h := H1.out; have hs := h.size; (repeat' (first | exact h | refine Below.drew ?_ | refine Below.alloc ?_ (by first | omega | (simp; omega)) _))⟩

end Go.Proofs.YtmfjhgjplmpecaaDoor
