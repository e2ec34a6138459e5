/-
  WHAT THE BYTES OF A TAG HAVE TO BE: the small ones, walked.
-/
import Derived.Test.YtkmphiakciihfaaDoorRows
import Derived.Test.YtkmphiakciihfaaDoorTrA
import Derived.Deep.QuietTactic
import Derived.BigQuiet
namespace Go.Proofs.YtkmphiakciihfaaDoor
open Go.RowKit

/-- The i-th byte. -/
def gN (l : List Nat) (i : Nat) : Nat := l[i]?.getD 0

theorem gN_lt {l : List Nat} (h : ∀ x ∈ l, x < 256) (i : Nat) : gN l i < 256 := by
  unfold gN
  by_cases hi : i < l.length
  · rw [List.getElem?_eq_getElem hi]; exact h _ (List.getElem_mem _)
  · rw [List.getElem?_eq_none (by omega)]; decide

def intB (l : List Nat) : Bool := if l.length < 2 then decide (l.length = 1) else (decide (gN l 0 ≠ 0) && decide (gN l 0 ≠ 255)) || decide (gN l 0 / 128 ≠ gN l 1 / 128)

theorem ret_bool {a b : Bool} (h : a = b) : Ending.returned (.bool a) = .returned (.bool b) := by rw [h]
theorem shr7 (x : Nat) : x >>> 7 = x / 128 := Nat.shiftRight_eq_div_pow x 7

set_option maxHeartbeats 400000 in
theorem isInt_any (a : Option Addr) (len cap : Nat) (l : List Nat) (w : World) (h : Reads .u8 w a len cap l) (hx : ∀ x ∈ l, x < 256) :
    Calls Tryd.prog 48 #[.slice a len cap] w fun e w' => e = .returned (.bool (intB l)) ∧ ∃ n, w' = w.drewN n := by
  have hm := h.len_le
  unfold maxLen at hm
  have hl := Lib.hid h.length
  by_cases h2 : len < 2
  · have hI : intB l = decide (len = 1) := by unfold intB; rw [hl.out, if_pos h2]
    have HI := Lib.hid hI
    clear hI
    by_cases h1 : len = 1
    · subst h1
      go_enter Tryd.func48, Tryd.ntmps48
      go_wp2
      go_ret
      exact ⟨ret_bool (by rw [HI.out]; rfl), 0, rfl⟩
    · obtain rfl : len = 0 := by omega
      go_enter Tryd.func48, Tryd.ntmps48
      go_wp2
      go_ret
      exact ⟨ret_bool (by rw [HI.out]; rfl), 0, rfl⟩
  · obtain ⟨b, off, rfl, hlt, hc⟩ := h.cells (by omega)
    have c0 : w.cell? ⟨b, off, none⟩ = _ := hc 0 (by omega)
    have c1 := hc 1 (by omega)
    have hp0 : 0 < len := by omega
    have hp1 : 1 < len := by omega
    have x0 := gN_lt hx 0
    have x1 := gN_lt hx 1
    have hI : intB l = ((decide (gN l 0 ≠ 0) && decide (gN l 0 ≠ 255)) || decide (gN l 0 / 128 ≠ gN l 1 / 128)) := by unfold intB; rw [hl.out, if_neg h2]
    have HI := Lib.hid hI
    have e0 : (l[0]?.getD 0) = gN l 0 := rfl
    have e1 : (l[1]?.getD 0) = gN l 1 := rfl
    simp only [e0] at c0
    simp only [e1] at c1
    clear hI hc e0 e1
    generalize gN l 0 = u at *
    generalize gN l 1 = v at *
    have hv : Hid (v < 256) := x1
    by_cases h0 : u = 0
    · have g0 : ((u : Int) != 0) = false := by simp; omega
      go_enter Tryd.func48, Tryd.ntmps48
      go_wp2
      go_big_quiet (fail)
      go_wp2
      go_ret
      exact ⟨ret_bool (by rw [HI.out, h0, Bool.eq_iff_iff]; simp; omega), nq, rfl⟩
    · have g0 : ((u : Int) != 0) = true := by simp; omega
      by_cases h5 : u = 255
      · have g5 : ((u : Int) != 255) = false := by simp; omega
        go_enter Tryd.func48, Tryd.ntmps48
        go_wp2
        go_big_quiet (fail)
        go_wp2
        go_ret
        exact ⟨ret_bool (by rw [HI.out, h5, Bool.eq_iff_iff]; simp; omega), nq, rfl⟩
      · have g5 : ((u : Int) != 255) = true := by simp; omega
        go_enter Tryd.func48, Tryd.ntmps48
        go_wp2
        go_big_quiet (fail)
        go_wp2
        go_ret
        exact ⟨ret_bool (by rw [HI.out]; simp [h0, h5]), nq, rfl⟩

/-- TagBool's bytes. -/
def boolB (l : List Nat) : Bool := decide (l.length = 1) && (decide (gN l 0 = 0) || decide (gN l 0 = 255))

theorem bool_any (a : Option Addr) (len cap : Nat) (l : List Nat) (w : World) (h : Reads .u8 w a len cap l) (hx : ∀ x ∈ l, x < 256) :
    Calls Tryd.prog 75 #[.slice a len cap] w fun e w' => e = .returned (.bool (boolB l)) ∧ w = w' := by
  have hm := h.len_le
  unfold maxLen at hm
  have hl := Lib.hid h.length
  by_cases h1 : len = 1
  · obtain ⟨b, off, rfl, hlt, hc⟩ := h.cells (by omega)
    have c0 : w.cell? ⟨b, off, none⟩ = _ := hc 0 (by omega)
    have x0 := gN_lt hx 0
    have hp0 : 0 < len := by omega
    have HI := Lib.hid (show boolB l = (decide (gN l 0 = 0) || decide (gN l 0 = 255)) by unfold boolB; rw [hl.out, h1]; rfl)
    have e0 : (l[0]?.getD 0) = gN l 0 := rfl
    simp only [e0] at c0
    have g1 : ((len : Int) == 1) = true := by simp; omega
    clear hc e0
    have H1 := Lib.hid h1
    clear h1
    generalize gN l 0 = u at *
    by_cases h0 : u = 0
    · have g0 : ((u : Int) == 0) = true := by simp; omega
      go_enter Tryd.func75, Tryd.ntmps75
      go_wp2
      go_ret
      exact ⟨ret_bool (by rw [HI.out]; simp [h0]), rfl⟩
    · have g0 : ((u : Int) == 0) = false := by simp; omega
      go_enter Tryd.func75, Tryd.ntmps75
      go_wp2
      go_ret
      refine ⟨ret_bool (by rw [HI.out]; simp [h0]; try (by_cases h5 : u = 255 <;> simp [h5] <;> omega)), rfl⟩
  · have HI := Lib.hid (show boolB l = false by unfold boolB; rw [hl.out]; simp [h1])
    have g1 : ((len : Int) == 1) = false := by simp; omega
    go_enter Tryd.func75, Tryd.ntmps75
    go_wp2
    go_ret
    exact ⟨ret_bool (by rw [HI.out]), rfl⟩

theorem bytes_any_t (v : Value) (w : World) : Calls Tryd.prog 77 #[v] w fun e w' => e = .returned (.bool true) ∧ w = w' := by
  go_enter Tryd.func77, Tryd.ntmps77
  go_wp2
  go_ret
  exact ⟨rfl, rfl⟩

theorem null_any (a : Option Addr) (len cap : Nat) (l : List Nat) (w : World) (h : Reads .u8 w a len cap l) :
    Calls Tryd.prog 78 #[.slice a len cap] w fun e w' => e = .returned (.bool (decide (l.length = 0))) ∧ w = w' := by
  have hl := Lib.hid h.length
  go_enter Tryd.func78, Tryd.ntmps78
  go_wp2
  go_ret
  exact ⟨ret_bool (by rw [hl.out, Bool.eq_iff_iff]; simp), rfl⟩

end Go.Proofs.YtkmphiakciihfaaDoor
