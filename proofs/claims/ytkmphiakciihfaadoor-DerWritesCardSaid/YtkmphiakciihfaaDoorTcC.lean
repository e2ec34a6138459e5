/-
  WHAT THE BYTES OF A TAG HAVE TO BE: bits.
-/
import Derived.Test.YtkmphiakciihfaaDoorTcAB
namespace Go.Proofs.YtkmphiakciihfaaDoor
open Go.RowKit

def bitsB (l : List Nat) : Bool := if l.length = 0 ∨ 7 < gN l 0 ∨ (l.length = 1 ∧ gN l 0 ≠ 0) then false else decide (l.length = 1) || decide (gN l (l.length - 1) % 2 ^ gN l 0 = 0)

set_option maxRecDepth 100000 in
theorem and_0 : ∀ X : Fin 256, bits .and .u8 ((X.val : Nat) : Int) 0 = ((X.val % 1 : Nat) : Int) := by decide
set_option maxRecDepth 100000 in
theorem and_1 : ∀ X : Fin 256, bits .and .u8 ((X.val : Nat) : Int) 1 = ((X.val % 2 : Nat) : Int) := by decide
set_option maxRecDepth 100000 in
theorem and_2 : ∀ X : Fin 256, bits .and .u8 ((X.val : Nat) : Int) 3 = ((X.val % 4 : Nat) : Int) := by decide
set_option maxRecDepth 100000 in
theorem and_3 : ∀ X : Fin 256, bits .and .u8 ((X.val : Nat) : Int) 7 = ((X.val % 8 : Nat) : Int) := by decide
set_option maxRecDepth 100000 in
theorem and_4 : ∀ X : Fin 256, bits .and .u8 ((X.val : Nat) : Int) 15 = ((X.val % 16 : Nat) : Int) := by decide
set_option maxRecDepth 100000 in
theorem and_5 : ∀ X : Fin 256, bits .and .u8 ((X.val : Nat) : Int) 31 = ((X.val % 32 : Nat) : Int) := by decide
set_option maxRecDepth 100000 in
theorem and_6 : ∀ X : Fin 256, bits .and .u8 ((X.val : Nat) : Int) 63 = ((X.val % 64 : Nat) : Int) := by decide
set_option maxRecDepth 100000 in
theorem and_7 : ∀ X : Fin 256, bits .and .u8 ((X.val : Nat) : Int) 127 = ((X.val % 128 : Nat) : Int) := by decide

set_option maxHeartbeats 4000000 in
theorem isBits_any (a : Option Addr) (len cap : Nat) (l : List Nat) (w : World) (h : Reads .u8 w a len cap l) (hx : ∀ x ∈ l, x < 256) :
    Calls Tryd.prog 76 #[.slice a len cap] w fun e w' => e = .returned (.bool (bitsB l)) ∧ ∃ n, w' = w.drewN n := by
  have hm := h.len_le
  unfold maxLen at hm
  have hl := Lib.hid h.length
  by_cases h0 : len = 0
  · subst h0
    have HI := Lib.hid (show bitsB l = false by unfold bitsB; rw [if_pos (.inl hl.out)])
    go_enter Tryd.func76, Tryd.ntmps76
    go_wp2_with fail
    go_ret
    exact ⟨ret_bool HI.out.symm, 0, rfl⟩
  · obtain ⟨b, off, rfl, hlt, hc⟩ := h.cells (by omega)
    have c0 : w.cell? ⟨b, off, none⟩ = _ := hc 0 (by omega)
    have c1 := hc (len - 1) (by omega)
    have hp0 : 0 < len := by omega
    have x0 := gN_lt hx 0
    have x1 := gN_lt hx (len - 1)
    have hI : bitsB l = if 7 < gN l 0 ∨ (len = 1 ∧ gN l 0 ≠ 0) then false else decide (len = 1) || decide (gN l (len - 1) % 2 ^ gN l 0 = 0) := by
      unfold bitsB
      rw [hl.out]
      simp only [h0, false_or]
    have HI := Lib.hid hI
    have e0 : (l[0]?.getD 0) = gN l 0 := rfl
    have e1 : (l[len - 1]?.getD 0) = gN l (len - 1) := rfl
    simp only [e0] at c0
    simp only [e1] at c1
    have hsub : ((len : Int) - 1) = ((len - 1 : Nat) : Int) := by omega
    have hne1 : (len - 1) < len := by omega
    clear hI hc e0 e1 h hx h0
    generalize gN l 0 = u at *
    generalize gN l (len - 1) = x at *
    by_cases h7 : 7 < u
    · have HF := Lib.hid (show bitsB l = false by rw [HI.out, if_pos (.inl h7)])
      clear c1 HI
      go_enter Tryd.func76, Tryd.ntmps76
      go_wp2_with fail
      go_ret
      exact ⟨ret_bool HF.out.symm, 0, rfl⟩
    · have d7 : decide (7 < (u : Int)) = false := decide_eq_false (by omega)
      by_cases h1 : len = 1
      · subst h1
        by_cases hu : u = 0
        · subst hu
          have HF := Lib.hid (show bitsB l = true by rw [HI.out, if_neg (by omega)]; rfl)
          clear c1 HI
          go_enter Tryd.func76, Tryd.ntmps76
          go_wp2
          go_big_quiet (fail)
          go_wp2
          go_ret
          exact ⟨ret_bool HF.out.symm, nq, rfl⟩
        · have gu : ((u : Int) != 0) = true := by simp; omega
          have HF := Lib.hid (show bitsB l = false by rw [HI.out, if_pos (.inr ⟨rfl, hu⟩)])
          clear c1 HI hu
          go_enter Tryd.func76, Tryd.ntmps76
          go_wp2_with fail
          go_ret
          exact ⟨ret_bool HF.out.symm, 0, rfl⟩
      · have g1 : ((len : Int) == 1) = false := by simp; omega
        have HF := Lib.hid (show bitsB l = decide (x % 2 ^ u = 0) by rw [HI.out, if_neg (by omega), decide_eq_false h1, Bool.false_or])
        have HX := Lib.hid x1
        have hcases : u = 0 ∨ u = 1 ∨ u = 2 ∨ u = 3 ∨ u = 4 ∨ u = 5 ∨ u = 6 ∨ u = 7 := by omega
        clear HI h7 h1 d7
        rcases hcases with rfl | rfl | rfl | rfl | rfl | rfl | rfl | rfl

        · have ha := and_0 ⟨x, HX.out⟩
          dsimp only at ha
          go_enter Tryd.func76, Tryd.ntmps76
          go_wp2
          go_big_quiet (fail)
          go_wp2
          go_ret
          exact ⟨ret_bool (by rw [HF.out, Bool.eq_iff_iff]; simp <;> omega), nq, rfl⟩
        · have ha := and_1 ⟨x, HX.out⟩
          dsimp only at ha
          go_enter Tryd.func76, Tryd.ntmps76
          go_wp2
          go_big_quiet (fail)
          go_wp2
          go_ret
          exact ⟨ret_bool (by rw [HF.out, Bool.eq_iff_iff]; simp <;> omega), nq, rfl⟩
        · have ha := and_2 ⟨x, HX.out⟩
          dsimp only at ha
          go_enter Tryd.func76, Tryd.ntmps76
          go_wp2
          go_big_quiet (fail)
          go_wp2
          go_ret
          exact ⟨ret_bool (by rw [HF.out, Bool.eq_iff_iff]; simp <;> omega), nq, rfl⟩
        · have ha := and_3 ⟨x, HX.out⟩
          dsimp only at ha
          go_enter Tryd.func76, Tryd.ntmps76
          go_wp2
          go_big_quiet (fail)
          go_wp2
          go_ret
          exact ⟨ret_bool (by rw [HF.out, Bool.eq_iff_iff]; simp <;> omega), nq, rfl⟩
        · have ha := and_4 ⟨x, HX.out⟩
          dsimp only at ha
          go_enter Tryd.func76, Tryd.ntmps76
          go_wp2
          go_big_quiet (fail)
          go_wp2
          go_ret
          exact ⟨ret_bool (by rw [HF.out, Bool.eq_iff_iff]; simp <;> omega), nq, rfl⟩
        · have ha := and_5 ⟨x, HX.out⟩
          dsimp only at ha
          go_enter Tryd.func76, Tryd.ntmps76
          go_wp2
          go_big_quiet (fail)
          go_wp2
          go_ret
          exact ⟨ret_bool (by rw [HF.out, Bool.eq_iff_iff]; simp <;> omega), nq, rfl⟩
        · have ha := and_6 ⟨x, HX.out⟩
          dsimp only at ha
          go_enter Tryd.func76, Tryd.ntmps76
          go_wp2
          go_big_quiet (fail)
          go_wp2
          go_ret
          exact ⟨ret_bool (by rw [HF.out, Bool.eq_iff_iff]; simp <;> omega), nq, rfl⟩
        · have ha := and_7 ⟨x, HX.out⟩
          dsimp only at ha
          go_enter Tryd.func76, Tryd.ntmps76
          go_wp2
          go_big_quiet (fail)
          go_wp2
          go_ret
          exact ⟨ret_bool (by rw [HF.out, Bool.eq_iff_iff]; simp <;> omega), nq, rfl⟩

end Go.Proofs.YtkmphiakciihfaaDoor
