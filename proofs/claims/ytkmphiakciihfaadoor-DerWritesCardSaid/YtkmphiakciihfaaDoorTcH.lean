/-
  WHAT THE BYTES OF A TAG HAVE TO BE: what may be printed.
-/
import Derived.Test.YtkmphiakciihfaaDoorTcAB
import Derived.Test.YtkmphiakciihfaaDoorShelf
namespace Go.Proofs.YtkmphiakciihfaaDoor
open Go.RowKit

def marksP : List Nat := [32, 39, 40, 41, 43, 44, 45, 46, 47, 58, 61, 63]
def printB (x : Nat) : Bool := (decide (97 ≤ x) && decide (x ≤ 122)) || (decide (65 ≤ x) && decide (x ≤ 90)) || digB x || marksP.contains x

set_option maxRecDepth 100000 in
theorem mark_ix : ∀ X : Fin 256, decide (0 ≤ Lib.indexByte [32, 39, 40, 41, 43, 44, 45, 46, 47, 58, 61, 63] ((X.val : Nat) : Int).toNat.toUInt8) = marksP.contains X.val := by decide

set_option maxHeartbeats 4000000 in
theorem isPrint_any (x : Nat) (hx : x < 256) (w : World) : Calls Tryd.prog 82 #[.int .u8 (x : Nat)] w fun e w' => e = .returned (.bool (printB x)) ∧ w' = w := by
  have HX := Lib.hid hx
  have HD := Lib.hid (show printB x = ((decide (97 ≤ x) && decide (x ≤ 122)) || (decide (65 ≤ x) && decide (x ≤ 90)) || digB x || marksP.contains x) from rfl)
  obtain ⟨mk, hmk⟩ : ∃ mk, marksP.contains x = mk := ⟨_, rfl⟩
  have HM := Lib.hid (show decide (0 ≤ Lib.indexByte [32, 39, 40, 41, 43, 44, 45, 46, 47, 58, 61, 63] ((x : Nat) : Int).toNat.toUInt8) = mk from (mark_ix ⟨x, hx⟩).trans hmk)
  rw [hmk] at HD
  obtain ⟨dg, hdg⟩ : ∃ dg, digB x = dg := ⟨_, rfl⟩
  have HG := Lib.hid hdg
  rw [hdg] at HD
  clear hx hmk hdg
  by_cases a : 97 ≤ x
  · have a1 : decide (97 ≤ (x : Int)) = true := decide_eq_true (by omega)
    by_cases b : x ≤ 122
    · have b1 : decide ((x : Int) ≤ 122) = true := decide_eq_true (by omega)
      have HF := Lib.hid (show printB x = true by rw [HD.out, decide_eq_true a, decide_eq_true b]; rfl)
      clear a b
      go_enter Tryd.func82, Tryd.ntmps82
      go_wp2_with fail
      go_ret
      exact ⟨ret_bool HF.out.symm, rfl⟩
    · have b1 : decide ((x : Int) ≤ 122) = false := decide_eq_false (by omega)
      by_cases c : 65 ≤ x
      · have c1 : decide (65 ≤ (x : Int)) = true := decide_eq_true (by omega)
        by_cases d : x ≤ 90
        · have d1 : decide ((x : Int) ≤ 90) = true := decide_eq_true (by omega)
          have HF := Lib.hid (show printB x = true by rw [HD.out, decide_eq_true c, decide_eq_true d]; simp)
          clear c d
          go_enter Tryd.func82, Tryd.ntmps82
          go_wp2_with fail
          go_ret
          exact ⟨ret_bool HF.out.symm, rfl⟩
        · have d1 : decide ((x : Int) ≤ 90) = false := decide_eq_false (by omega)
          have HDD := Lib.hid (show printB x = (dg || mk) by rw [HD.out]; cases dg <;> cases mk <;> simp <;> omega)
          go_enter Tryd.func82, Tryd.ntmps82
          go_wp2_with fail
          refine (isDigit_any x HX.out w).mono ?_
          rintro e w' ⟨rfl, hw'⟩
          obtain rfl : w' = w := hw'
          rw [HG.out]
          cases dg with
          | true =>
            have HF := Lib.hid (show printB x = true by rw [HDD.out]; rfl)
            go_wp2_with fail
            go_ret
            exact ⟨ret_bool HF.out.symm, rfl⟩
          | false =>
            go_wp2_with fail
            refine (Tryd.strings_IndexByte _ _ _).mono ?_
            rintro e w2 ⟨rfl, hw2⟩
            obtain rfl : w2 = w' := hw2
            have HM2 := HM.out
            generalize Lib.indexByte _ _ = ix at *
            have HF := Lib.hid (show printB x = decide (0 ≤ ix) by rw [HDD.out, HM2]; cases mk <;> rfl)
            clear HM HM2
            go_wp2_with fail
            go_ret
            exact ⟨ret_bool HF.out.symm, rfl⟩
      · have c1 : decide (65 ≤ (x : Int)) = false := decide_eq_false (by omega)
        have HDD := Lib.hid (show printB x = (dg || mk) by rw [HD.out]; cases dg <;> cases mk <;> simp <;> omega)
        go_enter Tryd.func82, Tryd.ntmps82
        go_wp2_with fail
        refine (isDigit_any x HX.out w).mono ?_
        rintro e w' ⟨rfl, hw'⟩
        obtain rfl : w' = w := hw'
        rw [HG.out]
        cases dg with
        | true =>
          have HF := Lib.hid (show printB x = true by rw [HDD.out]; rfl)
          go_wp2_with fail
          go_ret
          exact ⟨ret_bool HF.out.symm, rfl⟩
        | false =>
          go_wp2_with fail
          refine (Tryd.strings_IndexByte _ _ _).mono ?_
          rintro e w2 ⟨rfl, hw2⟩
          obtain rfl : w2 = w' := hw2
          have HM2 := HM.out
          generalize Lib.indexByte _ _ = ix at *
          have HF := Lib.hid (show printB x = decide (0 ≤ ix) by rw [HDD.out, HM2]; cases mk <;> rfl)
          clear HM HM2
          go_wp2_with fail
          go_ret
          exact ⟨ret_bool HF.out.symm, rfl⟩
  · have a1 : decide (97 ≤ (x : Int)) = false := decide_eq_false (by omega)
    by_cases c : 65 ≤ x
    · have c1 : decide (65 ≤ (x : Int)) = true := decide_eq_true (by omega)
      by_cases d : x ≤ 90
      · have d1 : decide ((x : Int) ≤ 90) = true := decide_eq_true (by omega)
        have HF := Lib.hid (show printB x = true by rw [HD.out, decide_eq_true c, decide_eq_true d]; simp)
        clear c d
        go_enter Tryd.func82, Tryd.ntmps82
        go_wp2_with fail
        go_ret
        exact ⟨ret_bool HF.out.symm, rfl⟩
      · have d1 : decide ((x : Int) ≤ 90) = false := decide_eq_false (by omega)
        have HDD := Lib.hid (show printB x = (dg || mk) by rw [HD.out]; cases dg <;> cases mk <;> simp <;> omega)
        go_enter Tryd.func82, Tryd.ntmps82
        go_wp2_with fail
        refine (isDigit_any x HX.out w).mono ?_
        rintro e w' ⟨rfl, hw'⟩
        obtain rfl : w' = w := hw'
        rw [HG.out]
        cases dg with
        | true =>
          have HF := Lib.hid (show printB x = true by rw [HDD.out]; rfl)
          go_wp2_with fail
          go_ret
          exact ⟨ret_bool HF.out.symm, rfl⟩
        | false =>
          go_wp2_with fail
          refine (Tryd.strings_IndexByte _ _ _).mono ?_
          rintro e w2 ⟨rfl, hw2⟩
          obtain rfl : w2 = w' := hw2
          have HM2 := HM.out
          generalize Lib.indexByte _ _ = ix at *
          have HF := Lib.hid (show printB x = decide (0 ≤ ix) by rw [HDD.out, HM2]; cases mk <;> rfl)
          clear HM HM2
          go_wp2_with fail
          go_ret
          exact ⟨ret_bool HF.out.symm, rfl⟩
    · have c1 : decide (65 ≤ (x : Int)) = false := decide_eq_false (by omega)
      have HDD := Lib.hid (show printB x = (dg || mk) by rw [HD.out]; cases dg <;> cases mk <;> simp <;> omega)
      go_enter Tryd.func82, Tryd.ntmps82
      go_wp2_with fail
      refine (isDigit_any x HX.out w).mono ?_
      rintro e w' ⟨rfl, hw'⟩
      obtain rfl : w' = w := hw'
      rw [HG.out]
      cases dg with
      | true =>
        have HF := Lib.hid (show printB x = true by rw [HDD.out]; rfl)
        go_wp2_with fail
        go_ret
        exact ⟨ret_bool HF.out.symm, rfl⟩
      | false =>
        go_wp2_with fail
        refine (Tryd.strings_IndexByte _ _ _).mono ?_
        rintro e w2 ⟨rfl, hw2⟩
        obtain rfl : w2 = w' := hw2
        have HM2 := HM.out
        generalize Lib.indexByte _ _ = ix at *
        have HF := Lib.hid (show printB x = decide (0 ≤ ix) by rw [HDD.out, HM2]; cases mk <;> rfl)
        clear HM HM2
        go_wp2_with fail
        go_ret
        exact ⟨ret_bool HF.out.symm, rfl⟩

end Go.Proofs.YtkmphiakciihfaaDoor
