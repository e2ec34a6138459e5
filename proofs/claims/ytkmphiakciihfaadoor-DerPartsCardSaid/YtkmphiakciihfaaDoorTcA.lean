/-
  WHAT THE BYTES OF A TAG HAVE TO BE: numbers of an identifier; digits.
-/
import Derived.Test.YtkmphiakciihfaaDoorTrC
namespace Go.Proofs.YtkmphiakciihfaaDoor
open Go.RowKit

/-- The rest of an identifier's bytes, where a number begins or goes on. -/
def oidR : Bool → List Nat → Bool
  | b, [] => b
  | b, x :: xs => if b = true ∧ x = 128 then false else oidR (decide (x < 128)) xs
def oidB (l : List Nat) : Bool := decide (0 < l.length) && oidR true l

structure OidI (w : World) (l : List Nat) (k : Nat) (b : Bool) (wr : World) : Prop where
  same : oidR b (l.drop k) = oidR true l
  world : wr = w

set_option maxHeartbeats 1000000 in
theorem isOid_any (a : Option Addr) (len cap : Nat) (l : List Nat) (w : World) (h : Reads .u8 w a len cap l) (hx : ∀ x ∈ l, x < 256) :
    Calls Tryd.prog 79 #[.slice a len cap] w fun e w' => e = .returned (.bool (oidB l)) ∧ w' = w := by
  have hm := h.len_le
  unfold maxLen at hm
  have hl := Lib.hid h.length
  have HC := Lib.hid h.cells
  have HX := Lib.hid hx
  clear h hx
  go_enter Tryd.func79, Tryd.ntmps79
  go_wp2_with fail
  go_loopw [8, 3] (fun i s wr => ∃ (k : Nat) (b : Bool), k ≤ len ∧ i = .int .i64 (k : Int) ∧ s = .bool b ∧ OidI w l k b wr) (fun i _ _ => len - (intOf i).toNat)
  case atStart => exact ⟨0, true, Nat.zero_le _, rfl, rfl, rfl, rfl⟩
  case round =>
    obtain ⟨k, b, hk, rfl, rfl, hr⟩ := hrel
    have hw := hr.world
    subst hw
    have HS := Lib.hid hr.same
    clear hr
    by_cases hlt : k < len
    · obtain ⟨g, off, rfl, hg, hc⟩ := HC.out (by omega)
      have ck := hc k hlt
      have hkl : k < l.length := by rw [hl.out]; exact hlt
      obtain ⟨x, hxe⟩ : ∃ x, l[k] = x := ⟨_, rfl⟩
      have e0 : (l[k]?.getD 0) = x := by rw [List.getElem?_eq_getElem hkl, ← hxe]; rfl
      rw [e0] at ck
      have HD := Lib.hid (show l.drop k = x :: l.drop (k + 1) by rw [List.drop_eq_getElem_cons hkl, hxe])
      have h256 : x < 256 := by rw [← hxe]; exact HX.out _ (List.getElem_mem _)
      clear hc e0 hxe
      by_cases hb : b = true ∧ x = 128
      · obtain ⟨rfl, rfl⟩ := hb
        have HF := Lib.hid (show oidR true l = false by rw [← HS.out, HD.out, oidR, if_pos ⟨rfl, rfl⟩])
        go_wp2_with fail
        go_ret
        exact ⟨ret_bool (by unfold oidB; rw [HF.out, Bool.and_false]), rfl⟩
      · have HN := Lib.hid (show oidR (decide (x < 128)) (l.drop (k + 1)) = oidR true l by rw [← HS.out, HD.out, oidR, if_neg hb])
        cases b with
        | false =>
          clear hb
          go_wp2_with fail
          go_roundw
          case rel => exact ⟨k + 1, decide (x < 128), by omega, by go_num, congrArg Value.bool (decide_eq_decide.2 (by omega)), HN.out, rfl⟩
          case measure => simp [intOf]; omega
        | true =>
          have hx9 : x ≠ 128 := fun e => hb ⟨rfl, e⟩
          have hne : ((x : Int) == 128) = false := by simp; omega
          clear hb hx9
          go_wp2_with fail
          go_roundw
          case rel => exact ⟨k + 1, decide (x < 128), by omega, by go_num, congrArg Value.bool (decide_eq_decide.2 (by omega)), HN.out, rfl⟩
          case measure => simp [intOf]; omega
    · obtain rfl : k = len := by omega
      have HF := Lib.hid (show b = oidR true l by rw [← HS.out, List.drop_of_length_le (by rw [hl.out]; exact Nat.le_refl _), oidR])
      clear hlt
      by_cases h0 : 0 < k
      · have HP := Lib.hid (show oidB l = b by unfold oidB; rw [hl.out, ← HF.out, decide_eq_true h0, Bool.true_and])
        go_wp2_with fail
        go_ret
        exact ⟨ret_bool HP.out.symm, rfl⟩
      · have HP := Lib.hid (show oidB l = false by unfold oidB; rw [hl.out, decide_eq_false h0, Bool.false_and])
        go_wp2_with fail
        go_ret
        exact ⟨ret_bool HP.out.symm, rfl⟩

/-- A digit. -/
def digB (x : Nat) : Bool := decide (48 ≤ x) && decide (x ≤ 57)
theorem isDigit_any (x : Nat) (hx : x < 256) (w : World) : Calls Tryd.prog 97 #[.int .u8 (x : Nat)] w fun e w' => e = .returned (.bool (digB x)) ∧ w' = w := by
  by_cases h : 48 ≤ x
  · have HD := Lib.hid (show digB x = decide (x ≤ 57) by unfold digB; rw [decide_eq_true h, Bool.true_and])
    go_enter Tryd.func97, Tryd.ntmps97
    go_wp2_with fail
    go_ret
    exact ⟨ret_bool (by rw [HD.out, Bool.eq_iff_iff]; simp <;> omega), rfl⟩
  · have HD := Lib.hid (show digB x = false by unfold digB; rw [decide_eq_false h, Bool.false_and])
    go_enter Tryd.func97, Tryd.ntmps97
    go_wp2_with fail
    go_ret
    exact ⟨ret_bool HD.out.symm, rfl⟩

theorem ia5_any (x : Nat) (hx : x < 256) (w : World) : Calls Tryd.prog 83 #[.int .u8 (x : Nat)] w fun e w' => e = .returned (.bool (decide (x < 128))) ∧ w' = w := by
  go_enter Tryd.func83, Tryd.ntmps83
  go_wp2_with fail
  go_ret
  exact ⟨ret_bool (by rw [Bool.eq_iff_iff]; simp <;> omega), rfl⟩

end Go.Proofs.YtkmphiakciihfaaDoor
