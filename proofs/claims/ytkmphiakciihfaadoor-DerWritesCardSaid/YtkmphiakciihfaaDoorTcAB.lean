/-
  Texts of ours, one behind the other: TcA TcB
-/
import Derived.Test.YtkmphiakciihfaaDoorTrC

namespace Go.Proofs.YtkmphiakciihfaaDoor
open Go.RowKit

/-- The rest of an identifier's bytes, where a number begins or goes on. -/
def oidR : Bool → List Nat → Bool
  | b, [] => b
  | b, x :: xs => if b = true ∧ x = 128 then false else oidR (decide (x < 128)) xs
def oidB (l : List Nat) : Bool := decide (0 < l.length) && oidR true l

structure OidI (w : World) (l : List Nat) (k : Nat) (b : Bool) (wr : World) : Prop where
  same : oidR b (l.drop k) = oidR true l
  world : wr = w

set_option maxHeartbeats 1000000 in
theorem isOid_any (a : Option Addr) (len cap : Nat) (l : List Nat) (w : World) (h : Reads .u8 w a len cap l) (hx : ∀ x ∈ l, x < 256) :
    Calls Tryd.prog 79 #[.slice a len cap] w fun e w' => e = .returned (.bool (oidB l)) ∧ w' = w := by
  have hm := h.len_le
  unfold maxLen at hm
  have hl := Lib.hid h.length
  have HC := Lib.hid h.cells
  have HX := Lib.hid hx
  clear h hx
  go_enter Tryd.func79, Tryd.ntmps79
  go_wp2_with fail
  go_loopw [8, 3] (fun i s wr => ∃ (k : Nat) (b : Bool), k ≤ len ∧ i = .int .i64 (k : Int) ∧ s = .bool b ∧ OidI w l k b wr) (fun i _ _ => len - (intOf i).toNat)
  case atStart => exact ⟨0, true, Nat.zero_le _, rfl, rfl, rfl, rfl⟩
  case round =>
    obtain ⟨k, b, hk, rfl, rfl, hr⟩ := hrel
    have hw := hr.world
    subst hw
    have HS := Lib.hid hr.same
    clear hr
    by_cases hlt : k < len
    · obtain ⟨g, off, rfl, hg, hc⟩ := HC.out (by omega)
      have ck := hc k hlt
      have hkl : k < l.length := by rw [hl.out]; exact hlt
      obtain ⟨x, hxe⟩ : ∃ x, l[k] = x := ⟨_, rfl⟩
      have e0 : (l[k]?.getD 0) = x := by rw [List.getElem?_eq_getElem hkl, ← hxe]; rfl
      rw [e0] at ck
      have HD := Lib.hid (show l.drop k = x :: l.drop (k + 1) by rw [List.drop_eq_getElem_cons hkl, hxe])
      have h256 : x < 256 := by rw [← hxe]; exact HX.out _ (List.getElem_mem _)
      clear hc e0 hxe
      by_cases hb : b = true ∧ x = 128
      · obtain ⟨rfl, rfl⟩ := hb
        have HF := Lib.hid (show oidR true l = false by rw [← HS.out, HD.out, oidR, if_pos ⟨rfl, rfl⟩])
        go_wp2_with fail
        go_ret
        exact ⟨ret_bool (by unfold oidB; rw [HF.out, Bool.and_false]), rfl⟩
      · have HN := Lib.hid (show oidR (decide (x < 128)) (l.drop (k + 1)) = oidR true l by rw [← HS.out, HD.out, oidR, if_neg hb])
        cases b with
        | false =>
          clear hb
          go_wp2_with fail
          go_roundw
          case rel => exact ⟨k + 1, decide (x < 128), by omega, by go_num, congrArg Value.bool (decide_eq_decide.2 (by omega)), HN.out, rfl⟩
          case measure => simp [intOf]; omega
        | true =>
          have hx9 : x ≠ 128 := fun e => hb ⟨rfl, e⟩
          have hne : ((x : Int) == 128) = false := by simp; omega
          clear hb hx9
          go_wp2_with fail
          go_roundw
          case rel => exact ⟨k + 1, decide (x < 128), by omega, by go_num, congrArg Value.bool (decide_eq_decide.2 (by omega)), HN.out, rfl⟩
          case measure => simp [intOf]; omega
    · obtain rfl : k = len := by omega
      have HF := Lib.hid (show b = oidR true l by rw [← HS.out, List.drop_of_length_le (by rw [hl.out]; exact Nat.le_refl _), oidR])
      clear hlt
      by_cases h0 : 0 < k
      · have HP := Lib.hid (show oidB l = b by unfold oidB; rw [hl.out, ← HF.out, decide_eq_true h0, Bool.true_and])
        go_wp2_with fail
        go_ret
        exact ⟨ret_bool HP.out.symm, rfl⟩
      · have HP := Lib.hid (show oidB l = false by unfold oidB; rw [hl.out, decide_eq_false h0, Bool.false_and])
        go_wp2_with fail
        go_ret
        exact ⟨ret_bool HP.out.symm, rfl⟩

/-- A digit. -/
def digB (x : Nat) : Bool := decide (48 ≤ x) && decide (x ≤ 57)
theorem isDigit_any (x : Nat) (hx : x < 256) (w : World) : Calls Tryd.prog 97 #[.int .u8 (x : Nat)] w fun e w' => e = .returned (.bool (digB x)) ∧ w' = w := by
  by_cases h : 48 ≤ x
  · have HD := Lib.hid (show digB x = decide (x ≤ 57) by unfold digB; rw [decide_eq_true h, Bool.true_and])
    go_enter Tryd.func97, Tryd.ntmps97
    go_wp2_with fail
    go_ret
    exact ⟨ret_bool (by rw [HD.out, Bool.eq_iff_iff]; simp <;> omega), rfl⟩
  · have HD := Lib.hid (show digB x = false by unfold digB; rw [decide_eq_false h, Bool.false_and])
    go_enter Tryd.func97, Tryd.ntmps97
    go_wp2_with fail
    go_ret
    exact ⟨ret_bool HD.out.symm, rfl⟩

theorem ia5_any (x : Nat) (hx : x < 256) (w : World) : Calls Tryd.prog 83 #[.int .u8 (x : Nat)] w fun e w' => e = .returned (.bool (decide (x < 128))) ∧ w' = w := by
  go_enter Tryd.func83, Tryd.ntmps83
  go_wp2_with fail
  go_ret
  exact ⟨ret_bool (by rw [Bool.eq_iff_iff]; simp <;> omega), rfl⟩

end Go.Proofs.YtkmphiakciihfaaDoor

namespace Go.Proofs.YtkmphiakciihfaaDoor
open Go.RowKit

structure EacI (w : World) (p : Nat → Bool) (l : List Nat) (k : Nat) (wr : World) : Prop where
  same : (l.drop k).all p = l.all p
  world : wr = w

set_option maxHeartbeats 1000000 in
theorem each_any (g : Nat) (p : Nat → Bool) (hE : ∀ args W, (callFunc g args).run Tryd.prog W = .ok (.enter g args) W) (hg : ∀ (x : Nat) (W : World), x < 256 → Calls Tryd.prog g #[.int .u8 (x : Nat)] W fun e w' => e = .returned (.bool (p x)) ∧ w' = W)
    (a : Option Addr) (len cap : Nat) (l : List Nat) (w : World) (B : Nat) (hB : w.cell? ⟨B, 0, none⟩ = some (.func (.func g) #[] #[])) (h : Reads .u8 w a len cap l) (hx : ∀ x ∈ l, x < 256) :
    Calls Tryd.prog 96 #[.slice a len cap, .pointer (some ⟨B, 0, none⟩)] w fun e w' => e = .returned (.bool (l.all p)) ∧ w' = w := by
  have hm := h.len_le
  unfold maxLen at hm
  have hl := Lib.hid h.length
  have HC := Lib.hid h.cells
  have HX := Lib.hid hx
  have HG := Lib.hid hg
  clear h hx hg
  go_enter Tryd.func96, Tryd.ntmps96
  go_wp2_with fail
  go_loopw [8] (fun i wr => ∃ (k : Nat), k ≤ len ∧ i = .int .i64 (k : Int) ∧ EacI w p l k wr) (fun i _ => len - (intOf i).toNat)
  case atStart => exact ⟨0, Nat.zero_le _, rfl, rfl, rfl⟩
  case round =>
    obtain ⟨k, hk, rfl, hr⟩ := hrel
    have hw := hr.world
    subst hw
    have HS := Lib.hid hr.same
    clear hr
    by_cases hlt : k < len
    · obtain ⟨b, off, rfl, hb, hc⟩ := HC.out (by omega)
      have ck := hc k hlt
      have hkl : k < l.length := by rw [hl.out]; exact hlt
      obtain ⟨x, hxe⟩ : ∃ x, l[k] = x := ⟨_, rfl⟩
      have e0 : (l[k]?.getD 0) = x := by rw [List.getElem?_eq_getElem hkl, ← hxe]; rfl
      rw [e0] at ck
      have HD := Lib.hid (show (l.drop k).all p = (p x && (l.drop (k + 1)).all p) by rw [List.drop_eq_getElem_cons hkl, hxe, List.all_cons])
      have HCX := Lib.hid (HG.out x wr (by rw [← hxe]; exact HX.out _ (List.getElem_mem _)))
      clear hc e0 hxe
      go_wp2_with fail
      refine HCX.out.mono ?_
      rintro e w' ⟨rfl, hw'⟩
      obtain rfl : wr = w' := hw'.symm
      clear HCX
      cases hp : p x with
      | false =>
        have HF := Lib.hid (show l.all p = false by rw [← HS.out, HD.out, hp, Bool.false_and])
        clear hp
        go_wp2_with fail
        go_ret
        exact ⟨ret_bool HF.out.symm, rfl⟩
      | true =>
        have HF := Lib.hid (show (l.drop (k + 1)).all p = l.all p by rw [← HS.out, HD.out, hp, Bool.true_and])
        clear hp
        go_wp2_with fail
        go_roundw
        case rel => exact ⟨k + 1, by omega, by go_num, HF.out, rfl⟩
        case measure => simp [intOf]; omega
    · obtain rfl : k = len := by omega
      have HF := Lib.hid (show l.all p = true by rw [← HS.out, List.drop_of_length_le (by rw [hl.out]; exact Nat.le_refl _)]; rfl)
      clear hlt
      go_wp2_with fail
      go_ret
      exact ⟨ret_bool HF.out.symm, rfl⟩

theorem eachf_any (g : Nat) (w : World) : Calls Tryd.prog 81 #[.func (.func g) #[] #[]] w fun e w' => e = .returned (.func (.func 96) #[] #[.pointer (some ⟨w.heap.size, 0, none⟩)]) ∧ w' = w.alloc (.cells #[.func (.func g) #[] #[]] 102) := by
  go_enter Tryd.func81, Tryd.ntmps81
  go_wp2_with fail
  go_ret
  exact ⟨rfl, rfl⟩

/-- A month's days. -/
def daysI (y m : Int) : Int := if m = 2 then (if Int.tmod y 4 = 0 ∧ (Int.tmod y 100 ≠ 0 ∨ Int.tmod y 400 = 0) then 29 else 28) else if m = 4 ∨ m = 6 ∨ m = 9 ∨ m = 11 then 30 else 31
theorem ret_i64c {a b : Int} (h : a = b) : Ending.returned (.int .i64 a) = .returned (.int .i64 b) := by rw [h]

set_option maxHeartbeats 2000000 in
theorem days_any (y m : Int) (hy : 0 ≤ y) (hy2 : y ≤ 100000) (w : World) : Calls Tryd.prog 107 #[.int .i64 y, .int .i64 m] w fun e w' => e = .returned (.int .i64 (daysI y m)) ∧ w' = w := by
  by_cases h2 : m = 2
  · subst h2
    have HD := Lib.hid (show daysI y 2 = (if Int.tmod y 4 = 0 ∧ (Int.tmod y 100 ≠ 0 ∨ Int.tmod y 400 = 0) then 29 else 28) by unfold daysI; rw [if_pos rfl])
    obtain ⟨p, hp⟩ : ∃ p, Int.tmod y 4 = p := ⟨_, rfl⟩
    obtain ⟨q, hq⟩ : ∃ q, Int.tmod y 100 = q := ⟨_, rfl⟩
    obtain ⟨r, hr⟩ : ∃ r, Int.tmod y 400 = r := ⟨_, rfl⟩
    rw [hp, hq, hr] at HD
    by_cases c1 : p = 0
    · have g1 : (p == 0) = true := by simpa using c1
      by_cases c2 : q = 0
      · have g2 : (q != 0) = false := by simpa using c2
        by_cases c3 : r = 0
        · have g3 : (r == 0) = true := by simpa using c3
          have HE := Lib.hid (show daysI y 2 = 29 by rw [HD.out, if_pos ⟨c1, .inr c3⟩])
          clear c1 c2 c3 HD
          go_enter Tryd.func107, Tryd.ntmps107
          go_wp2_with fail
          go_ret
          exact ⟨ret_i64c HE.out.symm, rfl⟩
        · have g3 : (r == 0) = false := by simpa using c3
          have HE := Lib.hid (show daysI y 2 = 28 by rw [HD.out, if_neg (fun h => h.2.elim (fun h => h c2) c3)])
          clear c1 c2 c3 HD
          go_enter Tryd.func107, Tryd.ntmps107
          go_wp2_with fail
          go_ret
          exact ⟨ret_i64c HE.out.symm, rfl⟩
      · have g2 : (q != 0) = true := by simpa using c2
        have HE := Lib.hid (show daysI y 2 = 29 by rw [HD.out, if_pos ⟨c1, .inl c2⟩])
        clear c1 c2 HD
        go_enter Tryd.func107, Tryd.ntmps107
        go_wp2_with fail
        go_ret
        exact ⟨ret_i64c HE.out.symm, rfl⟩
    · have g1 : (p == 0) = false := by simpa using c1
      have HE := Lib.hid (show daysI y 2 = 28 by rw [HD.out, if_neg (fun h => c1 h.1)])
      clear c1 HD
      go_enter Tryd.func107, Tryd.ntmps107
      go_wp2_with fail
      go_ret
      exact ⟨ret_i64c HE.out.symm, rfl⟩
  · have g2 : (m == 2) = false := by simpa using h2
    by_cases h4 : m = 4 ∨ m = 6 ∨ m = 9 ∨ m = 11
    · have HE := Lib.hid (show daysI y m = 30 by unfold daysI; rw [if_neg h2, if_pos h4])
      clear h2 g2
      rcases h4 with rfl | rfl | rfl | rfl
      all_goals
        go_enter Tryd.func107, Tryd.ntmps107
        go_wp2_with fail
        go_ret
        exact ⟨ret_i64c HE.out.symm, rfl⟩
    · have HE := Lib.hid (show daysI y m = 31 by unfold daysI; rw [if_neg h2, if_neg h4])
      have e4 : (m == 4) = false := by simp; omega
      have e6 : (m == 6) = false := by simp; omega
      have e9 : (m == 9) = false := by simp; omega
      have e11 : (m == 11) = false := by simp; omega
      clear h2 h4
      go_enter Tryd.func107, Tryd.ntmps107
      go_wp2_with fail
      go_ret
      exact ⟨ret_i64c HE.out.symm, rfl⟩

/-- The number of two digits. -/
def twoN (l : List Nat) : Int := 10 * ((gN l 0 : Int) - 48) + ((gN l 1 : Int) - 48)
set_option maxHeartbeats 1000000 in
theorem two_any (a : Option Addr) (len cap : Nat) (l : List Nat) (w : World) (h : Reads .u8 w a len cap l) (h2 : 2 ≤ len) (d0 : 48 ≤ gN l 0 ∧ gN l 0 ≤ 57) (d1 : 48 ≤ gN l 1 ∧ gN l 1 ≤ 57) :
    Calls Tryd.prog 99 #[.slice a len cap] w fun e w' => e = .returned (.int .i64 (twoN l)) ∧ ∃ n, w' = w.drewN n := by
  have hm := h.len_le
  unfold maxLen at hm
  obtain ⟨b, off, rfl, hlt, hc⟩ := h.cells (by omega)
  have c0 : w.cell? ⟨b, off, none⟩ = _ := hc 0 (by omega)
  have c1 := hc 1 (by omega)
  have hp0 : 0 < len := by omega
  have hp1 : 1 < len := by omega
  have HT := Lib.hid (show twoN l = 10 * ((gN l 0 : Int) - 48) + ((gN l 1 : Int) - 48) from rfl)
  have e0 : (l[0]?.getD 0) = gN l 0 := rfl
  have e1 : (l[1]?.getD 0) = gN l 1 := rfl
  simp only [e0] at c0
  simp only [e1] at c1
  clear hc e0 e1 h
  generalize gN l 0 = u at *
  generalize gN l 1 = v at *
  obtain ⟨u1, u2⟩ := d0
  obtain ⟨v1, v2⟩ := d1
  go_enter Tryd.func99, Tryd.ntmps99
  go_wp2
  go_big_quiet (fail)
  go_wp2
  go_ret
  exact ⟨ret_i64c (by rw [HT.out]), nq, rfl⟩

end Go.Proofs.YtkmphiakciihfaaDoor
