/-
  WHAT THE BYTES OF A TAG HAVE TO BE: a date and a time.
-/
import Derived.Test.YtkmphiakciihfaaDoorTcAB
import Derived.Deep.Cut
namespace Go.Proofs.YtkmphiakciihfaaDoor
open Go.RowKit

theorem Reads.dropT {q : IntKind} {w : World} {b off len cap k : Nat} {l : List Nat} (h : Reads q w (some ⟨b, off, .none⟩) len cap l) (hk : k < len) : Reads q w (some ⟨b, off + k, .none⟩) (len - k) (cap - k) (l.drop k) := by
  obtain ⟨b', off', hb, hlt, hc⟩ := h.cells (by omega)
  cases hb
  refine ⟨by rw [List.length_drop, h.length], by have := h.le; omega, by have := h.max; omega, (fun h => by cases h), fun _ => ⟨b, off + k, rfl, hlt, fun i hi => ?_⟩⟩
  rw [show off + k + i = off + (k + i) from by omega, hc (k + i) (by omega), List.getElem?_drop]

/-- Digits, so far. -/
def Digs (l : List Nat) (n : Nat) : Prop := ∀ i, i < n → 48 ≤ gN l i ∧ gN l i ≤ 57
theorem gN_drop (l : List Nat) (k i : Nat) : gN (l.drop k) i = gN l (k + i) := by unfold gN; rw [List.getElem?_drop]
theorem Digs.drop {l : List Nat} {n k m : Nat} (h : Digs l n) (hm : k + m ≤ n) : Digs (l.drop k) m := fun i hi => by rw [gN_drop]; exact h _ (by omega)
theorem twoN_lt {l : List Nat} (h : Digs l 2) : 0 ≤ twoN l ∧ twoN l ≤ 99 := by
  have := h 0 (by decide)
  have := h 1 (by decide)
  unfold twoN
  omega

theorem two_at {b off len cap : Nat} {l : List Nat} {w : World} (k : Nat) (h : Reads .u8 w (some ⟨b, off, none⟩) len cap l) (hk : k + 2 ≤ len) (hd : Digs l (k + 2)) :
    Calls Tryd.prog 99 #[.slice (some ⟨b, off + k, none⟩) (len - k) (cap - k)] w fun e w' => e = .returned (.int .i64 (twoN (l.drop k))) ∧ ∃ n, w' = w.drewN n :=
  two_any _ _ _ _ w (h.dropT (by omega)) (by omega) (hd.drop (m := 2) (by omega) 0 (by decide)) (hd.drop (m := 2) (by omega) 1 (by decide))
theorem two_at0 {b off len cap : Nat} {l : List Nat} {w : World} (h : Reads .u8 w (some ⟨b, off, none⟩) len cap l) (hk : 2 ≤ len) (hd : Digs l 2) :
    Calls Tryd.prog 99 #[.slice (some ⟨b, off, none⟩) len cap] w fun e w' => e = .returned (.int .i64 (twoN l)) ∧ ∃ n, w' = w.drewN n :=
  two_any _ _ _ _ w h hk (hd 0 (by decide)) (hd 1 (by decide))

/-- Is there such a date and time? -/
def momB (y : Int) (l : List Nat) : Bool := decide (1 ≤ twoN l) && decide (twoN l ≤ 12) && decide (1 ≤ twoN (l.drop 2)) && decide (twoN (l.drop 2) ≤ daysI y (twoN l)) && decide (twoN (l.drop 4) < 24) && decide (twoN (l.drop 6) < 60) && decide (twoN (l.drop 8) < 60)

set_option maxHeartbeats 8000000 in
set_option maxRecDepth 100000 in
theorem moment_any (y : Int) (hy : 0 ≤ y) (hy2 : y ≤ 100000) (a : Option Addr) (len cap : Nat) (l : List Nat) (w : World) (h : Reads .u8 w a len cap l) (hlen : 10 ≤ len) (hd : Digs l 10) :
    Calls Tryd.prog 100 #[.int .i64 y, .slice a len cap] w fun e w' => e = .returned (.bool (momB y l)) ∧ ∃ n, w' = w.drewN n := by
  have hm := h.len_le
  have hmx := h.max
  have hle := h.le
  unfold maxLen at hm hmx
  obtain ⟨b, off, rfl, hlt, -⟩ := h.cells (by omega)
  have HR := Lib.hid h
  have HD := Lib.hid hd
  have HL := Lib.hid hlen
  have HT0 := Lib.hid (fun n : Nat => two_at0 (h.drewN n) (by omega) (fun i hi => hd i (by omega)))
  have HT2 := Lib.hid (fun n : Nat => two_at 2 (h.drewN n) (by omega) (fun i hi => hd i (by omega)))
  have HT4 := Lib.hid (fun n : Nat => two_at 4 (h.drewN n) (by omega) (fun i hi => hd i (by omega)))
  have HT6 := Lib.hid (fun n : Nat => two_at 6 (h.drewN n) (by omega) (fun i hi => hd i (by omega)))
  have HT8 := Lib.hid (fun n : Nat => two_at 8 (h.drewN n) (by omega) (fun i hi => hd i (by omega)))
  have HY := Lib.hid (And.intro hy hy2)
  have HM := Lib.hid (show momB y l = (decide (1 ≤ twoN l) && decide (twoN l ≤ 12) && decide (1 ≤ twoN (l.drop 2)) && decide (twoN (l.drop 2) ≤ daysI y (twoN l)) && decide (twoN (l.drop 4) < 24) && decide (twoN (l.drop 6) < 60) && decide (twoN (l.drop 8) < 60)) from rfl)
  have HDY := Lib.hid (fun W : World => days_any y (twoN l) hy hy2 W)
  generalize daysI y (twoN l) = dd at *
  generalize momB y l = ans at *
  generalize twoN l = M at *
  generalize twoN (l.drop 2) = D at *
  generalize twoN (l.drop 4) = hh at *
  generalize twoN (l.drop 6) = mm at *
  generalize twoN (l.drop 8) = ss at *
  clear h hd hlen
  have hl10 : 10 ≤ len := HL.out
  go_enter Tryd.func100, Tryd.ntmps100
  go_wp2_with fail
  refine wp_region_quiet_lit (by kernel_rfl) (by kernel_rfl) ?_
  go_big_quiet_step (fail)
  go_big_quiet_step (exact Calls.quiet_of (HT0.out _))
  go_big_quiet_step (fail)
  go_big_quiet_step (fail)
  go_big_quiet_step (exact Calls.quiet_of (HT2.out _))
  go_big_quiet_step (fail)
  go_big_quiet_step (fail)
  refine wpQuiet_nil ?_
  intro _ hw1
  obtain ⟨nq, hw2⟩ := hw1
  subst hw2
  go_upto_region 2 with fail
  by_cases c0 : 1 ≤ M
  · skip
    by_cases c1 : M ≤ 12
    · skip
      by_cases c2 : 1 ≤ D
      · skip
        by_cases c3 : D ≤ dd
        · skip
          by_cases c4 : hh < 24
          · skip
            by_cases c5 : mm < 60
            · skip
              by_cases c6 : ss < 60
              · skip
                have HF := Lib.hid (show ans = true by rw [HM.out, decide_eq_true c0, decide_eq_true c1, decide_eq_true c2, decide_eq_true c3, decide_eq_true c4, decide_eq_true c5, decide_eq_true c6]; rfl)
                go_wp2_with fail
                refine (HDY.out _).mono ?_
                rintro e w' ⟨rfl, rfl⟩
                go_wp2_with fail
                refine (HT4.out _).mono ?_
                rintro e w' ⟨rfl, n4, rfl⟩
                rw [World.drewN_drewN]
                go_wp2_with fail
                refine (HT6.out _).mono ?_
                rintro e w' ⟨rfl, n5, rfl⟩
                rw [World.drewN_drewN]
                go_wp2_with fail
                refine (HT8.out _).mono ?_
                rintro e w' ⟨rfl, n6, rfl⟩
                rw [World.drewN_drewN]
                go_wp2_with fail
                go_ret
                exact ⟨ret_bool HF.out.symm, _, rfl⟩
              · have HF := Lib.hid (show ans = false by rw [HM.out, decide_eq_false c6]; simp)
                go_wp2_with fail
                refine (HDY.out _).mono ?_
                rintro e w' ⟨rfl, rfl⟩
                go_wp2_with fail
                refine (HT4.out _).mono ?_
                rintro e w' ⟨rfl, n4, rfl⟩
                rw [World.drewN_drewN]
                go_wp2_with fail
                refine (HT6.out _).mono ?_
                rintro e w' ⟨rfl, n5, rfl⟩
                rw [World.drewN_drewN]
                go_wp2_with fail
                refine (HT8.out _).mono ?_
                rintro e w' ⟨rfl, n6, rfl⟩
                rw [World.drewN_drewN]
                go_wp2_with fail
                go_ret
                exact ⟨ret_bool (by rw [HF.out]; exact decide_eq_false (by omega)), _, rfl⟩
            · have HF := Lib.hid (show ans = false by rw [HM.out, decide_eq_false c5]; simp)
              go_wp2_with fail
              refine (HDY.out _).mono ?_
              rintro e w' ⟨rfl, rfl⟩
              go_wp2_with fail
              refine (HT4.out _).mono ?_
              rintro e w' ⟨rfl, n4, rfl⟩
              rw [World.drewN_drewN]
              go_wp2_with fail
              refine (HT6.out _).mono ?_
              rintro e w' ⟨rfl, n5, rfl⟩
              rw [World.drewN_drewN]
              go_wp2_with fail
              go_ret
              exact ⟨ret_bool HF.out.symm, _, rfl⟩
          · have HF := Lib.hid (show ans = false by rw [HM.out, decide_eq_false c4]; simp)
            go_wp2_with fail
            refine (HDY.out _).mono ?_
            rintro e w' ⟨rfl, rfl⟩
            go_wp2_with fail
            refine (HT4.out _).mono ?_
            rintro e w' ⟨rfl, n4, rfl⟩
            rw [World.drewN_drewN]
            go_wp2_with fail
            go_ret
            exact ⟨ret_bool HF.out.symm, _, rfl⟩
        · have HF := Lib.hid (show ans = false by rw [HM.out, decide_eq_false c3]; simp)
          go_wp2_with fail
          refine (HDY.out _).mono ?_
          rintro e w' ⟨rfl, rfl⟩
          go_wp2_with fail
          go_ret
          exact ⟨ret_bool HF.out.symm, _, rfl⟩
      · have HF := Lib.hid (show ans = false by rw [HM.out, decide_eq_false c2]; simp)
        go_wp2_with fail
        go_ret
        exact ⟨ret_bool HF.out.symm, _, rfl⟩
    · have HF := Lib.hid (show ans = false by rw [HM.out, decide_eq_false c1]; simp)
      go_wp2_with fail
      go_ret
      exact ⟨ret_bool HF.out.symm, _, rfl⟩
  · have HF := Lib.hid (show ans = false by rw [HM.out, decide_eq_false c0]; simp)
    go_wp2_with fail
    go_ret
    exact ⟨ret_bool HF.out.symm, _, rfl⟩

end Go.Proofs.YtkmphiakciihfaaDoor
