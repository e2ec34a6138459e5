/-
  HOUR: THE CALENDAR, AND THE WALKS OF number, leap, Long AND year.
-/
import Derived.Test.YtholkbgkkfndhaaDoorHour2
import Derived.Deep.QuietTactic
import Derived.BigQuiet
import Derived.WalkSmall
namespace Go.Proofs.YtholkbgkkfndhaaDoor
open Go.RowKit

/-- The days from the first day of 1970 to a date, as the program counts them. -/
def numN (y m d : Int) : Int :=
  if m < 3 then 365 * (y - 1) + (y - 1) / 4 - (y - 1) / 100 + (y - 1) / 400 + (153 * (m - 3 + 12) + 2) / 5 + d - 1 - 719468
  else 365 * y + y / 4 - y / 100 + y / 400 + (153 * (m - 3) + 2) / 5 + d - 1 - 719468

def leapB (y : Int) : Bool := (decide (y % 4 = 0) && !decide (y % 100 = 0)) || decide (y % 400 = 0)
def longN (y m : Int) : Int := if m = 2 then (if leapB y then 29 else 28) else if m = 4 ∨ m = 6 ∨ m = 9 ∨ m = 11 then 30 else 31
def yearN (y : Int) : Int := if leapB y then 366 else 365

theorem leapB_iff (y : Int) : leapB y = true ↔ (y % 4 = 0 ∧ ¬ y % 100 = 0) ∨ y % 400 = 0 := by simp [leapB]

theorem num_day (y m d : Int) : numN y m d = numN y m 1 + (d - 1) := by
  unfold numN
  split <;> omega

theorem num_month (y m : Int) (h1 : 1 ≤ m) (h2 : m < 12) : numN y (m + 1) 1 = numN y m 1 + longN y m := by
  have hm : m = 1 ∨ m = 2 ∨ m = 3 ∨ m = 4 ∨ m = 5 ∨ m = 6 ∨ m = 7 ∨ m = 8 ∨ m = 9 ∨ m = 10 ∨ m = 11 := by omega
  have hl := leapB_iff y
  unfold numN longN
  rcases hm with rfl | rfl | rfl | rfl | rfl | rfl | rfl | rfl | rfl | rfl | rfl
  all_goals
    cases hb : leapB y <;> simp [hb] at hl ⊢ <;> omega

theorem num_year (y : Int) : numN (y + 1) 1 1 = numN y 1 1 + yearN y := by
  have hl := leapB_iff y
  unfold numN yearN
  cases hb : leapB y <;> simp [hb] at hl ⊢ <;> omega

theorem num_last (y : Int) : numN (y + 1) 1 1 = numN y 12 1 + 31 := by
  unfold numN
  simp
  omega

theorem num_first : numN 1970 1 1 = 0 := by decide

theorem leap_any (y : Int) (w : World) (h : 1970 ≤ y) (h2 : y ≤ 10000) : Calls Tryd.prog 54 #[.int .i64 y] w fun e w' => e = .returned (.bool (leapB y)) ∧ w' = w := by
  have e4 : y.tmod 4 = y % 4 := Int.tmod_eq_emod_of_nonneg (by omega)
  have e100 : y.tmod 100 = y % 100 := Int.tmod_eq_emod_of_nonneg (by omega)
  have e400 : y.tmod 400 = y % 400 := Int.tmod_eq_emod_of_nonneg (by omega)
  by_cases c1 : y % 4 = 0
  · by_cases c2 : y % 100 = 0
    · have hr := Lib.hid (show leapB y = decide (y % 400 = 0) by simp [leapB, c1, c2])
      go_enter Tryd.func54, Tryd.ntmps54
      go_wp2
      go_ret
      exact ⟨by rw [hr.out]; rfl, rfl⟩
    · have hr := Lib.hid (show leapB y = true by simp [leapB, c1, c2])
      go_enter Tryd.func54, Tryd.ntmps54
      go_wp2
      go_ret
      exact ⟨by rw [hr.out]; rfl, rfl⟩
  · have hr := Lib.hid (show leapB y = decide (y % 400 = 0) by simp [leapB, c1])
    go_enter Tryd.func54, Tryd.ntmps54
    go_wp2
    go_ret
    exact ⟨by rw [hr.out]; rfl, rfl⟩

theorem number_any (y m d : Int) (w : World) (hy : 1970 ≤ y) (hy2 : y ≤ 10000) (hm : 1 ≤ m) (hm2 : m ≤ 12) (hd : -100 ≤ d) (hd2 : d ≤ 100) :
    Calls Tryd.prog 31 #[acc y m d] w fun e w' => e = .returned (.int .i64 (numN y m d)) ∧ Below w.heap.size w w' := by
  have hb := ((Below.refl w.heap.size w).alloc (Nat.le_refl _) (.cells #[.int .i64 y, .int .i64 m, .int .i64 d] 51))
  have HB := Lib.hid hb
  clear hb
  by_cases h3 : m < 3
  · have hr := Lib.hid (show numN y m d = 365 * (y - 1) + (y - 1) / 4 - (y - 1) / 100 + (y - 1) / 400 + (153 * (m - 3 + 12) + 2) / 5 + d - 1 - 719468 from if_pos h3)
    go_enter Tryd.func31, Tryd.ntmps31
    go_wp2
    go_quiet (fail)
    go_wp2
    go_ret
    exact ⟨by rw [hr.out]; rfl, below_drewN HB.out nq⟩
  · have hr := Lib.hid (show numN y m d = 365 * y + y / 4 - y / 100 + y / 400 + (153 * (m - 3) + 2) / 5 + d - 1 - 719468 from if_neg h3)
    have h4 : 0 ≤ m - 3 := by omega
    clear h3
    go_enter Tryd.func31, Tryd.ntmps31
    go_wp2
    go_quiet (fail)
    go_wp2
    go_ret
    exact ⟨by rw [hr.out]; rfl, below_drewN HB.out nq⟩

theorem year_any (y : Int) (w : World) (h : 1970 ≤ y) (h2 : y ≤ 10000) : Calls Tryd.prog 40 #[.int .i64 y] w fun e w' => e = .returned (.int .i64 (yearN y)) ∧ w' = w := by
  cases hb : leapB y with
  | true =>
    have hr := Lib.hid (show yearN y = 366 by rw [yearN, hb]; rfl)
    go_enter Tryd.func40, Tryd.ntmps40
    go_wp2_with fail
    refine (leap_any y _ h h2).mono ?_
    rintro e w' ⟨rfl, rfl⟩
    rw [hb]
    go_wp2
    go_ret
    exact ⟨by rw [hr.out]; rfl, rfl⟩
  | false =>
    have hr := Lib.hid (show yearN y = 365 by rw [yearN, hb]; rfl)
    go_enter Tryd.func40, Tryd.ntmps40
    go_wp2_with fail
    refine (leap_any y _ h h2).mono ?_
    rintro e w' ⟨rfl, rfl⟩
    rw [hb]
    go_wp2
    go_ret
    exact ⟨by rw [hr.out]; rfl, rfl⟩

/-- The date of a day. -/
def IsDate (n y m d : Int) : Prop := 1970 ≤ y ∧ 1 ≤ m ∧ m ≤ 12 ∧ 1 ≤ d ∧ d ≤ longN y m ∧ numN y m d = n

theorem longN_ge (y m : Int) : 28 ≤ longN y m ∧ longN y m ≤ 31 := by
  unfold longN
  split
  · split <;> omega
  · split <;> omega

theorem num_mono (y z : Int) (h : 1970 ≤ y) (hyz : y < z) : numN (y + 1) 1 1 ≤ numN z 1 1 := by
  unfold numN
  simp
  omega

end Go.Proofs.YtholkbgkkfndhaaDoor
