/-
  HOUR: a day has one date; Days AND Date.
-/
import Derived.Test.YtholkbgkkfndhaaDoorHour4
namespace Go.Proofs.YtholkbgkkfndhaaDoor
open Go.RowKit

theorem in_year {n y m d : Int} (h : IsDate n y m d) : numN y 1 1 ≤ n ∧ n < numN (y + 1) 1 1 := by
  obtain ⟨h1, h2, h3, h4, h5, h6⟩ := h
  have hm : m = 1 ∨ m = 2 ∨ m = 3 ∨ m = 4 ∨ m = 5 ∨ m = 6 ∨ m = 7 ∨ m = 8 ∨ m = 9 ∨ m = 10 ∨ m = 11 ∨ m = 12 := by omega
  have hl := leapB_iff y
  subst h6
  unfold numN longN at *
  rcases hm with rfl | rfl | rfl | rfl | rfl | rfl | rfl | rfl | rfl | rfl | rfl | rfl
  all_goals
    cases hb : leapB y <;> simp [hb] at hl h5 ⊢ <;> omega

theorem num_months (y m z : Int) (h1 : 1 ≤ m) (h : m < z) (h2 : z ≤ 12) (hy : 1970 ≤ y) : numN y (m + 1) 1 ≤ numN y z 1 := by
  unfold numN
  split <;> split <;> omega

theorem date_unique {n y m d z k e : Int} (h : IsDate n y m d) (g : IsDate n z k e) : y = z ∧ m = k ∧ d = e := by
  have h1 := in_year h
  have g1 := in_year g
  have hy : y = z := by
    rcases Int.lt_trichotomy y z with hc | hc | hc
    · have := num_mono y z h.1 hc; omega
    · exact hc
    · have := num_mono z y g.1 hc; omega
  subst hy
  obtain ⟨a1, a2, a3, a4, a5, a6⟩ := h
  obtain ⟨b1, b2, b3, b4, b5, b6⟩ := g
  have ea := num_day y m d
  have eb := num_day y k e
  have hm : m = k := by
    rcases Int.lt_trichotomy m k with hc | hc | hc
    · have := num_months y m k a2 hc b3 a1
      have := num_month y m a2 (by omega)
      omega
    · exact hc
    · have := num_months y k m b2 hc a3 a1
      have := num_month y k b2 (by omega)
      omega
  subst hm
  exact ⟨rfl, rfl, by omega⟩

theorem num_range (y m d : Int) (h1 : 1970 ≤ y) (h2 : y ≤ 9999) (h3 : 1 ≤ m) (h4 : m ≤ 12) (h5 : 1 ≤ d) (h6 : d ≤ 31) : 0 ≤ numN y m d ∧ numN y m d ≤ 2932896 := by
  unfold numN
  split <;> omega

def DateOk (y m d : Int) : Prop := 1970 ≤ y ∧ y ≤ 9999 ∧ 1 ≤ m ∧ m ≤ 12 ∧ 1 ≤ d ∧ d ≤ longN y m
instance (y m d : Int) : Decidable (DateOk y m d) := by unfold DateOk; infer_instance
def daysR (y m d : Int) : Int × Int := if DateOk y m d then (numN y m d, 0) else (0, 150)

theorem long_any (y m : Int) (w : World) (h : 1970 ≤ y) (h2 : y ≤ 10000) (hm1 : 1 ≤ m) (hm2 : m ≤ 12) : Calls Tryd.prog 41 #[.int .i64 y, .int .i64 m] w fun e w' => e = .returned (.int .i64 (longN y m)) ∧ w' = w := by
  have hm : m = 1 ∨ m = 2 ∨ m = 3 ∨ m = 4 ∨ m = 5 ∨ m = 6 ∨ m = 7 ∨ m = 8 ∨ m = 9 ∨ m = 10 ∨ m = 11 ∨ m = 12 := by omega
  clear hm1 hm2
  rcases hm with rfl | rfl | rfl | rfl | rfl | rfl | rfl | rfl | rfl | rfl | rfl | rfl
  case inr.inl =>
    cases hb : leapB y with
    | true =>
      have hr := Lib.hid (show longN y 2 = 29 by simp [longN, hb])
      go_enter Tryd.func41, Tryd.ntmps41
      go_wp2_with fail
      refine (leap_any y _ h h2).mono ?_
      rintro e w' ⟨rfl, rfl⟩
      rw [hb]
      go_wp2
      go_ret
      exact ⟨by rw [hr.out]; rfl, rfl⟩
    | false =>
      have hr := Lib.hid (show longN y 2 = 28 by simp [longN, hb])
      go_enter Tryd.func41, Tryd.ntmps41
      go_wp2_with fail
      refine (leap_any y _ h h2).mono ?_
      rintro e w' ⟨rfl, rfl⟩
      rw [hb]
      go_wp2
      go_ret
      exact ⟨by rw [hr.out]; rfl, rfl⟩
  all_goals
    go_enter Tryd.func41, Tryd.ntmps41
    go_wp2
    go_ret
    exact ⟨by simp [longN], rfl⟩

def RetsDate (n : Int) (e : Ending) : Prop :=
  (0 ≤ n ∧ n ≤ 2932896 ∧ ∃ y m d : Int, e = .returned (.tuple #[.int .i64 y, .int .i64 m, .int .i64 d, .int .i64 0]) ∧ IsDate n y m d ∧ y ≤ 9999) ∨
  (¬ (0 ≤ n ∧ n ≤ 2932896) ∧ e = .returned (.tuple #[.int .i64 0, .int .i64 0, .int .i64 0, .int .i64 150]))

set_option maxHeartbeats 4000000 in
theorem date_any (n : Int) (w : World) : Calls Tryd.prog 18 #[.int .i64 n] w fun e w' => RetsDate n e ∧ Below w.heap.size w w' := by
  by_cases h0 : n < 0
  · go_enter Tryd.func18, Tryd.ntmps18
    go_wp2
    go_returns
    exact ⟨.inr ⟨by omega, rfl⟩, Below.refl _ _⟩
  · go_enter Tryd.func18, Tryd.ntmps18
    go_wp2_with fail
    refine (number_any 9999 12 31 _ (by omega) (by omega) (by omega) (by omega) (by omega) (by omega)).mono ?_
    rintro e w2 ⟨rfl, hb2⟩
    rw [show numN 9999 12 31 = 2932896 from by decide]
    by_cases h1 : 2932896 < n
    · go_wp2
      go_returns
      exact ⟨.inr ⟨by omega, rfl⟩, hb2⟩
    · go_wp2_with fail
      refine (dateof_any n _ (by omega) (by omega)).mono ?_
      rintro e w3 ⟨y, m, d, rfl, hd, hy, hb3⟩
      have h3 := hb2.trans (hb3.mono hb2.size)
      have hz := h3.size
      have HD := Lib.hid hd
      have H3 := Lib.hid (h3.alloc hz (.cells #[.int .i64 y, .int .i64 m, .int .i64 d] 51))
      clear hd hb2 hb3 h3
      go_wp2
      go_quiet (fail)
      go_wp2
      go_returns
      exact ⟨.inl ⟨by omega, by omega, y, m, d, rfl, HD.out, hy⟩, below_drewN H3.out nq⟩

theorem date_exists (k : Nat) (h : (k : Int) ≤ 2932896) : ∃ y m d, IsDate (k : Int) y m d ∧ y ≤ 9999 := by
  induction k with
  | zero => exact ⟨1970, 1, 1, ⟨by omega, by omega, by omega, by omega, by decide, by decide⟩, by omega⟩
  | succ k ih =>
    obtain ⟨y, m, d, ⟨a1, a2, a3, a4, a5, a6⟩, hy⟩ := ih (by omega)
    have hd := num_day y m d
    by_cases hl : d < longN y m
    · exact ⟨y, m, d + 1, ⟨a1, a2, a3, by omega, by omega, by rw [num_day]; omega⟩, hy⟩
    · by_cases hm : m < 12
      · have := num_month y m a2 hm
        have := longN_ge y (m + 1)
        exact ⟨y, m + 1, 1, ⟨a1, by omega, by omega, by omega, by omega, by omega⟩, hy⟩
      · obtain rfl : m = 12 := by omega
        have h9 := num_last y
        have h7 : longN y 12 = 31 := by unfold longN; simp
        have h8 : longN (y + 1) 1 = 31 := by unfold longN; simp
        have h10 : y + 1 ≤ 9999 := by
          rcases Int.lt_or_le (y + 1) 10000 with h | h
          · omega
          · have := num_top (y + 1) h
            omega
        exact ⟨y + 1, 1, 1, ⟨by omega, by omega, by omega, by omega, by omega, by omega⟩, h10⟩

theorem date_there (n : Int) (h0 : 0 ≤ n) (h1 : n ≤ 2932896) : ∃ y m d, IsDate n y m d ∧ y ≤ 9999 := by
  obtain ⟨k, rfl⟩ : ∃ k : Nat, n = k := ⟨n.toNat, by omega⟩
  exact date_exists k h1

theorem daysR_yes {y m d : Int} (h : DateOk y m d) : daysR y m d = (numN y m d, 0) := if_pos h
theorem daysR_no {y m d : Int} (h : ¬ DateOk y m d) : daysR y m d = (0, 150) := if_neg h

set_option maxHeartbeats 4000000 in
theorem days_any (y m d : Int) (w : World) : Calls Tryd.prog 17 #[.int .i64 y, .int .i64 m, .int .i64 d] w fun e w' => e = .returned (.tuple #[.int .i64 (daysR y m d).1, .int .i64 (daysR y m d).2]) ∧ Below w.heap.size w w' := by
  have lg := Lib.hid (longN_ge y m)
  by_cases c0 : y < 1970
  · have hr := Lib.hid (daysR_no (y := y) (m := m) (d := d) (by unfold DateOk; have := lg.out; omega))
    go_enter Tryd.func17, Tryd.ntmps17
    go_wp2
    go_ret2
    exact ⟨by rw [hr.out]; rfl, Below.refl _ _⟩
  replace c0 : 1970 ≤ y := by omega
  by_cases c1 : 9999 < y
  · have hr := Lib.hid (daysR_no (y := y) (m := m) (d := d) (by unfold DateOk; have := lg.out; omega))
    go_enter Tryd.func17, Tryd.ntmps17
    go_wp2
    go_ret2
    exact ⟨by rw [hr.out]; rfl, Below.refl _ _⟩
  replace c1 : y ≤ 9999 := by omega
  by_cases c2 : m < 1
  · have hr := Lib.hid (daysR_no (y := y) (m := m) (d := d) (by unfold DateOk; have := lg.out; omega))
    go_enter Tryd.func17, Tryd.ntmps17
    go_wp2
    go_ret2
    exact ⟨by rw [hr.out]; rfl, Below.refl _ _⟩
  replace c2 : 1 ≤ m := by omega
  by_cases c3 : 12 < m
  · have hr := Lib.hid (daysR_no (y := y) (m := m) (d := d) (by unfold DateOk; have := lg.out; omega))
    go_enter Tryd.func17, Tryd.ntmps17
    go_wp2
    go_ret2
    exact ⟨by rw [hr.out]; rfl, Below.refl _ _⟩
  replace c3 : m ≤ 12 := by omega
  by_cases c4 : d < 1
  · have hr := Lib.hid (daysR_no (y := y) (m := m) (d := d) (by unfold DateOk; have := lg.out; omega))
    go_enter Tryd.func17, Tryd.ntmps17
    go_wp2
    go_ret2
    exact ⟨by rw [hr.out]; rfl, Below.refl _ _⟩
  replace c4 : 1 ≤ d := by omega
  by_cases c5 : 31 < d
  · have hr := Lib.hid (daysR_no (y := y) (m := m) (d := d) (by unfold DateOk; have := lg.out; omega))
    go_enter Tryd.func17, Tryd.ntmps17
    go_wp2
    go_ret2
    exact ⟨by rw [hr.out]; rfl, Below.refl _ _⟩
  replace c5 : d ≤ 31 := by omega
  have hrg := num_range y m d c0 c1 c2 c3 c4 c5
  have hB := DateBox.new w y m d
  have hbw := (Below.refl w.heap.size w).alloc (Nat.le_refl _) (.cells #[.int .i64 y, .int .i64 m, .int .i64 d] 51)
  have HB := Lib.hid hB
  have HW := Lib.hid hbw
  clear hB hbw
  go_enter Tryd.func17, Tryd.ntmps17
  go_wp2_with fail
  refine (number_any y m d _ (by omega) (by omega) (by omega) (by omega) (by omega) (by omega)).mono ?_
  rintro e w2 ⟨rfl, hb2⟩
  have B2 := Lib.hid (HB.out.below hb2)
  have H2 := Lib.hid (HW.out.trans (hb2.mono HW.out.size))
  clear hb2
  have x0 := B2.out.c0
  have x1 := B2.out.c1
  have x2 := B2.out.c2
  obtain ⟨n, hn⟩ : ∃ n, numN y m d = n := ⟨_, rfl⟩
  rw [hn] at hrg ⊢
  have HN := Lib.hid hn
  clear hn
  by_cases hok : d ≤ longN y m
  · have hr := Lib.hid (daysR_yes (y := y) (m := m) (d := d) ⟨c0, c1, c2, c3, c4, hok⟩)
    have hI := Lib.hid (show IsDate n y m d from ⟨c0, c2, c3, c4, hok, HN.out⟩)
    obtain ⟨hr1, hr2⟩ := hrg
    clear hok
    go_wp2
    go_region_with (go_at_call 23; refine (dateof_any n _ hr1 hr2).mono ?_; rintro e w3 ⟨y3, m3, d3, rfl, hd, hy3, hb3⟩; obtain ⟨rfl, rfl, rfl⟩ := date_unique hI.out hd; have H3 := Lib.hid (((Below.refl w2.heap.size w2).drew).trans hb3); have z0 := (B2.out.below H3.out).c0; have z1 := (B2.out.below H3.out).c1; have z2 := (B2.out.below H3.out).c2; clear hd hb3)
    all_goals
      go_wp2
      go_ret2
      exact ⟨by rw [hr.out, HN.out]; rfl, H2.out.trans (H3.out.mono H2.out.size)⟩
  · have hr := Lib.hid (daysR_no (y := y) (m := m) (d := d) (fun h => hok h.2.2.2.2.2))
    obtain ⟨hr1, hr2⟩ := hrg
    obtain ⟨y0, m0, d0, hI0, -⟩ := date_there n hr1 hr2
    have hne : y0 ≠ y ∨ (y0 = y ∧ m0 ≠ m) ∨ (y0 = y ∧ m0 = m ∧ d0 ≠ d) := by
      have h5 := hI0.2.2.2.2.1
      by_cases e1 : y0 = y
      · by_cases e2 : m0 = m
        · exact .inr (.inr ⟨e1, e2, fun e3 => hok (by rw [e1, e2, e3] at h5; exact h5)⟩)
        · exact .inr (.inl ⟨e1, e2⟩)
      · exact .inl e1
    have hI := Lib.hid hI0
    clear hok hI0
    rcases hne with hne | ⟨rfl, hne⟩ | ⟨rfl, rfl, hne⟩
    all_goals
      go_wp2
      go_region_with (go_at_call 23; refine (dateof_any n _ hr1 hr2).mono ?_; rintro e w3 ⟨y3, m3, d3, rfl, hd, hy3, hb3⟩; obtain ⟨rfl, rfl, rfl⟩ := date_unique hI.out hd; have H3 := Lib.hid (((Below.refl w2.heap.size w2).drew).trans hb3); have z0 := (B2.out.below H3.out).c0; have z1 := (B2.out.below H3.out).c1; have z2 := (B2.out.below H3.out).c2; clear hd hb3)
      all_goals
        go_wp2
        go_ret2
        exact ⟨by rw [hr.out]; rfl, H2.out.trans (H3.out.mono H2.out.size)⟩

end Go.Proofs.YtholkbgkkfndhaaDoor
