/-
  HOUR: THE REFERENCE's Days AND Date.
-/
import Derived.Test.YtholkbgkkfndhaaDoorHour5
namespace Go.Proofs.YtholkbgkkfndhaaDoor
open Go.RowKit

set_option maxHeartbeats 4000000 in
theorem refdays_any (y m d : Int) (w : World) (fd : -9223372036854775808 ≤ d) (fd2 : d ≤ 9223372036854775807) : Calls Tryd.prog 30 #[.int .i64 y, .int .i64 m, .int .i64 d] w fun e w' => e = .returned (.tuple #[.int .i64 (daysR y m d).1, .int .i64 (daysR y m d).2]) ∧ Below w.heap.size w w' := by
  have lg := Lib.hid (longN_ge y m)
  by_cases c0 : y < 1970
  · have hr := Lib.hid (daysR_no (y := y) (m := m) (d := d) (by unfold DateOk; have := lg.out; omega))
    go_enter Tryd.func30, Tryd.ntmps30
    go_wp2
    go_ret2
    exact ⟨by rw [hr.out]; rfl, Below.refl _ _⟩
  replace c0 : 1970 ≤ y := by omega
  by_cases c1 : 9999 < y
  · have hr := Lib.hid (daysR_no (y := y) (m := m) (d := d) (by unfold DateOk; have := lg.out; omega))
    go_enter Tryd.func30, Tryd.ntmps30
    go_wp2
    go_ret2
    exact ⟨by rw [hr.out]; rfl, Below.refl _ _⟩
  replace c1 : y ≤ 9999 := by omega
  by_cases c2 : m < 1
  · have hr := Lib.hid (daysR_no (y := y) (m := m) (d := d) (by unfold DateOk; have := lg.out; omega))
    go_enter Tryd.func30, Tryd.ntmps30
    go_wp2
    go_ret2
    exact ⟨by rw [hr.out]; rfl, Below.refl _ _⟩
  replace c2 : 1 ≤ m := by omega
  by_cases c3 : 12 < m
  · have hr := Lib.hid (daysR_no (y := y) (m := m) (d := d) (by unfold DateOk; have := lg.out; omega))
    go_enter Tryd.func30, Tryd.ntmps30
    go_wp2
    go_ret2
    exact ⟨by rw [hr.out]; rfl, Below.refl _ _⟩
  replace c3 : m ≤ 12 := by omega
  by_cases c4 : d < 1
  · have hr := Lib.hid (daysR_no (y := y) (m := m) (d := d) (by unfold DateOk; have := lg.out; omega))
    go_enter Tryd.func30, Tryd.ntmps30
    go_wp2
    go_ret2
    exact ⟨by rw [hr.out]; rfl, Below.refl _ _⟩
  replace c4 : 1 ≤ d := by omega
  have HL := Lib.hid (show ∃ q, longN y m = q from ⟨_, rfl⟩)
  obtain ⟨q, hq⟩ := HL.out
  have HQ := Lib.hid hq
  by_cases c5 : q < d
  · have hr := Lib.hid (daysR_no (y := y) (m := m) (d := d) (by unfold DateOk; omega))
    go_enter Tryd.func30, Tryd.ntmps30
    go_wp2_with fail
    refine (long_any y m _ c0 (by omega) c2 c3).mono ?_
    rintro e w' ⟨rfl, rfl⟩
    rw [hq]
    clear hq
    go_wp2
    go_ret2
    exact ⟨by rw [hr.out]; rfl, Below.refl _ _⟩
  · replace c5 : d ≤ q := by omega
    have hr := Lib.hid (daysR_yes (y := y) (m := m) (d := d) ⟨c0, c1, c2, c3, c4, by omega⟩)
    have hdq := Lib.hid (show d ≤ 31 by have := lg.out; omega)
    go_enter Tryd.func30, Tryd.ntmps30
    go_wp2_with fail
    refine (long_any y m _ c0 (by omega) c2 c3).mono ?_
    rintro e w' ⟨rfl, rfl⟩
    rw [hq]
    clear hq
    go_wp2
    go_loop [8, 9] (fun n k => ∃ z : Int, 1970 ≤ z ∧ z ≤ y ∧ k = .int .i64 z ∧ n = .int .i64 (numN z 1 1 + (d - 1))) (fun _ k => (y - intOf k).toNat)
    case atStart => exact ⟨1970, by omega, by omega, rfl, by rw [num_first]; congr 1; omega⟩
    case round =>
      obtain ⟨z, hz1, hz2, rfl, rfl⟩ := hrel
      by_cases hlt : z < y
      · go_wp2_with fail
        refine (year_any z _ hz1 (by omega)).mono ?_
        rintro e w' ⟨rfl, rfl⟩
        have hst := Lib.hid (num_year z)
        have hrg := num_range z 1 1 hz1 (by omega) (by omega) (by omega) (by omega) (by omega)
        have hrg2 := num_range (z + 1) 1 1 (by omega) (by omega) (by omega) (by omega) (by omega) (by omega)
        rw [num_year] at hrg2
        generalize yearN z = yz at *
        generalize numN z 1 1 = nz at *
        have hdq2 := hdq.out
        go_wp2
        go_round
        case rel => exact ⟨z + 1, by omega, by omega, by go_num, by rw [hst.out]; congr 1; omega⟩
        case measure => simp [intOf] <;> omega
      · obtain rfl : z = y := by omega
        have hny := Lib.hid (show ∃ r, numN z 1 1 = r from ⟨_, rfl⟩)
        obtain ⟨r, hrr⟩ := hny.out
        have HR := Lib.hid hrr
        have hrg := num_range z 1 1 hz1 (by omega) (by omega) (by omega) (by omega) (by omega)
        rw [hrr] at hrg ⊢
        clear hrr
        go_wp2
        go_loop [8, 10] (fun n k => ∃ x : Int, 1 ≤ x ∧ x ≤ m ∧ k = .int .i64 x ∧ n = .int .i64 (numN z x 1 + (d - 1))) (fun _ k => (m - intOf k).toNat)
        case atStart => exact ⟨1, by omega, by omega, rfl, by rw [HR.out]⟩
        case round =>
          obtain ⟨x, hx1, hx2, rfl, rfl⟩ := hrel
          by_cases hlt : x < m
          · go_wp2_with fail
            refine (long_any z x _ hz1 (by omega) hx1 (by omega)).mono ?_
            rintro e w' ⟨rfl, rfl⟩
            have hst := Lib.hid (num_month z x hx1 (by omega))
            have hrg := num_range z x 1 hz1 (by omega) (by omega) (by omega) (by omega) (by omega)
            have hrg2 := num_range z (x + 1) 1 hz1 (by omega) (by omega) (by omega) (by omega) (by omega)
            rw [hst.out] at hrg2
            generalize longN z x = yz at *
            generalize numN z x 1 = nz at *
            have hdq2 := hdq.out
            go_wp2
            go_round
            case rel => exact ⟨x + 1, by omega, by omega, by go_num, by rw [hst.out]; congr 1; omega⟩
            case measure => simp [intOf] <;> omega
          · obtain rfl : x = m := by omega
            have hnd := Lib.hid (num_day z x d)
            generalize numN z x 1 = nz at *
            go_wp2
            go_ret2
            exact ⟨by rw [hr.out]; show _ = Ending.returned (.tuple #[.int .i64 (numN z x d), .int .i64 0]); rw [hnd.out]; rfl, Below.refl _ _⟩

set_option maxHeartbeats 4000000 in
theorem refdate_any (n : Int) (w : World) (fn : n ≤ 9223372036854775807) : Calls Tryd.prog 26 #[.int .i64 n] w fun e w' => RetsDate n e ∧ Below w.heap.size w w' := by
  by_cases h0 : n < 0
  · go_enter Tryd.func26, Tryd.ntmps26
    go_wp2
    go_returns
    exact ⟨.inr ⟨by omega, rfl⟩, Below.refl _ _⟩
  replace h0 : 0 ≤ n := by omega
  go_enter Tryd.func26, Tryd.ntmps26
  go_wp2
  go_loop [0, 6] (fun l k => ∃ z : Int, 1970 ≤ z ∧ z ≤ 10000 ∧ k = .int .i64 z ∧ l = .int .i64 (n - numN z 1 1) ∧ Hid (0 ≤ numN z 1 1 ∧ numN z 1 1 ≤ n)) (fun _ k => (10000 - intOf k).toNat)
  case atStart => exact ⟨1970, by omega, by omega, rfl, by rw [num_first]; congr 1; omega, by rw [num_first]; omega, by rw [num_first]; exact h0⟩
  case round =>
    obtain ⟨z, hz1, hz2, rfl, rfl, hz3⟩ := hrel
    by_cases hlt : z ≤ 9999
    · have hst := Lib.hid (num_year z)
      have hyr := Lib.hid (show 365 ≤ yearN z ∧ yearN z ≤ 366 by unfold yearN; split <;> omega)
      go_wp2_with fail
      refine (year_any z _ hz1 (by omega)).mono ?_
      rintro e w' ⟨rfl, rfl⟩
      by_cases hge : yearN z ≤ n - numN z 1 1
      · go_wp2_with fail
        refine (year_any z _ hz1 (by omega)).mono ?_
        rintro e w' ⟨rfl, rfl⟩
        obtain ⟨h5, h6⟩ := hz3.out
        obtain ⟨h7, h8⟩ := hyr.out
        generalize yearN z = yz at *
        generalize numN z 1 1 = nz at *
        go_wp2
        go_round
        case rel => exact ⟨z + 1, by omega, by omega, by go_num, by rw [hst.out]; congr 1; omega, by rw [hst.out]; omega, by rw [hst.out]; omega⟩
        case measure => simp [intOf] <;> omega
      · have hlt2 := Lib.hid (show n < numN (z + 1) 1 1 by rw [hst.out]; omega)
        obtain ⟨h5, h6⟩ := hz3.out
        have hge2 : decide (yearN z ≤ n - numN z 1 1) = false := decide_eq_false hge
        obtain ⟨r, hrr⟩ : ∃ r, numN z 1 1 = r := ⟨_, rfl⟩
        obtain ⟨yr, hyy⟩ : ∃ r, yearN z = r := ⟨_, rfl⟩
        have HR := Lib.hid hrr
        rw [hyy] at hge hge2 ⊢
        rw [hrr] at h5 h6 hge hge2 ⊢
        clear hrr hyy
        go_wp2
        go_loop [0, 7] (fun l k => ∃ x : Int, 1 ≤ x ∧ x ≤ 12 ∧ k = .int .i64 x ∧ l = .int .i64 (n - numN z x 1) ∧ Hid (0 ≤ numN z x 1 ∧ numN z x 1 ≤ n)) (fun _ k => (12 - intOf k).toNat)
        case atStart => exact ⟨1, by omega, by omega, rfl, by rw [HR.out], by rw [HR.out]; omega, by rw [HR.out]; omega⟩
        case round =>
          obtain ⟨x, hx1, hx2, rfl, rfl, hx3⟩ := hrel
          have hlg := Lib.hid (longN_ge z x)
          have hrg := Lib.hid (num_range z x 1 hz1 hlt hx1 hx2 (by omega) (by omega))
          go_wp2_with fail
          refine (long_any z x _ hz1 (by omega) hx1 (by omega)).mono ?_
          rintro e w' ⟨rfl, rfl⟩
          by_cases hc : n - numN z x 1 < longN z x
          · have hday := Lib.hid (show IsDate n z x (n - numN z x 1 + 1) from ⟨hz1, hx1, hx2, by have := hx3.out.2; omega, by omega, by rw [num_day]; omega⟩)
            obtain ⟨h7, h8⟩ := hlg.out
            obtain ⟨h9, h10⟩ := hx3.out
            have htop := Lib.hid (show n ≤ 2932896 by
              have := num_mono z 10000 hz1 (by omega)
              have : numN 10000 1 1 = 2932897 := by decide
              have := hlt2.out
              omega)
            generalize longN z x = lz at *
            generalize numN z x 1 = nx at *
            go_wp2
            go_returns
            exact ⟨.inl ⟨h0, htop.out, z, x, n - nx + 1, rfl, hday.out, hlt⟩, Below.refl _ _⟩
          · have hx12 : x < 12 := by
              rcases Int.lt_or_le x 12 with h | h
              · exact h
              · obtain rfl : x = 12 := by omega
                have h9 := num_last z
                have h7 : longN z 12 = 31 := by unfold longN; simp
                have := hlt2.out
                omega
            have hst2 := Lib.hid (num_month z x hx1 hx12)
            go_wp2_with fail
            refine (long_any z x _ hz1 (by omega) hx1 (by omega)).mono ?_
            rintro e w' ⟨rfl, rfl⟩
            obtain ⟨h7, h8⟩ := hlg.out
            obtain ⟨h9, h10⟩ := hx3.out
            generalize longN z x = lz at *
            generalize numN z x 1 = nx at *
            go_wp2
            go_round
            case rel => exact ⟨x + 1, by omega, by omega, by go_num, by rw [hst2.out]; congr 1; omega, by rw [hst2.out]; omega, by rw [hst2.out]; omega⟩
            case measure => simp [intOf] <;> omega
    · obtain rfl : z = 10000 := by omega
      have hbig := Lib.hid (num_top 10000 (by omega))
      go_wp2
      go_returns
      exact ⟨.inr ⟨by have := hz3.out; have := hbig.out; omega, rfl⟩, Below.refl _ _⟩

end Go.Proofs.YtholkbgkkfndhaaDoor
