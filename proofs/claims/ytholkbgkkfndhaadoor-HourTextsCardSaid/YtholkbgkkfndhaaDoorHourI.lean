/-
  HOUR: the law HourDays. (Written by wip/gen_hourI.py.)
-/
import Derived.Test.YtholkbgkkfndhaaDoorHourH
import Derived.Test.YtholkbgkkfndhaaDoorHourZ
namespace Go.Proofs.YtholkbgkkfndhaaDoor
open Go.RowKit
set_option maxRecDepth 100000

theorem next_date {n y m d : Int} (h : IsDate n y m d) :
    (IsDate (n + 1) y m (d + 1)) ∨ (m < 12 ∧ 28 ≤ d ∧ IsDate (n + 1) y (m + 1) 1) ∨ (m = 12 ∧ d = 31 ∧ IsDate (n + 1) (y + 1) 1 1) := by
  obtain ⟨h1, h2, h3, h4, h5, h6⟩ := h
  rcases (show d < longN y m ∨ d = longN y m by omega) with hd | hd
  · exact .inl ⟨h1, h2, h3, by omega, by omega, by rw [num_day] at h6 ⊢; omega⟩
  · have hl := longN_ge y m
    rw [num_day] at h6
    rcases (show m < 12 ∨ m = 12 by omega) with hm | hm
    · have := num_month y m h2 hm
      have hl2 := longN_ge y (m + 1)
      exact .inr (.inl ⟨hm, by omega, h1, by omega, by omega, by omega, by omega, by omega⟩)
    · subst hm
      have h31 : longN y 12 = 31 := by unfold longN; simp
      have := num_last y
      have hl2 := longN_ge (y + 1) 1
      exact .inr (.inr ⟨rfl, by omega, by omega, by omega, by omega, by omega, by omega, by omega⟩)

set_option maxHeartbeats 4000000 in
theorem days_walk (k : Nat) (hk : k < 4294967296) (w : World) (hL : Libs w) : Calls Tryd.prog 6 #[.int .u32 (k : Int)] w fun e w' => e = .returned (.bool true) ∧ Below w.heap.size w w' := by
  have HL := Lib.hid hL
  obtain ⟨n, hn⟩ : ∃ n, k % 2932896 = n := ⟨_, rfl⟩
  have e1 : Int.tmod (k : Int) 2932896 = (n : Int) := by rw [Int.tmod_eq_emod_of_nonneg (by omega)]; omega
  have hn2 : n < 2932896 := by omega
  clear hL hn
  go_enter Tryd.func6, Tryd.ntmps6
  go_wp2_with fail
  refine (alive_h _ HL.out).mono ?_
  rintro e w1 ⟨rfl, hb⟩
  have HB := Lib.hid hb
  clear hb
  go_wp2_with fail
  refine (date_any (n : Int) _).mono ?_
  rintro e w2 ⟨hd, hb⟩
  have HB := Lib.hid (HB.out.trans (hb.mono HB.out.size))
  clear hb
  rcases hd with ⟨-, -, y, m, d, rfl, hd, hy⟩ | ⟨hno, _⟩
  rotate_left
  · omega
  have hok := daysR_yes (y := y) (m := m) (d := d) ⟨hd.1, hy, hd.2.1, hd.2.2.1, hd.2.2.2.1, hd.2.2.2.2.1⟩
  rw [hd.2.2.2.2.2] at hok
  have HD := Lib.hid hd
  have HOK := Lib.hid hok
  clear hd hok
  go_wp2_with fail
  refine (days_any y m d _).mono ?_
  rintro e w3 ⟨rfl, hb⟩
  rw [HOK.out]
  dsimp only
  have HB := Lib.hid (HB.out.trans (hb.mono HB.out.size))
  clear hb
  go_wp2_with fail
  refine (date_any ((n : Int) + 1) _).mono ?_
  rintro e w4 ⟨hd, hb⟩
  have HB := Lib.hid (HB.out.trans (hb.mono HB.out.size))
  clear hb
  rcases hd with ⟨-, -, u, v, x, rfl, hd, hy2⟩ | ⟨hno, _⟩
  rotate_left
  · omega
  rcases next_date HD.out with h | ⟨h1, h2, h⟩ | ⟨rfl, rfl, h⟩
  · obtain ⟨rfl, rfl, rfl⟩ := date_unique h hd
    have hb1 := HD.out.1
    have hb2 := HD.out.2.1
    have hb3 := HD.out.2.2.1
    have hb4 := HD.out.2.2.2.1
    have hb5 : d ≤ 31 := Int.le_trans HD.out.2.2.2.2.1 (longN_ge _ _).2
    clear h hd
    go_wp2
    go_ret
    exact ⟨rfl, HB.out⟩
  · obtain ⟨rfl, rfl, rfl⟩ := date_unique h hd
    have hb1 := HD.out.1
    have hb2 := HD.out.2.1
    have hb5 : d ≤ 31 := Int.le_trans HD.out.2.2.2.2.1 (longN_ge _ _).2
    have c1 : ((1 : Int) == d + 1) = false := by simp; omega
    have c2 : (m + 1 == m) = false := by simp; omega
    clear h hd
    go_wp2
    go_ret
    exact ⟨rfl, HB.out⟩
  · obtain ⟨rfl, rfl, rfl⟩ := date_unique h hd
    have hb1 := HD.out.1
    have c1 : (y + 1 == y) = false := by simp; omega
    clear h hd
    go_wp2
    go_ret
    exact ⟨rfl, HB.out⟩

end Go.Proofs.YtholkbgkkfndhaaDoor
