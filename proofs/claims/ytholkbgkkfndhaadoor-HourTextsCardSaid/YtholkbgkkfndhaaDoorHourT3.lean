/-
  HOUR: THE REFERENCE's General. (Written by wip/gen_hourT.py.)
-/
import Derived.Test.YtholkbgkkfndhaaDoorHourT2d
namespace Go.Proofs.YtholkbgkkfndhaaDoor
open Go.RowKit
set_option maxRecDepth 100000

set_option maxHeartbeats 4000000 in
theorem refgeneral_yes (t : Nat) (ht : t ≤ 253402300799999) (w : World) :
    Calls Tryd.prog 10 #[.int .i64 (t : Int)] w fun e w' => ∃ l, e = .returned (.tuple #[.string ⟨l.toArray⟩, .int .i64 0]) ∧ IsText t l ∧ Below w.heap.size w w' := by
  obtain ⟨T, hT⟩ : ∃ T, t / 86400000 = T := ⟨_, rfl⟩
  have hd1 : (t : Int) / 86400000 = (T : Int) := by omega
  have hd2 : T ≤ 2932896 := by omega
  obtain ⟨n, hn⟩ : ∃ q, t % 86400000 = q := ⟨_, rfl⟩
  have e1 : Int.tmod (t : Int) 86400000 = (n : Int) := by rw [Int.tmod_eq_emod_of_nonneg (by omega)]; omega
  obtain ⟨h, hh⟩ : ∃ q, n / 3600000 = q := ⟨_, rfl⟩
  have g1 : (n : Int) / 3600000 = (h : Int) := by omega
  obtain ⟨q2, hq2⟩ : ∃ q, n / 60000 = q := ⟨_, rfl⟩
  have g2 : (n : Int) / 60000 = (q2 : Int) := by omega
  obtain ⟨mi, hmi⟩ : ∃ q, q2 % 60 = q := ⟨_, rfl⟩
  have e2 : Int.tmod (q2 : Int) 60 = (mi : Int) := by rw [Int.tmod_eq_emod_of_nonneg (by omega)]; omega
  obtain ⟨q3, hq3⟩ : ∃ q, n / 1000 = q := ⟨_, rfl⟩
  have g3 : (n : Int) / 1000 = (q3 : Int) := by omega
  obtain ⟨s, hs⟩ : ∃ q, q3 % 60 = q := ⟨_, rfl⟩
  have e3 : Int.tmod (q3 : Int) 60 = (s : Int) := by rw [Int.tmod_eq_emod_of_nonneg (by omega)]; omega
  obtain ⟨r, hr⟩ : ∃ q, n % 1000 = q := ⟨_, rfl⟩
  have e4 : Int.tmod (n : Int) 1000 = (r : Int) := by rw [Int.tmod_eq_emod_of_nonneg (by omega)]; omega
  have b0 : n < 86400000 := by omega
  have b1 : h < 24 := by omega
  have b2 : mi < 60 := by omega
  have b3 : s < 60 := by omega
  have b4 : r < 1000 := by omega
  have b5 : q2 < 1440 := by omega
  have b6 : q3 < 86400 := by omega
  have HK := Lib.hid (show t / 86400000 = T ∧ t % 86400000 / 3600000 = h ∧ t % 3600000 / 60000 = mi ∧ t % 60000 / 1000 = s ∧ t % 1000 = r from ⟨hT, by omega, by omega, by omega, by omega⟩)
  clear hT hn hh hq2 hmi hq3 hs hr
  go_enter Tryd.func10, Tryd.ntmps10
  go_wp2_with fail
  refine (refdate_any (T : Int) _ (by omega)).mono ?_
  rintro e w1 ⟨hD, hb⟩
  rcases hD with ⟨-, -, y', m', d', rfl, hI, hy9⟩ | ⟨hno, -⟩
  rotate_left
  · exact absurd ⟨by omega, by omega⟩ hno
  have hI2 := hI
  obtain ⟨i1, i2, i3, i4, i5, i6⟩ := hI2
  obtain ⟨y, rfl⟩ : ∃ y : Nat, y' = (y : Int) := ⟨y'.toNat, by omega⟩
  obtain ⟨m, rfl⟩ : ∃ m : Nat, m' = (m : Int) := ⟨m'.toNat, by omega⟩
  obtain ⟨d, rfl⟩ : ∃ d : Nat, d' = (d : Int) := ⟨d'.toNat, by omega⟩
  have hm31 := (longN_ge (y : Int) (m : Int)).2
  have hd31 : (d : Int) ≤ 31 := by omega
  have HI := Lib.hid hI
  have HB := Lib.hid hb
  clear hI hb i5 i6 hm31
  go_wp2_with fail
  refine (refdigits_any y 4 (by omega) (by omega) _).mono ?_
  rintro e wn ⟨A1, rfl, PA1, lA1, hb⟩
  have HB := Lib.hid (HB.out.trans (hb.mono HB.out.size))
  clear hb
  go_wp2_with fail
  refine (refdigits_any m 2 (by omega) (by omega) _).mono ?_
  rintro e wn ⟨A2, rfl, PA2, lA2, hb⟩
  have HB := Lib.hid (HB.out.trans (hb.mono HB.out.size))
  clear hb
  go_wp2_with fail
  refine (refdigits_any d 2 (by omega) (by omega) _).mono ?_
  rintro e wn ⟨A3, rfl, PA3, lA3, hb⟩
  have HB := Lib.hid (HB.out.trans (hb.mono HB.out.size))
  clear hb
  go_wp2_with fail
  refine (refdigits_any h 2 (by omega) (by omega) _).mono ?_
  rintro e wn ⟨A4, rfl, PA4, lA4, hb⟩
  have HB := Lib.hid (HB.out.trans (hb.mono HB.out.size))
  clear hb
  go_wp2_with fail
  refine (refdigits_any mi 2 (by omega) (by omega) _).mono ?_
  rintro e wn ⟨A5, rfl, PA5, lA5, hb⟩
  have HB := Lib.hid (HB.out.trans (hb.mono HB.out.size))
  clear hb
  go_wp2_with fail
  refine (refdigits_any s 2 (by omega) (by omega) _).mono ?_
  rintro e wn ⟨A6, rfl, PA6, lA6, hb⟩
  have HB := Lib.hid (HB.out.trans (hb.mono HB.out.size))
  clear hb
  have HT := Lib.hid (show A1 ++ A2 ++ A3 ++ A4 ++ A5 ++ A6 ++ fracN r ++ [90] = textN y m d h mi s r from by
    rw [PA1.out, PA2.out, PA3.out, PA4.out, PA5.out, PA6.out]
    simp only [textN, List.append_assoc])
  have HX := Lib.hid (show IsText t (textN y m d h mi s r) from by
    obtain ⟨k1, k2, k3, k4, k5⟩ := HK.out
    exact ⟨y, m, d, by rw [k1]; exact HI.out, by rw [k2, k3, k4, k5]⟩)
  clear PA1 PA2 PA3 PA4 PA5 PA6 HK HI
  by_cases h0 : r = 0
  · have t0 : ((r : Int) == 0) = true := beq_iff_eq.2 (by omega)
    have t1 : (r == 0) = true := beq_iff_eq.2 h0
    have HF := Lib.hid (show fracN r = [] by rw [h0]; rfl)
    clear h0
    go_wp2
    go_ret2
    refine ⟨A1 ++ A2 ++ A3 ++ A4 ++ A5 ++ A6 ++ [90], ?_, ?_, HB.out⟩
    · rw [← str_add, ← str_add, ← str_add, ← str_add, ← str_add, ← str_add]
      rfl
    · have h9 := HT.out
      rw [HF.out, List.append_nil] at h9
      rw [h9]
      exact HX.out
  have t0 : ((r : Int) == 0) = false := beq_eq_false_iff_ne.2 (by omega)
  have t1 : (r == 0) = false := beq_eq_false_iff_ne.2 h0
  obtain ⟨u, hu⟩ : ∃ q, r % 100 = q := ⟨_, rfl⟩
  have eu : Int.tmod (r : Int) 100 = (u : Int) := by rw [Int.tmod_eq_emod_of_nonneg (by omega)]; omega
  obtain ⟨v, hv⟩ : ∃ q, r % 10 = q := ⟨_, rfl⟩
  have ev : Int.tmod (r : Int) 10 = (v : Int) := by rw [Int.tmod_eq_emod_of_nonneg (by omega)]; omega
  have hu9 : u < 100 := by omega
  have hv9 : v < 10 := by omega
  by_cases h1 : r % 100 = 0
  · obtain ⟨z, hz⟩ : ∃ z, r / 100 = z := ⟨_, rfl⟩
    have ez : (r : Int) / 100 = (z : Int) := by omega
    have HF := Lib.hid (show fracN r = 46 :: pdN 1 z from PartH.frac ⟨by omega, by omega, by simp; omega, by omega, by simp; omega⟩)
    have s0 : ((u : Int) == 0) = true := beq_iff_eq.2 (by omega)
    have s1 : (u == 0) = true := beq_iff_eq.2 (by omega)
    have hz9 : z < 10 := by omega
    clear hu hv h0 h1 hz
    go_wp2_with fail
    refine (refdigits_any z 1 (by omega) (by omega) _).mono ?_
    rintro e wn ⟨A7, rfl, PA7, lA7, hb⟩
    have HB := Lib.hid (HB.out.trans (hb.mono HB.out.size))
    clear hb
    have HZ := Lib.hid (show fracN r = 46 :: A7 from by rw [PA7.out]; exact HF.out)
    go_wp2
    go_ret2
    refine ⟨A1 ++ A2 ++ A3 ++ A4 ++ A5 ++ A6 ++ 46 :: A7 ++ [90], ?_, ?_, HB.out⟩
    · rw [← str_add, show A1 ++ A2 ++ A3 ++ A4 ++ A5 ++ A6 ++ 46 :: A7 = A1 ++ A2 ++ A3 ++ A4 ++ A5 ++ A6 ++ [46] ++ A7 by simp, ← str_add, ← str_add, ← str_add, ← str_add, ← str_add, ← str_add, ← str_add]
      rfl
    · have h9 := HT.out
      rw [HZ.out] at h9
      rw [h9]
      exact HX.out
  have s0 : ((u : Int) == 0) = false := beq_eq_false_iff_ne.2 (by omega)
  have s1 : (u == 0) = false := beq_eq_false_iff_ne.2 (by omega)
  by_cases h2 : r % 10 = 0
  · obtain ⟨z, hz⟩ : ∃ z, r / 10 = z := ⟨_, rfl⟩
    have ez : (r : Int) / 10 = (z : Int) := by omega
    have HF := Lib.hid (show fracN r = 46 :: pdN 2 z from PartH.frac ⟨by omega, by omega, by simp; omega, by omega, by simp; omega⟩)
    have s2 : ((v : Int) == 0) = true := beq_iff_eq.2 (by omega)
    have s3 : (v == 0) = true := beq_iff_eq.2 (by omega)
    have hz9 : z < 100 := by omega
    clear hu hv h0 h1 h2 hz
    go_wp2_with fail
    refine (refdigits_any z 2 (by omega) (by omega) _).mono ?_
    rintro e wn ⟨A7, rfl, PA7, lA7, hb⟩
    have HB := Lib.hid (HB.out.trans (hb.mono HB.out.size))
    clear hb
    have HZ := Lib.hid (show fracN r = 46 :: A7 from by rw [PA7.out]; exact HF.out)
    go_wp2
    go_ret2
    refine ⟨A1 ++ A2 ++ A3 ++ A4 ++ A5 ++ A6 ++ 46 :: A7 ++ [90], ?_, ?_, HB.out⟩
    · rw [← str_add, show A1 ++ A2 ++ A3 ++ A4 ++ A5 ++ A6 ++ 46 :: A7 = A1 ++ A2 ++ A3 ++ A4 ++ A5 ++ A6 ++ [46] ++ A7 by simp, ← str_add, ← str_add, ← str_add, ← str_add, ← str_add, ← str_add, ← str_add]
      rfl
    · have h9 := HT.out
      rw [HZ.out] at h9
      rw [h9]
      exact HX.out
  · skip
    have HF := Lib.hid (show fracN r = 46 :: pdN 3 r from PartH.frac ⟨by omega, by omega, by simp; omega, by omega, by simp⟩)
    have s2 : ((v : Int) == 0) = false := beq_eq_false_iff_ne.2 (by omega)
    have s3 : (v == 0) = false := beq_eq_false_iff_ne.2 (by omega)
    clear hu hv h0 h1 h2
    go_wp2_with fail
    refine (refdigits_any r 3 (by omega) (by omega) _).mono ?_
    rintro e wn ⟨A7, rfl, PA7, lA7, hb⟩
    have HB := Lib.hid (HB.out.trans (hb.mono HB.out.size))
    clear hb
    have HZ := Lib.hid (show fracN r = 46 :: A7 from by rw [PA7.out]; exact HF.out)
    go_wp2
    go_ret2
    refine ⟨A1 ++ A2 ++ A3 ++ A4 ++ A5 ++ A6 ++ 46 :: A7 ++ [90], ?_, ?_, HB.out⟩
    · rw [← str_add, show A1 ++ A2 ++ A3 ++ A4 ++ A5 ++ A6 ++ 46 :: A7 = A1 ++ A2 ++ A3 ++ A4 ++ A5 ++ A6 ++ [46] ++ A7 by simp, ← str_add, ← str_add, ← str_add, ← str_add, ← str_add, ← str_add, ← str_add]
      rfl
    · have h9 := HT.out
      rw [HZ.out] at h9
      rw [h9]
      exact HX.out
theorem refgeneral_no (t : Int) (w : World) (h : ¬ (0 ≤ t ∧ t ≤ 253402300799999)) :
    Calls Tryd.prog 10 #[.int .i64 t] w fun e w' => e = .returned (.tuple #[.string ⟨([] : List UInt8).toArray⟩, .int .i64 150]) ∧ Below w.heap.size w w' := by
  rcases (show t < 0 ∨ (0 ≤ t ∧ 253402300799999 < t) by omega) with h0 | ⟨h0, h1⟩
  · have d0 : decide (t < 0) = true := decide_eq_true h0
    go_enter Tryd.func10, Tryd.ntmps10
    go_wp2
    go_ret2
    exact ⟨rfl, Below.refl _ _⟩
  · have d0 : decide (t < 0) = false := decide_eq_false (by omega)
    have d1 : decide (253402300799999 < t) = true := decide_eq_true h1
    go_enter Tryd.func10, Tryd.ntmps10
    go_wp2
    go_ret2
    exact ⟨rfl, Below.refl _ _⟩
end Go.Proofs.YtholkbgkkfndhaaDoor
