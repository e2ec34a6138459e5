/-
  HOUR: the law HourNames. (Written by wip/gen_hourN.py.)
-/
import Derived.Test.YtholkbgkkfndhaaDoorHourN1
import Derived.Test.YtholkbgkkfndhaaDoorHourZ
import Derived.Test.YtholkbgkkfndhaaDoorHour2
import Derived.Test.YtholkbgkkfndhaaDoorHourI
namespace Go.Proofs.YtholkbgkkfndhaaDoor
open Go.RowKit
set_option maxRecDepth 100000

theorem text_s : IsText 2524607999000 [50, 48, 52, 57, 49, 50, 51, 49, 50, 51, 53, 57, 53, 57, 90] := ⟨2049, 12, 31, ⟨by decide, by decide, by decide, by decide, by decide, by decide⟩, by kernel_rfl⟩
theorem date_zero : IsDate ((0 / 86400000 : Nat) : Int) 1970 1 1 := ⟨by decide, by decide, by decide, by decide, by decide, by decide⟩
theorem short_zero : ShortOk ((0 : Nat) : Int) := ⟨0, 1970, 1, 1, rfl, by decide, by decide, date_zero, by decide⟩
theorem short_s : ShortOk ((2524607999000 : Nat) : Int) := ⟨2524607999000, 2049, 12, 31, rfl, by decide, by decide, ⟨by decide, by decide, by decide, by decide, by decide, by decide⟩, by decide⟩
theorem no_short_one : ¬ ShortOk 1 := by
  rintro ⟨n, _, _, _, hn, _, h, _⟩
  omega
theorem no_short_end : ¬ ShortOk 2524608000000 := by
  rintro ⟨n, y, m, d, hn, _, h, hd, hy⟩
  obtain rfl : n = 2524608000000 := by omega
  have h2 : IsDate ((2524608000000 / 86400000 : Nat) : Int) 2050 1 1 := ⟨by decide, by decide, by decide, by decide, by decide, by decide⟩
  obtain ⟨rfl, _, _⟩ := date_unique hd h2
  omega
theorem rets_date_yes {n y m d : Int} {e : Ending} (h : RetsDate n e) (hd : IsDate n y m d) (h0 : 0 ≤ n) (h1 : n ≤ 2932896) : e = .returned (.tuple #[.int .i64 y, .int .i64 m, .int .i64 d, .int .i64 0]) := by
  rcases h with ⟨_, _, y', m', d', rfl, hd', _⟩ | ⟨hno, _⟩
  · obtain ⟨rfl, rfl, rfl⟩ := date_unique hd hd'
    rfl
  · exact absurd ⟨h0, h1⟩ hno
theorem rets_date_no {n : Int} {e : Ending} (h : RetsDate n e) (hn : ¬ (0 ≤ n ∧ n ≤ 2932896)) : e = .returned (.tuple #[.int .i64 0, .int .i64 0, .int .i64 0, .int .i64 150]) := by
  rcases h with ⟨h0, h1, _⟩ | ⟨_, rfl⟩
  · exact absurd ⟨h0, h1⟩ hn
  · rfl

set_option maxHeartbeats 8000000 in
theorem hnames_walk (w : World) (hL : Libs w) : Calls Tryd.prog 4 #[] w fun e w' => e = .returned (.bool true) ∧ Below w.heap.size w w' := by
  have HL := Lib.hid hL
  have HB := Lib.hid (Below.refl w.heap.size w)
  clear hL
  have q1 : daysR 2000 3 1 = (11017, 0) := by kernel_rfl
  have q2 : daysR 1900 1 1 = (0, 150) := by kernel_rfl
  have q3 : daysR 2001 2 29 = (0, 150) := by kernel_rfl
  have q4 : daysR 2000 13 1 = (0, 150) := by kernel_rfl
  have q5 : daysR 2100 2 29 = (0, 150) := by kernel_rfl
  have q6 : daysR 9999 12 31 = (2932896, 0) := by kernel_rfl
  have q10 : orderR 0 1000 (widthR 0 500 0) (widthR 0 500 0) = (0, 0) := by kernel_rfl
  have q11 : orderR 0 1000 (widthR 0 500 0) (widthR 0 499 999) = (-1, 0) := by kernel_rfl
  have q12 : orderR 0 253402300800000 (widthR 0 500 0) (widthR 0 500 0) = (0, 150) := by kernel_rfl
  have q13 : widthR 0 1000 0 = (0, 150) := by kernel_rfl
  have q14 : widthR 2147483648 0 0 = (0, 150) := by kernel_rfl
  have q15 : widthR 1 2 3 = (1002003, 0) := by kernel_rfl
  go_enter Tryd.func4, Tryd.ntmps4
  go_wp2_with fail
  refine (days_any 2000 3 1 _).mono ?_
  rintro e w1 ⟨rfl, hb⟩
  rw [q1]
  dsimp only
  replace HL := Lib.hid (HL.out.below hb)
  replace HB := Lib.hid (HB.out.trans (hb.mono HB.out.size))
  clear hb
  go_wp2_with fail
  refine (date_any 365 _).mono ?_
  rintro e w2 ⟨hr, hb⟩
  obtain rfl := rets_date_yes (y := 1971) (m := 1) (d := 1) hr ⟨by decide, by decide, by decide, by decide, by decide, by decide⟩ (by decide) (by decide)
  clear hr
  replace HL := Lib.hid (HL.out.below hb)
  replace HB := Lib.hid (HB.out.trans (hb.mono HB.out.size))
  clear hb
  go_wp2_with fail
  refine (days_any 1900 1 1 _).mono ?_
  rintro e w3 ⟨rfl, hb⟩
  rw [q2]
  dsimp only
  replace HL := Lib.hid (HL.out.below hb)
  replace HB := Lib.hid (HB.out.trans (hb.mono HB.out.size))
  clear hb
  go_wp2_with fail
  refine (days_any 2001 2 29 _).mono ?_
  rintro e w4 ⟨rfl, hb⟩
  rw [q3]
  dsimp only
  replace HL := Lib.hid (HL.out.below hb)
  replace HB := Lib.hid (HB.out.trans (hb.mono HB.out.size))
  clear hb
  go_wp2_with fail
  refine (days_any 2000 13 1 _).mono ?_
  rintro e w5 ⟨rfl, hb⟩
  rw [q4]
  dsimp only
  replace HL := Lib.hid (HL.out.below hb)
  replace HB := Lib.hid (HB.out.trans (hb.mono HB.out.size))
  clear hb
  go_wp2_with fail
  refine (days_any 2100 2 29 _).mono ?_
  rintro e w6 ⟨rfl, hb⟩
  rw [q5]
  dsimp only
  replace HL := Lib.hid (HL.out.below hb)
  replace HB := Lib.hid (HB.out.trans (hb.mono HB.out.size))
  clear hb
  go_wp2_with fail
  refine (date_any (-1) _).mono ?_
  rintro e w7 ⟨hr, hb⟩
  obtain rfl := rets_date_no hr (by decide)
  clear hr
  replace HL := Lib.hid (HL.out.below hb)
  replace HB := Lib.hid (HB.out.trans (hb.mono HB.out.size))
  clear hb
  go_wp2_with fail
  refine (days_any 9999 12 31 _).mono ?_
  rintro e w8 ⟨rfl, hb⟩
  rw [q6]
  dsimp only
  replace HL := Lib.hid (HL.out.below hb)
  replace HB := Lib.hid (HB.out.trans (hb.mono HB.out.size))
  clear hb
  go_wp2_with fail
  refine (date_any 2932897 _).mono ?_
  rintro e w9 ⟨hr, hb⟩
  obtain rfl := rets_date_no hr (by decide)
  clear hr
  replace HL := Lib.hid (HL.out.below hb)
  replace HB := Lib.hid (HB.out.trans (hb.mono HB.out.size))
  clear hb
  have hblk : (w9.alloc (.cells cellsN 9)).heap[w9.heap.size]? = some (.cells cellsN 9 (0, 0)) := World.alloc_heap_new _ _
  have HBA := Lib.hid (HB.out.alloc HB.out.size (.cells cellsN 9))
  have HLA := Lib.hid (HL.out.below ((Below.refl w9.heap.size w9).alloc (Nat.le_refl _) (.cells cellsN 9)))
  have hsz := World.size_alloc w9 (.cells cellsN 9)
  go_wp2_with fail
  generalize hQ : w9.heap.size = Q at *
  generalize w9.alloc (.cells cellsN 9) = wa at *
  have HBK := Lib.hid hblk
  have HWA := Lib.hid (Below.refl wa.heap.size wa)
  clear hblk hQ
  go_loopw [25, 157] (fun bv iv wr => ∃ i : Nat, bv = .bool true ∧ iv = .int .i64 (i : Int) ∧ i ≤ 16 ∧ Hid (Below wa.heap.size wa wr)) (fun _ iv _ => 17 - (intOf iv).toNat)
  case atStart => exact ⟨0, rfl, rfl, by decide, HWA⟩
  case round =>
    obtain ⟨i, rfl, rfl, hi, HW⟩ := hrel
    by_cases hlt : i < 16
    · obtain ⟨s, hs, hsl, hno⟩ := cells_n i hlt
      have ci : wr.cell? ⟨Q, 0 + i, none⟩ = some (.string ⟨s.toArray⟩) := (HW.out.cell (p := ⟨Q, 0 + i, none⟩) (by show Q < wa.heap.size; omega)).trans ((cell_of_row wa Q (0 + i) cellsN 9 (0, 0) HBK.out).trans (by rw [Nat.zero_add, ← Array.getElem?_toList]; exact hs))
      rw [Nat.zero_add] at ci
      have HNO := Lib.hid hno
      clear hs hno
      go_wp2_with fail
      refine (readgeneral_any s (by omega) _ (HLA.out.below HW.out)).mono ?_
      rintro e w20 ⟨hr, hb⟩
      obtain rfl := rets_read_no hr HNO.out
      have HW := Lib.hid (HW.out.trans (hb.mono HW.out.size))
      clear hb hr
      go_wp2
      go_roundw
      case rel => exact ⟨i + 1, rfl, by go_num, by omega, HW⟩
      case measure => simp [intOf]; omega
    · have hie : i = 16 := by omega
      subst hie
      have HL := Lib.hid (HLA.out.below HW.out)
      have HB := Lib.hid (HBA.out.trans (HW.out.mono HBA.out.size))
      clear HLA HBA HW HBK HWA
      go_wp2_with fail
      refine (short_yes 0 _ _ HL.out.tab text_a (by decide) (by decide) 1970 1 1 date_zero (by decide)).mono ?_
      rintro e w10 ⟨rfl, hb⟩
      replace HL := Lib.hid (HL.out.below hb)
      replace HB := Lib.hid (HB.out.trans (hb.mono HB.out.size))
      clear hb
      go_wp2_with fail
      refine (short_no 1 _ HL.out.tab no_short_one).mono ?_
      rintro e w11 ⟨rfl, hb⟩
      replace HL := Lib.hid (HL.out.below hb)
      replace HB := Lib.hid (HB.out.trans (hb.mono HB.out.size))
      clear hb
      go_wp2_with fail
      refine (readshort_any [52, 57, 49, 50, 51, 49, 50, 51, 53, 57, 53, 57, 90] (by decide) _ HL.out).mono ?_
      rintro e w12 ⟨hr, hb⟩
      obtain rfl := rets_reads_yes (n := 2524607999000) (l := [50, 48, 52, 57, 49, 50, 51, 49, 50, 51, 53, 57, 53, 57, 90]) hr short_s text_s
      clear hr
      replace HL := Lib.hid (HL.out.below hb)
      replace HB := Lib.hid (HB.out.trans (hb.mono HB.out.size))
      clear hb
      go_wp2_with fail
      refine (readshort_any [53, 48, 48, 49, 48, 49, 48, 48, 48, 48, 48, 48, 90] (by decide) _ HL.out).mono ?_
      rintro e w13 ⟨hr, hb⟩
      obtain rfl := rets_reads_no hr (.inl (by kernel_rfl))
      clear hr
      replace HL := Lib.hid (HL.out.below hb)
      replace HB := Lib.hid (HB.out.trans (hb.mono HB.out.size))
      clear hb
      go_wp2_with fail
      refine (readshort_any [54, 57, 49, 50, 51, 49, 50, 51, 53, 57, 53, 57, 90] (by decide) _ HL.out).mono ?_
      rintro e w14 ⟨hr, hb⟩
      obtain rfl := rets_reads_no hr (.inl (by kernel_rfl))
      clear hr
      replace HL := Lib.hid (HL.out.below hb)
      replace HB := Lib.hid (HB.out.trans (hb.mono HB.out.size))
      clear hb
      go_wp2_with fail
      refine (readshort_any [55, 48, 48, 49, 48, 49, 48, 48, 48, 48, 48, 48, 90] (by decide) _ HL.out).mono ?_
      rintro e w15 ⟨hr, hb⟩
      obtain rfl := rets_reads_yes (n := 0) (l := [49, 57, 55, 48, 48, 49, 48, 49, 48, 48, 48, 48, 48, 48, 90]) hr short_zero text_a
      clear hr
      replace HL := Lib.hid (HL.out.below hb)
      replace HB := Lib.hid (HB.out.trans (hb.mono HB.out.size))
      clear hb
      go_wp2_with fail
      refine (short_no 2524608000000 _ HL.out.tab no_short_end).mono ?_
      rintro e w16 ⟨rfl, hb⟩
      replace HL := Lib.hid (HL.out.below hb)
      replace HB := Lib.hid (HB.out.trans (hb.mono HB.out.size))
      clear hb
      go_wp2_with fail
      refine (readshort_any [52, 57, 48, 49, 48, 49, 48, 48, 48, 48, 48, 48, 46, 53, 90] (by decide) _ HL.out).mono ?_
      rintro e w17 ⟨hr, hb⟩
      obtain rfl := rets_reads_no hr (.inr (by decide +kernel))
      clear hr
      replace HL := Lib.hid (HL.out.below hb)
      replace HB := Lib.hid (HB.out.trans (hb.mono HB.out.size))
      clear hb
      go_wp2_with fail
      have hAc := AccAt.new w17 38 0 500 0
      have hbA := (Below.refl w17.heap.size w17).alloc (Nat.le_refl _) (.cells #[.int .i64 0, .int .i64 500, .int .i64 0] 38)
      have HL := Lib.hid (HL.out.below hbA)
      have HB := Lib.hid (HB.out.trans (hbA.mono HB.out.size))
      have HAC := Lib.hid hAc
      clear hAc hbA
      generalize w17.heap.size = QA at *
      generalize w17.alloc (.cells #[.int .i64 0, .int .i64 500, .int .i64 0] 38) = wq at *
      skip
      refine (order_any 0 1000 0 500 0 0 500 0 _).mono ?_
      rintro e w18 ⟨rfl, hb⟩
      rw [q10]
      dsimp only
      replace HL := Lib.hid (HL.out.below hb)
      replace HAC := Lib.hid (HAC.out.below hb)
      replace HB := Lib.hid (HB.out.trans (hb.mono HB.out.size))
      clear hb
      have c0 := HAC.out.c0
      have c1 := HAC.out.c1
      have c2 := HAC.out.c2
      go_wp2_with fail
      refine (order_any 0 1000 0 500 0 0 499 999 _).mono ?_
      rintro e w19 ⟨rfl, hb⟩
      rw [q11]
      dsimp only
      clear c0 c1 c2
      replace HL := Lib.hid (HL.out.below hb)
      replace HAC := Lib.hid (HAC.out.below hb)
      replace HB := Lib.hid (HB.out.trans (hb.mono HB.out.size))
      clear hb
      have c0 := HAC.out.c0
      have c1 := HAC.out.c1
      have c2 := HAC.out.c2
      go_wp2_with fail
      refine (order_any 0 253402300800000 0 500 0 0 500 0 _).mono ?_
      rintro e w20 ⟨rfl, hb⟩
      rw [q12]
      dsimp only
      clear c0 c1 c2
      replace HL := Lib.hid (HL.out.below hb)
      replace HAC := Lib.hid (HAC.out.below hb)
      replace HB := Lib.hid (HB.out.trans (hb.mono HB.out.size))
      clear hb
      go_wp2_with fail
      refine (width_any 0 1000 0 _).mono ?_
      rintro e w21 ⟨rfl, hb⟩
      rw [q13]
      dsimp only
      replace HL := Lib.hid (HL.out.below hb)
      replace HAC := Lib.hid (HAC.out.below hb)
      replace HB := Lib.hid (HB.out.trans (hb.mono HB.out.size))
      clear hb
      go_wp2_with fail
      refine (width_any 2147483648 0 0 _).mono ?_
      rintro e w22 ⟨rfl, hb⟩
      rw [q14]
      dsimp only
      replace HL := Lib.hid (HL.out.below hb)
      replace HAC := Lib.hid (HAC.out.below hb)
      replace HB := Lib.hid (HB.out.trans (hb.mono HB.out.size))
      clear hb
      go_wp2_with fail
      refine (width_any 1 2 3 _).mono ?_
      rintro e w23 ⟨rfl, hb⟩
      rw [q15]
      dsimp only
      replace HL := Lib.hid (HL.out.below hb)
      replace HAC := Lib.hid (HAC.out.below hb)
      replace HB := Lib.hid (HB.out.trans (hb.mono HB.out.size))
      clear hb
      go_wp2_with fail
      refine (alive_h _ HL.out).mono ?_
      rintro e w24 ⟨rfl, hb⟩
      replace HL := Lib.hid (HL.out.below hb)
      replace HAC := Lib.hid (HAC.out.below hb)
      replace HB := Lib.hid (HB.out.trans (hb.mono HB.out.size))
      clear hb
      go_wp2
      go_ret
      exact ⟨rfl, HB.out⟩

end Go.Proofs.YtholkbgkkfndhaaDoor
