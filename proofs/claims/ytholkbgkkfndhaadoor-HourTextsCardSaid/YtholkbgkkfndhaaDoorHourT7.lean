/-
  HOUR: the law HourTexts. (Written by wip/gen_hourT6.py.)
-/
import Derived.Test.YtholkbgkkfndhaaDoorHourT6
namespace Go.Proofs.YtholkbgkkfndhaaDoor
open Go.RowKit
set_option maxRecDepth 100000

/-- A number and an error, as both answer it. -/
def AnsH (x y : Int) (e : Ending) : Prop := e = .returned (.tuple #[.int .i64 x, .int .i64 y])
theorem read_one {s : List UInt8} {e e' : Ending} (h : RetsRead s e) (g : RetsRead s e') : ∃ x y, AnsH x y e ∧ AnsH x y e' := by
  rcases h with ⟨n, h1, h2, h3⟩ | ⟨h1, h2⟩
  · exact ⟨_, _, h3, rets_read_yes g h1 h2⟩
  · rcases g with ⟨n, g1, g2, g3⟩ | ⟨g1, g2⟩
    · exact absurd g2 (h1 n g1)
    · exact ⟨_, _, h2, g2⟩
theorem reads_one {s : List UInt8} {e e' : Ending} (h : RetsReadS s e) (g : RetsReadS s e') : ∃ x y, AnsH x y e ∧ AnsH x y e' := by
  rcases h with ⟨n, l, h1, h2, rfl, h4⟩ | ⟨h1, h2⟩
  · exact ⟨_, _, h4, rets_reads_yes g h1 h2⟩
  · rcases g with ⟨n, l, g1, g2, g3, g4⟩ | ⟨g1, g2⟩
    · exact absurd g3 (h1 n l g1 g2)
    · exact ⟨_, _, h2, g2⟩
def AnsT (x : List UInt8) (y : Int) (e : Ending) : Prop := e = .returned (.tuple #[.string ⟨x.toArray⟩, .int .i64 y])
theorem short_one {t : Int} {e e' : Ending} (h : RetsShort t e) (g : RetsShort t e') : ∃ x y, AnsT x y e ∧ AnsT x y e' := by
  rcases h with ⟨n, l, h1, h2, h3, h4⟩ | ⟨h1, h2⟩
  · rcases g with ⟨k, l', g1, g2, g3, g4⟩ | ⟨g1, g2⟩
    · obtain rfl : n = k := by omega
      obtain rfl := text_unique h3 g3
      exact ⟨_, _, h4, g4⟩
    · exact absurd (by rw [h1]; exact h2) g1
  · rcases g with ⟨k, l', g1, g2, g3, g4⟩ | ⟨g1, g2⟩
    · exact absurd (by rw [g1]; exact g2) h1
    · exact ⟨_, _, h2, g2⟩

set_option maxHeartbeats 2000000 in
theorem htexts_walk (t : Int) (s : List UInt8) (w : World) (hL : Libs w) : Calls Tryd.prog 3 #[.int .i64 t, .string ⟨s.toArray⟩] w fun e w' => e = .returned (.bool true) ∧ Below w.heap.size w w' := by
  have HL := Lib.hid hL
  clear hL
  by_cases h1 : 100 < s.length
  · have d1 : decide ((100 : Int) < (s.length : Int)) = true := decide_eq_true (by omega)
    have d1n : decide (100 < s.length) = true := decide_eq_true h1
    go_enter Tryd.func3, Tryd.ntmps3
    go_wp2
    go_ret
    exact ⟨rfl, Below.refl _ _⟩
  have d1 : decide ((100 : Int) < (s.length : Int)) = false := decide_eq_false (by omega)
  have d1n : decide (100 < s.length) = false := decide_eq_false h1
  by_cases ht : 0 ≤ t ∧ t ≤ 253402300799999
  · obtain ⟨n, rfl⟩ : ∃ n : Nat, t = (n : Int) := ⟨t.toNat, by omega⟩
    have hn : n ≤ 253402300799999 := by omega
    clear ht
    go_enter Tryd.func3, Tryd.ntmps3
    go_wp2_with fail
    refine (general_yes n hn _ HL.out.tab).mono ?_
    rintro e w1 ⟨l, rfl, hl, hb⟩
    have HB := Lib.hid hb
    have HLT := Lib.hid hl
    clear hb hl
    go_wp2_with fail
    refine (refgeneral_yes n hn _).mono ?_
    rintro e w2 ⟨l', rfl, hl, hb⟩
    have HB := Lib.hid (HB.out.trans (hb.mono HB.out.size))
    clear hb
    obtain rfl := text_unique HLT.out hl
    clear hl HLT
    generalize (n : Int) = t at *
    go_wp2_with fail
    refine (short_any t _ (HL.out.below HB.out)).mono ?_
    rintro e1 w2 ⟨hs1, hb⟩
    have HB := Lib.hid (HB.out.trans (hb.mono HB.out.size))
    clear hb
    have HS1 := Lib.hid hs1
    obtain ⟨x1, y1, hx1⟩ : ∃ x y, AnsT x y e1 := by obtain ⟨x, y, h, -⟩ := short_one hs1 hs1; exact ⟨x, y, h⟩
    clear hs1
    obtain rfl := hx1
    go_wp2_with fail
    refine (refshort_any t _).mono ?_
    rintro e2 w3 ⟨hs2, hb⟩
    have HB := Lib.hid (HB.out.trans (hb.mono HB.out.size))
    clear hb
    obtain ⟨x2, y2, k1, k2⟩ := short_one HS1.out hs2
    obtain ⟨rfl, rfl⟩ : x1 = x2 ∧ y1 = y2 := by
      unfold AnsT at k1
      simp at k1
      exact ⟨k1.1, k1.2⟩
    obtain rfl := k2
    clear k1 hs2 HS1
    go_wp2_with fail
    refine (readgeneral_any s (by omega) _ (HL.out.below HB.out)).mono ?_
    rintro e1 w4 ⟨hs1, hb⟩
    have HB := Lib.hid (HB.out.trans (hb.mono HB.out.size))
    clear hb
    have HS1 := Lib.hid hs1
    obtain ⟨x3, y3, hx1⟩ : ∃ x y, AnsH x y e1 := by obtain ⟨x, y, h, -⟩ := read_one hs1 hs1; exact ⟨x, y, h⟩
    clear hs1
    obtain rfl := hx1
    go_wp2_with fail
    refine (refreadgeneral_any s (by omega) _).mono ?_
    rintro e2 w5 ⟨hs2, hb⟩
    have HB := Lib.hid (HB.out.trans (hb.mono HB.out.size))
    clear hb
    obtain ⟨x4, y4, k1, k2⟩ := read_one HS1.out hs2
    obtain ⟨rfl, rfl⟩ : x3 = x4 ∧ y3 = y4 := by
      unfold AnsH at k1
      simp at k1
      exact ⟨k1.1, k1.2⟩
    obtain rfl := k2
    clear k1 hs2 HS1
    go_wp2_with fail
    refine (readshort_any s (by omega) _ (HL.out.below HB.out)).mono ?_
    rintro e1 w6 ⟨hs1, hb⟩
    have HB := Lib.hid (HB.out.trans (hb.mono HB.out.size))
    clear hb
    have HS1 := Lib.hid hs1
    obtain ⟨x5, y5, hx1⟩ : ∃ x y, AnsH x y e1 := by obtain ⟨x, y, h, -⟩ := reads_one hs1 hs1; exact ⟨x, y, h⟩
    clear hs1
    obtain rfl := hx1
    go_wp2_with fail
    refine (refreadshort_any s (by omega) _).mono ?_
    rintro e2 w7 ⟨hs2, hb⟩
    have HB := Lib.hid (HB.out.trans (hb.mono HB.out.size))
    clear hb
    obtain ⟨x6, y6, k1, k2⟩ := reads_one HS1.out hs2
    obtain ⟨rfl, rfl⟩ : x5 = x6 ∧ y5 = y6 := by
      unfold AnsH at k1
      simp at k1
      exact ⟨k1.1, k1.2⟩
    obtain rfl := k2
    clear k1 hs2 HS1
    go_wp2
    go_ret
    exact ⟨rfl, HB.out⟩
  have HT := Lib.hid ht
  clear ht
  go_enter Tryd.func3, Tryd.ntmps3
  go_wp2_with fail
  refine (general_no t _ HT.out).mono ?_
  rintro e w1 ⟨rfl, rfl⟩
  have HB := Lib.hid (Below.refl w1.heap.size w1)
  go_wp2_with fail
  refine (refgeneral_no t _ HT.out).mono ?_
  rintro e w2 ⟨rfl, hb⟩
  have HB := Lib.hid (HB.out.trans (hb.mono HB.out.size))
  clear hb
  go_wp2_with fail
  refine (short_any t _ (HL.out.below HB.out)).mono ?_
  rintro e1 w2 ⟨hs1, hb⟩
  have HB := Lib.hid (HB.out.trans (hb.mono HB.out.size))
  clear hb
  have HS1 := Lib.hid hs1
  obtain ⟨x1, y1, hx1⟩ : ∃ x y, AnsT x y e1 := by obtain ⟨x, y, h, -⟩ := short_one hs1 hs1; exact ⟨x, y, h⟩
  clear hs1
  obtain rfl := hx1
  go_wp2_with fail
  refine (refshort_any t _).mono ?_
  rintro e2 w3 ⟨hs2, hb⟩
  have HB := Lib.hid (HB.out.trans (hb.mono HB.out.size))
  clear hb
  obtain ⟨x2, y2, k1, k2⟩ := short_one HS1.out hs2
  obtain ⟨rfl, rfl⟩ : x1 = x2 ∧ y1 = y2 := by
    unfold AnsT at k1
    simp at k1
    exact ⟨k1.1, k1.2⟩
  obtain rfl := k2
  clear k1 hs2 HS1
  go_wp2_with fail
  refine (readgeneral_any s (by omega) _ (HL.out.below HB.out)).mono ?_
  rintro e1 w4 ⟨hs1, hb⟩
  have HB := Lib.hid (HB.out.trans (hb.mono HB.out.size))
  clear hb
  have HS1 := Lib.hid hs1
  obtain ⟨x3, y3, hx1⟩ : ∃ x y, AnsH x y e1 := by obtain ⟨x, y, h, -⟩ := read_one hs1 hs1; exact ⟨x, y, h⟩
  clear hs1
  obtain rfl := hx1
  go_wp2_with fail
  refine (refreadgeneral_any s (by omega) _).mono ?_
  rintro e2 w5 ⟨hs2, hb⟩
  have HB := Lib.hid (HB.out.trans (hb.mono HB.out.size))
  clear hb
  obtain ⟨x4, y4, k1, k2⟩ := read_one HS1.out hs2
  obtain ⟨rfl, rfl⟩ : x3 = x4 ∧ y3 = y4 := by
    unfold AnsH at k1
    simp at k1
    exact ⟨k1.1, k1.2⟩
  obtain rfl := k2
  clear k1 hs2 HS1
  go_wp2_with fail
  refine (readshort_any s (by omega) _ (HL.out.below HB.out)).mono ?_
  rintro e1 w6 ⟨hs1, hb⟩
  have HB := Lib.hid (HB.out.trans (hb.mono HB.out.size))
  clear hb
  have HS1 := Lib.hid hs1
  obtain ⟨x5, y5, hx1⟩ : ∃ x y, AnsH x y e1 := by obtain ⟨x, y, h, -⟩ := reads_one hs1 hs1; exact ⟨x, y, h⟩
  clear hs1
  obtain rfl := hx1
  go_wp2_with fail
  refine (refreadshort_any s (by omega) _).mono ?_
  rintro e2 w7 ⟨hs2, hb⟩
  have HB := Lib.hid (HB.out.trans (hb.mono HB.out.size))
  clear hb
  obtain ⟨x6, y6, k1, k2⟩ := reads_one HS1.out hs2
  obtain ⟨rfl, rfl⟩ : x5 = x6 ∧ y5 = y6 := by
    unfold AnsH at k1
    simp at k1
    exact ⟨k1.1, k1.2⟩
  obtain rfl := k2
  clear k1 hs2 HS1
  go_wp2
  go_ret
  exact ⟨rfl, HB.out⟩
end Go.Proofs.YtholkbgkkfndhaaDoor
