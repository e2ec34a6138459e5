/-
  SHA-512: the law Pieces. (Written by wip/gen_shb.py.)
-/
import Derived.Test.YtpfdehjllnhllaaShb4
namespace Go.Proofs.Ytpfdehjllnhllaa
open Go.RowKit Go.Shelf

set_option maxHeartbeats 4000000 in
set_option maxRecDepth 100000 in
theorem pieces384_walk (a a2 a3 : Option Addr) (n c n2 c2 n3 c3 : Nat) (l l2 l3 : List Nat) (w : World) (hr : Reads .u8 w a n c l) (hl : Byt l) (hr2 : Reads .u8 w a2 n2 c2 l2) (hl2 : Byt l2) (hr3 : Reads .u8 w a3 n3 c3 l3) (hl3 : Byt l3) :
    Calls Try.prog 5 #[.bool false, .slice a n c, .slice a2 n2 c2, .slice a3 n3 c3] w fun e w' => e = .returned (.bool true) ∧ Below w.heap.size w w' := by
  have HR := Lib.hid hr
  have HR2 := Lib.hid hr2
  have HR3 := Lib.hid hr3
  have HL := Lib.hid hl
  have HL2 := Lib.hid hl2
  have HL3 := Lib.hid hl3
  have HNL := Lib.hid hr.length
  have hmx := hr.len_le
  have hmx2 := hr2.len_le
  have hmx3 := hr3.len_le
  unfold maxLen at hmx hmx2 hmx3
  clear hr hl hr2 hl2 hr3 hl3
  go_enter Try.func5, Try.ntmps5
  go_wp2_with fail
  refine (alive_any w).mono ?_
  rintro e w1 ⟨rfl, h1⟩
  have H1 := Lib.hid h1
  clear h1
  by_cases hbig : 3000 < n
  · have d1 : decide ((3000 : Int) < (n : Int)) = true := by simp; omega
    go_wp2
    go_ret
    exact ⟨rfl, H1.out⟩
  · have d1 : decide ((3000 : Int) < (n : Int)) = false := by simp; omega
    by_cases hbig2 : 100 < n2
    · have d2 : decide ((100 : Int) < (n2 : Int)) = true := by simp; omega
      go_wp2
      go_ret
      exact ⟨rfl, H1.out⟩
    · have d2 : decide ((100 : Int) < (n2 : Int)) = false := by simp; omega
      by_cases hbig3 : 100 < n3
      · have d3 : decide ((100 : Int) < (n3 : Int)) = true := by simp; omega
        go_wp2
        go_ret
        exact ⟨rfl, H1.out⟩
      · have d3 : decide ((100 : Int) < (n3 : Int)) = false := by simp; omega
        go_wp2_with fail
        refine (state384_any true _ _ _ _ _ _ _ _ w1 (HR.out.below H1.out) HL.out (by omega) (HR2.out.below H1.out) HL2.out).mono ?_
        rintro e w2 ⟨rfl, hs2, hb2⟩
        have HS2 := Lib.hid hs2
        have HB2 := Lib.hid (below_on H1.out hb2)
        clear hs2 hb2
        go_wp2_with fail
        refine (state384_any false _ _ _ _ _ _ _ _ w2 (HR.out.below HB2.out) HL.out (by omega) (HR3.out.below HB2.out) HL3.out).mono ?_
        rintro e w3 ⟨rfl, hs3, hb3⟩
        have HT3 := Lib.hid (show Two w w3 w1.heap.size w2.heap.size 384 l l from ⟨HS2.out.below hb3 HS2.out.lt, hs3, below_on HB2.out hb3⟩)
        clear hs3 hb3
        generalize w1.heap.size = g1 at *
        generalize w2.heap.size = g2 at *
        go_wp2_with fail
        refine (of_hash 384 (by decide) l _ _ _ w3 (HR.out.below HT3.out.below) HL.out (by omega)).mono ?_
        rintro e w4 ⟨⟨ad0, rfl, h40, h41⟩, hb4⟩
        have HS4 := Lib.hid (show SumAt w w4 ad0 384 l from ⟨h40, Nat.le_trans HT3.out.below.size h41⟩)
        have HT4 := Lib.hid (HT3.out.on hb4)
        clear h40 h41 hb4
        go_wp2_with fail
        refine (HT4.out.sum1 (by decide)).mono ?_
        rintro e w5 ⟨⟨ad1, rfl, hs5⟩, ht5, hb5⟩
        have HS5 := Lib.hid hs5
        have HT5 := Lib.hid ht5
        have HQ5 := Lib.hid (HS4.out.on hb5)
        clear hs5 ht5 hb5
        go_wp2_with fail
        refine (HT5.out.sum2 (by decide)).mono ?_
        rintro e w6 ⟨⟨ad2, rfl, hs6⟩, ht6, hb6⟩
        have HT6 := Lib.hid ht6
        have hc0 := (HQ5.out.on hb6).conv
        have hc1 := (HS5.out.on hb6).conv
        have hc2 := hs6.conv
        simp only [Nat.reduceDiv] at hc0 hc1 hc2
        clear hs6 ht6 hb6
        go_wp2_with fail
        refine (HT6.out.len1 (by decide)).mono ?_
        rintro e W9 ⟨rfl, rfl⟩
        rw [HNL.out]
        go_wp2_with fail
        refine (HT6.out.len2 (by decide)).mono ?_
        rintro e W9 ⟨rfl, rfl⟩
        rw [HNL.out]
        go_wp2_with fail
        refine (HT6.out.len1 (by decide)).mono ?_
        rintro e W9 ⟨rfl, rfl⟩
        rw [HNL.out]
        go_wp2
        go_ret
        exact ⟨by simp, HT6.out.below⟩

set_option maxHeartbeats 4000000 in
set_option maxRecDepth 100000 in
theorem pieces512_walk (a a2 a3 : Option Addr) (n c n2 c2 n3 c3 : Nat) (l l2 l3 : List Nat) (w : World) (hr : Reads .u8 w a n c l) (hl : Byt l) (hr2 : Reads .u8 w a2 n2 c2 l2) (hl2 : Byt l2) (hr3 : Reads .u8 w a3 n3 c3 l3) (hl3 : Byt l3) :
    Calls Try.prog 5 #[.bool true, .slice a n c, .slice a2 n2 c2, .slice a3 n3 c3] w fun e w' => e = .returned (.bool true) ∧ Below w.heap.size w w' := by
  have HR := Lib.hid hr
  have HR2 := Lib.hid hr2
  have HR3 := Lib.hid hr3
  have HL := Lib.hid hl
  have HL2 := Lib.hid hl2
  have HL3 := Lib.hid hl3
  have HNL := Lib.hid hr.length
  have hmx := hr.len_le
  have hmx2 := hr2.len_le
  have hmx3 := hr3.len_le
  unfold maxLen at hmx hmx2 hmx3
  clear hr hl hr2 hl2 hr3 hl3
  go_enter Try.func5, Try.ntmps5
  go_wp2_with fail
  refine (alive_any w).mono ?_
  rintro e w1 ⟨rfl, h1⟩
  have H1 := Lib.hid h1
  clear h1
  by_cases hbig : 3000 < n
  · have d1 : decide ((3000 : Int) < (n : Int)) = true := by simp; omega
    go_wp2
    go_ret
    exact ⟨rfl, H1.out⟩
  · have d1 : decide ((3000 : Int) < (n : Int)) = false := by simp; omega
    by_cases hbig2 : 100 < n2
    · have d2 : decide ((100 : Int) < (n2 : Int)) = true := by simp; omega
      go_wp2
      go_ret
      exact ⟨rfl, H1.out⟩
    · have d2 : decide ((100 : Int) < (n2 : Int)) = false := by simp; omega
      by_cases hbig3 : 100 < n3
      · have d3 : decide ((100 : Int) < (n3 : Int)) = true := by simp; omega
        go_wp2
        go_ret
        exact ⟨rfl, H1.out⟩
      · have d3 : decide ((100 : Int) < (n3 : Int)) = false := by simp; omega
        go_wp2_with fail
        refine (state512_any true _ _ _ _ _ _ _ _ w1 (HR.out.below H1.out) HL.out (by omega) (HR2.out.below H1.out) HL2.out).mono ?_
        rintro e w2 ⟨rfl, hs2, hb2⟩
        have HS2 := Lib.hid hs2
        have HB2 := Lib.hid (below_on H1.out hb2)
        clear hs2 hb2
        go_wp2_with fail
        refine (state512_any false _ _ _ _ _ _ _ _ w2 (HR.out.below HB2.out) HL.out (by omega) (HR3.out.below HB2.out) HL3.out).mono ?_
        rintro e w3 ⟨rfl, hs3, hb3⟩
        have HT3 := Lib.hid (show Two w w3 w1.heap.size w2.heap.size 512 l l from ⟨HS2.out.below hb3 HS2.out.lt, hs3, below_on HB2.out hb3⟩)
        clear hs3 hb3
        generalize w1.heap.size = g1 at *
        generalize w2.heap.size = g2 at *
        go_wp2_with fail
        refine (of_hash 512 (by decide) l _ _ _ w3 (HR.out.below HT3.out.below) HL.out (by omega)).mono ?_
        rintro e w4 ⟨⟨ad0, rfl, h40, h41⟩, hb4⟩
        have HS4 := Lib.hid (show SumAt w w4 ad0 512 l from ⟨h40, Nat.le_trans HT3.out.below.size h41⟩)
        have HT4 := Lib.hid (HT3.out.on hb4)
        clear h40 h41 hb4
        go_wp2_with fail
        refine (HT4.out.sum1 (by decide)).mono ?_
        rintro e w5 ⟨⟨ad1, rfl, hs5⟩, ht5, hb5⟩
        have HS5 := Lib.hid hs5
        have HT5 := Lib.hid ht5
        have HQ5 := Lib.hid (HS4.out.on hb5)
        clear hs5 ht5 hb5
        go_wp2_with fail
        refine (HT5.out.sum2 (by decide)).mono ?_
        rintro e w6 ⟨⟨ad2, rfl, hs6⟩, ht6, hb6⟩
        have HT6 := Lib.hid ht6
        have hc0 := (HQ5.out.on hb6).conv
        have hc1 := (HS5.out.on hb6).conv
        have hc2 := hs6.conv
        simp only [Nat.reduceDiv] at hc0 hc1 hc2
        clear hs6 ht6 hb6
        go_wp2_with fail
        refine (HT6.out.len1 (by decide)).mono ?_
        rintro e W9 ⟨rfl, rfl⟩
        rw [HNL.out]
        go_wp2_with fail
        refine (HT6.out.len2 (by decide)).mono ?_
        rintro e W9 ⟨rfl, rfl⟩
        rw [HNL.out]
        go_wp2_with fail
        refine (HT6.out.len1 (by decide)).mono ?_
        rintro e W9 ⟨rfl, rfl⟩
        rw [HNL.out]
        go_wp2
        go_ret
        exact ⟨by simp, HT6.out.below⟩

theorem pieces_walk (long : Bool) (a a2 a3 : Option Addr) (n c n2 c2 n3 c3 : Nat) (l l2 l3 : List Nat) (w : World) (hr : Reads .u8 w a n c l) (hl : Byt l) (hr2 : Reads .u8 w a2 n2 c2 l2) (hl2 : Byt l2) (hr3 : Reads .u8 w a3 n3 c3 l3) (hl3 : Byt l3) :
    Calls Try.prog 5 #[.bool long, .slice a n c, .slice a2 n2 c2, .slice a3 n3 c3] w fun e w' => e = .returned (.bool true) ∧ Below w.heap.size w w' := by
  cases long
  · exact pieces384_walk a a2 a3 n c n2 c2 n3 c3 l l2 l3 w hr hl hr2 hl2 hr3 hl3
  · exact pieces512_walk a a2 a3 n c n2 c2 n3 c3 l l2 l3 w hr hl hr2 hl2 hr3 hl3

end Go.Proofs.Ytpfdehjllnhllaa
