/-
  HOUR: the law HourBack. (Written by wip/gen_hourI.py.)
-/
import Derived.Test.YtholkbgkkfndhaaDoorHourH
import Derived.Test.YtholkbgkkfndhaaDoorHourZ
namespace Go.Proofs.YtholkbgkkfndhaaDoor
open Go.RowKit
set_option maxRecDepth 100000

theorem rets_read_yes {n : Nat} {s : List UInt8} {e : Ending} (h : RetsRead s e) (hn : n ≤ 253402300799999) (hl : IsText n s) : e = .returned (.tuple #[.int .i64 (n : Int), .int .i64 0]) := by
  rcases h with ⟨k, hk, hkt, rfl⟩ | ⟨hno, _⟩
  · have h1 := read_text hl hn
    rw [read_text hkt hk] at h1
    have := congrArg Prod.fst h1
    dsimp only at this
    rw [this]
  · exact absurd hl (hno n hn)
theorem rets_reads_yes {n : Nat} {l : List UInt8} {e : Ending} (h : RetsReadS (l.drop 2) e) (hn : ShortOk (n : Int)) (hl : IsText n l) : e = .returned (.tuple #[.int .i64 (n : Int), .int .i64 0]) := by
  rcases h with ⟨k, l', hk, hkt, he, rfl⟩ | ⟨hno, _⟩
  · have h1 := read_short hl hn
    rw [he, read_short hkt hk] at h1
    have := congrArg Prod.fst h1
    dsimp only at this
    rw [this]
  · exact absurd rfl (hno n l hn hl)

/-- A short text's general one begins with 19, or 20. -/
theorem short_head {n : Nat} {l : List UInt8} (hn : ShortOk (n : Int)) (hl : IsText n l) : ∃ D : List UInt8, l.drop 2 = D ∧ (l = 49 :: 57 :: D ∨ l = 50 :: 48 :: D) := by
  obtain ⟨k, Y, M, D, hk, h1, h2, hd, hy⟩ := hn
  obtain rfl : n = k := by omega
  obtain ⟨y, m, d, c, rfl⟩ := clock_of hl h1
  obtain ⟨rfl, _, _⟩ := date_unique hd c.date
  have := c.year
  refine ⟨_, rfl, ?_⟩
  rw [text_drop, textN_eq, pd_split, List.append_assoc]
  rcases (show y / 100 = 19 ∨ y / 100 = 20 by omega) with h | h
  · left; rw [h]; rfl
  · right; rw [h]; rfl

set_option maxHeartbeats 4000000 in
theorem back_walk (t : Int) (s : List UInt8) (w : World) (hL : Libs w) : Calls Tryd.prog 5 #[.int .i64 t, .string ⟨s.toArray⟩] w fun e w' => e = .returned (.bool true) ∧ Below w.heap.size w w' := by
  have HL := Lib.hid hL
  have hss : (⟨s.toArray⟩ : ByteArray).size = s.length := by show s.toArray.size = _; rw [List.size_toArray]
  clear hL
  by_cases hbig : 100 < s.length
  · have d1 : decide ((100 : Int) < (s.length : Int)) = true := by simp; omega
    go_enter Tryd.func5, Tryd.ntmps5
    go_wp2_with fail
    refine (alive_h _ HL.out).mono ?_
    rintro e w1 ⟨rfl, hb⟩
    have HB := Lib.hid hb
    clear hb
    go_wp2
    go_ret
    exact ⟨rfl, HB.out⟩
  have d1 : decide ((100 : Int) < (s.length : Int)) = false := by simp; omega
  have hs : s.length ≤ 100 := by omega
  clear hbig
  by_cases ht : 0 ≤ t ∧ t ≤ 253402300799999
  rotate_left
  · have t1 : (decide (0 ≤ t) && decide (t ≤ 253402300799999)) = false := by simp; omega
    rcases (show t < 0 ∨ (0 ≤ t ∧ 253402300799999 < t) by omega) with h0 | ⟨h0, h1⟩
    · clear t1 ht
      go_enter Tryd.func5, Tryd.ntmps5
      go_wp2_with fail
      refine (alive_h _ HL.out).mono ?_
      rintro e w1 ⟨rfl, hb⟩
      have HB := Lib.hid hb
      clear hb
      go_wp2_with fail
      refine (readgeneral_any s (by omega) _ (HL.out.below HB.out)).mono ?_
      rintro e wa ⟨hg, hb⟩
      have HB := Lib.hid (HB.out.trans (hb.mono HB.out.size))
      clear hb
      rcases hg with ⟨n1, hn1, hl1, rfl⟩ | ⟨_, rfl⟩
      · skip
        have HX1 := Lib.hid hl1
        clear hl1
        go_wp2_with fail
        refine (readshort_any s (by omega) _ (HL.out.below HB.out)).mono ?_
        rintro e wb ⟨hg, hb⟩
        have HB := Lib.hid (HB.out.trans (hb.mono HB.out.size))
        clear hb
        rcases hg with ⟨n2, l2, hn2, hl2, he2, rfl⟩ | ⟨_, rfl⟩
        · skip
          have HX2 := Lib.hid hl2
          have HN2 := Lib.hid hn2
          have HE2 := Lib.hid he2
          clear hl2 hn2 he2
          go_wp2_with fail
          refine (general_yes n1 hn1 _ (HL.out.below HB.out).tab).mono ?_
          rintro e wc ⟨l3, rfl, hl3, hb⟩
          have HB := Lib.hid (HB.out.trans (hb.mono HB.out.size))
          clear hb
          obtain rfl := text_unique HX1.out hl3
          clear hl3
          go_wp2_with fail
          refine (short_any (n2 : Int) _ (HL.out.below HB.out)).mono ?_
          rintro e wd ⟨hg, hb⟩
          have HB := Lib.hid (HB.out.trans (hb.mono HB.out.size))
          clear hb
          rcases hg with ⟨n4, l4, hn4, _, hl4, rfl⟩ | ⟨hno, _⟩
          rotate_left
          · exact absurd HN2.out hno
          obtain rfl : n2 = n4 := by omega
          obtain rfl := text_unique HX2.out hl4
          rw [← HE2.out]
          clear hl4 hn4
          go_wp2
          go_ret
          exact ⟨rfl, HB.out⟩
        · skip
          go_wp2_with fail
          refine (general_yes n1 hn1 _ (HL.out.below HB.out).tab).mono ?_
          rintro e wc ⟨l3, rfl, hl3, hb⟩
          have HB := Lib.hid (HB.out.trans (hb.mono HB.out.size))
          clear hb
          obtain rfl := text_unique HX1.out hl3
          clear hl3
          go_wp2_with fail
          refine (short_any 0 _ (HL.out.below HB.out)).mono ?_
          rintro e wd ⟨hg, hb⟩
          have HB := Lib.hid (HB.out.trans (hb.mono HB.out.size))
          clear hb
          rcases hg with ⟨n4, l4, hn4, _, hl4, rfl⟩ | ⟨_, rfl⟩
          · clear hn4 hl4
            go_wp2
            go_ret
            exact ⟨rfl, HB.out⟩
          · go_wp2
            go_ret
            exact ⟨rfl, HB.out⟩
      · skip
        go_wp2_with fail
        refine (readshort_any s (by omega) _ (HL.out.below HB.out)).mono ?_
        rintro e wb ⟨hg, hb⟩
        have HB := Lib.hid (HB.out.trans (hb.mono HB.out.size))
        clear hb
        rcases hg with ⟨n2, l2, hn2, hl2, he2, rfl⟩ | ⟨_, rfl⟩
        · skip
          have HX2 := Lib.hid hl2
          have HN2 := Lib.hid hn2
          have HE2 := Lib.hid he2
          clear hl2 hn2 he2
          go_wp2_with fail
          refine (general_yes 0 (by decide) _ (HL.out.below HB.out).tab).mono ?_
          rintro e wc ⟨l3, rfl, hl3, hb⟩
          have HB := Lib.hid (HB.out.trans (hb.mono HB.out.size))
          clear hb
          clear hl3
          go_wp2_with fail
          refine (short_any (n2 : Int) _ (HL.out.below HB.out)).mono ?_
          rintro e wd ⟨hg, hb⟩
          have HB := Lib.hid (HB.out.trans (hb.mono HB.out.size))
          clear hb
          rcases hg with ⟨n4, l4, hn4, _, hl4, rfl⟩ | ⟨hno, _⟩
          rotate_left
          · exact absurd HN2.out hno
          obtain rfl : n2 = n4 := by omega
          obtain rfl := text_unique HX2.out hl4
          rw [← HE2.out]
          clear hl4 hn4
          go_wp2
          go_ret
          exact ⟨rfl, HB.out⟩
        · skip
          go_wp2_with fail
          refine (general_yes 0 (by decide) _ (HL.out.below HB.out).tab).mono ?_
          rintro e wc ⟨l3, rfl, hl3, hb⟩
          have HB := Lib.hid (HB.out.trans (hb.mono HB.out.size))
          clear hb
          clear hl3
          go_wp2_with fail
          refine (short_any 0 _ (HL.out.below HB.out)).mono ?_
          rintro e wd ⟨hg, hb⟩
          have HB := Lib.hid (HB.out.trans (hb.mono HB.out.size))
          clear hb
          rcases hg with ⟨n4, l4, hn4, _, hl4, rfl⟩ | ⟨_, rfl⟩
          · clear hn4 hl4
            go_wp2
            go_ret
            exact ⟨rfl, HB.out⟩
          · go_wp2
            go_ret
            exact ⟨rfl, HB.out⟩
    · clear t1 ht
      go_enter Tryd.func5, Tryd.ntmps5
      go_wp2_with fail
      refine (alive_h _ HL.out).mono ?_
      rintro e w1 ⟨rfl, hb⟩
      have HB := Lib.hid hb
      clear hb
      go_wp2_with fail
      refine (readgeneral_any s (by omega) _ (HL.out.below HB.out)).mono ?_
      rintro e wa ⟨hg, hb⟩
      have HB := Lib.hid (HB.out.trans (hb.mono HB.out.size))
      clear hb
      rcases hg with ⟨n1, hn1, hl1, rfl⟩ | ⟨_, rfl⟩
      · skip
        have HX1 := Lib.hid hl1
        clear hl1
        go_wp2_with fail
        refine (readshort_any s (by omega) _ (HL.out.below HB.out)).mono ?_
        rintro e wb ⟨hg, hb⟩
        have HB := Lib.hid (HB.out.trans (hb.mono HB.out.size))
        clear hb
        rcases hg with ⟨n2, l2, hn2, hl2, he2, rfl⟩ | ⟨_, rfl⟩
        · skip
          have HX2 := Lib.hid hl2
          have HN2 := Lib.hid hn2
          have HE2 := Lib.hid he2
          clear hl2 hn2 he2
          go_wp2_with fail
          refine (general_yes n1 hn1 _ (HL.out.below HB.out).tab).mono ?_
          rintro e wc ⟨l3, rfl, hl3, hb⟩
          have HB := Lib.hid (HB.out.trans (hb.mono HB.out.size))
          clear hb
          obtain rfl := text_unique HX1.out hl3
          clear hl3
          go_wp2_with fail
          refine (short_any (n2 : Int) _ (HL.out.below HB.out)).mono ?_
          rintro e wd ⟨hg, hb⟩
          have HB := Lib.hid (HB.out.trans (hb.mono HB.out.size))
          clear hb
          rcases hg with ⟨n4, l4, hn4, _, hl4, rfl⟩ | ⟨hno, _⟩
          rotate_left
          · exact absurd HN2.out hno
          obtain rfl : n2 = n4 := by omega
          obtain rfl := text_unique HX2.out hl4
          rw [← HE2.out]
          clear hl4 hn4
          go_wp2
          go_ret
          exact ⟨rfl, HB.out⟩
        · skip
          go_wp2_with fail
          refine (general_yes n1 hn1 _ (HL.out.below HB.out).tab).mono ?_
          rintro e wc ⟨l3, rfl, hl3, hb⟩
          have HB := Lib.hid (HB.out.trans (hb.mono HB.out.size))
          clear hb
          obtain rfl := text_unique HX1.out hl3
          clear hl3
          go_wp2_with fail
          refine (short_any 0 _ (HL.out.below HB.out)).mono ?_
          rintro e wd ⟨hg, hb⟩
          have HB := Lib.hid (HB.out.trans (hb.mono HB.out.size))
          clear hb
          rcases hg with ⟨n4, l4, hn4, _, hl4, rfl⟩ | ⟨_, rfl⟩
          · clear hn4 hl4
            go_wp2
            go_ret
            exact ⟨rfl, HB.out⟩
          · go_wp2
            go_ret
            exact ⟨rfl, HB.out⟩
      · skip
        go_wp2_with fail
        refine (readshort_any s (by omega) _ (HL.out.below HB.out)).mono ?_
        rintro e wb ⟨hg, hb⟩
        have HB := Lib.hid (HB.out.trans (hb.mono HB.out.size))
        clear hb
        rcases hg with ⟨n2, l2, hn2, hl2, he2, rfl⟩ | ⟨_, rfl⟩
        · skip
          have HX2 := Lib.hid hl2
          have HN2 := Lib.hid hn2
          have HE2 := Lib.hid he2
          clear hl2 hn2 he2
          go_wp2_with fail
          refine (general_yes 0 (by decide) _ (HL.out.below HB.out).tab).mono ?_
          rintro e wc ⟨l3, rfl, hl3, hb⟩
          have HB := Lib.hid (HB.out.trans (hb.mono HB.out.size))
          clear hb
          clear hl3
          go_wp2_with fail
          refine (short_any (n2 : Int) _ (HL.out.below HB.out)).mono ?_
          rintro e wd ⟨hg, hb⟩
          have HB := Lib.hid (HB.out.trans (hb.mono HB.out.size))
          clear hb
          rcases hg with ⟨n4, l4, hn4, _, hl4, rfl⟩ | ⟨hno, _⟩
          rotate_left
          · exact absurd HN2.out hno
          obtain rfl : n2 = n4 := by omega
          obtain rfl := text_unique HX2.out hl4
          rw [← HE2.out]
          clear hl4 hn4
          go_wp2
          go_ret
          exact ⟨rfl, HB.out⟩
        · skip
          go_wp2_with fail
          refine (general_yes 0 (by decide) _ (HL.out.below HB.out).tab).mono ?_
          rintro e wc ⟨l3, rfl, hl3, hb⟩
          have HB := Lib.hid (HB.out.trans (hb.mono HB.out.size))
          clear hb
          clear hl3
          go_wp2_with fail
          refine (short_any 0 _ (HL.out.below HB.out)).mono ?_
          rintro e wd ⟨hg, hb⟩
          have HB := Lib.hid (HB.out.trans (hb.mono HB.out.size))
          clear hb
          rcases hg with ⟨n4, l4, hn4, _, hl4, rfl⟩ | ⟨_, rfl⟩
          · clear hn4 hl4
            go_wp2
            go_ret
            exact ⟨rfl, HB.out⟩
          · go_wp2
            go_ret
            exact ⟨rfl, HB.out⟩
  obtain ⟨n, rfl⟩ : ∃ n : Nat, t = (n : Int) := ⟨t.toNat, by omega⟩
  have hn : n ≤ 253402300799999 := by omega
  clear ht
  go_enter Tryd.func5, Tryd.ntmps5
  go_wp2_with fail
  refine (alive_h _ HL.out).mono ?_
  rintro e w1 ⟨rfl, hb⟩
  have HB := Lib.hid hb
  clear hb
  go_wp2_with fail
  refine (general_yes n hn _ (HL.out.below HB.out).tab).mono ?_
  rintro e w2 ⟨l, rfl, hl, hb⟩
  have HB := Lib.hid (HB.out.trans (hb.mono HB.out.size))
  clear hb
  have hlen := (text_length hl).2
  have HX := Lib.hid hl
  clear hl
  go_wp2_with fail
  refine (readgeneral_any l (by omega) _ (HL.out.below HB.out)).mono ?_
  rintro e w3 ⟨hg, hb⟩
  obtain rfl := rets_read_yes hg hn HX.out
  have HB := Lib.hid (HB.out.trans (hb.mono HB.out.size))
  clear hb
  clear hg
  go_wp2_with fail
  refine (short_any (n : Int) _ (HL.out.below HB.out)).mono ?_
  rintro e w4 ⟨hg, hb⟩
  have HB := Lib.hid (HB.out.trans (hb.mono HB.out.size))
  clear hb
  rcases hg with ⟨n4, l4, hn4, hok, hl4, rfl⟩ | ⟨hno, rfl⟩
  · skip
    obtain rfl : n = n4 := by omega
    obtain rfl := text_unique HX.out hl4
    have HOK := Lib.hid hok
    clear hl4 hn4 hok
    go_wp2_with fail
    refine (readshort_any (l.drop 2) (by rw [List.length_drop]; omega) _ (HL.out.below HB.out)).mono ?_
    rintro e w5 ⟨hg, hb⟩
    obtain rfl := rets_reads_yes hg HOK.out HX.out
    have HB := Lib.hid (HB.out.trans (hb.mono HB.out.size))
    clear hb
    clear hg
    obtain ⟨D, hD, hll⟩ := short_head HOK.out HX.out
    rw [hD]
    have hdl : D.length ≤ 17 := by rw [← hD, List.length_drop]; omega
    clear hD HX HOK hlen
    have j19 : ((⟨#[49, 57]⟩ : ByteArray) ++ ⟨D.toArray⟩).toList = 49 :: 57 :: D := by rw [Lib.toList_data]; simp
    have j20 : ((⟨#[50, 48]⟩ : ByteArray) ++ ⟨D.toArray⟩).toList = 50 :: 48 :: D := by rw [Lib.toList_data]; simp
    have b19 : (49 :: 57 :: D == 49 :: 57 :: D) = true := by simp
    have b20 : (50 :: 48 :: D == 50 :: 48 :: D) = true := by simp
    have b29 : (50 :: 48 :: D == 49 :: 57 :: D) = false := by simp
    rcases hll with rfl | rfl
    · skip
      go_wp2_with fail
      refine (readgeneral_any s (by omega) _ (HL.out.below HB.out)).mono ?_
      rintro e wa ⟨hg, hb⟩
      have HB := Lib.hid (HB.out.trans (hb.mono HB.out.size))
      clear hb
      rcases hg with ⟨n1, hn1, hl1, rfl⟩ | ⟨_, rfl⟩
      · skip
        have HX1 := Lib.hid hl1
        clear hl1
        go_wp2_with fail
        refine (readshort_any s (by omega) _ (HL.out.below HB.out)).mono ?_
        rintro e wb ⟨hg, hb⟩
        have HB := Lib.hid (HB.out.trans (hb.mono HB.out.size))
        clear hb
        rcases hg with ⟨n2, l2, hn2, hl2, he2, rfl⟩ | ⟨_, rfl⟩
        · skip
          have HX2 := Lib.hid hl2
          have HN2 := Lib.hid hn2
          have HE2 := Lib.hid he2
          clear hl2 hn2 he2
          go_wp2_with fail
          refine (general_yes n1 hn1 _ (HL.out.below HB.out).tab).mono ?_
          rintro e wc ⟨l3, rfl, hl3, hb⟩
          have HB := Lib.hid (HB.out.trans (hb.mono HB.out.size))
          clear hb
          obtain rfl := text_unique HX1.out hl3
          clear hl3
          go_wp2_with fail
          refine (short_any (n2 : Int) _ (HL.out.below HB.out)).mono ?_
          rintro e wd ⟨hg, hb⟩
          have HB := Lib.hid (HB.out.trans (hb.mono HB.out.size))
          clear hb
          rcases hg with ⟨n4, l4, hn4, _, hl4, rfl⟩ | ⟨hno, _⟩
          rotate_left
          · exact absurd HN2.out hno
          obtain rfl : n2 = n4 := by omega
          obtain rfl := text_unique HX2.out hl4
          rw [← HE2.out]
          clear hl4 hn4
          go_wp2
          go_ret
          exact ⟨rfl, HB.out⟩
        · skip
          go_wp2_with fail
          refine (general_yes n1 hn1 _ (HL.out.below HB.out).tab).mono ?_
          rintro e wc ⟨l3, rfl, hl3, hb⟩
          have HB := Lib.hid (HB.out.trans (hb.mono HB.out.size))
          clear hb
          obtain rfl := text_unique HX1.out hl3
          clear hl3
          go_wp2_with fail
          refine (short_any 0 _ (HL.out.below HB.out)).mono ?_
          rintro e wd ⟨hg, hb⟩
          have HB := Lib.hid (HB.out.trans (hb.mono HB.out.size))
          clear hb
          rcases hg with ⟨n4, l4, hn4, _, hl4, rfl⟩ | ⟨_, rfl⟩
          · clear hn4 hl4
            go_wp2
            go_ret
            exact ⟨rfl, HB.out⟩
          · go_wp2
            go_ret
            exact ⟨rfl, HB.out⟩
      · skip
        go_wp2_with fail
        refine (readshort_any s (by omega) _ (HL.out.below HB.out)).mono ?_
        rintro e wb ⟨hg, hb⟩
        have HB := Lib.hid (HB.out.trans (hb.mono HB.out.size))
        clear hb
        rcases hg with ⟨n2, l2, hn2, hl2, he2, rfl⟩ | ⟨_, rfl⟩
        · skip
          have HX2 := Lib.hid hl2
          have HN2 := Lib.hid hn2
          have HE2 := Lib.hid he2
          clear hl2 hn2 he2
          go_wp2_with fail
          refine (general_yes 0 (by decide) _ (HL.out.below HB.out).tab).mono ?_
          rintro e wc ⟨l3, rfl, hl3, hb⟩
          have HB := Lib.hid (HB.out.trans (hb.mono HB.out.size))
          clear hb
          clear hl3
          go_wp2_with fail
          refine (short_any (n2 : Int) _ (HL.out.below HB.out)).mono ?_
          rintro e wd ⟨hg, hb⟩
          have HB := Lib.hid (HB.out.trans (hb.mono HB.out.size))
          clear hb
          rcases hg with ⟨n4, l4, hn4, _, hl4, rfl⟩ | ⟨hno, _⟩
          rotate_left
          · exact absurd HN2.out hno
          obtain rfl : n2 = n4 := by omega
          obtain rfl := text_unique HX2.out hl4
          rw [← HE2.out]
          clear hl4 hn4
          go_wp2
          go_ret
          exact ⟨rfl, HB.out⟩
        · skip
          go_wp2_with fail
          refine (general_yes 0 (by decide) _ (HL.out.below HB.out).tab).mono ?_
          rintro e wc ⟨l3, rfl, hl3, hb⟩
          have HB := Lib.hid (HB.out.trans (hb.mono HB.out.size))
          clear hb
          clear hl3
          go_wp2_with fail
          refine (short_any 0 _ (HL.out.below HB.out)).mono ?_
          rintro e wd ⟨hg, hb⟩
          have HB := Lib.hid (HB.out.trans (hb.mono HB.out.size))
          clear hb
          rcases hg with ⟨n4, l4, hn4, _, hl4, rfl⟩ | ⟨_, rfl⟩
          · clear hn4 hl4
            go_wp2
            go_ret
            exact ⟨rfl, HB.out⟩
          · go_wp2
            go_ret
            exact ⟨rfl, HB.out⟩
    · skip
      go_wp2_with fail
      refine (readgeneral_any s (by omega) _ (HL.out.below HB.out)).mono ?_
      rintro e wa ⟨hg, hb⟩
      have HB := Lib.hid (HB.out.trans (hb.mono HB.out.size))
      clear hb
      rcases hg with ⟨n1, hn1, hl1, rfl⟩ | ⟨_, rfl⟩
      · skip
        have HX1 := Lib.hid hl1
        clear hl1
        go_wp2_with fail
        refine (readshort_any s (by omega) _ (HL.out.below HB.out)).mono ?_
        rintro e wb ⟨hg, hb⟩
        have HB := Lib.hid (HB.out.trans (hb.mono HB.out.size))
        clear hb
        rcases hg with ⟨n2, l2, hn2, hl2, he2, rfl⟩ | ⟨_, rfl⟩
        · skip
          have HX2 := Lib.hid hl2
          have HN2 := Lib.hid hn2
          have HE2 := Lib.hid he2
          clear hl2 hn2 he2
          go_wp2_with fail
          refine (general_yes n1 hn1 _ (HL.out.below HB.out).tab).mono ?_
          rintro e wc ⟨l3, rfl, hl3, hb⟩
          have HB := Lib.hid (HB.out.trans (hb.mono HB.out.size))
          clear hb
          obtain rfl := text_unique HX1.out hl3
          clear hl3
          go_wp2_with fail
          refine (short_any (n2 : Int) _ (HL.out.below HB.out)).mono ?_
          rintro e wd ⟨hg, hb⟩
          have HB := Lib.hid (HB.out.trans (hb.mono HB.out.size))
          clear hb
          rcases hg with ⟨n4, l4, hn4, _, hl4, rfl⟩ | ⟨hno, _⟩
          rotate_left
          · exact absurd HN2.out hno
          obtain rfl : n2 = n4 := by omega
          obtain rfl := text_unique HX2.out hl4
          rw [← HE2.out]
          clear hl4 hn4
          go_wp2
          go_ret
          exact ⟨rfl, HB.out⟩
        · skip
          go_wp2_with fail
          refine (general_yes n1 hn1 _ (HL.out.below HB.out).tab).mono ?_
          rintro e wc ⟨l3, rfl, hl3, hb⟩
          have HB := Lib.hid (HB.out.trans (hb.mono HB.out.size))
          clear hb
          obtain rfl := text_unique HX1.out hl3
          clear hl3
          go_wp2_with fail
          refine (short_any 0 _ (HL.out.below HB.out)).mono ?_
          rintro e wd ⟨hg, hb⟩
          have HB := Lib.hid (HB.out.trans (hb.mono HB.out.size))
          clear hb
          rcases hg with ⟨n4, l4, hn4, _, hl4, rfl⟩ | ⟨_, rfl⟩
          · clear hn4 hl4
            go_wp2
            go_ret
            exact ⟨rfl, HB.out⟩
          · go_wp2
            go_ret
            exact ⟨rfl, HB.out⟩
      · skip
        go_wp2_with fail
        refine (readshort_any s (by omega) _ (HL.out.below HB.out)).mono ?_
        rintro e wb ⟨hg, hb⟩
        have HB := Lib.hid (HB.out.trans (hb.mono HB.out.size))
        clear hb
        rcases hg with ⟨n2, l2, hn2, hl2, he2, rfl⟩ | ⟨_, rfl⟩
        · skip
          have HX2 := Lib.hid hl2
          have HN2 := Lib.hid hn2
          have HE2 := Lib.hid he2
          clear hl2 hn2 he2
          go_wp2_with fail
          refine (general_yes 0 (by decide) _ (HL.out.below HB.out).tab).mono ?_
          rintro e wc ⟨l3, rfl, hl3, hb⟩
          have HB := Lib.hid (HB.out.trans (hb.mono HB.out.size))
          clear hb
          clear hl3
          go_wp2_with fail
          refine (short_any (n2 : Int) _ (HL.out.below HB.out)).mono ?_
          rintro e wd ⟨hg, hb⟩
          have HB := Lib.hid (HB.out.trans (hb.mono HB.out.size))
          clear hb
          rcases hg with ⟨n4, l4, hn4, _, hl4, rfl⟩ | ⟨hno, _⟩
          rotate_left
          · exact absurd HN2.out hno
          obtain rfl : n2 = n4 := by omega
          obtain rfl := text_unique HX2.out hl4
          rw [← HE2.out]
          clear hl4 hn4
          go_wp2
          go_ret
          exact ⟨rfl, HB.out⟩
        · skip
          go_wp2_with fail
          refine (general_yes 0 (by decide) _ (HL.out.below HB.out).tab).mono ?_
          rintro e wc ⟨l3, rfl, hl3, hb⟩
          have HB := Lib.hid (HB.out.trans (hb.mono HB.out.size))
          clear hb
          clear hl3
          go_wp2_with fail
          refine (short_any 0 _ (HL.out.below HB.out)).mono ?_
          rintro e wd ⟨hg, hb⟩
          have HB := Lib.hid (HB.out.trans (hb.mono HB.out.size))
          clear hb
          rcases hg with ⟨n4, l4, hn4, _, hl4, rfl⟩ | ⟨_, rfl⟩
          · clear hn4 hl4
            go_wp2
            go_ret
            exact ⟨rfl, HB.out⟩
          · go_wp2
            go_ret
            exact ⟨rfl, HB.out⟩
  · clear hno
    go_wp2_with fail
    refine (readshort_any [] (by decide) _ (HL.out.below HB.out)).mono ?_
    rintro e w5 ⟨hg, hb⟩
    have HB := Lib.hid (HB.out.trans (hb.mono HB.out.size))
    clear hb
    rcases hg with ⟨n5, l5, _, _, _, rfl⟩ | ⟨_, rfl⟩
    · skip
      go_wp2_with fail
      refine (readgeneral_any s (by omega) _ (HL.out.below HB.out)).mono ?_
      rintro e wa ⟨hg, hb⟩
      have HB := Lib.hid (HB.out.trans (hb.mono HB.out.size))
      clear hb
      rcases hg with ⟨n1, hn1, hl1, rfl⟩ | ⟨_, rfl⟩
      · skip
        have HX1 := Lib.hid hl1
        clear hl1
        go_wp2_with fail
        refine (readshort_any s (by omega) _ (HL.out.below HB.out)).mono ?_
        rintro e wb ⟨hg, hb⟩
        have HB := Lib.hid (HB.out.trans (hb.mono HB.out.size))
        clear hb
        rcases hg with ⟨n2, l2, hn2, hl2, he2, rfl⟩ | ⟨_, rfl⟩
        · skip
          have HX2 := Lib.hid hl2
          have HN2 := Lib.hid hn2
          have HE2 := Lib.hid he2
          clear hl2 hn2 he2
          go_wp2_with fail
          refine (general_yes n1 hn1 _ (HL.out.below HB.out).tab).mono ?_
          rintro e wc ⟨l3, rfl, hl3, hb⟩
          have HB := Lib.hid (HB.out.trans (hb.mono HB.out.size))
          clear hb
          obtain rfl := text_unique HX1.out hl3
          clear hl3
          go_wp2_with fail
          refine (short_any (n2 : Int) _ (HL.out.below HB.out)).mono ?_
          rintro e wd ⟨hg, hb⟩
          have HB := Lib.hid (HB.out.trans (hb.mono HB.out.size))
          clear hb
          rcases hg with ⟨n4, l4, hn4, _, hl4, rfl⟩ | ⟨hno, _⟩
          rotate_left
          · exact absurd HN2.out hno
          obtain rfl : n2 = n4 := by omega
          obtain rfl := text_unique HX2.out hl4
          rw [← HE2.out]
          clear hl4 hn4
          go_wp2
          go_ret
          exact ⟨rfl, HB.out⟩
        · skip
          go_wp2_with fail
          refine (general_yes n1 hn1 _ (HL.out.below HB.out).tab).mono ?_
          rintro e wc ⟨l3, rfl, hl3, hb⟩
          have HB := Lib.hid (HB.out.trans (hb.mono HB.out.size))
          clear hb
          obtain rfl := text_unique HX1.out hl3
          clear hl3
          go_wp2_with fail
          refine (short_any 0 _ (HL.out.below HB.out)).mono ?_
          rintro e wd ⟨hg, hb⟩
          have HB := Lib.hid (HB.out.trans (hb.mono HB.out.size))
          clear hb
          rcases hg with ⟨n4, l4, hn4, _, hl4, rfl⟩ | ⟨_, rfl⟩
          · clear hn4 hl4
            go_wp2
            go_ret
            exact ⟨rfl, HB.out⟩
          · go_wp2
            go_ret
            exact ⟨rfl, HB.out⟩
      · skip
        go_wp2_with fail
        refine (readshort_any s (by omega) _ (HL.out.below HB.out)).mono ?_
        rintro e wb ⟨hg, hb⟩
        have HB := Lib.hid (HB.out.trans (hb.mono HB.out.size))
        clear hb
        rcases hg with ⟨n2, l2, hn2, hl2, he2, rfl⟩ | ⟨_, rfl⟩
        · skip
          have HX2 := Lib.hid hl2
          have HN2 := Lib.hid hn2
          have HE2 := Lib.hid he2
          clear hl2 hn2 he2
          go_wp2_with fail
          refine (general_yes 0 (by decide) _ (HL.out.below HB.out).tab).mono ?_
          rintro e wc ⟨l3, rfl, hl3, hb⟩
          have HB := Lib.hid (HB.out.trans (hb.mono HB.out.size))
          clear hb
          clear hl3
          go_wp2_with fail
          refine (short_any (n2 : Int) _ (HL.out.below HB.out)).mono ?_
          rintro e wd ⟨hg, hb⟩
          have HB := Lib.hid (HB.out.trans (hb.mono HB.out.size))
          clear hb
          rcases hg with ⟨n4, l4, hn4, _, hl4, rfl⟩ | ⟨hno, _⟩
          rotate_left
          · exact absurd HN2.out hno
          obtain rfl : n2 = n4 := by omega
          obtain rfl := text_unique HX2.out hl4
          rw [← HE2.out]
          clear hl4 hn4
          go_wp2
          go_ret
          exact ⟨rfl, HB.out⟩
        · skip
          go_wp2_with fail
          refine (general_yes 0 (by decide) _ (HL.out.below HB.out).tab).mono ?_
          rintro e wc ⟨l3, rfl, hl3, hb⟩
          have HB := Lib.hid (HB.out.trans (hb.mono HB.out.size))
          clear hb
          clear hl3
          go_wp2_with fail
          refine (short_any 0 _ (HL.out.below HB.out)).mono ?_
          rintro e wd ⟨hg, hb⟩
          have HB := Lib.hid (HB.out.trans (hb.mono HB.out.size))
          clear hb
          rcases hg with ⟨n4, l4, hn4, _, hl4, rfl⟩ | ⟨_, rfl⟩
          · clear hn4 hl4
            go_wp2
            go_ret
            exact ⟨rfl, HB.out⟩
          · go_wp2
            go_ret
            exact ⟨rfl, HB.out⟩
    · skip
      go_wp2_with fail
      refine (readgeneral_any s (by omega) _ (HL.out.below HB.out)).mono ?_
      rintro e wa ⟨hg, hb⟩
      have HB := Lib.hid (HB.out.trans (hb.mono HB.out.size))
      clear hb
      rcases hg with ⟨n1, hn1, hl1, rfl⟩ | ⟨_, rfl⟩
      · skip
        have HX1 := Lib.hid hl1
        clear hl1
        go_wp2_with fail
        refine (readshort_any s (by omega) _ (HL.out.below HB.out)).mono ?_
        rintro e wb ⟨hg, hb⟩
        have HB := Lib.hid (HB.out.trans (hb.mono HB.out.size))
        clear hb
        rcases hg with ⟨n2, l2, hn2, hl2, he2, rfl⟩ | ⟨_, rfl⟩
        · skip
          have HX2 := Lib.hid hl2
          have HN2 := Lib.hid hn2
          have HE2 := Lib.hid he2
          clear hl2 hn2 he2
          go_wp2_with fail
          refine (general_yes n1 hn1 _ (HL.out.below HB.out).tab).mono ?_
          rintro e wc ⟨l3, rfl, hl3, hb⟩
          have HB := Lib.hid (HB.out.trans (hb.mono HB.out.size))
          clear hb
          obtain rfl := text_unique HX1.out hl3
          clear hl3
          go_wp2_with fail
          refine (short_any (n2 : Int) _ (HL.out.below HB.out)).mono ?_
          rintro e wd ⟨hg, hb⟩
          have HB := Lib.hid (HB.out.trans (hb.mono HB.out.size))
          clear hb
          rcases hg with ⟨n4, l4, hn4, _, hl4, rfl⟩ | ⟨hno, _⟩
          rotate_left
          · exact absurd HN2.out hno
          obtain rfl : n2 = n4 := by omega
          obtain rfl := text_unique HX2.out hl4
          rw [← HE2.out]
          clear hl4 hn4
          go_wp2
          go_ret
          exact ⟨rfl, HB.out⟩
        · skip
          go_wp2_with fail
          refine (general_yes n1 hn1 _ (HL.out.below HB.out).tab).mono ?_
          rintro e wc ⟨l3, rfl, hl3, hb⟩
          have HB := Lib.hid (HB.out.trans (hb.mono HB.out.size))
          clear hb
          obtain rfl := text_unique HX1.out hl3
          clear hl3
          go_wp2_with fail
          refine (short_any 0 _ (HL.out.below HB.out)).mono ?_
          rintro e wd ⟨hg, hb⟩
          have HB := Lib.hid (HB.out.trans (hb.mono HB.out.size))
          clear hb
          rcases hg with ⟨n4, l4, hn4, _, hl4, rfl⟩ | ⟨_, rfl⟩
          · clear hn4 hl4
            go_wp2
            go_ret
            exact ⟨rfl, HB.out⟩
          · go_wp2
            go_ret
            exact ⟨rfl, HB.out⟩
      · skip
        go_wp2_with fail
        refine (readshort_any s (by omega) _ (HL.out.below HB.out)).mono ?_
        rintro e wb ⟨hg, hb⟩
        have HB := Lib.hid (HB.out.trans (hb.mono HB.out.size))
        clear hb
        rcases hg with ⟨n2, l2, hn2, hl2, he2, rfl⟩ | ⟨_, rfl⟩
        · skip
          have HX2 := Lib.hid hl2
          have HN2 := Lib.hid hn2
          have HE2 := Lib.hid he2
          clear hl2 hn2 he2
          go_wp2_with fail
          refine (general_yes 0 (by decide) _ (HL.out.below HB.out).tab).mono ?_
          rintro e wc ⟨l3, rfl, hl3, hb⟩
          have HB := Lib.hid (HB.out.trans (hb.mono HB.out.size))
          clear hb
          clear hl3
          go_wp2_with fail
          refine (short_any (n2 : Int) _ (HL.out.below HB.out)).mono ?_
          rintro e wd ⟨hg, hb⟩
          have HB := Lib.hid (HB.out.trans (hb.mono HB.out.size))
          clear hb
          rcases hg with ⟨n4, l4, hn4, _, hl4, rfl⟩ | ⟨hno, _⟩
          rotate_left
          · exact absurd HN2.out hno
          obtain rfl : n2 = n4 := by omega
          obtain rfl := text_unique HX2.out hl4
          rw [← HE2.out]
          clear hl4 hn4
          go_wp2
          go_ret
          exact ⟨rfl, HB.out⟩
        · skip
          go_wp2_with fail
          refine (general_yes 0 (by decide) _ (HL.out.below HB.out).tab).mono ?_
          rintro e wc ⟨l3, rfl, hl3, hb⟩
          have HB := Lib.hid (HB.out.trans (hb.mono HB.out.size))
          clear hb
          clear hl3
          go_wp2_with fail
          refine (short_any 0 _ (HL.out.below HB.out)).mono ?_
          rintro e wd ⟨hg, hb⟩
          have HB := Lib.hid (HB.out.trans (hb.mono HB.out.size))
          clear hb
          rcases hg with ⟨n4, l4, hn4, _, hl4, rfl⟩ | ⟨_, rfl⟩
          · clear hn4 hl4
            go_wp2
            go_ret
            exact ⟨rfl, HB.out⟩
          · go_wp2
            go_ret
            exact ⟨rfl, HB.out⟩
end Go.Proofs.YtholkbgkkfndhaaDoor
