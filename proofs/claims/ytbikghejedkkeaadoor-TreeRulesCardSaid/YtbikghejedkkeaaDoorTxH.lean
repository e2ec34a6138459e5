/-
  THE RULES' NAMES; THE LAW TreeRules, WALKED.
-/
import Derived.Test.YtbikghejedkkeaaDoorTxG
import Derived.Test.YtbikghejedkkeaaDoorTrV
namespace Go.Proofs.YtbikghejedkkeaaDoor
open Go.RowKit Go.Joins

/-- A rule's name. -/
def nameV (n : Int) : ByteArray := if n = 1 then ⟨#[99, 108, 97, 115, 115]⟩ else if n = 2 then ⟨#[102, 111, 114, 109]⟩ else if n = 3 then ⟨#[107, 105, 110, 100]⟩ else if n = 4 then ⟨#[99, 111, 110, 116, 101, 110, 116]⟩ else if n = 5 then ⟨#[100, 101, 101, 112]⟩ else if n = 6 then ⟨#[109, 97, 110, 121]⟩ else ⟨#[]⟩

theorem ret_str {a b : ByteArray} (h : a = b) : Ending.returned (.string a) = .returned (.string b) := by rw [h]

set_option maxHeartbeats 1000000 in
theorem name_any (n : Int) (w : World) : Calls Tryd.prog 17 #[.int .i64 n] w fun e w' => e = .returned (.string (nameV n)) ∧ w' = w := by
  by_cases h : n = 1 ∨ n = 2 ∨ n = 3 ∨ n = 4 ∨ n = 5 ∨ n = 6
  · rcases h with rfl | rfl | rfl | rfl | rfl | rfl
    all_goals
      go_enter Tryd.func17, Tryd.ntmps17
      go_wp2_with fail
      go_ret
      exact ⟨rfl, rfl⟩
  · have HF := Lib.hid (show nameV n = ⟨#[]⟩ by unfold nameV; rw [if_neg (by omega), if_neg (by omega), if_neg (by omega), if_neg (by omega), if_neg (by omega), if_neg (by omega)])
    have n1 : (n == 1) = false := by simp; omega
    have n2 : (n == 2) = false := by simp; omega
    have n3 : (n == 3) = false := by simp; omega
    have n4 : (n == 4) = false := by simp; omega
    have n5 : (n == 5) = false := by simp; omega
    have n6 : (n == 6) = false := by simp; omega
    clear h
    go_enter Tryd.func17, Tryd.ntmps17
    go_wp2_with fail
    go_ret
    exact ⟨ret_str HF.out.symm, rfl⟩

set_option maxHeartbeats 1000000 in
theorem rname_any (n : Int) (w : World) : Calls Tryd.prog 18 #[.int .i64 n] w fun e w' => e = .returned (.string (nameV n)) ∧ Below w.heap.size w w' := by
  by_cases h : n = 1 ∨ n = 2 ∨ n = 3 ∨ n = 4 ∨ n = 5 ∨ n = 6
  · rcases h with rfl | rfl | rfl | rfl | rfl | rfl
    all_goals
      go_enter Tryd.func18, Tryd.ntmps18
      go_wp2_with fail
      go_ret
      exact ⟨rfl, (Below.refl _ _).alloc (Nat.le_refl _) _⟩
  · have HF := Lib.hid (show nameV n = ⟨#[]⟩ by unfold nameV; rw [if_neg (by omega), if_neg (by omega), if_neg (by omega), if_neg (by omega), if_neg (by omega), if_neg (by omega)])
    by_cases h1 : n < 1
    · clear h
      go_enter Tryd.func18, Tryd.ntmps18
      go_wp2_with fail
      go_ret
      exact ⟨ret_str HF.out.symm, Below.refl _ _⟩
    · have h6 : 6 < n := by omega
      clear h
      go_enter Tryd.func18, Tryd.ntmps18
      go_wp2_with fail
      go_ret
      exact ⟨ret_str HF.out.symm, Below.refl _ _⟩

set_option maxHeartbeats 8000000 in
set_option maxRecDepth 100000 in
theorem rules_walk (V : NV) (T : Tr) (w : World) (hn : NodeAt w V T) (n : Int) (hT : Tabs w) :
    Calls Tryd.prog 3 #[V.agg, .int .i64 n] w fun e w' => e = .returned (.bool true) ∧ Below w.heap.size w w' := by
  obtain ⟨c, t, kk, ba, bl, bc, ka, kl, kc⟩ := V
  obtain ⟨w1, hw1⟩ : ∃ w1, w.alloc (.cells #[.int .i64 c, .int .i64 t, .bool kk, .slice ba bl bc, .slice ka kl kc] 25) = w1 := ⟨_, rfl⟩
  have hb1 : Below w.heap.size w w1 := by rw [← hw1]; exact (Below.refl _ _).alloc (Nat.le_refl _) _
  have hz1 : w1.heap.size = w.heap.size + 1 := by rw [← hw1]; simp
  have hcx : CellsAt w1 w.heap.size 0 ⟨c, t, kk, ba, bl, bc, ka, kl, kc⟩ := by rw [← hw1]; exact cells5 w c t kk ba bl bc ka kl kc _
  have HC := Lib.hid hcx
  have HN := Lib.hid (hn.under hb1)
  have HB1 := Lib.hid hb1
  have HZ := Lib.hid hz1
  have HT := Lib.hid (tabs_below hT hb1)
  obtain ⟨p0, p1, p2, p3, p4⟩ := hcx
  dsimp only at p0 p1 p2 p3 p4
  simp only [Nat.zero_add] at p0 p1 p2 p3 p4
  clear hb1 hz1 hn hT
  unfold NV.agg
  dsimp only
  go_enter Tryd.func3, Tryd.ntmps3
  go_wp2_with fail
  refine (great_any T ⟨c, t, kk, ba, bl, bc, ka, kl, kc⟩ w1 HN.out).mono ?_
  rintro e w2 ⟨rfl, hb2⟩
  have HB2 := Lib.hid hb2
  clear hb2 p0 p1 p2 p3 p4 hw1
  cases hg : greatT T with
  | true =>
    go_wp2_with fail
    go_ret
    exact ⟨rfl, HB1.out.trans (HB2.out.mono (by have := HZ.out; omega))⟩
  | false =>
    have HG := Lib.hid (great_no hg)
    clear hg
    obtain ⟨p0, p1, p2, p3, p4⟩ := HC.out.below HB2.out HC.out.lt
    dsimp only at p0 p1 p2 p3 p4
    simp only [Nat.zero_add] at p0 p1 p2 p3 p4
    go_wp2_with fail
    refine (rtwin_any ⟨c, t, kk, ba, bl, bc, ka, kl, kc⟩ T w2 (HN.out.under HB2.out) (by have := HG.out; omega)).mono ?_
    rintro e w3 ⟨⟨V2, rfl, hm3⟩, hb3⟩
    have HM := Lib.hid hm3.node
    have HB3 := Lib.hid (HB2.out.trans (hb3.mono HB2.out.size))
    clear hb3 hm3 p0 p1 p2 p3 p4
    obtain ⟨xc, xt, xk, xa, xl, xm, ya, yl, ym⟩ := V2
    unfold NV.agg
    dsimp only
    obtain ⟨w4, hw4⟩ : ∃ u, w3.alloc (.cells #[.int .i64 xc, .int .i64 xt, .bool xk, .slice xa xl xm, .slice ya yl ym] 25) = u := ⟨_, rfl⟩
    have hb4 : Below w3.heap.size w3 w4 := by rw [← hw4]; exact (Below.refl _ _).alloc (Nat.le_refl _) _
    have hcy : CellsAt w4 w3.heap.size 0 ⟨xc, xt, xk, xa, xl, xm, ya, yl, ym⟩ := by rw [← hw4]; exact cells5 _ _ _ _ _ _ _ _ _ _ _
    have HMX := Lib.hid (HM.out.under hb4)
    have HB4 := Lib.hid (HB3.out.trans (hb4.mono HB3.out.size))
    have HD := Lib.hid hcy
    have HU4 := Lib.hid (Below.refl w4.heap.size w4)
    clear hb4 hcy
    obtain ⟨p0, p1, p2, p3, p4⟩ := HC.out.below HB4.out HC.out.lt
    dsimp only at p0 p1 p2 p3 p4
    simp only [Nat.zero_add] at p0 p1 p2 p3 p4
    obtain ⟨q0, q1, q2, q3, q4⟩ := HD.out.below HU4.out HD.out.lt
    dsimp only at q0 q1 q2 q3 q4
    simp only [Nat.zero_add] at q0 q1 q2 q3 q4
    go_wp2_with fail
    clear hw4
    refine (wrong_v ⟨xc, xt, xk, xa, xl, xm, ya, yl, ym⟩ T w4 (HMX.out.under HU4.out) (by have := HG.out; omega) (by have := HG.out; omega) (tabs_below HT.out HB4.out)).mono ?_
    rintro e w5 ⟨rfl, hb5⟩
    have HU5 := Lib.hid (HU4.out.trans (hb5.mono HU4.out.size))
    have HB5 := Lib.hid (HB4.out.trans (HU5.out.mono HB4.out.size))
    clear hb5 p0 p1 p2 p3 p4 q0 q1 q2 q3 q4
    obtain ⟨p0, p1, p2, p3, p4⟩ := HC.out.below HB5.out HC.out.lt
    dsimp only at p0 p1 p2 p3 p4
    simp only [Nat.zero_add] at p0 p1 p2 p3 p4
    obtain ⟨q0, q1, q2, q3, q4⟩ := HD.out.below HU5.out HD.out.lt
    dsimp only at q0 q1 q2 q3 q4
    simp only [Nat.zero_add] at q0 q1 q2 q3 q4
    have HRW := Lib.hid (fun W (h : NodeAt W ⟨c, t, kk, ba, bl, bc, ka, kl, kc⟩ T) => rwrong_any ⟨c, t, kk, ba, bl, bc, ka, kl, kc⟩ T W h (by have := HG.out; omega) (by have := HG.out; omega) (by have := HG.out; omega))
    have HCK := Lib.hid (fun W (h : NodeAt W ⟨xc, xt, xk, xa, xl, xm, ya, yl, ym⟩ T) (ht : Tabs W) => check_any Tabs (fun _ _ h hb => tabs_below h hb) qV ⟨xc, xt, xk, xa, xl, xm, ya, yl, ym⟩ T W h (by have := HG.out; omega) (by have := HG.out; omega) ht (fun p _ => wantedV p.2.tag))
    have HRC := Lib.hid (fun W (h : NodeAt W ⟨c, t, kk, ba, bl, bc, ka, kl, kc⟩ T) => rcheck_any ⟨c, t, kk, ba, bl, bc, ka, kl, kc⟩ T W h (by have := HG.out; omega) (by have := HG.out; omega) (by have := HG.out; omega))
    generalize (if (wrongR qV T).1 = 0 then (0 : Int) else 110) = ec at *
    generalize (wrongR qV T).1 = r at *
    generalize (wrongR qV T).2 = a at *
    go_wp2_with fail
    refine (HRW.out w5 (HN.out.under HB5.out)).mono ?_
    rintro e w6 ⟨rfl, hb6⟩
    have HU6 := Lib.hid (HU5.out.trans (hb6.mono HU5.out.size))
    have HB6 := Lib.hid (HB4.out.trans (HU6.out.mono HB4.out.size))
    clear hb6 p0 p1 p2 p3 p4 q0 q1 q2 q3 q4
    obtain ⟨p0, p1, p2, p3, p4⟩ := HC.out.below HB6.out HC.out.lt
    dsimp only at p0 p1 p2 p3 p4
    simp only [Nat.zero_add] at p0 p1 p2 p3 p4
    obtain ⟨q0, q1, q2, q3, q4⟩ := HD.out.below HU6.out HD.out.lt
    dsimp only at q0 q1 q2 q3 q4
    simp only [Nat.zero_add] at q0 q1 q2 q3 q4
    go_wp2_with fail
    refine (HCK.out w6 (HMX.out.under HU6.out) (tabs_below HT.out HB6.out)).mono ?_
    rintro e w7 ⟨rfl, hb7⟩
    have HU7 := Lib.hid (HU6.out.trans (hb7.mono HU6.out.size))
    have HB7 := Lib.hid (HB4.out.trans (HU7.out.mono HB4.out.size))
    clear hb7 p0 p1 p2 p3 p4 q0 q1 q2 q3 q4
    obtain ⟨p0, p1, p2, p3, p4⟩ := HC.out.below HB7.out HC.out.lt
    dsimp only at p0 p1 p2 p3 p4
    simp only [Nat.zero_add] at p0 p1 p2 p3 p4
    obtain ⟨q0, q1, q2, q3, q4⟩ := HD.out.below HU7.out HD.out.lt
    dsimp only at q0 q1 q2 q3 q4
    simp only [Nat.zero_add] at q0 q1 q2 q3 q4
    go_wp2_with fail
    refine (count_any ⟨xc, xt, xk, xa, xl, xm, ya, yl, ym⟩ T w7 (HMX.out.under HU7.out) (by have := HG.out; omega) (by have := HG.out; omega)).mono ?_
    rintro e w8 ⟨rfl, hb8⟩
    have HU8 := Lib.hid (HU7.out.trans (hb8.mono HU7.out.size))
    have HB8 := Lib.hid (HB4.out.trans (HU8.out.mono HB4.out.size))
    clear hb8 p0 p1 p2 p3 p4 q0 q1 q2 q3 q4
    obtain ⟨p0, p1, p2, p3, p4⟩ := HC.out.below HB8.out HC.out.lt
    dsimp only at p0 p1 p2 p3 p4
    simp only [Nat.zero_add] at p0 p1 p2 p3 p4
    obtain ⟨q0, q1, q2, q3, q4⟩ := HD.out.below HU8.out HD.out.lt
    dsimp only at q0 q1 q2 q3 q4
    simp only [Nat.zero_add] at q0 q1 q2 q3 q4
    go_wp2_with fail
    refine (HRC.out w8 (HN.out.under HB8.out)).mono ?_
    rintro e w9 ⟨rfl, hb9⟩
    have HU9 := Lib.hid (HU8.out.trans (hb9.mono HU8.out.size))
    have HB9 := Lib.hid (HB4.out.trans (HU9.out.mono HB4.out.size))
    clear hb9 p0 p1 p2 p3 p4 q0 q1 q2 q3 q4
    obtain ⟨p0, p1, p2, p3, p4⟩ := HC.out.below HB9.out HC.out.lt
    dsimp only at p0 p1 p2 p3 p4
    simp only [Nat.zero_add] at p0 p1 p2 p3 p4
    obtain ⟨q0, q1, q2, q3, q4⟩ := HD.out.below HU9.out HD.out.lt
    dsimp only at q0 q1 q2 q3 q4
    simp only [Nat.zero_add] at q0 q1 q2 q3 q4
    go_wp2_with fail
    refine (rlist_any T ⟨c, t, kk, ba, bl, bc, ka, kl, kc⟩ w9 (HN.out.under HB9.out) (by have := HG.out; omega)).mono ?_
    rintro e w10 ⟨⟨v, Vs, rfl, hrow, hreps⟩, hb10⟩
    have HU10 := Lib.hid (HU9.out.trans (hb10.mono HU9.out.size))
    have HB10 := Lib.hid (HB4.out.trans (HU10.out.mono HB4.out.size))
    clear hb10 p0 p1 p2 p3 p4 q0 q1 q2 q3 q4
    have hlv : Vs.length = T.cnt := by rw [hreps.1, Ts_length]
    obtain ⟨gg, cap, rfl⟩ := ownsRow_form hrow (by rw [hlv]; exact T.cnt_pos)
    rw [hlv]
    clear hrow hreps hlv
    obtain ⟨p0, p1, p2, p3, p4⟩ := HC.out.below HB10.out HC.out.lt
    dsimp only at p0 p1 p2 p3 p4
    simp only [Nat.zero_add] at p0 p1 p2 p3 p4
    obtain ⟨q0, q1, q2, q3, q4⟩ := HD.out.below HU10.out HD.out.lt
    dsimp only at q0 q1 q2 q3 q4
    simp only [Nat.zero_add] at q0 q1 q2 q3 q4
    go_wp2_with fail
    refine (rdeep_any T ⟨c, t, kk, ba, bl, bc, ka, kl, kc⟩ w10 (HN.out.under HB10.out) (by have := HG.out; omega)).mono ?_
    rintro e w11 ⟨rfl, hb11⟩
    have HU11 := Lib.hid (HU10.out.trans (hb11.mono HU10.out.size))
    have HB11 := Lib.hid (HB4.out.trans (HU11.out.mono HB4.out.size))
    clear hb11 p0 p1 p2 p3 p4 q0 q1 q2 q3 q4
    obtain ⟨p0, p1, p2, p3, p4⟩ := HC.out.below HB11.out HC.out.lt
    dsimp only at p0 p1 p2 p3 p4
    simp only [Nat.zero_add] at p0 p1 p2 p3 p4
    obtain ⟨q0, q1, q2, q3, q4⟩ := HD.out.below HU11.out HD.out.lt
    dsimp only at q0 q1 q2 q3 q4
    simp only [Nat.zero_add] at q0 q1 q2 q3 q4
    go_wp2_with fail
    refine (name_any n w11).mono ?_
    rintro e wx ⟨rfl, hwx⟩
    obtain rfl : w11 = wx := hwx.symm
    go_wp2_with fail
    refine (rname_any n w11).mono ?_
    rintro e w12 ⟨rfl, hb12⟩
    have HU12 := Lib.hid (HU11.out.trans (hb12.mono HU11.out.size))
    have HB12 := Lib.hid (HB4.out.trans (HU12.out.mono HB4.out.size))
    clear hb12 p0 p1 p2 p3 p4 q0 q1 q2 q3 q4
    obtain ⟨p0, p1, p2, p3, p4⟩ := HC.out.below HB12.out HC.out.lt
    dsimp only at p0 p1 p2 p3 p4
    simp only [Nat.zero_add] at p0 p1 p2 p3 p4
    obtain ⟨q0, q1, q2, q3, q4⟩ := HD.out.below HU12.out HD.out.lt
    dsimp only at q0 q1 q2 q3 q4
    simp only [Nat.zero_add] at q0 q1 q2 q3 q4
    go_wp2_with fail
    refine (samr_any T T ⟨xc, xt, xk, xa, xl, xm, ya, yl, ym⟩ ⟨c, t, kk, ba, bl, bc, ka, kl, kc⟩ w12 (HMX.out.under HU12.out) (HN.out.under HB12.out)).mono ?_
    rintro e w13 ⟨rfl, hb13⟩
    have HU13 := Lib.hid (HU12.out.trans (hb13.mono HU12.out.size))
    have HB13 := Lib.hid (HB4.out.trans (HU13.out.mono HB4.out.size))
    clear hb13 p0 p1 p2 p3 p4 q0 q1 q2 q3 q4
    rw [(sameB_iff T T).2 rfl]
    go_wp2_with fail
    go_ret
    exact ⟨rfl, HB1.out.trans (HB13.out.mono (by have := HZ.out; omega))⟩
    
end Go.Proofs.YtbikghejedkkeaaDoor
