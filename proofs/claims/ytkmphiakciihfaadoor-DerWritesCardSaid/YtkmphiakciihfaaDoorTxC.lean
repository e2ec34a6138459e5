/-
  THE REFERENCE's CONTENTS: the two times.
-/
import Derived.Test.YtkmphiakciihfaaDoorTxB
namespace Go.Proofs.YtkmphiakciihfaaDoor
open Go.RowKit

theorem all_digs {l : List Nat} {n : Nat} (hn : n ≤ l.length) (h : Digs l n) : (l.take n).all digB = true := by
  rw [List.all_eq_true]
  intro x hx
  obtain ⟨i, hi, rfl⟩ := List.mem_iff_getElem.1 hx
  have hi2 : i < n ∧ i < l.length := by rw [List.length_take] at hi; omega
  have := h i hi2.1
  unfold gN at this
  rw [List.getElem?_eq_getElem hi2.2] at this
  rw [List.getElem_take]
  exact (dig_iff _).2 this
theorem all_iff {l : List Nat} {n : Nat} (hn : n ≤ l.length) : (l.take n).all digB = true ↔ Digs l n := ⟨digs_take hn, all_digs hn⟩
theorem dd2_at (l : List Nat) (k : Nat) : dd2 (l.drop k) = if (48 ≤ gN l k ∧ gN l k ≤ 57) ∧ (48 ≤ gN l (k + 1) ∧ gN l (k + 1) ≤ 57) then twoN (l.drop k) else -1 := by
  unfold dd2
  rw [gN_drop, gN_drop, Nat.add_zero]
theorem dd2_digs {l : List Nat} {n : Nat} (k : Nat) (h : Digs l n) (hk : k + 2 ≤ n) : dd2 (l.drop k) = twoN (l.drop k) ∧ 0 ≤ twoN (l.drop k) := by
  have h2 := twoN_lt (h.drop (k := k) (m := 2) hk)
  rw [dd2_at, if_pos ⟨h k (by omega), h (k + 1) (by omega)⟩]
  exact ⟨rfl, h2.1⟩
theorem dd2_no {l : List Nat} (k : Nat) (h : ¬ ((48 ≤ gN l k ∧ gN l k ≤ 57) ∧ (48 ≤ gN l (k + 1) ∧ gN l (k + 1) ≤ 57))) : dd2 (l.drop k) = -1 := by rw [dd2_at, if_neg h]

/-- The reference's order, and the code's. -/
theorem mom_eq (y : Int) (hy : 0 ≤ y) (l : List Nat) (hl : 10 ≤ l.length) : momR y l = ((l.take 10).all digB && momB y l) := by
  have hA := all_iff hl
  by_cases h : Digs l 10
  · obtain ⟨e0, z0⟩ := dd2_digs 0 h (by omega)
    obtain ⟨e2, z2⟩ := dd2_digs 2 h (by omega)
    obtain ⟨e4, z4⟩ := dd2_digs 4 h (by omega)
    obtain ⟨e6, z6⟩ := dd2_digs 6 h (by omega)
    obtain ⟨e8, z8⟩ := dd2_digs 8 h (by omega)
    rw [List.drop_zero] at e0 z0
    rw [hA.2 h, Bool.true_and]
    unfold momR momB
    rw [e0, e2, e4, e6, e8]
    generalize twoN l = a0 at *
    generalize twoN (l.drop 2) = a2 at *
    generalize twoN (l.drop 4) = a4 at *
    generalize twoN (l.drop 6) = a6 at *
    generalize twoN (l.drop 8) = a8 at *
    generalize daysI y a0 = dd at *
    rw [← Bool.decide_and, ← Bool.decide_and, ← Bool.decide_and, ← Bool.decide_and, ← Bool.decide_and, ← Bool.decide_and]
    exact decide_eq_decide.2 (by omega)
  · have hf : (l.take 10).all digB = false := by
      cases hc : (l.take 10).all digB with
      | false => rfl
      | true => exact absurd (hA.1 hc) h
    rw [hf, Bool.false_and]
    have key : ∀ k, k + 2 ≤ 10 → 0 ≤ dd2 (l.drop k) → (48 ≤ gN l k ∧ gN l k ≤ 57) ∧ (48 ≤ gN l (k + 1) ∧ gN l (k + 1) ≤ 57) := fun k _ hk => Classical.byContradiction fun hn => by rw [dd2_no k hn] at hk; omega
    refine decide_eq_false fun hc => h ?_
    have p0 := key 0 (by omega) (by rw [List.drop_zero]; omega)
    have p2 := key 2 (by omega) (by omega)
    have p4 := key 4 (by omega) (by omega)
    have p6 := key 6 (by omega) (by omega)
    have p8 := key 8 (by omega) (by omega)
    intro i hi
    match i, hi with
    | 0, _ => exact p0.1
    | 1, _ => exact p0.2
    | 2, _ => exact p2.1
    | 3, _ => exact p2.2
    | 4, _ => exact p4.1
    | 5, _ => exact p4.2
    | 6, _ => exact p6.1
    | 7, _ => exact p6.2
    | 8, _ => exact p8.1
    | 9, _ => exact p8.2

theorem mom_neg (l : List Nat) : momR (-1) l = false := decide_eq_false fun h => by omega

theorem digs_two (l : List Nat) (hl : 2 ≤ l.length) : (l.take 2).all digB = decide (0 ≤ dd2 l) := by
  have hA := all_iff hl
  by_cases h : Digs l 2
  · obtain ⟨e0, z0⟩ := dd2_digs 0 h (by omega)
    rw [List.drop_zero] at e0 z0
    rw [hA.2 h, e0, decide_eq_true z0]
  · have hf : (l.take 2).all digB = false := by
      cases hc : (l.take 2).all digB with
      | false => rfl
      | true => exact absurd (hA.1 hc) h
    rw [hf]
    refine (decide_eq_false fun hc => h ?_).symm
    have p0 : (48 ≤ gN l 0 ∧ gN l 0 ≤ 57) ∧ (48 ≤ gN l (0 + 1) ∧ gN l (0 + 1) ≤ 57) := Classical.byContradiction fun hn => by have := dd2_no (l := l) 0 hn; rw [List.drop_zero] at this; omega
    intro i hi
    match i, hi with
    | 0, _ => exact p0.1
    | 1, _ => exact p0.2
theorem dd2_pos {l : List Nat} (h : 0 ≤ dd2 l) : dd2 l = twoN l := by
  unfold dd2 at h ⊢
  split at h
  · rw [if_pos (by assumption)]
  · omega

theorem short_eq (l : List Nat) (hl : l.length = 13) (h12 : gN l 12 = 90) : shortB l = if dd2 l < 0 then false else momR (yearT (dd2 l)) (l.drop 2) := by
  unfold shortB
  rw [hl, h12, show l.take 12 = l.take 2 ++ (l.drop 2).take 10 from List.take_add (i := 2) (j := 10), List.all_append, digs_two l (by omega)]
  by_cases h : dd2 l < 0
  · rw [if_pos h, decide_eq_false (show ¬ 0 ≤ dd2 l by omega)]
    simp
  · rw [if_neg h, decide_eq_true (by omega : 0 ≤ dd2 l), mom_eq _ (by unfold yearT; split <;> omega) _ (by rw [List.length_drop]; omega), dd2_pos (by omega)]
    simp

theorem dgs_four (l : List Nat) (hl : 4 ≤ l.length) : dgs 0 (l.take 4) = if (l.take 4).all digB = true then 100 * twoN l + twoN (l.drop 2) else -1 := by
  match l, hl with
  | a :: b :: c :: d :: r, _ =>
    simp only [List.take_succ_cons, List.take_zero, List.all_cons, List.all_nil, Bool.and_true, Bool.and_eq_true, dig_iff, dgs]
    have e : twoN (a :: b :: c :: d :: r) = 10 * ((a : Int) - 48) + ((b : Int) - 48) := rfl
    have e2 : twoN ((a :: b :: c :: d :: r).drop 2) = 10 * ((c : Int) - 48) + ((d : Int) - 48) := rfl
    rw [e, e2]
    by_cases h1 : 48 ≤ a ∧ a ≤ 57
    · rw [if_pos h1]
      by_cases h2 : 48 ≤ b ∧ b ≤ 57
      · rw [if_pos h2]
        by_cases h3 : 48 ≤ c ∧ c ≤ 57
        · rw [if_pos h3]
          by_cases h4 : 48 ≤ d ∧ d ≤ 57
          · rw [if_pos h4, if_pos ⟨h1, h2, h3, h4⟩]; omega
          · rw [if_neg h4, if_neg (fun h => h4 h.2.2.2)]
        · rw [if_neg h3, if_neg (fun h => h3 h.2.2.1)]
      · rw [if_neg h2, if_neg (fun h => h2 h.2.1)]
    · rw [if_neg h1, if_neg (fun h => h1 h.1)]

theorem dgs_four_le (l : List Nat) (hl : 4 ≤ l.length) : -1 ≤ dgs 0 (l.take 4) ∧ dgs 0 (l.take 4) ≤ 9999 := by
  rw [dgs_four l hl]
  split
  · have h := digs_take hl (by assumption)
    have h1 := twoN_lt (h.drop (k := 0) (m := 2) (by omega))
    have h2 := twoN_lt (h.drop (k := 2) (m := 2) (by omega))
    rw [List.drop_zero] at h1
    omega
  · omega

theorem time_eq (l : List Nat) (hl : 15 ≤ l.length) (hz : gN l (l.length - 1) = 90) : timeB l = (momR (dgs 0 (l.take 4)) (l.drop 4) && (decide (l.length = 15) || partsB ((l.take (l.length - 1)).drop 14))) := by
  unfold timeB
  rw [hz, decide_eq_true hl, show l.take 14 = l.take 4 ++ (l.drop 4).take 10 from List.take_add (i := 4) (j := 10), List.all_append, dgs_four l (by omega)]
  cases h : (l.take 4).all digB with
  | false => rw [if_neg (by simp), mom_neg]; simp
  | true =>
    have hd := digs_take (by omega) h
    have h1 := twoN_lt (hd.drop (k := 0) (m := 2) (by omega))
    have h2 := twoN_lt (hd.drop (k := 2) (m := 2) (by omega))
    rw [List.drop_zero] at h1
    rw [if_pos rfl, mom_eq _ (by omega) _ (by rw [List.length_drop]; omega)]
    simp [Bool.and_assoc]

set_option maxHeartbeats 2000000 in
set_option maxRecDepth 100000 in
theorem rutc_any (a : Option Addr) (len cap : Nat) (l : List Nat) (w : World) (h : Reads .u8 w a len cap l) (hx : ∀ x ∈ l, x < 256) :
    Calls Tryd.prog 91 #[.slice a len cap] w fun e w' => e = .returned (.bool (shortB l)) ∧ w' = w := by
  have hm := h.len_le
  unfold maxLen at hm
  have hl := Lib.hid h.length
  by_cases h13 : len = 13
  · subst h13
    obtain ⟨b, off, rfl, hlt, hc⟩ := h.cells (by omega)
    have c12 := hc 12 (by omega)
    have x12 := gN_lt hx 12
    rw [show (l[12]?.getD 0) = gN l 12 from rfl] at c12
    by_cases hz : gN l 12 = 90
    · rw [hz] at c12
      have HS := Lib.hid (short_eq l hl.out hz)
      have HY := Lib.hid (rtwo_any 0 (some ⟨b, off, none⟩) 13 cap l w h hx (by omega))
      have HD := Lib.hid (fun (y : Int) (h1 : y ≤ 100000) (h2 : -1 ≤ y) => rdate_any y h1 h2 2 (some ⟨b, off, none⟩) 13 cap l w h hx (by omega))
      have hyr := dd2_le l
      rw [List.drop_zero] at HY
      clear hc h hx hz x12
      generalize dd2 l = y at *
      obtain ⟨y1, y2⟩ := hyr
      go_enter Tryd.func91, Tryd.ntmps91
      go_wp2_with fail
      refine HY.out.mono ?_
      rintro e w' ⟨rfl, hw'⟩
      obtain rfl : w = w' := hw'.symm
      clear HY
      by_cases hn : y < 0
      · have HF := Lib.hid (show shortB l = false by rw [HS.out, if_pos hn])
        clear HS
        go_wp2_with fail
        go_ret
        exact ⟨ret_bool HF.out.symm, rfl⟩
      · by_cases h50 : 50 ≤ y
        · have HF := Lib.hid (show shortB l = momR (1900 + y) (l.drop 2) by rw [HS.out, if_neg hn]; unfold yearT; rw [if_neg (by omega)])
          have HDD := Lib.hid (HD.out (1900 + y) (by omega) (by omega))
          clear HS HD
          go_wp2_with fail
          refine HDD.out.mono ?_
          rintro e w' ⟨rfl, hw'⟩
          obtain rfl : w = w' := hw'.symm
          clear HDD
          go_wp2_with fail
          go_ret
          exact ⟨ret_bool HF.out.symm, rfl⟩
        · have HF := Lib.hid (show shortB l = momR (2000 + y) (l.drop 2) by rw [HS.out, if_neg hn]; unfold yearT; rw [if_pos (by omega), show 1900 + y + 100 = 2000 + y by omega])
          have HDD := Lib.hid (HD.out (2000 + y) (by omega) (by omega))
          clear HS HD
          go_wp2_with fail
          refine HDD.out.mono ?_
          rintro e w' ⟨rfl, hw'⟩
          obtain rfl : w = w' := hw'.symm
          clear HDD
          go_wp2_with fail
          go_ret
          exact ⟨ret_bool HF.out.symm, rfl⟩
    · have HF := Lib.hid (show shortB l = false by unfold shortB; rw [decide_eq_false hz]; simp)
      have hzz : ((gN l 12 : Int) == 90) = false := by simp; omega
      clear hc h hx hz
      generalize gN l 12 = x at *
      go_enter Tryd.func91, Tryd.ntmps91
      go_wp2_with fail
      go_ret
      exact ⟨ret_bool HF.out.symm, rfl⟩
  · have HF := Lib.hid (show shortB l = false by unfold shortB; rw [hl.out, decide_eq_false h13]; simp)
    have hz : ((len : Int) != 13) = true := by simp; omega
    clear h13 hx
    go_enter Tryd.func91, Tryd.ntmps91
    go_wp2_with fail
    go_ret
    exact ⟨ret_bool HF.out.symm, rfl⟩

structure TimI (w : World) (m : List Nat) (k : Nat) (wr : World) : Prop where
  same : (m.drop k).all digB = (m.drop 15).all digB
  world : wr = w

set_option maxHeartbeats 4000000 in
set_option maxRecDepth 100000 in
theorem rtime_any (a : Option Addr) (len cap : Nat) (l : List Nat) (w : World) (h : Reads .u8 w a len cap l) (hx : ∀ x ∈ l, x < 256) :
    Calls Tryd.prog 92 #[.slice a len cap] w fun e w' => e = .returned (.bool (timeB l)) ∧ w' = w := by
  have hm := h.len_le
  unfold maxLen at hm
  have hl := Lib.hid h.length
  by_cases h15 : len < 15
  · have HF := Lib.hid (show timeB l = false by unfold timeB; rw [hl.out, decide_eq_false (by omega)]; simp)
    have hz : (len : Int) < 15 := by omega
    clear h15 hx
    go_enter Tryd.func92, Tryd.ntmps92
    go_wp2_with fail
    go_ret
    exact ⟨ret_bool HF.out.symm, rfl⟩
  · have hz15 : ¬ ((len : Int) < 15) := by omega
    obtain ⟨b, off, rfl, hlt, hc⟩ := h.cells (by omega)
    have cz := hc (len - 1) (by omega)
    have xz := gN_lt hx (len - 1)
    rw [show (l[len - 1]?.getD 0) = gN l (len - 1) from rfl] at cz
    have hsub : ((len : Int) - 1) = ((len - 1 : Nat) : Int) := by omega
    have hwr : IntKind.i64.wrap ((len - 1 : Nat) : Int) = ((len - 1 : Nat) : Int) := by rw [IntKind.wrap_i64]; omega
    have hj1 : len - 1 < len := by omega
    have hj2 : ((len - 1 : Nat) : Int) < (len : Int) := by omega
    by_cases hz : gN l (len - 1) = 90
    · rw [hz] at cz
      have HT := Lib.hid (show timeB l = (momR (dgs 0 (l.take 4)) (l.drop 4) && (decide (len = 15) || partsB ((l.take (len - 1)).drop 14))) by
        have := time_eq l (by rw [hl.out]; omega) (by rw [hl.out]; exact hz)
        rwa [hl.out] at this)
      have HY := Lib.hid (show Calls Tryd.prog 103 #[.slice (some ⟨b, off, none⟩) len cap, .int .i64 0, .int .i64 4] w fun e w' => e = .returned (.int .i64 (dgs 0 (l.take 4))) ∧ w' = w from rdigits_any 0 4 (some ⟨b, off, none⟩) len cap l w h hx (by omega) (by omega) (by omega))
      have hyl := dgs_four_le l (by rw [hl.out]; omega)
      have HD := Lib.hid (show Calls Tryd.prog 104 #[.int .i64 (dgs 0 (l.take 4)), .slice (some ⟨b, off, none⟩) len cap, .int .i64 4] w fun e w' => e = .returned (.bool (momR (dgs 0 (l.take 4)) (l.drop 4))) ∧ w' = w from rdate_any _ (by omega) hyl.1 4 (some ⟨b, off, none⟩) len cap l w h hx (by omega))
      generalize momR (dgs 0 (l.take 4)) (l.drop 4) = ans at *
      generalize dgs 0 (l.take 4) = y at *
      clear hyl hz xz
      by_cases hlong : 15 < len
      · have hz2 : (15 : Int) < (len : Int) := by omega
        have hnot : ¬ len = 15 := by omega
        obtain ⟨m, hmm⟩ : ∃ m, l.take (len - 1) = m := ⟨_, rfl⟩
        have hml : m.length = len - 1 := by rw [← hmm, List.length_take, hl.out]; omega
        have hpl : (m.drop 14).length = len - 15 := by rw [List.length_drop, hml]; omega
        have c14 := hc 14 (by omega)
        have c2 := hc (len - 2) (by omega)
        have x14 := gN_lt hx 14
        have x2 := gN_lt hx (len - 2)
        rw [show (l[14]?.getD 0) = gN l 14 from rfl] at c14
        rw [show (l[len - 2]?.getD 0) = gN l (len - 2) from rfl] at c2
        have hg14 : gN (m.drop 14) 0 = gN l 14 := by rw [gN_drop, ← hmm, gN_take (by omega)]
        have hg2 : 16 < len → gN (m.drop 14) ((m.drop 14).length - 1) = gN l (len - 2) := fun h16 => by rw [gN_drop, hpl, ← hmm, gN_take (by omega), show 14 + (len - 15 - 1) = len - 2 by omega]
        have HP := Lib.hid (show partsB (m.drop 14) = (decide (16 < len) && decide (gN l 14 = 46) && (m.drop 15).all digB && decide (gN l (len - 2) ≠ 48)) by
          unfold partsB
          rw [List.drop_drop, hg14, hpl]
          by_cases h16 : 16 < len
          · rw [← hpl, hg2 h16, decide_eq_true h16, decide_eq_true (show 1 < (m.drop 14).length by rw [hpl]; omega)]
          · rw [decide_eq_false h16, decide_eq_false (show ¬ 1 < len - 15 by omega)]; simp)
        have HT := Lib.hid (show timeB l = (ans && (decide (16 < len) && decide (gN l 14 = 46) && (m.drop 15).all digB && decide (gN l (len - 2) ≠ 48))) by rw [HT.out, decide_eq_false hnot, Bool.false_or, hmm, HP.out])
        have hsub2 : ((len : Int) - 2) = ((len - 2 : Nat) : Int) := by omega
        have hwr2 : IntKind.i64.wrap ((len - 2 : Nat) : Int) = ((len - 2 : Nat) : Int) := by rw [IntKind.wrap_i64]; omega
        have hj3 : len - 2 < len := by omega
        have hj4 : ((len - 2 : Nat) : Int) < (len : Int) := by omega
        have HC := Lib.hid hc
        have HX := Lib.hid hx
        have HML := Lib.hid hml
        have HMM := Lib.hid hmm
        have HC14 := Lib.hid (And.intro c14 c2)
        clear hc h hx hmm hg14 hg2 hpl hml HP c14 c2
        generalize gN l 14 = u at *
        generalize gN l (len - 2) = v at *
        go_enter Tryd.func92, Tryd.ntmps92
        go_wp2_with fail
        go_loopw [5, 4] (fun i s wr => ∃ (k : Nat), 15 ≤ k ∧ k ≤ len - 1 ∧ i = .int .i64 (k : Int) ∧ s = .int .i64 ((k : Int) - 15) ∧ TimI w m k wr) (fun i _ _ => len - (intOf i).toNat)
        case atStart => exact ⟨15, Nat.le_refl _, by omega, rfl, rfl, rfl, rfl⟩
        case round =>
          obtain ⟨k, hk1, hk, rfl, rfl, hr⟩ := hrel
          have hw := hr.world
          subst hw
          have HS := Lib.hid hr.same
          clear hr
          by_cases hkl : k < len - 1
          · have hkz : (k : Int) < ((len - 1 : Nat) : Int) := by omega
            have ck := HC.out k (by omega)
            have x256 := gN_lt HX.out k
            have hki : (k : Int) < (len : Int) := by omega
            have hkn : k < len := by omega
            have HD2 := Lib.hid (show (m.drop k).all digB = (digB (gN l k) && (m.drop (k + 1)).all digB) by
              have hkm : k < m.length := by rw [HML.out]; exact hkl
              rw [List.drop_eq_getElem_cons hkm, List.all_cons]
              have : m[k] = gN l k := by
                have e : gN m k = m[k] := by unfold gN; rw [List.getElem?_eq_getElem hkm]; rfl
                rw [← e, ← HMM.out, gN_take hkl]
              rw [this])
            rw [show (l[k]?.getD 0) = gN l k from rfl] at ck
            generalize gN l k = x at *
            by_cases c1 : x < 48
            · have zc : (x : Int) < 48 := by omega
              have HF := Lib.hid (show timeB l = false by
                have : digB x = false := by unfold digB; rw [decide_eq_false (by omega)]; rfl
                rw [HT.out, ← HS.out, HD2.out, this]; simp)
              clear HS HD2 HT
              go_wp2_with fail
              go_ret
              exact ⟨ret_bool HF.out.symm, rfl⟩
            · have zc : ¬ ((x : Int) < 48) := by omega
              by_cases c3 : 57 < x
              · have zd : (57 : Int) < (x : Int) := by omega
                have HF := Lib.hid (show timeB l = false by
                  have : digB x = false := by unfold digB; rw [decide_eq_false (show ¬ x ≤ 57 by omega), Bool.and_false]
                  rw [HT.out, ← HS.out, HD2.out, this]; simp)
                clear HS HD2 HT
                go_wp2_with fail
                go_ret
                exact ⟨ret_bool HF.out.symm, rfl⟩
              · have zd : ¬ ((57 : Int) < (x : Int)) := by omega
                have HN := Lib.hid (show (m.drop (k + 1)).all digB = (m.drop 15).all digB by
                  have : digB x = true := (dig_iff x).2 (by omega)
                  rw [← HS.out, HD2.out, this, Bool.true_and])
                clear HS HD2 c1 c3
                go_wp2_with fail
                go_roundw
                case rel => exact ⟨k + 1, by omega, by omega, by go_num, by go_num, HN.out, rfl⟩
                case measure => simp [intOf]; omega
          · obtain rfl : k = len - 1 := by omega
            have HE := Lib.hid (show (m.drop 15).all digB = true by rw [← HS.out, List.drop_of_length_le (by rw [HML.out]; exact Nat.le_refl _)]; rfl)
            have HT := Lib.hid (show timeB l = (ans && (decide (16 < len) && decide (u = 46) && decide (v ≠ 48))) by rw [HT.out, HE.out, Bool.and_true])
            obtain ⟨c14, c2⟩ := HC14.out
            clear HC14 HS HE hkl
            by_cases hu : u = 46
            · have zu : ((u : Int) != 46) = false := by simp; omega
              by_cases h16 : 16 < len
              · have z16 : ((((len - 1 : Nat) : Int) - 15) == 0) = false := by simp; omega
                by_cases hv : v = 48
                · have zv : ((v : Int) == 48) = true := by simp; omega
                  have HF := Lib.hid (show timeB l = false by rw [HT.out, hv]; simp)
                  clear HT hu hv
                  go_wp2_with fail
                  go_ret
                  exact ⟨ret_bool HF.out.symm, rfl⟩
                · have zv : ((v : Int) == 48) = false := by simp; omega
                  have HF := Lib.hid (show timeB l = ans by rw [HT.out, decide_eq_true h16, decide_eq_true hu, decide_eq_true hv]; simp)
                  clear HT hu hv
                  go_wp2_with fail
                  refine HY.out.mono ?_
                  rintro e w' ⟨rfl, hw'⟩
                  obtain rfl := hw'
                  clear HY
                  go_wp2_with fail
                  refine HD.out.mono ?_
                  rintro e w' ⟨rfl, hw'⟩
                  obtain rfl := hw'
                  clear HD
                  go_wp2_with fail
                  go_ret
                  exact ⟨ret_bool HF.out.symm, rfl⟩
              · have z16 : ((((len - 1 : Nat) : Int) - 15) == 0) = true := by simp; omega
                have HF := Lib.hid (show timeB l = false by rw [HT.out, decide_eq_false h16]; simp)
                clear HT hu
                go_wp2_with fail
                go_ret
                exact ⟨ret_bool HF.out.symm, rfl⟩
            · have zu : ((u : Int) != 46) = true := by simp; omega
              have HF := Lib.hid (show timeB l = false by rw [HT.out, decide_eq_false hu]; simp)
              clear HT hu
              go_wp2_with fail
              go_ret
              exact ⟨ret_bool HF.out.symm, rfl⟩
      · obtain rfl : len = 15 := by omega
        have HF := Lib.hid (show timeB l = ans by rw [HT.out, decide_eq_true rfl, Bool.true_or, Bool.and_true])
        clear HT hc hx h hlong
        go_enter Tryd.func92, Tryd.ntmps92
        go_wp2_with fail
        refine HY.out.mono ?_
        rintro e w' ⟨rfl, hw'⟩
        obtain rfl : w = w' := hw'.symm
        clear HY
        go_wp2_with fail
        refine HD.out.mono ?_
        rintro e w' ⟨rfl, hw'⟩
        obtain rfl : w = w' := hw'.symm
        clear HD
        go_wp2_with fail
        go_ret
        exact ⟨ret_bool HF.out.symm, rfl⟩
    · have HF := Lib.hid (show timeB l = false by unfold timeB; rw [hl.out, decide_eq_false hz]; simp)
      have hzz : ((gN l (len - 1) : Int) != 90) = true := by simp; omega
      clear hc h hx hz
      generalize gN l (len - 1) = x at *
      go_enter Tryd.func92, Tryd.ntmps92
      go_wp2_with fail
      go_ret
      exact ⟨ret_bool HF.out.symm, rfl⟩

end Go.Proofs.YtkmphiakciihfaaDoor
