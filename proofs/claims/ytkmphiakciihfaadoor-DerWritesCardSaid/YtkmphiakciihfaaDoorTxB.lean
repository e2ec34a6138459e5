/-
  THE REFERENCE's CONTENTS: digits, a month's days, a date.
-/
import Derived.Test.YtkmphiakciihfaaDoorTxA
namespace Go.Proofs.YtkmphiakciihfaaDoor
open Go.RowKit

/-- The number that bytes are, behind another one; -1: they are none. -/
def dgs : Nat → List Nat → Int
  | n, [] => (n : Int)
  | n, x :: xs => if 48 ≤ x ∧ x ≤ 57 then dgs (10 * n + (x - 48)) xs else -1

structure DgI (w : World) (l : List Nat) (f to k n : Nat) (res : Int) (wr : World) : Prop where
  same : dgs n ((l.drop k).take (to - k)) = res
  lt : n < 10 ^ (k - f)
  world : wr = w

set_option maxHeartbeats 2000000 in
set_option maxRecDepth 100000 in
theorem rdigits_any (f to : Nat) (a : Option Addr) (len cap : Nat) (l : List Nat) (w : World) (h : Reads .u8 w a len cap l) (hx : ∀ x ∈ l, x < 256) (hf : f ≤ to) (ht : to ≤ len) (h4 : to ≤ f + 4) :
    Calls Tryd.prog 103 #[.slice a len cap, .int .i64 (f : Nat), .int .i64 (to : Nat)] w fun e w' => e = .returned (.int .i64 (dgs 0 ((l.drop f).take (to - f)))) ∧ w' = w := by
  have hm := h.len_le
  unfold maxLen at hm
  have hl := Lib.hid h.length
  have HC := Lib.hid h.cells
  have HX := Lib.hid hx
  obtain ⟨res, hres⟩ : ∃ res, dgs 0 ((l.drop f).take (to - f)) = res := ⟨_, rfl⟩
  rw [hres]
  have H0 := Lib.hid hres
  clear h hx hres
  go_enter Tryd.func103, Tryd.ntmps103
  go_wp2_with fail
  go_loopw [8, 7] (fun i s wr => ∃ (k n : Nat), f ≤ k ∧ k ≤ to ∧ i = .int .i64 (k : Int) ∧ s = .int .i64 (n : Int) ∧ DgI w l f to k n res wr) (fun i _ _ => to - (intOf i).toNat)
  case atStart => exact ⟨f, 0, Nat.le_refl _, hf, rfl, rfl, H0.out, by rw [Nat.sub_self]; decide, rfl⟩
  case round =>
    obtain ⟨k, n, hk1, hk, rfl, rfl, hr⟩ := hrel
    have hw := hr.world
    subst hw
    have HS := Lib.hid hr.same
    have HL := Lib.hid hr.lt
    clear hr
    by_cases hlt : k < to
    · obtain ⟨g, off, rfl, hg, hc⟩ := HC.out (by omega)
      have ck := hc k (by omega)
      have hkl : k < l.length := by rw [hl.out]; omega
      have hki : (k : Int) < (len : Int) := by omega
      have hkn : k < len := by omega
      obtain ⟨x, hxe⟩ : ∃ x, l[k] = x := ⟨_, rfl⟩
      have e0 : (l[k]?.getD 0) = x := by rw [List.getElem?_eq_getElem hkl, ← hxe]; rfl
      rw [e0] at ck
      have HD := Lib.hid (show (l.drop k).take (to - k) = x :: (l.drop (k + 1)).take (to - (k + 1)) by
        rw [List.drop_eq_getElem_cons hkl, hxe, show to - k = (to - (k + 1)) + 1 by omega, List.take_succ_cons])
      have h256 : x < 256 := by rw [← hxe]; exact HX.out _ (List.getElem_mem _)
      have hn1000 : n ≤ 1000 := by
        have h1 : 10 ^ (k - f) ≤ 10 ^ 3 := Nat.pow_le_pow_right (by decide) (by omega)
        have h2 := HL.out
        have h3 : (10 : Nat) ^ 3 = 1000 := by decide
        omega
      clear hc e0 hxe
      by_cases c1 : x < 48
      · have z1 : (x : Int) < 48 := by omega
        have HF := Lib.hid (show (-1 : Int) = res by rw [← HS.out, HD.out, dgs, if_neg (by omega)])
        clear HS HD HL
        go_wp2_with fail
        go_ret
        exact ⟨ret_i64c HF.out, rfl⟩
      · have z1 : ¬ ((x : Int) < 48) := by omega
        by_cases c2 : 57 < x
        · have z2 : (57 : Int) < (x : Int) := by omega
          have HF := Lib.hid (show (-1 : Int) = res by rw [← HS.out, HD.out, dgs, if_neg (by omega)])
          clear HS HD HL
          go_wp2_with fail
          go_ret
          exact ⟨ret_i64c HF.out, rfl⟩
        · have z2 : ¬ ((57 : Int) < (x : Int)) := by omega
          obtain ⟨d, hd⟩ : ∃ d, x = d + 48 := ⟨x - 48, by omega⟩
          have hd9 : d ≤ 9 := by omega
          have hsub : (x : Int) - 48 = (d : Int) := by omega
          have hw8 : IntKind.u8.wrap (d : Int) = (d : Int) := by rw [IntKind.wrap_u8]; omega
          have HN := Lib.hid (show dgs (10 * n + d) ((l.drop (k + 1)).take (to - (k + 1))) = res by rw [← HS.out, HD.out, dgs, if_pos (by omega), hd, Nat.add_sub_cancel])
          have HLN := Lib.hid (show 10 * n + d < 10 ^ (k + 1 - f) by
            have h1 := HL.out
            rw [show k + 1 - f = (k - f) + 1 by omega, Nat.pow_succ]
            omega)
          clear HS HD HL hd
          go_wp2_with fail
          go_roundw
          case rel => exact ⟨k + 1, 10 * n + d, by omega, by omega, by go_num, by go_num, HN.out, HLN.out, rfl⟩
          case measure => simp [intOf]; omega
    · obtain rfl : k = to := by omega
      have HF := Lib.hid (show (n : Int) = res by rw [← HS.out, Nat.sub_self, List.take_zero, dgs])
      clear hlt HS
      go_wp2_with fail
      go_ret
      exact ⟨ret_i64c HF.out, rfl⟩

/-- Two digits' number; -1: they are none. -/
def dd2 (l : List Nat) : Int := if (48 ≤ gN l 0 ∧ gN l 0 ≤ 57) ∧ (48 ≤ gN l 1 ∧ gN l 1 ≤ 57) then twoN l else -1
theorem dig_iff (x : Nat) : digB x = true ↔ 48 ≤ x ∧ x ≤ 57 := by unfold digB; simp
theorem dgs_two (l : List Nat) (h : 2 ≤ l.length) : dgs 0 (l.take 2) = dd2 l := by
  match l, h with
  | x :: y :: r, _ =>
    have e0 : gN (x :: y :: r) 0 = x := rfl
    have e1 : gN (x :: y :: r) 1 = y := rfl
    unfold dd2 twoN
    rw [e0, e1]
    simp only [List.take_succ_cons, List.take_zero, dgs]
    by_cases hx : 48 ≤ x ∧ x ≤ 57
    · rw [if_pos hx]
      by_cases hy : 48 ≤ y ∧ y ≤ 57
      · rw [if_pos hy, if_pos ⟨hx, hy⟩]; omega
      · rw [if_neg hy, if_neg (fun h => hy h.2)]
    · rw [if_neg hx, if_neg (fun h => hx h.1)]
theorem dd2_le (l : List Nat) : -1 ≤ dd2 l ∧ dd2 l ≤ 99 := by
  unfold dd2 twoN
  split <;> omega

theorem rtwo_any (f : Nat) (a : Option Addr) (len cap : Nat) (l : List Nat) (w : World) (h : Reads .u8 w a len cap l) (hx : ∀ x ∈ l, x < 256) (ht : f + 2 ≤ len) :
    Calls Tryd.prog 103 #[.slice a len cap, .int .i64 (f : Nat), .int .i64 ((f + 2 : Nat) : Int)] w fun e w' => e = .returned (.int .i64 (dd2 (l.drop f))) ∧ w' = w := by
  have := rdigits_any f (f + 2) a len cap l w h hx (by omega) ht (by omega)
  rw [show f + 2 - f = 2 by omega, dgs_two _ (by rw [List.length_drop, h.length]; omega)] at this
  exact this

set_option maxHeartbeats 2000000 in
theorem rdays_any (y m : Int) (hy : 0 ≤ y) (hy2 : y ≤ 100000) (w : World) : Calls Tryd.prog 108 #[.int .i64 y, .int .i64 m] w fun e w' => e = .returned (.int .i64 (daysI y m)) ∧ w' = w := by
  by_cases h4 : m = 4 ∨ m = 6 ∨ m = 9 ∨ m = 11
  · have HE := Lib.hid (show daysI y m = 30 by unfold daysI; rw [if_neg (by omega), if_pos h4])
    rcases h4 with rfl | rfl | rfl | rfl
    all_goals
      go_enter Tryd.func108, Tryd.ntmps108
      go_wp2_with fail
      go_ret
      exact ⟨ret_i64c HE.out.symm, rfl⟩
  · have e4 : (m == 4) = false := by simp; omega
    have e6 : (m == 6) = false := by simp; omega
    have e9 : (m == 9) = false := by simp; omega
    have e11 : (m == 11) = false := by simp; omega
    by_cases h2 : m = 2
    · subst h2
      have HD := Lib.hid (show daysI y 2 = (if Int.tmod y 4 = 0 ∧ (Int.tmod y 100 ≠ 0 ∨ Int.tmod y 400 = 0) then 29 else 28) by unfold daysI; rw [if_pos rfl])
      have HT := Lib.hid (show Int.tmod y 400 = 0 → Int.tmod y 4 = 0 by rw [Int.tmod_eq_emod_of_nonneg hy, Int.tmod_eq_emod_of_nonneg hy]; omega)
      obtain ⟨p, hp⟩ : ∃ p, Int.tmod y 4 = p := ⟨_, rfl⟩
      obtain ⟨q, hq⟩ : ∃ q, Int.tmod y 100 = q := ⟨_, rfl⟩
      obtain ⟨r, hr⟩ : ∃ r, Int.tmod y 400 = r := ⟨_, rfl⟩
      rw [hp, hq, hr] at HD
      rw [hp, hr] at HT
      clear h4 e4 e6 e9 e11
      by_cases c3 : r = 0
      · have g3 : (r == 0) = true := by simpa using c3
        have HE := Lib.hid (show daysI y 2 = 29 by rw [HD.out, if_pos ⟨HT.out c3, .inr c3⟩])
        clear c3 HD HT
        go_enter Tryd.func108, Tryd.ntmps108
        go_wp2_with fail
        go_ret
        exact ⟨ret_i64c HE.out.symm, rfl⟩
      · have g3 : (r == 0) = false := by simpa using c3
        by_cases c1 : p = 0
        · have g1 : (p == 0) = true := by simpa using c1
          by_cases c2 : q = 0
          · have g2 : (q != 0) = false := by simpa using c2
            have HE := Lib.hid (show daysI y 2 = 28 by rw [HD.out, if_neg (fun h => h.2.elim (fun h => h c2) c3)])
            clear c1 c2 c3 HD HT
            go_enter Tryd.func108, Tryd.ntmps108
            go_wp2_with fail
            go_ret
            exact ⟨ret_i64c HE.out.symm, rfl⟩
          · have g2 : (q != 0) = true := by simpa using c2
            have HE := Lib.hid (show daysI y 2 = 29 by rw [HD.out, if_pos ⟨c1, .inl c2⟩])
            clear c1 c2 c3 HD HT
            go_enter Tryd.func108, Tryd.ntmps108
            go_wp2_with fail
            go_ret
            exact ⟨ret_i64c HE.out.symm, rfl⟩
        · have g1 : (p == 0) = false := by simpa using c1
          have HE := Lib.hid (show daysI y 2 = 28 by rw [HD.out, if_neg (fun h => c1 h.1)])
          clear c1 c3 HD HT
          go_enter Tryd.func108, Tryd.ntmps108
          go_wp2_with fail
          go_ret
          exact ⟨ret_i64c HE.out.symm, rfl⟩
    · have g2 : (m == 2) = false := by simpa using h2
      have HE := Lib.hid (show daysI y m = 31 by unfold daysI; rw [if_neg h2, if_neg h4])
      clear h2 h4
      go_enter Tryd.func108, Tryd.ntmps108
      go_wp2_with fail
      go_ret
      exact ⟨ret_i64c HE.out.symm, rfl⟩

/-- Is there such a date and time? (The reference's order.) -/
def momR (y : Int) (l : List Nat) : Bool := decide (0 ≤ y ∧ 1 ≤ dd2 l ∧ dd2 l ≤ 12 ∧ 1 ≤ dd2 (l.drop 2) ∧ 0 ≤ dd2 (l.drop 4) ∧ dd2 (l.drop 4) ≤ 23 ∧ 0 ≤ dd2 (l.drop 6) ∧ dd2 (l.drop 6) ≤ 59 ∧ 0 ≤ dd2 (l.drop 8) ∧ dd2 (l.drop 8) ≤ 59 ∧ dd2 (l.drop 2) ≤ daysI y (dd2 l))

set_option maxHeartbeats 4000000 in
set_option maxRecDepth 100000 in
theorem rdate_any (y : Int) (hy2 : y ≤ 100000) (hy3 : -1 ≤ y) (f : Nat) (a : Option Addr) (len cap : Nat) (l : List Nat) (w : World) (h : Reads .u8 w a len cap l) (hx : ∀ x ∈ l, x < 256) (ht : f + 10 ≤ len) :
    Calls Tryd.prog 104 #[.int .i64 y, .slice a len cap, .int .i64 (f : Nat)] w fun e w' => e = .returned (.bool (momR y (l.drop f))) ∧ w' = w := by
  have hm := h.len_le
  unfold maxLen at hm
  have HT0 := Lib.hid (rtwo_any f a len cap l w h hx (by omega))
  have k0 : ((f + 2 : Nat) : Int) = (f : Int) + 2 := by omega
  have HT1 := Lib.hid (rtwo_any (f + 2) a len cap l w h hx (by omega))
  rw [show f + 2 + 2 = f + 4 by omega, ← List.drop_drop] at HT1
  have HT2 := Lib.hid (rtwo_any (f + 4) a len cap l w h hx (by omega))
  rw [show f + 4 + 2 = f + 6 by omega, ← List.drop_drop] at HT2
  have HT3 := Lib.hid (rtwo_any (f + 6) a len cap l w h hx (by omega))
  rw [show f + 6 + 2 = f + 8 by omega, ← List.drop_drop] at HT3
  have HT4 := Lib.hid (rtwo_any (f + 8) a len cap l w h hx (by omega))
  rw [show f + 8 + 2 = f + 10 by omega, ← List.drop_drop] at HT4
  have HM := Lib.hid (show momR y (l.drop f) = decide (0 ≤ y ∧ 1 ≤ dd2 (l.drop f) ∧ dd2 (l.drop f) ≤ 12 ∧ 1 ≤ dd2 ((l.drop f).drop 2) ∧ 0 ≤ dd2 ((l.drop f).drop 4) ∧ dd2 ((l.drop f).drop 4) ≤ 23 ∧ 0 ≤ dd2 ((l.drop f).drop 6) ∧ dd2 ((l.drop f).drop 6) ≤ 59 ∧ 0 ≤ dd2 ((l.drop f).drop 8) ∧ dd2 ((l.drop f).drop 8) ≤ 59 ∧ dd2 ((l.drop f).drop 2) ≤ daysI y (dd2 (l.drop f))) from rfl)
  have HDY := Lib.hid (fun hy : 0 ≤ y => rdays_any y (dd2 (l.drop f)) hy hy2 w)
  generalize daysI y (dd2 (l.drop f)) = dd at *
  generalize dd2 (l.drop f) = M at *
  generalize dd2 ((l.drop f).drop 2) = D at *
  generalize dd2 ((l.drop f).drop 4) = H at *
  generalize dd2 ((l.drop f).drop 6) = I at *
  generalize dd2 ((l.drop f).drop 8) = S at *
  generalize momR y (l.drop f) = ans at *
  have hfl : (f : Int) + 10 ≤ 9223372036854775807 := by omega
  clear k0 h
  have HT0 := Lib.hid (show Calls Tryd.prog 103 #[.slice a len cap, .int .i64 ((f : Int)), .int .i64 ((f : Int) + 2)] w fun e w' => e = .returned (.int .i64 M) ∧ w' = w from by have := HT0.out; simpa using this)
  have HT1 := Lib.hid (show Calls Tryd.prog 103 #[.slice a len cap, .int .i64 ((f : Int) + 2), .int .i64 ((f : Int) + 4)] w fun e w' => e = .returned (.int .i64 D) ∧ w' = w from by have := HT1.out; simpa using this)
  have HT2 := Lib.hid (show Calls Tryd.prog 103 #[.slice a len cap, .int .i64 ((f : Int) + 4), .int .i64 ((f : Int) + 6)] w fun e w' => e = .returned (.int .i64 H) ∧ w' = w from by have := HT2.out; simpa using this)
  have HT3 := Lib.hid (show Calls Tryd.prog 103 #[.slice a len cap, .int .i64 ((f : Int) + 6), .int .i64 ((f : Int) + 8)] w fun e w' => e = .returned (.int .i64 I) ∧ w' = w from by have := HT3.out; simpa using this)
  have HT4 := Lib.hid (show Calls Tryd.prog 103 #[.slice a len cap, .int .i64 ((f : Int) + 8), .int .i64 ((f : Int) + 10)] w fun e w' => e = .returned (.int .i64 S) ∧ w' = w from by have := HT4.out; simpa using this)
  go_enter Tryd.func104, Tryd.ntmps104
  go_wp2_with fail
  refine HT0.out.mono ?_
  rintro e w' ⟨rfl, hw'⟩
  obtain rfl : w = w' := hw'.symm
  go_wp2_with fail
  refine HT1.out.mono ?_
  rintro e w' ⟨rfl, hw'⟩
  obtain rfl : w = w' := hw'.symm
  go_wp2_with fail
  refine HT2.out.mono ?_
  rintro e w' ⟨rfl, hw'⟩
  obtain rfl : w = w' := hw'.symm
  go_wp2_with fail
  refine HT3.out.mono ?_
  rintro e w' ⟨rfl, hw'⟩
  obtain rfl : w = w' := hw'.symm
  go_wp2_with fail
  refine HT4.out.mono ?_
  rintro e w' ⟨rfl, hw'⟩
  obtain rfl : w = w' := hw'.symm
  clear HT0 HT1 HT2 HT3 HT4
  by_cases t0 : y < 0
  · have HF := Lib.hid (show ans = false by rw [HM.out]; exact decide_eq_false (by omega))
    clear HM HDY
    go_wp2_with fail
    go_ret
    exact ⟨ret_bool HF.out.symm, rfl⟩
  · skip
    by_cases t1 : M < 1
    · have HF := Lib.hid (show ans = false by rw [HM.out]; exact decide_eq_false (by omega))
      clear HM HDY
      go_wp2_with fail
      go_ret
      exact ⟨ret_bool HF.out.symm, rfl⟩
    · skip
      by_cases t2 : 12 < M
      · have HF := Lib.hid (show ans = false by rw [HM.out]; exact decide_eq_false (by omega))
        clear HM HDY
        go_wp2_with fail
        go_ret
        exact ⟨ret_bool HF.out.symm, rfl⟩
      · skip
        by_cases t3 : D < 1
        · have HF := Lib.hid (show ans = false by rw [HM.out]; exact decide_eq_false (by omega))
          clear HM HDY
          go_wp2_with fail
          go_ret
          exact ⟨ret_bool HF.out.symm, rfl⟩
        · skip
          by_cases t4 : H < 0
          · have HF := Lib.hid (show ans = false by rw [HM.out]; exact decide_eq_false (by omega))
            clear HM HDY
            go_wp2_with fail
            go_ret
            exact ⟨ret_bool HF.out.symm, rfl⟩
          · skip
            by_cases t5 : 23 < H
            · have HF := Lib.hid (show ans = false by rw [HM.out]; exact decide_eq_false (by omega))
              clear HM HDY
              go_wp2_with fail
              go_ret
              exact ⟨ret_bool HF.out.symm, rfl⟩
            · skip
              by_cases t6 : I < 0
              · have HF := Lib.hid (show ans = false by rw [HM.out]; exact decide_eq_false (by omega))
                clear HM HDY
                go_wp2_with fail
                go_ret
                exact ⟨ret_bool HF.out.symm, rfl⟩
              · skip
                by_cases t7 : 59 < I
                · have HF := Lib.hid (show ans = false by rw [HM.out]; exact decide_eq_false (by omega))
                  clear HM HDY
                  go_wp2_with fail
                  go_ret
                  exact ⟨ret_bool HF.out.symm, rfl⟩
                · skip
                  by_cases t8 : S < 0
                  · have HF := Lib.hid (show ans = false by rw [HM.out]; exact decide_eq_false (by omega))
                    clear HM HDY
                    go_wp2_with fail
                    go_ret
                    exact ⟨ret_bool HF.out.symm, rfl⟩
                  · skip
                    by_cases t9 : 59 < S
                    · have HF := Lib.hid (show ans = false by rw [HM.out]; exact decide_eq_false (by omega))
                      clear HM HDY
                      go_wp2_with fail
                      go_ret
                      exact ⟨ret_bool HF.out.symm, rfl⟩
                    · skip
                      have HZ := Lib.hid (show ans = decide (D ≤ dd) by rw [HM.out]; exact decide_eq_decide.2 (by omega))
                      have HDZ := Lib.hid (HDY.out (by omega))
                      clear HM HDY
                      have b0 := decide_eq_false t0
                      have b1 := decide_eq_false t1
                      have b2 := decide_eq_false t2
                      have b3 := decide_eq_false t3
                      have b4 := decide_eq_false t4
                      have b5 := decide_eq_false t5
                      have b6 := decide_eq_false t6
                      have b7 := decide_eq_false t7
                      have b8 := decide_eq_false t8
                      have b9 := decide_eq_false t9
                      clear t0 t1 t2 t3 t4 t5 t6 t7 t8 t9 hy2 hy3 hfl hm ht hx
                      go_upto_region 8 with fail
                      clear b0 b1 b2 b3 b4 b5 b6 b7 b8 b9
                      go_wp2_with fail
                      refine HDZ.out.mono ?_
                      rintro e w' ⟨rfl, hw'⟩
                      obtain rfl : w = w' := hw'.symm
                      clear HDZ
                      go_wp2_with fail
                      go_ret
                      exact ⟨ret_bool HZ.out.symm, rfl⟩

end Go.Proofs.YtkmphiakciihfaaDoor
