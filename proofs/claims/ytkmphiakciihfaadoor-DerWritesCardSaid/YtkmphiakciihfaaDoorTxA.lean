/-
  THE REFERENCE's CONTENTS: a number's bytes, bits, an identifier, letters.
-/
import Derived.Test.YtkmphiakciihfaaDoorTcI
namespace Go.Proofs.YtkmphiakciihfaaDoor
open Go.RowKit

set_option maxHeartbeats 1000000 in
theorem rnumber_any (a : Option Addr) (len cap : Nat) (l : List Nat) (w : World) (h : Reads .u8 w a len cap l) (hx : ∀ x ∈ l, x < 256) :
    Calls Tryd.prog 86 #[.slice a len cap] w fun e w' => e = .returned (.bool (intB l)) ∧ w' = w := by
  have hm := h.len_le
  unfold maxLen at hm
  have hl := Lib.hid h.length
  by_cases h2 : len < 2
  · have HI := Lib.hid (show intB l = decide (len = 1) by unfold intB; rw [hl.out, if_pos h2])
    by_cases h1 : len = 1
    · subst h1
      go_enter Tryd.func86, Tryd.ntmps86
      go_wp2_with fail
      go_ret
      exact ⟨ret_bool (by rw [HI.out]; rfl), rfl⟩
    · obtain rfl : len = 0 := by omega
      go_enter Tryd.func86, Tryd.ntmps86
      go_wp2_with fail
      go_ret
      exact ⟨ret_bool (by rw [HI.out]; rfl), rfl⟩
  · obtain ⟨b, off, rfl, hlt, hc⟩ := h.cells (by omega)
    have c0 : w.cell? ⟨b, off, none⟩ = _ := hc 0 (by omega)
    have c1 := hc 1 (by omega)
    have hp0 : 0 < len := by omega
    have hp1 : 1 < len := by omega
    have g0 : ((len : Int) == 0) = false := by simp; omega
    have g1 : ((len : Int) == 1) = false := by simp; omega
    have x0 := gN_lt hx 0
    have x1 := gN_lt hx 1
    have HI := Lib.hid (show intB l = ((decide (gN l 0 ≠ 0) && decide (gN l 0 ≠ 255)) || decide (gN l 0 / 128 ≠ gN l 1 / 128)) by unfold intB; rw [hl.out, if_neg h2])
    have e0 : (l[0]?.getD 0) = gN l 0 := rfl
    have e1 : (l[1]?.getD 0) = gN l 1 := rfl
    simp only [e0] at c0
    simp only [e1] at c1
    clear hc e0 e1 h hx
    generalize gN l 0 = u at *
    generalize gN l 1 = v at *
    by_cases q0 : u = 0
    · subst q0
      by_cases q1 : v < 128
      · have z1 : (v : Int) < 128 := by omega
        have HF := Lib.hid (show intB l = false by rw [HI.out]; simp; omega)
        clear HI
        go_enter Tryd.func86, Tryd.ntmps86
        go_wp2_with fail
        go_ret
        exact ⟨ret_bool HF.out.symm, rfl⟩
      · have z1 : ¬ ((v : Int) < 128) := by omega
        have HF := Lib.hid (show intB l = true by rw [HI.out]; simp; omega)
        clear HI
        go_enter Tryd.func86, Tryd.ntmps86
        go_wp2_with fail
        go_ret
        exact ⟨ret_bool HF.out.symm, rfl⟩
    · have y0 : ((u : Int) == 0) = false := by simp; omega
      by_cases q2 : u = 255
      · subst q2
        by_cases q1 : v < 128
        · have z1 : ¬ ((128 : Int) ≤ (v : Int)) := by omega
          have HF := Lib.hid (show intB l = true by rw [HI.out]; simp; omega)
          clear HI
          go_enter Tryd.func86, Tryd.ntmps86
          go_wp2_with fail
          go_ret
          exact ⟨ret_bool HF.out.symm, rfl⟩
        · have z1 : (128 : Int) ≤ (v : Int) := by omega
          have HF := Lib.hid (show intB l = false by rw [HI.out]; simp; omega)
          clear HI
          go_enter Tryd.func86, Tryd.ntmps86
          go_wp2_with fail
          go_ret
          exact ⟨ret_bool HF.out.symm, rfl⟩
      · have y2 : ((u : Int) == 255) = false := by simp; omega
        have HF := Lib.hid (show intB l = true by rw [HI.out]; simp; omega)
        clear HI
        go_enter Tryd.func86, Tryd.ntmps86
        go_wp2_with fail
        go_ret
        exact ⟨ret_bool HF.out.symm, rfl⟩

theorem tmod_nat (x p : Nat) : Int.tmod (x : Int) (p : Int) = ((x % p : Nat) : Int) := by rw [Int.tmod_eq_emod_of_nonneg (by omega)]; rfl

structure BtsI (w : World) (k p : Nat) (wr : World) : Prop where
  pow : p = 2 ^ k
  world : wr = w

set_option maxHeartbeats 2000000 in
set_option maxRecDepth 100000 in
theorem rbits_any (a : Option Addr) (len cap : Nat) (l : List Nat) (w : World) (h : Reads .u8 w a len cap l) (hx : ∀ x ∈ l, x < 256) :
    Calls Tryd.prog 87 #[.slice a len cap] w fun e w' => e = .returned (.bool (bitsB l)) ∧ w' = w := by
  have hm := h.len_le
  unfold maxLen at hm
  have hl := Lib.hid h.length
  by_cases h0 : len = 0
  · subst h0
    have HI := Lib.hid (show bitsB l = false by unfold bitsB; rw [if_pos (.inl hl.out)])
    go_enter Tryd.func87, Tryd.ntmps87
    go_wp2_with fail
    go_ret
    exact ⟨ret_bool HI.out.symm, rfl⟩
  · obtain ⟨b, off, rfl, hlt, hc⟩ := h.cells (by omega)
    have c0 : w.cell? ⟨b, off, none⟩ = _ := hc 0 (by omega)
    have c1 := hc (len - 1) (by omega)
    have hp0 : 0 < len := by omega
    have g0 : ((len : Int) == 0) = false := by simp; omega
    have x0 := gN_lt hx 0
    have x1 := gN_lt hx (len - 1)
    have hI : bitsB l = if 7 < gN l 0 ∨ (len = 1 ∧ gN l 0 ≠ 0) then false else decide (len = 1) || decide (gN l (len - 1) % 2 ^ gN l 0 = 0) := by
      unfold bitsB
      rw [hl.out]
      simp only [h0, false_or]
    have HI := Lib.hid hI
    have e0 : (l[0]?.getD 0) = gN l 0 := rfl
    have e1 : (l[len - 1]?.getD 0) = gN l (len - 1) := rfl
    simp only [e0] at c0
    simp only [e1] at c1
    have hsub : ((len : Int) - 1) = ((len - 1 : Nat) : Int) := by omega
    have hwr : IntKind.i64.wrap ((len - 1 : Nat) : Int) = ((len - 1 : Nat) : Int) := by rw [IntKind.wrap_i64]; omega
    have hne1 : (len - 1) < len := by omega
    have hni1 : ((len - 1 : Nat) : Int) < (len : Int) := by omega
    clear hI hc e0 e1 h hx h0
    generalize gN l 0 = u at *
    generalize gN l (len - 1) = x at *
    by_cases h7 : 7 < u
    · have z7 : (7 : Int) < (u : Int) := by omega
      have HF := Lib.hid (show bitsB l = false by rw [HI.out, if_pos (.inl h7)])
      clear c1 HI
      go_enter Tryd.func87, Tryd.ntmps87
      go_wp2_with fail
      go_ret
      exact ⟨ret_bool HF.out.symm, rfl⟩
    · have z7 : ¬ ((7 : Int) < (u : Int)) := by omega
      by_cases hbad : len = 1 ∧ u ≠ 0
      · obtain ⟨rfl, hu⟩ := hbad
        have zu : (0 : Int) < (u : Int) := by omega
        have HF := Lib.hid (show bitsB l = false by rw [HI.out, if_pos (.inr ⟨rfl, hu⟩)])
        clear c1 HI
        go_enter Tryd.func87, Tryd.ntmps87
        go_wp2_with fail
        go_ret
        exact ⟨ret_bool HF.out.symm, rfl⟩
      · have HB := Lib.hid hbad
        have HJ := Lib.hid (show bitsB l = (decide (len = 1) || decide (x % 2 ^ u = 0)) by rw [HI.out, if_neg (fun h => h.elim h7 hbad)])
        clear HI hbad
        have main : ∀ g1 : Bool, ((len : Int) == 1) = g1 → (g1 = true → u = 0) → Calls Tryd.prog 87 #[.slice (some ⟨b, off, none⟩) len cap] w fun e w' => e = .returned (.bool (bitsB l)) ∧ w' = w := by
          intro g1 hg1 hgu
          cases g1
          case false =>
            clear hgu
            have HG := Lib.hid hg1
            go_enter Tryd.func87, Tryd.ntmps87
            go_wp2_with fail
            go_loopw [4, 3] (fun i s wr => ∃ (k p : Nat), k ≤ u ∧ i = .int .i64 (k : Int) ∧ s = .int .i64 (p : Int) ∧ BtsI w k p wr) (fun i _ _ => u - (intOf i).toNat)
            case atStart => exact ⟨0, 1, Nat.zero_le _, rfl, rfl, rfl, rfl⟩
            case round =>
              obtain ⟨k, p, hk, rfl, rfl, hr⟩ := hrel
              have hw := hr.world
              subst hw
              have HP := Lib.hid hr.pow
              clear hr
              by_cases hku : k < u
              · have hp64 : p ≤ 64 := by rw [HP.out]; exact (show 2 ^ k ≤ 2 ^ 6 from Nat.pow_le_pow_right (by decide) (by omega))
                have HN := Lib.hid (show 2 * p = 2 ^ (k + 1) by rw [Nat.pow_succ, ← HP.out]; omega)
                go_wp2_with fail
                go_roundw
                case rel => exact ⟨k + 1, 2 * p, by omega, by go_num, by go_num, HN.out, rfl⟩
                case measure => simp [intOf]; omega
              · obtain rfl : k = u := by omega
                have hp0' : 0 < p := by rw [HP.out]; exact Nat.pow_pos (by decide)
                have hp128 : p ≤ 128 := by rw [HP.out]; exact (show 2 ^ k ≤ 2 ^ 7 from Nat.pow_le_pow_right (by decide) (by omega))
                have hrem : Int.tmod (x : Int) (p : Int) = ((x % p : Nat) : Int) := tmod_nat x p
                have hpz : ((p : Int) == 0) = false := by simp; omega
                have hpz2 : ¬ (p : Int) = 0 := by omega
                have HF := Lib.hid (show bitsB l = decide (x % p = 0) by rw [HJ.out, HP.out, decide_eq_false (show ¬ len = 1 by have := HG.out; intro h; subst h; simp at this), Bool.false_or])
                clear HJ HP hku
                by_cases hr0 : x % p = 0
                · have hz : (((x % p : Nat) : Int) == 0) = true := by simp [hr0]
                  have HF2 := Lib.hid (show bitsB l = true by rw [HF.out]; exact decide_eq_true hr0)
                  clear hr0 HF
                  generalize ((x % p : Nat) : Int) = rr at *
                  go_wp2_with fail
                  go_ret
                  exact ⟨ret_bool HF2.out.symm, rfl⟩
                · have hz : (((x % p : Nat) : Int) == 0) = false := by simp; omega
                  have HF2 := Lib.hid (show bitsB l = false by rw [HF.out]; exact decide_eq_false hr0)
                  clear hr0 HF
                  generalize ((x % p : Nat) : Int) = rr at *
                  go_wp2_with fail
                  go_ret
                  exact ⟨ret_bool HF2.out.symm, rfl⟩
          case true =>
            obtain rfl : u = 0 := hgu rfl
            clear hgu
            have HG := Lib.hid hg1
            go_enter Tryd.func87, Tryd.ntmps87
            go_wp2_with fail
            go_loopw [4, 3] (fun i s wr => ∃ (k p : Nat), k ≤ 0 ∧ i = .int .i64 (k : Int) ∧ s = .int .i64 (p : Int) ∧ BtsI w k p wr) (fun i _ _ => 0 - (intOf i).toNat)
            case atStart => exact ⟨0, 1, Nat.zero_le _, rfl, rfl, rfl, rfl⟩
            case round =>
              obtain ⟨k, p, hk, rfl, rfl, hr⟩ := hrel
              have hw := hr.world
              subst hw
              have HP := Lib.hid hr.pow
              clear hr
              obtain rfl : k = 0 := by omega
              have HF := Lib.hid (show bitsB l = true by rw [HJ.out, decide_eq_true (show len = 1 by have := HG.out; simp at this; omega), Bool.true_or])
              clear HJ HP
              go_wp2_with fail
              go_ret
              exact ⟨ret_bool HF.out.symm, rfl⟩
        by_cases h1 : len = 1
        · exact main true (by simp [h1]) (fun _ => by have := HB.out; omega)
        · exact main false (by simp; omega) (fun h => by cases h)

/-- Does a number of an identifier begin there? -/
def begB (l : List Nat) (k : Nat) : Bool := decide (k = 0) || decide (gN l (k - 1) < 128)

structure OidJ (w : World) (l : List Nat) (k : Nat) (wr : World) : Prop where
  same : oidR (begB l k) (l.drop k) = oidR true l
  world : wr = w

set_option maxHeartbeats 2000000 in
set_option maxRecDepth 100000 in
theorem roid_any (a : Option Addr) (len cap : Nat) (l : List Nat) (w : World) (h : Reads .u8 w a len cap l) (hx : ∀ x ∈ l, x < 256) :
    Calls Tryd.prog 88 #[.slice a len cap] w fun e w' => e = .returned (.bool (oidB l)) ∧ w' = w := by
  have hm := h.len_le
  unfold maxLen at hm
  have hl := Lib.hid h.length
  have HC := Lib.hid h.cells
  have HX := Lib.hid hx
  clear h hx
  go_enter Tryd.func88, Tryd.ntmps88
  go_wp2_with fail
  go_loopw [3] (fun i wr => ∃ (k : Nat), k ≤ len ∧ i = .int .i64 (k : Int) ∧ OidJ w l k wr) (fun i _ => len - (intOf i).toNat)
  case atStart => exact ⟨0, Nat.zero_le _, rfl, rfl, rfl⟩
  case round =>
    obtain ⟨k, hk, rfl, hr⟩ := hrel
    have hw := hr.world
    subst hw
    have HS := Lib.hid hr.same
    clear hr
    by_cases hlt : k < len
    · obtain ⟨g, off, rfl, hg, hc⟩ := HC.out (by omega)
      have ck := hc k hlt
      have hkl : k < l.length := by rw [hl.out]; exact hlt
      obtain ⟨x, hxe⟩ : ∃ x, l[k] = x := ⟨_, rfl⟩
      have e0 : (l[k]?.getD 0) = x := by rw [List.getElem?_eq_getElem hkl, ← hxe]; rfl
      rw [e0] at ck
      have HD := Lib.hid (show l.drop k = x :: l.drop (k + 1) by rw [List.drop_eq_getElem_cons hkl, hxe])
      have h256 : x < 256 := by rw [← hxe]; exact HX.out _ (List.getElem_mem _)
      have HB1 := Lib.hid (show begB l (k + 1) = decide (x < 128) by unfold begB; rw [decide_eq_false (by omega), Bool.false_or, Nat.add_sub_cancel]; exact decide_eq_decide.2 (by rw [show gN l k = x from e0]))
      by_cases hx128 : x = 128
      · subst hx128
        have HN := Lib.hid (show begB l k = false → oidR (begB l (k + 1)) (l.drop (k + 1)) = oidR true l from fun h => by rw [HB1.out, ← HS.out, HD.out, h, oidR, if_neg (by simp)])
        have HF := Lib.hid (show begB l k = true → oidB l = false from fun h => by unfold oidB; rw [← HS.out, HD.out, h, oidR, if_pos ⟨rfl, rfl⟩, Bool.and_false])
        clear e0 hxe
        by_cases hk0 : k = 0
        · subst hk0
          have HF := Lib.hid (HF.out rfl)
          rw [Nat.add_zero] at ck
          clear HN hc
          go_wp2_with fail
          go_ret
          exact ⟨ret_bool HF.out.symm, rfl⟩
        · have zk : ((k : Int) == 0) = false := by simp; omega
          have cj := hc (k - 1) (by omega)
          have y256 := gN_lt HX.out (k - 1)
          rw [show (l[k - 1]?.getD 0) = gN l (k - 1) from rfl] at cj
          have HBk := Lib.hid (show begB l k = decide (gN l (k - 1) < 128) by unfold begB; rw [decide_eq_false hk0, Bool.false_or])
          have hsub : ((k : Int) - 1) = ((k - 1 : Nat) : Int) := by omega
          have hwr : IntKind.i64.wrap ((k - 1 : Nat) : Int) = ((k - 1 : Nat) : Int) := by rw [IntKind.wrap_i64]; omega
          have hj1 : k - 1 < len := by omega
          have hj2 : ((k - 1 : Nat) : Int) < (len : Int) := by omega
          clear hc
          generalize gN l (k - 1) = y at *
          by_cases hy : y < 128
          · have zy : (y : Int) < 128 := by omega
            have HF := Lib.hid (HF.out (by rw [HBk.out]; exact decide_eq_true hy))
            clear HN
            go_wp2_with fail
            go_ret
            exact ⟨ret_bool HF.out.symm, rfl⟩
          · have zy : ¬ ((y : Int) < 128) := by omega
            have HN := Lib.hid (HN.out (by rw [HBk.out]; exact decide_eq_false hy))
            clear HF
            go_wp2_with fail
            go_roundw
            case rel => exact ⟨k + 1, by omega, by go_num, HN.out, rfl⟩
            case measure => simp [intOf]; omega
      · have zx : ((x : Int) == 128) = false := by simp; omega
        have HN := Lib.hid (show oidR (begB l (k + 1)) (l.drop (k + 1)) = oidR true l by rw [HB1.out, ← HS.out, HD.out, oidR, if_neg (fun h => hx128 h.2)])
        clear e0 hxe hc
        go_wp2_with fail
        go_roundw
        case rel => exact ⟨k + 1, by omega, by go_num, HN.out, rfl⟩
        case measure => simp [intOf]; omega
    · obtain rfl : k = len := by omega
      have HE := Lib.hid (show oidR true l = begB l k by rw [← HS.out, List.drop_of_length_le (by rw [hl.out]; exact Nat.le_refl _), oidR])
      by_cases hk0 : k = 0
      · subst hk0
        have HF := Lib.hid (show oidB l = false by unfold oidB; rw [hl.out]; rfl)
        clear HE HS hlt
        go_wp2_with fail
        go_ret
        exact ⟨ret_bool HF.out.symm, rfl⟩
      · have hk1 : 0 < k := by omega
        have hkz : (0 : Int) < (k : Int) := by omega
        obtain ⟨g, off, rfl, hg, hc⟩ := HC.out hk1
        have cj := hc (k - 1) (by omega)
        have y256 := gN_lt HX.out (k - 1)
        rw [show (l[k - 1]?.getD 0) = gN l (k - 1) from rfl] at cj
        have HF := Lib.hid (show oidB l = decide (gN l (k - 1) < 128) by
          unfold oidB; rw [hl.out, decide_eq_true hk1, Bool.true_and, HE.out]; unfold begB; rw [decide_eq_false hk0, Bool.false_or])
        have hsub : ((k : Int) - 1) = ((k - 1 : Nat) : Int) := by omega
        have hwr : IntKind.i64.wrap ((k - 1 : Nat) : Int) = ((k - 1 : Nat) : Int) := by rw [IntKind.wrap_i64]; omega
        have hj1 : k - 1 < k := by omega
        have hj2 : ((k - 1 : Nat) : Int) < (k : Int) := by omega
        clear hc HE HS hlt
        generalize gN l (k - 1) = y at *
        by_cases hy : y < 128
        · have zy : (y : Int) < 128 := by omega
          go_wp2_with fail
          go_ret
          exact ⟨ret_bool (by rw [HF.out]; exact (decide_eq_true hy).symm), rfl⟩
        · have zy : ¬ ((y : Int) < 128) := by omega
          go_wp2_with fail
          go_ret
          exact ⟨ret_bool (by rw [HF.out]; exact (decide_eq_false hy).symm), rfl⟩


structure PriI (w : World) (x k : Nat) (wr : World) : Prop where
  same : (marksP.drop k).contains x = marksP.contains x
  world : wr = w

set_option maxHeartbeats 2000000 in
set_option maxRecDepth 100000 in
theorem rprint_any (x : Nat) (hx : x < 256) (w : World) : Calls Tryd.prog 102 #[.int .u8 (x : Nat)] w fun e w' => e = .returned (.bool (printB x)) ∧ w' = w := by
  by_cases r0 : 65 ≤ x ∧ x ≤ 90
  · have a0 : (65 : Int) ≤ (x : Int) := by omega
    have b0 : (x : Int) ≤ 90 := by omega
    have HF := Lib.hid (show printB x = true by unfold printB digB; simp [decide_eq_true r0.1, decide_eq_true r0.2, r0.1, r0.2])
    clear r0
    go_enter Tryd.func102, Tryd.ntmps102
    go_wp2_with fail
    go_ret
    exact ⟨ret_bool HF.out.symm, rfl⟩
  · skip
    by_cases r1 : 97 ≤ x ∧ x ≤ 122
    · have a1 : (97 : Int) ≤ (x : Int) := by omega
      have b1 : (x : Int) ≤ 122 := by omega
      have n0 : ¬ ((x : Int) ≤ 90) := by omega
      have m0 : (65 : Int) ≤ (x : Int) := by omega
      have HF := Lib.hid (show printB x = true by unfold printB digB; simp [decide_eq_true r1.1, decide_eq_true r1.2, r1.1, r1.2])
      clear r0 r1
      go_enter Tryd.func102, Tryd.ntmps102
      go_wp2_with fail
      go_ret
      exact ⟨ret_bool HF.out.symm, rfl⟩
    · skip
      by_cases r2 : 48 ≤ x ∧ x ≤ 57
      · have a2 : (48 : Int) ≤ (x : Int) := by omega
        have b2 : (x : Int) ≤ 57 := by omega
        have n0 : ¬ ((65 : Int) ≤ (x : Int)) := by omega
        have n1 : ¬ ((97 : Int) ≤ (x : Int)) := by omega
        have HF := Lib.hid (show printB x = true by unfold printB digB; simp [decide_eq_true r2.1, decide_eq_true r2.2, r2.1, r2.2])
        clear r0 r1 r2
        go_enter Tryd.func102, Tryd.ntmps102
        go_wp2_with fail
        go_ret
        exact ⟨ret_bool HF.out.symm, rfl⟩
      · skip
        have HM := Lib.hid (show printB x = marksP.contains x by unfold printB digB; rw [show (decide (97 ≤ x) && decide (x ≤ 122)) = false by simp; omega, show (decide (65 ≤ x) && decide (x ≤ 90)) = false by simp; omega, show (decide (48 ≤ x) && decide (x ≤ 57)) = false by simp; omega]; rfl)
        have HR := Lib.hid (And.intro r0 (And.intro r1 r2))
        clear r0 r1 r2
        by_cases s1 : x < 48
        · skip
          have y65 : ¬ ((65 : Int) ≤ (x : Int)) := by have := HR.out; omega
          have y97 : ¬ ((97 : Int) ≤ (x : Int)) := by have := HR.out; omega
          have y48 : ¬ ((48 : Int) ≤ (x : Int)) := by have := HR.out; omega
          clear HR
          go_enter Tryd.func102, Tryd.ntmps102
          go_wp2_with fail
          go_loopw [3] (fun i wr => ∃ (k : Nat), k ≤ 12 ∧ i = .int .i64 (k : Int) ∧ PriI w x k wr) (fun i _ => 12 - (intOf i).toNat)
          case atStart => exact ⟨0, Nat.zero_le _, rfl, rfl, rfl⟩
          case round =>
            obtain ⟨k, hk, rfl, hr⟩ := hrel
            have hw := hr.world
            subst hw
            have HS := Lib.hid hr.same
            clear hr
            obtain rfl | rfl | rfl | rfl | rfl | rfl | rfl | rfl | rfl | rfl | rfl | rfl | rfl : k = 0 ∨ k = 1 ∨ k = 2 ∨ k = 3 ∨ k = 4 ∨ k = 5 ∨ k = 6 ∨ k = 7 ∨ k = 8 ∨ k = 9 ∨ k = 10 ∨ k = 11 ∨ k = 12 := by omega
            · by_cases hq : x = 32
              · have zq : (((({ data := #[32, 39, 40, 41, 43, 44, 45, 46, 47, 58, 61, 63] } : ByteArray)[0]'(by decide)).toNat : Int) == (x : Int)) = true := by show ((32 : Int) == (x : Int)) = true; simp [hq]
                have HF := Lib.hid (show printB x = true by rw [hq]; decide)
                clear HS HM hq
                go_wp2_with fail
                go_ret
                exact ⟨ret_bool HF.out.symm, rfl⟩
              · have zq : (((({ data := #[32, 39, 40, 41, 43, 44, 45, 46, 47, 58, 61, 63] } : ByteArray)[0]'(by decide)).toNat : Int) == (x : Int)) = false := by show ((32 : Int) == (x : Int)) = false; simp; omega
                have HN := Lib.hid (show (marksP.drop 1).contains x = marksP.contains x by rw [← HS.out]; show _ = (32 :: marksP.drop 1).contains x; rw [List.contains_cons, show (x == 32) = false by simpa using hq, Bool.false_or])
                clear HS hq
                go_wp2_with fail
                go_roundw
                case rel => exact ⟨1, by omega, rfl, HN.out, rfl⟩
                case measure => simp [intOf]
            · by_cases hq : x = 39
              · have zq : (((({ data := #[32, 39, 40, 41, 43, 44, 45, 46, 47, 58, 61, 63] } : ByteArray)[1]'(by decide)).toNat : Int) == (x : Int)) = true := by show ((39 : Int) == (x : Int)) = true; simp [hq]
                have HF := Lib.hid (show printB x = true by rw [hq]; decide)
                clear HS HM hq
                go_wp2_with fail
                go_ret
                exact ⟨ret_bool HF.out.symm, rfl⟩
              · have zq : (((({ data := #[32, 39, 40, 41, 43, 44, 45, 46, 47, 58, 61, 63] } : ByteArray)[1]'(by decide)).toNat : Int) == (x : Int)) = false := by show ((39 : Int) == (x : Int)) = false; simp; omega
                have HN := Lib.hid (show (marksP.drop 2).contains x = marksP.contains x by rw [← HS.out]; show _ = (39 :: marksP.drop 2).contains x; rw [List.contains_cons, show (x == 39) = false by simpa using hq, Bool.false_or])
                clear HS hq
                go_wp2_with fail
                go_roundw
                case rel => exact ⟨2, by omega, rfl, HN.out, rfl⟩
                case measure => simp [intOf]
            · by_cases hq : x = 40
              · have zq : (((({ data := #[32, 39, 40, 41, 43, 44, 45, 46, 47, 58, 61, 63] } : ByteArray)[2]'(by decide)).toNat : Int) == (x : Int)) = true := by show ((40 : Int) == (x : Int)) = true; simp [hq]
                have HF := Lib.hid (show printB x = true by rw [hq]; decide)
                clear HS HM hq
                go_wp2_with fail
                go_ret
                exact ⟨ret_bool HF.out.symm, rfl⟩
              · have zq : (((({ data := #[32, 39, 40, 41, 43, 44, 45, 46, 47, 58, 61, 63] } : ByteArray)[2]'(by decide)).toNat : Int) == (x : Int)) = false := by show ((40 : Int) == (x : Int)) = false; simp; omega
                have HN := Lib.hid (show (marksP.drop 3).contains x = marksP.contains x by rw [← HS.out]; show _ = (40 :: marksP.drop 3).contains x; rw [List.contains_cons, show (x == 40) = false by simpa using hq, Bool.false_or])
                clear HS hq
                go_wp2_with fail
                go_roundw
                case rel => exact ⟨3, by omega, rfl, HN.out, rfl⟩
                case measure => simp [intOf]
            · by_cases hq : x = 41
              · have zq : (((({ data := #[32, 39, 40, 41, 43, 44, 45, 46, 47, 58, 61, 63] } : ByteArray)[3]'(by decide)).toNat : Int) == (x : Int)) = true := by show ((41 : Int) == (x : Int)) = true; simp [hq]
                have HF := Lib.hid (show printB x = true by rw [hq]; decide)
                clear HS HM hq
                go_wp2_with fail
                go_ret
                exact ⟨ret_bool HF.out.symm, rfl⟩
              · have zq : (((({ data := #[32, 39, 40, 41, 43, 44, 45, 46, 47, 58, 61, 63] } : ByteArray)[3]'(by decide)).toNat : Int) == (x : Int)) = false := by show ((41 : Int) == (x : Int)) = false; simp; omega
                have HN := Lib.hid (show (marksP.drop 4).contains x = marksP.contains x by rw [← HS.out]; show _ = (41 :: marksP.drop 4).contains x; rw [List.contains_cons, show (x == 41) = false by simpa using hq, Bool.false_or])
                clear HS hq
                go_wp2_with fail
                go_roundw
                case rel => exact ⟨4, by omega, rfl, HN.out, rfl⟩
                case measure => simp [intOf]
            · by_cases hq : x = 43
              · have zq : (((({ data := #[32, 39, 40, 41, 43, 44, 45, 46, 47, 58, 61, 63] } : ByteArray)[4]'(by decide)).toNat : Int) == (x : Int)) = true := by show ((43 : Int) == (x : Int)) = true; simp [hq]
                have HF := Lib.hid (show printB x = true by rw [hq]; decide)
                clear HS HM hq
                go_wp2_with fail
                go_ret
                exact ⟨ret_bool HF.out.symm, rfl⟩
              · have zq : (((({ data := #[32, 39, 40, 41, 43, 44, 45, 46, 47, 58, 61, 63] } : ByteArray)[4]'(by decide)).toNat : Int) == (x : Int)) = false := by show ((43 : Int) == (x : Int)) = false; simp; omega
                have HN := Lib.hid (show (marksP.drop 5).contains x = marksP.contains x by rw [← HS.out]; show _ = (43 :: marksP.drop 5).contains x; rw [List.contains_cons, show (x == 43) = false by simpa using hq, Bool.false_or])
                clear HS hq
                go_wp2_with fail
                go_roundw
                case rel => exact ⟨5, by omega, rfl, HN.out, rfl⟩
                case measure => simp [intOf]
            · by_cases hq : x = 44
              · have zq : (((({ data := #[32, 39, 40, 41, 43, 44, 45, 46, 47, 58, 61, 63] } : ByteArray)[5]'(by decide)).toNat : Int) == (x : Int)) = true := by show ((44 : Int) == (x : Int)) = true; simp [hq]
                have HF := Lib.hid (show printB x = true by rw [hq]; decide)
                clear HS HM hq
                go_wp2_with fail
                go_ret
                exact ⟨ret_bool HF.out.symm, rfl⟩
              · have zq : (((({ data := #[32, 39, 40, 41, 43, 44, 45, 46, 47, 58, 61, 63] } : ByteArray)[5]'(by decide)).toNat : Int) == (x : Int)) = false := by show ((44 : Int) == (x : Int)) = false; simp; omega
                have HN := Lib.hid (show (marksP.drop 6).contains x = marksP.contains x by rw [← HS.out]; show _ = (44 :: marksP.drop 6).contains x; rw [List.contains_cons, show (x == 44) = false by simpa using hq, Bool.false_or])
                clear HS hq
                go_wp2_with fail
                go_roundw
                case rel => exact ⟨6, by omega, rfl, HN.out, rfl⟩
                case measure => simp [intOf]
            · by_cases hq : x = 45
              · have zq : (((({ data := #[32, 39, 40, 41, 43, 44, 45, 46, 47, 58, 61, 63] } : ByteArray)[6]'(by decide)).toNat : Int) == (x : Int)) = true := by show ((45 : Int) == (x : Int)) = true; simp [hq]
                have HF := Lib.hid (show printB x = true by rw [hq]; decide)
                clear HS HM hq
                go_wp2_with fail
                go_ret
                exact ⟨ret_bool HF.out.symm, rfl⟩
              · have zq : (((({ data := #[32, 39, 40, 41, 43, 44, 45, 46, 47, 58, 61, 63] } : ByteArray)[6]'(by decide)).toNat : Int) == (x : Int)) = false := by show ((45 : Int) == (x : Int)) = false; simp; omega
                have HN := Lib.hid (show (marksP.drop 7).contains x = marksP.contains x by rw [← HS.out]; show _ = (45 :: marksP.drop 7).contains x; rw [List.contains_cons, show (x == 45) = false by simpa using hq, Bool.false_or])
                clear HS hq
                go_wp2_with fail
                go_roundw
                case rel => exact ⟨7, by omega, rfl, HN.out, rfl⟩
                case measure => simp [intOf]
            · by_cases hq : x = 46
              · have zq : (((({ data := #[32, 39, 40, 41, 43, 44, 45, 46, 47, 58, 61, 63] } : ByteArray)[7]'(by decide)).toNat : Int) == (x : Int)) = true := by show ((46 : Int) == (x : Int)) = true; simp [hq]
                have HF := Lib.hid (show printB x = true by rw [hq]; decide)
                clear HS HM hq
                go_wp2_with fail
                go_ret
                exact ⟨ret_bool HF.out.symm, rfl⟩
              · have zq : (((({ data := #[32, 39, 40, 41, 43, 44, 45, 46, 47, 58, 61, 63] } : ByteArray)[7]'(by decide)).toNat : Int) == (x : Int)) = false := by show ((46 : Int) == (x : Int)) = false; simp; omega
                have HN := Lib.hid (show (marksP.drop 8).contains x = marksP.contains x by rw [← HS.out]; show _ = (46 :: marksP.drop 8).contains x; rw [List.contains_cons, show (x == 46) = false by simpa using hq, Bool.false_or])
                clear HS hq
                go_wp2_with fail
                go_roundw
                case rel => exact ⟨8, by omega, rfl, HN.out, rfl⟩
                case measure => simp [intOf]
            · by_cases hq : x = 47
              · have zq : (((({ data := #[32, 39, 40, 41, 43, 44, 45, 46, 47, 58, 61, 63] } : ByteArray)[8]'(by decide)).toNat : Int) == (x : Int)) = true := by show ((47 : Int) == (x : Int)) = true; simp [hq]
                have HF := Lib.hid (show printB x = true by rw [hq]; decide)
                clear HS HM hq
                go_wp2_with fail
                go_ret
                exact ⟨ret_bool HF.out.symm, rfl⟩
              · have zq : (((({ data := #[32, 39, 40, 41, 43, 44, 45, 46, 47, 58, 61, 63] } : ByteArray)[8]'(by decide)).toNat : Int) == (x : Int)) = false := by show ((47 : Int) == (x : Int)) = false; simp; omega
                have HN := Lib.hid (show (marksP.drop 9).contains x = marksP.contains x by rw [← HS.out]; show _ = (47 :: marksP.drop 9).contains x; rw [List.contains_cons, show (x == 47) = false by simpa using hq, Bool.false_or])
                clear HS hq
                go_wp2_with fail
                go_roundw
                case rel => exact ⟨9, by omega, rfl, HN.out, rfl⟩
                case measure => simp [intOf]
            · by_cases hq : x = 58
              · have zq : (((({ data := #[32, 39, 40, 41, 43, 44, 45, 46, 47, 58, 61, 63] } : ByteArray)[9]'(by decide)).toNat : Int) == (x : Int)) = true := by show ((58 : Int) == (x : Int)) = true; simp [hq]
                have HF := Lib.hid (show printB x = true by rw [hq]; decide)
                clear HS HM hq
                go_wp2_with fail
                go_ret
                exact ⟨ret_bool HF.out.symm, rfl⟩
              · have zq : (((({ data := #[32, 39, 40, 41, 43, 44, 45, 46, 47, 58, 61, 63] } : ByteArray)[9]'(by decide)).toNat : Int) == (x : Int)) = false := by show ((58 : Int) == (x : Int)) = false; simp; omega
                have HN := Lib.hid (show (marksP.drop 10).contains x = marksP.contains x by rw [← HS.out]; show _ = (58 :: marksP.drop 10).contains x; rw [List.contains_cons, show (x == 58) = false by simpa using hq, Bool.false_or])
                clear HS hq
                go_wp2_with fail
                go_roundw
                case rel => exact ⟨10, by omega, rfl, HN.out, rfl⟩
                case measure => simp [intOf]
            · by_cases hq : x = 61
              · have zq : (((({ data := #[32, 39, 40, 41, 43, 44, 45, 46, 47, 58, 61, 63] } : ByteArray)[10]'(by decide)).toNat : Int) == (x : Int)) = true := by show ((61 : Int) == (x : Int)) = true; simp [hq]
                have HF := Lib.hid (show printB x = true by rw [hq]; decide)
                clear HS HM hq
                go_wp2_with fail
                go_ret
                exact ⟨ret_bool HF.out.symm, rfl⟩
              · have zq : (((({ data := #[32, 39, 40, 41, 43, 44, 45, 46, 47, 58, 61, 63] } : ByteArray)[10]'(by decide)).toNat : Int) == (x : Int)) = false := by show ((61 : Int) == (x : Int)) = false; simp; omega
                have HN := Lib.hid (show (marksP.drop 11).contains x = marksP.contains x by rw [← HS.out]; show _ = (61 :: marksP.drop 11).contains x; rw [List.contains_cons, show (x == 61) = false by simpa using hq, Bool.false_or])
                clear HS hq
                go_wp2_with fail
                go_roundw
                case rel => exact ⟨11, by omega, rfl, HN.out, rfl⟩
                case measure => simp [intOf]
            · by_cases hq : x = 63
              · have zq : (((({ data := #[32, 39, 40, 41, 43, 44, 45, 46, 47, 58, 61, 63] } : ByteArray)[11]'(by decide)).toNat : Int) == (x : Int)) = true := by show ((63 : Int) == (x : Int)) = true; simp [hq]
                have HF := Lib.hid (show printB x = true by rw [hq]; decide)
                clear HS HM hq
                go_wp2_with fail
                go_ret
                exact ⟨ret_bool HF.out.symm, rfl⟩
              · have zq : (((({ data := #[32, 39, 40, 41, 43, 44, 45, 46, 47, 58, 61, 63] } : ByteArray)[11]'(by decide)).toNat : Int) == (x : Int)) = false := by show ((63 : Int) == (x : Int)) = false; simp; omega
                have HN := Lib.hid (show (marksP.drop 12).contains x = marksP.contains x by rw [← HS.out]; show _ = (63 :: marksP.drop 12).contains x; rw [List.contains_cons, show (x == 63) = false by simpa using hq, Bool.false_or])
                clear HS hq
                go_wp2_with fail
                go_roundw
                case rel => exact ⟨12, by omega, rfl, HN.out, rfl⟩
                case measure => simp [intOf]
            · have HF := Lib.hid (show printB x = false by rw [HM.out, ← HS.out]; rfl)
              clear HS HM
              go_wp2_with fail
              go_ret
              exact ⟨ret_bool HF.out.symm, rfl⟩
        by_cases s2 : x < 65
        · skip
          have y65 : ¬ ((65 : Int) ≤ (x : Int)) := by have := HR.out; omega
          have y97 : ¬ ((97 : Int) ≤ (x : Int)) := by have := HR.out; omega
          have y48 : (48 : Int) ≤ (x : Int) := by have := HR.out; omega
          have y57 : ¬ ((x : Int) ≤ 57) := by have := HR.out; omega
          clear HR
          go_enter Tryd.func102, Tryd.ntmps102
          go_wp2_with fail
          go_loopw [3] (fun i wr => ∃ (k : Nat), k ≤ 12 ∧ i = .int .i64 (k : Int) ∧ PriI w x k wr) (fun i _ => 12 - (intOf i).toNat)
          case atStart => exact ⟨0, Nat.zero_le _, rfl, rfl, rfl⟩
          case round =>
            obtain ⟨k, hk, rfl, hr⟩ := hrel
            have hw := hr.world
            subst hw
            have HS := Lib.hid hr.same
            clear hr
            obtain rfl | rfl | rfl | rfl | rfl | rfl | rfl | rfl | rfl | rfl | rfl | rfl | rfl : k = 0 ∨ k = 1 ∨ k = 2 ∨ k = 3 ∨ k = 4 ∨ k = 5 ∨ k = 6 ∨ k = 7 ∨ k = 8 ∨ k = 9 ∨ k = 10 ∨ k = 11 ∨ k = 12 := by omega
            · by_cases hq : x = 32
              · have zq : (((({ data := #[32, 39, 40, 41, 43, 44, 45, 46, 47, 58, 61, 63] } : ByteArray)[0]'(by decide)).toNat : Int) == (x : Int)) = true := by show ((32 : Int) == (x : Int)) = true; simp [hq]
                have HF := Lib.hid (show printB x = true by rw [hq]; decide)
                clear HS HM hq
                go_wp2_with fail
                go_ret
                exact ⟨ret_bool HF.out.symm, rfl⟩
              · have zq : (((({ data := #[32, 39, 40, 41, 43, 44, 45, 46, 47, 58, 61, 63] } : ByteArray)[0]'(by decide)).toNat : Int) == (x : Int)) = false := by show ((32 : Int) == (x : Int)) = false; simp; omega
                have HN := Lib.hid (show (marksP.drop 1).contains x = marksP.contains x by rw [← HS.out]; show _ = (32 :: marksP.drop 1).contains x; rw [List.contains_cons, show (x == 32) = false by simpa using hq, Bool.false_or])
                clear HS hq
                go_wp2_with fail
                go_roundw
                case rel => exact ⟨1, by omega, rfl, HN.out, rfl⟩
                case measure => simp [intOf]
            · by_cases hq : x = 39
              · have zq : (((({ data := #[32, 39, 40, 41, 43, 44, 45, 46, 47, 58, 61, 63] } : ByteArray)[1]'(by decide)).toNat : Int) == (x : Int)) = true := by show ((39 : Int) == (x : Int)) = true; simp [hq]
                have HF := Lib.hid (show printB x = true by rw [hq]; decide)
                clear HS HM hq
                go_wp2_with fail
                go_ret
                exact ⟨ret_bool HF.out.symm, rfl⟩
              · have zq : (((({ data := #[32, 39, 40, 41, 43, 44, 45, 46, 47, 58, 61, 63] } : ByteArray)[1]'(by decide)).toNat : Int) == (x : Int)) = false := by show ((39 : Int) == (x : Int)) = false; simp; omega
                have HN := Lib.hid (show (marksP.drop 2).contains x = marksP.contains x by rw [← HS.out]; show _ = (39 :: marksP.drop 2).contains x; rw [List.contains_cons, show (x == 39) = false by simpa using hq, Bool.false_or])
                clear HS hq
                go_wp2_with fail
                go_roundw
                case rel => exact ⟨2, by omega, rfl, HN.out, rfl⟩
                case measure => simp [intOf]
            · by_cases hq : x = 40
              · have zq : (((({ data := #[32, 39, 40, 41, 43, 44, 45, 46, 47, 58, 61, 63] } : ByteArray)[2]'(by decide)).toNat : Int) == (x : Int)) = true := by show ((40 : Int) == (x : Int)) = true; simp [hq]
                have HF := Lib.hid (show printB x = true by rw [hq]; decide)
                clear HS HM hq
                go_wp2_with fail
                go_ret
                exact ⟨ret_bool HF.out.symm, rfl⟩
              · have zq : (((({ data := #[32, 39, 40, 41, 43, 44, 45, 46, 47, 58, 61, 63] } : ByteArray)[2]'(by decide)).toNat : Int) == (x : Int)) = false := by show ((40 : Int) == (x : Int)) = false; simp; omega
                have HN := Lib.hid (show (marksP.drop 3).contains x = marksP.contains x by rw [← HS.out]; show _ = (40 :: marksP.drop 3).contains x; rw [List.contains_cons, show (x == 40) = false by simpa using hq, Bool.false_or])
                clear HS hq
                go_wp2_with fail
                go_roundw
                case rel => exact ⟨3, by omega, rfl, HN.out, rfl⟩
                case measure => simp [intOf]
            · by_cases hq : x = 41
              · have zq : (((({ data := #[32, 39, 40, 41, 43, 44, 45, 46, 47, 58, 61, 63] } : ByteArray)[3]'(by decide)).toNat : Int) == (x : Int)) = true := by show ((41 : Int) == (x : Int)) = true; simp [hq]
                have HF := Lib.hid (show printB x = true by rw [hq]; decide)
                clear HS HM hq
                go_wp2_with fail
                go_ret
                exact ⟨ret_bool HF.out.symm, rfl⟩
              · have zq : (((({ data := #[32, 39, 40, 41, 43, 44, 45, 46, 47, 58, 61, 63] } : ByteArray)[3]'(by decide)).toNat : Int) == (x : Int)) = false := by show ((41 : Int) == (x : Int)) = false; simp; omega
                have HN := Lib.hid (show (marksP.drop 4).contains x = marksP.contains x by rw [← HS.out]; show _ = (41 :: marksP.drop 4).contains x; rw [List.contains_cons, show (x == 41) = false by simpa using hq, Bool.false_or])
                clear HS hq
                go_wp2_with fail
                go_roundw
                case rel => exact ⟨4, by omega, rfl, HN.out, rfl⟩
                case measure => simp [intOf]
            · by_cases hq : x = 43
              · have zq : (((({ data := #[32, 39, 40, 41, 43, 44, 45, 46, 47, 58, 61, 63] } : ByteArray)[4]'(by decide)).toNat : Int) == (x : Int)) = true := by show ((43 : Int) == (x : Int)) = true; simp [hq]
                have HF := Lib.hid (show printB x = true by rw [hq]; decide)
                clear HS HM hq
                go_wp2_with fail
                go_ret
                exact ⟨ret_bool HF.out.symm, rfl⟩
              · have zq : (((({ data := #[32, 39, 40, 41, 43, 44, 45, 46, 47, 58, 61, 63] } : ByteArray)[4]'(by decide)).toNat : Int) == (x : Int)) = false := by show ((43 : Int) == (x : Int)) = false; simp; omega
                have HN := Lib.hid (show (marksP.drop 5).contains x = marksP.contains x by rw [← HS.out]; show _ = (43 :: marksP.drop 5).contains x; rw [List.contains_cons, show (x == 43) = false by simpa using hq, Bool.false_or])
                clear HS hq
                go_wp2_with fail
                go_roundw
                case rel => exact ⟨5, by omega, rfl, HN.out, rfl⟩
                case measure => simp [intOf]
            · by_cases hq : x = 44
              · have zq : (((({ data := #[32, 39, 40, 41, 43, 44, 45, 46, 47, 58, 61, 63] } : ByteArray)[5]'(by decide)).toNat : Int) == (x : Int)) = true := by show ((44 : Int) == (x : Int)) = true; simp [hq]
                have HF := Lib.hid (show printB x = true by rw [hq]; decide)
                clear HS HM hq
                go_wp2_with fail
                go_ret
                exact ⟨ret_bool HF.out.symm, rfl⟩
              · have zq : (((({ data := #[32, 39, 40, 41, 43, 44, 45, 46, 47, 58, 61, 63] } : ByteArray)[5]'(by decide)).toNat : Int) == (x : Int)) = false := by show ((44 : Int) == (x : Int)) = false; simp; omega
                have HN := Lib.hid (show (marksP.drop 6).contains x = marksP.contains x by rw [← HS.out]; show _ = (44 :: marksP.drop 6).contains x; rw [List.contains_cons, show (x == 44) = false by simpa using hq, Bool.false_or])
                clear HS hq
                go_wp2_with fail
                go_roundw
                case rel => exact ⟨6, by omega, rfl, HN.out, rfl⟩
                case measure => simp [intOf]
            · by_cases hq : x = 45
              · have zq : (((({ data := #[32, 39, 40, 41, 43, 44, 45, 46, 47, 58, 61, 63] } : ByteArray)[6]'(by decide)).toNat : Int) == (x : Int)) = true := by show ((45 : Int) == (x : Int)) = true; simp [hq]
                have HF := Lib.hid (show printB x = true by rw [hq]; decide)
                clear HS HM hq
                go_wp2_with fail
                go_ret
                exact ⟨ret_bool HF.out.symm, rfl⟩
              · have zq : (((({ data := #[32, 39, 40, 41, 43, 44, 45, 46, 47, 58, 61, 63] } : ByteArray)[6]'(by decide)).toNat : Int) == (x : Int)) = false := by show ((45 : Int) == (x : Int)) = false; simp; omega
                have HN := Lib.hid (show (marksP.drop 7).contains x = marksP.contains x by rw [← HS.out]; show _ = (45 :: marksP.drop 7).contains x; rw [List.contains_cons, show (x == 45) = false by simpa using hq, Bool.false_or])
                clear HS hq
                go_wp2_with fail
                go_roundw
                case rel => exact ⟨7, by omega, rfl, HN.out, rfl⟩
                case measure => simp [intOf]
            · by_cases hq : x = 46
              · have zq : (((({ data := #[32, 39, 40, 41, 43, 44, 45, 46, 47, 58, 61, 63] } : ByteArray)[7]'(by decide)).toNat : Int) == (x : Int)) = true := by show ((46 : Int) == (x : Int)) = true; simp [hq]
                have HF := Lib.hid (show printB x = true by rw [hq]; decide)
                clear HS HM hq
                go_wp2_with fail
                go_ret
                exact ⟨ret_bool HF.out.symm, rfl⟩
              · have zq : (((({ data := #[32, 39, 40, 41, 43, 44, 45, 46, 47, 58, 61, 63] } : ByteArray)[7]'(by decide)).toNat : Int) == (x : Int)) = false := by show ((46 : Int) == (x : Int)) = false; simp; omega
                have HN := Lib.hid (show (marksP.drop 8).contains x = marksP.contains x by rw [← HS.out]; show _ = (46 :: marksP.drop 8).contains x; rw [List.contains_cons, show (x == 46) = false by simpa using hq, Bool.false_or])
                clear HS hq
                go_wp2_with fail
                go_roundw
                case rel => exact ⟨8, by omega, rfl, HN.out, rfl⟩
                case measure => simp [intOf]
            · by_cases hq : x = 47
              · have zq : (((({ data := #[32, 39, 40, 41, 43, 44, 45, 46, 47, 58, 61, 63] } : ByteArray)[8]'(by decide)).toNat : Int) == (x : Int)) = true := by show ((47 : Int) == (x : Int)) = true; simp [hq]
                have HF := Lib.hid (show printB x = true by rw [hq]; decide)
                clear HS HM hq
                go_wp2_with fail
                go_ret
                exact ⟨ret_bool HF.out.symm, rfl⟩
              · have zq : (((({ data := #[32, 39, 40, 41, 43, 44, 45, 46, 47, 58, 61, 63] } : ByteArray)[8]'(by decide)).toNat : Int) == (x : Int)) = false := by show ((47 : Int) == (x : Int)) = false; simp; omega
                have HN := Lib.hid (show (marksP.drop 9).contains x = marksP.contains x by rw [← HS.out]; show _ = (47 :: marksP.drop 9).contains x; rw [List.contains_cons, show (x == 47) = false by simpa using hq, Bool.false_or])
                clear HS hq
                go_wp2_with fail
                go_roundw
                case rel => exact ⟨9, by omega, rfl, HN.out, rfl⟩
                case measure => simp [intOf]
            · by_cases hq : x = 58
              · have zq : (((({ data := #[32, 39, 40, 41, 43, 44, 45, 46, 47, 58, 61, 63] } : ByteArray)[9]'(by decide)).toNat : Int) == (x : Int)) = true := by show ((58 : Int) == (x : Int)) = true; simp [hq]
                have HF := Lib.hid (show printB x = true by rw [hq]; decide)
                clear HS HM hq
                go_wp2_with fail
                go_ret
                exact ⟨ret_bool HF.out.symm, rfl⟩
              · have zq : (((({ data := #[32, 39, 40, 41, 43, 44, 45, 46, 47, 58, 61, 63] } : ByteArray)[9]'(by decide)).toNat : Int) == (x : Int)) = false := by show ((58 : Int) == (x : Int)) = false; simp; omega
                have HN := Lib.hid (show (marksP.drop 10).contains x = marksP.contains x by rw [← HS.out]; show _ = (58 :: marksP.drop 10).contains x; rw [List.contains_cons, show (x == 58) = false by simpa using hq, Bool.false_or])
                clear HS hq
                go_wp2_with fail
                go_roundw
                case rel => exact ⟨10, by omega, rfl, HN.out, rfl⟩
                case measure => simp [intOf]
            · by_cases hq : x = 61
              · have zq : (((({ data := #[32, 39, 40, 41, 43, 44, 45, 46, 47, 58, 61, 63] } : ByteArray)[10]'(by decide)).toNat : Int) == (x : Int)) = true := by show ((61 : Int) == (x : Int)) = true; simp [hq]
                have HF := Lib.hid (show printB x = true by rw [hq]; decide)
                clear HS HM hq
                go_wp2_with fail
                go_ret
                exact ⟨ret_bool HF.out.symm, rfl⟩
              · have zq : (((({ data := #[32, 39, 40, 41, 43, 44, 45, 46, 47, 58, 61, 63] } : ByteArray)[10]'(by decide)).toNat : Int) == (x : Int)) = false := by show ((61 : Int) == (x : Int)) = false; simp; omega
                have HN := Lib.hid (show (marksP.drop 11).contains x = marksP.contains x by rw [← HS.out]; show _ = (61 :: marksP.drop 11).contains x; rw [List.contains_cons, show (x == 61) = false by simpa using hq, Bool.false_or])
                clear HS hq
                go_wp2_with fail
                go_roundw
                case rel => exact ⟨11, by omega, rfl, HN.out, rfl⟩
                case measure => simp [intOf]
            · by_cases hq : x = 63
              · have zq : (((({ data := #[32, 39, 40, 41, 43, 44, 45, 46, 47, 58, 61, 63] } : ByteArray)[11]'(by decide)).toNat : Int) == (x : Int)) = true := by show ((63 : Int) == (x : Int)) = true; simp [hq]
                have HF := Lib.hid (show printB x = true by rw [hq]; decide)
                clear HS HM hq
                go_wp2_with fail
                go_ret
                exact ⟨ret_bool HF.out.symm, rfl⟩
              · have zq : (((({ data := #[32, 39, 40, 41, 43, 44, 45, 46, 47, 58, 61, 63] } : ByteArray)[11]'(by decide)).toNat : Int) == (x : Int)) = false := by show ((63 : Int) == (x : Int)) = false; simp; omega
                have HN := Lib.hid (show (marksP.drop 12).contains x = marksP.contains x by rw [← HS.out]; show _ = (63 :: marksP.drop 12).contains x; rw [List.contains_cons, show (x == 63) = false by simpa using hq, Bool.false_or])
                clear HS hq
                go_wp2_with fail
                go_roundw
                case rel => exact ⟨12, by omega, rfl, HN.out, rfl⟩
                case measure => simp [intOf]
            · have HF := Lib.hid (show printB x = false by rw [HM.out, ← HS.out]; rfl)
              clear HS HM
              go_wp2_with fail
              go_ret
              exact ⟨ret_bool HF.out.symm, rfl⟩
        by_cases s3 : x < 97
        · skip
          have y65 : (65 : Int) ≤ (x : Int) := by have := HR.out; omega
          have y90 : ¬ ((x : Int) ≤ 90) := by have := HR.out; omega
          have y97 : ¬ ((97 : Int) ≤ (x : Int)) := by have := HR.out; omega
          have y48 : (48 : Int) ≤ (x : Int) := by have := HR.out; omega
          have y57 : ¬ ((x : Int) ≤ 57) := by have := HR.out; omega
          clear HR
          go_enter Tryd.func102, Tryd.ntmps102
          go_wp2_with fail
          go_loopw [3] (fun i wr => ∃ (k : Nat), k ≤ 12 ∧ i = .int .i64 (k : Int) ∧ PriI w x k wr) (fun i _ => 12 - (intOf i).toNat)
          case atStart => exact ⟨0, Nat.zero_le _, rfl, rfl, rfl⟩
          case round =>
            obtain ⟨k, hk, rfl, hr⟩ := hrel
            have hw := hr.world
            subst hw
            have HS := Lib.hid hr.same
            clear hr
            obtain rfl | rfl | rfl | rfl | rfl | rfl | rfl | rfl | rfl | rfl | rfl | rfl | rfl : k = 0 ∨ k = 1 ∨ k = 2 ∨ k = 3 ∨ k = 4 ∨ k = 5 ∨ k = 6 ∨ k = 7 ∨ k = 8 ∨ k = 9 ∨ k = 10 ∨ k = 11 ∨ k = 12 := by omega
            · by_cases hq : x = 32
              · have zq : (((({ data := #[32, 39, 40, 41, 43, 44, 45, 46, 47, 58, 61, 63] } : ByteArray)[0]'(by decide)).toNat : Int) == (x : Int)) = true := by show ((32 : Int) == (x : Int)) = true; simp [hq]
                have HF := Lib.hid (show printB x = true by rw [hq]; decide)
                clear HS HM hq
                go_wp2_with fail
                go_ret
                exact ⟨ret_bool HF.out.symm, rfl⟩
              · have zq : (((({ data := #[32, 39, 40, 41, 43, 44, 45, 46, 47, 58, 61, 63] } : ByteArray)[0]'(by decide)).toNat : Int) == (x : Int)) = false := by show ((32 : Int) == (x : Int)) = false; simp; omega
                have HN := Lib.hid (show (marksP.drop 1).contains x = marksP.contains x by rw [← HS.out]; show _ = (32 :: marksP.drop 1).contains x; rw [List.contains_cons, show (x == 32) = false by simpa using hq, Bool.false_or])
                clear HS hq
                go_wp2_with fail
                go_roundw
                case rel => exact ⟨1, by omega, rfl, HN.out, rfl⟩
                case measure => simp [intOf]
            · by_cases hq : x = 39
              · have zq : (((({ data := #[32, 39, 40, 41, 43, 44, 45, 46, 47, 58, 61, 63] } : ByteArray)[1]'(by decide)).toNat : Int) == (x : Int)) = true := by show ((39 : Int) == (x : Int)) = true; simp [hq]
                have HF := Lib.hid (show printB x = true by rw [hq]; decide)
                clear HS HM hq
                go_wp2_with fail
                go_ret
                exact ⟨ret_bool HF.out.symm, rfl⟩
              · have zq : (((({ data := #[32, 39, 40, 41, 43, 44, 45, 46, 47, 58, 61, 63] } : ByteArray)[1]'(by decide)).toNat : Int) == (x : Int)) = false := by show ((39 : Int) == (x : Int)) = false; simp; omega
                have HN := Lib.hid (show (marksP.drop 2).contains x = marksP.contains x by rw [← HS.out]; show _ = (39 :: marksP.drop 2).contains x; rw [List.contains_cons, show (x == 39) = false by simpa using hq, Bool.false_or])
                clear HS hq
                go_wp2_with fail
                go_roundw
                case rel => exact ⟨2, by omega, rfl, HN.out, rfl⟩
                case measure => simp [intOf]
            · by_cases hq : x = 40
              · have zq : (((({ data := #[32, 39, 40, 41, 43, 44, 45, 46, 47, 58, 61, 63] } : ByteArray)[2]'(by decide)).toNat : Int) == (x : Int)) = true := by show ((40 : Int) == (x : Int)) = true; simp [hq]
                have HF := Lib.hid (show printB x = true by rw [hq]; decide)
                clear HS HM hq
                go_wp2_with fail
                go_ret
                exact ⟨ret_bool HF.out.symm, rfl⟩
              · have zq : (((({ data := #[32, 39, 40, 41, 43, 44, 45, 46, 47, 58, 61, 63] } : ByteArray)[2]'(by decide)).toNat : Int) == (x : Int)) = false := by show ((40 : Int) == (x : Int)) = false; simp; omega
                have HN := Lib.hid (show (marksP.drop 3).contains x = marksP.contains x by rw [← HS.out]; show _ = (40 :: marksP.drop 3).contains x; rw [List.contains_cons, show (x == 40) = false by simpa using hq, Bool.false_or])
                clear HS hq
                go_wp2_with fail
                go_roundw
                case rel => exact ⟨3, by omega, rfl, HN.out, rfl⟩
                case measure => simp [intOf]
            · by_cases hq : x = 41
              · have zq : (((({ data := #[32, 39, 40, 41, 43, 44, 45, 46, 47, 58, 61, 63] } : ByteArray)[3]'(by decide)).toNat : Int) == (x : Int)) = true := by show ((41 : Int) == (x : Int)) = true; simp [hq]
                have HF := Lib.hid (show printB x = true by rw [hq]; decide)
                clear HS HM hq
                go_wp2_with fail
                go_ret
                exact ⟨ret_bool HF.out.symm, rfl⟩
              · have zq : (((({ data := #[32, 39, 40, 41, 43, 44, 45, 46, 47, 58, 61, 63] } : ByteArray)[3]'(by decide)).toNat : Int) == (x : Int)) = false := by show ((41 : Int) == (x : Int)) = false; simp; omega
                have HN := Lib.hid (show (marksP.drop 4).contains x = marksP.contains x by rw [← HS.out]; show _ = (41 :: marksP.drop 4).contains x; rw [List.contains_cons, show (x == 41) = false by simpa using hq, Bool.false_or])
                clear HS hq
                go_wp2_with fail
                go_roundw
                case rel => exact ⟨4, by omega, rfl, HN.out, rfl⟩
                case measure => simp [intOf]
            · by_cases hq : x = 43
              · have zq : (((({ data := #[32, 39, 40, 41, 43, 44, 45, 46, 47, 58, 61, 63] } : ByteArray)[4]'(by decide)).toNat : Int) == (x : Int)) = true := by show ((43 : Int) == (x : Int)) = true; simp [hq]
                have HF := Lib.hid (show printB x = true by rw [hq]; decide)
                clear HS HM hq
                go_wp2_with fail
                go_ret
                exact ⟨ret_bool HF.out.symm, rfl⟩
              · have zq : (((({ data := #[32, 39, 40, 41, 43, 44, 45, 46, 47, 58, 61, 63] } : ByteArray)[4]'(by decide)).toNat : Int) == (x : Int)) = false := by show ((43 : Int) == (x : Int)) = false; simp; omega
                have HN := Lib.hid (show (marksP.drop 5).contains x = marksP.contains x by rw [← HS.out]; show _ = (43 :: marksP.drop 5).contains x; rw [List.contains_cons, show (x == 43) = false by simpa using hq, Bool.false_or])
                clear HS hq
                go_wp2_with fail
                go_roundw
                case rel => exact ⟨5, by omega, rfl, HN.out, rfl⟩
                case measure => simp [intOf]
            · by_cases hq : x = 44
              · have zq : (((({ data := #[32, 39, 40, 41, 43, 44, 45, 46, 47, 58, 61, 63] } : ByteArray)[5]'(by decide)).toNat : Int) == (x : Int)) = true := by show ((44 : Int) == (x : Int)) = true; simp [hq]
                have HF := Lib.hid (show printB x = true by rw [hq]; decide)
                clear HS HM hq
                go_wp2_with fail
                go_ret
                exact ⟨ret_bool HF.out.symm, rfl⟩
              · have zq : (((({ data := #[32, 39, 40, 41, 43, 44, 45, 46, 47, 58, 61, 63] } : ByteArray)[5]'(by decide)).toNat : Int) == (x : Int)) = false := by show ((44 : Int) == (x : Int)) = false; simp; omega
                have HN := Lib.hid (show (marksP.drop 6).contains x = marksP.contains x by rw [← HS.out]; show _ = (44 :: marksP.drop 6).contains x; rw [List.contains_cons, show (x == 44) = false by simpa using hq, Bool.false_or])
                clear HS hq
                go_wp2_with fail
                go_roundw
                case rel => exact ⟨6, by omega, rfl, HN.out, rfl⟩
                case measure => simp [intOf]
            · by_cases hq : x = 45
              · have zq : (((({ data := #[32, 39, 40, 41, 43, 44, 45, 46, 47, 58, 61, 63] } : ByteArray)[6]'(by decide)).toNat : Int) == (x : Int)) = true := by show ((45 : Int) == (x : Int)) = true; simp [hq]
                have HF := Lib.hid (show printB x = true by rw [hq]; decide)
                clear HS HM hq
                go_wp2_with fail
                go_ret
                exact ⟨ret_bool HF.out.symm, rfl⟩
              · have zq : (((({ data := #[32, 39, 40, 41, 43, 44, 45, 46, 47, 58, 61, 63] } : ByteArray)[6]'(by decide)).toNat : Int) == (x : Int)) = false := by show ((45 : Int) == (x : Int)) = false; simp; omega
                have HN := Lib.hid (show (marksP.drop 7).contains x = marksP.contains x by rw [← HS.out]; show _ = (45 :: marksP.drop 7).contains x; rw [List.contains_cons, show (x == 45) = false by simpa using hq, Bool.false_or])
                clear HS hq
                go_wp2_with fail
                go_roundw
                case rel => exact ⟨7, by omega, rfl, HN.out, rfl⟩
                case measure => simp [intOf]
            · by_cases hq : x = 46
              · have zq : (((({ data := #[32, 39, 40, 41, 43, 44, 45, 46, 47, 58, 61, 63] } : ByteArray)[7]'(by decide)).toNat : Int) == (x : Int)) = true := by show ((46 : Int) == (x : Int)) = true; simp [hq]
                have HF := Lib.hid (show printB x = true by rw [hq]; decide)
                clear HS HM hq
                go_wp2_with fail
                go_ret
                exact ⟨ret_bool HF.out.symm, rfl⟩
              · have zq : (((({ data := #[32, 39, 40, 41, 43, 44, 45, 46, 47, 58, 61, 63] } : ByteArray)[7]'(by decide)).toNat : Int) == (x : Int)) = false := by show ((46 : Int) == (x : Int)) = false; simp; omega
                have HN := Lib.hid (show (marksP.drop 8).contains x = marksP.contains x by rw [← HS.out]; show _ = (46 :: marksP.drop 8).contains x; rw [List.contains_cons, show (x == 46) = false by simpa using hq, Bool.false_or])
                clear HS hq
                go_wp2_with fail
                go_roundw
                case rel => exact ⟨8, by omega, rfl, HN.out, rfl⟩
                case measure => simp [intOf]
            · by_cases hq : x = 47
              · have zq : (((({ data := #[32, 39, 40, 41, 43, 44, 45, 46, 47, 58, 61, 63] } : ByteArray)[8]'(by decide)).toNat : Int) == (x : Int)) = true := by show ((47 : Int) == (x : Int)) = true; simp [hq]
                have HF := Lib.hid (show printB x = true by rw [hq]; decide)
                clear HS HM hq
                go_wp2_with fail
                go_ret
                exact ⟨ret_bool HF.out.symm, rfl⟩
              · have zq : (((({ data := #[32, 39, 40, 41, 43, 44, 45, 46, 47, 58, 61, 63] } : ByteArray)[8]'(by decide)).toNat : Int) == (x : Int)) = false := by show ((47 : Int) == (x : Int)) = false; simp; omega
                have HN := Lib.hid (show (marksP.drop 9).contains x = marksP.contains x by rw [← HS.out]; show _ = (47 :: marksP.drop 9).contains x; rw [List.contains_cons, show (x == 47) = false by simpa using hq, Bool.false_or])
                clear HS hq
                go_wp2_with fail
                go_roundw
                case rel => exact ⟨9, by omega, rfl, HN.out, rfl⟩
                case measure => simp [intOf]
            · by_cases hq : x = 58
              · have zq : (((({ data := #[32, 39, 40, 41, 43, 44, 45, 46, 47, 58, 61, 63] } : ByteArray)[9]'(by decide)).toNat : Int) == (x : Int)) = true := by show ((58 : Int) == (x : Int)) = true; simp [hq]
                have HF := Lib.hid (show printB x = true by rw [hq]; decide)
                clear HS HM hq
                go_wp2_with fail
                go_ret
                exact ⟨ret_bool HF.out.symm, rfl⟩
              · have zq : (((({ data := #[32, 39, 40, 41, 43, 44, 45, 46, 47, 58, 61, 63] } : ByteArray)[9]'(by decide)).toNat : Int) == (x : Int)) = false := by show ((58 : Int) == (x : Int)) = false; simp; omega
                have HN := Lib.hid (show (marksP.drop 10).contains x = marksP.contains x by rw [← HS.out]; show _ = (58 :: marksP.drop 10).contains x; rw [List.contains_cons, show (x == 58) = false by simpa using hq, Bool.false_or])
                clear HS hq
                go_wp2_with fail
                go_roundw
                case rel => exact ⟨10, by omega, rfl, HN.out, rfl⟩
                case measure => simp [intOf]
            · by_cases hq : x = 61
              · have zq : (((({ data := #[32, 39, 40, 41, 43, 44, 45, 46, 47, 58, 61, 63] } : ByteArray)[10]'(by decide)).toNat : Int) == (x : Int)) = true := by show ((61 : Int) == (x : Int)) = true; simp [hq]
                have HF := Lib.hid (show printB x = true by rw [hq]; decide)
                clear HS HM hq
                go_wp2_with fail
                go_ret
                exact ⟨ret_bool HF.out.symm, rfl⟩
              · have zq : (((({ data := #[32, 39, 40, 41, 43, 44, 45, 46, 47, 58, 61, 63] } : ByteArray)[10]'(by decide)).toNat : Int) == (x : Int)) = false := by show ((61 : Int) == (x : Int)) = false; simp; omega
                have HN := Lib.hid (show (marksP.drop 11).contains x = marksP.contains x by rw [← HS.out]; show _ = (61 :: marksP.drop 11).contains x; rw [List.contains_cons, show (x == 61) = false by simpa using hq, Bool.false_or])
                clear HS hq
                go_wp2_with fail
                go_roundw
                case rel => exact ⟨11, by omega, rfl, HN.out, rfl⟩
                case measure => simp [intOf]
            · by_cases hq : x = 63
              · have zq : (((({ data := #[32, 39, 40, 41, 43, 44, 45, 46, 47, 58, 61, 63] } : ByteArray)[11]'(by decide)).toNat : Int) == (x : Int)) = true := by show ((63 : Int) == (x : Int)) = true; simp [hq]
                have HF := Lib.hid (show printB x = true by rw [hq]; decide)
                clear HS HM hq
                go_wp2_with fail
                go_ret
                exact ⟨ret_bool HF.out.symm, rfl⟩
              · have zq : (((({ data := #[32, 39, 40, 41, 43, 44, 45, 46, 47, 58, 61, 63] } : ByteArray)[11]'(by decide)).toNat : Int) == (x : Int)) = false := by show ((63 : Int) == (x : Int)) = false; simp; omega
                have HN := Lib.hid (show (marksP.drop 12).contains x = marksP.contains x by rw [← HS.out]; show _ = (63 :: marksP.drop 12).contains x; rw [List.contains_cons, show (x == 63) = false by simpa using hq, Bool.false_or])
                clear HS hq
                go_wp2_with fail
                go_roundw
                case rel => exact ⟨12, by omega, rfl, HN.out, rfl⟩
                case measure => simp [intOf]
            · have HF := Lib.hid (show printB x = false by rw [HM.out, ← HS.out]; rfl)
              clear HS HM
              go_wp2_with fail
              go_ret
              exact ⟨ret_bool HF.out.symm, rfl⟩
        have y65 : (65 : Int) ≤ (x : Int) := by have := HR.out; omega
        have y90 : ¬ ((x : Int) ≤ 90) := by have := HR.out; omega
        have y97 : (97 : Int) ≤ (x : Int) := by have := HR.out; omega
        have y122 : ¬ ((x : Int) ≤ 122) := by have := HR.out; omega
        have y48 : (48 : Int) ≤ (x : Int) := by have := HR.out; omega
        have y57 : ¬ ((x : Int) ≤ 57) := by have := HR.out; omega
        clear HR
        go_enter Tryd.func102, Tryd.ntmps102
        go_wp2_with fail
        go_loopw [3] (fun i wr => ∃ (k : Nat), k ≤ 12 ∧ i = .int .i64 (k : Int) ∧ PriI w x k wr) (fun i _ => 12 - (intOf i).toNat)
        case atStart => exact ⟨0, Nat.zero_le _, rfl, rfl, rfl⟩
        case round =>
          obtain ⟨k, hk, rfl, hr⟩ := hrel
          have hw := hr.world
          subst hw
          have HS := Lib.hid hr.same
          clear hr
          obtain rfl | rfl | rfl | rfl | rfl | rfl | rfl | rfl | rfl | rfl | rfl | rfl | rfl : k = 0 ∨ k = 1 ∨ k = 2 ∨ k = 3 ∨ k = 4 ∨ k = 5 ∨ k = 6 ∨ k = 7 ∨ k = 8 ∨ k = 9 ∨ k = 10 ∨ k = 11 ∨ k = 12 := by omega
          · by_cases hq : x = 32
            · have zq : (((({ data := #[32, 39, 40, 41, 43, 44, 45, 46, 47, 58, 61, 63] } : ByteArray)[0]'(by decide)).toNat : Int) == (x : Int)) = true := by show ((32 : Int) == (x : Int)) = true; simp [hq]
              have HF := Lib.hid (show printB x = true by rw [hq]; decide)
              clear HS HM hq
              go_wp2_with fail
              go_ret
              exact ⟨ret_bool HF.out.symm, rfl⟩
            · have zq : (((({ data := #[32, 39, 40, 41, 43, 44, 45, 46, 47, 58, 61, 63] } : ByteArray)[0]'(by decide)).toNat : Int) == (x : Int)) = false := by show ((32 : Int) == (x : Int)) = false; simp; omega
              have HN := Lib.hid (show (marksP.drop 1).contains x = marksP.contains x by rw [← HS.out]; show _ = (32 :: marksP.drop 1).contains x; rw [List.contains_cons, show (x == 32) = false by simpa using hq, Bool.false_or])
              clear HS hq
              go_wp2_with fail
              go_roundw
              case rel => exact ⟨1, by omega, rfl, HN.out, rfl⟩
              case measure => simp [intOf]
          · by_cases hq : x = 39
            · have zq : (((({ data := #[32, 39, 40, 41, 43, 44, 45, 46, 47, 58, 61, 63] } : ByteArray)[1]'(by decide)).toNat : Int) == (x : Int)) = true := by show ((39 : Int) == (x : Int)) = true; simp [hq]
              have HF := Lib.hid (show printB x = true by rw [hq]; decide)
              clear HS HM hq
              go_wp2_with fail
              go_ret
              exact ⟨ret_bool HF.out.symm, rfl⟩
            · have zq : (((({ data := #[32, 39, 40, 41, 43, 44, 45, 46, 47, 58, 61, 63] } : ByteArray)[1]'(by decide)).toNat : Int) == (x : Int)) = false := by show ((39 : Int) == (x : Int)) = false; simp; omega
              have HN := Lib.hid (show (marksP.drop 2).contains x = marksP.contains x by rw [← HS.out]; show _ = (39 :: marksP.drop 2).contains x; rw [List.contains_cons, show (x == 39) = false by simpa using hq, Bool.false_or])
              clear HS hq
              go_wp2_with fail
              go_roundw
              case rel => exact ⟨2, by omega, rfl, HN.out, rfl⟩
              case measure => simp [intOf]
          · by_cases hq : x = 40
            · have zq : (((({ data := #[32, 39, 40, 41, 43, 44, 45, 46, 47, 58, 61, 63] } : ByteArray)[2]'(by decide)).toNat : Int) == (x : Int)) = true := by show ((40 : Int) == (x : Int)) = true; simp [hq]
              have HF := Lib.hid (show printB x = true by rw [hq]; decide)
              clear HS HM hq
              go_wp2_with fail
              go_ret
              exact ⟨ret_bool HF.out.symm, rfl⟩
            · have zq : (((({ data := #[32, 39, 40, 41, 43, 44, 45, 46, 47, 58, 61, 63] } : ByteArray)[2]'(by decide)).toNat : Int) == (x : Int)) = false := by show ((40 : Int) == (x : Int)) = false; simp; omega
              have HN := Lib.hid (show (marksP.drop 3).contains x = marksP.contains x by rw [← HS.out]; show _ = (40 :: marksP.drop 3).contains x; rw [List.contains_cons, show (x == 40) = false by simpa using hq, Bool.false_or])
              clear HS hq
              go_wp2_with fail
              go_roundw
              case rel => exact ⟨3, by omega, rfl, HN.out, rfl⟩
              case measure => simp [intOf]
          · by_cases hq : x = 41
            · have zq : (((({ data := #[32, 39, 40, 41, 43, 44, 45, 46, 47, 58, 61, 63] } : ByteArray)[3]'(by decide)).toNat : Int) == (x : Int)) = true := by show ((41 : Int) == (x : Int)) = true; simp [hq]
              have HF := Lib.hid (show printB x = true by rw [hq]; decide)
              clear HS HM hq
              go_wp2_with fail
              go_ret
              exact ⟨ret_bool HF.out.symm, rfl⟩
            · have zq : (((({ data := #[32, 39, 40, 41, 43, 44, 45, 46, 47, 58, 61, 63] } : ByteArray)[3]'(by decide)).toNat : Int) == (x : Int)) = false := by show ((41 : Int) == (x : Int)) = false; simp; omega
              have HN := Lib.hid (show (marksP.drop 4).contains x = marksP.contains x by rw [← HS.out]; show _ = (41 :: marksP.drop 4).contains x; rw [List.contains_cons, show (x == 41) = false by simpa using hq, Bool.false_or])
              clear HS hq
              go_wp2_with fail
              go_roundw
              case rel => exact ⟨4, by omega, rfl, HN.out, rfl⟩
              case measure => simp [intOf]
          · by_cases hq : x = 43
            · have zq : (((({ data := #[32, 39, 40, 41, 43, 44, 45, 46, 47, 58, 61, 63] } : ByteArray)[4]'(by decide)).toNat : Int) == (x : Int)) = true := by show ((43 : Int) == (x : Int)) = true; simp [hq]
              have HF := Lib.hid (show printB x = true by rw [hq]; decide)
              clear HS HM hq
              go_wp2_with fail
              go_ret
              exact ⟨ret_bool HF.out.symm, rfl⟩
            · have zq : (((({ data := #[32, 39, 40, 41, 43, 44, 45, 46, 47, 58, 61, 63] } : ByteArray)[4]'(by decide)).toNat : Int) == (x : Int)) = false := by show ((43 : Int) == (x : Int)) = false; simp; omega
              have HN := Lib.hid (show (marksP.drop 5).contains x = marksP.contains x by rw [← HS.out]; show _ = (43 :: marksP.drop 5).contains x; rw [List.contains_cons, show (x == 43) = false by simpa using hq, Bool.false_or])
              clear HS hq
              go_wp2_with fail
              go_roundw
              case rel => exact ⟨5, by omega, rfl, HN.out, rfl⟩
              case measure => simp [intOf]
          · by_cases hq : x = 44
            · have zq : (((({ data := #[32, 39, 40, 41, 43, 44, 45, 46, 47, 58, 61, 63] } : ByteArray)[5]'(by decide)).toNat : Int) == (x : Int)) = true := by show ((44 : Int) == (x : Int)) = true; simp [hq]
              have HF := Lib.hid (show printB x = true by rw [hq]; decide)
              clear HS HM hq
              go_wp2_with fail
              go_ret
              exact ⟨ret_bool HF.out.symm, rfl⟩
            · have zq : (((({ data := #[32, 39, 40, 41, 43, 44, 45, 46, 47, 58, 61, 63] } : ByteArray)[5]'(by decide)).toNat : Int) == (x : Int)) = false := by show ((44 : Int) == (x : Int)) = false; simp; omega
              have HN := Lib.hid (show (marksP.drop 6).contains x = marksP.contains x by rw [← HS.out]; show _ = (44 :: marksP.drop 6).contains x; rw [List.contains_cons, show (x == 44) = false by simpa using hq, Bool.false_or])
              clear HS hq
              go_wp2_with fail
              go_roundw
              case rel => exact ⟨6, by omega, rfl, HN.out, rfl⟩
              case measure => simp [intOf]
          · by_cases hq : x = 45
            · have zq : (((({ data := #[32, 39, 40, 41, 43, 44, 45, 46, 47, 58, 61, 63] } : ByteArray)[6]'(by decide)).toNat : Int) == (x : Int)) = true := by show ((45 : Int) == (x : Int)) = true; simp [hq]
              have HF := Lib.hid (show printB x = true by rw [hq]; decide)
              clear HS HM hq
              go_wp2_with fail
              go_ret
              exact ⟨ret_bool HF.out.symm, rfl⟩
            · have zq : (((({ data := #[32, 39, 40, 41, 43, 44, 45, 46, 47, 58, 61, 63] } : ByteArray)[6]'(by decide)).toNat : Int) == (x : Int)) = false := by show ((45 : Int) == (x : Int)) = false; simp; omega
              have HN := Lib.hid (show (marksP.drop 7).contains x = marksP.contains x by rw [← HS.out]; show _ = (45 :: marksP.drop 7).contains x; rw [List.contains_cons, show (x == 45) = false by simpa using hq, Bool.false_or])
              clear HS hq
              go_wp2_with fail
              go_roundw
              case rel => exact ⟨7, by omega, rfl, HN.out, rfl⟩
              case measure => simp [intOf]
          · by_cases hq : x = 46
            · have zq : (((({ data := #[32, 39, 40, 41, 43, 44, 45, 46, 47, 58, 61, 63] } : ByteArray)[7]'(by decide)).toNat : Int) == (x : Int)) = true := by show ((46 : Int) == (x : Int)) = true; simp [hq]
              have HF := Lib.hid (show printB x = true by rw [hq]; decide)
              clear HS HM hq
              go_wp2_with fail
              go_ret
              exact ⟨ret_bool HF.out.symm, rfl⟩
            · have zq : (((({ data := #[32, 39, 40, 41, 43, 44, 45, 46, 47, 58, 61, 63] } : ByteArray)[7]'(by decide)).toNat : Int) == (x : Int)) = false := by show ((46 : Int) == (x : Int)) = false; simp; omega
              have HN := Lib.hid (show (marksP.drop 8).contains x = marksP.contains x by rw [← HS.out]; show _ = (46 :: marksP.drop 8).contains x; rw [List.contains_cons, show (x == 46) = false by simpa using hq, Bool.false_or])
              clear HS hq
              go_wp2_with fail
              go_roundw
              case rel => exact ⟨8, by omega, rfl, HN.out, rfl⟩
              case measure => simp [intOf]
          · by_cases hq : x = 47
            · have zq : (((({ data := #[32, 39, 40, 41, 43, 44, 45, 46, 47, 58, 61, 63] } : ByteArray)[8]'(by decide)).toNat : Int) == (x : Int)) = true := by show ((47 : Int) == (x : Int)) = true; simp [hq]
              have HF := Lib.hid (show printB x = true by rw [hq]; decide)
              clear HS HM hq
              go_wp2_with fail
              go_ret
              exact ⟨ret_bool HF.out.symm, rfl⟩
            · have zq : (((({ data := #[32, 39, 40, 41, 43, 44, 45, 46, 47, 58, 61, 63] } : ByteArray)[8]'(by decide)).toNat : Int) == (x : Int)) = false := by show ((47 : Int) == (x : Int)) = false; simp; omega
              have HN := Lib.hid (show (marksP.drop 9).contains x = marksP.contains x by rw [← HS.out]; show _ = (47 :: marksP.drop 9).contains x; rw [List.contains_cons, show (x == 47) = false by simpa using hq, Bool.false_or])
              clear HS hq
              go_wp2_with fail
              go_roundw
              case rel => exact ⟨9, by omega, rfl, HN.out, rfl⟩
              case measure => simp [intOf]
          · by_cases hq : x = 58
            · have zq : (((({ data := #[32, 39, 40, 41, 43, 44, 45, 46, 47, 58, 61, 63] } : ByteArray)[9]'(by decide)).toNat : Int) == (x : Int)) = true := by show ((58 : Int) == (x : Int)) = true; simp [hq]
              have HF := Lib.hid (show printB x = true by rw [hq]; decide)
              clear HS HM hq
              go_wp2_with fail
              go_ret
              exact ⟨ret_bool HF.out.symm, rfl⟩
            · have zq : (((({ data := #[32, 39, 40, 41, 43, 44, 45, 46, 47, 58, 61, 63] } : ByteArray)[9]'(by decide)).toNat : Int) == (x : Int)) = false := by show ((58 : Int) == (x : Int)) = false; simp; omega
              have HN := Lib.hid (show (marksP.drop 10).contains x = marksP.contains x by rw [← HS.out]; show _ = (58 :: marksP.drop 10).contains x; rw [List.contains_cons, show (x == 58) = false by simpa using hq, Bool.false_or])
              clear HS hq
              go_wp2_with fail
              go_roundw
              case rel => exact ⟨10, by omega, rfl, HN.out, rfl⟩
              case measure => simp [intOf]
          · by_cases hq : x = 61
            · have zq : (((({ data := #[32, 39, 40, 41, 43, 44, 45, 46, 47, 58, 61, 63] } : ByteArray)[10]'(by decide)).toNat : Int) == (x : Int)) = true := by show ((61 : Int) == (x : Int)) = true; simp [hq]
              have HF := Lib.hid (show printB x = true by rw [hq]; decide)
              clear HS HM hq
              go_wp2_with fail
              go_ret
              exact ⟨ret_bool HF.out.symm, rfl⟩
            · have zq : (((({ data := #[32, 39, 40, 41, 43, 44, 45, 46, 47, 58, 61, 63] } : ByteArray)[10]'(by decide)).toNat : Int) == (x : Int)) = false := by show ((61 : Int) == (x : Int)) = false; simp; omega
              have HN := Lib.hid (show (marksP.drop 11).contains x = marksP.contains x by rw [← HS.out]; show _ = (61 :: marksP.drop 11).contains x; rw [List.contains_cons, show (x == 61) = false by simpa using hq, Bool.false_or])
              clear HS hq
              go_wp2_with fail
              go_roundw
              case rel => exact ⟨11, by omega, rfl, HN.out, rfl⟩
              case measure => simp [intOf]
          · by_cases hq : x = 63
            · have zq : (((({ data := #[32, 39, 40, 41, 43, 44, 45, 46, 47, 58, 61, 63] } : ByteArray)[11]'(by decide)).toNat : Int) == (x : Int)) = true := by show ((63 : Int) == (x : Int)) = true; simp [hq]
              have HF := Lib.hid (show printB x = true by rw [hq]; decide)
              clear HS HM hq
              go_wp2_with fail
              go_ret
              exact ⟨ret_bool HF.out.symm, rfl⟩
            · have zq : (((({ data := #[32, 39, 40, 41, 43, 44, 45, 46, 47, 58, 61, 63] } : ByteArray)[11]'(by decide)).toNat : Int) == (x : Int)) = false := by show ((63 : Int) == (x : Int)) = false; simp; omega
              have HN := Lib.hid (show (marksP.drop 12).contains x = marksP.contains x by rw [← HS.out]; show _ = (63 :: marksP.drop 12).contains x; rw [List.contains_cons, show (x == 63) = false by simpa using hq, Bool.false_or])
              clear HS hq
              go_wp2_with fail
              go_roundw
              case rel => exact ⟨12, by omega, rfl, HN.out, rfl⟩
              case measure => simp [intOf]
          · have HF := Lib.hid (show printB x = false by rw [HM.out, ← HS.out]; rfl)
            clear HS HM
            go_wp2_with fail
            go_ret
            exact ⟨ret_bool HF.out.symm, rfl⟩

end Go.Proofs.YtkmphiakciihfaaDoor
