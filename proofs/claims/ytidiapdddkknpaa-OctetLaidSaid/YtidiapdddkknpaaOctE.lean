/-
  THE LAW OctetBack.
-/
import Derived.Test.YtidiapdddkknpaaOctD
namespace Go.Proofs.Ytidiapdddkknpaa
open Go.RowKit

theorem bigR_yes {n m : Nat} (hm : m ≤ 65536) (h : n < 256 ^ m) : bigR n (m : Int) = (bigL n m, 0) := by rw [bigR, if_pos ⟨by omega, by omega⟩, if_pos (by simpa using h)]; simp
theorem bigR_no {n m : Nat} (hm : m ≤ 65536) (h : ¬ n < 256 ^ m) : bigR n (m : Int) = ([], 10) := by rw [bigR, if_pos ⟨by omega, by omega⟩, if_neg (by simpa using h)]

theorem big_whole {n m : Nat} (hn : n < 256 ^ 8) (h : n < 256 ^ m) : wVal (bigL n m) = (n : Int) ∧ wErr (bigL n m) = 0 := by
  have hv : wholeL (bigL n m) = n := by rw [bigL_val, Nat.mod_eq_of_lt h]
  have hb : ¬ 8 < (bareL (bigL n m)).length := by rw [big_iff, hv]; omega
  exact ⟨by rw [wVal, if_neg hb, hv], by rw [wErr, if_neg hb]⟩

theorem shift_pos {n m : Nat} (h : 0 < n / 256 ^ m) : 0 < (n : Int) / 2 ^ (8 * m) := by
  have hp : (2 : Int) ^ (8 * m) = ((256 ^ m : Nat) : Int) := by
    rw [Int.natCast_pow, Int.pow_mul]
    rfl
  rw [hp, ← Int.natCast_ediv]
  omega

set_option maxHeartbeats 4000000 in
theorem back_main (a : Option Addr) (ca : Nat) (A : List UInt8) (l : List UInt8) (n m : Nat) (w : World) (ha : Bts w a A.length ca A) (hA : A.length ≤ 2000) (hl : l.length ≤ 2000) (hn : Hid (n < 256 ^ 8)) (hm : m < 256) :
    Calls Try.prog 7 #[.slice a A.length ca, .string (strOf l), .int .u64 (n : Int), .int .u8 (m : Int)] w fun e w' => e = .returned (.bool true) ∧ Below w.heap.size w w' := by
  have HA := Lib.hid ha
  have hs := strOf_size' l
  clear ha
  go_enter Try.func7, Try.ntmps7
  go_wp2_with fail
  refine (alive_any _).mono ?_
  rintro e1 w1 ⟨rfl, hb1⟩
  have h01 := Lib.hid hb1
  clear hb1
  go_wp2_with fail
  refine (hex_any _ _ _ A _ (HA.out.below h01.out) (by omega)).mono ?_
  rintro e2 w2 ⟨rfl, hb2⟩
  have h02 := Lib.hid (h01.out.trans (hb2.mono h01.out.size))
  clear hb2
  go_wp2_with fail
  refine (unhex_any (hexL A) _ (by rw [hexL_length]; omega)).mono ?_
  rintro e3 w3 ⟨hr, hb3⟩
  rw [unhex_hex] at hr
  obtain ⟨xa, xc, rfl, hx⟩ := hr.form
  have HX := Lib.hid hx
  have h03 := Lib.hid (h02.out.trans (hb3.mono h02.out.size))
  clear hr hx hb3
  go_wp2_with fail
  refine (unhex_any l _ (by omega)).mono ?_
  rintro e4 w4 ⟨hr, hb4⟩
  have h34 := Lib.hid hb4
  have h04 := Lib.hid (h03.out.trans (hb4.mono h03.out.size))
  have kx := conv8 (HX.out.bts.below hb4)
  have ka := conv8 (HA.out.below h04.out)
  have KX := Lib.hid kx
  have KA := Lib.hid ka
  clear hb4 kx ka
  have key : ∀ W, Below w.heap.size w W → True := fun _ _ => trivial
  clear key
  by_cases hok : hexOk l = true
  · rw [show unhexR l = (unhexB l (l.length / 2), 0) from if_pos hok] at hr
    obtain ⟨ya, yc, rfl, hy⟩ := hr.form
    have hhx := Lib.hid (hex_unhex l hok)
    have hul := Lib.hid (unhexB_length l (l.length / 2))
    dsimp only at hy ⊢
    generalize unhexB l (l.length / 2) = D at *
    have HY := Lib.hid hy
    clear hr hy hok
    have kx := KX.out
    have ka := KA.out
    go_wp2_with fail
    refine (hex_any _ _ _ D _ HY.out.bts (by rw [hul.out]; omega)).mono ?_
    rintro e5 w5 ⟨rfl, hb5⟩
    rw [hhx.out]
    have h05 := Lib.hid (h04.out.trans (hb5.mono h04.out.size))
    clear hb5 kx ka
    go_wp2_with fail
    by_cases hf : n < 256 ^ m
    · refine (big_any n m _ hn).mono ?_
      rintro e6 w6 ⟨hr, hb6⟩
      rw [bigR_yes (by omega) hf] at hr
      obtain ⟨ga, gc, rfl, hg⟩ := hr.form
      have h06 := Lib.hid (h05.out.trans (hb6.mono h05.out.size))
      have hw := Lib.hid (big_whole hn.out hf)
      have hp := Lib.hid (pad_same (bigL n m) m (bigL_length n m) (by omega))
      have hGl := Lib.hid (bigL_length n m)
      dsimp only at hg ⊢
      generalize bigL n m = G at *
      rw [hGl.out] at hg ⊢
      have HG := Lib.hid hg
      clear hr hg hb6 hf
      go_wp2_with fail
      refine (whole_any _ _ _ G _ HG.out.bts).mono ?_
      rintro e w' ⟨he, rfl⟩
      obtain rfl := he.form
      rw [hw.out.1, hw.out.2]
      clear he
      go_wp2_with fail
      refine (pad_any _ _ _ G (m : Int) _ HG.out.bts).mono ?_
      rintro e7 w7 ⟨hr, hb7⟩
      rw [hp.out] at hr
      obtain ⟨pa, pc, rfl, hpp⟩ := hr.form
      have kp := conv8 hpp.bts
      have kg := conv8 (HG.out.bts.below hb7)
      have h07 := Lib.hid (h06.out.trans (hb7.mono h06.out.size))
      dsimp only at kp ⊢
      clear hr hpp hb7
      go_wp2_with fail
      go_ret
      exact ⟨rfl, h07.out⟩
    · refine (big_any n m _ hn).mono ?_
      rintro e6 w6 ⟨hr, hb6⟩
      rw [bigR_no (by omega) hf] at hr
      obtain ⟨ga, gc, rfl, hg⟩ := hr.form
      have h06 := Lib.hid (h05.out.trans (hb6.mono h05.out.size))
      have h8 : m < 8 := by
        rcases Nat.lt_or_ge m 8 with h | h
        · exact h
        · exact absurd (Nat.lt_of_lt_of_le hn.out (Nat.pow_le_pow_right (by decide) h)) hf
      have hpos : Hid (0 < n / 256 ^ m) := Nat.div_pos (by omega) (Nat.pow_pos (by decide))
      clear hr hg hb6 hf
      go_wp2_with fail
      go_ret
      exact ⟨by simpa using shift_pos hpos.out, h06.out⟩
  · rw [show unhexR l = ([], 10) from if_neg hok] at hr
    obtain ⟨ya, yc, rfl, hy⟩ := hr.form
    clear hr hy hok
    have kx := KX.out
    have ka := KA.out
    have h05 := h04
    go_wp2_with fail
    clear kx ka
    by_cases hf : n < 256 ^ m
    · refine (big_any n m _ hn).mono ?_
      rintro e6 w6 ⟨hr, hb6⟩
      rw [bigR_yes (by omega) hf] at hr
      obtain ⟨ga, gc, rfl, hg⟩ := hr.form
      have h06 := Lib.hid (h05.out.trans (hb6.mono h05.out.size))
      have hw := Lib.hid (big_whole hn.out hf)
      have hp := Lib.hid (pad_same (bigL n m) m (bigL_length n m) (by omega))
      have hGl := Lib.hid (bigL_length n m)
      dsimp only at hg ⊢
      generalize bigL n m = G at *
      rw [hGl.out] at hg ⊢
      have HG := Lib.hid hg
      clear hr hg hb6 hf
      go_wp2_with fail
      refine (whole_any _ _ _ G _ HG.out.bts).mono ?_
      rintro e w' ⟨he, rfl⟩
      obtain rfl := he.form
      rw [hw.out.1, hw.out.2]
      clear he
      go_wp2_with fail
      refine (pad_any _ _ _ G (m : Int) _ HG.out.bts).mono ?_
      rintro e7 w7 ⟨hr, hb7⟩
      rw [hp.out] at hr
      obtain ⟨pa, pc, rfl, hpp⟩ := hr.form
      have kp := conv8 hpp.bts
      have kg := conv8 (HG.out.bts.below hb7)
      have h07 := Lib.hid (h06.out.trans (hb7.mono h06.out.size))
      dsimp only at kp ⊢
      clear hr hpp hb7
      go_wp2_with fail
      go_ret
      exact ⟨rfl, h07.out⟩
    · refine (big_any n m _ hn).mono ?_
      rintro e6 w6 ⟨hr, hb6⟩
      rw [bigR_no (by omega) hf] at hr
      obtain ⟨ga, gc, rfl, hg⟩ := hr.form
      have h06 := Lib.hid (h05.out.trans (hb6.mono h05.out.size))
      have h8 : m < 8 := by
        rcases Nat.lt_or_ge m 8 with h | h
        · exact h
        · exact absurd (Nat.lt_of_lt_of_le hn.out (Nat.pow_le_pow_right (by decide) h)) hf
      have hpos : Hid (0 < n / 256 ^ m) := Nat.div_pos (by omega) (Nat.pow_pos (by decide))
      clear hr hg hb6 hf
      go_wp2_with fail
      go_ret
      exact ⟨by simpa using shift_pos hpos.out, h06.out⟩

set_option maxHeartbeats 400000 in
/-- THE WHOLE LAW: any bytes, text, number and size. -/
theorem back_walk (a : Option Addr) (la ca : Nat) (A : List UInt8) (s : ByteArray) (n m : Int) (w : World) (ha : Bts w a la ca A) (hsz : s.size ≤ maxLen) (hn : (Lit.int .u64 n).wf = true) (hm : (Lit.int .u8 m).wf = true) :
    Calls Try.prog 7 #[.slice a la ca, .string s, .int .u64 n, .int .u8 m] w fun e w' => e = .returned (.bool true) ∧ Below w.heap.size w w' := by
  have hml := ha.len_le
  unfold maxLen at hml hsz
  have hss : s.size = s.data.toList.length := Array.length_toList.symm
  by_cases h1 : la ≤ 2000
  · by_cases h2 : s.size ≤ 2000
    · obtain rfl := ha.length
      obtain ⟨k, rfl, hk⟩ := nat_of_u64 hn
      have hb := bounds_u8 hm
      obtain ⟨j, rfl⟩ := Int.eq_ofNat_of_zero_le hb.1
      exact back_main a ca A s.data.toList k j w ha h1 (by omega) hk (by omega)
    · have h3 : 2000 < s.size := by omega
      clear h2 ha hss hn hm
      go_enter Try.func7, Try.ntmps7
      go_wp2_with fail
      refine (alive_any _).mono ?_
      rintro e1 w1 ⟨rfl, hb1⟩
      go_wp2_with fail
      go_ret
      exact ⟨rfl, hb1⟩
  · have h3 : 2000 < la := by omega
    clear h1 ha hss hn hm
    go_enter Try.func7, Try.ntmps7
    go_wp2_with fail
    refine (alive_any _).mono ?_
    rintro e1 w1 ⟨rfl, hb1⟩
    go_wp2_with fail
    go_ret
    exact ⟨rfl, hb1⟩

end Go.Proofs.Ytidiapdddkknpaa
