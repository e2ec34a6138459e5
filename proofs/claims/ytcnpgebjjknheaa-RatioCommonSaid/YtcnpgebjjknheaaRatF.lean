/-
  THE LAW RatioCommon.
-/
import Derived.Test.YtcnpgebjjknheaaRatC
namespace Go.Proofs.Ytcnpgebjjknheaa
open Go.RowKit

theorem gcd_lt {X Y n : Nat} (hX : X < n) (hY : Y < n) : Nat.gcd X Y < n := by
  rcases Nat.eq_zero_or_pos X with rfl | h
  · rwa [Nat.gcd_zero_left]
  · exact Nat.lt_of_le_of_lt (Nat.gcd_le_left Y h) hX

set_option maxRecDepth 100000 in
set_option maxHeartbeats 8000000 in
theorem common_walk (a : Option Addr) (nx cx : Nat) (a' : Option Addr) (ny cy : Nat) (a'' : Option Addr) (nz cz : Nat) (X Y Z : Nat) (w : World) (hx : NatAt w (.slice a nx cx) X) (hy : NatAt w (.slice a' ny cy) Y) (hz : NatAt w (.slice a'' nz cz) Z) :
    Calls Try.prog 9 #[.slice a nx cx, .slice a' ny cy, .slice a'' nz cz] w fun e w' => e = .returned (.bool true) ∧ Below w.heap.size w w' := by
  have HX := Lib.hid hx
  have HY := Lib.hid hy
  have HZ := Lib.hid hz
  clear hx hy hz
  by_cases hg : 20 < nx ∨ 20 < ny ∨ 20 < nz
  · have hgr := Lib.hid (show true = decide (20 < nx ∨ 20 < ny ∨ 20 < nz) by rw [decide_eq_true hg])
    clear hg
    go_enter Try.func9, Try.ntmps9
    go_wp2_with fail
    refine (alive_any _).mono ?_
    rintro e w1 ⟨rfl, hb⟩
    have H0 := Lib.hid hb
    replace HX := Lib.hid (HX.out.below hb)
    replace HY := Lib.hid (HY.out.below hb)
    replace HZ := Lib.hid (HZ.out.below hb)
    clear hb
    go_wp2_with fail
    refine (great3 HX.out HY.out HZ.out 20 20 rfl _ rfl _ true hgr.out).mono ?_
    rintro e wg ⟨rfl, rfl⟩
    have hb := (Below.refl w1.heap.size w1).alloc (Nat.le_refl _) (.cells #[.slice a nx cx, .slice a' ny cy, .slice a'' nz cz] 23)
    replace H0 := Lib.hid (H0.out.trans (hb.mono H0.out.size))
    replace HX := Lib.hid (HX.out.below hb)
    replace HY := Lib.hid (HY.out.below hb)
    replace HZ := Lib.hid (HZ.out.below hb)
    clear hb
    go_wp2_with fail
    go_ret
    exact ⟨rfl, H0.out⟩
  · have hgr := Lib.hid (show false = decide (20 < nx ∨ 20 < ny ∨ 20 < nz) by rw [decide_eq_false hg])
    have lX := HX.out.lt (show nx ≤ 20 by omega)
    have lY := HY.out.lt (show ny ≤ 20 by omega)
    have lZ := HZ.out.lt (show nz ≤ 20 by omega)
    have hXt := Lib.hid (top_le lX (by decide))
    have hYt := Lib.hid (top_le lY (by decide))
    have hZt := Lib.hid (top_le lZ (by decide))
    have hXZ := Lib.hid (top_le (mul_lt lX lZ) (by decide))
    have hYZ := Lib.hid (top_le (mul_lt lY lZ) (by decide))
    have hGt := Lib.hid (top_le (gcd_lt lX lY) (by decide))
    have hGZ := Lib.hid (top_le (mul_lt (gcd_lt lX lY) lZ) (by decide))
    have hsx := Lib.hid (small_len (a := a) (c := cx) (show nx ≤ 20 by omega) (by decide))
    have hsy := Lib.hid (small_len (a := a') (c := cy) (show ny ≤ 20 by omega) (by decide))
    clear hg lX lY lZ
    rcases Nat.eq_zero_or_pos (Nat.gcd X Y) with h0 | h0
    · have hG0 := Lib.hid h0
      have hX0 := Lib.hid (Nat.eq_zero_of_gcd_eq_zero_left h0)
      have hY0 := Lib.hid (Nat.eq_zero_of_gcd_eq_zero_right h0)
      clear h0
      go_enter Try.func9, Try.ntmps9
      go_wp2_with fail
      refine (alive_any _).mono ?_
      rintro e w1 ⟨rfl, hb⟩
      have H0 := Lib.hid hb
      replace HX := Lib.hid (HX.out.below hb)
      replace HY := Lib.hid (HY.out.below hb)
      replace HZ := Lib.hid (HZ.out.below hb)
      clear hb
      go_wp2_with fail
      refine (great3 HX.out HY.out HZ.out 20 20 rfl _ rfl _ false hgr.out).mono ?_
      rintro e wg ⟨rfl, rfl⟩
      have hb := (Below.refl w1.heap.size w1).alloc (Nat.le_refl _) (.cells #[.slice a nx cx, .slice a' ny cy, .slice a'' nz cz] 23)
      replace H0 := Lib.hid (H0.out.trans (hb.mono H0.out.size))
      replace HX := Lib.hid (HX.out.below hb)
      replace HY := Lib.hid (HY.out.below hb)
      replace HZ := Lib.hid (HZ.out.below hb)
      clear hb
      go_wp2_with fail
      refine (gcd_nat HX.out HY.out hXt.out hYt.out).mono ?_
      rintro e w2 ⟨⟨gv, rfl, hq⟩, hb⟩
      replace H0 := Lib.hid (H0.out.trans (hb.mono H0.out.size))
      replace HX := Lib.hid (HX.out.below hb)
      replace HY := Lib.hid (HY.out.below hb)
      replace HZ := Lib.hid (HZ.out.below hb)
      have G := Lib.hid hq
      clear hb hq
      go_wp2_with fail
      refine (gcd_nat HY.out HX.out hYt.out hXt.out).mono ?_
      rintro e w3 ⟨⟨hv, rfl, hq⟩, hb⟩
      replace H0 := Lib.hid (H0.out.trans (hb.mono H0.out.size))
      replace HX := Lib.hid (HX.out.below hb)
      replace HY := Lib.hid (HY.out.below hb)
      replace HZ := Lib.hid (HZ.out.below hb)
      replace G := Lib.hid (G.out.below hb)
      have H := Lib.hid hq
      clear hb hq
      go_wp2_with fail
      refine (mul_nat HX.out HZ.out hXt.out hZt.out hXZ.out).mono ?_
      rintro e w4 ⟨⟨av, rfl, hq⟩, hb⟩
      replace H0 := Lib.hid (H0.out.trans (hb.mono H0.out.size))
      replace HX := Lib.hid (HX.out.below hb)
      replace HY := Lib.hid (HY.out.below hb)
      replace HZ := Lib.hid (HZ.out.below hb)
      replace G := Lib.hid (G.out.below hb)
      replace H := Lib.hid (H.out.below hb)
      have A := Lib.hid hq
      clear hb hq
      go_wp2_with fail
      refine (mul_nat HY.out HZ.out hYt.out hZt.out hYZ.out).mono ?_
      rintro e w5 ⟨⟨bv, rfl, hq⟩, hb⟩
      replace H0 := Lib.hid (H0.out.trans (hb.mono H0.out.size))
      replace HX := Lib.hid (HX.out.below hb)
      replace HY := Lib.hid (HY.out.below hb)
      replace HZ := Lib.hid (HZ.out.below hb)
      replace G := Lib.hid (G.out.below hb)
      replace H := Lib.hid (H.out.below hb)
      replace A := Lib.hid (A.out.below hb)
      have B := Lib.hid hq
      clear hb hq
      go_wp2_with fail
      refine (gcd_nat A.out.at B.out.at hXZ.out hYZ.out).mono ?_
      rintro e w6 ⟨⟨cv, rfl, hq⟩, hb⟩
      replace H0 := Lib.hid (H0.out.trans (hb.mono H0.out.size))
      replace HX := Lib.hid (HX.out.below hb)
      replace HY := Lib.hid (HY.out.below hb)
      replace HZ := Lib.hid (HZ.out.below hb)
      replace G := Lib.hid (G.out.below hb)
      replace H := Lib.hid (H.out.below hb)
      replace A := Lib.hid (A.out.below hb)
      replace B := Lib.hid (B.out.below hb)
      have C := Lib.hid hq
      clear hb hq
      clear A B
      go_wp2_with fail
      refine (mul_nat G.out.at HZ.out hGt.out hZt.out hGZ.out).mono ?_
      rintro e w7 ⟨⟨dv, rfl, hq⟩, hb⟩
      replace H0 := Lib.hid (H0.out.trans (hb.mono H0.out.size))
      replace HX := Lib.hid (HX.out.below hb)
      replace HY := Lib.hid (HY.out.below hb)
      replace HZ := Lib.hid (HZ.out.below hb)
      replace G := Lib.hid (G.out.below hb)
      replace H := Lib.hid (H.out.below hb)
      replace C := Lib.hid (C.out.below hb)
      have D := Lib.hid hq
      clear hb hq
      go_wp2_with fail
      refine (cmp_nat G.out.at H.out.at 0 (ordN_eq (Nat.gcd_comm X Y)).symm).mono ?_
      rintro e w8 ⟨rfl, hb⟩
      replace H0 := Lib.hid (H0.out.trans (hb.mono H0.out.size))
      replace HX := Lib.hid (HX.out.below hb)
      replace HY := Lib.hid (HY.out.below hb)
      replace HZ := Lib.hid (HZ.out.below hb)
      replace G := Lib.hid (G.out.below hb)
      replace H := Lib.hid (H.out.below hb)
      replace C := Lib.hid (C.out.below hb)
      replace D := Lib.hid (D.out.below hb)
      clear hb
      clear H
      go_wp2_with fail
      refine (cmp_nat C.out.at D.out.at 0 (ordN_eq (Nat.gcd_mul_right X Z Y)).symm).mono ?_
      rintro e w9 ⟨rfl, hb⟩
      replace H0 := Lib.hid (H0.out.trans (hb.mono H0.out.size))
      replace HX := Lib.hid (HX.out.below hb)
      replace HY := Lib.hid (HY.out.below hb)
      replace HZ := Lib.hid (HZ.out.below hb)
      replace G := Lib.hid (G.out.below hb)
      replace C := Lib.hid (C.out.below hb)
      replace D := Lib.hid (D.out.below hb)
      clear hb
      clear C D
      go_wp2_with fail
      refine (bits_nat G.out.at (natC_small G.out hGt.out) 0 (by rw [hG0.out]; rfl)).mono ?_
      rintro e w' ⟨rfl, rfl⟩
      go_wp2_with fail
      refine (bits_nat HX.out hsx.out 0 (by rw [hX0.out]; rfl)).mono ?_
      rintro e w' ⟨rfl, rfl⟩
      go_wp2_with fail
      refine (bits_nat HY.out hsy.out 0 (by rw [hY0.out]; rfl)).mono ?_
      rintro e w' ⟨rfl, rfl⟩
      go_wp2_with fail
      go_ret
      exact ⟨rfl, H0.out⟩
    · have hG0 := Lib.hid h0
      have hPz := Lib.hid (Nat.mod_eq_zero_of_dvd (Nat.gcd_dvd_left X Y))
      have hQz := Lib.hid (Nat.mod_eq_zero_of_dvd (Nat.gcd_dvd_right X Y))
      have hgbz := Lib.hid (show ((bitsN (Nat.gcd X Y) : Int) == 0) = false by have := bitsN_pos.2 h0; simp; omega)
      clear h0
      go_enter Try.func9, Try.ntmps9
      go_wp2_with fail
      refine (alive_any _).mono ?_
      rintro e w1 ⟨rfl, hb⟩
      have H0 := Lib.hid hb
      replace HX := Lib.hid (HX.out.below hb)
      replace HY := Lib.hid (HY.out.below hb)
      replace HZ := Lib.hid (HZ.out.below hb)
      clear hb
      go_wp2_with fail
      refine (great3 HX.out HY.out HZ.out 20 20 rfl _ rfl _ false hgr.out).mono ?_
      rintro e wg ⟨rfl, rfl⟩
      have hb := (Below.refl w1.heap.size w1).alloc (Nat.le_refl _) (.cells #[.slice a nx cx, .slice a' ny cy, .slice a'' nz cz] 23)
      replace H0 := Lib.hid (H0.out.trans (hb.mono H0.out.size))
      replace HX := Lib.hid (HX.out.below hb)
      replace HY := Lib.hid (HY.out.below hb)
      replace HZ := Lib.hid (HZ.out.below hb)
      clear hb
      go_wp2_with fail
      refine (gcd_nat HX.out HY.out hXt.out hYt.out).mono ?_
      rintro e w2 ⟨⟨gv, rfl, hq⟩, hb⟩
      replace H0 := Lib.hid (H0.out.trans (hb.mono H0.out.size))
      replace HX := Lib.hid (HX.out.below hb)
      replace HY := Lib.hid (HY.out.below hb)
      replace HZ := Lib.hid (HZ.out.below hb)
      have G := Lib.hid hq
      clear hb hq
      go_wp2_with fail
      refine (gcd_nat HY.out HX.out hYt.out hXt.out).mono ?_
      rintro e w3 ⟨⟨hv, rfl, hq⟩, hb⟩
      replace H0 := Lib.hid (H0.out.trans (hb.mono H0.out.size))
      replace HX := Lib.hid (HX.out.below hb)
      replace HY := Lib.hid (HY.out.below hb)
      replace HZ := Lib.hid (HZ.out.below hb)
      replace G := Lib.hid (G.out.below hb)
      have H := Lib.hid hq
      clear hb hq
      go_wp2_with fail
      refine (mul_nat HX.out HZ.out hXt.out hZt.out hXZ.out).mono ?_
      rintro e w4 ⟨⟨av, rfl, hq⟩, hb⟩
      replace H0 := Lib.hid (H0.out.trans (hb.mono H0.out.size))
      replace HX := Lib.hid (HX.out.below hb)
      replace HY := Lib.hid (HY.out.below hb)
      replace HZ := Lib.hid (HZ.out.below hb)
      replace G := Lib.hid (G.out.below hb)
      replace H := Lib.hid (H.out.below hb)
      have A := Lib.hid hq
      clear hb hq
      go_wp2_with fail
      refine (mul_nat HY.out HZ.out hYt.out hZt.out hYZ.out).mono ?_
      rintro e w5 ⟨⟨bv, rfl, hq⟩, hb⟩
      replace H0 := Lib.hid (H0.out.trans (hb.mono H0.out.size))
      replace HX := Lib.hid (HX.out.below hb)
      replace HY := Lib.hid (HY.out.below hb)
      replace HZ := Lib.hid (HZ.out.below hb)
      replace G := Lib.hid (G.out.below hb)
      replace H := Lib.hid (H.out.below hb)
      replace A := Lib.hid (A.out.below hb)
      have B := Lib.hid hq
      clear hb hq
      go_wp2_with fail
      refine (gcd_nat A.out.at B.out.at hXZ.out hYZ.out).mono ?_
      rintro e w6 ⟨⟨cv, rfl, hq⟩, hb⟩
      replace H0 := Lib.hid (H0.out.trans (hb.mono H0.out.size))
      replace HX := Lib.hid (HX.out.below hb)
      replace HY := Lib.hid (HY.out.below hb)
      replace HZ := Lib.hid (HZ.out.below hb)
      replace G := Lib.hid (G.out.below hb)
      replace H := Lib.hid (H.out.below hb)
      replace A := Lib.hid (A.out.below hb)
      replace B := Lib.hid (B.out.below hb)
      have C := Lib.hid hq
      clear hb hq
      clear A B
      go_wp2_with fail
      refine (mul_nat G.out.at HZ.out hGt.out hZt.out hGZ.out).mono ?_
      rintro e w7 ⟨⟨dv, rfl, hq⟩, hb⟩
      replace H0 := Lib.hid (H0.out.trans (hb.mono H0.out.size))
      replace HX := Lib.hid (HX.out.below hb)
      replace HY := Lib.hid (HY.out.below hb)
      replace HZ := Lib.hid (HZ.out.below hb)
      replace G := Lib.hid (G.out.below hb)
      replace H := Lib.hid (H.out.below hb)
      replace C := Lib.hid (C.out.below hb)
      have D := Lib.hid hq
      clear hb hq
      go_wp2_with fail
      refine (cmp_nat G.out.at H.out.at 0 (ordN_eq (Nat.gcd_comm X Y)).symm).mono ?_
      rintro e w8 ⟨rfl, hb⟩
      replace H0 := Lib.hid (H0.out.trans (hb.mono H0.out.size))
      replace HX := Lib.hid (HX.out.below hb)
      replace HY := Lib.hid (HY.out.below hb)
      replace HZ := Lib.hid (HZ.out.below hb)
      replace G := Lib.hid (G.out.below hb)
      replace H := Lib.hid (H.out.below hb)
      replace C := Lib.hid (C.out.below hb)
      replace D := Lib.hid (D.out.below hb)
      clear hb
      clear H
      go_wp2_with fail
      refine (cmp_nat C.out.at D.out.at 0 (ordN_eq (Nat.gcd_mul_right X Z Y)).symm).mono ?_
      rintro e w9 ⟨rfl, hb⟩
      replace H0 := Lib.hid (H0.out.trans (hb.mono H0.out.size))
      replace HX := Lib.hid (HX.out.below hb)
      replace HY := Lib.hid (HY.out.below hb)
      replace HZ := Lib.hid (HZ.out.below hb)
      replace G := Lib.hid (G.out.below hb)
      replace C := Lib.hid (C.out.below hb)
      replace D := Lib.hid (D.out.below hb)
      clear hb
      clear C D
      have HB := Lib.hid (bits_nat G.out.at (natC_small G.out hGt.out) _ rfl)
      have hgb := hgbz.out
      generalize bitsN (Nat.gcd X Y) = bn at HB hgb
      go_wp2_with fail
      refine HB.out.mono ?_
      rintro e w' ⟨rfl, rfl⟩
      clear HB
      go_wp2_with fail
      refine (mod_nat HX.out G.out.at hXt.out hGt.out hG0.out).mono ?_
      rintro e w10 ⟨⟨pv, rfl, hq⟩, hb⟩
      replace H0 := Lib.hid (H0.out.trans (hb.mono H0.out.size))
      replace HX := Lib.hid (HX.out.below hb)
      replace HY := Lib.hid (HY.out.below hb)
      replace HZ := Lib.hid (HZ.out.below hb)
      replace G := Lib.hid (G.out.below hb)
      have P := Lib.hid hq
      clear hb hq
      go_wp2_with fail
      refine (mod_nat HY.out G.out.at hYt.out hGt.out hG0.out).mono ?_
      rintro e w11 ⟨⟨qv, rfl, hq⟩, hb⟩
      replace H0 := Lib.hid (H0.out.trans (hb.mono H0.out.size))
      replace HX := Lib.hid (HX.out.below hb)
      replace HY := Lib.hid (HY.out.below hb)
      replace HZ := Lib.hid (HZ.out.below hb)
      replace G := Lib.hid (G.out.below hb)
      replace P := Lib.hid (P.out.below hb)
      have Q := Lib.hid hq
      clear hb hq
      rw [hPz.out] at P
      rw [hQz.out] at Q
      go_wp2_with fail
      refine (bits_nat P.out.at (natC_small P.out topN_pos) 0 (by decide)).mono ?_
      rintro e w' ⟨rfl, rfl⟩
      go_wp2_with fail
      refine (bits_nat Q.out.at (natC_small Q.out topN_pos) 0 (by decide)).mono ?_
      rintro e w' ⟨rfl, rfl⟩
      go_wp2_with fail
      go_ret
      exact ⟨rfl, H0.out⟩

end Go.Proofs.Ytcnpgebjjknheaa
