/-
  THE LAW RatioBack.
-/
import Derived.Test.YtcnpgebjjknheaaRatC
namespace Go.Proofs.Ytcnpgebjjknheaa
open Go.RowKit

set_option maxHeartbeats 4000000 in
theorem back_walk (a : Option Addr) (nx cx : Nat) (a' : Option Addr) (ny cy : Nat) (X Y : Nat) (w : World) (hx : NatAt w (.slice a nx cx) X) (hy : NatAt w (.slice a' ny cy) Y) :
    Calls Try.prog 7 #[.slice a nx cx, .slice a' ny cy] w fun e w' => e = .returned (.bool true) ∧ Below w.heap.size w w' := by
  have HX := Lib.hid hx
  have HY := Lib.hid hy
  clear hx hy
  by_cases hg : 120 < nx ∨ 120 < ny
  · have hgr := Lib.hid (show true = decide (120 < nx ∨ 120 < ny) by rw [decide_eq_true hg])
    clear hg
    go_enter Try.func7, Try.ntmps7
    go_wp2_with fail
    refine (alive_any _).mono ?_
    rintro e w1 ⟨rfl, hb⟩
    have H0 := Lib.hid hb
    replace HX := Lib.hid (HX.out.below hb)
    replace HY := Lib.hid (HY.out.below hb)
    clear hb
    go_wp2_with fail
    refine (great2 HX.out HY.out 120 120 rfl _ rfl _ true hgr.out).mono ?_
    rintro e wg ⟨rfl, rfl⟩
    have hb := (Below.refl w1.heap.size w1).alloc (Nat.le_refl _) (.cells #[.slice a nx cx, .slice a' ny cy] 23)
    replace H0 := Lib.hid (H0.out.trans (hb.mono H0.out.size))
    replace HX := Lib.hid (HX.out.below hb)
    replace HY := Lib.hid (HY.out.below hb)
    clear hb
    go_wp2_with fail
    go_ret
    exact ⟨rfl, H0.out⟩
  · have hgr := Lib.hid (show false = decide (120 < nx ∨ 120 < ny) by rw [decide_eq_false hg])
    have hsy := Lib.hid (small_len (a := a') (c := cy) (show ny ≤ 120 by omega) (by decide))
    have hXt := Lib.hid (top_le (HX.out.lt (show nx ≤ 120 by omega)) (by decide))
    have hYt := Lib.hid (top_le (HY.out.lt (show ny ≤ 120 by omega)) (by decide))
    clear hg
    rcases Nat.eq_zero_or_pos Y with h0 | h0
    · have hY0 := Lib.hid h0
      clear h0
      go_enter Try.func7, Try.ntmps7
      go_wp2_with fail
      refine (alive_any _).mono ?_
      rintro e w1 ⟨rfl, hb⟩
      have H0 := Lib.hid hb
      replace HX := Lib.hid (HX.out.below hb)
      replace HY := Lib.hid (HY.out.below hb)
      clear hb
      go_wp2_with fail
      refine (great2 HX.out HY.out 120 120 rfl _ rfl _ false hgr.out).mono ?_
      rintro e wg ⟨rfl, rfl⟩
      have hb := (Below.refl w1.heap.size w1).alloc (Nat.le_refl _) (.cells #[.slice a nx cx, .slice a' ny cy] 23)
      replace H0 := Lib.hid (H0.out.trans (hb.mono H0.out.size))
      replace HX := Lib.hid (HX.out.below hb)
      replace HY := Lib.hid (HY.out.below hb)
      clear hb
      go_wp2_with fail
      refine (bits_nat HY.out hsy.out 0 (by rw [hY0.out]; rfl)).mono ?_
      rintro e w' ⟨rfl, rfl⟩
      go_wp2_with fail
      go_ret
      exact ⟨rfl, H0.out⟩
    · have hY0 := Lib.hid h0
      have hmd := Nat.div_add_mod X Y
      have hsum := Lib.hid (show X / Y * Y + X % Y = X by rw [Nat.mul_comm]; exact hmd)
      have hlt := Lib.hid (Nat.mod_lt X h0)
      have hQt := Lib.hid (show X / Y < topN from Nat.lt_of_le_of_lt (Nat.div_le_self _ _) hXt.out)
      have hPt := Lib.hid (show X / Y * Y < topN from Nat.lt_of_le_of_lt (Nat.div_mul_le_self _ _) hXt.out)
      have hAt := Lib.hid (show X / Y * Y + X % Y < topN by rw [hsum.out]; exact hXt.out)
      have hbp := bitsN_pos.2 h0
      have hbz : ((bitsN Y : Int) == 0) = false := by simp; omega
      clear h0 hmd
      go_enter Try.func7, Try.ntmps7
      go_wp2_with fail
      refine (alive_any _).mono ?_
      rintro e w1 ⟨rfl, hb⟩
      have H0 := Lib.hid hb
      replace HX := Lib.hid (HX.out.below hb)
      replace HY := Lib.hid (HY.out.below hb)
      clear hb
      go_wp2_with fail
      refine (great2 HX.out HY.out 120 120 rfl _ rfl _ false hgr.out).mono ?_
      rintro e wg ⟨rfl, rfl⟩
      have hb := (Below.refl w1.heap.size w1).alloc (Nat.le_refl _) (.cells #[.slice a nx cx, .slice a' ny cy] 23)
      replace H0 := Lib.hid (H0.out.trans (hb.mono H0.out.size))
      replace HX := Lib.hid (HX.out.below hb)
      replace HY := Lib.hid (HY.out.below hb)
      clear hb
      have HB := Lib.hid (bits_nat HY.out hsy.out _ rfl)
      generalize bitsN Y = bn at *
      go_wp2_with fail
      refine HB.out.mono ?_
      rintro e w' ⟨rfl, rfl⟩
      clear HB
      go_wp2_with fail
      refine (div_nat HX.out HY.out hXt.out hYt.out hY0.out).mono ?_
      rintro e w2 ⟨⟨qv, sv, rfl, hq, hs⟩, hb⟩
      replace H0 := Lib.hid (H0.out.trans (hb.mono H0.out.size))
      replace HX := Lib.hid (HX.out.below hb)
      replace HY := Lib.hid (HY.out.below hb)
      have Q := Lib.hid hq
      have S := Lib.hid hs
      clear hb hq hs
      go_wp2_with fail
      refine (mul_nat Q.out.at HY.out hQt.out hYt.out hPt.out).mono ?_
      rintro e w3 ⟨⟨pv, rfl, hp⟩, hb⟩
      replace H0 := Lib.hid (H0.out.trans (hb.mono H0.out.size))
      replace HX := Lib.hid (HX.out.below hb)
      replace HY := Lib.hid (HY.out.below hb)
      replace Q := Lib.hid (Q.out.below hb)
      replace S := Lib.hid (S.out.below hb)
      have P := Lib.hid hp
      clear hb hp
      go_wp2_with fail
      refine (add_nat P.out.at S.out.at hAt.out).mono ?_
      rintro e w4 ⟨⟨av, rfl, ha⟩, hb⟩
      replace H0 := Lib.hid (H0.out.trans (hb.mono H0.out.size))
      replace HX := Lib.hid (HX.out.below hb)
      replace HY := Lib.hid (HY.out.below hb)
      replace Q := Lib.hid (Q.out.below hb)
      replace S := Lib.hid (S.out.below hb)
      replace P := Lib.hid (P.out.below hb)
      have A := Lib.hid ha
      clear hb ha
      go_wp2_with fail
      refine (cmp_nat A.out.at HX.out 0 (ordN_eq hsum.out).symm).mono ?_
      rintro e w5 ⟨rfl, hb⟩
      replace H0 := Lib.hid (H0.out.trans (hb.mono H0.out.size))
      replace HX := Lib.hid (HX.out.below hb)
      replace HY := Lib.hid (HY.out.below hb)
      replace Q := Lib.hid (Q.out.below hb)
      replace S := Lib.hid (S.out.below hb)
      replace P := Lib.hid (P.out.below hb)
      replace A := Lib.hid (A.out.below hb)
      clear hb
      go_wp2_with fail
      refine (cmp_nat S.out.at HY.out (-1) (ordN_lt hlt.out).symm).mono ?_
      rintro e w6 ⟨rfl, hb⟩
      replace H0 := Lib.hid (H0.out.trans (hb.mono H0.out.size))
      replace HX := Lib.hid (HX.out.below hb)
      replace HY := Lib.hid (HY.out.below hb)
      replace Q := Lib.hid (Q.out.below hb)
      replace S := Lib.hid (S.out.below hb)
      replace P := Lib.hid (P.out.below hb)
      replace A := Lib.hid (A.out.below hb)
      clear hb
      go_wp2_with fail
      go_ret
      exact ⟨rfl, H0.out⟩

end Go.Proofs.Ytcnpgebjjknheaa
