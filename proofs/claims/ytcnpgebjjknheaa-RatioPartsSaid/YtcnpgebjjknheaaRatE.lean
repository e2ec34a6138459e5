/-
  THE LAW RatioParts.
-/
import Derived.Test.YtcnpgebjjknheaaRatC
namespace Go.Proofs.Ytcnpgebjjknheaa
open Go.RowKit

set_option maxHeartbeats 4000000 in
theorem parts_walk (a : Option Addr) (nx cx : Nat) (a' : Option Addr) (ny cy : Nat) (a'' : Option Addr) (nz cz : Nat) (X Y Z : Nat) (w : World) (hx : NatAt w (.slice a nx cx) X) (hy : NatAt w (.slice a' ny cy) Y) (hz : NatAt w (.slice a'' nz cz) Z) :
    Calls Try.prog 8 #[.slice a nx cx, .slice a' ny cy, .slice a'' nz cz] w fun e w' => e = .returned (.bool true) ∧ Below w.heap.size w w' := by
  have HX := Lib.hid hx
  have HY := Lib.hid hy
  have HZ := Lib.hid hz
  clear hx hy hz
  by_cases hg : 80 < nx ∨ 80 < ny ∨ 80 < nz
  · have hgr := Lib.hid (show true = decide (80 < nx ∨ 80 < ny ∨ 80 < nz) by rw [decide_eq_true hg])
    clear hg
    go_enter Try.func8, Try.ntmps8
    go_wp2_with fail
    refine (alive_any _).mono ?_
    rintro e w1 ⟨rfl, hb⟩
    have H0 := Lib.hid hb
    replace HX := Lib.hid (HX.out.below hb)
    replace HY := Lib.hid (HY.out.below hb)
    replace HZ := Lib.hid (HZ.out.below hb)
    clear hb
    go_wp2_with fail
    refine (great3 HX.out HY.out HZ.out 80 80 rfl _ rfl _ true hgr.out).mono ?_
    rintro e wg ⟨rfl, rfl⟩
    have hb := (Below.refl w1.heap.size w1).alloc (Nat.le_refl _) (.cells #[.slice a nx cx, .slice a' ny cy, .slice a'' nz cz] 23)
    replace H0 := Lib.hid (H0.out.trans (hb.mono H0.out.size))
    replace HX := Lib.hid (HX.out.below hb)
    replace HY := Lib.hid (HY.out.below hb)
    replace HZ := Lib.hid (HZ.out.below hb)
    clear hb
    go_wp2_with fail
    go_ret
    exact ⟨rfl, H0.out⟩
  · have hgr := Lib.hid (show false = decide (80 < nx ∨ 80 < ny ∨ 80 < nz) by rw [decide_eq_false hg])
    have lX := HX.out.lt (show nx ≤ 80 by omega)
    have lY := HY.out.lt (show ny ≤ 80 by omega)
    have hXt := Lib.hid (top_le lX (by decide))
    have hYt := Lib.hid (top_le lY (by decide))
    clear hg
    by_cases h0 : Y ≤ Z
    · have ho : 0 ≤ ordN Z Y := by
        unfold ordN
        rw [if_neg (by omega)]
        split <;> omega
      clear h0 lX lY
      go_enter Try.func8, Try.ntmps8
      go_wp2_with fail
      refine (alive_any _).mono ?_
      rintro e w1 ⟨rfl, hb⟩
      have H0 := Lib.hid hb
      replace HX := Lib.hid (HX.out.below hb)
      replace HY := Lib.hid (HY.out.below hb)
      replace HZ := Lib.hid (HZ.out.below hb)
      clear hb
      go_wp2_with fail
      refine (great3 HX.out HY.out HZ.out 80 80 rfl _ rfl _ false hgr.out).mono ?_
      rintro e wg ⟨rfl, rfl⟩
      have hb := (Below.refl w1.heap.size w1).alloc (Nat.le_refl _) (.cells #[.slice a nx cx, .slice a' ny cy, .slice a'' nz cz] 23)
      replace H0 := Lib.hid (H0.out.trans (hb.mono H0.out.size))
      replace HX := Lib.hid (HX.out.below hb)
      replace HY := Lib.hid (HY.out.below hb)
      replace HZ := Lib.hid (HZ.out.below hb)
      clear hb
      have HC := Lib.hid (cmp_nat HZ.out HY.out _ rfl)
      generalize ordN Z Y = o at *
      go_wp2_with fail
      refine (HC.out).mono ?_
      rintro e w2 ⟨rfl, hb⟩
      replace H0 := Lib.hid (H0.out.trans (hb.mono H0.out.size))
      replace HX := Lib.hid (HX.out.below hb)
      replace HY := Lib.hid (HY.out.below hb)
      replace HZ := Lib.hid (HZ.out.below hb)
      clear hb
      go_wp2_with fail
      go_ret
      exact ⟨rfl, H0.out⟩
    · have hY0 := Lib.hid (show 0 < Y by omega)
      have hord := Lib.hid (show (-1 : Int) = ordN Z Y from (ordN_lt (by omega)).symm)
      have hPt := Lib.hid (top_le (mul_lt lX lY) (by decide))
      have hAt := Lib.hid (show X * Y + Z < topN by
        refine top_le (k := 80 + 80 + 1) ?_ (by decide)
        refine add_lt (mul_lt lX lY) ?_
        exact Nat.lt_of_lt_of_le (Nat.lt_trans (show Z < Y by omega) lY) (Nat.pow_le_pow_right (by decide) (by decide)))
      have hdq := Lib.hid (show (X * Y + Z) / Y = X by rw [Nat.mul_comm, Nat.mul_add_div hY0.out, Nat.div_eq_of_lt (by omega), Nat.add_zero])
      have hdm := Lib.hid (show (X * Y + Z) % Y = Z by rw [Nat.mul_comm, Nat.mul_add_mod, Nat.mod_eq_of_lt (by omega)])
      clear h0 lX lY
      go_enter Try.func8, Try.ntmps8
      go_wp2_with fail
      refine (alive_any _).mono ?_
      rintro e w1 ⟨rfl, hb⟩
      have H0 := Lib.hid hb
      replace HX := Lib.hid (HX.out.below hb)
      replace HY := Lib.hid (HY.out.below hb)
      replace HZ := Lib.hid (HZ.out.below hb)
      clear hb
      go_wp2_with fail
      refine (great3 HX.out HY.out HZ.out 80 80 rfl _ rfl _ false hgr.out).mono ?_
      rintro e wg ⟨rfl, rfl⟩
      have hb := (Below.refl w1.heap.size w1).alloc (Nat.le_refl _) (.cells #[.slice a nx cx, .slice a' ny cy, .slice a'' nz cz] 23)
      replace H0 := Lib.hid (H0.out.trans (hb.mono H0.out.size))
      replace HX := Lib.hid (HX.out.below hb)
      replace HY := Lib.hid (HY.out.below hb)
      replace HZ := Lib.hid (HZ.out.below hb)
      clear hb
      go_wp2_with fail
      refine (cmp_nat HZ.out HY.out (-1) hord.out).mono ?_
      rintro e w2 ⟨rfl, hb⟩
      replace H0 := Lib.hid (H0.out.trans (hb.mono H0.out.size))
      replace HX := Lib.hid (HX.out.below hb)
      replace HY := Lib.hid (HY.out.below hb)
      replace HZ := Lib.hid (HZ.out.below hb)
      clear hb
      go_wp2_with fail
      refine (mul_nat HX.out HY.out hXt.out hYt.out hPt.out).mono ?_
      rintro e w3 ⟨⟨pv, rfl, hp⟩, hb⟩
      replace H0 := Lib.hid (H0.out.trans (hb.mono H0.out.size))
      replace HX := Lib.hid (HX.out.below hb)
      replace HY := Lib.hid (HY.out.below hb)
      replace HZ := Lib.hid (HZ.out.below hb)
      have P := Lib.hid hp
      clear hb hp
      go_wp2_with fail
      refine (add_nat P.out.at HZ.out hAt.out).mono ?_
      rintro e w4 ⟨⟨av, rfl, ha⟩, hb⟩
      replace H0 := Lib.hid (H0.out.trans (hb.mono H0.out.size))
      replace HX := Lib.hid (HX.out.below hb)
      replace HY := Lib.hid (HY.out.below hb)
      replace HZ := Lib.hid (HZ.out.below hb)
      replace P := Lib.hid (P.out.below hb)
      have A := Lib.hid ha
      clear hb ha
      go_wp2_with fail
      refine (div_nat A.out.at HY.out hAt.out hYt.out hY0.out).mono ?_
      rintro e w5 ⟨⟨qv, sv, rfl, hq, hs⟩, hb⟩
      replace H0 := Lib.hid (H0.out.trans (hb.mono H0.out.size))
      replace HX := Lib.hid (HX.out.below hb)
      replace HY := Lib.hid (HY.out.below hb)
      replace HZ := Lib.hid (HZ.out.below hb)
      replace P := Lib.hid (P.out.below hb)
      replace A := Lib.hid (A.out.below hb)
      have Q := Lib.hid hq
      have S := Lib.hid hs
      clear hb hq hs
      rw [hdq.out] at Q
      rw [hdm.out] at S
      go_wp2_with fail
      refine (cmp_nat Q.out.at HX.out 0 (ordN_eq rfl).symm).mono ?_
      rintro e w6 ⟨rfl, hb⟩
      replace H0 := Lib.hid (H0.out.trans (hb.mono H0.out.size))
      replace HX := Lib.hid (HX.out.below hb)
      replace HY := Lib.hid (HY.out.below hb)
      replace HZ := Lib.hid (HZ.out.below hb)
      replace P := Lib.hid (P.out.below hb)
      replace A := Lib.hid (A.out.below hb)
      replace Q := Lib.hid (Q.out.below hb)
      replace S := Lib.hid (S.out.below hb)
      clear hb
      go_wp2_with fail
      refine (cmp_nat S.out.at HZ.out 0 (ordN_eq rfl).symm).mono ?_
      rintro e w7 ⟨rfl, hb⟩
      replace H0 := Lib.hid (H0.out.trans (hb.mono H0.out.size))
      replace HX := Lib.hid (HX.out.below hb)
      replace HY := Lib.hid (HY.out.below hb)
      replace HZ := Lib.hid (HZ.out.below hb)
      replace P := Lib.hid (P.out.below hb)
      replace A := Lib.hid (A.out.below hb)
      replace Q := Lib.hid (Q.out.below hb)
      replace S := Lib.hid (S.out.below hb)
      clear hb
      go_wp2_with fail
      go_ret
      exact ⟨rfl, H0.out⟩

end Go.Proofs.Ytcnpgebjjknheaa
