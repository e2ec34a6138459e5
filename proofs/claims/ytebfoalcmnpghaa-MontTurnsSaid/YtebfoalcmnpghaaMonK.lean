/-
  THE LAW MontTurns. (Written by wip/gen_monJ.py.)
-/
import Derived.Test.YtebfoalcmnpghaaMonJ
namespace Go.Proofs.Ytebfoalcmnpghaa
open Go.RowKit

set_option maxRecDepth 100000 in
set_option maxHeartbeats 4000000 in
theorem turns_walk (a : Option Addr) (nx cx : Nat) (a' : Option Addr) (ny cy : Nat) (a'' : Option Addr) (nz cz : Nat) (X Y M : Nat) (w : World) (hx : NatAt w (.slice a nx cx) X) (hy : NatAt w (.slice a' ny cy) Y) (hm : NatAt w (.slice a'' nz cz) M) :
    Calls Try.prog 5 #[.slice a nx cx, .slice a' ny cy, .slice a'' nz cz] w fun e w' => e = .returned (.bool true) ∧ Below w.heap.size w w' := by
  have HX := Lib.hid hx
  have HY := Lib.hid hy
  have HM := Lib.hid hm
  have F := Lib.hid (Below.refl w.heap.size w)
  obtain ⟨r, hg⟩ : ∃ r, r = decide (20 < nx ∨ 20 < ny ∨ 20 < nz) := ⟨_, rfl⟩
  by_cases h3 : Mod3 M
  · have M3 := Lib.hid h3
    by_cases hl : 20 < nx ∨ 20 < ny ∨ 20 < nz
    · have HG := Lib.hid (show true = decide (20 < nx ∨ 20 < ny ∨ 20 < nz) by rw [decide_eq_true hl])
      clear hx hy hm hg hl h3
      go_enter Try.func5, Try.ntmps5
      go_wp2_with fail
      refine (alive_any _).mono ?_
      rintro e w1 ⟨rfl, hb⟩
      replace HX := Lib.hid (HX.out.below hb)
      replace HY := Lib.hid (HY.out.below hb)
      replace HM := Lib.hid (HM.out.below hb)
      replace F := Lib.hid (F.out.trans (hb.mono F.out.size))
      clear hb
      go_wp2_with fail
      refine (new_ok _ M _ HM.out M3.out.1 M3.out.2.1 M3.out.2.2).mono ?_
      rintro e w2 ⟨⟨p, rfl, -⟩, hb⟩
      replace HX := Lib.hid (HX.out.below hb)
      replace HY := Lib.hid (HY.out.below hb)
      replace HM := Lib.hid (HM.out.below hb)
      replace F := Lib.hid (F.out.trans (hb.mono F.out.size))
      clear hb
      go_wp2_with fail
      refine (great3 HX.out HY.out HM.out 20 20 rfl _ (by simp) _ true HG.out).mono ?_
      rintro e wg ⟨rfl, rfl⟩
      have hb := (Below.refl w2.heap.size w2).alloc (Nat.le_refl _) (.cells #[.slice a nx cx, .slice a' ny cy, .slice a'' nz cz] 23)
      replace HX := Lib.hid (HX.out.below hb)
      replace HY := Lib.hid (HY.out.below hb)
      replace HM := Lib.hid (HM.out.below hb)
      replace F := Lib.hid (F.out.trans (hb.mono F.out.size))
      clear hb
      generalize w2.alloc (.cells #[.slice a nx cx, .slice a' ny cy, .slice a'' nz cz] 23) = u3 at *
      go_wp2
      go_ret
      exact ⟨rfl, F.out⟩
    · have HG := Lib.hid (show false = decide (20 < nx ∨ 20 < ny ∨ 20 < nz) by rw [decide_eq_false hl])
      have hX20 := HX.out.lt (show nx ≤ 20 by omega)
      have hY20 := HY.out.lt (show ny ≤ 20 by omega)
      have hXt := Lib.hid (top_le hX20 (by decide))
      have hYt := Lib.hid (top_le hY20 (by decide))
      have hXY := Lib.hid (show X * Y < topN from top_le (k := 40) (by
        rw [show (40 : Nat) = 20 + 20 from rfl, Nat.pow_add]
        exact Nat.mul_lt_mul'' hX20 hY20) (by decide))
      have hMt := Lib.hid (Nat.lt_of_lt_of_le h3.1 topM_le)
      have hM0 := Lib.hid (show 0 < M by have := h3.2.1; omega)
      have hM2 := Lib.hid (show 2 ≤ M by have := h3.2.1; omega)
      clear hx hy hm hg hl hX20 hY20 h3
      go_enter Try.func5, Try.ntmps5
      go_wp2_with fail
      refine (alive_any _).mono ?_
      rintro e w1 ⟨rfl, hb⟩
      replace HX := Lib.hid (HX.out.below hb)
      replace HY := Lib.hid (HY.out.below hb)
      replace HM := Lib.hid (HM.out.below hb)
      replace F := Lib.hid (F.out.trans (hb.mono F.out.size))
      clear hb
      go_wp2_with fail
      refine (new_ok _ M _ HM.out M3.out.1 M3.out.2.1 M3.out.2.2).mono ?_
      rintro e w2 ⟨⟨p, rfl, hp⟩, hb⟩
      replace HX := Lib.hid (HX.out.below hb)
      replace HY := Lib.hid (HY.out.below hb)
      replace HM := Lib.hid (HM.out.below hb)
      have P := Lib.hid (hp.whl)
      replace F := Lib.hid (F.out.trans (hb.mono F.out.size))
      clear hb
      generalize (nat32 M).length = n at P
      go_wp2_with fail
      refine (great3 HX.out HY.out HM.out 20 20 rfl _ (by simp) _ false HG.out).mono ?_
      rintro e wg ⟨rfl, rfl⟩
      have hb := (Below.refl w2.heap.size w2).alloc (Nat.le_refl _) (.cells #[.slice a nx cx, .slice a' ny cy, .slice a'' nz cz] 23)
      replace HX := Lib.hid (HX.out.below hb)
      replace HY := Lib.hid (HY.out.below hb)
      replace HM := Lib.hid (HM.out.below hb)
      replace P := Lib.hid (P.out.below hb)
      replace F := Lib.hid (F.out.trans (hb.mono F.out.size))
      clear hb
      generalize w2.alloc (.cells #[.slice a nx cx, .slice a' ny cy, .slice a'' nz cz] 23) = u3 at *
      have hA := Lib.hid (Nat.mod_lt (X * radix n) hM0.out)
      have hB := Lib.hid (Nat.mod_lt (Y * radix n) hM0.out)
      go_wp2_with fail
      refine (In_nat P.out HX.out hXt.out).mono ?_
      rintro e w4 ⟨⟨v1, rfl, ho⟩, hb⟩
      replace HX := Lib.hid (HX.out.below hb)
      replace HY := Lib.hid (HY.out.below hb)
      replace HM := Lib.hid (HM.out.below hb)
      replace P := Lib.hid (P.out.below hb)
      have A := Lib.hid (ho)
      replace F := Lib.hid (F.out.trans (hb.mono F.out.size))
      clear hb
      go_wp2_with fail
      refine (In_nat P.out HY.out hYt.out).mono ?_
      rintro e w5 ⟨⟨v2, rfl, ho⟩, hb⟩
      replace HX := Lib.hid (HX.out.below hb)
      replace HY := Lib.hid (HY.out.below hb)
      replace HM := Lib.hid (HM.out.below hb)
      replace P := Lib.hid (P.out.below hb)
      replace A := Lib.hid (A.out.below hb)
      have B := Lib.hid (ho)
      replace F := Lib.hid (F.out.trans (hb.mono F.out.size))
      clear hb
      go_wp2_with fail
      refine (mod_nat HX.out HM.out hXt.out hMt.out hM0.out).mono ?_
      rintro e w6 ⟨⟨v3, rfl, ho⟩, hb⟩
      replace HX := Lib.hid (HX.out.below hb)
      replace HY := Lib.hid (HY.out.below hb)
      replace HM := Lib.hid (HM.out.below hb)
      replace P := Lib.hid (P.out.below hb)
      replace A := Lib.hid (A.out.below hb)
      replace B := Lib.hid (B.out.below hb)
      have R := Lib.hid (ho)
      replace F := Lib.hid (F.out.trans (hb.mono F.out.size))
      clear hb
      go_wp2_with fail
      refine (Out_nat P.out A.out.at hA.out).mono ?_
      rintro e w7 ⟨⟨v4, rfl, ho⟩, hb⟩
      replace HX := Lib.hid (HX.out.below hb)
      replace HY := Lib.hid (HY.out.below hb)
      replace HM := Lib.hid (HM.out.below hb)
      replace P := Lib.hid (P.out.below hb)
      replace A := Lib.hid (A.out.below hb)
      replace B := Lib.hid (B.out.below hb)
      replace R := Lib.hid (R.out.below hb)
      have O := Lib.hid (by rw [monN_mod, monN_in hM2.out M3.out.2.2] at ho; exact ho)
      replace F := Lib.hid (F.out.trans (hb.mono F.out.size))
      clear hb
      go_wp2_with fail
      refine (Product_nat P.out A.out.at B.out.at hA.out hB.out).mono ?_
      rintro e w8 ⟨⟨v5, rfl, ho⟩, hb⟩
      replace HX := Lib.hid (HX.out.below hb)
      replace HY := Lib.hid (HY.out.below hb)
      replace HM := Lib.hid (HM.out.below hb)
      replace P := Lib.hid (P.out.below hb)
      replace A := Lib.hid (A.out.below hb)
      replace B := Lib.hid (B.out.below hb)
      replace R := Lib.hid (R.out.below hb)
      replace O := Lib.hid (O.out.below hb)
      have PP := Lib.hid (by rw [monN_both hM2.out M3.out.2.2] at ho; exact ho)
      replace F := Lib.hid (F.out.trans (hb.mono F.out.size))
      clear hb
      go_wp2_with fail
      refine (Product_nat P.out B.out.at A.out.at hB.out hA.out).mono ?_
      rintro e w9 ⟨⟨v6, rfl, ho⟩, hb⟩
      replace HX := Lib.hid (HX.out.below hb)
      replace HY := Lib.hid (HY.out.below hb)
      replace HM := Lib.hid (HM.out.below hb)
      replace P := Lib.hid (P.out.below hb)
      replace A := Lib.hid (A.out.below hb)
      replace B := Lib.hid (B.out.below hb)
      replace R := Lib.hid (R.out.below hb)
      replace O := Lib.hid (O.out.below hb)
      replace PP := Lib.hid (PP.out.below hb)
      have Q := Lib.hid (by rw [monN_both hM2.out M3.out.2.2, Nat.mul_comm Y X] at ho; exact ho)
      replace F := Lib.hid (F.out.trans (hb.mono F.out.size))
      clear hb
      go_wp2_with fail
      refine (mul_nat HX.out HY.out hXt.out hYt.out hXY.out).mono ?_
      rintro e w10 ⟨⟨v7, rfl, ho⟩, hb⟩
      replace HX := Lib.hid (HX.out.below hb)
      replace HY := Lib.hid (HY.out.below hb)
      replace HM := Lib.hid (HM.out.below hb)
      replace P := Lib.hid (P.out.below hb)
      replace A := Lib.hid (A.out.below hb)
      replace B := Lib.hid (B.out.below hb)
      replace R := Lib.hid (R.out.below hb)
      replace O := Lib.hid (O.out.below hb)
      replace PP := Lib.hid (PP.out.below hb)
      replace Q := Lib.hid (Q.out.below hb)
      have XY := Lib.hid (ho)
      replace F := Lib.hid (F.out.trans (hb.mono F.out.size))
      clear hb
      go_wp2_with fail
      refine (In_nat P.out XY.out.at hXY.out).mono ?_
      rintro e w11 ⟨⟨v8, rfl, ho⟩, hb⟩
      replace HX := Lib.hid (HX.out.below hb)
      replace HY := Lib.hid (HY.out.below hb)
      replace HM := Lib.hid (HM.out.below hb)
      replace P := Lib.hid (P.out.below hb)
      replace A := Lib.hid (A.out.below hb)
      replace B := Lib.hid (B.out.below hb)
      replace R := Lib.hid (R.out.below hb)
      replace O := Lib.hid (O.out.below hb)
      replace PP := Lib.hid (PP.out.below hb)
      replace Q := Lib.hid (Q.out.below hb)
      replace XY := Lib.hid (XY.out.below hb)
      have C := Lib.hid (ho)
      replace F := Lib.hid (F.out.trans (hb.mono F.out.size))
      clear hb
      go_wp2_with fail
      refine (cmp_nat O.out.at R.out.at 0 (ordN_eq rfl).symm).mono ?_
      rintro e w12 ⟨rfl, hb⟩
      replace HX := Lib.hid (HX.out.below hb)
      replace HY := Lib.hid (HY.out.below hb)
      replace HM := Lib.hid (HM.out.below hb)
      replace P := Lib.hid (P.out.below hb)
      replace A := Lib.hid (A.out.below hb)
      replace B := Lib.hid (B.out.below hb)
      replace R := Lib.hid (R.out.below hb)
      replace O := Lib.hid (O.out.below hb)
      replace PP := Lib.hid (PP.out.below hb)
      replace Q := Lib.hid (Q.out.below hb)
      replace XY := Lib.hid (XY.out.below hb)
      replace C := Lib.hid (C.out.below hb)
      replace F := Lib.hid (F.out.trans (hb.mono F.out.size))
      clear hb
      go_wp2_with fail
      refine (cmp_nat PP.out.at Q.out.at 0 (ordN_eq rfl).symm).mono ?_
      rintro e w13 ⟨rfl, hb⟩
      replace HX := Lib.hid (HX.out.below hb)
      replace HY := Lib.hid (HY.out.below hb)
      replace HM := Lib.hid (HM.out.below hb)
      replace P := Lib.hid (P.out.below hb)
      replace A := Lib.hid (A.out.below hb)
      replace B := Lib.hid (B.out.below hb)
      replace R := Lib.hid (R.out.below hb)
      replace O := Lib.hid (O.out.below hb)
      replace PP := Lib.hid (PP.out.below hb)
      replace Q := Lib.hid (Q.out.below hb)
      replace XY := Lib.hid (XY.out.below hb)
      replace C := Lib.hid (C.out.below hb)
      replace F := Lib.hid (F.out.trans (hb.mono F.out.size))
      clear hb
      go_wp2_with fail
      refine (cmp_nat PP.out.at C.out.at 0 (ordN_eq rfl).symm).mono ?_
      rintro e w14 ⟨rfl, hb⟩
      replace HX := Lib.hid (HX.out.below hb)
      replace HY := Lib.hid (HY.out.below hb)
      replace HM := Lib.hid (HM.out.below hb)
      replace P := Lib.hid (P.out.below hb)
      replace A := Lib.hid (A.out.below hb)
      replace B := Lib.hid (B.out.below hb)
      replace R := Lib.hid (R.out.below hb)
      replace O := Lib.hid (O.out.below hb)
      replace PP := Lib.hid (PP.out.below hb)
      replace Q := Lib.hid (Q.out.below hb)
      replace XY := Lib.hid (XY.out.below hb)
      replace C := Lib.hid (C.out.below hb)
      replace F := Lib.hid (F.out.trans (hb.mono F.out.size))
      clear hb
      go_wp2_with fail
      refine (cmp_nat PP.out.at HM.out (-1) (ordN_lt (Nat.mod_lt _ hM0.out)).symm).mono ?_
      rintro e w15 ⟨rfl, hb⟩
      replace HX := Lib.hid (HX.out.below hb)
      replace HY := Lib.hid (HY.out.below hb)
      replace HM := Lib.hid (HM.out.below hb)
      replace P := Lib.hid (P.out.below hb)
      replace A := Lib.hid (A.out.below hb)
      replace B := Lib.hid (B.out.below hb)
      replace R := Lib.hid (R.out.below hb)
      replace O := Lib.hid (O.out.below hb)
      replace PP := Lib.hid (PP.out.below hb)
      replace Q := Lib.hid (Q.out.below hb)
      replace XY := Lib.hid (XY.out.below hb)
      replace C := Lib.hid (C.out.below hb)
      replace F := Lib.hid (F.out.trans (hb.mono F.out.size))
      clear hb
      go_wp2
      go_ret
      exact ⟨rfl, F.out⟩
  · have M3 := Lib.hid h3
    have HG := Lib.hid hg
    clear hx hy hm hg h3
    go_enter Try.func5, Try.ntmps5
    go_wp2_with fail
    refine (alive_any _).mono ?_
    rintro e w1 ⟨rfl, hb⟩
    replace HX := Lib.hid (HX.out.below hb)
    replace HY := Lib.hid (HY.out.below hb)
    replace HM := Lib.hid (HM.out.below hb)
    replace F := Lib.hid (F.out.trans (hb.mono F.out.size))
    clear hb
    go_wp2_with fail
    refine (new_no _ M _ HM.out M3.out).mono ?_
    rintro e w2 ⟨rfl, hb⟩
    replace HX := Lib.hid (HX.out.below hb)
    replace HY := Lib.hid (HY.out.below hb)
    replace HM := Lib.hid (HM.out.below hb)
    replace F := Lib.hid (F.out.trans (hb.mono F.out.size))
    clear hb
    go_wp2_with fail
    refine (great3 HX.out HY.out HM.out 20 20 rfl _ (by simp) _ r HG.out).mono ?_
    rintro e wg ⟨rfl, rfl⟩
    have hb := (Below.refl w2.heap.size w2).alloc (Nat.le_refl _) (.cells #[.slice a nx cx, .slice a' ny cy, .slice a'' nz cz] 23)
    replace HX := Lib.hid (HX.out.below hb)
    replace HY := Lib.hid (HY.out.below hb)
    replace HM := Lib.hid (HM.out.below hb)
    replace F := Lib.hid (F.out.trans (hb.mono F.out.size))
    clear hb
    generalize w2.alloc (.cells #[.slice a nx cx, .slice a' ny cy, .slice a'' nz cz] 23) = u3 at *
    cases r
    all_goals
      go_wp2
      go_ret
      exact ⟨rfl, F.out⟩

end Go.Proofs.Ytebfoalcmnpghaa
