/-
  THE LAW RatioInverses.
-/
import Derived.Test.YtcnpgebjjknheaaRatC
namespace Go.Proofs.Ytcnpgebjjknheaa
open Go.RowKit

theorem inv_exists_of {M X : Nat} (hM : 2 ≤ M) (hg : Nat.gcd M X = 1) : ∀ (R E F T : Nat) (s : Int), InvI M X E R F T s → (s = 1 ∨ s = -1) → ∃ i, i < M ∧ X * i % M = 1 := by
  intro R
  induction R using Nat.strongRecOn with
  | _ R ih =>
    intro E F T s h hs
    rcases Nat.eq_zero_or_pos R with rfl | hR
    · obtain rfl : E = 1 := by rw [← hg, ← h.gcd, Nat.gcd_zero_right]
      rcases hs with rfl | rfl
      · exact ⟨F, h.fin_pos hM⟩
      · exact ⟨M - F, h.fin_neg hM⟩
    · exact ih (E % R) (Nat.mod_lt _ hR) R T _ (-s) (h.step hR hM) (by rcases hs with rfl | rfl <;> decide)
theorem invN_spec {M X : Nat} (hM : 2 ≤ M) (hg : Nat.gcd M X = 1) : invN X M < M ∧ X * invN X M % M = 1 := by
  obtain ⟨i, h1, h2⟩ := inv_exists_of hM hg _ _ _ _ _ (inv_start X hM) (.inr rfl)
  rw [invN_eq h1 h2]
  exact ⟨h1, h2⟩
theorem gcd_of_inv {M X i : Nat} (h : X * i % M = 1) : Nat.gcd M i = 1 := by
  have h1 := Nat.div_add_mod (X * i) M
  have h2 : Nat.gcd M i ∣ X * i % M := (Nat.dvd_add_right (Nat.dvd_trans (Nat.gcd_dvd_left M i) (Nat.dvd_mul_right _ _))).1 (by rw [h1]; exact Nat.dvd_trans (Nat.gcd_dvd_right M i) (Nat.dvd_mul_left _ _))
  rw [h] at h2
  exact Nat.dvd_one.1 h2
theorem inv_inv {M X : Nat} (hM : 2 ≤ M) (hg : Nat.gcd M X = 1) : invN (invN X M) M = X % M := by
  obtain ⟨h1, h2⟩ := invN_spec hM hg
  refine invN_eq (Nat.mod_lt _ (by omega)) ?_
  rw [Nat.mul_comm, Nat.mod_mul_mod, h2]
theorem inv_no {x m : Value} {X M : Nat} {w : World} (hx : NatAt w x X) (hm : NatAt w m M) (hs : Small x) (hM : M < topM) (hX : X < topN) (hg : ¬ Nat.gcd M X = 1) :
    Calls Try.prog 24 #[x, m] w fun e w' => (∃ a c, e = .returned (.tuple #[.slice a 0 c, .int .i64 61])) ∧ Below w.heap.size w w' := by
  refine (inverse_any x m X M w hx hm hs).mono fun e w' ⟨he, hb⟩ => ⟨?_, hb⟩
  rw [invR_none hM hX (fun h => hg h.2)] at he
  obtain ⟨v, rfl, ho⟩ := he
  obtain ⟨a, n, c, rfl, hn, -⟩ := ho.slice
  obtain rfl : n = 0 := hn
  exact ⟨a, c, rfl⟩
theorem mulMod_nat {x y m : Value} {X Y M : Nat} {w : World} (hx : NatAt w x X) (hy : NatAt w y Y) (hm : NatAt w m M) (hM : M < topM) (hX : X < topN) (hY : Y < topN) (h0 : 0 < M) :
    Calls Try.prog 22 #[x, y, m] w fun e w' => RetN w' (X * Y % M) e ∧ Below w.heap.size w w' := by
  refine (mulMod_any x y m X Y M w hx hy hm).mono fun e w' ⟨he, hb⟩ => ⟨?_, hb⟩
  rw [mulModR_yes hM hX hY h0] at he
  exact he.num
theorem topM_le_of {n : Nat} (h : n < 4294967296 ^ 20) : n < topM := Nat.lt_of_lt_of_le h (by unfold topM; exact Nat.pow_le_pow_right (by decide) (by decide))

set_option maxRecDepth 100000 in
set_option maxHeartbeats 8000000 in
theorem inverses_walk (a : Option Addr) (nx cx : Nat) (a' : Option Addr) (ny cy : Nat) (X M : Nat) (w : World) (hx : NatAt w (.slice a nx cx) X) (hy : NatAt w (.slice a' ny cy) M) :
    Calls Try.prog 10 #[.slice a nx cx, .slice a' ny cy] w fun e w' => e = .returned (.bool true) ∧ Below w.heap.size w w' := by
  have HX := Lib.hid hx
  have HM := Lib.hid hy
  clear hx hy
  by_cases hg : 20 < nx ∨ 20 < ny
  · have hgr := Lib.hid (show true = decide (20 < nx ∨ 20 < ny) by rw [decide_eq_true hg])
    clear hg
    go_enter Try.func10, Try.ntmps10
    go_wp2_with fail
    refine (alive_any _).mono ?_
    rintro e w1 ⟨rfl, hb⟩
    have H0 := Lib.hid hb
    replace HX := Lib.hid (HX.out.below hb)
    replace HM := Lib.hid (HM.out.below hb)
    clear hb
    go_wp2_with fail
    refine (great2 HX.out HM.out 20 20 rfl _ rfl _ true hgr.out).mono ?_
    rintro e wg ⟨rfl, rfl⟩
    have hb := (Below.refl w1.heap.size w1).alloc (Nat.le_refl _) (.cells #[.slice a nx cx, .slice a' ny cy] 23)
    replace H0 := Lib.hid (H0.out.trans (hb.mono H0.out.size))
    replace HX := Lib.hid (HX.out.below hb)
    replace HM := Lib.hid (HM.out.below hb)
    clear hb
    go_wp2_with fail
    go_ret
    exact ⟨rfl, H0.out⟩
  · have hgr := Lib.hid (show false = decide (20 < nx ∨ 20 < ny) by rw [decide_eq_false hg])
    have lX := HX.out.lt (show nx ≤ 20 by omega)
    have lM := HM.out.lt (show ny ≤ 20 by omega)
    have hXt := Lib.hid (top_le lX (by decide))
    have hMN := Lib.hid (top_le lM (by decide))
    have hMt := Lib.hid (topM_le_of lM)
    have hsx := Lib.hid (small_len (a := a) (c := cx) (show nx ≤ 20 by omega) (by decide))
    clear hg lX lM
    by_cases h : 2 ≤ M
    · have h2 := Lib.hid h
      have hM0 := Lib.hid (show 0 < M by omega)
      by_cases hG1 : Nat.gcd M X = 1
      · have hG := Lib.hid hG1
        have hsp := invN_spec h hG1
        have hIl := Lib.hid hsp.1
        have hI1 := Lib.hid hsp.2
        have hIt := Lib.hid (Nat.lt_trans hsp.1 hMN.out)
        have hGi := Lib.hid (gcd_of_inv hsp.2)
        have hJ := Lib.hid (inv_inv h hG1)
        have hgn := Lib.hid (decide_eq_true (show Nat.gcd X M = 1 by rw [Nat.gcd_comm]; exact hG1)).symm
        clear h hG1 hsp
        go_enter Try.func10, Try.ntmps10
        go_wp2_with fail
        refine (alive_any _).mono ?_
        rintro e w1 ⟨rfl, hb⟩
        have H0 := Lib.hid hb
        replace HX := Lib.hid (HX.out.below hb)
        replace HM := Lib.hid (HM.out.below hb)
        clear hb
        go_wp2_with fail
        refine (great2 HX.out HM.out 20 20 rfl _ rfl _ false hgr.out).mono ?_
        rintro e wg ⟨rfl, rfl⟩
        have hb := (Below.refl w1.heap.size w1).alloc (Nat.le_refl _) (.cells #[.slice a nx cx, .slice a' ny cy] 23)
        replace H0 := Lib.hid (H0.out.trans (hb.mono H0.out.size))
        replace HX := Lib.hid (HX.out.below hb)
        replace HM := Lib.hid (HM.out.below hb)
        clear hb
        go_wp2_with fail
        refine (of_nat 1 1 rfl _ (by decide)).mono ?_
        rintro e w2 ⟨⟨v, rfl, hv⟩, hb⟩
        replace H0 := Lib.hid (H0.out.trans (hb.mono H0.out.size))
        replace HX := Lib.hid (HX.out.below hb)
        replace HM := Lib.hid (HM.out.below hb)
        have O := Lib.hid hv
        clear hb hv
        go_wp2_with fail
        refine (cmp_nat HM.out O.out.at 1 (ordN_gt h2.out).symm).mono ?_
        rintro e w3 ⟨rfl, hb⟩
        replace H0 := Lib.hid (H0.out.trans (hb.mono H0.out.size))
        replace HX := Lib.hid (HX.out.below hb)
        replace HM := Lib.hid (HM.out.below hb)
        replace O := Lib.hid (O.out.below hb)
        clear hb
        clear O
        go_wp2_with fail
        refine (inv_nat HX.out HM.out hsx.out hMt.out hXt.out h2.out hG.out).mono ?_
        rintro e w4 ⟨⟨iv, rfl, hq⟩, hb⟩
        replace H0 := Lib.hid (H0.out.trans (hb.mono H0.out.size))
        replace HX := Lib.hid (HX.out.below hb)
        replace HM := Lib.hid (HM.out.below hb)
        have I := Lib.hid hq
        clear hb hq
        go_wp2_with fail
        refine (gcd_nat HX.out HM.out hXt.out hMN.out).mono ?_
        rintro e w5 ⟨⟨gv, rfl, hq⟩, hb⟩
        replace H0 := Lib.hid (H0.out.trans (hb.mono H0.out.size))
        replace HX := Lib.hid (HX.out.below hb)
        replace HM := Lib.hid (HM.out.below hb)
        replace I := Lib.hid (I.out.below hb)
        have G := Lib.hid hq
        clear hb hq
        go_wp2_with fail
        refine (is_nat _ _ 1 1 rfl _ G.out (by decide) true hgn.out).mono ?_
        rintro e w6 ⟨rfl, hb⟩
        replace H0 := Lib.hid (H0.out.trans (hb.mono H0.out.size))
        replace HX := Lib.hid (HX.out.below hb)
        replace HM := Lib.hid (HM.out.below hb)
        replace I := Lib.hid (I.out.below hb)
        replace G := Lib.hid (G.out.below hb)
        clear hb
        clear G
        go_wp2_with fail
        refine (mulMod_nat HX.out I.out.at HM.out hMt.out hXt.out hIt.out hM0.out).mono ?_
        rintro e w7 ⟨⟨pv, rfl, hq⟩, hb⟩
        replace H0 := Lib.hid (H0.out.trans (hb.mono H0.out.size))
        replace HX := Lib.hid (HX.out.below hb)
        replace HM := Lib.hid (HM.out.below hb)
        replace I := Lib.hid (I.out.below hb)
        have P := Lib.hid hq
        clear hb hq
        rw [hI1.out] at P
        go_wp2_with fail
        refine (inv_nat I.out.at HM.out (natC_small I.out hIt.out) hMt.out hIt.out h2.out hGi.out).mono ?_
        rintro e w8 ⟨⟨jv, rfl, hq⟩, hb⟩
        replace H0 := Lib.hid (H0.out.trans (hb.mono H0.out.size))
        replace HX := Lib.hid (HX.out.below hb)
        replace HM := Lib.hid (HM.out.below hb)
        replace I := Lib.hid (I.out.below hb)
        replace P := Lib.hid (P.out.below hb)
        have J := Lib.hid hq
        clear hb hq
        rw [hJ.out] at J
        go_wp2_with fail
        refine (mod_nat HX.out HM.out hXt.out hMN.out hM0.out).mono ?_
        rintro e w9 ⟨⟨rv, rfl, hq⟩, hb⟩
        replace H0 := Lib.hid (H0.out.trans (hb.mono H0.out.size))
        replace HX := Lib.hid (HX.out.below hb)
        replace HM := Lib.hid (HM.out.below hb)
        replace I := Lib.hid (I.out.below hb)
        replace P := Lib.hid (P.out.below hb)
        replace J := Lib.hid (J.out.below hb)
        have R := Lib.hid hq
        clear hb hq
        go_wp2_with fail
        refine (is_nat _ 1 1 1 rfl _ P.out (by decide) true rfl).mono ?_
        rintro e w10 ⟨rfl, hb⟩
        replace H0 := Lib.hid (H0.out.trans (hb.mono H0.out.size))
        replace HX := Lib.hid (HX.out.below hb)
        replace HM := Lib.hid (HM.out.below hb)
        replace I := Lib.hid (I.out.below hb)
        replace P := Lib.hid (P.out.below hb)
        replace J := Lib.hid (J.out.below hb)
        replace R := Lib.hid (R.out.below hb)
        clear hb
        go_wp2_with fail
        refine (cmp_nat I.out.at HM.out (-1) (ordN_lt hIl.out).symm).mono ?_
        rintro e w11 ⟨rfl, hb⟩
        replace H0 := Lib.hid (H0.out.trans (hb.mono H0.out.size))
        replace HX := Lib.hid (HX.out.below hb)
        replace HM := Lib.hid (HM.out.below hb)
        replace I := Lib.hid (I.out.below hb)
        replace P := Lib.hid (P.out.below hb)
        replace J := Lib.hid (J.out.below hb)
        replace R := Lib.hid (R.out.below hb)
        clear hb
        go_wp2_with fail
        refine (cmp_nat J.out.at R.out.at 0 (ordN_eq rfl).symm).mono ?_
        rintro e w12 ⟨rfl, hb⟩
        replace H0 := Lib.hid (H0.out.trans (hb.mono H0.out.size))
        replace HX := Lib.hid (HX.out.below hb)
        replace HM := Lib.hid (HM.out.below hb)
        replace I := Lib.hid (I.out.below hb)
        replace P := Lib.hid (P.out.below hb)
        replace J := Lib.hid (J.out.below hb)
        replace R := Lib.hid (R.out.below hb)
        clear hb
        go_wp2_with fail
        go_ret
        exact ⟨rfl, H0.out⟩
      · have hG := Lib.hid hG1
        have hgn := Lib.hid (decide_eq_false (show ¬ Nat.gcd X M = 1 from fun h => hG1 (by rw [Nat.gcd_comm]; exact h))).symm
        clear h hG1
        go_enter Try.func10, Try.ntmps10
        go_wp2_with fail
        refine (alive_any _).mono ?_
        rintro e w1 ⟨rfl, hb⟩
        have H0 := Lib.hid hb
        replace HX := Lib.hid (HX.out.below hb)
        replace HM := Lib.hid (HM.out.below hb)
        clear hb
        go_wp2_with fail
        refine (great2 HX.out HM.out 20 20 rfl _ rfl _ false hgr.out).mono ?_
        rintro e wg ⟨rfl, rfl⟩
        have hb := (Below.refl w1.heap.size w1).alloc (Nat.le_refl _) (.cells #[.slice a nx cx, .slice a' ny cy] 23)
        replace H0 := Lib.hid (H0.out.trans (hb.mono H0.out.size))
        replace HX := Lib.hid (HX.out.below hb)
        replace HM := Lib.hid (HM.out.below hb)
        clear hb
        go_wp2_with fail
        refine (of_nat 1 1 rfl _ (by decide)).mono ?_
        rintro e w2 ⟨⟨v, rfl, hv⟩, hb⟩
        replace H0 := Lib.hid (H0.out.trans (hb.mono H0.out.size))
        replace HX := Lib.hid (HX.out.below hb)
        replace HM := Lib.hid (HM.out.below hb)
        have O := Lib.hid hv
        clear hb hv
        go_wp2_with fail
        refine (cmp_nat HM.out O.out.at 1 (ordN_gt h2.out).symm).mono ?_
        rintro e w3 ⟨rfl, hb⟩
        replace H0 := Lib.hid (H0.out.trans (hb.mono H0.out.size))
        replace HX := Lib.hid (HX.out.below hb)
        replace HM := Lib.hid (HM.out.below hb)
        replace O := Lib.hid (O.out.below hb)
        clear hb
        clear O
        go_wp2_with fail
        refine (inv_no HX.out HM.out hsx.out hMt.out hXt.out hG.out).mono ?_
        rintro e w4 ⟨⟨ai, ci, rfl⟩, hb⟩
        replace H0 := Lib.hid (H0.out.trans (hb.mono H0.out.size))
        replace HX := Lib.hid (HX.out.below hb)
        replace HM := Lib.hid (HM.out.below hb)
        clear hb
        go_wp2_with fail
        refine (gcd_nat HX.out HM.out hXt.out hMN.out).mono ?_
        rintro e w5 ⟨⟨gv, rfl, hq⟩, hb⟩
        replace H0 := Lib.hid (H0.out.trans (hb.mono H0.out.size))
        replace HX := Lib.hid (HX.out.below hb)
        replace HM := Lib.hid (HM.out.below hb)
        have G := Lib.hid hq
        clear hb hq
        go_wp2_with fail
        refine (is_nat _ _ 1 1 rfl _ G.out (by decide) false hgn.out).mono ?_
        rintro e w6 ⟨rfl, hb⟩
        replace H0 := Lib.hid (H0.out.trans (hb.mono H0.out.size))
        replace HX := Lib.hid (HX.out.below hb)
        replace HM := Lib.hid (HM.out.below hb)
        replace G := Lib.hid (G.out.below hb)
        clear hb
        go_wp2_with fail
        go_ret
        exact ⟨rfl, H0.out⟩
    · have ho := Lib.hid (show ordN M 1 ≤ 0 by unfold ordN; split <;> (try split) <;> omega)
      clear h
      go_enter Try.func10, Try.ntmps10
      go_wp2_with fail
      refine (alive_any _).mono ?_
      rintro e w1 ⟨rfl, hb⟩
      have H0 := Lib.hid hb
      replace HX := Lib.hid (HX.out.below hb)
      replace HM := Lib.hid (HM.out.below hb)
      clear hb
      go_wp2_with fail
      refine (great2 HX.out HM.out 20 20 rfl _ rfl _ false hgr.out).mono ?_
      rintro e wg ⟨rfl, rfl⟩
      have hb := (Below.refl w1.heap.size w1).alloc (Nat.le_refl _) (.cells #[.slice a nx cx, .slice a' ny cy] 23)
      replace H0 := Lib.hid (H0.out.trans (hb.mono H0.out.size))
      replace HX := Lib.hid (HX.out.below hb)
      replace HM := Lib.hid (HM.out.below hb)
      clear hb
      go_wp2_with fail
      refine (of_nat 1 1 rfl _ (by decide)).mono ?_
      rintro e w2 ⟨⟨v, rfl, hv⟩, hb⟩
      replace H0 := Lib.hid (H0.out.trans (hb.mono H0.out.size))
      replace HX := Lib.hid (HX.out.below hb)
      replace HM := Lib.hid (HM.out.below hb)
      have O := Lib.hid hv
      clear hb hv
      have HC := Lib.hid (cmp_nat HM.out O.out.at _ rfl)
      have hoo := ho.out
      generalize ordN M 1 = o at HC hoo
      go_wp2_with fail
      refine (HC.out).mono ?_
      rintro e w3 ⟨rfl, hb⟩
      replace H0 := Lib.hid (H0.out.trans (hb.mono H0.out.size))
      replace HX := Lib.hid (HX.out.below hb)
      replace HM := Lib.hid (HM.out.below hb)
      replace O := Lib.hid (O.out.below hb)
      clear hb
      go_wp2_with fail
      go_ret
      exact ⟨rfl, H0.out⟩

end Go.Proofs.Ytcnpgebjjknheaa
