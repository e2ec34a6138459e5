/-
  RATIO's Inverse.
-/
import Derived.Test.YtcnpgebjjknheaaGcdB
import Derived.Test.YtcnpgebjjknheaaInvM
namespace Go.Proofs.Ytcnpgebjjknheaa
open Go.RowKit

theorem natAt_uniq {w : World} {v : Value} {n m : Nat} (h : NatAt w v n) (k : NatAt w v m) : n = m := by
  obtain ⟨a, len, cap, l, rfl, hr, hl, rfl⟩ := h
  obtain ⟨a', len', cap', l', he, hr', hl', rfl⟩ := k
  cases he
  have e : l = l' := by
    apply List.ext_getElem
    · rw [hr.length, hr'.length]
    · intro i h1 h2
      have hi : i < len := by rw [← hr.length]; exact h1
      obtain ⟨b, off, ha, _, hc⟩ := hr.cells (by omega)
      obtain ⟨b', off', ha', _, hc'⟩ := hr'.cells (by omega)
      rw [ha] at ha'
      cases ha'
      have e := (hc i hi).symm.trans (hc' i hi)
      rw [List.getElem?_eq_getElem h1, List.getElem?_eq_getElem h2] at e
      simp at e
      omega
  rw [e]
theorem eps_at {w : World} {v : Value} {n : Nat} (h : NatAt w v n) : @Classical.epsilon Nat ⟨0⟩ (fun m => NatAt w v m) = n := natAt_uniq (@Classical.epsilon_spec_aux Nat ⟨0⟩ _ ⟨n, h⟩) h

/-- A slice that is not longer than memory is. -/
def Small (v : Value) : Prop := ∀ a len cap, v = .slice a len cap → len ≤ 288230376151711743
theorem small_own {E B : Nat} {w : World} {v : Value} {n : Nat} (h : OwnQ .u32 E B w v (nat32 n)) (hn : n < topN) : Small v := fun a len cap e => by
  subst e
  have := (own_short (k := 256) h).2 hn
  omega

def invR (x m : Nat) : List Nat × Int := if m < topM ∧ x < topN then (if 2 ≤ m ∧ Nat.gcd m x = 1 then (nat32 (invN x m), 0) else ([], 61)) else ([], 20)
theorem invR_no {x m : Nat} (h : ¬ (m < topM ∧ x < topN)) : invR x m = ([], 20) := if_neg h
theorem invR_none {x m : Nat} (h : m < topM) (k : x < topN) (hn : ¬ (2 ≤ m ∧ Nat.gcd m x = 1)) : invR x m = ([], 61) := by unfold invR; rw [if_pos ⟨h, k⟩, if_neg hn]
theorem invR_yes {x m : Nat} (h : m < topM) (k : x < topN) (h2 : 2 ≤ m) (hg : Nat.gcd m x = 1) : invR x m = (nat32 (invN x m), 0) := by unfold invR; rw [if_pos ⟨h, k⟩, if_pos ⟨h2, hg⟩]

theorem bitsN_pos {n : Nat} : 0 < bitsN n ↔ 0 < n := by
  have := bitsN_le n 0
  omega

theorem add_own {x y : Value} {n m : Nat} {w : World} (hx : NatAt w x n) (hy : NatAt w y m) (h : n + m < topN) : Calls Try.prog 31 #[x, y] w fun e w' => (∃ v, e = .returned (.tuple #[v, .int .i64 0]) ∧ OwnQ .u32 41 w.heap.size w' v (nat32 (n + m))) ∧ Below w.heap.size w w' := by
  obtain ⟨a, len, cap, l, rfl, hr, hl, rfl⟩ := hx
  obtain ⟨a', len', cap', l', rfl, hr', hl', rfl⟩ := hy
  refine (add_any _ _ _ _ _ _ _ _ w hr hr' hl hl').mono fun e w' ⟨he, hb⟩ => ⟨?_, hb⟩
  rw [cutR_small h] at he
  exact he
theorem sub_own {x y : Value} {n m : Nat} {w : World} (hx : NatAt w x n) (hy : NatAt w y m) (h : n < topN) (hm : m ≤ n) : Calls Try.prog 45 #[x, y] w fun e w' => (∃ v, e = .returned (.tuple #[v, .int .i64 0]) ∧ OwnQ .u32 41 w.heap.size w' v (nat32 (n - m))) ∧ Below w.heap.size w w' := by
  obtain ⟨a, len, cap, l, rfl, hr, hl, rfl⟩ := hx
  obtain ⟨a', len', cap', l', rfl, hr', hl', rfl⟩ := hy
  refine (sub_any _ _ _ _ _ _ _ _ w hr hr' hl hl').mono fun e w' ⟨he, hb⟩ => ⟨?_, hb⟩
  rw [subR_yes ⟨h, Nat.lt_of_le_of_lt hm h, hm⟩] at he
  exact he
theorem of_own (n : Int) (k : Nat) (hk : n = k) (w : World) (hn : k < 18446744073709551616) : Calls Try.prog 26 #[.int .u64 n] w fun e w' => (∃ v, e = .returned v ∧ OwnQ .u32 41 w.heap.size w' v (nat32 k)) ∧ Below w.heap.size w w' := of_any n k hk w hn

/-- Between two rounds of Inverse. -/
def InvW (n₀ : Nat) (w5 : World) (M X : Nat) (ev rv fv tv pv : Value) (wr : World) : Prop :=
  ∃ (E R F T : Nat) (s : Int), InvI M X E R F T s ∧ E < topN ∧ R < topN ∧ Small rv ∧ NatAt wr ev E ∧ NatAt wr rv R ∧ OwnQ .u32 41 n₀ wr fv (nat32 F) ∧ OwnQ .u32 41 n₀ wr tv (nat32 T) ∧ pv = .bool (decide (s = 1)) ∧ (s = 1 ∨ s = -1) ∧ Below w5.heap.size w5 wr

set_option maxRecDepth 100000 in
set_option maxHeartbeats 2000000 in
theorem inverse_main (x m : Value) (X M : Nat) (w : World) (hx : NatAt w x X) (hm : NatAt w m M) (hs : Small x) (hM : M < topM) (hX : X < topN) (h2 : 2 ≤ M) :
    Calls Try.prog 24 #[x, m] w fun e w' => RetsQ2 .u32 41 w.heap.size w' (invR X M) e ∧ Below w.heap.size w w' := by
  have NX := Lib.hid hx
  have NM := Lib.hid hm
  have HS := Lib.hid hs
  have HM := Lib.hid hM
  have HX := Lib.hid hX
  have H2 := Lib.hid h2
  have HMN := Lib.hid (Nat.lt_of_lt_of_le hM topM_le)
  clear hx hm hs hM hX h2
  go_enter Try.func24, Try.ntmps24
  go_wp2_with fail
  refine (modulus_ok m M w NM.out HM.out).mono ?_
  rintro e w1 ⟨⟨v1, rfl, ho1⟩, hb1⟩
  have N1 := Lib.hid (natAt_own ho1)
  have B1 := Lib.hid hb1
  have NX1 := Lib.hid (NX.out.below hb1)
  clear ho1 hb1
  go_wp2_with fail
  refine (trim_ok NX1.out HX.out).mono ?_
  rintro e w2 ⟨⟨v2, rfl, ho2⟩, hb2⟩
  have N2 := Lib.hid (N1.out.below hb2)
  have NX2 := Lib.hid (NX1.out.below hb2)
  have B2 := Lib.hid (B1.out.trans (hb2.mono B1.out.size))
  clear ho2 hb2
  go_wp2_with fail
  refine (of_own 1 1 rfl _ (by decide)).mono ?_
  rintro e w3 ⟨⟨v3, rfl, ho3⟩, hb3⟩
  have O3 := Lib.hid (ho3.mono B2.out.size)
  have N3 := Lib.hid (N2.out.below hb3)
  have NX3 := Lib.hid (NX2.out.below hb3)
  have B3 := Lib.hid (B2.out.trans (hb3.mono B2.out.size))
  clear ho3 hb3
  go_wp2_with fail
  refine (cmp_nat N3.out (natAt_own O3.out) 1 (ordN_gt H2.out).symm).mono ?_
  rintro e w4 ⟨rfl, hb4⟩
  have O4 := Lib.hid (O3.out.below hb4)
  have N4 := Lib.hid (N3.out.below hb4)
  have NX4 := Lib.hid (NX3.out.below hb4)
  have B4 := Lib.hid (B3.out.trans (hb4.mono B3.out.size))
  clear hb4 N1 N2 N3 NX1 NX2 NX3 B1 B2 B3 O3
  go_wp2_with fail
  go_loopw [10, 11, 12, 13, 14] (fun ev rv fv tv pv wr => Hid (InvW w.heap.size w4 M X ev rv fv tv pv wr)) (fun _ rv _ _ _ wr => @Classical.epsilon Nat ⟨0⟩ (fun n => NatAt wr rv n))
  case atStart => exact ⟨M, X, 0, 1, -1, inv_start X H2.out, HMN.out, HX.out, HS.out, N4.out, NX4.out, by rw [show nat32 0 = [] from natB_zero _]; exact ownNil _ _ _, O4.out, rfl, .inr rfl, Below.refl _ _⟩
  case round =>
    obtain ⟨E, R, F, T, s, hI, hE, hR, hsm, hev, hrv, hfv, htv, rfl, hss, hbl⟩ := hrel.out
    have HI := Lib.hid hI
    have HE := Lib.hid hE
    have HR := Lib.hid hR
    have HEV := Lib.hid hev
    have HRV := Lib.hid hrv
    have HFV := Lib.hid hfv
    have HTV := Lib.hid htv
    have HSS := Lib.hid hss
    have HBL := Lib.hid hbl
    have HB := Lib.hid (bits_nat hrv hsm _ rfl)
    have hbp := bitsN_pos (n := R)
    generalize bitsN R = bn at *
    clear hI hE hR hsm hev hrv hfv htv hss hbl hrel
    rcases Nat.eq_zero_or_pos R with h0 | h0
    · have hbz : ¬ 0 < bn := fun h => by have := hbp.1 h; omega
      obtain rfl : bn = 0 := by omega
      have H0 := Lib.hid h0
      clear hbz hbp h0
      go_wp2_with fail
      refine HB.out.mono ?_
      rintro e w' ⟨rfl, rfl⟩
      have hOne := Lib.hid (O4.out.below HBL.out)
      by_cases h1 : E = 1
      · have hg := Lib.hid (show Nat.gcd M X = 1 by rw [← HI.out.gcd, H0.out, Nat.gcd_zero_right, h1])
        have hRR := Lib.hid (invR_yes HM.out HX.out H2.out hg.out)
        have HI1 := Lib.hid (show InvI M X 1 0 F T s by have := HI.out; rwa [h1, H0.out] at this)
        have HE1 := Lib.hid h1
        clear h1
        go_wp2_with fail
        refine (cmp_nat HEV.out (natAt_own hOne.out) 0 (ordN_eq HE1.out).symm).mono ?_
        rintro e w7 ⟨rfl, hb7⟩
        have F7 := Lib.hid (HFV.out.below hb7)
        have M7 := Lib.hid ((N4.out.below HBL.out).below hb7)
        have B7 := Lib.hid ((B4.out.trans (HBL.out.mono B4.out.size)).trans (hb7.mono (Nat.le_trans B4.out.size HBL.out.size)))
        clear hb7
        rcases HSS.out with hs1 | hs1
        · subst hs1
          have hf := Lib.hid (HI1.out.fin_pos H2.out)
          have hiv := Lib.hid (invN_eq hf.out.1 hf.out.2)
          go_wp2_with fail
          go_ret2
          exact ⟨⟨_, by rw [hRR.out]; rfl, by rw [hRR.out, hiv.out]; exact F7.out⟩, B7.out⟩
        · subst hs1
          have hf := Lib.hid (HI1.out.fin_neg H2.out)
          have hiv := Lib.hid (invN_eq hf.out.1 hf.out.2)
          have hdz : decide ((-1 : Int) = 1) = false := by decide
          go_wp2_with fail
          refine (sub_own M7.out (natAt_own F7.out) HMN.out (Nat.le_of_lt HI1.out.bound)).mono ?_
          rintro e w8 ⟨⟨v8, rfl, ho8⟩, hb8⟩
          have O8 := Lib.hid ho8
          have B8 := Lib.hid (B7.out.trans (hb8.mono B7.out.size))
          clear ho8 hb8
          go_wp2_with fail
          go_ret2
          exact ⟨⟨_, by rw [hRR.out]; rfl, by rw [hRR.out, hiv.out]; exact O8.out.mono B7.out.size⟩, B8.out⟩
      · have hRR := Lib.hid (invR_none HM.out HX.out (fun h => h1 (by rw [← h.2, ← HI.out.gcd, H0.out, Nat.gcd_zero_right])))
        have ho : ordN E 1 ≠ 0 := by unfold ordN; split <;> simp; omega
        have hob : (ordN E 1 != 0) = true := by simp [ho]
        have hcm := Lib.hid (cmp_nat HEV.out (natAt_own hOne.out) _ rfl)
        generalize ordN E 1 = o at *
        clear h1
        go_wp2_with fail
        refine hcm.out.mono ?_
        rintro e w7 ⟨rfl, hb7⟩
        have B7 := Lib.hid ((B4.out.trans (HBL.out.mono B4.out.size)).trans (hb7.mono (Nat.le_trans B4.out.size HBL.out.size)))
        clear hb7
        go_wp2_with fail
        go_ret2
        exact ⟨⟨_, by rw [hRR.out]; rfl, by rw [hRR.out]; exact ownNil _ _ _⟩, B7.out⟩
    · have hbz : 0 < bn := hbp.2 h0
      have H0 := Lib.hid h0
      have hst := Lib.hid (HI.out.step h0 H2.out)
      have htl := Lib.hid (hst.out.less)
      have hq := Lib.hid (show E / R < topN from Nat.lt_of_le_of_lt (Nat.div_le_self _ _) HE.out)
      have hT := Lib.hid (show T < topN from Nat.lt_of_le_of_lt HI.out.less HMN.out)
      have hqt := Lib.hid (show E / R * T < topN from Nat.lt_of_le_of_lt (Nat.le_trans (Nat.le_add_right _ F) htl.out) HMN.out)
      have hqf := Lib.hid (show E / R * T + F < topN from Nat.lt_of_le_of_lt htl.out HMN.out)
      have hmd := Lib.hid (Nat.mod_lt E h0)
      clear hbp h0
      go_wp2_with fail
      refine HB.out.mono ?_
      rintro e w' ⟨rfl, rfl⟩
      go_wp2_with fail
      refine (div_any _ _ _ _ _ HEV.out HRV.out).mono ?_
      rintro e w7 ⟨⟨qv, sv, rfl, hqv, hsv, -⟩, hb7⟩
      rw [divR_yes HE.out HR.out H0.out] at hqv hsv
      have Q7 := Lib.hid (natAt_own hqv)
      have S7 := Lib.hid hsv
      have SM := Lib.hid (small_own hsv (Nat.lt_trans hmd.out HR.out))
      have R7 := Lib.hid (HRV.out.below hb7)
      have F7 := Lib.hid (HFV.out.below hb7)
      have T7 := Lib.hid (HTV.out.below hb7)
      have B7 := Lib.hid (HBL.out.trans (hb7.mono HBL.out.size))
      rw [divR_yes HE.out HR.out H0.out]
      clear hqv hsv hb7
      go_wp2_with fail
      refine (mul_nat Q7.out (natAt_own T7.out) hq.out hT.out hqt.out).mono ?_
      rintro e w8 ⟨⟨pv, rfl, hpv⟩, hb8⟩
      have P8 := Lib.hid hpv.at
      have S8 := Lib.hid (S7.out.below hb8)
      have R8 := Lib.hid (R7.out.below hb8)
      have F8 := Lib.hid (F7.out.below hb8)
      have T8 := Lib.hid (T7.out.below hb8)
      have B8 := Lib.hid (B7.out.trans (hb8.mono B7.out.size))
      clear hpv hb8
      go_wp2_with fail
      refine (add_own P8.out (natAt_own F8.out) hqf.out).mono ?_
      rintro e w9 ⟨⟨av, rfl, hav⟩, hb9⟩
      have A9 := Lib.hid (hav.mono (Nat.le_trans B4.out.size B8.out.size))
      have S9 := Lib.hid (natAt_own (S8.out.below hb9))
      have R9 := Lib.hid (R8.out.below hb9)
      have T9 := Lib.hid (T8.out.below hb9)
      have B9 := Lib.hid (B8.out.trans (hb9.mono B8.out.size))
      clear hav hb9
      go_wp2_with fail
      go_roundw
      case rel => exact ⟨R, E % R, T, E / R * T + F, -s, hst.out, HR.out, Nat.lt_trans hmd.out HR.out, SM.out, R9.out, S9.out, T9.out, A9.out, by rcases HSS.out with rfl | rfl <;> rfl, by rcases HSS.out with rfl | rfl <;> decide, B9.out⟩
      case measure =>
        rw [eps_at S9.out, eps_at HRV.out]
        exact hmd.out

end Go.Proofs.Ytcnpgebjjknheaa
