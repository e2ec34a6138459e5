/-
  MERGED: MonQ MonR
-/
import Derived.Test.YtebfoalcmnpghaaMonGI
import Derived.Test.YtebfoalcmnpghaaRfK
namespace Go.Proofs.Ytebfoalcmnpghaa
open Go.RowKit

instance (M : Nat) : Decidable (Mod3 M) := by unfold Mod3; infer_instance

namespace rf

theorem bit_s {x : Value} {X : Nat} {w : World} (hx : NatS w x X) (i : Int) (hi : i ≤ 9223372036854775807) (r : Bool) (h : r = (decide (0 ≤ i) && X.testBit i.toNat)) : Calls Try.prog 34 #[x, .int .i64 i] w fun e w' => e = .returned (.bool r) ∧ Below w.heap.size w w' := by
  obtain ⟨a, n, c, l, rfl, hr, hl, rfl, hm⟩ := hx
  exact bit_any a n c l w hr hl hm i hi r h
theorem bits_s {x : Value} {X : Nat} {w : World} (hx : NatS w x X) (b : Nat) (h : b = Go.Proofs.Ytebfoalcmnpghaa.bitsN X) : Calls Try.prog 53 #[x] w fun e w' => e = .returned (.int .i64 (b : Int)) ∧ Below w.heap.size w w' := by
  obtain ⟨a, n, c, l, rfl, hr, hl, rfl, hm⟩ := hx
  exact bits_any a n c l w hr hl hm b h

theorem mod3_bits (M : Nat) : decide (Mod3 M) = (decide (M < topM) && M.testBit 0 && decide (0 < ordR M 1)) := by
  by_cases h1 : M < topM
  · by_cases h2 : M % 2 = 1
    · rw [testBit_odd h2, decide_eq_true h1]
      by_cases h3 : 3 ≤ M
      · rw [decide_eq_true (show Mod3 M from ⟨h1, h3, h2⟩), ordR_gt (by omega)]
        rfl
      · rw [decide_eq_false (show ¬ Mod3 M from fun h => h3 h.2.1), ordR_eq (show M = 1 by omega)]
        rfl
    · rw [testBit_even h2, decide_eq_false (show ¬ Mod3 M from fun h => h2 h.2.2)]
      simp
  · rw [decide_eq_false h1, decide_eq_false (show ¬ Mod3 M from fun h => h1 h.1)]
    simp

set_option maxHeartbeats 1000000 in
theorem may7_s (m : Value) (M : Nat) (w : World) (hm : NatS w m M) (r : Bool) (hr : r = decide (Mod3 M)) :
    Calls Try.prog 8 #[m] w fun e w' => e = .returned (.bool r) ∧ Below w.heap.size w w' := by
  have NM := Lib.hid hm
  have HR0 := hr.trans (mod3_bits M)
  have h1 : ∃ b, b = decide (M < topM) := ⟨_, rfl⟩
  have h2 : ∃ b, b = M.testBit 0 := ⟨_, rfl⟩
  have h3 : ∃ o : Int, o = ordR M 1 := ⟨_, rfl⟩
  obtain ⟨b1, h1⟩ := h1
  obtain ⟨b2, h2⟩ := h2
  obtain ⟨o, h3⟩ := h3
  rw [← h1, ← h2, ← h3] at HR0
  have H1 := Lib.hid h1
  have H2 := Lib.hid h2
  have H3 := Lib.hid h3
  have HR := Lib.hid HR0
  have F := Lib.hid (Below.refl w.heap.size w)
  clear hm hr h1 h2 h3 HR0
  cases b1 <;> cases b2 <;> rcases Decidable.em (0 < o) with ho | ho
  all_goals
    go_enter Try.func8, Try.ntmps8
    go_wp2_with fail
    refine (modulus_s NM.out _ H1.out).mono ?_
    rintro e w1 ⟨rfl, hb⟩
    replace NM := Lib.hid (NM.out.below hb)
    replace F := Lib.hid (F.out.trans (hb.mono F.out.size))
    clear hb
    go_wp2_with fail
    refine (bit_s NM.out 0 (by decide) _ (by first | (rw [show ((0 : Int).toNat) = 0 from rfl, ← H2.out]; done) | (rw [show ((0 : Int).toNat) = 0 from rfl, ← H2.out]; rfl); rfl)).mono ?_
    rintro e w2 ⟨rfl, hb⟩
    replace NM := Lib.hid (NM.out.below hb)
    replace F := Lib.hid (F.out.trans (hb.mono F.out.size))
    clear hb
    have HA := Lib.hid ((Below.refl w2.heap.size w2).alloc (Nat.le_refl _) (.cells #[.int .u32 1] 41))
    replace F := Lib.hid (F.out.trans (HA.out.mono F.out.size))
    go_wp2_with fail
    refine (cmp_s (NM.out.below HA.out) (NatS.one _ _) o H3.out).mono ?_
    rintro e w9 ⟨rfl, hb⟩
    replace F := Lib.hid (F.out.trans (hb.mono F.out.size))
    clear hb
    go_wp2
    go_ret
    exact ⟨by rw [HR.out]; simp [ho], F.out⟩

theorem limbs_up {M b : Nat} (h : b = Go.Proofs.Ytebfoalcmnpghaa.bitsN M) : (b + 31) / 32 = (nat32 M).length := by
  have key : ∀ k, (nat32 M).length ≤ k ↔ b ≤ 32 * k := fun k => by
    rw [natB_length (b := 4294967296) (by decide), h, Go.Proofs.Ytebfoalcmnpghaa.bitsN_le]
    rw [show (4294967296 : Nat) ^ k = 2 ^ (32 * k) by rw [Nat.pow_mul]]
  have h1 := (key _).1 (Nat.le_refl _)
  have h2 := (key ((b + 31) / 32)).2 (by omega)
  omega

theorem natS_radix {B n : Nat} {w : World} {v : Value} (h : OwnQ .u32 41 B w v ((List.replicate (n + 1) 0).set n 1)) (hn : n ≤ 100000) : NatS w v (radix n) := by
  obtain ⟨a, len, c, rfl, hl, ho⟩ := own_slice h
  refine ⟨a, len, c, _, rfl, ho.reads, ?_, ?_, by simp at hl; omega⟩
  · intro x hx
    rcases List.mem_or_eq_of_mem_set hx with h | h
    · rw [List.eq_of_mem_replicate h]; decide
    · rw [h]; decide
  · have := valB_set 4294967296 (List.replicate (n + 1) 0) n 1 (by simp)
    simp only [val32]
    rw [valB_zeros] at this
    simp at this
    exact this

set_option maxRecDepth 100000 in
set_option maxHeartbeats 1000000 in
theorem R_s (m : Value) (M : Nat) (w : World) (hm : NatS w m M) (hM : Mod3 M) :
    Calls Try.prog 46 #[m] w fun e w' => (∃ v, e = .returned v ∧ NatS w' v (radix (nat32 M).length)) ∧ Below w.heap.size w w' := by
  obtain ⟨i0, hi, hz0, hz1, hz2⟩ := info_parts Try.info32
  have hb0 : ∃ b, b = Go.Proofs.Ytebfoalcmnpghaa.bitsN M := ⟨_, rfl⟩
  obtain ⟨b, hb⟩ := hb0
  have HBT := Lib.hid (bits_s hm b hb)
  have hlu := limbs_up hb
  have hl128 : (nat32 M).length ≤ 128 := (natB_length (b := 4294967296) (by decide) M 128).2 hM.1
  generalize (nat32 M).length = n at *
  obtain ⟨N, hN⟩ : ∃ N, N = n + 1 := ⟨_, rfl⟩
  have e1 : ((b : Int) + 31) / 32 = (n : Int) := by omega
  have e2 : (n : Int) + 1 = (N : Int) := by omega
  have hnN : n < N := by omega
  have hN9 : N ≤ 129 := by omega
  have hbb : b ≤ 4096 := by omega
  have HN := Lib.hid hN
  clear hm hM hb hlu hN
  go_enter Try.func46, Try.ntmps46
  go_wp2_with fail
  refine HBT.out.mono ?_
  rintro e w1 ⟨rfl, hb1⟩
  have F1 := Lib.hid hb1
  have hs1 := hb1.size
  clear hb1
  go_wp2_with (at_make; refine wpList_make_lc .u32 _ rfl _ _ 23 rfl w.heap.size 41 i0 Try.underlying23 hi hz0 hz1 _ _ _ _ N N rfl rfl (by omega) (by omega) (Nat.le_refl _) (by rw [hz2]; omega) (by unfold maxLen; omega) hs1 ?_; intro w2 hown hgrow; have hcell := hown.cellAt (by simp) n hnN; have hfr := hown.frozenAt (by simp) n; have HO := Lib.hid hown; have HB := Lib.hid (F1.out.grown hgrow hs1 (fun _ h => by cases h)); clear hown hgrow)
  have s1 := HO.out.stored (by simp) n 1 1 rfl
  go_wp2
  go_ret
  have h9 := s1.1
  rw [HN.out] at h9
  exact ⟨⟨_, rfl, by rw [HN.out]; exact natS_radix h9 (by omega)⟩, s1.2 _ HB.out⟩

set_option maxHeartbeats 400000 in
theorem less_s (x m : Value) (X M : Nat) (w : World) (hx : NatS w x X) (hm : NatS w m M) (r : Bool) (hr : r = decide (X < M)) :
    Calls Try.prog 44 #[x, m] w fun e w' => e = .returned (.bool r) ∧ Below w.heap.size w w' := by
  have hoo : ∃ o : Int, o = ordR X M ∧ (decide (o < 0) = r) := ⟨_, rfl, by
    rw [hr]
    apply decide_eq_decide.2
    unfold ordR
    split <;> (try split) <;> omega⟩
  obtain ⟨o, ho, hor⟩ := hoo
  have HC := Lib.hid (cmp_s hx hm o ho)
  have HR := Lib.hid hor
  clear hx hm hr ho hor
  go_enter Try.func44, Try.ntmps44
  go_wp2_with fail
  refine HC.out.mono ?_
  rintro e w1 ⟨rfl, hb⟩
  have B1 := Lib.hid hb
  clear hb
  go_wp2
  go_ret
  exact ⟨by rw [← HR.out]; rfl, B1.out⟩

theorem invR_radix {n M : Nat} (hM : Mod3 M) (hn : n ≤ 128) : invR (radix n) M = (nat32 (invN (radix n) M), 0) := invR_yes hM.1 (radix_le hn) (by have := hM.2.1; omega) (gcd_radix hM.2.2 n)
theorem invR_lt {n M : Nat} (hM : Mod3 M) : invN (radix n) M < M := (mon_inv (by have := hM.2.1; omega) (gcd_radix hM.2.2 n)).1
theorem len128 {M : Nat} (hM : Mod3 M) : (nat32 M).length ≤ 128 := (natB_length (b := 4294967296) (by decide) M 128).2 hM.1

set_option maxHeartbeats 1000000 in
theorem In_s (x m : Value) (X M : Nat) (w : World) (hx : NatS w x X) (hm : NatS w m M) (hM : Mod3 M) :
    Calls Try.prog 15 #[x, m] w fun e w' => RetsQ2 .u32 41 w.heap.size w' (inR (nat32 M).length M X) e ∧ Below w.heap.size w w' := by
  have NX := Lib.hid hx
  have NM := Lib.hid hm
  have M3 := Lib.hid hM
  have H0 := Lib.hid (show 0 < M by have := hM.2.1; omega)
  have HMN := Lib.hid (Nat.lt_of_lt_of_le hM.1 topM_le)
  have hn := len128 hM
  have HRT := Lib.hid (radix_le hn)
  have F := Lib.hid (Below.refl w.heap.size w)
  by_cases hX : X < topN
  · have HX := Lib.hid hX
    have HR := Lib.hid (inR_yes (n := (nat32 M).length) (M := M) hX)
    have hmt := Lib.hid (show true = decide (X < topN ∧ 0 < topN) from (decide_eq_true ⟨hX, topN_pos⟩).symm)
    have HMM := Lib.hid (mulModR_yes (x := X) (y := radix (nat32 M).length) M3.out.1 hX HRT.out H0.out)
    clear hX hx hm hM
    go_enter Try.func15, Try.ntmps15
    go_wp2_with fail
    refine (may_s NX.out (NatS.nil _) _ hmt.out).mono ?_
    rintro e w1 ⟨rfl, hb⟩
    replace NX := Lib.hid (NX.out.below hb)
    replace NM := Lib.hid (NM.out.below hb)
    replace F := Lib.hid (F.out.trans (hb.mono F.out.size))
    clear hb
    go_wp2_with fail
    refine (R_s _ _ _ NM.out M3.out).mono ?_
    rintro e w2 ⟨⟨v1, rfl, ho⟩, hb⟩
    replace NX := Lib.hid (NX.out.below hb)
    replace NM := Lib.hid (NM.out.below hb)
    have NR := Lib.hid (ho)
    replace F := Lib.hid (F.out.trans (hb.mono F.out.size))
    clear hb
    go_wp2_with fail
    refine (mulMod_s _ _ _ _ _ _ _ NX.out NR.out NM.out).mono ?_
    rintro e w3 ⟨hr, hb⟩
    rw [HMM.out] at hr
    obtain ⟨v2, rfl, ho⟩ := hr
    replace NX := Lib.hid (NX.out.below hb)
    replace NM := Lib.hid (NM.out.below hb)
    replace NR := Lib.hid (NR.out.below hb)
    have A := Lib.hid (ho.mono F.out.size)
    replace F := Lib.hid (F.out.trans (hb.mono F.out.size))
    clear hb
    go_wp2
    go_ret2
    exact ⟨⟨_, by rw [HR.out]; rfl, by rw [HR.out]; exact A.out⟩, F.out⟩
  · have HR := Lib.hid (inR_no (n := (nat32 M).length) (M := M) hX)
    have hmt := Lib.hid (show false = decide (X < topN ∧ 0 < topN) from (decide_eq_false (fun h => hX h.1)).symm)
    clear hX hx hm hM
    go_enter Try.func15, Try.ntmps15
    go_wp2_with fail
    refine (may_s NX.out (NatS.nil _) _ hmt.out).mono ?_
    rintro e w1 ⟨rfl, hb⟩
    replace F := Lib.hid (F.out.trans (hb.mono F.out.size))
    clear hb
    go_wp2
    go_ret2
    exact ⟨⟨_, by rw [HR.out]; rfl, by rw [HR.out]; exact OwnQ.nil _ _ _ _⟩, F.out⟩

set_option maxHeartbeats 1000000 in
theorem Out_s (x m : Value) (X M E : Nat) (w : World) (hx : NatS w x X) (hm : NatS w m M) (hM : Mod3 M) (hE : E ≤ 19000) (hP : M * M < 2 ^ E) :
    Calls Try.prog 17 #[x, m] w fun e w' => RetsQ2 .u32 41 w.heap.size w' (outR (nat32 M).length M X) e ∧ Below w.heap.size w w' := by
  have NX := Lib.hid hx
  have NM := Lib.hid hm
  have M3 := Lib.hid hM
  have H0 := Lib.hid (show 0 < M by have := hM.2.1; omega)
  have HMN := Lib.hid (Nat.lt_of_lt_of_le hM.1 topM_le)
  have hn := len128 hM
  have HRT := Lib.hid (radix_le hn)
  have F := Lib.hid (Below.refl w.heap.size w)
  have HI := Lib.hid (invR_radix hM hn)
  have HIL := Lib.hid (Nat.lt_trans (invR_lt (n := (nat32 M).length) hM) (Nat.lt_of_lt_of_le hM.1 topM_le))
  have HP := Lib.hid hP
  by_cases hX : X < M
  · have HX := Lib.hid (Nat.lt_trans hX HMN.out)
    have HR := Lib.hid (outR_yes (n := (nat32 M).length) hX)
    have hmt := Lib.hid (show true = decide (X < M) from (decide_eq_true hX).symm)
    have HMM := Lib.hid (mulModR_yes (x := X) (y := invN (radix (nat32 M).length) M) M3.out.1 HX.out HIL.out H0.out)
    clear hX hx hm hM hP
    go_enter Try.func17, Try.ntmps17
    go_wp2_with fail
    refine (less_s _ _ _ _ _ NX.out NM.out _ hmt.out).mono ?_
    rintro e w1 ⟨rfl, hb⟩
    replace NX := Lib.hid (NX.out.below hb)
    replace NM := Lib.hid (NM.out.below hb)
    replace F := Lib.hid (F.out.trans (hb.mono F.out.size))
    clear hb
    go_wp2_with fail
    refine (R_s _ _ _ NM.out M3.out).mono ?_
    rintro e w2 ⟨⟨v1, rfl, ho⟩, hb⟩
    replace NX := Lib.hid (NX.out.below hb)
    replace NM := Lib.hid (NM.out.below hb)
    have NR := Lib.hid (ho)
    replace F := Lib.hid (F.out.trans (hb.mono F.out.size))
    clear hb
    go_wp2_with fail
    refine (inverse_s _ _ _ _ E _ NR.out NM.out hE (fun _ => HP.out)).mono ?_
    rintro e w3 ⟨hr, hb⟩
    rw [HI.out] at hr
    obtain ⟨v2, rfl, ho⟩ := hr
    dsimp only
    replace NX := Lib.hid (NX.out.below hb)
    replace NM := Lib.hid (NM.out.below hb)
    replace NR := Lib.hid (NR.out.below hb)
    have NI := Lib.hid (NatS.of ho HIL.out)
    replace F := Lib.hid (F.out.trans (hb.mono F.out.size))
    clear hb
    go_wp2_with fail
    refine (mulMod_s _ _ _ _ _ _ _ NX.out NI.out NM.out).mono ?_
    rintro e w4 ⟨hr, hb⟩
    rw [HMM.out] at hr
    obtain ⟨v3, rfl, ho⟩ := hr
    replace NX := Lib.hid (NX.out.below hb)
    replace NM := Lib.hid (NM.out.below hb)
    replace NR := Lib.hid (NR.out.below hb)
    replace NI := Lib.hid (NI.out.below hb)
    have A := Lib.hid (ho.mono F.out.size)
    replace F := Lib.hid (F.out.trans (hb.mono F.out.size))
    clear hb
    go_wp2
    go_ret2
    exact ⟨⟨_, by rw [HR.out]; rfl, by rw [HR.out]; exact A.out⟩, F.out⟩
  · have HR := Lib.hid (outR_no (n := (nat32 M).length) hX)
    have hmt := Lib.hid (show false = decide (X < M) from (decide_eq_false hX).symm)
    clear hX hx hm hM hP
    go_enter Try.func17, Try.ntmps17
    go_wp2_with fail
    refine (less_s _ _ _ _ _ NX.out NM.out _ hmt.out).mono ?_
    rintro e w1 ⟨rfl, hb⟩
    replace F := Lib.hid (F.out.trans (hb.mono F.out.size))
    clear hb
    go_wp2
    go_ret2
    exact ⟨⟨_, by rw [HR.out]; rfl, by rw [HR.out]; exact OwnQ.nil _ _ _ _⟩, F.out⟩

theorem prod_form (n M X Y : Nat) : X * Y % M * invN (radix n) M % M = monN n M (X * Y) := by unfold monN; rw [Nat.mod_mul_mod]

set_option maxHeartbeats 2000000 in
theorem Product_s (x y m : Value) (X Y M E : Nat) (w : World) (hx : NatS w x X) (hy : NatS w y Y) (hm : NatS w m M) (hM : Mod3 M) (hE : E ≤ 19000) (hP : M * M < 2 ^ E) :
    Calls Try.prog 13 #[x, y, m] w fun e w' => RetsQ2 .u32 41 w.heap.size w' (productR (nat32 M).length M X Y) e ∧ Below w.heap.size w w' := by
  have NX := Lib.hid hx
  have NM := Lib.hid hm
  have M3 := Lib.hid hM
  have H0 := Lib.hid (show 0 < M by have := hM.2.1; omega)
  have HMN := Lib.hid (Nat.lt_of_lt_of_le hM.1 topM_le)
  have hn := len128 hM
  have HRT := Lib.hid (radix_le hn)
  have F := Lib.hid (Below.refl w.heap.size w)
  have HI := Lib.hid (invR_radix hM hn)
  have HIL := Lib.hid (Nat.lt_trans (invR_lt (n := (nat32 M).length) hM) (Nat.lt_of_lt_of_le hM.1 topM_le))
  have NY := Lib.hid hy
  have HP := Lib.hid hP
  by_cases hX : X < M
  · have hmt := Lib.hid (show true = decide (X < M) from (decide_eq_true hX).symm)
    by_cases hY : Y < M
    · have HR := Lib.hid (productR_yes (n := (nat32 M).length) hX hY)
      have hmu := Lib.hid (show true = decide (Y < M) from (decide_eq_true hY).symm)
      have HMM := Lib.hid (mulModR_yes (x := X) (y := Y) M3.out.1 (Nat.lt_trans hX HMN.out) (Nat.lt_trans hY HMN.out) H0.out)
      have HXY := Lib.hid (Nat.lt_trans (Nat.mod_lt (X * Y) H0.out) HMN.out)
      have HM2 := Lib.hid (mulModR_yes (x := X * Y % M) (y := invN (radix (nat32 M).length) M) M3.out.1 HXY.out HIL.out H0.out)
      clear hX hY hx hy hm hM hP
      go_enter Try.func13, Try.ntmps13
      go_wp2_with fail
      refine (less_s _ _ _ _ _ NX.out NM.out _ hmt.out).mono ?_
      rintro e w1 ⟨rfl, hb⟩
      replace NX := Lib.hid (NX.out.below hb)
      replace NY := Lib.hid (NY.out.below hb)
      replace NM := Lib.hid (NM.out.below hb)
      replace F := Lib.hid (F.out.trans (hb.mono F.out.size))
      clear hb
      go_wp2_with fail
      refine (less_s _ _ _ _ _ NY.out NM.out _ hmu.out).mono ?_
      rintro e w2 ⟨rfl, hb⟩
      replace NX := Lib.hid (NX.out.below hb)
      replace NY := Lib.hid (NY.out.below hb)
      replace NM := Lib.hid (NM.out.below hb)
      replace F := Lib.hid (F.out.trans (hb.mono F.out.size))
      clear hb
      go_wp2_with fail
      refine (R_s _ _ _ NM.out M3.out).mono ?_
      rintro e w3 ⟨⟨v1, rfl, ho⟩, hb⟩
      replace NX := Lib.hid (NX.out.below hb)
      replace NY := Lib.hid (NY.out.below hb)
      replace NM := Lib.hid (NM.out.below hb)
      have NR := Lib.hid (ho)
      replace F := Lib.hid (F.out.trans (hb.mono F.out.size))
      clear hb
      go_wp2_with fail
      refine (inverse_s _ _ _ _ E _ NR.out NM.out hE (fun _ => HP.out)).mono ?_
      rintro e w4 ⟨hr, hb⟩
      rw [HI.out] at hr
      obtain ⟨v2, rfl, ho⟩ := hr
      dsimp only
      replace NX := Lib.hid (NX.out.below hb)
      replace NY := Lib.hid (NY.out.below hb)
      replace NM := Lib.hid (NM.out.below hb)
      replace NR := Lib.hid (NR.out.below hb)
      have NI := Lib.hid (NatS.of ho HIL.out)
      replace F := Lib.hid (F.out.trans (hb.mono F.out.size))
      clear hb
      go_wp2_with fail
      refine (mulMod_s _ _ _ _ _ _ _ NX.out NY.out NM.out).mono ?_
      rintro e w5 ⟨hr, hb⟩
      rw [HMM.out] at hr
      obtain ⟨v3, rfl, ho⟩ := hr
      dsimp only
      replace NX := Lib.hid (NX.out.below hb)
      replace NY := Lib.hid (NY.out.below hb)
      replace NM := Lib.hid (NM.out.below hb)
      replace NR := Lib.hid (NR.out.below hb)
      replace NI := Lib.hid (NI.out.below hb)
      have NP := Lib.hid (NatS.of ho HXY.out)
      replace F := Lib.hid (F.out.trans (hb.mono F.out.size))
      clear hb
      go_wp2_with fail
      refine (mulMod_s _ _ _ _ _ _ _ NP.out NI.out NM.out).mono ?_
      rintro e w6 ⟨hr, hb⟩
      rw [HM2.out, prod_form] at hr
      obtain ⟨v4, rfl, ho⟩ := hr
      replace NX := Lib.hid (NX.out.below hb)
      replace NY := Lib.hid (NY.out.below hb)
      replace NM := Lib.hid (NM.out.below hb)
      replace NR := Lib.hid (NR.out.below hb)
      replace NI := Lib.hid (NI.out.below hb)
      replace NP := Lib.hid (NP.out.below hb)
      have A := Lib.hid (ho.mono F.out.size)
      replace F := Lib.hid (F.out.trans (hb.mono F.out.size))
      clear hb
      go_wp2
      go_ret2
      exact ⟨⟨_, by rw [HR.out]; rfl, by rw [HR.out]; exact A.out⟩, F.out⟩
    · have HR := Lib.hid (productR_no (n := (nat32 M).length) (M := M) (X := X) (Y := Y) (fun h => hY h.2))
      have hmu := Lib.hid (show false = decide (Y < M) from (decide_eq_false hY).symm)
      clear hX hY hx hy hm hM hP
      go_enter Try.func13, Try.ntmps13
      go_wp2_with fail
      refine (less_s _ _ _ _ _ NX.out NM.out _ hmt.out).mono ?_
      rintro e w1 ⟨rfl, hb⟩
      replace NX := Lib.hid (NX.out.below hb)
      replace NY := Lib.hid (NY.out.below hb)
      replace NM := Lib.hid (NM.out.below hb)
      replace F := Lib.hid (F.out.trans (hb.mono F.out.size))
      clear hb
      go_wp2_with fail
      refine (less_s _ _ _ _ _ NY.out NM.out _ hmu.out).mono ?_
      rintro e w2 ⟨rfl, hb⟩
      replace NX := Lib.hid (NX.out.below hb)
      replace NY := Lib.hid (NY.out.below hb)
      replace NM := Lib.hid (NM.out.below hb)
      replace F := Lib.hid (F.out.trans (hb.mono F.out.size))
      clear hb
      go_wp2
      go_ret2
      exact ⟨⟨_, by rw [HR.out]; rfl, by rw [HR.out]; exact OwnQ.nil _ _ _ _⟩, F.out⟩
  · have HR := Lib.hid (productR_no (n := (nat32 M).length) (M := M) (X := X) (Y := Y) (fun h => hX h.1))
    have hmt := Lib.hid (show false = decide (X < M) from (decide_eq_false hX).symm)
    clear hX hx hy hm hM hP
    go_enter Try.func13, Try.ntmps13
    go_wp2_with fail
    refine (less_s _ _ _ _ _ NX.out NM.out _ hmt.out).mono ?_
    rintro e w1 ⟨rfl, hb⟩
    replace F := Lib.hid (F.out.trans (hb.mono F.out.size))
    clear hb
    go_wp2
    go_ret2
    exact ⟨⟨_, by rw [HR.out]; rfl, by rw [HR.out]; exact OwnQ.nil _ _ _ _⟩, F.out⟩

end rf

end Go.Proofs.Ytebfoalcmnpghaa

namespace Go.Proofs.Ytebfoalcmnpghaa
open Go.RowKit

namespace rf

theorem low_step {X K M i : Nat} (hb : K.testBit i = true) : X ^ (K % 2 ^ i) % M * (X ^ 2 ^ i % M) % M = X ^ (K % 2 ^ (i + 1)) % M := by
  rw [← Nat.mul_mod, ← Nat.pow_add]
  congr 2
  rw [Nat.testBit_eq_decide_div_mod_eq] at hb
  have h := of_decide_eq_true hb
  rw [Nat.pow_succ, Nat.mod_mul, h, Nat.mul_one]
theorem low_stay {X K M i : Nat} (hb : K.testBit i = false) : X ^ (K % 2 ^ i) % M = X ^ (K % 2 ^ (i + 1)) % M := by
  congr 2
  rw [Nat.testBit_eq_decide_div_mod_eq] at hb
  have h := of_decide_eq_false hb
  have h2 : K / 2 ^ i % 2 = 0 := by omega
  rw [Nat.pow_succ, Nat.mod_mul, h2, Nat.mul_zero, Nat.add_zero]
theorem by_step {X M i : Nat} : X ^ 2 ^ i % M * (X ^ 2 ^ i % M) % M = X ^ 2 ^ (i + 1) % M := by
  rw [← Nat.mul_mod, ← Nat.pow_add]
  congr 2
  rw [Nat.pow_succ]
  omega
theorem low_all {K b : Nat} (h : b = Go.Proofs.Ytebfoalcmnpghaa.bitsN K) : K % 2 ^ b = K := Nat.mod_eq_of_lt ((Go.Proofs.Ytebfoalcmnpghaa.bitsN_le K b).1 (by omega))

/-- A natural in a slice that is trimmed, or a 1. -/
theorem one_own (B : Nat) (w : World) (hB : B ≤ w.heap.size) : OwnQ .u32 41 B (w.alloc (.cells #[.int .u32 1] 41)) (.slice (some ⟨w.heap.size, 0, none⟩) 1 1) (nat32 1) := by
  rw [show nat32 1 = [1] from nat32_lit [1] 1 (fun x hx => by obtain rfl := List.mem_singleton.1 hx; decide) (by decide) rfl]
  exact OwnQ.one .u32 w _ B hB 1 1 rfl

set_option maxRecDepth 100000 in
set_option maxHeartbeats 2000000 in
theorem Power_s (x k m : Value) (X K M : Nat) (w : World) (hx : NatS w x X) (hk : NatS w k K) (hm : NatS w m M) (hM : Mod3 M) :
    Calls Try.prog 23 #[x, k, m] w fun e w' => RetsQ2 .u32 41 w.heap.size w' (powR M X K) e ∧ Below w.heap.size w w' := by
  have NX := Lib.hid hx
  have NK := Lib.hid hk
  have NM := Lib.hid hm
  have H0 := Lib.hid (show 0 < M by have := hM.2.1; omega)
  have HMM := Lib.hid hM.1
  have HMN := Lib.hid (Nat.lt_of_lt_of_le hM.1 topM_le)
  have F := Lib.hid (Below.refl w.heap.size w)
  have hm1 : 1 < M := by have := hM.2.1; omega
  have HM1 := Lib.hid hm1
  clear hm1
  by_cases hXK : X < topN ∧ K < topN
  · have HR := Lib.hid (powR_yes (M := M) hXK.1 hXK.2)
    have HX := Lib.hid hXK.1
    have HK := Lib.hid hXK.2
    have hmt := Lib.hid (show true = decide (X < topN ∧ K < topN) from (decide_eq_true hXK).symm)
    have hbb : ∃ b, b = Go.Proofs.Ytebfoalcmnpghaa.bitsN K := ⟨_, rfl⟩
    obtain ⟨b, hb⟩ := hbb
    have hb8 : b ≤ 8192 := by
      rw [hb]
      exact (Go.Proofs.Ytebfoalcmnpghaa.bitsN_le K 8192).2 (by rw [← topN_two]; exact hXK.2)
    have HBN := Lib.hid hb
    clear hx hk hm hM hXK hb
    go_enter Try.func23, Try.ntmps23
    go_wp2_with fail
    refine (may_s NX.out NK.out _ hmt.out).mono ?_
    rintro e w1 ⟨rfl, hb⟩
    replace NX := Lib.hid (NX.out.below hb)
    replace NK := Lib.hid (NK.out.below hb)
    replace NM := Lib.hid (NM.out.below hb)
    replace F := Lib.hid (F.out.trans (hb.mono F.out.size))
    clear hb
    have HA := Lib.hid ((Below.refl w1.heap.size w1).alloc (Nat.le_refl _) (.cells #[.int .u32 1] 41))
    have O1 := Lib.hid (one_own w.heap.size w1 F.out.size)
    go_wp2_with fail
    replace NX := Lib.hid (NX.out.below HA.out)
    replace NK := Lib.hid (NK.out.below HA.out)
    replace NM := Lib.hid (NM.out.below HA.out)
    replace F := Lib.hid (F.out.trans (HA.out.mono F.out.size))
    clear HA
    generalize hwA : w1.alloc (.cells #[.int .u32 1] 41) = wA at *
    generalize w1.heap.size = g1 at *
    clear hwA
    skip
    refine (div_ok NX.out NM.out HX.out HMN.out H0.out).mono ?_
    rintro e w2 ⟨⟨v2, u2, rfl, -, ho⟩, hb⟩
    replace NX := Lib.hid (NX.out.below hb)
    replace NK := Lib.hid (NK.out.below hb)
    replace NM := Lib.hid (NM.out.below hb)
    replace O1 := Lib.hid (O1.out.below hb)
    have BY := Lib.hid (ho.mono F.out.size)
    replace F := Lib.hid (F.out.trans (hb.mono F.out.size))
    clear hb
    go_wp2_with fail
    refine (bits_s NK.out b HBN.out).mono ?_
    rintro e w3 ⟨rfl, hb⟩
    replace NX := Lib.hid (NX.out.below hb)
    replace NK := Lib.hid (NK.out.below hb)
    replace NM := Lib.hid (NM.out.below hb)
    replace O1 := Lib.hid (O1.out.below hb)
    replace BY := Lib.hid (BY.out.below hb)
    replace F := Lib.hid (F.out.trans (hb.mono F.out.size))
    clear hb
    go_wp2
    go_loopw [9, 11, 14] (fun ov bv iv wr => ∃ i : Nat, iv = .int .i64 (i : Int) ∧ i ≤ b ∧ Hid (OwnQ .u32 41 w.heap.size wr ov (nat32 (X ^ (K % 2 ^ i) % M)) ∧ OwnQ .u32 41 w.heap.size wr bv (nat32 (X ^ 2 ^ i % M)) ∧ Below w3.heap.size w3 wr)) (fun _ _ iv _ => b - (intOf iv).toNat)
    case atStart => exact ⟨0, rfl, Nat.zero_le _, by rw [show K % 2 ^ 0 = 0 by rw [Nat.pow_zero, Nat.mod_one], Nat.pow_zero, Nat.mod_eq_of_lt HM1.out]; exact O1.out, by rw [Nat.pow_zero, Nat.pow_one]; exact BY.out, Below.refl _ _⟩
    case round =>
      obtain ⟨i, rfl, hi, hI⟩ := hrel
      obtain ⟨hO, hB, hbl⟩ := hI.out
      have OO := Lib.hid hO
      have OB := Lib.hid hB
      have BL := Lib.hid hbl
      have NK2 := Lib.hid (NK.out.below hbl)
      have NM2 := Lib.hid (NM.out.below hbl)
      have F2 := Lib.hid (F.out.trans (hbl.mono F.out.size))
      clear hO hB hbl hI
      by_cases hib : i < b
      · have hl1 := Lib.hid (Nat.lt_trans (Nat.mod_lt (X ^ (K % 2 ^ i)) H0.out) HMN.out)
        have hl2 := Lib.hid (Nat.lt_trans (Nat.mod_lt (X ^ 2 ^ i) H0.out) HMN.out)
        have MM1 := Lib.hid (mulModR_yes HMM.out hl1.out hl2.out H0.out)
        have MM2 := Lib.hid (mulModR_yes HMM.out hl2.out hl2.out H0.out)
        rw [by_step] at MM2
        rcases hbit : K.testBit i with _ | _
        · have HST := Lib.hid (low_stay (X := X) (M := M) hbit)
          have HBT := Lib.hid (show false = (decide (0 ≤ (i : Int)) && K.testBit (i : Int).toNat) by rw [Int.toNat_natCast, hbit, decide_eq_true (by omega)]; rfl)
          clear hbit
          go_wp2_with fail
          refine (bit_s NK2.out (i : Int) (by omega) _ HBT.out).mono ?_
          rintro e w8 ⟨rfl, hb⟩
          have OO8 := Lib.hid (OO.out.below hb)
          have OB8 := Lib.hid (OB.out.below hb)
          have NM8 := Lib.hid (NM2.out.below hb)
          have BL8 := Lib.hid (BL.out.trans (hb.mono BL.out.size))
          have hs8 := Lib.hid (Nat.le_trans F2.out.size hb.size)
          clear hb
          go_wp2_with fail
          refine (mulMod_s _ _ _ _ _ _ _ (NatS.of OB8.out hl2.out) (NatS.of OB8.out hl2.out) NM8.out).mono ?_
          rintro e w9 ⟨hr, hb⟩
          rw [MM2.out] at hr
          obtain ⟨v9, rfl, ho⟩ := hr
          dsimp only
          have OO9 := Lib.hid (OO8.out.below hb)
          have OB9 := Lib.hid (ho.mono hs8.out)
          have BL9 := Lib.hid (BL8.out.trans (hb.mono BL8.out.size))
          clear hb ho
          go_wp2
          go_roundw
          case rel => exact ⟨i + 1, by go_num, by omega, by rw [← HST.out]; exact OO9.out, OB9.out, BL9.out⟩
          case measure => simp [intOf] <;> omega
        · have HST := Lib.hid (low_step (X := X) (M := M) hbit)
          rw [HST.out] at MM1
          have HBT := Lib.hid (show true = (decide (0 ≤ (i : Int)) && K.testBit (i : Int).toNat) by rw [Int.toNat_natCast, hbit, decide_eq_true (by omega)]; rfl)
          clear hbit
          go_wp2_with fail
          refine (bit_s NK2.out (i : Int) (by omega) _ HBT.out).mono ?_
          rintro e w8 ⟨rfl, hb⟩
          have OO8 := Lib.hid (OO.out.below hb)
          have OB8 := Lib.hid (OB.out.below hb)
          have NM8 := Lib.hid (NM2.out.below hb)
          have BL8 := Lib.hid (BL.out.trans (hb.mono BL.out.size))
          have hs8 := Lib.hid (Nat.le_trans F2.out.size hb.size)
          clear hb
          go_wp2_with fail
          refine (mulMod_s _ _ _ _ _ _ _ (NatS.of OO8.out hl1.out) (NatS.of OB8.out hl2.out) NM8.out).mono ?_
          rintro e w9 ⟨hr, hb⟩
          rw [MM1.out] at hr
          obtain ⟨v9, rfl, ho⟩ := hr
          dsimp only
          have OO9 := Lib.hid (ho.mono hs8.out)
          have OB9 := Lib.hid (OB8.out.below hb)
          have NM9 := Lib.hid (NM8.out.below hb)
          have BL9 := Lib.hid (BL8.out.trans (hb.mono BL8.out.size))
          have hs9 := Lib.hid (Nat.le_trans hs8.out hb.size)
          clear hb ho
          go_wp2_with fail
          refine (mulMod_s _ _ _ _ _ _ _ (NatS.of OB9.out hl2.out) (NatS.of OB9.out hl2.out) NM9.out).mono ?_
          rintro e w10 ⟨hr, hb⟩
          rw [MM2.out] at hr
          obtain ⟨v10, rfl, ho⟩ := hr
          dsimp only
          have OO10 := Lib.hid (OO9.out.below hb)
          have OB10 := Lib.hid (ho.mono hs9.out)
          have BL10 := Lib.hid (BL9.out.trans (hb.mono BL9.out.size))
          clear hb ho
          go_wp2
          go_roundw
          case rel => exact ⟨i + 1, by go_num, by omega, OO10.out, OB10.out, BL10.out⟩
          case measure => simp [intOf] <;> omega
      · obtain rfl : i = b := by omega
        have HKK := Lib.hid (low_all HBN.out)
        rw [HKK.out] at OO
        go_wp2
        go_ret2
        exact ⟨⟨_, by rw [HR.out]; rfl, by rw [HR.out]; exact OO.out⟩, F2.out⟩
  · have HR := Lib.hid (powR_no (M := M) hXK)
    have hmt := Lib.hid (show false = decide (X < topN ∧ K < topN) from (decide_eq_false hXK).symm)
    clear hXK hx hk hm hM
    go_enter Try.func23, Try.ntmps23
    go_wp2_with fail
    refine (may_s NX.out NK.out _ hmt.out).mono ?_
    rintro e w1 ⟨rfl, hb⟩
    replace F := Lib.hid (F.out.trans (hb.mono F.out.size))
    clear hb
    go_wp2
    go_ret2
    exact ⟨⟨_, by rw [HR.out]; rfl, by rw [HR.out]; exact OwnQ.nil _ _ _ _⟩, F.out⟩

end rf

end Go.Proofs.Ytebfoalcmnpghaa
