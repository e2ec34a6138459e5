/-
  RATIO's Inverse OF ANY TWO; THE LAW's is AND alive.
-/
import Derived.Test.YtcnpgebjjknheaaInvA
import Derived.Test.YtcnpgebjjknheaaNatG
namespace Go.Proofs.Ytcnpgebjjknheaa
open Go.RowKit

set_option maxHeartbeats 1000000 in
theorem inverse_any (x m : Value) (X M : Nat) (w : World) (hx : NatAt w x X) (hm : NatAt w m M) (hs : Small x) :
    Calls Try.prog 24 #[x, m] w fun e w' => RetsQ2 .u32 41 w.heap.size w' (invR X M) e ∧ Below w.heap.size w w' := by
  by_cases hM : M < topM
  · by_cases hX : X < topN
    · by_cases h2 : 2 ≤ M
      · exact inverse_main x m X M w hx hm hs hM hX h2
      · have hr := Lib.hid (invR_none hM hX (fun h => h2 h.1))
        have ho : ¬ (0 : Int) < ordN M 1 := by unfold ordN; split <;> (try split) <;> omega
        have NX := Lib.hid hx
        have NM := Lib.hid hm
        have HM := Lib.hid hM
        have HX := Lib.hid hX
        clear hx hm hs hM hX h2
        go_enter Try.func24, Try.ntmps24
        go_wp2_with fail
        refine (modulus_ok m M w NM.out HM.out).mono ?_
        rintro e w1 ⟨⟨v1, rfl, ho1⟩, hb1⟩
        have N1 := Lib.hid (natAt_own ho1)
        have B1 := Lib.hid hb1
        have NX1 := Lib.hid (NX.out.below hb1)
        clear ho1 hb1
        go_wp2_with fail
        refine (trim_ok NX1.out HX.out).mono ?_
        rintro e w2 ⟨⟨v2, rfl, ho2⟩, hb2⟩
        have N2 := Lib.hid (N1.out.below hb2)
        have B2 := Lib.hid (B1.out.trans (hb2.mono B1.out.size))
        clear ho2 hb2
        go_wp2_with fail
        refine (of_own 1 1 rfl _ (by decide)).mono ?_
        rintro e w3 ⟨⟨v3, rfl, ho3⟩, hb3⟩
        have O3 := Lib.hid (natAt_own ho3)
        have N3 := Lib.hid (N2.out.below hb3)
        have B3 := Lib.hid (B2.out.trans (hb3.mono B2.out.size))
        clear ho3 hb3
        have hcm := Lib.hid (cmp_nat N3.out O3.out _ rfl)
        generalize ordN M 1 = o at *
        go_wp2_with fail
        refine hcm.out.mono ?_
        rintro e w4 ⟨rfl, hb4⟩
        have B4 := Lib.hid (B3.out.trans (hb4.mono B3.out.size))
        clear hb4
        go_wp2_with fail
        go_ret2
        exact ⟨⟨_, by rw [hr.out]; rfl, by rw [hr.out]; exact ownNil _ _ _⟩, B4.out⟩
    · have hr := Lib.hid (invR_no (x := X) (m := M) (fun h => hX h.2))
      have NX := Lib.hid hx
      have NM := Lib.hid hm
      have HM := Lib.hid hM
      have HX := Lib.hid hX
      clear hx hm hs hM hX
      go_enter Try.func24, Try.ntmps24
      go_wp2_with fail
      refine (modulus_ok m M w NM.out HM.out).mono ?_
      rintro e w1 ⟨⟨v1, rfl, ho1⟩, hb1⟩
      have B1 := Lib.hid hb1
      have NX1 := Lib.hid (NX.out.below hb1)
      clear ho1 hb1
      go_wp2_with fail
      refine (trim_no NX1.out HX.out).mono ?_
      rintro e w2 ⟨⟨v2, rfl⟩, hb2⟩
      have B2 := Lib.hid (B1.out.trans (hb2.mono B1.out.size))
      clear hb2
      go_wp2_with fail
      go_ret2
      exact ⟨⟨_, by rw [hr.out]; rfl, by rw [hr.out]; exact ownNil _ _ _⟩, B2.out⟩
  · have hr := Lib.hid (invR_no (x := X) (m := M) (fun h => hM h.1))
    have NM := Lib.hid hm
    have HM := Lib.hid hM
    clear hx hm hs hM
    go_enter Try.func24, Try.ntmps24
    go_wp2_with fail
    refine (modulus_no m M w NM.out HM.out).mono ?_
    rintro e w1 ⟨⟨v1, rfl⟩, hb1⟩
    have B1 := Lib.hid hb1
    clear hb1
    go_wp2_with fail
    go_ret2
    exact ⟨⟨_, by rw [hr.out]; rfl, by rw [hr.out]; exact ownNil _ _ _⟩, B1.out⟩

theorem of_nat (n : Int) (k : Nat) (hk : n = k) (w : World) (hn : k < 18446744073709551616) : Calls Try.prog 26 #[.int .u64 n] w fun e w' => (∃ v, e = .returned v ∧ NatC w' v k) ∧ Below w.heap.size w w' :=
  (of_any n k hk w hn).mono fun e w' ⟨⟨v, he, ho⟩, hb⟩ => ⟨⟨v, he, NatC.of ho⟩, hb⟩
theorem natC_slice {w : World} {v : Value} {n : Nat} (h : NatC w v n) : ∃ a cap, v = .slice a (nat32 n).length cap ∧ NatC w (.slice a (nat32 n).length cap) n := by
  obtain ⟨a, len, cap, rfl, hr⟩ := h
  obtain rfl : (nat32 n).length = len := hr.length
  exact ⟨a, cap, rfl, ⟨a, _, cap, rfl, hr⟩⟩
theorem natC_small {w : World} {v : Value} {n : Nat} (h : NatC w v n) (hn : n < topN) : Small v := fun a len cap e => by
  obtain ⟨a', len', cap', rfl, hr⟩ := h
  cases e
  have := (natB_length (b := 4294967296) (by decide) n 256).2 hn
  rw [← hr.length]
  exact Nat.le_trans this (by decide)
theorem gcd_nat {x y : Value} {X Y : Nat} {w : World} (hx : NatAt w x X) (hy : NatAt w y Y) (hX : X < topN) (hY : Y < topN) :
    Calls Try.prog 19 #[x, y] w fun e w' => RetN w' (Nat.gcd X Y) e ∧ Below w.heap.size w w' := by
  refine (gcd_any x y X Y w hx hy).mono fun e w' ⟨he, hb⟩ => ⟨?_, hb⟩
  rw [gcdR_yes hX hY] at he
  exact he.num
theorem inv_nat {x m : Value} {X M : Nat} {w : World} (hx : NatAt w x X) (hm : NatAt w m M) (hs : Small x) (hM : M < topM) (hX : X < topN) (h2 : 2 ≤ M) (hg : Nat.gcd M X = 1) :
    Calls Try.prog 24 #[x, m] w fun e w' => RetN w' (invN X M) e ∧ Below w.heap.size w w' := by
  refine (inverse_any x m X M w hx hm hs).mono fun e w' ⟨he, hb⟩ => ⟨?_, hb⟩
  rw [invR_yes hM hX h2 hg] at he
  exact he.num
theorem lt_topM {n : Nat} (h : n < 4294967296 ^ 2) : n < topM := Nat.lt_of_lt_of_le h (by unfold topM; exact Nat.pow_le_pow_right (by decide) (by decide))

set_option maxHeartbeats 400000 in
theorem is_nat (x : Value) (X k : Nat) (n : Int) (hn : n = k) (w : World) (hx : NatC w x X) (hk : k < 18446744073709551616) (r : Bool) (hr : r = decide (X = k)) :
    Calls Try.prog 28 #[x, .int .i64 0, .int .u64 n] w fun e w' => e = .returned (.bool r) ∧ Below w.heap.size w w' := by
  have NX := Lib.hid hx
  have HR := Lib.hid hr
  have HK := Lib.hid hk
  have HN := Lib.hid hn
  clear hx hr hk hn
  go_enter Try.func28, Try.ntmps28
  go_wp2_with fail
  refine (of_nat n k HN.out w HK.out).mono ?_
  rintro e w1 ⟨⟨v1, rfl, hv⟩, hb⟩
  have N1 := Lib.hid hv
  have NX1 := Lib.hid (NX.out.below hb)
  have B1 := Lib.hid hb
  clear hv hb
  go_wp2_with fail
  refine (same_nat NX1.out N1.out r HR.out).mono ?_
  rintro e w2 ⟨rfl, hb⟩
  have B2 := Lib.hid (B1.out.trans (hb.mono B1.out.size))
  clear hb
  go_wp2_with fail
  go_ret
  exact ⟨rfl, B2.out⟩

set_option maxHeartbeats 2000000 in
theorem alive_any (w : World) : Calls Try.prog 27 #[] w fun e w' => e = .returned (.bool true) ∧ Below w.heap.size w w' := by
  go_enter Try.func27, Try.ntmps27
  go_wp2_with fail
  refine (of_nat 17 17 rfl _ (by decide)).mono ?_
  rintro e w1 ⟨⟨v, rfl, hv⟩, hb⟩
  have H0 := Lib.hid hb
  have A1 := Lib.hid hv
  clear hb hv
  go_wp2_with fail
  refine (of_nat 5 5 rfl _ (by decide)).mono ?_
  rintro e w2 ⟨⟨v, rfl, hv⟩, hb⟩
  replace H0 := Lib.hid (H0.out.trans (hb.mono H0.out.size))
  replace A1 := Lib.hid (A1.out.below hb)
  have A2 := Lib.hid hv
  clear hb hv
  go_wp2_with fail
  refine (div_nat A1.out.at A2.out.at (lt_top (by decide)) (lt_top (by decide)) (by decide)).mono ?_
  rintro e w3 ⟨⟨qv, sv, rfl, hq, hs⟩, hb⟩
  replace H0 := Lib.hid (H0.out.trans (hb.mono H0.out.size))
  replace A1 := Lib.hid (A1.out.below hb)
  replace A2 := Lib.hid (A2.out.below hb)
  have Q := Lib.hid hq
  have S := Lib.hid hs
  clear hb hq hs
  clear A1 A2
  go_wp2_with fail
  refine (of_nat 12 12 rfl _ (by decide)).mono ?_
  rintro e w4 ⟨⟨v, rfl, hv⟩, hb⟩
  replace H0 := Lib.hid (H0.out.trans (hb.mono H0.out.size))
  replace Q := Lib.hid (Q.out.below hb)
  replace S := Lib.hid (S.out.below hb)
  have A3 := Lib.hid hv
  clear hb hv
  go_wp2_with fail
  refine (of_nat 18 18 rfl _ (by decide)).mono ?_
  rintro e w5 ⟨⟨v, rfl, hv⟩, hb⟩
  replace H0 := Lib.hid (H0.out.trans (hb.mono H0.out.size))
  replace Q := Lib.hid (Q.out.below hb)
  replace S := Lib.hid (S.out.below hb)
  replace A3 := Lib.hid (A3.out.below hb)
  have A4 := Lib.hid hv
  clear hb hv
  go_wp2_with fail
  refine (gcd_nat A3.out.at A4.out.at (lt_top (by decide)) (lt_top (by decide))).mono ?_
  rintro e w6 ⟨⟨gv, rfl, hg⟩, hb⟩
  replace H0 := Lib.hid (H0.out.trans (hb.mono H0.out.size))
  replace Q := Lib.hid (Q.out.below hb)
  replace S := Lib.hid (S.out.below hb)
  replace A3 := Lib.hid (A3.out.below hb)
  replace A4 := Lib.hid (A4.out.below hb)
  have G := Lib.hid hg
  clear hb hg
  clear A3 A4
  go_wp2_with fail
  refine (of_nat 3 3 rfl _ (by decide)).mono ?_
  rintro e w7 ⟨⟨v, rfl, hv⟩, hb⟩
  replace H0 := Lib.hid (H0.out.trans (hb.mono H0.out.size))
  replace Q := Lib.hid (Q.out.below hb)
  replace S := Lib.hid (S.out.below hb)
  replace G := Lib.hid (G.out.below hb)
  have A5 := Lib.hid hv
  clear hb hv
  go_wp2_with fail
  refine (of_nat 10 10 rfl _ (by decide)).mono ?_
  rintro e w8 ⟨⟨v, rfl, hv⟩, hb⟩
  replace H0 := Lib.hid (H0.out.trans (hb.mono H0.out.size))
  replace Q := Lib.hid (Q.out.below hb)
  replace S := Lib.hid (S.out.below hb)
  replace G := Lib.hid (G.out.below hb)
  replace A5 := Lib.hid (A5.out.below hb)
  have A6 := Lib.hid hv
  clear hb hv
  go_wp2_with fail
  refine (inv_nat A5.out.at A6.out.at (natC_small A5.out (lt_top (by decide))) (lt_topM (by decide)) (lt_top (by decide)) (by decide) (by decide)).mono ?_
  rintro e w9 ⟨⟨iv, rfl, hi⟩, hb⟩
  replace H0 := Lib.hid (H0.out.trans (hb.mono H0.out.size))
  replace Q := Lib.hid (Q.out.below hb)
  replace S := Lib.hid (S.out.below hb)
  replace G := Lib.hid (G.out.below hb)
  replace A5 := Lib.hid (A5.out.below hb)
  replace A6 := Lib.hid (A6.out.below hb)
  have I := Lib.hid hi
  clear hb hi
  clear A5 A6
  rw [show (17 : Nat) / 5 = 3 from rfl] at Q
  rw [show (17 : Nat) % 5 = 2 from rfl] at S
  rw [show Nat.gcd 12 18 = 6 from by decide] at G
  rw [show invN 3 10 = 7 from by decide] at I
  go_wp2_with fail
  refine (is_nat _ 3 3 3 rfl _ Q.out (by decide) true rfl).mono ?_
  rintro e w10 ⟨rfl, hb⟩
  replace H0 := Lib.hid (H0.out.trans (hb.mono H0.out.size))
  replace Q := Lib.hid (Q.out.below hb)
  replace S := Lib.hid (S.out.below hb)
  replace G := Lib.hid (G.out.below hb)
  replace I := Lib.hid (I.out.below hb)
  clear hb
  go_wp2_with fail
  refine (is_nat _ 2 2 2 rfl _ S.out (by decide) true rfl).mono ?_
  rintro e w11 ⟨rfl, hb⟩
  replace H0 := Lib.hid (H0.out.trans (hb.mono H0.out.size))
  replace Q := Lib.hid (Q.out.below hb)
  replace S := Lib.hid (S.out.below hb)
  replace G := Lib.hid (G.out.below hb)
  replace I := Lib.hid (I.out.below hb)
  clear hb
  go_wp2_with fail
  refine (is_nat _ 6 6 6 rfl _ G.out (by decide) true rfl).mono ?_
  rintro e w12 ⟨rfl, hb⟩
  replace H0 := Lib.hid (H0.out.trans (hb.mono H0.out.size))
  replace Q := Lib.hid (Q.out.below hb)
  replace S := Lib.hid (S.out.below hb)
  replace G := Lib.hid (G.out.below hb)
  replace I := Lib.hid (I.out.below hb)
  clear hb
  go_wp2_with fail
  refine (is_nat _ 7 7 7 rfl _ I.out (by decide) true rfl).mono ?_
  rintro e w13 ⟨rfl, hb⟩
  replace H0 := Lib.hid (H0.out.trans (hb.mono H0.out.size))
  replace Q := Lib.hid (Q.out.below hb)
  replace S := Lib.hid (S.out.below hb)
  replace G := Lib.hid (G.out.below hb)
  replace I := Lib.hid (I.out.below hb)
  clear hb
  go_wp2_with fail
  refine (bits_nat Q.out.at (natC_small Q.out (lt_top (by decide))) 2 (by decide)).mono ?_
  rintro e w' ⟨rfl, rfl⟩
  go_wp2_with fail
  go_ret
  exact ⟨rfl, H0.out⟩

end Go.Proofs.Ytcnpgebjjknheaa
