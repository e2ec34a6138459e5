/-
  THE LAW NatRing.
-/
import Derived.Test.YtanimenpkinapaaNatH
namespace Go.Proofs.Ytanimenpkinapaa
open Go.RowKit

set_option maxHeartbeats 4000000 in
theorem ring_main (a : Option Addr) (nx cx : Nat) (a' : Option Addr) (ny cy : Nat) (a'' : Option Addr) (nz cz : Nat) (n m k : Nat) (w : World) (hx : NatAt w (.slice a nx cx) n) (hy : NatAt w (.slice a' ny cy) m) (hz : NatAt w (.slice a'' nz cz) k) (h1 : nx ≤ 60) (h2 : ny ≤ 60) (h3 : nz ≤ 60) :
    Calls Try.prog 7 #[.slice a nx cx, .slice a' ny cy, .slice a'' nz cz] w fun e w' => e = .returned (.bool true) ∧ Below w.heap.size w w' := by
  have l1 := hx.lt h1
  have l2 := hy.lt h2
  have l3 := hz.lt h3
  have t1 := Lib.hid (top_le l1 (by decide))
  have t2 := Lib.hid (top_le l2 (by decide))
  have t3 := Lib.hid (top_le l3 (by decide))
  have b1 := Lib.hid (top_le (add_lt l1 l2) (by decide))
  have b2 := Lib.hid (top_le (add_lt (add_lt l1 l2) (Nat.lt_of_lt_of_le l3 (Nat.pow_le_pow_right (by decide) (by decide)))) (by decide))
  have b3 := Lib.hid (top_le (add_lt l2 l3) (by decide))
  have b4 := Lib.hid (top_le (add_lt (Nat.lt_of_lt_of_le l1 (Nat.pow_le_pow_right (by decide) (by decide))) (add_lt l2 l3)) (by decide))
  have c1 := Lib.hid (top_le (mul_lt l1 l2) (by decide))
  have c2 := Lib.hid (top_le (mul_lt (mul_lt l1 l2) l3) (by decide))
  have c3 := Lib.hid (top_le (mul_lt l2 l3) (by decide))
  have c4 := Lib.hid (top_le (mul_lt l1 (mul_lt l2 l3)) (by decide))
  have d1 := Lib.hid (top_le (mul_lt (add_lt l1 l2) l3) (by decide))
  have d2 := Lib.hid (top_le (mul_lt l1 l3) (by decide))
  have d3 := Lib.hid (top_le (add_lt (mul_lt l1 l3) (mul_lt l2 l3)) (by decide))
  have HX := Lib.hid hx
  have HY := Lib.hid hy
  have HZ := Lib.hid hz
  clear hx hy hz l1 l2 l3
  go_enter Try.func7, Try.ntmps7
  go_wp2_with fail
  refine (alive_any _).mono ?_
  rintro e w1 ⟨rfl, hb⟩
  have H0 := Lib.hid hb
  replace HX := Lib.hid (HX.out.below hb)
  replace HY := Lib.hid (HY.out.below hb)
  replace HZ := Lib.hid (HZ.out.below hb)
  clear hb
  go_wp2_with fail
  have hF := Boxed.new w1 4 (.bool true)
  have hb0 := (Below.refl w1.heap.size w1).alloc (Nat.le_refl _) (.cells #[.bool true] 4)
  have hF0 : w1.heap.size < (w1.alloc (.cells #[.bool true] 4)).heap.size := by simp
  replace HX := Lib.hid (HX.out.below hb0)
  replace HY := Lib.hid (HY.out.below hb0)
  replace HZ := Lib.hid (HZ.out.below hb0)
  replace H0 := Lib.hid (H0.out.trans (hb0.mono H0.out.size))
  have HF := Lib.hid hF
  obtain ⟨w2, hw2⟩ : ∃ w2, w1.alloc (.cells #[.bool true] 4) = w2 := ⟨_, rfl⟩
  rw [hw2] at HX HY HZ H0 HF ⊢
  generalize w1.heap.size = F at *
  clear hF hb0 hw2 hF0
  go_wp2_with fail
  refine (sum_any _ _ _ _ F _ HX.out HY.out b1.out HF.out).mono ?_
  rintro e w3 ⟨⟨v, rfl, hv⟩, hb⟩
  replace H0 := Lib.hid (H0.out.trans (hb.mono H0.out.size))
  replace HX := Lib.hid (HX.out.below hb)
  replace HY := Lib.hid (HY.out.below hb)
  replace HZ := Lib.hid (HZ.out.below hb)
  replace HF := Lib.hid (boxed_below HF.out hb)
  have S1 := Lib.hid hv
  clear hb hv
  go_wp2_with fail
  refine (sum_any _ _ _ _ F _ S1.out.at HZ.out b2.out HF.out).mono ?_
  rintro e w4 ⟨⟨v, rfl, hv⟩, hb⟩
  replace H0 := Lib.hid (H0.out.trans (hb.mono H0.out.size))
  replace HX := Lib.hid (HX.out.below hb)
  replace HY := Lib.hid (HY.out.below hb)
  replace HZ := Lib.hid (HZ.out.below hb)
  replace S1 := Lib.hid (S1.out.below hb)
  replace HF := Lib.hid (boxed_below HF.out hb)
  have S2 := Lib.hid hv
  clear hb hv
  clear S1
  go_wp2_with fail
  refine (sum_any _ _ _ _ F _ HY.out HZ.out b3.out HF.out).mono ?_
  rintro e w5 ⟨⟨v, rfl, hv⟩, hb⟩
  replace H0 := Lib.hid (H0.out.trans (hb.mono H0.out.size))
  replace HX := Lib.hid (HX.out.below hb)
  replace HY := Lib.hid (HY.out.below hb)
  replace HZ := Lib.hid (HZ.out.below hb)
  replace S2 := Lib.hid (S2.out.below hb)
  replace HF := Lib.hid (boxed_below HF.out hb)
  have S3 := Lib.hid hv
  clear hb hv
  go_wp2_with fail
  refine (sum_any _ _ _ _ F _ HX.out S3.out.at b4.out HF.out).mono ?_
  rintro e w6 ⟨⟨v, rfl, hv⟩, hb⟩
  replace H0 := Lib.hid (H0.out.trans (hb.mono H0.out.size))
  replace HX := Lib.hid (HX.out.below hb)
  replace HY := Lib.hid (HY.out.below hb)
  replace HZ := Lib.hid (HZ.out.below hb)
  replace S2 := Lib.hid (S2.out.below hb)
  replace S3 := Lib.hid (S3.out.below hb)
  replace HF := Lib.hid (boxed_below HF.out hb)
  have S4 := Lib.hid hv
  clear hb hv
  clear S3
  go_wp2_with fail
  refine (same_nat S2.out S4.out true (by simp [Nat.add_assoc])).mono ?_
  rintro e w7 ⟨rfl, hb⟩
  replace H0 := Lib.hid (H0.out.trans (hb.mono H0.out.size))
  replace HX := Lib.hid (HX.out.below hb)
  replace HY := Lib.hid (HY.out.below hb)
  replace HZ := Lib.hid (HZ.out.below hb)
  replace S2 := Lib.hid (S2.out.below hb)
  replace S4 := Lib.hid (S4.out.below hb)
  replace HF := Lib.hid (boxed_below HF.out hb)
  clear hb
  clear S2 S4
  go_wp2_with fail
  refine (times_any _ _ _ _ F _ HX.out HY.out t1.out t2.out c1.out HF.out).mono ?_
  rintro e w8 ⟨⟨v, rfl, hv⟩, hb⟩
  replace H0 := Lib.hid (H0.out.trans (hb.mono H0.out.size))
  replace HX := Lib.hid (HX.out.below hb)
  replace HY := Lib.hid (HY.out.below hb)
  replace HZ := Lib.hid (HZ.out.below hb)
  replace HF := Lib.hid (boxed_below HF.out hb)
  have P1 := Lib.hid hv
  clear hb hv
  go_wp2_with fail
  refine (times_any _ _ _ _ F _ P1.out.at HZ.out c1.out t3.out c2.out HF.out).mono ?_
  rintro e w9 ⟨⟨v, rfl, hv⟩, hb⟩
  replace H0 := Lib.hid (H0.out.trans (hb.mono H0.out.size))
  replace HX := Lib.hid (HX.out.below hb)
  replace HY := Lib.hid (HY.out.below hb)
  replace HZ := Lib.hid (HZ.out.below hb)
  replace P1 := Lib.hid (P1.out.below hb)
  replace HF := Lib.hid (boxed_below HF.out hb)
  have P2 := Lib.hid hv
  clear hb hv
  clear P1
  go_wp2_with fail
  refine (times_any _ _ _ _ F _ HY.out HZ.out t2.out t3.out c3.out HF.out).mono ?_
  rintro e w10 ⟨⟨v, rfl, hv⟩, hb⟩
  replace H0 := Lib.hid (H0.out.trans (hb.mono H0.out.size))
  replace HX := Lib.hid (HX.out.below hb)
  replace HY := Lib.hid (HY.out.below hb)
  replace HZ := Lib.hid (HZ.out.below hb)
  replace P2 := Lib.hid (P2.out.below hb)
  replace HF := Lib.hid (boxed_below HF.out hb)
  have P3 := Lib.hid hv
  clear hb hv
  go_wp2_with fail
  refine (times_any _ _ _ _ F _ HX.out P3.out.at t1.out c3.out c4.out HF.out).mono ?_
  rintro e w11 ⟨⟨v, rfl, hv⟩, hb⟩
  replace H0 := Lib.hid (H0.out.trans (hb.mono H0.out.size))
  replace HX := Lib.hid (HX.out.below hb)
  replace HY := Lib.hid (HY.out.below hb)
  replace HZ := Lib.hid (HZ.out.below hb)
  replace P2 := Lib.hid (P2.out.below hb)
  replace P3 := Lib.hid (P3.out.below hb)
  replace HF := Lib.hid (boxed_below HF.out hb)
  have P4 := Lib.hid hv
  clear hb hv
  clear P3
  go_wp2_with fail
  refine (same_nat P2.out P4.out true (by simp [Nat.mul_assoc])).mono ?_
  rintro e w12 ⟨rfl, hb⟩
  replace H0 := Lib.hid (H0.out.trans (hb.mono H0.out.size))
  replace HX := Lib.hid (HX.out.below hb)
  replace HY := Lib.hid (HY.out.below hb)
  replace HZ := Lib.hid (HZ.out.below hb)
  replace P2 := Lib.hid (P2.out.below hb)
  replace P4 := Lib.hid (P4.out.below hb)
  replace HF := Lib.hid (boxed_below HF.out hb)
  clear hb
  clear P2 P4
  go_wp2_with fail
  refine (sum_any _ _ _ _ F _ HX.out HY.out b1.out HF.out).mono ?_
  rintro e w13 ⟨⟨v, rfl, hv⟩, hb⟩
  replace H0 := Lib.hid (H0.out.trans (hb.mono H0.out.size))
  replace HX := Lib.hid (HX.out.below hb)
  replace HY := Lib.hid (HY.out.below hb)
  replace HZ := Lib.hid (HZ.out.below hb)
  replace HF := Lib.hid (boxed_below HF.out hb)
  have A1 := Lib.hid hv
  clear hb hv
  go_wp2_with fail
  refine (times_any _ _ _ _ F _ A1.out.at HZ.out b1.out t3.out d1.out HF.out).mono ?_
  rintro e w14 ⟨⟨v, rfl, hv⟩, hb⟩
  replace H0 := Lib.hid (H0.out.trans (hb.mono H0.out.size))
  replace HX := Lib.hid (HX.out.below hb)
  replace HY := Lib.hid (HY.out.below hb)
  replace HZ := Lib.hid (HZ.out.below hb)
  replace A1 := Lib.hid (A1.out.below hb)
  replace HF := Lib.hid (boxed_below HF.out hb)
  have A2 := Lib.hid hv
  clear hb hv
  clear A1
  go_wp2_with fail
  refine (times_any _ _ _ _ F _ HX.out HZ.out t1.out t3.out d2.out HF.out).mono ?_
  rintro e w15 ⟨⟨v, rfl, hv⟩, hb⟩
  replace H0 := Lib.hid (H0.out.trans (hb.mono H0.out.size))
  replace HX := Lib.hid (HX.out.below hb)
  replace HY := Lib.hid (HY.out.below hb)
  replace HZ := Lib.hid (HZ.out.below hb)
  replace A2 := Lib.hid (A2.out.below hb)
  replace HF := Lib.hid (boxed_below HF.out hb)
  have A3 := Lib.hid hv
  clear hb hv
  go_wp2_with fail
  refine (times_any _ _ _ _ F _ HY.out HZ.out t2.out t3.out c3.out HF.out).mono ?_
  rintro e w16 ⟨⟨v, rfl, hv⟩, hb⟩
  replace H0 := Lib.hid (H0.out.trans (hb.mono H0.out.size))
  replace HX := Lib.hid (HX.out.below hb)
  replace HY := Lib.hid (HY.out.below hb)
  replace HZ := Lib.hid (HZ.out.below hb)
  replace A2 := Lib.hid (A2.out.below hb)
  replace A3 := Lib.hid (A3.out.below hb)
  replace HF := Lib.hid (boxed_below HF.out hb)
  have A4 := Lib.hid hv
  clear hb hv
  go_wp2_with fail
  refine (sum_any _ _ _ _ F _ A3.out.at A4.out.at d3.out HF.out).mono ?_
  rintro e w17 ⟨⟨v, rfl, hv⟩, hb⟩
  replace H0 := Lib.hid (H0.out.trans (hb.mono H0.out.size))
  replace HX := Lib.hid (HX.out.below hb)
  replace HY := Lib.hid (HY.out.below hb)
  replace HZ := Lib.hid (HZ.out.below hb)
  replace A2 := Lib.hid (A2.out.below hb)
  replace A3 := Lib.hid (A3.out.below hb)
  replace A4 := Lib.hid (A4.out.below hb)
  replace HF := Lib.hid (boxed_below HF.out hb)
  have A5 := Lib.hid hv
  clear hb hv
  clear A3 A4
  go_wp2_with fail
  refine (same_nat A2.out A5.out true (by simp [Nat.add_mul])).mono ?_
  rintro e w18 ⟨rfl, hb⟩
  replace H0 := Lib.hid (H0.out.trans (hb.mono H0.out.size))
  replace HX := Lib.hid (HX.out.below hb)
  replace HY := Lib.hid (HY.out.below hb)
  replace HZ := Lib.hid (HZ.out.below hb)
  replace A2 := Lib.hid (A2.out.below hb)
  replace A5 := Lib.hid (A5.out.below hb)
  replace HF := Lib.hid (boxed_below HF.out hb)
  clear hb
  have cF := HF.out.cell
  go_wp2_with fail
  go_ret
  exact ⟨rfl, H0.out⟩

theorem NatAt.len {w : World} {a : Option Addr} {len cap n : Nat} (h : NatAt w (.slice a len cap) n) : len ≤ 9223372036854775807 := by
  obtain ⟨a', len', cap', l, he, hr, _, _⟩ := h
  cases he
  have := hr.len_le
  unfold maxLen at this
  omega

set_option maxHeartbeats 400000 in
theorem ring_walk (a : Option Addr) (nx cx : Nat) (a' : Option Addr) (ny cy : Nat) (a'' : Option Addr) (nz cz : Nat) (n m k : Nat) (w : World) (hx : NatAt w (.slice a nx cx) n) (hy : NatAt w (.slice a' ny cy) m) (hz : NatAt w (.slice a'' nz cz) k) :
    Calls Try.prog 7 #[.slice a nx cx, .slice a' ny cy, .slice a'' nz cz] w fun e w' => e = .returned (.bool true) ∧ Below w.heap.size w w' := by
  have g1 := hx.len
  have g2 := hy.len
  have g3 := hz.len
  by_cases h1 : nx ≤ 60
  · by_cases h2 : ny ≤ 60
    · by_cases h3 : nz ≤ 60
      · exact ring_main a nx cx a' ny cy a'' nz cz n m k w hx hy hz h1 h2 h3
      · have h4 : 60 < nz := by omega
        clear hx hy hz h3
        go_enter Try.func7, Try.ntmps7
        go_wp2_with fail
        refine (alive_any _).mono ?_
        rintro e w1 ⟨rfl, hb⟩
        go_wp2_with fail
        go_ret
        exact ⟨rfl, hb⟩
    · have h4 : 60 < ny := by omega
      clear hx hy hz h2
      go_enter Try.func7, Try.ntmps7
      go_wp2_with fail
      refine (alive_any _).mono ?_
      rintro e w1 ⟨rfl, hb⟩
      go_wp2_with fail
      go_ret
      exact ⟨rfl, hb⟩
  · have h4 : 60 < nx := by omega
    clear hx hy hz h1
    go_enter Try.func7, Try.ntmps7
    go_wp2_with fail
    refine (alive_any _).mono ?_
    rintro e w1 ⟨rfl, hb⟩
    go_wp2_with fail
    go_ret
    exact ⟨rfl, hb⟩

end Go.Proofs.Ytanimenpkinapaa
