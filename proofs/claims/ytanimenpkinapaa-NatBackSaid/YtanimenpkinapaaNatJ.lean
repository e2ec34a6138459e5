/-
  THE LAW NatPowers.
-/
import Derived.Test.YtanimenpkinapaaNatH
namespace Go.Proofs.Ytanimenpkinapaa
open Go.RowKit

theorem NatC.short {w : World} {v : Value} {n : Nat} (h : NatC w v n) (hn : n < topN) : ∀ a len cap, v = .slice a len cap → len ≤ 288230376151711743 := fun a len cap e => by
  obtain ⟨a', len', cap', he, hr⟩ := h
  rw [he] at e
  cases e
  have := (natB_length (b := 4294967296) (by decide) n 256).2 hn
  rw [hr.length] at this
  omega

theorem two_lt (k j : Nat) (h : k < 32 * j) : 2 ^ k < 4294967296 ^ j := by
  rw [show (4294967296 : Nat) ^ j = 2 ^ (32 * j) by rw [Nat.pow_mul]]
  exact Nat.pow_lt_pow_right (by decide) h

set_option maxRecDepth 100000 in
set_option maxHeartbeats 4000000 in
theorem powers_main (a : Option Addr) (nx cx : Nat) (u n : Nat) (w : World) (hx : NatAt w (.slice a nx cx) n) (h1 : nx ≤ 100) (hu : u < 65536) :
    Calls Try.prog 9 #[.slice a nx cx, .int .u16 (u : Int)] w fun e w' => e = .returned (.bool true) ∧ Below w.heap.size w w' := by
  have l1 := hx.lt h1
  obtain ⟨k, hk⟩ : ∃ k, k = u % 2001 := ⟨_, rfl⟩
  have hk0 : k ≤ 2000 := by omega
  have hK : (u : Int) % 2001 = (k : Int) := by omega
  have p2 : 2 ^ k < 4294967296 ^ 63 := two_lt k 63 (by omega)
  have t0 := Lib.hid (top_le l1 (by decide))
  have t1 := Lib.hid (show 1 * 2 ^ k < topN by rw [Nat.one_mul]; exact top_le p2 (by decide))
  have t2 := Lib.hid (show n * 2 ^ k < topN from top_le (mul_lt l1 p2) (by decide))
  have t3 := Lib.hid (show n * (1 * 2 ^ k) < topN by rw [Nat.one_mul]; exact top_le (mul_lt l1 p2) (by decide))
  have t5 := Lib.hid (show n / 2 ^ k * 2 ^ k ≤ n from Nat.div_mul_le_self _ _)
  have t4 := Lib.hid (show n / 2 ^ k * 2 ^ k < topN from Nat.lt_of_le_of_lt t5.out t0.out)
  have hb1 := Lib.hid (show k + 1 = bitsN (1 * 2 ^ k) by rw [Nat.mul_comm, ← Nat.zero_add (2 ^ k * 1), bitsN_top 0 1 k (by decide) (Nat.pow_pos (by decide))]; rfl)
  have hc1 := Lib.hid (show (-1 : Int) = ordN (n - n / 2 ^ k * 2 ^ k) (1 * 2 ^ k) from (ordN_lt (by
    have e1 := Nat.mod_add_div n (2 ^ k)
    have e2 := Nat.mod_lt n (show 2 ^ k > 0 from Nat.pow_pos (by decide))
    rw [Nat.mul_comm (n / 2 ^ k), Nat.one_mul]
    omega)).symm)
  have HX := Lib.hid hx
  clear hx l1 hk p2
  go_enter Try.func9, Try.ntmps9
  go_wp2_with fail
  refine (alive_any _).mono ?_
  rintro e w1 ⟨rfl, hb⟩
  have H0 := Lib.hid hb
  replace HX := Lib.hid (HX.out.below hb)
  clear hb
  go_wp2_with fail
  refine (of_any 1 1 rfl _ (by decide)).mono ?_
  rintro e w2 ⟨⟨v, rfl, ho⟩, hb⟩
  replace H0 := Lib.hid (H0.out.trans (hb.mono H0.out.size))
  replace HX := Lib.hid (HX.out.below hb)
  have ONE0 := Lib.hid (NatC.of ho)
  clear hb ho
  go_wp2_with fail
  refine (shl_nat ONE0.out.at (k : Int) k rfl (by omega) t1.out).mono ?_
  rintro e w3 ⟨⟨v, rfl, hv⟩, hb⟩
  replace H0 := Lib.hid (H0.out.trans (hb.mono H0.out.size))
  replace HX := Lib.hid (HX.out.below hb)
  replace ONE0 := Lib.hid (ONE0.out.below hb)
  have ONE := Lib.hid hv
  clear hb hv
  clear ONE0
  go_wp2_with fail
  refine (shl_nat HX.out (k : Int) k rfl (by omega) t2.out).mono ?_
  rintro e w4 ⟨⟨v, rfl, hv⟩, hb⟩
  replace H0 := Lib.hid (H0.out.trans (hb.mono H0.out.size))
  replace HX := Lib.hid (HX.out.below hb)
  replace ONE := Lib.hid (ONE.out.below hb)
  have SA := Lib.hid hv
  clear hb hv
  go_wp2_with fail
  refine (mul_nat HX.out ONE.out.at t0.out t1.out t3.out).mono ?_
  rintro e w5 ⟨⟨v, rfl, hv⟩, hb⟩
  replace H0 := Lib.hid (H0.out.trans (hb.mono H0.out.size))
  replace HX := Lib.hid (HX.out.below hb)
  replace ONE := Lib.hid (ONE.out.below hb)
  replace SA := Lib.hid (SA.out.below hb)
  have SB := Lib.hid hv
  clear hb hv
  go_wp2_with fail
  refine (shr_nat SA.out.at (k : Int) k rfl (by omega) t2.out).mono ?_
  rintro e w6 ⟨⟨v, rfl, hv⟩, hb⟩
  replace H0 := Lib.hid (H0.out.trans (hb.mono H0.out.size))
  replace HX := Lib.hid (HX.out.below hb)
  replace ONE := Lib.hid (ONE.out.below hb)
  replace SA := Lib.hid (SA.out.below hb)
  replace SB := Lib.hid (SB.out.below hb)
  have SC := Lib.hid hv
  clear hb hv
  go_wp2_with fail
  refine (shr_nat HX.out (k : Int) k rfl (by omega) t0.out).mono ?_
  rintro e w7 ⟨⟨v, rfl, hv⟩, hb⟩
  replace H0 := Lib.hid (H0.out.trans (hb.mono H0.out.size))
  replace HX := Lib.hid (HX.out.below hb)
  replace ONE := Lib.hid (ONE.out.below hb)
  replace SA := Lib.hid (SA.out.below hb)
  replace SB := Lib.hid (SB.out.below hb)
  replace SC := Lib.hid (SC.out.below hb)
  have LOW := Lib.hid hv
  clear hb hv
  go_wp2_with fail
  refine (shl_nat LOW.out.at (k : Int) k rfl (by omega) t4.out).mono ?_
  rintro e w8 ⟨⟨v, rfl, hv⟩, hb⟩
  replace H0 := Lib.hid (H0.out.trans (hb.mono H0.out.size))
  replace HX := Lib.hid (HX.out.below hb)
  replace ONE := Lib.hid (ONE.out.below hb)
  replace SA := Lib.hid (SA.out.below hb)
  replace SB := Lib.hid (SB.out.below hb)
  replace SC := Lib.hid (SC.out.below hb)
  replace LOW := Lib.hid (LOW.out.below hb)
  have HIGH := Lib.hid hv
  clear hb hv
  go_wp2_with fail
  refine (sub_nat HX.out HIGH.out.at t0.out t5.out).mono ?_
  rintro e w9 ⟨⟨v, rfl, hv⟩, hb⟩
  replace H0 := Lib.hid (H0.out.trans (hb.mono H0.out.size))
  replace HX := Lib.hid (HX.out.below hb)
  replace ONE := Lib.hid (ONE.out.below hb)
  replace SA := Lib.hid (SA.out.below hb)
  replace SB := Lib.hid (SB.out.below hb)
  replace SC := Lib.hid (SC.out.below hb)
  replace LOW := Lib.hid (LOW.out.below hb)
  replace HIGH := Lib.hid (HIGH.out.below hb)
  have REST := Lib.hid hv
  clear hb hv
  clear HIGH
  go_wp2_with fail
  refine (trim_nat HX.out t0.out).mono ?_
  rintro e w10 ⟨⟨v, rfl, hv⟩, hb⟩
  replace H0 := Lib.hid (H0.out.trans (hb.mono H0.out.size))
  replace HX := Lib.hid (HX.out.below hb)
  replace ONE := Lib.hid (ONE.out.below hb)
  replace SA := Lib.hid (SA.out.below hb)
  replace SB := Lib.hid (SB.out.below hb)
  replace SC := Lib.hid (SC.out.below hb)
  replace LOW := Lib.hid (LOW.out.below hb)
  replace REST := Lib.hid (REST.out.below hb)
  have TT := Lib.hid hv
  clear hb hv
  go_wp2_with fail
  refine (same_nat SA.out SB.out true (by simp)).mono ?_
  rintro e w11 ⟨rfl, hb⟩
  replace H0 := Lib.hid (H0.out.trans (hb.mono H0.out.size))
  replace HX := Lib.hid (HX.out.below hb)
  replace ONE := Lib.hid (ONE.out.below hb)
  replace SA := Lib.hid (SA.out.below hb)
  replace SB := Lib.hid (SB.out.below hb)
  replace SC := Lib.hid (SC.out.below hb)
  replace LOW := Lib.hid (LOW.out.below hb)
  replace REST := Lib.hid (REST.out.below hb)
  replace TT := Lib.hid (TT.out.below hb)
  clear hb
  clear SB
  go_wp2_with fail
  refine (same_nat SC.out TT.out true (by simp [Nat.mul_div_cancel _ (Nat.pow_pos (show 0 < 2 by decide))])).mono ?_
  rintro e w12 ⟨rfl, hb⟩
  replace H0 := Lib.hid (H0.out.trans (hb.mono H0.out.size))
  replace HX := Lib.hid (HX.out.below hb)
  replace ONE := Lib.hid (ONE.out.below hb)
  replace SA := Lib.hid (SA.out.below hb)
  replace SC := Lib.hid (SC.out.below hb)
  replace LOW := Lib.hid (LOW.out.below hb)
  replace REST := Lib.hid (REST.out.below hb)
  replace TT := Lib.hid (TT.out.below hb)
  clear hb
  clear SC TT
  have SO := Lib.hid (NatC.short ONE.out t1.out)
  have SS := Lib.hid (NatC.short SA.out t2.out)
  go_wp2_with fail
  refine (bits_nat ONE.out.at SO.out (k + 1) hb1.out).mono ?_
  rintro e w' ⟨rfl, rfl⟩
  go_wp2_with fail
  refine (cmp_nat REST.out.at ONE.out.at (-1) hc1.out).mono ?_
  rintro e w13 ⟨rfl, hb⟩
  replace H0 := Lib.hid (H0.out.trans (hb.mono H0.out.size))
  replace HX := Lib.hid (HX.out.below hb)
  replace ONE := Lib.hid (ONE.out.below hb)
  replace SA := Lib.hid (SA.out.below hb)
  replace LOW := Lib.hid (LOW.out.below hb)
  replace REST := Lib.hid (REST.out.below hb)
  clear hb
  clear REST ONE
  go_wp2_with fail
  refine (bits_nat HX.out (fun a len cap e => by cases e; omega) (bitsN n) rfl).mono ?_
  rintro e w' ⟨rfl, rfl⟩
  have hbb := Lib.hid (show n ≠ 0 → bitsN (n * 2 ^ k) = bitsN n + k from fun h => by rw [Nat.mul_comm, ← Nat.zero_add (2 ^ k * n), bitsN_top 0 n k (Nat.pos_of_ne_zero h) (Nat.pow_pos (by decide)), Nat.add_comm])
  have hb0 := Lib.hid (show n ≠ 0 → 0 < bitsN n from fun h => by unfold bitsN; rw [if_neg h]; omega)
  have hbz := Lib.hid (show n = 0 → bitsN n = 0 from fun h => by rw [h]; rfl)
  have hbm := (bitsN_le n 8192).2 (by rw [← topN_two]; exact t0.out)
  by_cases hn0 : n = 0
  · have hz := hbz.out hn0
    rw [hz]
    clear hz hn0 hbm
    go_wp2
    go_loop [23] (fun i => ∃ p : Nat, p ≤ 64 ∧ i = .int .i64 p) (fun i => 64 - (intOf i).toNat)
    case atStart => exact ⟨0, by omega, rfl⟩
    case round =>
      obtain ⟨p, hp64, rfl⟩ := hrel
      by_cases hlt : p < 64
      · go_wp2_with fail
        refine (bit_nat SA.out.at ((p : Int) + (k : Int)) (by omega) (n.testBit p) (by rw [decide_eq_true (by omega), Bool.true_and, show ((p : Int) + (k : Int)).toNat = p + k by omega, Nat.testBit_mul_two_pow]; simp)).mono ?_
        rintro e w' ⟨rfl, rfl⟩
        go_wp2_with fail
        refine (bit_nat HX.out (p : Int) (by omega) (n.testBit p) (by simp)).mono ?_
        rintro e w' ⟨rfl, rfl⟩
        go_wp2_with fail
        refine (bit_nat LOW.out.at (p : Int) (by omega) (n.testBit (p + k)) (by simp [Nat.testBit_div_two_pow, Nat.add_comm])).mono ?_
        rintro e w' ⟨rfl, rfl⟩
        go_wp2_with fail
        refine (bit_nat HX.out ((p : Int) + (k : Int)) (by omega) (n.testBit (p + k)) (by rw [decide_eq_true (by omega), Bool.true_and, show ((p : Int) + (k : Int)).toNat = p + k by omega])).mono ?_
        rintro e w' ⟨rfl, rfl⟩
        go_wp2
        go_round
        case rel => exact ⟨p + 1, by omega, by go_num⟩
        case measure => simp [intOf] <;> omega
      · obtain rfl : p = 64 := by omega
        go_wp2
        go_ret
        exact ⟨rfl, H0.out⟩
  · have hp := hb0.out hn0
    have HE := Lib.hid (hbb.out hn0)
    clear hn0
    obtain ⟨bn, hbn⟩ : ∃ b, b = bitsN n := ⟨_, rfl⟩
    have BN := Lib.hid hbn
    rw [← hbn] at hp hbm HE ⊢
    clear hbn
    go_wp2_with fail
    refine (bits_nat SA.out.at SS.out (bn + k) HE.out.symm).mono ?_
    rintro e w' ⟨rfl, rfl⟩
    go_wp2_with fail
    refine (bits_nat HX.out (fun a len cap e => by cases e; omega) bn BN.out).mono ?_
    rintro e w' ⟨rfl, rfl⟩
    go_wp2
    go_loop [23] (fun i => ∃ p : Nat, p ≤ 64 ∧ i = .int .i64 p) (fun i => 64 - (intOf i).toNat)
    case atStart => exact ⟨0, by omega, rfl⟩
    case round =>
      obtain ⟨p, hp64, rfl⟩ := hrel
      by_cases hlt : p < 64
      · go_wp2_with fail
        refine (bit_nat SA.out.at ((p : Int) + (k : Int)) (by omega) (n.testBit p) (by rw [decide_eq_true (by omega), Bool.true_and, show ((p : Int) + (k : Int)).toNat = p + k by omega, Nat.testBit_mul_two_pow]; simp)).mono ?_
        rintro e w' ⟨rfl, rfl⟩
        go_wp2_with fail
        refine (bit_nat HX.out (p : Int) (by omega) (n.testBit p) (by simp)).mono ?_
        rintro e w' ⟨rfl, rfl⟩
        go_wp2_with fail
        refine (bit_nat LOW.out.at (p : Int) (by omega) (n.testBit (p + k)) (by simp [Nat.testBit_div_two_pow, Nat.add_comm])).mono ?_
        rintro e w' ⟨rfl, rfl⟩
        go_wp2_with fail
        refine (bit_nat HX.out ((p : Int) + (k : Int)) (by omega) (n.testBit (p + k)) (by rw [decide_eq_true (by omega), Bool.true_and, show ((p : Int) + (k : Int)).toNat = p + k by omega])).mono ?_
        rintro e w' ⟨rfl, rfl⟩
        go_wp2
        go_round
        case rel => exact ⟨p + 1, by omega, by go_num⟩
        case measure => simp [intOf] <;> omega
      · obtain rfl : p = 64 := by omega
        go_wp2
        go_ret
        exact ⟨rfl, H0.out⟩

theorem NatAt.len2 {w : World} {a : Option Addr} {len cap n : Nat} (h : NatAt w (.slice a len cap) n) : len ≤ 9223372036854775807 := by
  obtain ⟨a', len', cap', l, he, hr, _, _⟩ := h
  cases he
  have := hr.len_le
  unfold maxLen at this
  omega

set_option maxRecDepth 100000 in
set_option maxHeartbeats 400000 in
theorem powers_walk (a : Option Addr) (nx cx : Nat) (u : Int) (n : Nat) (w : World) (hx : NatAt w (.slice a nx cx) n) (hu : (Lit.int .u16 u).wf = true) :
    Calls Try.prog 9 #[.slice a nx cx, .int .u16 u] w fun e w' => e = .returned (.bool true) ∧ Below w.heap.size w w' := by
  have g1 := hx.len2
  have hu2 : 0 ≤ u ∧ u < 65536 := by
    simp [Lit.wf, IntKind.min, IntKind.max, IntKind.signed, IntKind.bits] at hu
    omega
  obtain ⟨k, rfl⟩ := Int.eq_ofNat_of_zero_le hu2.1
  by_cases h1 : nx ≤ 100
  · exact powers_main a nx cx k n w hx h1 (by omega)
  · have h4 : 100 < nx := by omega
    clear hx h1
    go_enter Try.func9, Try.ntmps9
    go_wp2_with fail
    refine (alive_any _).mono ?_
    rintro e w1 ⟨rfl, hb⟩
    go_wp2_with fail
    go_ret
    exact ⟨rfl, hb⟩

end Go.Proofs.Ytanimenpkinapaa
