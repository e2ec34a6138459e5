/-
  THE REFERENCE's power, Shl.
-/
import Derived.Test.YtanimenpkinapaaRef7
namespace Go.Proofs.Ytanimenpkinapaa
open Go.RowKit
namespace rf

theorem topN_pos : 0 < topN := by unfold topN; exact Nat.pow_pos (by decide)
theorem topN_two : topN = 2 ^ 8192 := by
  have h : ∀ a b c d e : Nat, a = b ^ c → e = c * d → a ^ d = b ^ e := by
    rintro a b c d e rfl rfl
    exact (Nat.pow_mul b c d).symm
  exact h 4294967296 2 32 256 8192 (by decide) (by decide)
theorem two_lt_at {e n : Nat} (he : topN = 2 ^ e) (h : n < e) : 2 ^ n < topN := by
  rw [he]; exact Nat.pow_lt_pow_right (by decide) h
theorem two_lt {n : Nat} (h : n < 8192) : 2 ^ n < topN := two_lt_at topN_two h
theorem two_ge_at {e v n : Nat} (he : topN = 2 ^ e) (hv : 0 < v) (h : e ≤ n) : ¬ v * 2 ^ n < topN := by
  rw [he, Nat.not_lt]
  exact Nat.le_trans (Nat.pow_le_pow_right (by decide) h) (Nat.le_mul_of_pos_left _ hv)
theorem two_ge {v n : Nat} (hv : 0 < v) (h : 8192 ≤ n) : ¬ v * 2 ^ n < topN := two_ge_at topN_two hv h
theorem cut_zero : cutR32 0 = ([], 0) := by rw [cutR_small topN_pos, show nat32 0 = [] from natB_zero _]
theorem mul_ge {v n : Nat} (h : ¬ v < topN) : ¬ v * 2 ^ n < topN := by
  rw [Nat.not_lt] at h ⊢
  exact Nat.le_trans h (Nat.le_mul_of_pos_right _ (Nat.pow_pos (by decide)))

def shlR (v : Nat) (n : Int) : List Nat × Int := if n < 0 then ([], 2) else cutR32 (v * 2 ^ n.toNat)

theorem power_val (q r : Nat) (hr : r < 32) : val32 ((List.replicate (q + 1) 0).set q (2 ^ r)) = 2 ^ (32 * q + r) ∧ Lim ((List.replicate (q + 1) 0).set q (2 ^ r)) := by
  have h := valB_set 4294967296 (List.replicate (q + 1) 0) q (2 ^ r) (by simp)
  have e : (List.replicate (q + 1) 0)[q]?.getD 0 = 0 := by rw [List.getElem?_replicate]; split <;> rfl
  rw [e, valB_zeros, Nat.mul_zero, Nat.zero_add, Nat.add_zero] at h
  refine ⟨?_, fun x hx => ?_⟩
  · show valB 4294967296 _ = _
    rw [h, Nat.pow_add, Nat.pow_mul]
  · have h2 : 2 ^ r ≤ 2 ^ 31 := Nat.pow_le_pow_right (by decide) (by omega)
    rcases List.mem_or_eq_of_mem_set hx with h | h
    · rw [List.eq_of_mem_replicate h]; decide
    · rw [h]; omega

def PowR (B : Nat) (w' : World) (n : Nat) (e : Ending) : Prop := ∃ v, ∃ l : List Nat, e = .returned v ∧ OwnQ .u32 54 B w' v l ∧ l.length ≤ 257 ∧ Lim l ∧ val32 l = 2 ^ n

set_option maxRecDepth 100000 in
set_option maxHeartbeats 1000000 in
theorem power_any (n : Nat) (hn : n < 8192) (w : World) :
    Calls Try.prog 57 #[.int .i64 (n : Int)] w fun e w' => PowR w.heap.size w' n e ∧ Below w.heap.size w w' := by
  obtain ⟨i0, hi, hz0, hz1, hz2⟩ := info_parts info32
  obtain ⟨hv, hl⟩ := power_val (n / 32) (n % 32) (Nat.mod_lt _ (by decide))
  rw [show 32 * (n / 32) + n % 32 = n by omega] at hv
  have HV := Lib.hid hv
  have HL := Lib.hid hl
  have hq : (n : Int) / 32 = ((n / 32 : Nat) : Int) := by omega
  have hrm : (n : Int) % 32 = ((n % 32 : Nat) : Int) := by omega
  have hq256 : n / 32 < 256 := by omega
  have hr32 : n % 32 < 32 := Nat.mod_lt _ (by decide)
  clear hv hl
  generalize n / 32 = q at *
  generalize n % 32 = r at *
  go_enter Try.func57, Try.ntmps57
  go_wp2_with (at_make; refine wpList_make_lc .u32 _ rfl _ _ 23 rfl w.heap.size 54 i0 Try.underlying23 hi hz0 hz1 _ _ _ _ (q + 1) (q + 1) rfl rfl (by omega) (by omega) (Nat.le_refl _) (by rw [hz2]; omega) (by unfold maxLen; omega) (Nat.le_refl _) ?_; intro w1 hown hgrow)
  have hb1 : Below w.heap.size w w1 := (Below.refl _ _).grown hgrow (Nat.le_refl _) (fun _ h => by cases h)
  have hfr := hown.frozenAt (by simp) q
  have hcl := hown.cellAt (by simp) q (by omega)
  have HO := Lib.hid hown
  have HB1 := Lib.hid hb1
  clear hown hgrow hb1
  generalize (List.replicate (q + 1) 0)[q]?.getD 0 = z at *
  go_loop [4, 5] (fun u i => ∃ j : Nat, i = .int .i64 (j : Int) ∧ j ≤ r ∧ ∃ p : Nat, u = .int .u32 (p : Int) ∧ Hid (p = 2 ^ j)) (fun _ i => r - (intOf i).toNat)
  case atStart => exact ⟨0, rfl, Nat.zero_le _, 1, rfl, rfl⟩
  case round =>
    obtain ⟨j, rfl, hj, p, rfl, hp⟩ := hrel
    have hpl : p ≤ 2147483648 := by
      have h2 : 2 ^ j ≤ 2 ^ 31 := Nat.pow_le_pow_right (by decide) (by omega)
      rw [hp.out]; omega
    by_cases hlt : j < r
    · have hpl2 : p ≤ 1073741824 := by
        have h2 : 2 ^ j ≤ 2 ^ 30 := Nat.pow_le_pow_right (by decide) (by omega)
        rw [hp.out]; omega
      go_wp2
      go_round
      case rel => exact ⟨j + 1, by go_num, by omega, 2 * p, by go_num, by unfold Hid; rw [hp.out, Nat.pow_succ, Nat.mul_comm]⟩
      case measure => simp [intOf] <;> omega
    · obtain rfl : j = r := by omega
      have s1 := Lib.hid (HO.out.stored (by simp) q p (p : Int) rfl)
      go_wp2
      go_ret
      refine ⟨⟨_, _, rfl, s1.out.1, by simp; omega, ?_, ?_⟩, s1.out.2 _ HB1.out⟩
      · rw [hp.out]; exact HL.out
      · rw [hp.out]; exact HV.out

theorem bits_zero (v : Nat) : bitsN v = 0 ↔ v = 0 := by
  have := bitsN_le v 0
  rw [Nat.pow_zero] at this
  omega

set_option maxRecDepth 100000 in
set_option maxHeartbeats 2000000 in
theorem shl_any (a : Option Addr) (len cap : Nat) (l : List Nat) (w : World) (h : Reads .u32 w a len cap l) (hL : Lim l) (hm : len ≤ 1000000000000) (n : Int) (hn : n ≤ 9223372036854775807) :
    Calls Try.prog 37 #[.slice a len cap, .int .i64 n] w fun e w' => RetsQ2 .u32 54 w.heap.size w' (shlR (val32 l) n) e ∧ Below w.heap.size w w' := by
  have HMY := Lib.hid (may_any a none len cap 0 0 l [] w h (Reads.none _ _) hL (fun _ h => by cases h) hm (by decide) _ rfl)
  by_cases h0 : n < 0
  · have hr := Lib.hid (show shlR (val32 l) n = ([], 2) from if_pos h0)
    rw [hr.out]
    clear HMY
    go_enter Try.func37, Try.ntmps37
    go_wp2
    go_ret2
    exact ⟨⟨_, rfl, OwnQ.nil _ _ _ _⟩, Below.refl _ _⟩
  · obtain ⟨k, rfl⟩ := Int.eq_ofNat_of_zero_le (show 0 ≤ n by omega)
    have hr := Lib.hid (show shlR (val32 l) (k : Int) = cutR32 (val32 l * 2 ^ k) from by unfold shlR; rw [if_neg h0, Int.toNat_natCast])
    rw [hr.out]
    have hk63 : k ≤ 9223372036854775807 := by omega
    have HR := Lib.hid h
    have HL := Lib.hid hL
    clear h0 h hL hr hn
    have hBZ := Lib.hid (bits_zero (val32 l))
    have hb64 : bitsN (val32 l) ≤ 32 * len := by
      rw [bitsN_le, Nat.pow_mul, ← HR.out.length]; exact valB_lt (by decide) HL.out
    obtain ⟨bb, hbb⟩ : ∃ bb, bb = bitsN (val32 l) := ⟨_, rfl⟩
    rw [← hbb] at hBZ hb64
    have HBB := Lib.hid hbb
    clear hbb
    by_cases hin : val32 l < topN
    · rw [decide_eq_true (show val32 l < topN ∧ val32 [] < topN from ⟨hin, topN_pos⟩)] at HMY
      have HIN := Lib.hid hin
      clear hin
      rcases Nat.eq_zero_or_pos bb with h0 | h0
      · have hv := hBZ.out.1 h0
        rw [hv, Nat.zero_mul, cut_zero]
        subst h0
        clear hv
        go_enter Try.func37, Try.ntmps37
        go_wp2_with fail
        refine HMY.out.mono ?_
        rintro e w1 ⟨rfl, hb1⟩
        have H1 := Lib.hid hb1
        clear hb1
        go_wp2_with fail
        refine (bits_any a len cap l _ (HR.out.below H1.out) HL.out hm 0 HBB.out).mono ?_
        rintro e w2 ⟨rfl, hb2⟩
        have H2 := Lib.hid (H1.out.trans (hb2.mono H1.out.size))
        clear hb2
        go_wp2
        go_ret2
        exact ⟨⟨_, rfl, OwnQ.nil _ _ _ _⟩, H2.out⟩
      · have hv : 0 < val32 l := Nat.pos_of_ne_zero fun e => by have := hBZ.out.2 e; omega
        have hbp : decide ((0 : Int) < (bb : Int)) = true := by simp; omega
        have hbz : ((bb : Int) == 0) = false := by simp; omega
        by_cases hbig : 8192 ≤ k
        · rw [cutR_large (two_ge hv hbig)]
          have hkk : decide ((8192 : Int) ≤ (k : Int)) = true := by simp; omega
          clear hv
          go_enter Try.func37, Try.ntmps37
          go_wp2_with fail
          refine HMY.out.mono ?_
          rintro e w1 ⟨rfl, hb1⟩
          have H1 := Lib.hid hb1
          clear hb1
          go_wp2_with fail
          refine (bits_any a len cap l _ (HR.out.below H1.out) HL.out hm bb HBB.out).mono ?_
          rintro e w2 ⟨rfl, hb2⟩
          have H2 := Lib.hid (H1.out.trans (hb2.mono H1.out.size))
          clear hb2
          go_wp2
          go_ret2
          exact ⟨⟨_, rfl, OwnQ.nil _ _ _ _⟩, H2.out⟩
        · have hmr := Lib.hid (mulR_yes (x := val32 l) (y := 2 ^ k) ⟨HIN.out, two_lt (by omega)⟩)
          have hkk : decide ((8192 : Int) ≤ (k : Int)) = false := by simp; omega
          have hk2 : k < 8192 := by omega
          rw [← hmr.out]
          clear hv
          go_enter Try.func37, Try.ntmps37
          go_wp2_with fail
          refine HMY.out.mono ?_
          rintro e w1 ⟨rfl, hb1⟩
          have H1 := Lib.hid hb1
          clear hb1
          go_wp2_with fail
          refine (bits_any a len cap l _ (HR.out.below H1.out) HL.out hm bb HBB.out).mono ?_
          rintro e w2 ⟨rfl, hb2⟩
          have H2 := Lib.hid (H1.out.trans (hb2.mono H1.out.size))
          clear hb2
          go_wp2_with fail
          refine (power_any k hk2 _).mono ?_
          rintro e w3 ⟨⟨v, m, rfl, ho, hml, hmL, hmv⟩, hb3⟩
          obtain ⟨a3, n3, c3, rfl, hn3, ho3⟩ := own_slice ho
          have H3 := Lib.hid (H2.out.trans (hb3.mono H2.out.size))
          have HC := Lib.hid (mul_any a a3 len cap n3 c3 l m _ (HR.out.below H3.out) ho3.reads HL.out hmL hm (by omega))
          rw [hmv] at HC
          clear ho ho3 hml hmL hmv hn3 hb3
          go_wp2_with fail
          refine HC.out.mono ?_
          rintro e w4 ⟨⟨v4, rfl, ho4⟩, hb4⟩
          have H4 := Lib.hid (H3.out.trans (hb4.mono H3.out.size))
          go_wp2
          go_ret2
          exact ⟨⟨_, rfl, ho4.mono H3.out.size⟩, H4.out⟩
    · rw [decide_eq_false (fun e : val32 l < topN ∧ val32 [] < topN => hin e.1)] at HMY
      rw [cutR_large (mul_ge hin)]
      clear hin
      go_enter Try.func37, Try.ntmps37
      go_wp2_with fail
      refine HMY.out.mono ?_
      rintro e w1 ⟨rfl, hb1⟩
      have H1 := Lib.hid hb1
      clear hb1
      go_wp2_with fail
      refine (bits_any a len cap l _ (HR.out.below H1.out) HL.out hm bb HBB.out).mono ?_
      rintro e w2 ⟨rfl, hb2⟩
      have H2 := Lib.hid (H1.out.trans (hb2.mono H1.out.size))
      clear hb2
      go_wp2
      go_ret2
      exact ⟨⟨_, rfl, OwnQ.nil _ _ _ _⟩, H2.out⟩

end rf

end Go.Proofs.Ytanimenpkinapaa
