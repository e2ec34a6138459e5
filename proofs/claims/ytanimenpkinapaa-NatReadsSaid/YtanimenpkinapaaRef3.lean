/-
  THE REFERENCE's Bit, Bits, Cmp.
-/
import Derived.Test.YtanimenpkinapaaRef2
namespace Go.Proofs.Ytanimenpkinapaa
open Go.RowKit
namespace rf

theorem bit_digit (v k : Nat) : v.testBit k = decide ((natB 256 v)[k / 8]?.getD 0 / 2 ^ (k % 8) % 2 = 1) := by
  rw [natB_get (by decide), show (256 : Nat) ^ (k / 8) = 2 ^ (8 * (k / 8)) by rw [Nat.pow_mul]]
  have e : v.testBit k = (v / 2 ^ (8 * (k / 8)) % 2 ^ 8).testBit (k % 8) := by
    rw [Nat.testBit_mod_two_pow, Nat.testBit_div_two_pow, show k % 8 + 8 * (k / 8) = k by omega]
    simp [Nat.mod_lt]
  rw [e, Nat.testBit_eq_decide_div_mod_eq]

set_option maxRecDepth 100000 in
set_option maxHeartbeats 1000000 in
theorem bit_any (a : Option Addr) (len cap : Nat) (l : List Nat) (w : World) (h : Reads .u32 w a len cap l) (hL : Lim l) (hm : len ≤ 1000000000000) (i : Int) (hi : i ≤ 9223372036854775807) (r : Bool) (hr : r = (decide (0 ≤ i) && (val32 l).testBit i.toNat)) :
    Calls Try.prog 20 #[.slice a len cap, .int .i64 i] w fun e w' => e = .returned (.bool r) ∧ Below w.heap.size w w' := by
  have HD := Lib.hid (digits_any a len cap l w h hL hm)
  have HRR := Lib.hid hr
  have hbt : Byt (natB 256 (val32 l)) := natB_digit (by decide) _
  have hbd := fun k => bit_digit (val32 l) k
  have hlb : (natB 256 (val32 l)).length ≤ 4 * len := by
    rw [natB_length (by decide), ← pow32, ← h.length]
    exact valB_lt (by decide) hL
  clear h hL hr
  generalize natB 256 (val32 l) = m at *
  have HBT := Lib.hid hbt
  have HBD := Lib.hid hbd
  clear hbt hbd
  by_cases h0 : i < 0
  · have hrf := Lib.hid (show r = false by rw [HRR.out, decide_eq_false (by omega)]; rfl)
    go_enter Try.func20, Try.ntmps20
    go_wp2_with fail
    refine HD.out.mono ?_
    rintro e w1 ⟨⟨v, rfl, ho⟩, hb⟩
    obtain ⟨a1, n1, c1, rfl, hn1, -⟩ := own_slice ho
    have HB := Lib.hid hb
    clear ho hn1 hb
    go_wp2
    go_ret
    exact ⟨by rw [hrf.out]; rfl, HB.out⟩
  · obtain ⟨k, rfl⟩ := Int.eq_ofNat_of_zero_le (show 0 ≤ i by omega)
    have hrk := Lib.hid (show r = decide (m[k / 8]?.getD 0 / 2 ^ (k % 8) % 2 = 1) by rw [HRR.out, decide_eq_true (by omega), Bool.true_and, Int.toNat_natCast, HBD.out])
    have hq : (k : Int) / 8 = ((k / 8 : Nat) : Int) := by omega
    have hrm : (k : Int) % 8 = ((k % 8 : Nat) : Int) := by omega
    have hr8 : k % 8 < 8 := by omega
    clear h0
    generalize k / 8 = q at *
    generalize k % 8 = s at *
    go_enter Try.func20, Try.ntmps20
    go_wp2_with fail
    refine HD.out.mono ?_
    rintro e w1 ⟨⟨v, rfl, ho⟩, hb⟩
    obtain ⟨a1, n1, c1, rfl, hn1, ho1⟩ := own_slice ho
    have HN := Lib.hid hn1
    have HRD := Lib.hid ho1.reads
    have HB := Lib.hid hb
    have hn4 : n1 ≤ 4000000000000 := by omega
    clear ho hn1 ho1 hb hlb
    by_cases hlt : q < n1
    · obtain ⟨b, off, rfl, hbk, hc⟩ := HRD.out.cells (by omega)
      have hck := hc q hlt
      have hd := get_lt (by decide) HBT.out q
      clear hc
      generalize m[q]?.getD 0 = d at *
      go_wp2
      go_loop [6, 7] (fun x i => ∃ j y : Nat, j ≤ s ∧ i = .int .i64 j ∧ x = .int .i64 (y : Int) ∧ y < 256 ∧ Hid (y = d / 2 ^ j)) (fun _ i => s - (intOf i).toNat)
      case atStart => exact ⟨0, d, Nat.zero_le _, rfl, rfl, hd, by simp [Hid]⟩
      case round =>
        obtain ⟨j, y, hj, rfl, rfl, hy, hyd⟩ := hrel
        by_cases hjs : j < s
        · go_wp2
          go_round
          case rel => exact ⟨j + 1, y / 2, by omega, by go_num, by go_num, by omega, by unfold Hid; rw [hyd.out, Nat.div_div_eq_div_mul, Nat.pow_succ]⟩
          case measure => simp [intOf] <;> omega
        · obtain rfl : j = s := by omega
          have hfin := Lib.hid (show r = decide (y % 2 = 1) by rw [hrk.out, hyd.out])
          go_wp2
          go_ret
          refine ⟨?_, HB.out⟩
          rw [hfin.out]
          show Ending.returned (.bool ((y : Int) % 2 == 1)) = _
          congr 2
          rw [Bool.eq_iff_iff]
          simp
          omega
    · have hz := Lib.hid (show r = false by rw [hrk.out, List.getElem?_eq_none (by rw [← HN.out]; omega)]; simp)
      have hge : n1 ≤ q := by omega
      clear hlt
      go_wp2
      go_ret
      exact ⟨by rw [hz.out]; rfl, HB.out⟩

def bitsN (n : Nat) : Nat := if n = 0 then 0 else Nat.log2 n + 1
theorem bitsN_le (n k : Nat) : bitsN n ≤ k ↔ n < 2 ^ k := by
  unfold bitsN
  by_cases h : n = 0
  · simp [h, Nat.pow_pos]
  · rw [if_neg h, ← Nat.log2_lt h]; omega

theorem bit_step (v n : Nat) (h : v < 2 ^ (n + 1)) (hb : v.testBit n = false) : v < 2 ^ n := by
  rw [Nat.testBit_eq_decide_div_mod_eq] at hb
  rw [Nat.pow_succ] at h
  have h1 : v / 2 ^ n < 2 := by rw [Nat.div_lt_iff_lt_mul (Nat.pow_pos (by decide))]; omega
  have h3 := of_decide_eq_false hb
  have h2 : v / 2 ^ n = 0 := by
    generalize v / 2 ^ n = y at h1 h3
    omega
  exact Nat.lt_of_div_eq_zero (Nat.pow_pos (by decide)) h2

theorem bit_last (v n : Nat) (h : v < 2 ^ (n + 1)) (hb : v.testBit n = true) : bitsN v = n + 1 := by
  have h1 := (bitsN_le v (n + 1)).2 h
  have h2 : ¬ bitsN v ≤ n := fun hc => by
    have h3 := (bitsN_le v n).1 hc
    rw [Nat.testBit_eq_decide_div_mod_eq, Nat.div_eq_of_lt h3] at hb
    simp at hb
  omega

set_option maxRecDepth 100000 in
set_option maxHeartbeats 1000000 in
theorem bits_any (a : Option Addr) (len cap : Nat) (l : List Nat) (w : World) (h : Reads .u32 w a len cap l) (hL : Lim l) (hm : len ≤ 1000000000000) (b : Nat) (hb : b = bitsN (val32 l)) :
    Calls Try.prog 19 #[.slice a len cap] w fun e w' => e = .returned (.int .i64 (b : Int)) ∧ Below w.heap.size w w' := by
  have HD := Lib.hid (digits_any a len cap l w h hL hm)
  have HR := Lib.hid h
  have HL := Lib.hid hL
  have HBB := Lib.hid hb
  have hlb : (natB 256 (val32 l)).length ≤ 4 * len := by
    rw [natB_length (by decide), ← pow32, ← h.length]
    exact valB_lt (by decide) hL
  have hv := Lib.hid ((natB_length (b := 256) (by decide) (val32 l) _).1 (Nat.le_refl _))
  clear h hL hb
  go_enter Try.func19, Try.ntmps19
  go_wp2_with fail
  refine HD.out.mono ?_
  rintro e w1 ⟨⟨v, rfl, ho⟩, hb1⟩
  obtain ⟨a1, n1, c1, rfl, hn1, -⟩ := own_slice ho
  have HN := Lib.hid hn1
  have HB := Lib.hid hb1
  have hn4 : n1 ≤ 4000000000000 := by omega
  clear ho hn1 hb1 hlb
  go_wp2
  go_loopw [4] (fun x wr => ∃ k : Nat, k ≤ 8 * n1 ∧ x = .int .i64 (k : Int) ∧ Hid (val32 l < 2 ^ k) ∧ Hid (Below w.heap.size w wr)) (fun x _ => (intOf x).toNat)
  case atStart => exact ⟨8 * n1, Nat.le_refl _, by go_num, by unfold Hid; rw [HN.out, Nat.pow_mul]; exact hv.out, HB.out⟩
  case round =>
    obtain ⟨k, hk, rfl, hlt, hbel⟩ := hrel
    rcases Nat.eq_zero_or_pos k with rfl | hp
    · have hz := Lib.hid (show b = 0 by rw [HBB.out]; have := hlt.out; rw [Nat.pow_zero] at this; rw [show val32 l = 0 by omega]; rfl)
      go_wp2
      go_ret
      exact ⟨by rw [hz.out]; rfl, hbel.out⟩
    · obtain ⟨j, rfl⟩ : ∃ j, k = j + 1 := ⟨k - 1, by omega⟩
      clear hp
      cases hbit : (val32 l).testBit j with
      | true =>
        have hz := Lib.hid (show b = j + 1 by rw [HBB.out]; exact bit_last _ _ hlt.out hbit)
        have HC := Lib.hid (bit_any a len cap l wr (HR.out.below hbel.out) HL.out hm (j : Int) (by omega) true (by simp [hbit]))
        clear hbit
        go_wp2_with (go_at_call 20; refine HC.out.mono ?_; rintro e w2 ⟨rfl, hb2⟩)
        go_ret
        exact ⟨by rw [hz.out]; go_num, hbel.out.trans (hb2.mono hbel.out.size)⟩
      | false =>
        have hz := Lib.hid (bit_step _ _ hlt.out hbit)
        have HC := Lib.hid (bit_any a len cap l wr (HR.out.below hbel.out) HL.out hm (j : Int) (by omega) false (by simp [hbit]))
        clear hbit
        go_wp2_with (go_at_call 20; refine HC.out.mono ?_; rintro e w2 ⟨rfl, hb2⟩)
        go_roundw
        case rel => exact ⟨j, by omega, by go_num, hz.out, hbel.out.trans (hb2.mono hbel.out.size)⟩
        case measure => simp [intOf] <;> omega

end rf

end Go.Proofs.Ytanimenpkinapaa
