/-
  THE REFERENCE's Cmp.
-/
import Derived.Test.YtanimenpkinapaaRef3
namespace Go.Proofs.Ytanimenpkinapaa
open Go.RowKit
namespace rf

theorem below_drewN {B : Nat} {a w : World} (h : Below B a w) (n : Nat) : Below B a (w.drewN n) := h.trans ⟨rfl, rfl, rfl, Nat.le_refl _, fun _ _ => rfl⟩

def ordR (x y : Nat) : Int := if x < y then -1 else if y < x then 1 else 0
theorem ordR_lt {x y : Nat} (h : x < y) : ordR x y = -1 := by simp [ordR, h]
theorem ordR_gt {x y : Nat} (h : y < x) : ordR x y = 1 := by simp [ordR, h]; omega
theorem ordR_eq {x y : Nat} (h : x = y) : ordR x y = 0 := by simp [ordR, h]

theorem rev_digit (x k j : Nat) (h : k + j + 1 = (natB 256 x).length) : (natB 256 x).reverse[k]?.getD 0 = x / 256 ^ j % 256 := by
  rw [List.getElem?_reverse (by omega), show (natB 256 x).length - 1 - k = j by omega, natB_get (by decide)]

theorem digit_up {x y j : Nat} (h : x / 256 ^ (j + 1) = y / 256 ^ (j + 1)) : (x / 256 ^ j % 256 < y / 256 ^ j % 256 → x < y) ∧ (x / 256 ^ j % 256 = y / 256 ^ j % 256 → x / 256 ^ j = y / 256 ^ j) := by
  rw [Nat.pow_succ, ← Nat.div_div_eq_div_mul, ← Nat.div_div_eq_div_mul] at h
  constructor
  · intro hl
    have : x / 256 ^ j < y / 256 ^ j := by
      generalize x / 256 ^ j = p at *
      generalize y / 256 ^ j = q at *
      omega
    exact Nat.lt_of_not_le fun hc => by
      have := Nat.div_le_div_right (c := 256 ^ j) hc
      omega
  · intro he
    generalize x / 256 ^ j = p at *
    generalize y / 256 ^ j = q at *
    omega

theorem longer {x y : Nat} (h : (natB 256 x).length < (natB 256 y).length) : x < y := by
  have h1 := (natB_length (b := 256) (by decide) x _).1 (Nat.le_refl _)
  have h2 := (natB_len_lt (b := 256) (by decide) y _).1 h
  omega

theorem top_zero (x : Nat) : x / 256 ^ (natB 256 x).length = 0 := Nat.div_eq_of_lt ((natB_length (b := 256) (by decide) x _).1 (Nat.le_refl _))

set_option maxRecDepth 100000 in
set_option maxHeartbeats 1000000 in
theorem cmp_any (a a' : Option Addr) (n c n' c' : Nat) (l l' : List Nat) (w : World) (h : Reads .u32 w a n c l) (h' : Reads .u32 w a' n' c' l') (hL : Lim l) (hL' : Lim l') (hm : n ≤ 1000000000000) (hm' : n' ≤ 1000000000000) (r : Int) (hr : r = ordR (val32 l) (val32 l')) :
    Calls Try.prog 33 #[.slice a n c, .slice a' n' c'] w fun e w' => e = .returned (.int .i64 r) ∧ Below w.heap.size w w' := by
  have HD := Lib.hid (bytes_any a n c l w h hL hm)
  have HR := Lib.hid h'
  have HL := Lib.hid hL'
  have hlb : (natB 256 (val32 l)).length ≤ 4 * n := by
    rw [natB_length (by decide), ← pow32, ← h.length]
    exact valB_lt (by decide) hL
  have hlb' : (natB 256 (val32 l')).length ≤ 4 * n' := by
    rw [natB_length (by decide), ← pow32, ← h'.length]
    exact valB_lt (by decide) hL'
  clear h h' hL hL'
  go_enter Try.func33, Try.ntmps33
  go_wp2_with fail
  refine HD.out.mono ?_
  rintro e w1 ⟨⟨v, rfl, ho⟩, hb⟩
  obtain ⟨a1, n1, c1, rfl, hn1, ho1⟩ := own_slice ho
  rw [List.length_reverse] at hn1
  have HB := Lib.hid hb
  have HO1 := Lib.hid ho1.reads
  have hx1 : n1 ≤ 4000000000000 := by omega
  have HN1 := Lib.hid hn1
  clear ho ho1 hb hn1 hlb
  go_wp2_with fail
  refine (bytes_any a' n' c' l' _ (HR.out.below HB.out) HL.out hm').mono ?_
  rintro e w2 ⟨⟨v, rfl, ho⟩, hb⟩
  obtain ⟨a2, n2, c2, rfl, hn2, ho2⟩ := own_slice ho
  rw [List.length_reverse] at hn2
  have HB2 := Lib.hid (HB.out.trans (hb.mono HB.out.size))
  have R1 := Lib.hid (HO1.out.below hb)
  have R2 := Lib.hid ho2.reads
  have hx2 : n2 ≤ 4000000000000 := by omega
  have HN2 := Lib.hid hn2
  clear ho ho2 hb hn2 hlb'
  clear HO1 HB HD HR HL
  generalize val32 l = x at *
  generalize val32 l' = y at *
  have HRR := Lib.hid hr
  clear hr
  rcases Nat.lt_trichotomy n1 n2 with hc | rfl | hc
  · have hres := Lib.hid (show r = -1 by rw [HRR.out]; exact ordR_lt (longer (by rw [← HN1.out, ← HN2.out]; exact hc)))
    have t1 : ((n1 : Int) == n2) = false := by simp; omega
    go_wp2
    go_ret
    exact ⟨by rw [hres.out]; rfl, HB2.out⟩
  · go_wp2
    go_loopw [7] (fun i wr => ∃ k j : Nat, i = .int .i64 (k : Int) ∧ k + j = n1 ∧ Hid (x / 256 ^ j = y / 256 ^ j) ∧ Hid (Below w.heap.size w wr) ∧ Hid (Below w2.heap.size w2 wr)) (fun i _ => n1 - (intOf i).toNat)
    case atStart => exact ⟨0, n1, rfl, by omega, by unfold Hid; rw [HN1.out, top_zero, ← HN1.out, HN2.out, top_zero], HB2.out, Below.refl _ _⟩
    case round =>
      obtain ⟨k, j, rfl, hkj, hq, hbel, hbw⟩ := hrel
      rcases Nat.eq_zero_or_pos j with rfl | hp
      · have hres := Lib.hid (show r = 0 by rw [HRR.out]; exact ordR_eq (by simpa using hq.out))
        obtain rfl : k = n1 := by omega
        go_wp2
        go_ret
        exact ⟨by rw [hres.out]; rfl, hbel.out⟩
      · obtain ⟨i, rfl⟩ : ∃ i, j = i + 1 := ⟨j - 1, by omega⟩
        clear hp
        obtain ⟨b, off, rfl, hbk, hcl⟩ := (R1.out.below hbw.out).cells (by omega)
        obtain ⟨b', off', rfl, hbk', hcl'⟩ := (R2.out.below hbw.out).cells (by omega)
        have hck := hcl k (by omega)
        have hck' := hcl' k (by omega)
        rw [rev_digit x k i (by rw [← HN1.out]; omega)] at hck
        rw [rev_digit y k i (by rw [← HN2.out]; omega)] at hck'
        obtain ⟨hlt, heq⟩ := digit_up hq.out
        have hgt := (digit_up hq.out.symm).1
        have hd1 : x / 256 ^ i % 256 < 256 := Nat.mod_lt _ (by decide)
        have hd2 : y / 256 ^ i % 256 < 256 := Nat.mod_lt _ (by decide)
        have HLT := Lib.hid hlt
        have HEQ := Lib.hid heq
        have HGT := Lib.hid hgt
        have hkn : k < n1 := by omega
        clear hcl hcl' hlt heq hgt
        generalize x / 256 ^ i % 256 = d at *
        generalize y / 256 ^ i % 256 = d' at *
        rcases Nat.lt_trichotomy d d' with h1 | h1 | h1
        · have hres := Lib.hid (show r = -1 by rw [HRR.out]; exact ordR_lt (HLT.out h1))
          have t1 : decide (d < d') = true := decide_eq_true h1
          clear HLT HEQ HGT
          go_wp2_with go_quiet (fail)
          go_ret
          exact ⟨by rw [hres.out]; rfl, below_drewN hbel.out _⟩
        · have hq2 := Lib.hid (HEQ.out h1)
          subst h1
          clear HLT HEQ HGT
          go_wp2_with go_quiet (fail)
          go_roundw
          case rel => exact ⟨k + 1, i, by go_num, by omega, hq2.out, below_drewN hbel.out _, below_drewN hbw.out _⟩
          case measure => simp [intOf] <;> omega
        · have hres := Lib.hid (show r = 1 by rw [HRR.out]; exact ordR_gt (HGT.out h1))
          have t1 : decide (d < d') = false := decide_eq_false (by omega)
          have t2 : decide (d' < d) = true := decide_eq_true h1
          clear HLT HEQ HGT
          go_wp2_with go_quiet (fail)
          go_ret
          exact ⟨by rw [hres.out]; rfl, below_drewN (below_drewN hbel.out _) _⟩
  · have hres := Lib.hid (show r = 1 by rw [HRR.out]; exact ordR_gt (longer (by rw [← HN1.out, ← HN2.out]; exact hc)))
    have t1 : ((n1 : Int) == n2) = false := by simp; omega
    have t2 : decide ((n1 : Int) < n2) = false := by simp; omega
    go_wp2
    go_ret
    exact ⟨by rw [hres.out]; rfl, HB2.out⟩

end rf

end Go.Proofs.Ytanimenpkinapaa
