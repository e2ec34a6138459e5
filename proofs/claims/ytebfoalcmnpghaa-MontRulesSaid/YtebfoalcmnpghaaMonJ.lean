/-
  THE LAW's great, is, power, alive. (Written by wip/gen_monJ.py.)
-/
import Derived.Test.YtebfoalcmnpghaaMonGI
namespace Go.Proofs.Ytebfoalcmnpghaa
open Go.RowKit

set_option maxHeartbeats 400000 in
theorem great_any (b k : Nat) (f : Nat → Option Addr × Nat × Nat) (most : Nat) (w : World) (h : ∀ i, i < k → w.cell? ⟨b, i, none⟩ = some (.slice (f i).1 (f i).2.1 (f i).2.2)) (hl : ∀ i, i < k → (f i).2.1 ≤ 9223372036854775807) (hk : k ≤ 100) (r : Bool) (hr : r = decide (∃ i, i < k ∧ most < (f i).2.1)) :
    Calls Try.prog 7 #[.int .i64 (most : Int), .slice (some ⟨b, 0, none⟩) k k] w fun e w' => e = .returned (.bool r) ∧ w = w' := by
  have HC := Lib.hid h
  have HL := Lib.hid hl
  have HR := Lib.hid hr
  clear h hl hr
  go_enter Try.func7, Try.ntmps7
  go_wp2
  go_loop [8] (fun i => ∃ j : Nat, i = .int .i64 j ∧ j ≤ k ∧ Hid (∀ t, t < j → (f t).2.1 ≤ most)) (fun i => k - (intOf i).toNat)
  case atStart => exact ⟨0, rfl, Nat.zero_le _, fun t ht => by omega⟩
  case round =>
    obtain ⟨j, rfl, hj, hall⟩ := hrel
    by_cases hlt : j < k
    · have hc := HC.out j hlt
      have hln := HL.out j hlt
      have hst := Lib.hid (show (f j).2.1 ≤ most → ∀ t, t < j + 1 → (f t).2.1 ≤ most from fun e t ht => by
        by_cases h : t < j
        · exact hall.out t h
        · obtain rfl : t = j := by omega
          exact e)
      have hyes := Lib.hid (show most < (f j).2.1 → r = true from fun e => by rw [HR.out, decide_eq_true ⟨j, hlt, e⟩])
      generalize (f j).1 = av at *
      generalize (f j).2.1 = n at *
      generalize (f j).2.2 = c at *
      by_cases hm : most < n
      · have hrt := Lib.hid (hyes.out hm)
        have hd : decide ((most : Int) < (n : Int)) = true := by simp; omega
        go_wp2
        go_ret
        exact ⟨by rw [hrt.out]; rfl, rfl⟩
      · have hd : decide ((most : Int) < (n : Int)) = false := by simp; omega
        have hm2 := Lib.hid (hst.out (by omega))
        go_wp2
        go_round
        case rel => exact ⟨j + 1, by go_num, by omega, hm2.out⟩
        case measure => simp [intOf] <;> omega
    · have hrf := Lib.hid (show r = false by
        rw [HR.out, decide_eq_false_iff_not]
        rintro ⟨i, hi, hm⟩
        have := hall.out i (by omega)
        omega)
      go_wp2
      go_ret
      exact ⟨by rw [hrf.out]; rfl, rfl⟩

theorem NatAt.len {w : World} {a : Option Addr} {len cap n : Nat} (h : NatAt w (.slice a len cap) n) : len ≤ 9223372036854775807 := by
  obtain ⟨a', len', cap', l, he, hr, _, _⟩ := h
  cases he
  have := hr.len_le
  unfold maxLen at this
  omega

/-- 'great(most, x, y)' -/
theorem great2 {a a' : Option Addr} {n c n' c' X Y : Nat} {w : World} (hx : NatAt w (.slice a n c) X) (hy : NatAt w (.slice a' n' c') Y) (most : Nat) (m : Int) (hm : m = most) (b : Nat) (hb : b = w.heap.size) (T : TypeId) (r : Bool) (hr : r = decide (most < n ∨ most < n')) :
    Calls Try.prog 7 #[.int .i64 m, .slice (some ⟨b, 0, none⟩) 2 2] (w.alloc (.cells #[.slice a n c, .slice a' n' c'] T)) fun e w' => e = .returned (.bool r) ∧ w.alloc (.cells #[.slice a n c, .slice a' n' c'] T) = w' := by
  subst hm hb
  refine great_any _ 2 (fun i => if i = 0 then (a, n, c) else (a', n', c')) most _ (fun i hi => ?_) (fun i hi => ?_) (by decide) r ?_
  · rcases (show i = 0 ∨ i = 1 by omega) with rfl | rfl
    · rw [World.cell?_alloc_at _ _ _ _ rfl]; rfl
    · rw [World.cell?_alloc_at _ _ _ _ rfl]; rfl
  · rcases (show i = 0 ∨ i = 1 by omega) with rfl | rfl
    · exact hx.len
    · exact hy.len
  · rw [hr, decide_eq_decide]
    constructor
    · rintro (h | h)
      · exact ⟨0, by decide, h⟩
      · exact ⟨1, by decide, h⟩
    · rintro ⟨i, hi, h⟩
      rcases (show i = 0 ∨ i = 1 by omega) with rfl | rfl
      · exact .inl h
      · exact .inr h
theorem great3 {a a' a'' : Option Addr} {n c n' c' n'' c'' X Y Z : Nat} {w : World} (hx : NatAt w (.slice a n c) X) (hy : NatAt w (.slice a' n' c') Y) (hz : NatAt w (.slice a'' n'' c'') Z) (most : Nat) (m : Int) (hm : m = most) (b : Nat) (hb : b = w.heap.size) (T : TypeId) (r : Bool) (hr : r = decide (most < n ∨ most < n' ∨ most < n'')) :
    Calls Try.prog 7 #[.int .i64 m, .slice (some ⟨b, 0, none⟩) 3 3] (w.alloc (.cells #[.slice a n c, .slice a' n' c', .slice a'' n'' c''] T)) fun e w' => e = .returned (.bool r) ∧ w.alloc (.cells #[.slice a n c, .slice a' n' c', .slice a'' n'' c''] T) = w' := by
  subst hm hb
  refine great_any _ 3 (fun i => if i = 0 then (a, n, c) else if i = 1 then (a', n', c') else (a'', n'', c'')) most _ (fun i hi => ?_) (fun i hi => ?_) (by decide) r ?_
  · rcases (show i = 0 ∨ i = 1 ∨ i = 2 by omega) with rfl | rfl | rfl
    · rw [World.cell?_alloc_at _ _ _ _ rfl]; rfl
    · rw [World.cell?_alloc_at _ _ _ _ rfl]; rfl
    · rw [World.cell?_alloc_at _ _ _ _ rfl]; rfl
  · rcases (show i = 0 ∨ i = 1 ∨ i = 2 by omega) with rfl | rfl | rfl
    · exact hx.len
    · exact hy.len
    · exact hz.len
  · rw [hr, decide_eq_decide]
    constructor
    · rintro (h | h | h)
      · exact ⟨0, by decide, h⟩
      · exact ⟨1, by decide, h⟩
      · exact ⟨2, by decide, h⟩
    · rintro ⟨i, hi, h⟩
      rcases (show i = 0 ∨ i = 1 ∨ i = 2 by omega) with rfl | rfl | rfl
      · exact .inl h
      · exact .inr (.inl h)
      · exact .inr (.inr h)
theorem small_len {a : Option Addr} {n c k : Nat} (h : n ≤ k) (hk : k ≤ 288230376151711743) : Small (.slice a n c) := fun a' n' c' e => by cases e; omega

set_option maxHeartbeats 400000 in
theorem is_nat (x : Value) (X k : Nat) (n : Int) (hn : n = k) (w : World) (hx : NatC w x X) (hk : k < 18446744073709551616) (r : Bool) (hr : r = decide (X = k)) :
    Calls Try.prog 57 #[x, .int .i64 0, .int .u64 n] w fun e w' => e = .returned (.bool r) ∧ Below w.heap.size w w' := by
  have NX := Lib.hid hx
  have HR := Lib.hid hr
  have HK := Lib.hid hk
  have HN := Lib.hid hn
  clear hx hr hk hn
  go_enter Try.func57, Try.ntmps57
  go_wp2_with fail
  refine (of_nat n k HN.out w HK.out).mono ?_
  rintro e w1 ⟨⟨v1, rfl, hv⟩, hb⟩
  have N1 := Lib.hid hv
  have NX1 := Lib.hid (NX.out.below hb)
  have B1 := Lib.hid hb
  clear hv hb
  go_wp2_with fail
  refine (same_nat NX1.out N1.out r HR.out).mono ?_
  rintro e w2 ⟨rfl, hb⟩
  have B2 := Lib.hid (B1.out.trans (hb.mono B1.out.size))
  clear hb
  go_wp2_with fail
  go_ret
  exact ⟨rfl, B2.out⟩

theorem mod3_of {M : Nat} (h : M < 4294967296 ^ 2) (h3 : 3 ≤ M) (ho : M % 2 = 1) : Mod3 M := ⟨lt_topM h, h3, ho⟩

set_option maxHeartbeats 1000000 in
theorem power_any (x k m : Nat) (a b c : Int) (w : World) (ha : a = x) (hb : b = k) (hc : c = m) (hx : x < 18446744073709551616) (hk : k < 18446744073709551616) (hm : m < 18446744073709551616) (h3 : 3 ≤ m) (ho : m % 2 = 1) :
    Calls Try.prog 56 #[.int .u64 a, .int .u64 b, .int .u64 c] w fun e w' => RetN w' (x ^ k % m) e ∧ Below w.heap.size w w' := by
  have HA := Lib.hid ha
  have HB := Lib.hid hb
  have HC := Lib.hid hc
  have HX := Lib.hid hx
  have HK := Lib.hid hk
  have HM := Lib.hid hm
  have H3 := Lib.hid h3
  have HO := Lib.hid ho
  have F := Lib.hid (Below.refl w.heap.size w)
  clear ha hb hc hx hk hm h3 ho
  go_enter Try.func56, Try.ntmps56
  go_wp2_with fail
  refine (of_nat a x HA.out _ HX.out).mono ?_
  rintro e w1 ⟨⟨v1, rfl, ho⟩, hb⟩
  have X := Lib.hid (ho)
  replace F := Lib.hid (F.out.trans (hb.mono F.out.size))
  clear hb
  go_wp2_with fail
  refine (of_nat b k HB.out _ HK.out).mono ?_
  rintro e w2 ⟨⟨v2, rfl, ho⟩, hb⟩
  replace X := Lib.hid (X.out.below hb)
  have K := Lib.hid (ho)
  replace F := Lib.hid (F.out.trans (hb.mono F.out.size))
  clear hb
  go_wp2_with fail
  refine (of_nat c m HC.out _ HM.out).mono ?_
  rintro e w3 ⟨⟨v3, rfl, ho⟩, hb⟩
  replace X := Lib.hid (X.out.below hb)
  replace K := Lib.hid (K.out.below hb)
  have M := Lib.hid (ho)
  replace F := Lib.hid (F.out.trans (hb.mono F.out.size))
  clear hb
  go_wp2_with fail
  refine (mpow_nat X.out.at K.out.at M.out.at (mod3_of (by have := HM.out; omega) H3.out HO.out) (lt_top (by have := HX.out; omega)) (lt_top (by have := HK.out; omega))).mono ?_
  rintro e w4 ⟨⟨v4, rfl, ho⟩, hb⟩
  replace X := Lib.hid (X.out.below hb)
  replace K := Lib.hid (K.out.below hb)
  replace M := Lib.hid (M.out.below hb)
  have R := Lib.hid (ho)
  replace F := Lib.hid (F.out.trans (hb.mono F.out.size))
  clear hb
  go_wp2
  go_ret2
  exact ⟨⟨_, rfl, R.out⟩, F.out⟩

set_option maxHeartbeats 2000000 in
theorem alive_any (w : World) : Calls Try.prog 25 #[] w fun e w' => e = .returned (.bool true) ∧ Below w.heap.size w w' := by
  have F := Lib.hid (Below.refl w.heap.size w)
  go_enter Try.func25, Try.ntmps25
  go_wp2_with fail
  refine (power_any 3 5 7 3 5 7 _ rfl rfl rfl (by decide) (by decide) (by decide) (by decide) (by decide)).mono ?_
  rintro e w1 ⟨⟨v1, rfl, ho⟩, hb⟩
  have A := Lib.hid (ho)
  replace F := Lib.hid (F.out.trans (hb.mono F.out.size))
  clear hb
  go_wp2_with fail
  refine (power_any 2 0 5 2 0 5 _ rfl rfl rfl (by decide) (by decide) (by decide) (by decide) (by decide)).mono ?_
  rintro e w2 ⟨⟨v2, rfl, ho⟩, hb⟩
  replace A := Lib.hid (A.out.below hb)
  have B := Lib.hid (ho)
  replace F := Lib.hid (F.out.trans (hb.mono F.out.size))
  clear hb
  go_wp2_with fail
  refine (power_any 2 10 4294967297 2 10 4294967297 _ rfl rfl rfl (by decide) (by decide) (by decide) (by decide) (by decide)).mono ?_
  rintro e w3 ⟨⟨v3, rfl, ho⟩, hb⟩
  replace A := Lib.hid (A.out.below hb)
  replace B := Lib.hid (B.out.below hb)
  have C := Lib.hid (ho)
  replace F := Lib.hid (F.out.trans (hb.mono F.out.size))
  clear hb
  go_wp2_with fail
  refine (is_nat _ _ 5 5 rfl _ A.out (by decide) true (by decide)).mono ?_
  rintro e w4 ⟨rfl, hb⟩
  replace A := Lib.hid (A.out.below hb)
  replace B := Lib.hid (B.out.below hb)
  replace C := Lib.hid (C.out.below hb)
  replace F := Lib.hid (F.out.trans (hb.mono F.out.size))
  clear hb
  go_wp2_with fail
  refine (is_nat _ _ 1 1 rfl _ B.out (by decide) true (by decide)).mono ?_
  rintro e w5 ⟨rfl, hb⟩
  replace A := Lib.hid (A.out.below hb)
  replace B := Lib.hid (B.out.below hb)
  replace C := Lib.hid (C.out.below hb)
  replace F := Lib.hid (F.out.trans (hb.mono F.out.size))
  clear hb
  go_wp2_with fail
  refine (is_nat _ _ 1024 1024 rfl _ C.out (by decide) true (by decide)).mono ?_
  rintro e w6 ⟨rfl, hb⟩
  replace A := Lib.hid (A.out.below hb)
  replace B := Lib.hid (B.out.below hb)
  replace C := Lib.hid (C.out.below hb)
  replace F := Lib.hid (F.out.trans (hb.mono F.out.size))
  clear hb
  go_wp2_with fail
  refine (bits_nat A.out.at (natC_small A.out (lt_top (by decide))) 3 (by decide)).mono ?_
  rintro e wz ⟨rfl, rfl⟩
  go_wp2
  go_ret
  exact ⟨rfl, F.out⟩

theorem In_nat {p x : Value} {n M X : Nat} {w : World} (hW : Whl w p n M) (hx : NatAt w x X) (hX : X < topN) :
    Calls Try.prog 14 #[p, x] w fun e w' => RetN w' (X * radix n % M) e ∧ Below w.heap.size w w' := by
  refine (In_any p x n M X w hW hx).mono fun e w' ⟨he, hb⟩ => ⟨?_, hb⟩
  rw [inR_yes hX] at he
  exact he.num
theorem Out_nat {p x : Value} {n M X : Nat} {w : World} (hW : Whl w p n M) (hx : NatAt w x X) (hX : X < M) :
    Calls Try.prog 16 #[p, x] w fun e w' => RetN w' (monN n M X) e ∧ Below w.heap.size w w' := by
  refine (Out_any p x n M X w hW hx).mono fun e w' ⟨he, hb⟩ => ⟨?_, hb⟩
  rw [outR_yes hX] at he
  exact he.num
theorem Product_nat {p x y : Value} {n M X Y : Nat} {w : World} (hW : Whl w p n M) (hx : NatAt w x X) (hy : NatAt w y Y) (hX : X < M) (hY : Y < M) :
    Calls Try.prog 12 #[p, x, y] w fun e w' => RetN w' (monN n M (X * Y)) e ∧ Below w.heap.size w w' := by
  refine (Product_any p x y n M X Y w hW hx hy).mono fun e w' ⟨he, hb⟩ => ⟨?_, hb⟩
  rw [productR_yes hX hY] at he
  exact he.num

end Go.Proofs.Ytebfoalcmnpghaa
