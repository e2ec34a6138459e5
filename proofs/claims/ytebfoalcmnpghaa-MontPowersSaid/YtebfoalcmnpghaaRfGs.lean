/-
  MERGED: RfG RfH RfI RfJ
-/
import Derived.Test.YtebfoalcmnpghaaRefs
import Derived.Test.YtebfoalcmnpghaaInvA
namespace Go.Proofs.Ytebfoalcmnpghaa
open Go.RowKit

theorem topM_256 (m : Nat) (h : m = 512) : topM = 256 ^ m := by
  obtain ⟨t, ht⟩ : ∃ t, t = 128 := ⟨_, rfl⟩
  have e : m = 4 * t := by omega
  rw [e, ← pow32, ht]
  rfl

/-- How far the product has fallen behind k turns. -/
def EuI (A B P k : Nat) : Prop := (k = 0 ∧ A * B ≤ P) ∨ ∃ j, k = j + 1 ∧ B ≤ A ∧ 2 ^ j * (A * B) ≤ P

theorem EuI.start (A B : Nat) : EuI A B (A * B) 0 := .inl ⟨rfl, Nat.le_refl _⟩
theorem EuI.step {A B P k : Nat} (h : EuI A B P k) (hB : 0 < B) : EuI B (A % B) P (k + 1) := by
  have hm := Nat.mod_lt A hB
  rcases h with ⟨rfl, h⟩ | ⟨j, rfl, hle, h⟩
  · refine .inr ⟨0, rfl, Nat.le_of_lt hm, ?_⟩
    have h1 : B * (A % B) ≤ B * A := Nat.mul_le_mul_left _ (Nat.mod_le _ _)
    rw [Nat.mul_comm B A] at h1
    simp
    omega
  · refine .inr ⟨j + 1, rfl, Nat.le_of_lt hm, ?_⟩
    have hd := Nat.mod_add_div A B
    have hq : 1 ≤ A / B := (Nat.le_div_iff_mul_le hB).2 (by omega)
    have hBq : B * 1 ≤ B * (A / B) := Nat.mul_le_mul_left _ hq
    have h2 : 2 * (A % B) ≤ A := by omega
    have h3 : B * (2 * (A % B)) ≤ B * A := Nat.mul_le_mul_left _ h2
    have h4 : 2 ^ j * (B * (2 * (A % B))) ≤ 2 ^ j * (B * A) := Nat.mul_le_mul_left _ h3
    have e : 2 ^ (j + 1) * (B * (A % B)) = 2 ^ j * (B * (2 * (A % B))) := by
      rw [Nat.pow_succ, Nat.mul_assoc, ← Nat.mul_assoc 2, ← Nat.mul_assoc B, Nat.mul_comm 2 B]
    rw [e]
    rw [Nat.mul_comm B A] at h4
    omega
theorem EuI.few {A B P k E : Nat} (h : EuI A B P k) (hB : 0 < B) (hP : P < 2 ^ E) : k ≤ E := by
  rcases h with ⟨rfl, -⟩ | ⟨j, rfl, hle, h⟩
  · exact Nat.zero_le _
  · have hp : 1 ≤ A * B := Nat.mul_pos (by omega) hB
    have h1 : 2 ^ j * 1 ≤ 2 ^ j * (A * B) := Nat.mul_le_mul_left _ hp
    have h2 : 2 ^ j < 2 ^ E := by omega
    exact (Nat.pow_lt_pow_iff_right (by decide)).1 h2

/-- A natural in a slice that is not too long for the reference. -/
def NatS (w : World) (v : Value) (n : Nat) : Prop := ∃ a len cap l, v = .slice a len cap ∧ Reads .u32 w a len cap l ∧ Lim l ∧ val32 l = n ∧ len ≤ 1000000000000
theorem NatS.below {w w' : World} {v : Value} {n : Nat} (h : NatS w v n) (hb : Below w.heap.size w w') : NatS w' v n := by
  obtain ⟨a, len, cap, l, hv, hr, hl, hn, hm⟩ := h
  exact ⟨a, len, cap, l, hv, hr.below hb, hl, hn, hm⟩
theorem NatS.of {E B : Nat} {w : World} {v : Value} {n : Nat} (h : OwnQ .u32 E B w v (nat32 n)) (hn : n < topN) : NatS w v n := by
  obtain ⟨a, len, cap, rfl, hl, ho⟩ := h.slice
  have := (own_short (k := 256) ho).2 hn
  exact ⟨a, len, cap, nat32 n, rfl, ho.reads, natB_digit (by decide) _, natB_val (by decide) _, by omega⟩
theorem NatS.at {w : World} {v : Value} {n : Nat} (h : NatS w v n) : NatAt w v n := by
  obtain ⟨a, len, cap, l, hv, hr, hl, hn, _⟩ := h
  exact ⟨a, len, cap, l, hv, hr, hl, hn⟩
theorem NatS.nil (w : World) : NatS w (.slice none 0 0) 0 := ⟨none, 0, 0, [], rfl, Reads.none _ _, fun x hx => (by cases hx), rfl, by omega⟩
theorem NatS.one (w : World) (E : TypeId) : NatS (w.alloc (.cells #[.int .u32 1] E)) (.slice (some ⟨w.heap.size, 0, none⟩) 1 1) 1 := ⟨_, 1, 1, [1], rfl, Reads.one .u32 _ _ _ _ rfl, fun x hx => by
  obtain rfl := List.mem_singleton.1 hx
  decide, rfl, by omega⟩
theorem NatS.lim {w : World} {a : Option Addr} {len cap : Nat} {l : List Nat} (hr : Reads .u32 w a len cap l) (hl : Lim l) (hm : len ≤ 1000000000000) : NatS w (.slice a len cap) (val32 l) := ⟨a, len, cap, l, rfl, hr, hl, rfl, hm⟩

namespace rf

theorem div_s {x y : Value} {X Y : Nat} {w : World} (hx : NatS w x X) (hy : NatS w y Y) : Calls Try.prog 52 #[x, y] w fun e w' => RetsD w.heap.size w' (divR X Y) e ∧ Below w.heap.size w w' := by
  obtain ⟨a, n, c, l, rfl, hr, hl, rfl, hm⟩ := hx
  obtain ⟨a', n', c', l', rfl, hr', hl', rfl, hm'⟩ := hy
  exact div_any a a' n c n' c' l l' w hr hr' hl hl' hm hm'
theorem div_ok {x y : Value} {X Y : Nat} {w : World} (hx : NatS w x X) (hy : NatS w y Y) (hX : X < topN) (hY : Y < topN) (h0 : 0 < Y) : Calls Try.prog 52 #[x, y] w fun e w' => (∃ v u, e = .returned (.tuple #[v, u, .int .i64 0]) ∧ OwnQ .u32 41 w.heap.size w' v (nat32 (X / Y)) ∧ OwnQ .u32 41 w.heap.size w' u (nat32 (X % Y))) ∧ Below w.heap.size w w' := by
  have := div_s hx hy
  rw [divR_yes ⟨hX, hY⟩ (by omega)] at this
  exact this
theorem may_s {x y : Value} {X Y : Nat} {w : World} (hx : NatS w x X) (hy : NatS w y Y) (r : Bool) (h : r = decide (X < topN ∧ Y < topN)) : Calls Try.prog 21 #[x, y] w fun e w' => e = .returned (.bool r) ∧ Below w.heap.size w w' := by
  obtain ⟨a, n, c, l, rfl, hr, hl, rfl, hm⟩ := hx
  obtain ⟨a', n', c', l', rfl, hr', hl', rfl, hm'⟩ := hy
  exact may_any a a' n c n' c' l l' w hr hr' hl hl' hm hm' r h
theorem modulus_s {x : Value} {X : Nat} {w : World} (hx : NatS w x X) (r : Bool) (h : r = decide (X < topM)) : Calls Try.prog 33 #[x] w fun e w' => e = .returned (.bool r) ∧ Below w.heap.size w w' := by
  obtain ⟨a, n, c, l, rfl, hr, hl, rfl, hm⟩ := hx
  obtain ⟨m, hm5⟩ : ∃ m, m = 512 := ⟨_, rfl⟩
  rw [topM_256 m hm5] at h
  exact modulus_any a n c l w hr hl hm m hm5 r h
theorem cmp_s {x y : Value} {X Y : Nat} {w : World} (hx : NatS w x X) (hy : NatS w y Y) (r : Int) (h : r = ordR X Y) : Calls Try.prog 20 #[x, y] w fun e w' => e = .returned (.int .i64 r) ∧ Below w.heap.size w w' := by
  obtain ⟨a, n, c, l, rfl, hr, hl, rfl, hm⟩ := hx
  obtain ⟨a', n', c', l', rfl, hr', hl', rfl, hm'⟩ := hy
  exact cmp_any a a' n c n' c' l l' w hr hr' hl hl' hm hm' r h
theorem add_ok {x y : Value} {X Y : Nat} {w : World} (hx : NatS w x X) (hy : NatS w y Y) (h : X + Y < topN) : Calls Try.prog 67 #[x, y] w fun e w' => (∃ v, e = .returned (.tuple #[v, .int .i64 0]) ∧ OwnQ .u32 41 w.heap.size w' v (nat32 (X + Y))) ∧ Below w.heap.size w w' := by
  obtain ⟨a, n, c, l, rfl, hr, hl, rfl, hm⟩ := hx
  obtain ⟨a', n', c', l', rfl, hr', hl', rfl, hm'⟩ := hy
  have := add_any a a' n c n' c' l l' w hr hr' hl hl' hm hm'
  rw [cutR_small h] at this
  exact this
theorem mul_ok {x y : Value} {X Y : Nat} {w : World} (hx : NatS w x X) (hy : NatS w y Y) (hX : X < topN) (hY : Y < topN) (h : X * Y < topN) : Calls Try.prog 69 #[x, y] w fun e w' => (∃ v, e = .returned (.tuple #[v, .int .i64 0]) ∧ OwnQ .u32 41 w.heap.size w' v (nat32 (X * Y))) ∧ Below w.heap.size w w' := by
  obtain ⟨a, n, c, l, rfl, hr, hl, rfl, hm⟩ := hx
  obtain ⟨a', n', c', l', rfl, hr', hl', rfl, hm'⟩ := hy
  have := mul_any a a' n c n' c' l l' w hr hr' hl hl' hm hm'
  rw [mulR_yes ⟨hX, hY⟩, cutR_small h] at this
  exact this
theorem sub_ok {x y : Value} {X Y : Nat} {w : World} (hx : NatS w x X) (hy : NatS w y Y) (hX : X < topN) (h : Y ≤ X) : Calls Try.prog 68 #[x, y] w fun e w' => (∃ v, e = .returned (.tuple #[v, .int .i64 0]) ∧ OwnQ .u32 41 w.heap.size w' v (nat32 (X - Y))) ∧ Below w.heap.size w w' := by
  obtain ⟨a, n, c, l, rfl, hr, hl, rfl, hm⟩ := hx
  obtain ⟨a', n', c', l', rfl, hr', hl', rfl, hm'⟩ := hy
  have := sub_any a a' n c n' c' l l' w hr hr' hl hl' hm hm'
  rw [show subR (val32 l) (val32 l') = (nat32 (val32 l - val32 l'), 0) from if_pos ⟨hX, Nat.lt_of_le_of_lt h hX, h⟩] at this
  exact this
theorem digits_s {x : Value} {X : Nat} {w : World} (hx : NatS w x X) : Calls Try.prog 51 #[x] w fun e w' => RetsQ .i64 3 w.heap.size w' (natB 256 X) e ∧ Below w.heap.size w w' := by
  obtain ⟨a, n, c, l, rfl, hr, hl, rfl, hm⟩ := hx
  exact digits_any a n c l w hr hl hm

end rf

end Go.Proofs.Ytebfoalcmnpghaa

namespace Go.Proofs.Ytebfoalcmnpghaa
open Go.RowKit
namespace rf

set_option maxRecDepth 100000 in
set_option maxHeartbeats 1000000 in
theorem mulMod_s (x y m : Value) (X Y M : Nat) (w : World) (hx : NatS w x X) (hy : NatS w y Y) (hm : NatS w m M) :
    Calls Try.prog 47 #[x, y, m] w fun e w' => RetsQ2 .u32 41 w.heap.size w' (mulModR X Y M) e ∧ Below w.heap.size w w' := by
  have NX := Lib.hid hx
  have NY := Lib.hid hy
  have NM := Lib.hid hm
  clear hx hy hm
  by_cases hXY : X < topN ∧ Y < topN
  · by_cases hM : M < topM
    · have HMY := Lib.hid (fun r hr => may_s NX.out NY.out r hr)
      have HM := Lib.hid hM
      have HX := Lib.hid hXY.1
      have HY := Lib.hid hXY.2
      have HMN := Lib.hid (Nat.lt_of_lt_of_le hM topM_le)
      have hmt := Lib.hid (show true = decide (X < topN ∧ Y < topN) from (decide_eq_true hXY).symm)
      have hmo := Lib.hid (show true = decide (M < topM) from (decide_eq_true hM).symm)
      clear hXY hM
      rcases Nat.eq_zero_or_pos M with h0 | h0
      · have hr := Lib.hid (show mulModR X Y M = ([], 60) by rw [h0]; exact mulModR_zero HX.out HY.out)
        have hdz := Lib.hid (show divR X M = ([], [], 60) by exact divR_zero ⟨HX.out, HMN.out⟩ h0)
        clear h0
        go_enter Try.func47, Try.ntmps47
        go_wp2_with fail
        refine (HMY.out _ hmt.out).mono ?_
        rintro e w1 ⟨rfl, hb⟩
        have B1 := Lib.hid hb
        have NX1 := Lib.hid (NX.out.below hb)
        have NM1 := Lib.hid (NM.out.below hb)
        clear hb
        go_wp2_with fail
        refine (modulus_s NM1.out true hmo.out).mono ?_
        rintro e w2 ⟨rfl, hb⟩
        have B2 := Lib.hid (B1.out.trans (hb.mono B1.out.size))
        have NX2 := Lib.hid (NX1.out.below hb)
        have NM2 := Lib.hid (NM1.out.below hb)
        clear hb
        go_wp2_with fail
        refine (div_s NX2.out NM2.out).mono ?_
        rintro e w3 ⟨hr3, hb⟩
        rw [hdz.out] at hr3
        obtain ⟨v3, u3, rfl, -, -⟩ := hr3
        have B3 := Lib.hid (B2.out.trans (hb.mono B2.out.size))
        clear hb
        go_wp2_with fail
        go_ret2
        exact ⟨⟨_, by rw [hr.out]; rfl, by rw [hr.out]; exact OwnQ.nil _ _ _ _⟩, B3.out⟩
      · have hr := Lib.hid (mulModR_yes (x := X) (y := Y) HM.out HX.out HY.out h0)
        have H0 := Lib.hid h0
        have hx2 := Lib.hid (Nat.lt_trans (Nat.mod_lt X h0) HMN.out)
        have hy2 := Lib.hid (Nat.lt_trans (Nat.mod_lt Y h0) HMN.out)
        have hp := Lib.hid (show X % M * (Y % M) < topN by
          rw [← topM_sq]
          exact Nat.mul_lt_mul'' (Nat.lt_trans (Nat.mod_lt X h0) HM.out) (Nat.lt_trans (Nat.mod_lt Y h0) HM.out))
        clear h0
        go_enter Try.func47, Try.ntmps47
        go_wp2_with fail
        refine (HMY.out _ hmt.out).mono ?_
        rintro e w1 ⟨rfl, hb⟩
        have B1 := Lib.hid hb
        have NX1 := Lib.hid (NX.out.below hb)
        have NY1 := Lib.hid (NY.out.below hb)
        have NM1 := Lib.hid (NM.out.below hb)
        clear hb
        go_wp2_with fail
        refine (modulus_s NM1.out true hmo.out).mono ?_
        rintro e w2 ⟨rfl, hb⟩
        have B2 := Lib.hid (B1.out.trans (hb.mono B1.out.size))
        have NX2 := Lib.hid (NX1.out.below hb)
        have NY2 := Lib.hid (NY1.out.below hb)
        have NM2 := Lib.hid (NM1.out.below hb)
        clear hb
        go_wp2_with fail
        refine (div_ok NX2.out NM2.out HX.out HMN.out H0.out).mono ?_
        rintro e w3 ⟨⟨v3, u3, rfl, -, ho⟩, hb⟩
        have O3 := Lib.hid ho
        have NY3 := Lib.hid (NY2.out.below hb)
        have NM3 := Lib.hid (NM2.out.below hb)
        have B3 := Lib.hid (B2.out.trans (hb.mono B2.out.size))
        clear hb ho
        go_wp2_with fail
        refine (div_ok NY3.out NM3.out HY.out HMN.out H0.out).mono ?_
        rintro e w4 ⟨⟨v4, u4, rfl, -, ho⟩, hb⟩
        have O4 := Lib.hid (NatS.of ho hy2.out)
        have O34 := Lib.hid (NatS.of (O3.out.below hb) hx2.out)
        have NM4 := Lib.hid (NM3.out.below hb)
        have B4 := Lib.hid (B3.out.trans (hb.mono B3.out.size))
        clear hb ho
        go_wp2_with fail
        refine (mul_ok O34.out O4.out hx2.out hy2.out hp.out).mono ?_
        rintro e w5 ⟨⟨v5, rfl, ho⟩, hb⟩
        have O5 := Lib.hid (NatS.of ho hp.out)
        have NM5 := Lib.hid (NM4.out.below hb)
        have B5 := Lib.hid (B4.out.trans (hb.mono B4.out.size))
        clear hb ho
        go_wp2_with fail
        refine (div_ok O5.out NM5.out hp.out HMN.out H0.out).mono ?_
        rintro e w6 ⟨⟨v6, u6, rfl, -, ho⟩, hb⟩
        rw [← Nat.mul_mod] at ho
        have O6 := Lib.hid (ho.mono B5.out.size)
        have B6 := Lib.hid (B5.out.trans (hb.mono B5.out.size))
        clear hb ho
        go_wp2_with fail
        go_ret2
        exact ⟨⟨_, by rw [hr.out]; rfl, by rw [hr.out]; exact O6.out⟩, B6.out⟩
    · have hr := Lib.hid (mulModR_no (x := X) (y := Y) (m := M) (fun h => hM h.1))
      have hmt := Lib.hid (show true = decide (X < topN ∧ Y < topN) from (decide_eq_true hXY).symm)
      have hmo := Lib.hid (show false = decide (M < topM) from (decide_eq_false hM).symm)
      clear hXY hM
      go_enter Try.func47, Try.ntmps47
      go_wp2_with fail
      refine (may_s NX.out NY.out _ hmt.out).mono ?_
      rintro e w1 ⟨rfl, hb⟩
      have B1 := Lib.hid hb
      have NM1 := Lib.hid (NM.out.below hb)
      clear hb
      go_wp2_with fail
      refine (modulus_s NM1.out _ hmo.out).mono ?_
      rintro e w2 ⟨rfl, hb⟩
      have B2 := Lib.hid (B1.out.trans (hb.mono B1.out.size))
      clear hb
      go_wp2_with fail
      go_ret2
      exact ⟨⟨_, by rw [hr.out]; rfl, by rw [hr.out]; exact OwnQ.nil _ _ _ _⟩, B2.out⟩
  · have hr := Lib.hid (mulModR_no (x := X) (y := Y) (m := M) (fun h => hXY h.2))
    have hmt := Lib.hid (show false = decide (X < topN ∧ Y < topN) from (decide_eq_false hXY).symm)
    clear hXY
    obtain ⟨r, hmo⟩ : ∃ r, r = decide (M < topM) := ⟨_, rfl⟩
    have hmo := Lib.hid hmo
    go_enter Try.func47, Try.ntmps47
    go_wp2_with fail
    refine (may_s NX.out NY.out _ hmt.out).mono ?_
    rintro e w1 ⟨rfl, hb⟩
    have B1 := Lib.hid hb
    have NM1 := Lib.hid (NM.out.below hb)
    clear hb
    go_wp2_with fail
    refine (modulus_s NM1.out _ hmo.out).mono ?_
    rintro e w2 ⟨rfl, hb⟩
    have B2 := Lib.hid (B1.out.trans (hb.mono B1.out.size))
    clear hb
    go_wp2_with fail
    go_ret2
    exact ⟨⟨_, by rw [hr.out]; rfl, by rw [hr.out]; exact OwnQ.nil _ _ _ _⟩, B2.out⟩

end rf

end Go.Proofs.Ytebfoalcmnpghaa

namespace Go.Proofs.Ytebfoalcmnpghaa
open Go.RowKit
namespace rf

theorem byt_len {n m : Nat} (h : n < topN) (hm : (natB 256 n).length = m) : m ≤ 1024 := by
  rw [← hm]
  exact (nat256_le n).2 h

end rf
end Go.Proofs.Ytebfoalcmnpghaa
namespace Go.Proofs.Ytebfoalcmnpghaa
open Go.RowKit
namespace rf
/-- Between two rounds: what each rest is, as so many times the number. -/
structure RInv (M X A B S T : Nat) : Prop where
  gcd : Nat.gcd A B = Nat.gcd M X
  pos : 0 < A
  le : A ≤ M
  lt : B < M
  s : S < M
  t : T < M
  elder : (M : Int) ∣ (A : Int) - S * X
  rest : (M : Int) ∣ (B : Int) - T * X

theorem rinv_ring (r B q S T M c X : Int) : r - (S - q * T + M * c) * X = (r + B * q - S * X) - q * (B - T * X) - M * (c * X) := by
  have e1 : q * T * X = q * (T * X) := Int.mul_assoc _ _ _
  have e2 : B * q = q * B := Int.mul_comm _ _
  have e3 : M * c * X = M * (c * X) := Int.mul_assoc _ _ _
  simp only [Int.sub_mul, Int.add_mul, Int.mul_sub]
  omega

theorem RInv.start {M X : Nat} (h2 : 2 ≤ M) : RInv M X M (X % M) 0 1 := by
  refine ⟨?_, by omega, Nat.le_refl _, Nat.mod_lt _ (by omega), by omega, by omega, by simp, ?_⟩
  · rw [Nat.gcd_comm M (X % M), ← Nat.gcd_rec]
  · refine ⟨-((X / M : Nat) : Int), ?_⟩
    have h := Nat.mod_add_div X M
    have h2 : (X : Int) = ((X % M : Nat) : Int) + (M : Int) * ((X / M : Nat) : Int) := by rw [← Int.natCast_mul, ← Int.natCast_add, h]
    rw [Int.mul_neg]
    omega

theorem next_eq {M q S T : Nat} (hM : 0 < M) : ∃ c : Int, (((S + M - q * T % M) % M : Nat) : Int) = (S : Int) - (q : Int) * T + M * c := by
  have h1 := Nat.mod_lt (q * T) hM
  have h2 := Nat.mod_add_div (q * T) M
  have h3 := Nat.mod_add_div (S + M - q * T % M) M
  refine ⟨1 + ((q * T / M : Nat) : Int) - (((S + M - q * T % M) / M : Nat) : Int), ?_⟩
  rw [Int.mul_sub, Int.mul_add, Int.mul_one, ← Int.natCast_mul, ← Int.natCast_mul, ← Int.natCast_mul]
  generalize M * (q * T / M) = u at *
  generalize M * ((S + M - q * T % M) / M) = v at *
  generalize (S + M - q * T % M) % M = z at *
  generalize q * T % M = p at *
  generalize q * T = g at *
  omega

theorem RInv.step {M X A B S T : Nat} (h : RInv M X A B S T) (hB : 0 < B) : RInv M X B (A % B) T ((S + M - A / B * T % M) % M) := by
  obtain ⟨h1, h2, h3, h4, h5, h6, h7, h8⟩ := h
  have hM : 0 < M := by omega
  have hm := Nat.mod_lt A hB
  refine ⟨?_, hB, Nat.le_of_lt h4, by omega, h6, Nat.mod_lt _ hM, h8, ?_⟩
  · rw [← h1, Nat.gcd_comm B, ← Nat.gcd_rec, Nat.gcd_comm]
  · obtain ⟨c, hc⟩ := next_eq (M := M) (q := A / B) (S := S) (T := T) hM
    have hq := Nat.mod_add_div A B
    have hq2 : (A : Int) = ((A % B : Nat) : Int) + (B : Int) * ((A / B : Nat) : Int) := by rw [← Int.natCast_mul, ← Int.natCast_add, hq]
    rw [hc, rinv_ring _ (B : Int), ← hq2]
    exact Int.dvd_sub (Int.dvd_sub h7 (Int.dvd_mul_of_dvd_right h8)) ⟨_, rfl⟩

theorem RInv.fin {M X S T : Nat} (h : RInv M X 1 0 S T) (hM : 2 ≤ M) : invN X M = S := by
  refine invN_eq h.s (mod_of_dvd hM ?_)
  have := h.elder
  rw [Int.natCast_mul, Int.mul_comm (X : Int)]
  exact this

theorem len_pos {E B n len cap : Nat} {w : World} {a : Option Addr} (h : OwnQ .u32 E B w (.slice a len cap) (nat32 n)) (hn : 0 < n) : 0 < len := Nat.pos_of_ne_zero fun e => by
  have := (own_zero h).1 e
  omega

set_option maxRecDepth 100000 in
set_option maxHeartbeats 2000000 in
theorem inverse_main (x m : Value) (X M E : Nat) (w : World) (hx : NatS w x X) (hm : NatS w m M) (hM : M < topM) (hX : X < topN) (h2 : 2 ≤ M) (hE : E ≤ 19000) (hP : M * M < 2 ^ E) :
    Calls Try.prog 45 #[x, m] w fun e w' => RetsQ2 .u32 41 w.heap.size w' (invR X M) e ∧ Below w.heap.size w w' := by
  have NX := Lib.hid hx
  have NM := Lib.hid hm
  have HM := Lib.hid hM
  have HX := Lib.hid hX
  have H2 := Lib.hid h2
  have H0 := Lib.hid (show 0 < M by omega)
  have HMN := Lib.hid (Nat.lt_of_lt_of_le hM topM_le)
  have HP := Lib.hid (show M * (X % M) < 2 ^ E from Nat.lt_of_le_of_lt (Nat.mul_le_mul_left _ (Nat.le_of_lt (Nat.mod_lt _ (by omega)))) hP)
  have hmt := Lib.hid (show true = decide (X < topN ∧ M < topN) from (decide_eq_true ⟨hX, Nat.lt_of_lt_of_le hM topM_le⟩).symm)
  have hmo := Lib.hid (show true = decide (M < topM) from (decide_eq_true hM).symm)
  have hsum := Lib.hid (show ∀ S, S < M → S + M < topN from fun S hS => by
    have h1 := topM_sq
    have h3 : 2 * topM ≤ topM * topM := Nat.mul_le_mul_right _ (by omega)
    omega)
  clear hx hm hM hX h2 hP
  go_enter Try.func45, Try.ntmps45
  go_wp2_with fail
  refine (may_s NX.out NM.out _ hmt.out).mono ?_
  rintro e w1 ⟨rfl, hb⟩
  have B1 := Lib.hid hb
  have NX1 := Lib.hid (NX.out.below hb)
  have NM1 := Lib.hid (NM.out.below hb)
  clear hb
  go_wp2_with fail
  refine (modulus_s NM1.out _ hmo.out).mono ?_
  rintro e w2 ⟨rfl, hb⟩
  have B2 := Lib.hid (B1.out.trans (hb.mono B1.out.size))
  have NX2 := Lib.hid (NX1.out.below hb)
  have NM2 := Lib.hid (NM1.out.below hb)
  clear hb NX1 NM1 B1
  have HA := Lib.hid ((Below.refl w2.heap.size w2).alloc (Nat.le_refl _) (.cells #[.int .u32 1] 41))
  go_wp2_with fail
  refine (cmp_s (NM2.out.below HA.out) (NatS.one _ _) 1 (ordR_gt H2.out).symm).mono ?_
  rintro e w3 ⟨rfl, hb⟩
  have hb2 := HA.out.trans (hb.mono HA.out.size)
  have B3 := Lib.hid (B2.out.trans (hb2.mono B2.out.size))
  have NX3 := Lib.hid (NX2.out.below hb2)
  have NM3 := Lib.hid (NM2.out.below hb2)
  clear hb hb2 NX2 NM2 B2 HA
  go_wp2_with fail
  refine (div_ok NX3.out NM3.out HX.out HMN.out H0.out).mono ?_
  rintro e w4 ⟨⟨v4, u4, rfl, -, ho⟩, hb⟩
  have O4 := Lib.hid (ho.mono B3.out.size)
  have B4 := Lib.hid (B3.out.trans (hb.mono B3.out.size))
  have NM4 := Lib.hid (NM3.out.below hb)
  clear hb ho NX3 NM3 B3
  have HA := Lib.hid ((Below.refl w4.heap.size w4).alloc (Nat.le_refl _) (.cells #[.int .u32 1] 41))
  have N1 := Lib.hid (NatS.one w4 41)
  have B5 := Lib.hid (B4.out.trans (HA.out.mono B4.out.size))
  have O5 := Lib.hid (O4.out.below HA.out)
  have NM5 := Lib.hid (NM4.out.below HA.out)
  clear O4 B4 NM4 HA
  go_wp2
  generalize w4.alloc (.cells #[.int .u32 1] 41) = w5 at *
  go_loopw [10, 12, 13, 14, 15] (fun bv av sv tv kv wr => ∃ k A B S T : Nat, kv = .int .i64 (k : Int) ∧ k ≤ 20000 ∧ Hid (RInv M X A B S T ∧ EuI A B (M * (X % M)) k ∧ NatS wr av A ∧ OwnQ .u32 41 w.heap.size wr bv (nat32 B) ∧ NatS wr sv S ∧ NatS wr tv T ∧ Below w5.heap.size w5 wr)) (fun _ _ _ _ kv _ => 20000 - (intOf kv).toNat)
  case atStart => exact ⟨0, M, X % M, 0, 1, rfl, by decide, RInv.start H2.out, EuI.start _ _, NM5.out, O5.out, NatS.nil _, N1.out, Below.refl _ _⟩
  case round =>
    obtain ⟨k, A, B, S, T, rfl, hk, hI⟩ := hrel
    obtain ⟨hri, heu, hav, hbv, hsv, htv, hbl⟩ := hI.out
    obtain ⟨aB, nB, cB, rfl, -, hbv⟩ := hbv.slice
    have RI := Lib.hid hri
    have EU := Lib.hid heu
    have NA := Lib.hid hav
    have OB := Lib.hid hbv
    have NS := Lib.hid hsv
    have NT := Lib.hid htv
    have BL := Lib.hid hbl
    have BW := Lib.hid (B5.out.trans (hbl.mono B5.out.size))
    have NM6 := Lib.hid (NM5.out.below hbl)
    have hAN := Lib.hid (Nat.lt_of_le_of_lt hri.le HMN.out)
    have hBN := Lib.hid (Nat.lt_trans hri.lt HMN.out)
    have hSN := Lib.hid (Nat.lt_trans hri.s HMN.out)
    have hTN := Lib.hid (Nat.lt_trans hri.t HMN.out)
    have hln := (own_short (k := 256) hbv).2 hBN.out
    clear hri heu hav hsv htv hbl hI
    rcases Nat.eq_zero_or_pos B with hB | hB
    · obtain rfl : nB = 0 := (own_zero hbv).2 hB
      have HB := Lib.hid hB
      clear hB hbv
      have HA := Lib.hid ((Below.refl wr.heap.size wr).alloc (Nat.le_refl _) (.cells #[.int .u32 1] 41))
      by_cases h1 : A = 1
      · have hg := Lib.hid (show Nat.gcd M X = 1 by rw [← RI.out.gcd, HB.out, Nat.gcd_zero_right, h1])
        have hRR := Lib.hid (invR_yes HM.out HX.out H2.out hg.out)
        have hfin := Lib.hid (show invN X M = S by
          have h := RI.out
          rw [h1, HB.out] at h
          exact h.fin H2.out)
        have hmod := Lib.hid (Nat.mod_eq_of_lt RI.out.s)
        have HE1 := Lib.hid h1
        clear h1
        by_cases hk2 : k < 20000
        all_goals
          go_wp2_with fail
          refine (cmp_s (NA.out.below HA.out) (NatS.one _ _) 0 (ordR_eq HE1.out).symm).mono ?_
          rintro e w7 ⟨rfl, hb⟩
          have hb2 := HA.out.trans (hb.mono HA.out.size)
          have B7 := Lib.hid (BW.out.trans (hb2.mono BW.out.size))
          have NS7 := Lib.hid (NS.out.below hb2)
          have NM7 := Lib.hid (NM6.out.below hb2)
          clear hb hb2
          go_wp2_with fail
          refine (div_ok NS7.out NM7.out hSN.out HMN.out H0.out).mono ?_
          rintro e w8 ⟨⟨v8, u8, rfl, -, ho⟩, hb⟩
          rw [hmod.out] at ho
          have O8 := Lib.hid (ho.mono B7.out.size)
          have B8 := Lib.hid (B7.out.trans (hb.mono B7.out.size))
          clear hb ho
          go_wp2
          go_ret2
          exact ⟨⟨_, by rw [hRR.out]; rfl, by rw [hRR.out, hfin.out]; exact O8.out⟩, B8.out⟩
      · have hRR := Lib.hid (invR_none HM.out HX.out (fun h => h1 (by rw [← h.2, ← RI.out.gcd, HB.out, Nat.gcd_zero_right])))
        have hpos := RI.out.pos
        have hor := Lib.hid (show (1 : Int) = ordR A 1 from (ordR_gt (by omega)).symm)
        clear h1 hpos
        by_cases hk2 : k < 20000
        all_goals
          go_wp2_with fail
          refine (cmp_s (NA.out.below HA.out) (NatS.one _ _) 1 hor.out).mono ?_
          rintro e w7 ⟨rfl, hb⟩
          have hb2 := HA.out.trans (hb.mono HA.out.size)
          have B7 := Lib.hid (BW.out.trans (hb2.mono BW.out.size))
          clear hb hb2
          go_wp2
          go_ret2
          exact ⟨⟨_, by rw [hRR.out]; rfl, by rw [hRR.out]; exact OwnQ.nil _ _ _ _⟩, B7.out⟩
    · have hnp := len_pos hbv hB
      have hf := EU.out.few hB HP.out
      have hk2 : k < 20000 := by omega
      have NB := Lib.hid (NatS.of hbv hBN.out)
      have HB := Lib.hid hB
      have hst := Lib.hid (RI.out.step hB)
      have heu2 := Lib.hid (EU.out.step hB)
      have hqN := Lib.hid (show A / B < topN from Nat.lt_of_le_of_lt (Nat.div_le_self _ _) hAN.out)
      have hqp := Lib.hid (mulModR_yes HM.out hqN.out hTN.out H0.out)
      have hpm := Lib.hid (Nat.mod_lt (A / B * T) H0.out)
      have hpN := Lib.hid (Nat.lt_trans hpm.out HMN.out)
      have hup := Lib.hid (hsum.out S RI.out.s)
      have hde := Lib.hid (show A / B * T % M ≤ S + M by have := hpm.out; omega)
      have hdN := Lib.hid (show S + M - A / B * T % M < topN from Nat.lt_of_le_of_lt (Nat.sub_le _ _) hup.out)
      have hrm := Lib.hid (Nat.mod_lt A hB)
      clear hB hf hbv
      go_wp2_with fail
      refine (div_ok NA.out NB.out hAN.out hBN.out HB.out).mono ?_
      rintro e w7 ⟨⟨v7, u7, rfl, hq, ho⟩, hb⟩
      have Q7 := Lib.hid (NatS.of hq hqN.out)
      have R7 := Lib.hid (ho.mono BW.out.size)
      have B7 := Lib.hid (BL.out.trans (hb.mono BL.out.size))
      have W7 := Lib.hid (BW.out.trans (hb.mono BW.out.size))
      have NB7 := Lib.hid (NB.out.below hb)
      have NS7 := Lib.hid (NS.out.below hb)
      have NT7 := Lib.hid (NT.out.below hb)
      have NM7 := Lib.hid (NM6.out.below hb)
      clear hq ho hb
      go_wp2_with fail
      refine (mulMod_s _ _ _ _ _ _ _ Q7.out NT7.out NM7.out).mono ?_
      rintro e w8 ⟨hr8, hb⟩
      rw [hqp.out] at hr8
      obtain ⟨v8, rfl, ho⟩ := hr8
      have P8 := Lib.hid (NatS.of ho hpN.out)
      have R8 := Lib.hid (R7.out.below hb)
      have B8 := Lib.hid (B7.out.trans (hb.mono B7.out.size))
      have W8 := Lib.hid (W7.out.trans (hb.mono W7.out.size))
      have NB8 := Lib.hid (NB7.out.below hb)
      have NS8 := Lib.hid (NS7.out.below hb)
      have NT8 := Lib.hid (NT7.out.below hb)
      have NM8 := Lib.hid (NM7.out.below hb)
      dsimp only
      clear ho hb
      go_wp2_with fail
      refine (add_ok NS8.out NM8.out hup.out).mono ?_
      rintro e w9 ⟨⟨v9, rfl, ho⟩, hb⟩
      have U9 := Lib.hid (NatS.of ho hup.out)
      have P9 := Lib.hid (P8.out.below hb)
      have R9 := Lib.hid (R8.out.below hb)
      have B9 := Lib.hid (B8.out.trans (hb.mono B8.out.size))
      have W9 := Lib.hid (W8.out.trans (hb.mono W8.out.size))
      have NB9 := Lib.hid (NB8.out.below hb)
      have NT9 := Lib.hid (NT8.out.below hb)
      have NM9 := Lib.hid (NM8.out.below hb)
      clear ho hb
      go_wp2_with fail
      refine (sub_ok U9.out P9.out hup.out hde.out).mono ?_
      rintro e w10 ⟨⟨v10, rfl, ho⟩, hb⟩
      have D10 := Lib.hid (NatS.of ho hdN.out)
      have R10 := Lib.hid (R9.out.below hb)
      have B10 := Lib.hid (B9.out.trans (hb.mono B9.out.size))
      have W10 := Lib.hid (W9.out.trans (hb.mono W9.out.size))
      have NB10 := Lib.hid (NB9.out.below hb)
      have NT10 := Lib.hid (NT9.out.below hb)
      have NM10 := Lib.hid (NM9.out.below hb)
      clear ho hb
      go_wp2_with fail
      refine (div_ok D10.out NM10.out hdN.out HMN.out H0.out).mono ?_
      rintro e w11 ⟨⟨v11, u11, rfl, -, ho⟩, hb⟩
      have T11 := Lib.hid (NatS.of ho (Nat.lt_trans hst.out.t HMN.out))
      have R11 := Lib.hid (R10.out.below hb)
      have B11 := Lib.hid (B10.out.trans (hb.mono B10.out.size))
      have NB11 := Lib.hid (NB10.out.below hb)
      have NT11 := Lib.hid (NT10.out.below hb)
      clear ho hb
      go_wp2
      go_roundw
      case rel => exact ⟨k + 1, B, A % B, T, (S + M - A / B * T % M) % M, by go_num, by omega, hst.out, heu2.out, NB11.out, R11.out, NT11.out, T11.out, B11.out⟩
      case measure => simp [intOf] <;> omega

end rf

end Go.Proofs.Ytebfoalcmnpghaa
