/-
  NAT's CALLS, SAID BY NUMBERS.
-/
import Derived.Test.YtfeajcgcjpngkaaNatG
namespace Go.Proofs.Ytfeajcgcjpngkaa
open Go.RowKit

/-- A value that reads as the number n, with or without noughts at its end. -/
def NatAt (w : World) (v : Value) (n : Nat) : Prop := ∃ a len cap l, v = .slice a len cap ∧ Reads .u32 w a len cap l ∧ Lim l ∧ val32 l = n
/-- A value that reads as just the number n's limbs. -/
def NatC (w : World) (v : Value) (n : Nat) : Prop := ∃ a len cap, v = .slice a len cap ∧ Reads .u32 w a len cap (nat32 n)

theorem val_nat (n : Nat) : val32 (nat32 n) = n := natB_val (by decide) n
theorem lim_nat (n : Nat) : Lim (nat32 n) := natB_digit (by decide) n
theorem NatC.at {w : World} {v : Value} {n : Nat} (h : NatC w v n) : NatAt w v n := by
  obtain ⟨a, len, cap, rfl, hr⟩ := h
  exact ⟨a, len, cap, _, rfl, hr, lim_nat n, val_nat n⟩
theorem NatAt.below {w w' : World} {v : Value} {n : Nat} (h : NatAt w v n) (hb : Below w.heap.size w w') : NatAt w' v n := by
  obtain ⟨a, len, cap, l, rfl, hr, hl, hv⟩ := h
  exact ⟨a, len, cap, l, rfl, hr.below hb, hl, hv⟩
theorem NatC.below {w w' : World} {v : Value} {n : Nat} (h : NatC w v n) (hb : Below w.heap.size w w') : NatC w' v n := by
  obtain ⟨a, len, cap, rfl, hr⟩ := h
  exact ⟨a, len, cap, rfl, hr.below hb⟩
theorem NatC.of {E : TypeId} {B : Nat} {w : World} {v : Value} {n : Nat} (h : OwnQ .u32 E B w v (nat32 n)) : NatC w v n := by
  obtain ⟨a, len, cap, rfl, _, ho⟩ := h.slice
  exact ⟨a, len, cap, rfl, ho.reads⟩
theorem NatAt.lt {w : World} {a : Option Addr} {len cap n k : Nat} (h : NatAt w (.slice a len cap) n) (hk : len ≤ k) : n < 4294967296 ^ k := by
  obtain ⟨a', len', cap', l, he, hr, hl, rfl⟩ := h
  cases he
  exact Nat.lt_of_lt_of_le (valB_lt (by decide) hl) (Nat.pow_le_pow_right (by decide) (by rw [hr.length]; exact hk))
theorem top_le {n k : Nat} (h : n < 4294967296 ^ k) (hk : k ≤ 256) : n < topN := Nat.lt_of_lt_of_le h (by unfold topN; exact Nat.pow_le_pow_right (by decide) hk)
theorem add_lt {n m k : Nat} (h : n < 4294967296 ^ k) (g : m < 4294967296 ^ k) : n + m < 4294967296 ^ (k + 1) := by rw [Nat.pow_succ]; omega
theorem mul_lt {n m k j : Nat} (h : n < 4294967296 ^ k) (g : m < 4294967296 ^ j) : n * m < 4294967296 ^ (k + j) := by
  rw [Nat.pow_add]
  exact Nat.mul_lt_mul'' h g

def RetN (w' : World) (n : Nat) (e : Ending) : Prop := ∃ v, e = .returned (.tuple #[v, .int .i64 0]) ∧ NatC w' v n
def RetErr (c : Int) (e : Ending) : Prop := ∃ v, e = .returned (.tuple #[v, .int .i64 c])
theorem RetsQ2.num {B : Nat} {w : World} {n : Nat} {e : Ending} (h : RetsQ2 .u32 39 B w (nat32 n, 0) e) : RetN w n e := by
  obtain ⟨v, rfl, ho⟩ := h
  exact ⟨v, rfl, NatC.of ho⟩

theorem add_nat {x y : Value} {n m : Nat} {w : World} (hx : NatAt w x n) (hy : NatAt w y m) (h : n + m < topN) : Calls Try.prog 25 #[x, y] w fun e w' => RetN w' (n + m) e ∧ Below w.heap.size w w' := by
  obtain ⟨a, len, cap, l, rfl, hr, hl, rfl⟩ := hx
  obtain ⟨a', len', cap', l', rfl, hr', hl', rfl⟩ := hy
  refine (add_any _ _ _ _ _ _ _ _ w hr hr' hl hl').mono fun e w' ⟨he, hb⟩ => ⟨?_, hb⟩
  rw [cutR_small h] at he
  exact he.num
theorem sub_nat {x y : Value} {n m : Nat} {w : World} (hx : NatAt w x n) (hy : NatAt w y m) (h : n < topN) (hm : m ≤ n) : Calls Try.prog 43 #[x, y] w fun e w' => RetN w' (n - m) e ∧ Below w.heap.size w w' := by
  obtain ⟨a, len, cap, l, rfl, hr, hl, rfl⟩ := hx
  obtain ⟨a', len', cap', l', rfl, hr', hl', rfl⟩ := hy
  refine (sub_any _ _ _ _ _ _ _ _ w hr hr' hl hl').mono fun e w' ⟨he, hb⟩ => ⟨?_, hb⟩
  rw [subR_yes ⟨h, Nat.lt_of_le_of_lt hm h, hm⟩] at he
  exact he.num
theorem sub_less {x y : Value} {n m : Nat} {w : World} (hx : NatAt w x n) (hy : NatAt w y m) (hm : ¬ (n < topN ∧ m < topN ∧ m ≤ n)) : Calls Try.prog 43 #[x, y] w fun e w' => RetErr 20 e ∧ Below w.heap.size w w' := by
  obtain ⟨a, len, cap, l, rfl, hr, hl, rfl⟩ := hx
  obtain ⟨a', len', cap', l', rfl, hr', hl', rfl⟩ := hy
  refine (sub_any _ _ _ _ _ _ _ _ w hr hr' hl hl').mono fun e w' ⟨he, hb⟩ => ⟨?_, hb⟩
  rw [subR_no hm] at he
  obtain ⟨v, rfl, _⟩ := he
  exact ⟨v, rfl⟩
theorem mul_nat {x y : Value} {n m : Nat} {w : World} (hx : NatAt w x n) (hy : NatAt w y m) (hn : n < topN) (hm : m < topN) (h : n * m < topN) : Calls Try.prog 50 #[x, y] w fun e w' => RetN w' (n * m) e ∧ Below w.heap.size w w' := by
  obtain ⟨a, len, cap, l, rfl, hr, hl, rfl⟩ := hx
  obtain ⟨a', len', cap', l', rfl, hr', hl', rfl⟩ := hy
  refine (mul_any _ _ _ _ _ _ _ _ w hr hr' hl hl').mono fun e w' ⟨he, hb⟩ => ⟨?_, hb⟩
  rw [mulR_yes hn hm, cutR_small h] at he
  exact he.num
theorem trim_nat {x : Value} {n : Nat} {w : World} (hx : NatAt w x n) (h : n < topN) : Calls Try.prog 31 #[x] w fun e w' => RetN w' n e ∧ Below w.heap.size w w' := by
  obtain ⟨a, len, cap, l, rfl, hr, hl, rfl⟩ := hx
  refine (trim_any _ _ _ _ w hr hl).mono fun e w' ⟨he, hb⟩ => ⟨?_, hb⟩
  rw [cutR_small h] at he
  exact he.num
theorem shl_nat {x : Value} {n : Nat} {w : World} (hx : NatAt w x n) (k : Int) (j : Nat) (hk : k = j) (hk2 : k ≤ 9223372036854775807) (h : n * 2 ^ j < topN) : Calls Try.prog 33 #[x, .int .i64 k] w fun e w' => RetN w' (n * 2 ^ j) e ∧ Below w.heap.size w w' := by
  obtain ⟨a, len, cap, l, rfl, hr, hl, rfl⟩ := hx
  subst hk
  refine (shl_any _ _ _ _ w hr hl _ hk2).mono fun e w' ⟨he, hb⟩ => ⟨?_, hb⟩
  rw [show shlR (val32 l) (j : Int) = (nat32 (val32 l * 2 ^ j), 0) by unfold shlR; rw [if_neg (by omega), Int.toNat_natCast, cutR_small h]] at he
  exact he.num
theorem shr_nat {x : Value} {n : Nat} {w : World} (hx : NatAt w x n) (k : Int) (j : Nat) (hk : k = j) (hk2 : k ≤ 9223372036854775807) (h : n < topN) : Calls Try.prog 42 #[x, .int .i64 k] w fun e w' => RetN w' (n / 2 ^ j) e ∧ Below w.heap.size w w' := by
  obtain ⟨a, len, cap, l, rfl, hr, hl, rfl⟩ := hx
  subst hk
  refine (shr_any _ _ _ _ w hr hl _ hk2).mono fun e w' ⟨he, hb⟩ => ⟨?_, hb⟩
  rw [show shrR (val32 l) (j : Int) = (nat32 (val32 l / 2 ^ j), 0) by unfold shrR; rw [if_neg (by omega), Int.toNat_natCast, if_pos h]] at he
  exact he.num
theorem cmp_nat {x y : Value} {n m : Nat} {w : World} (hx : NatAt w x n) (hy : NatAt w y m) (o : Int) (ho : o = ordN n m) : Calls Try.prog 27 #[x, y] w fun e w' => e = .returned (.int .i64 o) ∧ Below w.heap.size w w' := by
  obtain ⟨a, len, cap, l, rfl, hr, hl, rfl⟩ := hx
  obtain ⟨a', len', cap', l', rfl, hr', hl', rfl⟩ := hy
  subst ho
  exact cmp_any _ _ _ _ _ _ _ _ w hr hr' hl hl'
theorem bits_nat {x : Value} {n : Nat} {w : World} (hx : NatAt w x n) (hlen : ∀ a len cap, x = .slice a len cap → len ≤ 288230376151711743) (b : Nat) (hb : b = bitsN n) : Calls Try.prog 32 #[x] w fun e w' => e = .returned (.int .i64 (b : Int)) ∧ w = w' := by
  obtain ⟨a, len, cap, l, rfl, hr, hl, rfl⟩ := hx
  subst hb
  exact bits_any _ _ _ _ w hr hl (hlen _ _ _ rfl)
theorem same_nat {x y : Value} {n m : Nat} {w : World} (hx : NatC w x n) (hy : NatC w y m) (b : Bool) (hb : b = decide (n = m)) : Calls Try.prog 20 #[x, y] w fun e w' => e = .returned (.bool b) ∧ Below w.heap.size w w' := by
  obtain ⟨a, len, cap, rfl, hr⟩ := hx
  obtain ⟨a', len', cap', rfl, hr'⟩ := hy
  refine same_any _ _ _ _ _ _ _ _ w hr hr' b ?_
  subst hb
  by_cases h : n = m
  · subst h; simp
  · rw [decide_eq_false h, decide_eq_false]
    intro e
    exact h (by rw [← val_nat n, ← val_nat m, e])

/-- Writing what already stands there turns nothing. -/
theorem setCell_id {w : World} {B : Nat} {t : TypeId} {v : Value} (h : Boxed w B t v) : w.setCell ⟨B, 0, none⟩ v = w := by
  have e : w.heap[B]? = some (.cells #[v] t (0, 0)) := h
  have h2 : (w.setCell ⟨B, 0, none⟩ v).heap = w.heap := by
    unfold World.setCell
    apply Array.ext_getElem?
    intro i
    rw [Array.getElem?_modify]
    by_cases hi : B = i
    · subst hi
      rw [if_pos rfl, e]
      rfl
    · rw [if_neg hi]
  cases w
  unfold World.setCell at *
  simp only at h2 ⊢
  rw [h2]

/-- A value that may be looked at: a slice of so many limbs at most. -/
def Short (v : Value) (k : Nat) : Prop := ∃ a len cap, v = .slice a len cap ∧ len ≤ k

theorem boxed_below {w w' : World} {B : Nat} {t : TypeId} {v : Value} (h : Boxed w B t v) (hb : Below w.heap.size w w') : Boxed w' B t v := (hb.block B h.lt).trans h

end Go.Proofs.Ytfeajcgcjpngkaa