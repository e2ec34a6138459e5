/- Part of the proofs: what the functions that the law calls do. -/
import Derived.Test.YtpefjkndfifceaaGreatDoorPkb9
set_option linter.unusedVariables false
set_option linter.unusedSimpArgs false
namespace Go.Proofs.YtpefjkndfifceaaGreatDoor
open Go.RowKit
def NatAt (w : World) (v : Value) (n : Nat) : Prop := ∃ a len cap l, v = .slice a len cap ∧ Reads .u32 w a len cap l ∧ Lim l ∧ val32 l = n
def NatC (w : World) (v : Value) (n : Nat) : Prop := ∃ a len cap, v = .slice a len cap ∧ Reads .u32 w a len cap (nat32 n)
theorem val_nat (n : Nat) : val32 (nat32 n) = n := natB_val (by decide) n
theorem lim_nat (n : Nat) : Lim (nat32 n) := natB_digit (by decide) n
theorem NatC.at {w : World} {v : Value} {n : Nat} (h : NatC w v n) : NatAt w v n := by
 obtain ⟨a, len, cap, rfl, hr⟩ := h
 exact ⟨a, len, cap, _, rfl, hr, lim_nat n, val_nat n⟩
theorem NatAt.below {w w' : World} {v : Value} {n : Nat} (h : NatAt w v n) (hb : Below w.heap.size w w') : NatAt w' v n := by
 obtain ⟨a, len, cap, l, rfl, hr, hl, hv⟩ := h
 exact ⟨a, len, cap, l, rfl, hr.below hb, hl, hv⟩
theorem NatC.below {w w' : World} {v : Value} {n : Nat} (h : NatC w v n) (hb : Below w.heap.size w w') : NatC w' v n := by
 obtain ⟨a, len, cap, rfl, hr⟩ := h
 exact ⟨a, len, cap, rfl, hr.below hb⟩
theorem NatC.of {E : TypeId} {B : Nat} {w : World} {v : Value} {n : Nat} (h : OwnQ .u32 E B w v (nat32 n)) : NatC w v n := by
 obtain ⟨a, len, cap, rfl, _, ho⟩ := h.slice
 exact ⟨a, len, cap, rfl, ho.reads⟩
def RetN (w' : World) (n : Nat) (e : Ending) : Prop := ∃ v, e = .returned (.tuple #[v, .int .i64 0]) ∧ NatC w' v n
def RetErr (c : Int) (e : Ending) : Prop := ∃ v, e = .returned (.tuple #[v, .int .i64 c])
theorem RetsQ2.num {B : Nat} {w : World} {n : Nat} {e : Ending} (h : RetsQ2 .u32 71 B w (nat32 n, 0) e) : RetN w n e := by
 obtain ⟨v, rfl, ho⟩ := h
 exact ⟨v, rfl, NatC.of ho⟩
theorem sub_nat {x y : Value} {n m : Nat} {w : World} (hx : NatAt w x n) (hy : NatAt w y m) (h : n < topN) (hm : m ≤ n) : Calls Tryz.prog 74 #[x, y] w fun e w' => RetN w' (n - m) e ∧ Below w.heap.size w w' := by
 obtain ⟨a, len, cap, l, rfl, hr, hl, rfl⟩ := hx
 obtain ⟨a', len', cap', l', rfl, hr', hl', rfl⟩ := hy
 refine (sub_any _ _ _ _ _ _ _ _ w hr hr' hl hl').mono fun e w' ⟨he, hb⟩ => ⟨?_, hb⟩
 rw [subR_yes ⟨h, Nat.lt_of_le_of_lt hm h, hm⟩] at he
 exact he.num
theorem mul_nat {x y : Value} {n m : Nat} {w : World} (hx : NatAt w x n) (hy : NatAt w y m) (hn : n < topN) (hm : m < topN) (h : n * m < topN) : Calls Tryz.prog 61 #[x, y] w fun e w' => RetN w' (n * m) e ∧ Below w.heap.size w w' := by
 obtain ⟨a, len, cap, l, rfl, hr, hl, rfl⟩ := hx
 obtain ⟨a', len', cap', l', rfl, hr', hl', rfl⟩ := hy
 refine (mul_any _ _ _ _ _ _ _ _ w hr hr' hl hl').mono fun e w' ⟨he, hb⟩ => ⟨?_, hb⟩
 rw [mulR_yes hn hm, cutR_small h] at he
 exact he.num
theorem shl_nat {x : Value} {n : Nat} {w : World} (hx : NatAt w x n) (k : Int) (j : Nat) (hk : k = j) (hk2 : k ≤ 9223372036854775807) (h : n * 2 ^ j < topN) : Calls Tryz.prog 28 #[x, .int .i64 k] w fun e w' => RetN w' (n * 2 ^ j) e ∧ Below w.heap.size w w' := by
 obtain ⟨a, len, cap, l, rfl, hr, hl, rfl⟩ := hx
 subst hk
 refine (shl_any _ _ _ _ w hr hl _ hk2).mono fun e w' ⟨he, hb⟩ => ⟨?_, hb⟩
 rw [show shlR (val32 l) (j : Int) = (nat32 (val32 l * 2 ^ j), 0) by unfold shlR; rw [if_neg (by omega), Int.toNat_natCast, cutR_small h]] at he
 exact he.num
theorem cmp_nat {x y : Value} {n m : Nat} {w : World} (hx : NatAt w x n) (hy : NatAt w y m) (o : Int) (ho : o = ordN n m) : Calls Tryz.prog 104 #[x, y] w fun e w' => e = .returned (.int .i64 o) ∧ Below w.heap.size w w' := by
 obtain ⟨a, len, cap, l, rfl, hr, hl, rfl⟩ := hx
 obtain ⟨a', len', cap', l', rfl, hr', hl', rfl⟩ := hy
 subst ho
 exact cmp_any _ _ _ _ _ _ _ _ w hr hr' hl hl'
theorem bits_nat {x : Value} {n : Nat} {w : World} (hx : NatAt w x n) (hlen : ∀ a len cap, x = .slice a len cap → len ≤ 288230376151711743) (b : Nat) (hb : b = bitsN n) : Calls Tryz.prog 71 #[x] w fun e w' => e = .returned (.int .i64 (b : Int)) ∧ w = w' := by
 obtain ⟨a, len, cap, l, rfl, hr, hl, rfl⟩ := hx
 subst hb
 exact bits_any _ _ _ _ w hr hl (hlen _ _ _ rfl)
theorem bit_nat {x : Value} {n : Nat} {w : World} (hx : NatAt w x n) (i : Int) (hi : i ≤ 9223372036854775807) (b : Bool) (hb : b = (decide (0 ≤ i) && n.testBit i.toNat)) : Calls Tryz.prog 113 #[x, .int .i64 i] w fun e w' => e = .returned (.bool b) ∧ w = w' := by
 obtain ⟨a, len, cap, l, rfl, hr, hl, rfl⟩ := hx
 subst hb
 exact bit_any _ _ _ _ w hr hl i hi
def Short (v : Value) (k : Nat) : Prop := ∃ a len cap, v = .slice a len cap ∧ len ≤ k
theorem boxed_below {w w' : World} {B : Nat} {t : TypeId} {v : Value} (h : Boxed w B t v) (hb : Below w.heap.size w w') : Boxed w' B t v := (hb.block B h.lt).trans h
end Go.Proofs.YtpefjkndfifceaaGreatDoor
