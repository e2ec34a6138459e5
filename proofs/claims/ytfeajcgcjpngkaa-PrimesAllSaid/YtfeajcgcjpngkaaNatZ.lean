/-
  NATURALS AS VALUES, FOR THE REFERENCE (where ratio is not reached).
-/
import Derived.Test.YtfeajcgcjpngkaaRefs
import Derived.Test.YtfeajcgcjpngkaaNatH
namespace Go.Proofs.Ytfeajcgcjpngkaa
open Go.RowKit

theorem own_shortZ {E B k : Nat} {w : World} {a : Option Addr} {len cap n : Nat} (h : OwnQ .u32 E B w (.slice a len cap) (nat32 n)) : len ≤ k ↔ n < 4294967296 ^ k := by
  rw [h.cap.1]
  exact natB_length (by decide) n k
/-- A natural in a slice that is not too long for the reference. -/
def NatZ (w : World) (v : Value) (n : Nat) : Prop := ∃ a len cap l, v = .slice a len cap ∧ Reads .u32 w a len cap l ∧ Lim l ∧ val32 l = n ∧ len ≤ 1000000000000
theorem NatZ.below {w w' : World} {v : Value} {n : Nat} (h : NatZ w v n) (hb : Below w.heap.size w w') : NatZ w' v n := by
  obtain ⟨a, len, cap, l, hv, hr, hl, hn, hm⟩ := h
  exact ⟨a, len, cap, l, hv, hr.below hb, hl, hn, hm⟩
theorem NatZ.of {E B : Nat} {w : World} {v : Value} {n : Nat} (h : OwnQ .u32 E B w v (nat32 n)) (hn : n < topN) : NatZ w v n := by
  obtain ⟨a, len, cap, rfl, hl, ho⟩ := h.slice
  have := (own_shortZ (k := 256) ho).2 hn
  exact ⟨a, len, cap, nat32 n, rfl, ho.reads, natB_digit (by decide) _, natB_val (by decide) _, by omega⟩
theorem NatZ.at {w : World} {v : Value} {n : Nat} (h : NatZ w v n) : NatAt w v n := by
  obtain ⟨a, len, cap, l, hv, hr, hl, hn, _⟩ := h
  exact ⟨a, len, cap, l, hv, hr, hl, hn⟩
theorem NatZ.nil (w : World) : NatZ w (.slice none 0 0) 0 := ⟨none, 0, 0, [], rfl, Reads.none _ _, fun x hx => (by cases hx), rfl, by omega⟩
theorem NatZ.one (w : World) (E : TypeId) : NatZ (w.alloc (.cells #[.int .u32 1] E)) (.slice (some ⟨w.heap.size, 0, none⟩) 1 1) 1 := ⟨_, 1, 1, [1], rfl, Reads.one .u32 _ _ _ _ rfl, fun x hx => by
  obtain rfl := List.mem_singleton.1 hx
  decide, rfl, by omega⟩
theorem NatZ.lim {w : World} {a : Option Addr} {len cap : Nat} {l : List Nat} (hr : Reads .u32 w a len cap l) (hl : Lim l) (hm : len ≤ 1000000000000) : NatZ w (.slice a len cap) (val32 l) := ⟨a, len, cap, l, rfl, hr, hl, rfl, hm⟩

namespace rf

theorem may_z {x y : Value} {X Y : Nat} {w : World} (hx : NatZ w x X) (hy : NatZ w y Y) (r : Bool) (h : r = decide (X < topN ∧ Y < topN)) : Calls Try.prog 35 #[x, y] w fun e w' => e = .returned (.bool r) ∧ Below w.heap.size w w' := by
  obtain ⟨a, n, c, l, rfl, hr, hl, rfl, hm⟩ := hx
  obtain ⟨a', n', c', l', rfl, hr', hl', rfl, hm'⟩ := hy
  exact may_any a a' n c n' c' l l' w hr hr' hl hl' hm hm' r h

theorem cmp_z {x y : Value} {X Y : Nat} {w : World} (hx : NatZ w x X) (hy : NatZ w y Y) (r : Int) (h : r = ordR X Y) : Calls Try.prog 40 #[x, y] w fun e w' => e = .returned (.int .i64 r) ∧ Below w.heap.size w w' := by
  obtain ⟨a, n, c, l, rfl, hr, hl, rfl, hm⟩ := hx
  obtain ⟨a', n', c', l', rfl, hr', hl', rfl, hm'⟩ := hy
  exact cmp_any a a' n c n' c' l l' w hr hr' hl hl' hm hm' r h

theorem add_okz {x y : Value} {X Y : Nat} {w : World} (hx : NatZ w x X) (hy : NatZ w y Y) (h : X + Y < topN) : Calls Try.prog 38 #[x, y] w fun e w' => (∃ v, e = .returned (.tuple #[v, .int .i64 0]) ∧ OwnQ .u32 39 w.heap.size w' v (nat32 (X + Y))) ∧ Below w.heap.size w w' := by
  obtain ⟨a, n, c, l, rfl, hr, hl, rfl, hm⟩ := hx
  obtain ⟨a', n', c', l', rfl, hr', hl', rfl, hm'⟩ := hy
  have := add_any a a' n c n' c' l l' w hr hr' hl hl' hm hm'
  rw [cutR_small h] at this
  exact this

theorem mul_okz {x y : Value} {X Y : Nat} {w : World} (hx : NatZ w x X) (hy : NatZ w y Y) (hX : X < topN) (hY : Y < topN) (h : X * Y < topN) : Calls Try.prog 58 #[x, y] w fun e w' => (∃ v, e = .returned (.tuple #[v, .int .i64 0]) ∧ OwnQ .u32 39 w.heap.size w' v (nat32 (X * Y))) ∧ Below w.heap.size w w' := by
  obtain ⟨a, n, c, l, rfl, hr, hl, rfl, hm⟩ := hx
  obtain ⟨a', n', c', l', rfl, hr', hl', rfl, hm'⟩ := hy
  have := mul_any a a' n c n' c' l l' w hr hr' hl hl' hm hm'
  rw [mulR_yes ⟨hX, hY⟩, cutR_small h] at this
  exact this

theorem digits_z {x : Value} {X : Nat} {w : World} (hx : NatZ w x X) : Calls Try.prog 57 #[x] w fun e w' => RetsQ .i64 3 w.heap.size w' (natB 256 X) e ∧ Below w.heap.size w w' := by
  obtain ⟨a, n, c, l, rfl, hr, hl, rfl, hm⟩ := hx
  exact digits_any a n c l w hr hl hm


theorem bit_z {x : Value} {X : Nat} {w : World} (hx : NatZ w x X) (i : Int) (hi : i ≤ 9223372036854775807) (r : Bool) (h : r = (decide (0 ≤ i) && X.testBit i.toNat)) : Calls Try.prog 46 #[x, .int .i64 i] w fun e w' => e = .returned (.bool r) ∧ Below w.heap.size w w' := by
  obtain ⟨a, n, c, l, rfl, hr, hl, rfl, hm⟩ := hx
  exact bit_any a n c l w hr hl hm i hi r h

theorem bits_z {x : Value} {X : Nat} {w : World} (hx : NatZ w x X) (b : Nat) (h : b = Go.Proofs.Ytfeajcgcjpngkaa.bitsN X) : Calls Try.prog 37 #[x] w fun e w' => e = .returned (.int .i64 (b : Int)) ∧ Below w.heap.size w w' := by
  obtain ⟨a, n, c, l, rfl, hr, hl, rfl, hm⟩ := hx
  exact bits_any a n c l w hr hl hm b h


theorem mul_z {x y : Value} {X Y : Nat} {w : World} (hx : NatZ w x X) (hy : NatZ w y Y) : Calls Try.prog 58 #[x, y] w fun e w' => RetsQ2 .u32 39 w.heap.size w' (mulR X Y) e ∧ Below w.heap.size w w' := by
  obtain ⟨a, n, c, l, rfl, hr, hl, rfl, hm⟩ := hx
  obtain ⟨a', n', c', l', rfl, hr', hl', rfl, hm'⟩ := hy
  exact mul_any a a' n c n' c' l l' w hr hr' hl hl' hm hm'
theorem shl_okz {x : Value} {X : Nat} {w : World} (hx : NatZ w x X) (k : Int) (j : Nat) (hk : k = j) (hk2 : k ≤ 9223372036854775807) (h : X * 2 ^ j < topN) : Calls Try.prog 36 #[x, .int .i64 k] w fun e w' => (∃ v, e = .returned (.tuple #[v, .int .i64 0]) ∧ OwnQ .u32 39 w.heap.size w' v (nat32 (X * 2 ^ j))) ∧ Below w.heap.size w w' := by
  obtain ⟨a, n, c, l, rfl, hr, hl, rfl, hm⟩ := hx
  subst hk
  have := shl_any a n c l w hr hl hm j hk2
  rw [show shlR (val32 l) (j : Int) = cutR32 (val32 l * 2 ^ j) by unfold shlR; rw [if_neg (by omega), Int.toNat_natCast], cutR_small h] at this
  exact this
theorem shr_okz {x : Value} {X : Nat} {w : World} (hx : NatZ w x X) (k : Int) (j : Nat) (hk : k = j) (hk2 : k ≤ 9223372036854775807) (h : X < topN) : Calls Try.prog 39 #[x, .int .i64 k] w fun e w' => (∃ v, e = .returned (.tuple #[v, .int .i64 0]) ∧ OwnQ .u32 39 w.heap.size w' v (nat32 (X / 2 ^ j))) ∧ Below w.heap.size w w' := by
  obtain ⟨a, n, c, l, rfl, hr, hl, rfl, hm⟩ := hx
  subst hk
  have := shr_any a n c l w hr hl hm j hk2
  rw [show shrR (val32 l) (j : Int) = (nat32 (val32 l / 2 ^ j), 0) by unfold shrR; rw [if_neg (by omega), if_pos h, Int.toNat_natCast]] at this
  exact this

end rf

end Go.Proofs.Ytfeajcgcjpngkaa
