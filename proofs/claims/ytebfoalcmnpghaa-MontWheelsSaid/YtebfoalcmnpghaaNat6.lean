/-
  NAT's ITERATORS up AND down: THEIR CONTRACTS.
-/
import Derived.RangeFuncNested
import Derived.RangeFuncBound
import Derived.RangeFuncCalls
import Derived.RangeFuncLeaves
import Derived.RangeFuncBox
import Derived.Shelf.Abstract
import Derived.Shelf.RegionOpen
import Derived.WalkKit
import Derived.OwnWalkIn
import Derived.TacticsInMore
import Derived.LoopNIn
import Derived.LoopIn
import Derived.Stop.RegionWithIn
import Derived.Test.YtebfoalcmnpghaaNat5
namespace Go.Proofs.Ytebfoalcmnpghaa
open Go.RowKit Go.Shelf
attribute [local go_sem] Oper.semAt_some

theorem Reads.belowN {q : IntKind} {n₀ : Nat} {w w' : World} {a : Option Addr} {len cap : Nat} {l : List Nat} (h : Reads q w a len cap l) (hlt : 0 < len → ∀ ad, a = some ad → ad.block < n₀) (hb : Below n₀ w w') : Reads q w' a len cap l :=
  ⟨h.length, h.le, h.max, h.nil, fun hp => by
    obtain ⟨b, off, rfl, hbl, hc⟩ := h.cells hp
    have hl := hlt hp _ rfl
    exact ⟨b, off, rfl, Nat.lt_of_lt_of_le hbl hb.size, fun i hi => (hb.cell (p := ⟨b, off + i, .none⟩) hl).trans (hc i hi)⟩⟩

theorem Reads.block {q : IntKind} {w : World} {a : Option Addr} {len cap : Nat} {l : List Nat} (h : Reads q w a len cap l) : 0 < len → ∀ ad, a = some ad → ad.block < w.heap.size := fun hp ad e => by
  obtain ⟨b, off, rfl, hbl, _⟩ := h.cells hp
  cases e
  exact hbl

/-- What a round of up and down must keep: what lay below, and the two boxes. -/
def KpUp (n₀ bx bY : Nat) (W W' : World) : Prop := Below n₀ W W' ∧ (∀ t v, Boxed W bx t v → Boxed W' bx t v) ∧ (∀ t v, Boxed W bY t v → Boxed W' bY t v)
theorem kpUp_t {n₀ bx bY : Nat} {A B C : World} (h : KpUp n₀ bx bY A B) (k : KpUp n₀ bx bY B C) : KpUp n₀ bx bY A C := ⟨h.1.trans k.1, fun t v x => k.2.1 t v (h.2.1 t v x), fun t v x => k.2.2 t v (h.2.2 t v x)⟩
theorem boxed_putObj {W : World} {B : Nat} {t : TypeId} {v : Value} (h : Boxed W B t v) (l : Nat) (o o' : Obj) (hl : W.heap[l]? = some o) (ho : o.isCells = false) : Boxed (W.putObj l o') B t v := by
  refine h.kept (grownBy_putObj' W l o') fun e => ?_
  cases e
  rw [show W.heap[B]? = _ from h] at hl
  cases hl
  cases ho
theorem kpUp_b {n₀ bx bY : Nat} {w : World} (hn : n₀ ≤ w.heap.size) (W : World) (l : Nat) (o o' : Obj) (hl : w.heap.size ≤ l) (h : W.heap[l]? = some o) (hc : o.isCells = false) (hw : o.isWalk = false) : KpUp n₀ bx bY W (W.putObj l o') :=
  ⟨belowK_b hn W l o o' hl h hc hw, fun _ _ x => boxed_putObj x l o o' h hc, fun _ _ x => boxed_putObj x l o o' h hc⟩

theorem grownBy_drew' (w : World) : w.grownBy w.drew none := ⟨rfl, rfl, rfl, Nat.le_refl _, fun _ _ _ => rfl⟩

/-- Two limbs side by side. -/
abbrev Two := { p : Nat × Nat // p.1 < 4294967296 ∧ p.2 < 4294967296 }
abbrev encT (x : Two) : Array Value := #[.int .u32 (x.1.1 : Int), .int .u32 (x.1.2 : Int)]
def twoAt (lx ly : List Nat) (hx : Lim lx) (hy : Lim ly) (k : Nat) : Two := ⟨(lx[k]?.getD 0, ly[k]?.getD 0), lim_get hx k, lim_get hy k⟩
def upTo (lx ly : List Nat) (hx : Lim lx) (hy : Lim ly) (k : Nat) : List Two := (List.range k).map (twoAt lx ly hx hy)
theorem upTo_succ (lx ly : List Nat) (hx : Lim lx) (hy : Lim ly) (k : Nat) : upTo lx ly hx hy (k + 1) = upTo lx ly hx hy k ++ [twoAt lx ly hx hy k] := by
  rw [upTo, List.range_succ, List.map_append]; rfl

end Go.Proofs.Ytebfoalcmnpghaa