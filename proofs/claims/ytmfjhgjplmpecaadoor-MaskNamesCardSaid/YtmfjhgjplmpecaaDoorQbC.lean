/-
  SHA-512: arrays by value, and in blocks of one's own.
-/
import Derived.Test.YtmfjhgjplmpecaaDoorQbB
import Derived.Laws.Rows
import Derived.Laws.Tables
import Derived.OwnWalk
namespace Go.Proofs.YtmfjhgjplmpecaaDoor.L5
open Go.RowKit

/-- Numbers as the cells of an array. -/
def arrC (q : IntKind) (l : List Nat) : Array Value := (l.map (num q)).toArray
theorem arrC_size (q : IntKind) (l : List Nat) : (arrC q l).size = l.length := by simp [arrC]
theorem arrC_get (q : IntKind) (l : List Nat) (i : Nat) (h : i < l.length) : (arrC q l)[i]? = some (.int q ((l[i]?.getD 0 : Nat) : Int)) := by simp [arrC, num, h]
theorem arrC_one (q : IntKind) (l : List Nat) : (arrC q l).all (·.oneCell') = true := by
  rw [Array.all_eq_true_iff_forall_mem]
  intro u hu
  have : u ∈ l.map (num q) := by simpa [arrC] using hu
  exact nums_oneCell q l u this
/-- A block that holds an array. -/
def Arr (q : IntKind) (E : TypeId) (w : World) (g : Nat) (l : List Nat) : Prop := w.heap[g]? = some (.cells (arrC q l) E (0, 0))
theorem Arr.lt {q : IntKind} {E g : Nat} {w : World} {l : List Nat} (h : Arr q E w g l) : g < w.heap.size := (Array.getElem?_eq_some_iff.1 h).1
theorem Arr.cell {q : IntKind} {E g : Nat} {w : World} {l : List Nat} (h : Arr q E w g l) (i : Nat) (hi : i < l.length) : w.cell? ⟨g, i, none⟩ = some (.int q ((l[i]?.getD 0 : Nat) : Int)) := by
  rw [cell_of_row w g i _ E (0, 0) h, arrC_get q l i hi]
theorem Arr.frozen {q : IntKind} {E g : Nat} {w : World} {l : List Nat} (h : Arr q E w g l) (i : Nat) : w.frozen? ⟨g, i, none⟩ = false := frozen_of_row w g i _ E h
theorem arrC_set (q : IntKind) (l : List Nat) (i x : Nat) : (arrC q l).setIfInBounds i (num q x) = arrC q (l.set i x) := by
  apply Array.ext'
  simp [arrC, List.map_set]
theorem Arr.stored {q : IntKind} {E g : Nat} {w : World} {l : List Nat} (h : Arr q E w g l) (i x : Nat) (y : Int) (hy : y = (x : Int)) : Arr q E (w.setCell ⟨g, i, none⟩ (.int q y)) g (l.set i x) := by
  subst hy
  have := heap_setCell_same w g i _ E (num q x) h
  unfold Arr
  rw [← arrC_set]
  exact this
theorem Arr.other {q : IntKind} {E g : Nat} {w : World} {l : List Nat} (h : Arr q E w g l) (p : Addr) (v : Value) (hp : g ≠ p.block) : Arr q E (w.setCell p v) g l := (heap_setCell_other w p g v hp).trans h
theorem Arr.alloc {q : IntKind} {E g : Nat} {w : World} {l : List Nat} (h : Arr q E w g l) (o : Obj) : Arr q E (w.alloc o) g l := (Below.heap_alloc w o g h.lt).trans h
theorem Arr.below {q : IntKind} {E g B : Nat} {w w' : World} {l : List Nat} (h : Arr q E w g l) (hb : Below B w w') (hg : g < B) : Arr q E w' g l := (hb.block g hg).trans h
theorem alloc_setRow (w : World) (old cs : Array Value) (E : TypeId) : (w.alloc (.cells old E)).setRow w.heap.size cs = w.alloc (.cells cs E) := by
  cases w with
  | mk heap tape drawn os output =>
    simp only [World.alloc, World.setRow]
    congr 1
    apply Array.ext
    · simp
    · intro k h1 h2
      simp only [Array.getElem_modify]
      split
      · rename_i hk
        subst hk
        simp
      · rename_i hk
        rw [Array.getElem_push, Array.getElem_push]
        split
        · rfl
        · rename_i hk2
          simp at h1
          omega

theorem idx80 (l : List Nat) (i : Nat) (hi : i < 80) (hl : l.length = 80) (w : World) : (Instr.index 79 (.agg (arrC .u64 l)) (.int .i64 (i : Int))).run Tryd.prog w = .ok (.int .u64 ((l[i]?.getD 0 : Nat) : Int)) w := by
  have hu : ∀ w, (underlying 79).run Tryd.prog w = .ok (.array 80 75) w := fun _ => by kernel_rfl
  have hs : ∀ w, (sizeOf 75).run Tryd.prog w = .ok 1 w := fun _ => by kernel_rfl
  have ha : ∀ w, (isAgg 75).run Tryd.prog w = .ok false w := fun _ => by kernel_rfl
  have hg := arrC_get .u64 l i (by omega)
  have hz : i < (arrC .u64 l).size := by rw [arrC_size]; omega
  have h1 : 0 ≤ (i : Int) ∧ (i : Int) < ((80 : Nat) : Int) := by omega
  unfold Instr.index
  simp only [asIntOf, Sem.run_bind, Sem.run_pure, Result.andThen_ok, hu, if_pos h1, hs, Int.toNat_natCast, Nat.mul_one, part, ha]
  rw [hg]
  rfl

end Go.Proofs.YtmfjhgjplmpecaaDoor.L5
