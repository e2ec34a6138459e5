/-
  SHA-256: the state in its block; turn. (Written by wip/gen_shaE.py.)
-/
import Derived.Test.YtmfjhgjplmpecaaDoorShaD
import Derived.Deep.CutRange
namespace Go.Proofs.YtmfjhgjplmpecaaDoor
open Go.RowKit

def yN (e f g h k w : Nat) : Nat := ((((h + k) % 4294967296 + w) % 4294967296 + laidN e 6 11 25) % 4294967296 + ((e &&& f) ^^^ ((4294967295 - e) &&& g))) % 4294967296
def zN (a b c : Nat) : Nat := (laidN a 2 13 22 + ((a &&& b) ^^^ (a &&& c) ^^^ (b &&& c))) % 4294967296
/-- One round. -/
def rd (v : List Nat) (k w : Nat) : List Nat :=
  [(yN (g0 v 4) (g0 v 5) (g0 v 6) (g0 v 7) k w + zN (g0 v 0) (g0 v 1) (g0 v 2)) % 4294967296, g0 v 0, g0 v 1, g0 v 2, (g0 v 3 + yN (g0 v 4) (g0 v 5) (g0 v 6) (g0 v 7) k w) % 4294967296, g0 v 4, g0 v 5, g0 v 6]
def rdsN (ws sc : List Nat) : Nat → List Nat
  | 0 => ws
  | i + 1 => rd (rdsN ws sc i) (g0 kL i) (g0 sc i)
def addTo (ws v : List Nat) : Nat → List Nat
  | 0 => ws
  | j + 1 => (addTo ws v j).set j ((g0 (addTo ws v j) j + g0 v j) % 4294967296)
/-- What a block makes of the words. -/
def turnN (ws b : List Nat) : List Nat := addTo ws (rdsN ws (schedN b) 64) 8
theorem rdsN_len (ws sc : List Nat) (h : ws.length = 8) : ∀ i, (rdsN ws sc i).length = 8
  | 0 => h
  | _ + 1 => rfl
theorem rd_lt {v : List Nat} (h : ∀ x ∈ v, x < 4294967296) (k w : Nat) : ∀ x ∈ rd v k w, x < 4294967296 := fun x hx => by
  have hg := fun i => g0_lt h (by decide) i
  unfold rd at hx
  simp only [List.mem_cons, List.not_mem_nil, or_false] at hx
  rcases hx with rfl | rfl | rfl | rfl | rfl | rfl | rfl | rfl
  · exact Nat.mod_lt _ (by decide)
  · exact hg _
  · exact hg _
  · exact hg _
  · exact Nat.mod_lt _ (by decide)
  · exact hg _
  · exact hg _
  · exact hg _
theorem rdsN_lt (ws sc : List Nat) (h : ∀ x ∈ ws, x < 4294967296) : ∀ i, ∀ x ∈ rdsN ws sc i, x < 4294967296
  | 0 => h
  | i + 1 => rd_lt (rdsN_lt ws sc h i) _ _
theorem addTo_len (ws v : List Nat) (h : ws.length = 8) : ∀ j, (addTo ws v j).length = 8
  | 0 => h
  | j + 1 => by simp [addTo, addTo_len ws v h j]
theorem addTo_lt (ws v : List Nat) (h : ∀ x ∈ ws, x < 4294967296) : ∀ j, ∀ x ∈ addTo ws v j, x < 4294967296
  | 0 => h
  | j + 1 => set_lt (addTo_lt ws v h j) _ _ (Nat.mod_lt _ (by decide))
theorem turnN_len {ws b : List Nat} (h : ws.length = 8) : (turnN ws b).length = 8 := addTo_len _ _ h 8
theorem turnN_lt {ws b : List Nat} (h : ∀ x ∈ ws, x < 4294967296) : ∀ x ∈ turnN ws b, x < 4294967296 := addTo_lt _ _ h 8

/-- A state's cells. -/
def stL (bits : Nat) (ws tail : List Nat) (taken : Nat) : List Value := .int .i64 (bits : Int) :: (ws.map (num .u32) ++ (tail.map (num .u8) ++ [.int .u64 (taken : Int)]))
/-- A block that holds a state. -/
structure StateAt (w : World) (g bits : Nat) (ws tail : List Nat) (taken : Nat) : Prop where
  heap : w.heap[g]? = some (.cells (stL bits ws tail taken).toArray 86 (0, 0))
  wlen : ws.length = 8
  tlen : tail.length = 64
  wlt : ∀ x ∈ ws, x < 4294967296
  tlt : ∀ x ∈ tail, x < 256
theorem StateAt.lt {w : World} {g bits : Nat} {ws tail : List Nat} {taken : Nat} (h : StateAt w g bits ws tail taken) : g < w.heap.size := (Array.getElem?_eq_some_iff.1 h.heap).1
theorem StateAt.frozen {w : World} {g bits : Nat} {ws tail : List Nat} {taken : Nat} (h : StateAt w g bits ws tail taken) (i : Nat) : w.frozen? ⟨g, i, none⟩ = false := frozen_of_row w g i _ _ h.heap
theorem StateAt.bits {w : World} {g bits : Nat} {ws tail : List Nat} {taken : Nat} (h : StateAt w g bits ws tail taken) : w.cell? ⟨g, 0, none⟩ = some (.int .i64 (bits : Int)) := by
  rw [cell_of_row w g 0 _ _ _ h.heap]; rfl
theorem StateAt.word {w : World} {g bits : Nat} {ws tail : List Nat} {taken : Nat} (h : StateAt w g bits ws tail taken) (i : Nat) (hi : i < 8) : w.cell? ⟨g, 1 + i, none⟩ = some (.int .u32 ((g0 ws i : Nat) : Int)) := by
  have hl := h.wlen
  rw [cell_of_row w g (1 + i) _ _ _ h.heap, List.getElem?_toArray, stL, show 1 + i = i + 1 by omega, List.getElem?_cons_succ, List.getElem?_append_left (by simp; omega), List.getElem?_map, List.getElem?_eq_getElem (show i < ws.length by omega)]
  simp [num, g0, List.getElem?_eq_getElem (show i < ws.length by omega)]
theorem StateAt.byte {w : World} {g bits : Nat} {ws tail : List Nat} {taken : Nat} (h : StateAt w g bits ws tail taken) (i : Nat) (hi : i < 64) : w.cell? ⟨g, 9 + i, none⟩ = some (.int .u8 ((g0 tail i : Nat) : Int)) := by
  have hl := h.wlen
  have hl2 := h.tlen
  rw [cell_of_row w g (9 + i) _ _ _ h.heap, List.getElem?_toArray, stL, show 9 + i = (8 + i) + 1 by omega, List.getElem?_cons_succ, List.getElem?_append_right (by simp; omega), List.getElem?_append_left (by simp; omega)]
  simp only [List.length_map, hl, Nat.add_sub_cancel_left, List.getElem?_map]
  simp [num, g0, List.getElem?_eq_getElem (show i < tail.length by omega)]
theorem StateAt.taken {w : World} {g bits : Nat} {ws tail : List Nat} {taken : Nat} (h : StateAt w g bits ws tail taken) : w.cell? ⟨g, 73, none⟩ = some (.int .u64 (taken : Int)) := by
  have hl := h.wlen
  have hl2 := h.tlen
  rw [cell_of_row w g 73 _ _ _ h.heap, List.getElem?_toArray, stL, show 73 = 72 + 1 by omega, List.getElem?_cons_succ, List.getElem?_append_right (by simp; omega), List.getElem?_append_right (by simp; omega)]
  simp [hl, hl2]
theorem StateAt.block {w w' : World} {g bits : Nat} {ws tail : List Nat} {taken : Nat} (h : StateAt w g bits ws tail taken) (hb : w'.heap[g]? = w.heap[g]?) : StateAt w' g bits ws tail taken := ⟨hb.trans h.heap, h.wlen, h.tlen, h.wlt, h.tlt⟩
theorem StateAt.below {w w' : World} {g bits B : Nat} {ws tail : List Nat} {taken : Nat} (h : StateAt w g bits ws tail taken) (hb : Below B w w') (hg : g < B) : StateAt w' g bits ws tail taken := h.block (hb.block g hg)
theorem StateAt.setWord {w : World} {g bits : Nat} {ws tail : List Nat} {taken : Nat} (h : StateAt w g bits ws tail taken) (i x : Nat) (hi : i < 8) (y : Int) (hy : y = (x : Int)) (hx : x < 4294967296) : StateAt (w.setCell ⟨g, 1 + i, none⟩ (.int .u32 y)) g bits (ws.set i x) tail taken := by
  subst hy
  have hl := h.wlen
  refine ⟨?_, by simp [hl], h.tlen, set_lt h.wlt i x hx, h.tlt⟩
  have := heap_setCell_same w g (1 + i) _ _ (num .u32 x) h.heap
  refine this.trans ?_
  congr 2
  apply Array.ext'
  rw [Array.toList_setIfInBounds]
  show (stL bits ws tail taken).set (1 + i) (num .u32 x) = stL bits (ws.set i x) tail taken
  unfold stL
  rw [show 1 + i = i + 1 by omega, List.set_cons_succ, List.set_append_left _ _ (by simp; omega), List.map_set]
theorem StateAt.tail {w : World} {g bits : Nat} {ws tail : List Nat} {taken : Nat} (h : StateAt w g bits ws tail taken) : Reads .u8 w (some ⟨g, 9, none⟩) 64 64 tail :=
  ⟨h.tlen, Nat.le_refl _, by unfold maxLen; omega, (fun e => by cases e), fun _ => ⟨g, 9, rfl, h.lt, fun i hi => h.byte i hi⟩⟩

end Go.Proofs.YtmfjhgjplmpecaaDoor
