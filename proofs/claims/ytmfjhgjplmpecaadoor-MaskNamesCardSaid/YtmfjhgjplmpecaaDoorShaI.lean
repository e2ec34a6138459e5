/-
  SHA-256: Write. (Written by wip/gen_shaI.py.)
-/
import Derived.Test.YtmfjhgjplmpecaaDoorShaH
import Derived.Test.YtmfjhgjplmpecaaDoorFence
import Derived.WalkMore
namespace Go.Proofs.YtmfjhgjplmpecaaDoor
open Go.RowKit Go.Shelf
set_option maxRecDepth 100000
attribute [local go_sem] Oper.semAt_some

theorem made_yes (g bt : Nat) (ws tail : List Nat) (T : Nat) (w : World) (h : StateAt w g bt ws tail T) (hb : bt ≠ 0) : Calls Tryd.prog 48 #[.pointer (some ⟨g, 0, none⟩)] w fun e w' => e = .returned (.bool true) ∧ w = w' := by
  have h0 := h.bits
  have ht : ((bt : Int) != 0) = true := by simp; omega
  clear h
  go_enter Tryd.func48, Tryd.ntmps48
  go_wp2
  go_ret
  exact ⟨rfl, rfl⟩
theorem pieces_any (w : World) (a : Option Addr) (n c : Nat) (r : Int) : Calls Tryd.prog 49 #[.slice a n c, .int .i64 r] w fun e w' => e = .returned (.func (.func 64) #[] #[.pointer (some ⟨w.heap.size, 0, none⟩), .pointer (some ⟨w.heap.size + 1, 0, none⟩)]) ∧ w' = (w.alloc (.cells #[.slice a n c] 23)).alloc (.cells #[.int .i64 r] 3) := by
  go_enter Tryd.func49, Tryd.ntmps49
  go_wp2
  go_ret
  exact ⟨rfl, rfl⟩
theorem StateAt.setTaken {w : World} {g bits : Nat} {ws tail : List Nat} {taken : Nat} (h : StateAt w g bits ws tail taken) (T : Nat) (y : Int) (hy : y = (T : Int)) : StateAt (w.setCell ⟨g, 73, none⟩ (.int .u64 y)) g bits ws tail T := by
  subst hy
  have hl := h.wlen
  have hl2 := h.tlen
  refine ⟨?_, hl, hl2, h.wlt, h.tlt⟩
  have := heap_setCell_same w g 73 _ _ (num .u64 T) h.heap
  refine this.trans ?_
  congr 2
  apply Array.ext'
  rw [Array.toList_setIfInBounds]
  show (stL bits ws tail taken).set 73 (num .u64 T) = stL bits ws tail T
  unfold stL
  rw [show 73 = 72 + 1 by omega, List.set_cons_succ, List.set_append_right _ _ (by simp; omega), List.set_append_right _ _ (by simp; omega)]
  simp [hl, hl2, num]
theorem stL_splice {bt T at' : Nat} {ws tail q : List Nat} (hw : ws.length = 8) (ht : tail.length = 64) (hq : at' + q.length ≤ 64) :
    (stL bt ws tail T).take (9 + at') ++ q.map (num .u8) ++ (stL bt ws tail T).drop (9 + at' + q.length) = stL bt ws (tail.take at' ++ (q ++ tail.drop (at' + q.length))) T := by
  unfold stL
  rw [show 9 + at' = (8 + at') + 1 by omega, List.take_succ_cons, show 8 + at' + 1 + q.length = (8 + at' + q.length) + 1 by omega, List.drop_succ_cons, List.take_append, List.drop_append, List.take_append, List.drop_append]
  simp only [List.length_map, hw, ht, show 8 + at' - 8 = at' by omega, show 8 + at' + q.length - 8 = at' + q.length by omega, show at' - 64 = 0 by omega, show at' + q.length - 64 = 0 by omega]
  rw [List.take_of_length_le (by simp; omega), List.drop_of_length_le (by simp; omega)]
  simp [List.map_append, List.map_take, List.map_drop]
theorem StateAt.splice {w : World} {g bt : Nat} {ws tail : List Nat} {T : Nat} (h : StateAt w g bt ws tail T) (p : List Nat) (hp : ∀ x ∈ p, x < 256) (at' : Nat) (ha : at' ≤ 64) (blk o l c : Nat) (hr : Reads .u8 w (some ⟨blk, o, none⟩) l c p) :
    (Builtin.copy_ #[23, 23] 3 #[.slice (some ⟨g, 9 + at', none⟩) (64 - at') (64 - at'), .slice (some ⟨blk, o, none⟩) l c]).run Tryd.prog w = .ok (goInt (p.take (64 - at')).length) (w.setRow g (stL bt ws (laidIn tail p at') T).toArray) ∧ StateAt (w.setRow g (stL bt ws (laidIn tail p at') T).toArray) g bt ws (laidIn tail p at') T := by
  have hpl := hr.length
  have hws := h.wlen
  have htl := h.tlen
  have hsz : (stL bt ws tail T).toArray.size = 74 := by simp [stL, hws, htl]
  refine ⟨?_, setRow_heap w g _ _ _ _ h.heap, hws, laidIn_len htl ha, h.wlt, laidIn_lt h.tlt hp⟩
  have := run_copy_row Tryd.prog w 23 23 3 5 g (9 + at') (64 - at') (64 - at') ⟨blk, o, none⟩ l c _ _ ((p.take (64 - at')).map (num .u8)) Tryd.underlying23 (by kernel_rfl) h.heap (by simp [hpl, Nat.min_comm]) (fun j v hv => by
    rw [List.getElem?_map, List.getElem?_take] at hv
    split at hv
    · exact hr.news j v (by rw [List.getElem?_map]; exact hv)
    · cases hv) (by rw [hsz]; simp; omega) (fun u hu => nums_oneCell .u8 _ u hu)
  rw [List.length_map] at this
  rw [this]
  congr 2
  rw [stL_splice hws htl (by simp; omega)]
  rfl

end Go.Proofs.YtmfjhgjplmpecaaDoor
