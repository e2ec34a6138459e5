/-
  SHA-512: made; the tail, with a piece laid in.
-/
import Derived.Test.YtmfjhgjplmpecaaDoorQbH
import Derived.WalkMore
namespace Go.Proofs.YtmfjhgjplmpecaaDoor.L5
open Go.RowKit Go.Shelf
set_option maxRecDepth 100000

/-- The tail with a piece laid in. -/
def laidIn (tail p : List Nat) (at' : Nat) : List Nat := tail.take at' ++ (p.take (128 - at') ++ tail.drop (at' + (p.take (128 - at')).length))
theorem laidIn_len {tail p : List Nat} {at' : Nat} (ht : tail.length = 128) (ha : at' ≤ 128) : (laidIn tail p at').length = 128 := by
  unfold laidIn
  simp only [List.length_append, List.length_take, List.length_drop, ht]
  omega
theorem laidIn_lt {tail p : List Nat} {at' b : Nat} (h1 : ∀ x ∈ tail, x < b) (h2 : ∀ x ∈ p, x < b) : ∀ x ∈ laidIn tail p at', x < b := fun x hx => by
  unfold laidIn at hx
  rcases List.mem_append.1 hx with h | h
  · exact h1 x (List.mem_of_mem_take h)
  · rcases List.mem_append.1 h with h | h
    · exact h2 x (List.mem_of_mem_take h)
    · exact h1 x (List.mem_of_mem_drop h)
theorem laidIn_take {tail p : List Nat} {at' : Nat} (ht : tail.length = 128) (ha : at' + p.length ≤ 128) : (laidIn tail p at').take (at' + p.length) = tail.take at' ++ p := by
  unfold laidIn
  rw [List.take_of_length_le (show p.length ≤ 128 - at' by omega), ← List.append_assoc, List.take_left' (by simp; omega)]

theorem piece_eq {m0 bl : List Nat} (s l : Nat) : (bl.drop s).take l = ((m0 ++ bl).drop (m0.length + s)).take l := by
  rw [List.drop_append (l₁ := m0), List.drop_of_length_le (l := m0) (by omega), List.nil_append, Nat.add_sub_cancel_left]
theorem made_yes (g bt : Nat) (ws tail : List Nat) (T : Nat) (w : World) (h : StateAt w g bt ws tail T) (hb : bt ≠ 0) : Calls Tryd.prog 55 #[.pointer (some ⟨g, 0, none⟩)] w fun e w' => e = .returned (.bool true) ∧ w = w' := by
  have h0 := h.bits
  have ht : ((bt : Int) != 0) = true := by simp; omega
  clear h
  go_enter Tryd.func55, Tryd.ntmps55
  go_wp2
  go_ret
  exact ⟨rfl, rfl⟩
theorem StateAt.setTaken {w : World} {g bits : Nat} {ws tail : List Nat} {taken : Nat} (h : StateAt w g bits ws tail taken) (T : Nat) (y : Int) (hy : y = (T : Int)) : StateAt (w.setCell ⟨g, 137, none⟩ (.int .u64 y)) g bits ws tail T := by
  subst hy
  have hl := h.wlen
  have hl2 := h.tlen
  refine ⟨?_, hl, hl2, h.wlt, h.tlt⟩
  have := heap_setCell_same w g 137 _ _ (num .u64 T) h.heap
  refine this.trans ?_
  congr 2
  apply Array.ext'
  rw [Array.toList_setIfInBounds]
  show (stL bits ws tail taken).set 137 (num .u64 T) = stL bits ws tail T
  unfold stL
  rw [show 137 = 136 + 1 by omega, List.set_cons_succ, List.set_append_right _ _ (by simp; omega), List.set_append_right _ _ (by simp; omega)]
  simp [hl, hl2, num]
theorem stL_splice {bt T at' : Nat} {ws tail q : List Nat} (hw : ws.length = 8) (ht : tail.length = 128) (hq : at' + q.length ≤ 128) :
    (stL bt ws tail T).take (9 + at') ++ q.map (num .u8) ++ (stL bt ws tail T).drop (9 + at' + q.length) = stL bt ws (tail.take at' ++ (q ++ tail.drop (at' + q.length))) T := by
  unfold stL
  rw [show 9 + at' = (8 + at') + 1 by omega, List.take_succ_cons, show 8 + at' + 1 + q.length = (8 + at' + q.length) + 1 by omega, List.drop_succ_cons, List.take_append, List.drop_append, List.take_append, List.drop_append]
  simp only [List.length_map, hw, ht, show 8 + at' - 8 = at' by omega, show 8 + at' + q.length - 8 = at' + q.length by omega, show at' - 128 = 0 by omega, show at' + q.length - 128 = 0 by omega]
  rw [List.take_of_length_le (by simp; omega), List.drop_of_length_le (by simp; omega)]
  simp [List.map_append, List.map_take, List.map_drop]
theorem StateAt.splice {w : World} {g bt : Nat} {ws tail : List Nat} {T : Nat} (h : StateAt w g bt ws tail T) (p : List Nat) (hp : ∀ x ∈ p, x < 256) (at' : Nat) (ha : at' ≤ 128) (blk o l c : Nat) (hr : Reads .u8 w (some ⟨blk, o, none⟩) l c p) :
    (Builtin.copy_ #[23, 23] 3 #[.slice (some ⟨g, 9 + at', none⟩) (128 - at') (128 - at'), .slice (some ⟨blk, o, none⟩) l c]).run Tryd.prog w = .ok (goInt (p.take (128 - at')).length) (w.setRow g (stL bt ws (laidIn tail p at') T).toArray) ∧ StateAt (w.setRow g (stL bt ws (laidIn tail p at') T).toArray) g bt ws (laidIn tail p at') T := by
  have hpl := hr.length
  have hws := h.wlen
  have htl := h.tlen
  have hsz : (stL bt ws tail T).toArray.size = 138 := by simp [stL, hws, htl]
  refine ⟨?_, setRow_heap w g _ _ _ _ h.heap, hws, laidIn_len htl ha, h.wlt, laidIn_lt h.tlt hp⟩
  have := run_copy_row Tryd.prog w 23 23 3 5 g (9 + at') (128 - at') (128 - at') ⟨blk, o, none⟩ l c _ _ ((p.take (128 - at')).map (num .u8)) Tryd.underlying23 (by kernel_rfl) h.heap (by simp [hpl, Nat.min_comm]) (fun j v hv => by
    rw [List.getElem?_map, List.getElem?_take] at hv
    split at hv
    · exact hr.news j v (by rw [List.getElem?_map]; exact hv)
    · cases hv) (by rw [hsz]; simp; omega) (fun u hu => nums_oneCell .u8 _ u hu)
  rw [List.length_map] at this
  rw [this]
  congr 2
  rw [stL_splice hws htl (by simp; omega)]
  rfl

end Go.Proofs.YtmfjhgjplmpecaaDoor.L5
