/-
  SHA-256: what a state took. (Written by wip/gen_shaH.py.)
-/
import Derived.Test.YtmfjhgjplmpecaaDoorShaG
namespace Go.Proofs.YtmfjhgjplmpecaaDoor
open Go.RowKit Go.Shelf

/-- The first state's words. -/
def startN (bt : Nat) : List Nat := if bt = 256 then startL.take 8 else startL.drop 8
/-- The words behind so many blocks of a message. -/
def wsK (bt : Nat) (m : List Nat) : Nat → List Nat
  | 0 => startN bt
  | k + 1 => turnN (wsK bt m k) ((m.drop (64 * k)).take 64)
theorem wsK_ext {bt : Nat} {m m' : List Nat} : ∀ k, m.take (64 * k) = m'.take (64 * k) → wsK bt m k = wsK bt m' k
  | 0, _ => rfl
  | k + 1, h => by
    have h1 : m.take (64 * k) = m'.take (64 * k) := by
      have := congrArg (List.take (64 * k)) h
      rwa [List.take_take, List.take_take, Nat.min_eq_left (by omega)] at this
    have h2 : (m.drop (64 * k)).take 64 = (m'.drop (64 * k)).take 64 := by
      have := congrArg (List.drop (64 * k)) h
      rwa [List.drop_take, List.drop_take, show 64 * (k + 1) - 64 * k = 64 by omega] at this
    show turnN _ _ = turnN _ _
    rw [wsK_ext k h1, h2]
theorem startN_len (bt : Nat) : (startN bt).length = 8 := by unfold startN; split <;> rfl
theorem startN_lt (bt : Nat) : ∀ x ∈ startN bt, x < 4294967296 := by
  unfold startN
  split
  · exact fun x hx => startL_lt x (List.mem_of_mem_take hx)
  · exact fun x hx => startL_lt x (List.mem_of_mem_drop hx)
theorem wsK_len (bt : Nat) (m : List Nat) : ∀ k, (wsK bt m k).length = 8
  | 0 => startN_len bt
  | k + 1 => turnN_len (wsK_len bt m k)
theorem wsK_lt (bt : Nat) (m : List Nat) : ∀ k, ∀ x ∈ wsK bt m k, x < 4294967296
  | 0 => startN_lt bt
  | k + 1 => turnN_lt (wsK_lt bt m k)

/-- Words and tail are those of all that the message has: its whole blocks, and what is behind. -/
def FinP (bt : Nat) (m ws tail : List Nat) : Prop := ws = wsK bt m (m.length / 64) ∧ tail.take (m.length % 64) = m.drop (64 * (m.length / 64))
/-- A state that took a message. -/
def StateOf (w : World) (g bt : Nat) (m : List Nat) : Prop := ∃ ws tail, StateAt w g bt ws tail m.length ∧ FinP bt m ws tail ∧ m.length < 1152921504606846976 ∧ ∀ x ∈ m, x < 256
/-- Ahead of piece number j (of n bytes behind k0 = 64 q0 + at0 that were there). -/
def SemP (bt : Nat) (m : List Nat) (k0 q0 n r j : Nat) (ws tail : List Nat) (at' : Nat) : Prop :=
  ws = wsK bt m (q0 + j) ∧ k0 + stP n r j = 64 * (q0 + j) + at' ∧ tail.take at' = (m.drop (64 * (q0 + j))).take at' ∧ rmP r j + at' = 64
/-- The tail with a piece laid in. -/
def laidIn (tail p : List Nat) (at' : Nat) : List Nat := tail.take at' ++ (p.take (64 - at') ++ tail.drop (at' + (p.take (64 - at')).length))
theorem laidIn_len {tail p : List Nat} {at' : Nat} (ht : tail.length = 64) (ha : at' ≤ 64) : (laidIn tail p at').length = 64 := by
  unfold laidIn
  simp only [List.length_append, List.length_take, List.length_drop, ht]
  omega
theorem laidIn_lt {tail p : List Nat} {at' b : Nat} (h1 : ∀ x ∈ tail, x < b) (h2 : ∀ x ∈ p, x < b) : ∀ x ∈ laidIn tail p at', x < b := fun x hx => by
  unfold laidIn at hx
  rcases List.mem_append.1 hx with h | h
  · exact h1 x (List.mem_of_mem_take h)
  · rcases List.mem_append.1 h with h | h
    · exact h2 x (List.mem_of_mem_take h)
    · exact h1 x (List.mem_of_mem_drop h)
theorem laidIn_take {tail p : List Nat} {at' : Nat} (ht : tail.length = 64) (ha : at' + p.length ≤ 64) : (laidIn tail p at').take (at' + p.length) = tail.take at' ++ p := by
  unfold laidIn
  rw [List.take_of_length_le (show p.length ≤ 64 - at' by omega), ← List.append_assoc, List.take_left' (by simp; omega)]

theorem piece_eq {m0 bl : List Nat} (s l : Nat) : (bl.drop s).take l = ((m0 ++ bl).drop (m0.length + s)).take l := by
  rw [List.drop_append (l₁ := m0), List.drop_of_length_le (l := m0) (by omega), List.nil_append, Nat.add_sub_cancel_left]
theorem join_take {m : List Nat} (k a l : Nat) : (m.drop k).take a ++ (m.drop (k + a)).take l = (m.drop k).take (a + l) := by
  rw [List.take_add, List.drop_drop]

variable {bt k0 q0 n r j at' : Nat} {m0 bl ws tail : List Nat}
theorem SemP.len (h : SemP bt (m0 ++ bl) m0.length q0 n r j ws tail at') (hn : n = bl.length) (hlt : stP n r j < n) :
    stP n r (j + 1) - stP n r j = min (64 - at') (n - stP n r j) := by
  have := stP_next n r j hlt
  have h4 := h.2.2.2
  omega
theorem SemP.laid (h : SemP bt (m0 ++ bl) m0.length q0 n r j ws tail at') (hn : n = bl.length) (ht : tail.length = 64) {l : Nat} (hl : l ≤ n - stP n r j) (hl2 : at' + l ≤ 64) :
    (laidIn tail ((bl.drop (stP n r j)).take l) at').take (at' + l) = ((m0 ++ bl).drop (64 * (q0 + j))).take (at' + l) := by
  obtain ⟨h1, h2, h3, h4⟩ := h
  have hlen : ((bl.drop (stP n r j)).take l).length = l := by simp; omega
  have := laidIn_take (p := (bl.drop (stP n r j)).take l) ht (by rw [hlen]; exact hl2)
  rw [hlen] at this
  rw [this, h3, piece_eq (m0 := m0) (bl := bl) (stP n r j) l, h2, join_take]
/-- A whole block goes on. -/
theorem SemP.next (h : SemP bt (m0 ++ bl) m0.length q0 n r j ws tail at') (hn : n = bl.length) (ht : tail.length = 64) (hlt : stP n r j < n) (hw : 64 ≤ at' + (stP n r (j + 1) - stP n r j)) :
    SemP bt (m0 ++ bl) m0.length q0 n r (j + 1) (turnN ws (laidIn tail ((bl.drop (stP n r j)).take (stP n r (j + 1) - stP n r j)) at')) (laidIn tail ((bl.drop (stP n r j)).take (stP n r (j + 1) - stP n r j)) at') 0 := by
  have hl := h.len hn hlt
  have hd := h.laid hn ht (l := stP n r (j + 1) - stP n r j) (by omega) (by have := h.2.2.2; omega)
  have hst := stP_le n r j
  have hst2 := stP_next n r j hlt
  have h64 : at' + (stP n r (j + 1) - stP n r j) = 64 := by have := h.2.2.2; omega
  rw [h64, List.take_of_length_le (by rw [laidIn_len ht (by omega)]; exact Nat.le_refl _)] at hd
  refine ⟨?_, ?_, rfl, rfl⟩
  · rw [hd, h.1]
    rfl
  · have := h.2.1
    have := h.2.2.2
    omega
/-- Less than a block: all is taken. -/
theorem SemP.fin (h : SemP bt (m0 ++ bl) m0.length q0 n r j ws tail at') (hn : n = bl.length) (ht : tail.length = 64) {l : Nat} (hl : l = n - stP n r j) (hw : at' + l < 64) :
    FinP bt (m0 ++ bl) ws (laidIn tail ((bl.drop (stP n r j)).take l) at') := by
  have hd := h.laid hn ht (l := l) (by omega) (by omega)
  have hst := stP_le n r j
  have hm : (m0 ++ bl).length = 64 * (q0 + j) + (at' + l) := by
    have := h.2.1
    simp
    omega
  have e1 : (m0 ++ bl).length / 64 = q0 + j := by omega
  have e2 : (m0 ++ bl).length % 64 = at' + l := by omega
  refine ⟨by rw [e1]; exact h.1, ?_⟩
  rw [e1, e2, hd, List.take_of_length_le (by rw [List.length_drop]; omega)]
theorem SemP.done (h : SemP bt (m0 ++ bl) m0.length q0 n r j ws tail at') (hn : n = bl.length) (hs : stP n r j = n) (ha : at' < 64) : FinP bt (m0 ++ bl) ws tail := by
  have hm : (m0 ++ bl).length = 64 * (q0 + j) + at' := by
    have := h.2.1
    simp
    omega
  have e1 : (m0 ++ bl).length / 64 = q0 + j := by omega
  have e2 : (m0 ++ bl).length % 64 = at' := by omega
  refine ⟨by rw [e1]; exact h.1, ?_⟩
  rw [e1, e2, h.2.2.1, List.take_of_length_le (by rw [List.length_drop]; omega)]
theorem SemP.start (h : FinP bt m0 ws tail) : SemP bt (m0 ++ bl) m0.length (m0.length / 64) n (64 - m0.length % 64) 0 ws tail (m0.length % 64) := by
  refine ⟨?_, by show m0.length + 0 = _; omega, ?_, by show 64 - m0.length % 64 + m0.length % 64 = 64; omega⟩
  · rw [h.1, Nat.add_zero]
    exact wsK_ext _ (by rw [List.take_append_of_le_length (by omega)])
  · rw [h.2, Nat.add_zero, List.drop_append_of_le_length (by omega), List.take_append_of_le_length (by rw [List.length_drop]; omega), List.take_of_length_le (by rw [List.length_drop]; omega)]

end Go.Proofs.YtmfjhgjplmpecaaDoor
