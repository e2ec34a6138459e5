/-
  A HEAP OF MARKS, AS A LIST. No walk stands here.
-/
import Derived.Test.YtfeajcgcjpngkaaPriP
namespace Go.Proofs.Ytfeajcgcjpngkaa
open Go.RowKit

def gt (L : List (Nat × Nat)) (i : Nat) : Nat × Nat := L[i]?.getD (0, 0)
def ky (L : List (Nat × Nat)) (i : Nat) : Nat := (gt L i).1
def sw (L : List (Nat × Nat)) (i j : Nat) : List (Nat × Nat) := (L.set i (gt L j)).set j (gt L i)
theorem sw_len (L : List (Nat × Nat)) (i j : Nat) : (sw L i j).length = L.length := by simp [sw]
theorem gt_set {L : List (Nat × Nat)} {i : Nat} (hi : i < L.length) (x : Nat × Nat) (k : Nat) : gt (L.set i x) k = if k = i then x else gt L k := by
  unfold gt
  rw [List.getElem?_set]
  by_cases h : i = k
  · subst h
    rw [if_pos rfl, if_pos hi, if_pos rfl]
    rfl
  · rw [if_neg h, if_neg (fun e => h e.symm)]
theorem gt_sw {L : List (Nat × Nat)} {i j : Nat} (hi : i < L.length) (hj : j < L.length) (k : Nat) : gt (sw L i j) k = if k = j then gt L i else if k = i then gt L j else gt L k := by
  unfold sw
  rw [gt_set (by simpa using hj), gt_set hi]
theorem ky_sw {L : List (Nat × Nat)} {i j : Nat} (hi : i < L.length) (hj : j < L.length) (k : Nat) : ky (sw L i j) k = if k = j then ky L i else if k = i then ky L j else ky L k := by
  unfold ky
  rw [gt_sw hi hj]
  split
  · rfl
  · split <;> rfl
theorem sw_perm {L : List (Nat × Nat)} {i j : Nat} (hi : i < L.length) (hj : j < L.length) : (sw L i j).Perm L := by
  unfold sw gt
  rw [List.getElem?_eq_getElem hi, List.getElem?_eq_getElem hj]
  exact List.set_set_perm hi hj

/-- The first n of them are a heap. -/
def HeapN (L : List (Nat × Nat)) (n : Nat) : Prop := ∀ k, 0 < k → k < n → ky L ((k - 1) / 2) ≤ ky L k
/-- They are, but for the one at j, which may want to rise. -/
def UpI (L : List (Nat × Nat)) (j : Nat) : Prop := (∀ i, 0 < i → i < L.length → i ≠ j → ky L ((i - 1) / 2) ≤ ky L i) ∧ ∀ i, 0 < i → i < L.length → (i - 1) / 2 = j → 0 < j → ky L ((j - 1) / 2) ≤ ky L i
/-- They are, but for the one at i, which may want to fall. -/
def DownI (L : List (Nat × Nat)) (n i : Nat) : Prop := (∀ k, 0 < k → k < n → (k - 1) / 2 ≠ i → ky L ((k - 1) / 2) ≤ ky L k) ∧ ∀ k, 0 < i → 0 < k → k < n → (k - 1) / 2 = i → ky L ((i - 1) / 2) ≤ ky L k

theorem ky_append {L : List (Nat × Nat)} {x : Nat × Nat} {i : Nat} (hi : i < L.length) : ky (L ++ [x]) i = ky L i := by
  unfold ky gt
  rw [List.getElem?_append_left hi]
theorem UpI.start {L : List (Nat × Nat)} (h : HeapN L L.length) (x : Nat × Nat) : UpI (L ++ [x]) L.length := by
  refine ⟨fun i h0 hi hne => ?_, fun i h0 hi hp hj => ?_⟩
  · simp at hi
    rw [ky_append (by omega), ky_append (by omega)]
    exact h i h0 (by omega)
  · simp at hi
    omega
theorem UpI.top {L : List (Nat × Nat)} (h : UpI L 0) : HeapN L L.length := fun k h0 hk => h.1 k h0 hk (by omega)
theorem UpI.done {L : List (Nat × Nat)} {j : Nat} (h : UpI L j) (hle : ky L ((j - 1) / 2) ≤ ky L j) : HeapN L L.length := fun k h0 hk => by
  by_cases e : k = j
  · subst e; exact hle
  · exact h.1 k h0 hk e
theorem UpI.step {L : List (Nat × Nat)} {i j : Nat} (h : UpI L j) (h0 : 0 < j) (hj : j < L.length) (hi : i = (j - 1) / 2) (hlt : ky L j < ky L i) : UpI (sw L i j) i := by
  have hij : i < j := by omega
  have hil : i < L.length := by omega
  refine ⟨fun k k0 hk hne => ?_, fun k k0 hk hp hi0 => ?_⟩
  · rw [sw_len] at hk
    rw [ky_sw hil hj, ky_sw hil hj]
    by_cases hkj : k = j
    · subst hkj
      rw [if_pos rfl, ← hi, if_neg (by omega), if_pos rfl]
      omega
    · rw [if_neg hkj, if_neg hne]
      have h1 := h.1 k k0 hk hkj
      by_cases hpj : (k - 1) / 2 = j
      · rw [if_pos hpj]
        have := h.2 k k0 hk hpj h0
        rwa [← hi] at this
      · rw [if_neg hpj]
        by_cases hpi : (k - 1) / 2 = i
        · rw [if_pos hpi]
          rw [hpi] at h1
          omega
        · rw [if_neg hpi]
          exact h1
  · rw [sw_len] at hk
    rw [ky_sw hil hj, ky_sw hil hj, if_neg (by omega), if_neg (by omega)]
    have h1 := h.1 i hi0 hil (by omega)
    by_cases hkj : k = j
    · subst hkj
      rw [if_pos rfl]
      exact h1
    · rw [if_neg hkj, if_neg (by omega)]
      have h2 := h.1 k k0 hk hkj
      rw [hp] at h2
      omega

theorem DownI.start {L : List (Nat × Nat)} {n : Nat} (h : HeapN L L.length) (hn : L.length = n + 1) : DownI (sw L 0 n) n 0 := by
  refine ⟨fun k k0 hk hp => ?_, fun k h0 => by omega⟩
  rw [ky_sw (by omega) (by omega), ky_sw (by omega) (by omega), if_neg (by omega), if_neg hp, if_neg (by omega), if_neg (by omega)]
  exact h k k0 (by omega)
theorem DownI.leaf {L : List (Nat × Nat)} {n i : Nat} (h : DownI L n i) (hn : n ≤ 2 * i + 1) : HeapN L n := fun k k0 hk => h.1 k k0 hk (by omega)
theorem DownI.done {L : List (Nat × Nat)} {n i j : Nat} (h : DownI L n i) (hle : ky L i ≤ ky L j) (hm : ∀ k, 0 < k → k < n → (k - 1) / 2 = i → ky L j ≤ ky L k) : HeapN L n := fun k k0 hk => by
  by_cases e : (k - 1) / 2 = i
  · have := hm k k0 hk e
    rw [e]
    omega
  · exact h.1 k k0 hk e
theorem DownI.step {L : List (Nat × Nat)} {n i j : Nat} (h : DownI L n i) (hnl : n ≤ L.length) (hj0 : 0 < j) (hjn : j < n) (hp : (j - 1) / 2 = i) (hlt : ky L j ≤ ky L i) (hm : ∀ k, 0 < k → k < n → (k - 1) / 2 = i → ky L j ≤ ky L k) : DownI (sw L i j) n j := by
  have hij : i < j := by omega
  have hil : i < L.length := by omega
  have hjl : j < L.length := by omega
  refine ⟨fun k k0 hk hne => ?_, fun k _ k0 hk hpk => ?_⟩
  · rw [ky_sw hil hjl, ky_sw hil hjl, if_neg hne]
    by_cases hkj : k = j
    · subst hkj
      rw [if_pos hp, if_pos rfl]
      exact hlt
    · rw [if_neg hkj]
      by_cases hki : k = i
      · subst hki
        rw [if_neg (by omega), if_pos rfl]
        exact h.2 j k0 hj0 hjn hp
      · rw [if_neg hki]
        by_cases hpi : (k - 1) / 2 = i
        · rw [if_pos hpi]
          exact hm k k0 hk hpi
        · rw [if_neg hpi]
          exact h.1 k k0 hk hpi
  · rw [ky_sw hil hjl, ky_sw hil hjl, hp, if_neg (by omega), if_pos rfl, if_neg (by omega), if_neg (by omega)]
    have := h.1 k k0 hk (by omega)
    rwa [hpk] at this
theorem least {L : List (Nat × Nat)} {n : Nat} (h : HeapN L n) : ∀ i, i < n → ky L 0 ≤ ky L i := by
  intro i
  induction i using Nat.strongRecOn with
  | _ i ih =>
    intro hi
    rcases Nat.eq_zero_or_pos i with rfl | h0
    · exact Nat.le_refl _
    · exact Nat.le_trans (ih ((i - 1) / 2) (by omega) (by omega)) (h i h0 hi)
theorem HeapN.take {L : List (Nat × Nat)} {n : Nat} (h : HeapN L n) (hn : n ≤ L.length) : HeapN (L.take n) (L.take n).length := by
  rw [List.length_take, Nat.min_eq_left hn]
  intro k k0 hk
  have e : ∀ i, i < n → ky (L.take n) i = ky L i := fun i hi => by
    unfold ky gt
    rw [List.getElem?_take_of_lt hi]
  rw [e _ (by omega), e _ hk]
  exact h k k0 hk
/-- What falls keeps the last one where it lies, and all of them. -/
def Sunk (L L' : List (Nat × Nat)) (n : Nat) : Prop := L'.Perm L ∧ L'.length = L.length ∧ ∀ k, n ≤ k → gt L' k = gt L k
theorem Sunk.refl (L : List (Nat × Nat)) (n : Nat) : Sunk L L n := ⟨List.Perm.refl _, rfl, fun _ _ => rfl⟩
theorem Sunk.sw {L L' : List (Nat × Nat)} {n i j : Nat} (h : Sunk L L' n) (hi : i < n) (hj : j < n) (hn : n ≤ L.length) : Sunk L (sw L' i j) n := by
  obtain ⟨h1, h2, h3⟩ := h
  refine ⟨(sw_perm (by omega) (by omega)).trans h1, by rw [sw_len, h2], fun k hk => ?_⟩
  rw [gt_sw (by omega) (by omega), if_neg (by omega), if_neg (by omega)]
  exact h3 k hk
/-- Taking the top away. -/
theorem popped {L L' : List (Nat × Nat)} {n : Nat} (hn : L.length = n + 1) (h : Sunk (sw L 0 n) L' n) (hh : HeapN L' n) :
    gt L' n = gt L 0 ∧ HeapN (L'.take n) (L'.take n).length ∧ (gt L 0 :: L'.take n).Perm L := by
  obtain ⟨h1, h2, h3⟩ := h
  rw [sw_len] at h2
  have e := h3 n (Nat.le_refl _)
  rw [gt_sw (by omega) (by omega), if_pos rfl] at e
  refine ⟨e, hh.take (by omega), ?_⟩
  have hp := h1.trans (sw_perm (L := L) (i := 0) (j := n) (by omega) (by omega))
  refine List.Perm.trans ?_ hp
  have hs : L' = L'.take n ++ [gt L' n] := by
    unfold gt
    rw [List.getElem?_eq_getElem (by omega)]
    have := List.take_append_getElem (l := L') (i := n) (by omega)
    simp only [Option.getD_some]
    rw [List.take_append_getElem (by omega), List.take_of_length_le (by omega)]
  rw [← e]
  conv => rhs; rw [hs]
  exact (List.perm_append_comm (l₁ := [gt L' n]) (l₂ := L'.take n))

end Go.Proofs.Ytfeajcgcjpngkaa
