/-
  slices.Reverse AT BYTES.
-/
import Derived.Test.YtfeajcgcjpngkaaNat2
namespace Go.Proofs.Ytfeajcgcjpngkaa
open Go.RowKit

def revK (l : List Nat) (k : Nat) : List Nat := (List.range l.length).map fun i => if i < k ∨ l.length ≤ i + k then l[l.length - 1 - i]?.getD 0 else l[i]?.getD 0
theorem revK_length (l : List Nat) (k : Nat) : (revK l k).length = l.length := by simp [revK]
theorem revK_get (l : List Nat) (k i : Nat) (h : i < l.length) : (revK l k)[i]?.getD 0 = if i < k ∨ l.length ≤ i + k then l[l.length - 1 - i]?.getD 0 else l[i]?.getD 0 := by simp [revK, h]
theorem revK_zero (l : List Nat) : revK l 0 = l := by
  apply List.ext_getElem
  · simp [revK]
  · intro i h1 h2
    have h3 : ¬ l.length ≤ i := by omega
    simp [revK, h3, h2]
theorem revK_step (l : List Nat) (k j : Nat) (h : k + j + 1 = l.length) (hkj : k < j) : ((revK l k).set k (l[j]?.getD 0)).set j (l[k]?.getD 0) = revK l (k + 1) := by
  apply List.ext_getElem
  · simp [revK]
  · intro i h1 h2
    rw [revK_length] at h2
    rw [List.getElem_set, List.getElem_set]
    by_cases e : j = i
    · subst e
      rw [if_pos rfl]
      simp only [revK, List.getElem_map, List.getElem_range]
      rw [if_pos (by omega), show l.length - 1 - j = k from by omega]
    · rw [if_neg e]
      by_cases e2 : k = i
      · subst e2
        rw [if_pos rfl]
        simp only [revK, List.getElem_map, List.getElem_range]
        rw [if_pos (by omega), show l.length - 1 - k = j from by omega]
      · rw [if_neg e2]
        simp only [revK, List.getElem_map, List.getElem_range]
        by_cases c : i < k ∨ l.length ≤ i + k
        · rw [if_pos c, if_pos (by omega)]
        · rw [if_neg c, if_neg (by omega)]
theorem revK_end (l : List Nat) (k : Nat) (h : l.length ≤ 2 * k + 1) : revK l k = l.reverse := by
  apply List.ext_getElem
  · simp [revK]
  · intro i h1 h2
    rw [revK_length] at h1
    simp only [revK, List.getElem_map, List.getElem_range, List.getElem_reverse]
    have e : l[l.length - 1 - i]?.getD 0 = l[l.length - 1 - i] := by rw [List.getElem?_eq_getElem (by omega)]; rfl
    by_cases c : i < k ∨ l.length ≤ i + k
    · rw [if_pos c, e]
    · rw [if_neg c, ← e, show l.length - 1 - i = i from by omega]

end Go.Proofs.Ytfeajcgcjpngkaa