/-
  slices.Reverse AT BYTES.
-/
import Derived.Test.YtanimenpkinapaaNat2
namespace Go.Proofs.Ytanimenpkinapaa
open Go.RowKit

def revK (l : List Nat) (k : Nat) : List Nat := (List.range l.length).map fun i => if i < k ∨ l.length ≤ i + k then l[l.length - 1 - i]?.getD 0 else l[i]?.getD 0
theorem revK_length (l : List Nat) (k : Nat) : (revK l k).length = l.length := by simp [revK]
theorem revK_get (l : List Nat) (k i : Nat) (h : i < l.length) : (revK l k)[i]?.getD 0 = if i < k ∨ l.length ≤ i + k then l[l.length - 1 - i]?.getD 0 else l[i]?.getD 0 := by simp [revK, h]
theorem revK_zero (l : List Nat) : revK l 0 = l := by
  apply List.ext_getElem
  · simp [revK]
  · intro i h1 h2
    have h3 : ¬ l.length ≤ i := by omega
    simp [revK, h3, h2]
theorem revK_step (l : List Nat) (k j : Nat) (h : k + j + 1 = l.length) (hkj : k < j) : ((revK l k).set k (l[j]?.getD 0)).set j (l[k]?.getD 0) = revK l (k + 1) := by
  apply List.ext_getElem
  · simp [revK]
  · intro i h1 h2
    rw [revK_length] at h2
    rw [List.getElem_set, List.getElem_set]
    by_cases e : j = i
    · subst e
      rw [if_pos rfl]
      simp only [revK, List.getElem_map, List.getElem_range]
      rw [if_pos (by omega), show l.length - 1 - j = k from by omega]
    · rw [if_neg e]
      by_cases e2 : k = i
      · subst e2
        rw [if_pos rfl]
        simp only [revK, List.getElem_map, List.getElem_range]
        rw [if_pos (by omega), show l.length - 1 - k = j from by omega]
      · rw [if_neg e2]
        simp only [revK, List.getElem_map, List.getElem_range]
        by_cases c : i < k ∨ l.length ≤ i + k
        · rw [if_pos c, if_pos (by omega)]
        · rw [if_neg c, if_neg (by omega)]
theorem revK_end (l : List Nat) (k : Nat) (h : l.length ≤ 2 * k + 1) : revK l k = l.reverse := by
  apply List.ext_getElem
  · simp [revK]
  · intro i h1 h2
    rw [revK_length] at h1
    simp only [revK, List.getElem_map, List.getElem_range, List.getElem_reverse]
    have e : l[l.length - 1 - i]?.getD 0 = l[l.length - 1 - i] := by rw [List.getElem?_eq_getElem (by omega)]; rfl
    by_cases c : i < k ∨ l.length ≤ i + k
    · rw [if_pos c, e]
    · rw [if_neg c, ← e, show l.length - 1 - i = i from by omega]

set_option maxHeartbeats 1000000 in
theorem rev8_any (B : Nat) (a : Option Addr) (n cap : Nat) (l : List Nat) (w : World) (h : OwnQ .u8 5 B w (.slice a n cap) l) :
    Calls Try.prog 49 #[.slice a n cap] w fun e w' => e = .returned (.tuple #[]) ∧ OwnQ .u8 5 B w' (.slice a n cap) l.reverse ∧ (∀ w0, Below B w0 w → Below B w0 w') := by
  obtain ⟨hn, hle, hcm⟩ := h.cap
  unfold maxLen at hcm
  have HN := Lib.hid hn
  clear hn
  have H0 := Lib.hid (show OwnQ .u8 5 B w (.slice a n cap) (revK l 0) by rw [revK_zero]; exact h)
  have HG : Hid (0 < n → ∃ g, a = some ⟨g, 0, none⟩) := fun hp => by
    obtain ⟨g, c, e⟩ := h.succ (by rintro rfl; have := HN.out; simp at this; omega)
    exact ⟨g, by cases e; rfl⟩
  clear h
  go_enter Try.func49, Try.ntmps49
  go_wp2
  go_loopw [2, 3] (fun i j wr => ∃ k : Nat, i = .int .i64 k ∧ ((∃ m : Nat, j = .int .i64 m ∧ k + m + 1 = n) ∨ (j = .int .i64 (-1) ∧ k = 0 ∧ n = 0)) ∧ OwnQ .u8 5 B wr (.slice a n cap) (revK l k) ∧ Hid (∀ w0, Below B w0 w → Below B w0 wr)) (fun i _ _ => n - (intOf i).toNat)
  case atStart =>
    refine ⟨0, rfl, ?_, H0.out, fun w0 h => h⟩
    rcases Nat.eq_zero_or_pos n with rfl | hp
    · exact .inr ⟨rfl, rfl, rfl⟩
    · exact .inl ⟨n - 1, by congr 1; omega, by omega⟩
  case round =>
    obtain ⟨k, rfl, hj, hown, hbel⟩ := hrel
    rcases hj with ⟨m, rfl, hkm⟩ | ⟨rfl, rfl, rfl⟩
    · by_cases hlt : k < m
      · obtain ⟨g, rfl⟩ := HG.out (by omega)
        have hln : n = (revK l k).length := by rw [revK_length]; exact HN.out
        have ck := hown.cellAt hln k (by omega)
        have cm := hown.cellAt hln m (by omega)
        have fk := hown.frozenAt hln k
        have fm := hown.frozenAt hln m
        have hl := HN.out
        rw [revK_get l k k (by omega), if_neg (by omega)] at ck
        rw [revK_get l k m (by omega), if_neg (by omega)] at cm
        have hst := Lib.hid (revK_step l k m (by omega) hlt)
        clear hl
        generalize l[k]?.getD 0 = x at *
        generalize l[m]?.getD 0 = y at *
        have HO := Lib.hid hown
        have HLN := Lib.hid hln
        clear hown hln
        go_wp2
        go_region
        all_goals
          go_wp2
          go_roundw
          case rel =>
            have s1 := HO.out.stored HLN.out k y (y : Int) rfl
            have s2 := s1.1.stored (by rw [List.length_set]; exact HLN.out) m x (x : Int) rfl
            rw [hst.out] at s2
            exact ⟨k + 1, by go_num, .inl ⟨m - 1, by congr 1; omega, by omega⟩, s2.1.drew, fun w0 h0 => (s2.2 w0 (s1.2 w0 (hbel.out w0 h0))).drew⟩
          case measure => simp [intOf]; omega
      · have he := Lib.hid (revK_end l k (by have := HN.out; omega))
        go_wp2
        go_end0
        rw [he.out] at hown
        exact ⟨rfl, hown, hbel.out⟩
    · have he := Lib.hid (revK_end l 0 (by have := HN.out; omega))
      go_wp2
      go_end0
      rw [he.out] at hown
      exact ⟨rfl, hown, hbel.out⟩

end Go.Proofs.Ytanimenpkinapaa
