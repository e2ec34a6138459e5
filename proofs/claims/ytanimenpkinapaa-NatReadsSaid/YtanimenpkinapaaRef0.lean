/-
  NUMBERS BY THEIR DIGITS, FOR THE REFERENCE. No walk stands here.
-/
import Derived.Test.YtanimenpkinapaaNatMath
namespace Go.Proofs.Ytanimenpkinapaa
open Go.RowKit

namespace rf

abbrev Byt (l : List Nat) : Prop := ∀ x ∈ l, x < 256

theorem get_lt {b : Nat} {l : List Nat} (hb : 0 < b) (h : ∀ x ∈ l, x < b) (k : Nat) : l[k]?.getD 0 < b := by
  by_cases hk : k < l.length
  · rw [List.getElem?_eq_getElem hk]; exact h _ (List.getElem_mem _)
  · rw [List.getElem?_eq_none (by omega)]; exact hb

theorem valB_succ {b : Nat} (l : List Nat) (k : Nat) : valB b (l.take (k + 1)) = valB b (l.take k) + b ^ k * (l[k]?.getD 0) := by
  by_cases hk : k < l.length
  · rw [take_snocN l k hk, valB_snoc, List.length_take, Nat.min_eq_left (by omega)]
  · rw [List.take_of_length_le (by omega), List.take_of_length_le (by omega), List.getElem?_eq_none (by omega)]; simp

theorem pow32 (t : Nat) : (4294967296 : Nat) ^ t = 256 ^ (4 * t) := by rw [Nat.pow_mul]

theorem bare_len_eq {X : List Nat} (h : (bareN X).length = X.length) : bareN X = X := by
  have := bareN_prefix X
  rw [h, List.take_length] at this
  exact this

theorem bareN_nat {l : List Nat} (h : Lim l) : bareN l = nat32 (val32 l) := bareN_eq (by decide) h

theorem read_end (X m : List Nat) (v : Nat) (hX : Lim X) (hm : m = natB 256 v) (hL : X.length = (m.length + 3) / 4) (hv : val32 X = v) : X = nat32 v := by
  have h1 := bareN_nat hX
  rw [hv] at h1
  have h2 : ∀ k, (nat32 v).length ≤ k ↔ m.length ≤ 4 * k := fun k => by
    rw [hm, natB_length (by decide), natB_length (by decide), pow32]
  have h3 : (bareN X).length = X.length := by
    rw [h1, hL]
    have a := (h2 ((m.length + 3) / 4)).2 (by omega)
    have b := (h2 (nat32 v).length).1 (Nat.le_refl _)
    omega
  rw [← h1, bare_len_eq h3]

def four (d : Nat) : List Nat := [d % 256, d / 256 % 256, d / 65536 % 256, d / 16777216 % 256]
def fours (l : List Nat) : List Nat := l.flatMap four

theorem fours_snoc (l : List Nat) (k : Nat) (hk : k < l.length) : fours (l.take (k + 1)) = fours (l.take k) ++ four (l[k]?.getD 0) := by
  rw [take_snocN l k hk, fours, List.flatMap_append, List.flatMap_singleton]; rfl

theorem fours_val {l : List Nat} (h : Lim l) : valB 256 (fours l) = val32 l := by
  induction l with
  | nil => rfl
  | cons d t ih =>
    have h1 := ih (fun x hx => h x (List.mem_cons_of_mem _ hx))
    have h2 := h d List.mem_cons_self
    rw [fours, List.flatMap_cons, valB_append, show List.flatMap four t = fours t from rfl, h1]
    simp only [four, valB, List.length_cons, List.length_nil, val32]
    omega

theorem fours_byt (l : List Nat) : Byt (fours l) := by
  intro x hx
  obtain ⟨d, _, hd⟩ := List.mem_flatMap.1 hx
  simp only [four, List.mem_cons, List.not_mem_nil, or_false] at hd
  omega

theorem fours_len (l : List Nat) : (fours l).length = 4 * l.length := by
  induction l with
  | nil => rfl
  | cons d t ih => rw [fours, List.flatMap_cons, List.length_append, show List.flatMap four t = fours t from rfl, ih]; simp [four]; omega

theorem four_take (d j : Nat) (h : j < 4) : (four d).take (j + 1) = (four d).take j ++ [d / 256 ^ j % 256] := by
  match j, h with
  | 0, _ => simp [four]
  | 1, _ => simp [four]
  | 2, _ => simp [four]
  | 3, _ => simp [four]

/-- A limb out of four digits. -/
def limbAt (m : List Nat) (t : Nat) : Nat := (m[4 * t]?.getD 0) + 256 * (m[4 * t + 1]?.getD 0) + 65536 * (m[4 * t + 2]?.getD 0) + 16777216 * (m[4 * t + 3]?.getD 0)
def limbsOf (m : List Nat) (k : Nat) : List Nat := (List.range k).map (limbAt m)
theorem limbsOf_succ (m : List Nat) (k : Nat) : limbsOf m (k + 1) = limbsOf m k ++ [limbAt m k] := by rw [limbsOf, List.range_succ, List.map_append]; rfl
theorem limbsOf_length (m : List Nat) (k : Nat) : (limbsOf m k).length = k := by simp [limbsOf]
theorem limbAt_lt {m : List Nat} (h : Byt m) (t : Nat) : limbAt m t < 4294967296 := by
  have h0 := get_lt (by decide) h (4 * t)
  have h1 := get_lt (by decide) h (4 * t + 1)
  have h2 := get_lt (by decide) h (4 * t + 2)
  have h3 := get_lt (by decide) h (4 * t + 3)
  unfold limbAt
  omega
theorem limbsOf_lim {m : List Nat} (h : Byt m) (k : Nat) : Lim (limbsOf m k) := fun x hx => by
  obtain ⟨t, _, rfl⟩ := List.mem_map.1 hx
  exact limbAt_lt h t
theorem limbsOf_val (m : List Nat) (k : Nat) : val32 (limbsOf m k) = valB 256 (m.take (4 * k)) := by
  induction k with
  | zero => simp [limbsOf, valB]
  | succ k ih =>
    have e := limbsOf_succ m k
    simp only [val32] at ih ⊢
    rw [e, valB_snoc, limbsOf_length, ih, show 4 * (k + 1) = 4 * k + 1 + 1 + 1 + 1 by omega, valB_succ, valB_succ, valB_succ, valB_succ, pow32]
    simp only [limbAt, Nat.pow_succ]
    generalize 256 ^ (4 * k) = B
    generalize m[4 * k]?.getD 0 = a
    generalize m[4 * k + 1]?.getD 0 = b
    generalize m[4 * k + 1 + 1]?.getD 0 = c
    generalize m[4 * k + 1 + 1 + 1]?.getD 0 = d
    simp only [Nat.mul_add, Nat.mul_assoc]
    have e1 : B * (256 * b) = B * 256 * b := by rw [Nat.mul_assoc]
    have e2 : B * (65536 * c) = B * (256 * (256 * c)) := by rw [show 65536 * c = 256 * (256 * c) by omega]
    have e3 : B * (16777216 * d) = B * (256 * (256 * (256 * d))) := by rw [show 16777216 * d = 256 * (256 * (256 * d)) by omega]
    omega

theorem limbs_end {m : List Nat} (v : Nat) (hm : m = natB 256 v) : limbsOf m ((m.length + 3) / 4) = nat32 v := by
  have hb : Byt m := by rw [hm]; exact natB_digit (by decide) v
  refine read_end _ m v (limbsOf_lim hb _) hm (limbsOf_length _ _) ?_
  rw [limbsOf_val, List.take_of_length_le (by omega), hm, natB_val (by decide)]

end rf

end Go.Proofs.Ytanimenpkinapaa
