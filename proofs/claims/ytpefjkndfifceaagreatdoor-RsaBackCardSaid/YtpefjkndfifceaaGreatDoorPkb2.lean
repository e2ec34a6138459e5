/- Part of the proofs: what the functions that the law calls do. -/
import Derived.Test.YtpefjkndfifceaaGreatDoorPkb1
import Derived.WalkMore
set_option linter.unusedVariables false
set_option linter.unusedSimpArgs false
namespace Go.Proofs.YtpefjkndfifceaaGreatDoor
open Go.RowKit Go.Shelf
attribute [local go_sem] Oper.semAt_some
def padN (l : List Nat) (m : Nat) : List Nat := (List.range m).map fun k => l[k]?.getD 0
theorem padN_succ (l : List Nat) (k : Nat) : padN l (k + 1) = padN l k ++ [l[k]?.getD 0] := by rw [padN, List.range_succ, List.map_append]; rfl
theorem padN_length (l : List Nat) (k : Nat) : (padN l k).length = k := by simp [padN]
theorem padN_take (b : Nat) (l : List Nat) (k : Nat) : valB b (padN l k) = valB b (l.take k) := by
 induction k with
 | zero => simp [padN, valB]
 | succ k ih => rw [padN_succ, valB_snoc, padN_length, ih, valB_succ]
theorem padN_val (b : Nat) (l : List Nat) (k : Nat) (h : l.length ≤ k) : valB b (padN l k) = valB b l := by rw [padN_take, List.take_of_length_le h]
theorem valB_ext (b : Nat) (l m : List Nat) (h : ∀ i : Nat, l[i]?.getD 0 = m[i]?.getD 0) : valB b l = valB b m := by
 rw [← padN_val b l (l.length + m.length) (by omega), ← padN_val b m (l.length + m.length) (by omega)]
 unfold padN
 congr 1
 exact List.map_congr_left fun k _ => h k
theorem valB_split (b : Nat) (l : List Nat) (j : Nat) : valB b l = valB b (l.take j) + b ^ j * (l[j]?.getD 0) + b ^ (j + 1) * valB b (l.drop (j + 1)) := by
 rw [← valB_succ]
 by_cases h : j + 1 ≤ l.length
 ·have h1 := valB_append b (l.take (j + 1)) (l.drop (j + 1))
  rw [List.take_append_drop, List.length_take, Nat.min_eq_left h] at h1
  exact h1
 ·rw [List.take_of_length_le (by omega), List.drop_eq_nil_of_le (by omega)]; simp [valB]
theorem cmp_lt {l m : List Nat} (hl : Lim l) (j : Nat) (he : ∀ i, j < i → l[i]?.getD 0 = m[i]?.getD 0) (hlt : l[j]?.getD 0 < m[j]?.getD 0) : val32 l < val32 m := by
 have h1 := valB_split 4294967296 l j
 have h2 := valB_split 4294967296 m j
 have h3 : valB 4294967296 (l.drop (j + 1)) = valB 4294967296 (m.drop (j + 1)) := valB_ext _ _ _ fun i => by
  rw [List.getElem?_drop, List.getElem?_drop]
  exact he _ (by omega)
 have h4 := valB_lt (b := 4294967296) (by decide) (l := l.take j) (fun x hx => hl x (List.mem_of_mem_take hx))
 have h5 : 4294967296 ^ (l.take j).length ≤ 4294967296 ^ j := Nat.pow_le_pow_right (by decide) (List.length_take_le _ _)
 have h6 : 4294967296 ^ j * (l[j]?.getD 0 + 1) ≤ 4294967296 ^ j * (m[j]?.getD 0) := Nat.mul_le_mul_left _ hlt
 rw [Nat.mul_add, Nat.mul_one] at h6
 rw [h3] at h1
 simp only [val32]
 omega
def ordN (x y : Nat) : Int := if x < y then -1 else if y < x then 1 else 0
theorem ordN_lt {x y : Nat} (h : x < y) : ordN x y = -1 := by simp [ordN, h]
theorem ordN_gt {x y : Nat} (h : y < x) : ordN x y = 1 := by simp [ordN, h]; omega
theorem ordN_eq {x y : Nat} (h : x = y) : ordN x y = 0 := by simp [ordN, h]
theorem down_eq {lx ly : List Nat} {hx : Lim lx} {hy : Lim ly} {m k : Nat} (hk : k ≤ m) (hlx : lx.length ≤ m) (hly : ly.length ≤ m) (h : ∀ p ∈ downTo lx ly hx hy m k, p.1.1 = p.1.2) : ∀ i, m ≤ i + k → lx[i]?.getD 0 = ly[i]?.getD 0 := fun i hi => by
 by_cases him : i < m
 ·have := h (twoAt lx ly hx hy i) (List.mem_map.2 ⟨m - 1 - i, by rw [List.mem_range]; omega, by congr 1; omega⟩)
  exact this
 ·rw [List.getElem?_eq_none (by omega), List.getElem?_eq_none (by omega)]
def Broke (pre : List Two) (r : Int) : Prop := ∃ (q : List Two) (x : Two), pre = q ++ [x] ∧ (∀ p ∈ q, p.1.1 = p.1.2) ∧ ((x.1.1 < x.1.2 ∧ r = -1) ∨ (x.1.2 < x.1.1 ∧ r = 1))
theorem broke_ord {lx ly : List Nat} {hx : Lim lx} {hy : Lim ly} {m k : Nat} {r : Int} (hk : k < m) (hlx : lx.length ≤ m) (hly : ly.length ≤ m) (h : Broke (downTo lx ly hx hy m (k + 1)) r) : r = ordN (val32 lx) (val32 ly) := by
 obtain ⟨q, x, he, hq, hr⟩ := h
 rw [downTo_succ lx ly hx hy m k _ rfl] at he
 obtain ⟨e1, e2⟩ := List.append_inj' he rfl
 cases e1
 obtain rfl : twoAt lx ly hx hy (m - 1 - k) = x := by simpa using e2
 have hE := down_eq (by omega) hlx hly hq
 rcases hr with ⟨h1, rfl⟩ | ⟨h1, rfl⟩
 ·exact (ordN_lt (cmp_lt hx (m - 1 - k) (fun i hi => hE i (by omega)) h1)).symm
 ·exact (ordN_gt (cmp_lt hy (m - 1 - k) (fun i hi => (hE i (by omega)).symm) h1)).symm
theorem down_any (w : World) (a a' : Option Addr) (n c n' c' : Nat) : Calls Tryz.prog 136 #[.slice a n c, .slice a' n' c'] w fun e w' => e = .returned (.func (.func 173) #[] #[.pointer (some ⟨w.heap.size, 0, none⟩), .pointer (some ⟨w.heap.size + 1, 0, none⟩)]) ∧ w' = (w.alloc (.cells #[.slice a n c] 44)).alloc (.cells #[.slice a' n' c'] 44) := by
 go_enter Tryz.func136, Tryz.ntmps136
 go_wp2
 go_ret
 exact ⟨rfl, rfl⟩
theorem up_any (w : World) (a a' : Option Addr) (n c n' c' : Nat) : Calls Tryz.prog 110 #[.slice a n c, .slice a' n' c'] w fun e w' => e = .returned (.func (.func 140) #[] #[.pointer (some ⟨w.heap.size, 0, none⟩), .pointer (some ⟨w.heap.size + 1, 0, none⟩)]) ∧ w' = (w.alloc (.cells #[.slice a n c] 44)).alloc (.cells #[.slice a' n' c'] 44) := by
 go_enter Tryz.func110, Tryz.ntmps110
 go_wp2
 go_ret
 exact ⟨rfl, rfl⟩
end Go.Proofs.YtpefjkndfifceaaGreatDoor
