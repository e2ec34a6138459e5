/-
  SHA-256: hashes by computation.
-/
import Derived.Test.YtmfjhgjplmpecaaDoorShaL
namespace Go.Proofs.YtmfjhgjplmpecaaDoor
open Go.RowKit Go.Shelf

/-- Lists of numbers, compared by computation. -/
def eqL : List Nat → List Nat → Bool
  | [], [] => true
  | x :: l, y :: m => Nat.beq x y && eqL l m
  | _, _ => false
theorem eq_of_eqL : ∀ {l m : List Nat}, eqL l m = true → l = m
  | [], [], _ => rfl
  | [], _ :: _, h => by cases h
  | _ :: _, [], h => by cases h
  | x :: l, y :: m, h => by
    simp only [eqL, Bool.and_eq_true] at h
    rw [Nat.eq_of_beq_eq_true h.1, eq_of_eqL h.2]

theorem hash_abc : hashN 256 [97, 98, 99] = [186,120,22,191,143,1,207,234,65,65,64,222,93,174,34,35,176,3,97,163,150,23,122,156,180,16,255,97,242,0,21,173] := eq_of_eqL (by kernel_rfl)

end Go.Proofs.YtmfjhgjplmpecaaDoor
