/-
  SHA-256: Of; the laws' hash and alive.
-/
import Derived.Test.YtmfjhgjplmpecaaDoorShaP
import Derived.Lib.ConvBytes
namespace Go.Proofs.YtmfjhgjplmpecaaDoor
open Go.RowKit Go.Shelf
set_option maxRecDepth 100000

theorem strOf_size3 (a : List UInt8) : (strOf a).size = a.length := by simp [strOf, ByteArray.size]
theorem bytes_below (w : World) (e : TypeId) (s : ByteArray) : Below w.heap.size w (Lib.bytesWorld w e s) := ⟨rfl, rfl, rfl, by rw [Lib.bytesWorld_size]; omega, fun j hj => Lib.bytesWorld_at_old w e s j hj⟩
theorem bytes_reads (w : World) (e : TypeId) (l : List Nat) (hl : Byt l) (hn : l.length < 1000) : Reads .u8 (Lib.bytesWorld w e (strOf (u8s l))) (some ⟨w.heap.size, 0, none⟩) l.length (grownCap w l.length 0 e) l := by
  refine ⟨rfl, grownCap_ge w l.length 0 e, grownCap_le_maxLen w l.length 0 e (by unfold maxLen; omega), (fun h => by cases h), fun _ => ⟨w.heap.size, 0, rfl, by rw [Lib.bytesWorld_size]; omega, fun i hi => ?_⟩⟩
  rw [Nat.zero_add, Lib.bytesWorld_cell w e _ i (by rw [strOf_size3]; simpa [u8s] using hi)]
  have := u8s_get l hl i
  rw [← this]
  simp [strOf, List.getD]
theorem strOf_beq {A B : List UInt8} (h : A = B) : ((strOf A).toList == (strOf B).toList) = true := by rw [h]; simp
end Go.Proofs.YtmfjhgjplmpecaaDoor