/-
  SHA-512: scheduled, an iterator (its maker).
-/
import Derived.Test.YtmfjhgjplmpecaaDoorQbG
import Derived.Test.YtmfjhgjplmpecaaDoorSeqU
namespace Go.Proofs.YtmfjhgjplmpecaaDoor.L5
open Go.RowKit

theorem idx128 (l : List Nat) (i : Nat) (hi : i < 128) (hl : l.length = 128) (w : World) : (Instr.index 95 (.agg (arrC .u8 l)) (.int .i64 (i : Int))).run Tryd.prog w = .ok (.int .u8 ((l[i]?.getD 0 : Nat) : Int)) w := by
  have hu : ∀ w, (underlying 95).run Tryd.prog w = .ok (.array 128 5) w := fun _ => by kernel_rfl
  have hs : ∀ w, (sizeOf 5).run Tryd.prog w = .ok 1 w := fun _ => by kernel_rfl
  have ha : ∀ w, (isAgg 5).run Tryd.prog w = .ok false w := fun _ => by kernel_rfl
  have hg := arrC_get .u8 l i (by omega)
  have h1 : 0 ≤ (i : Int) ∧ (i : Int) < ((128 : Nat) : Int) := by omega
  unfold Instr.index
  simp only [asIntOf, Sem.run_bind, Sem.run_pure, Result.andThen_ok, hu, if_pos h1, hs, Int.toNat_natCast, Nat.mul_one, part, ha]
  rw [hg]
  rfl
theorem scheduled_any (l : List Nat) (w : World) : Calls Tryd.prog 67 #[.agg (arrC .u8 l)] w fun e w' => e = .returned (.func (.func 70) #[] #[.pointer (some ⟨w.heap.size, 0, none⟩)]) ∧ w' = w.alloc (.cells (arrC .u8 l) 95) := by
  go_enter Tryd.func67, Tryd.ntmps67
  go_wp2
  go_ret
  exact ⟨rfl, rfl⟩

end Go.Proofs.YtmfjhgjplmpecaaDoor.L5
