/-
  SHA-512: scheduled, an iterator (its maker).
-/
import Derived.Test.YtpfdehjllnhllaaShbG
import Derived.Test.YtpfdehjllnhllaaSeqU
namespace Go.Proofs.Ytpfdehjllnhllaa
open Go.RowKit

theorem idx128 (l : List Nat) (i : Nat) (hi : i < 128) (hl : l.length = 128) (w : World) : (Instr.index 39 (.agg (arrC .u8 l)) (.int .i64 (i : Int))).run Try.prog w = .ok (.int .u8 ((l[i]?.getD 0 : Nat) : Int)) w := by
  have hu : ∀ w, (underlying 39).run Try.prog w = .ok (.array 128 5) w := fun _ => by kernel_rfl
  have hs : ∀ w, (sizeOf 5).run Try.prog w = .ok 1 w := fun _ => by kernel_rfl
  have ha : ∀ w, (isAgg 5).run Try.prog w = .ok false w := fun _ => by kernel_rfl
  have hg := arrC_get .u8 l i (by omega)
  have h1 : 0 ≤ (i : Int) ∧ (i : Int) < ((128 : Nat) : Int) := by omega
  unfold Instr.index
  simp only [asIntOf, Sem.run_bind, Sem.run_pure, Result.andThen_ok, hu, if_pos h1, hs, Int.toNat_natCast, Nat.mul_one, part, ha]
  rw [hg]
  rfl
theorem scheduled_any (l : List Nat) (w : World) : Calls Try.prog 35 #[.agg (arrC .u8 l)] w fun e w' => e = .returned (.func (.func 37) #[] #[.pointer (some ⟨w.heap.size, 0, none⟩)]) ∧ w' = w.alloc (.cells (arrC .u8 l) 39) := by
  go_enter Try.func35, Try.ntmps35
  go_wp2
  go_ret
  exact ⟨rfl, rfl⟩

end Go.Proofs.Ytpfdehjllnhllaa
