/-
  SHA-256: written; what a block turns. (Written by wip/gen_shaD.py.)
-/
import Derived.Test.YtmfjhgjplmpecaaDoorShaC
namespace Go.Proofs.YtmfjhgjplmpecaaDoor
open Go.RowKit

/-- The numbers of the rounds, and both first states. -/
def kL : List Nat := [1116352408, 1899447441, 3049323471, 3921009573, 961987163, 1508970993, 2453635748, 2870763221, 3624381080, 310598401, 607225278, 1426881987, 1925078388, 2162078206, 2614888103, 3248222580, 3835390401, 4022224774, 264347078, 604807628, 770255983, 1249150122, 1555081692, 1996064986, 2554220882, 2821834349, 2952996808, 3210313671, 3336571891, 3584528711, 113926993, 338241895, 666307205, 773529912, 1294757372, 1396182291, 1695183700, 1986661051, 2177026350, 2456956037, 2730485921, 2820302411, 3259730800, 3345764771, 3516065817, 3600352804, 4094571909, 275423344, 430227734, 506948616, 659060556, 883997877, 958139571, 1322822218, 1537002063, 1747873779, 1955562222, 2024104815, 2227730452, 2361852424, 2428436474, 2756734187, 3204031479, 3329325298]
def startL : List Nat := [1779033703, 3144134277, 1013904242, 2773480762, 1359893119, 2600822924, 528734635, 1541459225, 3238371032, 914150663, 812702999, 4144912697, 4290775857, 1750603025, 1694076839, 3204075428]
def tabC : Array Value := arrC .u32 (kL ++ startL)
theorem kL_len : kL.length = 64 := rfl
theorem kL_lt : ∀ x ∈ kL, x < 4294967296 := by unfold kL; decide
theorem startL_lt : ∀ x ∈ startL, x < 4294967296 := by unfold startL; decide
theorem tabC_size : tabC.size = 80 := by kernel_rfl
theorem tabC_one : tabC.all (·.oneCell') = true := arrC_one _ _
theorem tab_field (w : World) : (Instr.field 89 (.agg tabC) 0).run Tryd.prog w = .ok (.agg (arrC .u32 kL)) w := by kernel_rfl

set_option maxRecDepth 100000 in
set_option maxHeartbeats 1000000 in
theorem written_any (w : World) : Calls Tryd.prog 46 #[] w fun e w' => e = .returned (.agg tabC) ∧ w' = w.alloc (.cells tabC 89) := by
  have hz : ∀ w, (zeroValue 89).run Tryd.prog w = .ok (.agg (arrC .u32 (List.replicate 80 0))) w := fun _ => by kernel_rfl
  go_enter Tryd.func46, Tryd.ntmps46
  go_wp2_with (first | (refine wpList_build rfl _ _ rfl (by kernel_rfl) ?_) | (refine wpList_store_row rfl _ _ _ rfl w.heap.size tabC rfl (by kernel_rfl) 89 _ (Go.heap_alloc_new w _) (by kernel_rfl) (by kernel_rfl) tabC_one ?_))
  rw [alloc_setRow]
  refine bodyPost_ret (v := .agg tabC) (results_cell_row (ty := 89) (p := 0) (by kernel_rfl) _ _ w.heap.size 89 tabC (0, 0) _ rfl (Go.heap_alloc_new w _) Tryd.underlying89 rfl (by kernel_rfl)) rfl ?_
  exact ⟨rfl, rfl⟩

end Go.Proofs.YtmfjhgjplmpecaaDoor
