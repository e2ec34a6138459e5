/-
  HOUR: read.
-/
import Derived.Test.YtholkbgkkfndhaaDoorHourE
import Derived.WalkMore
import Derived.Maps.OwnIn
import Derived.OneCell
namespace Go.Proofs.YtholkbgkkfndhaaDoor
open Go.RowKit Go.Shelf
attribute [local go_sem] Oper.semAt_some
set_option maxRecDepth 100000

theorem infoI : (Tryd.prog.info? 3).map (fun i => (i.zero, i.size, i.bytes)) = some (some (.int .i64 0), 1, 8) := by kernel_rfl
theorem cell_oneH (w : World) (x : Value) (t : TypeId) (n : Nat) (h : n = w.heap.size) : ∀ j u, [x][j]? = some u → (w.alloc (.cells #[x] t)).cell? ((⟨n, 0, none⟩ : Addr).add j) = some u := by subst h; exact cell_one_new w x t
/-- An append: what else stands. -/
theorem appendedV {E n₀ k : Nat} {W w1 : World} {v : Value} {xs : List Value} {tmp : Obj} (hrow : W.ownsRow n₀ E 1 v k xs) (hn₀ : n₀ ≤ W.heap.size) (hgrow : (W.alloc tmp).grownBy w1 v.ownBlock) :
    KeepsOthers W w1 ∧ (∀ w0, Below n₀ w0 W → Below n₀ w0 w1) ∧ (∀ b t u, Boxed W b t u → v.ownBlock ≠ some b → Boxed w1 b t u) := by
  refine ⟨?_, ?_, fun b t u hb hne => (hb.alloc tmp).kept hgrow (fun e => hne e.symm)⟩
  · refine (KeepsOthers.alloc W tmp).trans (KeepsOthers.of_grownBy hgrow fun j o ej hj => ?_)
    rcases (World.ownsRow.alloc hrow tmp).2 with ⟨rfl, _⟩ | ⟨g, cap, cur, rfl, _, hgb, _⟩
    · simp [Value.ownBlock] at ej
    · obtain rfl : g = j := by simpa [Value.ownBlock] using ej
      rw [hgb] at hj; cases hj; rfl
  · intro w0 h0
    refine (h0.alloc hn₀ tmp).grown hgrow (by simp; omega) fun j ej => ?_
    rcases hrow.2 with ⟨rfl, _⟩ | ⟨g, cap, cur, rfl, hb, _, _⟩
    · simp [Value.ownBlock] at ej
    · obtain rfl : g = j := by simpa [Value.ownBlock] using ej
      exact hb

end Go.Proofs.YtholkbgkkfndhaaDoor
