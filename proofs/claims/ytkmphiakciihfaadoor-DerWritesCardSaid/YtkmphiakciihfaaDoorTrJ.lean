/-
  NODES THAT ARE MADE: bytes.Clone, tree.Prim, tree.Copy, tree.copies, tree.Cons.
-/
import Derived.Test.YtkmphiakciihfaaDoorRows
import Derived.Test.YtkmphiakciihfaaDoorTrK
import Derived.Laws.ResultCell
namespace Go.Proofs.YtkmphiakciihfaaDoor
open Go.RowKit

theorem Tryd.info8t : (Tryd.prog.info? 5).map (fun i => (i.zero, i.size, i.bytes)) = some (some (.int .u8 0), 1, 1) := by kernel_rfl
theorem Tryd.infoNode : (Tryd.prog.info? 25).map (fun i => (i.zero, i.size, i.bytes)) = some (some (.agg #[.int .i64 0, .int .i64 0, .bool false, .slice none 0 0, .slice none 0 0]), 5, 72) := by kernel_rfl

/-- What is handed back reads as l, in memory of the call's own. -/
def RetsQ (B : Nat) (w' : World) (l : List Nat) (e : Ending) : Prop := ∃ v, e = .returned v ∧ OwnQ .u8 5 B w' v l

set_option maxHeartbeats 400000 in
theorem cloneQ_any (a : Option Addr) (len cap : Nat) (l : List Nat) (w : World) (h : Reads .u8 w a len cap l) (hm : len ≤ 17592186044416) :
    Calls Tryd.prog 49 #[.slice a len cap] w fun e w' => RetsQ w.heap.size w' l e ∧ Below w.heap.size w w' := by
  have H := Lib.hid h
  have hl := Lib.hid h.length
  obtain ⟨i0, hi, hz0, hz1, hz2⟩ := info_parts Tryd.info8t
  cases a with
  | none =>
    obtain rfl : cap = 0 := h.nil rfl
    obtain rfl : len = 0 := by have := h.le; omega
    obtain rfl : l = [] := List.eq_nil_of_length_eq_zero h.length
    have he := fun W : World => Lib.run_eql_slice_nil (P := Tryd.prog) W 22 5 none 0 0 0 0 Tryd.underlying22
    go_enter Tryd.func49, Tryd.ntmps49
    go_wp2
    go_ret
    exact ⟨⟨_, rfl, OwnQ.nil _ _ _ _⟩, Below.refl _ _⟩
  | some ad =>
    clear h
    have he := fun W : World => Lib.run_eql_slice_nil (P := Tryd.prog) W 22 5 (some ad) len cap 0 0 Tryd.underlying22
    go_enter Tryd.func49, Tryd.ntmps49
    go_wp2_with (at_builtin; refine wpList_append_q .u8 _ rfl _ _ 22 rfl w.heap.size 5 1 i0 Tryd.underlying22 hi hz0 hz1 hz2 (by decide) _ [] rfl (OwnQ.empty .u8 w _ _ (Nat.le_refl _)) _ _ _ l rfl (H.out.below ((Below.refl _ _).alloc (Nat.le_refl _) _)) (by simp; omega) (by simp) ?_; intro v' w1 hown hgrow)
    go_ret
    exact ⟨⟨_, rfl, hown⟩, hgrow _ ((Below.refl _ _).alloc (Nat.le_refl _) _)⟩

theorem results_cell_one {fn : Func} {p : Tmp} {ty : TypeId} (h : fn.results = #[.cell p ty]) (tmps : Array Value) (P : Program) (w : World) :
    (results fn tmps).run P w = ((asAddr (tmps.getD p undef)).run P w).andThen fun a w₁ => ((loadVar ty a).run P w₁).andThen fun v w₂ => .ok v w₂ := by
  simp only [results, h]
  simp [Sem.run_bind, Result.andThen]
  cases (asAddr (tmps[p]?.getD undef)).run P w with
  | halt h w => rfl
  | ok a w => dsimp only; cases (loadVar ty a).run P w <;> rfl

/-- A node is stored at the head of a block. -/
def putNode (w : World) (g : Nat) (V : NV) : World :=
  ((((w.setCell ⟨g, 0, none⟩ (.int .i64 V.cls)).setCell ⟨g, 1, none⟩ (.int .i64 V.tag)).setCell ⟨g, 2, none⟩ (.bool V.cons)).setCell ⟨g, 3, none⟩ (.slice V.ba V.bl V.bc)).setCell ⟨g, 4, none⟩ (.slice V.ka V.kl V.kc)

theorem cell_off (w : World) (g i j : Nat) (v : Value) (h : i ≠ j) : (w.setCell ⟨g, i, none⟩ v).cell? ⟨g, j, none⟩ = w.cell? ⟨g, j, none⟩ :=
  World.cell?_setCell_other w _ _ v (fun e => h (by injection e))

theorem putNode_cells (w : World) (g : Nat) (V : NV) {u0 u1 u2 u3 u4 : Value} (h0 : w.cell? ⟨g, 0, none⟩ = some u0) (h1 : w.cell? ⟨g, 1, none⟩ = some u1) (h2 : w.cell? ⟨g, 2, none⟩ = some u2) (h3 : w.cell? ⟨g, 3, none⟩ = some u3) (h4 : w.cell? ⟨g, 4, none⟩ = some u4) :
    CellsAt (putNode w g V) g 0 V := by
  unfold putNode
  constructor
  · rw [cell_off _ _ _ _ _ (by decide), cell_off _ _ _ _ _ (by decide), cell_off _ _ _ _ _ (by decide), cell_off _ _ _ _ _ (by decide)]
    exact World.cell?_setCell_same _ _ _ h0
  · rw [cell_off _ _ _ _ _ (by decide), cell_off _ _ _ _ _ (by decide), cell_off _ _ _ _ _ (by decide)]
    refine World.cell?_setCell_same _ _ _ (u := u1) ?_
    rw [cell_off _ _ _ _ _ (by decide)]
    exact h1
  · rw [cell_off _ _ _ _ _ (by decide), cell_off _ _ _ _ _ (by decide)]
    refine World.cell?_setCell_same _ _ _ (u := u2) ?_
    rw [cell_off _ _ _ _ _ (by decide), cell_off _ _ _ _ _ (by decide)]
    exact h2
  · rw [cell_off _ _ _ _ _ (by decide)]
    refine World.cell?_setCell_same _ _ _ (u := u3) ?_
    rw [cell_off _ _ _ _ _ (by decide), cell_off _ _ _ _ _ (by decide), cell_off _ _ _ _ _ (by decide)]
    exact h3
  · refine World.cell?_setCell_same _ _ _ (u := u4) ?_
    rw [cell_off _ _ _ _ _ (by decide), cell_off _ _ _ _ _ (by decide), cell_off _ _ _ _ _ (by decide), cell_off _ _ _ _ _ (by decide)]
    exact h4

theorem putNode_heap (w : World) (g : Nat) (V : NV) (k : Nat) (h : k ≠ g) : (putNode w g V).heap[k]? = w.heap[k]? := by
  unfold putNode
  rw [Below.heap_setCell _ _ _ _ h, Below.heap_setCell _ _ _ _ h, Below.heap_setCell _ _ _ _ h, Below.heap_setCell _ _ _ _ h, Below.heap_setCell _ _ _ _ h]

theorem putNode_size (w : World) (g : Nat) (V : NV) : (putNode w g V).heap.size = w.heap.size := by
  unfold putNode
  simp

theorem putNode_below {B g : Nat} {w0 w : World} (h : Below B w0 w) (hg : B ≤ g) (V : NV) : Below B w0 (putNode w g V) :=
  ((((h.setCell (p := ⟨g, 0, none⟩) hg _).setCell (p := ⟨g, 1, none⟩) hg _).setCell (p := ⟨g, 2, none⟩) hg _).setCell (p := ⟨g, 3, none⟩) hg _).setCell (p := ⟨g, 4, none⟩) hg _

/-- A node is handed back, in memory of the call's own. -/
def RetsNode (B : Nat) (w' : World) (T : Tr) (e : Ending) : Prop := ∃ V : NV, e = .returned V.agg ∧ MineT 5 25 w' (fun g => B ≤ g) V T

set_option maxHeartbeats 1000000 in
theorem prim_any (c t : Int) (a : Option Addr) (len cap : Nat) (l : List Nat) (w : World) (h : Reads .u8 w a len cap l) (hx : ∀ x ∈ l, x < 256) (hm : len ≤ 17592186044416) :
    Calls Tryd.prog 25 #[.int .i64 c, .int .i64 t, .slice a len cap] w fun e w' => RetsNode w.heap.size w' (.mk c t false l []) e ∧ Below w.heap.size w w' := by
  have hb0 : Below w.heap.size w (w.alloc (.cells #[.int .i64 0, .int .i64 0, .bool false, .slice none 0 0, .slice none 0 0] 25)) := (Below.refl _ _).alloc (Nat.le_refl _) _
  have HC := Lib.hid (cloneQ_any a len cap l _ (h.below hb0) hm)
  have HB0 := Lib.hid hb0
  have HX := Lib.hid hx
  clear h hb0 hx
  go_enter Tryd.func25, Tryd.ntmps25
  go_wp2_with fail
  refine HC.out.mono ?_
  rintro e w1 ⟨⟨v, rfl, ho⟩, hb⟩
  obtain ⟨a', c', rfl, -, -⟩ := ho.form
  have HO := Lib.hid ho
  have HB := Lib.hid hb
  have z0 : w1.cell? ⟨w.heap.size, 0, none⟩ = some (.int .i64 0) := (hb.cell (p := ⟨w.heap.size, 0, none⟩) (by simp)).trans (by simp)
  have z1 : w1.cell? ⟨w.heap.size, 1, none⟩ = some (.int .i64 0) := (hb.cell (p := ⟨w.heap.size, 1, none⟩) (by simp)).trans (by simp)
  have z2 : w1.cell? ⟨w.heap.size, 2, none⟩ = some (.bool false) := (hb.cell (p := ⟨w.heap.size, 2, none⟩) (by simp)).trans (by simp)
  have z3 : w1.cell? ⟨w.heap.size, 3, none⟩ = some (.slice none 0 0) := (hb.cell (p := ⟨w.heap.size, 3, none⟩) (by simp)).trans (by simp)
  have z4 : w1.cell? ⟨w.heap.size, 4, none⟩ = some (.slice none 0 0) := (hb.cell (p := ⟨w.heap.size, 4, none⟩) (by simp)).trans (by simp)
  have f0 : w1.frozen? ⟨w.heap.size, 0, none⟩ = false := (hb.frozen (p := ⟨w.heap.size, 0, none⟩) (by simp)).trans (by simp)
  have f1 : w1.frozen? ⟨w.heap.size, 1, none⟩ = false := (hb.frozen (p := ⟨w.heap.size, 1, none⟩) (by simp)).trans (by simp)
  have f2 : w1.frozen? ⟨w.heap.size, 2, none⟩ = false := (hb.frozen (p := ⟨w.heap.size, 2, none⟩) (by simp)).trans (by simp)
  have f3 : w1.frozen? ⟨w.heap.size, 3, none⟩ = false := (hb.frozen (p := ⟨w.heap.size, 3, none⟩) (by simp)).trans (by simp)
  have f4 : w1.frozen? ⟨w.heap.size, 4, none⟩ = false := (hb.frozen (p := ⟨w.heap.size, 4, none⟩) (by simp)).trans (by simp)
  clear ho hb
  go_wp2_with fail
  obtain ⟨V, hV⟩ : ∃ V : NV, V = ⟨c, t, false, a', l.length, c', none, 0, 0⟩ := ⟨_, rfl⟩
  have hcs := putNode_cells w1 w.heap.size V z0 z1 z2 z3 z4
  have HP := Lib.hid (show RetsNode w.heap.size (putNode w1 w.heap.size V) (.mk c t false l []) (.returned V.agg) ∧ Below w.heap.size w (putNode w1 w.heap.size V) by
    refine ⟨⟨V, rfl, ?_⟩, putNode_below (HB0.out.trans (HB.out.mono (by simp))) (Nat.le_refl _) V⟩
    have hown0 : OwnQ .u8 5 _ (putNode w1 w.heap.size V) (.slice a' l.length c') l := rowSame HO.out fun g hg => putNode_heap w1 w.heap.size V g (by have := (World.ownsRow.lt HO.out g hg).1; simp at this; omega)
    have hown := OwnQ.mono hown0 (Nat.zero_le _)
    have hS : ∀ g, (Value.slice a' l.length c').ownBlock = some g → w.heap.size ≤ g := fun g hg => by have := (World.ownsRow.lt HO.out g hg).1; simp at this; omega
    subst hV
    have hno : ∀ g : Nat, False → w.heap.size ≤ g := fun g hf => hf.elim
    exact MineT.of (S1 := fun g => w.heap.size ≤ g) (S2 := fun _ => False) rfl rfl rfl hown hS HX.out (MineK.nil _ _ _ _) (fun g h1 hf => hf) (fun g hg => hg) hno)
  subst hV
  have d0 := hcs.c0
  have d1 := hcs.c1
  have d2 := hcs.c2
  have d3 := hcs.c3
  have d4 := hcs.c4
  dsimp only at d0 d1 d2 d3 d4
  change bodyPost _ _ _ _ _ (putNode w1 w.heap.size ⟨c, t, false, a', l.length, c', none, 0, 0⟩)
  generalize putNode w1 w.heap.size ⟨c, t, false, a', l.length, c', none, 0, 0⟩ = w2 at *
  clear hcs z0 z1 z2 z3 z4 f0 f1 f2 f3 f4
  refine bodyPost_ret (v := .agg #[.int .i64 c, .int .i64 t, .bool false, .slice a' l.length c', .slice none 0 0]) ?_ rfl HP.out
  rw [results_cell_one rfl]
  go_simp

end Go.Proofs.YtkmphiakciihfaaDoor
