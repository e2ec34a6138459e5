/-
  HOW MANY NODES A TREE HAS, AND HOW DEEP IT IS: tree.Count.
-/
import Derived.Test.YtkmphiakciihfaaDoorTrG
import Derived.Laws.ResultCell
import Derived.RangeFuncNested
import Derived.WalkMore
namespace Go.Proofs.YtkmphiakciihfaaDoor
open Go.RowKit Go.Shelf
attribute [local go_sem] Oper.semAt_some

theorem results_cell_cell {fn : Func} {p q : Tmp} {ty ty' : TypeId} (h : fn.results = #[.cell p ty, .cell q ty']) (tmps : Array Value) (P : Program) (w : World) :
    (results fn tmps).run P w =
      ((asAddr (tmps.getD p undef)).run P w).andThen fun a w₁ => ((loadVar ty a).run P w₁).andThen fun v w₂ => ((asAddr (tmps.getD q undef)).run P w₂).andThen fun a' w₃ => ((loadVar ty' a').run P w₃).andThen fun v' w₄ => .ok (.tuple #[v, v']) w₄ := by
  simp only [results, h]
  simp [Sem.run_bind, Result.andThen]

theorem boxed_oth {W : World} {B : Nat} {t : TypeId} {v : Value} (h : Boxed W B t v) (p : Addr) (u : Value) (hp : B ≠ p.block) : Boxed (W.setCell p u) B t v := (Below.heap_setCell W p u B hp).trans h
theorem KpV.setCell {E : Nat → Prop} (W : World) (p : Addr) (v : Value) (h : E p.block) : KpV E W (W.setCell p v) :=
  ⟨by simp, fun k _ he => Below.heap_setCell W p v k (fun e => he (e ▸ h))⟩

/-- The loop's variable: a place in a block of its own. -/
def PlaceAt {w0 : World} {P : Tr → Prop} (T : TypeId) (B : Nat) (x : Spot w0 P) (q : Nat) (W : World) : Prop := B ≤ q ∧ W.heap[q]? = some (.cells #[.pointer (some ⟨x.b, x.off, none⟩), .int .i64 (x.d : Int)] T (0, 0))
theorem PlaceAt.st {w0 : World} {P : Tr → Prop} {T : TypeId} {B : Nat} {x : Spot w0 P} {q : Nat} {W W' : World} {row : Option Nat} (h : PlaceAt T B x q W) (hg : W.grownBy W' row) (hr : ∀ r, row = some r → ∃ o : Obj, W.heap[r]? = some o ∧ o.isCells = false) : PlaceAt T B x q W' :=
  ⟨h.1, (hg.block q (Array.getElem?_eq_some_iff.1 h.2).1 (fun e => by obtain ⟨o, ho, hc⟩ := hr q e.symm; rw [h.2] at ho; cases ho; cases hc)).trans h.2⟩
theorem PlaceAt.c0 {w0 : World} {P : Tr → Prop} {T : TypeId} {B : Nat} {x : Spot w0 P} {q : Nat} {W : World} (h : PlaceAt T B x q W) : W.cell? ⟨q, 0, none⟩ = some (.pointer (some ⟨x.b, x.off, none⟩)) := by
  rw [cell_of_row W q 0 _ T (0, 0) h.2]; rfl
theorem PlaceAt.c1 {w0 : World} {P : Tr → Prop} {T : TypeId} {B : Nat} {x : Spot w0 P} {q : Nat} {W : World} (h : PlaceAt T B x q W) : W.cell? ⟨q, 1, none⟩ = some (.int .i64 (x.d : Int)) := by
  rw [cell_of_row W q 1 _ T (0, 0) h.2]; rfl

theorem wpIn_cutX {F : Fence} {n : Nat} {P : Program} {c : Code} {Q : Exit → Act → World → Prop} {a : Act} {w : World} (R : World → Prop) (h : ∃ ac : Act, c.wpIn F n P (fun ex a' w' => ex = .normal ∧ a' = ac ∧ R w') a w ∧ ∀ w', R w' → Q .normal ac w') : c.wpIn F n P Q a w := by
  obtain ⟨ac, h, h2⟩ := h
  exact wpIn_mono h fun e a' w' ⟨h1, h3, h4⟩ => by subst h1; subst h3; exact h2 w' h4

/-- Two results' cells, stored again. -/
structure TwoCells (w : World) (A D : Nat) (x y : Int) (W : World) : Prop where
  c : W.cell? ⟨A + 1, 0, none⟩ = some (.int .i64 x)
  d : W.cell? ⟨A + 2, 0, none⟩ = some (.int .i64 y)
  below : Below w.heap.size w W
  def' : W.heap[D]? = some (.deferred (some []))
theorem TwoCells.mk' {w W : World} {A D : Nat} {x y : Int} (hA : w.heap.size = A) (hD : A + 4 ≤ D) (c : W.cell? ⟨A + 1, 0, none⟩ = some (.int .i64 x)) (d : W.cell? ⟨A + 2, 0, none⟩ = some (.int .i64 y)) (hb : Below w.heap.size w W) (hK : W.heap[D]? = some (.deferred (some []))) :
    TwoCells w A D x y ((W.setCell ⟨A + 1, 0, none⟩ (.int .i64 x)).setCell ⟨A + 1 + 1, 0, none⟩ (.int .i64 y)).drew := by
  refine ⟨?_, ?_, ((hb.setCell (p := ⟨A + 1, 0, none⟩) (by show w.heap.size ≤ A + 1; omega) _).setCell (p := ⟨A + 1 + 1, 0, none⟩) (by show w.heap.size ≤ A + 1 + 1; omega) _).drew, ?_⟩
  · show ((W.setCell ⟨A + 1, 0, none⟩ (.int .i64 x)).setCell ⟨A + 1 + 1, 0, none⟩ (.int .i64 y)).cell? ⟨A + 1, 0, none⟩ = _
    rw [World.cell?_setCell_far _ _ _ _ (by show A + 1 + 1 ≠ A + 1; omega)]
    exact World.cell?_setCell_same _ _ _ c
  · show ((W.setCell ⟨A + 1, 0, none⟩ (.int .i64 x)).setCell ⟨A + 1 + 1, 0, none⟩ (.int .i64 y)).cell? ⟨A + 1 + 1, 0, none⟩ = _
    refine World.cell?_setCell_same _ _ _ (u := .int .i64 y) ?_
    rw [World.cell?_setCell_far _ _ _ _ (by show A + 1 ≠ A + 1 + 1; omega)]
    exact d
  · show ((W.setCell ⟨A + 1, 0, none⟩ (.int .i64 x)).setCell ⟨A + 1 + 1, 0, none⟩ (.int .i64 y)).heap[D]? = _
    rw [Below.heap_setCell _ _ _ _ (by show D ≠ A + 1 + 1; omega), Below.heap_setCell _ _ _ _ (by show D ≠ A + 1; omega)]
    exact hK

/-- What the rounds of Count keep. -/
structure CntI {w0 : World} {P : Tr → Prop} (w : World) (A : Nat) (pre : List (Spot w0 P)) (W : World) : Prop where
  n : Boxed W (A + 1) 3 (.int .i64 (pre.length : Nat))
  d : Boxed W (A + 2) 3 (.int .i64 (maxD (pre.map Spot.at) : Nat))
  lt : A + 4 ≤ W.heap.size
  below : Below w.heap.size w W

theorem CntI.st {w0 w : World} {P : Tr → Prop} {A : Nat} (hA : w.heap.size = A) {pre : List (Spot w0 P)} {W W' : World} {row : Option Nat} (h : CntI w A pre W) (hg : W.grownBy W' row) (hr : ∀ r, row = some r → A + 4 ≤ r) : CntI w A pre W' :=
  ⟨h.n.kept hg fun e => by (have := hr _ e.symm; omega), h.d.kept hg fun e => by (have := hr _ e.symm; omega), Nat.le_trans h.lt hg.size, h.below.grown hg h.below.size fun r e => by have := hr r e; omega⟩

theorem CntI.step {w0 w : World} {P : Tr → Prop} {A : Nat} (hA : w.heap.size = A) {pre : List (Spot w0 P)} {W : World} (h : CntI w A pre W) (x : Spot w0 P) (n v : Int) (hn : n = ((pre.length + 1 : Nat) : Int)) (hv : v = ((maxD ((pre ++ [x]).map Spot.at) : Nat) : Int)) :
    CntI w A (pre ++ [x]) ((W.setCell ⟨A + 1, 0, none⟩ (.int .i64 n)).setCell ⟨A + 1 + 1, 0, none⟩ (.int .i64 v)) := by
  subst hn hv
  refine ⟨?_, ?_, by simpa using h.lt, (h.below.setCell (p := ⟨A + 1, 0, none⟩) (by show w.heap.size ≤ A + 1; omega) _).setCell (p := ⟨A + 1 + 1, 0, none⟩) (by show w.heap.size ≤ A + 1 + 1; omega) _⟩
  · rw [List.length_append]
    exact boxed_oth (h.n.set _) _ _ (by show A + 1 ≠ A + 1 + 1; omega)
  · exact (boxed_oth h.d _ _ (by show A + 2 ≠ A + 1; omega)).set _

theorem maxD_snoc (l : List (Nat × Tr)) (x : Nat × Tr) : maxD (l ++ [x]) = max (maxD l) x.1 := by
  rw [maxD_append]
  simp [maxD]

theorem int_max (a b : Nat) : (if (a : Int) < (b : Int) then (b : Int) else (a : Int)) = ((max a b : Nat) : Int) := by split <;> omega

end Go.Proofs.YtkmphiakciihfaaDoor