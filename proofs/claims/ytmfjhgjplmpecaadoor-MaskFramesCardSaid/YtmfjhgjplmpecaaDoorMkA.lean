/-
  Layer 8: the table of hashes, as it is laid and as it is read.
-/
import Derived.Test.YtmfjhgjplmpecaaDoorNum
import Derived.Test.YtmfjhgjplmpecaaDoorRows
import Derived.OpenShut
import Derived.Below
namespace Go.Proofs.YtmfjhgjplmpecaaDoor
open Go.RowKit

/-- A hash's size, mark and name. -/
def mSize : Nat → Nat
  | 1 => 28
  | 2 => 32
  | 3 => 48
  | 4 => 64
  | _ => 0
def mMark : Nat → Nat
  | 1 => 4
  | 2 => 1
  | 3 => 2
  | 4 => 3
  | _ => 0
def mName : Nat → List UInt8
  | 1 => [115, 104, 97, 50, 50, 52]
  | 2 => [115, 104, 97, 50, 53, 54]
  | 3 => [115, 104, 97, 51, 56, 52]
  | 4 => [115, 104, 97, 53, 49, 50]
  | _ => []
/-- What the table reads as. -/
def kindL : List (List UInt8 × Int × Int) := [([115, 104, 97, 50, 50, 52], 28, 4), ([115, 104, 97, 50, 53, 54], 32, 1), ([115, 104, 97, 51, 56, 52], 48, 2), ([115, 104, 97, 53, 49, 50], 64, 3)]
def kindC : List Value := [.string (strOf [115, 104, 97, 50, 50, 52]), .int .i64 28, .int .u8 4, .string (strOf [115, 104, 97, 50, 53, 54]), .int .i64 32, .int .u8 1, .string (strOf [115, 104, 97, 51, 56, 52]), .int .i64 48, .int .u8 2, .string (strOf [115, 104, 97, 53, 49, 50]), .int .i64 64, .int .u8 3]
/-- The table stands. -/
def Kinds (w : World) : Prop := ∀ i, i < 12 → w.cell? ⟨0, i, none⟩ = kindC[i]?
theorem Kinds.lt {w : World} (h : Kinds w) : 0 < w.heap.size := World.block_lt_of_cell? w ⟨0, 0, none⟩ (h 0 (by decide))
theorem Kinds.below {w w' : World} (h : Kinds w) (hb : Below w.heap.size w w') : Kinds w' := fun i hi => (hb.cell (p := ⟨0, i, none⟩) h.lt).trans (h i hi)
theorem Kinds.grown {w w' : World} {row : Option Nat} (h : Kinds w) (hg : w.grownBy w' row) (hr : ∀ r, row = some r → r ≠ 0) : Kinds w' := fun i hi =>
  (World.cell?_of_block (a := ⟨0, i, none⟩) (hg.block _ h.lt (fun e => hr _ e.symm rfl))).trans (h i hi)
theorem Kinds.drew {w : World} (h : Kinds w) : Kinds w.drew := h.below (Below.refl _ _).drew

section
variable {H : Type} {enc : TypeId × Value → H} {w : World} {base : Nat} {sp : Nat → Bool} {held : Bool}

theorem at_one {cs : List Value} {k : Nat} {v : Value} (h : (cs.drop k).take 1 = [v]) : cs[k]? = some v := by
  have := congrArg (·[0]?) h
  simpa [List.getElem?_take, List.getElem?_drop] using this
set_option maxRecDepth 100000 in
theorem kind_cells {fuel : Nat} {cs : List Value} {x : List UInt8 × Int × Int} {p : List MemPlace} (h : DataW.trod enc Tryd.prog w base sp held fuel 54 cs = some (.agg [.lit (.string x.1), .lit (.int .i64 x.2.1), .lit (.int .u8 x.2.2)], p)) :
    cs = [.string (strOf x.1), .int .i64 x.2.1, .int .u8 x.2.2] := by
  obtain ⟨xs, n, rfl, hx, hl, hxl, hall⟩ := DataW.trod_struct Tryd.underlying54 h
  have c3 : Tryd.prog.cellsOf 54 = 3 := by kernel_rfl
  have cs1 : Tryd.prog.cellsOf 9 = 1 := by kernel_rfl
  have ci1 : Tryd.prog.cellsOf 3 = 1 := by kernel_rfl
  have cu1 : Tryd.prog.cellsOf 5 = 1 := by kernel_rfl
  rw [c3] at hl
  have hx3 : xs.map (·.1) = [.lit (.string x.1), .lit (.int .i64 x.2.1), .lit (.int .u8 x.2.2)] := by
    have := congrArg Prod.fst hx
    simpa using this.symm
  obtain ⟨x0, x1, x2, rfl⟩ : ∃ x0 x1 x2, xs = [x0, x1, x2] := by
    match xs, hx3 with
    | [x0, x1, x2], _ => exact ⟨x0, x1, x2, rfl⟩
  simp only [List.map_cons, List.map_nil, List.cons.injEq, and_true] at hx3
  obtain ⟨e0, e1, e2⟩ := hx3
  have f0 := hall 0 _ rfl
  have f1 := hall 1 _ rfl
  have f2 := hall 2 _ rfl
  change DataW.trod _ _ _ _ _ _ _ 9 ((cs.drop 0).take (Tryd.prog.cellsOf 9)) = some x0 at f0
  change DataW.trod _ _ _ _ _ _ _ 3 ((cs.drop 1).take (Tryd.prog.cellsOf 3)) = some x1 at f1
  change DataW.trod _ _ _ _ _ _ _ 5 ((cs.drop 2).take (Tryd.prog.cellsOf 5)) = some x2 at f2
  rw [cs1] at f0
  rw [ci1] at f1
  rw [cu1] at f2
  have g0 : cs[0]? = some (.string (strOf x.1)) := by
    obtain ⟨z, hz, hx', _⟩ := DataW.trod_string Tryd.underlying9 f0
    rw [hx'] at e0
    have e : z.data.toList = x.1 := by simpa using e0
    have : z = strOf x.1 := by
      rw [← e]
      rfl
    rw [← this]
    exact at_one hz
  have g1 : cs[1]? = some (.int .i64 x.2.1) := by
    obtain ⟨z, hz, hx', _⟩ := DataW.trod_int Tryd.underlying3 f1
    rw [hx'] at e1
    cases e1
    exact at_one hz
  have g2 : cs[2]? = some (.int .u8 x.2.2) := by
    obtain ⟨z, hz, hx', _⟩ := DataW.trod_int Tryd.underlying5 f2
    rw [hx'] at e2
    cases e2
    exact at_one hz
  match cs, hl, g0, g1, g2 with
  | [c0, c1, c2], _, g0, g1, g2 =>
    simp at g0 g1 g2
    subst g0 g1 g2
    rfl
set_option maxRecDepth 100000 in
theorem kinds_cells {fuel : Nat} {cs : List Value} {p : List MemPlace} (h : DataW.trod enc Tryd.prog w base sp held fuel 61 cs = some (Rows.laid_postmark_mask_kinds, p)) : ∀ i, i < 12 → cs[i]? = kindC[i]? := by
  obtain ⟨xs, n, rfl, hx, hl, hxl, hall⟩ := DataW.trod_array Tryd.underlying61 h
  have c3 : Tryd.prog.cellsOf 54 = 3 := by kernel_rfl
  have hx4 : xs.map (·.1) = kindL.map fun x => .agg [.lit (.string x.1), .lit (.int .i64 x.2.1), .lit (.int .u8 x.2.2)] := by
    have := congrArg Prod.fst hx
    simpa [Rows.laid_postmark_mask_kinds, kindL] using this.symm
  have row : ∀ i, i < 4 → (cs.drop (i * 3)).take 3 = [.string (strOf (kindL.getD i ([], 0, 0)).1), .int .i64 (kindL.getD i ([], 0, 0)).2.1, .int .u8 (kindL.getD i ([], 0, 0)).2.2] := fun i hi => by
    have h1 := hall i hi
    rw [c3] at h1
    have h2 : (xs.map (·.1))[i]? = some xs[i].1 := by rw [List.getElem?_map, List.getElem?_eq_getElem (by omega)]; rfl
    rw [List.getElem?_eq_getElem (show i < xs.length by omega)] at h1
    rw [hx4, List.getElem?_map] at h2
    have h3 : kindL[i]? = some (kindL.getD i ([], 0, 0)) := by
      have : i < kindL.length := hi
      rw [List.getD, List.getElem?_eq_getElem this]
      rfl
    rw [h3] at h2
    simp only [Option.map_some, Option.some.injEq] at h2
    exact kind_cells (p := xs[i].2) (by rw [h1, h2])
  have cell : ∀ i j, i < 4 → j < 3 → cs[i * 3 + j]? = ([.string (strOf (kindL.getD i ([], 0, 0)).1), .int .i64 (kindL.getD i ([], 0, 0)).2.1, .int .u8 (kindL.getD i ([], 0, 0)).2.2] : List Value)[j]? := fun i j hi hj => by
    rw [← row i hi, List.getElem?_take, if_pos hj, List.getElem?_drop]
  intro i hi
  have h1 := cell (i / 3) (i % 3) (by omega) (by omega)
  rw [show i / 3 * 3 + i % 3 = i by omega] at h1
  rw [h1]
  clear h1
  match i, hi with
  | 0, _ | 1, _ | 2, _ | 3, _ | 4, _ | 5, _ | 6, _ | 7, _ | 8, _ | 9, _ | 10, _ | 11, _ => rfl
end
set_option maxRecDepth 100000 in
theorem kinds_of_laid {W : World} (h : laidMetH Tryd.prog [("postmark/mask.kinds", Rows.laid_postmark_mask_kinds)] W) : Kinds W := by
  have h' : laidMet Tryd.prog [("postmark/mask.kinds", Rows.laid_postmark_mask_kinds)] W := h
  obtain ⟨ps, ⟨g', t', cs, fuel, p, q, hg', ht', hvar, hd, _, _⟩, _⟩ := h'
  have hg : Tryd.prog.globalNamed "postmark/mask.kinds" = some 0 := by kernel_rfl
  have ht : (Tryd.prog.globals[0]?).map (·.type) = some 61 := by kernel_rfl
  obtain rfl := Option.some.inj (hg.symm.trans hg')
  obtain rfl := Option.some.inj (ht.symm.trans ht')
  intro i hi
  have h1 := World.var?_cell hg hvar i
  have h2 := kinds_cells hd i hi
  rw [← h2]
  simpa using h1

end Go.Proofs.YtmfjhgjplmpecaaDoor
