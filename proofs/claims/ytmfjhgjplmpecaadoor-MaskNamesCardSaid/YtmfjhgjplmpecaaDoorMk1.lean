/-
  MERGED: MkA MkB MkC MkD MkE
-/
import Derived.Test.YtmfjhgjplmpecaaDoorNum
import Derived.Test.YtmfjhgjplmpecaaDoorRows
import Derived.OpenShut
import Derived.Below
import Derived.Laws.ResultCell
import Derived.OwnWalk
namespace Go.Proofs.YtmfjhgjplmpecaaDoor
open Go.RowKit

/-- A hash's size, mark and name. -/
def mSize : Nat → Nat
  | 1 => 28
  | 2 => 32
  | 3 => 48
  | 4 => 64
  | _ => 0
def mMark : Nat → Nat
  | 1 => 4
  | 2 => 1
  | 3 => 2
  | 4 => 3
  | _ => 0
def mName : Nat → List UInt8
  | 1 => [115, 104, 97, 50, 50, 52]
  | 2 => [115, 104, 97, 50, 53, 54]
  | 3 => [115, 104, 97, 51, 56, 52]
  | 4 => [115, 104, 97, 53, 49, 50]
  | _ => []
/-- What the table reads as. -/
def kindL : List (List UInt8 × Int × Int) := [([115, 104, 97, 50, 50, 52], 28, 4), ([115, 104, 97, 50, 53, 54], 32, 1), ([115, 104, 97, 51, 56, 52], 48, 2), ([115, 104, 97, 53, 49, 50], 64, 3)]
def kindC : List Value := [.string (strOf [115, 104, 97, 50, 50, 52]), .int .i64 28, .int .u8 4, .string (strOf [115, 104, 97, 50, 53, 54]), .int .i64 32, .int .u8 1, .string (strOf [115, 104, 97, 51, 56, 52]), .int .i64 48, .int .u8 2, .string (strOf [115, 104, 97, 53, 49, 50]), .int .i64 64, .int .u8 3]
/-- The table stands. -/
def Kinds (w : World) : Prop := ∀ i, i < 12 → w.cell? ⟨0, i, none⟩ = kindC[i]?
theorem Kinds.lt {w : World} (h : Kinds w) : 0 < w.heap.size := World.block_lt_of_cell? w ⟨0, 0, none⟩ (h 0 (by decide))
theorem Kinds.below {w w' : World} (h : Kinds w) (hb : Below w.heap.size w w') : Kinds w' := fun i hi => (hb.cell (p := ⟨0, i, none⟩) h.lt).trans (h i hi)
theorem Kinds.grown {w w' : World} {row : Option Nat} (h : Kinds w) (hg : w.grownBy w' row) (hr : ∀ r, row = some r → r ≠ 0) : Kinds w' := fun i hi =>
  (World.cell?_of_block (a := ⟨0, i, none⟩) (hg.block _ h.lt (fun e => hr _ e.symm rfl))).trans (h i hi)
theorem Kinds.drew {w : World} (h : Kinds w) : Kinds w.drew := h.below (Below.refl _ _).drew

section
variable {H : Type} {enc : TypeId × Value → H} {w : World} {base : Nat} {sp : Nat → Bool} {held : Bool}

theorem at_one {cs : List Value} {k : Nat} {v : Value} (h : (cs.drop k).take 1 = [v]) : cs[k]? = some v := by
  have := congrArg (·[0]?) h
  simpa [List.getElem?_take, List.getElem?_drop] using this
set_option maxRecDepth 100000 in
theorem kind_cells {fuel : Nat} {cs : List Value} {x : List UInt8 × Int × Int} {p : List MemPlace} (h : DataW.trod enc Tryd.prog w base sp held fuel 54 cs = some (.agg [.lit (.string x.1), .lit (.int .i64 x.2.1), .lit (.int .u8 x.2.2)], p)) :
    cs = [.string (strOf x.1), .int .i64 x.2.1, .int .u8 x.2.2] := by
  obtain ⟨xs, n, rfl, hx, hl, hxl, hall⟩ := DataW.trod_struct Tryd.underlying54 h
  have c3 : Tryd.prog.cellsOf 54 = 3 := by kernel_rfl
  have cs1 : Tryd.prog.cellsOf 9 = 1 := by kernel_rfl
  have ci1 : Tryd.prog.cellsOf 3 = 1 := by kernel_rfl
  have cu1 : Tryd.prog.cellsOf 5 = 1 := by kernel_rfl
  rw [c3] at hl
  have hx3 : xs.map (·.1) = [.lit (.string x.1), .lit (.int .i64 x.2.1), .lit (.int .u8 x.2.2)] := by
    have := congrArg Prod.fst hx
    simpa using this.symm
  obtain ⟨x0, x1, x2, rfl⟩ : ∃ x0 x1 x2, xs = [x0, x1, x2] := by
    match xs, hx3 with
    | [x0, x1, x2], _ => exact ⟨x0, x1, x2, rfl⟩
  simp only [List.map_cons, List.map_nil, List.cons.injEq, and_true] at hx3
  obtain ⟨e0, e1, e2⟩ := hx3
  have f0 := hall 0 _ rfl
  have f1 := hall 1 _ rfl
  have f2 := hall 2 _ rfl
  change DataW.trod _ _ _ _ _ _ _ 9 ((cs.drop 0).take (Tryd.prog.cellsOf 9)) = some x0 at f0
  change DataW.trod _ _ _ _ _ _ _ 3 ((cs.drop 1).take (Tryd.prog.cellsOf 3)) = some x1 at f1
  change DataW.trod _ _ _ _ _ _ _ 5 ((cs.drop 2).take (Tryd.prog.cellsOf 5)) = some x2 at f2
  rw [cs1] at f0
  rw [ci1] at f1
  rw [cu1] at f2
  have g0 : cs[0]? = some (.string (strOf x.1)) := by
    obtain ⟨z, hz, hx', _⟩ := DataW.trod_string Tryd.underlying9 f0
    rw [hx'] at e0
    have e : z.data.toList = x.1 := by simpa using e0
    have : z = strOf x.1 := by
      rw [← e]
      rfl
    rw [← this]
    exact at_one hz
  have g1 : cs[1]? = some (.int .i64 x.2.1) := by
    obtain ⟨z, hz, hx', _⟩ := DataW.trod_int Tryd.underlying3 f1
    rw [hx'] at e1
    cases e1
    exact at_one hz
  have g2 : cs[2]? = some (.int .u8 x.2.2) := by
    obtain ⟨z, hz, hx', _⟩ := DataW.trod_int Tryd.underlying5 f2
    rw [hx'] at e2
    cases e2
    exact at_one hz
  match cs, hl, g0, g1, g2 with
  | [c0, c1, c2], _, g0, g1, g2 =>
    simp at g0 g1 g2
    subst g0 g1 g2
    rfl
set_option maxRecDepth 100000 in
theorem kinds_cells {fuel : Nat} {cs : List Value} {p : List MemPlace} (h : DataW.trod enc Tryd.prog w base sp held fuel 61 cs = some (Rows.laid_postmark_mask_kinds, p)) : ∀ i, i < 12 → cs[i]? = kindC[i]? := by
  obtain ⟨xs, n, rfl, hx, hl, hxl, hall⟩ := DataW.trod_array Tryd.underlying61 h
  have c3 : Tryd.prog.cellsOf 54 = 3 := by kernel_rfl
  have hx4 : xs.map (·.1) = kindL.map fun x => .agg [.lit (.string x.1), .lit (.int .i64 x.2.1), .lit (.int .u8 x.2.2)] := by
    have := congrArg Prod.fst hx
    simpa [Rows.laid_postmark_mask_kinds, kindL] using this.symm
  have row : ∀ i, i < 4 → (cs.drop (i * 3)).take 3 = [.string (strOf (kindL.getD i ([], 0, 0)).1), .int .i64 (kindL.getD i ([], 0, 0)).2.1, .int .u8 (kindL.getD i ([], 0, 0)).2.2] := fun i hi => by
    have h1 := hall i hi
    rw [c3] at h1
    have h2 : (xs.map (·.1))[i]? = some xs[i].1 := by rw [List.getElem?_map, List.getElem?_eq_getElem (by omega)]; rfl
    rw [List.getElem?_eq_getElem (show i < xs.length by omega)] at h1
    rw [hx4, List.getElem?_map] at h2
    have h3 : kindL[i]? = some (kindL.getD i ([], 0, 0)) := by
      have : i < kindL.length := hi
      rw [List.getD, List.getElem?_eq_getElem this]
      rfl
    rw [h3] at h2
    simp only [Option.map_some, Option.some.injEq] at h2
    exact kind_cells (p := xs[i].2) (by rw [h1, h2])
  have cell : ∀ i j, i < 4 → j < 3 → cs[i * 3 + j]? = ([.string (strOf (kindL.getD i ([], 0, 0)).1), .int .i64 (kindL.getD i ([], 0, 0)).2.1, .int .u8 (kindL.getD i ([], 0, 0)).2.2] : List Value)[j]? := fun i j hi hj => by
    rw [← row i hi, List.getElem?_take, if_pos hj, List.getElem?_drop]
  intro i hi
  have h1 := cell (i / 3) (i % 3) (by omega) (by omega)
  rw [show i / 3 * 3 + i % 3 = i by omega] at h1
  rw [h1]
  clear h1
  match i, hi with
  | 0, _ | 1, _ | 2, _ | 3, _ | 4, _ | 5, _ | 6, _ | 7, _ | 8, _ | 9, _ | 10, _ | 11, _ => rfl
end
set_option maxRecDepth 100000 in
theorem kinds_of_laid {W : World} (h : laidMetH Tryd.prog [("postmark/mask.kinds", Rows.laid_postmark_mask_kinds)] W) : Kinds W := by
  have h' : laidMet Tryd.prog [("postmark/mask.kinds", Rows.laid_postmark_mask_kinds)] W := h
  obtain ⟨ps, ⟨g', t', cs, fuel, p, q, hg', ht', hvar, hd, _, _⟩, _⟩ := h'
  have hg : Tryd.prog.globalNamed "postmark/mask.kinds" = some 0 := by kernel_rfl
  have ht : (Tryd.prog.globals[0]?).map (·.type) = some 61 := by kernel_rfl
  obtain rfl := Option.some.inj (hg.symm.trans hg')
  obtain rfl := Option.some.inj (ht.symm.trans ht')
  intro i hi
  have h1 := World.var?_cell hg hvar i
  have h2 := kinds_cells hd i hi
  rw [← h2]
  simpa using h1

end Go.Proofs.YtmfjhgjplmpecaaDoor

namespace Go.Proofs.YtmfjhgjplmpecaaDoor
open Go.RowKit

/-- A hash's row of the table, as a value. -/
def kindV (h : Nat) : Value := .agg #[.string (strOf (mName h)), .int .i64 (mSize h : Int), .int .u8 (mMark h : Int)]
def IsHash (h : Nat) : Prop := h = 1 ∨ h = 2 ∨ h = 3 ∨ h = 4
theorem isHash_lt {h : Nat} (hh : IsHash h) : 1 ≤ h ∧ h ≤ 4 := by unfold IsHash at hh; omega
theorem mSize_le {h : Nat} (hh : IsHash h) : 28 ≤ mSize h ∧ mSize h ≤ 64 := by rcases hh with rfl | rfl | rfl | rfl <;> decide

theorem known_yesM (h : Nat) (hh : IsHash h) (w : World) (hk : Kinds w) : Calls Tryd.prog 29 #[.int .i64 (h : Int)] w fun e w' => e = .returned (.tuple #[kindV h, .bool true]) ∧ Below w.heap.size w w' := by
  rcases hh with rfl | rfl | rfl | rfl
  · have c0 : w.cell? ⟨0, 0, none⟩ = some (.string (strOf [115, 104, 97, 50, 50, 52])) := hk 0 (by decide)
    have c1 : w.cell? ⟨0, 1, none⟩ = some (.int .i64 28) := hk 1 (by decide)
    have c2 : w.cell? ⟨0, 2, none⟩ = some (.int .u8 4) := hk 2 (by decide)
    have hlt := hk.lt
    clear hk
    go_enter Tryd.func29, Tryd.ntmps29
    go_wp2
    refine bodyPost_ret (v := .tuple #[kindV 1, .bool true]) ?_ rfl ⟨rfl, ?_⟩
    · rw [results_cell_tmp rfl]
      go_simp
      rfl
    · (repeat' (first | exact Below.refl _ _ | refine Below.drew ?_ | refine Below.alloc ?_ (by simp <;> omega) _))
  · have c0 : w.cell? ⟨0, 3, none⟩ = some (.string (strOf [115, 104, 97, 50, 53, 54])) := hk 3 (by decide)
    have c1 : w.cell? ⟨0, 4, none⟩ = some (.int .i64 32) := hk 4 (by decide)
    have c2 : w.cell? ⟨0, 5, none⟩ = some (.int .u8 1) := hk 5 (by decide)
    have hlt := hk.lt
    clear hk
    go_enter Tryd.func29, Tryd.ntmps29
    go_wp2
    refine bodyPost_ret (v := .tuple #[kindV 2, .bool true]) ?_ rfl ⟨rfl, ?_⟩
    · rw [results_cell_tmp rfl]
      go_simp
      rfl
    · (repeat' (first | exact Below.refl _ _ | refine Below.drew ?_ | refine Below.alloc ?_ (by simp <;> omega) _))
  · have c0 : w.cell? ⟨0, 6, none⟩ = some (.string (strOf [115, 104, 97, 51, 56, 52])) := hk 6 (by decide)
    have c1 : w.cell? ⟨0, 7, none⟩ = some (.int .i64 48) := hk 7 (by decide)
    have c2 : w.cell? ⟨0, 8, none⟩ = some (.int .u8 2) := hk 8 (by decide)
    have hlt := hk.lt
    clear hk
    go_enter Tryd.func29, Tryd.ntmps29
    go_wp2
    refine bodyPost_ret (v := .tuple #[kindV 3, .bool true]) ?_ rfl ⟨rfl, ?_⟩
    · rw [results_cell_tmp rfl]
      go_simp
      rfl
    · (repeat' (first | exact Below.refl _ _ | refine Below.drew ?_ | refine Below.alloc ?_ (by simp <;> omega) _))
  · have c0 : w.cell? ⟨0, 9, none⟩ = some (.string (strOf [115, 104, 97, 53, 49, 50])) := hk 9 (by decide)
    have c1 : w.cell? ⟨0, 10, none⟩ = some (.int .i64 64) := hk 10 (by decide)
    have c2 : w.cell? ⟨0, 11, none⟩ = some (.int .u8 3) := hk 11 (by decide)
    have hlt := hk.lt
    clear hk
    go_enter Tryd.func29, Tryd.ntmps29
    go_wp2
    refine bodyPost_ret (v := .tuple #[kindV 4, .bool true]) ?_ rfl ⟨rfl, ?_⟩
    · rw [results_cell_tmp rfl]
      go_simp
      rfl
    · (repeat' (first | exact Below.refl _ _ | refine Below.drew ?_ | refine Below.alloc ?_ (by simp <;> omega) _))
theorem known_noM (h : Int) (hn : h < 1 ∨ 4 < h) (w : World) : Calls Tryd.prog 29 #[.int .i64 h] w fun e w' => e = .returned (.tuple #[.agg #[.string ⟨#[]⟩, .int .i64 0, .int .u8 0], .bool false]) ∧ Below w.heap.size w w' := by
  by_cases h1 : h < 1
  · have d1 : decide (h < 1) = true := by simpa using h1
    clear hn h1
    go_enter Tryd.func29, Tryd.ntmps29
    go_wp2
    refine bodyPost_ret (v := .tuple #[.agg #[.string ⟨#[]⟩, .int .i64 0, .int .u8 0], .bool false]) ?_ rfl ⟨rfl, ?_⟩
    · rw [results_cell_tmp rfl]
      go_simp
    · (repeat' (first | exact Below.refl _ _ | refine Below.drew ?_ | refine Below.alloc ?_ (by simp <;> omega) _))
  · have d1 : decide (h < 1) = false := by simpa using h1
    have d2 : decide (4 < h) = true := by simp; omega
    clear hn h1
    go_enter Tryd.func29, Tryd.ntmps29
    go_wp2
    refine bodyPost_ret (v := .tuple #[.agg #[.string ⟨#[]⟩, .int .i64 0, .int .u8 0], .bool false]) ?_ rfl ⟨rfl, ?_⟩
    · rw [results_cell_tmp rfl]
      go_simp
    · (repeat' (first | exact Below.refl _ _ | refine Below.drew ?_ | refine Below.alloc ?_ (by simp <;> omega) _))
theorem size_yes (h : Nat) (hh : IsHash h) (w : World) (hk : Kinds w) : Calls Tryd.prog 15 #[.int .i64 (h : Int)] w fun e w' => e = .returned (.int .i64 (mSize h : Int)) ∧ Below w.heap.size w w' := by
  go_enter Tryd.func15, Tryd.ntmps15
  go_wp2_with fail
  refine (known_yesM h hh w hk).mono ?_
  rintro e w1 ⟨rfl, h1⟩
  have H1 := Lib.hid h1
  clear h1
  unfold kindV
  go_wp2
  go_ret
  exact ⟨rfl, by have h := H1.out; have hs := h.size; (repeat' (first | exact h | refine Below.drew ?_ | refine Below.alloc ?_ (by first | omega | (simp; omega)) _))⟩
theorem size_no (h : Int) (hn : h < 1 ∨ 4 < h) (w : World) : Calls Tryd.prog 15 #[.int .i64 h] w fun e w' => e = .returned (.int .i64 0) ∧ Below w.heap.size w w' := by
  go_enter Tryd.func15, Tryd.ntmps15
  go_wp2_with fail
  refine (known_noM h hn w).mono ?_
  rintro e w1 ⟨rfl, h1⟩
  have H1 := Lib.hid h1
  clear h1
  go_wp2
  go_ret
  exact ⟨rfl, by have h := H1.out; have hs := h.size; (repeat' (first | exact h | refine Below.drew ?_ | refine Below.alloc ?_ (by first | omega | (simp; omega)) _))⟩
theorem name_yes (h : Nat) (hh : IsHash h) (w : World) (hk : Kinds w) : Calls Tryd.prog 17 #[.int .i64 (h : Int)] w fun e w' => e = .returned (.string (strOf (mName h))) ∧ Below w.heap.size w w' := by
  go_enter Tryd.func17, Tryd.ntmps17
  go_wp2_with fail
  refine (known_yesM h hh w hk).mono ?_
  rintro e w1 ⟨rfl, h1⟩
  have H1 := Lib.hid h1
  clear h1
  unfold kindV
  go_wp2
  go_ret
  exact ⟨rfl, by have h := H1.out; have hs := h.size; (repeat' (first | exact h | refine Below.drew ?_ | refine Below.alloc ?_ (by first | omega | (simp; omega)) _))⟩
theorem name_no (h : Int) (hn : h < 1 ∨ 4 < h) (w : World) : Calls Tryd.prog 17 #[.int .i64 h] w fun e w' => e = .returned (.string ⟨#[]⟩) ∧ Below w.heap.size w w' := by
  go_enter Tryd.func17, Tryd.ntmps17
  go_wp2_with fail
  refine (known_noM h hn w).mono ?_
  rintro e w1 ⟨rfl, h1⟩
  have H1 := Lib.hid h1
  clear h1
  go_wp2
  go_ret
  exact ⟨rfl, by have h := H1.out; have hs := h.size; (repeat' (first | exact h | refine Below.drew ?_ | refine Below.alloc ?_ (by first | omega | (simp; omega)) _))⟩

end Go.Proofs.YtmfjhgjplmpecaaDoor

namespace Go.Proofs.YtmfjhgjplmpecaaDoor
open Go.RowKit
set_option maxRecDepth 100000

theorem infoMk : (Tryd.prog.info? 5).map (fun i => (i.zero, i.size, i.bytes)) = some (some (.int .u8 0), 1, 1) := by kernel_rfl
theorem own_slM {q : IntKind} {E B : Nat} {w : World} {v : Value} {l : List Nat} (h : OwnQ q E B w v l) : ∃ a n cap, v = .slice a n cap ∧ n = l.length ∧ OwnQ q E B w (.slice a n cap) l := by
  obtain ⟨a, c, rfl, -, -⟩ := h.form
  exact ⟨a, _, c, rfl, rfl, h⟩
theorem OwnQ.litM (q : IntKind) (w : World) (E : TypeId) (B : Nat) (hB : B ≤ w.heap.size) (l : List Nat) (cs : Array Value) (n : Nat) (h : cs = (l.map (num q)).toArray) (hn : n = l.length) (hm : l.length ≤ maxLen) : OwnQ q E B (w.alloc (.cells cs E)) (.slice (some ⟨w.heap.size, 0, .none⟩) n n) l := by
  subst h hn
  exact World.ownsRow_lit w _ l.length hB hm (by simp)
theorem Reads.litM (q : IntKind) (w : World) (E : TypeId) (l : List Nat) (cs : Array Value) (n : Nat) (h : cs = (l.map (num q)).toArray) (hn : n = l.length) (hm : l.length ≤ maxLen) : Reads q (w.alloc (.cells cs E)) (some ⟨w.heap.size, 0, .none⟩) n n l :=
  (OwnQ.litM q w E w.heap.size (Nat.le_refl _) l cs n h hn hm).reads

theorem reads_of_bytesM {w : World} {a : Option Addr} {len cap : Nat} {zs : List Int}
    (h : (a = .none ∧ len = 0 ∧ cap = 0 ∧ zs = []) ∨ ∃ x, a = some x ∧ len ≤ cap ∧ cap ≤ maxLen ∧ zs.length = cap ∧ (∀ i, i < zs.length → w.cell? (x.add i) = some (.int .u8 (zs.getD i 0))) ∧ ∀ n ∈ zs, (Lit.int .u8 n).wf = true) :
    ∃ l : List Nat, Reads .u8 w a len cap l ∧ ∀ x ∈ l, x < 256 := by
  rcases h with ⟨rfl, rfl, rfl, rfl⟩ | ⟨x, rfl, hl, hm, hz, hc, hw⟩
  · exact ⟨[], Reads.none _ w, fun _ h => by cases h⟩
  · have hbd : ∀ n ∈ zs, 0 ≤ n ∧ n < 256 := fun n hn => by
      have := hw n hn
      simp [Lit.wf, IntKind.min, IntKind.max, IntKind.signed, IntKind.bits] at this
      omega
    refine ⟨(zs.take len).map fun n => n.toNat, ⟨by simp; omega, hl, hm, (fun h => by cases h), fun hp => ?_⟩, fun y hy => ?_⟩
    · obtain ⟨b, off, spot⟩ := x
      have h0 := hc 0 (by omega)
      have hs : spot = .none := by simpa [Addr.add] using World.cell?_spot h0
      subst hs
      refine ⟨b, off, rfl, World.block_lt_of_cell? w _ (by simpa [Addr.add] using h0), fun i hi => ?_⟩
      have hci := hc i (by omega)
      have e : (⟨b, off, .none⟩ : Addr).add i = ⟨b, off + i, .none⟩ := by unfold Addr.add; split <;> simp_all
      rw [e] at hci
      rw [hci]
      have hlt : i < zs.length := by omega
      have hb := hbd zs[i] (List.getElem_mem _)
      have h1 : zs.getD i 0 = zs[i] := by simp [List.getD, hlt]
      rw [h1]
      simp [hi, hlt]
      omega
    · obtain ⟨n, hn, rfl⟩ := List.mem_map.1 hy
      have := hbd n (List.mem_of_mem_take hn)
      omega

/-- A frame's first bytes; a frame. -/
def frameH (h : Nat) : List Nat := [48, 17 + mSize h, 48, 13, 6, 9, 96, 134, 72, 1, 101, 3, 4, 2, mMark h, 5, 0, 4, mSize h]
def frameL (h : Nat) (d : List Nat) : List Nat := frameH h ++ d
theorem frameH_len (h : Nat) : (frameH h).length = 19 := rfl
theorem mMark_lt {h : Nat} (hh : IsHash h) : mMark h < 256 := by rcases hh with rfl | rfl | rfl | rfl <;> decide
theorem frameH_lt {h : Nat} (hh : IsHash h) : ∀ x ∈ frameH h, x < 256 := by
  rcases hh with rfl | rfl | rfl | rfl <;> decide

set_option maxHeartbeats 1000000 in
theorem frame_yes (h : Nat) (hh : IsHash h) (a : Option Addr) (n c : Nat) (d : List Nat) (w : World) (hk : Kinds w) (hr : Reads .u8 w a n c d) (hn : n = mSize h) :
    Calls Tryd.prog 19 #[.int .i64 (h : Int), .slice a n c] w fun e w' => (∃ v, e = .returned (.tuple #[v, .int .i64 0]) ∧ OwnQ .u8 5 w.heap.size w' v (frameL h d)) ∧ Below w.heap.size w w' := by
  obtain ⟨i0, hi, hz0, hz1, hz2⟩ := info_parts infoMk
  have HR := Lib.hid hr
  have hs := mSize_le hh
  have hn64 : n ≤ 64 := by omega
  have HMK := Lib.hid (mMark_lt hh)
  obtain ⟨s, hse⟩ : ∃ s, s = mSize h := ⟨_, rfl⟩
  obtain ⟨m, hme⟩ : ∃ m, m = mMark h := ⟨_, rfl⟩
  have HF := Lib.hid (show frameH h = [48, 17 + s, 48, 13, 6, 9, 96, 134, 72, 1, 101, 3, 4, 2, m, 5, 0, 4, s] by rw [hse, hme]; rfl)
  have t1 : ((n : Int) != (s : Int)) = false := by simp; omega
  have w1 : IntKind.u8.wrap (s : Int) = (s : Int) := by rw [IntKind.wrap_u8]; omega
  have w2 : IntKind.u8.wrap (17 + (s : Int)) = ((17 + s : Nat) : Int) := by rw [IntKind.wrap_u8]; omega
  go_enter Tryd.func19, Tryd.ntmps19
  go_wp2_with fail
  refine (known_yesM h hh w hk).mono ?_
  rintro e w1 ⟨rfl, h1⟩
  have HB1 := Lib.hid h1
  have HDL := Lib.hid (show d.length = n from HR.out.length)
  unfold kindV
  rw [← hse, ← hme]
  have HSE := Lib.hid hse
  have hz1s : w.heap.size ≤ w1.heap.size := h1.size
  have hk0 := OwnQ.litM .u8 (w1.alloc (.cells #[.string (strOf (mName h)), .int .i64 (s : Int), .int .u8 (m : Int)] 54)) 5 w.heap.size (by simp; omega) (frameH h) #[.int .u8 48, .int .u8 (17 + (s : Int)), .int .u8 48, .int .u8 13, .int .u8 6, .int .u8 9, .int .u8 96, .int .u8 134, .int .u8 72, .int .u8 1, .int .u8 101, .int .u8 3, .int .u8 4, .int .u8 2, .int .u8 (m : Int), .int .u8 5, .int .u8 0, .int .u8 4, .int .u8 (s : Int)] 19 (by rw [HF.out]; simp [num]) (by rw [frameH_len]) (by rw [frameH_len]; decide)
  rw [World.size_alloc] at hk0
  have HK0 := Lib.hid hk0
  clear hk0
  clear h1 hr hse hme hs hk hn
  go_wp2_with (at_builtin; go_loud (refine wpList_append_q .u8 _ rfl _ _ 23 rfl w.heap.size 5 1 i0 Tryd.underlying23 hi hz0 hz1 hz2 (by decide) _ (frameH h) rfl HK0.out a n c d rfl (HR.out.below (by have h := HB1.out; have hs := h.size; (repeat' (first | exact h | refine Below.drew ?_ | refine Below.alloc ?_ (by first | omega | (simp; omega)) _)))) (by rw [frameH_len]; omega) (by have := HB1.out.size; simp; omega) ?_); intro v2 w2 hown hgrow; have HO := Lib.hid hown; have HB2 := Lib.hid (hgrow w (by have h := HB1.out; have hs := h.size; (repeat' (first | exact h | refine Below.drew ?_ | refine Below.alloc ?_ (by first | omega | (simp; omega)) _)))); clear hown hgrow)
  go_ret2
  exact ⟨⟨_, rfl, HO.out⟩, HB2.out⟩
theorem frame_no (h : Int) (a : Option Addr) (n c : Nat) (w : World) (hk : Kinds w) (hn : ∀ k : Nat, IsHash k → h = (k : Int) → n ≠ mSize k) :
    Calls Tryd.prog 19 #[.int .i64 h, .slice a n c] w fun e w' => e = .returned (.tuple #[.slice none 0 0, .int .i64 80]) ∧ Below w.heap.size w w' := by
  by_cases hh : h < 1 ∨ 4 < h
  · go_enter Tryd.func19, Tryd.ntmps19
    go_wp2_with fail
    refine (known_noM h hh w).mono ?_
    rintro e w1 ⟨rfl, h1⟩
    have H1 := Lib.hid h1
    clear h1 hh hn
    go_wp2
    go_ret2
    exact ⟨rfl, by have h := H1.out; have hs := h.size; (repeat' (first | exact h | refine Below.drew ?_ | refine Below.alloc ?_ (by first | omega | (simp; omega)) _))⟩
  · obtain ⟨k, hk1, hk2⟩ : ∃ k : Nat, IsHash k ∧ h = (k : Int) := ⟨h.toNat, by unfold IsHash; omega, by omega⟩
    have hne := hn k hk1 hk2
    have t1 : ((n : Int) != (mSize k : Int)) = true := by simp; omega
    subst hk2
    clear hh hn hne
    go_enter Tryd.func19, Tryd.ntmps19
    go_wp2_with fail
    refine (known_yesM k hk1 w hk).mono ?_
    rintro e w1 ⟨rfl, h1⟩
    have H1 := Lib.hid h1
    unfold kindV
    clear h1
    go_wp2
    go_ret2
    exact ⟨rfl, by have h := H1.out; have hs := h.size; (repeat' (first | exact h | refine Below.drew ?_ | refine Below.alloc ?_ (by first | omega | (simp; omega)) _))⟩

end Go.Proofs.YtmfjhgjplmpecaaDoor

namespace Go.Proofs.YtmfjhgjplmpecaaDoor
open Go.RowKit
set_option maxRecDepth 100000

theorem OwnQ.madeM {q : IntKind} {E : TypeId} {B : Nat} {w : World} {g n : Nat} {z : List Value} (h : w.ownsRow B E 1 (.slice (some ⟨g, 0, none⟩) n n) n z) (hz : z = (madeCells (Value.int q 0).cells (n * 1)).toList) : OwnQ q E B w (.slice (some ⟨g, 0, none⟩) n n) (List.replicate n 0) := by
  unfold OwnQ
  rw [← zeros_q, ← hz]
  simpa using h

/-- 'make' with room beyond its length. -/
theorem wpList_make_lcM {P : Program} (q : IntKind) (w : World) {ops : Array Oper} {rest : List Oper} {o : Oper} {a : Act} {Q : Exit → Act → World → Prop}
    (hg : o.guard = none) (l c : Operand) (t : TypeId) (hop : o.op = Op.makeSlice t l c)
    (base : Nat) (e : TypeId) (i : TypeInfo) (h1 : P.underlying t = some (.slice e)) (h2 : P.info? e = some i) (h3 : i.zero = some (.int q 0)) (h4 : i.size = 1)
    (kl kc : IntKind) (L C : Int) (m n : Nat) (hl : a.eval l = .int kl L) (hc : a.eval c = .int kc C) (hL : L = (m : Int)) (hC : C = (n : Int)) (hmn : m ≤ n) (b2 : i.bytes * n ≤ 281474976710656) (b3 : n ≤ maxLen) (b4 : base ≤ w.heap.size)
    (hK : ∀ w', OwnQ q e base w' (.slice (some ⟨w.heap.size, 0, none⟩) m n) (List.replicate m 0) → w.grownBy w' none → wpList P ops Q rest (a.put o.dst (.slice (some ⟨w.heap.size, 0, none⟩) m n)) w') :
    wpList P ops Q (o :: rest) a w := by
  refine wpList_plain hg fun K hK' => ?_
  subst hL
  subst hC
  have h63' : (n : Int) ≤ 9223372036854775807 := by
    have h := b3
    simp [maxLen] at h
    omega
  have hb' : (i.bytes : Int) * (n : Int) ≤ 281474976710656 := by
    have h : ((i.bytes * n : Nat) : Int) ≤ 281474976710656 := by omega
    rwa [Int.natCast_mul] at h
  have hr := run_make (P := P) w t e i (.int q 0) h1 h2 h3 kl kc m n (by omega) (by omega) hb' h63'
  simp only [Int.toNat_natCast] at hr
  have hown : OwnQ q e base (w.alloc (.cells (madeCells (Value.int q 0).cells (n * i.size)) e)) (.slice (some ⟨w.heap.size, 0, none⟩) n n) (List.replicate n 0) := by
    rw [h4]
    exact OwnQ.madeM (World.ownsRow_lit w _ n b4 b3 (size_madeCells _ _)) rfl
  have hup := hown.upto m hmn
  rw [List.take_replicate, Nat.min_eq_left hmn] at hup
  unfold Oper.wp
  simp [execOp, hop, hl, hc, hr, Result.andThen]
  exact hK' _ _ (hK _ hup (World.grownBy_alloc w _ none))

def lenM : Value → Nat
  | .slice _ n _ => n
  | _ => 0
/-- An encoding. -/
def mEncP (h P : Nat) (d : List Nat) : List Nat := [0, 1] ++ List.replicate P 255 ++ [0] ++ frameL h d
def encL (h : Nat) (d : List Nat) (size : Nat) : List Nat := mEncP h (size - (19 + mSize h) - 3) d

set_option maxHeartbeats 2000000 in
theorem encode_yes (h : Nat) (hh : IsHash h) (a : Option Addr) (n c : Nat) (d : List Nat) (size : Nat) (w : World) (hk : Kinds w) (hr : Reads .u8 w a n c d) (hn : n = mSize h) (hlo : n + 30 ≤ size) (hhi : size ≤ 65536) :
    Calls Tryd.prog 21 #[.int .i64 (h : Int), .slice a n c, .int .i64 (size : Int)] w fun e w' => (∃ v, e = .returned (.tuple #[v, .int .i64 0]) ∧ OwnQ .u8 5 w.heap.size w' v (encL h d size)) ∧ Below w.heap.size w w' := by
  obtain ⟨i0, hi, hz0, hz1, hz2⟩ := info_parts infoMk
  have hs := mSize_le hh
  have hn64 : n ≤ 64 := by omega
  obtain ⟨P, hP⟩ : ∃ P, P = size - (19 + n) - 3 := ⟨_, rfl⟩
  have HE := Lib.hid (show encL h d size = mEncP h P d by rw [hP, hn]; rfl)
  have hPs : size = 19 + n + 3 + P := by omega
  have HDL := Lib.hid (show d.length = n from hr.length)
  have HR := Lib.hid hr
  have HN := Lib.hid hn
  clear hr hn hP hs
  subst hPs
  have hP2 : P ≤ 65536 := by omega
  have t1 : decide (((19 + n + 3 + P : Nat) : Int) < ((19 + n : Nat) : Int) + 11) = false := by simp; omega
  have t2 : decide ((65536 : Int) < ((19 + n + 3 + P : Nat) : Int)) = false := by simp; omega
  obtain ⟨size, hsize⟩ : ∃ size, size = 19 + n + 3 + P := ⟨_, rfl⟩
  obtain ⟨f, hf⟩ : ∃ f, f = 19 + n := ⟨_, rfl⟩
  rw [← hsize] at t1 t2 hlo hhi ⊢
  rw [← hf] at t1
  have hsub : (size : Int) - (f : Int) - 1 = ((2 + P : Nat) : Int) := by omega
  have HSZ := Lib.hid hsize
  have HFF := Lib.hid hf
  have hfb : f ≤ 83 := by omega
  clear hsize hf
  go_enter Tryd.func21, Tryd.ntmps21
  go_wp2_with fail
  refine (frame_yes h hh a n c d w hk HR.out HN.out).mono ?_
  rintro e w1 ⟨⟨v, rfl, ho⟩, h1⟩
  obtain ⟨fa, fn, fc, rfl, hfn, ho⟩ := own_slM ho
  rw [frameL, List.length_append, frameH_len, HDL.out, ← HFF.out] at hfn
  subst hfn
  have HF := Lib.hid ho
  have HB1 := Lib.hid h1
  have hz1w : w.heap.size ≤ w1.heap.size := h1.size
  clear ho h1 hk
  go_wp2_with (first
    | (at_make; refine wpList_make_lcM .u8 _ rfl _ _ 23 rfl w1.heap.size 5 i0 Tryd.underlying23 hi hz0 hz1 _ _ _ _ 0 size rfl rfl rfl rfl (Nat.zero_le _) (by rw [hz2]; omega) (by unfold maxLen; omega) (Nat.le_refl _) ?_; intro w2 hown hgrow; have HO2 := Lib.hid hown; have HB2 := Lib.hid ((Below.refl w1.heap.size w1).grown hgrow (Nat.le_refl _) (fun r e => by cases e)); clear hown hgrow)
    | (at_builtin; (refine wpList_append_q .u8 _ rfl _ _ 23 rfl w1.heap.size 5 1 i0 Tryd.underlying23 hi hz0 hz1 hz2 (by decide) _ ([]) rfl (HO2.out.alloc _) _ 2 2 ([0, 1]) rfl (Reads.litM .u8 w2 5 [0, 1] #[.int .u8 0, .int .u8 1] 2 (by simp [num]) rfl (by decide)) (by simp) (by have := HB2.out.size; simp; omega) ?_; intro v3 w3 hown hgrow; rw [List.nil_append] at hown; have HO3 := Lib.hid hown; have HB3 := Lib.hid (hgrow w1 (HB2.out.alloc HB2.out.size _)); clear hown hgrow)))
  obtain ⟨a3, n3, c3, rfl, hn3, ho3⟩ := own_slM HO3.out
  have HO4 := Lib.hid ho3
  obtain rfl : n3 = 2 := hn3
  clear HO3 ho3
  go_loopw [10] (fun sv wq => ∃ (j m c' : Nat) (a' : Option Addr), sv = .slice a' m c' ∧ m ≤ 70000 ∧ j ≤ P ∧ Hid (m = 2 + j ∧ OwnQ .u8 5 w1.heap.size wq (.slice a' m c') ([0, 1] ++ List.replicate j 255) ∧ Below w1.heap.size w1 wq)) (fun sv _ => 2 + P - lenM sv)
  case atStart => exact ⟨0, 2, c3, a3, rfl, by omega, Nat.zero_le _, rfl, by rw [List.replicate_zero, List.append_nil]; exact HO4.out, HB3.out⟩
  case round =>
    obtain ⟨j, m, c', a', rfl, hm, hj, hI⟩ := hrel
    have hszr := hI.out.2.2.size
    by_cases hlt : j < P
    · have tl : decide ((m : Int) < 2 + (P : Int)) = true := by have := hI.out.1; simp; omega
      go_wp2_with (at_builtin; (refine wpList_append_q .u8 _ rfl _ _ 23 rfl w1.heap.size 5 1 i0 Tryd.underlying23 hi hz0 hz1 hz2 (by decide) _ ([0, 1] ++ List.replicate j 255) rfl (hI.out.2.1.alloc _) _ 1 1 ([255]) rfl (Reads.one .u8 _ _ _ _ rfl) (by simp; omega) (by have := hI.out.2.2.size; simp; omega) ?_; intro v5 w5 hown hgrow; obtain ⟨a5, n5, c5, rfl, hn5, ho5⟩ := own_slM hown; have HO5 := Lib.hid ho5; have HN5 := Lib.hid hn5; have HB5 := Lib.hid (hgrow w1 (hI.out.2.2.alloc hI.out.2.2.size _)); clear hown hgrow hn5 ho5))
      have hn6 : n5 = 2 + (j + 1) := by rw [HN5.out]; simp; omega
      go_roundw
      case rel => exact ⟨j + 1, n5, c5, a5, rfl, by omega, by omega, hn6, by
        have h := HO5.out
        rw [List.append_assoc, ← List.replicate_succ'] at h
        exact h, HB5.out⟩
      case measure =>
        have h1 := hI.out.1
        simp [lenM]
        omega
    · obtain rfl : j = P := by omega
      have tl : decide ((m : Int) < 2 + (j : Int)) = false := by have := hI.out.1; simp; omega
      have HI := Lib.hid hI.out
      have HFR := Lib.hid (HF.out.below hI.out.2.2)
      have hmj := hI.out.1
      clear hI
      go_wp2_with (at_builtin; first
        | (refine wpList_append_q .u8 _ rfl _ _ 23 rfl w1.heap.size 5 1 i0 Tryd.underlying23 hi hz0 hz1 hz2 (by decide) _ ([0, 1] ++ List.replicate j 255) rfl (HI.out.2.1.alloc _) _ 1 1 ([0]) rfl (Reads.one .u8 _ _ _ _ rfl) (by simp; omega) (by have := HI.out.2.2.size; simp; omega) ?_; intro v6 w6 hown hgrow; have HO6 := Lib.hid hown; have HB6 := Lib.hid (hgrow w1 (HI.out.2.2.alloc HI.out.2.2.size _)); clear hown hgrow)
        | (refine wpList_append_q .u8 _ rfl _ _ 23 rfl w1.heap.size 5 1 i0 Tryd.underlying23 hi hz0 hz1 hz2 (by decide) _ ([0, 1] ++ List.replicate j 255 ++ [0]) rfl (HO6.out) fa fn fc (frameL h d) rfl ((HF.out.below HB6.out).reads) (by simp; omega) (HB6.out.size) ?_; intro v7 w7 hown hgrow; have HO7 := Lib.hid hown; have HB7 := Lib.hid (hgrow w1 HB6.out); clear hown hgrow))
      go_ret2
      exact ⟨⟨_, rfl, by have := HO7.out.mono hz1w; rw [HSZ.out, HE.out]; exact this⟩, HB1.out.trans (HB7.out.mono hz1w)⟩

end Go.Proofs.YtmfjhgjplmpecaaDoor

namespace Go.Proofs.YtmfjhgjplmpecaaDoor
open Go.RowKit
set_option maxRecDepth 100000

theorem encode_noFrame (h : Int) (a : Option Addr) (n c : Nat) (size : Int) (w : World) (hk : Kinds w) (hn : ∀ k : Nat, IsHash k → h = (k : Int) → n ≠ mSize k) :
    Calls Tryd.prog 21 #[.int .i64 h, .slice a n c, .int .i64 size] w fun e w' => e = .returned (.tuple #[.slice none 0 0, .int .i64 80]) ∧ Below w.heap.size w w' := by
  go_enter Tryd.func21, Tryd.ntmps21
  go_wp2_with fail
  refine (frame_no h a n c w hk hn).mono ?_
  rintro e w1 ⟨rfl, h1⟩
  have H1 := Lib.hid h1
  clear h1 hn
  go_wp2
  go_ret2
  exact ⟨rfl, H1.out⟩
theorem encode_noSize (h : Nat) (hh : IsHash h) (a : Option Addr) (n c : Nat) (d : List Nat) (size : Int) (w : World) (hk : Kinds w) (hr : Reads .u8 w a n c d) (hn : n = mSize h) (hs : size < n + 30 ∨ 65536 < size) :
    Calls Tryd.prog 21 #[.int .i64 (h : Int), .slice a n c, .int .i64 size] w fun e w' => e = .returned (.tuple #[.slice none 0 0, .int .i64 2]) ∧ Below w.heap.size w w' := by
  have HDL := Lib.hid (show d.length = n from hr.length)
  have hsz := mSize_le hh
  have hn64 : n ≤ 64 := by omega
  have HR := Lib.hid hr
  have HN := Lib.hid hn
  obtain ⟨f, hf⟩ : ∃ f, f = 19 + n := ⟨_, rfl⟩
  have hfb : f ≤ 83 := by omega
  have HFF := Lib.hid hf
  have hs2 : size < (f : Int) + 11 ∨ ¬ size < (f : Int) + 11 ∧ 65536 < size := by omega
  clear hr hn hf hsz hs
  rcases hs2 with h2 | ⟨h2, h3⟩
  · have t1 : decide (size < (f : Int) + 11) = true := by simpa using h2
    clear h2
    go_enter Tryd.func21, Tryd.ntmps21
    go_wp2_with fail
    refine (frame_yes h hh a n c d w hk HR.out HN.out).mono ?_
    rintro e w1 ⟨⟨v, rfl, ho⟩, h1⟩
    obtain ⟨fa, fn, fc, rfl, hfn, ho⟩ := own_slM ho
    rw [frameL, List.length_append, frameH_len, HDL.out, ← HFF.out] at hfn
    subst hfn
    have HB1 := Lib.hid h1
    clear ho h1 hk
    go_wp2
    go_ret2
    exact ⟨rfl, HB1.out⟩
  · have t1 : decide (size < (f : Int) + 11) = false := by simpa using h2
    have t2 : decide (65536 < size) = true := by simpa using h3
    clear h2 h3
    go_enter Tryd.func21, Tryd.ntmps21
    go_wp2_with fail
    refine (frame_yes h hh a n c d w hk HR.out HN.out).mono ?_
    rintro e w1 ⟨⟨v, rfl, ho⟩, h1⟩
    obtain ⟨fa, fn, fc, rfl, hfn, ho⟩ := own_slM ho
    rw [frameL, List.length_append, frameH_len, HDL.out, ← HFF.out] at hfn
    subst hfn
    have HB1 := Lib.hid h1
    clear ho h1 hk
    go_wp2
    go_ret2
    exact ⟨rfl, HB1.out⟩

/-- What Frame and Encode answer. -/
def FrameOk (h : Int) (n : Nat) : Prop := IsHash h.toNat ∧ n = mSize h.toNat
instance (h : Int) (n : Nat) : Decidable (FrameOk h n) := by unfold FrameOk IsHash; infer_instance
def frameR (h : Int) (d : List Nat) : List Nat × Int := if FrameOk h d.length then (frameL h.toNat d, 0) else ([], 80)
def encR (h : Int) (d : List Nat) (size : Int) : List Nat × Int := if FrameOk h d.length then (if size < d.length + 30 ∨ 65536 < size then ([], 2) else (encL h.toNat d size.toNat, 0)) else ([], 80)
theorem frameOk_nat {h : Int} {n : Nat} (hf : FrameOk h n) : ∃ k : Nat, h = (k : Int) ∧ IsHash k ∧ n = mSize k := by
  obtain ⟨h1, h2⟩ := hf
  refine ⟨h.toNat, ?_, h1, h2⟩
  have := isHash_lt h1
  omega
theorem frameOk_no {h : Int} {n : Nat} (hf : ¬ FrameOk h n) : ∀ k : Nat, IsHash k → h = (k : Int) → n ≠ mSize k := fun k hk e hn => by
  subst e
  exact hf ⟨hk, hn⟩
theorem frame_any (h : Int) (a : Option Addr) (n c : Nat) (d : List Nat) (w : World) (hk : Kinds w) (hr : Reads .u8 w a n c d) :
    Calls Tryd.prog 19 #[.int .i64 h, .slice a n c] w fun e w' => (∃ v, e = .returned (.tuple #[v, .int .i64 (frameR h d).2]) ∧ OwnQ .u8 5 w.heap.size w' v (frameR h d).1) ∧ Below w.heap.size w w' := by
  have hl := hr.length
  by_cases hf : FrameOk h n
  · have e : frameR h d = (frameL h.toNat d, 0) := by unfold frameR; rw [if_pos (by rw [hl]; exact hf)]
    rw [e]
    obtain ⟨k, rfl, h1, h2⟩ := frameOk_nat hf
    exact frame_yes k h1 a n c d w hk hr h2
  · have e : frameR h d = ([], 80) := by unfold frameR; rw [if_neg (by rw [hl]; exact hf)]
    rw [e]
    exact (frame_no h a n c w hk (frameOk_no hf)).mono fun _ _ ⟨h1, h2⟩ => ⟨⟨_, h1, OwnQ.nil _ _ _ _⟩, h2⟩
theorem encode_any (h : Int) (a : Option Addr) (n c : Nat) (d : List Nat) (size : Int) (w : World) (hk : Kinds w) (hr : Reads .u8 w a n c d) :
    Calls Tryd.prog 21 #[.int .i64 h, .slice a n c, .int .i64 size] w fun e w' => (∃ v, e = .returned (.tuple #[v, .int .i64 (encR h d size).2]) ∧ OwnQ .u8 5 w.heap.size w' v (encR h d size).1) ∧ Below w.heap.size w w' := by
  have hl := hr.length
  by_cases hf : FrameOk h n
  · by_cases hs : size < n + 30 ∨ 65536 < size
    · have e : encR h d size = ([], 2) := by unfold encR; rw [if_pos (by rw [hl]; exact hf), if_pos (by rw [hl]; exact hs)]
      rw [e]
      obtain ⟨k, rfl, h1, h2⟩ := frameOk_nat hf
      exact (encode_noSize k h1 a n c d size w hk hr h2 hs).mono fun _ _ ⟨h1, h2⟩ => ⟨⟨_, h1, OwnQ.nil _ _ _ _⟩, h2⟩
    · have e : encR h d size = (encL h.toNat d size.toNat, 0) := by unfold encR; rw [if_pos (by rw [hl]; exact hf), if_neg (by rw [hl]; exact hs)]
      rw [e]
      obtain ⟨k, rfl, h1, h2⟩ := frameOk_nat hf
      obtain ⟨z, rfl⟩ : ∃ z : Nat, size = (z : Int) := ⟨size.toNat, by omega⟩
      exact encode_yes k h1 a n c d z w hk hr h2 (by omega) (by omega)
  · have e : encR h d size = ([], 80) := by unfold encR; rw [if_neg (by rw [hl]; exact hf)]
    rw [e]
    exact (encode_noFrame h a n c size w hk (frameOk_no hf)).mono fun _ _ ⟨h1, h2⟩ => ⟨⟨_, h1, OwnQ.nil _ _ _ _⟩, h2⟩

end Go.Proofs.YtmfjhgjplmpecaaDoor
