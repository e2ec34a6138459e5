/- Part of the proofs: what the functions that the law calls do. -/
import Derived.Test.YtpefjkndfifceaaGreatDoorPkb1
import Derived.Test.YtpefjkndfifceaaGreatDoorRows
import Derived.OpenShut
import Derived.Below
import Derived.Laws.ResultCell
import Derived.OwnWalk
import Derived.RangeFuncNested
import Derived.RangeFuncBox
import Derived.Test.YtpefjkndfifceaaGreatDoorChecked
import Derived.Laws.BitsAllLaws
import Derived.Laws.Rows
import Derived.Laws.Tables
import Derived.Laws.CopyOwn
import Derived.BigRegion
import Derived.Deep.CutRange
import Derived.RangeFuncBound
import Derived.RangeFuncCalls
import Derived.RangeFuncLeaves
import Derived.Shelf.Abstract
import Derived.Shelf.RegionOpen
import Derived.WalkKit
import Derived.OwnWalkIn
import Derived.TacticsInMore
import Derived.LoopNIn
import Derived.LoopIn
import Derived.Lib.OthersKept
import Derived.Deep.RegionHeld
import Derived.OrdersHeld
import Derived.OrdersIn
import Derived.ControlIn
import Derived.WalkMore
open Go.Lib renaming hid → zH
open List renaming set_cons_succ → zq3
set_option linter.unusedVariables false
set_option linter.unusedSimpArgs false
namespace Go.Proofs.YtpefjkndfifceaaGreatDoor
open Go.RowKit
def mSize : Nat → Nat
 | 1 => 28
 | 2 => 32
 | 3 => 48
 | 4 => 64
 | _ => 0
def mMark : Nat → Nat
 | 1 => 4
 | 2 => 1
 | 3 => 2
 | 4 => 3
 | _ => 0
def mName : Nat → List UInt8
 | 1 => [115, 104, 97, 50, 50, 52]
 | 2 => [115, 104, 97, 50, 53, 54]
 | 3 => [115, 104, 97, 51, 56, 52]
 | 4 => [115, 104, 97, 53, 49, 50]
 | _ => []
def kindL : List (List UInt8 × Int × Int) := [([115, 104, 97, 50, 50, 52], 28, 4), ([115, 104, 97, 50, 53, 54], 32, 1), ([115, 104, 97, 51, 56, 52], 48, 2), ([115, 104, 97, 53, 49, 50], 64, 3)]
def kindC : List Value := [.string (strOf [115, 104, 97, 50, 50, 52]), .int .i64 28, .int .u8 4, .string (strOf [115, 104, 97, 50, 53, 54]), .int .i64 32, .int .u8 1, .string (strOf [115, 104, 97, 51, 56, 52]), .int .i64 48, .int .u8 2, .string (strOf [115, 104, 97, 53, 49, 50]), .int .i64 64, .int .u8 3]
def Kinds (w : World) : Prop := ∀ i, i < 12 → w.cell? ⟨0, i, none⟩ = kindC[i]?
theorem Kinds.lt {w : World} (h : Kinds w) : 0 < w.heap.size := World.block_lt_of_cell? w ⟨0, 0, none⟩ (h 0 (by decide))
theorem Kinds.below {w w' : World} (h : Kinds w) (hb : Below w.heap.size w w') : Kinds w' := fun i hi => (hb.cell (p := ⟨0, i, none⟩) h.lt).trans (h i hi)
theorem Kinds.drew {w : World} (h : Kinds w) : Kinds w.drew := h.below (Below.refl _ _).drew
section
variable {H : Type} {enc : TypeId × Value → H} {w : World} {base : Nat} {sp : Nat → Bool} {held : Bool}
theorem at_one {cs : List Value} {k : Nat} {v : Value} (h : (cs.drop k).take 1 = [v]) : cs[k]? = some v := by
 have := congrArg (·[0]?) h
 simpa [List.getElem?_take, List.getElem?_drop] using this
set_option maxRecDepth 100000 in
theorem kind_cells {fuel : Nat} {cs : List Value} {x : List UInt8 × Int × Int} {p : List MemPlace} (h : DataW.trod enc Tryz.prog w base sp held fuel 92 cs = some (.agg [.lit (.string x.1), .lit (.int .i64 x.2.1), .lit (.int .u8 x.2.2)], p)) :
  cs = [.string (strOf x.1), .int .i64 x.2.1, .int .u8 x.2.2] := by
 obtain ⟨xs, n, rfl, hx, hl, hxl, hall⟩ := DataW.trod_struct Tryz.underlying92 h
 have c3 : Tryz.prog.cellsOf 92 = 3 := by kernel_rfl
 have cs1 : Tryz.prog.cellsOf 9 = 1 := by kernel_rfl
 have ci1 : Tryz.prog.cellsOf 3 = 1 := by kernel_rfl
 have cu1 : Tryz.prog.cellsOf 5 = 1 := by kernel_rfl
 rw [c3] at hl
 have hx3 : xs.map (·.1) = [.lit (.string x.1), .lit (.int .i64 x.2.1), .lit (.int .u8 x.2.2)] := by
  have := congrArg Prod.fst hx
  simpa using this.symm
 obtain ⟨x0, x1, x2, rfl⟩ : ∃ x0 x1 x2, xs = [x0, x1, x2] := by
  match xs, hx3 with
  | [x0, x1, x2], _ => exact ⟨x0, x1, x2, rfl⟩
 simp only [List.map_cons, List.map_nil, List.cons.injEq, and_true] at hx3
 obtain ⟨e0, e1, e2⟩ := hx3
 have f0 := hall 0 _ rfl
 have f1 := hall 1 _ rfl
 have f2 := hall 2 _ rfl
 change DataW.trod _ _ _ _ _ _ _ 9 ((cs.drop 0).take (Tryz.prog.cellsOf 9)) = some x0 at f0
 change DataW.trod _ _ _ _ _ _ _ 3 ((cs.drop 1).take (Tryz.prog.cellsOf 3)) = some x1 at f1
 change DataW.trod _ _ _ _ _ _ _ 5 ((cs.drop 2).take (Tryz.prog.cellsOf 5)) = some x2 at f2
 rw [cs1] at f0
 rw [ci1] at f1
 rw [cu1] at f2
 have g0 : cs[0]? = some (.string (strOf x.1)) := by
  obtain ⟨z, hz, hx', _⟩ := DataW.trod_string Tryz.underlying9 f0
  rw [hx'] at e0
  have e : z.data.toList = x.1 := by simpa using e0
  have : z = strOf x.1 := by
   rw [← e]
   rfl
  rw [← this]
  exact at_one hz
 have g1 : cs[1]? = some (.int .i64 x.2.1) := by
  obtain ⟨z, hz, hx', _⟩ := DataW.trod_int Tryz.underlying3 f1
  rw [hx'] at e1
  cases e1
  exact at_one hz
 have g2 : cs[2]? = some (.int .u8 x.2.2) := by
  obtain ⟨z, hz, hx', _⟩ := DataW.trod_int Tryz.underlying5 f2
  rw [hx'] at e2
  cases e2
  exact at_one hz
 match cs, hl, g0, g1, g2 with
 | [c0, c1, c2], _, g0, g1, g2 =>
  simp at g0 g1 g2
  subst g0 g1 g2
  rfl
set_option maxRecDepth 100000 in
theorem kinds_cells {fuel : Nat} {cs : List Value} {p : List MemPlace} (h : DataW.trod enc Tryz.prog w base sp held fuel 138 cs = some (Rows.laid_postmark_mask_kinds, p)) : ∀ i, i < 12 → cs[i]? = kindC[i]? := by
 obtain ⟨xs, n, rfl, hx, hl, hxl, hall⟩ := DataW.trod_array Tryz.underlying138 h
 have c3 : Tryz.prog.cellsOf 92 = 3 := by kernel_rfl
 have hx4 : xs.map (·.1) = kindL.map fun x => .agg [.lit (.string x.1), .lit (.int .i64 x.2.1), .lit (.int .u8 x.2.2)] := by
  have := congrArg Prod.fst hx
  simpa [Rows.laid_postmark_mask_kinds, kindL] using this.symm
 have row : ∀ i, i < 4 → (cs.drop (i * 3)).take 3 = [.string (strOf (kindL.getD i ([], 0, 0)).1), .int .i64 (kindL.getD i ([], 0, 0)).2.1, .int .u8 (kindL.getD i ([], 0, 0)).2.2] := fun i hi => by
  have h1 := hall i hi
  rw [c3] at h1
  have h2 : (xs.map (·.1))[i]? = some xs[i].1 := by rw [List.getElem?_map, List.getElem?_eq_getElem (by omega)]; rfl
  rw [List.getElem?_eq_getElem (show i < xs.length by omega)] at h1
  rw [hx4, List.getElem?_map] at h2
  have h3 : kindL[i]? = some (kindL.getD i ([], 0, 0)) := by
   have : i < kindL.length := hi
   rw [List.getD, List.getElem?_eq_getElem this]
   rfl
  rw [h3] at h2
  simp only [Option.map_some, Option.some.injEq] at h2
  exact kind_cells (p := xs[i].2) (by rw [h1, h2])
 have cell : ∀ i j, i < 4 → j < 3 → cs[i * 3 + j]? = ([.string (strOf (kindL.getD i ([], 0, 0)).1), .int .i64 (kindL.getD i ([], 0, 0)).2.1, .int .u8 (kindL.getD i ([], 0, 0)).2.2] : List Value)[j]? := fun i j hi hj => by
  rw [← row i hi, List.getElem?_take, if_pos hj, List.getElem?_drop]
 intro i hi
 have h1 := cell (i / 3) (i % 3) (by omega) (by omega)
 rw [show i / 3 * 3 + i % 3 = i by omega] at h1
 rw [h1]
 clear h1
 match i, hi with
 | 0, _ | 1, _ | 2, _ | 3, _ | 4, _ | 5, _ | 6, _ | 7, _ | 8, _ | 9, _ | 10, _ | 11, _ => rfl
end
set_option maxRecDepth 100000 in
theorem kinds_of_laid {W : World} (h : laidMetH Tryz.prog [("postmark/mask.kinds", Rows.laid_postmark_mask_kinds)] W) : Kinds W := by
 have h' : laidMet Tryz.prog [("postmark/mask.kinds", Rows.laid_postmark_mask_kinds)] W := h
 obtain ⟨ps, ⟨g', t', cs, fuel, p, q, hg', ht', hvar, hd, _, _⟩, _⟩ := h'
 have hg : Tryz.prog.globalNamed "postmark/mask.kinds" = some 0 := by kernel_rfl
 have ht : (Tryz.prog.globals[0]?).map (·.type) = some 138 := by kernel_rfl
 obtain rfl := Option.some.inj (hg.symm.trans hg')
 obtain rfl := Option.some.inj (ht.symm.trans ht')
 intro i hi
 have h1 := World.var?_cell hg hvar i
 have h2 := kinds_cells hd i hi
 rw [← h2]
 simpa using h1
end Go.Proofs.YtpefjkndfifceaaGreatDoor
namespace Go.Proofs.YtpefjkndfifceaaGreatDoor
open Go.RowKit
def kindV (h : Nat) : Value := .agg #[.string (strOf (mName h)), .int .i64 (mSize h : Int), .int .u8 (mMark h : Int)]
def IsHash (h : Nat) : Prop := h = 1 ∨ h = 2 ∨ h = 3 ∨ h = 4
theorem isHash_lt {h : Nat} (hh : IsHash h) : 1 ≤ h ∧ h ≤ 4 := by unfold IsHash at hh; omega
theorem mSize_le {h : Nat} (hh : IsHash h) : 28 ≤ mSize h ∧ mSize h ≤ 64 := by rcases hh with rfl | rfl | rfl | rfl <;> decide
theorem known_yesM (h : Nat) (hh : IsHash h) (w : World) (hk : Kinds w) : Calls Tryz.prog 77 #[.int .i64 (h : Int)] w fun e w' => e = .returned (.tuple #[kindV h, .bool true]) ∧ Below w.heap.size w w' := by
 rcases hh with rfl | rfl | rfl | rfl
 ·have c0 : w.cell? ⟨0, 0, none⟩ = some (.string (strOf [115, 104, 97, 50, 50, 52])) := hk 0 (by decide)
  have c1 : w.cell? ⟨0, 1, none⟩ = some (.int .i64 28) := hk 1 (by decide)
  have c2 : w.cell? ⟨0, 2, none⟩ = some (.int .u8 4) := hk 2 (by decide)
  have hlt := hk.lt
  clear hk
  go_enter Tryz.func77, Tryz.ntmps77
  go_wp2
  refine bodyPost_ret (v := .tuple #[kindV 1, .bool true]) ?_ rfl ⟨rfl, ?_⟩
  ·rw [results_cell_tmp rfl]
   go_simp
   rfl
  ·(repeat' (first | exact Below.refl _ _ | refine Below.drew ?_ | refine Below.alloc ?_ (by simp <;> omega) _))
 ·have c0 : w.cell? ⟨0, 3, none⟩ = some (.string (strOf [115, 104, 97, 50, 53, 54])) := hk 3 (by decide)
  have c1 : w.cell? ⟨0, 4, none⟩ = some (.int .i64 32) := hk 4 (by decide)
  have c2 : w.cell? ⟨0, 5, none⟩ = some (.int .u8 1) := hk 5 (by decide)
  have hlt := hk.lt
  clear hk
  go_enter Tryz.func77, Tryz.ntmps77
  go_wp2
  refine bodyPost_ret (v := .tuple #[kindV 2, .bool true]) ?_ rfl ⟨rfl, ?_⟩
  ·rw [results_cell_tmp rfl]
   go_simp
   rfl
  ·(repeat' (first | exact Below.refl _ _ | refine Below.drew ?_ | refine Below.alloc ?_ (by simp <;> omega) _))
 ·have c0 : w.cell? ⟨0, 6, none⟩ = some (.string (strOf [115, 104, 97, 51, 56, 52])) := hk 6 (by decide)
  have c1 : w.cell? ⟨0, 7, none⟩ = some (.int .i64 48) := hk 7 (by decide)
  have c2 : w.cell? ⟨0, 8, none⟩ = some (.int .u8 2) := hk 8 (by decide)
  have hlt := hk.lt
  clear hk
  go_enter Tryz.func77, Tryz.ntmps77
  go_wp2
  refine bodyPost_ret (v := .tuple #[kindV 3, .bool true]) ?_ rfl ⟨rfl, ?_⟩
  ·rw [results_cell_tmp rfl]
   go_simp
   rfl
  ·(repeat' (first | exact Below.refl _ _ | refine Below.drew ?_ | refine Below.alloc ?_ (by simp <;> omega) _))
 ·have c0 : w.cell? ⟨0, 9, none⟩ = some (.string (strOf [115, 104, 97, 53, 49, 50])) := hk 9 (by decide)
  have c1 : w.cell? ⟨0, 10, none⟩ = some (.int .i64 64) := hk 10 (by decide)
  have c2 : w.cell? ⟨0, 11, none⟩ = some (.int .u8 3) := hk 11 (by decide)
  have hlt := hk.lt
  clear hk
  go_enter Tryz.func77, Tryz.ntmps77
  go_wp2
  refine bodyPost_ret (v := .tuple #[kindV 4, .bool true]) ?_ rfl ⟨rfl, ?_⟩
  ·rw [results_cell_tmp rfl]
   go_simp
   rfl
  ·(repeat' (first | exact Below.refl _ _ | refine Below.drew ?_ | refine Below.alloc ?_ (by simp <;> omega) _))
theorem known_noM (h : Int) (hn : h < 1 ∨ 4 < h) (w : World) : Calls Tryz.prog 77 #[.int .i64 h] w fun e w' => e = .returned (.tuple #[.agg #[.string ⟨#[]⟩, .int .i64 0, .int .u8 0], .bool false]) ∧ Below w.heap.size w w' := by
 by_cases h1 : h < 1
 ·have d1 : decide (h < 1) = true := by simpa using h1
  clear hn h1
  go_enter Tryz.func77, Tryz.ntmps77
  go_wp2
  refine bodyPost_ret (v := .tuple #[.agg #[.string ⟨#[]⟩, .int .i64 0, .int .u8 0], .bool false]) ?_ rfl ⟨rfl, ?_⟩
  ·rw [results_cell_tmp rfl]
   go_simp
  ·(repeat' (first | exact Below.refl _ _ | refine Below.drew ?_ | refine Below.alloc ?_ (by simp <;> omega) _))
 ·have d1 : decide (h < 1) = false := by simpa using h1
  have d2 : decide (4 < h) = true := by simp; omega
  clear hn h1
  go_enter Tryz.func77, Tryz.ntmps77
  go_wp2
  refine bodyPost_ret (v := .tuple #[.agg #[.string ⟨#[]⟩, .int .i64 0, .int .u8 0], .bool false]) ?_ rfl ⟨rfl, ?_⟩
  ·rw [results_cell_tmp rfl]
   go_simp
  ·(repeat' (first | exact Below.refl _ _ | refine Below.drew ?_ | refine Below.alloc ?_ (by simp <;> omega) _))
theorem size_yes (h : Nat) (hh : IsHash h) (w : World) (hk : Kinds w) : Calls Tryz.prog 36 #[.int .i64 (h : Int)] w fun e w' => e = .returned (.int .i64 (mSize h : Int)) ∧ Below w.heap.size w w' := by
 go_enter Tryz.func36, Tryz.ntmps36
 go_wp2_with fail
 refine (known_yesM h hh w hk).mono ?_
 rintro e w1 ⟨rfl, h1⟩
 have H1 := zH h1
 clear h1
 unfold kindV
 go_wp2
 go_ret
 exact ⟨rfl, by have h := H1.out; have hs := h.size; (repeat' (first | exact h | refine Below.drew ?_ | refine Below.alloc ?_ (by first | omega | (simp; omega)) _))⟩
theorem size_no (h : Int) (hn : h < 1 ∨ 4 < h) (w : World) : Calls Tryz.prog 36 #[.int .i64 h] w fun e w' => e = .returned (.int .i64 0) ∧ Below w.heap.size w w' := by
 go_enter Tryz.func36, Tryz.ntmps36
 go_wp2_with fail
 refine (known_noM h hn w).mono ?_
 rintro e w1 ⟨rfl, h1⟩
 have H1 := zH h1
 clear h1
 go_wp2
 go_ret
 exact ⟨rfl, by have h := H1.out; have hs := h.size; (repeat' (first | exact h | refine Below.drew ?_ | refine Below.alloc ?_ (by first | omega | (simp; omega)) _))⟩
end Go.Proofs.YtpefjkndfifceaaGreatDoor
namespace Go.Proofs.YtpefjkndfifceaaGreatDoor
open Go.RowKit
theorem infoMk : (Tryz.prog.info? 5).map (fun i => (i.zero, i.size, i.bytes)) = some (some (.int .u8 0), 1, 1) := by kernel_rfl
theorem own_slM {q : IntKind} {E B : Nat} {w : World} {v : Value} {l : List Nat} (h : OwnQ q E B w v l) : ∃ a n cap, v = .slice a n cap ∧ n = l.length ∧ OwnQ q E B w (.slice a n cap) l := by
 obtain ⟨a, c, rfl, -, -⟩ := h.form
 exact ⟨a, _, c, rfl, rfl, h⟩
theorem OwnQ.litM (q : IntKind) (w : World) (E : TypeId) (B : Nat) (hB : B ≤ w.heap.size) (l : List Nat) (cs : Array Value) (n : Nat) (h : cs = (l.map (num q)).toArray) (hn : n = l.length) (hm : l.length ≤ maxLen) : OwnQ q E B (w.alloc (.cells cs E)) (.slice (some ⟨w.heap.size, 0, .none⟩) n n) l := by
 subst h hn
 exact World.ownsRow_lit w _ l.length hB hm (by simp)
theorem Reads.litM (q : IntKind) (w : World) (E : TypeId) (l : List Nat) (cs : Array Value) (n : Nat) (h : cs = (l.map (num q)).toArray) (hn : n = l.length) (hm : l.length ≤ maxLen) : Reads q (w.alloc (.cells cs E)) (some ⟨w.heap.size, 0, .none⟩) n n l :=
 (OwnQ.litM q w E w.heap.size (Nat.le_refl _) l cs n h hn hm).reads
theorem reads_of_bytesM {w : World} {a : Option Addr} {len cap : Nat} {zs : List Int}
  (h : (a = .none ∧ len = 0 ∧ cap = 0 ∧ zs = []) ∨ ∃ x, a = some x ∧ len ≤ cap ∧ cap ≤ maxLen ∧ zs.length = cap ∧ (∀ i, i < zs.length → w.cell? (x.add i) = some (.int .u8 (zs.getD i 0))) ∧ ∀ n ∈ zs, (Lit.int .u8 n).wf = true) :
  ∃ l : List Nat, Reads .u8 w a len cap l ∧ ∀ x ∈ l, x < 256 := by
 rcases h with ⟨rfl, rfl, rfl, rfl⟩ | ⟨x, rfl, hl, hm, hz, hc, hw⟩
 ·exact ⟨[], Reads.none _ w, fun _ h => by cases h⟩
 ·have hbd : ∀ n ∈ zs, 0 ≤ n ∧ n < 256 := fun n hn => by
   have := hw n hn
   simp [Lit.wf, IntKind.min, IntKind.max, IntKind.signed, IntKind.bits] at this
   omega
  refine ⟨(zs.take len).map fun n => n.toNat, ⟨by simp; omega, hl, hm, (fun h => by cases h), fun hp => ?_⟩, fun y hy => ?_⟩
  ·obtain ⟨b, off, spot⟩ := x
   have h0 := hc 0 (by omega)
   have hs : spot = .none := by simpa [Addr.add] using World.cell?_spot h0
   subst hs
   refine ⟨b, off, rfl, World.block_lt_of_cell? w _ (by simpa [Addr.add] using h0), fun i hi => ?_⟩
   have hci := hc i (by omega)
   have e : (⟨b, off, .none⟩ : Addr).add i = ⟨b, off + i, .none⟩ := by unfold Addr.add; split <;> simp_all
   rw [e] at hci
   rw [hci]
   have hlt : i < zs.length := by omega
   have hb := hbd zs[i] (List.getElem_mem _)
   have h1 : zs.getD i 0 = zs[i] := by simp [List.getD, hlt]
   rw [h1]
   simp [hi, hlt]
   omega
  ·obtain ⟨n, hn, rfl⟩ := List.mem_map.1 hy
   have := hbd n (List.mem_of_mem_take hn)
   omega
def frameH (h : Nat) : List Nat := [48, 17 + mSize h, 48, 13, 6, 9, 96, 134, 72, 1, 101, 3, 4, 2, mMark h, 5, 0, 4, mSize h]
def frameL (h : Nat) (d : List Nat) : List Nat := frameH h ++ d
theorem frameH_len (h : Nat) : (frameH h).length = 19 := rfl
theorem mMark_lt {h : Nat} (hh : IsHash h) : mMark h < 256 := by rcases hh with rfl | rfl | rfl | rfl <;> decide
theorem frameH_lt {h : Nat} (hh : IsHash h) : ∀ x ∈ frameH h, x < 256 := by
 rcases hh with rfl | rfl | rfl | rfl <;> decide
set_option maxHeartbeats 1000000 in
theorem frame_yes (h : Nat) (hh : IsHash h) (a : Option Addr) (n c : Nat) (d : List Nat) (w : World) (hk : Kinds w) (hr : Reads .u8 w a n c d) (hn : n = mSize h) :
  Calls Tryz.prog 123 #[.int .i64 (h : Int), .slice a n c] w fun e w' => (∃ v, e = .returned (.tuple #[v, .int .i64 0]) ∧ OwnQ .u8 5 w.heap.size w' v (frameL h d)) ∧ Below w.heap.size w w' := by
 obtain ⟨i0, hi, hz0, hz1, hz2⟩ := info_parts infoMk
 have HR := zH hr
 have hs := mSize_le hh
 have hn64 : n ≤ 64 := by omega
 have HMK := zH (mMark_lt hh)
 obtain ⟨s, hse⟩ : ∃ s, s = mSize h := ⟨_, rfl⟩
 obtain ⟨m, hme⟩ : ∃ m, m = mMark h := ⟨_, rfl⟩
 have HF := zH (show frameH h = [48, 17 + s, 48, 13, 6, 9, 96, 134, 72, 1, 101, 3, 4, 2, m, 5, 0, 4, s] by rw [hse, hme]; rfl)
 have t1 : ((n : Int) != (s : Int)) = false := by simp; omega
 have w1 : IntKind.u8.wrap (s : Int) = (s : Int) := by rw [IntKind.wrap_u8]; omega
 have w2 : IntKind.u8.wrap (17 + (s : Int)) = ((17 + s : Nat) : Int) := by rw [IntKind.wrap_u8]; omega
 go_enter Tryz.func123, Tryz.ntmps123
 go_wp2_with fail
 refine (known_yesM h hh w hk).mono ?_
 rintro e w1 ⟨rfl, h1⟩
 have HB1 := zH h1
 have HDL := zH (show d.length = n from HR.out.length)
 unfold kindV
 rw [← hse, ← hme]
 have HSE := zH hse
 have hz1s : w.heap.size ≤ w1.heap.size := h1.size
 have hk0 := OwnQ.litM .u8 (w1.alloc (.cells #[.string (strOf (mName h)), .int .i64 (s : Int), .int .u8 (m : Int)] 92)) 5 w.heap.size (by simp; omega) (frameH h) #[.int .u8 48, .int .u8 (17 + (s : Int)), .int .u8 48, .int .u8 13, .int .u8 6, .int .u8 9, .int .u8 96, .int .u8 134, .int .u8 72, .int .u8 1, .int .u8 101, .int .u8 3, .int .u8 4, .int .u8 2, .int .u8 (m : Int), .int .u8 5, .int .u8 0, .int .u8 4, .int .u8 (s : Int)] 19 (by rw [HF.out]; simp [num]) (by rw [frameH_len]) (by rw [frameH_len]; decide)
 rw [World.size_alloc] at hk0
 have HK0 := zH hk0
 clear hk0
 clear h1 hr hse hme hs hk hn
 go_wp2_with (at_builtin; go_loud (refine wpList_append_q .u8 _ rfl _ _ 22 rfl w.heap.size 5 1 i0 Tryz.underlying22 hi hz0 hz1 hz2 (by decide) _ (frameH h) rfl HK0.out a n c d rfl (HR.out.below (by have h := HB1.out; have hs := h.size; (repeat' (first | exact h | refine Below.drew ?_ | refine Below.alloc ?_ (by first | omega | (simp; omega)) _)))) (by rw [frameH_len]; omega) (by have := HB1.out.size; simp; omega) ?_); intro v2 w2 hown hgrow; have HO := zH hown; have HB2 := zH (hgrow w (by have h := HB1.out; have hs := h.size; (repeat' (first | exact h | refine Below.drew ?_ | refine Below.alloc ?_ (by first | omega | (simp; omega)) _)))); clear hown hgrow)
 go_ret2
 exact ⟨⟨_, rfl, HO.out⟩, HB2.out⟩
theorem frame_no (h : Int) (a : Option Addr) (n c : Nat) (w : World) (hk : Kinds w) (hn : ∀ k : Nat, IsHash k → h = (k : Int) → n ≠ mSize k) :
  Calls Tryz.prog 123 #[.int .i64 h, .slice a n c] w fun e w' => e = .returned (.tuple #[.slice none 0 0, .int .i64 80]) ∧ Below w.heap.size w w' := by
 by_cases hh : h < 1 ∨ 4 < h
 ·go_enter Tryz.func123, Tryz.ntmps123
  go_wp2_with fail
  refine (known_noM h hh w).mono ?_
  rintro e w1 ⟨rfl, h1⟩
  have H1 := zH h1
  clear h1 hh hn
  go_wp2
  go_ret2
  exact ⟨rfl, by have h := H1.out; have hs := h.size; (repeat' (first | exact h | refine Below.drew ?_ | refine Below.alloc ?_ (by first | omega | (simp; omega)) _))⟩
 ·obtain ⟨k, hk1, hk2⟩ : ∃ k : Nat, IsHash k ∧ h = (k : Int) := ⟨h.toNat, by unfold IsHash; omega, by omega⟩
  have hne := hn k hk1 hk2
  have t1 : ((n : Int) != (mSize k : Int)) = true := by simp; omega
  subst hk2
  clear hh hn hne
  go_enter Tryz.func123, Tryz.ntmps123
  go_wp2_with fail
  refine (known_yesM k hk1 w hk).mono ?_
  rintro e w1 ⟨rfl, h1⟩
  have H1 := zH h1
  unfold kindV
  clear h1
  go_wp2
  go_ret2
  exact ⟨rfl, by have h := H1.out; have hs := h.size; (repeat' (first | exact h | refine Below.drew ?_ | refine Below.alloc ?_ (by first | omega | (simp; omega)) _))⟩
end Go.Proofs.YtpefjkndfifceaaGreatDoor
namespace Go.Proofs.YtpefjkndfifceaaGreatDoor
open Go.RowKit
set_option maxRecDepth 100000
theorem OwnQ.madeM {q : IntKind} {E : TypeId} {B : Nat} {w : World} {g n : Nat} {z : List Value} (h : w.ownsRow B E 1 (.slice (some ⟨g, 0, none⟩) n n) n z) (hz : z = (madeCells (Value.int q 0).cells (n * 1)).toList) : OwnQ q E B w (.slice (some ⟨g, 0, none⟩) n n) (List.replicate n 0) := by
 unfold OwnQ
 rw [← zeros_q, ← hz]
 simpa using h
theorem wpList_make_lcM {P : Program} (q : IntKind) (w : World) {ops : Array Oper} {rest : List Oper} {o : Oper} {a : Act} {Q : Exit → Act → World → Prop}
  (hg : o.guard = none) (l c : Operand) (t : TypeId) (hop : o.op = Op.makeSlice t l c)
  (base : Nat) (e : TypeId) (i : TypeInfo) (h1 : P.underlying t = some (.slice e)) (h2 : P.info? e = some i) (h3 : i.zero = some (.int q 0)) (h4 : i.size = 1)
  (kl kc : IntKind) (L C : Int) (m n : Nat) (hl : a.eval l = .int kl L) (hc : a.eval c = .int kc C) (hL : L = (m : Int)) (hC : C = (n : Int)) (hmn : m ≤ n) (b2 : i.bytes * n ≤ 281474976710656) (b3 : n ≤ maxLen) (b4 : base ≤ w.heap.size)
  (hK : ∀ w', OwnQ q e base w' (.slice (some ⟨w.heap.size, 0, none⟩) m n) (List.replicate m 0) → w.grownBy w' none → wpList P ops Q rest (a.put o.dst (.slice (some ⟨w.heap.size, 0, none⟩) m n)) w') :
  wpList P ops Q (o :: rest) a w := by
 refine wpList_plain hg fun K hK' => ?_
 subst hL
 subst hC
 have h63' : (n : Int) ≤ 9223372036854775807 := by
  have h := b3
  simp [maxLen] at h
  omega
 have hb' : (i.bytes : Int) * (n : Int) ≤ 281474976710656 := by
  have h : ((i.bytes * n : Nat) : Int) ≤ 281474976710656 := by omega
  rwa [Int.natCast_mul] at h
 have hr := run_make (P := P) w t e i (.int q 0) h1 h2 h3 kl kc m n (by omega) (by omega) hb' h63'
 simp only [Int.toNat_natCast] at hr
 have hown : OwnQ q e base (w.alloc (.cells (madeCells (Value.int q 0).cells (n * i.size)) e)) (.slice (some ⟨w.heap.size, 0, none⟩) n n) (List.replicate n 0) := by
  rw [h4]
  exact OwnQ.madeM (World.ownsRow_lit w _ n b4 b3 (size_madeCells _ _)) rfl
 have hup := hown.upto m hmn
 rw [List.take_replicate, Nat.min_eq_left hmn] at hup
 unfold Oper.wp
 simp [execOp, hop, hl, hc, hr, Result.andThen]
 exact hK' _ _ (hK _ hup (World.grownBy_alloc w _ none))
def lenM : Value → Nat
 | .slice _ n _ => n
 | _ => 0
def mEncP (h P : Nat) (d : List Nat) : List Nat := [0, 1] ++ List.replicate P 255 ++ [0] ++ frameL h d
def encL (h : Nat) (d : List Nat) (size : Nat) : List Nat := mEncP h (size - (19 + mSize h) - 3) d
set_option maxHeartbeats 2000000 in
theorem encode_yes (h : Nat) (hh : IsHash h) (a : Option Addr) (n c : Nat) (d : List Nat) (size : Nat) (w : World) (hk : Kinds w) (hr : Reads .u8 w a n c d) (hn : n = mSize h) (hlo : n + 30 ≤ size) (hhi : size ≤ 65536) :
  Calls Tryz.prog 80 #[.int .i64 (h : Int), .slice a n c, .int .i64 (size : Int)] w fun e w' => (∃ v, e = .returned (.tuple #[v, .int .i64 0]) ∧ OwnQ .u8 5 w.heap.size w' v (encL h d size)) ∧ Below w.heap.size w w' := by
 obtain ⟨i0, hi, hz0, hz1, hz2⟩ := info_parts infoMk
 have hs := mSize_le hh
 have hn64 : n ≤ 64 := by omega
 obtain ⟨P, hP⟩ : ∃ P, P = size - (19 + n) - 3 := ⟨_, rfl⟩
 have HE := zH (show encL h d size = mEncP h P d by rw [hP, hn]; rfl)
 have hPs : size = 19 + n + 3 + P := by omega
 have HDL := zH (show d.length = n from hr.length)
 have HR := zH hr
 have HN := zH hn
 clear hr hn hP hs
 subst hPs
 have hP2 : P ≤ 65536 := by omega
 have t1 : decide (((19 + n + 3 + P : Nat) : Int) < ((19 + n : Nat) : Int) + 11) = false := by simp; omega
 have t2 : decide ((65536 : Int) < ((19 + n + 3 + P : Nat) : Int)) = false := by simp; omega
 obtain ⟨size, hsize⟩ : ∃ size, size = 19 + n + 3 + P := ⟨_, rfl⟩
 obtain ⟨f, hf⟩ : ∃ f, f = 19 + n := ⟨_, rfl⟩
 rw [← hsize] at t1 t2 hlo hhi ⊢
 rw [← hf] at t1
 have hsub : (size : Int) - (f : Int) - 1 = ((2 + P : Nat) : Int) := by omega
 have HSZ := zH hsize
 have HFF := zH hf
 have hfb : f ≤ 83 := by omega
 clear hsize hf
 go_enter Tryz.func80, Tryz.ntmps80
 go_wp2_with fail
 refine (frame_yes h hh a n c d w hk HR.out HN.out).mono ?_
 rintro e w1 ⟨⟨v, rfl, ho⟩, h1⟩
 obtain ⟨fa, fn, fc, rfl, hfn, ho⟩ := own_slM ho
 rw [frameL, List.length_append, frameH_len, HDL.out, ← HFF.out] at hfn
 subst hfn
 have HF := zH ho
 have HB1 := zH h1
 have hz1w : w.heap.size ≤ w1.heap.size := h1.size
 clear ho h1 hk
 go_wp2_with (first
  | (at_make; refine wpList_make_lcM .u8 _ rfl _ _ 22 rfl w1.heap.size 5 i0 Tryz.underlying22 hi hz0 hz1 _ _ _ _ 0 size rfl rfl rfl rfl (Nat.zero_le _) (by rw [hz2]; omega) (by unfold maxLen; omega) (Nat.le_refl _) ?_; intro w2 hown hgrow; have HO2 := zH hown; have HB2 := zH ((Below.refl w1.heap.size w1).grown hgrow (Nat.le_refl _) (fun r e => by cases e)); clear hown hgrow)
  | (at_builtin; (refine wpList_append_q .u8 _ rfl _ _ 22 rfl w1.heap.size 5 1 i0 Tryz.underlying22 hi hz0 hz1 hz2 (by decide) _ ([]) rfl (HO2.out.alloc _) _ 2 2 ([0, 1]) rfl (Reads.litM .u8 w2 5 [0, 1] #[.int .u8 0, .int .u8 1] 2 (by simp [num]) rfl (by decide)) (by simp) (by have := HB2.out.size; simp; omega) ?_; intro v3 w3 hown hgrow; rw [List.nil_append] at hown; have HO3 := zH hown; have HB3 := zH (hgrow w1 (HB2.out.alloc HB2.out.size _)); clear hown hgrow)))
 obtain ⟨a3, n3, c3, rfl, hn3, ho3⟩ := own_slM HO3.out
 have HO4 := zH ho3
 obtain rfl : n3 = 2 := hn3
 clear HO3 ho3
 go_loopw [10] (fun sv wq => ∃ (j m c' : Nat) (a' : Option Addr), sv = .slice a' m c' ∧ m ≤ 70000 ∧ j ≤ P ∧ Hid (m = 2 + j ∧ OwnQ .u8 5 w1.heap.size wq (.slice a' m c') ([0, 1] ++ List.replicate j 255) ∧ Below w1.heap.size w1 wq)) (fun sv _ => 2 + P - lenM sv)
 case atStart => exact ⟨0, 2, c3, a3, rfl, by omega, Nat.zero_le _, rfl, by rw [List.replicate_zero, List.append_nil]; exact HO4.out, HB3.out⟩
 case round =>
  obtain ⟨j, m, c', a', rfl, hm, hj, hI⟩ := hrel
  have hszr := hI.out.2.2.size
  by_cases hlt : j < P
  ·have tl : decide ((m : Int) < 2 + (P : Int)) = true := by have := hI.out.1; simp; omega
   go_wp2_with (at_builtin; (refine wpList_append_q .u8 _ rfl _ _ 22 rfl w1.heap.size 5 1 i0 Tryz.underlying22 hi hz0 hz1 hz2 (by decide) _ ([0, 1] ++ List.replicate j 255) rfl (hI.out.2.1.alloc _) _ 1 1 ([255]) rfl (Reads.one .u8 _ _ _ _ rfl) (by simp; omega) (by have := hI.out.2.2.size; simp; omega) ?_; intro v5 w5 hown hgrow; obtain ⟨a5, n5, c5, rfl, hn5, ho5⟩ := own_slM hown; have HO5 := zH ho5; have HN5 := zH hn5; have HB5 := zH (hgrow w1 (hI.out.2.2.alloc hI.out.2.2.size _)); clear hown hgrow hn5 ho5))
   have hn6 : n5 = 2 + (j + 1) := by rw [HN5.out]; simp; omega
   go_roundw
   case rel => exact ⟨j + 1, n5, c5, a5, rfl, by omega, by omega, hn6, by
    have h := HO5.out
    rw [List.append_assoc, ← List.replicate_succ'] at h
    exact h, HB5.out⟩
   case measure =>
    have h1 := hI.out.1
    simp [lenM]
    omega
  ·obtain rfl : j = P := by omega
   have tl : decide ((m : Int) < 2 + (j : Int)) = false := by have := hI.out.1; simp; omega
   have HI := zH hI.out
   have HFR := zH (HF.out.below hI.out.2.2)
   have hmj := hI.out.1
   clear hI
   go_wp2_with (at_builtin; first
    | (refine wpList_append_q .u8 _ rfl _ _ 22 rfl w1.heap.size 5 1 i0 Tryz.underlying22 hi hz0 hz1 hz2 (by decide) _ ([0, 1] ++ List.replicate j 255) rfl (HI.out.2.1.alloc _) _ 1 1 ([0]) rfl (Reads.one .u8 _ _ _ _ rfl) (by simp; omega) (by have := HI.out.2.2.size; simp; omega) ?_; intro v6 w6 hown hgrow; have HO6 := zH hown; have HB6 := zH (hgrow w1 (HI.out.2.2.alloc HI.out.2.2.size _)); clear hown hgrow)
    | (refine wpList_append_q .u8 _ rfl _ _ 22 rfl w1.heap.size 5 1 i0 Tryz.underlying22 hi hz0 hz1 hz2 (by decide) _ ([0, 1] ++ List.replicate j 255 ++ [0]) rfl (HO6.out) fa fn fc (frameL h d) rfl ((HF.out.below HB6.out).reads) (by simp; omega) (HB6.out.size) ?_; intro v7 w7 hown hgrow; have HO7 := zH hown; have HB7 := zH (hgrow w1 HB6.out); clear hown hgrow))
   go_ret2
   exact ⟨⟨_, rfl, by have := HO7.out.mono hz1w; rw [HSZ.out, HE.out]; exact this⟩, HB1.out.trans (HB7.out.mono hz1w)⟩
end Go.Proofs.YtpefjkndfifceaaGreatDoor
namespace Go.Proofs.YtpefjkndfifceaaGreatDoor
open Go.RowKit
set_option maxRecDepth 100000
theorem encode_noFrame (h : Int) (a : Option Addr) (n c : Nat) (size : Int) (w : World) (hk : Kinds w) (hn : ∀ k : Nat, IsHash k → h = (k : Int) → n ≠ mSize k) :
  Calls Tryz.prog 80 #[.int .i64 h, .slice a n c, .int .i64 size] w fun e w' => e = .returned (.tuple #[.slice none 0 0, .int .i64 80]) ∧ Below w.heap.size w w' := by
 go_enter Tryz.func80, Tryz.ntmps80
 go_wp2_with fail
 refine (frame_no h a n c w hk hn).mono ?_
 rintro e w1 ⟨rfl, h1⟩
 have H1 := zH h1
 clear h1 hn
 go_wp2
 go_ret2
 exact ⟨rfl, H1.out⟩
theorem encode_noSize (h : Nat) (hh : IsHash h) (a : Option Addr) (n c : Nat) (d : List Nat) (size : Int) (w : World) (hk : Kinds w) (hr : Reads .u8 w a n c d) (hn : n = mSize h) (hs : size < n + 30 ∨ 65536 < size) :
  Calls Tryz.prog 80 #[.int .i64 (h : Int), .slice a n c, .int .i64 size] w fun e w' => e = .returned (.tuple #[.slice none 0 0, .int .i64 2]) ∧ Below w.heap.size w w' := by
 have HDL := zH (show d.length = n from hr.length)
 have hsz := mSize_le hh
 have hn64 : n ≤ 64 := by omega
 have HR := zH hr
 have HN := zH hn
 obtain ⟨f, hf⟩ : ∃ f, f = 19 + n := ⟨_, rfl⟩
 have hfb : f ≤ 83 := by omega
 have HFF := zH hf
 have hs2 : size < (f : Int) + 11 ∨ ¬ size < (f : Int) + 11 ∧ 65536 < size := by omega
 clear hr hn hf hsz hs
 rcases hs2 with h2 | ⟨h2, h3⟩
 ·have t1 : decide (size < (f : Int) + 11) = true := by simpa using h2
  clear h2
  go_enter Tryz.func80, Tryz.ntmps80
  go_wp2_with fail
  refine (frame_yes h hh a n c d w hk HR.out HN.out).mono ?_
  rintro e w1 ⟨⟨v, rfl, ho⟩, h1⟩
  obtain ⟨fa, fn, fc, rfl, hfn, ho⟩ := own_slM ho
  rw [frameL, List.length_append, frameH_len, HDL.out, ← HFF.out] at hfn
  subst hfn
  have HB1 := zH h1
  clear ho h1 hk
  go_wp2
  go_ret2
  exact ⟨rfl, HB1.out⟩
 ·have t1 : decide (size < (f : Int) + 11) = false := by simpa using h2
  have t2 : decide (65536 < size) = true := by simpa using h3
  clear h2 h3
  go_enter Tryz.func80, Tryz.ntmps80
  go_wp2_with fail
  refine (frame_yes h hh a n c d w hk HR.out HN.out).mono ?_
  rintro e w1 ⟨⟨v, rfl, ho⟩, h1⟩
  obtain ⟨fa, fn, fc, rfl, hfn, ho⟩ := own_slM ho
  rw [frameL, List.length_append, frameH_len, HDL.out, ← HFF.out] at hfn
  subst hfn
  have HB1 := zH h1
  clear ho h1 hk
  go_wp2
  go_ret2
  exact ⟨rfl, HB1.out⟩
def FrameOk (h : Int) (n : Nat) : Prop := IsHash h.toNat ∧ n = mSize h.toNat
instance (h : Int) (n : Nat) : Decidable (FrameOk h n) := by unfold FrameOk IsHash; infer_instance
def frameR (h : Int) (d : List Nat) : List Nat × Int := if FrameOk h d.length then (frameL h.toNat d, 0) else ([], 80)
def encR (h : Int) (d : List Nat) (size : Int) : List Nat × Int := if FrameOk h d.length then (if size < d.length + 30 ∨ 65536 < size then ([], 2) else (encL h.toNat d size.toNat, 0)) else ([], 80)
theorem frameOk_nat {h : Int} {n : Nat} (hf : FrameOk h n) : ∃ k : Nat, h = (k : Int) ∧ IsHash k ∧ n = mSize k := by
 obtain ⟨h1, h2⟩ := hf
 refine ⟨h.toNat, ?_, h1, h2⟩
 have := isHash_lt h1
 omega
theorem frameOk_no {h : Int} {n : Nat} (hf : ¬ FrameOk h n) : ∀ k : Nat, IsHash k → h = (k : Int) → n ≠ mSize k := fun k hk e hn => by
 subst e
 exact hf ⟨hk, hn⟩
theorem encode_any (h : Int) (a : Option Addr) (n c : Nat) (d : List Nat) (size : Int) (w : World) (hk : Kinds w) (hr : Reads .u8 w a n c d) :
  Calls Tryz.prog 80 #[.int .i64 h, .slice a n c, .int .i64 size] w fun e w' => (∃ v, e = .returned (.tuple #[v, .int .i64 (encR h d size).2]) ∧ OwnQ .u8 5 w.heap.size w' v (encR h d size).1) ∧ Below w.heap.size w w' := by
 have hl := hr.length
 by_cases hf : FrameOk h n
 ·by_cases hs : size < n + 30 ∨ 65536 < size
  ·have e : encR h d size = ([], 2) := by unfold encR; rw [if_pos (by rw [hl]; exact hf), if_pos (by rw [hl]; exact hs)]
   rw [e]
   obtain ⟨k, rfl, h1, h2⟩ := frameOk_nat hf
   exact (encode_noSize k h1 a n c d size w hk hr h2 hs).mono fun _ _ ⟨h1, h2⟩ => ⟨⟨_, h1, OwnQ.nil _ _ _ _⟩, h2⟩
  ·have e : encR h d size = (encL h.toNat d size.toNat, 0) := by unfold encR; rw [if_pos (by rw [hl]; exact hf), if_neg (by rw [hl]; exact hs)]
   rw [e]
   obtain ⟨k, rfl, h1, h2⟩ := frameOk_nat hf
   obtain ⟨z, rfl⟩ : ∃ z : Nat, size = (z : Int) := ⟨size.toNat, by omega⟩
   exact encode_yes k h1 a n c d z w hk hr h2 (by omega) (by omega)
 ·have e : encR h d size = ([], 80) := by unfold encR; rw [if_neg (by rw [hl]; exact hf)]
  rw [e]
  exact (encode_noFrame h a n c size w hk (frameOk_no hf)).mono fun _ _ ⟨h1, h2⟩ => ⟨⟨_, h1, OwnQ.nil _ _ _ _⟩, h2⟩
end Go.Proofs.YtpefjkndfifceaaGreatDoor
namespace Go.Proofs.YtpefjkndfifceaaGreatDoor
open Go.RowKit
def KpR (R : Nat → Prop) (W W' : World) : Prop := W.heap.size ≤ W'.heap.size ∧ ∀ (k : Nat), R k → W'.heap[k]? = W.heap[k]?
theorem KpR.refl (R : Nat → Prop) (W : World) : KpR R W W := ⟨Nat.le_refl _, fun _ _ => rfl⟩
theorem KpR.trans {R : Nat → Prop} {X Y Z : World} (h : KpR R X Y) (k : KpR R Y Z) : KpR R X Z := ⟨Nat.le_trans h.1 k.1, fun i hi => (k.2 i hi).trans (h.2 i hi)⟩
theorem KpR.grown {R : Nat → Prop} {W W' : World} {row : Option Nat} (hg : W.grownBy W' row) (hlt : ∀ k, R k → k < W.heap.size) (hr : ∀ r, row = some r → ¬ R r) : KpR R W W' :=
 ⟨hg.size, fun k hk => hg.block k (hlt k hk) fun e => hr k e.symm hk⟩
theorem KpR.put {R : Nat → Prop} (W : World) (l : Nat) (o : Obj) (hl : ¬ R l) : KpR R W (W.putObj l o) :=
 ⟨(grownBy_putObj' W l o).size, fun k hk => World.putObj_heap_other fun e => hl (e ▸ hk)⟩
def SeqR {α : Type} (R : Nat → Prop) (F : Fence) (n : Nat) (P : Program) (g : Nat) (lb : Array Value) (encs : α → Array Value) (S Sp : List α → Prop) (w : World) : Prop :=
 ∀ (l : Nat) (J Jx : List α → World → Prop) (W : World), Below w.heap.size w W → (∀ s X X' row, J s X → X.grownBy X' row → (∀ r, row = some r → R r) → J s X') →
  (∀ s X X' row, Jx s X → X.grownBy X' row → (∀ r, row = some r → R r) → Jx s X') →
  (∀ pre x X, J pre X → YieldAt F (n - 1) P l (encs x) X fun e X' => (e = .returned (.bool true) ∧ J (pre ++ [x]) X' ∧ KpR R X X') ∨ (e = .returned (.bool false) ∧ Jx (pre ++ [x]) X')) →
  J [] W → CallsIn F n P g (#[.func (.yield l) #[] #[]] ++ lb) W fun e X => (∃ v, e = .returned v) ∧ ((∃ xs, S xs ∧ J xs X) ∨ ∃ pre, Sp pre ∧ Jx pre X)
def StaysR {β : Type} (R : Nat → Prop) (B : Nat) (J : β → World → Prop) : Prop := ∀ s W W' row, J s W → W.grownBy W' row → (∀ r, row = some r → R r ∨ B ≤ r ∧ ∃ o : Obj, W.heap[r]? = some o ∧ o.isCells = false) → J s W'
set_option maxHeartbeats 1000000 in
theorem wpIn_rangeR {α : Type} {F : Fence} {n : Nat} {P : Program} {R : Nat → Prop} {g : Operand} {ps : Array Tmp} {assign body : Code} {Q : Exit → Act → World → Prop} {a : Act} {w : World}
  (hro : F.round = none) (h1 : 1 ≤ n) {gf : Nat} {lb : Array Value} (hg : a.eval g = .func (.func gf) #[] lb) (hFg : F.fn gf) (eg : ∀ args w, (callFunc gf args).run P w = .ok (.enter gf args) w)
  {encs : α → Array Value} {S Sp : List α → Prop} {w0 : World} (hseq : SeqR R F (n - 1) P gf lb encs S Sp w0) (hRl : ∀ k, R k → k < w.heap.size) (hb0 : Below w0.heap.size w0 w) (hps : ∀ x, (encs x).size = ps.size)
  (I : List α → World → Prop) (Ix : Code → List α → World → Prop) (hI : StaysR R w.heap.size I) (hIx : ∀ c, StaysR R w.heap.size (Ix c)) (h0 : I [] w) (a₁ : α → Act)
  (hassign : ∀ (l : Nat) (x : α) (W : World) (K : Act → World → Prop), K (a₁ x) W →
   assign.wpIn (F.inRound l) (n - 1 - 1) P (Exit.then K (fun _ _ _ => False)) { tmps := (ps.zip (encs x)).foldl (fun t (p, v) => t.setIfInBounds p v) a.tmps, defers := [] } W)
  (hbody : ∀ (l : Nat) (pre : List α) (x : α) (W : World), I pre W → body.wpIn (F.inRound l) (n - 1 - 1) P (ownPostG w.heap.size (KpR R) I Ix (pre ++ [x]) W) (a₁ x) W)
  (hdone : ∀ (D : Nat) (xs : List α) (W : World), w.heap.size ≤ D → S xs → I xs W → W.heap[D]? = some (.deferred (some [])) → Q .normal { a with defers := { target := .collected D, args := #[] } :: a.defers } W)
  (hstop : ∀ (D : Nat) (c : Code) (pre : List α) (W : World), w.heap.size ≤ D → Sp pre → Ix c pre W → W.heap[D]? = some (.deferred (some [])) → c.wpIn F n P Q { a with defers := { target := .collected D, args := #[] } :: a.defers } W) :
  (Code.rangeFunc g ps assign body).wpIn F n P Q a w := by
 refine wpIn_rangeFunc fun fn hfn => ?_
 rw [hro]
 generalize hB : w.heap.size = B at *
 obtain ⟨rc, hrc⟩ : ∃ rc : LoopState → Option Code → Loop, rc = fun st pe => { state := st, pending := pe, fn, tmps := a.tmps, params := ps, assign, body, defers := B } := ⟨_, rfl⟩
 obtain ⟨W1, hW1⟩ : ∃ W1, (w.alloc (.deferred (some []))).alloc (.loop (rc .ready none)) = W1 := ⟨_, rfl⟩
 have bel1 : Below B w W1 := by rw [← hW1]; exact ((Below.refl _ w).alloc (Nat.le_of_eq hB.symm) _).alloc (by simp; omega) _
 have hD1 : W1.heap[B]? = some (.deferred (some [])) := by
  rw [← hW1]
  refine (Below.heap_alloc _ _ _ (by simp; omega)).trans ?_
  have := World.alloc_heap_new w (.deferred (some []))
  rwa [hB] at this
 have hL1 : W1.heap[B + 1]? = some (.loop (rc .ready none)) := by
  have := World.alloc_heap_new (w.alloc (.deferred (some []))) (.loop (rc .ready none))
  rwa [World.size_alloc, hB, hW1] at this
 have hz1 : W1.heap.size = B + 2 := by rw [← hW1]; simp; omega
 have hi1 : I [] W1 := by
  rw [← hW1]
  exact hI _ _ _ none (hI _ _ _ none h0 (World.grownBy_alloc w _ none) (fun r e => by cases e)) (World.grownBy_alloc _ _ none) (fun r e => by cases e)
 have put : ∀ {G : List α → World → Prop} (_ : StaysR R B G) {s : List α} {W : World} {r : Loop} (o : Obj), G s W → W.heap[B + 1]? = some (.loop r) → G s (W.putObj (B + 1) o) := fun hG s W r o hs hl =>
  hG s W _ (some (B + 1)) hs (grownBy_putObj' W (B + 1) o) (fun k e => by cases e; exact .inr ⟨by omega, _, hl, rfl⟩)
 refine ⟨B + 1, [{ target := .collected B, args := #[] }], W1, { target := .fn (.func gf) lb, args := #[.func (.yield (B + 1)) #[] #[]] }, W1, gf, #[.func (.yield (B + 1)) #[] #[]] ++ lb, W1, ?_, by simp only [resolve, hg]; simp [go_sem], ?_, by simp [invoke, go_sem, eg], fun _ => h1, ?_⟩
 ·rw [← hW1, hrc, ← hB]
  exact run_enterLoop_outer _ _ _ _ _
 ·intro f' hf'
  simp [Target.leads] at hf'
  subst hf'
  exact hFg
 have stay : ∀ {G : List α → World → Prop} (_ : StaysR R B G) (ro : Loop) (s : List α) (X X' : World) (row : Option Nat), (G s X ∧ X.heap[B + 1]? = some (.loop ro) ∧ X.heap[B]? = some (.deferred (some []))) → X.grownBy X' row → (∀ r, row = some r → R r) → G s X' ∧ X'.heap[B + 1]? = some (.loop ro) ∧ X'.heap[B]? = some (.deferred (some [])) := fun hG ro s X X' row h hgr hr =>
  ⟨hG s X X' row h.1 hgr (fun r e => .inl (hr r e)), (hgr.block _ (Array.getElem?_eq_some_iff.1 h.2.1).1 (fun e => by have := hRl _ (hr _ e.symm); omega)).trans h.2.1, (hgr.block _ (Array.getElem?_eq_some_iff.1 h.2.2).1 (fun e => by have := hRl _ (hr _ e.symm); omega)).trans h.2.2⟩
 refine (hseq (B + 1) (fun s X => I s X ∧ X.heap[B + 1]? = some (.loop (rc .ready none)) ∧ X.heap[B]? = some (.deferred (some [])))
  (fun s X => ∃ c, Ix c s X ∧ X.heap[B + 1]? = some (.loop (rc .done (some c))) ∧ X.heap[B]? = some (.deferred (some []))) W1 (hb0.trans (bel1.mono (by rw [← hB]; exact hb0.size)))
  (fun s X X' row h hgr hr => stay hI _ s X X' row h hgr hr) (fun s X X' row ⟨c, h⟩ hgr hr => ⟨c, stay (hIx c) _ s X X' row h hgr hr⟩) ?_ ⟨hi1, hL1, hD1⟩).mono ?_
 ·rintro pre x X ⟨hi, hl, hd⟩
  have hlt : B + 1 < X.heap.size := (Array.getElem?_eq_some_iff.1 hl).1
  have hy := run_yield (P := P) (args := encs x) hl (by rw [hrc]; exact hps x)
  rw [hrc] at hy
  refine ⟨fn, _, assign, body, hy, roundIn_of_wpIn hfn (hassign _ x X _ ⟨_, run_beginRound hl (by rw [hrc]), wpIn_mono (hbody _ pre x _ (put hI _ hi hl)) ?_⟩)⟩
  obtain ⟨X2, hX2⟩ : ∃ X2, X.putObj (B + 1) (.loop { rc .ready none with state := .busy }) = X2 := ⟨_, rfl⟩
  rw [hX2]
  have hl2 : X2.heap[B + 1]? = some (.loop { rc .ready none with state := .busy }) := by rw [← hX2]; exact World.putObj_heap_same hlt
  have hd2 : X2.heap[B]? = some (.deferred (some [])) := by rw [← hX2]; exact (World.putObj_heap_other (by omega)).trans hd
  have kp2 : KpR R X X2 := by rw [← hX2]; exact KpR.put X _ _ (fun h => by have := hRl _ h; omega)
  have last : ∀ (j : Option Code) (X3 : World), KeepsFrom B X2 X3 → (Instr.endRound (B + 1) j).run P X3 = .ok (.bool j.isNone) (X3.putObj (B + 1) (.loop (rc (if j.isNone then .ready else .done) j))) ∧ X3.heap[B + 1]? = some (.loop { rc .ready none with state := .busy }) ∧ (X3.putObj (B + 1) (.loop (rc (if j.isNone then .ready else .done) j))).heap[B + 1]? = some (.loop (rc (if j.isNone then .ready else .done) j)) ∧ (X3.putObj (B + 1) (.loop (rc (if j.isNone then .ready else .done) j))).heap[B]? = some (.deferred (some [])) := fun j X3 hk => by
   have hl3 := hk.same _ _ (by omega) hl2 rfl
   have hr := run_endRound (P := P) j hl3
   rw [hrc] at hr hl3 ⊢
   exact ⟨hr, hl3, World.putObj_heap_same (Array.getElem?_eq_some_iff.1 hl3).1, (World.putObj_heap_other (by omega)).trans (hk.same _ _ (Nat.le_refl _) hd2 rfl)⟩
  rintro e a3 X3 hp
  cases e with
  | normal =>
   obtain ⟨hk, kp3, hi3⟩ := hp
   obtain ⟨hr, hl3, hl4, hd4⟩ := last none X3 hk
   exact ⟨_, _, hr, .inl ⟨rfl, ⟨put hI _ hi3 hl3, hl4, hd4⟩, (kp2.trans kp3).trans (KpR.put X3 _ _ (fun h => by have := hRl _ h; omega))⟩⟩
  | ret =>
   obtain ⟨hr, hl3, hl4, hd4⟩ := last (some .ret) X3 hp.1
   exact ⟨_, _, hr, .inr ⟨rfl, .ret, put (hIx _) _ hp.2 hl3, hl4, hd4⟩⟩
  | exit id =>
   obtain ⟨hr, hl3, hl4, hd4⟩ := last (some (.exit id)) X3 hp.1
   exact ⟨_, _, hr, .inr ⟨rfl, .exit id, put (hIx _) _ hp.2 hl3, hl4, hd4⟩⟩
  | goto t =>
   obtain ⟨hr, hl3, hl4, hd4⟩ := last (some (.goto t)) X3 hp.1
   exact ⟨_, _, hr, .inr ⟨rfl, .goto t, put (hIx _) _ hp.2 hl3, hl4, hd4⟩⟩
  | panic ch => exact hp.elim
  | outgrown => exact hp.elim
 ·rintro e X2 ⟨⟨v, rfl⟩, (⟨xs, hS, hi, hl, hd⟩ | ⟨pre, hSp, c, hi, hl, hd⟩)⟩
  ·refine ⟨none, X2.putObj (B + 1) (.loop { rc .ready none with state := .exhausted }), ?_, hdone _ xs _ (Nat.le_refl _) hS (put hI _ hi hl) ((World.putObj_heap_other (by omega)).trans hd)⟩
   have := run_endLoop (P := P) hl (by rw [hrc]; simp)
   rw [hrc] at this ⊢
   exact this
  ·refine ⟨some c, X2.putObj (B + 1) (.loop { rc .done (some c) with state := .exhausted }), ?_, hstop _ c pre _ (Nat.le_refl _) hSp (put (hIx c) _ hi hl) ((World.putObj_heap_other (by omega)).trans hd)⟩
   have := run_endLoop (P := P) hl (by rw [hrc]; simp)
   rw [hrc] at this ⊢
   exact this
end Go.Proofs.YtpefjkndfifceaaGreatDoor
namespace Go.Proofs.YtpefjkndfifceaaGreatDoor
open Go.RowKit
def rotr (x a : Nat) : Nat := x * 2 ^ (32 - a) % 4294967296 ||| x / 2 ^ a
theorem rotr_lt {x a : Nat} (h : x < 4294967296) : rotr x a < 4294967296 := Nat.or_lt_two_pow (n := 32) (Nat.mod_lt _ (by decide)) (Nat.lt_of_le_of_lt (Nat.div_le_self _ _) h)
def laidN (x a b c : Nat) : Nat := rotr x a ^^^ rotr x b ^^^ rotr x c
theorem laidN_lt {x a b c : Nat} (h : x < 4294967296) : laidN x a b c < 4294967296 := Nat.xor_lt_two_pow (n := 32) (Nat.xor_lt_two_pow (n := 32) (rotr_lt h) (rotr_lt h)) (rotr_lt h)
end Go.Proofs.YtpefjkndfifceaaGreatDoor
namespace Go.Proofs.YtpefjkndfifceaaGreatDoor
open Go.RowKit
theorem wrap_neg (a : Nat) (h1 : 1 ≤ a) (h2 : a < 32) (s : Nat) (hs : s = 32 - a) : bits BinOp.and IntKind.u64 (IntKind.u64.wrap (-(a : Int))) 31 = (s : Int) := by
 have e : IntKind.u64.wrap (-(a : Int)) = ((18446744073709551616 - a : Nat) : Int) := by
  simp only [IntKind.wrap, IntKind.bits, IntKind.signed]
  simp
  omega
 rw [e, show (31 : Int) = ((31 : Nat) : Int) from rfl, u64_and_nat _ _ (by omega) (by decide), show (31 : Nat) = 2 ^ 5 - 1 from rfl, Nat.and_two_pow_sub_one_eq_mod]
 omega
theorem rot_cast (x s : Nat) (hx : x < 4294967296) (hs : s < 32) : bits BinOp.or IntKind.u32 ((x : Int) * 2 ^ s % 4294967296) ((x : Int) / 2 ^ (32 - s)) = ((x * 2 ^ s % 4294967296 ||| x / 2 ^ (32 - s) : Nat) : Int) := by
 have e1 : (x : Int) * 2 ^ s % 4294967296 = ((x * 2 ^ s % 4294967296 : Nat) : Int) := by rw [Int.natCast_emod, Int.natCast_mul, Int.natCast_pow]; rfl
 have e2 : (x : Int) / 2 ^ (32 - s) = ((x / 2 ^ (32 - s) : Nat) : Int) := by rw [Int.natCast_ediv, Int.natCast_pow]; rfl
 rw [e1, e2, u32_or_nat _ _ (Nat.mod_lt _ (by decide)) (Nat.lt_of_le_of_lt (Nat.div_le_self _ _) hx)]
set_option maxHeartbeats 1000000 in
theorem rot_any (x a : Nat) (k : Int) (w : World) (hk : k = -(a : Int)) (h1 : 1 ≤ a) (h2 : a < 32) (hx : x < 4294967296) (r : Nat) (hr : r = rotr x a) :
  Calls Tryz.prog 203 #[.int .u32 (x : Int), .int .i64 k] w fun e w' => e = .returned (.int .u32 (r : Int)) ∧ w = w' := by
 subst hk
 obtain ⟨s, hs⟩ : ∃ s, s = 32 - a := ⟨_, rfl⟩
 have hw := wrap_neg a h1 h2 s hs
 have hsb : s < 32 := by omega
 have hsb2 : 1 ≤ s := by omega
 have HS := zH (show 32 - s = a by omega)
 have HR := zH hr
 clear hs hr
 go_enter Tryz.func203, Tryz.ntmps203
 go_wp2
 go_ret
 exact ⟨by rw [rot_cast x s hx hsb, HS.out, HR.out]; unfold rotr; rw [show 32 - a = s by have := HS.out; omega]; rfl, rfl⟩
set_option maxHeartbeats 1000000 in
theorem laid_any (x a b c : Nat) (ka kb kc : Int) (w : World) (ha : ka = a) (hb : kb = b) (hc : kc = c) (h1 : 1 ≤ a ∧ a < 32) (h2 : 1 ≤ b ∧ b < 32) (h3 : 1 ≤ c ∧ c < 32) (hx : x < 4294967296) (r : Nat) (hr : r = laidN x a b c) :
  Calls Tryz.prog 188 #[.int .u32 (x : Int), .int .i64 ka, .int .i64 kb, .int .i64 kc] w fun e w' => e = .returned (.int .u32 (r : Int)) ∧ w = w' := by
 subst ha hb hc
 obtain ⟨p, hp⟩ : ∃ p, p = rotr x a := ⟨_, rfl⟩
 obtain ⟨q, hq⟩ : ∃ q, q = rotr x b := ⟨_, rfl⟩
 obtain ⟨o, ho⟩ : ∃ o, o = rotr x c := ⟨_, rfl⟩
 have hp2 : p < 4294967296 := hp ▸ rotr_lt hx
 have hq2 : q < 4294967296 := hq ▸ rotr_lt hx
 have ho2 : o < 4294967296 := ho ▸ rotr_lt hx
 have hpq : p ^^^ q < 4294967296 := Nat.xor_lt_two_pow (n := 32) hp2 hq2
 obtain ⟨m, hm⟩ : ∃ m, m = p ^^^ q := ⟨_, rfl⟩
 rw [← hm] at hpq
 have HR := zH (show r = m ^^^ o by rw [hr, hm, hp, hq, ho]; rfl)
 have HP := zH hp
 have HQ := zH hq
 have HO := zH ho
 have hx1 : bits BinOp.xor IntKind.u32 (p : Int) (q : Int) = (m : Int) := by rw [u32_xor_nat _ _ hp2 hq2, hm]
 have hx2 : bits BinOp.xor IntKind.u32 (m : Int) (o : Int) = (r : Int) := by rw [u32_xor_nat _ _ hpq ho2, HR.out]
 obtain ⟨h11, h12⟩ := h1
 obtain ⟨h21, h22⟩ := h2
 obtain ⟨h31, h32⟩ := h3
 clear hr hp hq ho hm
 go_enter Tryz.func188, Tryz.ntmps188
 go_wp2_with fail
 refine (rot_any x a _ _ rfl h11 h12 hx p HP.out).mono ?_
 rintro e w1 ⟨rfl, rfl⟩
 go_wp2_with fail
 refine (rot_any x b _ _ rfl h21 h22 hx q HQ.out).mono ?_
 rintro e w1 ⟨rfl, rfl⟩
 go_wp2_with fail
 refine (rot_any x c _ _ rfl h31 h32 hx o HO.out).mono ?_
 rintro e w1 ⟨rfl, rfl⟩
 go_wp2
 go_ret
 exact ⟨rfl, rfl⟩
end Go.Proofs.YtpefjkndfifceaaGreatDoor
namespace Go.Proofs.YtpefjkndfifceaaGreatDoor
open Go.RowKit
def arrC (q : IntKind) (l : List Nat) : Array Value := (l.map (num q)).toArray
theorem arrC_size (q : IntKind) (l : List Nat) : (arrC q l).size = l.length := by simp [arrC]
theorem arrC_get (q : IntKind) (l : List Nat) (i : Nat) (h : i < l.length) : (arrC q l)[i]? = some (.int q ((l[i]?.getD 0 : Nat) : Int)) := by simp [arrC, num, h]
theorem arrC_one (q : IntKind) (l : List Nat) : (arrC q l).all (·.oneCell') = true := by
 rw [Array.all_eq_true_iff_forall_mem]
 intro u hu
 have : u ∈ l.map (num q) := by simpa [arrC] using hu
 exact nums_oneCell q l u this
def Arr (q : IntKind) (E : TypeId) (w : World) (g : Nat) (l : List Nat) : Prop := w.heap[g]? = some (.cells (arrC q l) E (0, 0))
theorem Arr.lt {q : IntKind} {E g : Nat} {w : World} {l : List Nat} (h : Arr q E w g l) : g < w.heap.size := (Array.getElem?_eq_some_iff.1 h).1
theorem Arr.cell {q : IntKind} {E g : Nat} {w : World} {l : List Nat} (h : Arr q E w g l) (i : Nat) (hi : i < l.length) : w.cell? ⟨g, i, none⟩ = some (.int q ((l[i]?.getD 0 : Nat) : Int)) := by
 rw [cell_of_row w g i _ E (0, 0) h, arrC_get q l i hi]
theorem Arr.frozen {q : IntKind} {E g : Nat} {w : World} {l : List Nat} (h : Arr q E w g l) (i : Nat) : w.frozen? ⟨g, i, none⟩ = false := frozen_of_row w g i _ E h
theorem arrC_set (q : IntKind) (l : List Nat) (i x : Nat) : (arrC q l).setIfInBounds i (num q x) = arrC q (l.set i x) := by
 apply Array.ext'
 simp [arrC, List.map_set]
theorem Arr.stored {q : IntKind} {E g : Nat} {w : World} {l : List Nat} (h : Arr q E w g l) (i x : Nat) (y : Int) (hy : y = (x : Int)) : Arr q E (w.setCell ⟨g, i, none⟩ (.int q y)) g (l.set i x) := by
 subst hy
 have := heap_setCell_same w g i _ E (num q x) h
 unfold Arr
 rw [← arrC_set]
 exact this
theorem Arr.other {q : IntKind} {E g : Nat} {w : World} {l : List Nat} (h : Arr q E w g l) (p : Addr) (v : Value) (hp : g ≠ p.block) : Arr q E (w.setCell p v) g l := (heap_setCell_other w p g v hp).trans h
theorem Arr.alloc {q : IntKind} {E g : Nat} {w : World} {l : List Nat} (h : Arr q E w g l) (o : Obj) : Arr q E (w.alloc o) g l := (Below.heap_alloc w o g h.lt).trans h
theorem Arr.below {q : IntKind} {E g B : Nat} {w w' : World} {l : List Nat} (h : Arr q E w g l) (hb : Below B w w') (hg : g < B) : Arr q E w' g l := (hb.block g hg).trans h
theorem alloc_setRow (w : World) (old cs : Array Value) (E : TypeId) : (w.alloc (.cells old E)).setRow w.heap.size cs = w.alloc (.cells cs E) := by
 cases w with
 | mk heap tape drawn os output =>
  simp only [World.alloc, World.setRow]
  congr 1
  apply Array.ext
  ·simp
  ·intro k h1 h2
   simp only [Array.getElem_modify]
   split
   ·rename_i hk
    subst hk
    simp
   ·rename_i hk
    rw [Array.getElem_push, Array.getElem_push]
    split
    ·rfl
    ·rename_i hk2
     simp at h1
     omega
theorem idx64 (l : List Nat) (i : Nat) (hi : i < 64) (hl : l.length = 64) (w : World) : (Instr.index 172 (.agg (arrC .u32 l)) (.int .i64 (i : Int))).run Tryz.prog w = .ok (.int .u32 ((l[i]?.getD 0 : Nat) : Int)) w := by
 have hu : ∀ w, (underlying 172).run Tryz.prog w = .ok (.array 64 71) w := fun _ => by kernel_rfl
 have hs : ∀ w, (sizeOf 71).run Tryz.prog w = .ok 1 w := fun _ => by kernel_rfl
 have ha : ∀ w, (isAgg 71).run Tryz.prog w = .ok false w := fun _ => by kernel_rfl
 have hg := arrC_get .u32 l i (by omega)
 have hz : i < (arrC .u32 l).size := by rw [arrC_size]; omega
 have h1 : 0 ≤ (i : Int) ∧ (i : Int) < ((64 : Nat) : Int) := by omega
 unfold Instr.index
 simp only [asIntOf, Sem.run_bind, Sem.run_pure, Result.andThen_ok, hu, if_pos h1, hs, Int.toNat_natCast, Nat.mul_one, part, ha]
 rw [hg]
 rfl
end Go.Proofs.YtpefjkndfifceaaGreatDoor
namespace Go.Proofs.YtpefjkndfifceaaGreatDoor
open Go.RowKit
def g0 (l : List Nat) (i : Nat) : Nat := l[i]?.getD 0
theorem g0_lt {l : List Nat} {b : Nat} (h : ∀ x ∈ l, x < b) (hb : 0 < b) (i : Nat) : g0 l i < b := by
 unfold g0
 cases hi : l[i]? with
 | none => exact hb
 | some x => exact h x (List.mem_of_getElem? hi)
theorem set_lt {l : List Nat} {b : Nat} (h : ∀ x ∈ l, x < b) (i y : Nat) (hy : y < b) : ∀ x ∈ l.set i y, x < b := fun x hx => by
 rcases List.mem_or_eq_of_mem_set hx with hx | rfl
 ·exact h x hx
 ·exact hy
def packS (b : List Nat) (k : Nat) (l : List Nat) : List Nat := l.set (k / 4) (g0 l (k / 4) * 256 % 4294967296 ||| g0 b k)
def packN (b : List Nat) : Nat → List Nat
 | 0 => List.replicate 64 0
 | k + 1 => packS b k (packN b k)
def sigN (x r1 r2 s : Nat) : Nat := rotr x r1 ^^^ rotr x r2 ^^^ x / 2 ^ s
def extS (t : Nat) (l : List Nat) : List Nat := l.set t ((((g0 l (t - 16) + g0 l (t - 7)) % 4294967296 + sigN (g0 l (t - 15)) 7 18 3) % 4294967296 + sigN (g0 l (t - 2)) 17 19 10) % 4294967296)
def extN (l : List Nat) : Nat → List Nat
 | 0 => l
 | k + 1 => extS (16 + k) (extN l k)
def schedN (b : List Nat) : List Nat := extN (packN b 64) 48
theorem below_drewS {B : Nat} {a w : World} (h : Below B a w) (n : Nat) : Below B a (w.drewN n) := ⟨h.os, h.tape, h.output, h.size, h.block⟩
theorem Arr.drewN {q : IntKind} {E g : Nat} {w : World} {l : List Nat} (h : Arr q E w g l) (n : Nat) : Arr q E (w.drewN n) g l := h
theorem packN_len (b : List Nat) : ∀ k, (packN b k).length = 64
 | 0 => by simp [packN]
 | k + 1 => by simp [packN, packS, packN_len b k]
theorem extN_len (l : List Nat) (h : l.length = 64) : ∀ k, (extN l k).length = 64
 | 0 => h
 | k + 1 => by simp [extN, extS, extN_len l h k]
theorem schedN_len (b : List Nat) : (schedN b).length = 64 := extN_len _ (packN_len b 64) 48
theorem packN_lt (b : List Nat) (hb : ∀ x ∈ b, x < 256) : ∀ k, ∀ x ∈ packN b k, x < 4294967296
 | 0 => fun x hx => by rw [List.eq_of_mem_replicate hx]; decide
 | k + 1 => set_lt (packN_lt b hb k) _ _ (Nat.or_lt_two_pow (n := 32) (Nat.mod_lt _ (by decide)) (Nat.lt_trans (g0_lt hb (by decide) k) (by decide)))
theorem extN_lt (l : List Nat) (h : ∀ x ∈ l, x < 4294967296) : ∀ k, ∀ x ∈ extN l k, x < 4294967296
 | 0 => h
 | k + 1 => set_lt (extN_lt l h k) _ _ (Nat.mod_lt _ (by decide))
theorem schedN_lt (b : List Nat) (hb : ∀ x ∈ b, x < 256) : ∀ x ∈ schedN b, x < 4294967296 := extN_lt _ (packN_lt b hb 64) 48
theorem z64 : #[Value.int IntKind.u32 0, Value.int IntKind.u32 0, Value.int IntKind.u32 0, Value.int IntKind.u32 0, Value.int IntKind.u32 0, Value.int IntKind.u32 0, Value.int IntKind.u32 0, Value.int IntKind.u32 0, Value.int IntKind.u32 0, Value.int IntKind.u32 0, Value.int IntKind.u32 0, Value.int IntKind.u32 0, Value.int IntKind.u32 0, Value.int IntKind.u32 0, Value.int IntKind.u32 0, Value.int IntKind.u32 0, Value.int IntKind.u32 0, Value.int IntKind.u32 0, Value.int IntKind.u32 0, Value.int IntKind.u32 0, Value.int IntKind.u32 0, Value.int IntKind.u32 0, Value.int IntKind.u32 0, Value.int IntKind.u32 0, Value.int IntKind.u32 0, Value.int IntKind.u32 0, Value.int IntKind.u32 0, Value.int IntKind.u32 0, Value.int IntKind.u32 0, Value.int IntKind.u32 0, Value.int IntKind.u32 0, Value.int IntKind.u32 0, Value.int IntKind.u32 0, Value.int IntKind.u32 0, Value.int IntKind.u32 0, Value.int IntKind.u32 0, Value.int IntKind.u32 0, Value.int IntKind.u32 0, Value.int IntKind.u32 0, Value.int IntKind.u32 0, Value.int IntKind.u32 0, Value.int IntKind.u32 0, Value.int IntKind.u32 0, Value.int IntKind.u32 0, Value.int IntKind.u32 0, Value.int IntKind.u32 0, Value.int IntKind.u32 0, Value.int IntKind.u32 0, Value.int IntKind.u32 0, Value.int IntKind.u32 0, Value.int IntKind.u32 0, Value.int IntKind.u32 0, Value.int IntKind.u32 0, Value.int IntKind.u32 0, Value.int IntKind.u32 0, Value.int IntKind.u32 0, Value.int IntKind.u32 0, Value.int IntKind.u32 0, Value.int IntKind.u32 0, Value.int IntKind.u32 0, Value.int IntKind.u32 0, Value.int IntKind.u32 0, Value.int IntKind.u32 0, Value.int IntKind.u32 0] = arrC .u32 (List.replicate 64 0) := by kernel_rfl
set_option maxRecDepth 100000 in
set_option maxHeartbeats 4000000 in
theorem schedule_any (a : Option Addr) (c : Nat) (bl : List Nat) (w : World) (hr : Reads .u8 w a 64 c bl) (hb : ∀ x ∈ bl, x < 256) :
  Calls Tryz.prog 187 #[.slice a 64 c] w fun e w' => e = .returned (.agg (arrC .u32 (schedN bl))) ∧ Below w.heap.size w w' := by
 have HR := zH hr
 have HB := zH hb
 have hc64 := hr.le
 clear hr hb
 go_enter Tryz.func187, Tryz.ntmps187
 go_wp2_with fail
 rw [z64]
 have hA0 : Arr .u32 172 (w.alloc (.cells (arrC .u32 (List.replicate 64 0)) 172)) w.heap.size (List.replicate 64 0) := Go.heap_alloc_new w _
 have hA := zH (hA0.alloc (.cells (arrC .u32 (List.replicate 64 0)) 172))
 have hB0 : Arr .u32 172 ((w.alloc (.cells (arrC .u32 (List.replicate 64 0)) 172)).alloc (.cells (arrC .u32 (List.replicate 64 0)) 172)) (w.heap.size + 1) (packN bl 0) := by
  have := Go.heap_alloc_new (w.alloc (.cells (arrC .u32 (List.replicate 64 0)) 172)) (.cells (arrC .u32 (List.replicate 64 0)) 172)
  rwa [World.size_alloc] at this
 have hB1 := zH hB0
 have F := zH (((Below.refl w.heap.size w).alloc (Nat.le_refl _) (.cells (arrC .u32 (List.replicate 64 0)) 172)).alloc (by simp) (.cells (arrC .u32 (List.replicate 64 0)) 172))
 clear hA0 hB0
 generalize (w.alloc (.cells (arrC .u32 (List.replicate 64 0)) 172)).alloc (.cells (arrC .u32 (List.replicate 64 0)) 172) = W0 at *
 obtain ⟨A, hAe⟩ : ∃ A, A = w.heap.size := ⟨_, rfl⟩
 rw [← hAe] at hA hB1 ⊢
 have HA := zH hAe
 clear hAe
 go_loopw [11] (fun iv wr => ∃ k : Nat, iv = .int .i64 (k : Int) ∧ k ≤ 64 ∧ Hid (Arr .u32 172 wr A (List.replicate 64 0) ∧ Arr .u32 172 wr (A + 1) (packN bl k) ∧ Below A w wr)) (fun iv _ => 64 - (intOf iv).toNat)
 case atStart => exact ⟨0, rfl, by decide, hA.out, hB1.out, HA.out ▸ F.out⟩
 case round =>
  obtain ⟨k, rfl, hk, hI⟩ := hrel
  rcases Nat.lt_or_ge k 64 with hlt | hge
  ·obtain ⟨b, off, rfl, hbk, hc⟩ := (HR.out.below (HA.out ▸ hI.out.2.2)).cells (by decide)
   have hck := hc k hlt
   obtain ⟨y, hy⟩ : ∃ y, y = bl[k]?.getD 0 := ⟨_, rfl⟩
   have hy8 : y < 256 := hy ▸ g0_lt HB.out (by decide) k
   rw [← hy] at hck
   obtain ⟨j, hj⟩ : ∃ j, j = k / 4 := ⟨_, rfl⟩
   have hj16 : j < 16 := by omega
   have hjc : (k : Int) / 4 = (j : Int) := by omega
   obtain ⟨x, hx⟩ : ∃ x, x = g0 (packN bl k) j := ⟨_, rfl⟩
   have hx32 : x < 4294967296 := hx ▸ g0_lt (packN_lt bl HB.out k) (by decide) j
   have hcj := hI.out.2.1.cell j (by rw [packN_len]; omega)
   have hfj := hI.out.2.1.frozen j
   rw [show (packN bl k)[j]?.getD 0 = x from hx.symm] at hcj
   obtain ⟨r, hr⟩ : ∃ r, r = (x * 256 % 4294967296 ||| y) := ⟨_, rfl⟩
   have hor : bits BinOp.or IntKind.u32 ((x : Int) * 256 % 4294967296) (y : Int) = (r : Int) := by
    rw [show (x : Int) * 256 % 4294967296 = ((x * 256 % 4294967296 : Nat) : Int) by omega, u32_or_nat _ _ (Nat.mod_lt _ (by decide)) (by omega), hr]
   have HP := zH (show packN bl (k + 1) = (packN bl k).set j r by rw [hr, hx, hy, hj]; rfl)
   clear hc hy hj hx hr
   go_wp2
   go_roundw
   case rel => exact ⟨k + 1, by go_num, by omega, hI.out.1.other _ _ (by show A ≠ A + 1; omega), by rw [HP.out]; exact hI.out.2.1.stored j r _ rfl, hI.out.2.2.setCell (p := ⟨A + 1, j, none⟩) (by show A ≤ A + 1; omega) _⟩
   case measure => simp [intOf]; omega
  ·obtain rfl : k = 64 := by omega
   go_wp2
   rw [show ((64 : Nat) : Int) = 64 from rfl]
   go_loopw [6] (fun iv wr => ∃ t : Nat, iv = .int .i64 (t : Int) ∧ 16 ≤ t ∧ t ≤ 64 ∧ Hid (Arr .u32 172 wr A (List.replicate 64 0) ∧ Arr .u32 172 wr (A + 1) (extN (packN bl 64) (t - 16)) ∧ Below A w wr)) (fun iv _ => 64 - (intOf iv).toNat)
   case atStart => exact ⟨16, rfl, by decide, by decide, hI.out⟩
   case round =>
    clear hI
    obtain ⟨t, rfl, ht1, ht2, hI⟩ := hrel
    have hl64 := zH (extN_len (packN bl 64) (packN_len bl 64) (t - 16))
    have hlt64 := zH (extN_lt (packN bl 64) (packN_lt bl HB.out 64) (t - 16))
    rcases Nat.lt_or_ge t 64 with hlt | hge
    ·have HE := zH (show extN (packN bl 64) (t + 1 - 16) = extS t (extN (packN bl 64) (t - 16)) by
      rw [show t + 1 - 16 = (t - 16) + 1 by omega]
      show extS (16 + (t - 16)) _ = _
      rw [show 16 + (t - 16) = t by omega])
     generalize extN (packN bl 64) (t - 16) = L at *
     obtain ⟨p16, hp16⟩ : ∃ p, p = t - 16 := ⟨_, rfl⟩
     have hc16 : (t : Int) - 16 = (p16 : Int) := by omega
     have hb16 : p16 < 64 := by omega
     have hk16 := hI.out.2.1.cell p16 (by rw [hl64.out]; exact hb16)
     obtain ⟨x16, hx16⟩ : ∃ x, x = g0 L p16 := ⟨_, rfl⟩
     have hy16 : x16 < 4294967296 := hx16 ▸ g0_lt hlt64.out (by decide) p16
     rw [show L[p16]?.getD 0 = x16 from hx16.symm] at hk16
     obtain ⟨p7, hp7⟩ : ∃ p, p = t - 7 := ⟨_, rfl⟩
     have hc7 : (t : Int) - 7 = (p7 : Int) := by omega
     have hb7 : p7 < 64 := by omega
     have hk7 := hI.out.2.1.cell p7 (by rw [hl64.out]; exact hb7)
     obtain ⟨x7, hx7⟩ : ∃ x, x = g0 L p7 := ⟨_, rfl⟩
     have hy7 : x7 < 4294967296 := hx7 ▸ g0_lt hlt64.out (by decide) p7
     rw [show L[p7]?.getD 0 = x7 from hx7.symm] at hk7
     obtain ⟨p15, hp15⟩ : ∃ p, p = t - 15 := ⟨_, rfl⟩
     have hc15 : (t : Int) - 15 = (p15 : Int) := by omega
     have hb15 : p15 < 64 := by omega
     have hk15 := hI.out.2.1.cell p15 (by rw [hl64.out]; exact hb15)
     obtain ⟨x15, hx15⟩ : ∃ x, x = g0 L p15 := ⟨_, rfl⟩
     have hy15 : x15 < 4294967296 := hx15 ▸ g0_lt hlt64.out (by decide) p15
     rw [show L[p15]?.getD 0 = x15 from hx15.symm] at hk15
     obtain ⟨p2, hp2⟩ : ∃ p, p = t - 2 := ⟨_, rfl⟩
     have hc2 : (t : Int) - 2 = (p2 : Int) := by omega
     have hb2 : p2 < 64 := by omega
     have hk2 := hI.out.2.1.cell p2 (by rw [hl64.out]; exact hb2)
     obtain ⟨x2, hx2⟩ : ∃ x, x = g0 L p2 := ⟨_, rfl⟩
     have hy2 : x2 < 4294967296 := hx2 ▸ g0_lt hlt64.out (by decide) p2
     rw [show L[p2]?.getD 0 = x2 from hx2.symm] at hk2
     obtain ⟨f1, hf1⟩ : ∃ r, r = rotr x15 7 := ⟨_, rfl⟩
     obtain ⟨f2, hf2⟩ : ∃ r, r = rotr x15 18 := ⟨_, rfl⟩
     have lf1 : f1 < 4294967296 := hf1 ▸ rotr_lt hy15
     have lf2 : f2 < 4294967296 := hf2 ▸ rotr_lt hy15
     obtain ⟨f3, hf3⟩ : ∃ r, r = f1 ^^^ f2 := ⟨_, rfl⟩
     have lf3 : f3 < 4294967296 := hf3 ▸ Nat.xor_lt_two_pow (n := 32) lf1 lf2
     obtain ⟨f4, hf4⟩ : ∃ r, r = x15 / 8 := ⟨_, rfl⟩
     have lf4 : f4 < 4294967296 := by omega
     obtain ⟨f, hf⟩ : ∃ r, r = f3 ^^^ f4 := ⟨_, rfl⟩
     have lf : f < 4294967296 := hf ▸ Nat.xor_lt_two_pow (n := 32) lf3 lf4
     have ef3 : bits BinOp.xor IntKind.u32 (f1 : Int) (f2 : Int) = (f3 : Int) := by rw [u32_xor_nat _ _ lf1 lf2, hf3]
     have ef4 : (x15 : Int) / 8 = (f4 : Int) := by omega
     have ef : bits BinOp.xor IntKind.u32 (f3 : Int) (f4 : Int) = (f : Int) := by rw [u32_xor_nat _ _ lf3 lf4, hf]
     have Gf := zH (show sigN x15 7 18 3 = f by rw [hf, hf3, hf4, hf1, hf2]; rfl)
     have Rf1 := zH hf1
     have Rf2 := zH hf2
     clear hf hf1 hf2 hf3 hf4
     obtain ⟨u1, hu1⟩ : ∃ r, r = rotr x2 17 := ⟨_, rfl⟩
     obtain ⟨u2, hu2⟩ : ∃ r, r = rotr x2 19 := ⟨_, rfl⟩
     have lu1 : u1 < 4294967296 := hu1 ▸ rotr_lt hy2
     have lu2 : u2 < 4294967296 := hu2 ▸ rotr_lt hy2
     obtain ⟨u3, hu3⟩ : ∃ r, r = u1 ^^^ u2 := ⟨_, rfl⟩
     have lu3 : u3 < 4294967296 := hu3 ▸ Nat.xor_lt_two_pow (n := 32) lu1 lu2
     obtain ⟨u4, hu4⟩ : ∃ r, r = x2 / 1024 := ⟨_, rfl⟩
     have lu4 : u4 < 4294967296 := by omega
     obtain ⟨u, hu⟩ : ∃ r, r = u3 ^^^ u4 := ⟨_, rfl⟩
     have lu : u < 4294967296 := hu ▸ Nat.xor_lt_two_pow (n := 32) lu3 lu4
     have eu3 : bits BinOp.xor IntKind.u32 (u1 : Int) (u2 : Int) = (u3 : Int) := by rw [u32_xor_nat _ _ lu1 lu2, hu3]
     have eu4 : (x2 : Int) / 1024 = (u4 : Int) := by omega
     have eu : bits BinOp.xor IntKind.u32 (u3 : Int) (u4 : Int) = (u : Int) := by rw [u32_xor_nat _ _ lu3 lu4, hu]
     have Gu := zH (show sigN x2 17 19 10 = u by rw [hu, hu3, hu4, hu1, hu2]; rfl)
     have Ru1 := zH hu1
     have Ru2 := zH hu2
     clear hu hu1 hu2 hu3 hu4
     obtain ⟨s1, hs1⟩ : ∃ s, s = (x16 + x7) % 4294967296 := ⟨_, rfl⟩
     obtain ⟨s2, hs2⟩ : ∃ s, s = (s1 + f) % 4294967296 := ⟨_, rfl⟩
     obtain ⟨s3, hs3⟩ : ∃ s, s = (s2 + u) % 4294967296 := ⟨_, rfl⟩
     have es1 : ((x16 : Int) + (x7 : Int)) % 4294967296 = (s1 : Int) := by omega
     have es2 : ((s1 : Int) + (f : Int)) % 4294967296 = (s2 : Int) := by omega
     have es3 : ((s2 : Int) + (u : Int)) % 4294967296 = (s3 : Int) := by omega
     have ls1 : s1 < 4294967296 := by omega
     have ls2 : s2 < 4294967296 := by omega
     have HE2 := zH (show extN (packN bl 64) (t + 1 - 16) = L.set t s3 by
      rw [HE.out]
      unfold extS
      rw [← hp16, ← hp7, ← hp15, ← hp2, ← hx16, ← hx7, ← hx15, ← hx2, Gf.out, Gu.out, ← hs1, ← hs2, ← hs3])
     have hft := hI.out.2.1.frozen t
     have hkt := hI.out.2.1.cell t (by rw [hl64.out]; exact hlt)
     clear hs1 hs2 hs3 hp16 hp7 hp15 hp2 hx16 hx7 hx15 hx2 HE Gf Gu
     go_wp2_with fail
     go_quiet (fail)
     go_wp2_with fail
     refine (rot_any x15 7 _ _ rfl (by decide) (by decide) hy15 f1 Rf1.out).mono ?_
     rintro e w1 ⟨rfl, rfl⟩
     go_wp2_with fail
     refine (rot_any x15 18 _ _ rfl (by decide) (by decide) hy15 f2 Rf2.out).mono ?_
     rintro e w1 ⟨rfl, rfl⟩
     go_wp2_with fail
     refine (rot_any x2 17 _ _ rfl (by decide) (by decide) hy2 u1 Ru1.out).mono ?_
     rintro e w1 ⟨rfl, rfl⟩
     go_wp2_with fail
     refine (rot_any x2 19 _ _ rfl (by decide) (by decide) hy2 u2 Ru2.out).mono ?_
     rintro e w1 ⟨rfl, rfl⟩
     go_wp2_with fail
     go_region
     go_wp2
     go_roundw
     case rel => exact ⟨t + 1, by go_num, by omega, by omega, (hI.out.1.drewN nq).other _ _ (by show A ≠ A + 1; omega), by rw [HE2.out]; exact (hI.out.2.1.drewN nq).stored t s3 _ rfl, ((below_drewS hI.out.2.2 nq).setCell (p := ⟨A + 1, t, none⟩) (by show A ≤ A + 1; omega) _).drew⟩
     case measure => simp [intOf]; omega
    ·obtain rfl : t = 64 := by omega
     have hrow : Arr .u32 172 wr (A + 1) (schedN bl) := hI.out.2.1
     have hres : Arr .u32 172 (wr.setRow A (arrC .u32 (schedN bl))) A (schedN bl) := setRow_heap wr A _ _ _ _ hI.out.1
     have hls := schedN_len bl
     go_wp2_with (first | (refine wpList_load_row rfl _ _ rfl (A + 1) rfl _ (arrC .u32 (schedN bl)) _ _ hrow Tryz.underlying172 rfl (by rw [arrC_size, hls]; kernel_rfl) ?_) | (refine wpList_store_row rfl _ _ _ rfl A (arrC .u32 (schedN bl)) rfl rfl _ _ hI.out.1 (by rw [arrC_size, hls]; kernel_rfl) (by rw [arrC_size, arrC_size, hls]; rfl) (arrC_one _ _) ?_))
     go_wp2
     refine bodyPost_ret (v := .agg (arrC .u32 (schedN bl))) (results_cell_row (ty := 172) (p := 2) (by kernel_rfl) _ _ A _ _ _ _ rfl hres Tryz.underlying172 rfl (by rw [arrC_size, hls]; kernel_rfl)) rfl ?_
     exact ⟨rfl, HA.out ▸ below_setRow hI.out.2.2 (Nat.le_refl _) _⟩
end Go.Proofs.YtpefjkndfifceaaGreatDoor
namespace Go.Proofs.YtpefjkndfifceaaGreatDoor
open Go.RowKit
def kL : List Nat := [1116352408, 1899447441, 3049323471, 3921009573, 961987163, 1508970993, 2453635748, 2870763221, 3624381080, 310598401, 607225278, 1426881987, 1925078388, 2162078206, 2614888103, 3248222580, 3835390401, 4022224774, 264347078, 604807628, 770255983, 1249150122, 1555081692, 1996064986, 2554220882, 2821834349, 2952996808, 3210313671, 3336571891, 3584528711, 113926993, 338241895, 666307205, 773529912, 1294757372, 1396182291, 1695183700, 1986661051, 2177026350, 2456956037, 2730485921, 2820302411, 3259730800, 3345764771, 3516065817, 3600352804, 4094571909, 275423344, 430227734, 506948616, 659060556, 883997877, 958139571, 1322822218, 1537002063, 1747873779, 1955562222, 2024104815, 2227730452, 2361852424, 2428436474, 2756734187, 3204031479, 3329325298]
def startL : List Nat := [1779033703, 3144134277, 1013904242, 2773480762, 1359893119, 2600822924, 528734635, 1541459225, 3238371032, 914150663, 812702999, 4144912697, 4290775857, 1750603025, 1694076839, 3204075428]
def tabC : Array Value := arrC .u32 (kL ++ startL)
theorem kL_len : kL.length = 64 := rfl
theorem kL_lt : ∀ x ∈ kL, x < 4294967296 := by unfold kL; decide
theorem startL_lt : ∀ x ∈ startL, x < 4294967296 := by unfold startL; decide
theorem tabC_one : tabC.all (·.oneCell') = true := arrC_one _ _
theorem tab_field (w : World) : (Instr.field 175 (.agg tabC) 0).run Tryz.prog w = .ok (.agg (arrC .u32 kL)) w := by kernel_rfl
set_option maxRecDepth 100000 in
set_option maxHeartbeats 1000000 in
theorem written_any (w : World) : Calls Tryz.prog 149 #[] w fun e w' => e = .returned (.agg tabC) ∧ w' = w.alloc (.cells tabC 175) := by
 have hz : ∀ w, (zeroValue 175).run Tryz.prog w = .ok (.agg (arrC .u32 (List.replicate 80 0))) w := fun _ => by kernel_rfl
 go_enter Tryz.func149, Tryz.ntmps149
 go_wp2_with (first | (refine wpList_build rfl _ _ rfl (by kernel_rfl) ?_) | (refine wpList_store_row rfl _ _ _ rfl w.heap.size tabC rfl (by kernel_rfl) 175 _ (Go.heap_alloc_new w _) (by kernel_rfl) (by kernel_rfl) tabC_one ?_))
 rw [alloc_setRow]
 refine bodyPost_ret (v := .agg tabC) (results_cell_row (ty := 175) (p := 0) (by kernel_rfl) _ _ w.heap.size 175 tabC (0, 0) _ rfl (Go.heap_alloc_new w _) Tryz.underlying175 rfl (by kernel_rfl)) rfl ?_
 exact ⟨rfl, rfl⟩
end Go.Proofs.YtpefjkndfifceaaGreatDoor
namespace Go.Proofs.YtpefjkndfifceaaGreatDoor
open Go.RowKit
def yN (e f g h k w : Nat) : Nat := ((((h + k) % 4294967296 + w) % 4294967296 + laidN e 6 11 25) % 4294967296 + ((e &&& f) ^^^ ((4294967295 - e) &&& g))) % 4294967296
def zN (a b c : Nat) : Nat := (laidN a 2 13 22 + ((a &&& b) ^^^ (a &&& c) ^^^ (b &&& c))) % 4294967296
def rd (v : List Nat) (k w : Nat) : List Nat :=
 [(yN (g0 v 4) (g0 v 5) (g0 v 6) (g0 v 7) k w + zN (g0 v 0) (g0 v 1) (g0 v 2)) % 4294967296, g0 v 0, g0 v 1, g0 v 2, (g0 v 3 + yN (g0 v 4) (g0 v 5) (g0 v 6) (g0 v 7) k w) % 4294967296, g0 v 4, g0 v 5, g0 v 6]
def rdsN (ws sc : List Nat) : Nat → List Nat
 | 0 => ws
 | i + 1 => rd (rdsN ws sc i) (g0 kL i) (g0 sc i)
def addTo (ws v : List Nat) : Nat → List Nat
 | 0 => ws
 | j + 1 => (addTo ws v j).set j ((g0 (addTo ws v j) j + g0 v j) % 4294967296)
def turnN (ws b : List Nat) : List Nat := addTo ws (rdsN ws (schedN b) 64) 8
theorem rdsN_len (ws sc : List Nat) (h : ws.length = 8) : ∀ i, (rdsN ws sc i).length = 8
 | 0 => h
 | _ + 1 => rfl
theorem rd_lt {v : List Nat} (h : ∀ x ∈ v, x < 4294967296) (k w : Nat) : ∀ x ∈ rd v k w, x < 4294967296 := fun x hx => by
 have hg := fun i => g0_lt h (by decide) i
 unfold rd at hx
 simp only [List.mem_cons, List.not_mem_nil, or_false] at hx
 rcases hx with rfl | rfl | rfl | rfl | rfl | rfl | rfl | rfl
 ·exact Nat.mod_lt _ (by decide)
 ·exact hg _
 ·exact hg _
 ·exact hg _
 ·exact Nat.mod_lt _ (by decide)
 ·exact hg _
 ·exact hg _
 ·exact hg _
theorem rdsN_lt (ws sc : List Nat) (h : ∀ x ∈ ws, x < 4294967296) : ∀ i, ∀ x ∈ rdsN ws sc i, x < 4294967296
 | 0 => h
 | i + 1 => rd_lt (rdsN_lt ws sc h i) _ _
def stL (bits : Nat) (ws tail : List Nat) (taken : Nat) : List Value := .int .i64 (bits : Int) :: (ws.map (num .u32) ++ (tail.map (num .u8) ++ [.int .u64 (taken : Int)]))
structure StateAt (w : World) (g bits : Nat) (ws tail : List Nat) (taken : Nat) : Prop where
 heap : w.heap[g]? = some (.cells (stL bits ws tail taken).toArray 171 (0, 0))
 wlen : ws.length = 8
 tlen : tail.length = 64
 wlt : ∀ x ∈ ws, x < 4294967296
 tlt : ∀ x ∈ tail, x < 256
theorem StateAt.lt {w : World} {g bits : Nat} {ws tail : List Nat} {taken : Nat} (h : StateAt w g bits ws tail taken) : g < w.heap.size := (Array.getElem?_eq_some_iff.1 h.heap).1
theorem StateAt.frozen {w : World} {g bits : Nat} {ws tail : List Nat} {taken : Nat} (h : StateAt w g bits ws tail taken) (i : Nat) : w.frozen? ⟨g, i, none⟩ = false := frozen_of_row w g i _ _ h.heap
theorem StateAt.bits {w : World} {g bits : Nat} {ws tail : List Nat} {taken : Nat} (h : StateAt w g bits ws tail taken) : w.cell? ⟨g, 0, none⟩ = some (.int .i64 (bits : Int)) := by
 rw [cell_of_row w g 0 _ _ _ h.heap]; rfl
theorem StateAt.word {w : World} {g bits : Nat} {ws tail : List Nat} {taken : Nat} (h : StateAt w g bits ws tail taken) (i : Nat) (hi : i < 8) : w.cell? ⟨g, 1 + i, none⟩ = some (.int .u32 ((g0 ws i : Nat) : Int)) := by
 have hl := h.wlen
 rw [cell_of_row w g (1 + i) _ _ _ h.heap, List.getElem?_toArray, stL, show 1 + i = i + 1 by omega, List.getElem?_cons_succ, List.getElem?_append_left (by simp; omega), List.getElem?_map, List.getElem?_eq_getElem (show i < ws.length by omega)]
 simp [num, g0, List.getElem?_eq_getElem (show i < ws.length by omega)]
theorem StateAt.byte {w : World} {g bits : Nat} {ws tail : List Nat} {taken : Nat} (h : StateAt w g bits ws tail taken) (i : Nat) (hi : i < 64) : w.cell? ⟨g, 9 + i, none⟩ = some (.int .u8 ((g0 tail i : Nat) : Int)) := by
 have hl := h.wlen
 have hl2 := h.tlen
 rw [cell_of_row w g (9 + i) _ _ _ h.heap, List.getElem?_toArray, stL, show 9 + i = (8 + i) + 1 by omega, List.getElem?_cons_succ, List.getElem?_append_right (by simp; omega), List.getElem?_append_left (by simp; omega)]
 simp only [List.length_map, hl, Nat.add_sub_cancel_left, List.getElem?_map]
 simp [num, g0, List.getElem?_eq_getElem (show i < tail.length by omega)]
theorem StateAt.taken {w : World} {g bits : Nat} {ws tail : List Nat} {taken : Nat} (h : StateAt w g bits ws tail taken) : w.cell? ⟨g, 73, none⟩ = some (.int .u64 (taken : Int)) := by
 have hl := h.wlen
 have hl2 := h.tlen
 rw [cell_of_row w g 73 _ _ _ h.heap, List.getElem?_toArray, stL, show 73 = 72 + 1 by omega, List.getElem?_cons_succ, List.getElem?_append_right (by simp; omega), List.getElem?_append_right (by simp; omega)]
 simp [hl, hl2]
theorem StateAt.block {w w' : World} {g bits : Nat} {ws tail : List Nat} {taken : Nat} (h : StateAt w g bits ws tail taken) (hb : w'.heap[g]? = w.heap[g]?) : StateAt w' g bits ws tail taken := ⟨hb.trans h.heap, h.wlen, h.tlen, h.wlt, h.tlt⟩
theorem StateAt.below {w w' : World} {g bits B : Nat} {ws tail : List Nat} {taken : Nat} (h : StateAt w g bits ws tail taken) (hb : Below B w w') (hg : g < B) : StateAt w' g bits ws tail taken := h.block (hb.block g hg)
theorem StateAt.setWord {w : World} {g bits : Nat} {ws tail : List Nat} {taken : Nat} (h : StateAt w g bits ws tail taken) (i x : Nat) (hi : i < 8) (y : Int) (hy : y = (x : Int)) (hx : x < 4294967296) : StateAt (w.setCell ⟨g, 1 + i, none⟩ (.int .u32 y)) g bits (ws.set i x) tail taken := by
 subst hy
 have hl := h.wlen
 refine ⟨?_, by simp [hl], h.tlen, set_lt h.wlt i x hx, h.tlt⟩
 have := heap_setCell_same w g (1 + i) _ _ (num .u32 x) h.heap
 refine this.trans ?_
 congr 2
 apply Array.ext'
 rw [Array.toList_setIfInBounds]
 show (stL bits ws tail taken).set (1 + i) (num .u32 x) = stL bits (ws.set i x) tail taken
 unfold stL
 rw [show 1 + i = i + 1 by omega, zq3, List.set_append_left _ _ (by simp; omega), List.map_set]
theorem StateAt.tail {w : World} {g bits : Nat} {ws tail : List Nat} {taken : Nat} (h : StateAt w g bits ws tail taken) : Reads .u8 w (some ⟨g, 9, none⟩) 64 64 tail :=
 ⟨h.tlen, Nat.le_refl _, by unfold maxLen; omega, (fun e => by cases e), fun _ => ⟨g, 9, rfl, h.lt, fun i hi => h.byte i hi⟩⟩
end Go.Proofs.YtpefjkndfifceaaGreatDoor
namespace Go.Proofs.YtpefjkndfifceaaGreatDoor
open Go.RowKit
theorem grown_trans {x y z : World} {r : Option Nat} (h : x.grownBy y r) (k : y.grownBy z r) : x.grownBy z r :=
 ⟨k.os.trans h.os, k.tape.trans h.tape, k.output.trans h.output, Nat.le_trans h.size k.size, fun i hi hr => (k.block i (Nat.lt_of_lt_of_le hi h.size) hr).trans (h.block i hi hr)⟩
theorem grown_below {x y : World} (h : Below x.heap.size x y) (r : Option Nat) : x.grownBy y r := ⟨h.os, h.tape, h.output, h.size, fun i hi _ => h.block i hi⟩
theorem grown_drew {x y : World} {r : Option Nat} (h : x.grownBy y r) : x.grownBy y.drew r := ⟨h.os, h.tape, h.output, h.size, h.block⟩
theorem grown_set {x y : World} {g : Nat} (h : x.grownBy y (some g)) (i : Nat) (v : Value) : x.grownBy (y.setCell ⟨g, i, none⟩ v) (some g) :=
 ⟨h.os, h.tape, h.output, by simpa using h.size, fun k hk hr => (heap_setCell_other y ⟨g, i, none⟩ k v (fun e => hr (by rw [e]))).trans (h.block k hk hr)⟩
theorem kept2 (w W2 : World) (c d : Array Value) {T E : TypeId} (h : (w.alloc (.cells c T)).alloc (.cells d E) = W2) : Below w.heap.size w W2 ∧ W2.heap[w.heap.size + 1]? = some (.cells d E (0, 0)) ∧ W2.heap.size = w.heap.size + 2 := by
 subst h
 refine ⟨((Below.refl _ _).alloc (Nat.le_refl _) _).alloc (by simp) _, ?_, by simp⟩
 have := Go.heap_alloc_new (w.alloc (.cells c T)) (.cells d E)
 rwa [World.size_alloc] at this
theorem arrC_eight : ∀ (ws : List Nat), ws.length = 8 → #[Value.int .u32 ((g0 ws 0 : Nat) : Int), .int .u32 ((g0 ws 1 : Nat) : Int), .int .u32 ((g0 ws 2 : Nat) : Int), .int .u32 ((g0 ws 3 : Nat) : Int), .int .u32 ((g0 ws 4 : Nat) : Int), .int .u32 ((g0 ws 5 : Nat) : Int), .int .u32 ((g0 ws 6 : Nat) : Int), .int .u32 ((g0 ws 7 : Nat) : Int)] = arrC .u32 ws
 | [_, _, _, _, _, _, _, _], _ => rfl
theorem not_cast (e : Nat) (h : e < 4294967296) : bits BinOp.xor IntKind.u32 (if IntKind.u32.signed = true then -1 else IntKind.u32.max) (e : Int) = ((4294967295 - e : Nat) : Int) := by
 have e1 : (if IntKind.u32.signed = true then (-1 : Int) else IntKind.u32.max) = ((4294967295 : Nat) : Int) := rfl
 have e2 : (4294967295 ^^^ e : Nat) = 4294967295 - e := by
  have h1 := congrArg BitVec.toNat (BitVec.allOnes_xor (x := BitVec.ofNat 32 e))
  rw [BitVec.toNat_xor, BitVec.toNat_allOnes, BitVec.toNat_not, BitVec.toNat_ofNat, Nat.mod_eq_of_lt (by simpa using h)] at h1
  exact h1
 rw [e1, u32_xor_nat _ _ (by decide) h, e2]
theorem set8 : ∀ {l : List Nat}, l.length = 8 → ∀ (a b c d e f g h : Nat), (((((((l.set 0 a).set 1 b).set 2 c).set 3 d).set 4 e).set 5 f).set 6 g).set 7 h = [a, b, c, d, e, f, g, h]
 | [_, _, _, _, _, _, _, _], _, _, _, _, _, _, _, _, _ => rfl
theorem idx8 (l : List Nat) (i : Nat) (hi : i < 8) (hl : l.length = 8) (w : World) : (Instr.index 168 (.agg (arrC .u32 l)) (.int .i64 (i : Int))).run Tryz.prog w = .ok (.int .u32 ((l[i]?.getD 0 : Nat) : Int)) w := by
 have hu : ∀ w, (underlying 168).run Tryz.prog w = .ok (.array 8 71) w := fun _ => by kernel_rfl
 have hs : ∀ w, (sizeOf 71).run Tryz.prog w = .ok 1 w := fun _ => by kernel_rfl
 have ha : ∀ w, (isAgg 71).run Tryz.prog w = .ok false w := fun _ => by kernel_rfl
 have hg := arrC_get .u32 l i (by omega)
 have h1 : 0 ≤ (i : Int) ∧ (i : Int) < ((8 : Nat) : Int) := by omega
 unfold Instr.index
 simp only [asIntOf, Sem.run_bind, Sem.run_pure, Result.andThen_ok, hu, if_pos h1, hs, Int.toNat_natCast, Nat.mul_one, part, ha]
 rw [hg]
 rfl
theorem StateAt.drew' {w : World} {g bits : Nat} {ws tail : List Nat} {taken : Nat} (h : StateAt w g bits ws tail taken) : StateAt w.drew g bits ws tail taken := h.block rfl
set_option maxRecDepth 100000 in
set_option maxHeartbeats 4000000 in
theorem turn_any (g bt : Nat) (ws tail : List Nat) (taken : Nat) (a : Option Addr) (cap : Nat) (bl : List Nat) (w : World) (h : StateAt w g bt ws tail taken) (hr : Reads .u8 w a 64 cap bl) (hb : ∀ x ∈ bl, x < 256) :
  Calls Tryz.prog 153 #[.pointer (some ⟨g, 0, none⟩), .slice a 64 cap] w fun e w' => e = .returned (.tuple #[]) ∧ StateAt w' g bt (turnN ws bl) tail taken ∧ w.grownBy w' (some g) := by
 have H := zH h
 have HR := zH hr
 have HB := zH hb
 have h0 : Tryz.f153.results = #[] := by kernel_rfl
 have H0 := zH h0
 clear h hr hb h0
 go_enter Tryz.func153, Tryz.ntmps153
 go_wp2_with fail
 refine (written_any w).mono ?_
 rintro e w1 ⟨rfl, rfl⟩
 have tf := tab_field (w.alloc (.cells tabC 175))
 go_wp2_with (refine wpList_store_row rfl _ _ _ rfl (w.heap.size + 1) (arrC .u32 kL) rfl rfl 172 (arrC .u32 (List.replicate 64 0)) (by rw [← z64, ← World.size_alloc w (.cells tabC 175)]; exact Go.heap_alloc_new _ _) (by kernel_rfl) (by kernel_rfl) (arrC_one _ _) ?_; generalize hW2 : World.setRow _ (w.heap.size + 1) (arrC .u32 kL) = W2; rw [z64, ← World.size_alloc w (.cells tabC 175), alloc_setRow] at hW2; have HF := zH (kept2 w W2 _ _ hW2); have H2 := zH (H.out.below HF.out.1 H.out.lt); have HR2 := zH (HR.out.below HF.out.1); have hK2 := zH (HF.out.2); clear hW2 tf; have c0 := H2.out.word 0 (by decide); have c1 := H2.out.word 1 (by decide); have c2 := H2.out.word 2 (by decide); have c3 := H2.out.word 3 (by decide); have c4 := H2.out.word 4 (by decide); have c5 := H2.out.word 5 (by decide); have c6 := H2.out.word 6 (by decide); have c7 := H2.out.word 7 (by decide); simp only [Nat.reduceAdd] at c0 c1 c2 c3 c4 c5 c6 c7)
 rw [arrC_eight ws H.out.wlen]
 have hb3 := (Below.refl W2.heap.size W2).alloc (Nat.le_refl _) (.cells (arrC .u32 ws) 168)
 have HV := zH (show Arr .u32 168 (W2.alloc (.cells (arrC .u32 ws) 168)) W2.heap.size (rdsN ws (schedN bl) 0) from Go.heap_alloc_new W2 _)
 have HK := zH (show Arr .u32 172 (W2.alloc (.cells (arrC .u32 ws) 168)) (w.heap.size + 1) kL from Arr.alloc hK2.out.1 _)
 have hzz := zH hK2.out.2
 have F := zH (HF.out.1.trans (hb3.mono HF.out.1.size))
 replace HR2 := zH (HR2.out.below hb3)
 have hV3 : W2.heap.size < (W2.alloc (.cells (arrC .u32 ws) 168)).heap.size := by simp
 generalize W2.alloc (.cells (arrC .u32 ws) 168) = W3 at *
 obtain ⟨V, hVe⟩ : ∃ V, V = W2.heap.size := ⟨_, rfl⟩
 obtain ⟨Kb, hKe⟩ : ∃ K, K = w.heap.size + 1 := ⟨_, rfl⟩
 rw [← hVe] at HV hV3 ⊢
 rw [← hKe] at HK ⊢
 have HKV := zH (show w.heap.size ≤ Kb ∧ Kb < V by have := hzz.out; omega)
 clear hb3 HF H2 hK2 hzz hVe hKe c0 c1 c2 c3 c4 c5 c6 c7
 refine (schedule_any a cap bl W3 HR2.out HB.out).mono ?_
 rintro e w4 ⟨rfl, hb4⟩
 replace HV := zH (HV.out.below hb4 hV3)
 replace HK := zH (HK.out.below hb4 (Nat.lt_trans HKV.out.2 hV3))
 replace F := zH (F.out.trans (hb4.mono F.out.size))
 have HSL := zH (schedN_len bl)
 have HSB := zH (schedN_lt bl HB.out)
 have HTN := zH (show turnN ws bl = addTo ws (rdsN ws (schedN bl) 64) 8 from rfl)
 clear hb4 HR2 hV3
 generalize schedN bl = sc at *
 go_wp2_with fail
 go_loopw [20] (fun iv wr => ∃ i : Nat, iv = .int .i64 (i : Int) ∧ i ≤ 64 ∧ Hid (Arr .u32 172 wr Kb kL ∧ Arr .u32 168 wr V (rdsN ws sc i) ∧ Below w.heap.size w wr)) (fun iv _ => 64 - (intOf iv).toNat)
 case atStart => exact ⟨0, rfl, by decide, HK.out, HV.out, F.out⟩
 case round =>
  obtain ⟨i, rfl, hi, hI⟩ := hrel
  rcases Nat.lt_or_ge i 64 with hlt | hge
  ·skip
   have hVl := rdsN_len ws sc H.out.wlen i
   have hVb := rdsN_lt ws sc H.out.wlt i
   have cv0 := hI.out.2.1.cell 0 (by rw [hVl]; decide)
   obtain ⟨a, ha⟩ : ∃ x, x = g0 (rdsN ws sc i) 0 := ⟨_, rfl⟩
   have la : a < 4294967296 := ha ▸ g0_lt hVb (by decide) 0
   rw [show (rdsN ws sc i)[0]?.getD 0 = a from ha.symm] at cv0
   have cv1 := hI.out.2.1.cell 1 (by rw [hVl]; decide)
   obtain ⟨b, hb⟩ : ∃ x, x = g0 (rdsN ws sc i) 1 := ⟨_, rfl⟩
   have lb : b < 4294967296 := hb ▸ g0_lt hVb (by decide) 1
   rw [show (rdsN ws sc i)[1]?.getD 0 = b from hb.symm] at cv1
   have cv2 := hI.out.2.1.cell 2 (by rw [hVl]; decide)
   obtain ⟨c, hc⟩ : ∃ x, x = g0 (rdsN ws sc i) 2 := ⟨_, rfl⟩
   have lc : c < 4294967296 := hc ▸ g0_lt hVb (by decide) 2
   rw [show (rdsN ws sc i)[2]?.getD 0 = c from hc.symm] at cv2
   have cv3 := hI.out.2.1.cell 3 (by rw [hVl]; decide)
   obtain ⟨d, hd⟩ : ∃ x, x = g0 (rdsN ws sc i) 3 := ⟨_, rfl⟩
   have ld : d < 4294967296 := hd ▸ g0_lt hVb (by decide) 3
   rw [show (rdsN ws sc i)[3]?.getD 0 = d from hd.symm] at cv3
   have cv4 := hI.out.2.1.cell 4 (by rw [hVl]; decide)
   obtain ⟨e, he⟩ : ∃ x, x = g0 (rdsN ws sc i) 4 := ⟨_, rfl⟩
   have le : e < 4294967296 := he ▸ g0_lt hVb (by decide) 4
   rw [show (rdsN ws sc i)[4]?.getD 0 = e from he.symm] at cv4
   have cv5 := hI.out.2.1.cell 5 (by rw [hVl]; decide)
   obtain ⟨f, hf⟩ : ∃ x, x = g0 (rdsN ws sc i) 5 := ⟨_, rfl⟩
   have lf : f < 4294967296 := hf ▸ g0_lt hVb (by decide) 5
   rw [show (rdsN ws sc i)[5]?.getD 0 = f from hf.symm] at cv5
   have cv6 := hI.out.2.1.cell 6 (by rw [hVl]; decide)
   obtain ⟨m, hm⟩ : ∃ x, x = g0 (rdsN ws sc i) 6 := ⟨_, rfl⟩
   have lm : m < 4294967296 := hm ▸ g0_lt hVb (by decide) 6
   rw [show (rdsN ws sc i)[6]?.getD 0 = m from hm.symm] at cv6
   have cv7 := hI.out.2.1.cell 7 (by rw [hVl]; decide)
   obtain ⟨h, hh⟩ : ∃ x, x = g0 (rdsN ws sc i) 7 := ⟨_, rfl⟩
   have lh : h < 4294967296 := hh ▸ g0_lt hVb (by decide) 7
   rw [show (rdsN ws sc i)[7]?.getD 0 = h from hh.symm] at cv7
   have ck := hI.out.1.cell i (by rw [kL_len]; exact hlt)
   obtain ⟨k, hk⟩ : ∃ x, x = g0 kL i := ⟨_, rfl⟩
   have lk : k < 4294967296 := hk ▸ g0_lt kL_lt (by decide) i
   rw [show kL[i]?.getD 0 = k from hk.symm] at ck
   have ix := idx64 sc i hlt HSL.out wr
   obtain ⟨u, hu⟩ : ∃ x, x = g0 sc i := ⟨_, rfl⟩
   have lu : u < 4294967296 := hu ▸ g0_lt HSB.out (by decide) i
   rw [show sc[i]?.getD 0 = u from hu.symm] at ix
   have HE := zH (show rdsN ws sc (i + 1) = [(yN e f m h k u + zN a b c) % 4294967296, a, b, c, (d + yN e f m h k u) % 4294967296, e, f, m] by rw [ha, hb, hc, hd, he, hf, hm, hh, hk, hu]; rfl)
   clear ha hb hc hd he hf hm hh hk hu hVl hVb
   obtain ⟨L1, hL1⟩ : ∃ x, x = laidN e 6 11 25 := ⟨_, rfl⟩
   have lL1 : L1 < 4294967296 := by rw [hL1]; exact laidN_lt le
   obtain ⟨s1, hs1⟩ : ∃ x, x = (h + k) % 4294967296 := ⟨_, rfl⟩
   have ls1 : s1 < 4294967296 := by omega
   obtain ⟨s2, hs2⟩ : ∃ x, x = (s1 + u) % 4294967296 := ⟨_, rfl⟩
   have ls2 : s2 < 4294967296 := by omega
   obtain ⟨s3, hs3⟩ : ∃ x, x = (s2 + L1) % 4294967296 := ⟨_, rfl⟩
   have ls3 : s3 < 4294967296 := by omega
   obtain ⟨A1, hA1⟩ : ∃ x, x = e &&& f := ⟨_, rfl⟩
   have lA1 : A1 < 4294967296 := by rw [hA1]; exact Nat.and_lt_two_pow (n := 32) e lf
   obtain ⟨N1, hN1⟩ : ∃ x, x = 4294967295 - e := ⟨_, rfl⟩
   have lN1 : N1 < 4294967296 := by omega
   obtain ⟨A2, hA2⟩ : ∃ x, x = N1 &&& m := ⟨_, rfl⟩
   have lA2 : A2 < 4294967296 := by rw [hA2]; exact Nat.and_lt_two_pow (n := 32) N1 lm
   obtain ⟨X1, hX1⟩ : ∃ x, x = A1 ^^^ A2 := ⟨_, rfl⟩
   have lX1 : X1 < 4294967296 := by rw [hX1]; exact Nat.xor_lt_two_pow (n := 32) lA1 lA2
   obtain ⟨y, hy⟩ : ∃ x, x = (s3 + X1) % 4294967296 := ⟨_, rfl⟩
   have ly : y < 4294967296 := by omega
   obtain ⟨L2, hL2⟩ : ∃ x, x = laidN a 2 13 22 := ⟨_, rfl⟩
   have lL2 : L2 < 4294967296 := by rw [hL2]; exact laidN_lt la
   obtain ⟨B1, hB1⟩ : ∃ x, x = a &&& b := ⟨_, rfl⟩
   have lB1 : B1 < 4294967296 := by rw [hB1]; exact Nat.and_lt_two_pow (n := 32) a lb
   obtain ⟨B2, hB2⟩ : ∃ x, x = a &&& c := ⟨_, rfl⟩
   have lB2 : B2 < 4294967296 := by rw [hB2]; exact Nat.and_lt_two_pow (n := 32) a lc
   obtain ⟨B3, hB3⟩ : ∃ x, x = b &&& c := ⟨_, rfl⟩
   have lB3 : B3 < 4294967296 := by rw [hB3]; exact Nat.and_lt_two_pow (n := 32) b lc
   obtain ⟨X2, hX2⟩ : ∃ x, x = B1 ^^^ B2 := ⟨_, rfl⟩
   have lX2 : X2 < 4294967296 := by rw [hX2]; exact Nat.xor_lt_two_pow (n := 32) lB1 lB2
   obtain ⟨X3, hX3⟩ : ∃ x, x = X2 ^^^ B3 := ⟨_, rfl⟩
   have lX3 : X3 < 4294967296 := by rw [hX3]; exact Nat.xor_lt_two_pow (n := 32) lX2 lB3
   obtain ⟨z, hz⟩ : ∃ x, x = (L2 + X3) % 4294967296 := ⟨_, rfl⟩
   have lz : z < 4294967296 := by omega
   obtain ⟨n0, hn0⟩ : ∃ x, x = (y + z) % 4294967296 := ⟨_, rfl⟩
   have ln0 : n0 < 4294967296 := by omega
   obtain ⟨n4, hn4⟩ : ∃ x, x = (d + y) % 4294967296 := ⟨_, rfl⟩
   have ln4 : n4 < 4294967296 := by omega
   have es1 : ((h : Int) + (k : Int)) % 4294967296 = (s1 : Int) := by omega
   have es2 : ((s1 : Int) + (u : Int)) % 4294967296 = (s2 : Int) := by omega
   have es3 : ((s2 : Int) + (L1 : Int)) % 4294967296 = (s3 : Int) := by omega
   have ey : ((s3 : Int) + (X1 : Int)) % 4294967296 = (y : Int) := by omega
   have ez : ((L2 : Int) + (X3 : Int)) % 4294967296 = (z : Int) := by omega
   have en0 : ((y : Int) + (z : Int)) % 4294967296 = (n0 : Int) := by omega
   have en4 : ((d : Int) + (y : Int)) % 4294967296 = (n4 : Int) := by omega
   have eN1 : bits BinOp.xor IntKind.u32 (if IntKind.u32.signed = true then -1 else IntKind.u32.max) (e : Int) = (N1 : Int) := by rw [hN1]; exact not_cast e le
   have eA1 : bits BinOp.and IntKind.u32 (e : Int) (f : Int) = (A1 : Int) := by rw [u32_and_nat _ _ le lf, hA1]
   have eA2 : bits BinOp.and IntKind.u32 (N1 : Int) (m : Int) = (A2 : Int) := by rw [u32_and_nat _ _ lN1 lm, hA2]
   have eX1 : bits BinOp.xor IntKind.u32 (A1 : Int) (A2 : Int) = (X1 : Int) := by rw [u32_xor_nat _ _ lA1 lA2, hX1]
   have eB1 : bits BinOp.and IntKind.u32 (a : Int) (b : Int) = (B1 : Int) := by rw [u32_and_nat _ _ la lb, hB1]
   have eB2 : bits BinOp.and IntKind.u32 (a : Int) (c : Int) = (B2 : Int) := by rw [u32_and_nat _ _ la lc, hB2]
   have eB3 : bits BinOp.and IntKind.u32 (b : Int) (c : Int) = (B3 : Int) := by rw [u32_and_nat _ _ lb lc, hB3]
   have eX2 : bits BinOp.xor IntKind.u32 (B1 : Int) (B2 : Int) = (X2 : Int) := by rw [u32_xor_nat _ _ lB1 lB2, hX2]
   have eX3 : bits BinOp.xor IntKind.u32 (X2 : Int) (B3 : Int) = (X3 : Int) := by rw [u32_xor_nat _ _ lX2 lB3, hX3]
   have HE2 := zH (show rdsN ws sc (i + 1) = [n0, a, b, c, n4, e, f, m] by rw [HE.out, hn0, hn4, hy, hz, hX3, hX2, hX1, hs3, hs2, hs1, hA1, hA2, hN1, hB1, hB2, hB3, hL1, hL2]; rfl)
   have RL1 := zH hL1
   have RL2 := zH hL2
   clear HE hL1 hs1 hs2 hs3 hA1 hN1 hA2 hX1 hy hL2 hB1 hB2 hB3 hX2 hX3 hz hn0 hn4
   go_wp2_with fail
   go_quiet ((go_at_call 188; exact Calls.quiet_of_same ((laid_any e 6 11 25 _ _ _ _ rfl rfl rfl (by decide) (by decide) (by decide) le L1 RL1.out).mono fun _ _ ⟨h1, h2⟩ => ⟨h1, h2.symm⟩)))
   have q5 : Hid (Arr .u32 172 (wr.drewN nq) Kb kL ∧ Arr .u32 168 (wr.drewN nq) V (rdsN ws sc i) ∧ Below w.heap.size w (wr.drewN nq)) := ⟨hI.out.1, hI.out.2.1, below_drewS hI.out.2.2 nq⟩
   have d0 : (wr.drewN nq).cell? ⟨V, 0, none⟩ = some (.int .u32 (a : Int)) := cv0
   have d1 : (wr.drewN nq).cell? ⟨V, 1, none⟩ = some (.int .u32 (b : Int)) := cv1
   have d2 : (wr.drewN nq).cell? ⟨V, 2, none⟩ = some (.int .u32 (c : Int)) := cv2
   have d3 : (wr.drewN nq).cell? ⟨V, 3, none⟩ = some (.int .u32 (d : Int)) := cv3
   have d4 : (wr.drewN nq).cell? ⟨V, 4, none⟩ = some (.int .u32 (e : Int)) := cv4
   have d5 : (wr.drewN nq).cell? ⟨V, 5, none⟩ = some (.int .u32 (f : Int)) := cv5
   have d6 : (wr.drewN nq).cell? ⟨V, 6, none⟩ = some (.int .u32 (m : Int)) := cv6
   generalize wr.drewN nq = w5 at *
   clear cv0 cv1 cv2 cv3 cv4 cv5 cv6 cv7 ck ix hI
   have hff := q5.out.2.1.frozen
   have f0 := hff 0
   have f1 := hff 1
   have f2 := hff 2
   have f3 := hff 3
   have f4 := hff 4
   have f5 := hff 5
   have f6 := hff 6
   have f7 := hff 7
   have c7 := q5.out.2.1.cell 7 (by rw [rdsN_len ws sc H.out.wlen i]; decide)
   clear hff
   go_wp2_with fail
   go_quiet ((go_at_call 188; exact Calls.quiet_of_same ((laid_any a 2 13 22 _ _ _ _ rfl rfl rfl (by decide) (by decide) (by decide) la L2 RL2.out).mono fun _ _ ⟨h1, h2⟩ => ⟨h1, h2.symm⟩)))
   go_wp2
   go_roundw
   case rel =>
    refine ⟨i + 1, by go_num, by omega, ?_⟩
    rw [HE2.out, ← set8 (rdsN_len ws sc H.out.wlen i) n0 a b c n4 e f m]
    have hne : Kb ≠ V := by have := HKV.out.2; omega
    have hle : w.heap.size ≤ V := by have := HKV.out; omega
    exact ⟨((((((((q5.out.1.drewN nq).other _ _ hne).other _ _ hne).other _ _ hne).other _ _ hne).other _ _ hne).other _ _ hne).other _ _ hne).other _ _ hne, ((((((((q5.out.2.1.drewN nq).stored 0 n0 _ rfl).stored 1 a _ rfl).stored 2 b _ rfl).stored 3 c _ rfl).stored 4 n4 _ rfl).stored 5 e _ rfl).stored 6 f _ rfl).stored 7 m _ rfl, ((((((((below_drewS q5.out.2.2 nq).setCell (p := ⟨V, 0, none⟩) hle _).setCell (p := ⟨V, 1, none⟩) hle _).setCell (p := ⟨V, 2, none⟩) hle _).setCell (p := ⟨V, 3, none⟩) hle _).setCell (p := ⟨V, 4, none⟩) hle _).setCell (p := ⟨V, 5, none⟩) hle _).setCell (p := ⟨V, 6, none⟩) hle _).setCell (p := ⟨V, 7, none⟩) hle _⟩
   case measure => simp [intOf]; omega
  ·obtain rfl : i = 64 := by omega
   have H4 := zH (H.out.below hI.out.2.2 H.out.lt)
   have G4 := zH (grown_below hI.out.2.2 (some g))
   have hv := hI.out.2.1
   have hvl := zH (rdsN_len ws sc H.out.wlen 64)
   have hvb := zH (rdsN_lt ws sc H.out.wlt 64)
   generalize rdsN ws sc 64 = v at *
   have hHv := zH hv
   clear hI hv
   go_wp2_with (refine wpList_load_row rfl _ _ rfl V rfl _ (arrC .u32 v) _ _ hHv.out Tryz.underlying168 rfl (by rw [arrC_size, hvl.out]; kernel_rfl) ?_)
   go_loopw [92] (fun iv wq => ∃ j : Nat, iv = .int .i64 (j : Int) ∧ j ≤ 8 ∧ Hid (StateAt wq g bt (addTo ws v j) tail taken ∧ w.grownBy wq (some g))) (fun iv _ => 8 - (intOf iv).toNat)
   case atStart => exact ⟨0, rfl, by decide, H4.out, G4.out⟩
   case round =>
    obtain ⟨j, rfl, hj, hI⟩ := hrel
    rcases Nat.lt_or_ge j 8 with hlt | hge
    ·have cj := hI.out.1.word j hlt
     have fj := hI.out.1.frozen (1 + j)
     obtain ⟨x, hx⟩ : ∃ x, x = g0 (addTo ws v j) j := ⟨_, rfl⟩
     rw [← hx] at cj
     have lx : x < 4294967296 := hx ▸ g0_lt hI.out.1.wlt (by decide) j
     have ix := idx8 v j hlt hvl.out
     obtain ⟨u, hu⟩ : ∃ u, u = g0 v j := ⟨_, rfl⟩
     have lu : u < 4294967296 := hu ▸ g0_lt hvb.out (by decide) j
     rw [show v[j]?.getD 0 = u from hu.symm] at ix
     have ixw := ix wr
     obtain ⟨s, hs⟩ : ∃ s, s = (x + u) % 4294967296 := ⟨_, rfl⟩
     have ls : s < 4294967296 := by omega
     have es : ((x : Int) + (u : Int)) % 4294967296 = (s : Int) := by omega
     have HE := zH (show addTo ws v (j + 1) = (addTo ws v j).set j s by rw [hs, hx, hu]; rfl)
     clear hx hu hs ix
     go_wp2_with fail
     go_region
     go_wp2
     go_roundw
     case rel => exact ⟨j + 1, by go_num, by omega, by rw [HE.out]; exact (hI.out.1.drew').setWord j s hlt _ rfl ls, grown_set (grown_drew hI.out.2) _ _⟩
     case measure => simp [intOf]; omega
    ·obtain rfl : j = 8 := by omega
     go_wp2
     refine bodyPost_end (v := .tuple #[]) (by simp [results, H0.out]) rfl ?_
     exact ⟨rfl, by rw [HTN.out]; exact hI.out.1, hI.out.2⟩
end Go.Proofs.YtpefjkndfifceaaGreatDoor
namespace Go.Proofs.YtpefjkndfifceaaGreatDoor
open Go.RowKit Go.Shelf
attribute [local go_sem] Oper.semAt_some
def stP (n r : Nat) : Nat → Nat
 | 0 => 0
 | j + 1 => min n (r + 64 * j)
def rmP (r : Nat) : Nat → Nat
 | 0 => r
 | _ + 1 => 64
theorem stP_le (n r : Nat) : ∀ j, stP n r j ≤ n
 | 0 => Nat.zero_le _
 | _ + 1 => Nat.min_le_left _ _
theorem stP_next (n r : Nat) : ∀ j, stP n r j < n → stP n r (j + 1) = stP n r j + min (rmP r j) (n - stP n r j)
 | 0, _ => by simp [stP, rmP]; omega
 | j + 1, h => by simp only [stP, rmP] at h ⊢; omega
def pcs (n r m : Nat) : List (Nat × Nat) := (List.range m).map fun j => (stP n r j, stP n r (j + 1) - stP n r j)
theorem pcs_succ (n r m : Nat) : pcs n r (m + 1) = pcs n r m ++ [(stP n r m, stP n r (m + 1) - stP n r m)] := by
 unfold pcs
 rw [List.range_succ, List.map_append]
 rfl
abbrev Pc (C : Nat × Nat → Prop) := { p : Nat × Nat // C p }
abbrev encP (blk off cap : Nat) {C : Nat × Nat → Prop} (x : Pc C) : Array Value := #[.slice (some ⟨blk, off + x.1.1, none⟩) x.1.2 (cap - x.1.1)]
def sliceLen : Option Value → Nat
 | some (.slice _ m _) => m
 | _ => 0
set_option maxRecDepth 100000 in
set_option maxHeartbeats 4000000 in
theorem pieces_come (fn : Nat) (hfn : 1 ≤ fn) (C : Nat × Nat → Prop) (bb br blk off n cap r : Nat) (a0 : Option Addr) (w : World) (hb : Boxed w bb 22 (.slice a0 n cap)) (hr : Boxed w br 3 (.int .i64 (r : Int))) (hne : bb ≠ br)
  (ha : 0 < n → a0 = some ⟨blk, off, none⟩) (hnc : n ≤ cap) (hcm : cap ≤ maxLen) (hr1 : 1 ≤ r) (hr2 : r ≤ 64) (hC : ∀ j, stP n r j < n → C (stP n r j, stP n r (j + 1) - stP n r j)) :
  SeqR (fun k => k = bb ∨ k = br) Fence.wide fn Tryz.prog 186 #[.pointer (some ⟨bb, 0, none⟩), .pointer (some ⟨br, 0, none⟩)] (encP blk off cap (C := C)) (fun xs => ∃ m, xs.map (·.1) = pcs n r m ∧ stP n r m = n) (fun pre => ∃ m, pre.map (·.1) = pcs n r (m + 1) ∧ stP n r m < n) w := fun lp J Jx W hW hJ hJx hY h0 => by
 have bB : Boxed W bb 22 (.slice a0 n cap) := (hW.block bb hb.lt).trans hb
 have bR : Boxed W br 3 (.int .i64 (r : Int)) := (hW.block br hr.lt).trans hr
 unfold maxLen at hcm
 have HJ := zH hJ
 have HA := zH ha
 have BB := zH bB
 have BR := zH bR
 have HC := zH hC
 clear hb hr hW hJ hJx ha bB bR hC
 refine callsIn_of_wp Tryz.func186 rfl trivial ?_ rfl
 simp only [Tryz.ntmps186, List.size_toArray, List.length_cons, List.length_nil, Nat.reduceAdd, Nat.reduceSub, Array.replicate_succ, Array.replicate_zero, List.push_toArray, List.append_toArray, List.nil_append, List.cons_append]
 gi_wp2
 gi_loopw [] (fun wr => ∃ (j m c ro : Nat) (a : Option Addr), Hid (Boxed wr bb 22 (.slice a m c) ∧ Boxed wr br 3 (.int .i64 (ro : Int)) ∧ m = n - stP n r j ∧ c = cap - stP n r j ∧ ro = rmP r j ∧ (0 < m → a = some ⟨blk, off + stP n r j, none⟩) ∧ ∃ pre : List (Pc C), pre.map (·.1) = pcs n r j ∧ J pre wr)) (fun wr => sliceLen (wr.cell? ⟨bb, 0, none⟩))
 case atStart => exact ⟨0, n, cap, r, a0, BB.out, BR.out, rfl, rfl, rfl, fun h => HA.out h, [], rfl, h0⟩
 case round =>
  obtain ⟨j, m, c, ro, a, hI⟩ := hrel
  obtain ⟨b1, b2, hm, hc, hro, had, pre, hpre, hj⟩ := hI.out
  clear hI
  have cb := b1.cell
  have cr := b2.cell
  have fb := b1.frozen
  have fr := b2.frozen
  have B1 := zH b1
  have B2 := zH b2
  have HRO := zH hro
  have HPRE := zH hpre
  have HJ1 := zH hj
  have hstn := stP_le n r j
  rcases Nat.eq_zero_or_pos m with h0m | hpos
  ·subst h0m
   have HF := zH (show stP n r j = n by omega)
   clear hm hc hro had hpre hj
   gi_wp2
   go_end0
   exact ⟨⟨_, rfl⟩, .inl ⟨pre, ⟨j, HPRE.out, HF.out⟩, HJ1.out⟩⟩
  ·obtain rfl := had hpos
   have hlt : stP n r j < n := by omega
   have hnx := stP_next n r j hlt
   rw [← hro, ← hm] at hnx
   have hro1 : 1 ≤ ro := by rw [hro]; cases j with | zero => exact hr1 | succ j => show 1 ≤ 64; decide
   have hmc : m ≤ c := by omega
   have hcm2 : c ≤ 9223372036854775807 := by omega
   have hro64 : ro ≤ 64 := by rw [hro]; cases j with | zero => exact hr2 | succ j => show 64 ≤ 64; decide
   obtain ⟨s, hs⟩ : ∃ s, s = stP n r j := ⟨_, rfl⟩
   rcases Nat.lt_or_ge m ro with hrm | hrm
   ·have hz : min ro m = m := by omega
    rw [hz] at hnx
    have hz1 : 1 ≤ m := by omega
    have hCx : C (s, m) := by
     have := HC.out j hlt
     rw [hnx, Nat.add_sub_cancel_left, ← hs] at this
     exact this
    obtain ⟨fn1, tmps, assign, body, hy, hR⟩ := hY pre ⟨(s, m), hCx⟩ wr hj
    simp only [encP] at hy
    rw [← hs] at hnx hc hm cb hstn B1
    rw [← hc] at hy
    have HR := zH hR
    have HS := zH hs
    have HP1 := zH (show (pre ++ [(⟨(s, m), hCx⟩ : Pc C)]).map (·.1) = pcs n r (j + 1) by rw [List.map_append, pcs_succ, HPRE.out, hnx, ← hs, Nat.add_sub_cancel_left]; rfl)
    have HNX := zH hnx
    have HM := zH hm
    have HCC := zH hc
    clear hm hc hro hpre hj hnx hz hs had hR
    gi_wp2_with fail
    refine HR.out.mono ?_
    rintro e W3 (⟨rfl, hJ3, hk3⟩ | ⟨rfl, hx3⟩)
    ·have b3 : Boxed W3 bb 22 (.slice (some ⟨blk, off + s, none⟩) m c) := (hk3.2 bb (.inl rfl)).trans B1.out
     have b4 : Boxed W3 br 3 (.int .i64 (ro : Int)) := (hk3.2 br (.inr rfl)).trans B2.out
     have c3 := b3.cell
     have f3 := b3.frozen
     have f4 := b4.frozen
     have c4 := b4.cell
     have hne2 := Ne.symm hne
     have B3 := zH b3
     have B4 := zH b4
     have J3 := zH hJ3
     clear hJ3 hk3 cb cr fb fr b3 b4 b1 b2
     have fin := zH (show ∀ (a' : Option Addr) (m' c' : Nat), m' = n - stP n r (j + 1) → c' = cap - stP n r (j + 1) → (0 < m' → a' = some ⟨blk, off + stP n r (j + 1), none⟩) → m' < m → (∃ (j m c ro : Nat) (a : Option Addr), Hid (Boxed ((W3.setCell ⟨bb, 0, none⟩ (.slice a' m' c')).setCell ⟨br, 0, none⟩ (.int .i64 64)) bb 22 (.slice a m c) ∧ Boxed ((W3.setCell ⟨bb, 0, none⟩ (.slice a' m' c')).setCell ⟨br, 0, none⟩ (.int .i64 64)) br 3 (.int .i64 (ro : Int)) ∧ m = n - stP n r j ∧ c = cap - stP n r j ∧ ro = rmP r j ∧ (0 < m → a = some ⟨blk, off + stP n r j, none⟩) ∧ ∃ pre : List (Pc C), pre.map (·.1) = pcs n r j ∧ J pre ((W3.setCell ⟨bb, 0, none⟩ (.slice a' m' c')).setCell ⟨br, 0, none⟩ (.int .i64 64)))) ∧ sliceLen (((W3.setCell ⟨bb, 0, none⟩ (.slice a' m' c')).setCell ⟨br, 0, none⟩ (.int .i64 64)).cell? ⟨bb, 0, none⟩) < sliceLen (wr.cell? ⟨bb, 0, none⟩) from fun a' m' c' h1 h2 h3 h4 => by
      have k1 : Boxed ((W3.setCell ⟨bb, 0, none⟩ (.slice a' m' c')).setCell ⟨br, 0, none⟩ (.int .i64 64)) bb 22 (.slice a' m' c') := (B3.out.set _).other hne _
      refine ⟨⟨j + 1, m', c', 64, a', k1, (B4.out.other hne2 _).set _, h1, h2, rfl, h3, _, HP1.out, ?_⟩, ?_⟩
      ·exact HJ.out _ _ _ (some br) (HJ.out _ _ _ (some bb) J3.out (grownBy_setCell' W3 bb _) (fun r e => by cases e; exact .inl rfl)) (grownBy_setCell' _ br _) (fun r e => by cases e; exact .inr rfl)
      ·rw [k1.cell, B1.out.cell]
       exact h4)
     by_cases hcz : c = m
     ·have hmz : m = m := by omega
      have HZ := zH (show m = n - s ∧ m = cap - s by have h1 := HM.out; have h2 := HCC.out; omega)
      clear hmz
      subst hcz
      gi_wp2_with fail
      exact fin.out _ _ _ (by have e1 := HNX.out; have e2 := HM.out; have e3 := HCC.out; have e4 := HS.out; omega) (by have e1 := HNX.out; have e2 := HM.out; have e3 := HCC.out; have e4 := HS.out; omega) (fun h => by first | omega | (rw [HNX.out, Nat.add_assoc])) (by omega)
     ·gi_wp2_with fail
      exact fin.out _ _ _ (by have e1 := HNX.out; have e2 := HM.out; have e3 := HCC.out; have e4 := HS.out; omega) (by have e1 := HNX.out; have e2 := HM.out; have e3 := HCC.out; have e4 := HS.out; omega) (fun h => by first | omega | (rw [HNX.out, Nat.add_assoc])) (by omega)
    ·have HX3 := zH hx3
     clear hx3
     gi_wp2
     refine bodyPost_ret (results_none rfl _ _ _) rfl ?_
     exact ⟨⟨_, rfl⟩, .inr ⟨_, ⟨j, HP1.out, by rw [← HS.out]; have := HM.out; omega⟩, HX3.out⟩⟩
   ·have hz : min ro m = ro := by omega
    rw [hz] at hnx
    have hz1 : 1 ≤ ro := by omega
    have hCx : C (s, ro) := by
     have := HC.out j hlt
     rw [hnx, Nat.add_sub_cancel_left, ← hs] at this
     exact this
    obtain ⟨fn1, tmps, assign, body, hy, hR⟩ := hY pre ⟨(s, ro), hCx⟩ wr hj
    simp only [encP] at hy
    rw [← hs] at hnx hc hm cb hstn B1
    rw [← hc] at hy
    have HR := zH hR
    have HS := zH hs
    have HP1 := zH (show (pre ++ [(⟨(s, ro), hCx⟩ : Pc C)]).map (·.1) = pcs n r (j + 1) by rw [List.map_append, pcs_succ, HPRE.out, hnx, ← hs, Nat.add_sub_cancel_left]; rfl)
    have HNX := zH hnx
    have HM := zH hm
    have HCC := zH hc
    clear hm hc hro hpre hj hnx hz hs had hR
    gi_wp2_with fail
    refine HR.out.mono ?_
    rintro e W3 (⟨rfl, hJ3, hk3⟩ | ⟨rfl, hx3⟩)
    ·have b3 : Boxed W3 bb 22 (.slice (some ⟨blk, off + s, none⟩) m c) := (hk3.2 bb (.inl rfl)).trans B1.out
     have b4 : Boxed W3 br 3 (.int .i64 (ro : Int)) := (hk3.2 br (.inr rfl)).trans B2.out
     have c3 := b3.cell
     have f3 := b3.frozen
     have f4 := b4.frozen
     have c4 := b4.cell
     have hne2 := Ne.symm hne
     have B3 := zH b3
     have B4 := zH b4
     have J3 := zH hJ3
     clear hJ3 hk3 cb cr fb fr b3 b4 b1 b2
     have fin := zH (show ∀ (a' : Option Addr) (m' c' : Nat), m' = n - stP n r (j + 1) → c' = cap - stP n r (j + 1) → (0 < m' → a' = some ⟨blk, off + stP n r (j + 1), none⟩) → m' < m → (∃ (j m c ro : Nat) (a : Option Addr), Hid (Boxed ((W3.setCell ⟨bb, 0, none⟩ (.slice a' m' c')).setCell ⟨br, 0, none⟩ (.int .i64 64)) bb 22 (.slice a m c) ∧ Boxed ((W3.setCell ⟨bb, 0, none⟩ (.slice a' m' c')).setCell ⟨br, 0, none⟩ (.int .i64 64)) br 3 (.int .i64 (ro : Int)) ∧ m = n - stP n r j ∧ c = cap - stP n r j ∧ ro = rmP r j ∧ (0 < m → a = some ⟨blk, off + stP n r j, none⟩) ∧ ∃ pre : List (Pc C), pre.map (·.1) = pcs n r j ∧ J pre ((W3.setCell ⟨bb, 0, none⟩ (.slice a' m' c')).setCell ⟨br, 0, none⟩ (.int .i64 64)))) ∧ sliceLen (((W3.setCell ⟨bb, 0, none⟩ (.slice a' m' c')).setCell ⟨br, 0, none⟩ (.int .i64 64)).cell? ⟨bb, 0, none⟩) < sliceLen (wr.cell? ⟨bb, 0, none⟩) from fun a' m' c' h1 h2 h3 h4 => by
      have k1 : Boxed ((W3.setCell ⟨bb, 0, none⟩ (.slice a' m' c')).setCell ⟨br, 0, none⟩ (.int .i64 64)) bb 22 (.slice a' m' c') := (B3.out.set _).other hne _
      refine ⟨⟨j + 1, m', c', 64, a', k1, (B4.out.other hne2 _).set _, h1, h2, rfl, h3, _, HP1.out, ?_⟩, ?_⟩
      ·exact HJ.out _ _ _ (some br) (HJ.out _ _ _ (some bb) J3.out (grownBy_setCell' W3 bb _) (fun r e => by cases e; exact .inl rfl)) (grownBy_setCell' _ br _) (fun r e => by cases e; exact .inr rfl)
      ·rw [k1.cell, B1.out.cell]
       exact h4)
     by_cases hcz : c = ro
     ·have hmz : m = ro := by omega
      have HZ := zH (show ro = n - s ∧ ro = cap - s by have h1 := HM.out; have h2 := HCC.out; omega)
      subst hmz
      subst hcz
      gi_wp2_with fail
      exact fin.out _ _ _ (by have e1 := HNX.out; have e2 := HM.out; have e3 := HCC.out; have e4 := HS.out; omega) (by have e1 := HNX.out; have e2 := HM.out; have e3 := HCC.out; have e4 := HS.out; omega) (fun h => by first | omega | (rw [HNX.out, Nat.add_assoc])) (by omega)
     ·gi_wp2_with fail
      exact fin.out _ _ _ (by have e1 := HNX.out; have e2 := HM.out; have e3 := HCC.out; have e4 := HS.out; omega) (by have e1 := HNX.out; have e2 := HM.out; have e3 := HCC.out; have e4 := HS.out; omega) (fun h => by first | omega | (rw [HNX.out, Nat.add_assoc])) (by omega)
    ·have HX3 := zH hx3
     clear hx3
     gi_wp2
     refine bodyPost_ret (results_none rfl _ _ _) rfl ?_
     exact ⟨⟨_, rfl⟩, .inr ⟨_, ⟨j, HP1.out, by rw [← HS.out]; have := HM.out; omega⟩, HX3.out⟩⟩
end Go.Proofs.YtpefjkndfifceaaGreatDoor
namespace Go.Proofs.YtpefjkndfifceaaGreatDoor
open Go.RowKit Go.Shelf
def startN (bt : Nat) : List Nat := if bt = 256 then startL.take 8 else startL.drop 8
def wsK (bt : Nat) (m : List Nat) : Nat → List Nat
 | 0 => startN bt
 | k + 1 => turnN (wsK bt m k) ((m.drop (64 * k)).take 64)
theorem wsK_ext {bt : Nat} {m m' : List Nat} : ∀ k, m.take (64 * k) = m'.take (64 * k) → wsK bt m k = wsK bt m' k
 | 0, _ => rfl
 | k + 1, h => by
  have h1 : m.take (64 * k) = m'.take (64 * k) := by
   have := congrArg (List.take (64 * k)) h
   rwa [List.take_take, List.take_take, Nat.min_eq_left (by omega)] at this
  have h2 : (m.drop (64 * k)).take 64 = (m'.drop (64 * k)).take 64 := by
   have := congrArg (List.drop (64 * k)) h
   rwa [List.drop_take, List.drop_take, show 64 * (k + 1) - 64 * k = 64 by omega] at this
  show turnN _ _ = turnN _ _
  rw [wsK_ext k h1, h2]
theorem startN_len (bt : Nat) : (startN bt).length = 8 := by unfold startN; split <;> rfl
theorem startN_lt (bt : Nat) : ∀ x ∈ startN bt, x < 4294967296 := by
 unfold startN
 split
 ·exact fun x hx => startL_lt x (List.mem_of_mem_take hx)
 ·exact fun x hx => startL_lt x (List.mem_of_mem_drop hx)
def FinP (bt : Nat) (m ws tail : List Nat) : Prop := ws = wsK bt m (m.length / 64) ∧ tail.take (m.length % 64) = m.drop (64 * (m.length / 64))
def StateOf (w : World) (g bt : Nat) (m : List Nat) : Prop := ∃ ws tail, StateAt w g bt ws tail m.length ∧ FinP bt m ws tail ∧ m.length < 1152921504606846976 ∧ ∀ x ∈ m, x < 256
def SemP (bt : Nat) (m : List Nat) (k0 q0 n r j : Nat) (ws tail : List Nat) (at' : Nat) : Prop :=
 ws = wsK bt m (q0 + j) ∧ k0 + stP n r j = 64 * (q0 + j) + at' ∧ tail.take at' = (m.drop (64 * (q0 + j))).take at' ∧ rmP r j + at' = 64
def laidIn (tail p : List Nat) (at' : Nat) : List Nat := tail.take at' ++ (p.take (64 - at') ++ tail.drop (at' + (p.take (64 - at')).length))
theorem laidIn_len {tail p : List Nat} {at' : Nat} (ht : tail.length = 64) (ha : at' ≤ 64) : (laidIn tail p at').length = 64 := by
 unfold laidIn
 simp only [List.length_append, List.length_take, List.length_drop, ht]
 omega
theorem laidIn_lt {tail p : List Nat} {at' b : Nat} (h1 : ∀ x ∈ tail, x < b) (h2 : ∀ x ∈ p, x < b) : ∀ x ∈ laidIn tail p at', x < b := fun x hx => by
 unfold laidIn at hx
 rcases List.mem_append.1 hx with h | h
 ·exact h1 x (List.mem_of_mem_take h)
 ·rcases List.mem_append.1 h with h | h
  ·exact h2 x (List.mem_of_mem_take h)
  ·exact h1 x (List.mem_of_mem_drop h)
theorem laidIn_take {tail p : List Nat} {at' : Nat} (ht : tail.length = 64) (ha : at' + p.length ≤ 64) : (laidIn tail p at').take (at' + p.length) = tail.take at' ++ p := by
 unfold laidIn
 rw [List.take_of_length_le (show p.length ≤ 64 - at' by omega), ← List.append_assoc, List.take_left' (by simp; omega)]
theorem piece_eq {m0 bl : List Nat} (s l : Nat) : (bl.drop s).take l = ((m0 ++ bl).drop (m0.length + s)).take l := by
 rw [List.drop_append (l₁ := m0), List.drop_of_length_le (l := m0) (by omega), List.nil_append, Nat.add_sub_cancel_left]
theorem join_take {m : List Nat} (k a l : Nat) : (m.drop k).take a ++ (m.drop (k + a)).take l = (m.drop k).take (a + l) := by
 rw [List.take_add, List.drop_drop]
variable {bt k0 q0 n r j at' : Nat} {m0 bl ws tail : List Nat}
theorem SemP.len (h : SemP bt (m0 ++ bl) m0.length q0 n r j ws tail at') (hn : n = bl.length) (hlt : stP n r j < n) :
  stP n r (j + 1) - stP n r j = min (64 - at') (n - stP n r j) := by
 have := stP_next n r j hlt
 have h4 := h.2.2.2
 omega
theorem SemP.laid (h : SemP bt (m0 ++ bl) m0.length q0 n r j ws tail at') (hn : n = bl.length) (ht : tail.length = 64) {l : Nat} (hl : l ≤ n - stP n r j) (hl2 : at' + l ≤ 64) :
  (laidIn tail ((bl.drop (stP n r j)).take l) at').take (at' + l) = ((m0 ++ bl).drop (64 * (q0 + j))).take (at' + l) := by
 obtain ⟨h1, h2, h3, h4⟩ := h
 have hlen : ((bl.drop (stP n r j)).take l).length = l := by simp; omega
 have := laidIn_take (p := (bl.drop (stP n r j)).take l) ht (by rw [hlen]; exact hl2)
 rw [hlen] at this
 rw [this, h3, piece_eq (m0 := m0) (bl := bl) (stP n r j) l, h2, join_take]
theorem SemP.next (h : SemP bt (m0 ++ bl) m0.length q0 n r j ws tail at') (hn : n = bl.length) (ht : tail.length = 64) (hlt : stP n r j < n) (hw : 64 ≤ at' + (stP n r (j + 1) - stP n r j)) :
  SemP bt (m0 ++ bl) m0.length q0 n r (j + 1) (turnN ws (laidIn tail ((bl.drop (stP n r j)).take (stP n r (j + 1) - stP n r j)) at')) (laidIn tail ((bl.drop (stP n r j)).take (stP n r (j + 1) - stP n r j)) at') 0 := by
 have hl := h.len hn hlt
 have hd := h.laid hn ht (l := stP n r (j + 1) - stP n r j) (by omega) (by have := h.2.2.2; omega)
 have hst := stP_le n r j
 have hst2 := stP_next n r j hlt
 have h64 : at' + (stP n r (j + 1) - stP n r j) = 64 := by have := h.2.2.2; omega
 rw [h64, List.take_of_length_le (by rw [laidIn_len ht (by omega)]; exact Nat.le_refl _)] at hd
 refine ⟨?_, ?_, rfl, rfl⟩
 ·rw [hd, h.1]
  rfl
 ·have := h.2.1
  have := h.2.2.2
  omega
theorem SemP.fin (h : SemP bt (m0 ++ bl) m0.length q0 n r j ws tail at') (hn : n = bl.length) (ht : tail.length = 64) {l : Nat} (hl : l = n - stP n r j) (hw : at' + l < 64) :
  FinP bt (m0 ++ bl) ws (laidIn tail ((bl.drop (stP n r j)).take l) at') := by
 have hd := h.laid hn ht (l := l) (by omega) (by omega)
 have hst := stP_le n r j
 have hm : (m0 ++ bl).length = 64 * (q0 + j) + (at' + l) := by
  have := h.2.1
  simp
  omega
 have e1 : (m0 ++ bl).length / 64 = q0 + j := by omega
 have e2 : (m0 ++ bl).length % 64 = at' + l := by omega
 refine ⟨by rw [e1]; exact h.1, ?_⟩
 rw [e1, e2, hd, List.take_of_length_le (by rw [List.length_drop]; omega)]
theorem SemP.done (h : SemP bt (m0 ++ bl) m0.length q0 n r j ws tail at') (hn : n = bl.length) (hs : stP n r j = n) (ha : at' < 64) : FinP bt (m0 ++ bl) ws tail := by
 have hm : (m0 ++ bl).length = 64 * (q0 + j) + at' := by
  have := h.2.1
  simp
  omega
 have e1 : (m0 ++ bl).length / 64 = q0 + j := by omega
 have e2 : (m0 ++ bl).length % 64 = at' := by omega
 refine ⟨by rw [e1]; exact h.1, ?_⟩
 rw [e1, e2, h.2.2.1, List.take_of_length_le (by rw [List.length_drop]; omega)]
theorem SemP.start (h : FinP bt m0 ws tail) : SemP bt (m0 ++ bl) m0.length (m0.length / 64) n (64 - m0.length % 64) 0 ws tail (m0.length % 64) := by
 refine ⟨?_, by show m0.length + 0 = _; omega, ?_, by show 64 - m0.length % 64 + m0.length % 64 = 64; omega⟩
 ·rw [h.1, Nat.add_zero]
  exact wsK_ext _ (by rw [List.take_append_of_le_length (by omega)])
 ·rw [h.2, Nat.add_zero, List.drop_append_of_le_length (by omega), List.take_append_of_le_length (by rw [List.length_drop]; omega), List.take_of_length_le (by rw [List.length_drop]; omega)]
end Go.Proofs.YtpefjkndfifceaaGreatDoor
namespace Go.Proofs.YtpefjkndfifceaaGreatDoor
open Go.RowKit
section
variable {P : Program} {ops : Array Oper} {Q : Exit → Act → World → Prop}
theorem uponIn_of (l n : Nat) {o : Oper} {a : Act} {K K' : Act → World → Prop} (hK : ∀ a w, K a w → K' a w) (r : Result Next) (h : o.upon P a K Q r) : o.uponIn (Fence.wide.inRound l) n P a K' Q r := by
 cases r with
 | ok nx w' =>
  cases nx with
  | value v => exact hK _ _ h
  | skip => exact hK _ _ h
  | defer d => exact hK _ _ h
  | enter f args =>
   refine ⟨(fun hd => absurd hd (by simp [Fence.inRound, Fence.wide])), ?_⟩
   refine CallsIn.inRound l (callsIn_wide.2 (Calls.mono h ?_))
   intro e w'' he
   cases e with
   | returned v => exact hK _ _ he
   | panicked c => exact he
   | outgrown => exact he
  | row s g =>
   refine ⟨(fun hd => absurd hd (by simp [Fence.inRound, Fence.wide])), ?_⟩
   intro c cs _
   obtain ⟨v, w'', r, s⟩ := h c cs
   exact ⟨v, w'', hK _ _ r, stepsIn_wide.2 s⟩
  | _ => exact h.elim
 | halt c w' =>
  cases c <;> first | exact h | exact h.elim
def Plain (ops : Array Oper) : Prop := ∀ (i : Nat) (o : Oper), ops[i]? = some o → ∀ c, o.op ≠ .defer c
def plainB (ops : Array Oper) : Bool := ops.toList.all fun o => match o.op with
 | .defer _ => false
 | _ => true
theorem plain_of (h : plainB ops = true) : Plain ops := fun i o ho c hc => by
 have h1 := List.all_eq_true.1 h o (by
  rw [← Array.getElem?_toList] at ho
  exact List.mem_of_getElem? ho)
 rw [hc] at h1
 cases h1
theorem wpOpIn_of (l n : Nat) (hd : Plain ops) (hq : ¬ LetsOut Q) {i : Nat} {K K' : Act → World → Prop} (hK : ∀ a w, K a w → K' a w) {a : Act} {w : World} (h : wpOp P ops Q i K a w) : wpOpIn (Fence.wide.inRound l) n P ops Q i K' a w := by
 unfold wpOp at h
 unfold wpOpIn
 cases ho : ops[i]? with
 | none =>
  rw [ho] at h
  exact hK _ _ h
 | some o =>
  rw [ho] at h
  simp only at h ⊢
  split
  ·next hw =>
   rw [if_pos hw] at h
   rcases h with h | h
   ·refine ⟨fun _ _ => trivial, ?_⟩
    rw [Oper.semAt_eq _ _ _ (hd i o ho)]
    exact uponIn_of l n hK _ h
   ·exact absurd h.2 hq
  ·next hw =>
   rw [if_neg hw] at h
   exact ⟨fun _ _ => trivial, hK _ _ h⟩
theorem wpAnyIn_of (l n : Nat) (md : Region.Mode) (hd : Plain ops) (hq : ¬ LetsOut Q) : ∀ (fuel : Nat) (listed : Array Bool) (a : Act) (w : World), wpAny P md ops Q fuel listed a w → wpAnyIn (Fence.wide.inRound l) n P md ops Q fuel listed a w
 | 0, _, _, _, h => h
 | fuel + 1, listed, a, w, h => ⟨h.1, fun i hi => wpOpIn_of l n hd hq (fun a w hh => wpAnyIn_of l n md hd hq fuel _ a w hh) (h.2 i hi)⟩
theorem wpIn_region_held_drew {S : World → Prop} {id l n : Nat} {a : Act} {w : World} (hm : P.follows .mixedOrders = true) (hd : Plain ops) (hq : ¬ LetsOut Q) (hS : S w.drew)
  (h : S w.drew → wpAnyH P .any ops Q S ops.size (Array.replicate ops.size false) a w.drew) : (Code.region id ops true).wpIn (Fence.wide.inRound l) n P Q a w :=
 wpIn_region_any hm (wpAnyIn_of l n .any hd hq _ _ _ _ (wpAny_of_held _ _ _ _ (h hS)))
end
end Go.Proofs.YtpefjkndfifceaaGreatDoor
namespace Go.Proofs.YtpefjkndfifceaaGreatDoor
open Go.RowKit Go.Shelf
set_option maxRecDepth 100000
attribute [local go_sem] Oper.semAt_some
theorem made_yes (g bt : Nat) (ws tail : List Nat) (T : Nat) (w : World) (h : StateAt w g bt ws tail T) (hb : bt ≠ 0) : Calls Tryz.prog 151 #[.pointer (some ⟨g, 0, none⟩)] w fun e w' => e = .returned (.bool true) ∧ w = w' := by
 have h0 := h.bits
 have ht : ((bt : Int) != 0) = true := by simp; omega
 clear h
 go_enter Tryz.func151, Tryz.ntmps151
 go_wp2
 go_ret
 exact ⟨rfl, rfl⟩
theorem pieces_any (w : World) (a : Option Addr) (n c : Nat) (r : Int) : Calls Tryz.prog 152 #[.slice a n c, .int .i64 r] w fun e w' => e = .returned (.func (.func 186) #[] #[.pointer (some ⟨w.heap.size, 0, none⟩), .pointer (some ⟨w.heap.size + 1, 0, none⟩)]) ∧ w' = (w.alloc (.cells #[.slice a n c] 22)).alloc (.cells #[.int .i64 r] 3) := by
 go_enter Tryz.func152, Tryz.ntmps152
 go_wp2
 go_ret
 exact ⟨rfl, rfl⟩
theorem StateAt.setTaken {w : World} {g bits : Nat} {ws tail : List Nat} {taken : Nat} (h : StateAt w g bits ws tail taken) (T : Nat) (y : Int) (hy : y = (T : Int)) : StateAt (w.setCell ⟨g, 73, none⟩ (.int .u64 y)) g bits ws tail T := by
 subst hy
 have hl := h.wlen
 have hl2 := h.tlen
 refine ⟨?_, hl, hl2, h.wlt, h.tlt⟩
 have := heap_setCell_same w g 73 _ _ (num .u64 T) h.heap
 refine this.trans ?_
 congr 2
 apply Array.ext'
 rw [Array.toList_setIfInBounds]
 show (stL bits ws tail taken).set 73 (num .u64 T) = stL bits ws tail T
 unfold stL
 rw [show 73 = 72 + 1 by omega, zq3, List.set_append_right _ _ (by simp; omega), List.set_append_right _ _ (by simp; omega)]
 simp [hl, hl2, num]
theorem stL_splice {bt T at' : Nat} {ws tail q : List Nat} (hw : ws.length = 8) (ht : tail.length = 64) (hq : at' + q.length ≤ 64) :
  (stL bt ws tail T).take (9 + at') ++ q.map (num .u8) ++ (stL bt ws tail T).drop (9 + at' + q.length) = stL bt ws (tail.take at' ++ (q ++ tail.drop (at' + q.length))) T := by
 unfold stL
 rw [show 9 + at' = (8 + at') + 1 by omega, List.take_succ_cons, show 8 + at' + 1 + q.length = (8 + at' + q.length) + 1 by omega, List.drop_succ_cons, List.take_append, List.drop_append, List.take_append, List.drop_append]
 simp only [List.length_map, hw, ht, show 8 + at' - 8 = at' by omega, show 8 + at' + q.length - 8 = at' + q.length by omega, show at' - 64 = 0 by omega, show at' + q.length - 64 = 0 by omega]
 rw [List.take_of_length_le (by simp; omega), List.drop_of_length_le (by simp; omega)]
 simp [List.map_append, List.map_take, List.map_drop]
theorem StateAt.splice {w : World} {g bt : Nat} {ws tail : List Nat} {T : Nat} (h : StateAt w g bt ws tail T) (p : List Nat) (hp : ∀ x ∈ p, x < 256) (at' : Nat) (ha : at' ≤ 64) (blk o l c : Nat) (hr : Reads .u8 w (some ⟨blk, o, none⟩) l c p) :
  (Builtin.copy_ #[22, 22] 3 #[.slice (some ⟨g, 9 + at', none⟩) (64 - at') (64 - at'), .slice (some ⟨blk, o, none⟩) l c]).run Tryz.prog w = .ok (goInt (p.take (64 - at')).length) (w.setRow g (stL bt ws (laidIn tail p at') T).toArray) ∧ StateAt (w.setRow g (stL bt ws (laidIn tail p at') T).toArray) g bt ws (laidIn tail p at') T := by
 have hpl := hr.length
 have hws := h.wlen
 have htl := h.tlen
 have hsz : (stL bt ws tail T).toArray.size = 74 := by simp [stL, hws, htl]
 refine ⟨?_, setRow_heap w g _ _ _ _ h.heap, hws, laidIn_len htl ha, h.wlt, laidIn_lt h.tlt hp⟩
 have := run_copy_row Tryz.prog w 22 22 3 5 g (9 + at') (64 - at') (64 - at') ⟨blk, o, none⟩ l c _ _ ((p.take (64 - at')).map (num .u8)) Tryz.underlying22 (by kernel_rfl) h.heap (by simp [hpl, Nat.min_comm]) (fun j v hv => by
  rw [List.getElem?_map, List.getElem?_take] at hv
  split at hv
  ·exact hr.news j v (by rw [List.getElem?_map]; exact hv)
  ·cases hv) (by rw [hsz]; simp; omega) (fun u hu => nums_oneCell .u8 _ u hu)
 rw [List.length_map] at this
 rw [this]
 congr 2
 rw [stL_splice hws htl (by simp; omega)]
 rfl
end Go.Proofs.YtpefjkndfifceaaGreatDoor
