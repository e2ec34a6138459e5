/-
  OID: THE TABLE OF KNOWN IDENTIFIERS: pure, and how it lies. (Written by wip/gen_oidV.py.)
-/
import Derived.Test.YtojphfkiblhhiaaDoorOidU
import Derived.Test.YtojphfkiblhhiaaDoorOidZ
namespace Go.Proofs.YtojphfkiblhhiaaDoor
open Go.RowKit
set_option maxRecDepth 100000

def knownT : List (List UInt8 × List UInt8) := [([115, 104, 97, 50, 50, 52], [50, 46, 49, 54, 46, 56, 52, 48, 46, 49, 46, 49, 48, 49, 46, 51, 46, 52, 46, 50, 46, 52]), ([115, 104, 97, 50, 53, 54], [50, 46, 49, 54, 46, 56, 52, 48, 46, 49, 46, 49, 48, 49, 46, 51, 46, 52, 46, 50, 46, 49]), ([115, 104, 97, 51, 56, 52], [50, 46, 49, 54, 46, 56, 52, 48, 46, 49, 46, 49, 48, 49, 46, 51, 46, 52, 46, 50, 46, 50]), ([115, 104, 97, 53, 49, 50], [50, 46, 49, 54, 46, 56, 52, 48, 46, 49, 46, 49, 48, 49, 46, 51, 46, 52, 46, 50, 46, 51]), ([114, 115, 97], [49, 46, 50, 46, 56, 52, 48, 46, 49, 49, 51, 53, 52, 57, 46, 49, 46, 49, 46, 49]), ([109, 103, 102, 49], [49, 46, 50, 46, 56, 52, 48, 46, 49, 49, 51, 53, 52, 57, 46, 49, 46, 49, 46, 56]), ([112, 115, 115], [49, 46, 50, 46, 56, 52, 48, 46, 49, 49, 51, 53, 52, 57, 46, 49, 46, 49, 46, 49, 48]), ([114, 115, 97, 50, 50, 52], [49, 46, 50, 46, 56, 52, 48, 46, 49, 49, 51, 53, 52, 57, 46, 49, 46, 49, 46, 49, 52]), ([114, 115, 97, 50, 53, 54], [49, 46, 50, 46, 56, 52, 48, 46, 49, 49, 51, 53, 52, 57, 46, 49, 46, 49, 46, 49, 49]), ([114, 115, 97, 51, 56, 52], [49, 46, 50, 46, 56, 52, 48, 46, 49, 49, 51, 53, 52, 57, 46, 49, 46, 49, 46, 49, 50]), ([114, 115, 97, 53, 49, 50], [49, 46, 50, 46, 56, 52, 48, 46, 49, 49, 51, 53, 52, 57, 46, 49, 46, 49, 46, 49, 51]), ([100, 97, 116, 97], [49, 46, 50, 46, 56, 52, 48, 46, 49, 49, 51, 53, 52, 57, 46, 49, 46, 55, 46, 49]), ([115, 105, 103, 110, 101, 100], [49, 46, 50, 46, 56, 52, 48, 46, 49, 49, 51, 53, 52, 57, 46, 49, 46, 55, 46, 50]), ([99, 111, 110, 116, 101, 110, 116, 84, 121, 112, 101], [49, 46, 50, 46, 56, 52, 48, 46, 49, 49, 51, 53, 52, 57, 46, 49, 46, 57, 46, 51]), ([109, 101, 115, 115, 97, 103, 101, 68, 105, 103, 101, 115, 116], [49, 46, 50, 46, 56, 52, 48, 46, 49, 49, 51, 53, 52, 57, 46, 49, 46, 57, 46, 52]), ([115, 105, 103, 110, 105, 110, 103, 84, 105, 109, 101], [49, 46, 50, 46, 56, 52, 48, 46, 49, 49, 51, 53, 52, 57, 46, 49, 46, 57, 46, 53]), ([99, 111, 117, 110, 116, 101, 114, 115, 105, 103, 110, 97, 116, 117, 114, 101], [49, 46, 50, 46, 56, 52, 48, 46, 49, 49, 51, 53, 52, 57, 46, 49, 46, 57, 46, 54]), ([116, 115, 116, 73, 110, 102, 111], [49, 46, 50, 46, 56, 52, 48, 46, 49, 49, 51, 53, 52, 57, 46, 49, 46, 57, 46, 49, 54, 46, 49, 46, 52]), ([115, 105, 103, 110, 105, 110, 103, 67, 101, 114, 116, 105, 102, 105, 99, 97, 116, 101, 86, 50], [49, 46, 50, 46, 56, 52, 48, 46, 49, 49, 51, 53, 52, 57, 46, 49, 46, 57, 46, 49, 54, 46, 50, 46, 52, 55]), ([99, 111, 109, 109, 111, 110, 78, 97, 109, 101], [50, 46, 53, 46, 52, 46, 51]), ([99, 111, 117, 110, 116, 114, 121, 78, 97, 109, 101], [50, 46, 53, 46, 52, 46, 54]), ([111, 114, 103, 97, 110, 105, 122, 97, 116, 105, 111, 110, 78, 97, 109, 101], [50, 46, 53, 46, 52, 46, 49, 48]), ([107, 101, 121, 85, 115, 97, 103, 101], [50, 46, 53, 46, 50, 57, 46, 49, 53]), ([98, 97, 115, 105, 99, 67, 111, 110, 115, 116, 114, 97, 105, 110, 116, 115], [50, 46, 53, 46, 50, 57, 46, 49, 57]), ([101, 120, 116, 75, 101, 121, 85, 115, 97, 103, 101], [50, 46, 53, 46, 50, 57, 46, 51, 55]), ([116, 105, 109, 101, 83, 116, 97, 109, 112, 105, 110, 103], [49, 46, 51, 46, 54, 46, 49, 46, 53, 46, 53, 46, 55, 46, 51, 46, 56])]
theorem known_len : knownT.length = 26 := rfl

/-! ### texts of numbers, computed -/
def okPiece (p : List UInt8) : Bool := !p.isEmpty && p.all (fun c => Nat.ble 48 c.toNat && Nat.ble c.toNat 57) && (Nat.ble p.length 1 || !(p.headD 0 == 48)) && Nat.ble p.length 18
theorem okPiece_dec {p : List UInt8} (h : okPiece p = true) : Lib.decDigits (valD p) = p := by
  unfold okPiece at h
  simp only [Bool.and_eq_true, Bool.or_eq_true, List.all_eq_true, Nat.ble_eq, Bool.not_eq_true', beq_eq_false_iff_ne] at h
  obtain ⟨⟨⟨h1, h2⟩, h3⟩, h4⟩ := h
  refine dec_val p (fun e => by rw [e] at h1; exact absurd h1 (by decide)) (fun c hc => h2 c hc) (fun hl e => ?_)
  rcases h3 with h3 | h3
  · omega
  · cases p with
    | nil => simp at e
    | cons c r => simp at e h3; exact h3 e
def numsT (s : List UInt8) : List Nat := (splitS s).map valD
theorem text_of {s : List UInt8} (h : (splitS s).all okPiece = true) : textO (numsT s) = s := by
  have e : (numsT s).map Lib.decDigits = splitS s := by
    unfold numsT
    rw [List.map_map]
    conv => rhs; rw [← List.map_id (splitS s)]
    exact List.map_congr_left fun p hp => okPiece_dec (List.all_eq_true.1 h p hp)
  show Lib.join ((numsT s).map Lib.decDigits) [46] = s
  rw [e, join_splitS]
theorem known_ok : (knownT.all fun x => (splitS x.2).all okPiece && decide (OidOk (numsT x.2))) = true := by kernel_rfl
theorem known_text {x : List UInt8 × List UInt8} (h : x ∈ knownT) : IsTextO (numsT x.2) x.2 := by
  have := List.all_eq_true.1 known_ok x h
  rw [Bool.and_eq_true] at this
  exact ⟨of_decide_eq_true this.2, text_of this.1⟩
theorem known_parse {x : List UInt8 × List UInt8} (h : x ∈ knownT) : parseR x.2 = (numsT x.2, 0) := parseR_yes (known_text h)
theorem known_bytes {x : List UInt8 × List UInt8} (h : x ∈ knownT) : bytesR (numsT x.2) = (bytesO (numsT x.2), 0) := if_pos (known_text h).1
theorem known_short : (knownT.all fun x => Nat.ble x.1.length 100 && Nat.ble x.2.length 100) = true := by kernel_rfl
theorem known_lens {x : List UInt8 × List UInt8} (h : x ∈ knownT) : x.1.length ≤ 100 ∧ x.2.length ≤ 100 := by
  have := List.all_eq_true.1 known_short x h
  simpa using this

/-- The first row of that name; of that text. -/
def namedR (s : List UInt8) : List Nat := match knownT.find? (fun x => x.1 == s) with
  | some x => bytesO (numsT x.2)
  | none => []
theorem find_at {p : List UInt8 × List UInt8 → Bool} {x : List UInt8 × List UInt8} {i : Nat} (hx : knownT[i]? = some x) (hp : p x = true) (hb : ∀ j y, j < i → knownT[j]? = some y → p y = false) : knownT.find? p = some x := by
  obtain ⟨hi, rfl⟩ := List.getElem?_eq_some_iff.1 hx
  rw [List.find?_eq_some_iff_getElem]
  exact ⟨hp, i, hi, rfl, fun j hj => by have := hb j _ hj (List.getElem?_eq_getElem (by omega)); simp [this]⟩
theorem find_no {p : List UInt8 × List UInt8 → Bool} (hb : ∀ j y, j < 26 → knownT[j]? = some y → p y = false) : knownT.find? p = none := by
  rw [List.find?_eq_none]
  intro x hx
  obtain ⟨j, hj⟩ := List.mem_iff_getElem?.1 hx
  have := hb j x (by have := (List.getElem?_eq_some_iff.1 hj).1; rw [known_len] at this; exact this) hj
  simp [this]

/-! ### how it lies -/
def knownC : List Value := knownT.flatMap fun x => [.string ⟨x.1.toArray⟩, .string ⟨x.2.toArray⟩]
/-- The table stands. -/
def Knowns (w : World) : Prop := ∀ i, i < 52 → w.cell? ⟨0, i, none⟩ = knownC[i]?
theorem Knowns.lt {w : World} (h : Knowns w) : 0 < w.heap.size := World.block_lt_of_cell? w ⟨0, 0, none⟩ (h 0 (by decide))
theorem Knowns.below {w w' : World} (h : Knowns w) (hb : Below w.heap.size w w') : Knowns w' := fun i hi => (hb.cell (p := ⟨0, i, none⟩) h.lt).trans (h i hi)

theorem flat2 {α β : Type} (f g : α → β) (d : α) : ∀ (l : List α) (i j : Nat), j < 2 → i < l.length → (l.flatMap fun x => [f x, g x])[i * 2 + j]? = [f (l.getD i d), g (l.getD i d)][j]?
  | [], i, j, _, h => absurd h (Nat.not_lt_zero _)
  | x :: l, 0, j, hj, _ => by
    rcases (show j = 0 ∨ j = 1 by omega) with rfl | rfl <;> rfl
  | x :: l, i + 1, j, hj, h => by
    rw [List.flatMap_cons, show (i + 1) * 2 + j = i * 2 + j + 2 by omega]
    show (l.flatMap fun x => [f x, g x])[i * 2 + j]? = _
    rw [flat2 f g d l i j hj (by simpa using h)]
    rfl

section
variable {H : Type} {enc : TypeId × Value → H} {w : World} {base : Nat} {sp : Nat → Bool} {held : Bool}
theorem at_oneK {cs : List Value} {k : Nat} {v : Value} (h : (cs.drop k).take 1 = [v]) : cs[k]? = some v := by
  have := congrArg (·[0]?) h
  simpa [List.getElem?_take, List.getElem?_drop] using this
theorem entry_cells {fuel : Nat} {cs : List Value} {x : List UInt8 × List UInt8} {p : List MemPlace} (h : DataW.trod enc Tryd.prog w base sp held fuel 68 cs = some (.agg [.lit (.string x.1), .lit (.string x.2)], p)) :
    cs = [.string ⟨x.1.toArray⟩, .string ⟨x.2.toArray⟩] := by
  obtain ⟨xs, n, rfl, hx, hl, hxl, hall⟩ := DataW.trod_struct Tryd.underlying68 h
  have c2 : Tryd.prog.cellsOf 68 = 2 := by kernel_rfl
  have cs1 : Tryd.prog.cellsOf 9 = 1 := by kernel_rfl
  rw [c2] at hl
  have hx2 : xs.map (·.1) = [.lit (.string x.1), .lit (.string x.2)] := by
    have := congrArg Prod.fst hx
    simpa using this.symm
  obtain ⟨x0, x1, rfl⟩ : ∃ x0 x1, xs = [x0, x1] := by
    match xs, hx2 with
    | [x0, x1], _ => exact ⟨x0, x1, rfl⟩
  simp only [List.map_cons, List.map_nil, List.cons.injEq, and_true] at hx2
  obtain ⟨e0, e1⟩ := hx2
  have f0 := hall 0 _ rfl
  have f1 := hall 1 _ rfl
  change DataW.trod _ _ _ _ _ _ _ 9 ((cs.drop 0).take (Tryd.prog.cellsOf 9)) = some x0 at f0
  change DataW.trod _ _ _ _ _ _ _ 9 ((cs.drop 1).take (Tryd.prog.cellsOf 9)) = some x1 at f1
  rw [cs1] at f0 f1
  have str : ∀ {k : Nat} {l : List UInt8} {y : DataW H × List MemPlace}, DataW.trod enc Tryd.prog w base sp held n 9 ((cs.drop k).take 1) = some y → y.1 = .lit (.string l) → cs[k]? = some (.string ⟨l.toArray⟩) := fun {k l y} f e => by
    obtain ⟨z, hz, hx', _⟩ := DataW.trod_string Tryd.underlying9 f
    rw [hx'] at e
    have e' : z.data.toList = l := by simpa using e
    have : z = ⟨l.toArray⟩ := by
      rw [← e']
    rw [← this]
    exact at_oneK hz
  have g0 := str f0 e0
  have g1 := str f1 e1
  match cs, hl, g0, g1 with
  | [c0, c1], _, g0, g1 =>
    simp at g0 g1
    subst g0 g1
    rfl
theorem knowns_cells {fuel : Nat} {cs : List Value} {p : List MemPlace} (h : DataW.trod enc Tryd.prog w base sp held fuel 69 cs = some (Rows.laid_postmark_oid_known, p)) : ∀ i, i < 52 → cs[i]? = knownC[i]? := by
  obtain ⟨xs, n, rfl, hx, hl, hxl, hall⟩ := DataW.trod_array Tryd.underlying69 h
  have c2 : Tryd.prog.cellsOf 68 = 2 := by kernel_rfl
  have hx4 : xs.map (·.1) = knownT.map fun x => .agg [.lit (.string x.1), .lit (.string x.2)] := by
    have := congrArg Prod.fst hx
    simpa [Rows.laid_postmark_oid_known, knownT] using this.symm
  have row : ∀ i, i < 26 → (cs.drop (i * 2)).take 2 = [.string ⟨(knownT.getD i ([], [])).1.toArray⟩, .string ⟨(knownT.getD i ([], [])).2.toArray⟩] := fun i hi => by
    have h1 := hall i hi
    rw [c2] at h1
    have h2 : (xs.map (·.1))[i]? = some xs[i].1 := by rw [List.getElem?_map, List.getElem?_eq_getElem (by omega)]; rfl
    rw [List.getElem?_eq_getElem (show i < xs.length by omega)] at h1
    rw [hx4, List.getElem?_map] at h2
    have h3 : knownT[i]? = some (knownT.getD i ([], [])) := by
      have : i < knownT.length := hi
      rw [List.getD, List.getElem?_eq_getElem this]
      rfl
    rw [h3] at h2
    simp only [Option.map_some, Option.some.injEq] at h2
    exact entry_cells (p := xs[i].2) (by rw [h1, h2])
  have cell : ∀ i j, i < 26 → j < 2 → cs[i * 2 + j]? = ([.string ⟨(knownT.getD i ([], [])).1.toArray⟩, .string ⟨(knownT.getD i ([], [])).2.toArray⟩] : List Value)[j]? := fun i j hi hj => by
    rw [← row i hi, List.getElem?_take, if_pos hj, List.getElem?_drop]
  intro i hi
  have h1 := cell (i / 2) (i % 2) (by omega) (by omega)
  rw [show i / 2 * 2 + i % 2 = i by omega] at h1
  rw [h1]
  have h2 := flat2 (fun x : List UInt8 × List UInt8 => Value.string ⟨x.1.toArray⟩) (fun x : List UInt8 × List UInt8 => Value.string ⟨x.2.toArray⟩) ([], []) knownT (i / 2) (i % 2) (by omega) (by rw [known_len]; omega)
  rw [show i / 2 * 2 + i % 2 = i by omega] at h2
  exact h2.symm
end

theorem knowns_of_laid {W : World} {r : List (String × DataW Unit)} (h : laidMet Tryd.prog (("postmark/oid.known", Rows.laid_postmark_oid_known) :: r) W) : Knowns W := by
  have h' := h
  obtain ⟨ps, ⟨g', t', cs, fuel, p, q, hg', ht', hvar, hd, _, _⟩, _⟩ := h'
  have hg : Tryd.prog.globalNamed "postmark/oid.known" = some 0 := by kernel_rfl
  have ht : (Tryd.prog.globals[0]?).map (·.type) = some 69 := by kernel_rfl
  obtain rfl := Option.some.inj (hg.symm.trans hg')
  obtain rfl := Option.some.inj (ht.symm.trans ht')
  intro i hi
  have h1 := World.var?_cell hg hvar i
  have h2 := knowns_cells hd i hi
  rw [← h2]
  simpa using h1
end Go.Proofs.YtojphfkiblhhiaaDoor
