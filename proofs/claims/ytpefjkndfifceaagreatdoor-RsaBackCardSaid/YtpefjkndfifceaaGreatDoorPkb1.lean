/- Part of the proofs: what the functions that the law calls do. -/
import Derived.WalkKit
import Derived.OpenShut
import Derived.WalkSpells
import Derived.ArgAppend
import Derived.Lib.Hide
import Derived.Deep.QuietTactic
import Derived.BigQuiet
import Derived.Test.YtpefjkndfifceaaGreatDoorRows
import Derived.BigRegion
import Derived.Outline
import Derived.RangeFuncNested
import Derived.RangeFuncBound
import Derived.RangeFuncCalls
import Derived.RangeFuncLeaves
import Derived.RangeFuncBox
import Derived.Shelf.Abstract
import Derived.Shelf.RegionOpen
import Derived.OwnWalkIn
import Derived.TacticsInMore
import Derived.LoopNIn
import Derived.LoopIn
import Derived.Stop.RegionWithIn
open Go.Lib renaming hid → zH
open List renaming set_cons_succ → zq3
set_option linter.unusedVariables false
set_option linter.unusedSimpArgs false
namespace Go.Proofs.YtpefjkndfifceaaGreatDoor
open Go.RowKit
def byt (c : UInt8) : Value := .int .u8 (c.toNat : Int)
structure Bts (w : World) (a : Option Addr) (len cap : Nat) (l : List UInt8) : Prop where
 length : l.length = len
 le : len ≤ cap
 max : cap ≤ maxLen
 nil : a = none → cap = 0
 cells : 0 < len → ∃ b off, a = some ⟨b, off, none⟩ ∧ b < w.heap.size ∧ ∀ i, i < len → w.cell? ⟨b, off + i, none⟩ = some (.int .u8 ((l[i]?.getD 0).toNat : Int))
theorem Bts.len_le {w : World} {a : Option Addr} {len cap : Nat} {l : List UInt8} (h : Bts w a len cap l) : len ≤ maxLen := Nat.le_trans h.le h.max
theorem Bts.below {w w' : World} {a : Option Addr} {len cap : Nat} {l : List UInt8} (h : Bts w a len cap l) (hb : Below w.heap.size w w') : Bts w' a len cap l :=
 ⟨h.length, h.le, h.max, h.nil, fun hp => by
  obtain ⟨b, off, rfl, hlt, hc⟩ := h.cells hp
  exact ⟨b, off, rfl, Nat.lt_of_lt_of_le hlt hb.size, fun i hi => (hb.cell (p := ⟨b, off + i, none⟩) hlt).trans (hc i hi)⟩⟩
def Own8 (E : TypeId) (B : Nat) (w : World) (v : Value) (l : List UInt8) : Prop := w.ownsRow B E 1 v l.length (l.map byt)
theorem Own8.form {E : TypeId} {B : Nat} {w : World} {v : Value} {l : List UInt8} (h : Own8 E B w v l) : ∃ a cap, v = .slice a l.length cap ∧ Bts w a l.length cap l ∧ (∀ ad, a = some ad → B ≤ ad.block ∧ ad.block < w.heap.size) := by
 obtain ⟨h1, h2⟩ := h
 rcases h2 with ⟨rfl, h0⟩ | ⟨g, cap, cur, rfl, hb, hg, hn, hc, hs, ht⟩
 ·exact ⟨none, 0, by rw [h0], ⟨rfl, by omega, by unfold maxLen; omega, fun _ => rfl, fun hp => by omega⟩, fun _ h => (by cases h)⟩
 ·have hlt : g < w.heap.size := (Array.getElem?_eq_some_iff.1 hg).1
  refine ⟨some ⟨g, 0, none⟩, cap, rfl, ⟨rfl, hn, hc, (fun h => by cases h), fun _ => ⟨g, 0, rfl, hlt, fun i hi => ?_⟩⟩, fun ad h => (by cases h; exact ⟨hb, hlt⟩)⟩
  rw [cell_of_row w g (0 + i) cur E (0, 0) hg]
  have : (cur.toList.take (l.length * 1))[i]? = (l.map byt)[i]? := by rw [ht]
  rw [List.getElem?_take, if_pos (by omega)] at this
  simp only [Nat.zero_add]
  simpa [byt, hi] using this
theorem Own8.below {E : TypeId} {B : Nat} {w w' : World} {v : Value} {l : List UInt8} (h : Own8 E B w v l) (hb : Below w.heap.size w w') : Own8 E B w' v l := by
 obtain ⟨h1, h2⟩ := h
 refine ⟨h1, ?_⟩
 rcases h2 with h2 | ⟨g, cap, cur, rfl, hB, hg, rest⟩
 ·exact .inl h2
 ·exact .inr ⟨g, cap, cur, rfl, hB, by rw [hb.block g (Array.getElem?_eq_some_iff.1 hg).1]; exact hg, rest⟩
theorem Own8.mono {E : TypeId} {B B' : Nat} {w : World} {v : Value} {l : List UInt8} (h : Own8 E B w v l) (hB : B' ≤ B) : Own8 E B' w v l := by
 obtain ⟨h1, h2⟩ := h
 refine ⟨h1, ?_⟩
 rcases h2 with h2 | ⟨g, cap, cur, rfl, hb, rest⟩
 ·exact .inl h2
 ·exact .inr ⟨g, cap, cur, rfl, Nat.le_trans hB hb, rest⟩
theorem byts_oneCell (l : List UInt8) : ∀ u ∈ l.map byt, u.oneCell' = true := by
 intro u hu
 obtain ⟨_, _, rfl⟩ := List.mem_map.1 hu
 rfl
theorem Bts.news {w : World} {a : Addr} {len cap : Nat} {l : List UInt8} (h : Bts w (some a) len cap l) : ∀ j u, (l.map byt)[j]? = some u → w.cell? (a.add j) = some u := by
 intro j u hu
 have hj : j < l.length := by
  have := (List.getElem?_eq_some_iff.1 hu).1
  simpa using this
 obtain ⟨b, off, ha, _, hc⟩ := h.cells (by have := h.length; omega)
 cases ha
 have e : (⟨b, off, none⟩ : Addr).add j = ⟨b, off + j, none⟩ := by unfold Addr.add; split <;> simp_all
 rw [e, hc j (by have := h.length; omega)]
 simp [byt, hj] at hu ⊢
 exact hu
def strOf (l : List UInt8) : ByteArray := ⟨l.toArray⟩
theorem strOfNums_byt (l : List UInt8) : strOfNums (l.map fun c => (c.toNat : Int)) = strOf l := by
 unfold strOfNums strOf
 congr 1
 simp [List.map_map, Function.comp_def]
theorem Bts.convert {P : Program} {w : World} {a : Option Addr} {len cap : Nat} {l : List UInt8} (h : Bts w a len cap l) (src e dst : TypeId) (hs : P.underlying src = some (.slice e)) (he : P.underlying e = some (.int .u8)) (hd : P.underlying dst = some .string) :
  (convert src dst (.slice a len cap)).run P w = .ok (.string (strOf l)) w := by
 by_cases hp : 0 < len
 ·obtain ⟨b, off, rfl, _, hc⟩ := h.cells hp
  have := run_convert_bytes_arg (P := P) w src e hs he b off len cap (l.map fun c => (c.toNat : Int)) (by simpa using h.length) (fun i hi => by
   rw [hc i hi]
   have : i < l.length := by have := h.length; omega
   simp [List.getD, this]) dst hd
  rw [this, strOfNums_byt]
 ·obtain rfl : len = 0 := by omega
  obtain rfl : l = [] := List.eq_nil_of_length_eq_zero h.length
  cases a with
  | none => rw [run_convert_bytes_nil (P := P) w src e hs he 0 cap dst hd]; rfl
  | some a =>
   rw [run_convert_bytes_string w src dst e _ 0 cap hs he hd, run_bytesToString w a 0 cap [] (by simp [loadCells, loadCellsFrom])]
   rfl
theorem Bts.drop {w : World} {b off len cap k : Nat} {l : List UInt8} (h : Bts w (some ⟨b, off, none⟩) len cap l) (hk : k < len) : Bts w (some ⟨b, off + k, none⟩) (len - k) (cap - k) (l.drop k) := by
 obtain ⟨b', off', hb, hlt, hc⟩ := h.cells (by omega)
 cases hb
 refine ⟨by rw [List.length_drop, h.length], by have := h.le; omega, by have := h.max; omega, (fun h => by cases h), fun _ => ⟨b, off + k, rfl, hlt, fun i hi => ?_⟩⟩
 rw [show off + k + i = off + (k + i) from by omega, hc (k + i) (by omega), List.getElem?_drop]
theorem Bts.none (w : World) : Bts w .none 0 0 [] := ⟨rfl, Nat.le_refl _, by unfold maxLen; omega, fun _ => rfl, fun h => by omega⟩
theorem Own8.empty (w : World) (E : TypeId) (B : Nat) (hB : B ≤ w.heap.size) : Own8 E B (w.alloc (.cells #[] E)) (.slice (some ⟨w.heap.size, 0, .none⟩) 0 0) [] :=
 World.ownsRow_lit w #[] 0 hB (by unfold maxLen; omega) rfl
theorem Own8.nil (w : World) (E : TypeId) (B : Nat) : Own8 E B w (.slice .none 0 0) [] := World.ownsRow_nil w B E 1
theorem wpList_append_bts {P : Program} (w : World) {ops : Array Oper} {rest : List Oper} {o : Oper} {a : Act} {Q : Exit → Act → World → Prop} (hgd : o.guard = .none) (s x : Operand) (t : TypeId)
  (ho : o.op = .call { callee := .builtin .append, args := #[s, x], argTypes := #[t, t] })
  (B E : Nat) (i : TypeInfo) (ht : P.underlying t = some (.slice E)) (hi : P.info? E = some i) (hz : i.zero = some (.int .u8 0)) (hsize : i.size = 1) (hby : i.bytes = 1)
  (v : Value) (l : List UInt8) (hs : a.eval s = v) (hown : Own8 E B w v l) (ao : Option Addr) (m c : Nat) (l2 : List UInt8) (hx : a.eval x = .slice ao m c) (hb : Bts w ao m c l2)
  (hsum : l.length + m ≤ 140737488355328) (hbase : B ≤ w.heap.size)
  (h : ∀ v' w', Own8 E B w' v' (l ++ l2) → (∀ w0, Below B w0 w → Below B w0 w') → wpList P ops Q rest (a.put o.dst v') w') : wpList P ops Q (o :: rest) a w := by
 have hlen := hb.length
 cases ao with
 | some ad =>
  refine wpList_append_own w hgd s x t ho B E i (.int .u8 0) 1 1 ht hi hz hsize hby rfl (by decide) v l.length (l.map byt) hs hown ad m c (l2.map byt) hx (by simpa using hlen) hb.news (byts_oneCell _) (by unfold maxLen; omega) (by omega) hbase ?_
  intro v' w' ho' hg _
  refine h v' w' ?_ (fun w0 h0 => h0.grown hg hbase (fun k hk => (hown.lt k hk).1))
  unfold Own8
  rw [List.map_append, List.length_append, hlen]
  exact ho'
 | none =>
  have hc := hb.nil rfl
  have hle := hb.le
  obtain rfl : m = 0 := by omega
  obtain rfl : l2 = [] := List.eq_nil_of_length_eq_zero hlen
  subst hc
  refine wpList_plain hgd fun K hK' => ?_
  have hrun := run_append_owned_none (P := P) w B t o.type E i 1 ht hi v l.length (l.map byt) hown
  unfold Oper.wp
  simp [execOp, ho, resolve, invoke, builtin, hs, hx, hrun, Result.andThen]
  exact hK' _ _ (by simpa using h v w (by simpa using hown) (fun _ h0 => h0))
theorem Own8.alloc {E : TypeId} {B : Nat} {w : World} {v : Value} {l : List UInt8} (h : Own8 E B w v l) (o : Obj) : Own8 E B (w.alloc o) v l := World.ownsRow.alloc h o
theorem Own8.bts {E : TypeId} {B : Nat} {w : World} {a : Option Addr} {n cap : Nat} {l : List UInt8} (h : Own8 E B w (.slice a n cap) l) : Bts w a n cap l := by
 obtain ⟨a', c', he, hb, _⟩ := h.form
 cases he
 exact hb
structure Rows2 (w : World) (a : Option Addr) (n cap : Nat) (L : List (Option Addr × Nat × Nat × List UInt8)) : Prop where
 length : L.length = n
 max : n ≤ maxLen
 cells : 0 < n → ∃ b off, a = some ⟨b, off, .none⟩ ∧ b < w.heap.size ∧ ∀ i, i < n → w.cell? ⟨b, off + i, .none⟩ = some (.slice (L[i]?.getD (.none, 0, 0, [])).1 (L[i]?.getD (.none, 0, 0, [])).2.1 (L[i]?.getD (.none, 0, 0, [])).2.2.1)
 each : ∀ x ∈ L, Bts w x.1 x.2.1 x.2.2.1 x.2.2.2
theorem Rows2.at {w : World} {a : Option Addr} {n cap : Nat} {L : List (Option Addr × Nat × Nat × List UInt8)} (h : Rows2 w a n cap L) (i : Nat) (hi : i < n) :
  Bts w (L[i]?.getD (.none, 0, 0, [])).1 (L[i]?.getD (.none, 0, 0, [])).2.1 (L[i]?.getD (.none, 0, 0, [])).2.2.1 (L[i]?.getD (.none, 0, 0, [])).2.2.2 := by
 have hl := h.length
 rw [List.getElem?_eq_getElem (by omega)]
 exact h.each _ (List.getElem_mem _)
theorem Rows2.below {w w' : World} {a : Option Addr} {n cap : Nat} {L : List (Option Addr × Nat × Nat × List UInt8)} (h : Rows2 w a n cap L) (hb : Below w.heap.size w w') : Rows2 w' a n cap L :=
 ⟨h.length, h.max, fun hp => by
  obtain ⟨b, off, ha, hlt, hc⟩ := h.cells hp
  exact ⟨b, off, ha, Nat.lt_of_lt_of_le hlt hb.size, fun i hi => (hb.cell (p := ⟨b, off + i, .none⟩) hlt).trans (hc i hi)⟩, fun x hx => (h.each x hx).below hb⟩
theorem zeros_byt (n : Nat) : (madeCells (Value.int .u8 0).cells (n * 1)).toList = (List.replicate n (0 : UInt8)).map byt := by
 rw [show (Value.int .u8 0).cells = #[Value.int .u8 0] from rfl, toList_madeCells_one]
 simp [byt]
theorem Own8.stored {E : TypeId} {B : Nat} {w : World} {g n cap : Nat} {l : List UInt8} (h : Own8 E B w (.slice (some ⟨g, 0, .none⟩) n cap) l) (hn : n = l.length) (j : Nat) (c : UInt8) (x : Int) (hx : x = (c.toNat : Int)) :
  Own8 E B (w.setCell ⟨g, j, .none⟩ (.int .u8 x)) (.slice (some ⟨g, 0, .none⟩) n cap) (l.set j c) ∧ (∀ w0, Below B w0 w → Below B w0 (w.setCell ⟨g, j, .none⟩ (.int .u8 x))) := by
 subst hx
 subst hn
 have h1 := World.ownsRow.stored h j (.int .u8 (c.toNat : Int))
 have hB := (World.ownsRow.lt h g rfl).1
 refine ⟨?_, fun w0 h0 => h0.setCell (p := ⟨g, j, .none⟩) hB _⟩
 unfold Own8
 rw [List.map_set, List.length_set]
 exact h1.1
theorem Own8.cellAt {E : TypeId} {B : Nat} {w : World} {g n cap : Nat} {l : List UInt8} (h : Own8 E B w (.slice (some ⟨g, 0, .none⟩) n cap) l) (hn : n = l.length) (j : Nat) (hj : j < n) : w.cell? ⟨g, j, .none⟩ = some (.int .u8 ((l[j]?.getD 0).toNat : Int)) := by
 subst hn
 rw [World.ownsRow.cellAt h j (by omega)]
 simp [byt, hj]
theorem Own8.frozenAt {E : TypeId} {B : Nat} {w : World} {g n cap : Nat} {l : List UInt8} (h : Own8 E B w (.slice (some ⟨g, 0, .none⟩) n cap) l) (hn : n = l.length) (j : Nat) : w.frozen? ⟨g, j, .none⟩ = false := by
 subst hn
 exact World.ownsRow.frozenAt h j
end Go.Proofs.YtpefjkndfifceaaGreatDoor
namespace Go.Proofs.YtpefjkndfifceaaGreatDoor
open Go.RowKit
def num (q : IntKind) (n : Nat) : Value := .int q (n : Int)
structure Reads (q : IntKind) (w : World) (a : Option Addr) (len cap : Nat) (l : List Nat) : Prop where
 length : l.length = len
 le : len ≤ cap
 max : cap ≤ maxLen
 nil : a = none → cap = 0
 cells : 0 < len → ∃ b off, a = some ⟨b, off, none⟩ ∧ b < w.heap.size ∧ ∀ i, i < len → w.cell? ⟨b, off + i, none⟩ = some (.int q ((l[i]?.getD 0 : Nat) : Int))
theorem Reads.len_le {q : IntKind} {w : World} {a : Option Addr} {len cap : Nat} {l : List Nat} (h : Reads q w a len cap l) : len ≤ maxLen := Nat.le_trans h.le h.max
theorem Reads.below {q : IntKind} {w w' : World} {a : Option Addr} {len cap : Nat} {l : List Nat} (h : Reads q w a len cap l) (hb : Below w.heap.size w w') : Reads q w' a len cap l :=
 ⟨h.length, h.le, h.max, h.nil, fun hp => by
  obtain ⟨b, off, rfl, hlt, hc⟩ := h.cells hp
  exact ⟨b, off, rfl, Nat.lt_of_lt_of_le hlt hb.size, fun i hi => (hb.cell (p := ⟨b, off + i, none⟩) hlt).trans (hc i hi)⟩⟩
theorem Reads.drewN {q : IntKind} {w : World} {a : Option Addr} {len cap : Nat} {l : List Nat} (h : Reads q w a len cap l) (n : Nat) : Reads q (w.drewN n) a len cap l := ⟨h.length, h.le, h.max, h.nil, h.cells⟩
def OwnQ (q : IntKind) (E : TypeId) (B : Nat) (w : World) (v : Value) (l : List Nat) : Prop := w.ownsRow B E 1 v l.length (l.map (num q))
theorem OwnQ.form {q : IntKind} {E : TypeId} {B : Nat} {w : World} {v : Value} {l : List Nat} (h : OwnQ q E B w v l) : ∃ a cap, v = .slice a l.length cap ∧ Reads q w a l.length cap l ∧ (∀ ad, a = some ad → B ≤ ad.block ∧ ad.block < w.heap.size) := by
 obtain ⟨h1, h2⟩ := h
 rcases h2 with ⟨rfl, h0⟩ | ⟨g, cap, cur, rfl, hb, hg, hn, hc, hs, ht⟩
 ·exact ⟨none, 0, by rw [h0], ⟨rfl, by omega, by unfold maxLen; omega, fun _ => rfl, fun hp => by omega⟩, fun _ h => (by cases h)⟩
 ·have hlt : g < w.heap.size := (Array.getElem?_eq_some_iff.1 hg).1
  refine ⟨some ⟨g, 0, none⟩, cap, rfl, ⟨rfl, hn, hc, (fun h => by cases h), fun _ => ⟨g, 0, rfl, hlt, fun i hi => ?_⟩⟩, fun ad h => (by cases h; exact ⟨hb, hlt⟩)⟩
  rw [cell_of_row w g (0 + i) cur E (0, 0) hg]
  have : (cur.toList.take (l.length * 1))[i]? = (l.map (num q))[i]? := by rw [ht]
  rw [List.getElem?_take, if_pos (by omega)] at this
  simp only [Nat.zero_add]
  simpa [num, hi] using this
theorem OwnQ.below {q : IntKind} {E : TypeId} {B : Nat} {w w' : World} {v : Value} {l : List Nat} (h : OwnQ q E B w v l) (hb : Below w.heap.size w w') : OwnQ q E B w' v l := by
 obtain ⟨h1, h2⟩ := h
 refine ⟨h1, ?_⟩
 rcases h2 with h2 | ⟨g, cap, cur, rfl, hB, hg, rest⟩
 ·exact .inl h2
 ·exact .inr ⟨g, cap, cur, rfl, hB, by rw [hb.block g (Array.getElem?_eq_some_iff.1 hg).1]; exact hg, rest⟩
theorem OwnQ.mono {q : IntKind} {E : TypeId} {B B' : Nat} {w : World} {v : Value} {l : List Nat} (h : OwnQ q E B w v l) (hB : B' ≤ B) : OwnQ q E B' w v l := by
 obtain ⟨h1, h2⟩ := h
 refine ⟨h1, ?_⟩
 rcases h2 with h2 | ⟨g, cap, cur, rfl, hb, rest⟩
 ·exact .inl h2
 ·exact .inr ⟨g, cap, cur, rfl, Nat.le_trans hB hb, rest⟩
theorem nums_oneCell (q : IntKind) (l : List Nat) : ∀ u ∈ l.map (num q), u.oneCell' = true := by
 intro u hu
 obtain ⟨_, _, rfl⟩ := List.mem_map.1 hu
 rfl
theorem Reads.news {q : IntKind} {w : World} {a : Addr} {len cap : Nat} {l : List Nat} (h : Reads q w (some a) len cap l) : ∀ j u, (l.map (num q))[j]? = some u → w.cell? (a.add j) = some u := by
 intro j u hu
 have hj : j < l.length := by
  have := (List.getElem?_eq_some_iff.1 hu).1
  simpa using this
 obtain ⟨b, off, ha, _, hc⟩ := h.cells (by have := h.length; omega)
 cases ha
 have e : (⟨b, off, none⟩ : Addr).add j = ⟨b, off + j, none⟩ := by unfold Addr.add; split <;> simp_all
 rw [e, hc j (by have := h.length; omega)]
 simp [num, hj] at hu ⊢
 exact hu
theorem Reads.sub {q : IntKind} {w : World} {a : Option Addr} {len cap : Nat} {l : List Nat} (h : Reads q w a len cap l) (k m : Nat) (hkm : k ≤ m) (hm : m ≤ len) : Reads q w (if cap = k then a else a.map (·.add k)) (m - k) (cap - k) ((l.take m).drop k) := by
 have hle := h.le
 have hmx := h.max
 have hln := h.length
 refine ⟨by rw [List.length_drop, List.length_take]; omega, by omega, by omega, fun hn => ?_, fun hp => ?_⟩
 ·split at hn
  ·have := h.nil hn; omega
  ·cases a with
   | none => have := h.nil rfl; omega
   | some _ => cases hn
 ·obtain ⟨b, off, rfl, hlt, hc⟩ := h.cells (by omega)
  refine ⟨b, off + k, ?_, hlt, fun i hi => ?_⟩
  ·rw [if_neg (by omega)]
   simp only [Option.map_some]
   congr 1
   unfold Addr.add; split <;> simp_all
  ·rw [show off + k + i = off + (k + i) from by omega, hc (k + i) (by omega), List.getElem?_drop, List.getElem?_take, if_pos (by omega)]
theorem Reads.upto {q : IntKind} {w : World} {a : Option Addr} {len cap : Nat} {l : List Nat} (h : Reads q w a len cap l) (m : Nat) (hm : m ≤ len) : Reads q w a m cap (l.take m) := by
 have hle := h.le
 refine ⟨by rw [List.length_take, h.length]; omega, by omega, h.max, h.nil, fun hp => ?_⟩
 obtain ⟨b, off, rfl, hlt, hc⟩ := h.cells (by omega)
 exact ⟨b, off, rfl, hlt, fun i hi => by rw [hc i (by omega), List.getElem?_take, if_pos hi]⟩
theorem Reads.none (q : IntKind) (w : World) : Reads q w .none 0 0 [] := ⟨rfl, Nat.le_refl _, by unfold maxLen; omega, fun _ => rfl, fun h => by omega⟩
theorem Reads.one (q : IntKind) (w : World) (E : TypeId) (n : Int) (c : Nat) (h : n = (c : Int)) : Reads q (w.alloc (.cells #[.int q n] E)) (some ⟨w.heap.size, 0, .none⟩) 1 1 [c] := by
 subst h
 refine ⟨rfl, Nat.le_refl _, by unfold maxLen; omega, (fun h => by cases h), fun _ => ⟨w.heap.size, 0, rfl, by simp, fun i hi => ?_⟩⟩
 obtain rfl : i = 0 := by omega
 rw [World.cell?_alloc_at _ _ _ _ rfl]
 rfl
theorem OwnQ.empty (q : IntKind) (w : World) (E : TypeId) (B : Nat) (hB : B ≤ w.heap.size) : OwnQ q E B (w.alloc (.cells #[] E)) (.slice (some ⟨w.heap.size, 0, .none⟩) 0 0) [] :=
 World.ownsRow_lit w #[] 0 hB (by unfold maxLen; omega) rfl
theorem OwnQ.nil (q : IntKind) (w : World) (E : TypeId) (B : Nat) : OwnQ q E B w (.slice .none 0 0) [] := World.ownsRow_nil w B E 1
theorem wpList_append_q {P : Program} (q : IntKind) (w : World) {ops : Array Oper} {rest : List Oper} {o : Oper} {a : Act} {Q : Exit → Act → World → Prop} (hgd : o.guard = .none) (s x : Operand) (t : TypeId)
  (ho : o.op = .call { callee := .builtin .append, args := #[s, x], argTypes := #[t, t] })
  (B E by' : Nat) (i : TypeInfo) (ht : P.underlying t = some (.slice E)) (hi : P.info? E = some i) (hz : i.zero = some (.int q 0)) (hsize : i.size = 1) (hby : i.bytes = by') (hby8 : by' ≤ 8)
  (v : Value) (l : List Nat) (hs : a.eval s = v) (hown : OwnQ q E B w v l) (ao : Option Addr) (m c : Nat) (l2 : List Nat) (hx : a.eval x = .slice ao m c) (hb : Reads q w ao m c l2)
  (hsum : l.length + m ≤ 17592186044416) (hbase : B ≤ w.heap.size)
  (h : ∀ v' w', OwnQ q E B w' v' (l ++ l2) → (∀ w0, Below B w0 w → Below B w0 w') → wpList P ops Q rest (a.put o.dst v') w') : wpList P ops Q (o :: rest) a w := by
 have hlen := hb.length
 have hbb : (l.length + m) * by' ≤ 140737488355328 := Nat.le_trans (Nat.mul_le_mul hsum hby8) (by decide)
 cases ao with
 | some ad =>
  refine wpList_append_own w hgd s x t ho B E i (.int q 0) 1 by' ht hi hz hsize hby rfl (by decide) v l.length (l.map (num q)) hs hown ad m c (l2.map (num q)) hx (by simpa using hlen) hb.news (nums_oneCell _ _) (by unfold maxLen; omega) hbb hbase ?_
  intro v' w' ho' hg _
  refine h v' w' ?_ (fun w0 h0 => h0.grown hg hbase (fun k hk => (hown.lt k hk).1))
  unfold OwnQ
  rw [List.map_append, List.length_append, hlen]
  exact ho'
 | none =>
  have hc := hb.nil rfl
  have hle := hb.le
  obtain rfl : m = 0 := by omega
  obtain rfl : l2 = [] := List.eq_nil_of_length_eq_zero hlen
  subst hc
  refine wpList_plain hgd fun K hK' => ?_
  have hrun := run_append_owned_none (P := P) w B t o.type E i 1 ht hi v l.length (l.map (num q)) hown
  unfold Oper.wp
  simp [execOp, ho, resolve, invoke, builtin, hs, hx, hrun, Result.andThen]
  exact hK' _ _ (by simpa using h v w (by simpa using hown) (fun _ h0 => h0))
theorem OwnQ.succ {q : IntKind} {E : TypeId} {B : Nat} {w : World} {v : Value} {l : List Nat} (h : OwnQ q E B w v l) (hl : l ≠ []) : ∃ g cap, v = .slice (some ⟨g, 0, .none⟩) l.length cap := by
 rcases h.2 with ⟨_, h0⟩ | ⟨g, cap, _, rfl, _⟩
 ·exact (hl (List.eq_nil_of_length_eq_zero h0)).elim
 ·exact ⟨g, cap, rfl⟩
theorem OwnQ.alloc {q : IntKind} {E : TypeId} {B : Nat} {w : World} {v : Value} {l : List Nat} (h : OwnQ q E B w v l) (o : Obj) : OwnQ q E B (w.alloc o) v l := World.ownsRow.alloc h o
theorem OwnQ.drewN {q : IntKind} {E : TypeId} {B : Nat} {w : World} {v : Value} {l : List Nat} (h : OwnQ q E B w v l) (n : Nat) : OwnQ q E B (w.drewN n) v l := h
theorem OwnQ.drew {q : IntKind} {E : TypeId} {B : Nat} {w : World} {v : Value} {l : List Nat} (h : OwnQ q E B w v l) : OwnQ q E B w.drew v l := World.ownsRow.drew h
theorem OwnQ.cap {q : IntKind} {E : TypeId} {B : Nat} {w : World} {a : Option Addr} {n cap : Nat} {l : List Nat} (h : OwnQ q E B w (.slice a n cap) l) : n = l.length ∧ n ≤ cap ∧ cap ≤ maxLen := by
 obtain ⟨a', c', he, hb, _⟩ := h.form
 cases he
 exact ⟨rfl, hb.le, hb.max⟩
theorem OwnQ.reads {q : IntKind} {E : TypeId} {B : Nat} {w : World} {a : Option Addr} {n cap : Nat} {l : List Nat} (h : OwnQ q E B w (.slice a n cap) l) : Reads q w a n cap l := by
 obtain ⟨a', c', he, hb, _⟩ := h.form
 cases he
 exact hb
theorem OwnQ.upto {q : IntKind} {E : TypeId} {B : Nat} {w : World} {a : Option Addr} {n cap : Nat} {l : List Nat} (h : OwnQ q E B w (.slice a n cap) l) (m : Nat) (hm : m ≤ n) : OwnQ q E B w (.slice a m cap) (l.take m) := by
 have hc := h.cap
 obtain ⟨-, h2⟩ := h
 have hlen : (l.take m).length = m := by rw [List.length_take]; omega
 refine ⟨?_, ?_⟩
 ·simp
 rcases h2 with ⟨h3, h0⟩ | ⟨g, cap', cur, he, hB, hg, hn, hcm, hs, ht⟩
 ·cases h3
  obtain rfl : m = 0 := by omega
  exact .inl ⟨rfl, by simp⟩
 ·cases he
  refine .inr ⟨g, cap, cur, by rw [hlen], hB, hg, by rw [hlen]; omega, hcm, hs, ?_⟩
  rw [hlen, List.map_take, ← ht, List.take_take]
  congr 1
  omega
theorem zeros_q (q : IntKind) (n : Nat) : (madeCells (Value.int q 0).cells (n * 1)).toList = (List.replicate n (0 : Nat)).map (num q) := by
 rw [show (Value.int q 0).cells = #[Value.int q 0] from rfl, toList_madeCells_one]
 simp [num]
theorem OwnQ.stored {q : IntKind} {E : TypeId} {B : Nat} {w : World} {g n cap : Nat} {l : List Nat} (h : OwnQ q E B w (.slice (some ⟨g, 0, .none⟩) n cap) l) (hn : n = l.length) (j : Nat) (c : Nat) (x : Int) (hx : x = (c : Int)) :
  OwnQ q E B (w.setCell ⟨g, j, .none⟩ (.int q x)) (.slice (some ⟨g, 0, .none⟩) n cap) (l.set j c) ∧ (∀ w0, Below B w0 w → Below B w0 (w.setCell ⟨g, j, .none⟩ (.int q x))) := by
 subst hx
 subst hn
 have h1 := World.ownsRow.stored h j (.int q (c : Int))
 have hB := (World.ownsRow.lt h g rfl).1
 refine ⟨?_, fun w0 h0 => h0.setCell (p := ⟨g, j, .none⟩) hB _⟩
 unfold OwnQ
 rw [List.map_set, List.length_set]
 exact h1.1
theorem OwnQ.cellAt {q : IntKind} {E : TypeId} {B : Nat} {w : World} {g n cap : Nat} {l : List Nat} (h : OwnQ q E B w (.slice (some ⟨g, 0, .none⟩) n cap) l) (hn : n = l.length) (j : Nat) (hj : j < n) : w.cell? ⟨g, j, .none⟩ = some (.int q ((l[j]?.getD 0 : Nat) : Int)) := by
 subst hn
 rw [World.ownsRow.cellAt h j (by omega)]
 simp [num, hj]
theorem OwnQ.frozenAt {q : IntKind} {E : TypeId} {B : Nat} {w : World} {g n cap : Nat} {l : List Nat} (h : OwnQ q E B w (.slice (some ⟨g, 0, .none⟩) n cap) l) (hn : n = l.length) (j : Nat) : w.frozen? ⟨g, j, .none⟩ = false := by
 subst hn
 exact World.ownsRow.frozenAt h j
end Go.Proofs.YtpefjkndfifceaaGreatDoor
namespace Go.Proofs.YtpefjkndfifceaaGreatDoor
open Go.RowKit
def valB (b : Nat) : List Nat → Nat
 | [] => 0
 | d :: t => d + b * valB b t
def bareN : List Nat → List Nat
 | [] => []
 | d :: t => if bareN t = [] ∧ d = 0 then [] else d :: bareN t
def natB (b n : Nat) : List Nat := if _h : n = 0 ∨ b < 2 then [] else n % b :: natB b (n / b)
termination_by n
decreasing_by exact Nat.div_lt_self (by omega) (by omega)
theorem natB_zero (b : Nat) : natB b 0 = [] := by unfold natB; simp
theorem natB_pos {b n : Nat} (hb : 2 ≤ b) (hn : 0 < n) : natB b n = n % b :: natB b (n / b) := by
 rw [natB]; rw [dif_neg (by omega)]
theorem valB_append (b : Nat) : ∀ l m : List Nat, valB b (l ++ m) = valB b l + b ^ l.length * valB b m
 | [], m => by simp [valB]
 | d :: t, m => by
  simp only [List.cons_append, valB, valB_append b t m, List.length_cons]
  rw [Nat.pow_succ, Nat.mul_add, Nat.add_assoc, ← Nat.mul_assoc, Nat.mul_comm b (b ^ t.length)]
theorem valB_snoc (b : Nat) (l : List Nat) (d : Nat) : valB b (l ++ [d]) = valB b l + b ^ l.length * d := by rw [valB_append]; simp [valB]
theorem valB_lt {b : Nat} (hb : 2 ≤ b) : ∀ {l : List Nat}, (∀ x ∈ l, x < b) → valB b l < b ^ l.length
 | [], _ => by simp [valB]
 | d :: t, h => by
  have h1 := valB_lt hb (l := t) (fun x hx => h x (List.mem_cons_of_mem _ hx))
  have h2 := h d List.mem_cons_self
  simp only [valB, List.length_cons, Nat.pow_succ]
  have h3 : b * (valB b t + 1) ≤ b * b ^ t.length := Nat.mul_le_mul_left _ h1
  rw [Nat.mul_comm (b ^ t.length) b]
  rw [Nat.mul_add] at h3
  omega
theorem natB_val {b : Nat} (hb : 2 ≤ b) (n : Nat) : valB b (natB b n) = n := by
 induction n using Nat.strongRecOn with
 | _ n ih =>
  by_cases hn : n = 0
  ·subst hn; rw [natB_zero]; rfl
  ·rw [natB_pos hb (by omega), valB, ih _ (Nat.div_lt_self (by omega) (by omega))]
   have := Nat.mod_add_div n b
   omega
theorem natB_digit {b : Nat} (hb : 2 ≤ b) (n : Nat) : ∀ x ∈ natB b n, x < b := by
 induction n using Nat.strongRecOn with
 | _ n ih =>
  by_cases hn : n = 0
  ·subst hn; rw [natB_zero]; intro x hx; cases hx
  ·rw [natB_pos hb (by omega)]
   intro x hx
   rcases List.mem_cons.1 hx with rfl | hx
   ·exact Nat.mod_lt _ (by omega)
   ·exact ih _ (Nat.div_lt_self (by omega) (by omega)) x hx
theorem natB_nil {b n : Nat} (hb : 2 ≤ b) : natB b n = [] ↔ n = 0 := by
 constructor
 ·intro h
  have := natB_val hb n
  rw [h] at this
  exact this.symm
 ·rintro rfl; exact natB_zero b
theorem bareN_eq {b : Nat} (hb : 2 ≤ b) : ∀ {l : List Nat}, (∀ x ∈ l, x < b) → bareN l = natB b (valB b l)
 | [], _ => by rw [valB, natB_zero]; rfl
 | d :: t, h => by
  have h1 := bareN_eq hb (l := t) (fun x hx => h x (List.mem_cons_of_mem _ hx))
  have h2 := h d List.mem_cons_self
  unfold bareN
  by_cases hz : bareN t = [] ∧ d = 0
  ·rw [if_pos hz]
   have : valB b t = 0 := by rw [h1] at hz; exact (natB_nil hb).1 hz.1
   rw [valB, this, hz.2]
   simp [natB_zero]
  ·rw [if_neg hz]
   have hp : 0 < d + b * valB b t := by
    rcases Nat.eq_zero_or_pos d with rfl | h3
    ·have : valB b t ≠ 0 := fun e => hz ⟨by rw [h1, e, natB_zero], rfl⟩
     have := Nat.mul_pos (show 0 < b by omega) (Nat.pos_of_ne_zero this)
     omega
    ·omega
   rw [valB, natB_pos hb hp, Nat.add_mul_mod_self_left, Nat.mod_eq_of_lt h2, Nat.add_mul_div_left _ _ (by omega), Nat.div_eq_of_lt h2, Nat.zero_add, h1]
theorem bareN_val (b : Nat) : ∀ l : List Nat, valB b (bareN l) = valB b l
 | [] => rfl
 | d :: t => by
  have h1 := bareN_val b t
  unfold bareN
  by_cases hz : bareN t = [] ∧ d = 0
  ·rw [if_pos hz]
   rw [hz.1] at h1
   simp only [valB] at h1 ⊢
   rw [← h1, hz.2]
   simp
  ·rw [if_neg hz, valB, valB, h1]
theorem bareN_snoc_zero : ∀ l : List Nat, bareN (l ++ [0]) = bareN l
 | [] => by simp [bareN]
 | d :: t => by simp only [List.cons_append, bareN, bareN_snoc_zero t]
theorem bareN_snoc (l : List Nat) (x : Nat) (hx : x ≠ 0) : bareN (l ++ [x]) = l ++ [x] := by
 induction l with
 | nil => simp [bareN, hx]
 | cons d t ih => simp only [List.cons_append, bareN, ih]; simp
theorem take_snocN (l : List Nat) (k : Nat) (hk : k < l.length) : l.take (k + 1) = l.take k ++ [l[k]?.getD 0] := by
 rw [List.take_add_one, List.getElem?_eq_getElem hk]; rfl
theorem bareN_step (l : List Nat) (k : Nat) (hk : k < l.length) : bareN (l.take (k + 1)) = if l[k]?.getD 0 = 0 then bareN (l.take k) else l.take (k + 1) := by
 rw [take_snocN l k hk]
 split
 ·next h => rw [h, bareN_snoc_zero]
 ·next h => rw [bareN_snoc _ _ h]
theorem bareN_le (l : List Nat) : (bareN l).length ≤ l.length := by
 induction l with
 | nil => simp [bareN]
 | cons d t ih => unfold bareN; split <;> simp <;> omega
theorem bareN_mem {l : List Nat} {x : Nat} (h : x ∈ bareN l) : x ∈ l := by
 induction l with
 | nil => exact h
 | cons d t ih =>
  unfold bareN at h
  split at h
  ·cases h
  ·rcases List.mem_cons.1 h with rfl | h
   ·exact List.mem_cons_self
   ·exact List.mem_cons_of_mem _ (ih h)
theorem bareN_prefix (l : List Nat) : bareN l = l.take (bareN l).length := by
 induction l with
 | nil => rfl
 | cons d t ih =>
  rw [bareN]
  split
  ·rfl
  ·simp only [List.length_cons, List.take_succ_cons]
   rw [← ih]
theorem natB_length {b : Nat} (hb : 2 ≤ b) (n k : Nat) : (natB b n).length ≤ k ↔ n < b ^ k := by
 induction k generalizing n with
 | zero =>
  rw [Nat.pow_zero, Nat.le_zero, List.length_eq_zero_iff, natB_nil hb]
  omega
 | succ k ih =>
  rcases Nat.eq_zero_or_pos n with rfl | hn
  ·rw [natB_zero]
   have : 0 < b ^ (k + 1) := Nat.pow_pos (by omega)
   simp [this]
  ·rw [natB_pos hb hn, List.length_cons, Nat.add_le_add_iff_right, ih, Nat.pow_succ, Nat.div_lt_iff_lt_mul (by omega)]
theorem natB_len_lt {b : Nat} (hb : 2 ≤ b) (n k : Nat) : k < (natB b n).length ↔ b ^ k ≤ n := by
 have := natB_length hb n k
 omega
theorem natB_get {b : Nat} (hb : 2 ≤ b) (n k : Nat) : (natB b n)[k]?.getD 0 = n / b ^ k % b := by
 induction k generalizing n with
 | zero =>
  rcases Nat.eq_zero_or_pos n with rfl | hn
  ·rw [natB_zero]; simp
  ·rw [natB_pos hb hn]; simp
 | succ k ih =>
  rcases Nat.eq_zero_or_pos n with rfl | hn
  ·rw [natB_zero]; simp
  ·rw [natB_pos hb hn, List.getElem?_cons_succ, ih, Nat.pow_succ, Nat.div_div_eq_div_mul, Nat.mul_comm b]
theorem valB_get {b : Nat} (hb : 2 ≤ b) {l : List Nat} (h : ∀ x ∈ l, x < b) (k : Nat) : l[k]?.getD 0 = valB b l / b ^ k % b := by
 induction l generalizing k with
 | nil => simp [valB]
 | cons d t ih =>
  have h2 := h d List.mem_cons_self
  cases k with
  | zero => simp [valB, Nat.mod_eq_of_lt h2]
  | succ k =>
   rw [List.getElem?_cons_succ, ih (fun x hx => h x (List.mem_cons_of_mem _ hx)), valB, Nat.pow_succ, Nat.mul_comm (b ^ k) b, ← Nat.div_div_eq_div_mul, Nat.add_mul_div_left _ _ (by omega), Nat.div_eq_of_lt h2, Nat.zero_add]
theorem valB_take {b : Nat} (hb : 2 ≤ b) {l : List Nat} (h : ∀ x ∈ l, x < b) (k : Nat) : valB b (l.take k) = valB b l % b ^ k := by
 by_cases hk : k ≤ l.length
 ·have h1 := valB_append b (l.take k) (l.drop k)
  rw [List.take_append_drop] at h1
  have h2 := valB_lt hb (l := l.take k) (fun x hx => h x (List.mem_of_mem_take hx))
  rw [List.length_take, Nat.min_eq_left hk] at h1 h2
  rw [h1, Nat.add_mul_mod_self_left, Nat.mod_eq_of_lt h2]
 ·have h2 := valB_lt hb h
  rw [List.take_of_length_le (by omega), Nat.mod_eq_of_lt]
  exact Nat.lt_of_lt_of_le h2 (Nat.pow_le_pow_right (by omega) (by omega))
theorem valB_drop {b : Nat} (hb : 2 ≤ b) {l : List Nat} (h : ∀ x ∈ l, x < b) (k : Nat) : valB b (l.drop k) = valB b l / b ^ k := by
 by_cases hk : k ≤ l.length
 ·have h1 := valB_append b (l.take k) (l.drop k)
  rw [List.take_append_drop] at h1
  have h2 := valB_lt hb (l := l.take k) (fun x hx => h x (List.mem_of_mem_take hx))
  rw [List.length_take, Nat.min_eq_left hk] at h1 h2
  rw [h1, Nat.add_mul_div_left _ _ (Nat.pow_pos (by omega)), Nat.div_eq_of_lt h2, Nat.zero_add]
 ·have h2 := valB_lt hb h
  rw [List.drop_eq_nil_of_le (by omega), Nat.div_eq_of_lt]
  ·rfl
  ·exact Nat.lt_of_lt_of_le h2 (Nat.pow_le_pow_right (by omega) (by omega))
theorem valB_zeros (b k : Nat) : valB b (List.replicate k 0) = 0 := by
 induction k with
 | zero => rfl
 | succ k ih => rw [List.replicate_succ, valB, ih]; rfl
abbrev val32 (l : List Nat) : Nat := valB 4294967296 l
abbrev nat32 (n : Nat) : List Nat := natB 4294967296 n
abbrev Lim (l : List Nat) : Prop := ∀ x ∈ l, x < 4294967296
def topN : Nat := 4294967296 ^ 256
theorem topN_256 : topN = 256 ^ 1024 := by
 have h : ∀ a b c d e : Nat, a = b ^ c → e = c * d → a ^ d = b ^ e := by
  rintro a b c d e rfl rfl
  exact (Nat.pow_mul b c d).symm
 exact h 4294967296 256 4 256 1024 (by decide) (by decide)
def cutR32 (n : Nat) : List Nat × Int := if n < topN then (nat32 n, 0) else ([], 20)
theorem cutR_small {n : Nat} (h : n < topN) : cutR32 n = (nat32 n, 0) := if_pos h
theorem cutR_large {n : Nat} (h : ¬ n < topN) : cutR32 n = ([], 20) := if_neg h
theorem cut_iff (l : List Nat) (h : Lim l) : (bareN l).length ≤ 256 ↔ val32 l < topN := by
 rw [bareN_eq (by decide) h, natB_length (by decide)]
 exact Iff.rfl
theorem cut_iff8 (l : List Nat) (h : ∀ x ∈ l, x < 256) : (bareN l).length ≤ 1024 ↔ valB 256 l < topN := by
 rw [bareN_eq (by decide) h, natB_length (by decide), topN_256]
end Go.Proofs.YtpefjkndfifceaaGreatDoor
namespace Go.Proofs.YtpefjkndfifceaaGreatDoor
open Go.RowKit
theorem Tryz.info32 : (Tryz.prog.info? 71).map (fun i => (i.zero, i.size, i.bytes)) = some (some (.int .u32 0), 1, 4) := by kernel_rfl
def lenOf : Value → Nat
 | .slice _ n _ => n
 | _ => 0
theorem Reads.bare {q : IntKind} {w : World} {a : Option Addr} {len cap : Nat} {l : List Nat} (h : Reads q w a len cap l) : Reads q w a (bareN l).length cap (bareN l) := by
 have h1 := bareN_le l
 have h2 := h.upto (bareN l).length (by have := h.length; omega)
 rwa [← bareN_prefix] at h2
theorem bareN_len {l : List Nat} {k : Nat} (hk : k ≤ l.length) (h : bareN l = l.take k) : k = (bareN l).length := by
 rw [h, List.length_take]; omega
set_option maxHeartbeats 400000 in
theorem bare32_any (a : Option Addr) (len cap : Nat) (l : List Nat) (w : World) (h : Reads .u32 w a len cap l) :
  Calls Tryz.prog 69 #[.slice a len cap] w fun e w' => e = .returned (.slice a (bareN l).length cap) ∧ w = w' := by
 have hm := h.len_le
 unfold maxLen at hm
 have hcm := h.max
 unfold maxLen at hcm
 have hle := h.le
 have hl := zH h.length
 have H := zH h
 go_enter Tryz.func69, Tryz.ntmps69
 go_wp2
 go_loop [0] (fun v => ∃ k : Nat, k ≤ len ∧ v = .slice a k cap ∧ Hid (bareN l = bareN (l.take k))) (fun v => lenOf v)
 case atStart => exact ⟨len, Nat.le_refl _, rfl, by unfold Hid; rw [List.take_of_length_le (by rw [hl.out]; exact Nat.le_refl _)]⟩
 case round =>
  obtain ⟨k, hk, rfl, hrest⟩ := hrel
  rcases Nat.eq_zero_or_pos k with rfl | hp
  ·go_wp2
   go_ret
   have e : (0 : Nat) = (bareN l).length := by rw [hrest.out]; rfl
   exact ⟨by rw [← e]; rfl, rfl⟩
  ·obtain ⟨j, rfl⟩ : ∃ j, k = j + 1 := ⟨k - 1, by omega⟩
   clear hp
   obtain ⟨b, off, rfl, hbl, hc⟩ := H.out.cells (by omega)
   have hcj := hc j (by omega)
   have hst := zH (bareN_step l j (by have := hl.out; omega))
   clear hc
   generalize l[j]?.getD 0 = x at *
   by_cases hx0 : x = 0
   ·subst hx0
    go_wp2
    go_round
    case rel => exact ⟨j, by omega, rfl, by have := hst.out; rw [if_pos rfl] at this; unfold Hid; rw [hrest.out, this]⟩
    case measure => simp [lenOf]
   ·have hx1 : ((x : Int) == 0) = false := by simp; omega
    have e : j + 1 = (bareN l).length := by
     have := hst.out
     rw [if_neg hx0] at this
     exact bareN_len (by have := hl.out; omega) (by rw [hrest.out, this])
    have E := zH e
    clear e
    go_wp2
    go_ret
    exact ⟨by rw [← E.out]; rfl, rfl⟩
set_option maxHeartbeats 400000 in
theorem bare8_any (a : Option Addr) (len cap : Nat) (l : List Nat) (w : World) (h : Reads .u8 w a len cap l) :
  Calls Tryz.prog 72 #[.slice a len cap] w fun e w' => e = .returned (.slice a (bareN l).length cap) ∧ w = w' := by
 have hm := h.len_le
 unfold maxLen at hm
 have hcm := h.max
 unfold maxLen at hcm
 have hle := h.le
 have hl := zH h.length
 have H := zH h
 go_enter Tryz.func72, Tryz.ntmps72
 go_wp2
 go_loop [0] (fun v => ∃ k : Nat, k ≤ len ∧ v = .slice a k cap ∧ Hid (bareN l = bareN (l.take k))) (fun v => lenOf v)
 case atStart => exact ⟨len, Nat.le_refl _, rfl, by unfold Hid; rw [List.take_of_length_le (by rw [hl.out]; exact Nat.le_refl _)]⟩
 case round =>
  obtain ⟨k, hk, rfl, hrest⟩ := hrel
  rcases Nat.eq_zero_or_pos k with rfl | hp
  ·go_wp2
   go_ret
   have e : (0 : Nat) = (bareN l).length := by rw [hrest.out]; rfl
   exact ⟨by rw [← e]; rfl, rfl⟩
  ·obtain ⟨j, rfl⟩ : ∃ j, k = j + 1 := ⟨k - 1, by omega⟩
   clear hp
   obtain ⟨b, off, rfl, hbl, hc⟩ := H.out.cells (by omega)
   have hcj := hc j (by omega)
   have hst := zH (bareN_step l j (by have := hl.out; omega))
   clear hc
   generalize l[j]?.getD 0 = x at *
   by_cases hx0 : x = 0
   ·subst hx0
    go_wp2
    go_round
    case rel => exact ⟨j, by omega, rfl, by have := hst.out; rw [if_pos rfl] at this; unfold Hid; rw [hrest.out, this]⟩
    case measure => simp [lenOf]
   ·have hx1 : ((x : Int) == 0) = false := by simp; omega
    have e : j + 1 = (bareN l).length := by
     have := hst.out
     rw [if_neg hx0] at this
     exact bareN_len (by have := hl.out; omega) (by rw [hrest.out, this])
    have E := zH e
    clear e
    go_wp2
    go_ret
    exact ⟨by rw [← E.out]; rfl, rfl⟩
def RetsQ (q : IntKind) (E : TypeId) (B : Nat) (w' : World) (l : List Nat) (e : Ending) : Prop := ∃ v, e = .returned v ∧ OwnQ q E B w' v l
def RetsQ2 (q : IntKind) (E : TypeId) (B : Nat) (w' : World) (r : List Nat × Int) (e : Ending) : Prop := ∃ v, e = .returned (.tuple #[v, .int .i64 r.2]) ∧ OwnQ q E B w' v r.1
theorem OwnQ.slice {q : IntKind} {E : TypeId} {B : Nat} {w : World} {v : Value} {l : List Nat} (h : OwnQ q E B w v l) : ∃ a n cap, v = .slice a n cap ∧ n = l.length ∧ OwnQ q E B w (.slice a n cap) l := by
 obtain ⟨a, cap, rfl, _, _⟩ := h.form
 exact ⟨a, _, cap, rfl, rfl, h⟩
set_option maxHeartbeats 400000 in
theorem clone32_any (a : Option Addr) (len cap : Nat) (l : List Nat) (w : World) (h : Reads .u32 w a len cap l) (hm : len ≤ 17592186044416) :
  Calls Tryz.prog 135 #[.slice a len cap] w fun e w' => RetsQ .u32 71 w.heap.size w' l e ∧ Below w.heap.size w w' := by
 have H := zH h
 have hl := zH h.length
 obtain ⟨i0, hi, hz0, hz1, hz2⟩ := info_parts Tryz.info32
 cases a with
 | none =>
  obtain rfl : cap = 0 := h.nil rfl
  obtain rfl : len = 0 := by have := h.le; omega
  obtain rfl : l = [] := List.eq_nil_of_length_eq_zero h.length
  have he := fun W : World => Lib.run_eql_slice_nil (P := Tryz.prog) W 44 71 none 0 0 0 0 Tryz.underlying44
  go_enter Tryz.func135, Tryz.ntmps135
  go_wp2
  go_ret
  exact ⟨⟨_, rfl, OwnQ.nil _ _ _ _⟩, Below.refl _ _⟩
 | some ad =>
  clear h
  have he := fun W : World => Lib.run_eql_slice_nil (P := Tryz.prog) W 44 71 (some ad) len cap 0 0 Tryz.underlying44
  go_enter Tryz.func135, Tryz.ntmps135
  go_wp2_with (at_builtin; refine wpList_append_q .u32 _ rfl _ _ 44 rfl w.heap.size 71 4 i0 Tryz.underlying44 hi hz0 hz1 hz2 (by decide) _ [] rfl (OwnQ.empty _ w _ _ (Nat.le_refl _)) _ _ _ l rfl (H.out.below ((Below.refl _ _).alloc (Nat.le_refl _) _)) (by simp; omega) (by simp) ?_; intro v' w1 hown hgrow)
  go_ret
  exact ⟨⟨_, rfl, hown⟩, hgrow _ ((Below.refl _ _).alloc (Nat.le_refl _) _)⟩
set_option maxHeartbeats 400000 in
theorem limb_any (a : Option Addr) (len cap : Nat) (l : List Nat) (w : World) (h : Reads .u32 w a len cap l) (i : Int) (k : Nat) (hk : i = k) :
  Calls Tryz.prog 141 #[.slice a len cap, .int .i64 i] w fun e w' => e = .returned (.int .u32 ((l[k]?.getD 0 : Nat) : Int)) ∧ w = w' := by
 have hm := h.len_le
 unfold maxLen at hm
 have hl := zH h.length
 subst hk
 by_cases hlt : k < len
 ·obtain ⟨b, off, rfl, hbl, hc⟩ := h.cells (by omega)
  have hck := hc k hlt
  clear hc h
  generalize l[k]?.getD 0 = x at *
  go_enter Tryz.func141, Tryz.ntmps141
  go_wp2
  go_ret
  exact ⟨rfl, rfl⟩
 ·have e := zH (show l[k]?.getD 0 = 0 by rw [List.getElem?_eq_none (by have := hl.out; omega)]; rfl)
  clear h
  go_enter Tryz.func141, Tryz.ntmps141
  go_wp2
  go_ret
  exact ⟨by rw [e.out]; rfl, rfl⟩
set_option maxHeartbeats 400000 in
theorem may1_any (b : Nat) (a : Option Addr) (n cap : Nat) (w : World) (h : w.cell? ⟨b, 0, none⟩ = some (.slice a n cap)) (r : Bool) (hr : r = decide (n ≤ 256)) (hm : n ≤ 9223372036854775807) :
  Calls Tryz.prog 70 #[.slice (some ⟨b, 0, none⟩) 1 1] w fun e w' => e = .returned (.bool r) ∧ w = w' := by
 go_enter Tryz.func70, Tryz.ntmps70
 go_wp2
 go_loop [7] (fun i => i = .int .i64 0 ∨ (i = .int .i64 1 ∧ n ≤ 256)) (fun i => 1 - (intOf i).toNat)
 case atStart => exact .inl rfl
 case round =>
  rcases hrel with rfl | ⟨rfl, hle⟩
  ·by_cases hc : n ≤ 256
   ·have hn : decide ((256 : Int) < (n : Int)) = false := by simp; omega
    go_wp2
    go_round
    case rel => exact .inr ⟨rfl, hc⟩
    case measure => simp [intOf]
   ·have hn : decide ((256 : Int) < (n : Int)) = true := by simp; omega
    have HR := zH hr
    clear hr
    go_wp2
    go_ret
    exact ⟨by rw [HR.out, decide_eq_false hc]; rfl, rfl⟩
  ·have HR := zH hr
   clear hr
   go_wp2
   go_ret
   exact ⟨by rw [HR.out, decide_eq_true hle]; rfl, rfl⟩
set_option maxHeartbeats 400000 in
theorem may2_any (b : Nat) (a a' : Option Addr) (n cap n' cap' : Nat) (w : World) (h : w.cell? ⟨b, 0, none⟩ = some (.slice a n cap)) (h' : w.cell? ⟨b, 1, none⟩ = some (.slice a' n' cap')) (r : Bool) (hr : r = decide (n ≤ 256 ∧ n' ≤ 256)) (hm : n ≤ 9223372036854775807) (hm' : n' ≤ 9223372036854775807) :
  Calls Tryz.prog 70 #[.slice (some ⟨b, 0, none⟩) 2 2] w fun e w' => e = .returned (.bool r) ∧ w = w' := by
 go_enter Tryz.func70, Tryz.ntmps70
 go_wp2
 go_loop [7] (fun i => i = .int .i64 0 ∨ (i = .int .i64 1 ∧ n ≤ 256) ∨ (i = .int .i64 2 ∧ n ≤ 256 ∧ n' ≤ 256)) (fun i => 2 - (intOf i).toNat)
 case atStart => exact .inl rfl
 case round =>
  have HR := zH hr
  clear hr
  rcases hrel with rfl | ⟨rfl, hle⟩ | ⟨rfl, hle, hle'⟩
  ·by_cases hc : n ≤ 256
   ·have hn : decide ((256 : Int) < (n : Int)) = false := by simp; omega
    go_wp2
    go_round
    case rel => exact .inr (.inl ⟨rfl, hc⟩)
    case measure => simp [intOf]
   ·have hn : decide ((256 : Int) < (n : Int)) = true := by simp; omega
    go_wp2
    go_ret
    exact ⟨by rw [HR.out, decide_eq_false (fun h => hc h.1)]; rfl, rfl⟩
  ·by_cases hc : n' ≤ 256
   ·have hn : decide ((256 : Int) < (n' : Int)) = false := by simp; omega
    go_wp2
    go_round
    case rel => exact .inr (.inr ⟨rfl, hle, hc⟩)
    case measure => simp [intOf]
   ·have hn : decide ((256 : Int) < (n' : Int)) = true := by simp; omega
    go_wp2
    go_ret
    exact ⟨by rw [HR.out, decide_eq_false (fun h => hc h.2)]; rfl, rfl⟩
  ·go_wp2
   go_ret
   exact ⟨by rw [HR.out, decide_eq_true ⟨hle, hle'⟩]; rfl, rfl⟩
end Go.Proofs.YtpefjkndfifceaaGreatDoor
namespace Go.Proofs.YtpefjkndfifceaaGreatDoor
open Go.RowKit
theorem bareN_nat {l : List Nat} (h : Lim l) : bareN l = nat32 (val32 l) := bareN_eq (by decide) h
set_option maxHeartbeats 400000 in
theorem trim_any (a : Option Addr) (len cap : Nat) (l : List Nat) (w : World) (h : Reads .u32 w a len cap l) (hL : Lim l) :
  Calls Tryz.prog 102 #[.slice a len cap] w fun e w' => RetsQ2 .u32 71 w.heap.size w' (cutR32 (val32 l)) e ∧ Below w.heap.size w w' := by
 have hb := h.bare
 have hci := cut_iff l hL
 have hbn := bareN_nat hL
 have hmx := h.len_le
 unfold maxLen at hmx
 have hbl := bareN_le l
 rw [h.length] at hbl
 have HB := zH (bare32_any a len cap l w h)
 generalize bareN l = m at *
 have HM := zH hb
 clear hb h
 by_cases hc : m.length ≤ 256
 ·have hr := zH (show cutR32 (val32 l) = (m, 0) by rw [cutR_small (hci.1 hc), hbn])
  clear hci hbn
  go_enter Tryz.func102, Tryz.ntmps102
  go_wp2_with fail
  refine HB.out.mono ?_
  rintro e w1 ⟨rfl, rfl⟩
  go_wp2_with fail
  refine (may1_any w.heap.size a m.length cap _ (World.cell?_alloc_at _ _ _ _ rfl) true (by simp [hc]) (by omega)).mono ?_
  rintro e w1 ⟨rfl, rfl⟩
  go_wp2_with fail
  refine (clone32_any a m.length cap m _ (HM.out.below ((Below.refl _ _).alloc (Nat.le_refl _) _)) (by omega)).mono ?_
  rintro e w1 ⟨⟨v, rfl, ho⟩, hbel⟩
  go_wp2
  go_ret2
  refine ⟨⟨v, by rw [hr.out]; rfl, ?_⟩, ?_⟩
  ·rw [hr.out]; exact ho.mono (by simp)
  ·exact ((Below.refl _ _).alloc (Nat.le_refl _) _).trans (hbel.mono (by simp))
 ·have hr := zH (show cutR32 (val32 l) = ([], 20) by rw [cutR_large (fun h => hc (hci.2 h))])
  clear hci hbn
  go_enter Tryz.func102, Tryz.ntmps102
  go_wp2_with fail
  refine HB.out.mono ?_
  rintro e w1 ⟨rfl, rfl⟩
  go_wp2_with fail
  refine (may1_any w.heap.size a m.length cap _ (World.cell?_alloc_at _ _ _ _ rfl) false (by simp; omega) (by omega)).mono ?_
  rintro e w1 ⟨rfl, rfl⟩
  go_wp2
  go_ret2
  refine ⟨⟨_, by rw [hr.out]; rfl, ?_⟩, (Below.refl _ _).alloc (Nat.le_refl _) _⟩
  rw [hr.out]; exact OwnQ.nil _ _ _ _
theorem OwnQ.two (q : IntKind) (w : World) (E : TypeId) (B : Nat) (hB : B ≤ w.heap.size) (x y : Int) (c d : Nat) (hx : x = c) (hy : y = d) : OwnQ q E B (w.alloc (.cells #[.int q x, .int q y] E)) (.slice (some ⟨w.heap.size, 0, .none⟩) 2 2) [c, d] := by
 subst hx
 subst hy
 exact World.ownsRow_lit w #[.int q c, .int q d] 2 hB (by unfold maxLen; omega) rfl
theorem two_nat (n : Nat) (hn : n < 18446744073709551616) : bareN [n % 4294967296, n / 4294967296] = nat32 n := by
 have h : Lim [n % 4294967296, n / 4294967296] := by
  intro x hx
  simp only [List.mem_cons, List.not_mem_nil, or_false] at hx
  rcases hx with rfl | rfl <;> omega
 rw [bareN_nat h]
 congr 1
 simp [val32, valB]
 omega
set_option maxHeartbeats 400000 in
theorem of_any (n : Int) (k : Nat) (hk : n = k) (w : World) (hn : k < 18446744073709551616) :
  Calls Tryz.prog 29 #[.int .u64 n] w fun e w' => RetsQ .u32 71 w.heap.size w' (nat32 k) e ∧ Below w.heap.size w w' := by
 subst hk
 have h2 := two_nat k hn
 have hle := bareN_le [k % 4294967296, k / 4294967296]
 rw [h2] at hle
 have ho := OwnQ.two .u32 w 71 w.heap.size (Nat.le_refl _) ((k : Int) % 4294967296) ((k : Int) / 4294967296) (k % 4294967296) (k / 4294967296) (by omega) (by omega)
 have hr := ho.reads
 have HB := zH (bare32_any _ _ _ _ _ hr)
 have HO := zH (ho.upto _ hle)
 have H2 := zH h2
 have hpre := zH (bareN_prefix [k % 4294967296, k / 4294967296])
 clear h2 hle ho hr
 go_enter Tryz.func29, Tryz.ntmps29
 go_wp2_with fail
 refine HB.out.mono ?_
 rintro e w1 ⟨rfl, rfl⟩
 go_wp2
 go_ret
 refine ⟨⟨_, rfl, ?_⟩, (Below.refl _ _).alloc (Nat.le_refl _) _⟩
 have := HO.out
 rw [← H2.out] at this ⊢
 rwa [← hpre.out] at this
def uintV (v : Nat) : Nat := if v < 18446744073709551616 then v else 0
def UintIs (v : Nat) (e : Ending) : Prop := e = .returned (.tuple #[.int .u64 (uintV v : Nat), .bool (decide (v < 18446744073709551616))])
theorem or32 (v x : Nat) (hv : v < 4294967296) (hx : x < 4294967296) : bits BinOp.or IntKind.u64 ((v : Int) * 4294967296) (x : Int) = ((4294967296 * v + x : Nat) : Int) := by
 rw [show ((v : Int) * 4294967296) = ((v * 4294967296 : Nat) : Int) from by omega, u64_or_nat _ _ (by omega) (by omega), nat_join 32 _ _ (by omega) (by omega)]
 omega
theorem lim_get {l : List Nat} (h : Lim l) (k : Nat) : l[k]?.getD 0 < 4294967296 := by
 by_cases hk : k < l.length
 ·rw [List.getElem?_eq_getElem hk]; exact h _ (List.getElem_mem _)
 ·rw [List.getElem?_eq_none (by omega)]; decide
end Go.Proofs.YtpefjkndfifceaaGreatDoor
namespace Go.Proofs.YtpefjkndfifceaaGreatDoor
open Go.RowKit
def revK (l : List Nat) (k : Nat) : List Nat := (List.range l.length).map fun i => if i < k ∨ l.length ≤ i + k then l[l.length - 1 - i]?.getD 0 else l[i]?.getD 0
theorem revK_length (l : List Nat) (k : Nat) : (revK l k).length = l.length := by simp [revK]
theorem revK_get (l : List Nat) (k i : Nat) (h : i < l.length) : (revK l k)[i]?.getD 0 = if i < k ∨ l.length ≤ i + k then l[l.length - 1 - i]?.getD 0 else l[i]?.getD 0 := by simp [revK, h]
theorem revK_zero (l : List Nat) : revK l 0 = l := by
 apply List.ext_getElem
 ·simp [revK]
 ·intro i h1 h2
  have h3 : ¬ l.length ≤ i := by omega
  simp [revK, h3, h2]
theorem revK_step (l : List Nat) (k j : Nat) (h : k + j + 1 = l.length) (hkj : k < j) : ((revK l k).set k (l[j]?.getD 0)).set j (l[k]?.getD 0) = revK l (k + 1) := by
 apply List.ext_getElem
 ·simp [revK]
 ·intro i h1 h2
  rw [revK_length] at h2
  rw [List.getElem_set, List.getElem_set]
  by_cases e : j = i
  ·subst e
   rw [if_pos rfl]
   simp only [revK, List.getElem_map, List.getElem_range]
   rw [if_pos (by omega), show l.length - 1 - j = k from by omega]
  ·rw [if_neg e]
   by_cases e2 : k = i
   ·subst e2
    rw [if_pos rfl]
    simp only [revK, List.getElem_map, List.getElem_range]
    rw [if_pos (by omega), show l.length - 1 - k = j from by omega]
   ·rw [if_neg e2]
    simp only [revK, List.getElem_map, List.getElem_range]
    by_cases c : i < k ∨ l.length ≤ i + k
    ·rw [if_pos c, if_pos (by omega)]
    ·rw [if_neg c, if_neg (by omega)]
theorem revK_end (l : List Nat) (k : Nat) (h : l.length ≤ 2 * k + 1) : revK l k = l.reverse := by
 apply List.ext_getElem
 ·simp [revK]
 ·intro i h1 h2
  rw [revK_length] at h1
  simp only [revK, List.getElem_map, List.getElem_range, List.getElem_reverse]
  have e : l[l.length - 1 - i]?.getD 0 = l[l.length - 1 - i] := by rw [List.getElem?_eq_getElem (by omega)]; rfl
  by_cases c : i < k ∨ l.length ≤ i + k
  ·rw [if_pos c, e]
  ·rw [if_neg c, ← e, show l.length - 1 - i = i from by omega]
set_option maxHeartbeats 1000000 in
theorem rev8_any (B : Nat) (a : Option Addr) (n cap : Nat) (l : List Nat) (w : World) (h : OwnQ .u8 5 B w (.slice a n cap) l) :
  Calls Tryz.prog 73 #[.slice a n cap] w fun e w' => e = .returned (.tuple #[]) ∧ OwnQ .u8 5 B w' (.slice a n cap) l.reverse ∧ (∀ w0, Below B w0 w → Below B w0 w') := by
 obtain ⟨hn, hle, hcm⟩ := h.cap
 unfold maxLen at hcm
 have HN := zH hn
 clear hn
 have H0 := zH (show OwnQ .u8 5 B w (.slice a n cap) (revK l 0) by rw [revK_zero]; exact h)
 have HG : Hid (0 < n → ∃ g, a = some ⟨g, 0, none⟩) := fun hp => by
  obtain ⟨g, c, e⟩ := h.succ (by rintro rfl; have := HN.out; simp at this; omega)
  exact ⟨g, by cases e; rfl⟩
 clear h
 go_enter Tryz.func73, Tryz.ntmps73
 go_wp2
 go_loopw [2, 3] (fun i j wr => ∃ k : Nat, i = .int .i64 k ∧ ((∃ m : Nat, j = .int .i64 m ∧ k + m + 1 = n) ∨ (j = .int .i64 (-1) ∧ k = 0 ∧ n = 0)) ∧ OwnQ .u8 5 B wr (.slice a n cap) (revK l k) ∧ Hid (∀ w0, Below B w0 w → Below B w0 wr)) (fun i _ _ => n - (intOf i).toNat)
 case atStart =>
  refine ⟨0, rfl, ?_, H0.out, fun w0 h => h⟩
  rcases Nat.eq_zero_or_pos n with rfl | hp
  ·exact .inr ⟨rfl, rfl, rfl⟩
  ·exact .inl ⟨n - 1, by congr 1; omega, by omega⟩
 case round =>
  obtain ⟨k, rfl, hj, hown, hbel⟩ := hrel
  rcases hj with ⟨m, rfl, hkm⟩ | ⟨rfl, rfl, rfl⟩
  ·by_cases hlt : k < m
   ·obtain ⟨g, rfl⟩ := HG.out (by omega)
    have hln : n = (revK l k).length := by rw [revK_length]; exact HN.out
    have ck := hown.cellAt hln k (by omega)
    have cm := hown.cellAt hln m (by omega)
    have fk := hown.frozenAt hln k
    have fm := hown.frozenAt hln m
    have hl := HN.out
    rw [revK_get l k k (by omega), if_neg (by omega)] at ck
    rw [revK_get l k m (by omega), if_neg (by omega)] at cm
    have hst := zH (revK_step l k m (by omega) hlt)
    clear hl
    generalize l[k]?.getD 0 = x at *
    generalize l[m]?.getD 0 = y at *
    have HO := zH hown
    have HLN := zH hln
    clear hown hln
    go_wp2
    go_region
    all_goals
     go_wp2
     go_roundw
     case rel =>
      have s1 := HO.out.stored HLN.out k y (y : Int) rfl
      have s2 := s1.1.stored (by rw [List.length_set]; exact HLN.out) m x (x : Int) rfl
      rw [hst.out] at s2
      exact ⟨k + 1, by go_num, .inl ⟨m - 1, by congr 1; omega, by omega⟩, s2.1.drew, fun w0 h0 => (s2.2 w0 (s1.2 w0 (hbel.out w0 h0))).drew⟩
     case measure => simp [intOf]; omega
   ·have he := zH (revK_end l k (by have := HN.out; omega))
    go_wp2
    go_end0
    rw [he.out] at hown
    exact ⟨rfl, hown, hbel.out⟩
  ·have he := zH (revK_end l 0 (by have := HN.out; omega))
   go_wp2
   go_end0
   rw [he.out] at hown
   exact ⟨rfl, hown, hbel.out⟩
end Go.Proofs.YtpefjkndfifceaaGreatDoor
namespace Go.Proofs.YtpefjkndfifceaaGreatDoor
open Go.RowKit
abbrev Byt (l : List Nat) : Prop := ∀ x ∈ l, x < 256
def u8s (l : List Nat) : List UInt8 := l.map UInt8.ofNat
theorem u8s_get (l : List Nat) (h : Byt l) (i : Nat) : ((u8s l)[i]?.getD 0).toNat = l[i]?.getD 0 := by
 by_cases hi : i < l.length
 ·have := h _ (List.getElem_mem hi)
  simp [u8s, hi, UInt8.toNat_ofNat']
  omega
 ·simp [u8s, List.getElem?_eq_none (show l.length ≤ i by omega)]
theorem u8s_inj {l m : List Nat} (h : Byt l) (k : Byt m) (e : u8s l = u8s m) : l = m := by
 apply List.ext_getElem
 ·have := congrArg List.length e; simpa [u8s] using this
 ·intro i h1 h2
  have e1 := u8s_get l h i
  have e2 := u8s_get m k i
  rw [e] at e1
  rw [e1] at e2
  rwa [List.getElem?_eq_getElem h1, List.getElem?_eq_getElem h2] at e2
theorem Reads.bts {w : World} {a : Option Addr} {n c : Nat} {l : List Nat} (h : Reads .u8 w a n c l) (hB : Byt l) : Bts w a n c (u8s l) :=
 ⟨by rw [u8s, List.length_map, h.length], h.le, h.max, h.nil, fun hp => by
  obtain ⟨b, off, rfl, hb, hc⟩ := h.cells hp
  exact ⟨b, off, rfl, hb, fun i hi => by rw [hc i hi, u8s_get l hB]⟩⟩
end Go.Proofs.YtpefjkndfifceaaGreatDoor
namespace Go.Proofs.YtpefjkndfifceaaGreatDoor
open Go.RowKit
theorem Tryz.info8 : (Tryz.prog.info? 5).map (fun i => (i.zero, i.size, i.bytes)) = some (some (.int .u8 0), 1, 1) := by kernel_rfl
theorem valB_set (b : Nat) : ∀ (l : List Nat) (t d : Nat), t < l.length → valB b (l.set t d) + b ^ t * (l[t]?.getD 0) = valB b l + b ^ t * d
 | [], t, d, h => by simp at h
 | c :: l, 0, d, _ => by simp [valB]; omega
 | c :: l, t + 1, d, h => by
  have := valB_set b l t d (by simpa using h)
  simp only [zq3, valB, List.getElem?_cons_succ, Nat.pow_succ]
  have e1 : b ^ t * b * (l[t]?.getD 0) = b * (b ^ t * (l[t]?.getD 0)) := by rw [Nat.mul_comm (b ^ t) b, Nat.mul_assoc]
  have e2 : b ^ t * b * d = b * (b ^ t * d) := by rw [Nat.mul_comm (b ^ t) b, Nat.mul_assoc]
  have e3 : b * (valB b (l.set t d) + b ^ t * (l[t]?.getD 0)) = b * (valB b l + b ^ t * d) := by rw [this]
  rw [Nat.mul_add, Nat.mul_add] at e3
  omega
theorem valB_succ {b : Nat} (l : List Nat) (k : Nat) : valB b (l.take (k + 1)) = valB b (l.take k) + b ^ k * (l[k]?.getD 0) := by
 by_cases hk : k < l.length
 ·rw [take_snocN l k hk, valB_snoc, List.length_take, Nat.min_eq_left (by omega)]
 ·rw [List.take_of_length_le (by omega), List.take_of_length_le (by omega), List.getElem?_eq_none (by omega)]; simp
theorem pow32 (t : Nat) : (4294967296 : Nat) ^ t = 256 ^ (4 * t) := by rw [Nat.pow_mul]
theorem read_step (X m : List Nat) (k : Nat) (hX : Lim X) (hm : Byt m) (hk : k < m.length) (hL : X.length = (m.length + 3) / 4) (hv : val32 X = valB 256 (m.take k)) :
  X[k / 4]?.getD 0 < 256 ^ (k % 4) ∧ val32 (X.set (k / 4) (X[k / 4]?.getD 0 + 256 ^ (k % 4) * (m[k]?.getD 0))) = valB 256 (m.take (k + 1)) ∧ X[k / 4]?.getD 0 + 256 ^ (k % 4) * (m[k]?.getD 0) < 256 ^ (k % 4 + 1) := by
 have h1 : X[k / 4]?.getD 0 < 256 ^ (k % 4) := by
  rw [valB_get (by decide) hX (k / 4)]
  refine Nat.lt_of_le_of_lt (Nat.mod_le _ _) ?_
  rw [Nat.div_lt_iff_lt_mul (Nat.pow_pos (by decide))]
  have h2 := valB_lt (b := 256) (by decide) (l := m.take k) (fun x hx => hm x (List.mem_of_mem_take hx))
  rw [List.length_take, Nat.min_eq_left (by omega)] at h2
  rw [pow32, ← Nat.pow_add, show k % 4 + 4 * (k / 4) = k from by omega]
  show val32 X < _
  omega
 have h3 : m[k]?.getD 0 < 256 := by rw [List.getElem?_eq_getElem hk]; exact hm _ (List.getElem_mem _)
 refine ⟨h1, ?_, ?_⟩
 ·have h4 := valB_set 4294967296 X (k / 4) (X[k / 4]?.getD 0 + 256 ^ (k % 4) * (m[k]?.getD 0)) (by omega)
  rw [Nat.mul_add] at h4
  have h5 := valB_succ (b := 256) m k
  have h6 : (4294967296 : Nat) ^ (k / 4) * (256 ^ (k % 4) * (m[k]?.getD 0)) = 256 ^ k * (m[k]?.getD 0) := by
   rw [pow32, ← Nat.mul_assoc, ← Nat.pow_add, show 4 * (k / 4) + k % 4 = k from by omega]
  simp only [val32] at *
  omega
 ·rw [Nat.pow_succ]
  have : 256 ^ (k % 4) * (m[k]?.getD 0) ≤ 256 ^ (k % 4) * 255 := Nat.mul_le_mul_left _ (by omega)
  omega
theorem bare_len_eq {X : List Nat} (h : (bareN X).length = X.length) : bareN X = X := by
 have := bareN_prefix X
 rw [h, List.take_length] at this
 exact this
theorem read_end (X m : List Nat) (v : Nat) (hX : Lim X) (hm : m = natB 256 v) (hL : X.length = (m.length + 3) / 4) (hv : val32 X = v) : X = nat32 v := by
 have h1 := bareN_nat hX
 rw [hv] at h1
 have h2 : ∀ k, (nat32 v).length ≤ k ↔ m.length ≤ 4 * k := fun k => by
  rw [hm, natB_length (by decide), natB_length (by decide), pow32]
 have h3 : (bareN X).length = X.length := by
  rw [h1, hL]
  have a := (h2 ((m.length + 3) / 4)).2 (by omega)
  have b := (h2 (nat32 v).length).1 (Nat.le_refl _)
  omega
 rw [← h1, bare_len_eq h3]
theorem mem_set {X : List Nat} {b t d : Nat} (h : ∀ x ∈ X, x < b) (hd : d < b) : ∀ x ∈ X.set t d, x < b := fun x hx => by
 rcases List.mem_or_eq_of_mem_set hx with h1 | rfl
 ·exact h x h1
 ·exact hd
theorem OwnQ.made {q : IntKind} {E : TypeId} {B : Nat} {w : World} {g n : Nat} {z : List Value} (h : w.ownsRow B E 1 (.slice (some ⟨g, 0, none⟩) n n) n z) (hz : z = (madeCells (Value.int q 0).cells (n * 1)).toList) : OwnQ q E B w (.slice (some ⟨g, 0, none⟩) n n) (List.replicate n 0) := by
 unfold OwnQ
 rw [← zeros_q, ← hz]
 simpa using h
theorem shl_or (x c s : Nat) (p : Nat) (hp : p = 2 ^ s) (hx : x < p) : x ||| (c * p) = x + p * c := by
 subst hp
 rw [Nat.or_comm, Nat.mul_comm c, Nat.mul_comm, ← Nat.shiftLeft_eq, ← Nat.shiftLeft_add_eq_or_of_lt hx, Nat.shiftLeft_eq]
 rw [Nat.mul_comm]; omega
end Go.Proofs.YtpefjkndfifceaaGreatDoor
namespace Go.Proofs.YtpefjkndfifceaaGreatDoor
open Go.RowKit
set_option maxHeartbeats 400000 in
theorem clone8_any (a : Option Addr) (len cap : Nat) (l : List Nat) (w : World) (h : Reads .u8 w a len cap l) (hm : len ≤ 17592186044416) :
  Calls Tryz.prog 137 #[.slice a len cap] w fun e w' => RetsQ .u8 5 w.heap.size w' l e ∧ Below w.heap.size w w' := by
 have H := zH h
 have hl := zH h.length
 obtain ⟨i0, hi, hz0, hz1, hz2⟩ := info_parts Tryz.info8
 cases a with
 | none =>
  obtain rfl : cap = 0 := h.nil rfl
  obtain rfl : len = 0 := by have := h.le; omega
  obtain rfl : l = [] := List.eq_nil_of_length_eq_zero h.length
  have he := fun W : World => Lib.run_eql_slice_nil (P := Tryz.prog) W 22 5 none 0 0 0 0 Tryz.underlying22
  go_enter Tryz.func137, Tryz.ntmps137
  go_wp2
  go_ret
  exact ⟨⟨_, rfl, OwnQ.nil _ _ _ _⟩, Below.refl _ _⟩
 | some ad =>
  clear h
  have he := fun W : World => Lib.run_eql_slice_nil (P := Tryz.prog) W 22 5 (some ad) len cap 0 0 Tryz.underlying22
  go_enter Tryz.func137, Tryz.ntmps137
  go_wp2_with (at_builtin; refine wpList_append_q .u8 _ rfl _ _ 22 rfl w.heap.size 5 1 i0 Tryz.underlying22 hi hz0 hz1 hz2 (by decide) _ [] rfl (OwnQ.empty _ w _ _ (Nat.le_refl _)) _ _ _ l rfl (H.out.below ((Below.refl _ _).alloc (Nat.le_refl _) _)) (by simp; omega) (by simp) ?_; intro v' w1 hown hgrow)
  go_ret
  exact ⟨⟨_, rfl, hown⟩, hgrow _ ((Below.refl _ _).alloc (Nat.le_refl _) _)⟩
theorem or_step (d c p : Nat) (x : Int) (s : Nat) (hp : p = 2 ^ s) (hs : 256 * p ≤ 4294967296) (hd : d < p) (hc : c < 256) (hx : x = (c * p : Nat)) : bits BinOp.or IntKind.u32 (d : Int) x = ((d + p * c : Nat) : Int) := by
 have h1 : c * p ≤ 255 * p := Nat.mul_le_mul_right _ (by omega)
 rw [hx, u32_or_nat _ _ (by omega) (by omega), shl_or d c s p hp hd]
theorem lim8_get {l : List Nat} (h : Byt l) (k : Nat) : l[k]?.getD 0 < 256 := by
 by_cases hk : k < l.length
 ·rw [List.getElem?_eq_getElem hk]; exact h _ (List.getElem_mem _)
 ·rw [List.getElem?_eq_none (by omega)]; decide
theorem fun_below {B : Nat} {w wr w' : World} (h : Below B w wr) (g : ∀ w0, Below B w0 wr → Below B w0 w') : Below B w w'.drew := (g w h).drew
set_option maxHeartbeats 1000000 in
theorem read_any (a : Option Addr) (len cap : Nat) (l : List Nat) (w : World) (h : Reads .u8 w a len cap l) (hB : Byt l) (hm : len ≤ 17592186044416) :
  Calls Tryz.prog 106 #[.slice a len cap] w fun e w' => RetsQ2 .u32 71 w.heap.size w' (cutR32 (valB 256 l.reverse)) e ∧ Below w.heap.size w w' := by
 obtain ⟨i0, hi, hz0, hz1, hz2⟩ := info_parts Tryz.info32
 have HC := zH (clone8_any a len cap l w h hm)
 have hlen := h.length
 have HL := zH hlen
 have hB' : Byt l.reverse := fun x hx => hB x (List.mem_reverse.1 hx)
 have hble := bareN_le l.reverse
 rw [List.length_reverse, hlen] at hble
 have hpre := bareN_prefix l.reverse
 have hmB : Byt (bareN l.reverse) := fun x hx => hB' x (bareN_mem hx)
 have hci := cut_iff8 _ hB'
 have HV := zH (bareN_val 256 l.reverse)
 have HE := zH (bareN_eq (b := 256) (by decide) hB')
 clear h hlen
 go_enter Tryz.func106, Tryz.ntmps106
 go_wp2_with fail
 refine HC.out.mono ?_
 rintro e w1 ⟨⟨v, rfl, ho⟩, hb1⟩
 have HB1 := zH hb1
 obtain ⟨a1, n1, c1, rfl, hn1, ho1⟩ := ho.slice
 have HN1 := zH hn1
 clear hb1 ho hn1
 go_wp2_with fail
 refine (rev8_any _ _ _ _ _ _ ho1).mono ?_
 rintro e w2 ⟨rfl, ho2, hg2⟩
 have HB2 := zH (hg2 _ HB1.out)
 clear ho1 hg2
 go_wp2_with fail
 refine (bare8_any _ _ _ _ _ ho2.reads).mono ?_
 rintro e w3 ⟨rfl, rfl⟩
 have ho3 := ho2.upto (bareN l.reverse).length (by have := HN1.out; have := HL.out; omega)
 rw [← hpre] at ho3
 have HO := zH ho3
 clear ho2 ho3 hpre
 generalize bareN l.reverse = m at *
 by_cases hc : m.length ≤ 1024
 ·have hv := hci.1 hc
  have hr := zH (show cutR32 (valB 256 l.reverse) = (nat32 (valB 256 l.reverse), 0) from cutR_small hv)
  clear hci hv
  generalize hM : m.length = M at *
  have HM := zH hM
  clear hM
  have hdec : decide ((1024 : Int) < (M : Int)) = false := by simp; omega
  have HmB := zH hmB
  clear hmB hB hB'
  go_wp2_with (at_make; refine wpList_make_full _ rfl _ _ 44 rfl w.heap.size 71 i0 (.int .u32 0) 1 Tryz.underlying44 hi hz0 hz1 _ _ _ _ ((M + 3) / 4) rfl rfl (by omega) (by omega) (by rw [hz2]; omega) (by unfold maxLen; omega) HB2.out.size ?_; intro w4 hown hgrow)
  have ho4 : OwnQ .u32 71 w.heap.size w4 (.slice (some ⟨w2.heap.size, 0, none⟩) ((M + 3) / 4) ((M + 3) / 4)) (List.replicate ((M + 3) / 4) 0) := OwnQ.made hown rfl
  have hb4 : Below w.heap.size w w4 := HB2.out.grown hgrow HB2.out.size (fun _ h => by cases h)
  have hm4 := HO.out.below ((Below.refl w2.heap.size w2).grown hgrow (Nat.le_refl _) (fun _ h => by cases h))
  have HG : Hid (0 < M → ∃ g, a1 = some ⟨g, 0, none⟩ ∧ g < w2.heap.size) := fun hp => by
   obtain ⟨g, c, e⟩ := HO.out.succ (by rintro rfl; have := HM.out; simp at this; omega)
   cases e
   exact ⟨g, rfl, (World.ownsRow.lt HO.out g rfl).2⟩
  have HOm := zH hm4
  have HO4 := zH ho4
  have HB4 := zH hb4
  clear hown hgrow hm4 ho4 hb4
  generalize hG2 : w2.heap.size = G at *
  clear hG2
  go_wp2
  go_loopw [24] (fun i wr => ∃ (k : Nat) (X : List Nat), i = .int .i64 k ∧ k ≤ M ∧ Hid (X.length = (M + 3) / 4 ∧ Lim X ∧ val32 X = valB 256 (m.take k)) ∧ OwnQ .u32 71 w.heap.size wr (.slice (some ⟨G, 0, none⟩) ((M + 3) / 4) ((M + 3) / 4)) X ∧ OwnQ .u8 5 w.heap.size wr (.slice a1 M c1) m ∧ Hid (Below w.heap.size w wr)) (fun i _ => M - (intOf i).toNat)
  case atStart => exact ⟨0, _, rfl, Nat.zero_le _, ⟨by simp, fun x hx => by rw [List.eq_of_mem_replicate hx]; decide, by rw [List.take_zero]; exact valB_zeros _ _⟩, HO4.out, HOm.out, HB4.out⟩
  case round =>
   obtain ⟨k, X, rfl, hk, hX, hoX, hom, hbel⟩ := hrel
   by_cases hlt : k < M
   ·obtain ⟨g, rfl, hgG⟩ := HG.out (by omega)
    obtain ⟨x1, x2, x3⟩ := hX.out
    have ck := hom.cellAt HM.out.symm k hlt
    have cX := hoX.cellAt x1.symm (k / 4) (by omega)
    have fX := hoX.frozenAt x1.symm (k / 4)
    have hst := zH (read_step X m k x2 HmB.out (by have := HM.out; omega) (by rw [HM.out]; exact x1) x3)
    replace x1 := zH x1
    replace x2 := zH x2
    clear x3
    have HoX := zH hoX
    have Hom := zH hom
    clear hoX hom
    generalize hd : X[k / 4]?.getD 0 = d at *
    have HD := zH hd
    clear hd
    generalize hc' : m[k]?.getD 0 = c at *
    have HCC := zH hc'
    clear hc'
    obtain ⟨q, hq | hq | hq | hq⟩ : ∃ q, k = 4 * q ∨ k = 4 * q + 1 ∨ k = 4 * q + 2 ∨ k = 4 * q + 3 := ⟨k / 4, by omega⟩
    ·have e1 : (k : Int) / 4 = (q : Int) := by omega
     have e2 : (k : Int) % 4 = 0 := by omega
     have e3 : (k : Int).tmod 4 = 0 := by rw [Int.tmod_eq_emod_of_nonneg (by omega)]; omega
     have HQ := zH hq
     have e4 := zH (show k / 4 = q by omega)
     have e5 := zH (show k % 4 = 0 by omega)
     clear hq
     rw [e4.out] at cX fX
     have hc8 := zH (show c < 256 by have := lim8_get HmB.out k; rwa [HCC.out] at this)
     obtain ⟨s1, s2, s3⟩ := hst.out
     rw [e4.out, e5.out] at s2
     rw [e5.out] at s1 s3
     have S1 := zH s1
     have S2 := zH s2
     have S3 := zH s3
     clear s1 s2 s3 hst
     go_wp2
     go_region
     all_goals
      go_wp2
      go_roundw
      case rel =>
       have hor := or_step d c 1 _ 0 (by decide) (by decide) (by have := S1.out; omega) hc8.out (show ((c : Int) % 4294967296) = _ by have := hc8.out; omega)
       rw [hor]
       have s1 := HoX.out.stored x1.out.symm q (d + 1 * c) _ rfl
       exact ⟨k + 1, X.set q (d + 1 * c), by go_num, by omega, ⟨by rw [List.length_set]; exact x1.out, mem_set x2.out (by have := S3.out; omega), S2.out⟩, s1.1.drew, OwnQ.drew (ownsRow_setCell_other Hom.out (by intro e; simp [Value.ownBlock] at e; omega) _), fun_below hbel.out s1.2⟩
      case measure => simp [intOf] <;> omega
    ·have e1 : (k : Int) / 4 = (q : Int) := by omega
     have e2 : (k : Int) % 4 = 1 := by omega
     have e3 : (k : Int).tmod 4 = 1 := by rw [Int.tmod_eq_emod_of_nonneg (by omega)]; omega
     have HQ := zH hq
     have e4 := zH (show k / 4 = q by omega)
     have e5 := zH (show k % 4 = 1 by omega)
     clear hq
     rw [e4.out] at cX fX
     have hc8 := zH (show c < 256 by have := lim8_get HmB.out k; rwa [HCC.out] at this)
     obtain ⟨s1, s2, s3⟩ := hst.out
     rw [e4.out, e5.out] at s2
     rw [e5.out] at s1 s3
     have S1 := zH s1
     have S2 := zH s2
     have S3 := zH s3
     clear s1 s2 s3 hst
     go_wp2
     go_region
     all_goals
      go_wp2
      go_roundw
      case rel =>
       have hor := or_step d c 256 _ 8 (by decide) (by decide) (by have := S1.out; omega) hc8.out (show ((c : Int) % 4294967296 * 256 % 4294967296) = _ by have := hc8.out; omega)
       rw [hor]
       have s1 := HoX.out.stored x1.out.symm q (d + 256 * c) _ rfl
       exact ⟨k + 1, X.set q (d + 256 * c), by go_num, by omega, ⟨by rw [List.length_set]; exact x1.out, mem_set x2.out (by have := S3.out; omega), S2.out⟩, s1.1.drew, OwnQ.drew (ownsRow_setCell_other Hom.out (by intro e; simp [Value.ownBlock] at e; omega) _), fun_below hbel.out s1.2⟩
      case measure => simp [intOf] <;> omega
    ·have e1 : (k : Int) / 4 = (q : Int) := by omega
     have e2 : (k : Int) % 4 = 2 := by omega
     have e3 : (k : Int).tmod 4 = 2 := by rw [Int.tmod_eq_emod_of_nonneg (by omega)]; omega
     have HQ := zH hq
     have e4 := zH (show k / 4 = q by omega)
     have e5 := zH (show k % 4 = 2 by omega)
     clear hq
     rw [e4.out] at cX fX
     have hc8 := zH (show c < 256 by have := lim8_get HmB.out k; rwa [HCC.out] at this)
     obtain ⟨s1, s2, s3⟩ := hst.out
     rw [e4.out, e5.out] at s2
     rw [e5.out] at s1 s3
     have S1 := zH s1
     have S2 := zH s2
     have S3 := zH s3
     clear s1 s2 s3 hst
     go_wp2
     go_region
     all_goals
      go_wp2
      go_roundw
      case rel =>
       have hor := or_step d c 65536 _ 16 (by decide) (by decide) (by have := S1.out; omega) hc8.out (show ((c : Int) % 4294967296 * 65536 % 4294967296) = _ by have := hc8.out; omega)
       rw [hor]
       have s1 := HoX.out.stored x1.out.symm q (d + 65536 * c) _ rfl
       exact ⟨k + 1, X.set q (d + 65536 * c), by go_num, by omega, ⟨by rw [List.length_set]; exact x1.out, mem_set x2.out (by have := S3.out; omega), S2.out⟩, s1.1.drew, OwnQ.drew (ownsRow_setCell_other Hom.out (by intro e; simp [Value.ownBlock] at e; omega) _), fun_below hbel.out s1.2⟩
      case measure => simp [intOf] <;> omega
    ·have e1 : (k : Int) / 4 = (q : Int) := by omega
     have e2 : (k : Int) % 4 = 3 := by omega
     have e3 : (k : Int).tmod 4 = 3 := by rw [Int.tmod_eq_emod_of_nonneg (by omega)]; omega
     have HQ := zH hq
     have e4 := zH (show k / 4 = q by omega)
     have e5 := zH (show k % 4 = 3 by omega)
     clear hq
     rw [e4.out] at cX fX
     have hc8 := zH (show c < 256 by have := lim8_get HmB.out k; rwa [HCC.out] at this)
     obtain ⟨s1, s2, s3⟩ := hst.out
     rw [e4.out, e5.out] at s2
     rw [e5.out] at s1 s3
     have S1 := zH s1
     have S2 := zH s2
     have S3 := zH s3
     clear s1 s2 s3 hst
     go_wp2
     go_region
     all_goals
      go_wp2
      go_roundw
      case rel =>
       have hor := or_step d c 16777216 _ 24 (by decide) (by decide) (by have := S1.out; omega) hc8.out (show ((c : Int) % 4294967296 * 16777216 % 4294967296) = _ by have := hc8.out; omega)
       rw [hor]
       have s1 := HoX.out.stored x1.out.symm q (d + 16777216 * c) _ rfl
       exact ⟨k + 1, X.set q (d + 16777216 * c), by go_num, by omega, ⟨by rw [List.length_set]; exact x1.out, mem_set x2.out (by have := S3.out; omega), S2.out⟩, s1.1.drew, OwnQ.drew (ownsRow_setCell_other Hom.out (by intro e; simp [Value.ownBlock] at e; omega) _), fun_below hbel.out s1.2⟩
      case measure => simp [intOf] <;> omega
   ·obtain rfl : k = M := by omega
    have hfin := zH (show X = nat32 (valB 256 l.reverse) from read_end X m _ hX.out.2.1 HE.out (by rw [HM.out]; exact hX.out.1) (by rw [hX.out.2.2, List.take_of_length_le (by rw [HM.out]; exact Nat.le_refl _), HV.out]))
    go_wp2
    go_ret2
    refine ⟨⟨_, by rw [hr.out]; rfl, ?_⟩, hbel.out⟩
    rw [hr.out, ← hfin.out]
    exact hoX
 ·have hr := zH (show cutR32 (valB 256 l.reverse) = ([], 20) from cutR_large (fun h => hc (hci.2 h)))
  have hdec : decide ((1024 : Int) < (m.length : Int)) = true := by simp; omega
  clear hci
  go_wp2
  go_ret2
  refine ⟨⟨_, by rw [hr.out]; rfl, ?_⟩, HB2.out⟩
  rw [hr.out]; exact OwnQ.nil _ _ _ _
theorem OwnQ.four (q : IntKind) (w : World) (E : TypeId) (B : Nat) (hB : B ≤ w.heap.size) (x0 x1 x2 x3 : Int) (c0 c1 c2 c3 : Nat) (h0 : x0 = c0) (h1 : x1 = c1) (h2 : x2 = c2) (h3 : x3 = c3) : OwnQ q E B (w.alloc (.cells #[.int q x0, .int q x1, .int q x2, .int q x3] E)) (.slice (some ⟨w.heap.size, 0, .none⟩) 4 4) [c0, c1, c2, c3] := by
 subst h0 h1 h2 h3
 exact World.ownsRow_lit w #[.int q c0, .int q c1, .int q c2, .int q c3] 4 hB (by unfold maxLen; omega) rfl
def four (d : Nat) : List Nat := [d % 256, d / 256 % 256, d / 65536 % 256, d / 16777216 % 256]
def fours (l : List Nat) : List Nat := l.flatMap four
theorem fours_snoc (l : List Nat) (k : Nat) (hk : k < l.length) : fours (l.take (k + 1)) = fours (l.take k) ++ four (l[k]?.getD 0) := by
 rw [take_snocN l k hk, fours, List.flatMap_append, List.flatMap_singleton]; rfl
theorem fours_val {l : List Nat} (h : Lim l) : valB 256 (fours l) = val32 l := by
 induction l with
 | nil => rfl
 | cons d t ih =>
  have h1 := ih (fun x hx => h x (List.mem_cons_of_mem _ hx))
  have h2 := h d List.mem_cons_self
  rw [fours, List.flatMap_cons, valB_append, show List.flatMap four t = fours t from rfl, h1]
  simp only [four, valB, List.length_cons, List.length_nil, val32]
  omega
theorem fours_byt (l : List Nat) : Byt (fours l) := by
 intro x hx
 obtain ⟨d, _, hd⟩ := List.mem_flatMap.1 hx
 simp only [four, List.mem_cons, List.not_mem_nil, or_false] at hd
 omega
theorem fours_len (l : List Nat) : (fours l).length = 4 * l.length := by
 induction l with
 | nil => rfl
 | cons d t ih => rw [fours, List.flatMap_cons, List.length_append, show List.flatMap four t = fours t from rfl, ih]; simp [four]; omega
set_option maxHeartbeats 1000000 in
theorem bytes_any (a : Option Addr) (len cap : Nat) (l : List Nat) (w : World) (h : Reads .u32 w a len cap l) (hL : Lim l) (hm : len ≤ 4398046511104) :
  Calls Tryz.prog 30 #[.slice a len cap] w fun e w' => RetsQ .u8 5 w.heap.size w' (natB 256 (val32 l)).reverse e ∧ Below w.heap.size w w' := by
 obtain ⟨i0, hi, hz0, hz1, hz2⟩ := info_parts Tryz.info8
 have HC := zH (bare32_any a len cap l w h)
 have hb := h.bare
 have hbl := bareN_le l
 rw [h.length] at hbl
 have HV := zH (bareN_val 4294967296 l)
 have hLm : Lim (bareN l) := fun x hx => hL x (bareN_mem hx)
 clear h
 generalize bareN l = m at *
 generalize hM : m.length = M at *
 have HM := zH hM
 have HR := zH hb
 have HL := zH hLm
 have HF := zH (fours_val hLm)
 clear hb hLm hM hL
 go_enter Tryz.func30, Tryz.ntmps30
 go_wp2_with fail
 refine HC.out.mono ?_
 rintro e w1 ⟨rfl, rfl⟩
 go_wp2_with (at_make; refine wpList_make_own _ rfl _ _ 22 rfl w.heap.size 5 i0 (.int .u8 0) 1 Tryz.underlying22 hi hz0 hz1 _ _ _ (4 * M) rfl rfl (by omega) (by rw [hz2]; omega) (by unfold maxLen; omega) (Nat.le_refl _) ?_; intro w1 hown0 hgrow0)
 have hb0 : Below w.heap.size w w1 := (Below.refl _ _).grown hgrow0 (Nat.le_refl _) (fun _ h => by cases h)
 have HO : Hid (OwnQ .u8 5 w.heap.size w1 _ []) := zH hown0
 have HB := zH hb0
 clear hgrow0 hown0 hb0
 go_loopw [3, 14] (fun v i wr => ∃ k : Nat, k ≤ M ∧ i = .int .i64 k ∧ OwnQ .u8 5 w.heap.size wr v (fours (m.take k)) ∧ Below w.heap.size w wr) (fun _ i _ => M - (intOf i).toNat)
 case atStart => exact ⟨0, Nat.zero_le _, rfl, HO.out, HB.out⟩
 case round =>
  obtain ⟨k, hk, rfl, hown, hb⟩ := hrel
  have hsz := hb.size
  by_cases hlt : k < M
  ·obtain ⟨b, off, rfl, hbl, hc⟩ := (HR.out.below hb).cells (by omega)
   have hck := hc k hlt
   have hst := zH (fours_snoc m k (by rw [HM.out]; exact hlt))
   have hlen := fours_len (m.take k)
   rw [List.length_take, HM.out, Nat.min_eq_left (by omega)] at hlen
   have HLN := zH hlen
   have hd := lim_get HL.out k
   clear hc hlen
   generalize m[k]?.getD 0 = d at *
   have HO4 := zH (OwnQ.four .u8 wr 5 w.heap.size hsz ((d : Int) % 256) ((d : Int) / 256 % 256) ((d : Int) / 65536 % 256) ((d : Int) / 16777216) _ _ _ _ (show _ = ((d % 256 : Nat) : Int) by omega) (show _ = ((d / 256 % 256 : Nat) : Int) by omega) (show _ = ((d / 65536 % 256 : Nat) : Int) by omega) (show _ = ((d / 16777216 % 256 : Nat) : Int) by omega))
   have HO1 := zH hown
   clear hown
   go_wp2_with (at_builtin; refine wpList_append_q .u8 _ rfl _ _ 22 rfl w.heap.size 5 1 i0 Tryz.underlying22 hi hz0 hz1 hz2 (by decide) _ (fours (m.take k)) rfl (HO1.out.alloc _) _ _ _ (four d) rfl HO4.out.reads (by have := HLN.out; omega) (by simp; omega) ?_; intro v' w2 hown2 hgrow)
   go_roundw
   case rel => exact ⟨k + 1, by omega, by go_num, by rw [hst.out]; exact hown2, hgrow _ (hb.alloc hsz _)⟩
   case measure => simp [intOf] <;> omega
  ·obtain rfl : k = M := by omega
   rw [List.take_of_length_le (by rw [HM.out]; exact Nat.le_refl _)] at hown
   obtain ⟨a1, n1, c1, rfl, hn1, ho1⟩ := hown.slice
   have HN1 := zH hn1
   have hbf := bareN_le (fours m)
   have HP := zH (bareN_prefix (fours m))
   have HE := zH (bareN_eq (b := 256) (by decide) (fours_byt m))
   clear hown hn1
   have HB8 := zH (bare8_any _ _ _ _ wr ho1.reads)
   have ho2 := zH (ho1.upto (bareN (fours m)).length (by rw [HN1.out]; exact hbf))
   rw [← HP.out] at ho2
   clear ho1 hbf
   go_wp2_with fail
   refine HB8.out.mono ?_
   rintro e w3 ⟨rfl, rfl⟩
   go_wp2_with fail
   refine (rev8_any _ _ _ _ _ _ ho2.out).mono ?_
   rintro e w3 ⟨rfl, ho3, hg3⟩
   have hb3 := hg3 _ hb
   go_wp2
   go_ret
   refine ⟨⟨_, rfl, ?_⟩, hb3⟩
   have e : bareN (fours m) = natB 256 (val32 l) := by rw [HE.out, HF.out]; exact congrArg _ HV.out
   rw [e] at ho3 ⊢
   exact ho3
end Go.Proofs.YtpefjkndfifceaaGreatDoor
namespace Go.Proofs.YtpefjkndfifceaaGreatDoor
open Go.RowKit Go.Shelf
attribute [local go_sem] Oper.semAt_some
theorem Reads.belowN {q : IntKind} {n₀ : Nat} {w w' : World} {a : Option Addr} {len cap : Nat} {l : List Nat} (h : Reads q w a len cap l) (hlt : 0 < len → ∀ ad, a = some ad → ad.block < n₀) (hb : Below n₀ w w') : Reads q w' a len cap l :=
 ⟨h.length, h.le, h.max, h.nil, fun hp => by
  obtain ⟨b, off, rfl, hbl, hc⟩ := h.cells hp
  have hl := hlt hp _ rfl
  exact ⟨b, off, rfl, Nat.lt_of_lt_of_le hbl hb.size, fun i hi => (hb.cell (p := ⟨b, off + i, .none⟩) hl).trans (hc i hi)⟩⟩
theorem Reads.block {q : IntKind} {w : World} {a : Option Addr} {len cap : Nat} {l : List Nat} (h : Reads q w a len cap l) : 0 < len → ∀ ad, a = some ad → ad.block < w.heap.size := fun hp ad e => by
 obtain ⟨b, off, rfl, hbl, _⟩ := h.cells hp
 cases e
 exact hbl
def KpUp (n₀ bx bY : Nat) (W W' : World) : Prop := Below n₀ W W' ∧ (∀ t v, Boxed W bx t v → Boxed W' bx t v) ∧ (∀ t v, Boxed W bY t v → Boxed W' bY t v)
theorem kpUp_t {n₀ bx bY : Nat} {A B C : World} (h : KpUp n₀ bx bY A B) (k : KpUp n₀ bx bY B C) : KpUp n₀ bx bY A C := ⟨h.1.trans k.1, fun t v x => k.2.1 t v (h.2.1 t v x), fun t v x => k.2.2 t v (h.2.2 t v x)⟩
theorem boxed_putObj {W : World} {B : Nat} {t : TypeId} {v : Value} (h : Boxed W B t v) (l : Nat) (o o' : Obj) (hl : W.heap[l]? = some o) (ho : o.isCells = false) : Boxed (W.putObj l o') B t v := by
 refine h.kept (grownBy_putObj' W l o') fun e => ?_
 cases e
 rw [show W.heap[B]? = _ from h] at hl
 cases hl
 cases ho
theorem kpUp_b {n₀ bx bY : Nat} {w : World} (hn : n₀ ≤ w.heap.size) (W : World) (l : Nat) (o o' : Obj) (hl : w.heap.size ≤ l) (h : W.heap[l]? = some o) (hc : o.isCells = false) (hw : o.isWalk = false) : KpUp n₀ bx bY W (W.putObj l o') :=
 ⟨belowK_b hn W l o o' hl h hc hw, fun _ _ x => boxed_putObj x l o o' h hc, fun _ _ x => boxed_putObj x l o o' h hc⟩
theorem grownBy_drew' (w : World) : w.grownBy w.drew none := ⟨rfl, rfl, rfl, Nat.le_refl _, fun _ _ _ => rfl⟩
abbrev Two := { p : Nat × Nat // p.1 < 4294967296 ∧ p.2 < 4294967296 }
abbrev encT (x : Two) : Array Value := #[.int .u32 (x.1.1 : Int), .int .u32 (x.1.2 : Int)]
def twoAt (lx ly : List Nat) (hx : Lim lx) (hy : Lim ly) (k : Nat) : Two := ⟨(lx[k]?.getD 0, ly[k]?.getD 0), lim_get hx k, lim_get hy k⟩
def upTo (lx ly : List Nat) (hx : Lim lx) (hy : Lim ly) (k : Nat) : List Two := (List.range k).map (twoAt lx ly hx hy)
theorem upTo_succ (lx ly : List Nat) (hx : Lim lx) (hy : Lim ly) (k : Nat) : upTo lx ly hx hy (k + 1) = upTo lx ly hx hy k ++ [twoAt lx ly hx hy k] := by
 rw [upTo, List.range_succ, List.map_append]; rfl
set_option maxRecDepth 100000 in
set_option maxHeartbeats 2000000 in
theorem up_stops (n : Nat) (hn : 2 ≤ n) (n₀ bx bY : Nat) (a a' : Option Addr) (nx cx ny cy : Nat) (lx ly : List Nat) (hLx : Lim lx) (hLy : Lim ly) (w : World)
  (hbx : Boxed w bx 44 (.slice a nx cx)) (hby : Boxed w bY 44 (.slice a' ny cy)) (hx : Reads .u32 w a nx cx lx) (hy : Reads .u32 w a' ny cy ly)
  (hax : 0 < nx → ∀ ad, a = some ad → ad.block < n₀) (hay : 0 < ny → ∀ ad, a' = some ad → ad.block < n₀) (hn₀ : n₀ ≤ w.heap.size) (m : Nat) (hm : m = max nx ny) :
  SeqStopsK Fence.wide n Tryz.prog 140 #[.pointer (some ⟨bx, 0, none⟩), .pointer (some ⟨bY, 0, none⟩)] encT (KpUp n₀ bx bY) (fun xs => xs = upTo lx ly hLx hLy m) (fun _ => True) m w := fun lp J Jx W hW hJ hJx hY h0 => by
 have bX : Boxed W bx 44 (.slice a nx cx) := (hW.block bx hbx.lt).trans hbx
 have bY' : Boxed W bY 44 (.slice a' ny cy) := (hW.block bY hby.lt).trans hby
 have hXW := hx.below hW
 have hYW := hy.below hW
 have hmx := hx.len_le
 have hmy := hy.len_le
 unfold maxLen at hmx hmy
 have hsW := Nat.le_trans hn₀ hW.size
 clear hbx hby hx hy hn₀
 have cX := bX.cell
 have cY := bY'.cell
 have HX := zH hXW
 have HY := zH hYW
 have BX := zH bX
 have BY := zH bY'
 have HM := zH hm
 clear hXW hYW bX bY' hm
 refine callsIn_of_wp Tryz.func140 rfl trivial ?_ rfl
 simp only [Tryz.ntmps140, List.size_toArray, List.length_cons, List.length_nil, Nat.reduceAdd, Nat.reduceSub, Array.replicate_succ, Array.replicate_zero, List.push_toArray, List.append_toArray, List.nil_append, List.cons_append]
 have hcase : (m = ny ∧ nx < ny) ∨ (m = nx ∧ ny ≤ nx) := by have := HM.out; omega
 rcases hcase with ⟨rfl, hle⟩ | ⟨rfl, hle⟩
 all_goals
  gi_wp2
  gi_loopw [10] (fun i wr => ∃ k : Nat, i = .int .i64 k ∧ k ≤ m ∧ Hid (J (upTo lx ly hLx hLy k) wr) ∧ Hid (KpUp n₀ bx bY W wr)) (fun i _ => m - (intOf i).toNat)
  case atStart => exact ⟨0, rfl, Nat.zero_le _, h0, ⟨Below.refl _ _, fun _ _ h => h, fun _ _ h => h⟩⟩
  case round =>
   obtain ⟨k, rfl, hk, hJs, hkp⟩ := hrel
   by_cases hlt : k < m
   ·have cX1 := (hkp.out.2.1 _ _ BX.out).cell
    have cY1 := (hkp.out.2.2 _ _ BY.out).cell
    have RX := zH (HX.out.belowN hax hkp.out.1)
    have RY := zH (HY.out.belowN hay hkp.out.1)
    gi_wp2
    have RXd := zH (show Reads .u32 wr.drew a _ cx lx from RX.out.drewN 1)
    have RYd := zH (show Reads .u32 wr.drew a' _ cy ly from RY.out.drewN 1)
    have LX := zH (limb_any a _ cx lx _ RXd.out k k rfl)
    have LY := zH (limb_any a' _ cy ly _ RYd.out k k rfl)
    have hJd : J (upTo lx ly hLx hLy k) wr.drew := hJ _ _ _ none hJs.out (grownBy_drew' wr) (fun r e => by cases e)
    obtain ⟨fn, tmps, assign, body, hy, hR⟩ := hY (upTo lx ly hLx hLy k) (twoAt lx ly hLx hLy k) wr.drew hJd (by simpa [upTo] using hlt)
    simp only [encT, twoAt] at hy
    rw [← upTo_succ] at hR
    have hR2 := hR.mono (R' := fun e W' => ∃ b : Bool, e = .returned (.bool b) ∧ Hid ((b = true ∧ J (upTo lx ly hLx hLy (k + 1)) W' ∧ KpUp n₀ bx bY wr.drew W') ∨ (b = false ∧ Jx (upTo lx ly hLx hLy (k + 1)) W'))) (by
     rintro e W' (⟨rfl, h2, h3⟩ | ⟨rfl, h2⟩)
     ·exact ⟨true, rfl, .inl ⟨rfl, h2, h3⟩⟩
     ·exact ⟨false, rfl, .inr ⟨rfl, h2⟩⟩)
    clear hR hJd
    gi_region_with (first | (refine ⟨trivial, fun _ => by omega, ?_⟩; first | ((with_reducible refine (callsIn_wide.2 LX.out).mono ?_); rintro e w' ⟨rfl, rfl⟩) | ((with_reducible refine (callsIn_wide.2 LY.out).mono ?_); rintro e w' ⟨rfl, rfl⟩)) | (refine ⟨fun _ => by omega, ?_⟩; (with_reducible refine hR2.mono ?_); rintro e W3 ⟨b, rfl, hb3⟩))
    all_goals
     cases b
     ·gi_wp2
      refine bodyPost_ret (results_none rfl _ _ _) rfl ?_
      refine ⟨⟨_, rfl⟩, .inr ⟨upTo lx ly hLx hLy (k + 1), ?_⟩⟩
      rcases hb3.out with ⟨h, _⟩ | ⟨_, h⟩
      ·cases h
      ·exact h
     ·gi_wp2
      go_roundw
      case rel =>
       rcases hb3.out with ⟨_, h, h'⟩ | ⟨h, _⟩
       ·exact ⟨k + 1, by go_num, by omega, h, kpUp_t hkp.out (kpUp_t ⟨(Below.refl _ _).drew, fun _ _ x => x, fun _ _ x => x⟩ h')⟩
       ·cases h
      case measure => simp [intOf] <;> omega
   ·obtain rfl : k = m := by omega
    gi_wp2
    go_end0
    exact ⟨⟨_, rfl⟩, .inl ⟨_, rfl, hJs.out⟩⟩
end Go.Proofs.YtpefjkndfifceaaGreatDoor
namespace Go.Proofs.YtpefjkndfifceaaGreatDoor
open Go.RowKit Go.Shelf
attribute [local go_sem] Oper.semAt_some
def downTo (lx ly : List Nat) (hx : Lim lx) (hy : Lim ly) (m k : Nat) : List Two := (List.range k).map fun j => twoAt lx ly hx hy (m - 1 - j)
theorem downTo_succ (lx ly : List Nat) (hx : Lim lx) (hy : Lim ly) (m k j : Nat) (h : j = m - 1 - k) : downTo lx ly hx hy m (k + 1) = downTo lx ly hx hy m k ++ [twoAt lx ly hx hy j] := by
 subst h
 rw [downTo, List.range_succ, List.map_append]; rfl
theorem down_start (m : Nat) : (∃ j : Nat, Value.int IntKind.i64 ((m : Int) - 1) = .int .i64 j ∧ j + 0 + 1 = m) ∨ (Value.int IntKind.i64 ((m : Int) - 1) = .int .i64 (-1) ∧ 0 = m) := by
 rcases Nat.eq_zero_or_pos m with h | h
 ·exact .inr ⟨by rw [h]; rfl, h.symm⟩
 ·exact .inl ⟨m - 1, by congr 1; omega, by omega⟩
theorem down_next {j k m : Nat} (h : j + k + 1 = m) : (∃ i : Nat, Value.int IntKind.i64 ((j : Int) - 1) = .int .i64 i ∧ i + (k + 1) + 1 = m) ∨ (Value.int IntKind.i64 ((j : Int) - 1) = .int .i64 (-1) ∧ k + 1 = m) := by
 rcases Nat.eq_zero_or_pos j with e | e
 ·exact .inr ⟨by rw [e]; rfl, by omega⟩
 ·exact .inl ⟨j - 1, by congr 1; omega, by omega⟩
set_option maxRecDepth 100000 in
set_option maxHeartbeats 2000000 in
theorem down_stops (n : Nat) (hn : 2 ≤ n) (n₀ bx bY : Nat) (a a' : Option Addr) (nx cx ny cy : Nat) (lx ly : List Nat) (hLx : Lim lx) (hLy : Lim ly) (w : World)
  (hbx : Boxed w bx 44 (.slice a nx cx)) (hby : Boxed w bY 44 (.slice a' ny cy)) (hx : Reads .u32 w a nx cx lx) (hy : Reads .u32 w a' ny cy ly)
  (hax : 0 < nx → ∀ ad, a = some ad → ad.block < n₀) (hay : 0 < ny → ∀ ad, a' = some ad → ad.block < n₀) (hn₀ : n₀ ≤ w.heap.size) (m : Nat) (hm : m = max nx ny) :
  SeqStopsK Fence.wide n Tryz.prog 173 #[.pointer (some ⟨bx, 0, none⟩), .pointer (some ⟨bY, 0, none⟩)] encT (KpUp n₀ bx bY) (fun xs => xs = downTo lx ly hLx hLy m m) (fun pre => ∃ k, k < m ∧ pre = downTo lx ly hLx hLy m (k + 1)) m w := fun lp J Jx W hW hJ hJx hY h0 => by
 have bX : Boxed W bx 44 (.slice a nx cx) := (hW.block bx hbx.lt).trans hbx
 have bY' : Boxed W bY 44 (.slice a' ny cy) := (hW.block bY hby.lt).trans hby
 have hXW := hx.below hW
 have hYW := hy.below hW
 have hmx := hx.len_le
 have hmy := hy.len_le
 unfold maxLen at hmx hmy
 have hsW := Nat.le_trans hn₀ hW.size
 clear hbx hby hx hy hn₀
 have cX := bX.cell
 have cY := bY'.cell
 have HX := zH hXW
 have HY := zH hYW
 have BX := zH bX
 have BY := zH bY'
 have HM := zH hm
 clear hXW hYW bX bY' hm
 refine callsIn_of_wp Tryz.func173 rfl trivial ?_ rfl
 simp only [Tryz.ntmps173, List.size_toArray, List.length_cons, List.length_nil, Nat.reduceAdd, Nat.reduceSub, Array.replicate_succ, Array.replicate_zero, List.push_toArray, List.append_toArray, List.nil_append, List.cons_append]
 have hcase : (m = ny ∧ nx < ny) ∨ (m = nx ∧ ny ≤ nx) := by have := HM.out; omega
 rcases hcase with ⟨rfl, hle⟩ | ⟨rfl, hle⟩
 all_goals
  gi_wp2
  gi_loopw [4] (fun i wr => ∃ k : Nat, ((∃ j : Nat, i = .int .i64 j ∧ j + k + 1 = m) ∨ (i = .int .i64 (-1) ∧ k = m)) ∧ Hid (J (downTo lx ly hLx hLy m k) wr) ∧ Hid (KpUp n₀ bx bY W wr)) (fun i _ => (intOf i + 1).toNat)
  case atStart => exact ⟨0, down_start m, h0, ⟨Below.refl _ _, fun _ _ h => h, fun _ _ h => h⟩⟩
  case round =>
   obtain ⟨k, hi, hJs, hkp⟩ := hrel
   rcases hi with ⟨j, rfl, hjk⟩ | ⟨rfl, hkm⟩
   ·have cX1 := (hkp.out.2.1 _ _ BX.out).cell
    have cY1 := (hkp.out.2.2 _ _ BY.out).cell
    have RX := zH (HX.out.belowN hax hkp.out.1)
    have RY := zH (HY.out.belowN hay hkp.out.1)
    gi_wp2
    have RXd := zH (show Reads .u32 wr.drew a _ cx lx from RX.out.drewN 1)
    have RYd := zH (show Reads .u32 wr.drew a' _ cy ly from RY.out.drewN 1)
    have LX := zH (limb_any a _ cx lx _ RXd.out j j rfl)
    have LY := zH (limb_any a' _ cy ly _ RYd.out j j rfl)
    have hJd : J (downTo lx ly hLx hLy m k) wr.drew := hJ _ _ _ none hJs.out (grownBy_drew' wr) (fun r e => by cases e)
    obtain ⟨fn, tmps, assign, body, hy, hR⟩ := hY (downTo lx ly hLx hLy m k) (twoAt lx ly hLx hLy j) wr.drew hJd (by simp [downTo]; omega)
    simp only [encT, twoAt] at hy
    rw [← downTo_succ lx ly hLx hLy m k j (by omega)] at hR
    have HJK := zH hjk
    have hjm : j < m := by omega
    clear hjk
    have hR2 := hR.mono (R' := fun e W' => ∃ b : Bool, e = .returned (.bool b) ∧ Hid ((b = true ∧ J (downTo lx ly hLx hLy m (k + 1)) W' ∧ KpUp n₀ bx bY wr.drew W') ∨ (b = false ∧ Jx (downTo lx ly hLx hLy m (k + 1)) W'))) (by
     rintro e W' (⟨rfl, h2, h3⟩ | ⟨rfl, h2⟩)
     ·exact ⟨true, rfl, .inl ⟨rfl, h2, h3⟩⟩
     ·exact ⟨false, rfl, .inr ⟨rfl, h2⟩⟩)
    clear hR hJd
    gi_region_with (first | (refine ⟨trivial, fun _ => by omega, ?_⟩; first | ((with_reducible refine (callsIn_wide.2 LX.out).mono ?_); rintro e w' ⟨rfl, rfl⟩) | ((with_reducible refine (callsIn_wide.2 LY.out).mono ?_); rintro e w' ⟨rfl, rfl⟩)) | (refine ⟨fun _ => by omega, ?_⟩; (with_reducible refine hR2.mono ?_); rintro e W3 ⟨b, rfl, hb3⟩))
    all_goals
     cases b
     ·gi_wp2
      refine bodyPost_ret (results_none rfl _ _ _) rfl ?_
      refine ⟨⟨_, rfl⟩, .inr ⟨downTo lx ly hLx hLy m (k + 1), ?_, ?_⟩⟩
      ·exact ⟨k, by have := HJK.out; omega, rfl⟩
      rcases hb3.out with ⟨h, _⟩ | ⟨_, h⟩
      ·cases h
      ·exact h
     ·gi_wp2
      go_roundw
      case rel =>
       rcases hb3.out with ⟨_, h, h'⟩ | ⟨h, _⟩
       ·exact ⟨k + 1, down_next HJK.out, h, kpUp_t hkp.out (kpUp_t ⟨(Below.refl _ _).drew, fun _ _ x => x, fun _ _ x => x⟩ h')⟩
       ·cases h
      case measure => simp [intOf] <;> omega
   ·have HKM := zH hkm
    clear hkm
    gi_wp2
    go_end0
    exact ⟨⟨_, rfl⟩, .inl ⟨_, rfl, HKM.out ▸ hJs.out⟩⟩
end Go.Proofs.YtpefjkndfifceaaGreatDoor
