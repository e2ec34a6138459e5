/-
  PLAIN WORDS FOR THE WALKS OF THIS SEAT: what a slice of bytes reads as, what a call owns, and how both go on through later worlds. Nothing of the program stands here.
-/
import Derived.WalkKit
import Derived.OpenShut
import Derived.WalkSpells
import Derived.ArgAppend
import Derived.Lib.Hide
namespace Go.Proofs.YtkmphiakciihfaaDoor
open Go.RowKit

/-- A byte as a cell. -/
def byt (c : UInt8) : Value := .int .u8 (c.toNat : Int)

/-- The slice (a, len, cap) reads, in w, as the bytes l. -/
structure Bts (w : World) (a : Option Addr) (len cap : Nat) (l : List UInt8) : Prop where
  length : l.length = len
  le : len ≤ cap
  max : cap ≤ maxLen
  nil : a = none → cap = 0
  cells : 0 < len → ∃ b off, a = some ⟨b, off, none⟩ ∧ b < w.heap.size ∧ ∀ i, i < len → w.cell? ⟨b, off + i, none⟩ = some (.int .u8 ((l[i]?.getD 0).toNat : Int))

theorem Bts.len_le {w : World} {a : Option Addr} {len cap : Nat} {l : List UInt8} (h : Bts w a len cap l) : len ≤ maxLen := Nat.le_trans h.le h.max

theorem Bts.below {w w' : World} {a : Option Addr} {len cap : Nat} {l : List UInt8} (h : Bts w a len cap l) (hb : Below w.heap.size w w') : Bts w' a len cap l :=
  ⟨h.length, h.le, h.max, h.nil, fun hp => by
    obtain ⟨b, off, rfl, hlt, hc⟩ := h.cells hp
    exact ⟨b, off, rfl, Nat.lt_of_lt_of_le hlt hb.size, fun i hi => (hb.cell (p := ⟨b, off + i, none⟩) hlt).trans (hc i hi)⟩⟩

/-- What the call owns from block B on: a slice that reads as the bytes l. -/
def Own8 (E : TypeId) (B : Nat) (w : World) (v : Value) (l : List UInt8) : Prop := w.ownsRow B E 1 v l.length (l.map byt)

theorem Own8.form {E : TypeId} {B : Nat} {w : World} {v : Value} {l : List UInt8} (h : Own8 E B w v l) : ∃ a cap, v = .slice a l.length cap ∧ Bts w a l.length cap l ∧ (∀ ad, a = some ad → B ≤ ad.block ∧ ad.block < w.heap.size) := by
  obtain ⟨h1, h2⟩ := h
  rcases h2 with ⟨rfl, h0⟩ | ⟨g, cap, cur, rfl, hb, hg, hn, hc, hs, ht⟩
  · exact ⟨none, 0, by rw [h0], ⟨rfl, by omega, by unfold maxLen; omega, fun _ => rfl, fun hp => by omega⟩, fun _ h => (by cases h)⟩
  · have hlt : g < w.heap.size := (Array.getElem?_eq_some_iff.1 hg).1
    refine ⟨some ⟨g, 0, none⟩, cap, rfl, ⟨rfl, hn, hc, (fun h => by cases h), fun _ => ⟨g, 0, rfl, hlt, fun i hi => ?_⟩⟩, fun ad h => (by cases h; exact ⟨hb, hlt⟩)⟩
    rw [cell_of_row w g (0 + i) cur E (0, 0) hg]
    have : (cur.toList.take (l.length * 1))[i]? = (l.map byt)[i]? := by rw [ht]
    rw [List.getElem?_take, if_pos (by omega)] at this
    simp only [Nat.zero_add]
    simpa [byt, hi] using this

theorem Own8.below {E : TypeId} {B : Nat} {w w' : World} {v : Value} {l : List UInt8} (h : Own8 E B w v l) (hb : Below w.heap.size w w') : Own8 E B w' v l := by
  obtain ⟨h1, h2⟩ := h
  refine ⟨h1, ?_⟩
  rcases h2 with h2 | ⟨g, cap, cur, rfl, hB, hg, rest⟩
  · exact .inl h2
  · exact .inr ⟨g, cap, cur, rfl, hB, by rw [hb.block g (Array.getElem?_eq_some_iff.1 hg).1]; exact hg, rest⟩

theorem Own8.mono {E : TypeId} {B B' : Nat} {w : World} {v : Value} {l : List UInt8} (h : Own8 E B w v l) (hB : B' ≤ B) : Own8 E B' w v l := by
  obtain ⟨h1, h2⟩ := h
  refine ⟨h1, ?_⟩
  rcases h2 with h2 | ⟨g, cap, cur, rfl, hb, rest⟩
  · exact .inl h2
  · exact .inr ⟨g, cap, cur, rfl, Nat.le_trans hB hb, rest⟩

theorem byts_oneCell (l : List UInt8) : ∀ u ∈ l.map byt, u.oneCell' = true := by
  intro u hu
  obtain ⟨_, _, rfl⟩ := List.mem_map.1 hu
  rfl

/-- The cells of a slice that reads as bytes, as the append law asks for them. -/
theorem Bts.news {w : World} {a : Addr} {len cap : Nat} {l : List UInt8} (h : Bts w (some a) len cap l) : ∀ j u, (l.map byt)[j]? = some u → w.cell? (a.add j) = some u := by
  intro j u hu
  have hj : j < l.length := by
    have := (List.getElem?_eq_some_iff.1 hu).1
    simpa using this
  obtain ⟨b, off, ha, _, hc⟩ := h.cells (by have := h.length; omega)
  cases ha
  have e : (⟨b, off, none⟩ : Addr).add j = ⟨b, off + j, none⟩ := by unfold Addr.add; split <;> simp_all
  rw [e, hc j (by have := h.length; omega)]
  simp [byt, hj] at hu ⊢
  exact hu

/-- Bytes as a string. -/
def strOf (l : List UInt8) : ByteArray := ⟨l.toArray⟩

theorem strOf_inj {l m : List UInt8} (h : strOf l = strOf m) : l = m := by
  have := congrArg (fun s => s.data.toList) h
  simpa [strOf] using this

theorem strOfNums_byt (l : List UInt8) : strOfNums (l.map fun c => (c.toNat : Int)) = strOf l := by
  unfold strOfNums strOf
  congr 1
  simp [List.map_map, Function.comp_def]

/-- 'string(b)' -/
theorem Bts.convert {P : Program} {w : World} {a : Option Addr} {len cap : Nat} {l : List UInt8} (h : Bts w a len cap l) (src e dst : TypeId) (hs : P.underlying src = some (.slice e)) (he : P.underlying e = some (.int .u8)) (hd : P.underlying dst = some .string) :
    (convert src dst (.slice a len cap)).run P w = .ok (.string (strOf l)) w := by
  by_cases hp : 0 < len
  · obtain ⟨b, off, rfl, _, hc⟩ := h.cells hp
    have := run_convert_bytes_arg (P := P) w src e hs he b off len cap (l.map fun c => (c.toNat : Int)) (by simpa using h.length) (fun i hi => by
      rw [hc i hi]
      have : i < l.length := by have := h.length; omega
      simp [List.getD, this]) dst hd
    rw [this, strOfNums_byt]
  · obtain rfl : len = 0 := by omega
    obtain rfl : l = [] := List.eq_nil_of_length_eq_zero h.length
    cases a with
    | none => rw [run_convert_bytes_nil (P := P) w src e hs he 0 cap dst hd]; rfl
    | some a =>
      rw [run_convert_bytes_string w src dst e _ 0 cap hs he hd, run_bytesToString w a 0 cap [] (by simp [loadCells, loadCellsFrom])]
      rfl

theorem Bts.drop {w : World} {b off len cap k : Nat} {l : List UInt8} (h : Bts w (some ⟨b, off, none⟩) len cap l) (hk : k < len) : Bts w (some ⟨b, off + k, none⟩) (len - k) (cap - k) (l.drop k) := by
  obtain ⟨b', off', hb, hlt, hc⟩ := h.cells (by omega)
  cases hb
  refine ⟨by rw [List.length_drop, h.length], by have := h.le; omega, by have := h.max; omega, (fun h => by cases h), fun _ => ⟨b, off + k, rfl, hlt, fun i hi => ?_⟩⟩
  rw [show off + k + i = off + (k + i) from by omega, hc (k + i) (by omega), List.getElem?_drop]

theorem Bts.take {w : World} {b off len cap k : Nat} {l : List UInt8} (h : Bts w (some ⟨b, off, none⟩) len cap l) (hk : k ≤ len) : Bts w (some ⟨b, off, none⟩) k cap (l.take k) := by
  refine ⟨by rw [List.length_take, h.length]; omega, by have := h.le; omega, h.max, (fun h => by cases h), fun hp => ?_⟩
  obtain ⟨b', off', hb, hlt, hc⟩ := h.cells (by omega)
  cases hb
  refine ⟨b, off, rfl, hlt, fun i hi => ?_⟩
  rw [hc i (by omega), List.getElem?_take, if_pos hi]

theorem Bts.none (w : World) : Bts w .none 0 0 [] := ⟨rfl, Nat.le_refl _, by unfold maxLen; omega, fun _ => rfl, fun h => by omega⟩

theorem Bts.one (w : World) (E : TypeId) (n : Int) (c : UInt8) (h : n = (c.toNat : Int)) : Bts (w.alloc (.cells #[.int .u8 n] E)) (some ⟨w.heap.size, 0, .none⟩) 1 1 [c] := by
  subst h
  refine ⟨rfl, Nat.le_refl _, by unfold maxLen; omega, (fun h => by cases h), fun _ => ⟨w.heap.size, 0, rfl, by simp, fun i hi => ?_⟩⟩
  obtain rfl : i = 0 := by omega
  rw [World.cell?_alloc_at _ _ _ _ rfl]
  rfl

theorem Own8.empty (w : World) (E : TypeId) (B : Nat) (hB : B ≤ w.heap.size) : Own8 E B (w.alloc (.cells #[] E)) (.slice (some ⟨w.heap.size, 0, .none⟩) 0 0) [] :=
  World.ownsRow_lit w #[] 0 hB (by unfold maxLen; omega) rfl

theorem Own8.one (w : World) (E : TypeId) (B : Nat) (hB : B ≤ w.heap.size) (n : Int) (c : UInt8) (h : n = (c.toNat : Int)) : Own8 E B (w.alloc (.cells #[.int .u8 n] E)) (.slice (some ⟨w.heap.size, 0, .none⟩) 1 1) [c] := by
  subst h
  exact World.ownsRow_lit w #[.int .u8 (c.toNat : Int)] 1 hB (by unfold maxLen; omega) rfl

theorem Own8.nil (w : World) (E : TypeId) (B : Nat) : Own8 E B w (.slice .none 0 0) [] := World.ownsRow_nil w B E 1

/-- 'append(s, x...)' where s is the call's own and x reads as bytes: nil, empty or not. -/
theorem wpList_append_bts {P : Program} (w : World) {ops : Array Oper} {rest : List Oper} {o : Oper} {a : Act} {Q : Exit → Act → World → Prop} (hgd : o.guard = .none) (s x : Operand) (t : TypeId)
    (ho : o.op = .call { callee := .builtin .append, args := #[s, x], argTypes := #[t, t] })
    (B E : Nat) (i : TypeInfo) (ht : P.underlying t = some (.slice E)) (hi : P.info? E = some i) (hz : i.zero = some (.int .u8 0)) (hsize : i.size = 1) (hby : i.bytes = 1)
    (v : Value) (l : List UInt8) (hs : a.eval s = v) (hown : Own8 E B w v l) (ao : Option Addr) (m c : Nat) (l2 : List UInt8) (hx : a.eval x = .slice ao m c) (hb : Bts w ao m c l2)
    (hsum : l.length + m ≤ 140737488355328) (hbase : B ≤ w.heap.size)
    (h : ∀ v' w', Own8 E B w' v' (l ++ l2) → (∀ w0, Below B w0 w → Below B w0 w') → wpList P ops Q rest (a.put o.dst v') w') : wpList P ops Q (o :: rest) a w := by
  have hlen := hb.length
  cases ao with
  | some ad =>
    refine wpList_append_own w hgd s x t ho B E i (.int .u8 0) 1 1 ht hi hz hsize hby rfl (by decide) v l.length (l.map byt) hs hown ad m c (l2.map byt) hx (by simpa using hlen) hb.news (byts_oneCell _) (by unfold maxLen; omega) (by omega) hbase ?_
    intro v' w' ho' hg _
    refine h v' w' ?_ (fun w0 h0 => h0.grown hg hbase (fun k hk => (hown.lt k hk).1))
    unfold Own8
    rw [List.map_append, List.length_append, hlen]
    exact ho'
  | none =>
    have hc := hb.nil rfl
    have hle := hb.le
    obtain rfl : m = 0 := by omega
    obtain rfl : l2 = [] := List.eq_nil_of_length_eq_zero hlen
    subst hc
    refine wpList_plain hgd fun K hK' => ?_
    have hrun := run_append_owned_none (P := P) w B t o.type E i 1 ht hi v l.length (l.map byt) hown
    unfold Oper.wp
    simp [execOp, ho, resolve, invoke, builtin, hs, hx, hrun, Result.andThen]
    exact hK' _ _ (by simpa using h v w (by simpa using hown) (fun _ h0 => h0))


theorem Bts.empty (w : World) (a : Option Addr) (c : Nat) (hc : c ≤ maxLen) (hn : a = .none → c = 0) : Bts w a 0 c [] := ⟨rfl, Nat.zero_le _, hc, hn, fun h => by omega⟩

theorem Own8.succ {E : TypeId} {B : Nat} {w : World} {v : Value} {l : List UInt8} (h : Own8 E B w v l) (hl : l ≠ []) : ∃ g cap, v = .slice (some ⟨g, 0, .none⟩) l.length cap := by
  rcases h.2 with ⟨_, h0⟩ | ⟨g, cap, _, rfl, _⟩
  · exact (hl (List.eq_nil_of_length_eq_zero h0)).elim
  · exact ⟨g, cap, rfl⟩

theorem Own8.alloc {E : TypeId} {B : Nat} {w : World} {v : Value} {l : List UInt8} (h : Own8 E B w v l) (o : Obj) : Own8 E B (w.alloc o) v l := World.ownsRow.alloc h o

theorem Own8.cap {E : TypeId} {B : Nat} {w : World} {a : Option Addr} {n cap : Nat} {l : List UInt8} (h : Own8 E B w (.slice a n cap) l) : n = l.length ∧ n ≤ cap ∧ cap ≤ maxLen := by
  obtain ⟨a', c', he, hb, _⟩ := h.form
  cases he
  exact ⟨rfl, hb.le, hb.max⟩

theorem Own8.bts {E : TypeId} {B : Nat} {w : World} {a : Option Addr} {n cap : Nat} {l : List UInt8} (h : Own8 E B w (.slice a n cap) l) : Bts w a n cap l := by
  obtain ⟨a', c', he, hb, _⟩ := h.form
  cases he
  exact hb

/-- A slice of slices of bytes: each cell holds a slice value, and each reads as its bytes. -/
structure Rows2 (w : World) (a : Option Addr) (n cap : Nat) (L : List (Option Addr × Nat × Nat × List UInt8)) : Prop where
  length : L.length = n
  max : n ≤ maxLen
  cells : 0 < n → ∃ b off, a = some ⟨b, off, .none⟩ ∧ b < w.heap.size ∧ ∀ i, i < n → w.cell? ⟨b, off + i, .none⟩ = some (.slice (L[i]?.getD (.none, 0, 0, [])).1 (L[i]?.getD (.none, 0, 0, [])).2.1 (L[i]?.getD (.none, 0, 0, [])).2.2.1)
  each : ∀ x ∈ L, Bts w x.1 x.2.1 x.2.2.1 x.2.2.2

theorem Rows2.at {w : World} {a : Option Addr} {n cap : Nat} {L : List (Option Addr × Nat × Nat × List UInt8)} (h : Rows2 w a n cap L) (i : Nat) (hi : i < n) :
    Bts w (L[i]?.getD (.none, 0, 0, [])).1 (L[i]?.getD (.none, 0, 0, [])).2.1 (L[i]?.getD (.none, 0, 0, [])).2.2.1 (L[i]?.getD (.none, 0, 0, [])).2.2.2 := by
  have hl := h.length
  rw [List.getElem?_eq_getElem (by omega)]
  exact h.each _ (List.getElem_mem _)

theorem Rows2.below {w w' : World} {a : Option Addr} {n cap : Nat} {L : List (Option Addr × Nat × Nat × List UInt8)} (h : Rows2 w a n cap L) (hb : Below w.heap.size w w') : Rows2 w' a n cap L :=
  ⟨h.length, h.max, fun hp => by
    obtain ⟨b, off, ha, hlt, hc⟩ := h.cells hp
    exact ⟨b, off, ha, Nat.lt_of_lt_of_le hlt hb.size, fun i hi => (hb.cell (p := ⟨b, off + i, .none⟩) hlt).trans (hc i hi)⟩, fun x hx => (h.each x hx).below hb⟩

theorem zeros_byt (n : Nat) : (madeCells (Value.int .u8 0).cells (n * 1)).toList = (List.replicate n (0 : UInt8)).map byt := by
  rw [show (Value.int .u8 0).cells = #[Value.int .u8 0] from rfl, toList_madeCells_one]
  simp [byt]

/-- A store of one byte into what the call owns. -/
theorem Own8.stored {E : TypeId} {B : Nat} {w : World} {g n cap : Nat} {l : List UInt8} (h : Own8 E B w (.slice (some ⟨g, 0, .none⟩) n cap) l) (hn : n = l.length) (j : Nat) (c : UInt8) (x : Int) (hx : x = (c.toNat : Int)) :
    Own8 E B (w.setCell ⟨g, j, .none⟩ (.int .u8 x)) (.slice (some ⟨g, 0, .none⟩) n cap) (l.set j c) ∧ (∀ w0, Below B w0 w → Below B w0 (w.setCell ⟨g, j, .none⟩ (.int .u8 x))) := by
  subst hx
  subst hn
  have h1 := World.ownsRow.stored h j (.int .u8 (c.toNat : Int))
  have hB := (World.ownsRow.lt h g rfl).1
  refine ⟨?_, fun w0 h0 => h0.setCell (p := ⟨g, j, .none⟩) hB _⟩
  unfold Own8
  rw [List.map_set, List.length_set]
  exact h1.1

theorem Own8.cellAt {E : TypeId} {B : Nat} {w : World} {g n cap : Nat} {l : List UInt8} (h : Own8 E B w (.slice (some ⟨g, 0, .none⟩) n cap) l) (hn : n = l.length) (j : Nat) (hj : j < n) : w.cell? ⟨g, j, .none⟩ = some (.int .u8 ((l[j]?.getD 0).toNat : Int)) := by
  subst hn
  rw [World.ownsRow.cellAt h j (by omega)]
  simp [byt, hj]

theorem Own8.frozenAt {E : TypeId} {B : Nat} {w : World} {g n cap : Nat} {l : List UInt8} (h : Own8 E B w (.slice (some ⟨g, 0, .none⟩) n cap) l) (hn : n = l.length) (j : Nat) : w.frozen? ⟨g, j, .none⟩ = false := by
  subst hn
  exact World.ownsRow.frozenAt h j

/-- A slice of bytes that came in, as the shells say it. -/
theorem bts_of_row {w : World} {a : Option Addr} {len cap : Nat} {zs : List Int}
    (h : (a = .none ∧ len = 0 ∧ cap = 0 ∧ zs = []) ∨ ∃ x, a = some x ∧ len ≤ cap ∧ cap ≤ maxLen ∧ zs.length = cap ∧ (∀ i, i < zs.length → w.cell? (x.add i) = some (.int .u8 (zs.getD i 0))) ∧ ∀ n ∈ zs, (Lit.int .u8 n).wf = true) :
    ∃ l, Bts w a len cap l := by
  rcases h with ⟨rfl, rfl, rfl, rfl⟩ | ⟨x, rfl, hl, hm, hz, hc, hw⟩
  · exact ⟨[], Bts.none w⟩
  · refine ⟨(zs.take len).map fun n => UInt8.ofNat n.toNat, by simp; omega, hl, hm, (fun h => by cases h), fun hp => ?_⟩
    obtain ⟨b, off, spot⟩ := x
    have h0 := hc 0 (by omega)
    have hs : spot = .none := by simpa [Addr.add] using World.cell?_spot h0
    subst hs
    refine ⟨b, off, rfl, World.block_lt_of_cell? w _ (by simpa [Addr.add] using h0), fun i hi => ?_⟩
    have hci := hc i (by omega)
    have e : (⟨b, off, .none⟩ : Addr).add i = ⟨b, off + i, .none⟩ := by unfold Addr.add; split <;> simp_all
    rw [e] at hci
    rw [hci]
    have hlt : i < zs.length := by omega
    have hb := bounds_u8 (hw zs[i] (List.getElem_mem _))
    have h1 : zs.getD i 0 = zs[i] := by simp [List.getD, hlt]
    rw [h1]
    simp [hi, hlt, UInt8.toNat_ofNat']
    omega

/-- A number of 64 bits that came in. -/
theorem nat_of_u64 {n : Int} (h : (Lit.int .u64 n).wf = true) : ∃ m : Nat, n = (m : Int) ∧ Hid (m < 256 ^ 8) := by
  have hb := bounds_u64 h
  obtain ⟨m, rfl⟩ := Int.eq_ofNat_of_zero_le hb.1
  refine ⟨m, rfl, ?_⟩
  unfold Hid
  omega

end Go.Proofs.YtkmphiakciihfaaDoor
