/-
  PLAIN WORDS: what a slice of numbers of any kind reads as, and what a call owns. Nothing of the program stands here.
-/
import Derived.Test.YtkmphiakciihfaaDoorLib
import Derived.Deep.QuietTactic
import Derived.BigQuiet
namespace Go.Proofs.YtkmphiakciihfaaDoor
open Go.RowKit

/-- A number as a cell. -/
def num (q : IntKind) (n : Nat) : Value := .int q (n : Int)

/-- The slice (a, len, cap) reads, in w, as the numbers l of kind q. -/
structure Reads (q : IntKind) (w : World) (a : Option Addr) (len cap : Nat) (l : List Nat) : Prop where
  length : l.length = len
  le : len ≤ cap
  max : cap ≤ maxLen
  nil : a = none → cap = 0
  cells : 0 < len → ∃ b off, a = some ⟨b, off, none⟩ ∧ b < w.heap.size ∧ ∀ i, i < len → w.cell? ⟨b, off + i, none⟩ = some (.int q ((l[i]?.getD 0 : Nat) : Int))

theorem Reads.len_le {q : IntKind} {w : World} {a : Option Addr} {len cap : Nat} {l : List Nat} (h : Reads q w a len cap l) : len ≤ maxLen := Nat.le_trans h.le h.max

theorem Reads.below {q : IntKind} {w w' : World} {a : Option Addr} {len cap : Nat} {l : List Nat} (h : Reads q w a len cap l) (hb : Below w.heap.size w w') : Reads q w' a len cap l :=
  ⟨h.length, h.le, h.max, h.nil, fun hp => by
    obtain ⟨b, off, rfl, hlt, hc⟩ := h.cells hp
    exact ⟨b, off, rfl, Nat.lt_of_lt_of_le hlt hb.size, fun i hi => (hb.cell (p := ⟨b, off + i, none⟩) hlt).trans (hc i hi)⟩⟩

theorem Reads.drewN {q : IntKind} {w : World} {a : Option Addr} {len cap : Nat} {l : List Nat} (h : Reads q w a len cap l) (n : Nat) : Reads q (w.drewN n) a len cap l := ⟨h.length, h.le, h.max, h.nil, h.cells⟩

/-- What the call owns from block B on: a slice that reads as the numbers l. -/
def OwnQ (q : IntKind) (E : TypeId) (B : Nat) (w : World) (v : Value) (l : List Nat) : Prop := w.ownsRow B E 1 v l.length (l.map (num q))

theorem OwnQ.form {q : IntKind} {E : TypeId} {B : Nat} {w : World} {v : Value} {l : List Nat} (h : OwnQ q E B w v l) : ∃ a cap, v = .slice a l.length cap ∧ Reads q w a l.length cap l ∧ (∀ ad, a = some ad → B ≤ ad.block ∧ ad.block < w.heap.size) := by
  obtain ⟨h1, h2⟩ := h
  rcases h2 with ⟨rfl, h0⟩ | ⟨g, cap, cur, rfl, hb, hg, hn, hc, hs, ht⟩
  · exact ⟨none, 0, by rw [h0], ⟨rfl, by omega, by unfold maxLen; omega, fun _ => rfl, fun hp => by omega⟩, fun _ h => (by cases h)⟩
  · have hlt : g < w.heap.size := (Array.getElem?_eq_some_iff.1 hg).1
    refine ⟨some ⟨g, 0, none⟩, cap, rfl, ⟨rfl, hn, hc, (fun h => by cases h), fun _ => ⟨g, 0, rfl, hlt, fun i hi => ?_⟩⟩, fun ad h => (by cases h; exact ⟨hb, hlt⟩)⟩
    rw [cell_of_row w g (0 + i) cur E (0, 0) hg]
    have : (cur.toList.take (l.length * 1))[i]? = (l.map (num q))[i]? := by rw [ht]
    rw [List.getElem?_take, if_pos (by omega)] at this
    simp only [Nat.zero_add]
    simpa [num, hi] using this

theorem OwnQ.below {q : IntKind} {E : TypeId} {B : Nat} {w w' : World} {v : Value} {l : List Nat} (h : OwnQ q E B w v l) (hb : Below w.heap.size w w') : OwnQ q E B w' v l := by
  obtain ⟨h1, h2⟩ := h
  refine ⟨h1, ?_⟩
  rcases h2 with h2 | ⟨g, cap, cur, rfl, hB, hg, rest⟩
  · exact .inl h2
  · exact .inr ⟨g, cap, cur, rfl, hB, by rw [hb.block g (Array.getElem?_eq_some_iff.1 hg).1]; exact hg, rest⟩

theorem OwnQ.mono {q : IntKind} {E : TypeId} {B B' : Nat} {w : World} {v : Value} {l : List Nat} (h : OwnQ q E B w v l) (hB : B' ≤ B) : OwnQ q E B' w v l := by
  obtain ⟨h1, h2⟩ := h
  refine ⟨h1, ?_⟩
  rcases h2 with h2 | ⟨g, cap, cur, rfl, hb, rest⟩
  · exact .inl h2
  · exact .inr ⟨g, cap, cur, rfl, Nat.le_trans hB hb, rest⟩

theorem nums_oneCell (q : IntKind) (l : List Nat) : ∀ u ∈ l.map (num q), u.oneCell' = true := by
  intro u hu
  obtain ⟨_, _, rfl⟩ := List.mem_map.1 hu
  rfl

theorem Reads.news {q : IntKind} {w : World} {a : Addr} {len cap : Nat} {l : List Nat} (h : Reads q w (some a) len cap l) : ∀ j u, (l.map (num q))[j]? = some u → w.cell? (a.add j) = some u := by
  intro j u hu
  have hj : j < l.length := by
    have := (List.getElem?_eq_some_iff.1 hu).1
    simpa using this
  obtain ⟨b, off, ha, _, hc⟩ := h.cells (by have := h.length; omega)
  cases ha
  have e : (⟨b, off, none⟩ : Addr).add j = ⟨b, off + j, none⟩ := by unfold Addr.add; split <;> simp_all
  rw [e, hc j (by have := h.length; omega)]
  simp [num, hj] at hu ⊢
  exact hu

theorem Reads.sub {q : IntKind} {w : World} {a : Option Addr} {len cap : Nat} {l : List Nat} (h : Reads q w a len cap l) (k m : Nat) (hkm : k ≤ m) (hm : m ≤ len) : Reads q w (if cap = k then a else a.map (·.add k)) (m - k) (cap - k) ((l.take m).drop k) := by
  have hle := h.le
  have hmx := h.max
  have hln := h.length
  refine ⟨by rw [List.length_drop, List.length_take]; omega, by omega, by omega, fun hn => ?_, fun hp => ?_⟩
  · split at hn
    · have := h.nil hn; omega
    · cases a with
      | none => have := h.nil rfl; omega
      | some _ => cases hn
  · obtain ⟨b, off, rfl, hlt, hc⟩ := h.cells (by omega)
    refine ⟨b, off + k, ?_, hlt, fun i hi => ?_⟩
    · rw [if_neg (by omega)]
      simp only [Option.map_some]
      congr 1
      unfold Addr.add; split <;> simp_all
    · rw [show off + k + i = off + (k + i) from by omega, hc (k + i) (by omega), List.getElem?_drop, List.getElem?_take, if_pos (by omega)]

theorem Reads.upto {q : IntKind} {w : World} {a : Option Addr} {len cap : Nat} {l : List Nat} (h : Reads q w a len cap l) (m : Nat) (hm : m ≤ len) : Reads q w a m cap (l.take m) := by
  have hle := h.le
  refine ⟨by rw [List.length_take, h.length]; omega, by omega, h.max, h.nil, fun hp => ?_⟩
  obtain ⟨b, off, rfl, hlt, hc⟩ := h.cells (by omega)
  exact ⟨b, off, rfl, hlt, fun i hi => by rw [hc i (by omega), List.getElem?_take, if_pos hi]⟩

theorem Reads.none (q : IntKind) (w : World) : Reads q w .none 0 0 [] := ⟨rfl, Nat.le_refl _, by unfold maxLen; omega, fun _ => rfl, fun h => by omega⟩
theorem Reads.empty {q : IntKind} (w : World) (a : Option Addr) (c : Nat) (hc : c ≤ maxLen) (hn : a = .none → c = 0) : Reads q w a 0 c [] := ⟨rfl, Nat.zero_le _, hc, hn, fun h => by omega⟩

theorem Reads.one (q : IntKind) (w : World) (E : TypeId) (n : Int) (c : Nat) (h : n = (c : Int)) : Reads q (w.alloc (.cells #[.int q n] E)) (some ⟨w.heap.size, 0, .none⟩) 1 1 [c] := by
  subst h
  refine ⟨rfl, Nat.le_refl _, by unfold maxLen; omega, (fun h => by cases h), fun _ => ⟨w.heap.size, 0, rfl, by simp, fun i hi => ?_⟩⟩
  obtain rfl : i = 0 := by omega
  rw [World.cell?_alloc_at _ _ _ _ rfl]
  rfl

theorem OwnQ.empty (q : IntKind) (w : World) (E : TypeId) (B : Nat) (hB : B ≤ w.heap.size) : OwnQ q E B (w.alloc (.cells #[] E)) (.slice (some ⟨w.heap.size, 0, .none⟩) 0 0) [] :=
  World.ownsRow_lit w #[] 0 hB (by unfold maxLen; omega) rfl

theorem OwnQ.nil (q : IntKind) (w : World) (E : TypeId) (B : Nat) : OwnQ q E B w (.slice .none 0 0) [] := World.ownsRow_nil w B E 1

theorem wpList_append_q {P : Program} (q : IntKind) (w : World) {ops : Array Oper} {rest : List Oper} {o : Oper} {a : Act} {Q : Exit → Act → World → Prop} (hgd : o.guard = .none) (s x : Operand) (t : TypeId)
    (ho : o.op = .call { callee := .builtin .append, args := #[s, x], argTypes := #[t, t] })
    (B E by' : Nat) (i : TypeInfo) (ht : P.underlying t = some (.slice E)) (hi : P.info? E = some i) (hz : i.zero = some (.int q 0)) (hsize : i.size = 1) (hby : i.bytes = by') (hby8 : by' ≤ 8)
    (v : Value) (l : List Nat) (hs : a.eval s = v) (hown : OwnQ q E B w v l) (ao : Option Addr) (m c : Nat) (l2 : List Nat) (hx : a.eval x = .slice ao m c) (hb : Reads q w ao m c l2)
    (hsum : l.length + m ≤ 17592186044416) (hbase : B ≤ w.heap.size)
    (h : ∀ v' w', OwnQ q E B w' v' (l ++ l2) → (∀ w0, Below B w0 w → Below B w0 w') → wpList P ops Q rest (a.put o.dst v') w') : wpList P ops Q (o :: rest) a w := by
  have hlen := hb.length
  have hbb : (l.length + m) * by' ≤ 140737488355328 := Nat.le_trans (Nat.mul_le_mul hsum hby8) (by decide)
  cases ao with
  | some ad =>
    refine wpList_append_own w hgd s x t ho B E i (.int q 0) 1 by' ht hi hz hsize hby rfl (by decide) v l.length (l.map (num q)) hs hown ad m c (l2.map (num q)) hx (by simpa using hlen) hb.news (nums_oneCell _ _) (by unfold maxLen; omega) hbb hbase ?_
    intro v' w' ho' hg _
    refine h v' w' ?_ (fun w0 h0 => h0.grown hg hbase (fun k hk => (hown.lt k hk).1))
    unfold OwnQ
    rw [List.map_append, List.length_append, hlen]
    exact ho'
  | none =>
    have hc := hb.nil rfl
    have hle := hb.le
    obtain rfl : m = 0 := by omega
    obtain rfl : l2 = [] := List.eq_nil_of_length_eq_zero hlen
    subst hc
    refine wpList_plain hgd fun K hK' => ?_
    have hrun := run_append_owned_none (P := P) w B t o.type E i 1 ht hi v l.length (l.map (num q)) hown
    unfold Oper.wp
    simp [execOp, ho, resolve, invoke, builtin, hs, hx, hrun, Result.andThen]
    exact hK' _ _ (by simpa using h v w (by simpa using hown) (fun _ h0 => h0))

theorem OwnQ.succ {q : IntKind} {E : TypeId} {B : Nat} {w : World} {v : Value} {l : List Nat} (h : OwnQ q E B w v l) (hl : l ≠ []) : ∃ g cap, v = .slice (some ⟨g, 0, .none⟩) l.length cap := by
  rcases h.2 with ⟨_, h0⟩ | ⟨g, cap, _, rfl, _⟩
  · exact (hl (List.eq_nil_of_length_eq_zero h0)).elim
  · exact ⟨g, cap, rfl⟩

theorem OwnQ.alloc {q : IntKind} {E : TypeId} {B : Nat} {w : World} {v : Value} {l : List Nat} (h : OwnQ q E B w v l) (o : Obj) : OwnQ q E B (w.alloc o) v l := World.ownsRow.alloc h o
theorem OwnQ.drewN {q : IntKind} {E : TypeId} {B : Nat} {w : World} {v : Value} {l : List Nat} (h : OwnQ q E B w v l) (n : Nat) : OwnQ q E B (w.drewN n) v l := h
theorem OwnQ.drew {q : IntKind} {E : TypeId} {B : Nat} {w : World} {v : Value} {l : List Nat} (h : OwnQ q E B w v l) : OwnQ q E B w.drew v l := World.ownsRow.drew h

theorem OwnQ.cap {q : IntKind} {E : TypeId} {B : Nat} {w : World} {a : Option Addr} {n cap : Nat} {l : List Nat} (h : OwnQ q E B w (.slice a n cap) l) : n = l.length ∧ n ≤ cap ∧ cap ≤ maxLen := by
  obtain ⟨a', c', he, hb, _⟩ := h.form
  cases he
  exact ⟨rfl, hb.le, hb.max⟩

theorem OwnQ.reads {q : IntKind} {E : TypeId} {B : Nat} {w : World} {a : Option Addr} {n cap : Nat} {l : List Nat} (h : OwnQ q E B w (.slice a n cap) l) : Reads q w a n cap l := by
  obtain ⟨a', c', he, hb, _⟩ := h.form
  cases he
  exact hb

/-- The front of what the call owns is the call's own too. -/
theorem OwnQ.upto {q : IntKind} {E : TypeId} {B : Nat} {w : World} {a : Option Addr} {n cap : Nat} {l : List Nat} (h : OwnQ q E B w (.slice a n cap) l) (m : Nat) (hm : m ≤ n) : OwnQ q E B w (.slice a m cap) (l.take m) := by
  have hc := h.cap
  obtain ⟨-, h2⟩ := h
  have hlen : (l.take m).length = m := by rw [List.length_take]; omega
  refine ⟨?_, ?_⟩
  · simp
  rcases h2 with ⟨h3, h0⟩ | ⟨g, cap', cur, he, hB, hg, hn, hcm, hs, ht⟩
  · cases h3
    obtain rfl : m = 0 := by omega
    exact .inl ⟨rfl, by simp⟩
  · cases he
    refine .inr ⟨g, cap, cur, by rw [hlen], hB, hg, by rw [hlen]; omega, hcm, hs, ?_⟩
    rw [hlen, List.map_take, ← ht, List.take_take]
    congr 1
    omega

theorem zeros_q (q : IntKind) (n : Nat) : (madeCells (Value.int q 0).cells (n * 1)).toList = (List.replicate n (0 : Nat)).map (num q) := by
  rw [show (Value.int q 0).cells = #[Value.int q 0] from rfl, toList_madeCells_one]
  simp [num]

theorem OwnQ.stored {q : IntKind} {E : TypeId} {B : Nat} {w : World} {g n cap : Nat} {l : List Nat} (h : OwnQ q E B w (.slice (some ⟨g, 0, .none⟩) n cap) l) (hn : n = l.length) (j : Nat) (c : Nat) (x : Int) (hx : x = (c : Int)) :
    OwnQ q E B (w.setCell ⟨g, j, .none⟩ (.int q x)) (.slice (some ⟨g, 0, .none⟩) n cap) (l.set j c) ∧ (∀ w0, Below B w0 w → Below B w0 (w.setCell ⟨g, j, .none⟩ (.int q x))) := by
  subst hx
  subst hn
  have h1 := World.ownsRow.stored h j (.int q (c : Int))
  have hB := (World.ownsRow.lt h g rfl).1
  refine ⟨?_, fun w0 h0 => h0.setCell (p := ⟨g, j, .none⟩) hB _⟩
  unfold OwnQ
  rw [List.map_set, List.length_set]
  exact h1.1

theorem OwnQ.cellAt {q : IntKind} {E : TypeId} {B : Nat} {w : World} {g n cap : Nat} {l : List Nat} (h : OwnQ q E B w (.slice (some ⟨g, 0, .none⟩) n cap) l) (hn : n = l.length) (j : Nat) (hj : j < n) : w.cell? ⟨g, j, .none⟩ = some (.int q ((l[j]?.getD 0 : Nat) : Int)) := by
  subst hn
  rw [World.ownsRow.cellAt h j (by omega)]
  simp [num, hj]

theorem OwnQ.frozenAt {q : IntKind} {E : TypeId} {B : Nat} {w : World} {g n cap : Nat} {l : List Nat} (h : OwnQ q E B w (.slice (some ⟨g, 0, .none⟩) n cap) l) (hn : n = l.length) (j : Nat) : w.frozen? ⟨g, j, .none⟩ = false := by
  subst hn
  exact World.ownsRow.frozenAt h j

/-- A slice of limbs that came in, as the shells say it. -/
theorem reads_of_row {w : World} {a : Option Addr} {len cap : Nat} {zs : List Int}
    (h : (a = .none ∧ len = 0 ∧ cap = 0 ∧ zs = []) ∨ ∃ x, a = some x ∧ len ≤ cap ∧ cap ≤ maxLen ∧ zs.length = cap ∧ (∀ i, i < zs.length → w.cell? (x.add i) = some (.int .u32 (zs.getD i 0))) ∧ ∀ n ∈ zs, (Lit.int .u32 n).wf = true) :
    ∃ l : List Nat, Reads .u32 w a len cap l ∧ ∀ x ∈ l, x < 4294967296 := by
  rcases h with ⟨rfl, rfl, rfl, rfl⟩ | ⟨x, rfl, hl, hm, hz, hc, hw⟩
  · exact ⟨[], Reads.none _ w, fun _ h => by cases h⟩
  · have hbd : ∀ n ∈ zs, 0 ≤ n ∧ n < 4294967296 := fun n hn => by
      have := hw n hn
      simp [Lit.wf, IntKind.min, IntKind.max, IntKind.signed, IntKind.bits] at this
      omega
    refine ⟨(zs.take len).map fun n => n.toNat, ⟨by simp; omega, hl, hm, (fun h => by cases h), fun hp => ?_⟩, fun y hy => ?_⟩
    · obtain ⟨b, off, spot⟩ := x
      have h0 := hc 0 (by omega)
      have hs : spot = .none := by simpa [Addr.add] using World.cell?_spot h0
      subst hs
      refine ⟨b, off, rfl, World.block_lt_of_cell? w _ (by simpa [Addr.add] using h0), fun i hi => ?_⟩
      have hci := hc i (by omega)
      have e : (⟨b, off, .none⟩ : Addr).add i = ⟨b, off + i, .none⟩ := by unfold Addr.add; split <;> simp_all
      rw [e] at hci
      rw [hci]
      have hlt : i < zs.length := by omega
      have hb := hbd zs[i] (List.getElem_mem _)
      have h1 : zs.getD i 0 = zs[i] := by simp [List.getD, hlt]
      rw [h1]
      simp [hi, hlt]
      omega
    · obtain ⟨n, hn, rfl⟩ := List.mem_map.1 hy
      have := hbd n (List.mem_of_mem_take hn)
      omega

end Go.Proofs.YtkmphiakciihfaaDoor
