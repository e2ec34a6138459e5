/-
  TREES AS PLAIN DATA, AND HOW THEY LIE IN A WORLD. Nothing of the program stands here but the type of a node.
-/
import Derived.Test.YtkmphiakciihfaaDoorLib
import Derived.Test.YtkmphiakciihfaaDoorNum
namespace Go.Proofs.YtkmphiakciihfaaDoor
open Go.RowKit

/-- A tree. -/
inductive Tr where
  | mk (cls tag : Int) (cons : Bool) (b : List Nat) (kids : List Tr)

instance : Inhabited Tr := ⟨.mk 0 0 false [] []⟩

def Tr.cls : Tr → Int | .mk c _ _ _ _ => c
def Tr.tag : Tr → Int | .mk _ t _ _ _ => t
def Tr.cons : Tr → Bool | .mk _ _ k _ _ => k
def Tr.b : Tr → List Nat | .mk _ _ _ l _ => l
def Tr.kids : Tr → List Tr | .mk _ _ _ _ ks => ks

mutual
/-- How many nodes. -/
def Tr.cnt : Tr → Nat | .mk _ _ _ _ ks => cntL ks + 1
def cntL : List Tr → Nat
  | [] => 0
  | t :: ts => t.cnt + cntL ts
end

mutual
/-- How deep. -/
def Tr.dep : Tr → Nat | .mk _ _ _ _ ks => depL ks + 1
def depL : List Tr → Nat
  | [] => 0
  | t :: ts => max t.dep (depL ts)
end

mutual
/-- The nodes in order, each with how deep it lies. -/
def Tr.nodes (d : Nat) : Tr → List (Nat × Tr) | .mk c t k l ks => (d, .mk c t k l ks) :: nodesL (d + 1) ks
def nodesL (d : Nat) : List Tr → List (Nat × Tr)
  | [] => []
  | t :: ts => t.nodes d ++ nodesL d ts
end

mutual
/-- Each number is one of 64 bits. -/
def Tr.ok : Tr → Prop | .mk c t _ _ ks => (-9223372036854775808 ≤ c ∧ c ≤ 9223372036854775807 ∧ -9223372036854775808 ≤ t ∧ t ≤ 9223372036854775807) ∧ okL ks
def okL : List Tr → Prop
  | [] => True
  | t :: ts => t.ok ∧ okL ts
end

theorem okL_iff (l : List Tr) : okL l ↔ ∀ t ∈ l, t.ok := by
  induction l with
  | nil => simp [okL]
  | cons t ts ih => simp [okL, ih]

theorem cntL_take (l : List Tr) (k : Nat) (hk : k < l.length) : cntL (l.take (k + 1)) = cntL (l.take k) + (l[k]).cnt := by
  induction l generalizing k with
  | nil => simp at hk
  | cons t ts ih =>
    cases k with
    | zero => simp [cntL]
    | succ k =>
      have := ih k (by simpa using hk)
      simp only [List.take_succ_cons, cntL, this, List.getElem_cons_succ]
      omega

theorem cntL_mem {l : List Tr} {t : Tr} (h : t ∈ l) : t.cnt ≤ cntL l := by
  induction l with
  | nil => cases h
  | cons x xs ih =>
    simp only [cntL]
    rcases List.mem_cons.1 h with rfl | h
    · omega
    · have := ih h; omega

theorem depL_mem {l : List Tr} {t : Tr} (h : t ∈ l) : t.dep ≤ depL l := by
  induction l with
  | nil => cases h
  | cons x xs ih =>
    simp only [depL]
    rcases List.mem_cons.1 h with rfl | h
    · omega
    · have := ih h; omega

theorem cntL_take_le (l : List Tr) (k : Nat) : cntL (l.take k) ≤ cntL l := by
  induction l generalizing k with
  | nil => simp
  | cons t ts ih =>
    cases k with
    | zero => simp [cntL]
    | succ k => have := ih k; simp only [List.take_succ_cons, cntL]; omega

theorem Tr.cnt_pos (t : Tr) : 0 < t.cnt := by cases t; simp [Tr.cnt]

theorem cntL_len (l : List Tr) : l.length ≤ cntL l := by
  induction l with
  | nil => simp [cntL]
  | cons t ts ih => have := t.cnt_pos; simp only [List.length_cons, cntL]; omega

theorem nodesL_take (d : Nat) (l : List Tr) (k : Nat) (hk : k < l.length) : nodesL d (l.take (k + 1)) = nodesL d (l.take k) ++ (l[k]).nodes d := by
  induction l generalizing k with
  | nil => simp at hk
  | cons t ts ih =>
    cases k with
    | zero => simp [nodesL]
    | succ k =>
      have := ih k (by simpa using hk)
      simp only [List.take_succ_cons, nodesL, this, List.getElem_cons_succ, List.append_assoc]

theorem nodesL_drop (d : Nat) (l : List Tr) (k : Nat) : nodesL d (l.take k) ++ nodesL d (l.drop k) = nodesL d l := by
  induction l generalizing k with
  | nil => simp [nodesL]
  | cons t ts ih =>
    cases k with
    | zero => simp [nodesL]
    | succ k => simp only [List.take_succ_cons, List.drop_succ_cons, nodesL, List.append_assoc, ih]

theorem mem_nodesL (d : Nat) {l : List Tr} {t : Tr} (h : t ∈ l) {p : Nat × Tr} (hp : p ∈ t.nodes d) : p ∈ nodesL d l := by
  induction l with
  | nil => cases h
  | cons x xs ih =>
    simp only [nodesL, List.mem_append]
    rcases List.mem_cons.1 h with rfl | h
    · exact .inl hp
    · exact .inr (ih h)

theorem nodesL_prefix (d : Nat) (l : List Tr) (k : Nat) (hk : k < l.length) {p : List (Nat × Tr)} (h : p <+: (l[k]).nodes d) : nodesL d (l.take k) ++ p <+: nodesL d l := by
  obtain ⟨r, hr⟩ := h
  refine ⟨r ++ nodesL d (l.drop (k + 1)), ?_⟩
  rw [← nodesL_drop d l (k + 1), nodesL_take d l k hk, ← hr]
  simp

mutual
theorem Tr.nodes_length (d : Nat) : ∀ t : Tr, (t.nodes d).length = t.cnt
  | .mk _ _ _ _ ks => by simp only [Tr.nodes, Tr.cnt, List.length_cons, nodesL_length (d + 1) ks]
theorem nodesL_length (d : Nat) : ∀ l : List Tr, (nodesL d l).length = cntL l
  | [] => rfl
  | t :: ts => by simp only [nodesL, cntL, List.length_append, Tr.nodes_length d t, nodesL_length d ts]
end

/-- The deepest of some nodes. -/
def maxD (l : List (Nat × Tr)) : Nat := l.foldl (fun m p => max m p.1) 0

theorem foldl_max (l : List (Nat × Tr)) (m : Nat) : l.foldl (fun m p => max m p.1) m = max m (maxD l) := by
  unfold maxD
  induction l generalizing m with
  | nil => simp
  | cons x xs ih => simp only [List.foldl_cons]; rw [ih, ih (max 0 x.1)]; omega

theorem maxD_append (l m : List (Nat × Tr)) : maxD (l ++ m) = max (maxD l) (maxD m) := by
  unfold maxD
  rw [List.foldl_append, foldl_max]
  rfl

theorem maxD_cons (x : Nat × Tr) (l : List (Nat × Tr)) : maxD (x :: l) = max x.1 (maxD l) := by
  rw [show x :: l = [x] ++ l from rfl, maxD_append]
  simp [maxD]

mutual
theorem Tr.maxD_nodes (d : Nat) : ∀ t : Tr, maxD (t.nodes (d + 1)) = d + t.dep
  | .mk c t k l ks => by
    simp only [Tr.nodes, Tr.dep, maxD_cons]
    have := maxD_nodesL (d + 1) ks
    cases ks with
    | nil => simp [nodesL, depL, maxD]
    | cons x xs => rw [this (by simp)]; omega
theorem maxD_nodesL (d : Nat) : ∀ l : List Tr, l ≠ [] → maxD (nodesL (d + 1) l) = d + depL l
  | [], h => (h rfl).elim
  | [t], _ => by simp [nodesL, depL, Tr.maxD_nodes d t]
  | t :: x :: xs, _ => by
    rw [nodesL, maxD_append, Tr.maxD_nodes d t, maxD_nodesL d (x :: xs) (by simp)]
    show _ = d + max t.dep (depL (x :: xs))
    omega
end

/-! ### In memory -/

/-- A node's cells. -/
structure NV where
  cls : Int
  tag : Int
  cons : Bool
  ba : Option Addr
  bl : Nat
  bc : Nat
  ka : Option Addr
  kl : Nat
  kc : Nat

instance : Inhabited NV := ⟨⟨0, 0, false, none, 0, 0, none, 0, 0⟩⟩

def NV.cells (v : NV) : List Value := [.int .i64 v.cls, .int .i64 v.tag, .bool v.cons, .slice v.ba v.bl v.bc, .slice v.ka v.kl v.kc]
def NV.agg (v : NV) : Value := .agg #[.int .i64 v.cls, .int .i64 v.tag, .bool v.cons, .slice v.ba v.bl v.bc, .slice v.ka v.kl v.kc]

/-- Five cells from a place on. -/
structure CellsAt (w : World) (b off : Nat) (v : NV) : Prop where
  c0 : w.cell? ⟨b, off, none⟩ = some (.int .i64 v.cls)
  c1 : w.cell? ⟨b, off + 1, none⟩ = some (.int .i64 v.tag)
  c2 : w.cell? ⟨b, off + 2, none⟩ = some (.bool v.cons)
  c3 : w.cell? ⟨b, off + 3, none⟩ = some (.slice v.ba v.bl v.bc)
  c4 : w.cell? ⟨b, off + 4, none⟩ = some (.slice v.ka v.kl v.kc)

theorem CellsAt.lt {w : World} {b off : Nat} {v : NV} (h : CellsAt w b off v) : b < w.heap.size := World.block_lt_of_cell? w _ h.c0

theorem CellsAt.of {w w' : World} {b off : Nat} {v : NV} (h : CellsAt w b off v) (hs : ∀ i, w'.cell? ⟨b, i, none⟩ = w.cell? ⟨b, i, none⟩) : CellsAt w' b off v :=
  ⟨(hs _).trans h.c0, (hs _).trans h.c1, (hs _).trans h.c2, (hs _).trans h.c3, (hs _).trans h.c4⟩

theorem CellsAt.below {w w' : World} {b off B : Nat} {v : NV} (h : CellsAt w b off v) (hb : Below B w w') (hB : b < B) : CellsAt w' b off v :=
  h.of fun i => hb.cell (p := ⟨b, i, none⟩) hB

/-- The node with these cells is that tree's root. -/
inductive NodeAt (w : World) : NV → Tr → Prop
  | mk (V : NV) (l : List Nat) (ks : List Tr) (U : Nat → NV) (hb : Reads .u8 w V.ba V.bl V.bc l) (hx : ∀ x ∈ l, x < 256) (hl : ks.length = V.kl) (hle : V.kl ≤ V.kc) (hm : V.kc ≤ maxLen) (hnil : V.ka = none → V.kc = 0)
      (hc : 0 < V.kl → ∃ b off, V.ka = some ⟨b, off, none⟩ ∧ b < w.heap.size ∧ ∀ i, i < V.kl → CellsAt w b (off + i * 5) (U i))
      (hk : ∀ i (h : i < ks.length), NodeAt w (U i) ks[i]) : NodeAt w V (.mk V.cls V.tag V.cons l ks)

theorem NodeAt.under {w : World} {V : NV} {T : Tr} (h : NodeAt w V T) : ∀ {w' : World}, Below w.heap.size w w' → NodeAt w' V T := by
  induction h with
  | mk V l ks U hb hx hl hle hm hnil hc hk ih =>
    intro w' hw
    refine .mk V l ks U (hb.below hw) hx hl hle hm hnil (fun hp => ?_) (fun i h => ih i h hw)
    obtain ⟨b, off, ha, hlt, hcells⟩ := hc hp
    exact ⟨b, off, ha, Nat.lt_of_lt_of_le hlt hw.size, fun i hi => (hcells i hi).below hw hlt⟩

/-- A row of nodes: the slice (a, len, cap) reads as these trees. -/
structure NodesAt (w : World) (a : Option Addr) (len cap : Nat) (ks : List Tr) : Prop where
  length : ks.length = len
  le : len ≤ cap
  max : cap ≤ maxLen
  nil : a = none → cap = 0
  cells : ∃ U : Nat → NV, (0 < len → ∃ b off, a = some ⟨b, off, none⟩ ∧ b < w.heap.size ∧ ∀ i, i < len → CellsAt w b (off + i * 5) (U i)) ∧ ∀ i (h : i < ks.length), NodeAt w (U i) ks[i]

theorem NodesAt.below {w w' : World} {a : Option Addr} {len cap : Nat} {ks : List Tr} (h : NodesAt w a len cap ks) (hw : Below w.heap.size w w') : NodesAt w' a len cap ks := by
  obtain ⟨U, hc, hk⟩ := h.cells
  refine ⟨h.length, h.le, h.max, h.nil, U, fun hp => ?_, fun i hi => (hk i hi).under hw⟩
  obtain ⟨b, off, ha, hlt, hcells⟩ := hc hp
  exact ⟨b, off, ha, Nat.lt_of_lt_of_le hlt hw.size, fun i hi => (hcells i hi).below hw hlt⟩

theorem NodeAt.bytes {w : World} {V : NV} {T : Tr} (h : NodeAt w V T) : Reads .u8 w V.ba V.bl V.bc T.b := by cases h; assumption
theorem NodeAt.small {w : World} {V : NV} {T : Tr} (h : NodeAt w V T) : ∀ x ∈ T.b, x < 256 := by cases h; assumption
theorem NodeAt.kids {w : World} {V : NV} {T : Tr} (h : NodeAt w V T) : NodesAt w V.ka V.kl V.kc T.kids := by
  cases h with
  | mk _ l ks U hb hx hl hle hm hnil hc hk => exact ⟨hl, hle, hm, hnil, U, hc, hk⟩
theorem NodeAt.cls {w : World} {V : NV} {T : Tr} (h : NodeAt w V T) : T.cls = V.cls := by cases h; rfl
theorem NodeAt.tag {w : World} {V : NV} {T : Tr} (h : NodeAt w V T) : T.tag = V.tag := by cases h; rfl
theorem NodeAt.cons {w : World} {V : NV} {T : Tr} (h : NodeAt w V T) : T.cons = V.cons := by cases h; rfl
theorem NodeAt.of {w : World} {V : NV} {T : Tr} (h1 : T.cls = V.cls) (h2 : T.tag = V.tag) (h3 : T.cons = V.cons) (hb : Reads .u8 w V.ba V.bl V.bc T.b) (hx : ∀ x ∈ T.b, x < 256) (hk : NodesAt w V.ka V.kl V.kc T.kids) : NodeAt w V T := by
  obtain ⟨c, t, k, l, ks⟩ := T
  simp only [Tr.cls, Tr.tag, Tr.cons, Tr.b, Tr.kids] at h1 h2 h3 hb hx hk
  subst h1 h2 h3
  obtain ⟨U, hc, hn⟩ := hk.cells
  exact .mk V l ks U hb hx hk.length hk.le hk.max hk.nil hc hn

/-- A node in memory, whose place is told. -/
structure Spot (w : World) (P : Tr → Prop) where
  b : Nat
  off : Nat
  d : Nat
  V : NV
  T : Tr
  cells : CellsAt w b off V
  node : NodeAt w V T
  ok : P T

def Spot.at {w : World} {P : Tr → Prop} (x : Spot w P) : Nat × Tr := (x.d, x.T)

/-- A tree that lies in memory of the call's own, from block B on: no cell of it serves twice. -/
inductive OwnT (E N B : Nat) (w : World) : NV → Tr → Prop
  | mk (V : NV) (l : List Nat) (ks : List Tr) (U : Nat → NV) (hb : OwnQ .u8 E B w (.slice V.ba V.bl V.bc) l) (hx : ∀ x ∈ l, x < 256) (hbl : V.bl = l.length) (hl : ks.length = V.kl)
      (hr : w.ownsRow B N 5 (.slice V.ka V.kl V.kc) V.kl ((List.range V.kl).flatMap fun i => (U i).cells))
      (hk : ∀ i (h : i < ks.length), OwnT E N B w (U i) ks[i]) : OwnT E N B w V (.mk V.cls V.tag V.cons l ks)

theorem OwnT.under {E N B : Nat} {w : World} {V : NV} {T : Tr} (h : OwnT E N B w V T) : ∀ {w' : World}, Below w.heap.size w w' → OwnT E N B w' V T := by
  induction h with
  | mk V l ks U hb hx hbl hl hr hk ih =>
    intro w' hw
    refine .mk V l ks U (hb.below hw) hx hbl hl ?_ (fun i h => ih i h hw)
    obtain ⟨h1, h2⟩ := hr
    refine ⟨h1, ?_⟩
    rcases h2 with h2 | ⟨g, cap, cur, hv, hB, hg, rest⟩
    · exact .inl h2
    · exact .inr ⟨g, cap, cur, hv, hB, by rw [hw.block g (Array.getElem?_eq_some_iff.1 hg).1]; exact hg, rest⟩

theorem OwnT.mono {E N B B' : Nat} {w : World} {V : NV} {T : Tr} (h : OwnT E N B w V T) (hB : B' ≤ B) : OwnT E N B' w V T := by
  induction h with
  | mk V l ks U hb hx hbl hl hr hk ih =>
    refine .mk V l ks U (hb.mono hB) hx hbl hl ?_ ih
    obtain ⟨h1, h2⟩ := hr
    refine ⟨h1, ?_⟩
    rcases h2 with h2 | ⟨g, cap, cur, hv, hb', rest⟩
    · exact .inl h2
    · exact .inr ⟨g, cap, cur, hv, Nat.le_trans hB hb', rest⟩

theorem flatMap_five (n : Nat) (U : Nat → NV) (i j : Nat) (hi : i < n) (hj : j < 5) : ((List.range n).flatMap fun i => (U i).cells)[5 * i + j]? = (U i).cells[j]? := by
  induction n with
  | zero => omega
  | succ n ih =>
    have hlen : ((List.range n).flatMap fun i => (U i).cells).length = 5 * n := by
      clear ih hi
      induction n with
      | zero => rfl
      | succ n ih => rw [List.range_succ, List.flatMap_append, List.length_append, ih]; simp [NV.cells]; omega
    rw [List.range_succ, List.flatMap_append]
    by_cases h : i < n
    · rw [List.getElem?_append_left (by omega)]; exact ih h
    · obtain rfl : i = n := by omega
      rw [List.getElem?_append_right (by omega), hlen, show 5 * i + j - 5 * i = j from by omega]
      simp

/-- A row of nodes, owned. -/
structure OwnK (E N B : Nat) (w : World) (v : Value) (ks : List Tr) : Prop where
  cells : ∃ U : Nat → NV, w.ownsRow B N 5 v ks.length ((List.range ks.length).flatMap fun i => (U i).cells) ∧ ∀ i (h : i < ks.length), OwnT E N B w (U i) ks[i]

theorem OwnT.node {E N B : Nat} {w : World} {V : NV} {T : Tr} (h : OwnT E N B w V T) : NodeAt w V T := by
  induction h with
  | mk V l ks U hb hx hbl hl hr hk ih =>
    have hbt : Reads .u8 w V.ba V.bl V.bc l := hb.reads
    obtain ⟨h1, h2⟩ := hr
    rcases h2 with ⟨he, h0⟩ | ⟨g, cap, cur, he, hB, hg, hn, hc, hs, ht⟩
    · simp only [Value.slice.injEq] at he
      exact .mk V l ks U hbt hx hl (by omega) (by rw [he.2.2]; unfold maxLen; omega) (fun _ => he.2.2) (fun hp => by omega) ih
    · simp only [Value.slice.injEq] at he
      obtain ⟨e1, _, e3⟩ := he
      have hlt : g < w.heap.size := (Array.getElem?_eq_some_iff.1 hg).1
      refine .mk V l ks U hbt hx hl (by omega) (by omega) (fun h => by rw [e1] at h; cases h) (fun hp => ⟨g, 0, e1, hlt, fun i hi => ?_⟩) ih
      have key : ∀ j, j < 5 → w.cell? ⟨g, 0 + i * 5 + j, none⟩ = (U i).cells[j]? := fun j hj => by
        rw [Nat.mul_comm i 5, cell_of_row w g (0 + 5 * i + j) cur N (0, 0) hg, ← flatMap_five V.kl U i j hi hj, ← ht, List.getElem?_take, if_pos (by omega)]
        simp
      exact ⟨key 0 (by omega), key 1 (by omega), key 2 (by omega), key 3 (by omega), key 4 (by omega)⟩

theorem OwnK.below {E N B : Nat} {w w' : World} {v : Value} {ks : List Tr} (h : OwnK E N B w v ks) (hw : Below w.heap.size w w') : OwnK E N B w' v ks := by
  obtain ⟨U, hr, hk⟩ := h.cells
  refine ⟨U, ?_, fun i h => (hk i h).under hw⟩
  obtain ⟨h1, h2⟩ := hr
  refine ⟨h1, ?_⟩
  rcases h2 with h2 | ⟨g, cap, cur, hv, hB, hg, rest⟩
  · exact .inl h2
  · exact .inr ⟨g, cap, cur, hv, hB, by rw [hw.block g (Array.getElem?_eq_some_iff.1 hg).1]; exact hg, rest⟩

theorem OwnK.mono {E N B B' : Nat} {w : World} {v : Value} {ks : List Tr} (h : OwnK E N B w v ks) (hB : B' ≤ B) : OwnK E N B' w v ks := by
  obtain ⟨U, hr, hk⟩ := h.cells
  refine ⟨U, ?_, fun i h => (hk i h).mono hB⟩
  obtain ⟨h1, h2⟩ := hr
  refine ⟨h1, ?_⟩
  rcases h2 with h2 | ⟨g, cap, cur, hv, hb', rest⟩
  · exact .inl h2
  · exact .inr ⟨g, cap, cur, hv, Nat.le_trans hB hb', rest⟩

theorem OwnK.nil (E N B : Nat) (w : World) : OwnK E N B w (.slice none 0 0) [] := ⟨fun _ => default, World.ownsRow_nil w B N 5, fun i h => by simp at h⟩

theorem OwnK.form {E N B : Nat} {w : World} {v : Value} {ks : List Tr} (h : OwnK E N B w v ks) : ∃ a cap, v = .slice a ks.length cap ∧ ks.length ≤ cap ∧ cap ≤ maxLen ∧ (a = none → cap = 0) := by
  obtain ⟨U, ⟨h1, h2⟩, hk⟩ := h.cells
  rcases h2 with ⟨rfl, h0⟩ | ⟨g, cap, cur, rfl, hB, hg, hn, hc, hs, ht⟩
  · exact ⟨none, 0, by rw [h0], by omega, by unfold maxLen; omega, fun _ => rfl⟩
  · exact ⟨_, cap, rfl, hn, hc, fun h => by cases h⟩

theorem OwnT.of {E N B : Nat} {w : World} {V : NV} {T : Tr} (h1 : T.cls = V.cls) (h2 : T.tag = V.tag) (h3 : T.cons = V.cons) (hb : OwnQ .u8 E B w (.slice V.ba V.bl V.bc) T.b) (hx : ∀ x ∈ T.b, x < 256) (hk : OwnK E N B w (.slice V.ka V.kl V.kc) T.kids) : OwnT E N B w V T := by
  obtain ⟨c, t, k, l, ks⟩ := T
  simp only [Tr.cls, Tr.tag, Tr.cons, Tr.b, Tr.kids] at h1 h2 h3 hb hx hk
  subst h1 h2 h3
  obtain ⟨U, hr, hn⟩ := hk.cells
  obtain ⟨a, cap, he, _⟩ := hk.form
  have e : V.kl = ks.length := by simp only [Value.slice.injEq] at he; exact he.2.1
  exact .mk V l ks U hb hx (hb.cap).1 e.symm (by rw [e] at hr ⊢; exact hr) hn

theorem OwnT.kids {E N B : Nat} {w : World} {V : NV} {T : Tr} (h : OwnT E N B w V T) : OwnK E N B w (.slice V.ka V.kl V.kc) T.kids := by
  cases h with
  | mk _ l ks U hb hx hbl hl hr hk => exact ⟨U, by simp only [Tr.kids]; rw [hl]; exact hr, hk⟩
theorem OwnT.small {E N B : Nat} {w : World} {V : NV} {T : Tr} (h : OwnT E N B w V T) : ∀ x ∈ T.b, x < 256 := by cases h; assumption
theorem OwnT.bytes {E N B : Nat} {w : World} {V : NV} {T : Tr} (h : OwnT E N B w V T) : OwnQ .u8 E B w (.slice V.ba V.bl V.bc) T.b := by cases h; assumption

theorem range_map_len (n : Nat) (f : Nat → NV) : ((List.range n).flatMap fun i => (f i).cells).length = 5 * n := by
  induction n with
  | zero => rfl
  | succ n ih => rw [List.range_succ, List.flatMap_append, List.length_append, ih]; simp [NV.cells]; omega

end Go.Proofs.YtkmphiakciihfaaDoor
