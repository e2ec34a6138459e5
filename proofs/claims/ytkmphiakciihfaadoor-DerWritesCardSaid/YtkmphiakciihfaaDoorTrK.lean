/-
  TREES OF THE CALL's OWN: their blocks lie in S, and no block serves two parts. Nothing of the program stands here.
-/
import Derived.Test.YtkmphiakciihfaaDoorTrA
import Derived.Maps.AppendAt
namespace Go.Proofs.YtkmphiakciihfaaDoor
open Go.RowKit

/-- A tree whose blocks lie in S. -/
inductive MineT (E N : Nat) (w : World) : (Nat → Prop) → NV → Tr → Prop
  | mk (S : Nat → Prop) (V : NV) (l : List Nat) (ks : List Tr) (U : Nat → NV) (SS : Nat → Nat → Prop)
      (hb : OwnQ .u8 E 0 w (.slice V.ba V.bl V.bc) l) (hbS : ∀ g, (Value.slice V.ba V.bl V.bc).ownBlock = some g → S g) (hx : ∀ x ∈ l, x < 256) (hl : ks.length = V.kl)
      (hr : w.ownsRow 0 N 5 (.slice V.ka V.kl V.kc) V.kl ((List.range V.kl).flatMap fun i => (U i).cells)) (hrS : ∀ g, (Value.slice V.ka V.kl V.kc).ownBlock = some g → S g)
      (hk : ∀ i (h : i < ks.length), MineT E N w (SS i) (U i) ks[i])
      (hSS : ∀ i, i < ks.length → ∀ g, SS i g → S g ∧ (Value.slice V.ka V.kl V.kc).ownBlock ≠ some g ∧ (Value.slice V.ba V.bl V.bc).ownBlock ≠ some g ∧ ∀ j, j < i → ¬ SS j g) : MineT E N w S V (.mk V.cls V.tag V.cons l ks)

/-- A row of trees, whose blocks lie in S. -/
structure MineK (E N : Nat) (w : World) (S : Nat → Prop) (v : Value) (ks : List Tr) : Prop where
  is : ∃ (U : Nat → NV) (SS : Nat → Nat → Prop), w.ownsRow 0 N 5 v ks.length ((List.range ks.length).flatMap fun i => (U i).cells) ∧ (∀ g, v.ownBlock = some g → S g) ∧
    (∀ i (h : i < ks.length), MineT E N w (SS i) (U i) ks[i]) ∧ ∀ i, i < ks.length → ∀ g, SS i g → S g ∧ v.ownBlock ≠ some g ∧ ∀ j, j < i → ¬ SS j g

theorem rowSame {w w' : World} {B E s : Nat} {v : Value} {n : Nat} {xs : List Value} (h : w.ownsRow B E s v n xs) (hh : ∀ g, v.ownBlock = some g → w'.heap[g]? = w.heap[g]?) : w'.ownsRow B E s v n xs := by
  obtain ⟨h1, h2⟩ := h
  refine ⟨h1, ?_⟩
  rcases h2 with h2 | ⟨g, cap, cur, hv, hB, hg, rest⟩
  · exact .inl h2
  · exact .inr ⟨g, cap, cur, hv, hB, by rw [hh g (by rw [hv]; rfl)]; exact hg, rest⟩

theorem MineT.heap {E N : Nat} {w w' : World} {S : Nat → Prop} {V : NV} {T : Tr} (h : MineT E N w S V T) : (∀ g, S g → w'.heap[g]? = w.heap[g]?) → MineT E N w' S V T := by
  induction h with
  | mk S V l ks U SS hb hbS hx hl hr hrS hk hSS ih =>
    intro hh
    exact .mk S V l ks U SS (rowSame hb fun g hg => hh g (hbS g hg)) hbS hx hl (rowSame hr fun g hg => hh g (hrS g hg)) hrS (fun i hi => ih i hi fun g hg => hh g (hSS i hi g hg).1) hSS

theorem MineT.wide {E N : Nat} {w : World} {S S' : Nat → Prop} {V : NV} {T : Tr} (h : MineT E N w S V T) (hs : ∀ g, S g → S' g) : MineT E N w S' V T := by
  cases h with
  | mk _ _ l ks U SS hb hbS hx hl hr hrS hk hSS => exact .mk S' V l ks U SS hb (fun g hg => hs g (hbS g hg)) hx hl hr (fun g hg => hs g (hrS g hg)) hk (fun i hi g hg => ⟨hs g (hSS i hi g hg).1, (hSS i hi g hg).2⟩)

/-- All blocks of it are there. -/
theorem MineT.narrow {E N : Nat} {w : World} {S : Nat → Prop} {V : NV} {T : Tr} (h : MineT E N w S V T) : MineT E N w (fun g => S g ∧ g < w.heap.size) V T := by
  induction h with
  | mk S V l ks U SS hb hbS hx hl hr hrS hk hSS ih =>
    exact .mk _ V l ks U (fun i g => SS i g ∧ g < w.heap.size) hb (fun g hg => ⟨hbS g hg, (World.ownsRow.lt hb g hg).2⟩) hx hl hr (fun g hg => ⟨hrS g hg, (World.ownsRow.lt hr g hg).2⟩) ih
      (fun i hi g hg => ⟨⟨(hSS i hi g hg.1).1, hg.2⟩, (hSS i hi g hg.1).2.1, (hSS i hi g hg.1).2.2.1, fun j hj h => (hSS i hi g hg.1).2.2.2 j hj h.1⟩)

theorem MineT.under {E N : Nat} {w w' : World} {S : Nat → Prop} {V : NV} {T : Tr} (h : MineT E N w S V T) (hb : Below w.heap.size w w') : MineT E N w' S V T :=
  (h.narrow.heap fun g hg => hb.block g hg.2).wide fun _ hg => hg.1

theorem MineT.bytes {E N : Nat} {w : World} {S : Nat → Prop} {V : NV} {T : Tr} (h : MineT E N w S V T) : OwnQ .u8 E 0 w (.slice V.ba V.bl V.bc) T.b := by cases h; assumption
theorem MineT.kids {E N : Nat} {w : World} {S : Nat → Prop} {V : NV} {T : Tr} (h : MineT E N w S V T) : MineK E N w S (.slice V.ka V.kl V.kc) T.kids := by
  cases h with
  | mk _ _ l ks U SS hb hbS hx hl hr hrS hk hSS => exact ⟨U, SS, by simp only [Tr.kids]; rw [hl]; exact hr, hrS, hk, fun i hi g hg => ⟨(hSS i hi g hg).1, (hSS i hi g hg).2.1, (hSS i hi g hg).2.2.2⟩⟩

theorem MineT.node {E N : Nat} {w : World} {S : Nat → Prop} {V : NV} {T : Tr} (h : MineT E N w S V T) : NodeAt w V T := by
  induction h with
  | mk S V l ks U SS hb hbS hx hl hr hrS hk hSS ih =>
    have hbt : Reads .u8 w V.ba V.bl V.bc l := hb.reads
    obtain ⟨h1, h2⟩ := hr
    rcases h2 with ⟨he, h0⟩ | ⟨g, cap, cur, he, hB, hg, hn, hc, hs, ht⟩
    · simp only [Value.slice.injEq] at he
      exact .mk V l ks U hbt hx hl (by omega) (by rw [he.2.2]; unfold maxLen; omega) (fun _ => he.2.2) (fun hp => by omega) ih
    · simp only [Value.slice.injEq] at he
      obtain ⟨e1, _, e3⟩ := he
      have hlt : g < w.heap.size := (Array.getElem?_eq_some_iff.1 hg).1
      refine .mk V l ks U hbt hx hl (by omega) (by omega) (fun h => by rw [e1] at h; cases h) (fun hp => ⟨g, 0, e1, hlt, fun i hi => ?_⟩) ih
      have key : ∀ j, j < 5 → w.cell? ⟨g, 0 + i * 5 + j, none⟩ = (U i).cells[j]? := fun j hj => by
        rw [Nat.mul_comm i 5, cell_of_row w g (0 + 5 * i + j) cur N (0, 0) hg, ← flatMap_five V.kl U i j hi hj, ← ht, List.getElem?_take, if_pos (by omega)]
        simp
      exact ⟨key 0 (by omega), key 1 (by omega), key 2 (by omega), key 3 (by omega), key 4 (by omega)⟩

theorem MineK.nil (E N : Nat) (w : World) (S : Nat → Prop) : MineK E N w S (.slice none 0 0) [] := ⟨fun _ => default, fun _ _ => True, World.ownsRow_nil w 0 N 5, fun g hg => by simp [Value.ownBlock] at hg, fun i h => by simp at h, fun i h => by simp at h⟩

theorem MineK.form {E N : Nat} {w : World} {S : Nat → Prop} {v : Value} {ks : List Tr} (h : MineK E N w S v ks) : ∃ a cap, v = .slice a ks.length cap ∧ ks.length ≤ cap ∧ cap ≤ maxLen ∧ (a = none → cap = 0) := by
  obtain ⟨U, SS, ⟨h1, h2⟩, -⟩ := h.is
  rcases h2 with ⟨rfl, h0⟩ | ⟨g, cap, cur, rfl, hB, hg, hn, hc, hs, ht⟩
  · exact ⟨none, 0, by rw [h0], by omega, by unfold maxLen; omega, fun _ => rfl⟩
  · exact ⟨_, cap, rfl, hn, hc, fun h => by cases h⟩

theorem MineK.heap {E N : Nat} {w w' : World} {S : Nat → Prop} {v : Value} {ks : List Tr} (h : MineK E N w S v ks) (hh : ∀ g, S g → w'.heap[g]? = w.heap[g]?) : MineK E N w' S v ks := by
  obtain ⟨U, SS, hr, hrS, hk, hSS⟩ := h.is
  exact ⟨U, SS, rowSame hr fun g hg => hh g (hrS g hg), hrS, fun i hi => (hk i hi).heap fun g hg => hh g (hSS i hi g hg).1, hSS⟩

theorem MineK.wide {E N : Nat} {w : World} {S S' : Nat → Prop} {v : Value} {ks : List Tr} (h : MineK E N w S v ks) (hs : ∀ g, S g → S' g) : MineK E N w S' v ks := by
  obtain ⟨U, SS, hr, hrS, hk, hSS⟩ := h.is
  exact ⟨U, SS, hr, fun g hg => hs g (hrS g hg), hk, fun i hi g hg => ⟨hs g (hSS i hi g hg).1, (hSS i hi g hg).2⟩⟩

theorem MineK.narrow {E N : Nat} {w : World} {S : Nat → Prop} {v : Value} {ks : List Tr} (h : MineK E N w S v ks) : MineK E N w (fun g => S g ∧ g < w.heap.size) v ks := by
  obtain ⟨U, SS, hr, hrS, hk, hSS⟩ := h.is
  exact ⟨U, fun i g => SS i g ∧ g < w.heap.size, hr, fun g hg => ⟨hrS g hg, (World.ownsRow.lt hr g hg).2⟩, fun i hi => (hk i hi).narrow, fun i hi g hg => ⟨⟨(hSS i hi g hg.1).1, hg.2⟩, (hSS i hi g hg.1).2.1, fun j hj h => (hSS i hi g hg.1).2.2 j hj h.1⟩⟩

theorem MineK.under {E N : Nat} {w w' : World} {S : Nat → Prop} {v : Value} {ks : List Tr} (h : MineK E N w S v ks) (hb : Below w.heap.size w w') : MineK E N w' S v ks :=
  (h.narrow.heap fun g hg => hb.block g hg.2).wide fun _ hg => hg.1

/-- A node put together: its bytes lie in S1, its kids in S2. -/
theorem MineT.of {E N : Nat} {w : World} {S1 S2 S : Nat → Prop} {V : NV} {T : Tr} (h1 : T.cls = V.cls) (h2 : T.tag = V.tag) (h3 : T.cons = V.cons) (hb : OwnQ .u8 E 0 w (.slice V.ba V.bl V.bc) T.b) (hb1 : ∀ g, (Value.slice V.ba V.bl V.bc).ownBlock = some g → S1 g) (hx : ∀ x ∈ T.b, x < 256)
    (hk : MineK E N w S2 (.slice V.ka V.kl V.kc) T.kids) (h12 : ∀ g, S1 g → ¬ S2 g) (hS1 : ∀ g, S1 g → S g) (hS2 : ∀ g, S2 g → S g) : MineT E N w S V T := by
  obtain ⟨c, t, k, l, ks⟩ := T
  simp only [Tr.cls, Tr.tag, Tr.cons, Tr.b, Tr.kids] at h1 h2 h3 hb hx hk
  subst h1 h2 h3
  obtain ⟨a, cap, he, _⟩ := hk.form
  have e : V.kl = ks.length := by simp only [Value.slice.injEq] at he; exact he.2.1
  obtain ⟨U, SS, hr, hrS, hn, hSS⟩ := hk.is
  exact .mk S V l ks U SS hb (fun g hg => hS1 g (hb1 g hg)) hx e.symm (by rw [e] at hr ⊢; exact hr) (fun g hg => hS2 g (hrS g hg)) hn (fun i hi g hg => ⟨hS2 g (hSS i hi g hg).1, (hSS i hi g hg).2.1, fun h => h12 g (hb1 g h) (hSS i hi g hg).1, (hSS i hi g hg).2.2⟩)

theorem nvcells_one (V : NV) : ∀ u ∈ V.cells, u.oneCell' = true := by
  intro u hu
  simp only [NV.cells, List.mem_cons, List.mem_nil_iff, or_false] at hu
  rcases hu with rfl | rfl | rfl | rfl | rfl <;> rfl

/-- One tree more behind a row: what an append leaves. -/
theorem mineK_snoc {E N : Nat} {w w' : World} {S : Nat → Prop} {v v' : Value} {ks : List Tr} {U : Nat → NV} {SS : Nat → Nat → Prop} (hrS : ∀ g, v.ownBlock = some g → S g) (hk : ∀ i (h : i < ks.length), MineT E N w (SS i) (U i) ks[i])
    (hSS : ∀ i, i < ks.length → ∀ g, SS i g → S g ∧ v.ownBlock ≠ some g ∧ ∀ j, j < i → ¬ SS j g) (hS : ∀ g, S g → g < w.heap.size) {V : NV} {T : Tr} {ST : Nat → Prop} (ht : MineT E N w ST V T) (hST : ∀ g, ST g → g < w.heap.size ∧ ¬ S g)
    (hgr : w'.ownsRow 0 N 5 v' (ks.length + 1) (((List.range ks.length).flatMap fun i => (U i).cells) ++ V.cells))
    (hg : w.grownBy w' v.ownBlock) (hv : v'.ownBlock = v.ownBlock ∨ v'.ownBlock = some w.heap.size) : MineK E N w' (fun g => S g ∨ ST g ∨ g = w.heap.size) v' (ks ++ [T]) := by
  obtain ⟨U', hU'⟩ : ∃ U' : Nat → NV, U' = fun i => if i < ks.length then U i else V := ⟨_, rfl⟩
  have hold : ∀ g, v.ownBlock ≠ some g → g < w.heap.size → w'.heap[g]? = w.heap[g]? := fun g h1 h2 => hg.block g h2 (fun e => h1 e.symm)
  have hne : ∀ g, g < w.heap.size → v.ownBlock ≠ some g → v'.ownBlock ≠ some g := fun g h1 h2 e => by
    rcases hv with hv | hv
    · exact h2 (hv ▸ e)
    · rw [hv] at e; injection e with e; omega
  refine ⟨U', fun i g => if i < ks.length then SS i g else ST g, ?_, fun g hg' => ?_, fun i hi => ?_, fun i hi g hg' => ?_⟩
  · have e : ((List.range (ks ++ [T]).length).flatMap fun i => (U' i).cells) = ((List.range ks.length).flatMap fun i => (U i).cells) ++ V.cells := by
      rw [List.length_append, List.length_singleton, List.range_succ, List.flatMap_append]
      congr 1
      · rw [List.flatMap_def, List.flatMap_def]
        congr 1
        refine List.map_congr_left fun i hi => ?_
        rw [hU']
        simp [List.mem_range.1 hi]
      · rw [hU']; simp
    rw [e, List.length_append, List.length_singleton]
    exact hgr
  · rcases hv with hv | hv
    · rw [hv] at hg'; exact .inl (hrS g hg')
    · rw [hv] at hg'; injection hg' with hg'; exact .inr (.inr hg'.symm)
  · by_cases hlt : i < ks.length
    · rw [hU']
      simp only [hlt, if_true, List.getElem_append_left hlt]
      exact (hk i hlt).heap fun g hg' => hold g (hSS i hlt g hg').2.1 (hS g (hSS i hlt g hg').1)
    · have : i = ks.length := by simp at hi; omega
      subst this
      rw [hU']
      simp only [Nat.lt_irrefl, if_false, List.getElem_append_right (Nat.le_refl _), Nat.sub_self, List.getElem_cons_zero]
      exact ht.heap fun g hg' => hold g (fun e => (hST g hg').2 (hrS g e)) (hST g hg').1
  · by_cases hlt : i < ks.length
    · simp only [hlt, if_true] at hg'
      have h3 := hSS i hlt g hg'
      refine ⟨.inl h3.1, hne g (hS g h3.1) h3.2.1, fun j hj => ?_⟩
      simp only [Nat.lt_trans hj hlt, if_true]
      exact h3.2.2 j hj
    · simp only [hlt, if_false] at hg'
      have h3 := hST g hg'
      refine ⟨.inr (.inl hg'), hne g h3.1 (fun e => h3.2 (hrS g e)), fun j hj hS' => ?_⟩
      have hjl : j < ks.length := by simp at hi; omega
      simp only [hjl, if_true] at hS'
      exact h3.2 (hSS j hjl g hS').1

/-- 'append(kids, t)' of one node that lies in a block of its own. -/
theorem wpList_append_node {P : Program} (w : World) {ops : Array Oper} {rest : List Oper} {o : Oper} {a : Act} {Q : Exit → Act → World → Prop} (hgd : o.guard = .none) (s x : Operand) (t : TypeId)
    (ho : o.op = .call { callee := .builtin .append, args := #[s, x], argTypes := #[t, t] })
    (E N : Nat) (i : TypeInfo) (ht : P.underlying t = some (.slice N)) (hi : P.info? N = some i) (hz : i.zero = some (.agg #[.int .i64 0, .int .i64 0, .bool false, .slice none 0 0, .slice none 0 0])) (hsize : i.size = 5) (hby : i.bytes = 72)
    (v : Value) (hs : a.eval s = v) (S : Nat → Prop) (ks : List Tr) (hown : MineK E N w S v ks) (hS : ∀ g, S g → g < w.heap.size) (g0 : Nat) (hx : a.eval x = .slice (some ⟨g0, 0, none⟩) 1 1) (V : NV) (hc : CellsAt w g0 0 V)
    (T : Tr) (ST : Nat → Prop) (hT : MineT E N w ST V T) (hST : ∀ g, ST g → g < w.heap.size ∧ ¬ S g) (hsum : ks.length ≤ 1000000)
    (h : ∀ v' w', MineK E N w' (fun g => S g ∨ ST g ∨ g = w.heap.size) v' (ks ++ [T]) → (∀ B w0, (∀ g, S g → B ≤ g) → B ≤ w.heap.size → Below B w0 w → Below B w0 w') → w.heap.size ≤ w'.heap.size → wpList P ops Q rest (a.put o.dst v') w') : wpList P ops Q (o :: rest) a w := by
  obtain ⟨U, SS, hr, hrS, hk, hSS⟩ := hown.is
  refine wpList_append_own_at w hgd s x t ho 0 N i _ 5 72 ht hi hz hsize hby rfl (by decide) v ks.length _ hs hr ⟨g0, 0, none⟩ 1 1 V.cells hx rfl ?_ (nvcells_one V) (by unfold maxLen; omega) (by omega) (Nat.zero_le _) ?_
  · intro j u hu
    have e : (⟨g0, 0, none⟩ : Addr).add j = ⟨g0, j, none⟩ := by unfold Addr.add; split <;> simp_all
    rw [e]
    have hj : j < 5 := by have := (List.getElem?_eq_some_iff.1 hu).1; simpa [NV.cells] using this
    have hcs := hc
    match j, hj with
    | 0, _ => rw [show w.cell? ⟨g0, 0, none⟩ = _ from hc.c0]; exact hu
    | 1, _ => rw [show w.cell? ⟨g0, 1, none⟩ = _ from hc.c1]; exact hu
    | 2, _ => rw [show w.cell? ⟨g0, 2, none⟩ = _ from hc.c2]; exact hu
    | 3, _ => rw [show w.cell? ⟨g0, 3, none⟩ = _ from hc.c3]; exact hu
    | 4, _ => rw [show w.cell? ⟨g0, 4, none⟩ = _ from hc.c4]; exact hu
  · intro v' w' hr' hg _ hv
    exact h v' w' (mineK_snoc hrS hk hSS hS hT hST hr' hg hv) (fun B w0 hB hBw hb => hb.grown hg hBw (fun r e => hB r (hrS r e))) hg.size

mutual
/-- How many nodes and bytes. -/
def Tr.wt : Tr → Nat | .mk _ _ _ l ks => wtL ks + l.length + 1
def wtL : List Tr → Nat
  | [] => 0
  | t :: ts => t.wt + wtL ts
end

theorem wtL_mem {l : List Tr} {t : Tr} (h : t ∈ l) : t.wt ≤ wtL l := by
  induction l with
  | nil => cases h
  | cons x xs ih =>
    simp only [wtL]
    rcases List.mem_cons.1 h with rfl | h
    · omega
    · have := ih h; omega

theorem Tr.wt_pos (t : Tr) : 0 < t.wt := by cases t; simp [Tr.wt]

theorem wtL_len (l : List Tr) : l.length ≤ wtL l := by
  induction l with
  | nil => simp [wtL]
  | cons t ts ih => have := t.wt_pos; simp only [List.length_cons, wtL]; omega

end Go.Proofs.YtkmphiakciihfaaDoor
