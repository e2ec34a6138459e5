/-
  ONE NODE OF A TREE, BY ITS NUMBER: where it lies, and what the tree reads as when its tag is stored anew. Nothing of the program stands here.
-/
import Derived.Test.YtbikghejedkkeaaDoorTrM
import Derived.RangeFuncBox
namespace Go.Proofs.YtbikghejedkkeaaDoor
open Go.RowKit

mutual
/-- The i-th node's tag, another one. -/
def Tr.put : Tr → Nat → Int → Tr
  | .mk c t k l ks, i, v => if i = 0 then .mk c v k l ks else .mk c t k l (putL ks (i - 1) v)
def putL : List Tr → Nat → Int → List Tr
  | [], _, _ => []
  | t :: ts, i, v => if i < t.cnt then t.put i v :: ts else t :: putL ts (i - t.cnt) v
end

mutual
/-- The i-th node's tag. -/
def Tr.tagAt : Tr → Nat → Int
  | .mk _ t _ _ ks, i => if i = 0 then t else tagL ks (i - 1)
def tagL : List Tr → Nat → Int
  | [], _ => 0
  | t :: ts, i => if i < t.cnt then t.tagAt i else tagL ts (i - t.cnt)
end

mutual
theorem Tr.put_ne : ∀ (T : Tr) (i : Nat) (v : Int), i < T.cnt → v ≠ T.tagAt i → T.put i v ≠ T
  | .mk c t k l ks, i, v, hi, hv, he => by
    rw [Tr.put] at he
    rw [Tr.tagAt] at hv
    rw [Tr.cnt] at hi
    split at he
    · rename_i h0
      rw [if_pos h0] at hv
      injection he with h1 h2
      exact hv h2
    · rename_i h0
      rw [if_neg h0] at hv
      injection he with h1 h2 h3 h4 h5
      exact putL_ne ks (i - 1) v (by omega) hv h5
theorem putL_ne : ∀ (l : List Tr) (i : Nat) (v : Int), i < cntL l → v ≠ tagL l i → putL l i v ≠ l
  | [], i, v, hi, _, _ => by simp [cntL] at hi
  | t :: ts, i, v, hi, hv, he => by
    rw [putL] at he
    rw [tagL] at hv
    rw [cntL] at hi
    split at he
    · rename_i h0
      rw [if_pos h0] at hv
      injection he with h1 h2
      exact Tr.put_ne t i v h0 hv h1
    · rename_i h0
      rw [if_neg h0] at hv
      injection he with h1 h2
      exact putL_ne ts (i - t.cnt) v (by omega) hv h2
end

theorem putL_at (v : Int) : ∀ (ks : List Tr) (j : Nat) (hj : j < ks.length) (i : Nat), i < (ks[j]).cnt → putL ks (cntL (ks.take j) + i) v = ks.set j ((ks[j]).put i v) ∧ tagL ks (cntL (ks.take j) + i) = (ks[j]).tagAt i
  | [], j, hj, _, _ => by simp at hj
  | t :: ts, 0, _, i, hi => by
    simp only [List.take_zero, cntL, Nat.zero_add, List.getElem_cons_zero] at hi ⊢
    rw [putL, tagL, if_pos hi, if_pos hi]
    exact ⟨rfl, rfl⟩
  | t :: ts, j + 1, hj, i, hi => by
    simp only [List.take_succ_cons, cntL, List.getElem_cons_succ] at hi ⊢
    have := putL_at v ts j (by simpa using hj) i hi
    rw [putL, tagL, if_neg (by omega), if_neg (by omega), show t.cnt + cntL (ts.take j) + i - t.cnt = cntL (ts.take j) + i from by omega, this.1, this.2]
    exact ⟨rfl, rfl⟩

/-- The i-th node lies there. -/
inductive AtN (w : World) : Nat → Nat → NV → Tr → Nat → Nat → Nat → Prop
  | here (b off : Nat) (V : NV) (T : Tr) (hc : CellsAt w b off V) : AtN w b off V T 0 b off
  | kid (b off : Nat) (V : NV) (T : Tr) (g o j : Nat) (U : NV) (i pb po : Nat) (hc : CellsAt w b off V) (ha : V.ka = some ⟨g, o, none⟩) (hj : j < T.kids.length) (hi : i < (T.kids[j]).cnt) (h : AtN w g (o + j * 5) U T.kids[j] i pb po) : AtN w b off V T (cntL (T.kids.take j) + i + 1) pb po

theorem AtN.cells {w : World} {b off : Nat} {V : NV} {T : Tr} {i pb po : Nat} (h : AtN w b off V T i pb po) : CellsAt w b off V := by cases h <;> assumption

theorem CellsAt.uniq {w : World} {b off : Nat} {V V' : NV} (h : CellsAt w b off V) (h' : CellsAt w b off V') : V = V' := by
  obtain ⟨c0, c1, c2, c3, c4⟩ := h
  obtain ⟨d0, d1, d2, d3, d4⟩ := h'
  rw [c0] at d0; rw [c1] at d1; rw [c2] at d2; rw [c3] at d3; rw [c4] at d4
  cases V; cases V'
  simp only [Option.some.injEq, Value.int.injEq, Value.bool.injEq, Value.slice.injEq, true_and] at d0 d1 d2 d3 d4
  simp only [NV.mk.injEq]
  exact ⟨d0, d1, d2, d3.1, d3.2.1, d3.2.2, d4.1, d4.2.1, d4.2.2⟩

theorem CellsAt.set1 {w : World} {b off : Nat} {V : NV} (h : CellsAt w b off V) (v : Int) : CellsAt (w.setCell ⟨b, off + 1, none⟩ (.int .i64 v)) b off ⟨V.cls, v, V.cons, V.ba, V.bl, V.bc, V.ka, V.kl, V.kc⟩ := by
  constructor
  · rw [cell_off _ _ _ _ _ (by omega)]; exact h.c0
  · exact World.cell?_setCell_same _ _ _ h.c1
  · rw [cell_off _ _ _ _ _ (by omega)]; exact h.c2
  · rw [cell_off _ _ _ _ _ (by omega)]; exact h.c3
  · rw [cell_off _ _ _ _ _ (by omega)]; exact h.c4

theorem CellsAt.off {w : World} {b off o : Nat} {V : NV} (h : CellsAt w b off V) (v : Value) (ho : o < off ∨ off + 5 ≤ o) : CellsAt (w.setCell ⟨b, o, none⟩ v) b off V := by
  constructor
  · rw [cell_off _ _ _ _ _ (by omega)]; exact h.c0
  · rw [cell_off _ _ _ _ _ (by omega)]; exact h.c1
  · rw [cell_off _ _ _ _ _ (by omega)]; exact h.c2
  · rw [cell_off _ _ _ _ _ (by omega)]; exact h.c3
  · rw [cell_off _ _ _ _ _ (by omega)]; exact h.c4

/-- What a store to the i-th node's tag leaves. -/
structure Puts (w : World) (b off : Nat) (V : NV) (T : Tr) (S : Nat → Prop) (i pb po : Nat) : Prop where
  blk : (pb = b ∧ po = off) ∨ S pb
  tag : ∃ V0, CellsAt w pb po V0 ∧ V0.tag = T.tagAt i
  free : w.frozen? ⟨pb, po + 1, none⟩ = false
  put : ∀ (W : World) (v : Int), (∀ g, S g → W.heap[g]? = w.heap[g]?) → CellsAt W b off V → ∃ V', CellsAt (W.setCell ⟨pb, po + 1, none⟩ (.int .i64 v)) b off V' ∧ NodeAt (W.setCell ⟨pb, po + 1, none⟩ (.int .i64 v)) V' (T.put i v)

theorem AtN.puts {E N : Nat} (hEN : E ≠ N) {w : World} {b off : Nat} {V : NV} {T : Tr} {i pb po : Nat} (h : AtN w b off V T i pb po) : ∀ (S : Nat → Prop), MineT E N w S V T → ¬ S b → (∀ x, w.frozen? ⟨b, x, none⟩ = false) → Puts w b off V T S i pb po := by
  induction h with
  | here b off V T hc =>
    intro S hm hS hfr
    refine ⟨.inl ⟨rfl, rfl⟩, ⟨V, hc, ?_⟩, hfr _, fun W v hW hcW => ⟨_, hcW.set1 v, ?_⟩⟩
    · obtain ⟨c, t, k, l, ks⟩ := T
      rw [Tr.tagAt, if_pos rfl]
      exact (hm.node.tag).symm
    · have hm2 : MineT E N (W.setCell ⟨b, off + 1, none⟩ (.int .i64 v)) S V T := hm.heap fun g hg => (Below.heap_setCell _ _ _ _ (fun e => hS (by rw [show g = b from e] at hg; exact hg))).trans (hW g hg)
      have hn := hm2.node
      obtain ⟨c, t, k, l, ks⟩ := T
      have e1 : c = V.cls := hn.cls
      have e3 : k = V.cons := hn.cons
      rw [Tr.put, if_pos rfl]
      exact NodeAt.of e1 rfl e3 hn.bytes hn.small hn.kids
  | kid b off V T g o j U i pb po hc ha hj hi h ih =>
    intro S hm hS hfr
    cases hm with
    | mk _ _ l ks UU SS hb hbS hx hl hr hrS hk hSS =>
      simp only [Tr.kids] at hj hi h ih ⊢
      have hgn : (Value.slice V.ka V.kl V.kc).ownBlock = some g := by rw [ha]; rfl
      obtain ⟨h1, h2⟩ := hr
      rcases h2 with ⟨he, h0⟩ | ⟨g', cap, cur, he, hB, hg, hn, hcp, hs, ht⟩
      · exact absurd hj (by omega)
      simp only [Value.slice.injEq] at he
      obtain ⟨e1, -, e3⟩ := he
      rw [ha] at e1
      simp only [Option.some.injEq, Addr.mk.injEq] at e1
      obtain ⟨rfl, rfl, -⟩ := e1
      have hcell : ∀ jj, jj < V.kl → CellsAt w g (0 + jj * 5) (UU jj) := fun jj hjj => by
        have key : ∀ r, r < 5 → w.cell? ⟨g, 0 + jj * 5 + r, none⟩ = (UU jj).cells[r]? := fun r hr5 => by
          rw [Nat.mul_comm jj 5, cell_of_row w g (0 + 5 * jj + r) cur N (0, 0) hg, ← flatMap_five V.kl UU jj r hjj hr5, ← ht, List.getElem?_take, if_pos (by omega)]
          simp
        exact ⟨key 0 (by omega), key 1 (by omega), key 2 (by omega), key 3 (by omega), key 4 (by omega)⟩
      have hjl : j < V.kl := by omega
      have hU : U = UU j := h.cells.uniq (hcell j hjl)
      subst hU
      have hp := ih (SS j) (hk j hj) (fun hg' => (hSS j hj g hg').2.1 hgn) (fun x => by simp [World.frozen?, hg])
      have hgS : S g := hrS g hgn
      have hpS : S pb := by
        rcases hp.blk with ⟨rfl, -⟩ | hs'
        · exact hgS
        · exact (hSS j hj pb hs').1
      refine ⟨.inr hpS, ?_, hp.free, fun W v hW hcW => ⟨V, hcW.other _ _ (fun e => hS (by rw [← show pb = b from e]; exact hpS)), ?_⟩⟩
      · obtain ⟨V0, hc0, ht0⟩ := hp.tag
        refine ⟨V0, hc0, ?_⟩
        rw [Tr.tagAt, if_neg (by omega), Nat.add_sub_cancel, (putL_at 0 ks j hj i hi).2]
        exact ht0
      · have hWg : W.heap[g]? = some (.cells cur N (0, 0)) := (hW g hgS).trans hg
        have hcW : ∀ jj, jj < V.kl → CellsAt W g (0 + jj * 5) (UU jj) := fun jj hjj => (hcell jj hjj).of fun x => by rw [World.cell?_of_block (hW g hgS)]
        obtain ⟨V', hcV, hnV⟩ := hp.put W v (fun g' hg' => hW g' (hSS j hj g' hg').1) (hcW j hjl)
        -- a block that the store doesn't touch
        have hne : ∀ g', S g' → g' ≠ g → ¬ SS j g' → (W.setCell ⟨pb, po + 1, none⟩ (.int .i64 v)).heap[g']? = w.heap[g']? := fun g' h1' h2' h3' => by
          refine (Below.heap_setCell _ _ _ _ fun e => ?_).trans (hW g' h1')
          have e' : g' = pb := e
          rcases hp.blk with ⟨hb1, -⟩ | hs'
          · exact h2' (e'.trans hb1)
          · exact h3' (e' ▸ hs')
        have hbg : ∀ g', (Value.slice V.ba V.bl V.bc).ownBlock = some g' → g' ≠ g := fun g' hg' e => by
          subst e
          rcases hb.2 with ⟨he', -⟩ | ⟨g2, cap2, cur2, he', _, hg2, _⟩
          · rw [he'] at hg'; simp [Value.ownBlock] at hg'
          · rw [he'] at hg'
            have : g2 = g' := by simpa [Value.ownBlock] using hg'
            subst this
            rw [hg2] at hg
            injection hg with hg
            injection hg with _ hEN'
            exact hEN hEN'
        have hbytes : OwnQ .u8 E 0 (W.setCell ⟨pb, po + 1, none⟩ (.int .i64 v)) (.slice V.ba V.bl V.bc) l := rowSame hb fun g' hg' => hne g' (hbS g' hg') (hbg g' hg') (fun hs' => (hSS j hj g' hs').2.2.1 hg')
        rw [Tr.put, if_neg (by omega), Nat.add_sub_cancel, (putL_at v ks j hj i hi).1]
        refine .mk V l _ (fun jj => if jj = j then V' else UU jj) hbytes.reads hx (by rw [List.length_set]; exact hl) (by omega) (by omega) (fun h => by rw [ha] at h; cases h) (fun _ => ⟨g, 0, ha, ?_, fun jj hjj => ?_⟩) (fun jj hjj => ?_)
        · have : g < W.heap.size := (Array.getElem?_eq_some_iff.1 hWg).1
          simpa using this
        · by_cases hjj' : jj = j
          · subst hjj'
            simp only [if_true]
            exact hcV
          · simp only [if_neg hjj']
            rcases hp.blk with ⟨rfl, rfl⟩ | hs'
            · exact (hcW jj hjj).off _ (by omega)
            · exact (hcW jj hjj).other _ _ (fun e => (hSS j hj pb hs').2.1 (by rw [show pb = g from e]; exact hgn))
        · have hjj2 : jj < ks.length := by simpa using hjj
          by_cases hjj' : jj = j
          · subst hjj'
            simp only [if_true, List.getElem_set_self]
            exact hnV
          · simp only [if_neg hjj', List.getElem_set_ne (Ne.symm hjj')]
            refine ((hk jj hjj2).heap fun g' hg' => hne g' (hSS jj hjj2 g' hg').1 (fun e => (hSS jj hjj2 g' hg').2.1 (by rw [e]; exact hgn)) (fun hs' => ?_)).node
            rcases Nat.lt_or_gt_of_ne hjj' with hlt | hgt
            · exact (hSS j hj g' hs').2.2.2 jj hlt hg'
            · exact (hSS jj hjj2 g' hg').2.2.2 j hgt hs'

end Go.Proofs.YtbikghejedkkeaaDoor
