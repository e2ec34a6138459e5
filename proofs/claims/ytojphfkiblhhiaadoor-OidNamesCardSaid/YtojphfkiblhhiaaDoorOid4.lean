/-
  OID: appended.
-/
import Derived.Test.YtojphfkiblhhiaaDoorOid3
namespace Go.Proofs.YtojphfkiblhhiaaDoor
open Go.RowKit Go.Shelf
attribute [local go_sem] Oper.semAt_some
set_option maxRecDepth 100000

theorem infoU8 : (Tryd.prog.info? 5).map (fun i => (i.zero, i.size, i.bytes)) = some (some (.int .u8 0), 1, 1) := by kernel_rfl
theorem cell_oneO (w : World) (x : Value) (t : TypeId) (n : Nat) (h : n = w.heap.size) : ∀ j u, [x][j]? = some u → (w.alloc (.cells #[x] t)).cell? ((⟨n, 0, none⟩ : Addr).add j) = some u := by subst h; exact cell_one_new w x t
/-- An append: what else stands. -/
theorem appendedO {E n₀ k : Nat} {W w1 : World} {v : Value} {xs : List Value} {tmp : Obj} (hrow : W.ownsRow n₀ E 1 v k xs) (hn₀ : n₀ ≤ W.heap.size) (hgrow : (W.alloc tmp).grownBy w1 v.ownBlock) :
    KeepsOthers W w1 ∧ (∀ w0, Below n₀ w0 W → Below n₀ w0 w1) ∧ (∀ b t u, Boxed W b t u → v.ownBlock ≠ some b → Boxed w1 b t u) := by
  refine ⟨?_, ?_, fun b t u hb hne => (hb.alloc tmp).kept hgrow (fun e => hne e.symm)⟩
  · refine (KeepsOthers.alloc W tmp).trans (KeepsOthers.of_grownBy hgrow fun j o ej hj => ?_)
    rcases (World.ownsRow.alloc hrow tmp).2 with ⟨rfl, _⟩ | ⟨g, cap, cur, rfl, _, hgb, _⟩
    · simp [Value.ownBlock] at ej
    · obtain rfl : g = j := by simpa [Value.ownBlock] using ej
      rw [hgb] at hj; cases hj; rfl
  · intro w0 h0
    refine (h0.alloc hn₀ tmp).grown hgrow (by simp; omega) fun j ej => ?_
    rcases hrow.2 with ⟨rfl, _⟩ | ⟨g, cap, cur, rfl, hb, _, _⟩
    · simp [Value.ownBlock] at ej
    · obtain rfl : g = j := by simpa [Value.ownBlock] using ej
      exact hb

theorem OwnQ.slice {q : IntKind} {E : TypeId} {B : Nat} {w : World} {v : Value} {l : List Nat} (h : OwnQ q E B w v l) : ∃ a n cap, v = .slice a n cap ∧ n = l.length ∧ OwnQ q E B w (.slice a n cap) l := by
  obtain ⟨a, cap, rfl, _, _⟩ := h.form
  exact ⟨a, _, cap, rfl, rfl, h⟩
/-- Between two groups. -/
def ApI (w : World) (A B : Nat) (l : List Nat) (pre : List (Nat × Fin 128)) (W : World) : Prop :=
  (∃ v, Boxed W A 38 v ∧ OwnQ .u8 5 B W v (l ++ (runO (plO pre)).1) ∧ ∀ g, v.ownBlock = some g → g < A ∨ A + 3 ≤ g) ∧ Boxed W (A + 1) 4 (.bool (runO (plO pre)).2) ∧ A + 3 ≤ W.heap.size ∧ ∀ w0, Below B w0 w → Below B w0 W

theorem ApI.st {w : World} {A B : Nat} {l : List Nat} {pre : List (Nat × Fin 128)} {W W' : World} {row : Option Nat} (hB : B ≤ A) (h : ApI w A B l pre W) (hg : W.grownBy W' row) (hr : ∀ r, row = some r → A + 3 ≤ r ∧ ∃ o : Obj, W.heap[r]? = some o ∧ o.isCells = false) : ApI w A B l pre W' := by
  obtain ⟨⟨v, h1, h2, h3⟩, h4, h6, h7⟩ := h
  refine ⟨⟨v, h1.kept hg fun e => (by have := (hr _ e.symm).1; omega), World.ownsRow.kept h2 hg ?_, h3⟩, h4.kept hg fun e => (by have := (hr _ e.symm).1; omega), Nat.le_trans h6 hg.size, fun w0 h0 => (h7 w0 h0).grown hg (by omega) fun r e => ?_⟩
  · rcases h2.2 with ⟨rfl, _⟩ | ⟨g, cap, cur, rfl, _, hgb, _⟩
    · exact .inl rfl
    · refine .inr fun e' => ?_
      obtain ⟨_, o, ho, hc⟩ := hr g (by rw [← e']; simp [Value.ownBlock])
      rw [hgb] at ho
      cases ho
      cases hc
  · have := (hr r e).1; omega

set_option maxHeartbeats 4000000 in
theorem appended_any (B : Nat) (v : Value) (l : List Nat) (m : Nat) (w : World) (hown : OwnQ .u8 5 B w v l) (hB : B ≤ w.heap.size) (hl : l.length ≤ 100000) (hm : m < 9223372036854775808) :
    Calls Tryd.prog 32 #[v, .int .u64 (m : Int)] w fun e w' => (∃ v', e = .returned v' ∧ OwnQ .u8 5 B w' v' (l ++ formO m)) ∧ w.heap.size ≤ w'.heap.size ∧ ∀ w0, Below B w0 w → Below B w0 w' := by
  obtain ⟨i0, hi, hz0, hz1, hz2⟩ := info_parts infoU8
  obtain ⟨a0, n0, c0, rfl, -, hown⟩ := hown.slice
  have HOW := Lib.hid hown
  clear hown
  refine (callsIn_wide (n := 3)).1 ?_
  refine callsIn_of_wp_marks Tryd.func32 rfl trivial ?_ rfl
  simp only [Tryd.ntmps32, List.size_toArray, List.length_cons, List.length_nil, Nat.reduceAdd, Nat.reduceSub, Array.replicate_succ, Array.replicate_zero, List.push_toArray, List.append_toArray, List.nil_append, List.cons_append]
  gi_wp2_with fail
  refine wpIn_wide.2 (wp_scope_straight ((wpIn_wide (n := 3)).1 ?_))
  gi_wp2_with fail
  refine wpIn_label ?_
  gi_wp2_with fail
  refine ⟨trivial, ?_⟩
  refine (callsIn_wide.2 (sevens_any m _)).mono ?_
  rintro e w' ⟨rfl, rfl⟩
  gi_wp2_with fail
  have bA := ((Boxed.new w 38 (.slice a0 n0 c0)).alloc (.cells #[.bool false] 4)).alloc (.cells #[.int .u64 (m : Int)] 36)
  have bB := (Boxed.new (w.alloc (.cells #[.slice a0 n0 c0] 38)) 4 (.bool false)).alloc (.cells #[.int .u64 (m : Int)] 36)
  have bC := Boxed.new ((w.alloc (.cells #[.slice a0 n0 c0] 38)).alloc (.cells #[.bool false] 4)) 36 (.int .u64 (m : Int))
  have hO := ((HOW.out.alloc (.cells #[.slice a0 n0 c0] 38)).alloc (.cells #[.bool false] 4)).alloc (.cells #[.int .u64 (m : Int)] 36)
  have hBW : ∀ w0, Below B w0 w → Below B w0 (((w.alloc (.cells #[.slice a0 n0 c0] 38)).alloc (.cells #[.bool false] 4)).alloc (.cells #[.int .u64 (m : Int)] 36)) := fun w0 h0 => ((h0.alloc hB _).alloc (by simp only [World.size_alloc]; omega) _).alloc (by simp only [World.size_alloc]; omega) _
  have hvb : ∀ g, (Value.slice a0 n0 c0).ownBlock = some g → g < w.heap.size := fun g e => (World.ownsRow.lt HOW.out g e).2
  simp only [World.size_alloc, Nat.add_assoc, Nat.reduceAdd] at bA bB bC ⊢
  obtain ⟨W0, hW0⟩ : ∃ W0, (((w.alloc (.cells #[.slice a0 n0 c0] 38)).alloc (.cells #[.bool false] 4)).alloc (.cells #[.int .u64 (m : Int)] 36)) = W0 := ⟨_, rfl⟩
  have hzW : W0.heap.size = w.heap.size + 3 := by rw [← hW0]; simp only [World.size_alloc]
  rw [hW0] at bA bB bC hO hBW ⊢
  have HLS := Lib.hid (sevens_come (3 - 1) (by decide) m hm (w.heap.size + 2) W0 bC)
  clear hW0 HOW
  refine wpIn_rangeW (F := Fence.wide) rfl (show 1 ≤ 3 by decide) (gf := 60) (lb := #[.pointer (some ⟨w.heap.size + 2, 0, none⟩)]) rfl trivial (enters_of Tryd.func60 (by kernel_rfl) rfl) HLS.out
    (fun k hk => hk.elim) (fun k hk => by omega) (Below.refl _ _) (fun _ => rfl)
    (fun pre W => ApI w w.heap.size B l pre W) (fun c pre W => False)
    (fun s X X' row h hg hr => h.st hB hg (fun r e => by rcases hr r e with h | ⟨h, h2⟩; exact h.elim; exact ⟨by omega, h2⟩))
    (fun c s X X' row h hg hr => h)
    ⟨⟨_, bA, by simpa [plO, runO] using hO, fun g hg => .inl (hvb g hg)⟩, bB, by omega, hBW⟩ ?_ ?_ ?_ ?_ ?_
  rotate_left 1
  · intro lp x W K hK
    gi_wp2
    exact hK
  · rintro lp pre x W hpl ⟨⟨v, bA, hown, hne⟩, bB, hsz, hBb⟩
    obtain ⟨x1, x2, hx2⟩ := x
    dsimp only [encO]
    have hrl := runO_len (plO pre)
    rw [plO_length] at hrl
    obtain ⟨R, bg, hR⟩ : ∃ R bg, runO (plO pre) = (R, bg) := ⟨_, _, rfl⟩
    have HSN := Lib.hid (show runO (plO (pre ++ [(x1, ⟨x2, hx2⟩)])) = stepO (R, bg) (x1, x2) by rw [plO_snoc, runO_snoc, hR])
    rw [hR] at hown bB hrl
    dsimp only at hown bB hrl
    generalize hAA : w.heap.size = A at *
    obtain ⟨av, N, cv, rfl, hN, hown⟩ := hown.slice
    unfold OwnQ at hown
    rw [← hN] at hown
    have hN2 : N ≤ 100009 := by rw [hN, List.length_append]; omega
    have cA := bA.cell
    have fA := bA.frozen
    have cB := bB.cell
    have fB := bB.frozen
    have BA := Lib.hid bA
    have BB := Lib.hid bB
    have HO := Lib.hid (show W.ownsRow B 5 1 (.slice av N cv) N ((l ++ R).map (num .u8)) from hown)
    have HNE := Lib.hid hne
    have HBb := Lib.hid hBb
    have HN := Lib.hid hN
    clear bA bB hown hne hBb hR hN
    by_cases h1 : x1 = 0
    · have HNEW := Lib.hid (show l ++ (stepO (R, bg) (x1, x2)).1 = (l ++ R) ++ [x2] by rw [stepO, if_pos h1, List.append_assoc])
      have HBG := Lib.hid (show (stepO (R, bg) (x1, x2)).2 = bg by rw [stepO, if_pos h1])
      subst h1
      gi_wp2_with (gi_at_builtin; go_loud (refine wpListIn_append_own_at _ rfl _ _ 38 rfl B 5 i0 (.int .u8 0) 1 1 Tryd.underlying38 hi hz0 hz1 hz2 rfl (by decide) _ _ _ rfl (World.ownsRow.alloc HO.out _) ⟨W.heap.size, 0, none⟩ 1 1 [.int .u8 (x2 : Int)] rfl rfl (cell_oneO _ _ _ _ (by simp)) (by simp [Value.oneCell']) (by unfold maxLen; omega) (by omega) (by simp; omega) ?_); intro v' w1 hown' hgrow _ hblk; obtain ⟨g', cap', rfl⟩ := ownsRow_succ hown'; have hp := appendedO HO.out (by omega) hgrow; have hneA : (Value.slice av N cv).ownBlock ≠ some A := (fun e => by rcases HNE.out A e with h | h <;> omega); have bA1 := hp.2.2 A _ _ BA.out hneA; have cA1 := bA1.cell; have fA1 := bA1.frozen; have BA1 := Lib.hid bA1; have BB1 := Lib.hid (hp.2.2 (A + 1) _ _ BB.out (fun e => by rcases HNE.out (A + 1) e with h | h <;> omega)); have HP := Lib.hid hp; have HOW := Lib.hid hown'; have HBL := Lib.hid hblk; have HGR := Lib.hid hgrow; clear bA1 hp hown' hgrow hblk hneA)
      have hg : g' < A ∨ A + 3 ≤ g' := by
        rcases HBL.out with e | e
        · exact HNE.out g' e.symm
        · simp [Value.ownBlock] at e
          omega
      have hO2 := ownsRow_setCell_other HOW.out (a := ⟨A, 0, none⟩) (fun e => by simp [Value.ownBlock] at e; omega) (.slice (some ⟨g', 0, none⟩) (N + 1) cap')
      have hsz1 : A + 3 ≤ w1.heap.size := Nat.le_trans (by simp; omega) HGR.out.size
      refine ⟨((HP.out.1.trans (KeepsOthers.setCell w1 ⟨A, 0, none⟩ (.slice (some ⟨g', 0, none⟩) (N + 1) cap')))).from W0.heap.size, (show KpR _ W w1 from ⟨Nat.le_trans (by simp) HGR.out.size, fun k hk => ?_⟩).trans ?_, ⟨_, BA1.out.set _, ?_, fun g e => by simp [Value.ownBlock] at e; omega⟩, ?_, by rw [World.size_setCell]; exact hsz1, fun w0 h0 => (HP.out.2.1 w0 (HBb.out w0 h0)).setCell (p := ⟨A, 0, none⟩) (by show B ≤ A; omega) _⟩
      · subst hk
        exact (HGR.out.block (A + 2) (by simp; omega) (fun e => by rcases HNE.out _ e.symm with h | h <;> omega)).trans (Below.heap_alloc _ _ _ (by omega))
      · exact KpR.grown (grownBy_setCell' w1 A _) (fun k hk => by omega) (fun r e => by cases e; omega)
      · rw [HSN.out]
        unfold OwnQ
        rw [HNEW.out, List.map_append, List.length_append, ← HN.out]
        exact hO2
      · rw [HSN.out, HBG.out]
        exact BB1.out.other (by omega) _
    · have t1 : ((x1 : Int) == 0) = false := by simp; omega
      have hor := or128 x2 hx2
      rcases (show bg = true ∨ (bg = false ∧ x2 ≠ 0) ∨ (bg = false ∧ x2 = 0) by cases bg <;> simp; omega) with rfl | ⟨rfl, h0⟩ | ⟨rfl, rfl⟩
      · skip
        have HNEW := Lib.hid (show l ++ (stepO (R, true) (x1, x2)).1 = (l ++ R) ++ [x2 + 128] by rw [stepO, if_neg h1, if_pos (.inl rfl), List.append_assoc])
        have HBG := Lib.hid (show (stepO (R, true) (x1, x2)).2 = true by rw [stepO, if_neg h1, if_pos (.inl rfl)])
        have BA0 := Lib.hid (BA.out.other (show A ≠ A + 1 by omega) (.bool true))
        have BB0 := Lib.hid (BB.out.set (.bool true))
        have HO1 := Lib.hid (ownsRow_setCell_other HO.out (a := ⟨A + 1, 0, none⟩) (fun e => by rcases HNE.out (A + 1) e with h | h <;> omega) (.bool true))
        gi_wp2_with (gi_at_builtin; go_loud (refine wpListIn_append_own_at _ rfl _ _ 38 rfl B 5 i0 (.int .u8 0) 1 1 Tryd.underlying38 hi hz0 hz1 hz2 rfl (by decide) _ _ _ rfl (World.ownsRow.alloc HO1.out _) ⟨W.heap.size, 0, none⟩ 1 1 [.int .u8 ((x2 + 128 : Nat) : Int)] rfl rfl (cell_oneO _ _ _ _ (by simp)) (by simp [Value.oneCell']) (by unfold maxLen; omega) (by omega) (by simp; omega) ?_); intro v' w1 hown' hgrow _ hblk; obtain ⟨g', cap', rfl⟩ := ownsRow_succ hown'; have hp := appendedO HO1.out (by rw [World.size_setCell]; omega) hgrow; have hneA : (Value.slice av N cv).ownBlock ≠ some A := (fun e => by rcases HNE.out A e with h | h <;> omega); have bA1 := hp.2.2 A _ _ BA0.out hneA; have cA1 := bA1.cell; have fA1 := bA1.frozen; have BA1 := Lib.hid bA1; have BB1 := Lib.hid (hp.2.2 (A + 1) _ _ BB0.out (fun e => by rcases HNE.out (A + 1) e with h | h <;> omega)); have HP := Lib.hid hp; have HOW := Lib.hid hown'; have HBL := Lib.hid hblk; have HGR := Lib.hid hgrow; clear bA1 hp hown' hgrow hblk hneA)
        have hg : g' < A ∨ A + 3 ≤ g' := by
          rcases HBL.out with e | e
          · exact HNE.out g' e.symm
          · simp [Value.ownBlock] at e
            omega
        have hO2 := ownsRow_setCell_other HOW.out (a := ⟨A, 0, none⟩) (fun e => by simp [Value.ownBlock] at e; omega) (.slice (some ⟨g', 0, none⟩) (N + 1) cap')
        have hsz1 : A + 3 ≤ w1.heap.size := Nat.le_trans (by simp; omega) HGR.out.size
        refine ⟨((KeepsOthers.setCell W ⟨A + 1, 0, none⟩ (.bool true)).trans (HP.out.1.trans (KeepsOthers.setCell w1 ⟨A, 0, none⟩ (.slice (some ⟨g', 0, none⟩) (N + 1) cap')))).from W0.heap.size, ((KpR.grown (grownBy_setCell' W (A + 1) (.bool true)) (fun k hk => by omega) (fun r e => by cases e; omega)).trans (show KpR _ (W.setCell ⟨A + 1, 0, none⟩ (.bool true)) w1 from ⟨Nat.le_trans (by simp) HGR.out.size, fun k hk => ?_⟩)).trans ?_, ⟨_, BA1.out.set _, ?_, fun g e => by simp [Value.ownBlock] at e; omega⟩, ?_, by rw [World.size_setCell]; exact hsz1, fun w0 h0 => (HP.out.2.1 w0 ((HBb.out w0 h0).setCell (p := ⟨A + 1, 0, none⟩) (by show B ≤ A + 1; omega) _)).setCell (p := ⟨A, 0, none⟩) (by show B ≤ A; omega) _⟩
        · subst hk
          exact (HGR.out.block (A + 2) (by simp; omega) (fun e => by rcases HNE.out _ e.symm with h | h <;> omega)).trans (Below.heap_alloc _ _ _ (by simp; omega))
        · exact KpR.grown (grownBy_setCell' w1 A _) (fun k hk => by omega) (fun r e => by cases e; omega)
        · rw [HSN.out]
          unfold OwnQ
          rw [HNEW.out, List.map_append, List.length_append, ← HN.out]
          exact hO2
        · rw [HSN.out, HBG.out]
          exact BB1.out.other (by omega) _
      · skip
        have HNEW := Lib.hid (show l ++ (stepO (R, false) (x1, x2)).1 = (l ++ R) ++ [x2 + 128] by rw [stepO, if_neg h1, if_pos (.inr h0), List.append_assoc])
        have HBG := Lib.hid (show (stepO (R, false) (x1, x2)).2 = true by rw [stepO, if_neg h1, if_pos (.inr h0)])
        have hx0 : ((x2 : Int) != 0) = true := by simp; omega
        have BA0 := Lib.hid (BA.out.other (show A ≠ A + 1 by omega) (.bool true))
        have BB0 := Lib.hid (BB.out.set (.bool true))
        have HO1 := Lib.hid (ownsRow_setCell_other HO.out (a := ⟨A + 1, 0, none⟩) (fun e => by rcases HNE.out (A + 1) e with h | h <;> omega) (.bool true))
        gi_wp2_with (gi_at_builtin; go_loud (refine wpListIn_append_own_at _ rfl _ _ 38 rfl B 5 i0 (.int .u8 0) 1 1 Tryd.underlying38 hi hz0 hz1 hz2 rfl (by decide) _ _ _ rfl (World.ownsRow.alloc HO1.out _) ⟨W.heap.size, 0, none⟩ 1 1 [.int .u8 ((x2 + 128 : Nat) : Int)] rfl rfl (cell_oneO _ _ _ _ (by simp)) (by simp [Value.oneCell']) (by unfold maxLen; omega) (by omega) (by simp; omega) ?_); intro v' w1 hown' hgrow _ hblk; obtain ⟨g', cap', rfl⟩ := ownsRow_succ hown'; have hp := appendedO HO1.out (by rw [World.size_setCell]; omega) hgrow; have hneA : (Value.slice av N cv).ownBlock ≠ some A := (fun e => by rcases HNE.out A e with h | h <;> omega); have bA1 := hp.2.2 A _ _ BA0.out hneA; have cA1 := bA1.cell; have fA1 := bA1.frozen; have BA1 := Lib.hid bA1; have BB1 := Lib.hid (hp.2.2 (A + 1) _ _ BB0.out (fun e => by rcases HNE.out (A + 1) e with h | h <;> omega)); have HP := Lib.hid hp; have HOW := Lib.hid hown'; have HBL := Lib.hid hblk; have HGR := Lib.hid hgrow; clear bA1 hp hown' hgrow hblk hneA)
        have hg : g' < A ∨ A + 3 ≤ g' := by
          rcases HBL.out with e | e
          · exact HNE.out g' e.symm
          · simp [Value.ownBlock] at e
            omega
        have hO2 := ownsRow_setCell_other HOW.out (a := ⟨A, 0, none⟩) (fun e => by simp [Value.ownBlock] at e; omega) (.slice (some ⟨g', 0, none⟩) (N + 1) cap')
        have hsz1 : A + 3 ≤ w1.heap.size := Nat.le_trans (by simp; omega) HGR.out.size
        refine ⟨((KeepsOthers.setCell W ⟨A + 1, 0, none⟩ (.bool true)).trans (HP.out.1.trans (KeepsOthers.setCell w1 ⟨A, 0, none⟩ (.slice (some ⟨g', 0, none⟩) (N + 1) cap')))).from W0.heap.size, ((KpR.grown (grownBy_setCell' W (A + 1) (.bool true)) (fun k hk => by omega) (fun r e => by cases e; omega)).trans (show KpR _ (W.setCell ⟨A + 1, 0, none⟩ (.bool true)) w1 from ⟨Nat.le_trans (by simp) HGR.out.size, fun k hk => ?_⟩)).trans ?_, ⟨_, BA1.out.set _, ?_, fun g e => by simp [Value.ownBlock] at e; omega⟩, ?_, by rw [World.size_setCell]; exact hsz1, fun w0 h0 => (HP.out.2.1 w0 ((HBb.out w0 h0).setCell (p := ⟨A + 1, 0, none⟩) (by show B ≤ A + 1; omega) _)).setCell (p := ⟨A, 0, none⟩) (by show B ≤ A; omega) _⟩
        · subst hk
          exact (HGR.out.block (A + 2) (by simp; omega) (fun e => by rcases HNE.out _ e.symm with h | h <;> omega)).trans (Below.heap_alloc _ _ _ (by simp; omega))
        · exact KpR.grown (grownBy_setCell' w1 A _) (fun k hk => by omega) (fun r e => by cases e; omega)
        · rw [HSN.out]
          unfold OwnQ
          rw [HNEW.out, List.map_append, List.length_append, ← HN.out]
          exact hO2
        · rw [HSN.out, HBG.out]
          exact BB1.out.other (by omega) _
      · have HNEW := Lib.hid (show (stepO (R, false) (x1, 0)).1 = R by rw [stepO, if_neg h1, if_neg (by simp)])
        have HBG := Lib.hid (show (stepO (R, false) (x1, 0)).2 = false by rw [stepO, if_neg h1, if_neg (by simp)])
        gi_wp2
        refine ⟨(KeepsOthers.setCell W ⟨A + 1, 0, none⟩ _).from W0.heap.size, KpR.grown (grownBy_setCell' W (A + 1) _) (fun k hk => by omega) (fun r e => by cases e; omega), ⟨_, BA.out.other (by omega) _, ?_, HNE.out⟩, ?_, by rw [World.size_setCell]; exact hsz, fun w0 h0 => (HBb.out w0 h0).setCell (p := ⟨A + 1, 0, none⟩) (by show B ≤ A + 1; omega) _⟩
        · rw [HSN.out, HNEW.out]
          unfold OwnQ
          rw [← HN.out]
          exact ownsRow_setCell_other HO.out (a := ⟨A + 1, 0, none⟩) (fun e => by rcases HNE.out (A + 1) e with h | h <;> omega) _
        · rw [HSN.out, HBG.out]
          exact BB.out.set _
  · rintro D xs W hD hS ⟨⟨v, bA, hown, hne⟩, bB, hsz, hBb⟩ hK
    rw [hS, runO_sev m hm] at hown
    have cA := bA.cell
    have HO := Lib.hid hown
    have HBb := Lib.hid hBb
    obtain ⟨av, N, cv, rfl, -, -⟩ := hown.slice
    have hsz2 : w.heap.size ≤ W.heap.size := by omega
    clear bA bB hown hne hBb hS
    gi_wp2
    rw [Exit.noGoto_ret]
    refine ⟨by simp, .inl ⟨_, _, rfl, run_takeDeferred hK, ?_⟩⟩
    exact ⟨_, results_tmp (t := 4) (fn := Tryd.f32) rfl _ _ _, ⟨.slice av N cv, rfl, ownsRow_putObj HO.out (.deferred none) hK rfl⟩, by simpa [World.putObj] using hsz2, fun w0 h0 => (HBb.out w0 h0).grown (grownBy_putObj' W D _) (by omega) (fun r e => by cases e; omega)⟩
  · rintro D c pre W hD hS h hK
    exact h.elim

end Go.Proofs.YtojphfkiblhhiaaDoor
