/-
  A RANGE OVER A FUNCTION WHOSE ITERATOR WRITES THE BLOCKS THAT V NAMES, AND READS THOSE THAT R NAMES (which the rounds keep): its contract, and the law for its caller. Nothing of the program stands here.
-/
import Derived.Test.YtbikghejedkkeaaDoorSeqR
namespace Go.Proofs.YtbikghejedkkeaaDoor
open Go.RowKit

/-- The contract. -/
def SeqW {α : Type} (R V : Nat → Prop) (F : Fence) (n : Nat) (P : Program) (g : Nat) (lb : Array Value) (encs : α → Array Value) (S Sp : List α → Prop) (N : Nat) (w : World) : Prop :=
  ∀ (l : Nat) (J Jx : List α → World → Prop) (W : World), Below w.heap.size w W → (∀ s X X' row, J s X → X.grownBy X' row → (∀ r, row = some r → V r) → J s X') →
    (∀ s X X' row, Jx s X → X.grownBy X' row → (∀ r, row = some r → V r) → Jx s X') →
    (∀ pre x X, pre.length < N → J pre X → YieldAt F (n - 1) P l (encs x) X fun e X' => (e = .returned (.bool true) ∧ J (pre ++ [x]) X' ∧ KpR R X X') ∨ (e = .returned (.bool false) ∧ Jx (pre ++ [x]) X')) →
    J [] W → CallsIn F n P g (#[.func (.yield l) #[] #[]] ++ lb) W fun e X => (∃ v, e = .returned v) ∧ ((∃ xs, S xs ∧ J xs X) ∨ ∃ pre, Sp pre ∧ Jx pre X)
set_option maxHeartbeats 1000000 in
/-- The caller's law. -/
theorem wpIn_rangeW {α : Type} {F : Fence} {n : Nat} {P : Program} {R V : Nat → Prop} {g : Operand} {ps : Array Tmp} {assign body : Code} {Q : Exit → Act → World → Prop} {a : Act} {w : World}
    (hro : F.round = none) (h1 : 1 ≤ n) {gf : Nat} {lb : Array Value} (hg : a.eval g = .func (.func gf) #[] lb) (hFg : F.fn gf) (eg : ∀ args w, (callFunc gf args).run P w = .ok (.enter gf args) w)
    {encs : α → Array Value} {S Sp : List α → Prop} {N : Nat} {w0 : World} (hseq : SeqW R V F (n - 1) P gf lb encs S Sp N w0) (hVR : ∀ k, V k → R k) (hRl : ∀ k, R k → k < w.heap.size) (hb0 : Below w0.heap.size w0 w) (hps : ∀ x, (encs x).size = ps.size)
    (I : List α → World → Prop) (Ix : Code → List α → World → Prop) (hI : StaysR V w.heap.size I) (hIx : ∀ c, StaysR V w.heap.size (Ix c)) (h0 : I [] w) (a₁ : α → Act)
    (hassign : ∀ (l : Nat) (x : α) (W : World) (K : Act → World → Prop), K (a₁ x) W →
      assign.wpIn (F.inRound l) (n - 1 - 1) P (Exit.then K (fun _ _ _ => False)) { tmps := (ps.zip (encs x)).foldl (fun t (p, v) => t.setIfInBounds p v) a.tmps, defers := [] } W)
    (hbody : ∀ (l : Nat) (pre : List α) (x : α) (W : World), pre.length < N → I pre W → body.wpIn (F.inRound l) (n - 1 - 1) P (ownPostG w.heap.size (KpR R) I Ix (pre ++ [x]) W) (a₁ x) W)
    (hdone : ∀ (D : Nat) (xs : List α) (W : World), w.heap.size ≤ D → S xs → I xs W → W.heap[D]? = some (.deferred (some [])) → Q .normal { a with defers := { target := .collected D, args := #[] } :: a.defers } W)
    (hstop : ∀ (D : Nat) (c : Code) (pre : List α) (W : World), w.heap.size ≤ D → Sp pre → Ix c pre W → W.heap[D]? = some (.deferred (some [])) → c.wpIn F n P Q { a with defers := { target := .collected D, args := #[] } :: a.defers } W) :
    (Code.rangeFunc g ps assign body).wpIn F n P Q a w := by
  refine wpIn_rangeFunc fun fn hfn => ?_
  rw [hro]
  generalize hB : w.heap.size = B at *
  obtain ⟨rc, hrc⟩ : ∃ rc : LoopState → Option Code → Loop, rc = fun st pe => { state := st, pending := pe, fn, tmps := a.tmps, params := ps, assign, body, defers := B } := ⟨_, rfl⟩
  obtain ⟨W1, hW1⟩ : ∃ W1, (w.alloc (.deferred (some []))).alloc (.loop (rc .ready none)) = W1 := ⟨_, rfl⟩
  have bel1 : Below B w W1 := by rw [← hW1]; exact ((Below.refl _ w).alloc (Nat.le_of_eq hB.symm) _).alloc (by simp; omega) _
  have hD1 : W1.heap[B]? = some (.deferred (some [])) := by
    rw [← hW1]
    refine (Below.heap_alloc _ _ _ (by simp; omega)).trans ?_
    have := World.alloc_heap_new w (.deferred (some []))
    rwa [hB] at this
  have hL1 : W1.heap[B + 1]? = some (.loop (rc .ready none)) := by
    have := World.alloc_heap_new (w.alloc (.deferred (some []))) (.loop (rc .ready none))
    rwa [World.size_alloc, hB, hW1] at this
  have hz1 : W1.heap.size = B + 2 := by rw [← hW1]; simp; omega
  have hi1 : I [] W1 := by
    rw [← hW1]
    exact hI _ _ _ none (hI _ _ _ none h0 (World.grownBy_alloc w _ none) (fun r e => by cases e)) (World.grownBy_alloc _ _ none) (fun r e => by cases e)
  have put : ∀ {G : List α → World → Prop} (_ : StaysR V B G) {s : List α} {W : World} {r : Loop} (o : Obj), G s W → W.heap[B + 1]? = some (.loop r) → G s (W.putObj (B + 1) o) := fun hG s W r o hs hl =>
    hG s W _ (some (B + 1)) hs (grownBy_putObj' W (B + 1) o) (fun k e => by cases e; exact .inr ⟨by omega, _, hl, rfl⟩)
  refine ⟨B + 1, [{ target := .collected B, args := #[] }], W1, { target := .fn (.func gf) lb, args := #[.func (.yield (B + 1)) #[] #[]] }, W1, gf, #[.func (.yield (B + 1)) #[] #[]] ++ lb, W1, ?_, by simp only [resolve, hg]; simp [go_sem], ?_, by simp [invoke, go_sem, eg], fun _ => h1, ?_⟩
  · rw [← hW1, hrc, ← hB]
    exact run_enterLoop_outer _ _ _ _ _
  · intro f' hf'
    simp [Target.leads] at hf'
    subst hf'
    exact hFg
  have stay : ∀ {G : List α → World → Prop} (_ : StaysR V B G) (ro : Loop) (s : List α) (X X' : World) (row : Option Nat), (G s X ∧ X.heap[B + 1]? = some (.loop ro) ∧ X.heap[B]? = some (.deferred (some []))) → X.grownBy X' row → (∀ r, row = some r → V r) → G s X' ∧ X'.heap[B + 1]? = some (.loop ro) ∧ X'.heap[B]? = some (.deferred (some [])) := fun hG ro s X X' row h hgr hr =>
    ⟨hG s X X' row h.1 hgr (fun r e => .inl (hr r e)), (hgr.block _ (Array.getElem?_eq_some_iff.1 h.2.1).1 (fun e => by have := hRl _ (hVR _ (hr _ e.symm)); omega)).trans h.2.1, (hgr.block _ (Array.getElem?_eq_some_iff.1 h.2.2).1 (fun e => by have := hRl _ (hVR _ (hr _ e.symm)); omega)).trans h.2.2⟩
  refine (hseq (B + 1) (fun s X => I s X ∧ X.heap[B + 1]? = some (.loop (rc .ready none)) ∧ X.heap[B]? = some (.deferred (some [])))
    (fun s X => ∃ c, Ix c s X ∧ X.heap[B + 1]? = some (.loop (rc .done (some c))) ∧ X.heap[B]? = some (.deferred (some []))) W1 (hb0.trans (bel1.mono (by rw [← hB]; exact hb0.size)))
    (fun s X X' row h hgr hr => stay hI _ s X X' row h hgr hr) (fun s X X' row ⟨c, h⟩ hgr hr => ⟨c, stay (hIx c) _ s X X' row h hgr hr⟩) ?_ ⟨hi1, hL1, hD1⟩).mono ?_
  · rintro pre x X hN ⟨hi, hl, hd⟩
    have hlt : B + 1 < X.heap.size := (Array.getElem?_eq_some_iff.1 hl).1
    have hy := run_yield (P := P) (args := encs x) hl (by rw [hrc]; exact hps x)
    rw [hrc] at hy
    refine ⟨fn, _, assign, body, hy, roundIn_of_wpIn hfn (hassign _ x X _ ⟨_, run_beginRound hl (by rw [hrc]), wpIn_mono (hbody _ pre x _ hN (put hI _ hi hl)) ?_⟩)⟩
    obtain ⟨X2, hX2⟩ : ∃ X2, X.putObj (B + 1) (.loop { rc .ready none with state := .busy }) = X2 := ⟨_, rfl⟩
    rw [hX2]
    have hl2 : X2.heap[B + 1]? = some (.loop { rc .ready none with state := .busy }) := by rw [← hX2]; exact World.putObj_heap_same hlt
    have hd2 : X2.heap[B]? = some (.deferred (some [])) := by rw [← hX2]; exact (World.putObj_heap_other (by omega)).trans hd
    have kp2 : KpR R X X2 := by rw [← hX2]; exact KpR.put X _ _ (fun h => by have := hRl _ h; omega)
    have last : ∀ (j : Option Code) (X3 : World), KeepsFrom B X2 X3 → (Instr.endRound (B + 1) j).run P X3 = .ok (.bool j.isNone) (X3.putObj (B + 1) (.loop (rc (if j.isNone then .ready else .done) j))) ∧ X3.heap[B + 1]? = some (.loop { rc .ready none with state := .busy }) ∧ (X3.putObj (B + 1) (.loop (rc (if j.isNone then .ready else .done) j))).heap[B + 1]? = some (.loop (rc (if j.isNone then .ready else .done) j)) ∧ (X3.putObj (B + 1) (.loop (rc (if j.isNone then .ready else .done) j))).heap[B]? = some (.deferred (some [])) := fun j X3 hk => by
      have hl3 := hk.same _ _ (by omega) hl2 rfl
      have hr := run_endRound (P := P) j hl3
      rw [hrc] at hr hl3 ⊢
      exact ⟨hr, hl3, World.putObj_heap_same (Array.getElem?_eq_some_iff.1 hl3).1, (World.putObj_heap_other (by omega)).trans (hk.same _ _ (Nat.le_refl _) hd2 rfl)⟩
    rintro e a3 X3 hp
    cases e with
    | normal =>
      obtain ⟨hk, kp3, hi3⟩ := hp
      obtain ⟨hr, hl3, hl4, hd4⟩ := last none X3 hk
      exact ⟨_, _, hr, .inl ⟨rfl, ⟨put hI _ hi3 hl3, hl4, hd4⟩, (kp2.trans kp3).trans (KpR.put X3 _ _ (fun h => by have := hRl _ h; omega))⟩⟩
    | ret =>
      obtain ⟨hr, hl3, hl4, hd4⟩ := last (some .ret) X3 hp.1
      exact ⟨_, _, hr, .inr ⟨rfl, .ret, put (hIx _) _ hp.2 hl3, hl4, hd4⟩⟩
    | exit id =>
      obtain ⟨hr, hl3, hl4, hd4⟩ := last (some (.exit id)) X3 hp.1
      exact ⟨_, _, hr, .inr ⟨rfl, .exit id, put (hIx _) _ hp.2 hl3, hl4, hd4⟩⟩
    | goto t =>
      obtain ⟨hr, hl3, hl4, hd4⟩ := last (some (.goto t)) X3 hp.1
      exact ⟨_, _, hr, .inr ⟨rfl, .goto t, put (hIx _) _ hp.2 hl3, hl4, hd4⟩⟩
    | panic ch => exact hp.elim
    | outgrown => exact hp.elim
  · rintro e X2 ⟨⟨v, rfl⟩, (⟨xs, hS, hi, hl, hd⟩ | ⟨pre, hSp, c, hi, hl, hd⟩)⟩
    · refine ⟨none, X2.putObj (B + 1) (.loop { rc .ready none with state := .exhausted }), ?_, hdone _ xs _ (Nat.le_refl _) hS (put hI _ hi hl) ((World.putObj_heap_other (by omega)).trans hd)⟩
      have := run_endLoop (P := P) hl (by rw [hrc]; simp)
      rw [hrc] at this ⊢
      exact this
    · refine ⟨some c, X2.putObj (B + 1) (.loop { rc .done (some c) with state := .exhausted }), ?_, hstop _ c pre _ (Nat.le_refl _) hSp (put (hIx c) _ hi hl) ((World.putObj_heap_other (by omega)).trans hd)⟩
      have := run_endLoop (P := P) hl (by rw [hrc]; simp)
      rw [hrc] at this ⊢
      exact this

end Go.Proofs.YtbikghejedkkeaaDoor
