/-
  Texts of ours, one behind the other: SeqR SeqW SeqV SeqX SeqP
-/
import Derived.RangeFuncNested
import Derived.RangeFuncBox

namespace Go.Proofs.YtkmphiakciihfaaDoor
open Go.RowKit

/-- What a round keeps: the blocks that R names. -/
def KpR (R : Nat → Prop) (W W' : World) : Prop := W.heap.size ≤ W'.heap.size ∧ ∀ (k : Nat), R k → W'.heap[k]? = W.heap[k]?
theorem KpR.refl (R : Nat → Prop) (W : World) : KpR R W W := ⟨Nat.le_refl _, fun _ _ => rfl⟩
theorem KpR.trans {R : Nat → Prop} {X Y Z : World} (h : KpR R X Y) (k : KpR R Y Z) : KpR R X Z := ⟨Nat.le_trans h.1 k.1, fun i hi => (k.2 i hi).trans (h.2 i hi)⟩
theorem KpR.grown {R : Nat → Prop} {W W' : World} {row : Option Nat} (hg : W.grownBy W' row) (hlt : ∀ k, R k → k < W.heap.size) (hr : ∀ r, row = some r → ¬ R r) : KpR R W W' :=
  ⟨hg.size, fun k hk => hg.block k (hlt k hk) fun e => hr k e.symm hk⟩
theorem KpR.put {R : Nat → Prop} (W : World) (l : Nat) (o : Obj) (hl : ¬ R l) : KpR R W (W.putObj l o) :=
  ⟨(grownBy_putObj' W l o).size, fun k hk => World.putObj_heap_other fun e => hl (e ▸ hk)⟩

/-- The contract. -/
def SeqR {α : Type} (R : Nat → Prop) (F : Fence) (n : Nat) (P : Program) (g : Nat) (lb : Array Value) (encs : α → Array Value) (S Sp : List α → Prop) (w : World) : Prop :=
  ∀ (l : Nat) (J Jx : List α → World → Prop) (W : World), Below w.heap.size w W → (∀ s X X' row, J s X → X.grownBy X' row → (∀ r, row = some r → R r) → J s X') →
    (∀ s X X' row, Jx s X → X.grownBy X' row → (∀ r, row = some r → R r) → Jx s X') →
    (∀ pre x X, J pre X → YieldAt F (n - 1) P l (encs x) X fun e X' => (e = .returned (.bool true) ∧ J (pre ++ [x]) X' ∧ KpR R X X') ∨ (e = .returned (.bool false) ∧ Jx (pre ++ [x]) X')) →
    J [] W → CallsIn F n P g (#[.func (.yield l) #[] #[]] ++ lb) W fun e X => (∃ v, e = .returned v) ∧ ((∃ xs, S xs ∧ J xs X) ∨ ∃ pre, Sp pre ∧ Jx pre X)
/-- What goes on whatever such an iterator writes, and the loop's own book-keeping from B on. -/
def StaysR {β : Type} (R : Nat → Prop) (B : Nat) (J : β → World → Prop) : Prop := ∀ s W W' row, J s W → W.grownBy W' row → (∀ r, row = some r → R r ∨ B ≤ r ∧ ∃ o : Obj, W.heap[r]? = some o ∧ o.isCells = false) → J s W'

set_option maxHeartbeats 1000000 in
/-- The caller's law. -/
theorem wpIn_rangeR {α : Type} {F : Fence} {n : Nat} {P : Program} {R : Nat → Prop} {g : Operand} {ps : Array Tmp} {assign body : Code} {Q : Exit → Act → World → Prop} {a : Act} {w : World}
    (hro : F.round = none) (h1 : 1 ≤ n) {gf : Nat} {lb : Array Value} (hg : a.eval g = .func (.func gf) #[] lb) (hFg : F.fn gf) (eg : ∀ args w, (callFunc gf args).run P w = .ok (.enter gf args) w)
    {encs : α → Array Value} {S Sp : List α → Prop} {w0 : World} (hseq : SeqR R F (n - 1) P gf lb encs S Sp w0) (hRl : ∀ k, R k → k < w.heap.size) (hb0 : Below w0.heap.size w0 w) (hps : ∀ x, (encs x).size = ps.size)
    (I : List α → World → Prop) (Ix : Code → List α → World → Prop) (hI : StaysR R w.heap.size I) (hIx : ∀ c, StaysR R w.heap.size (Ix c)) (h0 : I [] w) (a₁ : α → Act)
    (hassign : ∀ (l : Nat) (x : α) (W : World) (K : Act → World → Prop), K (a₁ x) W →
      assign.wpIn (F.inRound l) (n - 1 - 1) P (Exit.then K (fun _ _ _ => False)) { tmps := (ps.zip (encs x)).foldl (fun t (p, v) => t.setIfInBounds p v) a.tmps, defers := [] } W)
    (hbody : ∀ (l : Nat) (pre : List α) (x : α) (W : World), I pre W → body.wpIn (F.inRound l) (n - 1 - 1) P (ownPostG w.heap.size (KpR R) I Ix (pre ++ [x]) W) (a₁ x) W)
    (hdone : ∀ (D : Nat) (xs : List α) (W : World), w.heap.size ≤ D → S xs → I xs W → W.heap[D]? = some (.deferred (some [])) → Q .normal { a with defers := { target := .collected D, args := #[] } :: a.defers } W)
    (hstop : ∀ (D : Nat) (c : Code) (pre : List α) (W : World), w.heap.size ≤ D → Sp pre → Ix c pre W → W.heap[D]? = some (.deferred (some [])) → c.wpIn F n P Q { a with defers := { target := .collected D, args := #[] } :: a.defers } W) :
    (Code.rangeFunc g ps assign body).wpIn F n P Q a w := by
  refine wpIn_rangeFunc fun fn hfn => ?_
  rw [hro]
  generalize hB : w.heap.size = B at *
  obtain ⟨rc, hrc⟩ : ∃ rc : LoopState → Option Code → Loop, rc = fun st pe => { state := st, pending := pe, fn, tmps := a.tmps, params := ps, assign, body, defers := B } := ⟨_, rfl⟩
  obtain ⟨W1, hW1⟩ : ∃ W1, (w.alloc (.deferred (some []))).alloc (.loop (rc .ready none)) = W1 := ⟨_, rfl⟩
  have bel1 : Below B w W1 := by rw [← hW1]; exact ((Below.refl _ w).alloc (Nat.le_of_eq hB.symm) _).alloc (by simp; omega) _
  have hD1 : W1.heap[B]? = some (.deferred (some [])) := by
    rw [← hW1]
    refine (Below.heap_alloc _ _ _ (by simp; omega)).trans ?_
    have := World.alloc_heap_new w (.deferred (some []))
    rwa [hB] at this
  have hL1 : W1.heap[B + 1]? = some (.loop (rc .ready none)) := by
    have := World.alloc_heap_new (w.alloc (.deferred (some []))) (.loop (rc .ready none))
    rwa [World.size_alloc, hB, hW1] at this
  have hz1 : W1.heap.size = B + 2 := by rw [← hW1]; simp; omega
  have hi1 : I [] W1 := by
    rw [← hW1]
    exact hI _ _ _ none (hI _ _ _ none h0 (World.grownBy_alloc w _ none) (fun r e => by cases e)) (World.grownBy_alloc _ _ none) (fun r e => by cases e)
  have put : ∀ {G : List α → World → Prop} (_ : StaysR R B G) {s : List α} {W : World} {r : Loop} (o : Obj), G s W → W.heap[B + 1]? = some (.loop r) → G s (W.putObj (B + 1) o) := fun hG s W r o hs hl =>
    hG s W _ (some (B + 1)) hs (grownBy_putObj' W (B + 1) o) (fun k e => by cases e; exact .inr ⟨by omega, _, hl, rfl⟩)
  refine ⟨B + 1, [{ target := .collected B, args := #[] }], W1, { target := .fn (.func gf) lb, args := #[.func (.yield (B + 1)) #[] #[]] }, W1, gf, #[.func (.yield (B + 1)) #[] #[]] ++ lb, W1, ?_, by simp only [resolve, hg]; simp [go_sem], ?_, by simp [invoke, go_sem, eg], fun _ => h1, ?_⟩
  · rw [← hW1, hrc, ← hB]
    exact run_enterLoop_outer _ _ _ _ _
  · intro f' hf'
    simp [Target.leads] at hf'
    subst hf'
    exact hFg
  have stay : ∀ {G : List α → World → Prop} (_ : StaysR R B G) (ro : Loop) (s : List α) (X X' : World) (row : Option Nat), (G s X ∧ X.heap[B + 1]? = some (.loop ro) ∧ X.heap[B]? = some (.deferred (some []))) → X.grownBy X' row → (∀ r, row = some r → R r) → G s X' ∧ X'.heap[B + 1]? = some (.loop ro) ∧ X'.heap[B]? = some (.deferred (some [])) := fun hG ro s X X' row h hgr hr =>
    ⟨hG s X X' row h.1 hgr (fun r e => .inl (hr r e)), (hgr.block _ (Array.getElem?_eq_some_iff.1 h.2.1).1 (fun e => by have := hRl _ (hr _ e.symm); omega)).trans h.2.1, (hgr.block _ (Array.getElem?_eq_some_iff.1 h.2.2).1 (fun e => by have := hRl _ (hr _ e.symm); omega)).trans h.2.2⟩
  refine (hseq (B + 1) (fun s X => I s X ∧ X.heap[B + 1]? = some (.loop (rc .ready none)) ∧ X.heap[B]? = some (.deferred (some [])))
    (fun s X => ∃ c, Ix c s X ∧ X.heap[B + 1]? = some (.loop (rc .done (some c))) ∧ X.heap[B]? = some (.deferred (some []))) W1 (hb0.trans (bel1.mono (by rw [← hB]; exact hb0.size)))
    (fun s X X' row h hgr hr => stay hI _ s X X' row h hgr hr) (fun s X X' row ⟨c, h⟩ hgr hr => ⟨c, stay (hIx c) _ s X X' row h hgr hr⟩) ?_ ⟨hi1, hL1, hD1⟩).mono ?_
  · rintro pre x X ⟨hi, hl, hd⟩
    have hlt : B + 1 < X.heap.size := (Array.getElem?_eq_some_iff.1 hl).1
    have hy := run_yield (P := P) (args := encs x) hl (by rw [hrc]; exact hps x)
    rw [hrc] at hy
    refine ⟨fn, _, assign, body, hy, roundIn_of_wpIn hfn (hassign _ x X _ ⟨_, run_beginRound hl (by rw [hrc]), wpIn_mono (hbody _ pre x _ (put hI _ hi hl)) ?_⟩)⟩
    obtain ⟨X2, hX2⟩ : ∃ X2, X.putObj (B + 1) (.loop { rc .ready none with state := .busy }) = X2 := ⟨_, rfl⟩
    rw [hX2]
    have hl2 : X2.heap[B + 1]? = some (.loop { rc .ready none with state := .busy }) := by rw [← hX2]; exact World.putObj_heap_same hlt
    have hd2 : X2.heap[B]? = some (.deferred (some [])) := by rw [← hX2]; exact (World.putObj_heap_other (by omega)).trans hd
    have kp2 : KpR R X X2 := by rw [← hX2]; exact KpR.put X _ _ (fun h => by have := hRl _ h; omega)
    have last : ∀ (j : Option Code) (X3 : World), KeepsFrom B X2 X3 → (Instr.endRound (B + 1) j).run P X3 = .ok (.bool j.isNone) (X3.putObj (B + 1) (.loop (rc (if j.isNone then .ready else .done) j))) ∧ X3.heap[B + 1]? = some (.loop { rc .ready none with state := .busy }) ∧ (X3.putObj (B + 1) (.loop (rc (if j.isNone then .ready else .done) j))).heap[B + 1]? = some (.loop (rc (if j.isNone then .ready else .done) j)) ∧ (X3.putObj (B + 1) (.loop (rc (if j.isNone then .ready else .done) j))).heap[B]? = some (.deferred (some [])) := fun j X3 hk => by
      have hl3 := hk.same _ _ (by omega) hl2 rfl
      have hr := run_endRound (P := P) j hl3
      rw [hrc] at hr hl3 ⊢
      exact ⟨hr, hl3, World.putObj_heap_same (Array.getElem?_eq_some_iff.1 hl3).1, (World.putObj_heap_other (by omega)).trans (hk.same _ _ (Nat.le_refl _) hd2 rfl)⟩
    rintro e a3 X3 hp
    cases e with
    | normal =>
      obtain ⟨hk, kp3, hi3⟩ := hp
      obtain ⟨hr, hl3, hl4, hd4⟩ := last none X3 hk
      exact ⟨_, _, hr, .inl ⟨rfl, ⟨put hI _ hi3 hl3, hl4, hd4⟩, (kp2.trans kp3).trans (KpR.put X3 _ _ (fun h => by have := hRl _ h; omega))⟩⟩
    | ret =>
      obtain ⟨hr, hl3, hl4, hd4⟩ := last (some .ret) X3 hp.1
      exact ⟨_, _, hr, .inr ⟨rfl, .ret, put (hIx _) _ hp.2 hl3, hl4, hd4⟩⟩
    | exit id =>
      obtain ⟨hr, hl3, hl4, hd4⟩ := last (some (.exit id)) X3 hp.1
      exact ⟨_, _, hr, .inr ⟨rfl, .exit id, put (hIx _) _ hp.2 hl3, hl4, hd4⟩⟩
    | goto t =>
      obtain ⟨hr, hl3, hl4, hd4⟩ := last (some (.goto t)) X3 hp.1
      exact ⟨_, _, hr, .inr ⟨rfl, .goto t, put (hIx _) _ hp.2 hl3, hl4, hd4⟩⟩
    | panic ch => exact hp.elim
    | outgrown => exact hp.elim
  · rintro e X2 ⟨⟨v, rfl⟩, (⟨xs, hS, hi, hl, hd⟩ | ⟨pre, hSp, c, hi, hl, hd⟩)⟩
    · refine ⟨none, X2.putObj (B + 1) (.loop { rc .ready none with state := .exhausted }), ?_, hdone _ xs _ (Nat.le_refl _) hS (put hI _ hi hl) ((World.putObj_heap_other (by omega)).trans hd)⟩
      have := run_endLoop (P := P) hl (by rw [hrc]; simp)
      rw [hrc] at this ⊢
      exact this
    · refine ⟨some c, X2.putObj (B + 1) (.loop { rc .done (some c) with state := .exhausted }), ?_, hstop _ c pre _ (Nat.le_refl _) hSp (put (hIx c) _ hi hl) ((World.putObj_heap_other (by omega)).trans hd)⟩
      have := run_endLoop (P := P) hl (by rw [hrc]; simp)
      rw [hrc] at this ⊢
      exact this

end Go.Proofs.YtkmphiakciihfaaDoor

namespace Go.Proofs.YtkmphiakciihfaaDoor
open Go.RowKit

/-- The contract. -/
def SeqW {α : Type} (R V : Nat → Prop) (F : Fence) (n : Nat) (P : Program) (g : Nat) (lb : Array Value) (encs : α → Array Value) (S Sp : List α → Prop) (N : Nat) (w : World) : Prop :=
  ∀ (l : Nat) (J Jx : List α → World → Prop) (W : World), Below w.heap.size w W → (∀ s X X' row, J s X → X.grownBy X' row → (∀ r, row = some r → V r) → J s X') →
    (∀ s X X' row, Jx s X → X.grownBy X' row → (∀ r, row = some r → V r) → Jx s X') →
    (∀ pre x X, pre.length < N → J pre X → YieldAt F (n - 1) P l (encs x) X fun e X' => (e = .returned (.bool true) ∧ J (pre ++ [x]) X' ∧ KpR R X X') ∨ (e = .returned (.bool false) ∧ Jx (pre ++ [x]) X')) →
    J [] W → CallsIn F n P g (#[.func (.yield l) #[] #[]] ++ lb) W fun e X => (∃ v, e = .returned v) ∧ ((∃ xs, S xs ∧ J xs X) ∨ ∃ pre, Sp pre ∧ Jx pre X)
set_option maxHeartbeats 1000000 in
/-- The caller's law. -/
theorem wpIn_rangeW {α : Type} {F : Fence} {n : Nat} {P : Program} {R V : Nat → Prop} {g : Operand} {ps : Array Tmp} {assign body : Code} {Q : Exit → Act → World → Prop} {a : Act} {w : World}
    (hro : F.round = none) (h1 : 1 ≤ n) {gf : Nat} {lb : Array Value} (hg : a.eval g = .func (.func gf) #[] lb) (hFg : F.fn gf) (eg : ∀ args w, (callFunc gf args).run P w = .ok (.enter gf args) w)
    {encs : α → Array Value} {S Sp : List α → Prop} {N : Nat} {w0 : World} (hseq : SeqW R V F (n - 1) P gf lb encs S Sp N w0) (hVR : ∀ k, V k → R k) (hRl : ∀ k, R k → k < w.heap.size) (hb0 : Below w0.heap.size w0 w) (hps : ∀ x, (encs x).size = ps.size)
    (I : List α → World → Prop) (Ix : Code → List α → World → Prop) (hI : StaysR V w.heap.size I) (hIx : ∀ c, StaysR V w.heap.size (Ix c)) (h0 : I [] w) (a₁ : α → Act)
    (hassign : ∀ (l : Nat) (x : α) (W : World) (K : Act → World → Prop), K (a₁ x) W →
      assign.wpIn (F.inRound l) (n - 1 - 1) P (Exit.then K (fun _ _ _ => False)) { tmps := (ps.zip (encs x)).foldl (fun t (p, v) => t.setIfInBounds p v) a.tmps, defers := [] } W)
    (hbody : ∀ (l : Nat) (pre : List α) (x : α) (W : World), pre.length < N → I pre W → body.wpIn (F.inRound l) (n - 1 - 1) P (ownPostG w.heap.size (KpR R) I Ix (pre ++ [x]) W) (a₁ x) W)
    (hdone : ∀ (D : Nat) (xs : List α) (W : World), w.heap.size ≤ D → S xs → I xs W → W.heap[D]? = some (.deferred (some [])) → Q .normal { a with defers := { target := .collected D, args := #[] } :: a.defers } W)
    (hstop : ∀ (D : Nat) (c : Code) (pre : List α) (W : World), w.heap.size ≤ D → Sp pre → Ix c pre W → W.heap[D]? = some (.deferred (some [])) → c.wpIn F n P Q { a with defers := { target := .collected D, args := #[] } :: a.defers } W) :
    (Code.rangeFunc g ps assign body).wpIn F n P Q a w := by
  refine wpIn_rangeFunc fun fn hfn => ?_
  rw [hro]
  generalize hB : w.heap.size = B at *
  obtain ⟨rc, hrc⟩ : ∃ rc : LoopState → Option Code → Loop, rc = fun st pe => { state := st, pending := pe, fn, tmps := a.tmps, params := ps, assign, body, defers := B } := ⟨_, rfl⟩
  obtain ⟨W1, hW1⟩ : ∃ W1, (w.alloc (.deferred (some []))).alloc (.loop (rc .ready none)) = W1 := ⟨_, rfl⟩
  have bel1 : Below B w W1 := by rw [← hW1]; exact ((Below.refl _ w).alloc (Nat.le_of_eq hB.symm) _).alloc (by simp; omega) _
  have hD1 : W1.heap[B]? = some (.deferred (some [])) := by
    rw [← hW1]
    refine (Below.heap_alloc _ _ _ (by simp; omega)).trans ?_
    have := World.alloc_heap_new w (.deferred (some []))
    rwa [hB] at this
  have hL1 : W1.heap[B + 1]? = some (.loop (rc .ready none)) := by
    have := World.alloc_heap_new (w.alloc (.deferred (some []))) (.loop (rc .ready none))
    rwa [World.size_alloc, hB, hW1] at this
  have hz1 : W1.heap.size = B + 2 := by rw [← hW1]; simp; omega
  have hi1 : I [] W1 := by
    rw [← hW1]
    exact hI _ _ _ none (hI _ _ _ none h0 (World.grownBy_alloc w _ none) (fun r e => by cases e)) (World.grownBy_alloc _ _ none) (fun r e => by cases e)
  have put : ∀ {G : List α → World → Prop} (_ : StaysR V B G) {s : List α} {W : World} {r : Loop} (o : Obj), G s W → W.heap[B + 1]? = some (.loop r) → G s (W.putObj (B + 1) o) := fun hG s W r o hs hl =>
    hG s W _ (some (B + 1)) hs (grownBy_putObj' W (B + 1) o) (fun k e => by cases e; exact .inr ⟨by omega, _, hl, rfl⟩)
  refine ⟨B + 1, [{ target := .collected B, args := #[] }], W1, { target := .fn (.func gf) lb, args := #[.func (.yield (B + 1)) #[] #[]] }, W1, gf, #[.func (.yield (B + 1)) #[] #[]] ++ lb, W1, ?_, by simp only [resolve, hg]; simp [go_sem], ?_, by simp [invoke, go_sem, eg], fun _ => h1, ?_⟩
  · rw [← hW1, hrc, ← hB]
    exact run_enterLoop_outer _ _ _ _ _
  · intro f' hf'
    simp [Target.leads] at hf'
    subst hf'
    exact hFg
  have stay : ∀ {G : List α → World → Prop} (_ : StaysR V B G) (ro : Loop) (s : List α) (X X' : World) (row : Option Nat), (G s X ∧ X.heap[B + 1]? = some (.loop ro) ∧ X.heap[B]? = some (.deferred (some []))) → X.grownBy X' row → (∀ r, row = some r → V r) → G s X' ∧ X'.heap[B + 1]? = some (.loop ro) ∧ X'.heap[B]? = some (.deferred (some [])) := fun hG ro s X X' row h hgr hr =>
    ⟨hG s X X' row h.1 hgr (fun r e => .inl (hr r e)), (hgr.block _ (Array.getElem?_eq_some_iff.1 h.2.1).1 (fun e => by have := hRl _ (hVR _ (hr _ e.symm)); omega)).trans h.2.1, (hgr.block _ (Array.getElem?_eq_some_iff.1 h.2.2).1 (fun e => by have := hRl _ (hVR _ (hr _ e.symm)); omega)).trans h.2.2⟩
  refine (hseq (B + 1) (fun s X => I s X ∧ X.heap[B + 1]? = some (.loop (rc .ready none)) ∧ X.heap[B]? = some (.deferred (some [])))
    (fun s X => ∃ c, Ix c s X ∧ X.heap[B + 1]? = some (.loop (rc .done (some c))) ∧ X.heap[B]? = some (.deferred (some []))) W1 (hb0.trans (bel1.mono (by rw [← hB]; exact hb0.size)))
    (fun s X X' row h hgr hr => stay hI _ s X X' row h hgr hr) (fun s X X' row ⟨c, h⟩ hgr hr => ⟨c, stay (hIx c) _ s X X' row h hgr hr⟩) ?_ ⟨hi1, hL1, hD1⟩).mono ?_
  · rintro pre x X hN ⟨hi, hl, hd⟩
    have hlt : B + 1 < X.heap.size := (Array.getElem?_eq_some_iff.1 hl).1
    have hy := run_yield (P := P) (args := encs x) hl (by rw [hrc]; exact hps x)
    rw [hrc] at hy
    refine ⟨fn, _, assign, body, hy, roundIn_of_wpIn hfn (hassign _ x X _ ⟨_, run_beginRound hl (by rw [hrc]), wpIn_mono (hbody _ pre x _ hN (put hI _ hi hl)) ?_⟩)⟩
    obtain ⟨X2, hX2⟩ : ∃ X2, X.putObj (B + 1) (.loop { rc .ready none with state := .busy }) = X2 := ⟨_, rfl⟩
    rw [hX2]
    have hl2 : X2.heap[B + 1]? = some (.loop { rc .ready none with state := .busy }) := by rw [← hX2]; exact World.putObj_heap_same hlt
    have hd2 : X2.heap[B]? = some (.deferred (some [])) := by rw [← hX2]; exact (World.putObj_heap_other (by omega)).trans hd
    have kp2 : KpR R X X2 := by rw [← hX2]; exact KpR.put X _ _ (fun h => by have := hRl _ h; omega)
    have last : ∀ (j : Option Code) (X3 : World), KeepsFrom B X2 X3 → (Instr.endRound (B + 1) j).run P X3 = .ok (.bool j.isNone) (X3.putObj (B + 1) (.loop (rc (if j.isNone then .ready else .done) j))) ∧ X3.heap[B + 1]? = some (.loop { rc .ready none with state := .busy }) ∧ (X3.putObj (B + 1) (.loop (rc (if j.isNone then .ready else .done) j))).heap[B + 1]? = some (.loop (rc (if j.isNone then .ready else .done) j)) ∧ (X3.putObj (B + 1) (.loop (rc (if j.isNone then .ready else .done) j))).heap[B]? = some (.deferred (some [])) := fun j X3 hk => by
      have hl3 := hk.same _ _ (by omega) hl2 rfl
      have hr := run_endRound (P := P) j hl3
      rw [hrc] at hr hl3 ⊢
      exact ⟨hr, hl3, World.putObj_heap_same (Array.getElem?_eq_some_iff.1 hl3).1, (World.putObj_heap_other (by omega)).trans (hk.same _ _ (Nat.le_refl _) hd2 rfl)⟩
    rintro e a3 X3 hp
    cases e with
    | normal =>
      obtain ⟨hk, kp3, hi3⟩ := hp
      obtain ⟨hr, hl3, hl4, hd4⟩ := last none X3 hk
      exact ⟨_, _, hr, .inl ⟨rfl, ⟨put hI _ hi3 hl3, hl4, hd4⟩, (kp2.trans kp3).trans (KpR.put X3 _ _ (fun h => by have := hRl _ h; omega))⟩⟩
    | ret =>
      obtain ⟨hr, hl3, hl4, hd4⟩ := last (some .ret) X3 hp.1
      exact ⟨_, _, hr, .inr ⟨rfl, .ret, put (hIx _) _ hp.2 hl3, hl4, hd4⟩⟩
    | exit id =>
      obtain ⟨hr, hl3, hl4, hd4⟩ := last (some (.exit id)) X3 hp.1
      exact ⟨_, _, hr, .inr ⟨rfl, .exit id, put (hIx _) _ hp.2 hl3, hl4, hd4⟩⟩
    | goto t =>
      obtain ⟨hr, hl3, hl4, hd4⟩ := last (some (.goto t)) X3 hp.1
      exact ⟨_, _, hr, .inr ⟨rfl, .goto t, put (hIx _) _ hp.2 hl3, hl4, hd4⟩⟩
    | panic ch => exact hp.elim
    | outgrown => exact hp.elim
  · rintro e X2 ⟨⟨v, rfl⟩, (⟨xs, hS, hi, hl, hd⟩ | ⟨pre, hSp, c, hi, hl, hd⟩)⟩
    · refine ⟨none, X2.putObj (B + 1) (.loop { rc .ready none with state := .exhausted }), ?_, hdone _ xs _ (Nat.le_refl _) hS (put hI _ hi hl) ((World.putObj_heap_other (by omega)).trans hd)⟩
      have := run_endLoop (P := P) hl (by rw [hrc]; simp)
      rw [hrc] at this ⊢
      exact this
    · refine ⟨some c, X2.putObj (B + 1) (.loop { rc .done (some c) with state := .exhausted }), ?_, hstop _ c pre _ (Nat.le_refl _) hSp (put (hIx c) _ hi hl) ((World.putObj_heap_other (by omega)).trans hd)⟩
      have := run_endLoop (P := P) hl (by rw [hrc]; simp)
      rw [hrc] at this ⊢
      exact this

end Go.Proofs.YtkmphiakciihfaaDoor

namespace Go.Proofs.YtkmphiakciihfaaDoor
open Go.RowKit

/-- What a round keeps: all but the blocks that E names. -/
def KpV (E : Nat → Prop) (W W' : World) : Prop := W.heap.size ≤ W'.heap.size ∧ ∀ (k : Nat), k < W.heap.size → ¬ E k → W'.heap[k]? = W.heap[k]?
theorem KpV.refl (E : Nat → Prop) (W : World) : KpV E W W := ⟨Nat.le_refl _, fun _ _ _ => rfl⟩
theorem KpV.trans {E : Nat → Prop} {X Y Z : World} (h : KpV E X Y) (k : KpV E Y Z) : KpV E X Z := ⟨Nat.le_trans h.1 k.1, fun i hi he => (k.2 i (Nat.lt_of_lt_of_le hi h.1) he).trans (h.2 i hi he)⟩
theorem KpV.mono {E E' : Nat → Prop} {X Y : World} (h : KpV E X Y) (hE : ∀ k, E k → E' k) : KpV E' X Y := ⟨h.1, fun i hi he => h.2 i hi fun k => he (hE i k)⟩
theorem KpV.grown {E : Nat → Prop} {W W' : World} {row : Option Nat} (hg : W.grownBy W' row) (hr : ∀ r, row = some r → E r) : KpV E W W' :=
  ⟨hg.size, fun k hk he => hg.block k hk fun e => he (hr k e.symm)⟩
theorem KpV.put {E : Nat → Prop} (W : World) (l : Nat) (o : Obj) (hl : E l) : KpV E W (W.putObj l o) :=
  ⟨(grownBy_putObj' W l o).size, fun k _ he => World.putObj_heap_other fun e => he (e ▸ hl)⟩

/-- The contract. -/
def SeqV {α : Type} (V E : Nat → Prop) (F : Fence) (n : Nat) (P : Program) (g : Nat) (lb : Array Value) (encs : α → Array Value) (G : α → Prop) (S Sp : List α → Prop) (T : World → Prop) (w : World) : Prop :=
  ∀ (l : Nat) (J Jx : List α → World → Prop) (W : World), w.heap.size ≤ l → l < W.heap.size → Below w.heap.size w W → (∀ s X X' row, J s X → X.grownBy X' row → (∀ r, row = some r → V r) → J s X') →
    (∀ s X X' row, Jx s X → X.grownBy X' row → (∀ r, row = some r → V r) → Jx s X') →
    (∀ pre x X, J pre X → YieldAt F (n - 1) P l (encs x) X fun e X' => (e = .returned (.bool true) ∧ G x ∧ J (pre ++ [x]) X' ∧ KpV (fun k => k = l ∨ E k) X X') ∨ (e = .returned (.bool false) ∧ Jx (pre ++ [x]) X')) →
    J [] W → CallsIn F n P g (#[.func (.yield l) #[] #[]] ++ lb) W fun e X => (∃ v, e = .returned v) ∧ ((∃ xs, S xs ∧ J xs X ∧ T X) ∨ ∃ pre, Sp pre ∧ Jx pre X)
set_option maxHeartbeats 1000000 in
/-- The caller's law. -/
theorem wpIn_rangeV {α : Type} {F : Fence} {n : Nat} {P : Program} {V E : Nat → Prop} {g : Operand} {ps : Array Tmp} {assign body : Code} {Q : Exit → Act → World → Prop} {a : Act} {w : World}
    (hro : F.round = none) (h1 : 1 ≤ n) {gf : Nat} {lb : Array Value} (hg : a.eval g = .func (.func gf) #[] lb) (hFg : F.fn gf) (eg : ∀ args w, (callFunc gf args).run P w = .ok (.enter gf args) w)
    {encs : α → Array Value} {G : α → Prop} {S Sp : List α → Prop} {T : World → Prop} {w0 : World} (hseq : SeqV V E F (n - 1) P gf lb encs G S Sp T w0) (hVl : ∀ k, V k → k < w.heap.size) (hb0 : Below w0.heap.size w0 w) (hps : ∀ x, (encs x).size = ps.size)
    (I : List α → World → Prop) (Ix : Code → List α → World → Prop) (hI : StaysR V w.heap.size I) (hIx : ∀ c, StaysR V w.heap.size (Ix c)) (hG : ∀ pre x X, I (pre ++ [x]) X → G x) (hT : StaysR (fun _ => False) w.heap.size (fun (_ : Unit) => T)) (h0 : I [] w) (a₁ : α → Act)
    (hassign : ∀ (l : Nat) (x : α) (W : World) (K : Act → World → Prop), K (a₁ x) W →
      assign.wpIn (F.inRound l) (n - 1 - 1) P (Exit.then K (fun _ _ _ => False)) { tmps := (ps.zip (encs x)).foldl (fun t (p, v) => t.setIfInBounds p v) a.tmps, defers := [] } W)
    (hbody : ∀ (l : Nat) (pre : List α) (x : α) (W : World), I pre W → body.wpIn (F.inRound l) (n - 1 - 1) P (ownPostG w.heap.size (KpV E) I Ix (pre ++ [x]) W) (a₁ x) W)
    (hdone : ∀ (D : Nat) (xs : List α) (W : World), w.heap.size ≤ D → S xs → I xs W → T W → W.heap[D]? = some (.deferred (some [])) → Q .normal { a with defers := { target := .collected D, args := #[] } :: a.defers } W)
    (hstop : ∀ (D : Nat) (c : Code) (pre : List α) (W : World), w.heap.size ≤ D → Sp pre → Ix c pre W → W.heap[D]? = some (.deferred (some [])) → c.wpIn F n P Q { a with defers := { target := .collected D, args := #[] } :: a.defers } W) :
    (Code.rangeFunc g ps assign body).wpIn F n P Q a w := by
  refine wpIn_rangeFunc fun fn hfn => ?_
  rw [hro]
  generalize hB : w.heap.size = B at *
  obtain ⟨rc, hrc⟩ : ∃ rc : LoopState → Option Code → Loop, rc = fun st pe => { state := st, pending := pe, fn, tmps := a.tmps, params := ps, assign, body, defers := B } := ⟨_, rfl⟩
  obtain ⟨W1, hW1⟩ : ∃ W1, (w.alloc (.deferred (some []))).alloc (.loop (rc .ready none)) = W1 := ⟨_, rfl⟩
  have bel1 : Below B w W1 := by rw [← hW1]; exact ((Below.refl _ w).alloc (Nat.le_of_eq hB.symm) _).alloc (by simp; omega) _
  have hD1 : W1.heap[B]? = some (.deferred (some [])) := by
    rw [← hW1]
    refine (Below.heap_alloc _ _ _ (by simp; omega)).trans ?_
    have := World.alloc_heap_new w (.deferred (some []))
    rwa [hB] at this
  have hL1 : W1.heap[B + 1]? = some (.loop (rc .ready none)) := by
    have := World.alloc_heap_new (w.alloc (.deferred (some []))) (.loop (rc .ready none))
    rwa [World.size_alloc, hB, hW1] at this
  have hz1 : W1.heap.size = B + 2 := by rw [← hW1]; simp; omega
  have hi1 : I [] W1 := by
    rw [← hW1]
    exact hI _ _ _ none (hI _ _ _ none h0 (World.grownBy_alloc w _ none) (fun r e => by cases e)) (World.grownBy_alloc _ _ none) (fun r e => by cases e)
  have put : ∀ {G : List α → World → Prop} (_ : StaysR V B G) {s : List α} {W : World} {r : Loop} (o : Obj), G s W → W.heap[B + 1]? = some (.loop r) → G s (W.putObj (B + 1) o) := fun hG s W r o hs hl =>
    hG s W _ (some (B + 1)) hs (grownBy_putObj' W (B + 1) o) (fun k e => by cases e; exact .inr ⟨by omega, _, hl, rfl⟩)
  refine ⟨B + 1, [{ target := .collected B, args := #[] }], W1, { target := .fn (.func gf) lb, args := #[.func (.yield (B + 1)) #[] #[]] }, W1, gf, #[.func (.yield (B + 1)) #[] #[]] ++ lb, W1, ?_, by simp only [resolve, hg]; simp [go_sem], ?_, by simp [invoke, go_sem, eg], fun _ => h1, ?_⟩
  · rw [← hW1, hrc, ← hB]
    exact run_enterLoop_outer _ _ _ _ _
  · intro f' hf'
    simp [Target.leads] at hf'
    subst hf'
    exact hFg
  have stay : ∀ {G : List α → World → Prop} (_ : StaysR V B G) (ro : Loop) (s : List α) (X X' : World) (row : Option Nat), (G s X ∧ X.heap[B + 1]? = some (.loop ro) ∧ X.heap[B]? = some (.deferred (some []))) → X.grownBy X' row → (∀ r, row = some r → V r) → G s X' ∧ X'.heap[B + 1]? = some (.loop ro) ∧ X'.heap[B]? = some (.deferred (some [])) := fun hG ro s X X' row h hgr hr =>
    ⟨hG s X X' row h.1 hgr (fun r e => .inl (hr r e)), (hgr.block _ (Array.getElem?_eq_some_iff.1 h.2.1).1 (fun e => by have := hVl _ (hr _ e.symm); omega)).trans h.2.1, (hgr.block _ (Array.getElem?_eq_some_iff.1 h.2.2).1 (fun e => by have := hVl _ (hr _ e.symm); omega)).trans h.2.2⟩
  refine (hseq (B + 1) (fun s X => I s X ∧ X.heap[B + 1]? = some (.loop (rc .ready none)) ∧ X.heap[B]? = some (.deferred (some [])))
    (fun s X => ∃ c, Ix c s X ∧ X.heap[B + 1]? = some (.loop (rc .done (some c))) ∧ X.heap[B]? = some (.deferred (some []))) W1 (by have := hb0.size; omega) (by omega) (hb0.trans (bel1.mono (by rw [← hB]; exact hb0.size)))
    (fun s X X' row h hgr hr => stay hI _ s X X' row h hgr hr) (fun s X X' row ⟨c, h⟩ hgr hr => ⟨c, stay (hIx c) _ s X X' row h hgr hr⟩) ?_ ⟨hi1, hL1, hD1⟩).mono ?_
  · rintro pre x X ⟨hi, hl, hd⟩
    have hlt : B + 1 < X.heap.size := (Array.getElem?_eq_some_iff.1 hl).1
    have hy := run_yield (P := P) (args := encs x) hl (by rw [hrc]; exact hps x)
    rw [hrc] at hy
    refine ⟨fn, _, assign, body, hy, roundIn_of_wpIn hfn (hassign _ x X _ ⟨_, run_beginRound hl (by rw [hrc]), wpIn_mono (hbody _ pre x _ (put hI _ hi hl)) ?_⟩)⟩
    obtain ⟨X2, hX2⟩ : ∃ X2, X.putObj (B + 1) (.loop { rc .ready none with state := .busy }) = X2 := ⟨_, rfl⟩
    rw [hX2]
    have hl2 : X2.heap[B + 1]? = some (.loop { rc .ready none with state := .busy }) := by rw [← hX2]; exact World.putObj_heap_same hlt
    have hd2 : X2.heap[B]? = some (.deferred (some [])) := by rw [← hX2]; exact (World.putObj_heap_other (by omega)).trans hd
    have kp2 : KpV (fun k => k = B + 1 ∨ E k) X X2 := by rw [← hX2]; exact KpV.put X _ _ (.inl rfl)
    have last : ∀ (j : Option Code) (X3 : World), KeepsFrom B X2 X3 → (Instr.endRound (B + 1) j).run P X3 = .ok (.bool j.isNone) (X3.putObj (B + 1) (.loop (rc (if j.isNone then .ready else .done) j))) ∧ X3.heap[B + 1]? = some (.loop { rc .ready none with state := .busy }) ∧ (X3.putObj (B + 1) (.loop (rc (if j.isNone then .ready else .done) j))).heap[B + 1]? = some (.loop (rc (if j.isNone then .ready else .done) j)) ∧ (X3.putObj (B + 1) (.loop (rc (if j.isNone then .ready else .done) j))).heap[B]? = some (.deferred (some [])) := fun j X3 hk => by
      have hl3 := hk.same _ _ (by omega) hl2 rfl
      have hr := run_endRound (P := P) j hl3
      rw [hrc] at hr hl3 ⊢
      exact ⟨hr, hl3, World.putObj_heap_same (Array.getElem?_eq_some_iff.1 hl3).1, (World.putObj_heap_other (by omega)).trans (hk.same _ _ (Nat.le_refl _) hd2 rfl)⟩
    rintro e a3 X3 hp
    cases e with
    | normal =>
      obtain ⟨hk, kp3, hi3⟩ := hp
      obtain ⟨hr, hl3, hl4, hd4⟩ := last none X3 hk
      exact ⟨_, _, hr, .inl ⟨rfl, hG _ _ _ hi3, ⟨put hI _ hi3 hl3, hl4, hd4⟩, (kp2.trans (kp3.mono fun _ h => .inr h)).trans (KpV.put X3 _ _ (.inl rfl))⟩⟩
    | ret =>
      obtain ⟨hr, hl3, hl4, hd4⟩ := last (some .ret) X3 hp.1
      exact ⟨_, _, hr, .inr ⟨rfl, .ret, put (hIx _) _ hp.2 hl3, hl4, hd4⟩⟩
    | exit id =>
      obtain ⟨hr, hl3, hl4, hd4⟩ := last (some (.exit id)) X3 hp.1
      exact ⟨_, _, hr, .inr ⟨rfl, .exit id, put (hIx _) _ hp.2 hl3, hl4, hd4⟩⟩
    | goto t =>
      obtain ⟨hr, hl3, hl4, hd4⟩ := last (some (.goto t)) X3 hp.1
      exact ⟨_, _, hr, .inr ⟨rfl, .goto t, put (hIx _) _ hp.2 hl3, hl4, hd4⟩⟩
    | panic ch => exact hp.elim
    | outgrown => exact hp.elim
  · rintro e X2 ⟨⟨v, rfl⟩, (⟨xs, hS, ⟨hi, hl, hd⟩, ht⟩ | ⟨pre, hSp, c, hi, hl, hd⟩)⟩
    · refine ⟨none, X2.putObj (B + 1) (.loop { rc .ready none with state := .exhausted }), ?_, hdone _ xs _ (Nat.le_refl _) hS (put hI _ hi hl) (hT () _ _ (some (B + 1)) ht (grownBy_putObj' X2 (B + 1) _) (fun k e => by cases e; exact .inr ⟨by omega, _, hl, rfl⟩)) ((World.putObj_heap_other (by omega)).trans hd)⟩
      have := run_endLoop (P := P) hl (by rw [hrc]; simp)
      rw [hrc] at this ⊢
      exact this
    · refine ⟨some c, X2.putObj (B + 1) (.loop { rc .done (some c) with state := .exhausted }), ?_, hstop _ c pre _ (Nat.le_refl _) hSp (put (hIx c) _ hi hl) ((World.putObj_heap_other (by omega)).trans hd)⟩
      have := run_endLoop (P := P) hl (by rw [hrc]; simp)
      rw [hrc] at this ⊢
      exact this

end Go.Proofs.YtkmphiakciihfaaDoor

namespace Go.Proofs.YtkmphiakciihfaaDoor
open Go.RowKit

def ownPostX {α : Type} (B : Nat) (Kp : World → World → Prop) (I : List α → World → Prop) (Ix : Code → List α → World → Prop) (xs : List α) (W : World) : Exit → Act → World → Prop
  | .normal, _, W' => KeepsFrom B W W' ∧ Kp W W' ∧ I xs W'
  | .ret, _, W' => KeepsFrom B W W' ∧ Kp W W' ∧ Ix .ret xs W'
  | .exit id, _, W' => KeepsFrom B W W' ∧ Kp W W' ∧ Ix (.exit id) xs W'
  | .goto t, _, W' => KeepsFrom B W W' ∧ Kp W W' ∧ Ix (.goto t) xs W'
  | .panic _, _, _ => False
  | .outgrown, _, _ => False

/-- The contract. -/
def SeqX {α : Type} (N : Nat) (V E : Nat → Prop) (F : Fence) (n : Nat) (P : Program) (g : Nat) (lb : Array Value) (encs : α → Array Value) (G : α → Prop) (S Sp : List α → Prop) (T : World → Prop) (w : World) : Prop :=
  ∀ (l : Nat) (J Jx : List α → World → Prop) (W : World), w.heap.size ≤ l → l < W.heap.size → Below w.heap.size w W → (∀ s X X' row, J s X → X.grownBy X' row → (∀ r, row = some r → V r) → J s X') →
    (∀ s X X' row, Jx s X → X.grownBy X' row → (∀ r, row = some r → V r) → Jx s X') →
    (∀ pre x X, pre.length < N → J pre X → YieldAt F (n - 1) P l (encs x) X fun e X' => (e = .returned (.bool true) ∧ G x ∧ J (pre ++ [x]) X' ∧ KpV (fun k => k = l ∨ E k) X X') ∨ (e = .returned (.bool false) ∧ Jx (pre ++ [x]) X' ∧ KpV (fun k => k = l ∨ E k) X X')) →
    J [] W → CallsIn F n P g (#[.func (.yield l) #[] #[]] ++ lb) W fun e X => (∃ v, e = .returned v) ∧ ((∃ xs, S xs ∧ J xs X ∧ T X) ∨ ∃ pre, Sp pre ∧ Jx pre X)
set_option maxHeartbeats 1000000 in
/-- The caller's law. -/
theorem wpIn_rangeX {α : Type} {F : Fence} {n : Nat} {P : Program} {V E : Nat → Prop} {g : Operand} {ps : Array Tmp} {assign body : Code} {Q : Exit → Act → World → Prop} {a : Act} {w : World}
    (hro : F.round = none) (h1 : 1 ≤ n) {gf : Nat} {lb : Array Value} (hg : a.eval g = .func (.func gf) #[] lb) (hFg : F.fn gf) (eg : ∀ args w, (callFunc gf args).run P w = .ok (.enter gf args) w)
    {encs : α → Array Value} {G : α → Prop} {S Sp : List α → Prop} {T : World → Prop} {N : Nat} {w0 : World} (hseq : SeqX N V E F (n - 1) P gf lb encs G S Sp T w0) (hVl : ∀ k, V k → k < w.heap.size) (hb0 : Below w0.heap.size w0 w) (hps : ∀ x, (encs x).size = ps.size)
    (I : List α → World → Prop) (Ix : Code → List α → World → Prop) (hI : StaysR V w.heap.size I) (hIx : ∀ c, StaysR V w.heap.size (Ix c)) (hG : ∀ pre x X, I (pre ++ [x]) X → G x) (hT : StaysR (fun _ => False) w.heap.size (fun (_ : Unit) => T)) (h0 : I [] w) (A₁ : α → Act → World → Prop) (hA : ∀ x a', StaysR V w.heap.size (fun (_ : Unit) => A₁ x a'))
    (hassign : ∀ (l : Nat) (x : α) (W : World) (K : Act → World → Prop), w.heap.size ≤ W.heap.size → (∀ a' W', W.grownBy W' none → A₁ x a' W' → K a' W') →
      assign.wpIn (F.inRound l) (n - 1 - 1) P (Exit.then K (fun _ _ _ => False)) { tmps := (ps.zip (encs x)).foldl (fun t (p, v) => t.setIfInBounds p v) a.tmps, defers := [] } W)
    (hbody : ∀ (l : Nat) (pre : List α) (x : α) (a' : Act) (W : World), pre.length < N → I pre W → A₁ x a' W → body.wpIn (F.inRound l) (n - 1 - 1) P (ownPostX w.heap.size (KpV E) I Ix (pre ++ [x]) W) a' W)
    (hdone : ∀ (D : Nat) (xs : List α) (W : World), w.heap.size ≤ D → S xs → I xs W → T W → W.heap[D]? = some (.deferred (some [])) → Q .normal { a with defers := { target := .collected D, args := #[] } :: a.defers } W)
    (hstop : ∀ (D : Nat) (c : Code) (pre : List α) (W : World), w.heap.size ≤ D → Sp pre → Ix c pre W → W.heap[D]? = some (.deferred (some [])) → c.wpIn F n P Q { a with defers := { target := .collected D, args := #[] } :: a.defers } W) :
    (Code.rangeFunc g ps assign body).wpIn F n P Q a w := by
  refine wpIn_rangeFunc fun fn hfn => ?_
  rw [hro]
  generalize hB : w.heap.size = B at *
  obtain ⟨rc, hrc⟩ : ∃ rc : LoopState → Option Code → Loop, rc = fun st pe => { state := st, pending := pe, fn, tmps := a.tmps, params := ps, assign, body, defers := B } := ⟨_, rfl⟩
  obtain ⟨W1, hW1⟩ : ∃ W1, (w.alloc (.deferred (some []))).alloc (.loop (rc .ready none)) = W1 := ⟨_, rfl⟩
  have bel1 : Below B w W1 := by rw [← hW1]; exact ((Below.refl _ w).alloc (Nat.le_of_eq hB.symm) _).alloc (by simp; omega) _
  have hD1 : W1.heap[B]? = some (.deferred (some [])) := by
    rw [← hW1]
    refine (Below.heap_alloc _ _ _ (by simp; omega)).trans ?_
    have := World.alloc_heap_new w (.deferred (some []))
    rwa [hB] at this
  have hL1 : W1.heap[B + 1]? = some (.loop (rc .ready none)) := by
    have := World.alloc_heap_new (w.alloc (.deferred (some []))) (.loop (rc .ready none))
    rwa [World.size_alloc, hB, hW1] at this
  have hz1 : W1.heap.size = B + 2 := by rw [← hW1]; simp; omega
  have hi1 : I [] W1 := by
    rw [← hW1]
    exact hI _ _ _ none (hI _ _ _ none h0 (World.grownBy_alloc w _ none) (fun r e => by cases e)) (World.grownBy_alloc _ _ none) (fun r e => by cases e)
  have put : ∀ {G : List α → World → Prop} (_ : StaysR V B G) {s : List α} {W : World} {r : Loop} (o : Obj), G s W → W.heap[B + 1]? = some (.loop r) → G s (W.putObj (B + 1) o) := fun hG s W r o hs hl =>
    hG s W _ (some (B + 1)) hs (grownBy_putObj' W (B + 1) o) (fun k e => by cases e; exact .inr ⟨by omega, _, hl, rfl⟩)
  refine ⟨B + 1, [{ target := .collected B, args := #[] }], W1, { target := .fn (.func gf) lb, args := #[.func (.yield (B + 1)) #[] #[]] }, W1, gf, #[.func (.yield (B + 1)) #[] #[]] ++ lb, W1, ?_, by simp only [resolve, hg]; simp [go_sem], ?_, by simp [invoke, go_sem, eg], fun _ => h1, ?_⟩
  · rw [← hW1, hrc, ← hB]
    exact run_enterLoop_outer _ _ _ _ _
  · intro f' hf'
    simp [Target.leads] at hf'
    subst hf'
    exact hFg
  have stay : ∀ {G : List α → World → Prop} (_ : StaysR V B G) (ro : Loop) (s : List α) (X X' : World) (row : Option Nat), (G s X ∧ X.heap[B + 1]? = some (.loop ro) ∧ X.heap[B]? = some (.deferred (some []))) → X.grownBy X' row → (∀ r, row = some r → V r) → G s X' ∧ X'.heap[B + 1]? = some (.loop ro) ∧ X'.heap[B]? = some (.deferred (some [])) := fun hG ro s X X' row h hgr hr =>
    ⟨hG s X X' row h.1 hgr (fun r e => .inl (hr r e)), (hgr.block _ (Array.getElem?_eq_some_iff.1 h.2.1).1 (fun e => by have := hVl _ (hr _ e.symm); omega)).trans h.2.1, (hgr.block _ (Array.getElem?_eq_some_iff.1 h.2.2).1 (fun e => by have := hVl _ (hr _ e.symm); omega)).trans h.2.2⟩
  refine (hseq (B + 1) (fun s X => I s X ∧ X.heap[B + 1]? = some (.loop (rc .ready none)) ∧ X.heap[B]? = some (.deferred (some [])))
    (fun s X => ∃ c, Ix c s X ∧ X.heap[B + 1]? = some (.loop (rc .done (some c))) ∧ X.heap[B]? = some (.deferred (some []))) W1 (by have := hb0.size; omega) (by omega) (hb0.trans (bel1.mono (by rw [← hB]; exact hb0.size)))
    (fun s X X' row h hgr hr => stay hI _ s X X' row h hgr hr) (fun s X X' row ⟨c, h⟩ hgr hr => ⟨c, stay (hIx c) _ s X X' row h hgr hr⟩) ?_ ⟨hi1, hL1, hD1⟩).mono ?_
  · rintro pre x X hN ⟨hi, hl, hd⟩
    have hlt : B + 1 < X.heap.size := (Array.getElem?_eq_some_iff.1 hl).1
    have hy := run_yield (P := P) (args := encs x) hl (by rw [hrc]; exact hps x)
    rw [hrc] at hy
    refine ⟨fn, _, assign, body, hy, roundIn_of_wpIn hfn (hassign _ x X _ (by omega) fun a' X1 hg1 hA1 => ?_)⟩
    have kp1 : KpV (fun k => k = B + 1 ∨ E k) X X1 := KpV.grown hg1 (fun r e => by cases e)
    have hi1' : I pre X1 := hI _ _ _ none hi hg1 (fun r e => by cases e)
    have hl1 : X1.heap[B + 1]? = some (.loop (rc .ready none)) := (hg1.block _ hlt (fun e => by cases e)).trans hl
    have hd1' : X1.heap[B]? = some (.deferred (some [])) := (hg1.block _ (by omega) (fun e => by cases e)).trans hd
    have hlt1 : B + 1 < X1.heap.size := (Array.getElem?_eq_some_iff.1 hl1).1
    refine ⟨_, run_beginRound hl1 (by rw [hrc]), wpIn_mono (hbody _ pre x a' _ hN (put hI _ hi1' hl1) (hA x a' () _ _ (some (B + 1)) hA1 (grownBy_putObj' X1 (B + 1) _) (fun k e => by cases e; exact .inr ⟨by omega, _, hl1, rfl⟩))) ?_⟩
    obtain ⟨X2, hX2⟩ : ∃ X2, X1.putObj (B + 1) (.loop { rc .ready none with state := .busy }) = X2 := ⟨_, rfl⟩
    rw [hX2]
    have hl2 : X2.heap[B + 1]? = some (.loop { rc .ready none with state := .busy }) := by rw [← hX2]; exact World.putObj_heap_same hlt1
    have hd2 : X2.heap[B]? = some (.deferred (some [])) := by rw [← hX2]; exact (World.putObj_heap_other (by omega)).trans hd1'
    have kp2 : KpV (fun k => k = B + 1 ∨ E k) X X2 := by rw [← hX2]; exact kp1.trans (KpV.put X1 _ _ (.inl rfl))
    have last : ∀ (j : Option Code) (X3 : World), KeepsFrom B X2 X3 → (Instr.endRound (B + 1) j).run P X3 = .ok (.bool j.isNone) (X3.putObj (B + 1) (.loop (rc (if j.isNone then .ready else .done) j))) ∧ X3.heap[B + 1]? = some (.loop { rc .ready none with state := .busy }) ∧ (X3.putObj (B + 1) (.loop (rc (if j.isNone then .ready else .done) j))).heap[B + 1]? = some (.loop (rc (if j.isNone then .ready else .done) j)) ∧ (X3.putObj (B + 1) (.loop (rc (if j.isNone then .ready else .done) j))).heap[B]? = some (.deferred (some [])) := fun j X3 hk => by
      have hl3 := hk.same _ _ (by omega) hl2 rfl
      have hr := run_endRound (P := P) j hl3
      rw [hrc] at hr hl3 ⊢
      exact ⟨hr, hl3, World.putObj_heap_same (Array.getElem?_eq_some_iff.1 hl3).1, (World.putObj_heap_other (by omega)).trans (hk.same _ _ (Nat.le_refl _) hd2 rfl)⟩
    rintro e a3 X3 hp
    cases e with
    | normal =>
      obtain ⟨hk, kp3, hi3⟩ := hp
      obtain ⟨hr, hl3, hl4, hd4⟩ := last none X3 hk
      exact ⟨_, _, hr, .inl ⟨rfl, hG _ _ _ hi3, ⟨put hI _ hi3 hl3, hl4, hd4⟩, (kp2.trans (kp3.mono fun _ h => .inr h)).trans (KpV.put X3 _ _ (.inl rfl))⟩⟩
    | ret =>
      obtain ⟨hr, hl3, hl4, hd4⟩ := last (some .ret) X3 hp.1
      exact ⟨_, _, hr, .inr ⟨rfl, ⟨.ret, put (hIx _) _ hp.2.2 hl3, hl4, hd4⟩, (kp2.trans (hp.2.1.mono fun _ h => .inr h)).trans (KpV.put X3 _ _ (.inl rfl))⟩⟩
    | exit id =>
      obtain ⟨hr, hl3, hl4, hd4⟩ := last (some (.exit id)) X3 hp.1
      exact ⟨_, _, hr, .inr ⟨rfl, ⟨.exit id, put (hIx _) _ hp.2.2 hl3, hl4, hd4⟩, (kp2.trans (hp.2.1.mono fun _ h => .inr h)).trans (KpV.put X3 _ _ (.inl rfl))⟩⟩
    | goto t =>
      obtain ⟨hr, hl3, hl4, hd4⟩ := last (some (.goto t)) X3 hp.1
      exact ⟨_, _, hr, .inr ⟨rfl, ⟨.goto t, put (hIx _) _ hp.2.2 hl3, hl4, hd4⟩, (kp2.trans (hp.2.1.mono fun _ h => .inr h)).trans (KpV.put X3 _ _ (.inl rfl))⟩⟩
    | panic ch => exact hp.elim
    | outgrown => exact hp.elim
  · rintro e X2 ⟨⟨v, rfl⟩, (⟨xs, hS, ⟨hi, hl, hd⟩, ht⟩ | ⟨pre, hSp, c, hi, hl, hd⟩)⟩
    · refine ⟨none, X2.putObj (B + 1) (.loop { rc .ready none with state := .exhausted }), ?_, hdone _ xs _ (Nat.le_refl _) hS (put hI _ hi hl) (hT () _ _ (some (B + 1)) ht (grownBy_putObj' X2 (B + 1) _) (fun k e => by cases e; exact .inr ⟨by omega, _, hl, rfl⟩)) ((World.putObj_heap_other (by omega)).trans hd)⟩
      have := run_endLoop (P := P) hl (by rw [hrc]; simp)
      rw [hrc] at this ⊢
      exact this
    · refine ⟨some c, X2.putObj (B + 1) (.loop { rc .done (some c) with state := .exhausted }), ?_, hstop _ c pre _ (Nat.le_refl _) hSp (put (hIx c) _ hi hl) ((World.putObj_heap_other (by omega)).trans hd)⟩
      have := run_endLoop (P := P) hl (by rw [hrc]; simp)
      rw [hrc] at this ⊢
      exact this

end Go.Proofs.YtkmphiakciihfaaDoor

namespace Go.Proofs.YtkmphiakciihfaaDoor
open Go.RowKit

/-- The contract. -/
def SeqP {α : Type} (N : Nat) (M : List α → α → World → World → Prop) (Nd : World → Prop) (E : Nat → Prop) (F : Fence) (n : Nat) (P : Program) (g : Nat) (lb : Array Value) (encs : α → Array Value) (S Sp : List α → Prop) (w : World) : Prop :=
  ∀ (l : Nat) (J : List α → World → Prop) (J2 : List α × α → World → Prop) (Jx : List α → World → Prop) (W : World), w.heap.size ≤ l → l < W.heap.size → Below w.heap.size w W → (∀ s X, J s X → Nd X) → (∀ s X X', J s X → X.grownBy X' none → J s X') →
    (∀ s X X', Jx s X → X.grownBy X' none → Jx s X') →
    (∀ pre x X X', pre.length < N → J pre X → M pre x X X' → J2 (pre, x) X') →
    (∀ pre x X, pre.length < N → J2 (pre, x) X → YieldAt F (n - 1) P l (encs x) X fun e X' => (e = .returned (.bool true) ∧ J (pre ++ [x]) X' ∧ KpV (fun k => k = l ∨ E k) X X') ∨ (e = .returned (.bool false) ∧ Jx (pre ++ [x]) X' ∧ KpV (fun k => k = l ∨ E k) X X')) →
    J [] W → CallsIn F n P g (#[.func (.yield l) #[] #[]] ++ lb) W fun e X => (∃ v, e = .returned v) ∧ ((∃ xs, S xs ∧ J xs X) ∨ ∃ pre, Sp pre ∧ Jx pre X)
set_option maxHeartbeats 1000000 in
/-- The caller's law. -/
theorem wpIn_rangeP {α : Type} {F : Fence} {n : Nat} {P : Program} {M : List α → α → World → World → Prop} {Nd : World → Prop} {V E : Nat → Prop} {g : Operand} {ps : Array Tmp} {assign body : Code} {Q : Exit → Act → World → Prop} {a : Act} {w : World}
    (hro : F.round = none) (h1 : 1 ≤ n) {gf : Nat} {lb : Array Value} (hg : a.eval g = .func (.func gf) #[] lb) (hFg : F.fn gf) (eg : ∀ args w, (callFunc gf args).run P w = .ok (.enter gf args) w)
    {encs : α → Array Value} {S Sp : List α → Prop} {N : Nat} {w0 : World} (hseq : SeqP N M Nd E F (n - 1) P gf lb encs S Sp w0) (hMV : ∀ pre x X X', M pre x X X' → KpV V X X') (hVl : ∀ k, V k → k < w.heap.size) (hb0 : Below w0.heap.size w0 w) (hps : ∀ x, (encs x).size = ps.size)
    (I : List α → World → Prop) (I2 : List α × α → World → Prop) (Ix : Code → List α → World → Prop) (hI : StaysR (fun _ => False) w.heap.size I) (hI2 : StaysR (fun _ => False) w.heap.size I2) (hIx : ∀ c, StaysR (fun _ => False) w.heap.size (Ix c)) (hM : ∀ pre x X X', pre.length < N → I pre X → M pre x X X' → I2 (pre, x) X') (hNd : ∀ s X, I s X → Nd X) (h0 : I [] w) (A₁ : α → Act → World → Prop) (hA : ∀ x a', StaysR (fun _ => False) w.heap.size (fun (_ : Unit) => A₁ x a'))
    (hassign : ∀ (l : Nat) (x : α) (W : World) (K : Act → World → Prop), w.heap.size ≤ W.heap.size → (∀ a' W', W.grownBy W' none → A₁ x a' W' → K a' W') →
      assign.wpIn (F.inRound l) (n - 1 - 1) P (Exit.then K (fun _ _ _ => False)) { tmps := (ps.zip (encs x)).foldl (fun t (p, v) => t.setIfInBounds p v) a.tmps, defers := [] } W)
    (hbody : ∀ (l : Nat) (pre : List α) (x : α) (a' : Act) (W : World), pre.length < N → I2 (pre, x) W → A₁ x a' W → body.wpIn (F.inRound l) (n - 1 - 1) P (ownPostX w.heap.size (KpV E) I Ix (pre ++ [x]) W) a' W)
    (hdone : ∀ (D : Nat) (xs : List α) (W : World), w.heap.size ≤ D → S xs → I xs W → W.heap[D]? = some (.deferred (some [])) → Q .normal { a with defers := { target := .collected D, args := #[] } :: a.defers } W)
    (hstop : ∀ (D : Nat) (c : Code) (pre : List α) (W : World), w.heap.size ≤ D → Sp pre → Ix c pre W → W.heap[D]? = some (.deferred (some [])) → c.wpIn F n P Q { a with defers := { target := .collected D, args := #[] } :: a.defers } W) :
    (Code.rangeFunc g ps assign body).wpIn F n P Q a w := by
  refine wpIn_rangeFunc fun fn hfn => ?_
  rw [hro]
  generalize hB : w.heap.size = B at *
  obtain ⟨rc, hrc⟩ : ∃ rc : LoopState → Option Code → Loop, rc = fun st pe => { state := st, pending := pe, fn, tmps := a.tmps, params := ps, assign, body, defers := B } := ⟨_, rfl⟩
  obtain ⟨W1, hW1⟩ : ∃ W1, (w.alloc (.deferred (some []))).alloc (.loop (rc .ready none)) = W1 := ⟨_, rfl⟩
  have bel1 : Below B w W1 := by rw [← hW1]; exact ((Below.refl _ w).alloc (Nat.le_of_eq hB.symm) _).alloc (by simp; omega) _
  have hD1 : W1.heap[B]? = some (.deferred (some [])) := by
    rw [← hW1]
    refine (Below.heap_alloc _ _ _ (by simp; omega)).trans ?_
    have := World.alloc_heap_new w (.deferred (some []))
    rwa [hB] at this
  have hL1 : W1.heap[B + 1]? = some (.loop (rc .ready none)) := by
    have := World.alloc_heap_new (w.alloc (.deferred (some []))) (.loop (rc .ready none))
    rwa [World.size_alloc, hB, hW1] at this
  have hz1 : W1.heap.size = B + 2 := by rw [← hW1]; simp; omega
  have hi1 : I [] W1 := by
    rw [← hW1]
    exact hI _ _ _ none (hI _ _ _ none h0 (World.grownBy_alloc w _ none) (fun r e => by cases e)) (World.grownBy_alloc _ _ none) (fun r e => by cases e)
  have put : ∀ {β : Type} {G : β → World → Prop} (_ : StaysR (fun _ => False) B G) {s : β} {W : World} {r : Loop} (o : Obj), G s W → W.heap[B + 1]? = some (.loop r) → G s (W.putObj (B + 1) o) := fun hG s W r o hs hl =>
    hG s W _ (some (B + 1)) hs (grownBy_putObj' W (B + 1) o) (fun k e => by cases e; exact .inr ⟨by omega, _, hl, rfl⟩)
  refine ⟨B + 1, [{ target := .collected B, args := #[] }], W1, { target := .fn (.func gf) lb, args := #[.func (.yield (B + 1)) #[] #[]] }, W1, gf, #[.func (.yield (B + 1)) #[] #[]] ++ lb, W1, ?_, by simp only [resolve, hg]; simp [go_sem], ?_, by simp [invoke, go_sem, eg], fun _ => h1, ?_⟩
  · rw [← hW1, hrc, ← hB]
    exact run_enterLoop_outer _ _ _ _ _
  · intro f' hf'
    simp [Target.leads] at hf'
    subst hf'
    exact hFg
  have stay : ∀ {G : List α → World → Prop} (_ : StaysR (fun _ => False) B G) (ro : Loop) (s : List α) (X X' : World), (G s X ∧ X.heap[B + 1]? = some (.loop ro) ∧ X.heap[B]? = some (.deferred (some []))) → X.grownBy X' none → G s X' ∧ X'.heap[B + 1]? = some (.loop ro) ∧ X'.heap[B]? = some (.deferred (some [])) := fun hG ro s X X' h hgr =>
    ⟨hG s X X' none h.1 hgr (fun r e => by cases e), (hgr.block _ (Array.getElem?_eq_some_iff.1 h.2.1).1 (fun e => by cases e)).trans h.2.1, (hgr.block _ (Array.getElem?_eq_some_iff.1 h.2.2).1 (fun e => by cases e)).trans h.2.2⟩
  refine (hseq (B + 1) (fun s X => I s X ∧ X.heap[B + 1]? = some (.loop (rc .ready none)) ∧ X.heap[B]? = some (.deferred (some [])))
    (fun s X => I2 s X ∧ X.heap[B + 1]? = some (.loop (rc .ready none)) ∧ X.heap[B]? = some (.deferred (some [])))
    (fun s X => ∃ c, Ix c s X ∧ X.heap[B + 1]? = some (.loop (rc .done (some c))) ∧ X.heap[B]? = some (.deferred (some []))) W1 (by have := hb0.size; omega) (by omega) (hb0.trans (bel1.mono (by rw [← hB]; exact hb0.size)))
    (fun s X h => hNd s X h.1) (fun s X X' h hgr => stay hI _ s X X' h hgr) (fun s X X' ⟨c, h⟩ hgr => ⟨c, stay (hIx c) _ s X X' h hgr⟩)
    (fun pre x X X' hN h hm => ⟨hM pre x X X' hN h.1 hm, ((hMV pre x X X' hm).2 _ (Array.getElem?_eq_some_iff.1 h.2.1).1 (fun e => by have := hVl _ e; omega)).trans h.2.1, ((hMV pre x X X' hm).2 _ (Array.getElem?_eq_some_iff.1 h.2.2).1 (fun e => by have := hVl _ e; omega)).trans h.2.2⟩) ?_ ⟨hi1, hL1, hD1⟩).mono ?_
  · rintro pre x X hN ⟨hi, hl, hd⟩
    have hlt : B + 1 < X.heap.size := (Array.getElem?_eq_some_iff.1 hl).1
    have hy := run_yield (P := P) (args := encs x) hl (by rw [hrc]; exact hps x)
    rw [hrc] at hy
    refine ⟨fn, _, assign, body, hy, roundIn_of_wpIn hfn (hassign _ x X _ (by omega) fun a' X1 hg1 hA1 => ?_)⟩
    have kp1 : KpV (fun k => k = B + 1 ∨ E k) X X1 := KpV.grown hg1 (fun r e => by cases e)
    have hi1' : I2 (pre, x) X1 := hI2 _ _ _ none hi hg1 (fun r e => by cases e)
    have hl1 : X1.heap[B + 1]? = some (.loop (rc .ready none)) := (hg1.block _ hlt (fun e => by cases e)).trans hl
    have hd1' : X1.heap[B]? = some (.deferred (some [])) := (hg1.block _ (by omega) (fun e => by cases e)).trans hd
    have hlt1 : B + 1 < X1.heap.size := (Array.getElem?_eq_some_iff.1 hl1).1
    refine ⟨_, run_beginRound hl1 (by rw [hrc]), wpIn_mono (hbody _ pre x a' _ hN (put hI2 _ hi1' hl1) (hA x a' () _ _ (some (B + 1)) hA1 (grownBy_putObj' X1 (B + 1) _) (fun k e => by cases e; exact .inr ⟨by omega, _, hl1, rfl⟩))) ?_⟩
    obtain ⟨X2, hX2⟩ : ∃ X2, X1.putObj (B + 1) (.loop { rc .ready none with state := .busy }) = X2 := ⟨_, rfl⟩
    rw [hX2]
    have hl2 : X2.heap[B + 1]? = some (.loop { rc .ready none with state := .busy }) := by rw [← hX2]; exact World.putObj_heap_same hlt1
    have hd2 : X2.heap[B]? = some (.deferred (some [])) := by rw [← hX2]; exact (World.putObj_heap_other (by omega)).trans hd1'
    have kp2 : KpV (fun k => k = B + 1 ∨ E k) X X2 := by rw [← hX2]; exact kp1.trans (KpV.put X1 _ _ (.inl rfl))
    have last : ∀ (j : Option Code) (X3 : World), KeepsFrom B X2 X3 → (Instr.endRound (B + 1) j).run P X3 = .ok (.bool j.isNone) (X3.putObj (B + 1) (.loop (rc (if j.isNone then .ready else .done) j))) ∧ X3.heap[B + 1]? = some (.loop { rc .ready none with state := .busy }) ∧ (X3.putObj (B + 1) (.loop (rc (if j.isNone then .ready else .done) j))).heap[B + 1]? = some (.loop (rc (if j.isNone then .ready else .done) j)) ∧ (X3.putObj (B + 1) (.loop (rc (if j.isNone then .ready else .done) j))).heap[B]? = some (.deferred (some [])) := fun j X3 hk => by
      have hl3 := hk.same _ _ (by omega) hl2 rfl
      have hr := run_endRound (P := P) j hl3
      rw [hrc] at hr hl3 ⊢
      exact ⟨hr, hl3, World.putObj_heap_same (Array.getElem?_eq_some_iff.1 hl3).1, (World.putObj_heap_other (by omega)).trans (hk.same _ _ (Nat.le_refl _) hd2 rfl)⟩
    rintro e a3 X3 hp
    cases e with
    | normal =>
      obtain ⟨hk, kp3, hi3⟩ := hp
      obtain ⟨hr, hl3, hl4, hd4⟩ := last none X3 hk
      exact ⟨_, _, hr, .inl ⟨rfl, ⟨put hI _ hi3 hl3, hl4, hd4⟩, (kp2.trans (kp3.mono fun _ h => .inr h)).trans (KpV.put X3 _ _ (.inl rfl))⟩⟩
    | ret =>
      obtain ⟨hr, hl3, hl4, hd4⟩ := last (some .ret) X3 hp.1
      exact ⟨_, _, hr, .inr ⟨rfl, ⟨.ret, put (hIx _) _ hp.2.2 hl3, hl4, hd4⟩, (kp2.trans (hp.2.1.mono fun _ h => .inr h)).trans (KpV.put X3 _ _ (.inl rfl))⟩⟩
    | exit id =>
      obtain ⟨hr, hl3, hl4, hd4⟩ := last (some (.exit id)) X3 hp.1
      exact ⟨_, _, hr, .inr ⟨rfl, ⟨.exit id, put (hIx _) _ hp.2.2 hl3, hl4, hd4⟩, (kp2.trans (hp.2.1.mono fun _ h => .inr h)).trans (KpV.put X3 _ _ (.inl rfl))⟩⟩
    | goto t =>
      obtain ⟨hr, hl3, hl4, hd4⟩ := last (some (.goto t)) X3 hp.1
      exact ⟨_, _, hr, .inr ⟨rfl, ⟨.goto t, put (hIx _) _ hp.2.2 hl3, hl4, hd4⟩, (kp2.trans (hp.2.1.mono fun _ h => .inr h)).trans (KpV.put X3 _ _ (.inl rfl))⟩⟩
    | panic ch => exact hp.elim
    | outgrown => exact hp.elim
  · rintro e X2 ⟨⟨v, rfl⟩, (⟨xs, hS, hi, hl, hd⟩ | ⟨pre, hSp, c, hi, hl, hd⟩)⟩
    · refine ⟨none, X2.putObj (B + 1) (.loop { rc .ready none with state := .exhausted }), ?_, hdone _ xs _ (Nat.le_refl _) hS (put hI _ hi hl) ((World.putObj_heap_other (by omega)).trans hd)⟩
      have := run_endLoop (P := P) hl (by rw [hrc]; simp)
      rw [hrc] at this ⊢
      exact this
    · refine ⟨some c, X2.putObj (B + 1) (.loop { rc .done (some c) with state := .exhausted }), ?_, hstop _ c pre _ (Nat.le_refl _) hSp (put (hIx c) _ hi hl) ((World.putObj_heap_other (by omega)).trans hd)⟩
      have := run_endLoop (P := P) hl (by rw [hrc]; simp)
      rw [hrc] at this ⊢
      exact this

set_option maxHeartbeats 1000000 in
/-- The same where what the assignment leaves is known ahead. -/
theorem wpIn_rangeP1 {α : Type} {F : Fence} {n : Nat} {P : Program} {M : List α → α → World → World → Prop} {Nd : World → Prop} {V E : Nat → Prop} {g : Operand} {ps : Array Tmp} {assign body : Code} {Q : Exit → Act → World → Prop} {a : Act} {w : World}
    (hro : F.round = none) (h1 : 1 ≤ n) {gf : Nat} {lb : Array Value} (hg : a.eval g = .func (.func gf) #[] lb) (hFg : F.fn gf) (eg : ∀ args w, (callFunc gf args).run P w = .ok (.enter gf args) w)
    {encs : α → Array Value} {S Sp : List α → Prop} {N : Nat} {w0 : World} (hseq : SeqP N M Nd E F (n - 1) P gf lb encs S Sp w0) (hMV : ∀ pre x X X', M pre x X X' → KpV V X X') (hVl : ∀ k, V k → k < w.heap.size) (hb0 : Below w0.heap.size w0 w) (hps : ∀ x, (encs x).size = ps.size)
    (I : List α → World → Prop) (I2 : List α × α → World → Prop) (Ix : Code → List α → World → Prop) (hI : StaysR (fun _ => False) w.heap.size I) (hI2 : StaysR (fun _ => False) w.heap.size I2) (hIx : ∀ c, StaysR (fun _ => False) w.heap.size (Ix c)) (hM : ∀ pre x X X', pre.length < N → I pre X → M pre x X X' → I2 (pre, x) X') (hNd : ∀ s X, I s X → Nd X) (h0 : I [] w) (a₁ : α → Act)
    (hassign : ∀ (l : Nat) (x : α) (W : World) (K : Act → World → Prop), K (a₁ x) W →
      assign.wpIn (F.inRound l) (n - 1 - 1) P (Exit.then K (fun _ _ _ => False)) { tmps := (ps.zip (encs x)).foldl (fun t (p, v) => t.setIfInBounds p v) a.tmps, defers := [] } W)
    (hbody : ∀ (l : Nat) (pre : List α) (x : α) (W : World), pre.length < N → I2 (pre, x) W → body.wpIn (F.inRound l) (n - 1 - 1) P (ownPostX w.heap.size (KpV E) I Ix (pre ++ [x]) W) (a₁ x) W)
    (hdone : ∀ (D : Nat) (xs : List α) (W : World), w.heap.size ≤ D → S xs → I xs W → W.heap[D]? = some (.deferred (some [])) → Q .normal { a with defers := { target := .collected D, args := #[] } :: a.defers } W)
    (hstop : ∀ (D : Nat) (c : Code) (pre : List α) (W : World), w.heap.size ≤ D → Sp pre → Ix c pre W → W.heap[D]? = some (.deferred (some [])) → c.wpIn F n P Q { a with defers := { target := .collected D, args := #[] } :: a.defers } W) :
    (Code.rangeFunc g ps assign body).wpIn F n P Q a w :=
  wpIn_rangeP hro h1 hg hFg eg hseq hMV hVl hb0 hps I I2 Ix hI hI2 hIx hM hNd h0 (fun x a' _ => a' = a₁ x) (fun x a' s X X' row h hg hr => h)
    (fun l x W K hs hK => hassign l x W K (hK _ _ ⟨rfl, rfl, rfl, Nat.le_refl _, fun _ _ _ => rfl⟩ rfl)) (fun l pre x a' W hN hi ha => by subst ha; exact hbody l pre x W hN hi) hdone hstop

end Go.Proofs.YtkmphiakciihfaaDoor
