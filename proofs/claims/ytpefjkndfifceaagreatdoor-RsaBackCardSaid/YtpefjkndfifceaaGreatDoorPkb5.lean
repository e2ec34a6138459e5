/- Part of the proofs: what the functions that the law calls do. -/
import Derived.Test.YtpefjkndfifceaaGreatDoorPkb3
import Derived.Test.YtpefjkndfifceaaGreatDoorPkb4
import Derived.RangeFuncCalls
import Derived.RangeFuncLeaves
import Derived.Shelf.Abstract
import Derived.Shelf.RegionOpen
import Derived.WalkKit
import Derived.OwnWalkIn
import Derived.TacticsInMore
import Derived.LoopNIn
import Derived.LoopIn
import Derived.BigQuiet
import Derived.BigFrameIn
import Derived.Lib.AppendZerosOnto
import Derived.Laws.OwnMore
import Derived.WalkMore
import Derived.Laws.IdiomCopy
open Go.Lib renaming hid → zH
open List renaming setIfInBounds_toArray → zq1, set_cons_zero → zq2, set_cons_succ → zq3, getElem_toArray → zq4, getElem_cons_succ → zq5, getElem_cons_zero → zq6
set_option linter.unusedVariables false
set_option linter.unusedSimpArgs false
namespace Go.Proofs.YtpefjkndfifceaaGreatDoor
open Go.RowKit
def SeqU {α : Type} (T : TypeId → Prop) (F : Fence) (n : Nat) (P : Program) (g : Nat) (lb : Array Value) (encs : α → Array Value) (S Sp : List α → Prop) (w : World) : Prop :=
 ∀ (l : Nat) (J Jx : List α → World → Prop) (W : World), Below w.heap.size w W → (∀ s X X' row, J s X → X.grownBy X' row → (∀ r, row = some r → W.heap.size ≤ r ∧ ∃ o : Obj, X.heap[r]? = some o ∧ OwnT T o) → J s X') →
  (∀ s X X' row, Jx s X → X.grownBy X' row → (∀ r, row = some r → W.heap.size ≤ r ∧ ∃ o : Obj, X.heap[r]? = some o ∧ OwnT T o) → Jx s X') →
  (∀ pre x X, J pre X → YieldAt F (n - 1) P l (encs x) X fun e X' => (e = .returned (.bool true) ∧ J (pre ++ [x]) X' ∧ KpT T X X') ∨ (e = .returned (.bool false) ∧ Jx (pre ++ [x]) X')) →
  J [] W → CallsIn F n P g (#[.func (.yield l) #[] #[]] ++ lb) W fun e X => (∃ v, e = .returned v) ∧ ((∃ xs, S xs ∧ J xs X) ∨ ∃ pre, Sp pre ∧ Jx pre X)
set_option maxHeartbeats 1000000 in
theorem wpIn_rangeU {α : Type} {F : Fence} {n : Nat} {P : Program} {T : TypeId → Prop} {g : Operand} {ps : Array Tmp} {assign body : Code} {Q : Exit → Act → World → Prop} {a : Act} {w : World}
  (hro : F.round = none) (h1 : 1 ≤ n) {gf : Nat} {lb : Array Value} (hg : a.eval g = .func (.func gf) #[] lb) (hFg : F.fn gf) (eg : ∀ args w, (callFunc gf args).run P w = .ok (.enter gf args) w)
  {encs : α → Array Value} {S Sp : List α → Prop} {w0 : World} (hseq : SeqU T F (n - 1) P gf lb encs S Sp w0) (hb0 : Below w0.heap.size w0 w) (hps : ∀ x, (encs x).size = ps.size)
  (I : List α → World → Prop) (Ix : Code → List α → World → Prop) (hI : StaysT T w.heap.size I) (hIx : ∀ c, StaysT T w.heap.size (Ix c)) (h0 : I [] w) (a₁ : α → Act)
  (hassign : ∀ (l : Nat) (x : α) (W : World) (K : Act → World → Prop), K (a₁ x) W →
   assign.wpIn (F.inRound l) (n - 1 - 1) P (Exit.then K (fun _ _ _ => False)) { tmps := (ps.zip (encs x)).foldl (fun t (p, v) => t.setIfInBounds p v) a.tmps, defers := [] } W)
  (hbody : ∀ (l : Nat) (pre : List α) (x : α) (W : World), I pre W → body.wpIn (F.inRound l) (n - 1 - 1) P (ownPostG w.heap.size (KpT T) I Ix (pre ++ [x]) W) (a₁ x) W)
  (hdone : ∀ (D : Nat) (xs : List α) (W : World), w.heap.size ≤ D → S xs → I xs W → W.heap[D]? = some (.deferred (some [])) → Q .normal { a with defers := { target := .collected D, args := #[] } :: a.defers } W)
  (hstop : ∀ (D : Nat) (c : Code) (pre : List α) (W : World), w.heap.size ≤ D → Sp pre → Ix c pre W → W.heap[D]? = some (.deferred (some [])) → c.wpIn F n P Q { a with defers := { target := .collected D, args := #[] } :: a.defers } W) :
  (Code.rangeFunc g ps assign body).wpIn F n P Q a w := by
 refine wpIn_rangeFunc fun fn hfn => ?_
 rw [hro]
 generalize hB : w.heap.size = B at *
 obtain ⟨rc, hrc⟩ : ∃ rc : LoopState → Option Code → Loop, rc = fun st pe => { state := st, pending := pe, fn, tmps := a.tmps, params := ps, assign, body, defers := B } := ⟨_, rfl⟩
 obtain ⟨W1, hW1⟩ : ∃ W1, (w.alloc (.deferred (some []))).alloc (.loop (rc .ready none)) = W1 := ⟨_, rfl⟩
 have bel1 : Below B w W1 := by rw [← hW1]; exact ((Below.refl _ w).alloc (Nat.le_of_eq hB.symm) _).alloc (by simp; omega) _
 have hD1 : W1.heap[B]? = some (.deferred (some [])) := by
  rw [← hW1]
  refine (Below.heap_alloc _ _ _ (by simp; omega)).trans ?_
  have := World.alloc_heap_new w (.deferred (some []))
  rwa [hB] at this
 have hL1 : W1.heap[B + 1]? = some (.loop (rc .ready none)) := by
  have := World.alloc_heap_new (w.alloc (.deferred (some []))) (.loop (rc .ready none))
  rwa [World.size_alloc, hB, hW1] at this
 have hz1 : W1.heap.size = B + 2 := by rw [← hW1]; simp; omega
 have hi1 : I [] W1 := by
  rw [← hW1]
  exact hI _ _ _ none (hI _ _ _ none h0 (World.grownBy_alloc w _ none) (fun r e => by cases e)) (World.grownBy_alloc _ _ none) (fun r e => by cases e)
 have put : ∀ {G : List α → World → Prop} (_ : StaysT T B G) {s : List α} {W : World} {r : Loop} (o : Obj), G s W → W.heap[B + 1]? = some (.loop r) → G s (W.putObj (B + 1) o) := fun hG s W r o hs hl =>
  hG s W _ (some (B + 1)) hs (grownBy_putObj' W (B + 1) o) (fun k e => by cases e; exact ⟨by omega, _, hl, .inl rfl⟩)
 refine ⟨B + 1, [{ target := .collected B, args := #[] }], W1, { target := .fn (.func gf) lb, args := #[.func (.yield (B + 1)) #[] #[]] }, W1, gf, #[.func (.yield (B + 1)) #[] #[]] ++ lb, W1, ?_, by simp only [resolve, hg]; simp [go_sem], ?_, by simp [invoke, go_sem, eg], fun _ => h1, ?_⟩
 ·rw [← hW1, hrc, ← hB]
  exact run_enterLoop_outer _ _ _ _ _
 ·intro f' hf'
  simp [Target.leads] at hf'
  subst hf'
  exact hFg
 have stay : ∀ {G : List α → World → Prop} (_ : StaysT T B G) (ro : Loop) (s : List α) (X X' : World) (row : Option Nat), (G s X ∧ X.heap[B + 1]? = some (.loop ro) ∧ X.heap[B]? = some (.deferred (some []))) → X.grownBy X' row → (∀ r, row = some r → W1.heap.size ≤ r ∧ ∃ o : Obj, X.heap[r]? = some o ∧ OwnT T o) → G s X' ∧ X'.heap[B + 1]? = some (.loop ro) ∧ X'.heap[B]? = some (.deferred (some [])) := fun hG ro s X X' row h hgr hr =>
  ⟨hG s X X' row h.1 hgr (fun r e => ⟨by have := (hr r e).1; omega, (hr r e).2.elim fun o ho => ⟨o, ho.1, .inr ho.2⟩⟩), ownT_keeps hgr (fun r e => (hr r e).2) h.2.1 rfl rfl, ownT_keeps hgr (fun r e => (hr r e).2) h.2.2 rfl rfl⟩
 refine (hseq (B + 1) (fun s X => I s X ∧ X.heap[B + 1]? = some (.loop (rc .ready none)) ∧ X.heap[B]? = some (.deferred (some [])))
  (fun s X => ∃ c, Ix c s X ∧ X.heap[B + 1]? = some (.loop (rc .done (some c))) ∧ X.heap[B]? = some (.deferred (some []))) W1 (hb0.trans (bel1.mono (by rw [← hB]; exact hb0.size)))
  (fun s X X' row h hgr hr => stay hI _ s X X' row h hgr hr) (fun s X X' row ⟨c, h⟩ hgr hr => ⟨c, stay (hIx c) _ s X X' row h hgr hr⟩) ?_ ⟨hi1, hL1, hD1⟩).mono ?_
 ·rintro pre x X ⟨hi, hl, hd⟩
  have hlt : B + 1 < X.heap.size := (Array.getElem?_eq_some_iff.1 hl).1
  have hy := run_yield (P := P) (args := encs x) hl (by rw [hrc]; exact hps x)
  rw [hrc] at hy
  refine ⟨fn, _, assign, body, hy, roundIn_of_wpIn hfn (hassign _ x X _ ⟨_, run_beginRound hl (by rw [hrc]), wpIn_mono (hbody _ pre x _ (put hI _ hi hl)) ?_⟩)⟩
  obtain ⟨X2, hX2⟩ : ∃ X2, X.putObj (B + 1) (.loop { rc .ready none with state := .busy }) = X2 := ⟨_, rfl⟩
  rw [hX2]
  have hl2 : X2.heap[B + 1]? = some (.loop { rc .ready none with state := .busy }) := by rw [← hX2]; exact World.putObj_heap_same hlt
  have hd2 : X2.heap[B]? = some (.deferred (some [])) := by rw [← hX2]; exact (World.putObj_heap_other (by omega)).trans hd
  have kp2 : KpT T X X2 := by rw [← hX2]; exact KpT.put X _ _ _ hl rfl
  have last : ∀ (j : Option Code) (X3 : World), KeepsFrom B X2 X3 → (Instr.endRound (B + 1) j).run P X3 = .ok (.bool j.isNone) (X3.putObj (B + 1) (.loop (rc (if j.isNone then .ready else .done) j))) ∧ X3.heap[B + 1]? = some (.loop { rc .ready none with state := .busy }) ∧ (X3.putObj (B + 1) (.loop (rc (if j.isNone then .ready else .done) j))).heap[B + 1]? = some (.loop (rc (if j.isNone then .ready else .done) j)) ∧ (X3.putObj (B + 1) (.loop (rc (if j.isNone then .ready else .done) j))).heap[B]? = some (.deferred (some [])) := fun j X3 hk => by
   have hl3 := hk.same _ _ (by omega) hl2 rfl
   have hr := run_endRound (P := P) j hl3
   rw [hrc] at hr hl3 ⊢
   exact ⟨hr, hl3, World.putObj_heap_same (Array.getElem?_eq_some_iff.1 hl3).1, (World.putObj_heap_other (by omega)).trans (hk.same _ _ (Nat.le_refl _) hd2 rfl)⟩
  rintro e a3 X3 hp
  cases e with
  | normal =>
   obtain ⟨hk, kp3, hi3⟩ := hp
   obtain ⟨hr, hl3, hl4, hd4⟩ := last none X3 hk
   exact ⟨_, _, hr, .inl ⟨rfl, ⟨put hI _ hi3 hl3, hl4, hd4⟩, (kp2.trans kp3).trans (KpT.put X3 _ _ _ hl3 rfl)⟩⟩
  | ret =>
   obtain ⟨hr, hl3, hl4, hd4⟩ := last (some .ret) X3 hp.1
   exact ⟨_, _, hr, .inr ⟨rfl, .ret, put (hIx _) _ hp.2 hl3, hl4, hd4⟩⟩
  | exit id =>
   obtain ⟨hr, hl3, hl4, hd4⟩ := last (some (.exit id)) X3 hp.1
   exact ⟨_, _, hr, .inr ⟨rfl, .exit id, put (hIx _) _ hp.2 hl3, hl4, hd4⟩⟩
  | goto t =>
   obtain ⟨hr, hl3, hl4, hd4⟩ := last (some (.goto t)) X3 hp.1
   exact ⟨_, _, hr, .inr ⟨rfl, .goto t, put (hIx _) _ hp.2 hl3, hl4, hd4⟩⟩
  | panic ch => exact hp.elim
  | outgrown => exact hp.elim
 ·rintro e X2 ⟨⟨v, rfl⟩, (⟨xs, hS, hi, hl, hd⟩ | ⟨pre, hSp, c, hi, hl, hd⟩)⟩
  ·refine ⟨none, X2.putObj (B + 1) (.loop { rc .ready none with state := .exhausted }), ?_, hdone _ xs _ (Nat.le_refl _) hS (put hI _ hi hl) ((World.putObj_heap_other (by omega)).trans hd)⟩
   have := run_endLoop (P := P) hl (by rw [hrc]; simp)
   rw [hrc] at this ⊢
   exact this
  ·refine ⟨some c, X2.putObj (B + 1) (.loop { rc .done (some c) with state := .exhausted }), ?_, hstop _ c pre _ (Nat.le_refl _) hSp (put (hIx c) _ hi hl) ((World.putObj_heap_other (by omega)).trans hd)⟩
   have := run_endLoop (P := P) hl (by rw [hrc]; simp)
   rw [hrc] at this ⊢
   exact this
end Go.Proofs.YtpefjkndfifceaaGreatDoor
namespace Go.Proofs.YtpefjkndfifceaaGreatDoor.L5
open Go.RowKit
theorem idx128 (l : List Nat) (i : Nat) (hi : i < 128) (hl : l.length = 128) (w : World) : (Instr.index 183 (.agg (arrC .u8 l)) (.int .i64 (i : Int))).run Tryz.prog w = .ok (.int .u8 ((l[i]?.getD 0 : Nat) : Int)) w := by
 have hu : ∀ w, (underlying 183).run Tryz.prog w = .ok (.array 128 5) w := fun _ => by kernel_rfl
 have hs : ∀ w, (sizeOf 5).run Tryz.prog w = .ok 1 w := fun _ => by kernel_rfl
 have ha : ∀ w, (isAgg 5).run Tryz.prog w = .ok false w := fun _ => by kernel_rfl
 have hg := arrC_get .u8 l i (by omega)
 have h1 : 0 ≤ (i : Int) ∧ (i : Int) < ((128 : Nat) : Int) := by omega
 unfold Instr.index
 simp only [asIntOf, Sem.run_bind, Sem.run_pure, Result.andThen_ok, hu, if_pos h1, hs, Int.toNat_natCast, Nat.mul_one, part, ha]
 rw [hg]
 rfl
theorem scheduled_any (l : List Nat) (w : World) : Calls Tryz.prog 189 #[.agg (arrC .u8 l)] w fun e w' => e = .returned (.func (.func 204) #[] #[.pointer (some ⟨w.heap.size, 0, none⟩)]) ∧ w' = w.alloc (.cells (arrC .u8 l) 183) := by
 go_enter Tryz.func189, Tryz.ntmps189
 go_wp2
 go_ret
 exact ⟨rfl, rfl⟩
end Go.Proofs.YtpefjkndfifceaaGreatDoor.L5
namespace Go.Proofs.YtpefjkndfifceaaGreatDoor.L5
open Go.RowKit Go.Shelf
attribute [local go_sem] Oper.semAt_some
theorem extN_stays (l : List Nat) {i k : Nat} (hi : i < 16 + k) : ∀ j, g0 (extN l (k + j)) i = g0 (extN l k) i
 | 0 => rfl
 | j + 1 => by
  rw [← extN_stays l hi j, ← Nat.add_assoc]
  show g0 (extS (16 + (k + j)) (extN l (k + j))) i = _
  unfold extS g0
  rw [List.getElem?_set_ne (by omega)]
theorem told_eq (b : List Nat) {t k : Nat} (ht : t < 16 + k) (hk : k ≤ 64) : g0 (schedN b) t = g0 (extN (packN b 128) k) t := by
 have := extN_stays (packN b 128) ht (64 - k)
 rwa [show k + (64 - k) = 64 by omega] at this
def toldN (b : List Nat) (t : Nat) : List (Nat × Nat) := (List.range t).map fun i => (i, g0 (schedN b) i)
theorem toldN_succ (b : List Nat) (t : Nat) : toldN b (t + 1) = toldN b t ++ [(t, g0 (schedN b) t)] := by
 unfold toldN
 rw [List.range_succ, List.map_append]
 rfl
theorem set_get_ne (L : List Nat) (t x p v : Nat) (h : p ≠ t) (hv : L[p]?.getD 0 = v) : (L.set t x)[p]?.getD 0 = v := by
 rw [List.getElem?_set_ne (Ne.symm h), hv]
abbrev TW (E : TypeId) : Prop := E = 186
abbrev Pc (C : Nat × Nat → Prop) := { p : Nat × Nat // C p }
set_option maxRecDepth 100000 in
set_option maxHeartbeats 4000000 in
theorem scheduled_comes (fn : Nat) (hfn : 1 ≤ fn) (C : Nat × Nat → Prop) (bb : Nat) (bl : List Nat) (w : World) (hA : Arr .u8 183 w bb bl) (hl : bl.length = 128) (hb : ∀ x ∈ bl, x < 256) (hC : ∀ t, t < 80 → C (t, g0 (schedN bl) t)) :
  SeqU TW Fence.wide fn Tryz.prog 204 #[.pointer (some ⟨bb, 0, none⟩)] (fun x : Pc C => #[.int .i64 (x.1.1 : Int), .int .u64 (x.1.2 : Int)]) (fun xs => xs.map (·.1) = toldN bl 80) (fun _ => True) w := fun lp J Jx W hW hJ hJx hY h0 => by
 have hz : ∀ w, (zeroValue 186).run Tryz.prog w = .ok (.agg (arrC .u64 (List.replicate 80 0))) w := fun _ => by kernel_rfl
 have hA1 : Arr .u8 183 W bb bl := hA.below hW hA.lt
 have hA2 := zH (hA1.alloc (.cells (arrC .u64 (List.replicate 80 0)) 186))
 have hV2 := zH (show Arr .u64 186 (W.alloc (.cells (arrC .u64 (List.replicate 80 0)) 186)) W.heap.size (packN bl 0) from Go.heap_alloc_new W _)
 have hsz : (arrC .u8 bl).size = 128 := by rw [arrC_size, hl]
 have HSZ := zH hsz
 have HL := zH hl
 have HB := zH hb
 have HJ := zH hJ
 have HC := zH hC
 have H0 := zH h0
 clear hsz hl hb hA hA1 hJx hC
 refine callsIn_of_wp Tryz.func204 rfl trivial ?_ rfl
 simp only [Tryz.ntmps204, List.size_toArray, List.length_cons, List.length_nil, Nat.reduceAdd, Nat.reduceSub, Array.replicate_succ, Array.replicate_zero, List.push_toArray, List.append_toArray, List.nil_append, List.cons_append]
 refine wpIn_wide.2 ?_
 refine wp_scope_straight ?_
 go_wp2_with (refine wpList_load_row rfl _ _ rfl bb rfl _ (arrC .u8 bl) _ _ hA2.out Tryz.underlying183 rfl (by rw [HSZ.out]; kernel_rfl) ?_)
 have hJ2 := zH (HJ.out [] W (W.alloc (.cells (arrC .u64 (List.replicate 80 0)) 186)) none H0.out (World.grownBy_alloc W _ none) (fun r e => by cases e))
 obtain ⟨V, hV⟩ : ∃ V, V = W.heap.size := ⟨_, rfl⟩
 have HVW := zH hV
 have HV2 : Hid (Arr .u64 186 (W.alloc (.cells (arrC .u64 (List.replicate 80 0)) 186)) V (packN bl 0)) := by rw [hV]; exact hV2
 have hJ3 : Hid (J [] (W.alloc (.cells (arrC .u64 [0, 0, 0, 0, 0, 0, 0, 0, 0, 0, 0, 0, 0, 0, 0, 0, 0, 0, 0, 0, 0, 0, 0, 0, 0, 0, 0, 0, 0, 0, 0, 0, 0, 0, 0, 0, 0, 0, 0, 0, 0, 0, 0, 0, 0, 0, 0, 0, 0, 0, 0, 0, 0, 0, 0, 0, 0, 0, 0, 0, 0, 0, 0, 0, 0, 0, 0, 0, 0, 0, 0, 0, 0, 0, 0, 0, 0, 0, 0, 0]) 186))) := hJ2
 rw [← hV]
 clear hV hV2 hJ2 hA2
 refine (wpIn_wide (n := fn)).1 ?_
 gi_loopw [8] (fun iv wr => ∃ k : Nat, iv = .int .i64 (k : Int) ∧ k ≤ 128 ∧ Hid (Arr .u64 186 wr V (packN bl k) ∧ J [] wr)) (fun iv _ => 128 - (intOf iv).toNat)
 case atStart => exact ⟨0, rfl, by decide, HV2.out, hJ3.out⟩
 case round =>
  obtain ⟨k, rfl, hk, hI⟩ := hrel
  rcases Nat.lt_or_ge k 128 with hlt | hge
  ·have ix := idx128 bl k hlt HL.out
   have hy8 : g0 bl k < 256 := g0_lt HB.out (by decide) k
   unfold g0 at hy8
   obtain ⟨j, hj⟩ : ∃ j, j = k / 8 := ⟨_, rfl⟩
   have hj16 : j < 80 := by omega
   have hjc : (k : Int) / 8 = (j : Int) := by omega
   have hjc2 : Int.tdiv (k : Int) 8 = (j : Int) := by rw [Int.tdiv_eq_ediv_of_nonneg (by omega)]; omega
   obtain ⟨x, hx⟩ : ∃ x, x = g0 (packN bl k) j := ⟨_, rfl⟩
   have hx64 : x < 18446744073709551616 := hx ▸ g0_lt (packN_lt bl HB.out k) (by decide) j
   have hcj := hI.out.1.cell j (by rw [packN_len]; omega)
   have hfj := hI.out.1.frozen j
   rw [show (packN bl k)[j]?.getD 0 = x from hx.symm] at hcj
   obtain ⟨y, hy⟩ : ∃ y, y = bl[k]?.getD 0 := ⟨_, rfl⟩
   rw [← hy] at ix hy8
   obtain ⟨r, hr⟩ : ∃ r, r = (x * 256 % 18446744073709551616 ||| y) := ⟨_, rfl⟩
   have hor : bits BinOp.or IntKind.u64 (IntKind.u64.wrap ((x : Int) * 256)) (y : Int) = (r : Int) := by
    rw [show IntKind.u64.wrap ((x : Int) * 256) = ((x * 256 % 18446744073709551616 : Nat) : Int) by simp [IntKind.wrap, IntKind.bits, IntKind.signed], u64_or_nat _ _ (Nat.mod_lt _ (by decide)) (by omega), hr]
   have HP := zH (show packN bl (k + 1) = (packN bl k).set j r by rw [hr, hx, hy, hj]; rfl)
   clear hj hx hr hy
   gi_wp2
   go_roundw
   case rel => exact ⟨k + 1, by go_num, by omega, by rw [HP.out]; exact hI.out.1.stored j r _ rfl, HJ.out [] wr _ (some V) hI.out.2 (grown_set (x := wr) (y := wr) (g := V) ⟨rfl, rfl, rfl, Nat.le_refl _, fun _ _ _ => rfl⟩ j _) (fun q e => by cases e; exact ⟨by rw [HVW.out]; exact Nat.le_refl _, _, hI.out.1, .inr ⟨_, _, _, rfl, rfl⟩⟩)⟩
   case measure => simp [intOf]; omega
  ·obtain rfl : k = 128 := by omega
   gi_wp2_with fail
   clear hz HSZ HL H0 HV2 hJ3 hk hge h0 hW hJ
   refine (wpIn_wide (n := fn)).1 ?_
   gi_wp2_with fail
   refine wpIn_label ?_
   gi_wp2_with fail
   rename_i Qa Ka hKa
   clear hKa
   gi_loopw [24] (fun iv wr => ∃ t : Nat, iv = .int .i64 (t : Int) ∧ t ≤ 80 ∧ Hid (Arr .u64 186 wr V (extN (packN bl 128) (t - 16)) ∧ ∃ pre : List (Pc C), pre.map (·.1) = toldN bl t ∧ J pre wr)) (fun iv _ => 80 - (intOf iv).toNat)
   case atStart => exact ⟨0, rfl, by decide, hI.out.1, [], rfl, hI.out.2⟩
   case round =>
    clear hI
    obtain ⟨t, rfl, ht, hI⟩ := hrel
    rcases Nat.lt_or_ge t 80 with hlt | hge
    ·have hd1 : decide ((t : Int) < 80) = true := by simp; omega
     obtain ⟨v, hv⟩ : ∃ v, v = g0 (schedN bl) t := ⟨_, rfl⟩
     have HT := zH hv.symm
     have HV := zH (show g0 (extN (packN bl 128) (t + 1 - 16)) t = v by rw [hv, told_eq bl (k := t + 1 - 16) (by omega) (by omega)])
     rcases Nat.lt_or_ge t 16 with h16 | h16
     ·have hd2 : decide (16 ≤ (t : Int)) = false := by simp; omega
      have HA2 := zH (show Arr .u64 186 wr V (extN (packN bl 128) (t + 1 - 16)) from (show t + 1 - 16 = t - 16 by omega) ▸ hI.out.1)
      have HJ2 := zH hI.out.2
      clear hv hI
      obtain ⟨pre, hpre, hj2⟩ := HJ2.out
      have HPRE := zH hpre
      have hCx := HC.out t hlt
      rw [show g0 (schedN bl) t = v from HT.out] at hCx
      obtain ⟨fn1, tmps, assign, body, hy, hR⟩ := hY pre ⟨(t, v), hCx⟩ wr hj2
      clear hpre hj2
      dsimp only at hy
      have HR := zH hR
      clear hR
      have ct := HA2.out.cell t (by rw [extN_len _ (packN_len bl 128)]; omega)
      rw [show (extN (packN bl 128) (t + 1 - 16))[t]?.getD 0 = v from HV.out] at ct
      gi_wp2_with fail
      refine HR.out.mono ?_
      rintro e W3 (⟨rfl, hJ3, hk3⟩ | ⟨rfl, hx3⟩)
      ·have HA3 := zH (show Arr .u64 186 W3 V (extN (packN bl 128) (t + 1 - 16)) from hk3.2 V _ _ _ rfl HA2.out)
       have HJ3 := zH (show ∃ pre : List (Pc C), pre.map (·.1) = toldN bl (t + 1) ∧ J pre W3 from ⟨_, by rw [List.map_append, HPRE.out, toldN_succ, show g0 (schedN bl) t = v from HT.out]; rfl, hJ3⟩)
       clear hJ3 hk3 ct
       gi_wp2
       exact ⟨⟨t + 1, by go_num, by omega, HA3.out, HJ3.out⟩, by simp [intOf]; omega⟩
      ·have HX3 := zH hx3
       clear hx3 ct
       gi_wp2
       rw [Exit.noGoto_ret]
       refine bodyPost_ret (results_none rfl _ _ _) rfl ?_
       exact ⟨⟨_, rfl⟩, .inr ⟨_, trivial, HX3.out⟩⟩
     ·have hd2 : decide (16 ≤ (t : Int)) = true := by simp; omega
      have HE : Hid (extN (packN bl 128) (t + 1 - 16) = extS t (extN (packN bl 128) (t - 16))) := by
       rw [show t + 1 - 16 = (t - 16) + 1 by omega]
       show extS (16 + (t - 16)) _ = _
       rw [show 16 + (t - 16) = t by omega]
      have hl64 := zH (extN_len _ (packN_len bl 128) (t - 16))
      have hlt64 := zH (extN_lt _ (packN_lt bl HB.out 128) (t - 16))
      obtain ⟨L, hL⟩ : ∃ L, L = extN (packN bl 128) (t - 16) := ⟨_, rfl⟩
      rw [← hL] at HE hl64 hlt64 hI
      clear hv hL
      obtain ⟨s, hs⟩ : ∃ s, s = (((g0 L (t - 16) + g0 L (t - 7)) % 18446744073709551616 + farN (g0 L (t - 15))) % 18446744073709551616 + nearN (g0 L (t - 2))) % 18446744073709551616 := ⟨_, rfl⟩
      obtain ⟨p16, hp16⟩ : ∃ p, p = t - 16 := ⟨_, rfl⟩
      have hc16 : (t : Int) - 16 = (p16 : Int) := by omega
      have hb16 : p16 < 80 := by omega
      have hn16 : p16 ≠ t := by omega
      have hw16 : IntKind.i64.wrap (p16 : Int) = (p16 : Int) := by rw [IntKind.wrap_i64]; omega
      have hz16 : 0 ≤ (p16 : Int) ∧ (p16 : Int) < 80 := by omega
      have hk16 := hI.out.1.cell p16 (by rw [hl64.out]; exact hb16)
      obtain ⟨x16, hx16⟩ : ∃ x, x = g0 L p16 := ⟨_, rfl⟩
      have hy16 : x16 < 18446744073709551616 := hx16 ▸ g0_lt hlt64.out (by decide) p16
      rw [show L[p16]?.getD 0 = x16 from hx16.symm] at hk16
      have hq16 := set_get_ne L t s p16 x16 hn16 hx16.symm
      obtain ⟨p7, hp7⟩ : ∃ p, p = t - 7 := ⟨_, rfl⟩
      have hc7 : (t : Int) - 7 = (p7 : Int) := by omega
      have hb7 : p7 < 80 := by omega
      have hn7 : p7 ≠ t := by omega
      have hw7 : IntKind.i64.wrap (p7 : Int) = (p7 : Int) := by rw [IntKind.wrap_i64]; omega
      have hz7 : 0 ≤ (p7 : Int) ∧ (p7 : Int) < 80 := by omega
      have hk7 := hI.out.1.cell p7 (by rw [hl64.out]; exact hb7)
      obtain ⟨x7, hx7⟩ : ∃ x, x = g0 L p7 := ⟨_, rfl⟩
      have hy7 : x7 < 18446744073709551616 := hx7 ▸ g0_lt hlt64.out (by decide) p7
      rw [show L[p7]?.getD 0 = x7 from hx7.symm] at hk7
      have hq7 := set_get_ne L t s p7 x7 hn7 hx7.symm
      obtain ⟨p15, hp15⟩ : ∃ p, p = t - 15 := ⟨_, rfl⟩
      have hc15 : (t : Int) - 15 = (p15 : Int) := by omega
      have hb15 : p15 < 80 := by omega
      have hn15 : p15 ≠ t := by omega
      have hw15 : IntKind.i64.wrap (p15 : Int) = (p15 : Int) := by rw [IntKind.wrap_i64]; omega
      have hz15 : 0 ≤ (p15 : Int) ∧ (p15 : Int) < 80 := by omega
      have hk15 := hI.out.1.cell p15 (by rw [hl64.out]; exact hb15)
      obtain ⟨x15, hx15⟩ : ∃ x, x = g0 L p15 := ⟨_, rfl⟩
      have hy15 : x15 < 18446744073709551616 := hx15 ▸ g0_lt hlt64.out (by decide) p15
      rw [show L[p15]?.getD 0 = x15 from hx15.symm] at hk15
      have hq15 := set_get_ne L t s p15 x15 hn15 hx15.symm
      obtain ⟨p2, hp2⟩ : ∃ p, p = t - 2 := ⟨_, rfl⟩
      have hc2 : (t : Int) - 2 = (p2 : Int) := by omega
      have hb2 : p2 < 80 := by omega
      have hn2 : p2 ≠ t := by omega
      have hw2 : IntKind.i64.wrap (p2 : Int) = (p2 : Int) := by rw [IntKind.wrap_i64]; omega
      have hz2 : 0 ≤ (p2 : Int) ∧ (p2 : Int) < 80 := by omega
      have hk2 := hI.out.1.cell p2 (by rw [hl64.out]; exact hb2)
      obtain ⟨x2, hx2⟩ : ∃ x, x = g0 L p2 := ⟨_, rfl⟩
      have hy2 : x2 < 18446744073709551616 := hx2 ▸ g0_lt hlt64.out (by decide) p2
      rw [show L[p2]?.getD 0 = x2 from hx2.symm] at hk2
      have hq2 := set_get_ne L t s p2 x2 hn2 hx2.symm
      rw [← hp16, ← hp7, ← hp15, ← hp2, ← hx16, ← hx7, ← hx15, ← hx2] at hs
      have HE2 := zH (show extN (packN bl 128) (t + 1 - 16) = L.set t s by
       rw [HE.out]
       unfold extS
       rw [← hp16, ← hp7, ← hp15, ← hp2, ← hx16, ← hx7, ← hx15, ← hx2, ← hs])
      obtain ⟨f, hf⟩ : ∃ f, f = farN x15 := ⟨_, rfl⟩
      obtain ⟨u, hu⟩ : ∃ u, u = nearN x2 := ⟨_, rfl⟩
      have lf : f < 18446744073709551616 := hf ▸ farN_lt hy15
      have lu : u < 18446744073709551616 := hu ▸ nearN_lt hy2
      rw [← hf, ← hu] at hs
      obtain ⟨s1, hs1⟩ : ∃ s, s = (x16 + x7) % 18446744073709551616 := ⟨_, rfl⟩
      obtain ⟨s2, hs2⟩ : ∃ s, s = (s1 + f) % 18446744073709551616 := ⟨_, rfl⟩
      have ew1 : IntKind.u64.wrap ((x16 : Int) + (x7 : Int)) = (s1 : Int) := by simp [IntKind.wrap, IntKind.bits, IntKind.signed]; omega
      have ew2 : IntKind.u64.wrap ((s1 : Int) + (f : Int)) = (s2 : Int) := by simp [IntKind.wrap, IntKind.bits, IntKind.signed]; omega
      have ew3 : IntKind.u64.wrap ((s2 : Int) + (u : Int)) = (s : Int) := by simp [IntKind.wrap, IntKind.bits, IntKind.signed]; omega
      have hwt : IntKind.i64.wrap (t : Int) = (t : Int) := by rw [IntKind.wrap_i64]; omega
      have hzt : 0 ≤ (t : Int) ∧ (t : Int) < 80 := by omega
      have es1 : ((x16 : Int) + (x7 : Int)) % 18446744073709551616 = (s1 : Int) := by omega
      have es2 : ((s1 : Int) + (f : Int)) % 18446744073709551616 = (s2 : Int) := by omega
      have es3 : ((s2 : Int) + (u : Int)) % 18446744073709551616 = (s : Int) := by omega
      have ls1 : s1 < 18446744073709551616 := by omega
      have ls2 : s2 < 18446744073709551616 := by omega
      have ls3 : s < 18446744073709551616 := by omega
      have HF := zH hf
      have HU := zH hu
      have hft := hI.out.1.frozen t
      have hkt := hI.out.1.cell t (by rw [hl64.out]; exact hlt)
      have hst := zH (hI.out.1.stored t s _ rfl)
      have HQ := zH (And.intro hq16 (And.intro hq7 (And.intro hq15 hq2)))
      clear hs hf hu hs1 hs2 hp16 hp7 hp15 hp2 hx16 hx7 hx15 hx2 HE hq16 hq7 hq15 hq2 hn16 hn7 hn15 hn2
      gi_wp2_with fail
      refine wpIn_wide.2 ?_
      refine wp_region_held_drew (S := fun W => W.cell? ⟨V, p16, none⟩ = some (.int .u64 (x16 : Int)) ∧ W.cell? ⟨V, p7, none⟩ = some (.int .u64 (x7 : Int)) ∧ W.cell? ⟨V, p15, none⟩ = some (.int .u64 (x15 : Int)) ∧ W.cell? ⟨V, p2, none⟩ = some (.int .u64 (x2 : Int))) (by kernel_rfl) ⟨hk16, hk7, hk15, hk2⟩ (fun hHeld => ?_)
      refine' wpAnyH_take (i := 0) rfl (by kernel_rfl) (by kernel_rfl) (by kernel_rfl) (fun _ _ _ h => h) (Or.inl ⟨?_, ?_⟩) (by assumption) ?_
      rotate_left
      all_goals (try simp only [zq4, zq5, zq6])
      ·rfl
      ·intro W hSw; (try dsimp only at hSw); go_simp; (try with_reducible rfl)
      try simp only [Act.put, zq1, zq2, zq3]
      refine' wpAnyH_take (i := 1) rfl (by kernel_rfl) (by kernel_rfl) (by kernel_rfl) (fun _ _ _ h => h) (Or.inl ⟨?_, ?_⟩) (by assumption) ?_
      rotate_left
      all_goals (try simp only [zq4, zq5, zq6])
      ·rfl
      ·intro W hSw; (try dsimp only at hSw); go_simp; (try with_reducible rfl)
      try simp only [Act.put, zq1, zq2, zq3]
      refine' wpAnyH_take (i := 2) rfl (by kernel_rfl) (by kernel_rfl) (by kernel_rfl) (fun _ _ _ h => h) (Or.inl ⟨?_, ?_⟩) (by assumption) ?_
      rotate_left
      all_goals (try simp only [zq4, zq5, zq6])
      ·rfl
      ·intro W hSw; (try dsimp only at hSw); go_simp; (try with_reducible rfl)
      try simp only [Act.put, zq1, zq2, zq3]
      refine' wpAnyH_take (i := 3) rfl (by kernel_rfl) (by kernel_rfl) (by kernel_rfl) (fun _ _ _ h => h) (Or.inl ⟨?_, ?_⟩) (by assumption) ?_
      rotate_left
      all_goals (try simp only [zq4, zq5, zq6])
      ·rfl
      ·intro W hSw; (try dsimp only at hSw); go_simp; (try with_reducible rfl)
      try simp only [Act.put, zq1, zq2, zq3]
      refine' wpAnyH_take (i := 4) rfl (by kernel_rfl) (by kernel_rfl) (by kernel_rfl) (fun _ _ _ h => h) (Or.inl ⟨?_, ?_⟩) (by assumption) ?_
      rotate_left
      all_goals (try simp only [zq4, zq5, zq6])
      ·rfl
      ·intro W hSw; (try dsimp only at hSw); go_simp; (try with_reducible rfl)
      try simp only [Act.put, zq1, zq2, zq3]
      refine' wpAnyH_take (i := 5) rfl (by kernel_rfl) (by kernel_rfl) (by kernel_rfl) (fun _ _ _ h => h) (Or.inl ⟨?_, ?_⟩) (by assumption) ?_
      rotate_left
      all_goals (try simp only [zq4, zq5, zq6])
      ·rfl
      ·intro W hSw; (try dsimp only at hSw); go_simp; (try with_reducible rfl)
      try simp only [Act.put, zq1, zq2, zq3]
      refine' wpAnyH_take (i := 6) rfl (by kernel_rfl) (by kernel_rfl) (by kernel_rfl) (fun _ _ _ h => h) (Or.inl ⟨?_, ?_⟩) (by assumption) ?_
      rotate_left
      all_goals (try simp only [zq4, zq5, zq6])
      ·rfl
      ·intro W hSw; (try dsimp only at hSw); go_simp; (try with_reducible rfl)
      try simp only [Act.put, zq1, zq2, zq3]
      refine' wpAnyH_take (i := 7) rfl (by kernel_rfl) (by kernel_rfl) (by kernel_rfl) (fun _ _ _ h => h) (Or.inl ⟨?_, ?_⟩) (by assumption) ?_
      rotate_left
      all_goals (try simp only [zq4, zq5, zq6])
      ·rfl
      ·intro W hSw; (try dsimp only at hSw); go_simp; (try with_reducible rfl)
      try simp only [Act.put, zq1, zq2, zq3]
      refine' wpAnyH_take (i := 8) rfl (by kernel_rfl) (by kernel_rfl) (by kernel_rfl) (fun _ _ _ h => h) (Or.inl ⟨?_, ?_⟩) (by assumption) ?_
      rotate_left
      all_goals (try simp only [zq4, zq5, zq6])
      ·rfl
      ·intro W hSw; (try dsimp only at hSw); go_simp; (try with_reducible rfl)
      try simp only [Act.put, zq1, zq2, zq3]
      refine' wpAnyH_take (i := 9) rfl (by kernel_rfl) (by kernel_rfl) (by kernel_rfl) (fun _ _ _ h => h) (Or.inl ⟨?_, ?_⟩) (by assumption) ?_
      rotate_left
      all_goals (try simp only [zq4, zq5, zq6])
      ·rfl
      ·intro W hSw; (try dsimp only at hSw); go_simp; (try with_reducible rfl)
      try simp only [Act.put, zq1, zq2, zq3]
      refine' wpAnyH_take (i := 10) rfl (by kernel_rfl) (by kernel_rfl) (by kernel_rfl) (fun _ _ _ h => h) (Or.inl ⟨?_, ?_⟩) (by assumption) ?_
      rotate_left
      all_goals (try simp only [zq4, zq5, zq6])
      ·rfl
      ·intro W hSw; (try dsimp only at hSw); go_simp; (try with_reducible rfl)
      try simp only [Act.put, zq1, zq2, zq3]
      refine' wpAnyH_take (i := 11) rfl (by kernel_rfl) (by kernel_rfl) (by kernel_rfl) (fun _ _ _ h => h) (Or.inl ⟨?_, ?_⟩) (by assumption) ?_
      rotate_left
      all_goals (try simp only [zq4, zq5, zq6])
      ·rfl
      ·intro W hSw; (try dsimp only at hSw); go_simp; (try with_reducible rfl)
      try simp only [Act.put, zq1, zq2, zq3]
      refine' wpAnyH_take (i := 12) rfl (by kernel_rfl) (by kernel_rfl) (by kernel_rfl) (fun _ _ _ h => h) (Or.inl ⟨?_, ?_⟩) (by assumption) ?_
      rotate_left
      all_goals (try simp only [zq4, zq5, zq6])
      ·rfl
      ·intro W hSw; (try dsimp only at hSw); go_simp; (try with_reducible rfl)
      try simp only [Act.put, zq1, zq2, zq3]
      refine' wpAnyH_take (i := 13) rfl (by kernel_rfl) (by kernel_rfl) (by kernel_rfl) (fun _ _ _ h => h) (Or.inl ⟨?_, ?_⟩) (by assumption) ?_
      rotate_left
      all_goals (try simp only [zq4, zq5, zq6])
      ·rfl
      ·intro W hSw; (try dsimp only at hSw); go_simp; (try with_reducible rfl)
      try simp only [Act.put, zq1, zq2, zq3]
      refine' wpAnyH_take (i := 16) rfl (by kernel_rfl) (by kernel_rfl) (by kernel_rfl) (fun _ _ _ h => h) (Or.inl ⟨?_, ?_⟩) (by assumption) ?_
      rotate_left
      all_goals (try simp only [zq4, zq5, zq6])
      ·rfl
      ·intro W hSw; (try dsimp only at hSw); go_simp; (try with_reducible rfl)
      try simp only [Act.put, zq1, zq2, zq3]
      refine' wpAnyH_take (i := 17) rfl (by kernel_rfl) (by kernel_rfl) (by kernel_rfl) (fun _ _ _ h => h) (Or.inl ⟨?_, ?_⟩) (by assumption) ?_
      rotate_left
      all_goals (try simp only [zq4, zq5, zq6])
      ·rfl
      ·intro W hSw; (try dsimp only at hSw); go_simp; (try with_reducible rfl)
      try simp only [Act.put, zq1, zq2, zq3]
      refine' wpAnyH_take (i := 18) rfl (by kernel_rfl) (by kernel_rfl) (by kernel_rfl) (fun _ _ _ h => h) (Or.inl ⟨?_, ?_⟩) (by assumption) ?_
      rotate_left
      all_goals (try simp only [zq4, zq5, zq6])
      ·rfl
      ·intro W hSw; (try dsimp only at hSw); go_simp; (try with_reducible rfl)
      try simp only [Act.put, zq1, zq2, zq3]
      refine' wpAnyH_take (i := 19) rfl (by kernel_rfl) (by kernel_rfl) (by kernel_rfl) (fun _ _ _ h => h) (Or.inl ⟨?_, ?_⟩) (by assumption) ?_
      rotate_left
      all_goals (try simp only [zq4, zq5, zq6])
      ·rfl
      ·intro W hSw; (try dsimp only at hSw); go_simp; (try with_reducible rfl)
      try simp only [Act.put, zq1, zq2, zq3]
      refine wpAnyH_ready (rs := [14]) (by kernel_rfl) (by simp) ?_
      refine AllReadyH.cons (o := _) rfl (fun K hK => ?_) AllReadyH.nil
      try simp only [zq4, zq5, zq6]
      go_simp
      refine (far_any x15 _ hy15 f HF.out).mono ?_; rintro e w5 ⟨rfl, rfl⟩
      go_wp2_with fail
      refine hK.out _ _ hHeld (fun hHeld => ?_)
      clear hK K
      try simp only [Act.put, zq1, zq2, zq3]
      refine' wpAnyH_take (i := 15) rfl (by kernel_rfl) (by kernel_rfl) (by kernel_rfl) (fun _ _ _ h => h) (Or.inl ⟨?_, ?_⟩) (by assumption) ?_
      rotate_left
      all_goals (try simp only [zq4, zq5, zq6])
      ·rfl
      ·intro W hSw; (try dsimp only at hSw); go_simp; (try with_reducible rfl)
      try simp only [Act.put, zq1, zq2, zq3]
      refine wpAnyH_ready (rs := [20]) (by kernel_rfl) (by simp) ?_
      refine AllReadyH.cons (o := _) rfl (fun K hK => ?_) AllReadyH.nil
      try simp only [zq4, zq5, zq6]
      go_simp
      refine (near_any x2 _ hy2 u HU.out).mono ?_; rintro e w5 ⟨rfl, rfl⟩
      go_wp2_with fail
      refine hK.out _ _ hHeld (fun hHeld => ?_)
      clear hK K
      try simp only [Act.put, zq1, zq2, zq3]
      refine' wpAnyH_take (i := 21) rfl (by kernel_rfl) (by kernel_rfl) (by kernel_rfl) (fun _ _ _ h => h) (Or.inl ⟨?_, ?_⟩) (by assumption) ?_
      rotate_left
      all_goals (try simp only [zq4, zq5, zq6])
      ·rfl
      ·intro W hSw; (try dsimp only at hSw); go_simp; (try with_reducible rfl)
      try simp only [Act.put, zq1, zq2, zq3]
      refine' wpAnyH_take (i := 22) rfl (by kernel_rfl) (by kernel_rfl) (by kernel_rfl) (fun _ _ _ h => h) (Or.inl ⟨?_, ?_⟩) (by assumption) ?_
      rotate_left
      all_goals (try simp only [zq4, zq5, zq6])
      ·rfl
      ·intro W hSw; (try dsimp only at hSw); go_simp; (try with_reducible rfl)
      try simp only [Act.put, zq1, zq2, zq3]
      refine wpAnyH_ready (rs := [23]) (by kernel_rfl) (by simp) ?_
      refine AllReadyH.cons (o := _) rfl (fun K hK => ?_) AllReadyH.nil
      try simp only [zq4, zq5, zq6]
      go_simp
      have HW2 := zH (show Arr .u64 186 (wr.setCell ⟨V, t, none⟩ (.int .u64 (s : Int))).drew V (L.set t s) from hst.out)
      refine hK.out _ _ ⟨(HW2.out.cell p16 (by rw [List.length_set, hl64.out]; exact hb16)).trans (by rw [HQ.out.1]), (HW2.out.cell p7 (by rw [List.length_set, hl64.out]; exact hb7)).trans (by rw [HQ.out.2.1]), (HW2.out.cell p15 (by rw [List.length_set, hl64.out]; exact hb15)).trans (by rw [HQ.out.2.2.1]), (HW2.out.cell p2 (by rw [List.length_set, hl64.out]; exact hb2)).trans (by rw [HQ.out.2.2.2])⟩ (fun hHeld => ?_)
      clear hK K hHeld
      try simp only [Act.put, zq1, zq2, zq3]
      refine wpAnyH_done (by kernel_rfl) ?_ _
      have HA2 := zH (show Arr .u64 186 (wr.setCell ⟨V, t, none⟩ (.int .u64 (s : Int))).drew V (extN (packN bl 128) (t + 1 - 16)) from HE2.out ▸ HW2.out)
      have HJ2 := zH (hI.out.2.elim fun pre hp => (⟨pre, hp.1, HJ.out _ wr _ (some V) hp.2 (grown_drew (grown_set (x := wr) (y := wr) (g := V) ⟨rfl, rfl, rfl, Nat.le_refl _, fun _ _ _ => rfl⟩ t (.int .u64 (s : Int)))) (fun q e => by cases e; exact ⟨by rw [HVW.out]; exact Nat.le_refl _, _, hI.out.1, .inr ⟨_, _, _, rfl, rfl⟩⟩)⟩ : ∃ pre : List (Pc C), pre.map (·.1) = toldN bl t ∧ J pre (wr.setCell ⟨V, t, none⟩ (.int .u64 (s : Int))).drew))
      generalize (wr.setCell ⟨V, t, none⟩ (.int .u64 (s : Int))).drew = W2 at *
      clear hk16 hk7 hk15 hk2 es1 es2 es3 hft hkt hst HW2 hI ew1 ew2 ew3 hwt hzt ls1 ls2 ls3 lf lu HF HU HQ HE2 hc16 hc7 hc15 hc2 hw16 hw7 hw15 hw2 hz16 hz7 hz15 hz2 hb16 hb7 hb15 hb2 hy16 hy7 hy15 hy2 hlt64 hl64 h16
      obtain ⟨pre, hpre, hj2⟩ := HJ2.out
      have HPRE := zH hpre
      have hCx := HC.out t hlt
      rw [show g0 (schedN bl) t = v from HT.out] at hCx
      obtain ⟨fn1, tmps, assign, body, hy, hR⟩ := hY pre ⟨(t, v), hCx⟩ W2 hj2
      clear hpre hj2
      dsimp only at hy
      have HR := zH hR
      clear hR
      have ct := HA2.out.cell t (by rw [extN_len _ (packN_len bl 128)]; omega)
      rw [show (extN (packN bl 128) (t + 1 - 16))[t]?.getD 0 = v from HV.out] at ct
      gi_wp2_with fail
      refine HR.out.mono ?_
      rintro e W3 (⟨rfl, hJ3, hk3⟩ | ⟨rfl, hx3⟩)
      ·have HA3 := zH (show Arr .u64 186 W3 V (extN (packN bl 128) (t + 1 - 16)) from hk3.2 V _ _ _ rfl HA2.out)
       have HJ3 := zH (show ∃ pre : List (Pc C), pre.map (·.1) = toldN bl (t + 1) ∧ J pre W3 from ⟨_, by rw [List.map_append, HPRE.out, toldN_succ, show g0 (schedN bl) t = v from HT.out]; rfl, hJ3⟩)
       clear hJ3 hk3 ct
       gi_wp2
       exact ⟨⟨t + 1, by go_num, by omega, HA3.out, HJ3.out⟩, by simp [intOf]; omega⟩
      ·have HX3 := zH hx3
       clear hx3 ct
       gi_wp2
       rw [Exit.noGoto_ret]
       refine bodyPost_ret (results_none rfl _ _ _) rfl ?_
       exact ⟨⟨_, rfl⟩, .inr ⟨_, trivial, HX3.out⟩⟩
    ·obtain rfl : t = 80 := by omega
     have hd1 : decide (((80 : Nat) : Int) < 80) = false := by decide
     have hJ4 := zH hI.out.2
     clear hI
     gi_wp2
     rw [Exit.noGoto_normal]
     refine bodyPost_end (v := .tuple #[]) (by simp [results, Tryz.f204]) rfl ?_
     exact ⟨⟨_, rfl⟩, .inl (hJ4.out.elim fun pre hp => ⟨pre, hp.1, hp.2⟩)⟩
end Go.Proofs.YtpefjkndfifceaaGreatDoor.L5
namespace Go.Proofs.YtpefjkndfifceaaGreatDoor.L5
open Go.RowKit
set_option maxRecDepth 100000
theorem noughtCells (v : Value) (n : Nat) : (Builtin.zeroCells #[v] n).toList = List.replicate n v := by
 apply List.ext_getElem
 ·simp [Builtin.zeroCells]
 ·intro i h1 h2
  simp [Builtin.zeroCells, Nat.mod_one]
theorem run_append_room_zeros {P : Program} (w : World) (t tn ty e : TypeId) (i : TypeInfo) (z : Value) (kq kn : IntKind) (ht : P.underlying t = some (.slice e)) (htn : P.underlying tn = some (.int kn)) (hi : P.info? e = some i) (hz : i.zero = some z) (hzc : z.cells = #[z]) (hz1 : z.oneCell' = true) (hs : i.size = 1) (hby : i.bytes = 1)
  (g sLen sCap : Nat) (cur : Array Value) (hg : w.heap[g]? = some (.cells cur e (0, 0))) (k : Nat) (hroom : sLen + k ≤ sCap) (hc : cur.size = sCap) (hm : k ≤ 1000000) :
  (Builtin.append_ #[t, tn] ty #[.slice (some ⟨g, 0, none⟩) sLen sCap, .int kq k]).run P w =
   .ok (.slice (some ⟨g, 0, none⟩) (sLen + k) sCap) (w.setRow g (cur.toList.take sLen ++ List.replicate k z ++ cur.toList.drop (sLen + k)).toArray) := by
 have hw : IntKind.i64.wrap (k : Int) = k := by rw [IntKind.wrap_i64]; omega
 have hneg : ¬ ((k : Int) < 0) := by omega
 have h48i : ¬ (281474976710656 < (k : Int)) := by omega
 have hl : (List.replicate k z).length = k := by simp
 have hst := run_storeCells_at P g sLen e (List.replicate k z) 0 cur w hg (by rw [hl, hc]; omega) (fun v hv => by rw [List.eq_of_mem_replicate hv]; exact hz1)
 rw [hl] at hst
 simp only [Nat.add_zero] at hst
 rcases Nat.eq_zero_or_pos k with rfl | h0
 ·have hw0 : IntKind.i64.wrap 0 = 0 := by rw [IntKind.wrap_i64]; rfl
  have hroom0 : sLen ≤ sCap := by omega
  have hst0 : Sem.run P (storeCells { block := g, off := sLen } []) w = Result.ok () (w.setRow g cur) := by simpa using hst
  simp [Builtin.append_, run_underlying ht, run_underlying htn, sizeOf, typeInfo, zeroValue, hi, hz, asInt, asIntOf, hw0, hs, hby, hroom0, Addr.add_lit, hst0]
 ·have hk : k ≠ 0 := by omega
  have hcells : (Builtin.zeroCells #[z] k).toList = List.replicate k z := noughtCells z k
  simp [Builtin.append_, run_underlying ht, run_underlying htn, sizeOf, typeInfo, zeroValue, hi, hz, asInt, asIntOf, hw, hneg, hs, hby, hk, hroom, h48i, Addr.add_lit, hzc, hcells, hst]
theorem wpList_append_noughts {P : Program} (w : World) {ops : Array Oper} {rest : List Oper} {o : Oper} {a : Act} {Q : Exit → Act → World → Prop} (hgd : o.guard = .none) (s x : Operand) (t tn : TypeId)
  (ho : o.op = .call { callee := .builtin .append, args := #[s, x], argTypes := #[t, tn] })
  (B E : Nat) (i : TypeInfo) (ht : P.underlying t = some (.slice E)) (htn : P.underlying tn = some (.int .i64)) (hi : P.info? E = some i) (hz : i.zero = some (.int .u8 0)) (hsize : i.size = 1) (hby : i.bytes = 1)
  (v : Value) (l : List Nat) (hs : a.eval s = v) (hown : OwnQ .u8 E B w v l) (hl : l ≠ []) (k : Nat) (hx : a.eval x = .int .i64 (k : Int)) (hb : l.length + k ≤ 1000000) (hbase : B ≤ w.heap.size)
  (h : ∀ v' w', OwnQ .u8 E B w' v' (l ++ List.replicate k 0) → (∀ w0, Below B w0 w → Below B w0 w') → wpList P ops Q rest (a.put o.dst v') w') : wpList P ops Q (o :: rest) a w := by
 obtain ⟨g, c, rfl⟩ := hown.succ hl
 have hcap := hown.cap
 rcases Nat.lt_or_ge c (l.length + k) with hgr | hroom
 ·have hold := run_firstCells_some (P := P) w.drew i.size l.length ⟨g, 0, .none⟩ l.length c (l.map (num .u8)) (by rw [hsize]; simp) (by
   intro j u hu
   have := hown.reads.news j u hu
   simpa using this)
  have hfit : Builtin.nextslicecap (l.length + k) c * i.bytes ≤ 281474976710656 := growslice_fits (by omega) (by rw [hby]; omega)
  have hrun := Lib.run_append_grow_zeros (P := P) w t tn o.type E i (.int .u8 0) .i64 .i64 ht htn hi hz (some ⟨g, 0, .none⟩) l.length c (l.map (num .u8)) hold k (by omega) (by omega) hgr (by omega) (by rw [hby]; omega) hfit
  have hge := grownCap_ge w (l.length + k) c E
  have hcm := grownCap_le_maxLen w (l.length + k) c E (by unfold maxLen; omega)
  refine wpList_plain hgd fun K hK' => ?_
  unfold Oper.wp
  simp only [execOp, ho, resolve, invoke, builtin, Sem.run_bind, Sem.run_pure, Result.andThen_ok, List.map_toArray, List.map_cons, List.map_nil, hs, hx, hrun]
  refine hK' _ _ (h _ _ ⟨by simp, .inr ⟨w.heap.size, _, _, ?_, hbase, heap_alloc_new w.drew _, ?_, hcm, ?_, ?_⟩⟩ (fun w0 hB => hB.drew.alloc (by simpa using hbase) _))
  ·simp
  ·simpa using hge
  ·simp only [Array.size_append, List.size_toArray, size_zeroCells, List.length_map]
   simp [Value.cells]
   omega
  ·rw [Array.toList_append, Array.toList_append, show (Value.int .u8 0).cells = #[Value.int .u8 0] from rfl, noughtCells]
   simp [num, List.take_append]
   exact List.take_of_length_le (by simp)
 ·rcases hown.2 with ⟨h1, _⟩ | ⟨g', cap', cur, h1, hbg, hg, hnc, hcm, hcs, htake⟩
  ·simp at h1
  ·simp only [Value.slice.injEq, Option.some.injEq, Addr.mk.injEq, and_true, true_and] at h1
   obtain ⟨rfl, rfl⟩ := h1
   have hrun := run_append_room_zeros (P := P) w t tn o.type E i (.int .u8 0) .i64 .i64 ht htn hi hz rfl rfl hsize hby g l.length c cur hg k hroom (by omega) (by omega)
   refine wpList_plain hgd fun K hK' => ?_
   unfold Oper.wp
   simp only [execOp, ho, resolve, invoke, builtin, Sem.run_bind, Sem.run_pure, Result.andThen_ok, List.map_toArray, List.map_cons, List.map_nil, hs, hx, hrun]
   have hgrow : w.grownBy (w.setRow g (cur.toList.take l.length ++ List.replicate k (Value.int .u8 0) ++ cur.toList.drop (l.length + k)).toArray) (some g) := ⟨rfl, rfl, rfl, by simp, fun k' _ hk => setRow_other w g k' _ (fun e => hk (by simp [e]))⟩
   refine hK' _ _ (h _ _ ⟨by simp, .inr ⟨g, c, _, by simp, hbg, setRow_heap w g cur _ E _ hg, by simpa using hroom, hcm, ?_, ?_⟩⟩ (fun w0 hB => hB.grown hgrow hbase (fun r e => by cases e; exact hbg)))
   ·simp
    omega
   ·have : cur.toList.take l.length = l.map (num .u8) := by simpa using htake
    rw [this]
    simp [num, List.take_append]
    exact List.take_of_length_le (by simp)
theorem infoB : (Tryz.prog.info? 5).map (fun i => (i.zero, i.size, i.bytes)) = some (some (.int .u8 0), 1, 1) := by kernel_rfl
theorem idx2 (l : List Nat) (i : Nat) (hi : i < 2) (hl : l.length = 2) (w : World) : (Instr.index 225 (.agg (arrC .u64 l)) (.int .i64 (i : Int))).run Tryz.prog w = .ok (.int .u64 ((l[i]?.getD 0 : Nat) : Int)) w := by
 have hu : ∀ w, (underlying 225).run Tryz.prog w = .ok (.array 2 48) w := fun _ => by kernel_rfl
 have hs : ∀ w, (sizeOf 48).run Tryz.prog w = .ok 1 w := fun _ => by kernel_rfl
 have ha : ∀ w, (isAgg 48).run Tryz.prog w = .ok false w := fun _ => by kernel_rfl
 have hg := arrC_get .u64 l i (by omega)
 have hz : i < (arrC .u64 l).size := by rw [arrC_size]; omega
 have h1 : 0 ≤ (i : Int) ∧ (i : Int) < ((2 : Nat) : Int) := by omega
 unfold Instr.index
 simp only [asIntOf, Sem.run_bind, Sem.run_pure, Result.andThen_ok, hu, if_pos h1, hs, Int.toNat_natCast, Nat.mul_one, part, ha]
 rw [hg]
 rfl
def wd (x : Nat) (j : Nat) : List Nat := (List.range j).map fun i => x / 2 ^ (8 * (7 - i)) % 256
theorem wd_succ (x j : Nat) : wd x (j + 1) = wd x j ++ [x / 2 ^ (8 * (7 - j)) % 256] := by
 unfold wd
 rw [List.range_succ, List.map_append]
 rfl
theorem wd_len (x j : Nat) : (wd x j).length = j := by simp [wd]
theorem wd_lt (x j : Nat) : ∀ y ∈ wd x j, y < 256 := fun y hy => by
 obtain ⟨i, -, rfl⟩ := List.mem_map.1 hy
 exact Nat.mod_lt _ (by decide)
theorem byte_cast (x k : Nat) : (x : Int) / 2 ^ k % 256 = ((x / 2 ^ k % 256 : Nat) : Int) := by rw [Int.natCast_emod, Int.natCast_ediv, Int.natCast_pow]; rfl
set_option maxHeartbeats 1000000 in
theorem appended_any (B : Nat) (v : Value) (l : List Nat) (x : Nat) (y : Int) (w : World) (ho : OwnQ .u8 5 B w v l) (hl : l.length ≤ 100000) (hB : B ≤ w.heap.size) (hy : y = x) (hx : x < 18446744073709551616) :
  Calls Tryz.prog 162 #[v, .int .u64 y] w fun e w' => (∃ v', e = .returned v' ∧ OwnQ .u8 5 B w' v' (l ++ wd x 8)) ∧ (∀ w0, Below B w0 w → Below B w0 w') := by
 subst hy
 obtain ⟨i0, hi, hz0, hz1, hz2⟩ := info_parts infoB
 have HO := zH ho
 have HBB := zH (show Below B w w from Below.refl _ _)
 clear ho
 go_enter Tryz.func162, Tryz.ntmps162
 go_wp2_with fail
 go_loopw [0, 6] (fun sv iv wq => ∃ j : Nat, iv = .int .i64 (j : Int) ∧ j ≤ 8 ∧ Hid (OwnQ .u8 5 B wq sv (l ++ wd x j) ∧ ∀ w0, Below B w0 w → Below B w0 wq)) (fun _ iv _ => 8 - (intOf iv).toNat)
 case atStart => exact ⟨0, rfl, by decide, by rw [show wd x 0 = [] from rfl, List.append_nil]; exact HO.out, fun _ h => h⟩
 case round =>
  obtain ⟨j, rfl, hj, hI⟩ := hrel
  obtain ⟨ho2, hb2⟩ := hI.out
  have HO2 := zH ho2
  have HB2 := zH hb2
  have hsz : Hid (B ≤ wr.heap.size) := Nat.le_trans hB (hb2 w HBB.out).size
  clear ho2 hb2
  by_cases hlt : j < 8
  ·go_wp2_with (at_builtin; refine wpList_append_q .u8 _ rfl _ _ 22 rfl B 5 1 i0 Tryz.underlying22 hi hz0 hz1 hz2 (by decide) _ (l ++ wd x j) rfl (HO2.out.alloc _) _ _ _ [x / 2 ^ (8 * (7 - j)) % 256] rfl (Reads.one .u8 _ _ _ _ (byte_cast x _)) (by rw [List.length_append, wd_len]; omega) (by have := hsz.out; simp; omega) ?_; intro v' w3 hown3 hgrow3)
   go_roundw
   case rel => exact ⟨j + 1, by go_num, by omega, by rw [wd_succ, ← List.append_assoc]; exact hown3, fun w0 h0 => hgrow3 _ ((HB2.out w0 h0).alloc hsz.out _)⟩
   case measure => simp [intOf] <;> omega
  ·obtain rfl : j = 8 := by omega
   go_wp2
   go_ret
   exact ⟨⟨_, rfl, HO2.out⟩, HB2.out⟩
end Go.Proofs.YtpefjkndfifceaaGreatDoor.L5
namespace Go.Proofs.YtpefjkndfifceaaGreatDoor.L5
open Go.RowKit
set_option maxRecDepth 100000
def startN (bt : Nat) : List Nat := if bt = 512 then startL.take 8 else startL.drop 8
def wsK (bt : Nat) (m : List Nat) : Nat → List Nat
 | 0 => startN bt
 | k + 1 => turnN (wsK bt m k) ((m.drop (128 * k)).take 128)
theorem wsK_ext {bt : Nat} {m m' : List Nat} : ∀ k, m.take (128 * k) = m'.take (128 * k) → wsK bt m k = wsK bt m' k
 | 0, _ => rfl
 | k + 1, h => by
  have h1 : m.take (128 * k) = m'.take (128 * k) := by
   have := congrArg (List.take (128 * k)) h
   rwa [List.take_take, List.take_take, Nat.min_eq_left (by omega)] at this
  have h2 : (m.drop (128 * k)).take 128 = (m'.drop (128 * k)).take 128 := by
   have := congrArg (List.drop (128 * k)) h
   rwa [List.drop_take, List.drop_take, show 128 * (k + 1) - 128 * k = 128 by omega] at this
  show turnN _ _ = turnN _ _
  rw [wsK_ext k h1, h2]
theorem startN_len (bt : Nat) : (startN bt).length = 8 := by unfold startN; split <;> rfl
theorem startN_lt (bt : Nat) : ∀ x ∈ startN bt, x < 18446744073709551616 := by
 unfold startN
 split
 ·exact fun x hx => startL_lt x (List.mem_of_mem_take hx)
 ·exact fun x hx => startL_lt x (List.mem_of_mem_drop hx)
def FinP (bt : Nat) (m ws tail : List Nat) : Prop := ws = wsK bt m (m.length / 128) ∧ tail.take (m.length % 128) = m.drop (128 * (m.length / 128))
def StateOf (w : World) (g bt : Nat) (m : List Nat) : Prop := ∃ ws tail, StateAt w g bt ws tail m.length ∧ FinP bt m ws tail ∧ m.length < 1152921504606846976 ∧ ∀ x ∈ m, x < 256
end Go.Proofs.YtpefjkndfifceaaGreatDoor.L5
namespace Go.Proofs.YtpefjkndfifceaaGreatDoor.L5
open Go.RowKit Go.Shelf
set_option maxRecDepth 100000
def laidIn (tail p : List Nat) (at' : Nat) : List Nat := tail.take at' ++ (p.take (128 - at') ++ tail.drop (at' + (p.take (128 - at')).length))
theorem laidIn_len {tail p : List Nat} {at' : Nat} (ht : tail.length = 128) (ha : at' ≤ 128) : (laidIn tail p at').length = 128 := by
 unfold laidIn
 simp only [List.length_append, List.length_take, List.length_drop, ht]
 omega
theorem laidIn_lt {tail p : List Nat} {at' b : Nat} (h1 : ∀ x ∈ tail, x < b) (h2 : ∀ x ∈ p, x < b) : ∀ x ∈ laidIn tail p at', x < b := fun x hx => by
 unfold laidIn at hx
 rcases List.mem_append.1 hx with h | h
 ·exact h1 x (List.mem_of_mem_take h)
 ·rcases List.mem_append.1 h with h | h
  ·exact h2 x (List.mem_of_mem_take h)
  ·exact h1 x (List.mem_of_mem_drop h)
theorem laidIn_take {tail p : List Nat} {at' : Nat} (ht : tail.length = 128) (ha : at' + p.length ≤ 128) : (laidIn tail p at').take (at' + p.length) = tail.take at' ++ p := by
 unfold laidIn
 rw [List.take_of_length_le (show p.length ≤ 128 - at' by omega), ← List.append_assoc, List.take_left' (by simp; omega)]
theorem piece_eq {m0 bl : List Nat} (s l : Nat) : (bl.drop s).take l = ((m0 ++ bl).drop (m0.length + s)).take l := by
 rw [List.drop_append (l₁ := m0), List.drop_of_length_le (l := m0) (by omega), List.nil_append, Nat.add_sub_cancel_left]
theorem made_yes (g bt : Nat) (ws tail : List Nat) (T : Nat) (w : World) (h : StateAt w g bt ws tail T) (hb : bt ≠ 0) : Calls Tryz.prog 158 #[.pointer (some ⟨g, 0, none⟩)] w fun e w' => e = .returned (.bool true) ∧ w = w' := by
 have h0 := h.bits
 have ht : ((bt : Int) != 0) = true := by simp; omega
 clear h
 go_enter Tryz.func158, Tryz.ntmps158
 go_wp2
 go_ret
 exact ⟨rfl, rfl⟩
theorem StateAt.setTaken {w : World} {g bits : Nat} {ws tail : List Nat} {taken : Nat} (h : StateAt w g bits ws tail taken) (T : Nat) (y : Int) (hy : y = (T : Int)) : StateAt (w.setCell ⟨g, 137, none⟩ (.int .u64 y)) g bits ws tail T := by
 subst hy
 have hl := h.wlen
 have hl2 := h.tlen
 refine ⟨?_, hl, hl2, h.wlt, h.tlt⟩
 have := heap_setCell_same w g 137 _ _ (num .u64 T) h.heap
 refine this.trans ?_
 congr 2
 apply Array.ext'
 rw [Array.toList_setIfInBounds]
 show (stL bits ws tail taken).set 137 (num .u64 T) = stL bits ws tail T
 unfold stL
 rw [show 137 = 136 + 1 by omega, zq3, List.set_append_right _ _ (by simp; omega), List.set_append_right _ _ (by simp; omega)]
 simp [hl, hl2, num]
theorem stL_splice {bt T at' : Nat} {ws tail q : List Nat} (hw : ws.length = 8) (ht : tail.length = 128) (hq : at' + q.length ≤ 128) :
  (stL bt ws tail T).take (9 + at') ++ q.map (num .u8) ++ (stL bt ws tail T).drop (9 + at' + q.length) = stL bt ws (tail.take at' ++ (q ++ tail.drop (at' + q.length))) T := by
 unfold stL
 rw [show 9 + at' = (8 + at') + 1 by omega, List.take_succ_cons, show 8 + at' + 1 + q.length = (8 + at' + q.length) + 1 by omega, List.drop_succ_cons, List.take_append, List.drop_append, List.take_append, List.drop_append]
 simp only [List.length_map, hw, ht, show 8 + at' - 8 = at' by omega, show 8 + at' + q.length - 8 = at' + q.length by omega, show at' - 128 = 0 by omega, show at' + q.length - 128 = 0 by omega]
 rw [List.take_of_length_le (by simp; omega), List.drop_of_length_le (by simp; omega)]
 simp [List.map_append, List.map_take, List.map_drop]
theorem StateAt.splice {w : World} {g bt : Nat} {ws tail : List Nat} {T : Nat} (h : StateAt w g bt ws tail T) (p : List Nat) (hp : ∀ x ∈ p, x < 256) (at' : Nat) (ha : at' ≤ 128) (blk o l c : Nat) (hr : Reads .u8 w (some ⟨blk, o, none⟩) l c p) :
  (Builtin.copy_ #[22, 22] 3 #[.slice (some ⟨g, 9 + at', none⟩) (128 - at') (128 - at'), .slice (some ⟨blk, o, none⟩) l c]).run Tryz.prog w = .ok (goInt (p.take (128 - at')).length) (w.setRow g (stL bt ws (laidIn tail p at') T).toArray) ∧ StateAt (w.setRow g (stL bt ws (laidIn tail p at') T).toArray) g bt ws (laidIn tail p at') T := by
 have hpl := hr.length
 have hws := h.wlen
 have htl := h.tlen
 have hsz : (stL bt ws tail T).toArray.size = 138 := by simp [stL, hws, htl]
 refine ⟨?_, setRow_heap w g _ _ _ _ h.heap, hws, laidIn_len htl ha, h.wlt, laidIn_lt h.tlt hp⟩
 have := run_copy_row Tryz.prog w 22 22 3 5 g (9 + at') (128 - at') (128 - at') ⟨blk, o, none⟩ l c _ _ ((p.take (128 - at')).map (num .u8)) Tryz.underlying22 (by kernel_rfl) h.heap (by simp [hpl, Nat.min_comm]) (fun j v hv => by
  rw [List.getElem?_map, List.getElem?_take] at hv
  split at hv
  ·exact hr.news j v (by rw [List.getElem?_map]; exact hv)
  ·cases hv) (by rw [hsz]; simp; omega) (fun u hu => nums_oneCell .u8 _ u hu)
 rw [List.length_map] at this
 rw [this]
 congr 2
 rw [stL_splice hws htl (by simp; omega)]
 rfl
end Go.Proofs.YtpefjkndfifceaaGreatDoor.L5
namespace Go.Proofs.YtpefjkndfifceaaGreatDoor.L5
open Go.RowKit Go.Shelf
set_option maxRecDepth 100000
theorem _root_.Go.Proofs.YtpefjkndfifceaaGreatDoor.Reads.grownNe5 {q : IntKind} {w w' : World} {row : Option Nat} {a : Option Addr} {len cap : Nat} {l : List Nat} (h : Reads q w a len cap l) (hg : w.grownBy w' row) (hr : 0 < len → ∀ ad, a = some ad → some ad.block ≠ row) : Reads q w' a len cap l :=
 ⟨h.length, h.le, h.max, h.nil, fun hp => by
  obtain ⟨b, off, rfl, hb, hc⟩ := h.cells hp
  refine ⟨b, off, rfl, Nat.lt_of_lt_of_le hb hg.size, fun i hi => ?_⟩
  exact (World.cell?_of_block (hg.block b hb (hr hp _ rfl))).trans (hc i hi)⟩
theorem grown_setRow {x y : World} {g : Nat} (h : x.grownBy y (some g)) (cs : Array Value) : x.grownBy (y.setRow g cs) (some g) :=
 ⟨h.os, h.tape, h.output, by simpa using h.size, fun k hk hr => (setRow_other y g k cs (fun e => hr (by rw [e]))).trans (h.block k hk hr)⟩
theorem slice_tail (g at' : Nat) (h : at' < 128) (W : World) : (Instr.sliceAt 183 (.pointer (some ⟨g, 9, none⟩)) (some (.int .i64 (at' : Int))) none none).run Tryz.prog W = .ok (.slice (some ⟨g, 9 + at', none⟩) (128 - at') (128 - at')) W := by
 have hl : Tryz.prog.arrayLen 183 = 128 := by kernel_rfl
 have hs : ∀ w, (sizeOf (Tryz.prog.elem 183)).run Tryz.prog w = .ok 1 w := fun _ => by kernel_rfl
 rw [run_sliceAt_array_l W 183 ⟨g, 9, none⟩ (by kernel_rfl) .i64 (at' : Int) (by omega) (by rw [hl]; omega), hs]
 show Result.ok (slicedAt ⟨g, 9, none⟩ (at' : Int).toNat (Tryz.prog.arrayLen 183) (Tryz.prog.arrayLen 183) 1) W = _
 rw [hl]
 unfold slicedAt
 rw [Int.toNat_natCast, if_neg (by omega), Nat.mul_one]
 congr 3
 unfold Addr.add
 split <;> simp_all
end Go.Proofs.YtpefjkndfifceaaGreatDoor.L5
namespace Go.Proofs.YtpefjkndfifceaaGreatDoor.L5
open Go.RowKit Go.Shelf
set_option maxRecDepth 100000
attribute [local go_sem] Oper.semAt_some
section
variable {P : Program}
theorem run_loadVar_part (w : World) (g k : Nat) (ty : TypeId) (cs : Array Value) (d : TypeDesc) (hg : ∀ j v, cs[j]? = some v → w.cell? ⟨g, k + j, none⟩ = some v)
  (hu : P.underlying ty = some d) (hd : (match d with | .struct _ | .array _ _ => true | _ => false) = true) (hi : (P.info? ty).map (·.size) = some cs.size) :
  (loadVar ty ⟨g, k, none⟩).run P w = .ok (.agg cs) w := by
 have hl : (loadCells ⟨g, k, none⟩ cs.toList.length).run P w = .ok cs.toList.toArray w :=
  run_loadCells_list (P := P) w ⟨g, k, none⟩ cs.toList (fun j v hv => by
   have hadd : (⟨g, k, none⟩ : Addr).add j = ⟨g, k + j, none⟩ := by unfold Addr.add; split <;> simp_all
   rw [hadd]
   exact hg j v (by simpa using hv))
 cases hq : P.info? ty with
 | none => simp [hq] at hi
 | some i =>
  have hs : i.size = cs.size := by simpa [hq] using hi
  have hagg : (isAgg ty).run P w = .ok true w := by
   unfold isAgg
   rw [Sem.run_bind, run_underlying hu w]
   cases d <;> simp_all
  simp only [Array.length_toList, Array.toArray_toList] at hl
  simp [loadVar, Sem.run_bind, hagg, sizeOf, typeInfo, hq, hs, hl]
theorem wpList_load_part {ops : Array Oper} {rest : List Oper} {o : Oper} {a : Act} {w : World} {Q : Exit → Act → World → Prop} (hgd : o.guard = none) (ty : TypeId) (x : Operand) (ho : o.op = .load ty x)
  (g k : Nat) (hx : a.eval x = .pointer (some ⟨g, k, none⟩)) (cs : Array Value) (d : TypeDesc) (hg : ∀ j v, cs[j]? = some v → w.cell? ⟨g, k + j, none⟩ = some v)
  (hu : P.underlying ty = some d) (hd : (match d with | .struct _ | .array _ _ => true | _ => false) = true) (hi : (P.info? ty).map (·.size) = some cs.size)
  (h : wpList P ops Q rest (a.put o.dst (.agg cs)) w) : wpList P ops Q (o :: rest) a w :=
 wpList_plain hgd fun K hK => by
  unfold Oper.wp execOp
  simp only [ho, hx, Instr.loadAt, Instr.sureAddr, Sem.run_bind, Sem.run_pure, Result.andThen_ok, run_loadVar_part w g k ty cs d hg hu hd hi]
  exact hK _ _ h
end
theorem StateAt.alloc {w : World} {g bt : Nat} {ws tail : List Nat} {T : Nat} (h : StateAt w g bt ws tail T) (o : Obj) : StateAt (w.alloc o) g bt ws tail T := h.block (Below.heap_alloc w o g h.lt)
theorem StateAt.tailC {w : World} {g bt : Nat} {ws tail : List Nat} {T : Nat} (h : StateAt w g bt ws tail T) : ∀ j v, (arrC .u8 tail)[j]? = some v → w.cell? ⟨g, 9 + j, none⟩ = some v := fun j v hv => by
 have hj : j < tail.length := by
  have := (Array.getElem?_eq_some_iff.1 hv).1
  rwa [arrC_size] at this
 rw [arrC_get .u8 tail j hj] at hv
 cases hv
 exact h.byte j (by have := h.tlen; omega)
def TuI (w : World) (g bt T Kb V : Nat) (ws tail : List Nat) (pre : List (Nat × Nat)) (W : World) : Prop := Arr .u64 186 W Kb kL ∧ (∃ vs, Arr .u64 182 W V vs ∧ vs.length = 8 ∧ (∀ x ∈ vs, x < 18446744073709551616) ∧ (pre = toldN tail pre.length → vs = rdsN ws (schedN tail) pre.length)) ∧ StateAt W g bt ws tail T ∧ Below w.heap.size w W
theorem TuI.stays {w X X' : World} {g bt T Kb V : Nat} {ws tail : List Nat} {pre : List (Nat × Nat)} {row : Option Nat} (h : TuI w g bt T Kb V ws tail pre X) (hg : X.grownBy X' row) (hr : ∀ r, row = some r → w.heap.size ≤ r ∧ r ≠ Kb ∧ r ≠ V ∧ r ≠ g) : TuI w g bt T Kb V ws tail pre X' := by
 obtain ⟨h1, ⟨vs, h2, h3, h4, h5⟩, h6, h7⟩ := h
 exact ⟨(hg.block Kb h1.lt (fun e => (hr _ e.symm).2.1 rfl)).trans h1, ⟨vs, (hg.block V h2.lt (fun e => (hr _ e.symm).2.2.1 rfl)).trans h2, h3, h4, h5⟩, h6.block (hg.block g h6.lt (fun e => (hr _ e.symm).2.2.2 rfl)), h7.grown hg h7.size (fun r e => (hr r e).1)⟩
theorem rdsN_succ (ws sc : List Nat) (i : Nat) : rdsN ws sc (i + 1) = rd (rdsN ws sc i) (g0 kL i) (g0 sc i) := rfl
theorem told_len (b : List Nat) (t : Nat) : (toldN b t).length = t := by simp [toldN]
theorem grown_past {x y z : World} {g : Nat} {row : Option Nat} (h : x.grownBy y (some g)) (k : y.grownBy z row) (hr : ∀ r, row = some r → x.heap.size ≤ r) : x.grownBy z (some g) :=
 ⟨k.os.trans h.os, k.tape.trans h.tape, k.output.trans h.output, Nat.le_trans h.size k.size, fun i hi hn => (k.block i (Nat.lt_of_lt_of_le hi h.size) (fun e => by have := hr i e.symm; omega)).trans (h.block i hi hn)⟩
theorem told_split {b : List Nat} {pre : List (Nat × Nat)} {x : Nat × Nat} (he : pre ++ [x] = toldN b (pre ++ [x]).length) : pre = toldN b pre.length ∧ x = (pre.length, g0 (schedN b) pre.length) := by
 rw [List.length_append, List.length_singleton, toldN_succ] at he
 have := List.append_inj' he rfl
 exact ⟨this.1, by simpa using this.2⟩
theorem keeps_arr {W W' : World} {q : IntKind} {E : TypeId} {g : Nat} {l : List Nat} (h : Arr q E W g l) (hg : W.grownBy W' (some g)) : KeepsOthers W W' :=
 KeepsOthers.of_grownBy hg fun j o ej hj => by
  cases ej
  rw [h] at hj
  cases hj
  rfl
def CT (p : Nat × Nat) : Prop := p.1 < 80 ∧ p.2 < 18446744073709551616
theorem ct_of {b : List Nat} (hb : ∀ x ∈ b, x < 256) (t : Nat) (ht : t < 80) : CT (t, g0 (schedN b) t) := by
 have h2 : g0 (schedN b) t < 18446744073709551616 := g0_lt (schedN_lt b hb) (by decide) t
 generalize g0 (schedN b) t = v at *
 exact And.intro ht h2
theorem sched_seq (bb : Nat) (b : List Nat) (w : World) (hA : Arr .u8 183 w bb b) (hl : b.length = 128) (hb : ∀ x ∈ b, x < 256) :
  SeqU TW Fence.wide (3 - 1) Tryz.prog 204 #[.pointer (some ⟨bb, 0, none⟩)] (fun x : Pc CT => #[.int .i64 (x.1.1 : Int), .int .u64 (x.1.2 : Int)]) (fun xs => xs.map (·.1) = toldN b 80) (fun _ => True) w :=
 scheduled_comes (3 - 1) (by decide) CT bb b w hA hl hb (ct_of hb)
set_option maxRecDepth 100000 in
set_option maxHeartbeats 8000000 in
theorem turn_any (g bt : Nat) (ws tail : List Nat) (taken : Nat) (w : World) (h : StateAt w g bt ws tail taken) :
  Calls Tryz.prog 159 #[.pointer (some ⟨g, 0, none⟩)] w fun e w' => e = .returned (.tuple #[]) ∧ StateAt w' g bt (turnN ws tail) tail taken ∧ w.grownBy w' (some g) := by
 have H := zH h
 have h0 : Tryz.f159.results = #[] := by kernel_rfl
 have H0 := zH h0
 have hts : (arrC .u8 tail).size = 128 := by rw [arrC_size, h.tlen]
 have HTS := zH hts
 clear h h0 hts
 refine (callsIn_wide (n := 3)).1 ?_
 refine callsIn_of_wp_marks Tryz.func159 rfl trivial ?_ rfl
 simp only [Tryz.ntmps159, List.size_toArray, List.length_cons, List.length_nil, Nat.reduceAdd, Nat.reduceSub, Array.replicate_succ, Array.replicate_zero, List.push_toArray, List.append_toArray, List.nil_append, List.cons_append]
 have hz : ∀ w, (zeroValue 186).run Tryz.prog w = .ok (.agg (arrC .u64 (List.replicate 80 0))) w := fun _ => by kernel_rfl
 refine wpIn_wide.2 ?_
 go_wp2_with fail
 refine (written_any w).mono ?_
 rintro e w1 ⟨rfl, rfl⟩
 have tf := tab_field (w.alloc (.cells tabC 189))
 go_wp2_with (first
  | (refine wpList_store_row rfl _ _ _ rfl (w.heap.size + 1) (arrC .u64 kL) rfl rfl 186 (arrC .u64 (List.replicate 80 0)) (by rw [← World.size_alloc w (.cells tabC 189)]; exact Go.heap_alloc_new _ _) (by kernel_rfl) (by kernel_rfl) (arrC_one _ _) ?_; generalize hW2 : World.setRow _ (w.heap.size + 1) (arrC .u64 kL) = W2; rw [← World.size_alloc w (.cells tabC 189), alloc_setRow] at hW2; have HF := zH (kept2 w W2 _ _ hW2); have H2 := zH (H.out.below HF.out.1 H.out.lt); have hK2 := zH (HF.out.2); clear hW2 tf; have c0 := H2.out.word 0 (by decide); have c1 := H2.out.word 1 (by decide); have c2 := H2.out.word 2 (by decide); have c3 := H2.out.word 3 (by decide); have c4 := H2.out.word 4 (by decide); have c5 := H2.out.word 5 (by decide); have c6 := H2.out.word 6 (by decide); have c7 := H2.out.word 7 (by decide); simp only [Nat.reduceAdd] at c0 c1 c2 c3 c4 c5 c6 c7)
  | (refine wpList_load_part rfl 183 _ rfl g 9 rfl (arrC .u8 tail) _ (fun j v hv => (H2.out.alloc _).tailC j v hv) Tryz.underlying183 rfl (by rw [HTS.out]; kernel_rfl) ?_))
 rw [arrC_eight ws H.out.wlen]
 have hb3 := (Below.refl W2.heap.size W2).alloc (Nat.le_refl _) (.cells (arrC .u64 ws) 182)
 have HV := zH (show Arr .u64 182 (W2.alloc (.cells (arrC .u64 ws) 182)) W2.heap.size ws from Go.heap_alloc_new W2 _)
 have HKB := zH (show Arr .u64 186 (W2.alloc (.cells (arrC .u64 ws) 182)) (w.heap.size + 1) kL from Arr.alloc hK2.out.1 _)
 have hzz := zH hK2.out.2
 have F := zH (HF.out.1.trans (hb3.mono HF.out.1.size))
 have H3 := zH (H2.out.alloc (.cells (arrC .u64 ws) 182))
 have hV3 : W2.heap.size < (W2.alloc (.cells (arrC .u64 ws) 182)).heap.size := by simp
 generalize W2.alloc (.cells (arrC .u64 ws) 182) = W3 at *
 obtain ⟨V, hVe⟩ : ∃ V, V = W2.heap.size := ⟨_, rfl⟩
 obtain ⟨Kb, hKe⟩ : ∃ K, K = w.heap.size + 1 := ⟨_, rfl⟩
 rw [← hVe] at HV hV3 ⊢
 rw [← hKe] at HKB ⊢
 have HKV := zH (show w.heap.size ≤ Kb ∧ Kb < V ∧ g < w.heap.size by have := hzz.out; have := H.out.lt; omega)
 clear hb3 HF H2 hK2 hzz hVe hKe c0 c1 c2 c3 c4 c5 c6 c7
 refine (scheduled_any tail W3).mono ?_
 rintro e w4 ⟨rfl, rfl⟩
 have HA4 := zH (show Arr .u8 183 (W3.alloc (.cells (arrC .u8 tail) 183)) W3.heap.size tail from Go.heap_alloc_new W3 _)
 have H4 := zH (show TuI w g bt taken Kb V ws tail [] (W3.alloc (.cells (arrC .u8 tail) 183)) from ⟨HKB.out.alloc _, ⟨ws, HV.out.alloc _, H.out.wlen, H.out.wlt, fun _ => rfl⟩, H3.out.alloc _, F.out.alloc F.out.size _⟩)
 have hz4 := zH (show V < (W3.alloc (.cells (arrC .u8 tail) 183)).heap.size by rw [World.size_alloc]; omega)
 obtain ⟨bb, hbb⟩ : ∃ b, b = W3.heap.size := ⟨_, rfl⟩
 rw [← hbb] at HA4 ⊢
 generalize W3.alloc (.cells (arrC .u8 tail) 183) = W4 at *
 clear hbb hV3 HV HKB H3 F
 go_wp2_with fail
 refine (wpIn_wide (n := 3)).1 ?_
 have hsq := sched_seq bb tail W4 HA4.out H.out.tlen H.out.tlt
 refine wpIn_rangeU (α := Pc CT) (F := Fence.wide) (n := 3) (T := TW) rfl (show 1 ≤ 3 by decide) (gf := 204) (lb := #[.pointer (some ⟨bb, 0, none⟩)]) rfl trivial (enters_of Tryz.func204 (by kernel_rfl) rfl)
  hsq (Below.refl _ _) (fun _ => rfl)
  (fun pre W => TuI w g bt taken Kb V ws tail (pre.map (·.1)) W)
  (fun _ _ _ => False)
  ?_ ?_ H4.out ?_ ?_ ?_ ?_ ?_
 rotate_left 3
 ·intro lp x W K hK
  gi_wp2
  exact hK
 ·rintro lp pre ⟨⟨i, u⟩, hlt, lu⟩ W ⟨hkb, ⟨vs, hv, hvl, hvb, hsem⟩, hst, hbel⟩
  replace hlt : i < 80 := hlt
  replace lu : u < 18446744073709551616 := lu
  have HKB := zH hkb
  have HV := zH hv
  have hVl := zH hvl
  have hVb := zH hvb
  have HSEM := zH hsem
  have HST := zH hst
  have HBL := zH hbel
  clear hkb hv hvl hvb hsem hst hbel
  have cv0 := HV.out.cell 0 (by rw [hVl.out]; decide)
  obtain ⟨a, ha⟩ : ∃ x, x = g0 (vs) 0 := ⟨_, rfl⟩
  have la : a < 18446744073709551616 := ha ▸ g0_lt hVb.out (by decide) 0
  rw [show (vs)[0]?.getD 0 = a from ha.symm] at cv0
  have cv1 := HV.out.cell 1 (by rw [hVl.out]; decide)
  obtain ⟨b, hb⟩ : ∃ x, x = g0 (vs) 1 := ⟨_, rfl⟩
  have lb : b < 18446744073709551616 := hb ▸ g0_lt hVb.out (by decide) 1
  rw [show (vs)[1]?.getD 0 = b from hb.symm] at cv1
  have cv2 := HV.out.cell 2 (by rw [hVl.out]; decide)
  obtain ⟨c, hc⟩ : ∃ x, x = g0 (vs) 2 := ⟨_, rfl⟩
  have lc : c < 18446744073709551616 := hc ▸ g0_lt hVb.out (by decide) 2
  rw [show (vs)[2]?.getD 0 = c from hc.symm] at cv2
  have cv3 := HV.out.cell 3 (by rw [hVl.out]; decide)
  obtain ⟨d, hd⟩ : ∃ x, x = g0 (vs) 3 := ⟨_, rfl⟩
  have ld : d < 18446744073709551616 := hd ▸ g0_lt hVb.out (by decide) 3
  rw [show (vs)[3]?.getD 0 = d from hd.symm] at cv3
  have cv4 := HV.out.cell 4 (by rw [hVl.out]; decide)
  obtain ⟨e, he⟩ : ∃ x, x = g0 (vs) 4 := ⟨_, rfl⟩
  have le : e < 18446744073709551616 := he ▸ g0_lt hVb.out (by decide) 4
  rw [show (vs)[4]?.getD 0 = e from he.symm] at cv4
  have cv5 := HV.out.cell 5 (by rw [hVl.out]; decide)
  obtain ⟨f, hf⟩ : ∃ x, x = g0 (vs) 5 := ⟨_, rfl⟩
  have lf : f < 18446744073709551616 := hf ▸ g0_lt hVb.out (by decide) 5
  rw [show (vs)[5]?.getD 0 = f from hf.symm] at cv5
  have cv6 := HV.out.cell 6 (by rw [hVl.out]; decide)
  obtain ⟨m, hm⟩ : ∃ x, x = g0 (vs) 6 := ⟨_, rfl⟩
  have lm : m < 18446744073709551616 := hm ▸ g0_lt hVb.out (by decide) 6
  rw [show (vs)[6]?.getD 0 = m from hm.symm] at cv6
  have cv7 := HV.out.cell 7 (by rw [hVl.out]; decide)
  obtain ⟨h, hh⟩ : ∃ x, x = g0 (vs) 7 := ⟨_, rfl⟩
  have lh : h < 18446744073709551616 := hh ▸ g0_lt hVb.out (by decide) 7
  rw [show (vs)[7]?.getD 0 = h from hh.symm] at cv7
  have ck := HKB.out.cell i (by rw [kL_len]; exact hlt)
  obtain ⟨k, hk⟩ : ∃ x, x = g0 kL i := ⟨_, rfl⟩
  have lk : k < 18446744073709551616 := hk ▸ g0_lt kL_lt (by decide) i
  rw [show kL[i]?.getD 0 = k from hk.symm] at ck
  have HE := zH (show rd vs (g0 kL i) u = [(yN e f m h k u + zN a b c) % 18446744073709551616, a, b, c, (d + yN e f m h k u) % 18446744073709551616, e, f, m] by rw [ha, hb, hc, hd, he, hf, hm, hh, hk]; rfl)
  have HC0 := zH ha
  have HC1 := zH hb
  have HC2 := zH hc
  have HC3 := zH hd
  have HC4 := zH he
  have HC5 := zH hf
  have HC6 := zH hm
  have HC7 := zH hh
  clear ha hb hc hd he hf hm hh hk
  obtain ⟨L1, hL1⟩ : ∃ x, x = laidN e 14 18 41 := ⟨_, rfl⟩
  have lL1 : L1 < 18446744073709551616 := by rw [hL1]; exact laidN_lt le
  obtain ⟨s1, hs1⟩ : ∃ x, x = (h + k) % 18446744073709551616 := ⟨_, rfl⟩
  have ls1 : s1 < 18446744073709551616 := by omega
  obtain ⟨s2, hs2⟩ : ∃ x, x = (s1 + u) % 18446744073709551616 := ⟨_, rfl⟩
  have ls2 : s2 < 18446744073709551616 := by omega
  obtain ⟨s3, hs3⟩ : ∃ x, x = (s2 + L1) % 18446744073709551616 := ⟨_, rfl⟩
  have ls3 : s3 < 18446744073709551616 := by omega
  obtain ⟨A1, hA1⟩ : ∃ x, x = e &&& f := ⟨_, rfl⟩
  have lA1 : A1 < 18446744073709551616 := by rw [hA1]; exact Nat.and_lt_two_pow (n := 64) e lf
  obtain ⟨N1, hN1⟩ : ∃ x, x = 18446744073709551615 - e := ⟨_, rfl⟩
  have lN1 : N1 < 18446744073709551616 := by omega
  obtain ⟨A2, hA2⟩ : ∃ x, x = N1 &&& m := ⟨_, rfl⟩
  have lA2 : A2 < 18446744073709551616 := by rw [hA2]; exact Nat.and_lt_two_pow (n := 64) N1 lm
  obtain ⟨X1, hX1⟩ : ∃ x, x = A1 ^^^ A2 := ⟨_, rfl⟩
  have lX1 : X1 < 18446744073709551616 := by rw [hX1]; exact Nat.xor_lt_two_pow (n := 64) lA1 lA2
  obtain ⟨y, hy⟩ : ∃ x, x = (s3 + X1) % 18446744073709551616 := ⟨_, rfl⟩
  have ly : y < 18446744073709551616 := by omega
  obtain ⟨L2, hL2⟩ : ∃ x, x = laidN a 28 34 39 := ⟨_, rfl⟩
  have lL2 : L2 < 18446744073709551616 := by rw [hL2]; exact laidN_lt la
  obtain ⟨B1, hB1⟩ : ∃ x, x = a &&& b := ⟨_, rfl⟩
  have lB1 : B1 < 18446744073709551616 := by rw [hB1]; exact Nat.and_lt_two_pow (n := 64) a lb
  obtain ⟨B2, hB2⟩ : ∃ x, x = a &&& c := ⟨_, rfl⟩
  have lB2 : B2 < 18446744073709551616 := by rw [hB2]; exact Nat.and_lt_two_pow (n := 64) a lc
  obtain ⟨B3, hB3⟩ : ∃ x, x = b &&& c := ⟨_, rfl⟩
  have lB3 : B3 < 18446744073709551616 := by rw [hB3]; exact Nat.and_lt_two_pow (n := 64) b lc
  obtain ⟨X2, hX2⟩ : ∃ x, x = B1 ^^^ B2 := ⟨_, rfl⟩
  have lX2 : X2 < 18446744073709551616 := by rw [hX2]; exact Nat.xor_lt_two_pow (n := 64) lB1 lB2
  obtain ⟨X3, hX3⟩ : ∃ x, x = X2 ^^^ B3 := ⟨_, rfl⟩
  have lX3 : X3 < 18446744073709551616 := by rw [hX3]; exact Nat.xor_lt_two_pow (n := 64) lX2 lB3
  obtain ⟨z, hz⟩ : ∃ x, x = (L2 + X3) % 18446744073709551616 := ⟨_, rfl⟩
  have lz : z < 18446744073709551616 := by omega
  obtain ⟨n0, hn0⟩ : ∃ x, x = (y + z) % 18446744073709551616 := ⟨_, rfl⟩
  have ln0 : n0 < 18446744073709551616 := by omega
  obtain ⟨n4, hn4⟩ : ∃ x, x = (d + y) % 18446744073709551616 := ⟨_, rfl⟩
  have ln4 : n4 < 18446744073709551616 := by omega
  have es1 : ((h : Int) + (k : Int)) % 18446744073709551616 = (s1 : Int) := by omega
  have es2 : ((s1 : Int) + (u : Int)) % 18446744073709551616 = (s2 : Int) := by omega
  have es3 : ((s2 : Int) + (L1 : Int)) % 18446744073709551616 = (s3 : Int) := by omega
  have ey : ((s3 : Int) + (X1 : Int)) % 18446744073709551616 = (y : Int) := by omega
  have ez : ((L2 : Int) + (X3 : Int)) % 18446744073709551616 = (z : Int) := by omega
  have en0 : ((y : Int) + (z : Int)) % 18446744073709551616 = (n0 : Int) := by omega
  have en4 : ((d : Int) + (y : Int)) % 18446744073709551616 = (n4 : Int) := by omega
  have eN1 : bits BinOp.xor IntKind.u64 (if IntKind.u64.signed = true then -1 else IntKind.u64.max) (e : Int) = (N1 : Int) := by rw [hN1]; exact not_cast e le
  have eA1 : bits BinOp.and IntKind.u64 (e : Int) (f : Int) = (A1 : Int) := by rw [u64_and_nat _ _ le lf, hA1]
  have eA2 : bits BinOp.and IntKind.u64 (N1 : Int) (m : Int) = (A2 : Int) := by rw [u64_and_nat _ _ lN1 lm, hA2]
  have eX1 : bits BinOp.xor IntKind.u64 (A1 : Int) (A2 : Int) = (X1 : Int) := by rw [u64_xor_nat _ _ lA1 lA2, hX1]
  have eB1 : bits BinOp.and IntKind.u64 (a : Int) (b : Int) = (B1 : Int) := by rw [u64_and_nat _ _ la lb, hB1]
  have eB2 : bits BinOp.and IntKind.u64 (a : Int) (c : Int) = (B2 : Int) := by rw [u64_and_nat _ _ la lc, hB2]
  have eB3 : bits BinOp.and IntKind.u64 (b : Int) (c : Int) = (B3 : Int) := by rw [u64_and_nat _ _ lb lc, hB3]
  have eX2 : bits BinOp.xor IntKind.u64 (B1 : Int) (B2 : Int) = (X2 : Int) := by rw [u64_xor_nat _ _ lB1 lB2, hX2]
  have eX3 : bits BinOp.xor IntKind.u64 (X2 : Int) (B3 : Int) = (X3 : Int) := by rw [u64_xor_nat _ _ lX2 lB3, hX3]
  have HE2 := zH (show rd vs (g0 kL i) u = [n0, a, b, c, n4, e, f, m] by rw [HE.out, hn0, hn4, hy, hz, hX3, hX2, hX1, hs3, hs2, hs1, hA1, hA2, hN1, hB1, hB2, hB3, hL1, hL2]; rfl)
  have RL1 := zH hL1
  have RL2 := zH hL2
  clear HE hL1 hs1 hs2 hs3 hA1 hN1 hA2 hX1 hy hL2 hB1 hB2 hB3 hX2 hX3 hz hn0 hn4
  have hwi : IntKind.i64.wrap (i : Int) = (i : Int) := by rw [IntKind.wrap_i64]; omega
  have hzi : 0 ≤ (i : Int) ∧ (i : Int) < 80 := by omega
  have ews1 : IntKind.u64.wrap ((h : Int) + (k : Int)) = (s1 : Int) := by simp [IntKind.wrap, IntKind.bits, IntKind.signed]; omega
  have ews2 : IntKind.u64.wrap ((s1 : Int) + (u : Int)) = (s2 : Int) := by simp [IntKind.wrap, IntKind.bits, IntKind.signed]; omega
  have ews3 : IntKind.u64.wrap ((s2 : Int) + (L1 : Int)) = (s3 : Int) := by simp [IntKind.wrap, IntKind.bits, IntKind.signed]; omega
  have ewy : IntKind.u64.wrap ((s3 : Int) + (X1 : Int)) = (y : Int) := by simp [IntKind.wrap, IntKind.bits, IntKind.signed]; omega
  have ewz : IntKind.u64.wrap ((L2 : Int) + (X3 : Int)) = (z : Int) := by simp [IntKind.wrap, IntKind.bits, IntKind.signed]; omega
  have ewn0 : IntKind.u64.wrap ((y : Int) + (z : Int)) = (n0 : Int) := by simp [IntKind.wrap, IntKind.bits, IntKind.signed]; omega
  have ewn4 : IntKind.u64.wrap ((d : Int) + (y : Int)) = (n4 : Int) := by simp [IntKind.wrap, IntKind.bits, IntKind.signed]; omega
  have ff := HV.out.frozen
  have f0 := ff 0
  have f1 := ff 1
  have f2 := ff 2
  have f3 := ff 3
  have f4 := ff 4
  have f5 := ff 5
  have f6 := ff 6
  have f7 := ff 7
  clear ff
  gi_wp2_with fail
  refine wpIn_region_held_drew (S := fun W => W.cell? ⟨V, 0, none⟩ = some (.int .u64 (a : Int)) ∧ W.cell? ⟨V, 1, none⟩ = some (.int .u64 (b : Int)) ∧ W.cell? ⟨V, 2, none⟩ = some (.int .u64 (c : Int)) ∧ W.cell? ⟨V, 3, none⟩ = some (.int .u64 (d : Int)) ∧ W.cell? ⟨V, 4, none⟩ = some (.int .u64 (e : Int)) ∧ W.cell? ⟨V, 5, none⟩ = some (.int .u64 (f : Int)) ∧ W.cell? ⟨V, 6, none⟩ = some (.int .u64 (m : Int)) ∧ W.cell? ⟨V, 7, none⟩ = some (.int .u64 (h : Int)) ∧ W.cell? ⟨Kb, i, none⟩ = some (.int .u64 (k : Int))) (by kernel_rfl) (plain_of (by kernel_rfl)) ?_ ⟨cv0, cv1, cv2, cv3, cv4, cv5, cv6, cv7, ck⟩ (fun hHeld => ?_)
  ·rintro ⟨a, w, h⟩
   exact h
  refine' wpAnyH_take (i := 0) rfl (by kernel_rfl) (by kernel_rfl) (by kernel_rfl) (fun _ _ _ h => h) (Or.inl ⟨?_, ?_⟩) (by assumption) ?_
  rotate_left
  all_goals (try simp only [zq4, zq5, zq6])
  ·rfl
  ·intro W hSw; (try dsimp only at hSw); go_simp; (try with_reducible rfl)
  try simp only [Act.put, zq1, zq2, zq3]
  refine' wpAnyH_take (i := 1) rfl (by kernel_rfl) (by kernel_rfl) (by kernel_rfl) (fun _ _ _ h => h) (Or.inl ⟨?_, ?_⟩) (by assumption) ?_
  rotate_left
  all_goals (try simp only [zq4, zq5, zq6])
  ·rfl
  ·intro W hSw; (try dsimp only at hSw); go_simp; (try with_reducible rfl)
  try simp only [Act.put, zq1, zq2, zq3]
  refine' wpAnyH_take (i := 2) rfl (by kernel_rfl) (by kernel_rfl) (by kernel_rfl) (fun _ _ _ h => h) (Or.inl ⟨?_, ?_⟩) (by assumption) ?_
  rotate_left
  all_goals (try simp only [zq4, zq5, zq6])
  ·rfl
  ·intro W hSw; (try dsimp only at hSw); go_simp; (try with_reducible rfl)
  try simp only [Act.put, zq1, zq2, zq3]
  refine' wpAnyH_take (i := 3) rfl (by kernel_rfl) (by kernel_rfl) (by kernel_rfl) (fun _ _ _ h => h) (Or.inl ⟨?_, ?_⟩) (by assumption) ?_
  rotate_left
  all_goals (try simp only [zq4, zq5, zq6])
  ·rfl
  ·intro W hSw; (try dsimp only at hSw); go_simp; (try with_reducible rfl)
  try simp only [Act.put, zq1, zq2, zq3]
  refine' wpAnyH_take (i := 4) rfl (by kernel_rfl) (by kernel_rfl) (by kernel_rfl) (fun _ _ _ h => h) (Or.inl ⟨?_, ?_⟩) (by assumption) ?_
  rotate_left
  all_goals (try simp only [zq4, zq5, zq6])
  ·rfl
  ·intro W hSw; (try dsimp only at hSw); go_simp; (try with_reducible rfl)
  try simp only [Act.put, zq1, zq2, zq3]
  refine' wpAnyH_take (i := 5) rfl (by kernel_rfl) (by kernel_rfl) (by kernel_rfl) (fun _ _ _ h => h) (Or.inl ⟨?_, ?_⟩) (by assumption) ?_
  rotate_left
  all_goals (try simp only [zq4, zq5, zq6])
  ·rfl
  ·intro W hSw; (try dsimp only at hSw); go_simp; (try with_reducible rfl)
  try simp only [Act.put, zq1, zq2, zq3]
  refine' wpAnyH_take (i := 6) rfl (by kernel_rfl) (by kernel_rfl) (by kernel_rfl) (fun _ _ _ h => h) (Or.inl ⟨?_, ?_⟩) (by assumption) ?_
  rotate_left
  all_goals (try simp only [zq4, zq5, zq6])
  ·rfl
  ·intro W hSw; (try dsimp only at hSw); go_simp; (try with_reducible rfl)
  try simp only [Act.put, zq1, zq2, zq3]
  refine' wpAnyH_take (i := 7) rfl (by kernel_rfl) (by kernel_rfl) (by kernel_rfl) (fun _ _ _ h => h) (Or.inl ⟨?_, ?_⟩) (by assumption) ?_
  rotate_left
  all_goals (try simp only [zq4, zq5, zq6])
  ·rfl
  ·intro W hSw; (try dsimp only at hSw); go_simp; (try with_reducible rfl)
  try simp only [Act.put, zq1, zq2, zq3]
  refine' wpAnyH_take (i := 8) rfl (by kernel_rfl) (by kernel_rfl) (by kernel_rfl) (fun _ _ _ h => h) (Or.inl ⟨?_, ?_⟩) (by assumption) ?_
  rotate_left
  all_goals (try simp only [zq4, zq5, zq6])
  ·rfl
  ·intro W hSw; (try dsimp only at hSw); go_simp; (try with_reducible rfl)
  try simp only [Act.put, zq1, zq2, zq3]
  refine' wpAnyH_take (i := 9) rfl (by kernel_rfl) (by kernel_rfl) (by kernel_rfl) (fun _ _ _ h => h) (Or.inl ⟨?_, ?_⟩) (by assumption) ?_
  rotate_left
  all_goals (try simp only [zq4, zq5, zq6])
  ·rfl
  ·intro W hSw; (try dsimp only at hSw); go_simp; (try with_reducible rfl)
  try simp only [Act.put, zq1, zq2, zq3]
  refine' wpAnyH_take (i := 12) rfl (by kernel_rfl) (by kernel_rfl) (by kernel_rfl) (fun _ _ _ h => h) (Or.inl ⟨?_, ?_⟩) (by assumption) ?_
  rotate_left
  all_goals (try simp only [zq4, zq5, zq6])
  ·rfl
  ·intro W hSw; (try dsimp only at hSw); go_simp; (try with_reducible rfl)
  try simp only [Act.put, zq1, zq2, zq3]
  refine' wpAnyH_take (i := 13) rfl (by kernel_rfl) (by kernel_rfl) (by kernel_rfl) (fun _ _ _ h => h) (Or.inl ⟨?_, ?_⟩) (by assumption) ?_
  rotate_left
  all_goals (try simp only [zq4, zq5, zq6])
  ·rfl
  ·intro W hSw; (try dsimp only at hSw); go_simp; (try with_reducible rfl)
  try simp only [Act.put, zq1, zq2, zq3]
  refine' wpAnyH_take (i := 14) rfl (by kernel_rfl) (by kernel_rfl) (by kernel_rfl) (fun _ _ _ h => h) (Or.inl ⟨?_, ?_⟩) (by assumption) ?_
  rotate_left
  all_goals (try simp only [zq4, zq5, zq6])
  ·rfl
  ·intro W hSw; (try dsimp only at hSw); go_simp; (try with_reducible rfl)
  try simp only [Act.put, zq1, zq2, zq3]
  refine' wpAnyH_take (i := 15) rfl (by kernel_rfl) (by kernel_rfl) (by kernel_rfl) (fun _ _ _ h => h) (Or.inl ⟨?_, ?_⟩) (by assumption) ?_
  rotate_left
  all_goals (try simp only [zq4, zq5, zq6])
  ·rfl
  ·intro W hSw; (try dsimp only at hSw); go_simp; (try with_reducible rfl)
  try simp only [Act.put, zq1, zq2, zq3]
  refine' wpAnyH_take (i := 16) rfl (by kernel_rfl) (by kernel_rfl) (by kernel_rfl) (fun _ _ _ h => h) (Or.inl ⟨?_, ?_⟩) (by assumption) ?_
  rotate_left
  all_goals (try simp only [zq4, zq5, zq6])
  ·rfl
  ·intro W hSw; (try dsimp only at hSw); go_simp; (try with_reducible rfl)
  try simp only [Act.put, zq1, zq2, zq3]
  refine' wpAnyH_take (i := 17) rfl (by kernel_rfl) (by kernel_rfl) (by kernel_rfl) (fun _ _ _ h => h) (Or.inl ⟨?_, ?_⟩) (by assumption) ?_
  rotate_left
  all_goals (try simp only [zq4, zq5, zq6])
  ·rfl
  ·intro W hSw; (try dsimp only at hSw); go_simp; (try with_reducible rfl)
  try simp only [Act.put, zq1, zq2, zq3]
  refine' wpAnyH_take (i := 18) rfl (by kernel_rfl) (by kernel_rfl) (by kernel_rfl) (fun _ _ _ h => h) (Or.inl ⟨?_, ?_⟩) (by assumption) ?_
  rotate_left
  all_goals (try simp only [zq4, zq5, zq6])
  ·rfl
  ·intro W hSw; (try dsimp only at hSw); go_simp; (try with_reducible rfl)
  try simp only [Act.put, zq1, zq2, zq3]
  refine' wpAnyH_take (i := 19) rfl (by kernel_rfl) (by kernel_rfl) (by kernel_rfl) (fun _ _ _ h => h) (Or.inl ⟨?_, ?_⟩) (by assumption) ?_
  rotate_left
  all_goals (try simp only [zq4, zq5, zq6])
  ·rfl
  ·intro W hSw; (try dsimp only at hSw); go_simp; (try with_reducible rfl)
  try simp only [Act.put, zq1, zq2, zq3]
  refine' wpAnyH_take (i := 20) rfl (by kernel_rfl) (by kernel_rfl) (by kernel_rfl) (fun _ _ _ h => h) (Or.inl ⟨?_, ?_⟩) (by assumption) ?_
  rotate_left
  all_goals (try simp only [zq4, zq5, zq6])
  ·rfl
  ·intro W hSw; (try dsimp only at hSw); go_simp; (try with_reducible rfl)
  try simp only [Act.put, zq1, zq2, zq3]
  refine' wpAnyH_take (i := 21) rfl (by kernel_rfl) (by kernel_rfl) (by kernel_rfl) (fun _ _ _ h => h) (Or.inl ⟨?_, ?_⟩) (by assumption) ?_
  rotate_left
  all_goals (try simp only [zq4, zq5, zq6])
  ·rfl
  ·intro W hSw; (try dsimp only at hSw); go_simp; (try with_reducible rfl)
  try simp only [Act.put, zq1, zq2, zq3]
  refine' wpAnyH_take (i := 22) rfl (by kernel_rfl) (by kernel_rfl) (by kernel_rfl) (fun _ _ _ h => h) (Or.inl ⟨?_, ?_⟩) (by assumption) ?_
  rotate_left
  all_goals (try simp only [zq4, zq5, zq6])
  ·rfl
  ·intro W hSw; (try dsimp only at hSw); go_simp; (try with_reducible rfl)
  try simp only [Act.put, zq1, zq2, zq3]
  refine' wpAnyH_take (i := 23) rfl (by kernel_rfl) (by kernel_rfl) (by kernel_rfl) (fun _ _ _ h => h) (Or.inl ⟨?_, ?_⟩) (by assumption) ?_
  rotate_left
  all_goals (try simp only [zq4, zq5, zq6])
  ·rfl
  ·intro W hSw; (try dsimp only at hSw); go_simp; (try with_reducible rfl)
  try simp only [Act.put, zq1, zq2, zq3]
  refine wpAnyH_ready (rs := [10]) (by kernel_rfl) (by simp) ?_
  refine AllReadyH.cons (o := _) rfl (fun K hK => ?_) AllReadyH.nil
  try simp only [zq4, zq5, zq6]
  go_simp
  refine (laid_any e 14 18 41 _ _ _ _ rfl rfl rfl (by decide) (by decide) (by decide) le L1 RL1.out).mono ?_; rintro e5 w5 ⟨rfl, rfl⟩
  go_wp2_with fail
  refine hK.out _ _ hHeld (fun hHeld => ?_)
  clear hK K
  try simp only [Act.put, zq1, zq2, zq3]
  refine' wpAnyH_take (i := 11) rfl (by kernel_rfl) (by kernel_rfl) (by kernel_rfl) (fun _ _ _ h => h) (Or.inl ⟨?_, ?_⟩) (by assumption) ?_
  rotate_left
  all_goals (try simp only [zq4, zq5, zq6])
  ·rfl
  ·intro W hSw; (try dsimp only at hSw); go_simp; (try with_reducible rfl)
  try simp only [Act.put, zq1, zq2, zq3]
  refine' wpAnyH_take (i := 24) rfl (by kernel_rfl) (by kernel_rfl) (by kernel_rfl) (fun _ _ _ h => h) (Or.inl ⟨?_, ?_⟩) (by assumption) ?_
  rotate_left
  all_goals (try simp only [zq4, zq5, zq6])
  ·rfl
  ·intro W hSw; (try dsimp only at hSw); go_simp; (try with_reducible rfl)
  try simp only [Act.put, zq1, zq2, zq3]
  refine' wpAnyH_take (i := 25) rfl (by kernel_rfl) (by kernel_rfl) (by kernel_rfl) (fun _ _ _ h => h) (Or.inl ⟨?_, ?_⟩) (by assumption) ?_
  rotate_left
  all_goals (try simp only [zq4, zq5, zq6])
  ·rfl
  ·intro W hSw; (try dsimp only at hSw); go_simp; (try with_reducible rfl)
  try simp only [Act.put, zq1, zq2, zq3]
  refine wpAnyH_done (by kernel_rfl) ?_ _
  gi_wp2_with fail
  refine wpIn_region_held_drew (S := fun W => W.cell? ⟨V, 0, none⟩ = some (.int .u64 (a : Int)) ∧ W.cell? ⟨V, 1, none⟩ = some (.int .u64 (b : Int)) ∧ W.cell? ⟨V, 2, none⟩ = some (.int .u64 (c : Int)) ∧ W.cell? ⟨V, 3, none⟩ = some (.int .u64 (d : Int)) ∧ W.cell? ⟨V, 4, none⟩ = some (.int .u64 (e : Int)) ∧ W.cell? ⟨V, 5, none⟩ = some (.int .u64 (f : Int)) ∧ W.cell? ⟨V, 6, none⟩ = some (.int .u64 (m : Int)) ∧ W.cell? ⟨V, 7, none⟩ = some (.int .u64 (h : Int)) ∧ W.cell? ⟨Kb, i, none⟩ = some (.int .u64 (k : Int))) (by kernel_rfl) (plain_of (by kernel_rfl)) ?_ ⟨cv0, cv1, cv2, cv3, cv4, cv5, cv6, cv7, ck⟩ (fun hHeld => ?_)
  ·rintro ⟨a, w, h⟩
   exact h
  refine' wpAnyH_take (i := 0) rfl (by kernel_rfl) (by kernel_rfl) (by kernel_rfl) (fun _ _ _ h => h) (Or.inl ⟨?_, ?_⟩) (by assumption) ?_
  rotate_left
  all_goals (try simp only [zq4, zq5, zq6])
  ·rfl
  ·intro W hSw; (try dsimp only at hSw); go_simp; (try with_reducible rfl)
  try simp only [Act.put, zq1, zq2, zq3]
  refine' wpAnyH_take (i := 1) rfl (by kernel_rfl) (by kernel_rfl) (by kernel_rfl) (fun _ _ _ h => h) (Or.inl ⟨?_, ?_⟩) (by assumption) ?_
  rotate_left
  all_goals (try simp only [zq4, zq5, zq6])
  ·rfl
  ·intro W hSw; (try dsimp only at hSw); go_simp; (try with_reducible rfl)
  try simp only [Act.put, zq1, zq2, zq3]
  refine' wpAnyH_take (i := 3) rfl (by kernel_rfl) (by kernel_rfl) (by kernel_rfl) (fun _ _ _ h => h) (Or.inl ⟨?_, ?_⟩) (by assumption) ?_
  rotate_left
  all_goals (try simp only [zq4, zq5, zq6])
  ·rfl
  ·intro W hSw; (try dsimp only at hSw); go_simp; (try with_reducible rfl)
  try simp only [Act.put, zq1, zq2, zq3]
  refine' wpAnyH_take (i := 4) rfl (by kernel_rfl) (by kernel_rfl) (by kernel_rfl) (fun _ _ _ h => h) (Or.inl ⟨?_, ?_⟩) (by assumption) ?_
  rotate_left
  all_goals (try simp only [zq4, zq5, zq6])
  ·rfl
  ·intro W hSw; (try dsimp only at hSw); go_simp; (try with_reducible rfl)
  try simp only [Act.put, zq1, zq2, zq3]
  refine' wpAnyH_take (i := 5) rfl (by kernel_rfl) (by kernel_rfl) (by kernel_rfl) (fun _ _ _ h => h) (Or.inl ⟨?_, ?_⟩) (by assumption) ?_
  rotate_left
  all_goals (try simp only [zq4, zq5, zq6])
  ·rfl
  ·intro W hSw; (try dsimp only at hSw); go_simp; (try with_reducible rfl)
  try simp only [Act.put, zq1, zq2, zq3]
  refine' wpAnyH_take (i := 6) rfl (by kernel_rfl) (by kernel_rfl) (by kernel_rfl) (fun _ _ _ h => h) (Or.inl ⟨?_, ?_⟩) (by assumption) ?_
  rotate_left
  all_goals (try simp only [zq4, zq5, zq6])
  ·rfl
  ·intro W hSw; (try dsimp only at hSw); go_simp; (try with_reducible rfl)
  try simp only [Act.put, zq1, zq2, zq3]
  refine' wpAnyH_take (i := 7) rfl (by kernel_rfl) (by kernel_rfl) (by kernel_rfl) (fun _ _ _ h => h) (Or.inl ⟨?_, ?_⟩) (by assumption) ?_
  rotate_left
  all_goals (try simp only [zq4, zq5, zq6])
  ·rfl
  ·intro W hSw; (try dsimp only at hSw); go_simp; (try with_reducible rfl)
  try simp only [Act.put, zq1, zq2, zq3]
  refine' wpAnyH_take (i := 8) rfl (by kernel_rfl) (by kernel_rfl) (by kernel_rfl) (fun _ _ _ h => h) (Or.inl ⟨?_, ?_⟩) (by assumption) ?_
  rotate_left
  all_goals (try simp only [zq4, zq5, zq6])
  ·rfl
  ·intro W hSw; (try dsimp only at hSw); go_simp; (try with_reducible rfl)
  try simp only [Act.put, zq1, zq2, zq3]
  refine' wpAnyH_take (i := 9) rfl (by kernel_rfl) (by kernel_rfl) (by kernel_rfl) (fun _ _ _ h => h) (Or.inl ⟨?_, ?_⟩) (by assumption) ?_
  rotate_left
  all_goals (try simp only [zq4, zq5, zq6])
  ·rfl
  ·intro W hSw; (try dsimp only at hSw); go_simp; (try with_reducible rfl)
  try simp only [Act.put, zq1, zq2, zq3]
  refine' wpAnyH_take (i := 10) rfl (by kernel_rfl) (by kernel_rfl) (by kernel_rfl) (fun _ _ _ h => h) (Or.inl ⟨?_, ?_⟩) (by assumption) ?_
  rotate_left
  all_goals (try simp only [zq4, zq5, zq6])
  ·rfl
  ·intro W hSw; (try dsimp only at hSw); go_simp; (try with_reducible rfl)
  try simp only [Act.put, zq1, zq2, zq3]
  refine' wpAnyH_take (i := 11) rfl (by kernel_rfl) (by kernel_rfl) (by kernel_rfl) (fun _ _ _ h => h) (Or.inl ⟨?_, ?_⟩) (by assumption) ?_
  rotate_left
  all_goals (try simp only [zq4, zq5, zq6])
  ·rfl
  ·intro W hSw; (try dsimp only at hSw); go_simp; (try with_reducible rfl)
  try simp only [Act.put, zq1, zq2, zq3]
  refine' wpAnyH_take (i := 12) rfl (by kernel_rfl) (by kernel_rfl) (by kernel_rfl) (fun _ _ _ h => h) (Or.inl ⟨?_, ?_⟩) (by assumption) ?_
  rotate_left
  all_goals (try simp only [zq4, zq5, zq6])
  ·rfl
  ·intro W hSw; (try dsimp only at hSw); go_simp; (try with_reducible rfl)
  try simp only [Act.put, zq1, zq2, zq3]
  refine' wpAnyH_take (i := 13) rfl (by kernel_rfl) (by kernel_rfl) (by kernel_rfl) (fun _ _ _ h => h) (Or.inl ⟨?_, ?_⟩) (by assumption) ?_
  rotate_left
  all_goals (try simp only [zq4, zq5, zq6])
  ·rfl
  ·intro W hSw; (try dsimp only at hSw); go_simp; (try with_reducible rfl)
  try simp only [Act.put, zq1, zq2, zq3]
  refine' wpAnyH_take (i := 14) rfl (by kernel_rfl) (by kernel_rfl) (by kernel_rfl) (fun _ _ _ h => h) (Or.inl ⟨?_, ?_⟩) (by assumption) ?_
  rotate_left
  all_goals (try simp only [zq4, zq5, zq6])
  ·rfl
  ·intro W hSw; (try dsimp only at hSw); go_simp; (try with_reducible rfl)
  try simp only [Act.put, zq1, zq2, zq3]
  refine' wpAnyH_take (i := 15) rfl (by kernel_rfl) (by kernel_rfl) (by kernel_rfl) (fun _ _ _ h => h) (Or.inl ⟨?_, ?_⟩) (by assumption) ?_
  rotate_left
  all_goals (try simp only [zq4, zq5, zq6])
  ·rfl
  ·intro W hSw; (try dsimp only at hSw); go_simp; (try with_reducible rfl)
  try simp only [Act.put, zq1, zq2, zq3]
  refine' wpAnyH_take (i := 16) rfl (by kernel_rfl) (by kernel_rfl) (by kernel_rfl) (fun _ _ _ h => h) (Or.inl ⟨?_, ?_⟩) (by assumption) ?_
  rotate_left
  all_goals (try simp only [zq4, zq5, zq6])
  ·rfl
  ·intro W hSw; (try dsimp only at hSw); go_simp; (try with_reducible rfl)
  try simp only [Act.put, zq1, zq2, zq3]
  refine' wpAnyH_take (i := 17) rfl (by kernel_rfl) (by kernel_rfl) (by kernel_rfl) (fun _ _ _ h => h) (Or.inl ⟨?_, ?_⟩) (by assumption) ?_
  rotate_left
  all_goals (try simp only [zq4, zq5, zq6])
  ·rfl
  ·intro W hSw; (try dsimp only at hSw); go_simp; (try with_reducible rfl)
  try simp only [Act.put, zq1, zq2, zq3]
  refine' wpAnyH_take (i := 18) rfl (by kernel_rfl) (by kernel_rfl) (by kernel_rfl) (fun _ _ _ h => h) (Or.inl ⟨?_, ?_⟩) (by assumption) ?_
  rotate_left
  all_goals (try simp only [zq4, zq5, zq6])
  ·rfl
  ·intro W hSw; (try dsimp only at hSw); go_simp; (try with_reducible rfl)
  try simp only [Act.put, zq1, zq2, zq3]
  refine' wpAnyH_take (i := 19) rfl (by kernel_rfl) (by kernel_rfl) (by kernel_rfl) (fun _ _ _ h => h) (Or.inl ⟨?_, ?_⟩) (by assumption) ?_
  rotate_left
  all_goals (try simp only [zq4, zq5, zq6])
  ·rfl
  ·intro W hSw; (try dsimp only at hSw); go_simp; (try with_reducible rfl)
  try simp only [Act.put, zq1, zq2, zq3]
  refine wpAnyH_ready (rs := [2]) (by kernel_rfl) (by simp) ?_
  refine AllReadyH.cons (o := _) rfl (fun K hK => ?_) AllReadyH.nil
  try simp only [zq4, zq5, zq6]
  go_simp
  refine (laid_any a 28 34 39 _ _ _ _ rfl rfl rfl (by decide) (by decide) (by decide) la L2 RL2.out).mono ?_; rintro e5 w5 ⟨rfl, rfl⟩
  go_wp2_with fail
  refine hK.out _ _ hHeld (fun hHeld => ?_)
  clear hK K
  try simp only [Act.put, zq1, zq2, zq3]
  refine' wpAnyH_take (i := 20) rfl (by kernel_rfl) (by kernel_rfl) (by kernel_rfl) (fun _ _ _ h => h) (Or.inl ⟨?_, ?_⟩) (by assumption) ?_
  rotate_left
  all_goals (try simp only [zq4, zq5, zq6])
  ·rfl
  ·intro W hSw; (try dsimp only at hSw); go_simp; (try with_reducible rfl)
  try simp only [Act.put, zq1, zq2, zq3]
  refine' wpAnyH_take (i := 21) rfl (by kernel_rfl) (by kernel_rfl) (by kernel_rfl) (fun _ _ _ h => h) (Or.inl ⟨?_, ?_⟩) (by assumption) ?_
  rotate_left
  all_goals (try simp only [zq4, zq5, zq6])
  ·rfl
  ·intro W hSw; (try dsimp only at hSw); go_simp; (try with_reducible rfl)
  try simp only [Act.put, zq1, zq2, zq3]
  refine wpAnyH_done (by kernel_rfl) ?_ _
  clear cv0 cv1 cv2 cv3 cv4 cv5 cv6 cv7 ck
  have HG5 := zH (show W.grownBy W.drew.drew (some V) from ⟨rfl, rfl, rfl, Nat.le_refl _, fun _ _ _ => rfl⟩)
  have HV5 := zH (show Arr .u64 182 W.drew.drew V vs from HV.out)
  clear f0 f1 f2 f3 f4 f5 f6 f7
  generalize W.drew.drew = W5 at *
  have ff := HV5.out.frozen
  have f0 := ff 0
  have f1 := ff 1
  have f2 := ff 2
  have f3 := ff 3
  have f4 := ff 4
  have f5 := ff 5
  have f6 := ff 6
  have f7 := ff 7
  clear ff
  have d0 : W5.cell? ⟨V, 0, none⟩ = some (.int .u64 (a : Int)) := (HV5.out.cell 0 (by rw [hVl.out]; decide)).trans (by rw [show vs[0]?.getD 0 = a from HC0.out.symm])
  have d1 : W5.cell? ⟨V, 1, none⟩ = some (.int .u64 (b : Int)) := (HV5.out.cell 1 (by rw [hVl.out]; decide)).trans (by rw [show vs[1]?.getD 0 = b from HC1.out.symm])
  have d2 : W5.cell? ⟨V, 2, none⟩ = some (.int .u64 (c : Int)) := (HV5.out.cell 2 (by rw [hVl.out]; decide)).trans (by rw [show vs[2]?.getD 0 = c from HC2.out.symm])
  have d3 : W5.cell? ⟨V, 3, none⟩ = some (.int .u64 (d : Int)) := (HV5.out.cell 3 (by rw [hVl.out]; decide)).trans (by rw [show vs[3]?.getD 0 = d from HC3.out.symm])
  have d4 : W5.cell? ⟨V, 4, none⟩ = some (.int .u64 (e : Int)) := (HV5.out.cell 4 (by rw [hVl.out]; decide)).trans (by rw [show vs[4]?.getD 0 = e from HC4.out.symm])
  have d5 : W5.cell? ⟨V, 5, none⟩ = some (.int .u64 (f : Int)) := (HV5.out.cell 5 (by rw [hVl.out]; decide)).trans (by rw [show vs[5]?.getD 0 = f from HC5.out.symm])
  have d6 : W5.cell? ⟨V, 6, none⟩ = some (.int .u64 (m : Int)) := (HV5.out.cell 6 (by rw [hVl.out]; decide)).trans (by rw [show vs[6]?.getD 0 = m from HC6.out.symm])
  have d7 : W5.cell? ⟨V, 7, none⟩ = some (.int .u64 (h : Int)) := (HV5.out.cell 7 (by rw [hVl.out]; decide)).trans (by rw [show vs[7]?.getD 0 = h from HC7.out.symm])
  have HLT := zH (show ∀ x ∈ [n0, a, b, c, n4, e, f, m], x < 18446744073709551616 by intro x hx; simp at hx; omega)
  clear ews1 ews2 ews3 ewy ewz es1 es2 es3 ey ez eN1 eA1 eA2 eX1 eB1 eB2 eB3 eX2 eX3 lL1 ls1 ls2 ls3 lA1 lN1 lA2 lX1 lL2 lB1 lB2 lB3 lX2 lX3 hwi hzi
  gi_wp2_with fail
  have hg8 : W.grownBy ((((((((W5.setCell ⟨V, 0, none⟩ (.int .u64 (n0 : Int))).setCell ⟨V, 1, none⟩ (.int .u64 (a : Int))).setCell ⟨V, 2, none⟩ (.int .u64 (b : Int))).setCell ⟨V, 3, none⟩ (.int .u64 (c : Int))).setCell ⟨V, 4, none⟩ (.int .u64 (n4 : Int))).setCell ⟨V, 5, none⟩ (.int .u64 (e : Int))).setCell ⟨V, 6, none⟩ (.int .u64 (f : Int))).setCell ⟨V, 7, none⟩ (.int .u64 (m : Int))) (some V) := grown_set (grown_set (grown_set (grown_set (grown_set (grown_set (grown_set (grown_set (HG5.out) _ _) _ _) _ _) _ _) _ _) _ _) _ _) _ _
  have hVw := HV.out.lt
  have hkv := HKV.out
  refine ⟨(keeps_arr HV.out hg8).from _, KpT.grown hg8 (fun r e => by cases e; exact ⟨_, _, _, HV.out, by decide⟩), (hg8.block Kb HKB.out.lt (by intro e; cases e; omega)).trans HKB.out, ⟨[n0, a, b, c, n4, e, f, m], ?_, rfl, HLT.out, ?_⟩, HST.out.block (hg8.block g HST.out.lt (by intro e; cases e; omega)), HBL.out.grown hg8 HBL.out.size (fun r e => by cases e; omega)⟩
  ·rw [← set8 hVl.out n0 a b c n4 e f m]
   exact ((((((((HV5.out).stored 0 n0 _ rfl).stored 1 a _ rfl).stored 2 b _ rfl).stored 3 c _ rfl).stored 4 n4 _ rfl).stored 5 e _ rfl).stored 6 f _ rfl).stored 7 m _ rfl
  ·intro he
   rw [List.map_append] at he ⊢
   obtain ⟨h1, h2⟩ := told_split he
   rw [List.length_append, show ([(⟨(i, u), ⟨hlt, lu⟩⟩ : Pc CT)].map (·.1)).length = 1 from rfl, rdsN_succ]
   obtain ⟨e1, e2⟩ := Prod.mk.inj h2
   rw [← HSEM.out h1, ← e2, ← e1, HE2.out]
 ·rintro D xs W hD hS ⟨hkb, ⟨vs, hv, hvl, hvb, hsem⟩, hst, hbel⟩ hK
  have hvs := hsem (by rw [hS, told_len])
  rw [hS, told_len] at hvs
  have HV := zH hv
  have hVl := zH hvl
  have hVb := zH hvb
  have HVS := zH hvs
  have HST := zH hst
  have HBL := zH hbel
  have HK := zH hK
  have HD := zH hD
  have HTN := zH (show turnN ws tail = addTo ws (rdsN ws (schedN tail) 80) 8 from rfl)
  have HG0 := zH (show W.grownBy W (some g) from ⟨rfl, rfl, rfl, Nat.le_refl _, fun _ _ _ => rfl⟩)
  clear hkb hv hvl hvb hsem hst hbel hK hD hS hvs
  go_wp2_with (refine wpList_load_row rfl _ _ rfl V rfl _ (arrC .u64 vs) _ _ HV.out Tryz.underlying182 rfl (by rw [arrC_size, hVl.out]; kernel_rfl) ?_)
  go_loopw [90] (fun iv wq => ∃ j : Nat, iv = .int .i64 (j : Int) ∧ j ≤ 8 ∧ Hid (StateAt wq g bt (addTo ws vs j) tail taken ∧ W.grownBy wq (some g))) (fun iv _ => 8 - (intOf iv).toNat)
  case atStart => exact ⟨0, rfl, by decide, HST.out, HG0.out⟩
  case round =>
   obtain ⟨j, rfl, hj, hI⟩ := hrel
   rcases Nat.lt_or_ge j 8 with hlt | hge
   ·have hd : decide ((j : Int) < 8) = true := by simp; omega
    have cj := hI.out.1.word j hlt
    have fj := hI.out.1.frozen (1 + j)
    obtain ⟨x, hx⟩ : ∃ x, x = g0 (addTo ws vs j) j := ⟨_, rfl⟩
    rw [← hx] at cj
    have lx : x < 18446744073709551616 := hx ▸ g0_lt hI.out.1.wlt (by decide) j
    have ix := idx8 vs j hlt hVl.out
    obtain ⟨u, hu⟩ : ∃ u, u = g0 vs j := ⟨_, rfl⟩
    have lu : u < 18446744073709551616 := hu ▸ g0_lt hVb.out (by decide) j
    rw [show vs[j]?.getD 0 = u from hu.symm] at ix
    have ixw := ix wr
    obtain ⟨s, hs⟩ : ∃ s, s = (x + u) % 18446744073709551616 := ⟨_, rfl⟩
    have ls : s < 18446744073709551616 := by omega
    have es : ((x : Int) + (u : Int)) % 18446744073709551616 = (s : Int) := by omega
    have HE := zH (show addTo ws vs (j + 1) = (addTo ws vs j).set j s by rw [hs, hx, hu]; rfl)
    clear hx hu hs ix
    go_wp2_with fail
    go_region
    go_wp2
    go_roundw
    case rel => exact ⟨j + 1, by go_num, by omega, by rw [HE.out]; exact (hI.out.1.drew').setWord j s hlt _ (by simp [IntKind.wrap, IntKind.bits, IntKind.signed]; omega) ls, grown_set (grown_drew hI.out.2) _ _⟩
    case measure => simp [intOf]; omega
   ·obtain rfl : j = 8 := by omega
    have hd : decide (((8 : Nat) : Int) < 8) = false := by decide
    have hkv := HKV.out
    have hzz := hz4.out
    have hDD := HD.out
    have hKr := (hI.out.2.block D (Array.getElem?_eq_some_iff.1 HK.out).1 (by intro e; cases e; omega)).trans HK.out
    have HKr := zH hKr
    clear hKr hkv hzz hDD
    go_wp2
    refine ⟨by simp, .inl ⟨_, _, rfl, run_takeDeferred HKr.out, ?_⟩⟩
    have hkv := HKV.out
    have hzz := hz4.out
    have hDD := HD.out
    refine ⟨_, results_none H0.out _ _ _, rfl, ?_, grown_past (grown_trans (grown_below HBL.out (some g)) hI.out.2) (grownBy_putObj' wr D _) (fun r e => by cases e; omega)⟩
    rw [HTN.out, ← HVS.out]
    exact hI.out.1.block (World.putObj_heap_other (by omega))
 ·rintro D cc pre W hD hSp h
  exact h.elim
 ·exact fun s X X' row h hg hr => h.stays hg (fun r e => by
   have h2 := HKV.out
   have h3 := hz4.out
   rcases hr r e with ⟨h4, -⟩
   omega)
 ·exact fun cc s X X' row h hg hr => h
end Go.Proofs.YtpefjkndfifceaaGreatDoor.L5
namespace Go.Proofs.YtpefjkndfifceaaGreatDoor.L5
open Go.RowKit Go.Shelf
set_option maxRecDepth 100000
theorem _root_.Go.Proofs.YtpefjkndfifceaaGreatDoor.Reads.from5 {q : IntKind} {w : World} {a : Option Addr} {len cap : Nat} {l : List Nat} (h : Reads q w a len cap l) (k : Nat) (hk : k ≤ len) : Reads q w (if cap = k then a else a.map (·.add k)) (len - k) (cap - k) (l.drop k) := by
 have := h.sub k len hk (Nat.le_refl _)
 rwa [List.take_of_length_le (by rw [h.length]; exact Nat.le_refl _)] at this
theorem join_take {m : List Nat} (k a l : Nat) : (m.drop k).take a ++ (m.drop (k + a)).take l = (m.drop k).take (a + l) := by
 rw [List.take_add, List.drop_drop]
theorem all_lt {l m : List Nat} {b : Nat} (h : ∀ x ∈ l, x < b) (k : ∀ x ∈ m, x < b) : ∀ x ∈ l ++ m, x < b := fun x hx => by
 rcases List.mem_append.1 hx with hx | hx
 ·exact h x hx
 ·exact k x hx
def slLen : Value → Nat
 | .slice _ m _ => m
 | _ => 0
def SemW (bt : Nat) (M : List Nat) (k0 s q : Nat) (ws tail : List Nat) (at' : Nat) : Prop := ws = wsK bt M q ∧ k0 + s = 128 * q + at' ∧ tail.take at' = (M.drop (128 * q)).take at'
theorem SemW.start {bt : Nat} {m0 bl ws tail : List Nat} (h : FinP bt m0 ws tail) : SemW bt (m0 ++ bl) m0.length 0 (m0.length / 128) ws tail (m0.length % 128) := by
 refine ⟨?_, by omega, ?_⟩
 ·rw [h.1]
  exact wsK_ext _ (by rw [List.take_append_of_le_length (by omega)])
 ·rw [h.2, List.drop_append_of_le_length (by omega), List.take_append_of_le_length (by rw [List.length_drop]; omega), List.take_of_length_le (by rw [List.length_drop]; omega)]
theorem SemW.next {bt s q at' : Nat} {m0 bl ws tail : List Nat} (h : SemW bt (m0 ++ bl) m0.length s q ws tail at') (ht : tail.length = 128) (ha : at' < 128) (hs : s ≤ bl.length) (hm : 128 ≤ at' + (bl.length - s)) :
  SemW bt (m0 ++ bl) m0.length (s + (128 - at')) (q + 1) (turnN ws (laidIn tail (bl.drop s) at')) (laidIn tail (bl.drop s) at') 0 := by
 obtain ⟨h1, h2, h3⟩ := h
 have hl : ((bl.drop s).take (128 - at')).length = 128 - at' := by rw [List.length_take, List.length_drop]; omega
 have hd : laidIn tail (bl.drop s) at' = ((m0 ++ bl).drop (128 * q)).take 128 := by
  unfold laidIn
  rw [hl, show tail.drop (at' + (128 - at')) = [] from List.drop_of_length_le (by omega), List.append_nil, h3, piece_eq (m0 := m0) s (128 - at'), h2, join_take, show at' + (128 - at') = 128 by omega]
 refine ⟨?_, by omega, rfl⟩
 rw [hd, h1]
 rfl
theorem SemW.fin {bt s q at' : Nat} {m0 bl ws tail : List Nat} (h : SemW bt (m0 ++ bl) m0.length s q ws tail at') (ht : tail.length = 128) (hs : s ≤ bl.length) (hm : at' + (bl.length - s) < 128) :
  FinP bt (m0 ++ bl) ws (laidIn tail (bl.drop s) at') := by
 obtain ⟨h1, h2, h3⟩ := h
 have hM : (m0 ++ bl).length = 128 * q + (at' + (bl.length - s)) := by rw [List.length_append]; omega
 have e1 : (m0 ++ bl).length / 128 = q := by omega
 have e2 : (m0 ++ bl).length % 128 = at' + (bl.drop s).length := by rw [List.length_drop]; omega
 refine ⟨by rw [e1]; exact h1, ?_⟩
 rw [e1, e2, laidIn_take ht (by rw [List.length_drop]; omega), h3]
 have hp := piece_eq (m0 := m0) (bl := bl) s (bl.length - s)
 rw [List.take_of_length_le (by rw [List.length_drop]; omega)] at hp
 rw [hp, h2, join_take, List.take_of_length_le (by rw [List.length_drop]; omega)]
theorem StateAt.lay {w : World} {g bt : Nat} {ws tail : List Nat} {T : Nat} (h : StateAt w g bt ws tail T) (p : List Nat) (hp : ∀ x ∈ p, x < 256) (at' : Nat) (ha : at' < 128) (a : Option Addr) (l c : Nat) (hr : Reads .u8 w a l c p) (n : Nat) (hn : n = (p.take (128 - at')).length) :
  ∃ w', (Builtin.copy_ #[22, 22] 3 #[.slice (some ⟨g, 9 + at', none⟩) (128 - at') (128 - at'), .slice a l c]).run Tryz.prog w = .ok (.int .i64 (n : Int)) w' ∧ StateAt w' g bt ws (laidIn tail p at') T ∧ w.grownBy w' (some g) := by
 subst hn
 rcases Nat.eq_zero_or_pos l with rfl | hpos
 ·have hp0 : p = [] := List.eq_nil_of_length_eq_zero hr.length
  subst hp0
  refine ⟨w, ?_, ?_, ⟨rfl, rfl, rfl, Nat.le_refl _, fun _ _ _ => rfl⟩⟩
  ·have := run_copy_none (P := Tryz.prog) w 22 22 3 5 (some ⟨g, 9 + at', none⟩) a (128 - at') (128 - at') 0 c Tryz.underlying22 (by kernel_rfl) (Nat.zero_min _)
   rw [this]
   simp [goInt]
  ·have e : laidIn tail [] at' = tail := by unfold laidIn; simp
   rw [e]
   exact h
 ·obtain ⟨b, o, rfl, -, -⟩ := hr.cells hpos
  obtain ⟨h1, h2⟩ := h.splice p hp at' (Nat.le_of_lt ha) b o l c hr
  exact ⟨_, h1, h2, grown_setRow ⟨rfl, rfl, rfl, Nat.le_refl _, fun _ _ _ => rfl⟩ _⟩
set_option maxRecDepth 100000 in
set_option maxHeartbeats 4000000 in
theorem write_core (g bt : Nat) (ws tail m0 bl : List Nat) (a : Option Addr) (n c : Nat) (w : World) (h : StateAt w g bt ws tail m0.length) (hf : FinP bt m0 ws tail) (hbt : bt ≠ 0) (hr : Reads .u8 w a n c bl) (hb : ∀ x ∈ bl, x < 256) (hlen : m0.length + n < 2305843009213693952) (hne : 0 < n → ∀ ad, a = some ad → ad.block ≠ g) :
  Calls Tryz.prog 121 #[.pointer (some ⟨g, 0, none⟩), .slice a n c] w fun e w' => e = .returned (.tuple #[]) ∧ (∃ ws' tail', StateAt w' g bt ws' tail' (m0 ++ bl).length ∧ FinP bt (m0 ++ bl) ws' tail') ∧ w.grownBy w' (some g) := by
 have h0 : Tryz.f121.results = #[] := by kernel_rfl
 have H0 := zH h0
 have H := zH h
 have HR := zH hr
 have HB := zH hb
 have HN := zH hne
 have HF := zH hf
 have hnl := zH hr.length
 obtain ⟨T0, hT0⟩ : ∃ T, T = m0.length := ⟨_, rfl⟩
 obtain ⟨at0, hat0⟩ : ∃ x, x = T0 % 128 := ⟨_, rfl⟩
 have hatc : (T0 : Int) % 128 = (at0 : Int) := by omega
 have hat128 : at0 < 128 := by omega
 have hst := h
 rw [← hT0] at hst hlen
 have HST := zH hst
 have cT := hst.taken
 have fT := hst.frozen 137
 obtain ⟨T1, hT1⟩ : ∃ T, T = T0 + n := ⟨_, rfl⟩
 have hsum : (T0 : Int) + (n : Int) = (T1 : Int) := by omega
 have hT1b : T1 < 2305843009213693952 := by omega
 have hT0b : T0 < 2305843009213693952 := by omega
 have hnb : n < 2305843009213693952 := by omega
 have HT0 := zH hT0
 have HT1 := zH hT1
 have HAT0 := zH hat0
 clear h hr hb hne hf h0 hT0 hT1 hat0 hst hlen
 go_enter Tryz.func121, Tryz.ntmps121
 go_wp2_with fail
 refine (made_yes g bt ws tail T0 w HST.out hbt).mono ?_
 rintro e w1 ⟨rfl, rfl⟩
 go_wp2_with fail
 have hg1 := zH (grown_set (x := w) (y := w) (g := g) ⟨rfl, rfl, rfl, Nat.le_refl _, fun _ _ _ => rfl⟩ 137 (.int .u64 (T1 : Int)))
 have hs1 := zH (HST.out.setTaken T1 (T1 : Int) rfl)
 have hr1 := zH (HR.out.grownNe5 hg1.out (fun hp ad e h => HN.out hp ad e (Option.some.inj h)))
 have hsem := zH (SemW.start (bl := bl) HF.out)
 clear cT fT hatc hsum
 generalize w.setCell ⟨g, 137, none⟩ (.int .u64 (T1 : Int)) = w1 at *
 go_loopw [1, 4] (fun bv av wr => ∃ (s m c' at' q : Nat) (a' : Option Addr), bv = .slice a' m c' ∧ av = .int .i64 (at' : Int) ∧ at' < 128 ∧ m < 2305843009213693952 ∧ c' ≤ 9223372036854775807 ∧ Hid (s + m = n ∧ Reads .u8 wr a' m c' (bl.drop s) ∧ (0 < m → ∀ ad, a' = some ad → ad.block ≠ g) ∧ (∃ ws tail, StateAt wr g bt ws tail T1 ∧ SemW bt (m0 ++ bl) m0.length s q ws tail at') ∧ w.grownBy wr (some g))) (fun bv _ _ => slLen bv)
 case atStart => exact ⟨0, n, c, at0, m0.length / 128, a, rfl, rfl, hat128, hnb, by have := hr1.out.max; unfold maxLen at this; omega, by omega, hr1.out, HN.out, ⟨ws, tail, hs1.out, by rw [HAT0.out, HT0.out]; exact hsem.out⟩, hg1.out⟩
 case round =>
  obtain ⟨s, m, c', at', q, a', rfl, rfl, hat, hmb, hcb, hI⟩ := hrel
  obtain ⟨hsm, hrd, hblk, ⟨wz, tz, hst, hsm2⟩, hgr⟩ := hI.out
  have HSM := zH hsm
  have HRD := zH hrd
  have HBLK := zH hblk
  have HS := zH hst
  have HSEM := zH hsm2
  have HGR := zH hgr
  have HBP := zH (show ∀ x ∈ bl.drop s, x < 256 from fun x hx => HB.out x (List.mem_of_mem_drop hx))
  clear hsm hrd hblk hst hsm2 hgr hI hg1 hs1 hr1 hsem
  have hsl := slice_tail g at' hat
  by_cases hc : 128 ≤ at' + m
  ·have hd : decide (128 ≤ (at' : Int) + (m : Int)) = true := by simp; omega
   obtain ⟨u, hu⟩ : ∃ u, u = 128 - at' := ⟨_, rfl⟩
   have hu1 : 1 ≤ u := by omega
   have hu2 : u ≤ 128 := by omega
   have hum : u ≤ m := by omega
   have hlu : ((bl.drop s).take (128 - at')).length = u := by
    have := HSM.out
    have := hnl.out
    rw [List.length_take, List.length_drop]
    omega
   obtain ⟨w2, hcp, hs2, hg2⟩ := HS.out.lay (bl.drop s) HBP.out at' hat a' m c' HRD.out u hlu.symm
   have HS2 := zH hs2
   have HG2 := zH hg2
   have HU := zH hu
   obtain ⟨blk, o, rfl, -, -⟩ := HRD.out.cells (by omega)
   have hfr := HRD.out.from5 u hum
   rw [List.drop_drop] at hfr
   have hc1 := HRD.out.le
   have HC := zH hc
   clear hs2 hg2 hu hlu hc
   by_cases hck : c' = u
   ·have hck2 := hck.symm
    clear hck
    subst hck2
    rw [if_pos rfl, Nat.sub_self, show m - u = 0 by omega] at hfr
    have HFR := zH hfr
    have HM0 := zH (show m = u by omega)
    clear hfr
    go_wp2_with fail
    refine (turn_any g bt wz (laidIn tz (bl.drop s) at') T1 w2 HS2.out).mono ?_
    rintro e w3 ⟨rfl, hs3, hg3⟩
    have HS3 := zH hs3
    have HG3 := zH (grown_trans HG2.out hg3)
    clear hs3 hg3 hcp hsl
    go_wp2
    go_roundw
    case rel => exact ⟨s + u, 0, 0, 0, q + 1, _, rfl, by go_num, by decide, by decide, by decide, by have := HSM.out; have := HM0.out; omega, (HFR.out.grownNe5 HG3.out (fun h => by omega)), (fun h => by omega), ⟨_, _, HS3.out, by have := HSEM.out.next HS.out.tlen hat (by have := HSM.out; have := hnl.out; omega) (by have := HSM.out; have := hnl.out; have := HC.out; omega); rw [HU.out]; exact this⟩, grown_trans HGR.out HG3.out⟩
    case measure => simp [slLen]; omega
   ·rw [if_neg hck, show ((some ⟨blk, o, none⟩ : Option Addr).map (·.add u)) = some ⟨blk, o + u, none⟩ by simp only [Option.map_some]; congr 1; unfold Addr.add; split <;> simp_all] at hfr
    have HFR := zH hfr
    clear hfr
    go_wp2_with fail
    refine (turn_any g bt wz (laidIn tz (bl.drop s) at') T1 w2 HS2.out).mono ?_
    rintro e w3 ⟨rfl, hs3, hg3⟩
    have HS3 := zH hs3
    have HG3 := zH (grown_trans HG2.out hg3)
    clear hs3 hg3 hcp hsl
    go_wp2
    go_roundw
    case rel => exact ⟨s + u, m - u, c' - u, 0, q + 1, _, rfl, by go_num, by decide, by omega, by omega, by have := HSM.out; omega, (HFR.out.grownNe5 HG3.out (fun h ad e => by cases e; intro e2; exact HBLK.out (by omega) ⟨blk, o, none⟩ rfl (Option.some.inj e2))), (fun h ad e => by cases e; exact HBLK.out (by omega) ⟨blk, o, none⟩ rfl), ⟨_, _, HS3.out, by have := HSEM.out.next HS.out.tlen hat (by have := HSM.out; have := hnl.out; omega) (by have := HSM.out; have := hnl.out; have := HC.out; omega); rw [HU.out]; exact this⟩, grown_trans HGR.out HG3.out⟩
    case measure => simp [slLen]; omega
  ·have hd : decide (128 ≤ (at' : Int) + (m : Int)) = false := by simp; omega
   have HC := zH hc
   clear hc
   obtain ⟨u, hu⟩ : ∃ u, u = ((bl.drop s).take (128 - at')).length := ⟨_, rfl⟩
   obtain ⟨w2, hcp, hs2, hg2⟩ := HS.out.lay (bl.drop s) HBP.out at' hat a' m c' HRD.out u hu
   have HS2 := zH hs2
   have HG2 := zH hg2
   clear hs2 hg2 hu
   go_wp2
   refine bodyPost_end (v := .tuple #[]) (by simp [results, H0.out]) rfl ?_
   refine ⟨rfl, ⟨wz, _, ?_, HSEM.out.fin HS.out.tlen (by have := HSM.out; have := hnl.out; omega) (by have := HSM.out; have := hnl.out; have := HC.out; omega)⟩, grown_trans HGR.out HG2.out⟩
   rw [List.length_append, hnl.out, ← HT0.out, ← HT1.out]
   exact HS2.out
theorem write_any (g bt : Nat) (m0 bl : List Nat) (a : Option Addr) (n c : Nat) (w : World) (h : StateOf w g bt m0) (hbt : bt ≠ 0) (hr : Reads .u8 w a n c bl) (hb : ∀ x ∈ bl, x < 256) (hlen : m0.length + n < 1152921504606846976) (hne : 0 < n → ∀ ad, a = some ad → ad.block ≠ g) :
  Calls Tryz.prog 121 #[.pointer (some ⟨g, 0, none⟩), .slice a n c] w fun e w' => e = .returned (.tuple #[]) ∧ StateOf w' g bt (m0 ++ bl) ∧ w.grownBy w' (some g) := by
 obtain ⟨ws, tail, hst, hfin, -, hm0⟩ := h
 have hnl := hr.length
 exact (write_core g bt ws tail m0 bl a n c w hst hfin hbt hr hb (by omega) hne).mono fun _ _ ⟨h1, ⟨ws', tail', h2, h3⟩, h4⟩ => ⟨h1, ⟨ws', tail', h2, h3, by rw [List.length_append]; omega, all_lt hm0 hb⟩, h4⟩
end Go.Proofs.YtpefjkndfifceaaGreatDoor.L5
