/-
  THE FIRST PRIMES: primes.First.
-/
import Derived.Test.YtfeajcgcjpngkaaPriI
import Derived.WalkMore
import Derived.Maps.OwnIn
namespace Go.Proofs.Ytfeajcgcjpngkaa
open Go.RowKit Go.Shelf
attribute [local go_sem] Oper.semAt_some

/-- The first primes, and the error. -/
def firstP (n : Nat) : List Nat := (primesTo 7920).take n
theorem firstP_of {k n : Nat} (h : (primesTo k).length = n) (hn : n ≤ 1000) : primesTo k = firstP n := by
  unfold firstP
  rw [← h]
  rcases Nat.le_total k 7920 with hk | hk
  · exact (primesTo_take hk).symm
  · have h1 := primesTo_take hk
    have h2 := primesTo_len hk
    rw [thousand] at h1 h2
    have hl : (primesTo k).length = 1000 := by omega
    have h3 : (primesTo k).take 1000 = primesTo k := List.take_of_length_le (by omega)
    rw [hl, List.take_of_length_le (by rw [thousand]; omega), ← h1]
    exact h3.symm
theorem firstP_len {n : Nat} (h : n ≤ 1000) : (firstP n).length = n := by unfold firstP; rw [List.length_take, thousand]; omega

theorem not_TMk_int : ¬ TMk 3 := by unfold TMk; decide
theorem not_TMk_ints : ¬ TMk 22 := by unfold TMk; decide
theorem infoI : (Try.prog.info? 3).map (fun i => (i.zero, i.size, i.bytes)) = some (some (.int .i64 0), 1, 8) := by kernel_rfl

theorem Boxed.stT {T : TypeId → Prop} {W W' : World} {row : Option Nat} {b : Nat} {t : TypeId} {v : Value} (h : Boxed W b t v) (ht : ¬ T t) (hg : W.grownBy W' row) (hr : ∀ r, row = some r → ∃ o : Obj, W.heap[r]? = some o ∧ (o.isCells = false ∨ OwnT T o)) : Boxed W' b t v :=
  h.kept hg fun e => by
    obtain ⟨o, ho, hc⟩ := hr b e.symm
    rw [show W.heap[b]? = _ from h] at ho
    cases ho
    rcases hc with hc | hc | ⟨c, E, f, hc, hE⟩
    · cases hc
    · cases hc
    · cases hc; exact ht hE
theorem OwnQ.stT {q : IntKind} {T : TypeId → Prop} {E B : Nat} {W W' : World} {row : Option Nat} {v : Value} {l : List Nat} (h : OwnQ q E B W v l) (ht : ¬ T E) (hg : W.grownBy W' row) (hr : ∀ r, row = some r → ∃ o : Obj, W.heap[r]? = some o ∧ (o.isCells = false ∨ OwnT T o)) : OwnQ q E B W' v l := by
  refine World.ownsRow.kept h hg ?_
  rcases h.2 with ⟨rfl, _⟩ | ⟨g, cap, cur, rfl, _, hgb, _⟩
  · exact .inl rfl
  · refine .inr fun e' => ?_
    obtain ⟨o, ho, hc⟩ := hr g (by simpa [Value.ownBlock] using e'.symm)
    rw [hgb] at ho
    cases ho
    rcases hc with hc | hc | ⟨c, E', f, hc, hE⟩
    · cases hc
    · cases hc
    · cases hc; exact ht hE

theorem kpT_appended {q : IntKind} {E n₀ : Nat} {W w1 : World} {v : Value} {l : List Nat} {tmp : Obj} (ht : ¬ TMk E) (hrow : OwnQ q E n₀ W v l) (hgrow : (W.alloc tmp).grownBy w1 v.ownBlock) : KpT TMk W w1 := by
  refine (KpT.grown (World.grownBy_alloc W tmp none) (fun r e => by cases e)).trans (KpT.grown hgrow fun r e => ?_)
  rcases (World.ownsRow.alloc hrow tmp).2 with ⟨rfl, _⟩ | ⟨g, cap, cur, rfl, _, hgb, _⟩
  · simp [Value.ownBlock] at e
  · obtain rfl : g = r := by simpa [Value.ownBlock] using e
    exact ⟨_, _, _, hgb, ht⟩
theorem kpT_box {W : World} {b : Nat} {t : TypeId} {v : Value} (u : Value) (h : Boxed W b t v) (ht : ¬ TMk t) : KpT TMk W (W.setCell ⟨b, 0, none⟩ u) :=
  KpT.grown (grownBy_setCell' W b u) fun r e => by cases e; exact ⟨_, _, _, h, ht⟩
/-- Between two primes: how many are asked for, and those that came. -/
def FirI (n₀ bN bL n : Nat) (pre : List Nat) (W : World) : Prop := Boxed W bN 3 (.int .i64 (n : Int)) ∧ ∃ v, Boxed W bL 22 v ∧ OwnQ .i64 3 n₀ W v pre ∧ v.ownBlock ≠ some bN
theorem FirI.stT {n₀ bN bL n : Nat} {pre : List Nat} {W W' : World} {row : Option Nat} (h : FirI n₀ bN bL n pre W) (hg : W.grownBy W' row) (hr : ∀ r, row = some r → ∃ o : Obj, W.heap[r]? = some o ∧ (o.isCells = false ∨ OwnT TMk o)) : FirI n₀ bN bL n pre W' := by
  obtain ⟨h1, v, h2, h3, h4⟩ := h
  exact ⟨Boxed.stT h1 not_TMk_int hg hr, v, Boxed.stT h2 not_TMk_ints hg hr, h3.stT not_TMk_int hg hr, h4⟩

set_option maxHeartbeats 1000000 in
theorem first_no (n : Int) (w : World) (h : n < 0 ∨ 1000 < n) :
    Calls Try.prog 10 #[.int .i64 n] w fun e w' => RetsQ2 .i64 3 w.heap.size w' ([], 30) e ∧ Below w.heap.size w w' := by
  rcases h with h | h
  · go_enter Try.func10, Try.ntmps10
    go_wp2
    go_ret2
    exact ⟨⟨_, rfl, OwnQ.nil _ _ _ _⟩, (Below.refl _ _).alloc (Nat.le_refl _) _⟩
  · have h1 : ¬ n < 0 := by omega
    go_enter Try.func10, Try.ntmps10
    go_wp2
    go_ret2
    exact ⟨⟨_, rfl, OwnQ.nil _ _ _ _⟩, (Below.refl _ _).alloc (Nat.le_refl _) _⟩

set_option maxRecDepth 100000 in
set_option maxHeartbeats 4000000 in
theorem first_some (n : Nat) (w : World) (h1 : 1 ≤ n) (h2 : n ≤ 1000) :
    Calls Try.prog 10 #[.int .i64 (n : Int)] w fun e w' => RetsQ2 .i64 3 w.heap.size w' (firstP n, 0) e ∧ Below w.heap.size w w' := by
  obtain ⟨i0, hi, hz0, hz1, hz2⟩ := info_parts infoI
  refine (callsIn_wide (n := 3)).1 ?_
  refine callsIn_of_wp_marks Try.func10 rfl trivial ?_ rfl
  simp only [Try.ntmps10, List.size_toArray, List.length_cons, List.length_nil, Nat.reduceAdd, Nat.reduceSub, Array.replicate_succ, Array.replicate_zero, List.push_toArray, List.append_toArray, List.nil_append, List.cons_append]
  have t0 : decide ((n : Int) < 0) = false := by simp
  have t1 : decide (1000 < (n : Int)) = false := by simp; omega
  have t2 : ((n : Int) == 0) = false := by simp; omega
  gi_wp2_with (first | (gi_at_make; refine wpListIn_make_own _ rfl _ _ 22 rfl w.heap.size 3 i0 (.int .i64 0) 1 Try.underlying22 hi hz0 hz1 _ _ _ n rfl rfl rfl (by rw [hz2]; omega) (by unfold maxLen; omega) (by simp) ?_; intro w1 hown hgrow; have bN := (Boxed.new w 3 (.int .i64 (n : Int))).kept hgrow (by simp); have cN := bN.cell; have lN := bN.lt; have BN := Lib.hid bN; have HOW := Lib.hid hown; have HB1 := Lib.hid (((Below.refl w.heap.size w).alloc (Nat.le_refl _) (.cells #[.int .i64 (n : Int)] 3)).grown hgrow (by simp) (fun _ h => by cases h)); clear bN hown hgrow) | (refine ⟨trivial, ?_⟩; gi_at_call 28; refine (callsIn_wide.2 (rising_any _)).mono ?_; rintro e w' ⟨rfl, rfl⟩))
  have bL := Boxed.new w1 22 (.slice (some ⟨w.heap.size + 1, 0, none⟩) 0 n)
  have bN := BN.out.alloc (.cells #[.slice (some ⟨w.heap.size + 1, 0, none⟩) 0 n] 22)
  have hO : OwnQ .i64 3 w.heap.size (w1.alloc (.cells #[.slice (some ⟨w.heap.size + 1, 0, none⟩) 0 n] 22)) (.slice (some ⟨w.heap.size + 1, 0, none⟩) 0 n) [] := by
    have := World.ownsRow.alloc HOW.out (.cells #[.slice (some ⟨w.heap.size + 1, 0, none⟩) 0 n] 22)
    rw [World.size_alloc] at this
    simpa [OwnQ] using this
  have hBW := HB1.out.alloc HB1.out.size (.cells #[.slice (some ⟨w.heap.size + 1, 0, none⟩) 0 n] 22)
  generalize w1.alloc (.cells #[.slice (some ⟨w.heap.size + 1, 0, none⟩) 0 n] 22) = W0 at *
  clear HOW HB1 BN cN
  generalize w1.heap.size = A at *
  have hz := Lib.hid hBW.size
  refine wpIn_rangeT (F := Fence.wide) (T := TMk) rfl (show 1 ≤ 3 by decide) (gf := 52) (lb := #[]) rfl trivial (enters_of Try.func52 (by kernel_rfl) rfl) (rising_comes (3 - 1) (by decide) n h2 W0) (Below.refl _ _) (fun _ => rfl)
    (fun pre W => FirI w.heap.size w.heap.size A n pre W ∧ pre.length < n ∧ Below w.heap.size w W)
    (fun c pre W => c = .exit 0 ∧ FirI w.heap.size w.heap.size A n pre W ∧ pre.length = n ∧ Below w.heap.size w W)
    (fun s X X' row h hg hr => ⟨h.1.stT hg (fun r e => (hr r e).2), h.2.1, h.2.2.grown hg h.2.2.size (fun r e => Nat.le_trans hz.out (hr r e).1)⟩)
    (fun c s X X' row h hg hr => ⟨h.1, h.2.1.stT hg (fun r e => (hr r e).2), h.2.2.1, h.2.2.2.grown hg h.2.2.2.size (fun r e => Nat.le_trans hz.out (hr r e).1)⟩)
    (fun _ _ h => h.2.1) ⟨⟨bN, _, bL, hO, by simp [Value.ownBlock]⟩, h1, hBW⟩ ?_ ?_ ?_ ?_
  rotate_left 1
  · intro lp x W K hK
    gi_wp2
    exact hK
  · rintro lp pre x W ⟨⟨bN, v, bL, hown, hne⟩, hlt, hB⟩
    obtain ⟨av, cv, rfl, -, -⟩ := hown.form
    have cN := bN.cell
    have cL := bL.cell
    have fL := bL.frozen
    have BN := Lib.hid bN
    have BL := Lib.hid bL
    have HO := Lib.hid hown
    have HNE := Lib.hid hne
    have HB := Lib.hid hB
    have hlW := bN.lt
    have HLT := Lib.hid hlt
    clear bN bL hown hne hB
    have hmx : pre.length < 1000 := by omega
    rcases Nat.lt_or_ge (pre.length + 1) n with hc | hc
    all_goals
      have HC := Lib.hid hc
      first
        | have t1 : ((pre.length : Int) + 1 == (n : Int)) = false := by simp; omega
        | have t1 : ((pre.length : Int) + 1 == (n : Int)) = true := by simp; omega
      clear hc hlt
      gi_wp2_with (gi_at_builtin; go_loud (refine wpListIn_append_own_at _ rfl _ _ 22 rfl w.heap.size 3 i0 (.int .i64 0) 1 8 Try.underlying22 hi hz0 hz1 hz2 rfl (by decide) _ _ _ rfl (World.ownsRow.alloc HO.out _) ⟨W.heap.size, 0, none⟩ 1 1 [.int .i64 (x : Int)] rfl rfl (cell_one_at _ _ _ _ (by simp)) (by simp [Value.oneCell']) (by unfold maxLen; omega) (by omega) (by have := HB.out.size; simp; omega) ?_); intro v' w1 hown' hgrow _ hblk; obtain ⟨g', cap', rfl⟩ := ownsRow_succ hown'; have hp := appended HO.out HB.out.size hgrow; have kp1 := Lib.hid (kpT_appended not_TMk_int HO.out hgrow); have bL1 := hp.2.2 A _ _ BL.out (fun e => BL.out.not_row (by decide) HO.out e.symm); have cL1 := bL1.cell; have fL1 := bL1.frozen; have BL1 := Lib.hid bL1; have bN1 := hp.2.2 w.heap.size _ _ BN.out HNE.out; have BN1 := Lib.hid bN1; have cN1 := bN1.cell; have HP := Lib.hid hp; have HOW := Lib.hid hown'; have HBL := Lib.hid hblk; clear bL1 bN1 hp hown' hgrow hblk)
      have hA : A ≠ w.heap.size := by omega
      have hO2 : OwnQ .i64 3 w.heap.size w1 (.slice (some ⟨g', 0, none⟩) (pre.length + 1) cap') (pre ++ [x]) := by
        unfold OwnQ
        rw [List.map_append, List.length_append]
        exact HOW.out
      have hne2 : (Value.slice (some ⟨g', 0, none⟩) (pre.length + 1) cap').ownBlock ≠ some w.heap.size := by
        rcases HBL.out with e | e
        · rw [e]; exact HNE.out
        · rw [e]; simp; omega
      have hO3 : OwnQ .i64 3 w.heap.size (w1.setCell ⟨A, 0, none⟩ (.slice (some ⟨g', 0, none⟩) (pre.length + 1) cap')) (.slice (some ⟨g', 0, none⟩) (pre.length + 1) cap') (pre ++ [x]) :=
        ownsRow_setCell_other hO2 (fun e => BL1.out.not_row (by decide) hO2 e.symm) _
      have hF : FirI w.heap.size w.heap.size A n (pre ++ [x]) (w1.setCell ⟨A, 0, none⟩ (.slice (some ⟨g', 0, none⟩) (pre.length + 1) cap')) := ⟨boxed_other BN1.out _ _ (Ne.symm hA), _, BL1.out.set _, hO3, hne2⟩
      have hKF := (HP.out.1.trans (KeepsOthers.setCell w1 ⟨A, 0, none⟩ (.slice (some ⟨g', 0, none⟩) (pre.length + 1) cap'))).from W0.heap.size
      have hBB := (HP.out.2.1 _ HB.out).setCell (p := ⟨A, 0, none⟩) (by show w.heap.size ≤ A; omega) (.slice (some ⟨g', 0, none⟩) (pre.length + 1) cap')
      first
        | exact ⟨hKF, kp1.out.trans (kpT_box _ BL1.out not_TMk_ints), hF, by simp; exact HC.out, hBB⟩
        | exact ⟨hKF, rfl, hF, by have := HLT.out; have := HC.out; simp; omega, hBB⟩
  · rintro D c pre W hD ⟨k, hk⟩ ⟨rfl, ⟨bN, v, bL, hown, hne⟩, hlen, hB⟩ hK
    have cL := bL.cell
    have HO := Lib.hid hown
    have HE := Lib.hid (show pre = firstP n by rw [hk]; exact firstP_of (by rw [← hk]; exact hlen) h2)
    clear bN bL hown hne hk hlen
    obtain ⟨av, cv, rfl, -, -⟩ := HO.out.form
    gi_wp2
    refine ⟨by simp, .inl ⟨_, _, rfl, run_takeDeferred hK, ?_⟩⟩
    exact ⟨_, results_tmp2 rfl _ _ _, ⟨_, rfl, HE.out ▸ ownsRow_putObj HO.out (.deferred none) hK rfl⟩, hB.trans (belowK_b (w := w) (Nat.le_refl _) W D _ _ (Nat.le_trans hz.out hD) hK rfl rfl)⟩

end Go.Proofs.Ytfeajcgcjpngkaa
