/-
  THE WALK OF NAT's Add: a range over up.
-/
import Derived.Test.YtfeajcgcjpngkaaNat9
import Derived.Maps.OwnIn
import Derived.Maps.AppendAt
namespace Go.Proofs.Ytfeajcgcjpngkaa
open Go.RowKit Go.Shelf
attribute [local go_sem] Oper.semAt_some

theorem OwnQ.keptCells {q : IntKind} {E B : Nat} {W W' : World} {row : Option Nat} {v : Value} {l : List Nat} (h : OwnQ q E B W v l) (hg : W.grownBy W' row) (hr : ∀ r, row = some r → ∃ o : Obj, W.heap[r]? = some o ∧ o.isCells = false) : OwnQ q E B W' v l := by
  refine World.ownsRow.kept h hg ?_
  rcases h.2 with ⟨rfl, _⟩ | ⟨g, cap, cur, rfl, _, hgb, _⟩
  · exact .inl rfl
  · refine .inr fun e' => ?_
    obtain ⟨o, ho, hc⟩ := hr g (by simpa [Value.ownBlock] using e'.symm)
    rw [hgb] at ho; cases ho; cases hc

theorem OwnQ.setOther {q : IntKind} {E B : Nat} {W : World} {v : Value} {l : List Nat} (h : OwnQ q E B W v l) {b : Nat} (hne : v.ownBlock ≠ some b) (u : Value) : OwnQ q E B (W.setCell ⟨b, 0, none⟩ u) v l := ownsRow_setCell_other (a := ⟨b, 0, none⟩) h hne u

theorem OwnQ.ownLt {q : IntKind} {E B : Nat} {W : World} {v : Value} {l : List Nat} (h : OwnQ q E B W v l) {b : Nat} (hb : W.heap.size ≤ b) : v.ownBlock ≠ some b := by
  rcases h.2 with ⟨rfl, _⟩ | ⟨g, cap, cur, rfl, _, hgb, _⟩
  · simp [Value.ownBlock]
  · have := (Array.getElem?_eq_some_iff.1 hgb).1
    simp only [Value.ownBlock, ne_eq, Option.some.injEq]
    omega

/-- What an append of one number, laid in a block of its own, leaves. -/
theorem appended {q : IntKind} {E n₀ : Nat} {W w1 : World} {v : Value} {l : List Nat} {tmp : Obj} (hrow : OwnQ q E n₀ W v l) (hn₀ : n₀ ≤ W.heap.size) (hgrow : (W.alloc tmp).grownBy w1 v.ownBlock) :
    KeepsOthers W w1 ∧ (∀ w0, Below n₀ w0 W → Below n₀ w0 w1) ∧ (∀ b t u, Boxed W b t u → v.ownBlock ≠ some b → Boxed w1 b t u) := by
  refine ⟨?_, ?_, fun b t u hb hne => (hb.alloc tmp).kept hgrow (fun e => hne e.symm)⟩
  · refine (KeepsOthers.alloc W tmp).trans (KeepsOthers.of_grownBy hgrow fun j o ej hj => ?_)
    rcases (World.ownsRow.alloc hrow tmp).2 with ⟨rfl, _⟩ | ⟨g, cap, cur, rfl, _, hgb, _⟩
    · simp [Value.ownBlock] at ej
    · obtain rfl : g = j := by simpa [Value.ownBlock] using ej
      rw [hgb] at hj; cases hj; rfl
  · intro w0 h0
    refine (h0.alloc hn₀ tmp).grown hgrow (by simp; omega) fun j ej => ?_
    rcases hrow.2 with ⟨rfl, _⟩ | ⟨g, cap, cur, rfl, hb, _, _⟩
    · simp [Value.ownBlock] at ej
    · obtain rfl : g = j := by simpa [Value.ownBlock] using ej
      exact hb

theorem cell_one_at (w : World) (x : Value) (t : TypeId) (n : Nat) (h : n = w.heap.size) : ∀ j u, [x][j]? = some u → (w.alloc (.cells #[x] t)).cell? ((⟨n, 0, none⟩ : Addr).add j) = some u := by subst h; exact cell_one_new w x t

/-- A sum's limbs so far, and what is carried. -/
def AddInv (pre : List Two) (O : List Nat) (c : Nat) : Prop := O.length = pre.length ∧ Lim O ∧ c ≤ 1 ∧ val32 O + 4294967296 ^ pre.length * c = val32 (pre.map (·.1.1)) + val32 (pre.map (·.1.2))

theorem addInv_nil : AddInv [] [] 0 := ⟨rfl, fun _ h => (by cases h), by omega, rfl⟩
theorem addInv_step {pre : List Two} {O : List Nat} {c : Nat} (h : AddInv pre O c) (x : Two) : AddInv (pre ++ [x]) (O ++ [(c + (x.1.1 + x.1.2)) % 4294967296]) ((c + (x.1.1 + x.1.2)) / 4294967296) := by
  obtain ⟨h1, h2, h3, h4⟩ := h
  have hx := x.2
  refine ⟨by simp [h1], ?_, by omega, ?_⟩
  · intro y hy
    rcases List.mem_append.1 hy with hy | hy
    · exact h2 y hy
    · obtain rfl := List.mem_singleton.1 hy; omega
  · simp only [val32, List.map_append, List.map_cons, List.map_nil, valB_snoc, List.length_map, h1, List.length_append, List.length_cons, List.length_nil, Nat.zero_add] at h4 ⊢
    obtain ⟨s, hs⟩ : ∃ s, c + (x.1.1 + x.1.2) = s := ⟨_, rfl⟩
    rw [hs]
    have e : 4294967296 ^ (pre.length + 1) * (s / 4294967296) = 4294967296 ^ pre.length * (4294967296 * (s / 4294967296)) := by rw [Nat.pow_succ, Nat.mul_assoc]
    have e2 : 4294967296 ^ pre.length * (s % 4294967296) + 4294967296 ^ pre.length * (4294967296 * (s / 4294967296)) = 4294967296 ^ pre.length * s := by rw [← Nat.mul_add, Nat.mod_add_div]
    have e3 : 4294967296 ^ pre.length * s = 4294967296 ^ pre.length * c + (4294967296 ^ pre.length * x.1.1 + 4294967296 ^ pre.length * x.1.2) := by rw [← hs, Nat.mul_add, Nat.mul_add]
    rw [e]
    omega

theorem upTo_fst (lx ly : List Nat) (hx : Lim lx) (hy : Lim ly) (m : Nat) (h : lx.length ≤ m) : val32 ((upTo lx ly hx hy m).map (·.1.1)) = val32 lx := by
  conv => rhs; rw [val32, ← padN_val _ lx m h]
  simp only [upTo, List.map_map, padN]
  rfl
theorem upTo_snd (lx ly : List Nat) (hx : Lim lx) (hy : Lim ly) (m : Nat) (h : ly.length ≤ m) : val32 ((upTo lx ly hx hy m).map (·.1.2)) = val32 ly := by
  conv => rhs; rw [val32, ← padN_val _ ly m h]
  simp only [upTo, List.map_map, padN]
  rfl
theorem upTo_length (lx ly : List Nat) (hx : Lim lx) (hy : Lim ly) (m : Nat) : (upTo lx ly hx hy m).length = m := by simp [upTo]

/-- Between two rounds of Add. -/
def AddI (n₀ A : Nat) (x y : Value) (pre : List Two) (W : World) : Prop :=
  ∃ (v : Value) (O : List Nat) (c : Nat), Boxed W A 37 v ∧ Boxed W (A + 1) 38 (.int .u64 (c : Int)) ∧ Boxed W (A + 1 + 1) 37 x ∧ Boxed W (A + 1 + 1 + 1) 37 y ∧ OwnQ .u32 39 n₀ W v O ∧ Hid (AddInv pre O c) ∧ Hid (∀ b, A ≤ b → b ≤ A + 1 + 1 + 1 → v.ownBlock ≠ some b)

theorem addI_own (n₀ A : Nat) (x y : Value) : Own (AddI n₀ A x y) := fun s X Y row hs hg hr => by
  obtain ⟨v, O, c, h1, h2, h3, h4, h5, h6, h7⟩ := hs
  exact ⟨v, O, c, Boxed.keptCells h1 hg hr, Boxed.keptCells h2 hg hr, Boxed.keptCells h3 hg hr, Boxed.keptCells h4 hg hr, h5.keptCells hg hr, h6, h7⟩

set_option maxRecDepth 100000 in
set_option maxHeartbeats 2000000 in
theorem add_any (a a' : Option Addr) (nx cx ny cy : Nat) (lx ly : List Nat) (w : World) (hx : Reads .u32 w a nx cx lx) (hy : Reads .u32 w a' ny cy ly) (hLx : Lim lx) (hLy : Lim ly) :
    Calls Try.prog 25 #[.slice a nx cx, .slice a' ny cy] w fun e w' => RetsQ2 .u32 39 w.heap.size w' (cutR32 (val32 lx + val32 ly)) e ∧ Below w.heap.size w w' := by
  obtain ⟨i0, hi, hz0, hz1, hz2⟩ := info_parts Try.info32
  have HX := Lib.hid hx.bare
  have HY := Lib.hid hy.bare
  have CX := Lib.hid (bare32_any a nx cx lx w hx)
  have CY := Lib.hid (bare32_any a' ny cy ly w hy)
  have hcx := cut_iff lx hLx
  have hcy := cut_iff ly hLy
  have VX := Lib.hid (bareN_val 4294967296 lx)
  have VY := Lib.hid (bareN_val 4294967296 ly)
  have hBx : Lim (bareN lx) := fun x h => hLx x (bareN_mem h)
  have hBy : Lim (bareN ly) := fun x h => hLy x (bareN_mem h)
  have hlx := bareN_le lx
  have hly := bareN_le ly
  have hmx := hx.len_le
  have hmy := hy.len_le
  rw [hx.length] at hlx
  rw [hy.length] at hly
  unfold maxLen at hmx hmy
  clear hx hy
  generalize bareN lx = p at *
  generalize bareN ly = q at *
  generalize hnp : p.length = np at *
  generalize hnq : q.length = nq at *
  have NP := Lib.hid hnp
  have NQ := Lib.hid hnq
  clear hnp hnq
  by_cases hc : np ≤ 256 ∧ nq ≤ 256
  · have hdec := Lib.hid (show true = decide (np ≤ 256 ∧ nq ≤ 256) by simp [hc])
    obtain ⟨hcp, hcq⟩ := hc
    obtain ⟨m, hm, hmp⟩ : ∃ m, m = max np nq ∧ Hid (m ≤ 256) := ⟨_, rfl, by unfold Hid; omega⟩
    have HM := Lib.hid hm
    clear hcx hcy hm
    rcases Nat.lt_or_ge np nq with hlt | hge
    all_goals
      refine (callsIn_wide (n := 3)).1 ?_
      refine callsIn_of_wp_marks Try.func25 rfl trivial ?_ rfl
      simp only [Try.ntmps25, List.size_toArray, List.length_cons, List.length_nil, Nat.reduceAdd, Nat.reduceSub, Array.replicate_succ, Array.replicate_zero, List.push_toArray, List.append_toArray, List.nil_append, List.cons_append]
      gi_wp2_with (refine ⟨trivial, ?_⟩; gi_at_call 47; first | ((with_reducible refine (callsIn_wide.2 CX.out).mono ?_); rintro e w1 ⟨rfl, rfl⟩) | ((with_reducible refine (callsIn_wide.2 CY.out).mono ?_); rintro e w1 ⟨rfl, rfl⟩))
      gi_wp2_with (first | (refine ⟨trivial, ?_⟩; gi_at_call 48; refine (callsIn_wide.2 (may2_any w.heap.size a a' np cx nq cy _ (World.cell?_alloc_at _ _ _ _ rfl) (World.cell?_alloc_at _ _ _ _ rfl) true hdec.out (by omega) (by omega))).mono ?_; rintro e w1 ⟨rfl, rfl⟩) | (gi_at_make; refine wpListIn_make_own _ rfl _ _ 37 rfl w.heap.size 39 i0 (.int .u32 0) 1 Try.underlying37 hi hz0 hz1 _ _ _ (m + 1) rfl rfl (by have := HM.out; omega) (by rw [hz2]; have := hmp.out; omega) (by unfold maxLen; have := hmp.out; omega) (by simp) ?_; intro w1 hown hgrow) | (refine ⟨trivial, ?_⟩; gi_at_call 49; refine (callsIn_wide.2 (up_any _ _ _ _ _ _ _)).mono ?_; rintro e w' ⟨rfl, rfl⟩))
      have hrow0 : OwnQ .u32 39 w.heap.size w1 (.slice (some ⟨w.heap.size + 1, 0, none⟩) 0 (m + 1)) [] := by simpa [OwnQ] using hown
      have hb1 : Below w.heap.size w w1 := ((Below.refl _ _).alloc (Nat.le_refl _) _).grown hgrow (by simp) (fun _ h => by cases h)
      clear hown hgrow
      have bA := (((Boxed.new w1 37 (.slice (some ⟨w.heap.size + 1, 0, none⟩) 0 (m + 1))).alloc (.cells #[.int .u64 0] 38)).alloc (.cells #[.slice a np cx] 37)).alloc (.cells #[.slice a' nq cy] 37)
      have bC := ((Boxed.new (w1.alloc (.cells #[.slice (some ⟨w.heap.size + 1, 0, none⟩) 0 (m + 1)] 37)) 38 (.int .u64 0)).alloc (.cells #[.slice a np cx] 37)).alloc (.cells #[.slice a' nq cy] 37)
      have bX := (Boxed.new ((w1.alloc (.cells #[.slice (some ⟨w.heap.size + 1, 0, none⟩) 0 (m + 1)] 37)).alloc (.cells #[.int .u64 0] 38)) 37 (.slice a np cx)).alloc (.cells #[.slice a' nq cy] 37)
      have bY := Boxed.new (((w1.alloc (.cells #[.slice (some ⟨w.heap.size + 1, 0, none⟩) 0 (m + 1)] 37)).alloc (.cells #[.int .u64 0] 38)).alloc (.cells #[.slice a np cx] 37)) 37 (.slice a' nq cy)
      have hO := (((hrow0.alloc (.cells #[.slice (some ⟨w.heap.size + 1, 0, none⟩) 0 (m + 1)] 37)).alloc (.cells #[.int .u64 0] 38)).alloc (.cells #[.slice a np cx] 37)).alloc (.cells #[.slice a' nq cy] 37)
      have hBW := (((hb1.alloc hb1.size (.cells #[.slice (some ⟨w.heap.size + 1, 0, none⟩) 0 (m + 1)] 37)).alloc (by have := hb1.size; simp only [World.size_alloc]; omega) (.cells #[.int .u64 0] 38)).alloc (by have := hb1.size; simp only [World.size_alloc]; omega) (.cells #[.slice a np cx] 37)).alloc (by have := hb1.size; simp only [World.size_alloc]; omega) (.cells #[.slice a' nq cy] 37)
      have hne : Hid (∀ b, w1.heap.size ≤ b → b ≤ w1.heap.size + 1 + 1 + 1 → (Value.slice (some ⟨w.heap.size + 1, 0, none⟩) 0 (m + 1)).ownBlock ≠ some b) := fun b h _ => hrow0.ownLt h
      simp only [World.size_alloc] at bC bX bY
      obtain ⟨W0, hW0⟩ : ∃ W0, (((w1.alloc (.cells #[.slice (some ⟨w.heap.size + 1, 0, none⟩) 0 (m + 1)] 37)).alloc (.cells #[.int .u64 0] 38)).alloc (.cells #[.slice a np cx] 37)).alloc (.cells #[.slice a' nq cy] 37) = W0 := ⟨_, rfl⟩
      rw [hW0] at bA bC bX bY hBW hO ⊢
      have hsA := hb1.size
      have hsz0 : w1.heap.size + 4 = W0.heap.size := by rw [← hW0]; simp
      clear hW0 hrow0 hb1
      generalize w1.heap.size = A at *
      have h1 : 1 ≤ 3 := by decide
      refine wpIn_rangeFunc_ownF (F := Fence.wide) rfl h1 (gf := 64) (lb := #[.pointer (some ⟨A + 1 + 1, 0, none⟩), .pointer (some ⟨A + 1 + 1 + 1, 0, none⟩)]) rfl trivial (enters_of Try.func64 (by kernel_rfl) rfl)
        (up_stops (3 - 1) (by decide) w.heap.size (A + 1 + 1) (A + 1 + 1 + 1) a a' np cx nq cy p q hBx hBy W0 bX bY (HX.out.below hBW) (HY.out.below hBW) HX.out.block HY.out.block (by omega) m HM.out) kpUp_t (kpUp_b (by omega)) (Below.refl _ _) (fun _ => rfl)
        (fun pre W => AddI w.heap.size A (.slice a np cx) (.slice a' nq cy) pre W ∧ Below w.heap.size w W) (fun _ _ _ => False)
        (OwnFrom.and (Own.from (addI_own _ _ _ _) _) (ownFrom_below (Nat.le_refl _) (by omega))) (fun _ _ _ _ _ hs _ _ => hs)
        ⟨⟨_, [], 0, bA, bC, bX, bY, hO, addInv_nil, hne⟩, hBW⟩ ?_ ?_ ?_ ?_ ?_
      rotate_left 1
      · intro lp x W K hK
        gi_wp2
        exact hK
      · rintro lp pre x W ⟨⟨v, O, c, bA, bC, bX, bY, hown, hinv, hne⟩, hB⟩ hlt
        obtain ⟨av, nv, cv, rfl, -, hown⟩ := hown.slice
        have cC := bC.cell
        have fC := bC.frozen
        have cA := bA.cell
        have hx1 := x.2.1
        have hx2 := x.2.2
        have hc1 : c ≤ 1 := hinv.out.2.2.1
        have hlen := Lib.hid hinv.out.1
        have hnum : Hid ([Value.int .u32 (((c : Int) + ((x.1.1 : Int) + (x.1.2 : Int))) % 4294967296)] = [(c + (x.1.1 + x.1.2)) % 4294967296].map (num .u32)) := by
          unfold Hid num
          simp
        have BA := Lib.hid (boxed_other bA ⟨A + 1, 0, none⟩ (.int .u64 ((c : Int) + ((x.1.1 : Int) + (x.1.2 : Int)))) (by show A ≠ A + 1; omega))
        have BC := Lib.hid (bC.set (.int .u64 ((c : Int) + ((x.1.1 : Int) + (x.1.2 : Int)))))
        have BX := Lib.hid (boxed_other bX ⟨A + 1, 0, none⟩ (.int .u64 ((c : Int) + ((x.1.1 : Int) + (x.1.2 : Int)))) (by show A + 1 + 1 ≠ A + 1; omega))
        have BY := Lib.hid (boxed_other bY ⟨A + 1, 0, none⟩ (.int .u64 ((c : Int) + ((x.1.1 : Int) + (x.1.2 : Int)))) (by show A + 1 + 1 + 1 ≠ A + 1; omega))
        have HO := Lib.hid (hown.setOther (hne.out (A + 1) (by omega) (by omega)) (.int .u64 ((c : Int) + ((x.1.1 : Int) + (x.1.2 : Int)))))
        have hsB := hB.size
        have HB := Lib.hid hB
        have hltY := bY.lt
        have BX0 := Lib.hid bX
        have BY0 := Lib.hid bY
        have hpl := hmp.out
        clear bA bC bX bY hown hB
        gi_wp2_with (gi_at_builtin; go_loud (refine wpListIn_append_own_at _ rfl _ _ 37 rfl w.heap.size 39 i0 (.int .u32 0) 1 4 Try.underlying37 hi hz0 hz1 hz2 rfl (by decide) _ _ _ rfl (World.ownsRow.alloc HO.out _) ⟨W.heap.size, 0, none⟩ 1 1 [.int .u32 (((c : Int) + ((x.1.1 : Int) + (x.1.2 : Int))) % 4294967296)] rfl rfl (cell_one_at _ _ _ _ (by simp)) (by simp [Value.oneCell']) (by unfold maxLen; have := hlen.out; omega) (by have := hlen.out; omega) (by simp; omega) ?_); intro v' w1 hown' hgrow _ hblk; obtain ⟨g', cap', rfl⟩ := ownsRow_succ hown'; have hp := appended HO.out (by simp; omega) hgrow; have bA1 := hp.2.2 A _ _ BA.out (hne.out A (by omega) (by omega)); have c1 := bA1.cell; have f1 := bA1.frozen; have bC1 := hp.2.2 (A + 1) _ _ BC.out (hne.out (A + 1) (by omega) (by omega)); have c2 := bC1.cell; have f2 := bC1.frozen; have BA1 := Lib.hid bA1; have BC1 := Lib.hid bC1; have HP := Lib.hid hp; have HOW := Lib.hid hown'; have HBL := Lib.hid hblk; clear bA1 bC1 hp hown' hgrow hblk)
        have hneR : ∀ b, A ≤ b → b ≤ A + 1 + 1 + 1 → (Value.slice (some ⟨g', 0, none⟩) (O.length + 1) cap').ownBlock ≠ some b := fun b h1 h2 => by
          rcases HBL.out with e | e
          · rw [e]; exact hne.out b h1 h2
          · rw [e]; simp; omega
        have hrow' : OwnQ .u32 39 w.heap.size w1 (.slice (some ⟨g', 0, none⟩) (O.length + 1) cap') (O ++ [(c + (x.1.1 + x.1.2)) % 4294967296]) := by
          unfold OwnQ
          rw [List.map_append, ← hnum.out, List.length_append]
          exact HOW.out
        have hdiv : (((c + (x.1.1 + x.1.2)) / 4294967296 : Nat) : Int) = ((c : Int) + ((x.1.1 : Int) + (x.1.2 : Int))) / 4294967296 := by omega
        have hp := HP.out
        have fX := boxed_other (boxed_other (hp.2.2 _ _ _ BX.out (hne.out _ (by omega) (by omega))) ⟨A, 0, none⟩ (.slice (some ⟨g', 0, none⟩) (O.length + 1) cap') (by show A + 1 + 1 ≠ A; omega)) ⟨A + 1, 0, none⟩ (.int .u64 (((c : Int) + ((x.1.1 : Int) + (x.1.2 : Int))) / 4294967296)) (by show A + 1 + 1 ≠ A + 1; omega)
        have fY := boxed_other (boxed_other (hp.2.2 _ _ _ BY.out (hne.out _ (by omega) (by omega))) ⟨A, 0, none⟩ (.slice (some ⟨g', 0, none⟩) (O.length + 1) cap') (by show A + 1 + 1 + 1 ≠ A; omega)) ⟨A + 1, 0, none⟩ (.int .u64 (((c : Int) + ((x.1.1 : Int) + (x.1.2 : Int))) / 4294967296)) (by show A + 1 + 1 + 1 ≠ A + 1; omega)
        have hbW : Below w.heap.size W ((w1.setCell ⟨A, 0, none⟩ (.slice (some ⟨g', 0, none⟩) (O.length + 1) cap')).setCell ⟨A + 1, 0, none⟩ (.int .u64 (((c : Int) + ((x.1.1 : Int) + (x.1.2 : Int))) / 4294967296))) :=
          ((hp.2.1 _ ((Below.refl w.heap.size W).setCell (p := ⟨A + 1, 0, none⟩) (by show w.heap.size ≤ A + 1; omega) _)).setCell (p := ⟨A, 0, none⟩) (by show w.heap.size ≤ A; omega) _).setCell (p := ⟨A + 1, 0, none⟩) (by show w.heap.size ≤ A + 1; omega) _
        refine ⟨(((KeepsOthers.setCell _ _ _).trans hp.1).trans (KeepsOthers.setCell _ _ _)).trans (KeepsOthers.setCell _ _ _), ⟨hbW, fun t v h => boxed_same BX0.out fX h, fun t v h => boxed_same BY0.out fY h⟩, ⟨_, _, _, boxed_other (BA1.out.set _) _ _ (by show A ≠ A + 1; omega), ?_, fX, fY, (hrow'.setOther (hneR A (by omega) (by omega)) _).setOther (hneR (A + 1) (by omega) (by omega)) _, addInv_step hinv.out x, hneR⟩, HB.out.trans hbW⟩
        rw [hdiv]
        exact (boxed_other BC1.out _ _ (by show A + 1 ≠ A; omega)).set _
      · rintro D xs W hD rfl ⟨⟨v, O, c, bA, bC, bX, bY, hown, hinv, hne⟩, hB⟩ hK
        obtain ⟨av, nv, cv, rfl, -, hown⟩ := hown.slice
        have cC := bC.cell
        have cA := bA.cell
        obtain ⟨i1, i2, hc1, i4⟩ := hinv.out
        rw [upTo_length] at i1 i4
        rw [upTo_fst p q hBx hBy m (by rw [NP.out, HM.out]; omega), upTo_snd p q hBx hBy m (by rw [NQ.out, HM.out]; omega)] at i4
        have HO := Lib.hid hown
        have HB := Lib.hid hB
        have I1 := Lib.hid i1
        have hlim : Lim (O ++ [c]) := fun y hy => by
          rcases List.mem_append.1 hy with h | h
          · exact i2 y h
          · obtain rfl := List.mem_singleton.1 h; omega
        have HL := Lib.hid hlim
        have hval := Lib.hid (show val32 (O ++ [c]) = val32 lx + val32 ly by
          have e1 := VX.out
          have e2 := VY.out
          simp only [val32, valB_snoc, i1] at i4 ⊢
          omega)
        have hsB := hB.size
        have hpl := hmp.out
        clear bA bC bX bY hown hB i1 i2 i4 hlim
        gi_wp2_with (first | (gi_at_builtin; refine wpListIn_append_own_at _ rfl _ _ 37 rfl w.heap.size 39 i0 (.int .u32 0) 1 4 Try.underlying37 hi hz0 hz1 hz2 rfl (by decide) _ _ _ rfl (World.ownsRow.alloc HO.out _) ⟨W.heap.size, 0, none⟩ 1 1 [.int .u32 (c : Int)] rfl rfl (cell_one_at _ _ _ _ (by simp)) (by simp [Value.oneCell']) (by unfold maxLen; have := I1.out; omega) (by have := I1.out; omega) (by simp; omega) ?_; intro v' w1 hown' hgrow _ _; obtain ⟨g', cap', rfl⟩ := ownsRow_succ hown'; have HP := Lib.hid (appended HO.out hsB hgrow); have HR : Hid (OwnQ .u32 39 w.heap.size w1 (.slice (some ⟨g', 0, none⟩) (O.length + 1) cap') (O ++ [c])) := (by unfold Hid OwnQ; rw [List.map_append, List.length_append]; exact hown'); clear hown' hgrow) | (refine ⟨trivial, ?_⟩; gi_at_call 31; refine (callsIn_wide.2 (trim_any _ _ _ _ _ HR.out.reads HL.out)).mono ?_; rintro e w2 ⟨⟨v2, rfl, ho2⟩, hb2⟩))
        rw [hval.out] at ho2 ⊢
        have hK1 := HP.out.1.same D _ hK rfl
        have hB1 := HP.out.2.1 _ HB.out
        have hK2 : w2.heap[D]? = some (.deferred (some [])) := (hb2.block D (Array.getElem?_eq_some_iff.1 hK1).1).trans hK1
        have hB2 := hB1.trans (hb2.mono hB1.size)
        refine ⟨by simp, .inl ⟨_, _, rfl, run_takeDeferred hK2, ?_⟩⟩
        exact ⟨_, results_tmp2 rfl _ _ _, ⟨_, rfl, ownsRow_putObj (ho2.mono hB1.size) (.deferred none) hK2 rfl⟩, hB2.trans (belowK_b (w := w) (Nat.le_refl _) w2 D _ _ (by omega) hK2 rfl rfl)⟩
      · rintro D c pre W _ _ h _
        exact h.elim
  · have hdec := Lib.hid (show false = decide (np ≤ 256 ∧ nq ≤ 256) by simp; omega)
    have hr := Lib.hid (show cutR32 (val32 lx + val32 ly) = ([], 20) from cutR_large (by
      intro h
      exact hc ⟨hcx.2 (Nat.lt_of_le_of_lt (Nat.le_add_right _ _) h), hcy.2 (Nat.lt_of_le_of_lt (Nat.le_add_left _ _) h)⟩))
    clear hcx hcy
    go_enter Try.func25, Try.ntmps25
    go_wp2_with (go_at_call 47; first | ((with_reducible refine CX.out.mono ?_); rintro e w1 ⟨rfl, rfl⟩) | ((with_reducible refine CY.out.mono ?_); rintro e w1 ⟨rfl, rfl⟩))
    refine (may2_any w.heap.size a a' np cx nq cy _ (World.cell?_alloc_at _ _ _ _ rfl) (World.cell?_alloc_at _ _ _ _ rfl) false hdec.out (by omega) (by omega)).mono ?_
    rintro e w1 ⟨rfl, rfl⟩
    go_wp2
    go_ret2
    refine ⟨⟨_, by rw [hr.out]; rfl, ?_⟩, (Below.refl _ _).alloc (Nat.le_refl _) _⟩
    rw [hr.out]; exact OwnQ.nil _ _ _ _

end Go.Proofs.Ytfeajcgcjpngkaa
