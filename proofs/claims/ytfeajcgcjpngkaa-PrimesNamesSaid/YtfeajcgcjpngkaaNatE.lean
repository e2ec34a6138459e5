/-
  THE WALK OF NAT's Sub: a range over up.
-/
import Derived.Test.YtfeajcgcjpngkaaNatA
import Derived.Test.YtfeajcgcjpngkaaNatB
namespace Go.Proofs.Ytfeajcgcjpngkaa
open Go.RowKit Go.Shelf
attribute [local go_sem] Oper.semAt_some

def subR (x y : Nat) : List Nat × Int := if x < topN ∧ y < topN ∧ y ≤ x then (nat32 (x - y), 0) else ([], 20)
theorem subR_yes {x y : Nat} (h : x < topN ∧ y < topN ∧ y ≤ x) : subR x y = (nat32 (x - y), 0) := if_pos h
theorem subR_no {x y : Nat} (h : ¬ (x < topN ∧ y < topN ∧ y ≤ x)) : subR x y = ([], 20) := if_neg h

/-- A difference's limbs so far, and what is borrowed. -/
def SubInv (pre : List Two) (O : List Nat) (c : Nat) : Prop := O.length = pre.length ∧ Lim O ∧ c ≤ 1 ∧ val32 O + val32 (pre.map (·.1.2)) = val32 (pre.map (·.1.1)) + 4294967296 ^ pre.length * c

theorem subInv_nil : SubInv [] [] 0 := ⟨rfl, fun _ h => (by cases h), by omega, rfl⟩
theorem subInv_step {pre : List Two} {O : List Nat} {c : Nat} (h : SubInv pre O c) (x : Two) : SubInv (pre ++ [x]) (O ++ [subD x.1.1 x.1.2 c]) (subB x.1.1 x.1.2 c) := by
  obtain ⟨h1, h2, h3, h4⟩ := h
  have hx := x.2
  have hd : subD x.1.1 x.1.2 c + x.1.2 + c = x.1.1 + 4294967296 * subB x.1.1 x.1.2 c := by unfold subD subB; split <;> omega
  have hd2 : subD x.1.1 x.1.2 c < 4294967296 := by unfold subD; split <;> omega
  have hb2 : subB x.1.1 x.1.2 c ≤ 1 := by unfold subB; split <;> omega
  generalize subD x.1.1 x.1.2 c = d at *
  generalize subB x.1.1 x.1.2 c = b at *
  refine ⟨by simp [h1], ?_, hb2, ?_⟩
  · intro y hy
    rcases List.mem_append.1 hy with hy | hy
    · exact h2 y hy
    · obtain rfl := List.mem_singleton.1 hy; exact hd2
  · simp only [val32, List.map_append, List.map_cons, List.map_nil, valB_snoc, List.length_map, h1, List.length_append, List.length_cons, List.length_nil, Nat.zero_add] at h4 ⊢
    have e : 4294967296 ^ (pre.length + 1) * b = 4294967296 ^ pre.length * (4294967296 * b) := by rw [Nat.pow_succ, Nat.mul_assoc]
    have e2 : 4294967296 ^ pre.length * (d + x.1.2 + c) = 4294967296 ^ pre.length * (x.1.1 + 4294967296 * b) := by rw [hd]
    rw [Nat.mul_add, Nat.mul_add, Nat.mul_add] at e2
    rw [e]
    omega

/-- Between two rounds of Sub. -/
def SubI (n₀ A : Nat) (x y : Value) (pre : List Two) (W : World) : Prop :=
  ∃ (v : Value) (O : List Nat) (c : Nat), Boxed W A 37 v ∧ Boxed W (A + 1) 39 (.int .u32 (c : Int)) ∧ Boxed W (A + 1 + 1) 37 x ∧ Boxed W (A + 1 + 1 + 1) 37 y ∧ OwnQ .u32 39 n₀ W v O ∧ Hid (SubInv pre O c) ∧ Hid (∀ b, A ≤ b → b ≤ A + 1 + 1 + 1 → v.ownBlock ≠ some b)

theorem subI_own (n₀ A : Nat) (x y : Value) : Own (SubI n₀ A x y) := fun s X Y row hs hg hr => by
  obtain ⟨v, O, c, h1, h2, h3, h4, h5, h6, h7⟩ := hs
  exact ⟨v, O, c, Boxed.keptCells h1 hg hr, Boxed.keptCells h2 hg hr, Boxed.keptCells h3 hg hr, Boxed.keptCells h4 hg hr, h5.keptCells hg hr, h6, h7⟩

set_option maxRecDepth 100000 in
set_option maxHeartbeats 2000000 in
theorem sub_any (a a' : Option Addr) (nx cx ny cy : Nat) (lx ly : List Nat) (w : World) (hx : Reads .u32 w a nx cx lx) (hy : Reads .u32 w a' ny cy ly) (hLx : Lim lx) (hLy : Lim ly) :
    Calls Try.prog 43 #[.slice a nx cx, .slice a' ny cy] w fun e w' => RetsQ2 .u32 39 w.heap.size w' (subR (val32 lx) (val32 ly)) e ∧ Below w.heap.size w w' := by
  obtain ⟨i0, hi, hz0, hz1, hz2⟩ := info_parts Try.info32
  have HX := Lib.hid hx.bare
  have HY := Lib.hid hy.bare
  have CX := Lib.hid (bare32_any a nx cx lx w hx)
  have CY := Lib.hid (bare32_any a' ny cy ly w hy)
  have hcx := cut_iff lx hLx
  have hcy := cut_iff ly hLy
  have VX := Lib.hid (bareN_val 4294967296 lx)
  have VY := Lib.hid (bareN_val 4294967296 ly)
  have hBx : Lim (bareN lx) := fun x h => hLx x (bareN_mem h)
  have hBy : Lim (bareN ly) := fun x h => hLy x (bareN_mem h)
  have hlx := bareN_le lx
  have hly := bareN_le ly
  have hmx := hx.len_le
  have hmy := hy.len_le
  rw [hx.length] at hlx
  rw [hy.length] at hly
  unfold maxLen at hmx hmy
  clear hx hy
  generalize bareN lx = p at *
  generalize bareN ly = q at *
  generalize hnp : p.length = np at *
  generalize hnq : q.length = nq at *
  have NP := Lib.hid hnp
  have NQ := Lib.hid hnq
  clear hnp hnq
  by_cases hc : np ≤ 256 ∧ nq ≤ 256
  · have hdec := Lib.hid (show true = decide (np ≤ 256 ∧ nq ≤ 256) by simp [hc])
    obtain ⟨hcp, hcq⟩ := hc
    obtain ⟨m, hm, hmp⟩ : ∃ m, m = max np nq ∧ Hid (m ≤ 256) := ⟨_, rfl, by unfold Hid; omega⟩
    have HM := Lib.hid hm
    clear hm
    have hb0 : Below w.heap.size w (w.alloc (.cells #[.slice a np cx, .slice a' nq cy] 37)) := (Below.refl _ _).alloc (Nat.le_refl _) _
    have HC := Lib.hid (cmp_any a a' np cx nq cy p q _ (HX.out.below hb0) (HY.out.below hb0) hBx hBy)
    rw [show val32 p = val32 lx from VX.out, show val32 q = val32 ly from VY.out] at HC
    by_cases hle : val32 ly ≤ val32 lx
    · have hR := Lib.hid (show subR (val32 lx) (val32 ly) = (nat32 (val32 lx - val32 ly), 0) from subR_yes ⟨hcx.1 hcp, hcy.1 hcq, hle⟩)
      have HLE := Lib.hid hle
      have hord : 0 ≤ ordN (val32 lx) (val32 ly) := by
        unfold ordN
        rw [if_neg (by omega)]
        split <;> omega
      generalize ordN (val32 lx) (val32 ly) = o at *
      have HB0 := Lib.hid hb0
      clear hcx hcy hle hb0
      refine (callsIn_wide (n := 3)).1 ?_
      refine callsIn_of_wp_marks Try.func43 rfl trivial ?_ rfl
      simp only [Try.ntmps43, List.size_toArray, List.length_cons, List.length_nil, Nat.reduceAdd, Nat.reduceSub, Array.replicate_succ, Array.replicate_zero, List.push_toArray, List.append_toArray, List.nil_append, List.cons_append]
      gi_wp2_with (refine ⟨trivial, ?_⟩; gi_at_call 47; first | ((with_reducible refine (callsIn_wide.2 CX.out).mono ?_); rintro e w1 ⟨rfl, rfl⟩) | ((with_reducible refine (callsIn_wide.2 CY.out).mono ?_); rintro e w1 ⟨rfl, rfl⟩))
      gi_wp2_with (refine ⟨trivial, ?_⟩; gi_at_call 48; refine (callsIn_wide.2 (may2_any w.heap.size a a' np cx nq cy _ (World.cell?_alloc_at _ _ _ _ rfl) (World.cell?_alloc_at _ _ _ _ rfl) true hdec.out (by omega) (by omega))).mono ?_; rintro e w1 ⟨rfl, rfl⟩)
      refine ⟨trivial, ?_⟩
      refine (callsIn_wide.2 HC.out).mono ?_
      rintro e w2 ⟨rfl, hbc⟩
      have hbw2 : Below w.heap.size w w2 := HB0.out.trans (hbc.mono (by simp))
      clear hbc
      have hw2 : w.heap.size ≤ w2.heap.size := hbw2.size
      gi_wp2_with (first | (gi_at_make; refine wpListIn_make_own _ rfl _ _ 37 rfl w.heap.size 39 i0 (.int .u32 0) 1 Try.underlying37 hi hz0 hz1 _ _ _ np rfl rfl rfl (by rw [hz2]; omega) (by unfold maxLen; omega) hw2 ?_; intro w1 hown hgrow) | (refine ⟨trivial, ?_⟩; gi_at_call 49; refine (callsIn_wide.2 (up_any _ _ _ _ _ _ _)).mono ?_; rintro e w' ⟨rfl, rfl⟩))
      have hrow0 : OwnQ .u32 39 w.heap.size w1 (.slice (some ⟨w2.heap.size, 0, none⟩) 0 np) [] := by simpa [OwnQ] using hown
      have hb1 : Below w.heap.size w w1 := hbw2.grown hgrow hw2 (fun _ h => by cases h)
      clear hown hgrow
      have bA := (((Boxed.new w1 37 (.slice (some ⟨w2.heap.size, 0, none⟩) 0 np)).alloc (.cells #[.int .u32 0] 39)).alloc (.cells #[.slice a np cx] 37)).alloc (.cells #[.slice a' nq cy] 37)
      have bC := ((Boxed.new (w1.alloc (.cells #[.slice (some ⟨w2.heap.size, 0, none⟩) 0 np] 37)) 39 (.int .u32 0)).alloc (.cells #[.slice a np cx] 37)).alloc (.cells #[.slice a' nq cy] 37)
      have bX := (Boxed.new ((w1.alloc (.cells #[.slice (some ⟨w2.heap.size, 0, none⟩) 0 np] 37)).alloc (.cells #[.int .u32 0] 39)) 37 (.slice a np cx)).alloc (.cells #[.slice a' nq cy] 37)
      have bY := Boxed.new (((w1.alloc (.cells #[.slice (some ⟨w2.heap.size, 0, none⟩) 0 np] 37)).alloc (.cells #[.int .u32 0] 39)).alloc (.cells #[.slice a np cx] 37)) 37 (.slice a' nq cy)
      have hO := (((hrow0.alloc (.cells #[.slice (some ⟨w2.heap.size, 0, none⟩) 0 np] 37)).alloc (.cells #[.int .u32 0] 39)).alloc (.cells #[.slice a np cx] 37)).alloc (.cells #[.slice a' nq cy] 37)
      have hBW := (((hb1.alloc hb1.size (.cells #[.slice (some ⟨w2.heap.size, 0, none⟩) 0 np] 37)).alloc (by have := hb1.size; simp only [World.size_alloc]; omega) (.cells #[.int .u32 0] 39)).alloc (by have := hb1.size; simp only [World.size_alloc]; omega) (.cells #[.slice a np cx] 37)).alloc (by have := hb1.size; simp only [World.size_alloc]; omega) (.cells #[.slice a' nq cy] 37)
      have hne : Hid (∀ b, w1.heap.size ≤ b → b ≤ w1.heap.size + 1 + 1 + 1 → (Value.slice (some ⟨w2.heap.size, 0, none⟩) 0 np).ownBlock ≠ some b) := fun b h _ => hrow0.ownLt h
      simp only [World.size_alloc] at bC bX bY
      obtain ⟨W0, hW0⟩ : ∃ W0, (((w1.alloc (.cells #[.slice (some ⟨w2.heap.size, 0, none⟩) 0 np] 37)).alloc (.cells #[.int .u32 0] 39)).alloc (.cells #[.slice a np cx] 37)).alloc (.cells #[.slice a' nq cy] 37) = W0 := ⟨_, rfl⟩
      rw [hW0] at bA bC bX bY hBW hO ⊢
      have hsA := hb1.size
      have hsz0 : w1.heap.size + 4 = W0.heap.size := by rw [← hW0]; simp
      clear hW0 hrow0 hb1
      generalize w1.heap.size = A at *
      have h1 : 1 ≤ 3 := by decide
      refine wpIn_rangeFunc_ownF (F := Fence.wide) rfl h1 (gf := 64) (lb := #[.pointer (some ⟨A + 1 + 1, 0, none⟩), .pointer (some ⟨A + 1 + 1 + 1, 0, none⟩)]) rfl trivial (enters_of Try.func64 (by kernel_rfl) rfl)
        (up_stops (3 - 1) (by decide) w.heap.size (A + 1 + 1) (A + 1 + 1 + 1) a a' np cx nq cy p q hBx hBy W0 bX bY (HX.out.below hBW) (HY.out.below hBW) HX.out.block HY.out.block (by omega) m HM.out) kpUp_t (kpUp_b (by omega)) (Below.refl _ _) (fun _ => rfl)
        (fun pre W => SubI w.heap.size A (.slice a np cx) (.slice a' nq cy) pre W ∧ Below w.heap.size w W) (fun _ _ _ => False)
        (OwnFrom.and (Own.from (subI_own _ _ _ _) _) (ownFrom_below (Nat.le_refl _) (by omega))) (fun _ _ _ _ _ hs _ _ => hs)
        ⟨⟨_, [], 0, bA, bC, bX, bY, hO, subInv_nil, hne⟩, hBW⟩ ?_ ?_ ?_ ?_ ?_
      rotate_left 1
      · intro lp x W K hK
        gi_wp2
        exact hK
      · rintro lp pre x W ⟨⟨v, O, c, bA, bC, bX, bY, hown, hinv, hne⟩, hB⟩ hlt
        obtain ⟨av, nv, cv, rfl, -, hown⟩ := hown.slice
        have cC := bC.cell
        have fC := bC.frozen
        have cA := bA.cell
        have hx1 := x.2.1
        have hx2 := x.2.2
        have hc1 : c ≤ 1 := hinv.out.2.2.1
        have hlen := Lib.hid hinv.out.1
        have hstep := Lib.hid (subInv_step hinv.out x)
        have HSB := Lib.hid (fun W => sub32_any x.1.1 x.1.2 c W hx1 hx2 hc1)
        generalize subD x.1.1 x.1.2 c = d at *
        generalize subB x.1.1 x.1.2 c = c' at *
        have BA := Lib.hid (boxed_other bA ⟨A + 1, 0, none⟩ (.int .u32 (c' : Int)) (by show A ≠ A + 1; omega))
        have BC := Lib.hid (bC.set (.int .u32 (c' : Int)))
        have BX := Lib.hid (boxed_other bX ⟨A + 1, 0, none⟩ (.int .u32 (c' : Int)) (by show A + 1 + 1 ≠ A + 1; omega))
        have BY := Lib.hid (boxed_other bY ⟨A + 1, 0, none⟩ (.int .u32 (c' : Int)) (by show A + 1 + 1 + 1 ≠ A + 1; omega))
        have HO := Lib.hid (hown.setOther (hne.out (A + 1) (by omega) (by omega)) (.int .u32 (c' : Int)))
        have hsB := hB.size
        have HB := Lib.hid hB
        have hltY := bY.lt
        have BX0 := Lib.hid bX
        have BY0 := Lib.hid bY
        have hpl := hmp.out
        clear bA bC bX bY hown hB
        gi_wp2_with (first | (refine ⟨trivial, ?_⟩; gi_at_call 63; refine (CallsIn.inRound lp (callsIn_wide.2 (HSB.out _))).mono ?_; rintro e w' ⟨rfl, rfl⟩) | (gi_at_builtin; refine wpListIn_append_own_at _ rfl _ _ 37 rfl w.heap.size 39 i0 (.int .u32 0) 1 4 Try.underlying37 hi hz0 hz1 hz2 rfl (by decide) _ _ _ rfl (World.ownsRow.alloc HO.out _) ⟨W.heap.size, 0, none⟩ 1 1 [.int .u32 (d : Int)] rfl rfl (cell_one_at _ _ _ _ (by simp)) (by simp [Value.oneCell']) (by unfold maxLen; have := hlen.out; omega) (by have := hlen.out; omega) (by simp; omega) ?_; intro v' w1 hown' hgrow _ hblk; obtain ⟨g', cap', rfl⟩ := ownsRow_succ hown'; have hp := appended HO.out (by simp; omega) hgrow; have bA1 := hp.2.2 A _ _ BA.out (hne.out A (by omega) (by omega)); have c1 := bA1.cell; have f1 := bA1.frozen; have bC1 := hp.2.2 (A + 1) _ _ BC.out (hne.out (A + 1) (by omega) (by omega)); have BA1 := Lib.hid bA1; have BC1 := Lib.hid bC1; have HP := Lib.hid hp; have HOW := Lib.hid hown'; have HBL := Lib.hid hblk; clear bA1 bC1 hp hown' hgrow hblk))
        have hneR : ∀ b, A ≤ b → b ≤ A + 1 + 1 + 1 → (Value.slice (some ⟨g', 0, none⟩) (O.length + 1) cap').ownBlock ≠ some b := fun b h1 h2 => by
          rcases HBL.out with e | e
          · rw [e]; exact hne.out b h1 h2
          · rw [e]; simp; omega
        have hrow' : OwnQ .u32 39 w.heap.size w1 (.slice (some ⟨g', 0, none⟩) (O.length + 1) cap') (O ++ [d]) := by
          unfold OwnQ
          rw [List.map_append, List.length_append]
          exact HOW.out
        have hp := HP.out
        have fX := boxed_other (hp.2.2 _ _ _ BX.out (hne.out _ (by omega) (by omega))) ⟨A, 0, none⟩ (.slice (some ⟨g', 0, none⟩) (O.length + 1) cap') (by show A + 1 + 1 ≠ A; omega)
        have fY := boxed_other (hp.2.2 _ _ _ BY.out (hne.out _ (by omega) (by omega))) ⟨A, 0, none⟩ (.slice (some ⟨g', 0, none⟩) (O.length + 1) cap') (by show A + 1 + 1 + 1 ≠ A; omega)
        have hbW : Below w.heap.size W (w1.setCell ⟨A, 0, none⟩ (.slice (some ⟨g', 0, none⟩) (O.length + 1) cap')) :=
          (hp.2.1 _ ((Below.refl w.heap.size W).setCell (p := ⟨A + 1, 0, none⟩) (by show w.heap.size ≤ A + 1; omega) _)).setCell (p := ⟨A, 0, none⟩) (by show w.heap.size ≤ A; omega) _
        exact ⟨((KeepsOthers.setCell _ _ _).trans hp.1).trans (KeepsOthers.setCell _ _ _), ⟨hbW, fun t v h => boxed_same BX0.out fX h, fun t v h => boxed_same BY0.out fY h⟩, ⟨_, _, _, BA1.out.set _, boxed_other BC1.out _ _ (by show A + 1 ≠ A; omega), fX, fY, hrow'.setOther (hneR A (by omega) (by omega)) _, hstep.out, hneR⟩, HB.out.trans hbW⟩
      · rintro D xs W hD rfl ⟨⟨v, O, c, bA, bC, bX, bY, hown, hinv, hne⟩, hB⟩ hK
        obtain ⟨av, nv, cv, rfl, hnv, hown⟩ := hown.slice
        have NV := Lib.hid hnv
        clear hnv
        have cA := bA.cell
        obtain ⟨i1, i2, hc1, i4⟩ := hinv.out
        rw [upTo_length] at i1 i4
        rw [upTo_fst p q hBx hBy m (by rw [NP.out, HM.out]; omega), upTo_snd p q hBx hBy m (by rw [NQ.out, HM.out]; omega)] at i4
        have hfin := Lib.hid (show bareN O = nat32 (val32 lx - val32 ly) by
          have e1 := VX.out
          have e2 := VY.out
          have e3 := valB_lt (b := 4294967296) (by decide) i2
          have e4 := HLE.out
          rw [i1] at e3
          rw [bareN_nat i2]
          congr 1
          simp only [val32] at *
          have hc0 : c = 0 := by
            apply Decidable.byContradiction
            intro hcn
            obtain rfl : c = 1 := by omega
            omega
          subst hc0
          omega)
        have HO := Lib.hid hown
        have HB := Lib.hid hB
        have HBB := Lib.hid (bare32_any _ _ _ _ _ hown.reads)
        clear bA bC bX bY hown hB i1 i2 i4
        gi_wp2_with (refine ⟨trivial, ?_⟩; gi_at_call 47; refine (callsIn_wide.2 HBB.out).mono ?_; rintro e w3 ⟨rfl, rfl⟩)
        refine ⟨by simp, .inl ⟨_, _, rfl, run_takeDeferred hK, ?_⟩⟩
        have hu := HO.out.upto (bareN O).length (by rw [NV.out]; exact bareN_le _)
        rw [← bareN_prefix] at hu
        have hu2 : OwnQ .u32 39 w.heap.size W (.slice av (bareN O).length cv) (nat32 (val32 lx - val32 ly)) := by
          rw [← hfin.out]; exact hu
        clear hu
        rw [hR.out]
        exact ⟨_, results_tmp2 rfl _ _ _, ⟨_, rfl, ownsRow_putObj hu2 (.deferred none) hK rfl⟩, HB.out.trans (belowK_b (w := w) (Nat.le_refl _) W D _ _ (by omega) hK rfl rfl)⟩
      · rintro D c pre W _ _ h _
        exact h.elim
    · have hR := Lib.hid (show subR (val32 lx) (val32 ly) = ([], 20) from subR_no (fun h => hle h.2.2))
      have hord : ordN (val32 lx) (val32 ly) < 0 := by
        unfold ordN
        rw [if_pos (by omega)]
        decide
      generalize ordN (val32 lx) (val32 ly) = o at *
      have HB0 := Lib.hid hb0
      clear hcx hcy hle hb0
      go_enter Try.func43, Try.ntmps43
      go_wp2_with (go_at_call 47; first | ((with_reducible refine CX.out.mono ?_); rintro e w1 ⟨rfl, rfl⟩) | ((with_reducible refine CY.out.mono ?_); rintro e w1 ⟨rfl, rfl⟩))
      refine (may2_any w.heap.size a a' np cx nq cy _ (World.cell?_alloc_at _ _ _ _ rfl) (World.cell?_alloc_at _ _ _ _ rfl) true hdec.out (by omega) (by omega)).mono ?_
      rintro e w1 ⟨rfl, rfl⟩
      go_wp2_with fail
      refine HC.out.mono ?_
      rintro e w2 ⟨rfl, hbc⟩
      go_wp2
      go_ret2
      refine ⟨⟨_, by rw [hR.out]; rfl, ?_⟩, HB0.out.trans (hbc.mono (by simp))⟩
      rw [hR.out]; exact OwnQ.nil _ _ _ _
  · have hdec := Lib.hid (show false = decide (np ≤ 256 ∧ nq ≤ 256) by simp; omega)
    have hr := Lib.hid (show subR (val32 lx) (val32 ly) = ([], 20) from subR_no (fun h => hc ⟨hcx.2 h.1, hcy.2 h.2.1⟩))
    clear hcx hcy
    go_enter Try.func43, Try.ntmps43
    go_wp2_with (go_at_call 47; first | ((with_reducible refine CX.out.mono ?_); rintro e w1 ⟨rfl, rfl⟩) | ((with_reducible refine CY.out.mono ?_); rintro e w1 ⟨rfl, rfl⟩))
    refine (may2_any w.heap.size a a' np cx nq cy _ (World.cell?_alloc_at _ _ _ _ rfl) (World.cell?_alloc_at _ _ _ _ rfl) false hdec.out (by omega) (by omega)).mono ?_
    rintro e w1 ⟨rfl, rfl⟩
    go_wp2
    go_ret2
    refine ⟨⟨_, by rw [hr.out]; rfl, ?_⟩, (Below.refl _ _).alloc (Nat.le_refl _) _⟩
    rw [hr.out]; exact OwnQ.nil _ _ _ _

end Go.Proofs.Ytfeajcgcjpngkaa
