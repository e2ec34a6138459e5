/-
  SHA-256: Write. (Written by wip/gen_shaJ.py.)
-/
import Derived.Test.YtmfjhgjplmpecaaDoorShaI
namespace Go.Proofs.YtmfjhgjplmpecaaDoor
open Go.RowKit Go.Shelf
set_option maxRecDepth 100000
attribute [local go_sem] Oper.semAt_some

theorem Reads.grownNe {q : IntKind} {w w' : World} {row : Option Nat} {a : Option Addr} {len cap : Nat} {l : List Nat} (h : Reads q w a len cap l) (hg : w.grownBy w' row) (hr : 0 < len → ∀ ad, a = some ad → some ad.block ≠ row) : Reads q w' a len cap l :=
  ⟨h.length, h.le, h.max, h.nil, fun hp => by
    obtain ⟨b, off, rfl, hb, hc⟩ := h.cells hp
    refine ⟨b, off, rfl, Nat.lt_of_lt_of_le hb hg.size, fun i hi => ?_⟩
    exact (World.cell?_of_block (hg.block b hb (hr hp _ rfl))).trans (hc i hi)⟩
theorem piece_reads {q : IntKind} {w : World} {a : Option Addr} {n c blk off : Nat} {bl : List Nat} (h : Reads q w a n c bl) (ha : 0 < n → a = some ⟨blk, off, none⟩) (s l : Nat) (hl : s + l ≤ n) : Reads q w (some ⟨blk, off + s, none⟩) l (c - s) ((bl.drop s).take l) := by
  have h1 := h.length
  have h2 := h.le
  have h3 := h.max
  refine ⟨by simp; omega, by omega, by omega, (fun e => by cases e), fun hp => ?_⟩
  obtain ⟨b, o, e, hb, hc⟩ := h.cells (by omega)
  rw [ha (by omega)] at e
  cases e
  refine ⟨_, _, rfl, hb, fun i hi => ?_⟩
  rw [Nat.add_assoc, hc (s + i) (by omega), List.getElem?_take, if_pos hi, List.getElem?_drop]
/-- Between two pieces; and where Write stops. -/
def WrI (w : World) (g bt b0 bA T1 k0 q0 n r : Nat) (m : List Nat) (pre : List (Nat × Nat)) (W : World) : Prop := ∃ ws tail at', Boxed W b0 63 (.pointer (some ⟨g, 0, none⟩)) ∧ Boxed W bA 3 (.int .i64 ((at' : Nat) : Int)) ∧ at' < 64 ∧ StateAt W g bt ws tail T1 ∧ (pre = pcs n r pre.length → SemP bt m k0 q0 n r pre.length ws tail at') ∧ w.grownBy W (some g) ∧ bA + 3 ≤ W.heap.size
def WrX (w : World) (g bt T1 n r : Nat) (m : List Nat) (pre : List (Nat × Nat)) (W : World) : Prop := ∃ ws tail, StateAt W g bt ws tail T1 ∧ (pre = pcs n r pre.length → FinP bt m ws tail) ∧ w.grownBy W (some g)
theorem grown_past {x y z : World} {g : Nat} {row : Option Nat} (h : x.grownBy y (some g)) (k : y.grownBy z row) (hr : ∀ r, row = some r → x.heap.size ≤ r) : x.grownBy z (some g) :=
  ⟨k.os.trans h.os, k.tape.trans h.tape, k.output.trans h.output, Nat.le_trans h.size k.size, fun i hi hn => (k.block i (Nat.lt_of_lt_of_le hi h.size) (fun e => by have := hr i e.symm; omega)).trans (h.block i hi hn)⟩
theorem pcs_len (n r m : Nat) : (pcs n r m).length = m := by simp [pcs]
theorem all_lt {l m : List Nat} {b : Nat} (h : ∀ x ∈ l, x < b) (k : ∀ x ∈ m, x < b) : ∀ x ∈ l ++ m, x < b := fun x hx => by
  rcases List.mem_append.1 hx with hx | hx
  · exact h x hx
  · exact k x hx
theorem SemP.done' {bt k0 q0 n r j at' : Nat} {m0 bl ws tail : List Nat} (h : SemP bt (m0 ++ bl) k0 q0 n r j ws tail at') (hs : stP n r j = n) (hk : k0 = m0.length) (hn : n = bl.length) (ha : at' < 64) : FinP bt (m0 ++ bl) ws tail := by
  subst hk
  exact h.done hn hs ha
theorem WrI.stays {w X X' : World} {g bt b0 bA T1 k0 q0 n r : Nat} {m : List Nat} {pre : List (Nat × Nat)} {row : Option Nat} (h : WrI w g bt b0 bA T1 k0 q0 n r m pre X) (hg : X.grownBy X' row) (hr : ∀ r, row = some r → w.heap.size ≤ r ∧ r ≠ b0 ∧ r ≠ bA ∧ r ≠ g) : WrI w g bt b0 bA T1 k0 q0 n r m pre X' := by
  obtain ⟨ws, tail, at', h1, h2, h3, h4, h5, h6, h7⟩ := h
  exact ⟨ws, tail, at', h1.kept hg (fun e => (hr _ e.symm).2.1 rfl), h2.kept hg (fun e => (hr _ e.symm).2.2.1 rfl), h3, h4.block (hg.block g h4.lt (fun e => (hr _ e.symm).2.2.2 rfl)), h5, grown_past h6 hg (fun r e => (hr r e).1), Nat.le_trans h7 hg.size⟩
theorem WrX.stays {w X X' : World} {g bt T1 n r : Nat} {m : List Nat} {pre : List (Nat × Nat)} {row : Option Nat} (h : WrX w g bt T1 n r m pre X) (hg : X.grownBy X' row) (hr : ∀ r, row = some r → w.heap.size ≤ r ∧ r ≠ g) : WrX w g bt T1 n r m pre X' := by
  obtain ⟨ws, tail, h4, h5, h6⟩ := h
  exact ⟨ws, tail, h4.block (hg.block g h4.lt (fun e => (hr _ e.symm).2 rfl)), h5, grown_past h6 hg (fun r e => (hr r e).1)⟩
theorem slice_whole (g : Nat) (W : World) : (Instr.sliceAt 84 (.pointer (some ⟨g, 9, none⟩)) none none none).run Tryd.prog W = .ok (.slice (some ⟨g, 9, none⟩) 64 64) W := by
  have hl : Tryd.prog.arrayLen 84 = 64 := by kernel_rfl
  have hs : ∀ w, (sizeOf (Tryd.prog.elem 84)).run Tryd.prog w = .ok 1 w := fun _ => by kernel_rfl
  rw [run_sliceAt_array_all W 84 ⟨g, 9, none⟩ (by kernel_rfl), hs]
  show Result.ok (slicedAt ⟨g, 9, none⟩ 0 (Tryd.prog.arrayLen 84) (Tryd.prog.arrayLen 84) 1) W = _
  rw [hl]
  rfl
theorem grown_setRow {x y : World} {g : Nat} (h : x.grownBy y (some g)) (cs : Array Value) : x.grownBy (y.setRow g cs) (some g) :=
  ⟨h.os, h.tape, h.output, by simpa using h.size, fun k hk hr => (setRow_other y g k cs (fun e => hr (by rw [e]))).trans (h.block k hk hr)⟩
theorem cell_grown {x y : World} {g b i : Nat} {v : Value} (h : x.grownBy y (some g)) (hb : b ≠ g) (hl : b < x.heap.size) (hc : x.cell? ⟨b, i, none⟩ = some v) : y.cell? ⟨b, i, none⟩ = some v :=
  (World.cell?_of_block (h.block b hl (fun e => hb (by cases e; rfl)))).trans hc
theorem keeps_state {W W' : World} {g bt T : Nat} {ws tail : List Nat} (h : StateAt W g bt ws tail T) (hg : W.grownBy W' (some g)) : KeepsOthers W W' :=
  KeepsOthers.of_grownBy hg fun j o ej hj => by
    cases ej
    rw [h.heap] at hj
    cases hj
    rfl
theorem grown_setCell' (W : World) (b : Nat) (v : Value) : W.grownBy (W.setCell ⟨b, 0, none⟩ v) (some b) := grownBy_setCell' W b v
theorem sem_split {n r : Nat} {pre : List (Nat × Nat)} {x : Nat × Nat} (he : pre ++ [x] = pcs n r (pre ++ [x]).length) : pre = pcs n r pre.length ∧ x = (stP n r pre.length, stP n r (pre.length + 1) - stP n r pre.length) := by
  rw [List.length_append, List.length_singleton, pcs_succ] at he
  obtain ⟨h1, h2⟩ := List.append_inj' he rfl
  exact ⟨h1, by simpa using h2⟩
theorem sem_fin {bt k0 q0 n r at' : Nat} {m0 bl ws tail : List Nat} {pre : List (Nat × Nat)} {x : Nat × Nat} (hs : pre = pcs n r pre.length → SemP bt (m0 ++ bl) k0 q0 n r pre.length ws tail at') (hk : k0 = m0.length) (hn : n = bl.length) (ht : tail.length = 64) (he : pre ++ [x] = pcs n r (pre ++ [x]).length) (hc : at' + x.2 < 64) :
    FinP bt (m0 ++ bl) ws (laidIn tail ((bl.drop x.1).take x.2) at') := by
  subst hk
  obtain ⟨h1, rfl⟩ := sem_split he
  have h2 := hs h1
  have h3 := stP_le n r pre.length
  have h4 := stP_le n r (pre.length + 1)
  refine h2.fin hn ht ?_ hc
  rcases Nat.lt_or_ge (stP n r pre.length) n with hlt | hge
  · have h5 := h2.len hn hlt
    simp only at hc
    omega
  · omega
theorem sem_next {bt k0 q0 n r at' : Nat} {m0 bl ws tail : List Nat} {pre : List (Nat × Nat)} {x : Nat × Nat} (hs : pre = pcs n r pre.length → SemP bt (m0 ++ bl) k0 q0 n r pre.length ws tail at') (hk : k0 = m0.length) (hn : n = bl.length) (ht : tail.length = 64) (hat : at' < 64) (he : pre ++ [x] = pcs n r (pre ++ [x]).length) (hc : ¬ at' + x.2 < 64) :
    SemP bt (m0 ++ bl) k0 q0 n r (pre ++ [x]).length (turnN ws (laidIn tail ((bl.drop x.1).take x.2) at')) (laidIn tail ((bl.drop x.1).take x.2) at') 0 := by
  subst hk
  obtain ⟨h1, rfl⟩ := sem_split he
  have h2 := hs h1
  have h4 := stP_le n r (pre.length + 1)
  simp only at hc
  rw [List.length_append, List.length_singleton]
  exact h2.next hn ht (by omega) (by omega)
theorem slice_tail (g at' : Nat) (h : at' < 64) (W : World) : (Instr.sliceAt 84 (.pointer (some ⟨g, 9, none⟩)) (some (.int .i64 (at' : Int))) none none).run Tryd.prog W = .ok (.slice (some ⟨g, 9 + at', none⟩) (64 - at') (64 - at')) W := by
  have hl : Tryd.prog.arrayLen 84 = 64 := by kernel_rfl
  have hs : ∀ w, (sizeOf (Tryd.prog.elem 84)).run Tryd.prog w = .ok 1 w := fun _ => by kernel_rfl
  rw [run_sliceAt_array_l W 84 ⟨g, 9, none⟩ (by kernel_rfl) .i64 (at' : Int) (by omega) (by rw [hl]; omega), hs]
  show Result.ok (slicedAt ⟨g, 9, none⟩ (at' : Int).toNat (Tryd.prog.arrayLen 84) (Tryd.prog.arrayLen 84) 1) W = _
  rw [hl]
  unfold slicedAt
  rw [Int.toNat_natCast, if_neg (by omega), Nat.mul_one]
  congr 3
  unfold Addr.add
  split <;> simp_all
theorem _root_.Go.Boxed.other' {W : World} {B g i : Nat} {t : TypeId} {v : Value} (h : Boxed W B t v) (hp : B ≠ g) (u : Value) : Boxed (W.setCell ⟨g, i, none⟩ u) B t v := (Below.heap_setCell W ⟨g, i, none⟩ u B hp).trans h
set_option maxRecDepth 100000 in
set_option maxHeartbeats 4000000 in
theorem write_any (g bt : Nat) (m0 bl : List Nat) (a : Option Addr) (n c : Nat) (w : World) (h : StateOf w g bt m0) (hbt : bt ≠ 0) (hr : Reads .u8 w a n c bl) (hb : ∀ x ∈ bl, x < 256) (hlen : m0.length + n < 1152921504606846976) (hne : 0 < n → ∀ ad, a = some ad → ad.block ≠ g) :
    Calls Tryd.prog 32 #[.pointer (some ⟨g, 0, none⟩), .slice a n c] w fun e w' => e = .returned (.tuple #[]) ∧ StateOf w' g bt (m0 ++ bl) ∧ w.grownBy w' (some g) := by
  obtain ⟨ws, tail, hst, hfin, -, hm0⟩ := h
  have h0 : Tryd.f32.results = #[] := by kernel_rfl
  have H0 := Lib.hid h0
  have HR := Lib.hid hr
  have HB := Lib.hid hb
  have HN := Lib.hid hne
  have HF := Lib.hid hfin
  have HM0 := Lib.hid hm0
  have hnl := Lib.hid hr.length
  obtain ⟨T0, hT0⟩ : ∃ T, T = m0.length := ⟨_, rfl⟩
  obtain ⟨at0, hat0⟩ : ∃ x, x = T0 % 64 := ⟨_, rfl⟩
  have hatc : (T0 : Int) % 64 = (at0 : Int) := by omega
  have hat64 : at0 < 64 := by omega
  have hb1 := (Below.refl w.heap.size w).alloc (Nat.le_refl _) (.cells #[.pointer (some ⟨g, 0, none⟩)] 63)
  have bS := Lib.hid (Boxed.new w 63 (.pointer (some ⟨g, 0, none⟩)))
  have F := Lib.hid hb1
  have H1 := Lib.hid (hst.below hb1 hst.lt)
  have hgw := hst.lt
  rw [← hT0] at H1 hlen
  have HT0 := Lib.hid hT0
  have HAT0 := Lib.hid hat0
  clear hr hb hne hst hfin hm0 h0 hT0 hat0 hb1
  refine (callsIn_wide (n := 3)).1 ?_
  refine callsIn_of_wp_marks Tryd.func32 rfl trivial ?_ rfl
  simp only [Tryd.ntmps32, List.size_toArray, List.length_cons, List.length_nil, Nat.reduceAdd, Nat.reduceSub, Array.replicate_succ, Array.replicate_zero, List.push_toArray, List.append_toArray, List.nil_append, List.cons_append]
  refine wpIn_wide.2 ?_
  have cS := bS.out.cell
  go_wp2_with fail
  refine wp_scope_straight ?_
  go_wp2_with fail
  generalize w.alloc (.cells #[.pointer (some ⟨g, 0, none⟩)] 63) = w1 at *
  obtain ⟨b0, hb0⟩ : ∃ b, b = w.heap.size := ⟨_, rfl⟩
  rw [← hb0] at bS cS ⊢
  have HB0 := Lib.hid hb0
  have hg1 := H1.out.lt
  have hgb : g ≠ b0 := by omega
  have hb01 := bS.out.lt
  clear hb0 hgw
  refine (made_yes g bt ws tail T0 w1 H1.out hbt).mono ?_
  rintro e w2 ⟨rfl, rfl⟩
  have cT := H1.out.taken
  have fT := H1.out.frozen 73
  obtain ⟨T1, hT1⟩ : ∃ T, T = T0 + n := ⟨_, rfl⟩
  have hsum : (T0 : Int) + (n : Int) = (T1 : Int) := by omega
  obtain ⟨r0, hr0⟩ : ∃ r, r = 64 - at0 := ⟨_, rfl⟩
  have hroom : 64 - (at0 : Int) = (r0 : Int) := by omega
  have HR0 := Lib.hid hr0
  clear hr0
  have HT1 := Lib.hid hT1
  clear hT1
  go_wp2_with fail
  refine (wpIn_wide (n := 3)).1 ?_
  refine wpIn_label ?_
  have bS2 := (bS.out.other' (g := g) (i := 73) (Ne.symm hgb) (.int .u64 (T1 : Int))).alloc (.cells #[.int .i64 (at0 : Int)] 3)
  have bA2 := Boxed.new (w1.setCell ⟨g, 73, none⟩ (.int .u64 (T1 : Int))) 3 (.int .i64 (at0 : Int))
  rw [World.size_setCell] at bA2
  have H2 := (H1.out.setTaken T1 (T1 : Int) rfl).block (Below.heap_alloc (w1.setCell ⟨g, 73, none⟩ (.int .u64 (T1 : Int))) (.cells #[.int .i64 (at0 : Int)] 3) g (by simpa using hg1))
  have G2 := Lib.hid (grown_trans (grown_set (grown_below F.out (some g)) 73 (.int .u64 (T1 : Int))) (grown_below ((Below.refl _ _).alloc (Nat.le_refl _) (.cells #[.int .i64 (at0 : Int)] 3)) (some g)))
  have HZ2 := Lib.hid (show ((w1.setCell ⟨g, 73, none⟩ (.int .u64 (T1 : Int))).alloc (.cells #[.int .i64 (at0 : Int)] 3)).heap.size = w1.heap.size + 1 by simp)
  generalize (w1.setCell ⟨g, 73, none⟩ (.int .u64 (T1 : Int))).alloc (.cells #[.int .i64 (at0 : Int)] 3) = w2 at *
  have cA2 := bA2.cell
  go_wp2_with fail
  refine (pieces_any _ _ _ _ _).mono ?_
  rintro e w3 ⟨rfl, rfl⟩
  go_wp2_with fail
  refine (wpIn_wide (n := 3)).1 ?_
  obtain ⟨blk, off, hbo⟩ : ∃ blk off, 0 < n → a = some ⟨blk, off, none⟩ := by
    rcases Nat.eq_zero_or_pos n with h | h
    · exact ⟨0, 0, fun h2 => by omega⟩
    · obtain ⟨b, o, h1, -⟩ := HR.out.cells h
      exact ⟨b, o, fun _ => h1⟩
  have HBO := Lib.hid hbo
  have bS3 := (bS2.alloc (.cells #[.slice a n c] 23)).alloc (.cells #[.int .i64 (r0 : Int)] 3)
  have bA3 := (bA2.alloc (.cells #[.slice a n c] 23)).alloc (.cells #[.int .i64 (r0 : Int)] 3)
  have bB3 := (Boxed.new w2 23 (.slice a n c)).alloc (.cells #[.int .i64 (r0 : Int)] 3)
  have bR3 := Boxed.new (w2.alloc (.cells #[.slice a n c] 23)) 3 (.int .i64 (r0 : Int))
  rw [World.size_alloc] at bR3
  have hb3 := ((Below.refl w2.heap.size w2).alloc (Nat.le_refl _) (.cells #[.slice a n c] 23)).alloc (by simp) (.cells #[.int .i64 (r0 : Int)] 3)
  have H3 := H2.below hb3 H2.lt
  have G3 := Lib.hid (grown_trans G2.out (grown_below hb3 (some g)))
  have hz3 : ((w2.alloc (.cells #[.slice a n c] 23)).alloc (.cells #[.int .i64 (r0 : Int)] 3)).heap.size = w2.heap.size + 2 := by simp
  generalize (w2.alloc (.cells #[.slice a n c] 23)).alloc (.cells #[.int .i64 (r0 : Int)] 3) = W0 at *
  obtain ⟨bA, hbA⟩ : ∃ b, b = w1.heap.size := ⟨_, rfl⟩
  obtain ⟨bb, hbb⟩ : ∃ b, b = w2.heap.size := ⟨_, rfl⟩
  rw [← hbA] at bA3 ⊢
  rw [← hbb] at bB3 bR3 ⊢
  have hz2 := HZ2.out
  have hord : Hid (b0 < bA ∧ bb = bA + 1 ∧ g < bA ∧ g ≠ b0 ∧ w.heap.size ≤ b0 ∧ W0.heap.size = bb + 2) := ⟨by omega, by omega, by omega, hgb, by rw [HB0.out]; exact Nat.le_refl _, by omega⟩
  have hcm := HR.out.max
  have hnc := HR.out.le
  have hr0 := HR0.out
  have hr0b : 1 ≤ r0 ∧ r0 ≤ 64 := by omega
  have hfit : Hid (r0 = 64 - m0.length % 64) := by show _ = _; rw [hr0, HAT0.out, HT0.out]
  have hsem := SemP.start (bl := bl) (n := n) HF.out
  rw [← hfit.out, ← HT0.out, ← HAT0.out] at hsem
  have HSM := Lib.hid hsem
  clear cS cT fT cA2 hsum hroom hr0 hbo bS2 bA2 hb3 hbA hbb hz2 HZ2 hz3 hsem hatc hg1 hgb hb01 H2 G2 H1 F
  refine wpIn_rangeR (F := Fence.wide) (R := fun k => k = bb ∨ k = bb + 1) rfl (show 1 ≤ 3 by decide) (gf := 64) (lb := #[.pointer (some ⟨bb, 0, none⟩), .pointer (some ⟨bb + 1, 0, none⟩)]) rfl trivial (enters_of Tryd.func64 (by kernel_rfl) rfl)
    (pieces_come (3 - 1) (by decide) (fun p => p.1 + p.2 ≤ n) bb (bb + 1) blk off n c r0 a W0 bB3 bR3 (by omega) HBO.out hnc hcm hr0b.1 hr0b.2 (fun j hj => by have := stP_le n r0 (j + 1); have := stP_le n r0 j; simp only; omega)) (fun k hk => by have := hord.out; rcases hk with rfl | rfl <;> omega) (Below.refl _ _) (fun _ => rfl)
    (fun pre W => WrI w g bt b0 bA T1 T0 (T0 / 64) n r0 (m0 ++ bl) (pre.map (·.1)) W)
    (fun cc pre W => cc = .exit 0 ∧ WrX w g bt T1 n r0 (m0 ++ bl) (pre.map (·.1)) W)
    ?_ ?_ ⟨ws, tail, at0, bS3, bA3, hat64, H3, fun _ => HSM.out, G3.out, by have := hord.out; omega⟩ ?_ ?_ ?_ ?_ ?_
  rotate_left 3
  · intro lp x W K hK
    gi_wp2
    exact hK
  · rintro lp pre ⟨⟨s, l⟩, hC⟩ W ⟨ws, tail, at', hbS, hbA, hat, hst, hsem, hgr, hWz⟩
    simp only at hC
    have hRp := piece_reads (HR.out.grownNe hgr (fun hp ad e h => HN.out hp ad e (by cases h; rfl))) HBO.out s l hC
    have hpb : ∀ x ∈ (bl.drop s).take l, x < 256 := fun x hx => HB.out x (List.mem_of_mem_drop (List.mem_of_mem_take hx))
    have hsp := hst.drew'.splice _ hpb at' (Nat.le_of_lt hat) blk (off + s) l (c - s) (hRp.below (Below.refl _ _).drew)
    have hcp := hsp.1
    have cS := hbS.cell
    have cA := hbA.cell
    have fA := hbA.frozen
    have BS := Lib.hid hbS
    have BA := Lib.hid hbA
    have hsl := slice_tail g at' hat
    have HST := Lib.hid hst
    have HSEM := Lib.hid hsem
    have HGR := Lib.hid hgr
    have HST6 := Lib.hid hsp.2
    have hog := hord.out
    have hgb0 : g ≠ b0 := by omega
    have hgbA : g ≠ bA := by omega
    have hpl : ((bl.drop s).take l).length = l := hRp.length
    have HPL := Lib.hid hpl
    clear hRp hsp hbS hbA hst hsem hgr hpl
    generalize hpe : (bl.drop s).take l = p at *
    have HPE := Lib.hid hpe
    clear hpe
    gi_wp2_with fail
    refine wpIn_region_held_drew (S := fun W => W.cell? ⟨b0, 0, none⟩ = some (.pointer (some ⟨g, 0, none⟩)) ∧ W.cell? ⟨bA, 0, none⟩ = some (.int .i64 ((at' : Nat) : Int))) (by kernel_rfl) (plain_of (by kernel_rfl)) ?_ ⟨cS, cA⟩ (fun hHeld => ?_)
    · rintro ⟨a, w, h⟩
      exact h
    refine' wpAnyH_take (i := 0) (oi := _) (v := _) rfl (by kernel_rfl) (by kernel_rfl) (by kernel_rfl) (fun _ _ _ h => h) (Or.inl ⟨?_, ?_⟩) (by assumption) ?_
    rotate_left
    all_goals (try simp only [List.getElem_toArray, List.getElem_cons_succ, List.getElem_cons_zero])
    · rfl
    · intro W hSw; (try dsimp only at hSw); go_simp; (try with_reducible rfl)
    try simp only [Act.put, List.setIfInBounds_toArray, List.set_cons_zero, List.set_cons_succ]
    refine' wpAnyH_take (i := 1) (oi := _) (v := _) rfl (by kernel_rfl) (by kernel_rfl) (by kernel_rfl) (fun _ _ _ h => h) (Or.inl ⟨?_, ?_⟩) (by assumption) ?_
    rotate_left
    all_goals (try simp only [List.getElem_toArray, List.getElem_cons_succ, List.getElem_cons_zero])
    · rfl
    · intro W hSw; (try dsimp only at hSw); go_simp; (try with_reducible rfl)
    try simp only [Act.put, List.setIfInBounds_toArray, List.set_cons_zero, List.set_cons_succ]
    refine' wpAnyH_take (i := 2) (oi := _) (v := _) rfl (by kernel_rfl) (by kernel_rfl) (by kernel_rfl) (fun _ _ _ h => h) (Or.inl ⟨?_, ?_⟩) (by assumption) ?_
    rotate_left
    all_goals (try simp only [List.getElem_toArray, List.getElem_cons_succ, List.getElem_cons_zero])
    · rfl
    · intro W hSw; (try dsimp only at hSw); go_simp; (try with_reducible rfl)
    try simp only [Act.put, List.setIfInBounds_toArray, List.set_cons_zero, List.set_cons_succ]
    refine' wpAnyH_take (i := 3) (oi := _) (v := _) rfl (by kernel_rfl) (by kernel_rfl) (by kernel_rfl) (fun _ _ _ h => h) (Or.inl ⟨?_, ?_⟩) (by assumption) ?_
    rotate_left
    all_goals (try simp only [List.getElem_toArray, List.getElem_cons_succ, List.getElem_cons_zero])
    · rfl
    · intro W hSw; (try dsimp only at hSw); go_simp; (try with_reducible rfl)
    try simp only [Act.put, List.setIfInBounds_toArray, List.set_cons_zero, List.set_cons_succ]
    refine' wpAnyH_take (i := 4) (oi := _) (v := _) rfl (by kernel_rfl) (by kernel_rfl) (by kernel_rfl) (fun _ _ _ h => h) (Or.inl ⟨?_, ?_⟩) (by assumption) ?_
    rotate_left
    all_goals (try simp only [List.getElem_toArray, List.getElem_cons_succ, List.getElem_cons_zero])
    · rfl
    · intro W hSw; (try dsimp only at hSw); go_simp; (try with_reducible rfl)
    try simp only [Act.put, List.setIfInBounds_toArray, List.set_cons_zero, List.set_cons_succ]
    refine' wpAnyH_take (i := 5) (oi := _) (v := _) rfl (by kernel_rfl) (by kernel_rfl) (by kernel_rfl) (fun _ _ _ h => h) (Or.inl ⟨?_, ?_⟩) (by assumption) ?_
    rotate_left
    all_goals (try simp only [List.getElem_toArray, List.getElem_cons_succ, List.getElem_cons_zero])
    · rfl
    · intro W hSw; (try dsimp only at hSw); go_simp; (try with_reducible rfl)
    try simp only [Act.put, List.setIfInBounds_toArray, List.set_cons_zero, List.set_cons_succ]
    refine wpAnyH_ready (rs := [6]) (by kernel_rfl) (by simp) ?_
    refine AllReadyH.cons (o := _) rfl (fun K hK => ?_) AllReadyH.nil
    try simp only [List.getElem_toArray, List.getElem_cons_succ, List.getElem_cons_zero]
    go_simp
    refine hK.out _ _ ⟨(cell_setRow_other _ g _ ⟨b0, 0, none⟩ (Ne.symm hgb0)).trans cS, (cell_setRow_other _ g _ ⟨bA, 0, none⟩ (Ne.symm hgbA)).trans cA⟩ (fun hHeld => ?_)
    clear hK K
    try simp only [Act.put, List.setIfInBounds_toArray, List.set_cons_zero, List.set_cons_succ]
    refine wpAnyH_done (by kernel_rfl) ?_ _
    have hg6 := Lib.hid (show W.grownBy (W.drew.setRow g (stL bt ws (laidIn tail p at') T1).toArray) (some g) from grown_setRow (grown_drew (x := W) (y := W) ⟨rfl, rfl, rfl, Nat.le_refl _, fun _ _ _ => rfl⟩) _)
    have cS6 : (W.drew.setRow g (stL bt ws (laidIn tail p at') T1).toArray).cell? ⟨b0, 0, none⟩ = some (.pointer (some ⟨g, 0, none⟩)) := (cell_setRow_other _ g _ ⟨b0, 0, none⟩ (Ne.symm hgb0)).trans cS
    have cA6 : (W.drew.setRow g (stL bt ws (laidIn tail p at') T1).toArray).cell? ⟨bA, 0, none⟩ = some (.int .i64 ((at' : Nat) : Int)) := (cell_setRow_other _ g _ ⟨bA, 0, none⟩ (Ne.symm hgbA)).trans cA
    have bS6 := Lib.hid (BS.out.kept hg6.out (fun e => hgb0 (by cases e; rfl)))
    have bA6 := Lib.hid (BA.out.kept hg6.out (fun e => hgbA (by cases e; rfl)))
    have hgl := HST.out.lt
    have hKO6 := Lib.hid (keeps_state HST.out hg6.out)
    generalize W.drew.setRow g (stL bt ws (laidIn tail p at') T1).toArray = w6 at *
    have hb06 := bS6.out.lt
    have hbA6 := bA6.out.lt
    have fA6 := bA6.out.frozen
    clear hcp hsl cS cA fA hHeld
    by_cases hc : at' + l < 64
    · have t1 : decide ((at' : Int) + (l : Int) < 64) = true := by simp; omega
      have HC := Lib.hid hc
      clear hc
      gi_wp2_with fail
      exact ⟨hKO6.out.from _, rfl, ws, laidIn tail p at', HST6.out, fun he => by
        rw [List.map_append] at he
        rw [← HPE.out]
        exact sem_fin HSEM.out HT0.out hnl.out.symm HST.out.tlen he HC.out, grown_trans HGR.out hg6.out⟩
    · have t1 : decide ((at' : Int) + (l : Int) < 64) = false := by simp; omega
      have HC := Lib.hid hc
      clear hc
      have hsl2 := slice_whole g
      gi_wp2_with fail
      refine wpIn_region_held_drew (S := fun W => W.cell? ⟨b0, 0, none⟩ = some (.pointer (some ⟨g, 0, none⟩))) (by kernel_rfl) (plain_of (by kernel_rfl)) ?_ cS6 (fun hHeld => ?_)
      · rintro ⟨a, w, h⟩
        exact h
      refine' wpAnyH_take (i := 0) (oi := _) (v := _) rfl (by kernel_rfl) (by kernel_rfl) (by kernel_rfl) (fun _ _ _ h => h) (Or.inl ⟨?_, ?_⟩) (by assumption) ?_
      rotate_left
      all_goals (try simp only [List.getElem_toArray, List.getElem_cons_succ, List.getElem_cons_zero])
      · rfl
      · intro W hSw; (try dsimp only at hSw); go_simp; (try with_reducible rfl)
      try simp only [Act.put, List.setIfInBounds_toArray, List.set_cons_zero, List.set_cons_succ]
      refine' wpAnyH_take (i := 1) (oi := _) (v := _) rfl (by kernel_rfl) (by kernel_rfl) (by kernel_rfl) (fun _ _ _ h => h) (Or.inl ⟨?_, ?_⟩) (by assumption) ?_
      rotate_left
      all_goals (try simp only [List.getElem_toArray, List.getElem_cons_succ, List.getElem_cons_zero])
      · rfl
      · intro W hSw; (try dsimp only at hSw); go_simp; (try with_reducible rfl)
      try simp only [Act.put, List.setIfInBounds_toArray, List.set_cons_zero, List.set_cons_succ]
      refine' wpAnyH_take (i := 2) (oi := _) (v := _) rfl (by kernel_rfl) (by kernel_rfl) (by kernel_rfl) (fun _ _ _ h => h) (Or.inl ⟨?_, ?_⟩) (by assumption) ?_
      rotate_left
      all_goals (try simp only [List.getElem_toArray, List.getElem_cons_succ, List.getElem_cons_zero])
      · rfl
      · intro W hSw; (try dsimp only at hSw); go_simp; (try with_reducible rfl)
      try simp only [Act.put, List.setIfInBounds_toArray, List.set_cons_zero, List.set_cons_succ]
      refine' wpAnyH_take (i := 3) (oi := _) (v := _) rfl (by kernel_rfl) (by kernel_rfl) (by kernel_rfl) (fun _ _ _ h => h) (Or.inl ⟨?_, ?_⟩) (by assumption) ?_
      rotate_left
      all_goals (try simp only [List.getElem_toArray, List.getElem_cons_succ, List.getElem_cons_zero])
      · rfl
      · intro W hSw; (try dsimp only at hSw); go_simp; (try with_reducible rfl)
      try simp only [Act.put, List.setIfInBounds_toArray, List.set_cons_zero, List.set_cons_succ]
      refine' wpAnyH_take (i := 4) (oi := _) (v := _) rfl (by kernel_rfl) (by kernel_rfl) (by kernel_rfl) (fun _ _ _ h => h) (Or.inl ⟨?_, ?_⟩) (by assumption) ?_
      rotate_left
      all_goals (try simp only [List.getElem_toArray, List.getElem_cons_succ, List.getElem_cons_zero])
      · rfl
      · intro W hSw; (try dsimp only at hSw); go_simp; (try with_reducible rfl)
      try simp only [Act.put, List.setIfInBounds_toArray, List.set_cons_zero, List.set_cons_succ]
      refine wpAnyH_ready (rs := [5]) (by kernel_rfl) (by simp) ?_
      refine AllReadyH.cons (o := _) rfl (fun K hK => ?_) AllReadyH.nil
      try simp only [List.getElem_toArray, List.getElem_cons_succ, List.getElem_cons_zero]
      go_simp
      refine (turn_any g bt ws (laidIn tail p at') T1 (some ⟨g, 9, none⟩) 64 (laidIn tail p at') _ HST6.out.drew' HST6.out.drew'.tail HST6.out.tlt).mono ?_; rintro e w7 ⟨rfl, hst7, hg7⟩; replace hg7 : w6.grownBy w7 (some g) := ⟨hg7.os, hg7.tape, hg7.output, hg7.size, hg7.block⟩; have HST7 := Lib.hid hst7; have HG7 := Lib.hid hg7; have cS7 := cell_grown hg7 (b := b0) (i := 0) (Ne.symm hgb0) hb06 cS6; have cA7 := cell_grown hg7 (b := bA) (i := 0) (Ne.symm hgbA) hbA6 cA6; clear hst7 hg7
      go_wp2_with fail
      refine hK.out _ _ cS7 (fun hHeld => ?_)
      clear hK K
      try simp only [Act.put, List.setIfInBounds_toArray, List.set_cons_zero, List.set_cons_succ]
      refine wpAnyH_done (by kernel_rfl) ?_ _
      have bA7 := bA6.out.kept HG7.out (fun e => hgbA (by cases e; rfl))
      have bS7 := bS6.out.kept HG7.out (fun e => hgb0 (by cases e; rfl))
      have fA7 := bA7.frozen
      have BA7 := Lib.hid bA7
      have BS7 := Lib.hid bS7
      clear bA7 bS7 cS6 cA6 fA6 hsl2
      gi_wp2_with fail
      have hgr7 := grown_trans HGR.out (grown_trans hg6.out HG7.out)
      have hg8 := grown_setCell' w7 bA (.int .i64 0)
      refine ⟨((hKO6.out.trans (keeps_state HST6.out HG7.out)).trans (KeepsOthers.setCell _ _ _)).from _, ?_, turnN ws (laidIn tail p at'), laidIn tail p at', 0, BS7.out.other (by omega) _, BA7.out.set _, by decide, HST7.out.block (hg8.block g HST7.out.lt (by intro e; cases e; omega)), ?_, ?_⟩
      · have hWz7 := (grown_trans hg6.out HG7.out).size
        exact (KpR.grown (grown_trans hg6.out HG7.out) (fun k hk => by rcases hk with rfl | rfl <;> omega) (fun r e hk => by cases e; rcases hk with h | h <;> omega)).trans (KpR.grown hg8 (fun k hk => by rcases hk with rfl | rfl <;> omega) (fun r e hk => by cases e; rcases hk with h | h <;> omega))
      · intro he
        rw [List.map_append] at he ⊢
        rw [← HPE.out]
        exact sem_next HSEM.out HT0.out hnl.out.symm HST.out.tlen hat he HC.out
      · exact ⟨grown_past hgr7 hg8 (fun r e => by cases e; omega), by have := (grown_trans hg6.out HG7.out).size; simp; omega⟩
  · rintro D xs W hD ⟨m, hmap, hst9⟩ ⟨ws', tail', at', -, -, hat, hst', hsem, hgr, -⟩ hK
    have hfin := (hsem (by rw [hmap, pcs_len])).done' (by rw [hmap, pcs_len]; exact hst9) HT0.out hnl.out.symm hat
    have HFN := Lib.hid hfin
    have HST := Lib.hid hst'
    have HGR := Lib.hid hgr
    clear hfin hst' hsem hgr hmap
    gi_wp2
    rw [Exit.noGoto_normal]
    refine ⟨by simp, .inl ⟨_, _, rfl, run_takeDeferred hK, ?_⟩⟩
    refine ⟨_, results_none H0.out _ _ _, rfl, ⟨ws', tail', ?_, HFN.out, by simp; have := HT0.out; have := hnl.out; omega, all_lt HM0.out HB.out⟩, grown_past HGR.out (grownBy_putObj' W D _) (fun r e => by cases e; have := hord.out; omega)⟩
    rw [List.length_append, hnl.out, ← HT0.out, ← HT1.out]
    exact HST.out.block (World.putObj_heap_other (by have := hord.out; omega))
  · rintro D cc pre W hD hSp ⟨rfl, ws', tail', hst', hfin, hgr⟩ hK
    obtain ⟨mm, hmap, -⟩ := hSp
    have HFN := Lib.hid (hfin (by rw [hmap, pcs_len]))
    have HST := Lib.hid hst'
    have HGR := Lib.hid hgr
    clear hfin hst' hgr
    gi_wp2
    rw [Exit.noGoto_normal]
    refine ⟨by simp, .inl ⟨_, _, rfl, run_takeDeferred hK, ?_⟩⟩
    refine ⟨_, results_none H0.out _ _ _, rfl, ⟨ws', tail', ?_, HFN.out, by simp; have := HT0.out; have := hnl.out; omega, all_lt HM0.out HB.out⟩, grown_past HGR.out (grownBy_putObj' W D _) (fun r e => by cases e; have := hord.out; omega)⟩
    rw [List.length_append, hnl.out, ← HT0.out, ← HT1.out]
    exact HST.out.block (World.putObj_heap_other (by have := hord.out; omega))
  · exact fun s X X' row h hg hr => WrI.stays h hg (fun r e => by
      have h2 := hord.out
      rcases hr r e with h3 | ⟨h3, -⟩
      · rcases h3 with rfl | rfl <;> omega
      · omega)
  · exact fun cc s X X' row h hg hr => ⟨h.1, WrX.stays h.2 hg (fun r e => by
      have h2 := hord.out
      rcases hr r e with h3 | ⟨h3, -⟩
      · rcases h3 with rfl | rfl <;> omega
      · omega)⟩

end Go.Proofs.YtmfjhgjplmpecaaDoor
