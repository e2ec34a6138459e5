/- Part of the proofs: what the functions that the law calls do. -/
import Derived.Test.YtpefjkndfifceaaGreatDoorPkb1
import Derived.Test.YtpefjkndfifceaaGreatDoorPkb3
import Derived.Lib.AppendZerosOnto
import Derived.Laws.OwnMore
import Derived.ArgAppend
import Derived.Deep.RegionHeld3
import Derived.Lib.ConvBytes
import Derived.Test.YtpefjkndfifceaaGreatDoorChecked
import Derived.Laws.BitsAllLaws
import Derived.Laws.Rows
import Derived.Laws.Tables
import Derived.OwnWalk
import Derived.Deep.CutRange
import Derived.RangeFuncNested
import Derived.RangeFuncBox
open Go.Lib renaming hid → zH
open List renaming setIfInBounds_toArray → zq1, set_cons_zero → zq2, set_cons_succ → zq3, getElem_toArray → zq4, getElem_cons_succ → zq5, getElem_cons_zero → zq6
set_option linter.unusedVariables false
set_option linter.unusedSimpArgs false
namespace Go.Proofs.YtpefjkndfifceaaGreatDoor
open Go.RowKit Go.Shelf
set_option maxRecDepth 100000
attribute [local go_sem] Oper.semAt_some
theorem Reads.grownNe {q : IntKind} {w w' : World} {row : Option Nat} {a : Option Addr} {len cap : Nat} {l : List Nat} (h : Reads q w a len cap l) (hg : w.grownBy w' row) (hr : 0 < len → ∀ ad, a = some ad → some ad.block ≠ row) : Reads q w' a len cap l :=
 ⟨h.length, h.le, h.max, h.nil, fun hp => by
  obtain ⟨b, off, rfl, hb, hc⟩ := h.cells hp
  refine ⟨b, off, rfl, Nat.lt_of_lt_of_le hb hg.size, fun i hi => ?_⟩
  exact (World.cell?_of_block (hg.block b hb (hr hp _ rfl))).trans (hc i hi)⟩
theorem piece_reads {q : IntKind} {w : World} {a : Option Addr} {n c blk off : Nat} {bl : List Nat} (h : Reads q w a n c bl) (ha : 0 < n → a = some ⟨blk, off, none⟩) (s l : Nat) (hl : s + l ≤ n) : Reads q w (some ⟨blk, off + s, none⟩) l (c - s) ((bl.drop s).take l) := by
 have h1 := h.length
 have h2 := h.le
 have h3 := h.max
 refine ⟨by simp; omega, by omega, by omega, (fun e => by cases e), fun hp => ?_⟩
 obtain ⟨b, o, e, hb, hc⟩ := h.cells (by omega)
 rw [ha (by omega)] at e
 cases e
 refine ⟨_, _, rfl, hb, fun i hi => ?_⟩
 rw [Nat.add_assoc, hc (s + i) (by omega), List.getElem?_take, if_pos hi, List.getElem?_drop]
def WrI (w : World) (g bt b0 bA T1 k0 q0 n r : Nat) (m : List Nat) (pre : List (Nat × Nat)) (W : World) : Prop := ∃ ws tail at', Boxed W b0 139 (.pointer (some ⟨g, 0, none⟩)) ∧ Boxed W bA 3 (.int .i64 ((at' : Nat) : Int)) ∧ at' < 64 ∧ StateAt W g bt ws tail T1 ∧ (pre = pcs n r pre.length → SemP bt m k0 q0 n r pre.length ws tail at') ∧ w.grownBy W (some g) ∧ bA + 3 ≤ W.heap.size
def WrX (w : World) (g bt T1 n r : Nat) (m : List Nat) (pre : List (Nat × Nat)) (W : World) : Prop := ∃ ws tail, StateAt W g bt ws tail T1 ∧ (pre = pcs n r pre.length → FinP bt m ws tail) ∧ w.grownBy W (some g)
theorem grown_past {x y z : World} {g : Nat} {row : Option Nat} (h : x.grownBy y (some g)) (k : y.grownBy z row) (hr : ∀ r, row = some r → x.heap.size ≤ r) : x.grownBy z (some g) :=
 ⟨k.os.trans h.os, k.tape.trans h.tape, k.output.trans h.output, Nat.le_trans h.size k.size, fun i hi hn => (k.block i (Nat.lt_of_lt_of_le hi h.size) (fun e => by have := hr i e.symm; omega)).trans (h.block i hi hn)⟩
theorem pcs_len (n r m : Nat) : (pcs n r m).length = m := by simp [pcs]
theorem all_lt {l m : List Nat} {b : Nat} (h : ∀ x ∈ l, x < b) (k : ∀ x ∈ m, x < b) : ∀ x ∈ l ++ m, x < b := fun x hx => by
 rcases List.mem_append.1 hx with hx | hx
 ·exact h x hx
 ·exact k x hx
theorem SemP.done' {bt k0 q0 n r j at' : Nat} {m0 bl ws tail : List Nat} (h : SemP bt (m0 ++ bl) k0 q0 n r j ws tail at') (hs : stP n r j = n) (hk : k0 = m0.length) (hn : n = bl.length) (ha : at' < 64) : FinP bt (m0 ++ bl) ws tail := by
 subst hk
 exact h.done hn hs ha
theorem WrI.stays {w X X' : World} {g bt b0 bA T1 k0 q0 n r : Nat} {m : List Nat} {pre : List (Nat × Nat)} {row : Option Nat} (h : WrI w g bt b0 bA T1 k0 q0 n r m pre X) (hg : X.grownBy X' row) (hr : ∀ r, row = some r → w.heap.size ≤ r ∧ r ≠ b0 ∧ r ≠ bA ∧ r ≠ g) : WrI w g bt b0 bA T1 k0 q0 n r m pre X' := by
 obtain ⟨ws, tail, at', h1, h2, h3, h4, h5, h6, h7⟩ := h
 exact ⟨ws, tail, at', h1.kept hg (fun e => (hr _ e.symm).2.1 rfl), h2.kept hg (fun e => (hr _ e.symm).2.2.1 rfl), h3, h4.block (hg.block g h4.lt (fun e => (hr _ e.symm).2.2.2 rfl)), h5, grown_past h6 hg (fun r e => (hr r e).1), Nat.le_trans h7 hg.size⟩
theorem WrX.stays {w X X' : World} {g bt T1 n r : Nat} {m : List Nat} {pre : List (Nat × Nat)} {row : Option Nat} (h : WrX w g bt T1 n r m pre X) (hg : X.grownBy X' row) (hr : ∀ r, row = some r → w.heap.size ≤ r ∧ r ≠ g) : WrX w g bt T1 n r m pre X' := by
 obtain ⟨ws, tail, h4, h5, h6⟩ := h
 exact ⟨ws, tail, h4.block (hg.block g h4.lt (fun e => (hr _ e.symm).2 rfl)), h5, grown_past h6 hg (fun r e => (hr r e).1)⟩
theorem slice_whole (g : Nat) (W : World) : (Instr.sliceAt 169 (.pointer (some ⟨g, 9, none⟩)) none none none).run Tryz.prog W = .ok (.slice (some ⟨g, 9, none⟩) 64 64) W := by
 have hl : Tryz.prog.arrayLen 169 = 64 := by kernel_rfl
 have hs : ∀ w, (sizeOf (Tryz.prog.elem 169)).run Tryz.prog w = .ok 1 w := fun _ => by kernel_rfl
 rw [run_sliceAt_array_all W 169 ⟨g, 9, none⟩ (by kernel_rfl), hs]
 show Result.ok (slicedAt ⟨g, 9, none⟩ 0 (Tryz.prog.arrayLen 169) (Tryz.prog.arrayLen 169) 1) W = _
 rw [hl]
 rfl
theorem grown_setRow {x y : World} {g : Nat} (h : x.grownBy y (some g)) (cs : Array Value) : x.grownBy (y.setRow g cs) (some g) :=
 ⟨h.os, h.tape, h.output, by simpa using h.size, fun k hk hr => (setRow_other y g k cs (fun e => hr (by rw [e]))).trans (h.block k hk hr)⟩
theorem cell_grown {x y : World} {g b i : Nat} {v : Value} (h : x.grownBy y (some g)) (hb : b ≠ g) (hl : b < x.heap.size) (hc : x.cell? ⟨b, i, none⟩ = some v) : y.cell? ⟨b, i, none⟩ = some v :=
 (World.cell?_of_block (h.block b hl (fun e => hb (by cases e; rfl)))).trans hc
theorem keeps_state {W W' : World} {g bt T : Nat} {ws tail : List Nat} (h : StateAt W g bt ws tail T) (hg : W.grownBy W' (some g)) : KeepsOthers W W' :=
 KeepsOthers.of_grownBy hg fun j o ej hj => by
  cases ej
  rw [h.heap] at hj
  cases hj
  rfl
theorem grown_setCell' (W : World) (b : Nat) (v : Value) : W.grownBy (W.setCell ⟨b, 0, none⟩ v) (some b) := grownBy_setCell' W b v
theorem sem_split {n r : Nat} {pre : List (Nat × Nat)} {x : Nat × Nat} (he : pre ++ [x] = pcs n r (pre ++ [x]).length) : pre = pcs n r pre.length ∧ x = (stP n r pre.length, stP n r (pre.length + 1) - stP n r pre.length) := by
 rw [List.length_append, List.length_singleton, pcs_succ] at he
 obtain ⟨h1, h2⟩ := List.append_inj' he rfl
 exact ⟨h1, by simpa using h2⟩
theorem sem_fin {bt k0 q0 n r at' : Nat} {m0 bl ws tail : List Nat} {pre : List (Nat × Nat)} {x : Nat × Nat} (hs : pre = pcs n r pre.length → SemP bt (m0 ++ bl) k0 q0 n r pre.length ws tail at') (hk : k0 = m0.length) (hn : n = bl.length) (ht : tail.length = 64) (he : pre ++ [x] = pcs n r (pre ++ [x]).length) (hc : at' + x.2 < 64) :
  FinP bt (m0 ++ bl) ws (laidIn tail ((bl.drop x.1).take x.2) at') := by
 subst hk
 obtain ⟨h1, rfl⟩ := sem_split he
 have h2 := hs h1
 have h3 := stP_le n r pre.length
 have h4 := stP_le n r (pre.length + 1)
 refine h2.fin hn ht ?_ hc
 rcases Nat.lt_or_ge (stP n r pre.length) n with hlt | hge
 ·have h5 := h2.len hn hlt
  simp only at hc
  omega
 ·omega
theorem sem_next {bt k0 q0 n r at' : Nat} {m0 bl ws tail : List Nat} {pre : List (Nat × Nat)} {x : Nat × Nat} (hs : pre = pcs n r pre.length → SemP bt (m0 ++ bl) k0 q0 n r pre.length ws tail at') (hk : k0 = m0.length) (hn : n = bl.length) (ht : tail.length = 64) (hat : at' < 64) (he : pre ++ [x] = pcs n r (pre ++ [x]).length) (hc : ¬ at' + x.2 < 64) :
  SemP bt (m0 ++ bl) k0 q0 n r (pre ++ [x]).length (turnN ws (laidIn tail ((bl.drop x.1).take x.2) at')) (laidIn tail ((bl.drop x.1).take x.2) at') 0 := by
 subst hk
 obtain ⟨h1, rfl⟩ := sem_split he
 have h2 := hs h1
 have h4 := stP_le n r (pre.length + 1)
 simp only at hc
 rw [List.length_append, List.length_singleton]
 exact h2.next hn ht (by omega) (by omega)
theorem slice_tail (g at' : Nat) (h : at' < 64) (W : World) : (Instr.sliceAt 169 (.pointer (some ⟨g, 9, none⟩)) (some (.int .i64 (at' : Int))) none none).run Tryz.prog W = .ok (.slice (some ⟨g, 9 + at', none⟩) (64 - at') (64 - at')) W := by
 have hl : Tryz.prog.arrayLen 169 = 64 := by kernel_rfl
 have hs : ∀ w, (sizeOf (Tryz.prog.elem 169)).run Tryz.prog w = .ok 1 w := fun _ => by kernel_rfl
 rw [run_sliceAt_array_l W 169 ⟨g, 9, none⟩ (by kernel_rfl) .i64 (at' : Int) (by omega) (by rw [hl]; omega), hs]
 show Result.ok (slicedAt ⟨g, 9, none⟩ (at' : Int).toNat (Tryz.prog.arrayLen 169) (Tryz.prog.arrayLen 169) 1) W = _
 rw [hl]
 unfold slicedAt
 rw [Int.toNat_natCast, if_neg (by omega), Nat.mul_one]
 congr 3
 unfold Addr.add
 split <;> simp_all
theorem _root_.Go.Boxed.other' {W : World} {B g i : Nat} {t : TypeId} {v : Value} (h : Boxed W B t v) (hp : B ≠ g) (u : Value) : Boxed (W.setCell ⟨g, i, none⟩ u) B t v := (Below.heap_setCell W ⟨g, i, none⟩ u B hp).trans h
set_option maxRecDepth 100000 in
set_option maxHeartbeats 4000000 in
theorem write_any (g bt : Nat) (m0 bl : List Nat) (a : Option Addr) (n c : Nat) (w : World) (h : StateOf w g bt m0) (hbt : bt ≠ 0) (hr : Reads .u8 w a n c bl) (hb : ∀ x ∈ bl, x < 256) (hlen : m0.length + n < 1152921504606846976) (hne : 0 < n → ∀ ad, a = some ad → ad.block ≠ g) :
  Calls Tryz.prog 118 #[.pointer (some ⟨g, 0, none⟩), .slice a n c] w fun e w' => e = .returned (.tuple #[]) ∧ StateOf w' g bt (m0 ++ bl) ∧ w.grownBy w' (some g) := by
 obtain ⟨ws, tail, hst, hfin, -, hm0⟩ := h
 have h0 : Tryz.f118.results = #[] := by kernel_rfl
 have H0 := zH h0
 have HR := zH hr
 have HB := zH hb
 have HN := zH hne
 have HF := zH hfin
 have HM0 := zH hm0
 have hnl := zH hr.length
 obtain ⟨T0, hT0⟩ : ∃ T, T = m0.length := ⟨_, rfl⟩
 obtain ⟨at0, hat0⟩ : ∃ x, x = T0 % 64 := ⟨_, rfl⟩
 have hatc : (T0 : Int) % 64 = (at0 : Int) := by omega
 have hat64 : at0 < 64 := by omega
 have hb1 := (Below.refl w.heap.size w).alloc (Nat.le_refl _) (.cells #[.pointer (some ⟨g, 0, none⟩)] 139)
 have bS := zH (Boxed.new w 139 (.pointer (some ⟨g, 0, none⟩)))
 have F := zH hb1
 have H1 := zH (hst.below hb1 hst.lt)
 have hgw := hst.lt
 rw [← hT0] at H1 hlen
 have HT0 := zH hT0
 have HAT0 := zH hat0
 clear hr hb hne hst hfin hm0 h0 hT0 hat0 hb1
 refine (callsIn_wide (n := 3)).1 ?_
 refine callsIn_of_wp_marks Tryz.func118 rfl trivial ?_ rfl
 simp only [Tryz.ntmps118, List.size_toArray, List.length_cons, List.length_nil, Nat.reduceAdd, Nat.reduceSub, Array.replicate_succ, Array.replicate_zero, List.push_toArray, List.append_toArray, List.nil_append, List.cons_append]
 refine wpIn_wide.2 ?_
 have cS := bS.out.cell
 go_wp2_with fail
 refine wp_scope_straight ?_
 go_wp2_with fail
 generalize w.alloc (.cells #[.pointer (some ⟨g, 0, none⟩)] 139) = w1 at *
 obtain ⟨b0, hb0⟩ : ∃ b, b = w.heap.size := ⟨_, rfl⟩
 rw [← hb0] at bS cS ⊢
 have HB0 := zH hb0
 have hg1 := H1.out.lt
 have hgb : g ≠ b0 := by omega
 have hb01 := bS.out.lt
 clear hb0 hgw
 refine (made_yes g bt ws tail T0 w1 H1.out hbt).mono ?_
 rintro e w2 ⟨rfl, rfl⟩
 have cT := H1.out.taken
 have fT := H1.out.frozen 73
 obtain ⟨T1, hT1⟩ : ∃ T, T = T0 + n := ⟨_, rfl⟩
 have hsum : (T0 : Int) + (n : Int) = (T1 : Int) := by omega
 obtain ⟨r0, hr0⟩ : ∃ r, r = 64 - at0 := ⟨_, rfl⟩
 have hroom : 64 - (at0 : Int) = (r0 : Int) := by omega
 have HR0 := zH hr0
 clear hr0
 have HT1 := zH hT1
 clear hT1
 go_wp2_with fail
 refine (wpIn_wide (n := 3)).1 ?_
 refine wpIn_label ?_
 have bS2 := (bS.out.other' (g := g) (i := 73) (Ne.symm hgb) (.int .u64 (T1 : Int))).alloc (.cells #[.int .i64 (at0 : Int)] 3)
 have bA2 := Boxed.new (w1.setCell ⟨g, 73, none⟩ (.int .u64 (T1 : Int))) 3 (.int .i64 (at0 : Int))
 rw [World.size_setCell] at bA2
 have H2 := (H1.out.setTaken T1 (T1 : Int) rfl).block (Below.heap_alloc (w1.setCell ⟨g, 73, none⟩ (.int .u64 (T1 : Int))) (.cells #[.int .i64 (at0 : Int)] 3) g (by simpa using hg1))
 have G2 := zH (grown_trans (grown_set (grown_below F.out (some g)) 73 (.int .u64 (T1 : Int))) (grown_below ((Below.refl _ _).alloc (Nat.le_refl _) (.cells #[.int .i64 (at0 : Int)] 3)) (some g)))
 have HZ2 := zH (show ((w1.setCell ⟨g, 73, none⟩ (.int .u64 (T1 : Int))).alloc (.cells #[.int .i64 (at0 : Int)] 3)).heap.size = w1.heap.size + 1 by simp)
 generalize (w1.setCell ⟨g, 73, none⟩ (.int .u64 (T1 : Int))).alloc (.cells #[.int .i64 (at0 : Int)] 3) = w2 at *
 have cA2 := bA2.cell
 go_wp2_with fail
 refine (pieces_any _ _ _ _ _).mono ?_
 rintro e w3 ⟨rfl, rfl⟩
 go_wp2_with fail
 refine (wpIn_wide (n := 3)).1 ?_
 obtain ⟨blk, off, hbo⟩ : ∃ blk off, 0 < n → a = some ⟨blk, off, none⟩ := by
  rcases Nat.eq_zero_or_pos n with h | h
  ·exact ⟨0, 0, fun h2 => by omega⟩
  ·obtain ⟨b, o, h1, -⟩ := HR.out.cells h
   exact ⟨b, o, fun _ => h1⟩
 have HBO := zH hbo
 have bS3 := (bS2.alloc (.cells #[.slice a n c] 22)).alloc (.cells #[.int .i64 (r0 : Int)] 3)
 have bA3 := (bA2.alloc (.cells #[.slice a n c] 22)).alloc (.cells #[.int .i64 (r0 : Int)] 3)
 have bB3 := (Boxed.new w2 22 (.slice a n c)).alloc (.cells #[.int .i64 (r0 : Int)] 3)
 have bR3 := Boxed.new (w2.alloc (.cells #[.slice a n c] 22)) 3 (.int .i64 (r0 : Int))
 rw [World.size_alloc] at bR3
 have hb3 := ((Below.refl w2.heap.size w2).alloc (Nat.le_refl _) (.cells #[.slice a n c] 22)).alloc (by simp) (.cells #[.int .i64 (r0 : Int)] 3)
 have H3 := H2.below hb3 H2.lt
 have G3 := zH (grown_trans G2.out (grown_below hb3 (some g)))
 have hz3 : ((w2.alloc (.cells #[.slice a n c] 22)).alloc (.cells #[.int .i64 (r0 : Int)] 3)).heap.size = w2.heap.size + 2 := by simp
 generalize (w2.alloc (.cells #[.slice a n c] 22)).alloc (.cells #[.int .i64 (r0 : Int)] 3) = W0 at *
 obtain ⟨bA, hbA⟩ : ∃ b, b = w1.heap.size := ⟨_, rfl⟩
 obtain ⟨bb, hbb⟩ : ∃ b, b = w2.heap.size := ⟨_, rfl⟩
 rw [← hbA] at bA3 ⊢
 rw [← hbb] at bB3 bR3 ⊢
 have hz2 := HZ2.out
 have hord : Hid (b0 < bA ∧ bb = bA + 1 ∧ g < bA ∧ g ≠ b0 ∧ w.heap.size ≤ b0 ∧ W0.heap.size = bb + 2) := ⟨by omega, by omega, by omega, hgb, by rw [HB0.out]; exact Nat.le_refl _, by omega⟩
 have hcm := HR.out.max
 have hnc := HR.out.le
 have hr0 := HR0.out
 have hr0b : 1 ≤ r0 ∧ r0 ≤ 64 := by omega
 have hfit : Hid (r0 = 64 - m0.length % 64) := by show _ = _; rw [hr0, HAT0.out, HT0.out]
 have hsem := SemP.start (bl := bl) (n := n) HF.out
 rw [← hfit.out, ← HT0.out, ← HAT0.out] at hsem
 have HSM := zH hsem
 clear cS cT fT cA2 hsum hroom hr0 hbo bS2 bA2 hb3 hbA hbb hz2 HZ2 hz3 hsem hatc hg1 hgb hb01 H2 G2 H1 F
 refine wpIn_rangeR (F := Fence.wide) (R := fun k => k = bb ∨ k = bb + 1) rfl (show 1 ≤ 3 by decide) (gf := 186) (lb := #[.pointer (some ⟨bb, 0, none⟩), .pointer (some ⟨bb + 1, 0, none⟩)]) rfl trivial (enters_of Tryz.func186 (by kernel_rfl) rfl)
  (pieces_come (3 - 1) (by decide) (fun p => p.1 + p.2 ≤ n) bb (bb + 1) blk off n c r0 a W0 bB3 bR3 (by omega) HBO.out hnc hcm hr0b.1 hr0b.2 (fun j hj => by have := stP_le n r0 (j + 1); have := stP_le n r0 j; simp only; omega)) (fun k hk => by have := hord.out; rcases hk with rfl | rfl <;> omega) (Below.refl _ _) (fun _ => rfl)
  (fun pre W => WrI w g bt b0 bA T1 T0 (T0 / 64) n r0 (m0 ++ bl) (pre.map (·.1)) W)
  (fun cc pre W => cc = .exit 0 ∧ WrX w g bt T1 n r0 (m0 ++ bl) (pre.map (·.1)) W)
  ?_ ?_ ⟨ws, tail, at0, bS3, bA3, hat64, H3, fun _ => HSM.out, G3.out, by have := hord.out; omega⟩ ?_ ?_ ?_ ?_ ?_
 rotate_left 3
 ·intro lp x W K hK
  gi_wp2
  exact hK
 ·rintro lp pre ⟨⟨s, l⟩, hC⟩ W ⟨ws, tail, at', hbS, hbA, hat, hst, hsem, hgr, hWz⟩
  simp only at hC
  have hRp := piece_reads (HR.out.grownNe hgr (fun hp ad e h => HN.out hp ad e (by cases h; rfl))) HBO.out s l hC
  have hpb : ∀ x ∈ (bl.drop s).take l, x < 256 := fun x hx => HB.out x (List.mem_of_mem_drop (List.mem_of_mem_take hx))
  have hsp := hst.drew'.splice _ hpb at' (Nat.le_of_lt hat) blk (off + s) l (c - s) (hRp.below (Below.refl _ _).drew)
  have hcp := hsp.1
  have cS := hbS.cell
  have cA := hbA.cell
  have fA := hbA.frozen
  have BS := zH hbS
  have BA := zH hbA
  have hsl := slice_tail g at' hat
  have HST := zH hst
  have HSEM := zH hsem
  have HGR := zH hgr
  have HST6 := zH hsp.2
  have hog := hord.out
  have hgb0 : g ≠ b0 := by omega
  have hgbA : g ≠ bA := by omega
  have hpl : ((bl.drop s).take l).length = l := hRp.length
  have HPL := zH hpl
  clear hRp hsp hbS hbA hst hsem hgr hpl
  generalize hpe : (bl.drop s).take l = p at *
  have HPE := zH hpe
  clear hpe
  gi_wp2_with fail
  refine wpIn_region_held_drew (S := fun W => W.cell? ⟨b0, 0, none⟩ = some (.pointer (some ⟨g, 0, none⟩)) ∧ W.cell? ⟨bA, 0, none⟩ = some (.int .i64 ((at' : Nat) : Int))) (by kernel_rfl) (plain_of (by kernel_rfl)) ?_ ⟨cS, cA⟩ (fun hHeld => ?_)
  ·rintro ⟨a, w, h⟩
   exact h
  refine' wpAnyH_take (i := 0) rfl (by kernel_rfl) (by kernel_rfl) (by kernel_rfl) (fun _ _ _ h => h) (Or.inl ⟨?_, ?_⟩) (by assumption) ?_
  rotate_left
  all_goals (try simp only [zq4, zq5, zq6])
  ·rfl
  ·intro W hSw; (try dsimp only at hSw); go_simp; (try with_reducible rfl)
  try simp only [Act.put, zq1, zq2, zq3]
  refine' wpAnyH_take (i := 1) rfl (by kernel_rfl) (by kernel_rfl) (by kernel_rfl) (fun _ _ _ h => h) (Or.inl ⟨?_, ?_⟩) (by assumption) ?_
  rotate_left
  all_goals (try simp only [zq4, zq5, zq6])
  ·rfl
  ·intro W hSw; (try dsimp only at hSw); go_simp; (try with_reducible rfl)
  try simp only [Act.put, zq1, zq2, zq3]
  refine' wpAnyH_take (i := 2) rfl (by kernel_rfl) (by kernel_rfl) (by kernel_rfl) (fun _ _ _ h => h) (Or.inl ⟨?_, ?_⟩) (by assumption) ?_
  rotate_left
  all_goals (try simp only [zq4, zq5, zq6])
  ·rfl
  ·intro W hSw; (try dsimp only at hSw); go_simp; (try with_reducible rfl)
  try simp only [Act.put, zq1, zq2, zq3]
  refine' wpAnyH_take (i := 3) rfl (by kernel_rfl) (by kernel_rfl) (by kernel_rfl) (fun _ _ _ h => h) (Or.inl ⟨?_, ?_⟩) (by assumption) ?_
  rotate_left
  all_goals (try simp only [zq4, zq5, zq6])
  ·rfl
  ·intro W hSw; (try dsimp only at hSw); go_simp; (try with_reducible rfl)
  try simp only [Act.put, zq1, zq2, zq3]
  refine' wpAnyH_take (i := 4) rfl (by kernel_rfl) (by kernel_rfl) (by kernel_rfl) (fun _ _ _ h => h) (Or.inl ⟨?_, ?_⟩) (by assumption) ?_
  rotate_left
  all_goals (try simp only [zq4, zq5, zq6])
  ·rfl
  ·intro W hSw; (try dsimp only at hSw); go_simp; (try with_reducible rfl)
  try simp only [Act.put, zq1, zq2, zq3]
  refine' wpAnyH_take (i := 5) rfl (by kernel_rfl) (by kernel_rfl) (by kernel_rfl) (fun _ _ _ h => h) (Or.inl ⟨?_, ?_⟩) (by assumption) ?_
  rotate_left
  all_goals (try simp only [zq4, zq5, zq6])
  ·rfl
  ·intro W hSw; (try dsimp only at hSw); go_simp; (try with_reducible rfl)
  try simp only [Act.put, zq1, zq2, zq3]
  refine wpAnyH_ready (rs := [6]) (by kernel_rfl) (by simp) ?_
  refine AllReadyH.cons (o := _) rfl (fun K hK => ?_) AllReadyH.nil
  try simp only [zq4, zq5, zq6]
  go_simp
  refine hK.out _ _ ⟨(cell_setRow_other _ g _ ⟨b0, 0, none⟩ (Ne.symm hgb0)).trans cS, (cell_setRow_other _ g _ ⟨bA, 0, none⟩ (Ne.symm hgbA)).trans cA⟩ (fun hHeld => ?_)
  clear hK K
  try simp only [Act.put, zq1, zq2, zq3]
  refine wpAnyH_done (by kernel_rfl) ?_ _
  have hg6 := zH (show W.grownBy (W.drew.setRow g (stL bt ws (laidIn tail p at') T1).toArray) (some g) from grown_setRow (grown_drew (x := W) (y := W) ⟨rfl, rfl, rfl, Nat.le_refl _, fun _ _ _ => rfl⟩) _)
  have cS6 : (W.drew.setRow g (stL bt ws (laidIn tail p at') T1).toArray).cell? ⟨b0, 0, none⟩ = some (.pointer (some ⟨g, 0, none⟩)) := (cell_setRow_other _ g _ ⟨b0, 0, none⟩ (Ne.symm hgb0)).trans cS
  have cA6 : (W.drew.setRow g (stL bt ws (laidIn tail p at') T1).toArray).cell? ⟨bA, 0, none⟩ = some (.int .i64 ((at' : Nat) : Int)) := (cell_setRow_other _ g _ ⟨bA, 0, none⟩ (Ne.symm hgbA)).trans cA
  have bS6 := zH (BS.out.kept hg6.out (fun e => hgb0 (by cases e; rfl)))
  have bA6 := zH (BA.out.kept hg6.out (fun e => hgbA (by cases e; rfl)))
  have hgl := HST.out.lt
  have hKO6 := zH (keeps_state HST.out hg6.out)
  generalize W.drew.setRow g (stL bt ws (laidIn tail p at') T1).toArray = w6 at *
  have hb06 := bS6.out.lt
  have hbA6 := bA6.out.lt
  have fA6 := bA6.out.frozen
  clear hcp hsl cS cA fA hHeld
  by_cases hc : at' + l < 64
  ·have t1 : decide ((at' : Int) + (l : Int) < 64) = true := by simp; omega
   have HC := zH hc
   clear hc
   gi_wp2_with fail
   exact ⟨hKO6.out.from _, rfl, ws, laidIn tail p at', HST6.out, fun he => by
    rw [List.map_append] at he
    rw [← HPE.out]
    exact sem_fin HSEM.out HT0.out hnl.out.symm HST.out.tlen he HC.out, grown_trans HGR.out hg6.out⟩
  ·have t1 : decide ((at' : Int) + (l : Int) < 64) = false := by simp; omega
   have HC := zH hc
   clear hc
   have hsl2 := slice_whole g
   gi_wp2_with fail
   refine wpIn_region_held_drew (S := fun W => W.cell? ⟨b0, 0, none⟩ = some (.pointer (some ⟨g, 0, none⟩))) (by kernel_rfl) (plain_of (by kernel_rfl)) ?_ cS6 (fun hHeld => ?_)
   ·rintro ⟨a, w, h⟩
    exact h
   refine' wpAnyH_take (i := 0) rfl (by kernel_rfl) (by kernel_rfl) (by kernel_rfl) (fun _ _ _ h => h) (Or.inl ⟨?_, ?_⟩) (by assumption) ?_
   rotate_left
   all_goals (try simp only [zq4, zq5, zq6])
   ·rfl
   ·intro W hSw; (try dsimp only at hSw); go_simp; (try with_reducible rfl)
   try simp only [Act.put, zq1, zq2, zq3]
   refine' wpAnyH_take (i := 1) rfl (by kernel_rfl) (by kernel_rfl) (by kernel_rfl) (fun _ _ _ h => h) (Or.inl ⟨?_, ?_⟩) (by assumption) ?_
   rotate_left
   all_goals (try simp only [zq4, zq5, zq6])
   ·rfl
   ·intro W hSw; (try dsimp only at hSw); go_simp; (try with_reducible rfl)
   try simp only [Act.put, zq1, zq2, zq3]
   refine' wpAnyH_take (i := 2) rfl (by kernel_rfl) (by kernel_rfl) (by kernel_rfl) (fun _ _ _ h => h) (Or.inl ⟨?_, ?_⟩) (by assumption) ?_
   rotate_left
   all_goals (try simp only [zq4, zq5, zq6])
   ·rfl
   ·intro W hSw; (try dsimp only at hSw); go_simp; (try with_reducible rfl)
   try simp only [Act.put, zq1, zq2, zq3]
   refine' wpAnyH_take (i := 3) rfl (by kernel_rfl) (by kernel_rfl) (by kernel_rfl) (fun _ _ _ h => h) (Or.inl ⟨?_, ?_⟩) (by assumption) ?_
   rotate_left
   all_goals (try simp only [zq4, zq5, zq6])
   ·rfl
   ·intro W hSw; (try dsimp only at hSw); go_simp; (try with_reducible rfl)
   try simp only [Act.put, zq1, zq2, zq3]
   refine' wpAnyH_take (i := 4) rfl (by kernel_rfl) (by kernel_rfl) (by kernel_rfl) (fun _ _ _ h => h) (Or.inl ⟨?_, ?_⟩) (by assumption) ?_
   rotate_left
   all_goals (try simp only [zq4, zq5, zq6])
   ·rfl
   ·intro W hSw; (try dsimp only at hSw); go_simp; (try with_reducible rfl)
   try simp only [Act.put, zq1, zq2, zq3]
   refine wpAnyH_ready (rs := [5]) (by kernel_rfl) (by simp) ?_
   refine AllReadyH.cons (o := _) rfl (fun K hK => ?_) AllReadyH.nil
   try simp only [zq4, zq5, zq6]
   go_simp
   refine (turn_any g bt ws (laidIn tail p at') T1 (some ⟨g, 9, none⟩) 64 (laidIn tail p at') _ HST6.out.drew' HST6.out.drew'.tail HST6.out.tlt).mono ?_; rintro e w7 ⟨rfl, hst7, hg7⟩; replace hg7 : w6.grownBy w7 (some g) := ⟨hg7.os, hg7.tape, hg7.output, hg7.size, hg7.block⟩; have HST7 := zH hst7; have HG7 := zH hg7; have cS7 := cell_grown hg7 (b := b0) (i := 0) (Ne.symm hgb0) hb06 cS6; have cA7 := cell_grown hg7 (b := bA) (i := 0) (Ne.symm hgbA) hbA6 cA6; clear hst7 hg7
   go_wp2_with fail
   refine hK.out _ _ cS7 (fun hHeld => ?_)
   clear hK K
   try simp only [Act.put, zq1, zq2, zq3]
   refine wpAnyH_done (by kernel_rfl) ?_ _
   have bA7 := bA6.out.kept HG7.out (fun e => hgbA (by cases e; rfl))
   have bS7 := bS6.out.kept HG7.out (fun e => hgb0 (by cases e; rfl))
   have fA7 := bA7.frozen
   have BA7 := zH bA7
   have BS7 := zH bS7
   clear bA7 bS7 cS6 cA6 fA6 hsl2
   gi_wp2_with fail
   have hgr7 := grown_trans HGR.out (grown_trans hg6.out HG7.out)
   have hg8 := grown_setCell' w7 bA (.int .i64 0)
   refine ⟨((hKO6.out.trans (keeps_state HST6.out HG7.out)).trans (KeepsOthers.setCell _ _ _)).from _, ?_, turnN ws (laidIn tail p at'), laidIn tail p at', 0, BS7.out.other (by omega) _, BA7.out.set _, by decide, HST7.out.block (hg8.block g HST7.out.lt (by intro e; cases e; omega)), ?_, ?_⟩
   ·have hWz7 := (grown_trans hg6.out HG7.out).size
    exact (KpR.grown (grown_trans hg6.out HG7.out) (fun k hk => by rcases hk with rfl | rfl <;> omega) (fun r e hk => by cases e; rcases hk with h | h <;> omega)).trans (KpR.grown hg8 (fun k hk => by rcases hk with rfl | rfl <;> omega) (fun r e hk => by cases e; rcases hk with h | h <;> omega))
   ·intro he
    rw [List.map_append] at he ⊢
    rw [← HPE.out]
    exact sem_next HSEM.out HT0.out hnl.out.symm HST.out.tlen hat he HC.out
   ·exact ⟨grown_past hgr7 hg8 (fun r e => by cases e; omega), by have := (grown_trans hg6.out HG7.out).size; simp; omega⟩
 ·rintro D xs W hD ⟨m, hmap, hst9⟩ ⟨ws', tail', at', -, -, hat, hst', hsem, hgr, -⟩ hK
  have hfin := (hsem (by rw [hmap, pcs_len])).done' (by rw [hmap, pcs_len]; exact hst9) HT0.out hnl.out.symm hat
  have HFN := zH hfin
  have HST := zH hst'
  have HGR := zH hgr
  clear hfin hst' hsem hgr hmap
  gi_wp2
  rw [Exit.noGoto_normal]
  refine ⟨by simp, .inl ⟨_, _, rfl, run_takeDeferred hK, ?_⟩⟩
  refine ⟨_, results_none H0.out _ _ _, rfl, ⟨ws', tail', ?_, HFN.out, by simp; have := HT0.out; have := hnl.out; omega, all_lt HM0.out HB.out⟩, grown_past HGR.out (grownBy_putObj' W D _) (fun r e => by cases e; have := hord.out; omega)⟩
  rw [List.length_append, hnl.out, ← HT0.out, ← HT1.out]
  exact HST.out.block (World.putObj_heap_other (by have := hord.out; omega))
 ·rintro D cc pre W hD hSp ⟨rfl, ws', tail', hst', hfin, hgr⟩ hK
  obtain ⟨mm, hmap, -⟩ := hSp
  have HFN := zH (hfin (by rw [hmap, pcs_len]))
  have HST := zH hst'
  have HGR := zH hgr
  clear hfin hst' hgr
  gi_wp2
  rw [Exit.noGoto_normal]
  refine ⟨by simp, .inl ⟨_, _, rfl, run_takeDeferred hK, ?_⟩⟩
  refine ⟨_, results_none H0.out _ _ _, rfl, ⟨ws', tail', ?_, HFN.out, by simp; have := HT0.out; have := hnl.out; omega, all_lt HM0.out HB.out⟩, grown_past HGR.out (grownBy_putObj' W D _) (fun r e => by cases e; have := hord.out; omega)⟩
  rw [List.length_append, hnl.out, ← HT0.out, ← HT1.out]
  exact HST.out.block (World.putObj_heap_other (by have := hord.out; omega))
 ·exact fun s X X' row h hg hr => WrI.stays h hg (fun r e => by
   have h2 := hord.out
   rcases hr r e with h3 | ⟨h3, -⟩
   ·rcases h3 with rfl | rfl <;> omega
   ·omega)
 ·exact fun cc s X X' row h hg hr => ⟨h.1, WrX.stays h.2 hg (fun r e => by
   have h2 := hord.out
   rcases hr r e with h3 | ⟨h3, -⟩
   ·rcases h3 with rfl | rfl <;> omega
   ·omega)⟩
end Go.Proofs.YtpefjkndfifceaaGreatDoor
namespace Go.Proofs.YtpefjkndfifceaaGreatDoor
open Go.RowKit Go.Shelf
set_option maxRecDepth 100000
set_option maxHeartbeats 1000000 in
theorem start256_any (T : Nat) (w : World) : Calls Tryz.prog 150 #[.pointer (some ⟨T, 0, none⟩), .int .i64 256] w fun e w' => e = .returned (.slice (some ⟨T, 64, none⟩) 8 8) ∧ w = w' := by
 go_enter Tryz.func150, Tryz.ntmps150
 go_wp2
 go_ret
 exact ⟨rfl, rfl⟩
set_option maxHeartbeats 1000000 in
theorem start224_any (T : Nat) (w : World) : Calls Tryz.prog 150 #[.pointer (some ⟨T, 0, none⟩), .int .i64 224] w fun e w' => e = .returned (.slice (some ⟨T, 72, none⟩) 8 8) ∧ w = w' := by
 go_enter Tryz.func150, Tryz.ntmps150
 go_wp2
 go_ret
 exact ⟨rfl, rfl⟩
theorem known_yes (bt : Nat) (h : bt = 224 ∨ bt = 256) (w : World) : Calls Tryz.prog 148 #[.int .i64 (bt : Int)] w fun e w' => e = .returned (.bool true) ∧ w = w' := by
 rcases h with rfl | rfl
 ·go_enter Tryz.func148, Tryz.ntmps148
  go_wp2
  go_ret
  exact ⟨rfl, rfl⟩
 ·go_enter Tryz.func148, Tryz.ntmps148
  go_wp2
  go_ret
  exact ⟨rfl, rfl⟩
theorem slice_words (g : Nat) (W : World) : (Instr.sliceAt 168 (.pointer (some ⟨g, 1, none⟩)) none none none).run Tryz.prog W = .ok (.slice (some ⟨g, 1, none⟩) 8 8) W := by
 have hl : Tryz.prog.arrayLen 168 = 8 := by kernel_rfl
 have hs : ∀ w, (sizeOf (Tryz.prog.elem 168)).run Tryz.prog w = .ok 1 w := fun _ => by kernel_rfl
 rw [run_sliceAt_array_all W 168 ⟨g, 1, none⟩ (by kernel_rfl), hs]
 show Result.ok (slicedAt ⟨g, 1, none⟩ 0 (Tryz.prog.arrayLen 168) (Tryz.prog.arrayLen 168) 1) W = _
 rw [hl]
 rfl
theorem tab_cell (w : World) (T i : Nat) (hT : w.heap[T]? = some (.cells tabC 175 (0, 0))) (hi : i < 80) : w.cell? ⟨T, i, none⟩ = some (.int .u32 ((g0 (kL ++ startL) i : Nat) : Int)) := by
 rw [cell_of_row w T i _ _ _ hT]
 exact arrC_get .u32 (kL ++ startL) i hi
theorem start_copy (w : World) (g T o bt : Nat) (hg : w.heap[g]? = some (.cells (stL bt (List.replicate 8 0) (List.replicate 64 0) 0).toArray 171 (0, 0))) (hT : w.heap[T]? = some (.cells tabC 175 (0, 0))) (ho : o + 8 ≤ 80) (hst : ((kL ++ startL).drop o).take 8 = startN bt) :
  (Builtin.copy_ #[43, 43] 3 #[.slice (some ⟨g, 1, none⟩) 8 8, .slice (some ⟨T, o, none⟩) 8 8]).run Tryz.prog w = .ok (goInt 8) (w.setRow g (stL bt (startN bt) (List.replicate 64 0) 0).toArray) := by
 have hl : ((startN bt).map (num .u32)).length = 8 := by rw [List.length_map, startN_len]
 have := run_copy_row Tryz.prog w 43 43 3 71 g 1 8 8 ⟨T, o, none⟩ 8 8 _ _ ((startN bt).map (num .u32)) Tryz.underlying43 (by kernel_rfl) hg (by rw [hl]; rfl) (fun j v hv => by
  have hj : j < 8 := by
   have := (List.getElem?_eq_some_iff.1 hv).1
   rwa [hl] at this
  have e : (⟨T, o, none⟩ : Addr).add j = ⟨T, o + j, none⟩ := by unfold Addr.add; split <;> simp_all
  rw [e, tab_cell w T (o + j) hT (by omega)]
  rw [List.getElem?_map, ← hst, List.getElem?_take, if_pos hj, List.getElem?_drop] at hv
  have hlt : o + j < (kL ++ startL).length := by
   have : (kL ++ startL).length = 80 := rfl
   omega
  rw [List.getElem?_eq_getElem hlt] at hv
  simp only [Option.map_some, Option.some.injEq] at hv
  rw [← hv, g0, List.getElem?_eq_getElem hlt]
  rfl) (by rw [hl]; simp [stL]) (fun u hu => nums_oneCell .u32 _ u hu)
 rw [hl] at this
 rw [this]
 congr 2
theorem wpList_buildV {ops : Array Oper} {rest : List Oper} {o : Oper} {a : Act} {w : World} {Q : Exit → Act → World → Prop} (hg : o.guard = none) (t : TypeId) (parts : Array (Nat × Operand)) (ho : o.op = .build t parts) (cs : Array Value)
  (hv : Tryz.prog.built t (parts.map fun (i, x) => (i, a.eval x)).toList = some cs) (h : wpList Tryz.prog ops Q rest (a.put o.dst (.agg cs)) w) : wpList Tryz.prog ops Q (o :: rest) a w :=
 wpList_build hg t parts ho (by rw [hv]; rfl) (by rw [hv]; exact h)
def st0 (bt : Nat) : Array Value := (stL bt (List.replicate 8 0) (List.replicate 64 0) 0).toArray
set_option maxRecDepth 100000 in
set_option maxHeartbeats 2000000 in
theorem new256_any (w : World) : Calls Tryz.prog 117 #[.int .i64 256] w fun e w' => e = .returned (.tuple #[.pointer (some ⟨w.heap.size, 0, none⟩), .int .i64 0]) ∧ StateOf w' w.heap.size 256 [] ∧ Below w.heap.size w w' := by
 have hz : ∀ w, (zeroValue 175).run Tryz.prog w = .ok (.agg (arrC .u32 (List.replicate 80 0))) w := fun _ => by kernel_rfl
 go_enter Tryz.func117, Tryz.ntmps117
 go_wp2_with fail
 refine (known_yes 256 (by decide) w).mono ?_
 rintro e w1 ⟨rfl, rfl⟩
 go_wp2_with (refine wpList_buildV rfl _ _ rfl (st0 256) (by kernel_rfl) ?_)
 have hg1 := zH (Go.heap_alloc_new w (.cells (st0 256) 171))
 have hB1 := zH (Below.alloc (Below.refl w.heap.size w) (Nat.le_refl _) (.cells (st0 256) 171))
 have hs1 := zH ((Array.getElem?_eq_some_iff.1 hg1.out).1)
 generalize w.alloc (.cells (st0 256) 171) = w1 at *
 refine (written_any w1).mono ?_
 rintro e w2 ⟨rfl, rfl⟩
 have hg2 := zH ((Below.heap_alloc w1 (.cells tabC 175) _ hs1.out).trans hg1.out)
 have hB2 := zH (Below.alloc hB1.out (Nat.le_of_lt hs1.out) (.cells tabC 175))
 have hs2 := zH ((Array.getElem?_eq_some_iff.1 hg2.out).1)
 generalize w1.alloc (.cells tabC 175) = w2 at *
 clear hg1 hB1 hs1
 go_wp2_with (refine wpList_store_row rfl _ _ _ rfl w2.heap.size tabC rfl (by kernel_rfl) 175 _ (Go.heap_alloc_new w2 _) (by kernel_rfl) (by kernel_rfl) tabC_one ?_)
 rw [alloc_setRow]
 have hg3 := zH ((Below.heap_alloc w2 (.cells tabC 175) _ hs2.out).trans hg2.out)
 have hT3 := zH (Go.heap_alloc_new w2 (.cells tabC 175))
 have hB3 := zH (Below.alloc hB2.out (Nat.le_of_lt hs2.out) (.cells tabC 175))
 generalize hTE : w2.heap.size = T at *
 generalize w2.alloc (.cells tabC 175) = w3 at *
 have hsl := slice_words w.heap.size
 have hgE := hs2
 clear hg2 hB2 hTE hs2
 generalize hge : w.heap.size = g at *
 have hcp := start_copy w3.drew g T 64 256 hg3.out hT3.out (by decide) rfl
 have HGE := zH hge
 clear hge
 go_wp2_with fail
 refine wp_region_held_drew (S := fun _ => True) (by kernel_rfl) trivial (fun hHeld => ?_)
 refine' wpAnyH_take (i := 0) rfl (by kernel_rfl) (by kernel_rfl) (by kernel_rfl) (fun _ _ _ h => h) (Or.inl ⟨?_, ?_⟩) (by assumption) ?_
 rotate_left
 all_goals (try simp only [zq4, zq5, zq6])
 ·rfl
 ·intro W hSw; (try dsimp only at hSw); go_simp; (try with_reducible rfl)
 try simp only [Act.put, zq1, zq2, zq3]
 refine' wpAnyH_take (i := 1) rfl (by kernel_rfl) (by kernel_rfl) (by kernel_rfl) (fun _ _ _ h => h) (Or.inl ⟨?_, ?_⟩) (by assumption) ?_
 rotate_left
 all_goals (try simp only [zq4, zq5, zq6])
 ·rfl
 ·intro W hSw; (try dsimp only at hSw); go_simp; (try with_reducible rfl)
 try simp only [Act.put, zq1, zq2, zq3]
 refine' wpAnyH_take (i := 2) rfl (by kernel_rfl) (by kernel_rfl) (by kernel_rfl) (fun _ _ _ h => h) (Or.inl ⟨?_, ?_⟩) (by assumption) ?_
 rotate_left
 all_goals (try simp only [zq4, zq5, zq6])
 ·rfl
 ·intro W hSw; (try dsimp only at hSw); go_simp; (try with_reducible rfl)
 try simp only [Act.put, zq1, zq2, zq3]
 refine' wpAnyH_take (i := 3) rfl (by kernel_rfl) (by kernel_rfl) (by kernel_rfl) (fun _ _ _ h => h) (Or.inl ⟨?_, ?_⟩) (by assumption) ?_
 rotate_left
 all_goals (try simp only [zq4, zq5, zq6])
 ·rfl
 ·intro W hSw; (try dsimp only at hSw); go_simp; (try with_reducible rfl)
 try simp only [Act.put, zq1, zq2, zq3]
 refine' wpAnyH_take (i := 4) rfl (by kernel_rfl) (by kernel_rfl) (by kernel_rfl) (fun _ _ _ h => h) (Or.inl ⟨?_, ?_⟩) (by assumption) ?_
 rotate_left
 all_goals (try simp only [zq4, zq5, zq6])
 ·rfl
 ·intro W hSw; (try dsimp only at hSw); go_simp; (try with_reducible rfl)
 try simp only [Act.put, zq1, zq2, zq3]
 refine wpAnyH_ready (rs := [5]) (by kernel_rfl) (by simp) ?_
 refine AllReadyH.cons (o := _) rfl (fun K hK => ?_) AllReadyH.nil
 try simp only [zq4, zq5, zq6]
 go_simp
 refine (start256_any _ _).mono ?_; rintro e w5 ⟨rfl, rfl⟩
 go_wp2_with fail
 refine hK.out _ _ trivial (fun hHeld => ?_)
 clear hK K
 try simp only [Act.put, zq1, zq2, zq3]
 refine wpAnyH_ready (rs := [6]) (by kernel_rfl) (by simp) ?_
 refine AllReadyH.cons (o := _) rfl (fun K hK => ?_) AllReadyH.nil
 try simp only [zq4, zq5, zq6]
 go_simp
 refine hK.out _ _ trivial (fun hHeld => ?_)
 clear hK K
 try simp only [Act.put, zq1, zq2, zq3]
 refine wpAnyH_done (by kernel_rfl) ?_ _
 go_wp2
 go_ret2
 rw [HGE.out]
 have hgr : w3.grownBy (w3.drew.setRow g (stL 256 (startN 256) (List.replicate 64 0) 0).toArray) (some g) := grown_setRow (grown_drew (x := w3) (y := w3) ⟨rfl, rfl, rfl, Nat.le_refl _, fun _ _ _ => rfl⟩) _
 exact ⟨rfl, ⟨startN 256, List.replicate 64 0, ⟨setRow_heap _ g _ _ _ _ hg3.out, startN_len _, by simp, startN_lt _, fun x hx => by have := List.eq_of_mem_replicate hx; omega⟩, ⟨rfl, rfl⟩, by decide, fun x hx => by simp at hx⟩, hB3.out.grown hgr (Nat.le_of_lt (Array.getElem?_eq_some_iff.1 hg3.out).1) (fun k hk => by cases hk; exact Nat.le_refl _)⟩
set_option maxRecDepth 100000 in
set_option maxHeartbeats 2000000 in
theorem new224_any (w : World) : Calls Tryz.prog 117 #[.int .i64 224] w fun e w' => e = .returned (.tuple #[.pointer (some ⟨w.heap.size, 0, none⟩), .int .i64 0]) ∧ StateOf w' w.heap.size 224 [] ∧ Below w.heap.size w w' := by
 have hz : ∀ w, (zeroValue 175).run Tryz.prog w = .ok (.agg (arrC .u32 (List.replicate 80 0))) w := fun _ => by kernel_rfl
 go_enter Tryz.func117, Tryz.ntmps117
 go_wp2_with fail
 refine (known_yes 224 (by decide) w).mono ?_
 rintro e w1 ⟨rfl, rfl⟩
 go_wp2_with (refine wpList_buildV rfl _ _ rfl (st0 224) (by kernel_rfl) ?_)
 have hg1 := zH (Go.heap_alloc_new w (.cells (st0 224) 171))
 have hB1 := zH (Below.alloc (Below.refl w.heap.size w) (Nat.le_refl _) (.cells (st0 224) 171))
 have hs1 := zH ((Array.getElem?_eq_some_iff.1 hg1.out).1)
 generalize w.alloc (.cells (st0 224) 171) = w1 at *
 refine (written_any w1).mono ?_
 rintro e w2 ⟨rfl, rfl⟩
 have hg2 := zH ((Below.heap_alloc w1 (.cells tabC 175) _ hs1.out).trans hg1.out)
 have hB2 := zH (Below.alloc hB1.out (Nat.le_of_lt hs1.out) (.cells tabC 175))
 have hs2 := zH ((Array.getElem?_eq_some_iff.1 hg2.out).1)
 generalize w1.alloc (.cells tabC 175) = w2 at *
 clear hg1 hB1 hs1
 go_wp2_with (refine wpList_store_row rfl _ _ _ rfl w2.heap.size tabC rfl (by kernel_rfl) 175 _ (Go.heap_alloc_new w2 _) (by kernel_rfl) (by kernel_rfl) tabC_one ?_)
 rw [alloc_setRow]
 have hg3 := zH ((Below.heap_alloc w2 (.cells tabC 175) _ hs2.out).trans hg2.out)
 have hT3 := zH (Go.heap_alloc_new w2 (.cells tabC 175))
 have hB3 := zH (Below.alloc hB2.out (Nat.le_of_lt hs2.out) (.cells tabC 175))
 generalize hTE : w2.heap.size = T at *
 generalize w2.alloc (.cells tabC 175) = w3 at *
 have hsl := slice_words w.heap.size
 have hgE := hs2
 clear hg2 hB2 hTE hs2
 generalize hge : w.heap.size = g at *
 have hcp := start_copy w3.drew g T 72 224 hg3.out hT3.out (by decide) rfl
 have HGE := zH hge
 clear hge
 go_wp2_with fail
 refine wp_region_held_drew (S := fun _ => True) (by kernel_rfl) trivial (fun hHeld => ?_)
 refine' wpAnyH_take (i := 0) rfl (by kernel_rfl) (by kernel_rfl) (by kernel_rfl) (fun _ _ _ h => h) (Or.inl ⟨?_, ?_⟩) (by assumption) ?_
 rotate_left
 all_goals (try simp only [zq4, zq5, zq6])
 ·rfl
 ·intro W hSw; (try dsimp only at hSw); go_simp; (try with_reducible rfl)
 try simp only [Act.put, zq1, zq2, zq3]
 refine' wpAnyH_take (i := 1) rfl (by kernel_rfl) (by kernel_rfl) (by kernel_rfl) (fun _ _ _ h => h) (Or.inl ⟨?_, ?_⟩) (by assumption) ?_
 rotate_left
 all_goals (try simp only [zq4, zq5, zq6])
 ·rfl
 ·intro W hSw; (try dsimp only at hSw); go_simp; (try with_reducible rfl)
 try simp only [Act.put, zq1, zq2, zq3]
 refine' wpAnyH_take (i := 2) rfl (by kernel_rfl) (by kernel_rfl) (by kernel_rfl) (fun _ _ _ h => h) (Or.inl ⟨?_, ?_⟩) (by assumption) ?_
 rotate_left
 all_goals (try simp only [zq4, zq5, zq6])
 ·rfl
 ·intro W hSw; (try dsimp only at hSw); go_simp; (try with_reducible rfl)
 try simp only [Act.put, zq1, zq2, zq3]
 refine' wpAnyH_take (i := 3) rfl (by kernel_rfl) (by kernel_rfl) (by kernel_rfl) (fun _ _ _ h => h) (Or.inl ⟨?_, ?_⟩) (by assumption) ?_
 rotate_left
 all_goals (try simp only [zq4, zq5, zq6])
 ·rfl
 ·intro W hSw; (try dsimp only at hSw); go_simp; (try with_reducible rfl)
 try simp only [Act.put, zq1, zq2, zq3]
 refine' wpAnyH_take (i := 4) rfl (by kernel_rfl) (by kernel_rfl) (by kernel_rfl) (fun _ _ _ h => h) (Or.inl ⟨?_, ?_⟩) (by assumption) ?_
 rotate_left
 all_goals (try simp only [zq4, zq5, zq6])
 ·rfl
 ·intro W hSw; (try dsimp only at hSw); go_simp; (try with_reducible rfl)
 try simp only [Act.put, zq1, zq2, zq3]
 refine wpAnyH_ready (rs := [5]) (by kernel_rfl) (by simp) ?_
 refine AllReadyH.cons (o := _) rfl (fun K hK => ?_) AllReadyH.nil
 try simp only [zq4, zq5, zq6]
 go_simp
 refine (start224_any _ _).mono ?_; rintro e w5 ⟨rfl, rfl⟩
 go_wp2_with fail
 refine hK.out _ _ trivial (fun hHeld => ?_)
 clear hK K
 try simp only [Act.put, zq1, zq2, zq3]
 refine wpAnyH_ready (rs := [6]) (by kernel_rfl) (by simp) ?_
 refine AllReadyH.cons (o := _) rfl (fun K hK => ?_) AllReadyH.nil
 try simp only [zq4, zq5, zq6]
 go_simp
 refine hK.out _ _ trivial (fun hHeld => ?_)
 clear hK K
 try simp only [Act.put, zq1, zq2, zq3]
 refine wpAnyH_done (by kernel_rfl) ?_ _
 go_wp2
 go_ret2
 rw [HGE.out]
 have hgr : w3.grownBy (w3.drew.setRow g (stL 224 (startN 224) (List.replicate 64 0) 0).toArray) (some g) := grown_setRow (grown_drew (x := w3) (y := w3) ⟨rfl, rfl, rfl, Nat.le_refl _, fun _ _ _ => rfl⟩) _
 exact ⟨rfl, ⟨startN 224, List.replicate 64 0, ⟨setRow_heap _ g _ _ _ _ hg3.out, startN_len _, by simp, startN_lt _, fun x hx => by have := List.eq_of_mem_replicate hx; omega⟩, ⟨rfl, rfl⟩, by decide, fun x hx => by simp at hx⟩, hB3.out.grown hgr (Nat.le_of_lt (Array.getElem?_eq_some_iff.1 hg3.out).1) (fun k hk => by cases hk; exact Nat.le_refl _)⟩
set_option maxRecDepth 100000 in
theorem copy_any (g bt : Nat) (ws tail : List Nat) (T : Nat) (w : World) (h : StateAt w g bt ws tail T) (hb : bt ≠ 0) : Calls Tryz.prog 154 #[.pointer (some ⟨g, 0, none⟩)] w fun e w' => e = .returned (.pointer (some ⟨w.heap.size, 0, none⟩)) ∧ w' = w.alloc (.cells (stL bt ws tail T).toArray 171) := by
 have hz2 : ∀ w, (zeroValue 171).run Tryz.prog w = .ok (.agg (st0 0)) w := fun _ => by kernel_rfl
 have hsz : (stL bt ws tail T).toArray.size = 74 := by simp [stL, h.wlen, h.tlen]
 have hone : (stL bt ws tail T).toArray.all (·.oneCell') = true := by
  rw [Array.all_eq_true_iff_forall_mem]
  intro u hu
  simp only [stL, List.mem_toArray, List.mem_cons, List.mem_append] at hu
  rcases hu with rfl | hu | hu | hu
  ·rfl
  ·exact nums_oneCell .u32 _ u hu
  ·exact nums_oneCell .u8 _ u hu
  ·simp at hu
   rw [hu]
   rfl
 have hH := h.heap
 generalize (stL bt ws tail T).toArray = cs at *
 go_enter Tryz.func154, Tryz.ntmps154
 go_wp2_with fail
 refine (made_yes g bt ws tail T w h hb).mono ?_
 rintro e w1 ⟨rfl, rfl⟩
 go_wp2_with (first | (refine wpList_load_row rfl _ _ rfl g rfl _ _ _ _ hH Tryz.underlying171 rfl (by rw [hsz]; kernel_rfl) ?_) | (refine wpList_store_row rfl _ _ _ rfl w.heap.size cs rfl rfl 171 _ (Go.heap_alloc_new w _) (by rw [hsz]; kernel_rfl) (by rw [hsz]; kernel_rfl) hone ?_))
 go_ret
 rw [alloc_setRow]
 exact ⟨rfl, rfl⟩
end Go.Proofs.YtpefjkndfifceaaGreatDoor
namespace Go.Proofs.YtpefjkndfifceaaGreatDoor
open Go.RowKit Go.Shelf
set_option maxRecDepth 100000
theorem noughtCells (v : Value) (n : Nat) : (Builtin.zeroCells #[v] n).toList = List.replicate n v := by
 apply List.ext_getElem
 ·simp [Builtin.zeroCells]
 ·intro i h1 h2
  simp [Builtin.zeroCells, Nat.mod_one]
theorem run_append_room_zeros {P : Program} (w : World) (t tn ty e : TypeId) (i : TypeInfo) (z : Value) (kq kn : IntKind) (ht : P.underlying t = some (.slice e)) (htn : P.underlying tn = some (.int kn)) (hi : P.info? e = some i) (hz : i.zero = some z) (hzc : z.cells = #[z]) (hz1 : z.oneCell' = true) (hs : i.size = 1) (hby : i.bytes = 1)
  (g sLen sCap : Nat) (cur : Array Value) (hg : w.heap[g]? = some (.cells cur e (0, 0))) (k : Nat) (hroom : sLen + k ≤ sCap) (hc : cur.size = sCap) (hm : k ≤ 1000000) :
  (Builtin.append_ #[t, tn] ty #[.slice (some ⟨g, 0, none⟩) sLen sCap, .int kq k]).run P w =
   .ok (.slice (some ⟨g, 0, none⟩) (sLen + k) sCap) (w.setRow g (cur.toList.take sLen ++ List.replicate k z ++ cur.toList.drop (sLen + k)).toArray) := by
 have hw : IntKind.i64.wrap (k : Int) = k := by rw [IntKind.wrap_i64]; omega
 have hneg : ¬ ((k : Int) < 0) := by omega
 have h48i : ¬ (281474976710656 < (k : Int)) := by omega
 have hl : (List.replicate k z).length = k := by simp
 have hst := run_storeCells_at P g sLen e (List.replicate k z) 0 cur w hg (by rw [hl, hc]; omega) (fun v hv => by rw [List.eq_of_mem_replicate hv]; exact hz1)
 rw [hl] at hst
 simp only [Nat.add_zero] at hst
 rcases Nat.eq_zero_or_pos k with rfl | h0
 ·have hw0 : IntKind.i64.wrap 0 = 0 := by rw [IntKind.wrap_i64]; rfl
  have hroom0 : sLen ≤ sCap := by omega
  have hst0 : Sem.run P (storeCells { block := g, off := sLen } []) w = Result.ok () (w.setRow g cur) := by simpa using hst
  simp [Builtin.append_, run_underlying ht, run_underlying htn, sizeOf, typeInfo, zeroValue, hi, hz, asInt, asIntOf, hw0, hs, hby, hroom0, Addr.add_lit, hst0]
 ·have hk : k ≠ 0 := by omega
  have hcells : (Builtin.zeroCells #[z] k).toList = List.replicate k z := noughtCells z k
  simp [Builtin.append_, run_underlying ht, run_underlying htn, sizeOf, typeInfo, zeroValue, hi, hz, asInt, asIntOf, hw, hneg, hs, hby, hk, hroom, h48i, Addr.add_lit, hzc, hcells, hst]
theorem wpList_append_noughts {P : Program} (w : World) {ops : Array Oper} {rest : List Oper} {o : Oper} {a : Act} {Q : Exit → Act → World → Prop} (hgd : o.guard = .none) (s x : Operand) (t tn : TypeId)
  (ho : o.op = .call { callee := .builtin .append, args := #[s, x], argTypes := #[t, tn] })
  (B E : Nat) (i : TypeInfo) (ht : P.underlying t = some (.slice E)) (htn : P.underlying tn = some (.int .i64)) (hi : P.info? E = some i) (hz : i.zero = some (.int .u8 0)) (hsize : i.size = 1) (hby : i.bytes = 1)
  (v : Value) (l : List Nat) (hs : a.eval s = v) (hown : OwnQ .u8 E B w v l) (hl : l ≠ []) (k : Nat) (hx : a.eval x = .int .i64 (k : Int)) (hb : l.length + k ≤ 1000000) (hbase : B ≤ w.heap.size)
  (h : ∀ v' w', OwnQ .u8 E B w' v' (l ++ List.replicate k 0) → (∀ w0, Below B w0 w → Below B w0 w') → wpList P ops Q rest (a.put o.dst v') w') : wpList P ops Q (o :: rest) a w := by
 obtain ⟨g, c, rfl⟩ := hown.succ hl
 have hcap := hown.cap
 rcases Nat.lt_or_ge c (l.length + k) with hgr | hroom
 ·have hold := run_firstCells_some (P := P) w.drew i.size l.length ⟨g, 0, .none⟩ l.length c (l.map (num .u8)) (by rw [hsize]; simp) (by
   intro j u hu
   have := hown.reads.news j u hu
   simpa using this)
  have hfit : Builtin.nextslicecap (l.length + k) c * i.bytes ≤ 281474976710656 := growslice_fits (by omega) (by rw [hby]; omega)
  have hrun := Lib.run_append_grow_zeros (P := P) w t tn o.type E i (.int .u8 0) .i64 .i64 ht htn hi hz (some ⟨g, 0, .none⟩) l.length c (l.map (num .u8)) hold k (by omega) (by omega) hgr (by omega) (by rw [hby]; omega) hfit
  have hge := grownCap_ge w (l.length + k) c E
  have hcm := grownCap_le_maxLen w (l.length + k) c E (by unfold maxLen; omega)
  refine wpList_plain hgd fun K hK' => ?_
  unfold Oper.wp
  simp only [execOp, ho, resolve, invoke, builtin, Sem.run_bind, Sem.run_pure, Result.andThen_ok, List.map_toArray, List.map_cons, List.map_nil, hs, hx, hrun]
  refine hK' _ _ (h _ _ ⟨by simp, .inr ⟨w.heap.size, _, _, ?_, hbase, heap_alloc_new w.drew _, ?_, hcm, ?_, ?_⟩⟩ (fun w0 hB => hB.drew.alloc (by simpa using hbase) _))
  ·simp
  ·simpa using hge
  ·simp only [Array.size_append, List.size_toArray, size_zeroCells, List.length_map]
   simp [Value.cells]
   omega
  ·rw [Array.toList_append, Array.toList_append, show (Value.int .u8 0).cells = #[Value.int .u8 0] from rfl, noughtCells]
   simp [num, List.take_append]
   exact List.take_of_length_le (by simp)
 ·rcases hown.2 with ⟨h1, _⟩ | ⟨g', cap', cur, h1, hbg, hg, hnc, hcm, hcs, htake⟩
  ·simp at h1
  ·simp only [Value.slice.injEq, Option.some.injEq, Addr.mk.injEq, and_true, true_and] at h1
   obtain ⟨rfl, rfl⟩ := h1
   have hrun := run_append_room_zeros (P := P) w t tn o.type E i (.int .u8 0) .i64 .i64 ht htn hi hz rfl rfl hsize hby g l.length c cur hg k hroom (by omega) (by omega)
   refine wpList_plain hgd fun K hK' => ?_
   unfold Oper.wp
   simp only [execOp, ho, resolve, invoke, builtin, Sem.run_bind, Sem.run_pure, Result.andThen_ok, List.map_toArray, List.map_cons, List.map_nil, hs, hx, hrun]
   have hgrow : w.grownBy (w.setRow g (cur.toList.take l.length ++ List.replicate k (Value.int .u8 0) ++ cur.toList.drop (l.length + k)).toArray) (some g) := ⟨rfl, rfl, rfl, by simp, fun k' _ hk => setRow_other w g k' _ (fun e => hk (by simp [e]))⟩
   refine hK' _ _ (h _ _ ⟨by simp, .inr ⟨g, c, _, by simp, hbg, setRow_heap w g cur _ E _ hg, by simpa using hroom, hcm, ?_, ?_⟩⟩ (fun w0 hB => hB.grown hgrow hbase (fun r e => by cases e; exact hbg)))
   ·simp
    omega
   ·have : cur.toList.take l.length = l.map (num .u8) := by simpa using htake
    rw [this]
    simp [num, List.take_append]
    exact List.take_of_length_le (by simp)
theorem wpList_make_room {P : Program} (q : IntKind) (w : World) {ops : Array Oper} {rest : List Oper} {o : Oper} {a : Act} {Q : Exit → Act → World → Prop}
  (hg : o.guard = none) (l c : Operand) (t : TypeId) (hop : o.op = Op.makeSlice t l c)
  (base : Nat) (e : TypeId) (i : TypeInfo) (h1 : P.underlying t = some (.slice e)) (h2 : P.info? e = some i) (h3 : i.zero = some (.int q 0)) (h4 : i.size = 1)
  (kl kc : IntKind) (L C : Int) (m n : Nat) (hl : a.eval l = .int kl L) (hc : a.eval c = .int kc C) (hL : L = (m : Int)) (hC : C = (n : Int)) (hmn : m ≤ n) (b2 : i.bytes * n ≤ 281474976710656) (b3 : n ≤ maxLen) (b4 : base ≤ w.heap.size)
  (hK : ∀ w', OwnQ q e base w' (.slice (some ⟨w.heap.size, 0, none⟩) m n) (List.replicate m 0) → w.grownBy w' none → wpList P ops Q rest (a.put o.dst (.slice (some ⟨w.heap.size, 0, none⟩) m n)) w') :
  wpList P ops Q (o :: rest) a w := by
 refine wpList_plain hg fun K hK' => ?_
 subst hL
 subst hC
 have h63' : (n : Int) ≤ 9223372036854775807 := by
  have h := b3
  simp [maxLen] at h
  omega
 have hb' : (i.bytes : Int) * (n : Int) ≤ 281474976710656 := by
  have h : ((i.bytes * n : Nat) : Int) ≤ 281474976710656 := by omega
  rwa [Int.natCast_mul] at h
 have hr := run_make (P := P) w t e i (.int q 0) h1 h2 h3 kl kc m n (by omega) (by omega) hb' h63'
 simp only [Int.toNat_natCast] at hr
 have hown : OwnQ q e base (w.alloc (.cells (madeCells (Value.int q 0).cells (n * i.size)) e)) (.slice (some ⟨w.heap.size, 0, none⟩) n n) (List.replicate n 0) := by
  rw [h4]
  exact OwnQ.made (World.ownsRow_lit w _ n b4 b3 (size_madeCells _ _)) rfl
 have hup := hown.upto m hmn
 rw [List.take_replicate, Nat.min_eq_left hmn] at hup
 unfold Oper.wp
 simp [execOp, hop, hl, hc, hr, Result.andThen]
 exact hK' _ _ (hK _ hup (World.grownBy_alloc w _ none))
theorem reads_four (q : IntKind) (w : World) (E : TypeId) (x0 x1 x2 x3 : Int) (c0 c1 c2 c3 : Nat) (h0 : x0 = c0) (h1 : x1 = c1) (h2 : x2 = c2) (h3 : x3 = c3) : Reads q (w.alloc (.cells #[.int q x0, .int q x1, .int q x2, .int q x3] E)) (some ⟨w.heap.size, 0, .none⟩) 4 4 [c0, c1, c2, c3] := by
 subst h0 h1 h2 h3
 have h : OwnQ q E 0 (w.alloc (.cells #[.int q c0, .int q c1, .int q c2, .int q c3] E)) (.slice (some ⟨w.heap.size, 0, .none⟩) 4 4) [c0, c1, c2, c3] := World.ownsRow_lit w #[.int q c0, .int q c1, .int q c2, .int q c3] 4 (Nat.zero_le _) (by unfold maxLen; omega) rfl
 exact h.reads
def lenB (T : Nat) (j : Nat) : List Nat := (List.range j).map fun i => T * 8 / 2 ^ (8 * (7 - i)) % 256
theorem lenB_succ (T j : Nat) : lenB T (j + 1) = lenB T j ++ [T * 8 / 2 ^ (8 * (7 - j)) % 256] := by
 unfold lenB
 rw [List.range_succ, List.map_append]
 rfl
theorem lenB_len (T j : Nat) : (lenB T j).length = j := by simp [lenB]
theorem lenB_lt (T j : Nat) : ∀ x ∈ lenB T j, x < 256 := fun x hx => by
 obtain ⟨i, -, rfl⟩ := List.mem_map.1 hx
 exact Nat.mod_lt _ (by decide)
def restN (m : List Nat) : List Nat := m.drop (64 * (m.length / 64)) ++ [128] ++ List.replicate ((119 - m.length % 64) % 64) 0 ++ lenB m.length 8
theorem restN_len (m : List Nat) : (restN m).length = 64 ∨ (restN m).length = 128 := by
 unfold restN
 simp only [List.length_append, List.length_drop, List.length_replicate, lenB_len, List.length_singleton]
 omega
theorem restN_lt {m : List Nat} (h : ∀ x ∈ m, x < 256) : ∀ x ∈ restN m, x < 256 := fun x hx => by
 unfold restN at hx
 simp only [List.mem_append, List.mem_singleton] at hx
 rcases hx with ((hx | rfl) | hx) | hx
 ·exact h x (List.mem_of_mem_drop hx)
 ·decide
 ·have := List.eq_of_mem_replicate hx
  omega
 ·exact lenB_lt _ _ x hx
def foldW (ws R : List Nat) : Nat → List Nat
 | 0 => ws
 | j + 1 => turnN (foldW ws R j) ((R.drop (64 * j)).take 64)
def sumW (bt : Nat) (m : List Nat) : List Nat := foldW (wsK bt m (m.length / 64)) (restN m) ((restN m).length / 64)
def wordB (x : Nat) : List Nat := [x / 16777216 % 256, x / 65536 % 256, x / 256 % 256, x % 256]
def bytesW (ws : List Nat) (j : Nat) : List Nat := (List.range j).flatMap fun i => wordB (g0 ws i)
theorem bytesW_succ (ws : List Nat) (j : Nat) : bytesW ws (j + 1) = bytesW ws j ++ wordB (g0 ws j) := by
 unfold bytesW
 rw [List.range_succ, List.flatMap_append]
 simp
theorem bytesW_len (ws : List Nat) : ∀ j, (bytesW ws j).length = 4 * j
 | 0 => rfl
 | j + 1 => by rw [bytesW_succ, List.length_append, bytesW_len ws j]; simp [wordB]; omega
theorem bytesW_lt (ws : List Nat) (j : Nat) : ∀ x ∈ bytesW ws j, x < 256 := fun x hx => by
 unfold bytesW at hx
 obtain ⟨i, -, hx⟩ := List.mem_flatMap.1 hx
 unfold wordB at hx
 simp only [List.mem_cons, List.not_mem_nil, or_false] at hx
 rcases hx with rfl | rfl | rfl | rfl <;> exact Nat.mod_lt _ (by decide)
def hashN (bt : Nat) (m : List Nat) : List Nat := (bytesW (sumW bt m) 8).take (bt / 8)
theorem hashN_lt (bt : Nat) (m : List Nat) : ∀ x ∈ hashN bt m, x < 256 := fun x hx => bytesW_lt _ _ x (List.mem_of_mem_take hx)
theorem hashN_len {bt : Nat} (m : List Nat) (h : bt = 224 ∨ bt = 256) : (hashN bt m).length = bt / 8 := by
 unfold hashN
 rw [List.length_take, bytesW_len]
 omega
end Go.Proofs.YtpefjkndfifceaaGreatDoor
namespace Go.Proofs.YtpefjkndfifceaaGreatDoor
open Go.RowKit Go.Shelf
set_option maxRecDepth 100000
attribute [local go_sem] Oper.semAt_some
theorem slice_used (g us : Nat) (h : us < 64) (W : World) : (Instr.sliceAt 169 (.pointer (some ⟨g, 9, none⟩)) none (some (.int .i64 (us : Int))) (some (.int .i64 (us : Int)))).run Tryz.prog W = .ok (.slice (some ⟨g, 9, none⟩) us us) W := by
 have hl : Tryz.prog.arrayLen 169 = 64 := by kernel_rfl
 have hs : ∀ w, (sizeOf (Tryz.prog.elem 169)).run Tryz.prog w = .ok 1 w := fun _ => by kernel_rfl
 rw [run_sliceAt_array_hm W 169 ⟨g, 9, none⟩ (by kernel_rfl) .i64 .i64 (us : Int) (us : Int) (by omega) (by omega) (by rw [hl]; omega), hs]
 show Result.ok (slicedAt ⟨g, 9, none⟩ 0 (us : Int).toNat (us : Int).toNat 1) W = _
 unfold slicedAt
 rw [Int.toNat_natCast]
 simp [Addr.add]
theorem owned_nums {q : IntKind} {E B n : Nat} {w : World} {v : Value} {l : List Nat} (h : w.ownsRow B E 1 v n (l.map (num q))) : OwnQ q E B w v l := by
 have := h.1
 rw [List.length_map, Nat.mul_one] at this
 subst this
 exact h
def ShI (w : World) (f bt b0 N T : Nat) (tail ws R : List Nat) (pre : List (Nat × Nat)) (W : World) : Prop := ∃ wz, Boxed W b0 139 (.pointer (some ⟨f, 0, none⟩)) ∧ StateAt W f bt wz tail T ∧ (pre = pcs N 64 pre.length → wz = foldW ws R pre.length) ∧ w.grownBy W (some f) ∧ b0 + 3 ≤ W.heap.size
theorem ShI.stays {w X X' : World} {f bt b0 N T : Nat} {tail ws R : List Nat} {pre : List (Nat × Nat)} {row : Option Nat} (h : ShI w f bt b0 N T tail ws R pre X) (hg : X.grownBy X' row) (hr : ∀ r, row = some r → w.heap.size ≤ r ∧ r ≠ b0 ∧ r ≠ f) : ShI w f bt b0 N T tail ws R pre X' := by
 obtain ⟨wz, h1, h4, h5, h6, h7⟩ := h
 exact ⟨wz, h1.kept hg (fun e => (hr _ e.symm).2.1 rfl), h4.block (hg.block f h4.lt (fun e => (hr _ e.symm).2.2 rfl)), h5, grown_past h6 hg (fun r e => (hr r e).1), Nat.le_trans h7 hg.size⟩
theorem stP_64 {N : Nat} (hN : N = 64 ∨ N = 128) : ∀ j, stP N 64 j < N → stP N 64 j = 64 * j ∧ stP N 64 (j + 1) - stP N 64 j = 64
 | 0, _ => by show 0 = 64 * 0 ∧ min N (64 + 64 * 0) - 0 = 64; omega
 | j + 1, h => by simp only [stP] at h ⊢; omega
theorem stP_end {N : Nat} (hN : N = 64 ∨ N = 128) : ∀ j, stP N 64 j = N → (∀ i, i < j → stP N 64 i < N) → j = N / 64
 | 0, h, _ => by change 0 = N at h; omega
 | j + 1, h, hh => by
  have := hh j (by omega)
  have := (stP_64 hN j this).1
  simp only [stP] at h
  omega
theorem infoB : (Tryz.prog.info? 5).map (fun i => (i.zero, i.size, i.bytes)) = some (some (.int .u8 0), 1, 1) := by kernel_rfl
set_option maxRecDepth 100000 in
set_option maxHeartbeats 4000000 in
theorem sum_any (g bt : Nat) (m : List Nat) (w : World) (h : StateOf w g bt m) (hbt : bt = 224 ∨ bt = 256) :
  Calls Tryz.prog 119 #[.pointer (some ⟨g, 0, none⟩)] w fun e w' => (∃ a, e = .returned (.slice (some a) (bt / 8) (bt / 8)) ∧ Reads .u8 w' (some a) (bt / 8) (bt / 8) (hashN bt m) ∧ w.heap.size ≤ a.block) ∧ Below w.heap.size w w' := by
 obtain ⟨ws, tail, hst, hfin, hmb, hm0⟩ := h
 have HM0 := zH hm0
 have HF := zH hfin
 have hgw := zH hst.lt
 have hbt0 : bt ≠ 0 := by omega
 have HBT := zH hbt
 have HRES := zH (show Tryz.f119.results = #[.tmp 2] by kernel_rfl)
 obtain ⟨T, hT⟩ : ∃ T, T = m.length := ⟨_, rfl⟩
 rw [← hT] at hst hmb
 have HT := zH hT
 clear hm0 hfin hbt hT
 obtain ⟨us, hus⟩ : ∃ x, x = T % 64 := ⟨_, rfl⟩
 have hatc : (T : Int) % 64 = (us : Int) := by omega
 have hus64 : us < 64 := by omega
 obtain ⟨k, hk⟩ : ∃ k, k = (119 - us) % 64 := ⟨_, rfl⟩
 have hkc : Int.tmod (119 - (us : Int)) 64 = (k : Int) := by
  rw [Int.tmod_eq_emod_of_nonneg (by omega)]
  omega
 have cT := hst.taken
 have HST := zH hst
 have hsl := slice_used g us hus64
 have HUS := zH hus
 have HK := zH hk
 clear hus hk
 have htl := hst.tail.upto us (by omega)
 have HTL := zH htl
 refine (callsIn_wide (n := 3)).1 ?_
 refine callsIn_of_wp_marks Tryz.func119 rfl trivial ?_ rfl
 simp only [Tryz.ntmps119, List.size_toArray, List.length_cons, List.length_nil, Nat.reduceAdd, Nat.reduceSub, Array.replicate_succ, Array.replicate_zero, List.push_toArray, List.append_toArray, List.nil_append, List.cons_append]
 refine wpIn_wide.2 ?_
 go_wp2_with fail
 refine (made_yes g bt ws tail T w hst hbt0).mono ?_
 rintro e w1 ⟨rfl, rfl⟩
 clear hst htl
 obtain ⟨i0, hi, hz0, hz1, hz2⟩ := info_parts infoB
 have hpl : (tail.take us).length = us := HTL.out.length
 obtain ⟨p, hp⟩ : ∃ p, p = tail.take us := ⟨_, rfl⟩
 rw [← hp] at hpl HTL
 have HP := zH hp
 have HPL := zH hpl
 clear hp hpl
 go_wp2_with (at_builtin; first
  | (refine wpList_append_grows _ rfl _ _ 22 rfl 5 i0 (.int .u8 0) 1 1 Tryz.underlying22 hi hz0 hz1 hz2 rfl (by decide) (some ⟨g, 9, none⟩) us us (p.map (num .u8)) rfl (fun e => by cases e) (by rw [List.length_map, HPL.out, Nat.mul_one]) (fun b e j u hu => by cases e; exact (HTL.out.below ((Below.refl _ _).alloc (Nat.le_refl _) _)).news j u hu) _ 1 1 [.int .u8 128] rfl rfl (Reads.one .u8 w _ 128 128 rfl).news (fun u hu => by simp at hu; rw [hu]; rfl) (by omega) (by unfold maxLen; omega) (by omega) ?_; intro v1 w1 hown1 hgrow1; have HO1 := zH (owned_nums (l := p ++ [128]) (by rw [List.map_append]; exact hown1)); have HB1 := zH (((Below.refl w.heap.size w).alloc (Nat.le_refl _) (.cells #[.int .u8 128] 5)).grown hgrow1 (by simp) (fun r e => by cases e)); clear hown1 hgrow1)
  | (refine wpList_append_noughts _ rfl _ _ 22 3 rfl w.heap.size 5 i0 Tryz.underlying22 Tryz.underlying3 hi hz0 hz1 hz2 _ (p ++ [128]) rfl (HO1.out.mono (by simp)) (by simp) k rfl (by have := HPL.out; have := HK.out; simp; omega) HB1.out.size ?_; intro v2 w2 hown2 hgrow2; have HO2 := zH hown2; have HB2 := zH (hgrow2 _ HB1.out); clear hown2 hgrow2))
 obtain ⟨R0, hR0⟩ : ∃ R, R = p ++ [128] ++ List.replicate k 0 := ⟨_, rfl⟩
 rw [← hR0] at HO2
 have hRl : R0.length ≤ 120 := by
  have := HPL.out
  have := HK.out
  rw [hR0]
  simp
  omega
 have HR0 := zH hR0
 clear hR0
 go_loopw [36, 5] (fun iv sv wq => ∃ j : Nat, iv = .int .i64 (j : Int) ∧ j ≤ 8 ∧ Hid (OwnQ .u8 5 w.heap.size wq sv (R0 ++ lenB T j) ∧ Below w.heap.size w wq)) (fun iv _ _ => 8 - (intOf iv).toNat)
 case atStart => exact ⟨0, rfl, by decide, by rw [show lenB T 0 = [] from rfl, List.append_nil]; exact HO2.out, HB2.out⟩
 case round =>
  obtain ⟨j, rfl, hj, hI⟩ := hrel
  obtain ⟨ho, hb⟩ := hI.out
  have HO := zH ho
  have HB := zH hb
  clear ho hb
  have cT3 := (HST.out.below HB.out hgw.out).taken
  by_cases hlt : j < 8
  ·go_wp2_with (at_builtin; refine wpList_append_q .u8 _ rfl _ _ 22 rfl w.heap.size 5 1 i0 Tryz.underlying22 hi hz0 hz1 hz2 (by decide) _ (R0 ++ lenB T j) rfl (HO.out.alloc _) _ _ _ [T * 8 / 2 ^ (8 * (7 - j)) % 256] rfl (Reads.one .u8 _ _ _ _ (by push_cast; rfl)) (by simp [lenB_len]; omega) (by have := HB.out.size; simp; omega) ?_; intro v' w3 hown3 hgrow3)
   go_roundw
   case rel => exact ⟨j + 1, by go_num, by omega, by rw [lenB_succ, ← List.append_assoc]; exact hown3, hgrow3 _ (HB.out.alloc HB.out.size _)⟩
   case measure => simp [intOf] <;> omega
  ·obtain rfl : j = 8 := by omega
   have HS := zH (HST.out.below HB.out hgw.out)
   have hR : R0 ++ lenB T 8 = restN m := by
    unfold restN
    rw [← HT.out, HR0.out, HP.out, HUS.out, HK.out, HUS.out]
    have := HF.out.2
    rw [← HT.out] at this
    rw [this]
   rw [hR] at HO
   obtain ⟨g1, c1, hv⟩ := HO.out.succ (by intro e; have := restN_len m; rw [e] at this; simp at this)
   obtain ⟨N, hN⟩ : ∃ N, N = (restN m).length := ⟨_, rfl⟩
   rw [← hN] at hv
   subst hv
   have HN := zH hN
   have hN2 : N = 64 ∨ N = 128 := by rw [hN]; exact restN_len m
   clear hN hR
   go_wp2_with fail
   refine (copy_any g bt ws tail T wr HS.out hbt0).mono ?_
   rintro e w3 ⟨rfl, rfl⟩
   have hs3 := zH (show StateAt (wr.alloc (.cells (stL bt ws tail T).toArray 171)) wr.heap.size bt ws tail T from ⟨Go.heap_alloc_new wr _, HST.out.wlen, HST.out.tlen, HST.out.wlt, HST.out.tlt⟩)
   have hb3 := zH (HB.out.alloc HB.out.size (.cells (stL bt ws tail T).toArray 171))
   have ho3 := zH (HO.out.alloc (.cells (stL bt ws tail T).toArray 171))
   have hz3 := (Array.getElem?_eq_some_iff.1 (Go.heap_alloc_new wr (.cells (stL bt ws tail T).toArray 171))).1
   obtain ⟨f, hf⟩ : ∃ f, f = wr.heap.size := ⟨_, rfl⟩
   rw [← hf] at hs3 hz3 ⊢
   have hfw : w.heap.size ≤ f := by rw [hf]; exact HB.out.size
   have hgf : Hid (g1 ≠ f) := by
    have := (HO.out.lt g1 rfl).2
    show g1 ≠ f
    omega
   generalize wr.alloc (.cells (stL bt ws tail T).toArray 171) = w3 at *
   clear HO HB HS hI hf
   go_wp2_with fail
   have bF := Boxed.new w3 139 (.pointer (some ⟨f, 0, none⟩))
   have hs4 := hs3.out.below ((Below.refl _ _).alloc (Nat.le_refl _) (.cells #[.pointer (some ⟨f, 0, none⟩)] 139)) hz3
   have hb4 := hb3.out.alloc hb3.out.size (.cells #[.pointer (some ⟨f, 0, none⟩)] 139)
   have ho4 := ho3.out.alloc (.cells #[.pointer (some ⟨f, 0, none⟩)] 139)
   have hz4 := zH (show (w3.alloc (.cells #[.pointer (some ⟨f, 0, none⟩)] 139)).heap.size = w3.heap.size + 1 by simp)
   have hg4 := grown_below ((Below.refl w3.heap.size w3).alloc (Nat.le_refl _) (.cells #[.pointer (some ⟨f, 0, none⟩)] 139)) (some f)
   generalize w3.alloc (.cells #[.pointer (some ⟨f, 0, none⟩)] 139) = w4 at *
   refine (pieces_any _ _ _ _ _).mono ?_
   rintro e w5 ⟨rfl, rfl⟩
   go_wp2_with fail
   refine (wpIn_wide (n := 3)).1 ?_
   have bF5 := (bF.alloc (.cells #[.slice (some ⟨g1, 0, none⟩) N c1] 22)).alloc (.cells #[.int .i64 64] 3)
   have bB5 := (Boxed.new w4 22 (.slice (some ⟨g1, 0, none⟩) N c1)).alloc (.cells #[.int .i64 64] 3)
   have bR5 := Boxed.new (w4.alloc (.cells #[.slice (some ⟨g1, 0, none⟩) N c1] 22)) 3 (.int .i64 64)
   rw [World.size_alloc] at bR5
   have hb5 := ((Below.refl w4.heap.size w4).alloc (Nat.le_refl _) (.cells #[.slice (some ⟨g1, 0, none⟩) N c1] 22)).alloc (by simp) (.cells #[.int .i64 64] 3)
   have hs5 := hs4.below hb5 hs4.lt
   have hg5 := zH (grown_trans hg4 (grown_below hb5 (some f)))
   have hz5 := zH (show ((w4.alloc (.cells #[.slice (some ⟨g1, 0, none⟩) N c1] 22)).alloc (.cells #[.int .i64 64] 3)).heap.size = w4.heap.size + 2 by simp)
   generalize (w4.alloc (.cells #[.slice (some ⟨g1, 0, none⟩) N c1] 22)).alloc (.cells #[.int .i64 64] 3) = W0 at *
   obtain ⟨b0, hb0⟩ : ∃ b, b = w3.heap.size := ⟨_, rfl⟩
   obtain ⟨bb, hbb⟩ : ∃ b, b = w4.heap.size := ⟨_, rfl⟩
   rw [← hb0] at bF5 ⊢
   rw [← hbb] at bB5 bR5 ⊢
   have hord : Hid (b0 = w3.heap.size ∧ f < b0 ∧ bb = b0 + 1 ∧ W0.heap.size = b0 + 3 ∧ w.heap.size ≤ f) := ⟨hb0, by omega, by have := hz4.out; omega, by have := hz4.out; have := hz5.out; omega, hfw⟩
   have hrd := zH ho3.out.reads
   have hcm := hrd.out.max
   have hnc := hrd.out.le
   clear hb0 hbb hz5 hz4 hs4 hb5 hg4 bF
   refine wpIn_rangeR (F := Fence.wide) (R := fun k => k = bb ∨ k = bb + 1) rfl (show 1 ≤ 3 by decide) (gf := 186) (lb := #[.pointer (some ⟨bb, 0, none⟩), .pointer (some ⟨bb + 1, 0, none⟩)]) rfl trivial (enters_of Tryz.func186 (by kernel_rfl) rfl)
    (pieces_come (3 - 1) (by decide) (fun p => p.1 + p.2 ≤ N ∧ p.2 = 64) bb (bb + 1) g1 0 N c1 64 _ W0 bB5 bR5 (by omega) (fun _ => rfl) hnc hcm (by decide) (by decide) (fun j hj => by have := stP_le N 64 (j + 1); have := stP_64 hN2 j hj; simp only; omega)) (fun k hk => by have := hord.out; rcases hk with rfl | rfl <;> omega) (Below.refl _ _) (fun _ => rfl)
    (fun pre W => ShI w3 f bt b0 N T tail ws (restN m) (pre.map (·.1)) W)
    (fun _ _ _ => False)
    ?_ ?_ ⟨ws, bF5, hs5, fun _ => rfl, hg5.out, by have := hord.out; omega⟩ ?_ ?_ ?_ ?_ ?_
   rotate_left 3
   ·intro lp x W K hK
    gi_wp2
    exact hK
   ·rintro lp pre ⟨⟨s, l⟩, hC⟩ W ⟨wz, hbF, hst, hsem, hgr, hWz⟩
    obtain ⟨hC1, hC2⟩ : s + l ≤ N ∧ l = 64 := hC
    subst hC2
    have hrp0 := piece_reads (hrd.out.grownNe hgr (fun _ ad e h => hgf.out (by cases e; cases h; rfl))) (fun _ => rfl) s 64 hC1
    rw [Nat.zero_add] at hrp0
    have hrp := hrp0
    clear hrp0
    have hpb : ∀ x ∈ ((restN m).drop s).take 64, x < 256 := fun x hx => restN_lt HM0.out x (List.mem_of_mem_drop (List.mem_of_mem_take hx))
    have cF := hbF.cell
    have HSTz := zH hst
    have HRP := zH hrp
    have HPB := zH hpb
    have HSEM := zH hsem
    have HGR := zH hgr
    have HBF := zH hbF
    clear hst hrp hpb hsem hgr hbF
    gi_wp2_with fail
    refine ⟨trivial, ?_⟩
    refine (CallsIn.inRound lp (callsIn_wide.2 (turn_any f bt wz tail T _ _ _ W HSTz.out HRP.out HPB.out))).mono ?_
    rintro e w7 ⟨rfl, hst7, hg7⟩
    have HST7 := zH hst7
    have HG7 := zH hg7
    clear hst7 hg7
    gi_wp2_with fail
    have hg7 : W.grownBy w7 (some f) := ⟨HG7.out.os, HG7.out.tape, HG7.out.output, HG7.out.size, HG7.out.block⟩
    have hKO := keeps_state HSTz.out hg7
    refine ⟨hKO.from _, ?_, turnN wz (((restN m).drop s).take 64), HBF.out.kept hg7 (fun e => by have := hord.out; cases e; omega), HST7.out, ?_, grown_trans HGR.out hg7, Nat.le_trans hWz hg7.size⟩
    ·exact KpR.grown hg7 (fun k hk => by have := hord.out; rcases hk with rfl | rfl <;> omega) (fun r e hk => by have := hord.out; cases e; rcases hk with h | h <;> omega)
    ·intro he
     rw [List.map_append] at he ⊢
     obtain ⟨h1, h2⟩ := sem_split he
     have h3 := HSEM.out h1
     have h4 : s = stP N 64 (pre.map (·.1)).length := by have := congrArg Prod.fst h2; exact this
     have h5 := stP_64 hN2 (pre.map (·.1)).length (by rw [← h4]; omega)
     have e1 : ((pre.map (·.1)) ++ [((s, 64) : Nat × Nat)]).length = (pre.map (·.1)).length + 1 := by simp
     show turnN wz _ = foldW ws (restN m) ((pre.map (·.1)) ++ [((s, 64) : Nat × Nat)]).length
     rw [e1]
     show turnN wz _ = turnN (foldW ws (restN m) (pre.map (·.1)).length) (((restN m).drop (64 * (pre.map (·.1)).length)).take 64)
     rw [h3, h4, h5.1]
   ·rintro D xs W hD ⟨mm, hmap, hst9⟩ ⟨wz, hbF, hst, hsem, hgr, hWz⟩ hK
    have hwz := hsem (by rw [hmap, pcs_len])
    rw [hmap, pcs_len] at hwz
    have hmm : mm = N / 64 := stP_end hN2 mm hst9 (fun i hi => by
     have h1 : (stP N 64 i, stP N 64 (i + 1) - stP N 64 i) ∈ xs.map (·.1) := by
      rw [hmap]
      exact List.mem_map.2 ⟨i, List.mem_range.2 hi, rfl⟩
     obtain ⟨x, -, hx⟩ := List.mem_map.1 h1
     have h2 := x.2.2
     rw [hx] at h2
     have h3 := stP_le N 64 (i + 1)
     simp only at h2
     omega)
    rw [hmm, HN.out] at hwz
    have hwz2 : wz = sumW bt m := by
     rw [hwz]
     unfold sumW
     rw [HF.out.1]
    subst hwz2
    have HGR := zH hgr
    have HST9 := zH hst
    have cF := hbF.cell
    have HBF := zH hbF
    have HK := zH hK
    have HD := zH hD
    clear hsem hgr hst hbF hK hmap hwz hst9 hmm
    have hfW := HST9.out.lt
    have hbW := hord.out
    have HBW := zH (hb3.out.grown HGR.out hb3.out.size (fun r e => by cases e; exact hbW.2.2.2.2))
    have hDW := zH (Array.getElem?_eq_some_iff.1 HK.out).1
    clear hbW
    go_wp2_with (at_make; refine wpList_make_room .u8 _ rfl _ _ 22 rfl W.heap.size 5 i0 Tryz.underlying22 hi hz0 hz1 _ _ _ _ 0 32 rfl rfl rfl rfl (by decide) (by rw [hz2]; decide) (by unfold maxLen; omega) (Nat.le_refl _) ?_; intro w8 hown8 hgrow8; have HO8 := zH hown8; have HG8 := zH hgrow8; have cF8 := (HBF.out.kept hgrow8 (fun e => by cases e)).cell; have hst8 := HST9.out.block (hgrow8.block f hfW (fun e => by cases e)); have HST8 := zH hst8; have c0 := hst8.word 0 (by decide); have c1' := hst8.word 1 (by decide); have c2 := hst8.word 2 (by decide); have c3 := hst8.word 3 (by decide); have c4 := hst8.word 4 (by decide); have c5 := hst8.word 5 (by decide); have c6 := hst8.word 6 (by decide); have c7 := hst8.word 7 (by decide); simp only [Nat.reduceAdd] at c0 c1' c2 c3 c4 c5 c6 c7; clear hown8 hgrow8 hst8 cF)
    rw [arrC_eight (sumW bt m) HST8.out.wlen]
    have hzl := zH HST8.out.wlen
    have hzb := zH HST8.out.wlt
    obtain ⟨z, hz⟩ : ∃ z, z = sumW bt m := ⟨_, rfl⟩
    rw [← hz] at hzl hzb ⊢
    have HZ := zH hz
    clear hz c0 c1' c2 c3 c4 c5 c6 c7
    have HB8 := zH ((Below.refl W.heap.size W).grown HG8.out (Nat.le_refl _) (fun r e => by cases e))
    go_loopw [66, 9] (fun iv sv wq => ∃ j : Nat, iv = .int .i64 (j : Int) ∧ j ≤ 8 ∧ Hid (OwnQ .u8 5 W.heap.size wq sv (bytesW z j) ∧ Below W.heap.size W wq)) (fun iv _ _ => 8 - (intOf iv).toNat)
    case atStart => exact ⟨0, rfl, by decide, HO8.out, HB8.out⟩
    case round =>
     obtain ⟨j, rfl, hj, hI⟩ := hrel
     obtain ⟨ho, hb⟩ := hI.out
     have HO := zH ho
     have HB := zH hb
     clear ho hb hI
     by_cases hlt : j < 8
     ·have ix := idx8 z j hlt hzl.out
      have lx : g0 z j < 4294967296 := g0_lt hzb.out (by decide) j
      have hbl := bytesW_len z j
      have HBL := zH hbl
      clear hbl
      have hbs := zH (bytesW_succ z j)
      unfold g0 at lx hbs
      generalize z[j]?.getD 0 = x at *
      go_wp2_with (at_builtin; refine wpList_append_q .u8 _ rfl _ _ 22 rfl W.heap.size 5 1 i0 Tryz.underlying22 hi hz0 hz1 hz2 (by decide) _ (bytesW z j) rfl (HO.out.alloc _) _ _ _ (wordB x) rfl (reads_four .u8 _ _ _ _ _ _ _ _ _ _ (by omega) (by omega) (by omega) (by omega)) (by have := HBL.out; omega) (by have := HB.out.size; simp; omega) ?_; intro v' w9 hown9 hgrow9)
      go_roundw
      case rel => exact ⟨j + 1, by go_num, by omega, by rw [hbs.out]; exact hown9, hgrow9 _ (HB.out.alloc HB.out.size _)⟩
      case measure => simp [intOf] <;> omega
     ·obtain rfl : j = 8 := by omega
      have hBw := HBW.out.trans (HB.out.mono HBW.out.size)
      have cB := (HST.out.below hBw hgw.out).bits
      obtain ⟨h1, cc, hv⟩ := HO.out.succ (by intro e; have := bytesW_len z 8; rw [e] at this; simp at this)
      rw [bytesW_len] at hv
      subst hv
      obtain ⟨-, hcap, hcm8⟩ := HO.out.cap
      unfold maxLen at hcm8
      obtain ⟨q, hq⟩ : ∃ q, q = bt / 8 := ⟨_, rfl⟩
      have hq1 : Int.tdiv (bt : Int) 8 = (q : Int) := by
       rw [Int.tdiv_eq_ediv_of_nonneg (by omega)]
       omega
      have hq2 : q ≤ 32 ∧ 1 ≤ q := by have := HBT.out; omega
      have HQ := zH hq
      clear hq
      go_wp2
      have hKr := (HB.out.block D hDW.out).trans HK.out
      refine ⟨by simp, .inl ⟨_, _, rfl, run_takeDeferred hKr, ?_⟩⟩
      have hgr := grownBy_putObj' wr D (.deferred none)
      have hh1 := HO.out.lt h1 rfl
      have hrd1 := HO.out.reads.upto q (by omega)
      have hrd2 : Reads .u8 wr (some ⟨h1, 0, none⟩) q q ((bytesW z 8).take q) := ⟨hrd1.length, Nat.le_refl _, by unfold maxLen; omega, (fun e => by cases e), hrd1.cells⟩
      have hrd3 := hrd2.grownNe hgr (fun _ ad e h => by have h' : h1 = D := (by cases e; exact Option.some.inj h); have := hDW.out; have := hh1.1; omega)
      have hor := hord.out
      have hDD := HD.out
      refine ⟨_, results_tmp HRES.out _ _ _, ⟨⟨h1, 0, none⟩, by rw [← HQ.out]; rfl, ?_, ?_⟩, hBw.grown hgr hBw.size (fun r e => by cases e; omega)⟩
      ·rw [← HQ.out]
       unfold hashN
       rw [← HZ.out, ← HQ.out]
       exact hrd3
      ·have := HBW.out.size
       show w.heap.size ≤ h1
       omega
   ·rintro D cc pre W hD hSp h
    exact h.elim
   ·exact fun s X X' row h hg hr => h.stays hg (fun r e => by
     have h2 := hord.out
     rcases hr r e with h3 | ⟨h3, -⟩
     ·rcases h3 with rfl | rfl <;> omega
     ·omega)
   ·exact fun cc s X X' row h hg hr => h
end Go.Proofs.YtpefjkndfifceaaGreatDoor
namespace Go.Proofs.YtpefjkndfifceaaGreatDoor
open Go.RowKit Go.Shelf
def eqL : List Nat → List Nat → Bool
 | [], [] => true
 | x :: l, y :: m => Nat.beq x y && eqL l m
 | _, _ => false
end Go.Proofs.YtpefjkndfifceaaGreatDoor
namespace Go.Proofs.YtpefjkndfifceaaGreatDoor
open Go.RowKit Go.Shelf
set_option maxRecDepth 100000
theorem convB {w : World} {a : Option Addr} {len cap : Nat} {l : List UInt8} (h : Bts w a len cap l) :
  (convert 22 9 (.slice a len cap)).run Tryz.prog w = .ok (.string (strOf l)) w :=
 h.convert (P := Tryz.prog) _ _ _ Tryz.underlying22 Tryz.underlying5 Tryz.underlying9
def signN (n : Nat) : Nat := if n < 10 then 48 + n else 87 + n
def signC (n : Nat) : UInt8 := UInt8.ofNat (signN n)
def hexL (l : List UInt8) : List UInt8 := l.flatMap fun c => [signC (c.toNat / 16), signC (c.toNat % 16)]
end Go.Proofs.YtpefjkndfifceaaGreatDoor
namespace Go.Proofs.YtpefjkndfifceaaGreatDoor
open Go.RowKit Go.Shelf
set_option maxRecDepth 100000
end Go.Proofs.YtpefjkndfifceaaGreatDoor
namespace Go.Proofs.YtpefjkndfifceaaGreatDoor.L5
open Go.RowKit
def rotr (x a : Nat) : Nat := x * 2 ^ (64 - a) % 18446744073709551616 ||| x / 2 ^ a
theorem rotr_lt {x a : Nat} (h : x < 18446744073709551616) : rotr x a < 18446744073709551616 := Nat.or_lt_two_pow (n := 64) (Nat.mod_lt _ (by decide)) (Nat.lt_of_le_of_lt (Nat.div_le_self _ _) h)
def laidN (x a b c : Nat) : Nat := rotr x a ^^^ rotr x b ^^^ rotr x c
theorem laidN_lt {x a b c : Nat} (h : x < 18446744073709551616) : laidN x a b c < 18446744073709551616 := Nat.xor_lt_two_pow (n := 64) (Nat.xor_lt_two_pow (n := 64) (rotr_lt h) (rotr_lt h)) (rotr_lt h)
end Go.Proofs.YtpefjkndfifceaaGreatDoor.L5
namespace Go.Proofs.YtpefjkndfifceaaGreatDoor.L5
open Go.RowKit
theorem wrap_neg (a : Nat) (h1 : 1 ≤ a) (h2 : a < 64) (s : Nat) (hs : s = 64 - a) : bits BinOp.and IntKind.u64 (IntKind.u64.wrap (-(a : Int))) 63 = (s : Int) := by
 have e : IntKind.u64.wrap (-(a : Int)) = ((18446744073709551616 - a : Nat) : Int) := by
  simp only [IntKind.wrap, IntKind.bits, IntKind.signed]
  simp
  omega
 rw [e, show (63 : Int) = ((63 : Nat) : Int) from rfl, u64_and_nat _ _ (by omega) (by decide), show (63 : Nat) = 2 ^ 6 - 1 from rfl, Nat.and_two_pow_sub_one_eq_mod]
 omega
theorem rot_cast (x s : Nat) (hx : x < 18446744073709551616) (hs : s < 64) : bits BinOp.or IntKind.u64 (IntKind.u64.wrap ((x : Int) * 2 ^ s)) ((x : Int) / 2 ^ (64 - s)) = ((x * 2 ^ s % 18446744073709551616 ||| x / 2 ^ (64 - s) : Nat) : Int) := by
 have e1 : IntKind.u64.wrap ((x : Int) * 2 ^ s) = ((x * 2 ^ s % 18446744073709551616 : Nat) : Int) := by
  have e0 : IntKind.u64.wrap ((x : Int) * 2 ^ s) = (x : Int) * 2 ^ s % 18446744073709551616 := by simp [IntKind.wrap, IntKind.bits, IntKind.signed]
  rw [e0, Int.natCast_emod, Int.natCast_mul, Int.natCast_pow]; rfl
 have e2 : (x : Int) / 2 ^ (64 - s) = ((x / 2 ^ (64 - s) : Nat) : Int) := by rw [Int.natCast_ediv, Int.natCast_pow]; rfl
 rw [e1, e2, u64_or_nat _ _ (Nat.mod_lt _ (by decide)) (Nat.lt_of_le_of_lt (Nat.div_le_self _ _) hx)]
set_option maxHeartbeats 1000000 in
theorem rot_any (x a : Nat) (k : Int) (w : World) (hk : k = -(a : Int)) (h1 : 1 ≤ a) (h2 : a < 64) (hx : x < 18446744073709551616) (r : Nat) (hr : r = rotr x a) :
  Calls Tryz.prog 207 #[.int .u64 (x : Int), .int .i64 k] w fun e w' => e = .returned (.int .u64 (r : Int)) ∧ w = w' := by
 subst hk
 obtain ⟨s, hs⟩ : ∃ s, s = 64 - a := ⟨_, rfl⟩
 have hw := wrap_neg a h1 h2 s hs
 have hsb : s < 64 := by omega
 have hsb2 : 1 ≤ s := by omega
 have HS := zH (show 64 - s = a by omega)
 have HR := zH hr
 clear hs hr
 go_enter Tryz.func207, Tryz.ntmps207
 go_wp2
 go_ret
 exact ⟨by rw [rot_cast x s hx hsb, HS.out, HR.out]; unfold rotr; rw [show 64 - a = s by have := HS.out; omega]; rfl, rfl⟩
set_option maxHeartbeats 1000000 in
theorem laid_any (x a b c : Nat) (ka kb kc : Int) (w : World) (ha : ka = a) (hb : kb = b) (hc : kc = c) (h1 : 1 ≤ a ∧ a < 64) (h2 : 1 ≤ b ∧ b < 64) (h3 : 1 ≤ c ∧ c < 64) (hx : x < 18446744073709551616) (r : Nat) (hr : r = laidN x a b c) :
  Calls Tryz.prog 190 #[.int .u64 (x : Int), .int .i64 ka, .int .i64 kb, .int .i64 kc] w fun e w' => e = .returned (.int .u64 (r : Int)) ∧ w = w' := by
 subst ha hb hc
 obtain ⟨p, hp⟩ : ∃ p, p = rotr x a := ⟨_, rfl⟩
 obtain ⟨q, hq⟩ : ∃ q, q = rotr x b := ⟨_, rfl⟩
 obtain ⟨o, ho⟩ : ∃ o, o = rotr x c := ⟨_, rfl⟩
 have hp2 : p < 18446744073709551616 := hp ▸ rotr_lt hx
 have hq2 : q < 18446744073709551616 := hq ▸ rotr_lt hx
 have ho2 : o < 18446744073709551616 := ho ▸ rotr_lt hx
 have hpq : p ^^^ q < 18446744073709551616 := Nat.xor_lt_two_pow (n := 64) hp2 hq2
 obtain ⟨m, hm⟩ : ∃ m, m = p ^^^ q := ⟨_, rfl⟩
 rw [← hm] at hpq
 have HR := zH (show r = m ^^^ o by rw [hr, hm, hp, hq, ho]; rfl)
 have HP := zH hp
 have HQ := zH hq
 have HO := zH ho
 have hx1 : bits BinOp.xor IntKind.u64 (p : Int) (q : Int) = (m : Int) := by rw [u64_xor_nat _ _ hp2 hq2, hm]
 have hx2 : bits BinOp.xor IntKind.u64 (m : Int) (o : Int) = (r : Int) := by rw [u64_xor_nat _ _ hpq ho2, HR.out]
 obtain ⟨h11, h12⟩ := h1
 obtain ⟨h21, h22⟩ := h2
 obtain ⟨h31, h32⟩ := h3
 clear hr hp hq ho hm
 go_enter Tryz.func190, Tryz.ntmps190
 go_wp2_with fail
 refine (rot_any x a _ _ rfl h11 h12 hx p HP.out).mono ?_
 rintro e w1 ⟨rfl, rfl⟩
 go_wp2_with fail
 refine (rot_any x b _ _ rfl h21 h22 hx q HQ.out).mono ?_
 rintro e w1 ⟨rfl, rfl⟩
 go_wp2_with fail
 refine (rot_any x c _ _ rfl h31 h32 hx o HO.out).mono ?_
 rintro e w1 ⟨rfl, rfl⟩
 go_wp2
 go_ret
 exact ⟨rfl, rfl⟩
end Go.Proofs.YtpefjkndfifceaaGreatDoor.L5
namespace Go.Proofs.YtpefjkndfifceaaGreatDoor.L5
open Go.RowKit
def farN (x : Nat) : Nat := rotr x 1 ^^^ rotr x 8 ^^^ x / 128
theorem farN_lt {x : Nat} (h : x < 18446744073709551616) : farN x < 18446744073709551616 := Nat.xor_lt_two_pow (n := 64) (Nat.xor_lt_two_pow (n := 64) (rotr_lt h) (rotr_lt h)) (by omega)
set_option maxHeartbeats 1000000 in
theorem far_any (x : Nat) (w : World) (hx : x < 18446744073709551616) (r : Nat) (hr : r = farN x) :
  Calls Tryz.prog 205 #[.int .u64 (x : Int)] w fun e w' => e = .returned (.int .u64 (r : Int)) ∧ w = w' := by
 obtain ⟨p, hp⟩ : ∃ p, p = rotr x 1 := ⟨_, rfl⟩
 obtain ⟨q, hq⟩ : ∃ q, q = rotr x 8 := ⟨_, rfl⟩
 have hp2 : p < 18446744073709551616 := hp ▸ rotr_lt hx
 have hq2 : q < 18446744073709551616 := hq ▸ rotr_lt hx
 have hpq : p ^^^ q < 18446744073709551616 := Nat.xor_lt_two_pow (n := 64) hp2 hq2
 obtain ⟨m, hm⟩ : ∃ m, m = p ^^^ q := ⟨_, rfl⟩
 rw [← hm] at hpq
 have HR := zH (show r = m ^^^ (x / 128) by rw [hr, hm, hp, hq]; rfl)
 have HP := zH hp
 have HQ := zH hq
 have hx1 : bits BinOp.xor IntKind.u64 (p : Int) (q : Int) = (m : Int) := by rw [u64_xor_nat _ _ hp2 hq2, hm]
 have hx2 : bits BinOp.xor IntKind.u64 (m : Int) ((x : Int) / 128) = (r : Int) := by rw [show (x : Int) / 128 = ((x / 128 : Nat) : Int) by omega, u64_xor_nat _ _ hpq (by omega), HR.out]
 clear hr hp hq hm
 go_enter Tryz.func205, Tryz.ntmps205
 go_wp2_with fail
 refine (rot_any x 1 _ _ rfl (by decide) (by decide) hx p HP.out).mono ?_
 rintro e w1 ⟨rfl, rfl⟩
 go_wp2_with fail
 refine (rot_any x 8 _ _ rfl (by decide) (by decide) hx q HQ.out).mono ?_
 rintro e w1 ⟨rfl, rfl⟩
 go_wp2
 go_ret
 exact ⟨by first | rfl | simp [hx2], rfl⟩
def nearN (x : Nat) : Nat := rotr x 19 ^^^ rotr x 61 ^^^ x / 64
theorem nearN_lt {x : Nat} (h : x < 18446744073709551616) : nearN x < 18446744073709551616 := Nat.xor_lt_two_pow (n := 64) (Nat.xor_lt_two_pow (n := 64) (rotr_lt h) (rotr_lt h)) (by omega)
set_option maxHeartbeats 1000000 in
theorem near_any (x : Nat) (w : World) (hx : x < 18446744073709551616) (r : Nat) (hr : r = nearN x) :
  Calls Tryz.prog 206 #[.int .u64 (x : Int)] w fun e w' => e = .returned (.int .u64 (r : Int)) ∧ w = w' := by
 obtain ⟨p, hp⟩ : ∃ p, p = rotr x 19 := ⟨_, rfl⟩
 obtain ⟨q, hq⟩ : ∃ q, q = rotr x 61 := ⟨_, rfl⟩
 have hp2 : p < 18446744073709551616 := hp ▸ rotr_lt hx
 have hq2 : q < 18446744073709551616 := hq ▸ rotr_lt hx
 have hpq : p ^^^ q < 18446744073709551616 := Nat.xor_lt_two_pow (n := 64) hp2 hq2
 obtain ⟨m, hm⟩ : ∃ m, m = p ^^^ q := ⟨_, rfl⟩
 rw [← hm] at hpq
 have HR := zH (show r = m ^^^ (x / 64) by rw [hr, hm, hp, hq]; rfl)
 have HP := zH hp
 have HQ := zH hq
 have hx1 : bits BinOp.xor IntKind.u64 (p : Int) (q : Int) = (m : Int) := by rw [u64_xor_nat _ _ hp2 hq2, hm]
 have hx2 : bits BinOp.xor IntKind.u64 (m : Int) ((x : Int) / 64) = (r : Int) := by rw [show (x : Int) / 64 = ((x / 64 : Nat) : Int) by omega, u64_xor_nat _ _ hpq (by omega), HR.out]
 clear hr hp hq hm
 go_enter Tryz.func206, Tryz.ntmps206
 go_wp2_with fail
 refine (rot_any x 19 _ _ rfl (by decide) (by decide) hx p HP.out).mono ?_
 rintro e w1 ⟨rfl, rfl⟩
 go_wp2_with fail
 refine (rot_any x 61 _ _ rfl (by decide) (by decide) hx q HQ.out).mono ?_
 rintro e w1 ⟨rfl, rfl⟩
 go_wp2
 go_ret
 exact ⟨by first | rfl | simp [hx2], rfl⟩
end Go.Proofs.YtpefjkndfifceaaGreatDoor.L5
namespace Go.Proofs.YtpefjkndfifceaaGreatDoor.L5
open Go.RowKit
def arrC (q : IntKind) (l : List Nat) : Array Value := (l.map (num q)).toArray
theorem arrC_size (q : IntKind) (l : List Nat) : (arrC q l).size = l.length := by simp [arrC]
theorem arrC_get (q : IntKind) (l : List Nat) (i : Nat) (h : i < l.length) : (arrC q l)[i]? = some (.int q ((l[i]?.getD 0 : Nat) : Int)) := by simp [arrC, num, h]
theorem arrC_one (q : IntKind) (l : List Nat) : (arrC q l).all (·.oneCell') = true := by
 rw [Array.all_eq_true_iff_forall_mem]
 intro u hu
 have : u ∈ l.map (num q) := by simpa [arrC] using hu
 exact nums_oneCell q l u this
def Arr (q : IntKind) (E : TypeId) (w : World) (g : Nat) (l : List Nat) : Prop := w.heap[g]? = some (.cells (arrC q l) E (0, 0))
theorem Arr.lt {q : IntKind} {E g : Nat} {w : World} {l : List Nat} (h : Arr q E w g l) : g < w.heap.size := (Array.getElem?_eq_some_iff.1 h).1
theorem Arr.cell {q : IntKind} {E g : Nat} {w : World} {l : List Nat} (h : Arr q E w g l) (i : Nat) (hi : i < l.length) : w.cell? ⟨g, i, none⟩ = some (.int q ((l[i]?.getD 0 : Nat) : Int)) := by
 rw [cell_of_row w g i _ E (0, 0) h, arrC_get q l i hi]
theorem Arr.frozen {q : IntKind} {E g : Nat} {w : World} {l : List Nat} (h : Arr q E w g l) (i : Nat) : w.frozen? ⟨g, i, none⟩ = false := frozen_of_row w g i _ E h
theorem arrC_set (q : IntKind) (l : List Nat) (i x : Nat) : (arrC q l).setIfInBounds i (num q x) = arrC q (l.set i x) := by
 apply Array.ext'
 simp [arrC, List.map_set]
theorem Arr.stored {q : IntKind} {E g : Nat} {w : World} {l : List Nat} (h : Arr q E w g l) (i x : Nat) (y : Int) (hy : y = (x : Int)) : Arr q E (w.setCell ⟨g, i, none⟩ (.int q y)) g (l.set i x) := by
 subst hy
 have := heap_setCell_same w g i _ E (num q x) h
 unfold Arr
 rw [← arrC_set]
 exact this
theorem Arr.alloc {q : IntKind} {E g : Nat} {w : World} {l : List Nat} (h : Arr q E w g l) (o : Obj) : Arr q E (w.alloc o) g l := (Below.heap_alloc w o g h.lt).trans h
theorem Arr.below {q : IntKind} {E g B : Nat} {w w' : World} {l : List Nat} (h : Arr q E w g l) (hb : Below B w w') (hg : g < B) : Arr q E w' g l := (hb.block g hg).trans h
theorem alloc_setRow (w : World) (old cs : Array Value) (E : TypeId) : (w.alloc (.cells old E)).setRow w.heap.size cs = w.alloc (.cells cs E) := by
 cases w with
 | mk heap tape drawn os output =>
  simp only [World.alloc, World.setRow]
  congr 1
  apply Array.ext
  ·simp
  ·intro k h1 h2
   simp only [Array.getElem_modify]
   split
   ·rename_i hk
    subst hk
    simp
   ·rename_i hk
    rw [Array.getElem_push, Array.getElem_push]
    split
    ·rfl
    ·rename_i hk2
     simp at h1
     omega
end Go.Proofs.YtpefjkndfifceaaGreatDoor.L5
namespace Go.Proofs.YtpefjkndfifceaaGreatDoor.L5
open Go.RowKit
def kL : List Nat := [4794697086780616226, 8158064640168781261, 13096744586834688815, 16840607885511220156, 4131703408338449720, 6480981068601479193, 10538285296894168987, 12329834152419229976, 15566598209576043074, 1334009975649890238, 2608012711638119052, 6128411473006802146, 8268148722764581231, 9286055187155687089, 11230858885718282805, 13951009754708518548, 16472876342353939154, 17275323862435702243, 1135362057144423861, 2597628984639134821, 3308224258029322869, 5365058923640841347, 6679025012923562964, 8573033837759648693, 10970295158949994411, 12119686244451234320, 12683024718118986047, 13788192230050041572, 14330467153632333762, 15395433587784984357, 489312712824947311, 1452737877330783856, 2861767655752347644, 3322285676063803686, 5560940570517711597, 5996557281743188959, 7280758554555802590, 8532644243296465576, 9350256976987008742, 10552545826968843579, 11727347734174303076, 12113106623233404929, 14000437183269869457, 14369950271660146224, 15101387698204529176, 15463397548674623760, 17586052441742319658, 1182934255886127544, 1847814050463011016, 2177327727835720531, 2830643537854262169, 3796741975233480872, 4115178125766777443, 5681478168544905931, 6601373596472566643, 7507060721942968483, 8399075790359081724, 8693463985226723168, 9568029438360202098, 10144078919501101548, 10430055236837252648, 11840083180663258601, 13761210420658862357, 14299343276471374635, 14566680578165727644, 15097957966210449927, 16922976911328602910, 17689382322260857208, 500013540394364858, 748580250866718886, 1242879168328830382, 1977374033974150939, 2944078676154940804, 3659926193048069267, 4368137639120453308, 4836135668995329356, 5532061633213252278, 6448918945643986474, 6902733635092675308, 7801388544844847127]
def startL : List Nat := [7640891576956012808, 13503953896175478587, 4354685564936845355, 11912009170470909681, 5840696475078001361, 11170449401992604703, 2270897969802886507, 6620516959819538809, 14680500436340154072, 7105036623409894663, 10473403895298186519, 1526699215303891257, 7436329637833083697, 10282925794625328401, 15784041429090275239, 5167115440072839076]
def tabC : Array Value := arrC .u64 (kL ++ startL)
theorem kL_len : kL.length = 80 := rfl
theorem kL_lt : ∀ x ∈ kL, x < 18446744073709551616 := by unfold kL; decide
theorem startL_lt : ∀ x ∈ startL, x < 18446744073709551616 := by unfold startL; decide
theorem tabC_one : tabC.all (·.oneCell') = true := arrC_one _ _
theorem tab_field (w : World) : (Instr.field 189 (.agg tabC) 0).run Tryz.prog w = .ok (.agg (arrC .u64 kL)) w := by kernel_rfl
set_option maxRecDepth 100000 in
set_option maxHeartbeats 1000000 in
theorem written_any (w : World) : Calls Tryz.prog 156 #[] w fun e w' => e = .returned (.agg tabC) ∧ w' = w.alloc (.cells tabC 189) := by
 have hz : ∀ w, (zeroValue 189).run Tryz.prog w = .ok (.agg (arrC .u64 (List.replicate 96 0))) w := fun _ => by kernel_rfl
 go_enter Tryz.func156, Tryz.ntmps156
 go_wp2_with (first | (refine wpList_build rfl _ _ rfl (by kernel_rfl) ?_) | (refine wpList_store_row rfl _ _ _ rfl w.heap.size tabC rfl (by kernel_rfl) 189 _ (Go.heap_alloc_new w _) (by kernel_rfl) (by kernel_rfl) tabC_one ?_))
 rw [alloc_setRow]
 refine bodyPost_ret (v := .agg tabC) (results_cell_row (ty := 189) (p := 0) (by kernel_rfl) _ _ w.heap.size 189 tabC (0, 0) _ rfl (Go.heap_alloc_new w _) Tryz.underlying189 rfl (by kernel_rfl)) rfl ?_
 exact ⟨rfl, rfl⟩
end Go.Proofs.YtpefjkndfifceaaGreatDoor.L5
namespace Go.Proofs.YtpefjkndfifceaaGreatDoor.L5
open Go.RowKit
def g0 (l : List Nat) (i : Nat) : Nat := l[i]?.getD 0
theorem g0_lt {l : List Nat} {b : Nat} (h : ∀ x ∈ l, x < b) (hb : 0 < b) (i : Nat) : g0 l i < b := by
 unfold g0
 cases hi : l[i]? with
 | none => exact hb
 | some x => exact h x (List.mem_of_getElem? hi)
theorem set_lt {l : List Nat} {b : Nat} (h : ∀ x ∈ l, x < b) (i y : Nat) (hy : y < b) : ∀ x ∈ l.set i y, x < b := fun x hx => by
 rcases List.mem_or_eq_of_mem_set hx with hx | rfl
 ·exact h x hx
 ·exact hy
def packS (b : List Nat) (k : Nat) (l : List Nat) : List Nat := l.set (k / 8) (g0 l (k / 8) * 256 % 18446744073709551616 ||| g0 b k)
def packN (b : List Nat) : Nat → List Nat
 | 0 => List.replicate 80 0
 | k + 1 => packS b k (packN b k)
def extS (t : Nat) (l : List Nat) : List Nat := l.set t ((((g0 l (t - 16) + g0 l (t - 7)) % 18446744073709551616 + farN (g0 l (t - 15))) % 18446744073709551616 + nearN (g0 l (t - 2))) % 18446744073709551616)
def extN (l : List Nat) : Nat → List Nat
 | 0 => l
 | k + 1 => extS (16 + k) (extN l k)
def schedN (b : List Nat) : List Nat := extN (packN b 128) 64
theorem below_drewS {B : Nat} {a w : World} (h : Below B a w) (n : Nat) : Below B a (w.drewN n) := ⟨h.os, h.tape, h.output, h.size, h.block⟩
theorem packN_len (b : List Nat) : ∀ k, (packN b k).length = 80
 | 0 => by simp [packN]
 | k + 1 => by simp [packN, packS, packN_len b k]
theorem extN_len (l : List Nat) (h : l.length = 80) : ∀ k, (extN l k).length = 80
 | 0 => h
 | k + 1 => by simp [extN, extS, extN_len l h k]
theorem packN_lt (b : List Nat) (hb : ∀ x ∈ b, x < 256) : ∀ k, ∀ x ∈ packN b k, x < 18446744073709551616
 | 0 => fun x hx => by rw [List.eq_of_mem_replicate hx]; decide
 | k + 1 => set_lt (packN_lt b hb k) _ _ (Nat.or_lt_two_pow (n := 64) (Nat.mod_lt _ (by decide)) (Nat.lt_trans (g0_lt hb (by decide) k) (by decide)))
theorem extN_lt (l : List Nat) (h : ∀ x ∈ l, x < 18446744073709551616) : ∀ k, ∀ x ∈ extN l k, x < 18446744073709551616
 | 0 => h
 | k + 1 => set_lt (extN_lt l h k) _ _ (Nat.mod_lt _ (by decide))
theorem schedN_lt (b : List Nat) (hb : ∀ x ∈ b, x < 256) : ∀ x ∈ schedN b, x < 18446744073709551616 := extN_lt _ (packN_lt b hb 128) 64
def yN (e f g h k w : Nat) : Nat := ((((h + k) % 18446744073709551616 + w) % 18446744073709551616 + laidN e 14 18 41) % 18446744073709551616 + ((e &&& f) ^^^ ((18446744073709551615 - e) &&& g))) % 18446744073709551616
def zN (a b c : Nat) : Nat := (laidN a 28 34 39 + ((a &&& b) ^^^ (a &&& c) ^^^ (b &&& c))) % 18446744073709551616
def rd (v : List Nat) (k w : Nat) : List Nat :=
 [(yN (g0 v 4) (g0 v 5) (g0 v 6) (g0 v 7) k w + zN (g0 v 0) (g0 v 1) (g0 v 2)) % 18446744073709551616, g0 v 0, g0 v 1, g0 v 2, (g0 v 3 + yN (g0 v 4) (g0 v 5) (g0 v 6) (g0 v 7) k w) % 18446744073709551616, g0 v 4, g0 v 5, g0 v 6]
def rdsN (ws sc : List Nat) : Nat → List Nat
 | 0 => ws
 | i + 1 => rd (rdsN ws sc i) (g0 kL i) (g0 sc i)
def addTo (ws v : List Nat) : Nat → List Nat
 | 0 => ws
 | j + 1 => (addTo ws v j).set j ((g0 (addTo ws v j) j + g0 v j) % 18446744073709551616)
def turnN (ws b : List Nat) : List Nat := addTo ws (rdsN ws (schedN b) 80) 8
def stL (bits : Nat) (ws tail : List Nat) (taken : Nat) : List Value := .int .i64 (bits : Int) :: (ws.map (num .u64) ++ (tail.map (num .u8) ++ [.int .u64 (taken : Int)]))
structure StateAt (w : World) (g bits : Nat) (ws tail : List Nat) (taken : Nat) : Prop where
 heap : w.heap[g]? = some (.cells (stL bits ws tail taken).toArray 185 (0, 0))
 wlen : ws.length = 8
 tlen : tail.length = 128
 wlt : ∀ x ∈ ws, x < 18446744073709551616
 tlt : ∀ x ∈ tail, x < 256
theorem StateAt.lt {w : World} {g bits : Nat} {ws tail : List Nat} {taken : Nat} (h : StateAt w g bits ws tail taken) : g < w.heap.size := (Array.getElem?_eq_some_iff.1 h.heap).1
theorem StateAt.frozen {w : World} {g bits : Nat} {ws tail : List Nat} {taken : Nat} (h : StateAt w g bits ws tail taken) (i : Nat) : w.frozen? ⟨g, i, none⟩ = false := frozen_of_row w g i _ _ h.heap
theorem StateAt.bits {w : World} {g bits : Nat} {ws tail : List Nat} {taken : Nat} (h : StateAt w g bits ws tail taken) : w.cell? ⟨g, 0, none⟩ = some (.int .i64 (bits : Int)) := by
 rw [cell_of_row w g 0 _ _ _ h.heap]; rfl
theorem StateAt.word {w : World} {g bits : Nat} {ws tail : List Nat} {taken : Nat} (h : StateAt w g bits ws tail taken) (i : Nat) (hi : i < 8) : w.cell? ⟨g, 1 + i, none⟩ = some (.int .u64 ((g0 ws i : Nat) : Int)) := by
 have hl := h.wlen
 rw [cell_of_row w g (1 + i) _ _ _ h.heap, List.getElem?_toArray, stL, show 1 + i = i + 1 by omega, List.getElem?_cons_succ, List.getElem?_append_left (by simp; omega), List.getElem?_map, List.getElem?_eq_getElem (show i < ws.length by omega)]
 simp [num, g0, List.getElem?_eq_getElem (show i < ws.length by omega)]
theorem StateAt.byte {w : World} {g bits : Nat} {ws tail : List Nat} {taken : Nat} (h : StateAt w g bits ws tail taken) (i : Nat) (hi : i < 128) : w.cell? ⟨g, 9 + i, none⟩ = some (.int .u8 ((g0 tail i : Nat) : Int)) := by
 have hl := h.wlen
 have hl2 := h.tlen
 rw [cell_of_row w g (9 + i) _ _ _ h.heap, List.getElem?_toArray, stL, show 9 + i = (8 + i) + 1 by omega, List.getElem?_cons_succ, List.getElem?_append_right (by simp; omega), List.getElem?_append_left (by simp; omega)]
 simp only [List.length_map, hl, Nat.add_sub_cancel_left, List.getElem?_map]
 simp [num, g0, List.getElem?_eq_getElem (show i < tail.length by omega)]
theorem StateAt.taken {w : World} {g bits : Nat} {ws tail : List Nat} {taken : Nat} (h : StateAt w g bits ws tail taken) : w.cell? ⟨g, 137, none⟩ = some (.int .u64 (taken : Int)) := by
 have hl := h.wlen
 have hl2 := h.tlen
 rw [cell_of_row w g 137 _ _ _ h.heap, List.getElem?_toArray, stL, show 137 = 136 + 1 by omega, List.getElem?_cons_succ, List.getElem?_append_right (by simp; omega), List.getElem?_append_right (by simp; omega)]
 simp [hl, hl2]
theorem StateAt.block {w w' : World} {g bits : Nat} {ws tail : List Nat} {taken : Nat} (h : StateAt w g bits ws tail taken) (hb : w'.heap[g]? = w.heap[g]?) : StateAt w' g bits ws tail taken := ⟨hb.trans h.heap, h.wlen, h.tlen, h.wlt, h.tlt⟩
theorem StateAt.below {w w' : World} {g bits B : Nat} {ws tail : List Nat} {taken : Nat} (h : StateAt w g bits ws tail taken) (hb : Below B w w') (hg : g < B) : StateAt w' g bits ws tail taken := h.block (hb.block g hg)
theorem StateAt.setWord {w : World} {g bits : Nat} {ws tail : List Nat} {taken : Nat} (h : StateAt w g bits ws tail taken) (i x : Nat) (hi : i < 8) (y : Int) (hy : y = (x : Int)) (hx : x < 18446744073709551616) : StateAt (w.setCell ⟨g, 1 + i, none⟩ (.int .u64 y)) g bits (ws.set i x) tail taken := by
 subst hy
 have hl := h.wlen
 refine ⟨?_, by simp [hl], h.tlen, set_lt h.wlt i x hx, h.tlt⟩
 have := heap_setCell_same w g (1 + i) _ _ (num .u64 x) h.heap
 refine this.trans ?_
 congr 2
 apply Array.ext'
 rw [Array.toList_setIfInBounds]
 show (stL bits ws tail taken).set (1 + i) (num .u64 x) = stL bits (ws.set i x) tail taken
 unfold stL
 rw [show 1 + i = i + 1 by omega, zq3, List.set_append_left _ _ (by simp; omega), List.map_set]
end Go.Proofs.YtpefjkndfifceaaGreatDoor.L5
namespace Go.Proofs.YtpefjkndfifceaaGreatDoor.L5
open Go.RowKit
theorem grown_trans {x y z : World} {r : Option Nat} (h : x.grownBy y r) (k : y.grownBy z r) : x.grownBy z r :=
 ⟨k.os.trans h.os, k.tape.trans h.tape, k.output.trans h.output, Nat.le_trans h.size k.size, fun i hi hr => (k.block i (Nat.lt_of_lt_of_le hi h.size) hr).trans (h.block i hi hr)⟩
theorem grown_below {x y : World} (h : Below x.heap.size x y) (r : Option Nat) : x.grownBy y r := ⟨h.os, h.tape, h.output, h.size, fun i hi _ => h.block i hi⟩
theorem grown_drew {x y : World} {r : Option Nat} (h : x.grownBy y r) : x.grownBy y.drew r := ⟨h.os, h.tape, h.output, h.size, h.block⟩
theorem grown_set {x y : World} {g : Nat} (h : x.grownBy y (some g)) (i : Nat) (v : Value) : x.grownBy (y.setCell ⟨g, i, none⟩ v) (some g) :=
 ⟨h.os, h.tape, h.output, by simpa using h.size, fun k hk hr => (heap_setCell_other y ⟨g, i, none⟩ k v (fun e => hr (by rw [e]))).trans (h.block k hk hr)⟩
theorem kept2 (w W2 : World) (c d : Array Value) {T E : TypeId} (h : (w.alloc (.cells c T)).alloc (.cells d E) = W2) : Below w.heap.size w W2 ∧ W2.heap[w.heap.size + 1]? = some (.cells d E (0, 0)) ∧ W2.heap.size = w.heap.size + 2 := by
 subst h
 refine ⟨((Below.refl _ _).alloc (Nat.le_refl _) _).alloc (by simp) _, ?_, by simp⟩
 have := Go.heap_alloc_new (w.alloc (.cells c T)) (.cells d E)
 rwa [World.size_alloc] at this
theorem arrC_eight : ∀ (ws : List Nat), ws.length = 8 → #[Value.int .u64 ((g0 ws 0 : Nat) : Int), .int .u64 ((g0 ws 1 : Nat) : Int), .int .u64 ((g0 ws 2 : Nat) : Int), .int .u64 ((g0 ws 3 : Nat) : Int), .int .u64 ((g0 ws 4 : Nat) : Int), .int .u64 ((g0 ws 5 : Nat) : Int), .int .u64 ((g0 ws 6 : Nat) : Int), .int .u64 ((g0 ws 7 : Nat) : Int)] = arrC .u64 ws
 | [_, _, _, _, _, _, _, _], _ => rfl
theorem not_cast (e : Nat) (h : e < 18446744073709551616) : bits BinOp.xor IntKind.u64 (if IntKind.u64.signed = true then -1 else IntKind.u64.max) (e : Int) = ((18446744073709551615 - e : Nat) : Int) := by
 have e1 : (if IntKind.u64.signed = true then (-1 : Int) else IntKind.u64.max) = ((18446744073709551615 : Nat) : Int) := rfl
 have e2 : (18446744073709551615 ^^^ e : Nat) = 18446744073709551615 - e := by
  have h1 := congrArg BitVec.toNat (BitVec.allOnes_xor (x := BitVec.ofNat 64 e))
  rw [BitVec.toNat_xor, BitVec.toNat_allOnes, BitVec.toNat_not, BitVec.toNat_ofNat, Nat.mod_eq_of_lt (by simpa using h)] at h1
  exact h1
 rw [e1, u64_xor_nat _ _ (by decide) h, e2]
theorem set8 : ∀ {l : List Nat}, l.length = 8 → ∀ (a b c d e f g h : Nat), (((((((l.set 0 a).set 1 b).set 2 c).set 3 d).set 4 e).set 5 f).set 6 g).set 7 h = [a, b, c, d, e, f, g, h]
 | [_, _, _, _, _, _, _, _], _, _, _, _, _, _, _, _, _ => rfl
theorem idx8 (l : List Nat) (i : Nat) (hi : i < 8) (hl : l.length = 8) (w : World) : (Instr.index 182 (.agg (arrC .u64 l)) (.int .i64 (i : Int))).run Tryz.prog w = .ok (.int .u64 ((l[i]?.getD 0 : Nat) : Int)) w := by
 have hu : ∀ w, (underlying 182).run Tryz.prog w = .ok (.array 8 48) w := fun _ => by kernel_rfl
 have hs : ∀ w, (sizeOf 48).run Tryz.prog w = .ok 1 w := fun _ => by kernel_rfl
 have ha : ∀ w, (isAgg 48).run Tryz.prog w = .ok false w := fun _ => by kernel_rfl
 have hg := arrC_get .u64 l i (by omega)
 have h1 : 0 ≤ (i : Int) ∧ (i : Int) < ((8 : Nat) : Int) := by omega
 unfold Instr.index
 simp only [asIntOf, Sem.run_bind, Sem.run_pure, Result.andThen_ok, hu, if_pos h1, hs, Int.toNat_natCast, Nat.mul_one, part, ha]
 rw [hg]
 rfl
theorem StateAt.drew' {w : World} {g bits : Nat} {ws tail : List Nat} {taken : Nat} (h : StateAt w g bits ws tail taken) : StateAt w.drew g bits ws tail taken := h.block rfl
end Go.Proofs.YtpefjkndfifceaaGreatDoor.L5
namespace Go.Proofs.YtpefjkndfifceaaGreatDoor
open Go.RowKit
def OwnT (T : TypeId → Prop) (o : Obj) : Prop := o.isWalk = true ∨ ∃ c E f, o = Obj.cells c E f ∧ T E
def StaysT {β : Type} (T : TypeId → Prop) (B : Nat) (J : β → World → Prop) : Prop := ∀ s W W' row, J s W → W.grownBy W' row → (∀ r, row = some r → B ≤ r ∧ ∃ o : Obj, W.heap[r]? = some o ∧ (o.isCells = false ∨ OwnT T o)) → J s W'
def KpT (T : TypeId → Prop) (W W' : World) : Prop := W.heap.size ≤ W'.heap.size ∧ ∀ (k : Nat) (c : Array Value) (E : TypeId) (f : Nat × Nat), T E → W.heap[k]? = some (Obj.cells c E f) → W'.heap[k]? = some (Obj.cells c E f)
theorem KpT.trans {T : TypeId → Prop} {X Y Z : World} (h : KpT T X Y) (k : KpT T Y Z) : KpT T X Z := ⟨Nat.le_trans h.1 k.1, fun i c E f hE hi => k.2 i c E f hE (h.2 i c E f hE hi)⟩
theorem KpT.put {T : TypeId → Prop} (W : World) (l : Nat) (o o' : Obj) (h : W.heap[l]? = some o) (hc : o.isCells = false) : KpT T W (W.putObj l o') :=
 ⟨(grownBy_putObj' W l o').size, fun k c E f _ hk => by
  by_cases e : k = l
  ·subst e
   rw [h] at hk
   cases hk
   cases hc
  ·refine Eq.trans (World.putObj_heap_other ?_) hk
   omega⟩
theorem KpT.grown {T : TypeId → Prop} {W W' : World} {row : Option Nat} (hg : W.grownBy W' row) (hr : ∀ r, row = some r → ∃ c E f, W.heap[r]? = some (Obj.cells c E f) ∧ ¬ T E) : KpT T W W' :=
 ⟨hg.size, fun k c E f hE hk => (hg.block k (Array.getElem?_eq_some_iff.1 hk).1 fun e => by
  obtain ⟨c', E', f', hk', hn⟩ := hr k e.symm
  rw [hk] at hk'
  cases hk'
  exact hn hE).trans hk⟩
def SeqT {α : Type} (T : TypeId → Prop) (F : Fence) (n : Nat) (P : Program) (g : Nat) (lb : Array Value) (encs : α → Array Value) (Sp : List α → Prop) (N : Nat) (w : World) : Prop :=
 ∀ (l : Nat) (J Jx : List α → World → Prop) (W : World), Below w.heap.size w W → (∀ s X X' row, J s X → X.grownBy X' row → (∀ r, row = some r → W.heap.size ≤ r ∧ ∃ o : Obj, X.heap[r]? = some o ∧ OwnT T o) → J s X') →
  (∀ s X X' row, Jx s X → X.grownBy X' row → (∀ r, row = some r → W.heap.size ≤ r ∧ ∃ o : Obj, X.heap[r]? = some o ∧ OwnT T o) → Jx s X') → (∀ pre X, J pre X → pre.length < N) →
  (∀ pre x X, J pre X → YieldAt F (n - 1) P l (encs x) X fun e X' => (e = .returned (.bool true) ∧ J (pre ++ [x]) X' ∧ KpT T X X') ∨ (e = .returned (.bool false) ∧ Jx (pre ++ [x]) X')) →
  J [] W → CallsIn F n P g (#[.func (.yield l) #[] #[]] ++ lb) W fun e X => (∃ v, e = .returned v) ∧ ∃ pre, Sp pre ∧ Jx pre X
theorem ownT_keeps {T : TypeId → Prop} {W W' : World} {row : Option Nat} (hg : W.grownBy W' row) (hr : ∀ r, row = some r → ∃ o : Obj, W.heap[r]? = some o ∧ OwnT T o) {k : Nat} {o : Obj} (hk : W.heap[k]? = some o) (hw : o.isWalk = false) (hc : o.isCells = false) : W'.heap[k]? = some o :=
 (hg.block k (Array.getElem?_eq_some_iff.1 hk).1 fun e => by
  obtain ⟨o', ho', h⟩ := hr k e.symm
  rw [hk] at ho'
  cases ho'
  rcases h with h | ⟨c, E, f, rfl, -⟩
  ·rw [hw] at h; cases h
  ·cases hc).trans hk
end Go.Proofs.YtpefjkndfifceaaGreatDoor
