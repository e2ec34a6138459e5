/-
  THE ITERATOR OF A TREE's NODES: tree.tell, walked by induction on the tree.
-/
import Derived.Test.YtkmphiakciihfaaDoorRows
import Derived.Test.YtkmphiakciihfaaDoorTrA
import Derived.Test.YtkmphiakciihfaaDoorSeqF
import Derived.Test.YtkmphiakciihfaaDoorTk
import Derived.RangeFuncCalls
import Derived.Shelf.Abstract
import Derived.TacticsInMore
import Derived.LoopNIn
import Derived.LoopIn
import Derived.OrdersIn
import Derived.ControlIn
namespace Go.Proofs.YtkmphiakciihfaaDoor
open Go.RowKit Go.Shelf
attribute [local go_sem] Oper.semAt_some

abbrev encS {w0 : World} {P : Tr → Prop} (x : Spot w0 P) : Array Value := #[.agg #[.pointer (some ⟨x.b, x.off, none⟩), .int .i64 (x.d : Int)]]

/-- What 'tell' answers. -/
def TellR {w0 : World} {P : Tr → Prop} (l : Nat) (E : Nat → Prop) (J Jx : List (Spot w0 P) → World → Prop) (pre : List (Spot w0 P)) (L : List (Nat × Tr)) (W : World) (e : Ending) (X : World) : Prop :=
  (e = .returned (.bool true) ∧ ∃ xs : List (Spot w0 P), xs.map Spot.at = L ∧ J (pre ++ xs) X ∧ KpV (fun k => k = l ∨ E k) W X) ∨
  (e = .returned (.bool false) ∧ ∃ xs : List (Spot w0 P), xs ≠ [] ∧ xs.map Spot.at <+: L ∧ Jx (pre ++ xs) X ∧ KpV (fun k => k = l ∨ E k) W X)

theorem KpV.cell {E : Nat → Prop} {W X : World} (h : KpV E W X) {b off : Nat} {v : Value} (hb : ¬ E b) (hc : W.cell? ⟨b, off, none⟩ = some v) : X.cell? ⟨b, off, none⟩ = some v :=
  (World.cell?_of_block (a := ⟨b, off, none⟩) (h.2 b (World.block_lt_of_cell? W _ hc) hb)).trans hc

theorem cells_of_heap {w0 W : World} {b off : Nat} {V : NV} (h : CellsAt w0 b off V) (hW : ∀ k, k < w0.heap.size → W.heap[k]? = w0.heap[k]?) : CellsAt W b off V :=
  h.of fun i => World.cell?_of_block (a := ⟨b, i, none⟩) (hW b h.lt)

theorem wrap_succ (d : Nat) (h : d ≤ 1000000000) : IntKind.i64.wrap ((d : Int) + 1) = (d : Int) + 1 := by
  rw [IntKind.wrap_i64]
  omega

/-- What holds at the head of the loop over the kids. -/
def TellI {w0 : World} {P : Tr → Prop} (l : Nat) (E : Nat → Prop) (J : List (Spot w0 P) → World → Prop) (pre : List (Spot w0 P)) (L : List (Nat × Tr)) (W : World) (b off d : Nat) (wr : World) : Prop :=
  (∃ xs : List (Spot w0 P), xs.map Spot.at = L ∧ J (pre ++ xs) wr) ∧ KpV (fun k => k = l ∨ E k) W wr ∧ W.heap.size < wr.heap.size ∧ wr.cell? ⟨W.heap.size, 0, none⟩ = some (.pointer (some ⟨b, off, none⟩)) ∧ wr.cell? ⟨W.heap.size, 1, none⟩ = some (.int .i64 (d : Int))

set_option maxRecDepth 100000 in
set_option maxHeartbeats 2000000 in
theorem tell_comes (n : Nat) (w0 : World) (P : Tr → Prop) (N l : Nat) (E : Nat → Prop) (hE : ∀ k, E k → w0.heap.size ≤ k) (hl0 : w0.heap.size ≤ l) (J Jx : List (Spot w0 P) → World → Prop)
    (hJ : ∀ s X X', J s X → X.grownBy X' none → J s X')
    (hY : ∀ pre x X, pre.length < N → J pre X → YieldAt Fence.wide (n - 1) Tryd.prog l (encS x) X fun e X' => (e = .returned (.bool true) ∧ True ∧ J (pre ++ [x]) X' ∧ KpV (fun k => k = l ∨ E k) X X') ∨ (e = .returned (.bool false) ∧ Jx (pre ++ [x]) X' ∧ KpV (fun k => k = l ∨ E k) X X')) :
    ∀ {V : NV} {T : Tr}, NodeAt w0 V T → ∀ (b off d : Nat) (pre : List (Spot w0 P)) (W : World), CellsAt w0 b off V → (∀ p ∈ T.nodes d, P p.2) → d + T.dep ≤ 1000000000 → pre.length + T.cnt ≤ N → (∀ k, k < w0.heap.size → W.heap[k]? = w0.heap[k]?) → w0.heap.size ≤ W.heap.size → l < W.heap.size → (∀ k, E k → k < W.heap.size) → J pre W →
      CallsIn Fence.wide n Tryd.prog 71 #[.agg #[.pointer (some ⟨b, off, none⟩), .int .i64 (d : Int)], .func (.yield l) #[] #[]] W (TellR l E J Jx pre (T.nodes d) W) := by
  intro V T h
  induction h with
  | mk V tb ks U hb hx hl hle hm hnil hc hk ih =>
    intro b off d pre W hcv hP hd hN hW hWs hlW hEW hJ0
    have hnode := NodeAt.mk V tb ks U hb hx hl hle hm hnil hc hk
    obtain ⟨T, hT⟩ : ∃ T, Tr.mk V.cls V.tag V.cons tb ks = T := ⟨_, rfl⟩
    have hTn : T.nodes d = (d, T) :: nodesL (d + 1) ks := by rw [← hT]; rfl
    have hTc : T.cnt = cntL ks + 1 := by rw [← hT]; rfl
    have hTd : T.dep = depL ks + 1 := by rw [← hT]; rfl
    rw [hT] at hnode hN hd hP ⊢
    have hP2 := hP
    rw [hTn] at hP2
    have HPK := Lib.hid (show ∀ i (h : i < ks.length), ∀ p ∈ (ks[i]).nodes (d + 1), P p.2 from fun i h p hp => hP2 p (List.mem_cons_of_mem _ (mem_nodesL (d + 1) (List.getElem_mem h) hp)))
    have hP1 := hP2 (d, T) (by simp)
    clear hP2
    obtain ⟨x, hx0⟩ : ∃ x : Spot w0 P, x = ⟨b, off, d, V, T, hcv, hnode, hP1⟩ := ⟨_, rfl⟩
    have hxb : x.b = b := by rw [hx0]
    have hxo : x.off = off := by rw [hx0]
    have hxd : x.d = d := by rw [hx0]
    have hxa : x.at = (d, T) := by rw [hx0]; rfl
    have HXA := Lib.hid hxa
    have HTN := Lib.hid hTn
    have HT := Lib.hid (And.intro hTc hTd)
    have hkm : V.kl ≤ 9223372036854775807 := by unfold maxLen at hm; omega
    have HC := Lib.hid hcv
    have HE := Lib.hid (show ¬ (W.heap.size = l ∨ E W.heap.size) from fun h => by rcases h with h | h; (· omega); (· have := hEW _ h; omega))
    have HE0 := Lib.hid (show ∀ k, k < w0.heap.size → ¬ (k = l ∨ E k) from fun k hk h => by rcases h with h | h; (· omega); (· have := hE _ h; omega))
    have HW := Lib.hid hW
    have HEW := Lib.hid hEW
    obtain ⟨W1, hW1⟩ : ∃ W1, W.alloc (.cells #[.pointer (some ⟨b, off, none⟩), .int .i64 (d : Int)] 91) = W1 := ⟨_, rfl⟩
    have hz1 : W1.heap.size = W.heap.size + 1 := by rw [← hW1]; simp
    have hJ1 : J pre W1 := by rw [← hW1]; exact hJ _ _ _ hJ0 (World.grownBy_alloc W _ none)
    have hk1 : KpV (fun k => k = l ∨ E k) W W1 := by rw [← hW1]; exact KpV.grown (row := none) (World.grownBy_alloc W _ none) (fun r e => by cases e)
    have p0 : W1.cell? ⟨W.heap.size, 0, none⟩ = some (.pointer (some ⟨b, off, none⟩)) := by rw [← hW1]; simp
    have p1 : W1.cell? ⟨W.heap.size, 1, none⟩ = some (.int .i64 (d : Int)) := by rw [← hW1]; simp
    have HK1 := Lib.hid hk1
    obtain ⟨f1, t1, a1, b1, hy1, hR1⟩ := hY pre x W1 (by rw [hTc] at hN; omega) hJ1
    dsimp only [encS] at hy1
    rw [hxb, hxo, hxd] at hy1
    have HY := Lib.hid hY
    have HJ := Lib.hid hJ
    have HU := Lib.hid (And.intro hc (And.intro hk ih))
    have HL := Lib.hid hl
    have HR1 := Lib.hid hR1
    have HD := Lib.hid hd
    have HN := Lib.hid hN
    have HWs := Lib.hid (And.intro hWs hlW)
    have HZ1 := Lib.hid hz1
    clear hP hP1 hx0 hxb hxo hxd hxa hTn hTc hTd hcv hnode hW hEW hk1 hJ1 hJ0 hY hJ hc hk ih hl hR1 hd hN hWs hlW hT hx hb hE hl0 hm hnil hz1 hle
    refine callsIn_of_wp Tryd.func71 rfl trivial ?_ rfl
    simp only [Tryd.ntmps71, List.size_toArray, List.length_cons, List.length_nil, Nat.reduceAdd, Nat.reduceSub, Array.replicate_succ, Array.replicate_zero, List.push_toArray, List.append_toArray, List.nil_append, List.cons_append]
    gi_wp2_with fail
    refine ⟨fun h => by simp [Fence.wide] at h, ?_⟩
    refine HR1.out.mono ?_
    rintro e X (⟨rfl, -, hJ2, hk2⟩ | ⟨rfl, hJx2, hk2⟩)
    rotate_left
    · have HJx2 := Lib.hid hJx2
      have HK2 := Lib.hid hk2
      clear hJx2 hk2 hy1 p0 p1 hW1
      gi_wp2_with fail
      go_ret
      exact .inr ⟨rfl, [x], by simp, by rw [HTN.out]; simp [HXA.out], HJx2.out, HK1.out.trans HK2.out⟩
    have p0 := KpV.cell hk2 HE.out p0
    have p1 := KpV.cell hk2 HE.out p1
    have HP := Lib.hid (And.intro p0 p1)
    have HK2 := Lib.hid (HK1.out.trans hk2)
    have hcx := cells_of_heap HC.out (fun k hk => (HK2.out.2 k (by have := HWs.out; omega) (HE0.out k hk)).trans (HW.out k hk))
    have q4 := hcx.c4
    have HJ2 := Lib.hid hJ2
    clear hJ2 hk2 hy1 hcx hW1
    gi_wp2_with fail
    gi_loopw [16] (fun i wr => ∃ k : Nat, k ≤ V.kl ∧ i = .int .i64 (k : Int) ∧ TellI l E J pre ((d, T) :: nodesL (d + 1) (ks.take k)) W b off d wr) (fun i _ => V.kl - (intOf i).toNat)
    case atStart => exact ⟨0, Nat.zero_le _, rfl, ⟨[x], by simp [HXA.out, nodesL], HJ2.out⟩, HK2.out, by have := HK2.out.1; have := HZ1.out; have := World.block_lt_of_cell? X _ HP.out.1; exact this, HP.out.1, HP.out.2⟩
    case round =>
      obtain ⟨k, hk, rfl, hr⟩ := hrel
      replace hr := Lib.hid hr
      clear p0 p1 q4
      by_cases hlt : k < V.kl
      · obtain ⟨hxs, hKw, hWr, c0, c1⟩ := hr.out
        obtain ⟨xs, hxs⟩ := hxs
        obtain ⟨kb, ko, hka, hkb, hcell⟩ := HU.out.1 (by omega)
        have hheap : ∀ k, k < w0.heap.size → wr.heap[k]? = w0.heap[k]? := fun k hk => (hKw.2 k (by have := HWs.out; omega) (HE0.out k hk)).trans (HW.out k hk)
        have q4 := (cells_of_heap HC.out hheap).c4
        rw [hka] at q4
        have hck := hcell k hlt
        have hkl : k < ks.length := by rw [HL.out]; exact hlt
        have HXS := Lib.hid hxs
        have HKW := Lib.hid hKw
        have HH := Lib.hid hheap
        have HCK := Lib.hid hck
        have HKL := Lib.hid hkl
        have HWR := Lib.hid hWr
        have hwd : IntKind.i64.wrap ((d : Int) + 1) = (d : Int) + 1 := wrap_succ d (Nat.le_trans (Nat.le_add_right _ _) HD.out)
        clear hr hcell hheap hck hkl hxs hKw hWr hka hkb
        gi_wp2_with fail
        refine wpIn_wide.2 (wp_region_held_drew (S := fun Y => Y.cell? ⟨W.heap.size, 0, none⟩ = some (.pointer (some ⟨b, off, none⟩)) ∧ Y.cell? ⟨W.heap.size, 1, none⟩ = some (.int .i64 (d : Int)) ∧ Y.cell? ⟨b, off + 4, none⟩ = some (.slice (some ⟨kb, ko, none⟩) V.kl V.kc)) (by kernel_rfl) ⟨c0, c1, q4⟩ (fun hHeld => ?_))
        refine' tk 0 ?_
        try simp only [Act.put, List.setIfInBounds_toArray, List.set_cons_zero, List.set_cons_succ]
        refine' tk 1 ?_
        try simp only [Act.put, List.setIfInBounds_toArray, List.set_cons_zero, List.set_cons_succ]
        refine' tk 2 ?_
        try simp only [Act.put, List.setIfInBounds_toArray, List.set_cons_zero, List.set_cons_succ]
        refine' tk 3 ?_
        try simp only [Act.put, List.setIfInBounds_toArray, List.set_cons_zero, List.set_cons_succ]
        refine' tk 4 ?_
        try simp only [Act.put, List.setIfInBounds_toArray, List.set_cons_zero, List.set_cons_succ]
        refine' tk 5 ?_
        try simp only [Act.put, List.setIfInBounds_toArray, List.set_cons_zero, List.set_cons_succ]
        refine' tk 6 ?_
        try simp only [Act.put, List.setIfInBounds_toArray, List.set_cons_zero, List.set_cons_succ]
        refine' tk 7 ?_
        try simp only [Act.put, List.setIfInBounds_toArray, List.set_cons_zero, List.set_cons_succ]
        refine' tk 8 ?_
        try simp only [Act.put, List.setIfInBounds_toArray, List.set_cons_zero, List.set_cons_succ]
        refine' tk 9 ?_
        try simp only [Act.put, List.setIfInBounds_toArray, List.set_cons_zero, List.set_cons_succ]
        refine' tk 10 ?_
        try simp only [Act.put, List.setIfInBounds_toArray, List.set_cons_zero, List.set_cons_succ]
        refine' tk 11 ?_
        try simp only [Act.put, List.setIfInBounds_toArray, List.set_cons_zero, List.set_cons_succ]
        refine' tr 12 (fun K hK => ?_)
        try simp only [List.getElem_toArray, List.getElem_cons_succ, List.getElem_cons_zero]
        go_simp
        have hlen : xs.length = cntL (ks.take k) + 1 := by
          have h1 := congrArg List.length HXS.out.1
          rw [List.length_map, List.length_cons, nodesL_length] at h1
          exact h1
        have hcall := HU.out.2.2 k HKL.out kb (ko + k * 5) (d + 1) (pre ++ xs) wr.drew HCK.out (HPK.out k HKL.out)
          (by have h1 := HD.out; have h2 := HT.out.2; have h3 := depL_mem (List.getElem_mem HKL.out); omega)
          (by have h1 := HN.out; have h2 := HT.out.1; have h3 := cntL_take ks k HKL.out; have h4 := cntL_take_le ks (k + 1); rw [List.length_append]; omega)
          HH.out (by have h1 := HWs.out; have h2 := HWR.out; show w0.heap.size ≤ wr.heap.size; omega) (by have h1 := HWs.out; have h2 := HWR.out; show l < wr.heap.size; omega)
          (fun j hj => by have h1 := HEW.out j hj; have h2 := HWR.out; show j < wr.heap.size; omega) (HJ.out _ _ _ HXS.out.2 ⟨rfl, rfl, rfl, Nat.le_refl _, fun _ _ _ => rfl⟩)
        rw [show ((d + 1 : Nat) : Int) = (d : Int) + 1 from by omega] at hcall
        have HCALL := Lib.hid (callsIn_wide.1 hcall)
        have HLN := Lib.hid hlen
        clear hcall hlen
        refine HCALL.out.mono ?_
        rintro e w2 (⟨rfl, ys, hys, hJy, hKy⟩ | ⟨rfl, ys, hne, hys, hJy, hKy⟩)
        · have c02 := hKy.cell HE.out c0
          have c12 := hKy.cell HE.out c1
          have q42 := hKy.cell (HE0.out b HC.out.lt) q4
          have HK3 := Lib.hid (HKW.out.trans hKy)
          have HYS := Lib.hid (And.intro hys hJy)
          have HS2 := Lib.hid (Nat.lt_of_lt_of_le HWR.out hKy.1)
          have HC2 := Lib.hid (And.intro c02 c12)
          clear hys hJy hKy c0 c1 q4
          go_wp2_with fail
          refine hK.out _ _ ⟨c02, c12, q42⟩ (fun hHeld => ?_)
          clear hK K
          try simp only [Act.put, List.setIfInBounds_toArray, List.set_cons_zero, List.set_cons_succ]
          refine' tk 13 ?_
          try simp only [Act.put, List.setIfInBounds_toArray, List.set_cons_zero, List.set_cons_succ]
          refine wpAnyH_done (by kernel_rfl) ?_ _
          clear hHeld c02 c12 q42 hwd
          gi_wp2_with fail
          go_roundw
          case rel =>
            refine ⟨k + 1, by omega, by go_num, ⟨xs ++ ys, ?_, ?_⟩, HK3.out, HS2.out, HC2.out.1, HC2.out.2⟩
            · rw [List.map_append, HXS.out.1, HYS.out.1, nodesL_take (d + 1) ks k HKL.out]
              rfl
            · rw [← List.append_assoc]
              exact HYS.out.2
          case measure => simp [intOf]; omega
        · have c02 := hKy.cell HE.out c0
          have c12 := hKy.cell HE.out c1
          have q42 := hKy.cell (HE0.out b HC.out.lt) q4
          have HK3 := Lib.hid (HKW.out.trans hKy)
          have HYS := Lib.hid (And.intro hys hJy)
          have HNE := Lib.hid hne
          clear hne hys hJy hKy c0 c1 q4
          go_wp2_with fail
          refine hK.out _ _ ⟨c02, c12, q42⟩ (fun hHeld => ?_)
          clear hK K
          try simp only [Act.put, List.setIfInBounds_toArray, List.set_cons_zero, List.set_cons_succ]
          refine' tk 13 ?_
          try simp only [Act.put, List.setIfInBounds_toArray, List.set_cons_zero, List.set_cons_succ]
          refine wpAnyH_done (by kernel_rfl) ?_ _
          clear hHeld c02 c12 q42 hwd
          gi_wp2_with fail
          go_ret
          refine .inr ⟨rfl, xs ++ ys, by have := HNE.out; simp [this], ?_, by rw [← List.append_assoc]; exact HYS.out.2, HK3.out⟩
          rw [List.map_append, HXS.out.1, HTN.out, List.cons_append]
          exact List.cons_prefix_cons.2 ⟨rfl, nodesL_prefix (d + 1) ks k HKL.out HYS.out.1⟩
      · obtain rfl : k = V.kl := by omega
        clear hlt
        gi_wp2_with fail
        go_ret
        obtain ⟨⟨xs, hxs, hJw⟩, hKw, -⟩ := hr.out
        exact .inl ⟨rfl, xs, by rw [hxs, HTN.out, List.take_of_length_le (by rw [HL.out]; exact Nat.le_refl _)], hJw, hKw⟩

end Go.Proofs.YtkmphiakciihfaaDoor
