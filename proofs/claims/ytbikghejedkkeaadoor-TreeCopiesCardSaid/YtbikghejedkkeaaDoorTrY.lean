/-
  THE LAW TreeCopies, walked: a copy is the same, and by itself.
-/
import Derived.Test.YtbikghejedkkeaaDoorTrT
import Derived.Test.YtbikghejedkkeaaDoorTrV
import Derived.Test.YtbikghejedkkeaaDoorTrX
import Derived.Test.YtbikghejedkkeaaDoorTk
import Derived.Deep.Cut
import Derived.Laws.BitsLemmas
namespace Go.Proofs.YtbikghejedkkeaaDoor
open Go.RowKit

theorem sameB_self (T : Tr) : sameB T T = true := (sameB_iff T T).2 rfl
theorem sameB_put {T : Tr} {i : Nat} {v : Int} (hi : i < T.cnt) (hv : v ≠ T.tagAt i) : sameB (T.put i v) T = false := by
  rw [Bool.eq_false_iff]
  intro h
  exact T.put_ne i v hi hv ((sameB_iff _ _).1 h)
theorem tag_moves (x : Int) (y : Nat) (hy : y < 256) : wrap64 (wrap64 (x + 1) + (y : Int)) ≠ x := by
  unfold wrap64
  omega

set_option maxRecDepth 100000 in
set_option maxHeartbeats 8000000 in
theorem copies_walk (V : NV) (T : Tr) (w : World) (hn : NodeAt w V T) (k0 : Nat) (hk0 : k0 < 65536) (y0 : Nat) (hy0 : y0 < 256) :
    Calls Tryd.prog 7 #[V.agg, .int .u16 (k0 : Nat), .int .u8 (y0 : Nat)] w fun e w' => e = .returned (.bool true) ∧ Below w.heap.size w w' := by
  obtain ⟨c, t, kk, ba, bl, bc, ka, kl, kc⟩ := V
  obtain ⟨w1, hw1⟩ : ∃ w1, w.alloc (.cells #[.int .i64 c, .int .i64 t, .bool kk, .slice ba bl bc, .slice ka kl kc] 25) = w1 := ⟨_, rfl⟩
  have hb1 : Below w.heap.size w w1 := by rw [← hw1]; exact (Below.refl _ _).alloc (Nat.le_refl _) _
  have hz1 : w1.heap.size = w.heap.size + 1 := by rw [← hw1]; simp
  have hcx : CellsAt w1 w.heap.size 0 ⟨c, t, kk, ba, bl, bc, ka, kl, kc⟩ := by rw [← hw1]; exact cells5 w c t kk ba bl bc ka kl kc _
  have HC := Lib.hid hcx
  have HN := Lib.hid (hn.under hb1)
  have HB1 := Lib.hid hb1
  have HZ := Lib.hid hz1
  have HKY := Lib.hid (And.intro hk0 hy0)
  clear hb1 hz1 hcx hn hk0 hy0
  unfold NV.agg
  dsimp only
  go_enter Tryd.func7, Tryd.ntmps7
  go_wp2_with fail
  refine (alive_t w1).mono ?_
  rintro e w2 ⟨rfl, hb2⟩
  have HB := Lib.hid hb2
  obtain ⟨p0, p1, p2, p3, p4⟩ := HC.out.below HB.out HC.out.lt
  dsimp only at p0 p1 p2 p3 p4
  simp only [Nat.zero_add] at p0 p1 p2 p3 p4
  clear hb2
  go_wp2_with fail
  refine (great_any T ⟨c, t, kk, ba, bl, bc, ka, kl, kc⟩ w2 (HN.out.under HB.out)).mono ?_
  rintro e w3 ⟨rfl, hb3⟩
  have HB := Lib.hid (HB.out.trans (hb3.mono HB.out.size))
  clear hb3 p0 p1 p2 p3 p4 hw1
  cases hg : greatT T with
  | true =>
    go_wp2_with fail
    go_ret
    exact ⟨rfl, HB1.out.trans (HB.out.mono (by have := HZ.out; omega))⟩
  | false =>
    have HG := Lib.hid (great_no hg)
    clear hg
    obtain ⟨p0, p1, p2, p3, p4⟩ := HC.out.below HB.out HC.out.lt
    dsimp only at p0 p1 p2 p3 p4
    simp only [Nat.zero_add] at p0 p1 p2 p3 p4
    go_wp2_with fail
    refine (copy_any ⟨c, t, kk, ba, bl, bc, ka, kl, kc⟩ T w3 (HN.out.under HB.out) (by have := HG.out; omega)).mono ?_
    rintro e w4 ⟨⟨V2, rfl, hm⟩, hb4⟩
    have HM := Lib.hid hm.narrow
    have HS34 := Lib.hid (And.intro HB.out.size hb4.size)
    have HB := Lib.hid (HB.out.trans (hb4.mono HB.out.size))
    clear hb4 hm p0 p1 p2 p3 p4
    obtain ⟨xc, xt, xk, xa, xl, xm, ya, yl, ym⟩ := V2
    unfold NV.agg
    dsimp only
    obtain ⟨w5, hw5⟩ : ∃ u, w4.alloc (.cells #[.int .i64 xc, .int .i64 xt, .bool xk, .slice xa xl xm, .slice ya yl ym] 25) = u := ⟨_, rfl⟩
    have hb5 : Below w4.heap.size w4 w5 := by rw [← hw5]; exact (Below.refl _ _).alloc (Nat.le_refl _) _
    have hz5 : w5.heap.size = w4.heap.size + 1 := by rw [← hw5]; simp
    have hcy : CellsAt w5 w4.heap.size 0 ⟨xc, xt, xk, xa, xl, xm, ya, yl, ym⟩ := by rw [← hw5]; exact cells5 _ _ _ _ _ _ _ _ _ _ _
    have hfy : w5.heap[w4.heap.size]? = some (.cells #[.int .i64 xc, .int .i64 xt, .bool xk, .slice xa xl xm, .slice ya yl ym] 25) := by rw [← hw5]; exact World.alloc_heap_new w4 _
    have HM := Lib.hid (HM.out.under hb5)
    have HB := Lib.hid (HB.out.trans (hb5.mono HB.out.size))
    have HD := Lib.hid hcy
    have HF := Lib.hid hfy
    have HZ5 := Lib.hid hz5
    obtain ⟨p0, p1, p2, p3, p4⟩ := HC.out.below HB.out HC.out.lt
    obtain ⟨q0, q1, q2, q3, q4⟩ := hcy
    dsimp only at p0 p1 p2 p3 p4 q0 q1 q2 q3 q4
    simp only [Nat.zero_add] at p0 p1 p2 p3 p4 q0 q1 q2 q3 q4
    clear hb5 hz5 hfy
    go_wp2_with fail
    clear hw5
    refine (same_any T T ⟨xc, xt, xk, xa, xl, xm, ya, yl, ym⟩ ⟨c, t, kk, ba, bl, bc, ka, kl, kc⟩ w5 HM.out.node (HN.out.under HB.out)).mono ?_
    rintro e w6 ⟨rfl, hb6⟩
    have HU := Lib.hid hb6
    have HB6 := Lib.hid (HB.out.trans (HU.out.mono HB.out.size))
    rw [sameB_self]
    clear hb6 p0 p1 p2 p3 p4 q0 q1 q2 q3 q4
    obtain ⟨p0, p1, p2, p3, p4⟩ := HC.out.below HB6.out HC.out.lt
    obtain ⟨q0, q1, q2, q3, q4⟩ := HD.out.below HU.out HD.out.lt
    dsimp only at p0 p1 p2 p3 p4 q0 q1 q2 q3 q4
    simp only [Nat.zero_add] at p0 p1 p2 p3 p4 q0 q1 q2 q3 q4
    go_wp2_with fail
    refine (same_any T T ⟨c, t, kk, ba, bl, bc, ka, kl, kc⟩ ⟨xc, xt, xk, xa, xl, xm, ya, yl, ym⟩ w6 (HN.out.under HB6.out) (HM.out.under HU.out).node).mono ?_
    rintro e w7 ⟨rfl, hb7⟩
    have HU := Lib.hid (HU.out.trans (hb7.mono HU.out.size))
    have HB7 := Lib.hid (HB.out.trans (HU.out.mono HB.out.size))
    rw [sameB_self]
    clear hb7 p0 p1 p2 p3 p4 q0 q1 q2 q3 q4
    obtain ⟨q0, q1, q2, q3, q4⟩ := HD.out.below HU.out HD.out.lt
    dsimp only at q0 q1 q2 q3 q4
    simp only [Nat.zero_add] at q0 q1 q2 q3 q4
    go_wp2_with fail
    refine (count_any ⟨xc, xt, xk, xa, xl, xm, ya, yl, ym⟩ T w7 (HM.out.under HU.out).node (by have := HG.out; omega) (by have := HG.out; omega)).mono ?_
    rintro e w8 ⟨rfl, hb8⟩
    have HU := Lib.hid (HU.out.trans (hb8.mono HU.out.size))
    clear hb8 q0 q1 q2 q3 q4
    obtain ⟨n, hnn⟩ : ∃ n, T.cnt = n := ⟨_, rfl⟩
    have hn0 : 0 < n := by rw [← hnn]; exact T.cnt_pos
    have hn1 : n ≤ 10000 := by rw [← hnn]; exact HG.out.2.1
    have HNN := Lib.hid hnn
    rw [hnn]
    have hrem : Int.tmod (k0 : Int) (n : Int) = ((k0 % n : Nat) : Int) := by rw [Int.tmod_eq_emod_of_nonneg (by omega)]; rfl
    have hlt : k0 % n < n := Nat.mod_lt _ hn0
    have hk0 := HKY.out.1
    obtain ⟨r, hr⟩ : ∃ r, k0 % n = r := ⟨_, rfl⟩
    rw [hr] at hrem hlt
    clear hnn hr
    obtain ⟨w9, hw9⟩ : ∃ u, w8.alloc (.cells #[.int .i64 0] 3) = u := ⟨_, rfl⟩
    have hb9 : Below w8.heap.size w8 w9 := by rw [← hw9]; exact (Below.refl _ _).alloc (Nat.le_refl _) _
    have hbx : Boxed w9 w8.heap.size 3 (.int .i64 ((0 : Nat) : Int)) := by rw [← hw9]; exact Boxed.new w8 3 (.int .i64 0)
    have HB9 := Lib.hid (And.intro hb9 hbx)
    clear hb9 hbx
    go_wp2_with fail
    clear hw9
    refine (pick_ok T.wt T (Nat.le_refl _) ⟨xc, xt, xk, xa, xl, xm, ya, yl, ym⟩ w8 w4.heap.size 0 (HM.out.under HU.out).node (HD.out.below HU.out HD.out.lt) w9 w8.heap.size 0 r (Nat.le_refl _) HB9.out.1 HB9.out.2 (Nat.zero_le _) (by have := HNN.out; omega) (by omega)).mono ?_
    rintro e w10 ⟨hb10, hf⟩
    rcases hf with ⟨i, pb, po, h1, h2, rfl, h4⟩ | ⟨h1, -, -⟩
    · have hfz8 : w8.heap[w4.heap.size]? = some (.cells #[.int .i64 xc, .int .i64 xt, .bool xk, .slice xa xl xm, .slice ya yl ym] 25) := (HU.out.block _ HD.out.lt).trans HF.out
      have hp := h4.puts (by decide : 5 ≠ 25) _ (HM.out.under HU.out) (fun h => Nat.lt_irrefl _ h.2) (fun x => by simp [World.frozen?, hfz8])
      obtain ⟨⟨vc, vt, vk, va, vl, vm, za, zl, zm⟩, hc0, ht0⟩ := hp.tag
      dsimp only at ht0
      have hcz := (hc0.below hb10 hc0.lt).c1
      dsimp only at hcz
      have hfz : w10.frozen? ⟨pb, po + 1, none⟩ = false := by have := hp.free; unfold World.frozen? at this ⊢; rw [hb10.block pb hc0.lt]; exact this
      have HPT := Lib.hid (And.intro hp (And.intro h2 (And.intro hc0.lt ht0)))
      have HB10 := Lib.hid hb10
      have HV := Lib.hid (tag_moves vt y0 HKY.out.2)
      have hy0 := HKY.out.2
      clear h1 h2 h4 hfz8 hp hc0 ht0 hb10 HB9 hrem hlt hk0 hn0 hn1
      go_upto_region 12 with fail
      obtain ⟨v, hv⟩ : ∃ v, wrap64 (wrap64 (vt + 1) + (y0 : Int)) = v := ⟨_, rfl⟩
      have hvn : v ≠ vt := by rw [← hv]; exact HV.out
      rw [hv]
      have HNS := Lib.hid (sameB_put HPT.out.2.1 (show v ≠ T.tagAt i by rw [← HPT.out.2.2.2]; exact hvn))
      obtain ⟨V', hcV, hnV⟩ := HPT.out.1.put w10 v (fun g hg => HB10.out.block g (by have := hg.2; have := HU.out.size; have := HZ5.out; omega)) ((HD.out.below HU.out HD.out.lt).below HB10.out (HD.out.below HU.out HD.out.lt).lt)
      have hpb : w1.heap.size ≤ pb := by
        have := HS34.out
        rcases HPT.out.1.blk with ⟨h, -⟩ | h
        · omega
        · have := h.1; omega
      have hbt : Below w1.heap.size w1 (w10.setCell ⟨pb, po + 1, none⟩ (.int .i64 v)) := ((HB.out.trans (HU.out.mono HB.out.size)).trans (HB10.out.mono (Nat.le_trans HB.out.size HU.out.size))).setCell (p := ⟨pb, po + 1, none⟩) hpb _
      obtain ⟨w11, hw11⟩ : ∃ u, w10.setCell ⟨pb, po + 1, none⟩ (.int .i64 v) = u := ⟨_, rfl⟩
      rw [hw11] at hcV hnV hbt ⊢
      have HBT := Lib.hid hbt
      have HNV := Lib.hid hnV
      have HCV := Lib.hid hcV
      have HGW := Lib.hid HG.out.1
      clear hw11 hv hvn hpb hbt hnV hcz hfz hy0 HPT HV HB10 HKY HG
      generalize T.put i v = T' at *
      obtain ⟨zc, zt, zk, za2, zl2, zm2, yb, yl2, ym2⟩ := V'
      have hd : Below w11.heap.size w11 w11.drew := ⟨rfl, rfl, rfl, Nat.le_refl _, fun _ _ => rfl⟩
      have HOK := Lib.hid (same_any T' T ⟨zc, zt, zk, za2, zl2, zm2, yb, yl2, ym2⟩ ⟨c, t, kk, ba, bl, bc, ka, kl, kc⟩ w11.drew (HNV.out.under hd) ((HN.out.under HBT.out).under hd))
      obtain ⟨q0, q1, q2, q3, q4⟩ := hcV
      obtain ⟨p0, p1, p2, p3, p4⟩ := HC.out.below HBT.out HC.out.lt
      dsimp only at p0 p1 p2 p3 p4 q0 q1 q2 q3 q4
      simp only [Nat.zero_add] at p0 p1 p2 p3 p4 q0 q1 q2 q3 q4
      clear hd
      rw [HNS.out] at HOK
      unfold NV.agg at HOK
      dsimp only at HOK
      refine wp_region_held_drew (S := fun W => W.cell? ⟨w.heap.size, 0, none⟩ = some (.int .i64 c) ∧ W.cell? ⟨w.heap.size, 1, none⟩ = some (.int .i64 t) ∧ W.cell? ⟨w.heap.size, 2, none⟩ = some (.bool kk) ∧ W.cell? ⟨w.heap.size, 3, none⟩ = some (.slice ba bl bc) ∧ W.cell? ⟨w.heap.size, 4, none⟩ = some (.slice ka kl kc) ∧
        W.cell? ⟨w4.heap.size, 0, none⟩ = some (.int .i64 zc) ∧ W.cell? ⟨w4.heap.size, 1, none⟩ = some (.int .i64 zt) ∧ W.cell? ⟨w4.heap.size, 2, none⟩ = some (.bool zk) ∧ W.cell? ⟨w4.heap.size, 3, none⟩ = some (.slice za2 zl2 zm2) ∧ W.cell? ⟨w4.heap.size, 4, none⟩ = some (.slice yb yl2 ym2)) (by kernel_rfl) ⟨p0, p1, p2, p3, p4, q0, q1, q2, q3, q4⟩ (fun hHeld => ?_)
      refine' tk 0 ?_
      try simp only [List.getElem_toArray, List.getElem_cons_succ, List.getElem_cons_zero, Act.put, List.setIfInBounds_toArray, List.set_cons_zero, List.set_cons_succ]
      refine' tk 1 ?_
      try simp only [List.getElem_toArray, List.getElem_cons_succ, List.getElem_cons_zero, Act.put, List.setIfInBounds_toArray, List.set_cons_zero, List.set_cons_succ]
      refine' tk 2 ?_
      try simp only [List.getElem_toArray, List.getElem_cons_succ, List.getElem_cons_zero, Act.put, List.setIfInBounds_toArray, List.set_cons_zero, List.set_cons_succ]
      refine' tk 3 ?_
      try simp only [List.getElem_toArray, List.getElem_cons_succ, List.getElem_cons_zero, Act.put, List.setIfInBounds_toArray, List.set_cons_zero, List.set_cons_succ]
      refine' tr 4 (fun K hK => ?_)
      try simp only [List.getElem_toArray, List.getElem_cons_succ, List.getElem_cons_zero]
      go_simp
      refine HOK.out.mono ?_
      rintro e w12 ⟨rfl, hbd⟩
      have hb12 : Below w11.heap.size w11 w12 := ⟨hbd.os, hbd.tape, hbd.output, hbd.size, hbd.block⟩
      have HBU := Lib.hid (HBT.out.trans (hb12.mono HBT.out.size))
      obtain ⟨q0, q1, q2, q3, q4⟩ := HCV.out.below hb12 HCV.out.lt
      obtain ⟨p0, p1, p2, p3, p4⟩ := HC.out.below HBU.out HC.out.lt
      dsimp only at p0 p1 p2 p3 p4 q0 q1 q2 q3 q4
      simp only [Nat.zero_add] at p0 p1 p2 p3 p4 q0 q1 q2 q3 q4
      clear hb12 hbd HOK
      go_wp2_with fail
      refine hK.out _ _ ⟨p0, p1, p2, p3, p4, q0, q1, q2, q3, q4⟩ (fun hHeld => ?_)
      clear hK K
      try simp only [List.getElem_toArray, List.getElem_cons_succ, List.getElem_cons_zero, Act.put, List.setIfInBounds_toArray, List.set_cons_zero, List.set_cons_succ]
      refine' tk 5 ?_
      try simp only [List.getElem_toArray, List.getElem_cons_succ, List.getElem_cons_zero, Act.put, List.setIfInBounds_toArray, List.set_cons_zero, List.set_cons_succ]
      refine' tk 6 ?_
      try simp only [List.getElem_toArray, List.getElem_cons_succ, List.getElem_cons_zero, Act.put, List.setIfInBounds_toArray, List.set_cons_zero, List.set_cons_succ]
      refine' tk 7 ?_
      try simp only [List.getElem_toArray, List.getElem_cons_succ, List.getElem_cons_zero, Act.put, List.setIfInBounds_toArray, List.set_cons_zero, List.set_cons_succ]
      refine' tk 8 ?_
      try simp only [List.getElem_toArray, List.getElem_cons_succ, List.getElem_cons_zero, Act.put, List.setIfInBounds_toArray, List.set_cons_zero, List.set_cons_succ]
      refine' tk 10 ?_
      try simp only [List.getElem_toArray, List.getElem_cons_succ, List.getElem_cons_zero, Act.put, List.setIfInBounds_toArray, List.set_cons_zero, List.set_cons_succ]
      refine' tr 9 (fun K hK => ?_)
      try simp only [List.getElem_toArray, List.getElem_cons_succ, List.getElem_cons_zero]
      go_simp
      refine (copy_any ⟨c, t, kk, ba, bl, bc, ka, kl, kc⟩ T w12 (HN.out.under HBU.out) (by have := HGW.out; omega)).mono ?_
      rintro e w13 ⟨⟨V3, rfl, hm3⟩, hb13⟩
      have HBU := Lib.hid (HBU.out.trans (hb13.mono HBU.out.size))
      have HCV2 := Lib.hid (And.intro (And.intro q0 q1) (And.intro q2 (And.intro q3 q4)))
      have HM3 := Lib.hid hm3.node
      have hq : ∀ i x, w12.cell? ⟨w4.heap.size, i, none⟩ = some x → w13.cell? ⟨w4.heap.size, i, none⟩ = some x := fun i x h => (hb13.cell (p := ⟨w4.heap.size, i, none⟩) (World.block_lt_of_cell? w12 _ h)).trans h
      have q0 := hq _ _ q0
      have q1 := hq _ _ q1
      have q2 := hq _ _ q2
      have q3 := hq _ _ q3
      have q4 := hq _ _ q4
      obtain ⟨p0, p1, p2, p3, p4⟩ := HC.out.below HBU.out HC.out.lt
      dsimp only at p0 p1 p2 p3 p4
      simp only [Nat.zero_add] at p0 p1 p2 p3 p4
      obtain ⟨mc, mt, mk, ma, ml, mm, na, nl, nm⟩ := V3
      unfold NV.agg
      dsimp only
      clear hb13 hm3 hq HCV2
      go_wp2_with fail
      refine hK.out _ _ ⟨p0, p1, p2, p3, p4, q0, q1, q2, q3, q4⟩ (fun hHeld => ?_)
      clear hK K
      try simp only [List.getElem_toArray, List.getElem_cons_succ, List.getElem_cons_zero, Act.put, List.setIfInBounds_toArray, List.set_cons_zero, List.set_cons_succ]
      refine' tr 11 (fun K hK => ?_)
      try simp only [List.getElem_toArray, List.getElem_cons_succ, List.getElem_cons_zero]
      go_simp
      refine (samr_any T T ⟨mc, mt, mk, ma, ml, mm, na, nl, nm⟩ ⟨c, t, kk, ba, bl, bc, ka, kl, kc⟩ w13 HM3.out (HN.out.under HBU.out)).mono ?_
      rintro e w14 ⟨rfl, hb14⟩
      have HBU := Lib.hid (HBU.out.trans (hb14.mono HBU.out.size))
      have hq : ∀ i x, w13.cell? ⟨w4.heap.size, i, none⟩ = some x → w14.cell? ⟨w4.heap.size, i, none⟩ = some x := fun i x h => (hb14.cell (p := ⟨w4.heap.size, i, none⟩) (World.block_lt_of_cell? w13 _ h)).trans h
      have q0 := hq _ _ q0
      have q1 := hq _ _ q1
      have q2 := hq _ _ q2
      have q3 := hq _ _ q3
      have q4 := hq _ _ q4
      obtain ⟨p0, p1, p2, p3, p4⟩ := HC.out.below HBU.out HC.out.lt
      dsimp only at p0 p1 p2 p3 p4
      simp only [Nat.zero_add] at p0 p1 p2 p3 p4
      rw [sameB_self]
      clear hb14 hq
      go_wp2_with fail
      refine hK.out _ _ ⟨p0, p1, p2, p3, p4, q0, q1, q2, q3, q4⟩ (fun hHeld => ?_)
      clear hK K
      try simp only [List.getElem_toArray, List.getElem_cons_succ, List.getElem_cons_zero, Act.put, List.setIfInBounds_toArray, List.set_cons_zero, List.set_cons_succ]
      refine' tk 12 ?_
      try simp only [List.getElem_toArray, List.getElem_cons_succ, List.getElem_cons_zero, Act.put, List.setIfInBounds_toArray, List.set_cons_zero, List.set_cons_succ]
      refine' tk 13 ?_
      try simp only [List.getElem_toArray, List.getElem_cons_succ, List.getElem_cons_zero, Act.put, List.setIfInBounds_toArray, List.set_cons_zero, List.set_cons_succ]
      refine wpAnyH_done (by kernel_rfl) ?_ _
      clear hHeld p0 p1 p2 p3 p4 q0 q1 q2 q3 q4
      go_wp2_with fail
      go_ret
      exact ⟨rfl, HB1.out.trans (HBU.out.mono (by have := HZ.out; omega))⟩
    · exact absurd h1 (by have := HNN.out; omega)

end Go.Proofs.YtbikghejedkkeaaDoor
