/-
  THE LAW TreeNames, WALKED.
-/
import Derived.Test.YtbikghejedkkeaaDoorTnF
namespace Go.Proofs.YtbikghejedkkeaaDoor
open Go.RowKit Go.Joins

structure WidI (w1 : World) (g j : Nat) (wx : World) : Prop where
  row : RowN wx g (.slice (some ⟨g, 0, none⟩) 3999 3999) (wideV 3999 j)
  below : Below g w1 wx
theorem wid_next {w1 : World} {g j : Nat} {wx : World} (h : WidI w1 g j wx) (hlt : j < 3999) : WidI w1 g (j + 1) (put5 wx g (j * 5) nullV) := by
  have hp := h.row.put j (by rw [wideV_length 3999 j (by omega)]; exact hlt) nullV
  rw [wideV_set 3999 j hlt] at hp
  exact ⟨hp.1, put5_below h.below (Nat.le_refl _) _ _⟩

structure ChnI (w : World) (b k : Nat) (wr : World) : Prop where
  node : ∃ V, CellsAt wr b 0 V ∧ MineT 5 25 wr (fun g => g ≠ b) V (chainT (k - 1))
  free : Open5 wr b
  below : Below w.heap.size w wr
  ge : w.heap.size ≤ b

set_option maxHeartbeats 40000000 in
set_option maxRecDepth 1000000 in
theorem names_walk (w : World) (hT : Tabs w) :
    Calls Tryd.prog 4 #[] w fun e w' => e = .returned (.bool true) ∧ Below w.heap.size w w' := by
  have HT := Lib.hid hT
  have HB0 := Lib.hid (Below.refl w.heap.size w)
  obtain ⟨w0, hw0⟩ : ∃ x, x = w := ⟨_, rfl⟩
  clear hT
  go_enter Tryd.func4, Tryd.ntmps4
  go_wp2_with fail
  refine (prim_any 0 16 .none 0 0 [] w (Reads.none .u8 _) (by simp) (by omega)).mono ?_
  rintro e w1 ⟨⟨V, rfl, hm⟩, hb⟩
  have HB1 := Lib.hid (HB0.out.trans (hb.mono HB0.out.size))
  have HM := Lib.hid hm.node
  obtain ⟨xc, xt, xk, xa, xl, xm, ya, yl, ym⟩ := V
  unfold NV.agg
  dsimp only
  clear hb HB0 hm
  go_wp2_with fail
  refine (isT_not ⟨xc, xt, xk, xa, xl, xm, ya, yl, ym⟩ _ w1 HM.out (by simp [Tr.cnt, cntL]) (by simp [Tr.dep, depL]) (tabs_below HT.out HB1.out) 3 0 (by kernel_rfl) (by decide)).mono ?_
  rintro e w2 ⟨rfl, hb⟩
  have HB2 := Lib.hid (HB1.out.trans (hb.mono HB1.out.size))
  clear hb HB1 HM
  go_wp2_with fail
  refine (cons_any 2 31 .none 0 0 [] w2 (nodes0 _) (by simp [wtL])).mono ?_
  rintro e w3 ⟨⟨V, rfl, hm⟩, hb⟩
  have HB3 := Lib.hid (HB2.out.trans (hb.mono HB2.out.size))
  have HM := Lib.hid hm.node
  obtain ⟨xc, xt, xk, xa, xl, xm, ya, yl, ym⟩ := V
  unfold NV.agg
  dsimp only
  clear hb HB2 hm
  go_wp2_with fail
  refine (isT_not ⟨xc, xt, xk, xa, xl, xm, ya, yl, ym⟩ _ w3 HM.out (by simp [Tr.cnt, cntL]) (by simp [Tr.dep, depL]) (tabs_below HT.out HB3.out) 1 0 (by kernel_rfl) (by decide)).mono ?_
  rintro e w4 ⟨rfl, hb⟩
  have HB4 := Lib.hid (HB3.out.trans (hb.mono HB3.out.size))
  clear hb HB3 HM
  go_wp2_with fail
  refine (prim_any 4 1 .none 0 0 [] w4 (Reads.none .u8 _) (by simp) (by omega)).mono ?_
  rintro e w5 ⟨⟨V, rfl, hm⟩, hb⟩
  have HB5 := Lib.hid (HB4.out.trans (hb.mono HB4.out.size))
  have HM := Lib.hid hm.node
  obtain ⟨xc, xt, xk, xa, xl, xm, ya, yl, ym⟩ := V
  unfold NV.agg
  dsimp only
  clear hb HB4 hm
  go_wp2_with fail
  refine (isT_not ⟨xc, xt, xk, xa, xl, xm, ya, yl, ym⟩ _ w5 HM.out (by simp [Tr.cnt, cntL]) (by simp [Tr.dep, depL]) (tabs_below HT.out HB5.out) 1 0 (by kernel_rfl) (by decide)).mono ?_
  rintro e w6 ⟨rfl, hb⟩
  have HB6 := Lib.hid (HB5.out.trans (hb.mono HB5.out.size))
  clear hb HB5 HM
  obtain ⟨w7, hwa⟩ : ∃ x, w6.alloc (.cells #[.int .u8 1] 5) = x := ⟨_, rfl⟩
  have hba : Below w6.heap.size w6 w7 := by rw [← hwa]; exact (Below.refl _ _).alloc (Nat.le_refl _) _
  have HB7 := Lib.hid (HB6.out.trans (hba.mono HB6.out.size))
  have HR := Lib.hid (show Reads .u8 w7 (some ⟨w6.heap.size, 0, none⟩) 1 1 [1] by rw [← hwa]; exact reads8_lit w6 _ [1] _ rfl (by unfold maxLen; simp))
  clear hba HB6
  go_wp2_with fail
  refine (isT_not ⟨0, 16, true, some ⟨w6.heap.size, 0, none⟩, 1, 1, none, 0, 0⟩ (.mk 0 16 true [1] []) w7 (NodeAt.of rfl rfl rfl HR.out (by decide) (nodes0 _)) (by simp [Tr.cnt, cntL]) (by simp [Tr.dep, depL]) (tabs_below HT.out HB7.out) 2 0 (by kernel_rfl) (by decide)).mono ?_
  rintro e w8 ⟨rfl, hb⟩
  have HB8 := Lib.hid (HB7.out.trans (hb.mono HB7.out.size))
  clear hb HB7 HR hwa
  obtain ⟨w9, hwa⟩ : ∃ x, w8.alloc (.cells #[.int .i64 0, .int .i64 0, .bool false, .slice none 0 0, .slice none 0 0] 25) = x := ⟨_, rfl⟩
  have hba : Below w8.heap.size w8 w9 := by rw [← hwa]; exact (Below.refl _ _).alloc (Nat.le_refl _) _
  have HB9 := Lib.hid (HB8.out.trans (hba.mono HB8.out.size))
  have HR := Lib.hid (show NodesAt w9 (some ⟨w8.heap.size, 0, none⟩) 1 1 [.mk 0 0 false [] []] by rw [← hwa]; exact nodes1 w8 zeroV _ (NodeAt.of rfl rfl rfl (Reads.none .u8 _) (fun x hx => by cases hx) (nodes0 _)) _)
  clear hba HB8
  go_wp2_with fail
  refine (isT_not ⟨0, 4, false, none, 0, 0, some ⟨w8.heap.size, 0, none⟩, 1, 1⟩ (.mk 0 4 false [] [.mk 0 0 false [] []]) w9 (NodeAt.of rfl rfl rfl (Reads.none .u8 _) (fun x hx => by cases hx) HR.out) (by simp [Tr.cnt, cntL]) (by simp [Tr.dep, depL]) (tabs_below HT.out HB9.out) 2 0 (by kernel_rfl) (by decide)).mono ?_
  rintro e w10 ⟨rfl, hb⟩
  have HB10 := Lib.hid (HB9.out.trans (hb.mono HB9.out.size))
  clear hb HB9 HR hwa
  go_wp2_with fail
  refine (cons_any 0 4 .none 0 0 [] w10 (nodes0 _) (by simp [wtL])).mono ?_
  rintro e w11 ⟨⟨V, rfl, hm⟩, hb⟩
  have HB11 := Lib.hid (HB10.out.trans (hb.mono HB10.out.size))
  have HM := Lib.hid hm.node
  obtain ⟨xc, xt, xk, xa, xl, xm, ya, yl, ym⟩ := V
  unfold NV.agg
  dsimp only
  clear hb HB10 hm
  go_wp2_with fail
  refine (isT_not ⟨xc, xt, xk, xa, xl, xm, ya, yl, ym⟩ _ w11 HM.out (by simp [Tr.cnt, cntL]) (by simp [Tr.dep, depL]) (tabs_below HT.out HB11.out) 3 0 (by kernel_rfl) (by decide)).mono ?_
  rintro e w12 ⟨rfl, hb⟩
  have HB12 := Lib.hid (HB11.out.trans (hb.mono HB11.out.size))
  clear hb HB11 HM
  go_wp2_with fail
  refine (prim_any 0 7 .none 0 0 [] w12 (Reads.none .u8 _) (by simp) (by omega)).mono ?_
  rintro e w13 ⟨⟨V, rfl, hm⟩, hb⟩
  have HB13 := Lib.hid (HB12.out.trans (hb.mono HB12.out.size))
  have HM := Lib.hid hm.node
  obtain ⟨xc, xt, xk, xa, xl, xm, ya, yl, ym⟩ := V
  unfold NV.agg
  dsimp only
  clear hb HB12 hm
  go_wp2_with fail
  refine (isT_not ⟨xc, xt, xk, xa, xl, xm, ya, yl, ym⟩ _ w13 HM.out (by simp [Tr.cnt, cntL]) (by simp [Tr.dep, depL]) (tabs_below HT.out HB13.out) 3 0 (by kernel_rfl) (by decide)).mono ?_
  rintro e w14 ⟨rfl, hb⟩
  have HB14 := Lib.hid (HB13.out.trans (hb.mono HB13.out.size))
  clear hb HB13 HM
  obtain ⟨w15, hwa⟩ : ∃ x, w14.alloc (.cells #[.int .u8 1] 5) = x := ⟨_, rfl⟩
  have hba : Below w14.heap.size w14 w15 := by rw [← hwa]; exact (Below.refl _ _).alloc (Nat.le_refl _) _
  have HB15 := Lib.hid (HB14.out.trans (hba.mono HB14.out.size))
  have HR := Lib.hid (show Reads .u8 w15 (some ⟨w14.heap.size, 0, none⟩) 1 1 [1] by rw [← hwa]; exact reads8_lit w14 _ [1] _ rfl (by unfold maxLen; simp))
  clear hba HB14
  go_wp2_with fail
  refine (prim_any 2 7 _ 1 1 [1] w15 HR.out (by decide) (by omega)).mono ?_
  rintro e w16 ⟨⟨V, rfl, hm⟩, hb⟩
  have HB16 := Lib.hid (HB15.out.trans (hb.mono HB15.out.size))
  have HM := Lib.hid hm.node
  obtain ⟨xc, xt, xk, xa, xl, xm, ya, yl, ym⟩ := V
  unfold NV.agg
  dsimp only
  clear hb HB15 hm
  clear hwa HR
  go_wp2_with fail
  refine (isT_fine ⟨xc, xt, xk, xa, xl, xm, ya, yl, ym⟩ _ w16 HM.out (by simp [Tr.cnt, cntL]) (by simp [Tr.dep, depL]) (tabs_below HT.out HB16.out) (by kernel_rfl)).mono ?_
  rintro e w17 ⟨rfl, hb⟩
  have HB17 := Lib.hid (HB16.out.trans (hb.mono HB16.out.size))
  clear hb HB16 HM
  go_wp2_with fail
  refine (cons_any 1 7 .none 0 0 [] w17 (nodes0 _) (by simp [wtL])).mono ?_
  rintro e w18 ⟨⟨V, rfl, hm⟩, hb⟩
  have HB18 := Lib.hid (HB17.out.trans (hb.mono HB17.out.size))
  have HM := Lib.hid hm.node
  obtain ⟨xc, xt, xk, xa, xl, xm, ya, yl, ym⟩ := V
  unfold NV.agg
  dsimp only
  clear hb HB17 hm
  go_wp2_with fail
  refine (isT_fine ⟨xc, xt, xk, xa, xl, xm, ya, yl, ym⟩ _ w18 HM.out (by simp [Tr.cnt, cntL]) (by simp [Tr.dep, depL]) (tabs_below HT.out HB18.out) (by kernel_rfl)).mono ?_
  rintro e w19 ⟨rfl, hb⟩
  have HB19 := Lib.hid (HB18.out.trans (hb.mono HB18.out.size))
  clear hb HB18 HM
  go_wp2_with fail
  refine (ex_a0 w19 (tabs_below HT.out HB19.out)).mono ?_
  rintro e w20 ⟨rfl, hb⟩
  have HB20 := Lib.hid (HB19.out.trans (hb.mono HB19.out.size))
  clear hb HB19
  go_wp2_with fail
  refine (ex_a1 w20 (tabs_below HT.out HB20.out)).mono ?_
  rintro e w21 ⟨rfl, hb⟩
  have HB21 := Lib.hid (HB20.out.trans (hb.mono HB20.out.size))
  clear hb HB20
  go_wp2_with fail
  refine (ex_a2 w21 (tabs_below HT.out HB21.out)).mono ?_
  rintro e w22 ⟨rfl, hb⟩
  have HB22 := Lib.hid (HB21.out.trans (hb.mono HB21.out.size))
  clear hb HB21
  go_wp2_with fail
  refine (ex_a3 w22 (tabs_below HT.out HB22.out)).mono ?_
  rintro e w23 ⟨rfl, hb⟩
  have HB23 := Lib.hid (HB22.out.trans (hb.mono HB22.out.size))
  clear hb HB22
  go_wp2_with fail
  refine (ex_a4 w23 (tabs_below HT.out HB23.out)).mono ?_
  rintro e w24 ⟨rfl, hb⟩
  have HB24 := Lib.hid (HB23.out.trans (hb.mono HB23.out.size))
  clear hb HB23
  go_wp2_with fail
  refine (ex_a5 w24 (tabs_below HT.out HB24.out)).mono ?_
  rintro e w25 ⟨rfl, hb⟩
  have HB25 := Lib.hid (HB24.out.trans (hb.mono HB24.out.size))
  clear hb HB24
  go_wp2_with fail
  refine (ex_a6 w25 (tabs_below HT.out HB25.out)).mono ?_
  rintro e w26 ⟨rfl, hb⟩
  have HB26 := Lib.hid (HB25.out.trans (hb.mono HB25.out.size))
  clear hb HB25
  go_wp2_with fail
  refine (ex_a7 w26 (tabs_below HT.out HB26.out)).mono ?_
  rintro e w27 ⟨rfl, hb⟩
  have HB27 := Lib.hid (HB26.out.trans (hb.mono HB26.out.size))
  clear hb HB26
  go_wp2_with fail
  refine (ex_a8 w27 (tabs_below HT.out HB27.out)).mono ?_
  rintro e w28 ⟨rfl, hb⟩
  have HB28 := Lib.hid (HB27.out.trans (hb.mono HB27.out.size))
  clear hb HB27
  go_wp2_with fail
  refine (ex_a9 w28 (tabs_below HT.out HB28.out)).mono ?_
  rintro e w29 ⟨rfl, hb⟩
  have HB29 := Lib.hid (HB28.out.trans (hb.mono HB28.out.size))
  clear hb HB28
  go_wp2_with fail
  refine (ex_a10 w29 (tabs_below HT.out HB29.out)).mono ?_
  rintro e w30 ⟨rfl, hb⟩
  have HB30 := Lib.hid (HB29.out.trans (hb.mono HB29.out.size))
  clear hb HB29
  go_wp2_with fail
  refine (ex_a11 w30 (tabs_below HT.out HB30.out)).mono ?_
  rintro e w31 ⟨rfl, hb⟩
  have HB31 := Lib.hid (HB30.out.trans (hb.mono HB30.out.size))
  clear hb HB30
  go_wp2_with fail
  refine (ex_a12 w31 (tabs_below HT.out HB31.out)).mono ?_
  rintro e w32 ⟨rfl, hb⟩
  have HB32 := Lib.hid (HB31.out.trans (hb.mono HB31.out.size))
  clear hb HB31
  go_wp2_with fail
  refine (ex_a13 w32 (tabs_below HT.out HB32.out)).mono ?_
  rintro e w33 ⟨rfl, hb⟩
  have HB33 := Lib.hid (HB32.out.trans (hb.mono HB32.out.size))
  clear hb HB32
  go_wp2_with fail
  refine (ex_a14 w33 (tabs_below HT.out HB33.out)).mono ?_
  rintro e w34 ⟨rfl, hb⟩
  have HB34 := Lib.hid (HB33.out.trans (hb.mono HB33.out.size))
  clear hb HB33
  go_wp2_with fail
  refine (ex_a15 w34 (tabs_below HT.out HB34.out)).mono ?_
  rintro e w35 ⟨rfl, hb⟩
  have HB35 := Lib.hid (HB34.out.trans (hb.mono HB34.out.size))
  clear hb HB34
  go_wp2_with fail
  refine (ex_a16 w35 (tabs_below HT.out HB35.out)).mono ?_
  rintro e w36 ⟨rfl, hb⟩
  have HB36 := Lib.hid (HB35.out.trans (hb.mono HB35.out.size))
  clear hb HB35
  go_wp2_with fail
  refine (ex_a17 w36 (tabs_below HT.out HB36.out)).mono ?_
  rintro e w37 ⟨rfl, hb⟩
  have HB37 := Lib.hid (HB36.out.trans (hb.mono HB36.out.size))
  clear hb HB36
  go_wp2_with fail
  refine (ex_a18 w37 (tabs_below HT.out HB37.out)).mono ?_
  rintro e w38 ⟨rfl, hb⟩
  have HB38 := Lib.hid (HB37.out.trans (hb.mono HB37.out.size))
  clear hb HB37
  go_wp2_with fail
  refine (ex_a19 w38 (tabs_below HT.out HB38.out)).mono ?_
  rintro e w39 ⟨rfl, hb⟩
  have HB39 := Lib.hid (HB38.out.trans (hb.mono HB38.out.size))
  clear hb HB38
  go_wp2_with fail
  refine (ex_a20 w39 (tabs_below HT.out HB39.out)).mono ?_
  rintro e w40 ⟨rfl, hb⟩
  have HB40 := Lib.hid (HB39.out.trans (hb.mono HB39.out.size))
  clear hb HB39
  go_wp2_with fail
  refine (ex_a21 w40 (tabs_below HT.out HB40.out)).mono ?_
  rintro e w41 ⟨rfl, hb⟩
  have HB41 := Lib.hid (HB40.out.trans (hb.mono HB40.out.size))
  clear hb HB40
  go_wp2_with fail
  refine (ex_b0 w41 (tabs_below HT.out HB41.out)).mono ?_
  rintro e w42 ⟨rfl, hb⟩
  have HB42 := Lib.hid (HB41.out.trans (hb.mono HB41.out.size))
  clear hb HB41
  go_wp2_with fail
  refine (ex_b1 w42 (tabs_below HT.out HB42.out)).mono ?_
  rintro e w43 ⟨rfl, hb⟩
  have HB43 := Lib.hid (HB42.out.trans (hb.mono HB42.out.size))
  clear hb HB42
  go_wp2_with fail
  refine (ex_b2 w43 (tabs_below HT.out HB43.out)).mono ?_
  rintro e w44 ⟨rfl, hb⟩
  have HB44 := Lib.hid (HB43.out.trans (hb.mono HB43.out.size))
  clear hb HB43
  go_wp2_with fail
  refine (ex_b3 w44 (tabs_below HT.out HB44.out)).mono ?_
  rintro e w45 ⟨rfl, hb⟩
  have HB45 := Lib.hid (HB44.out.trans (hb.mono HB44.out.size))
  clear hb HB44
  go_wp2_with fail
  refine (ex_b4 w45 (tabs_below HT.out HB45.out)).mono ?_
  rintro e w46 ⟨rfl, hb⟩
  have HB46 := Lib.hid (HB45.out.trans (hb.mono HB45.out.size))
  clear hb HB45
  go_wp2_with fail
  refine (ex_b5 w46 (tabs_below HT.out HB46.out)).mono ?_
  rintro e w47 ⟨rfl, hb⟩
  have HB47 := Lib.hid (HB46.out.trans (hb.mono HB46.out.size))
  clear hb HB46
  go_wp2_with fail
  refine (ex_b6 w47 (tabs_below HT.out HB47.out)).mono ?_
  rintro e w48 ⟨rfl, hb⟩
  have HB48 := Lib.hid (HB47.out.trans (hb.mono HB47.out.size))
  clear hb HB47
  go_wp2_with fail
  refine (ex_b7 w48 (tabs_below HT.out HB48.out)).mono ?_
  rintro e w49 ⟨rfl, hb⟩
  have HB49 := Lib.hid (HB48.out.trans (hb.mono HB48.out.size))
  clear hb HB48
  go_wp2_with fail
  refine (ex_b8 w49 (tabs_below HT.out HB49.out)).mono ?_
  rintro e w50 ⟨rfl, hb⟩
  have HB50 := Lib.hid (HB49.out.trans (hb.mono HB49.out.size))
  clear hb HB49
  go_wp2_with fail
  refine (ex_c0 w50 (tabs_below HT.out HB50.out)).mono ?_
  rintro e w51 ⟨rfl, hb⟩
  have HB51 := Lib.hid (HB50.out.trans (hb.mono HB50.out.size))
  clear hb HB50
  go_wp2_with fail
  refine (ex_c1 w51 (tabs_below HT.out HB51.out)).mono ?_
  rintro e w52 ⟨rfl, hb⟩
  have HB52 := Lib.hid (HB51.out.trans (hb.mono HB51.out.size))
  clear hb HB51
  go_wp2_with fail
  refine (ex_c2 w52 (tabs_below HT.out HB52.out)).mono ?_
  rintro e w53 ⟨rfl, hb⟩
  have HB53 := Lib.hid (HB52.out.trans (hb.mono HB52.out.size))
  clear hb HB52
  go_wp2_with fail
  refine (ex_c3 w53 (tabs_below HT.out HB53.out)).mono ?_
  rintro e w54 ⟨rfl, hb⟩
  have HB54 := Lib.hid (HB53.out.trans (hb.mono HB53.out.size))
  clear hb HB53
  go_wp2_with fail
  refine (ex_c4 w54 (tabs_below HT.out HB54.out)).mono ?_
  rintro e w55 ⟨rfl, hb⟩
  have HB55 := Lib.hid (HB54.out.trans (hb.mono HB54.out.size))
  clear hb HB54
  go_wp2_with fail
  refine (ex_c5 w55 (tabs_below HT.out HB55.out)).mono ?_
  rintro e w56 ⟨rfl, hb⟩
  have HB56 := Lib.hid (HB55.out.trans (hb.mono HB55.out.size))
  clear hb HB55
  go_wp2_with fail
  refine (ex_c6 w56 (tabs_below HT.out HB56.out)).mono ?_
  rintro e w57 ⟨rfl, hb⟩
  have HB57 := Lib.hid (HB56.out.trans (hb.mono HB56.out.size))
  clear hb HB56
  go_wp2_with fail
  refine (ex_c7 w57 (tabs_below HT.out HB57.out)).mono ?_
  rintro e w58 ⟨rfl, hb⟩
  have HB58 := Lib.hid (HB57.out.trans (hb.mono HB57.out.size))
  clear hb HB57
  go_wp2_with fail
  refine (ex_c8 w58 (tabs_below HT.out HB58.out)).mono ?_
  rintro e w59 ⟨rfl, hb⟩
  have HB59 := Lib.hid (HB58.out.trans (hb.mono HB58.out.size))
  clear hb HB58
  go_wp2_with fail
  refine (ex_c9 w59 (tabs_below HT.out HB59.out)).mono ?_
  rintro e w60 ⟨rfl, hb⟩
  have HB60 := Lib.hid (HB59.out.trans (hb.mono HB59.out.size))
  clear hb HB59
  go_wp2_with fail
  refine (ex_c10 w60 (tabs_below HT.out HB60.out)).mono ?_
  rintro e w61 ⟨rfl, hb⟩
  have HB61 := Lib.hid (HB60.out.trans (hb.mono HB60.out.size))
  clear hb HB60
  go_wp2_with fail
  refine (ex_c11 w61 (tabs_below HT.out HB61.out)).mono ?_
  rintro e w62 ⟨rfl, hb⟩
  have HB62 := Lib.hid (HB61.out.trans (hb.mono HB61.out.size))
  clear hb HB61
  go_wp2_with fail
  refine (ex_c12 w62 (tabs_below HT.out HB62.out)).mono ?_
  rintro e w63 ⟨rfl, hb⟩
  have HB63 := Lib.hid (HB62.out.trans (hb.mono HB62.out.size))
  clear hb HB62
  go_wp2_with fail
  refine (ex_c13 w63 (tabs_below HT.out HB63.out)).mono ?_
  rintro e w64 ⟨rfl, hb⟩
  have HB64 := Lib.hid (HB63.out.trans (hb.mono HB63.out.size))
  clear hb HB63
  go_wp2_with fail
  refine (ex_c14 w64 (tabs_below HT.out HB64.out)).mono ?_
  rintro e w65 ⟨rfl, hb⟩
  have HB65 := Lib.hid (HB64.out.trans (hb.mono HB64.out.size))
  clear hb HB64
  go_wp2_with fail
  refine (ex_c15 w65 (tabs_below HT.out HB65.out)).mono ?_
  rintro e w66 ⟨rfl, hb⟩
  have HB66 := Lib.hid (HB65.out.trans (hb.mono HB65.out.size))
  clear hb HB65
  go_wp2_with fail
  refine (int_any 1 w66 (by decide) (by decide)).mono ?_
  rintro e w67 ⟨⟨V, rfl, hm⟩, hb⟩
  have HB67 := Lib.hid (HB66.out.trans (hb.mono HB66.out.size))
  obtain ⟨xc, xt, xk, xa, xl, xm, ya, yl, ym⟩ := V
  unfold NV.agg
  dsimp only
  rw [show intL 1 = [1] by decide] at hm
  have HM := Lib.hid hm
  clear hb HB66 hm
  obtain ⟨w68, hwa⟩ : ∃ x, w67.alloc (.cells #[.int .i64 xc, .int .i64 xt, .bool xk, .slice xa xl xm, .slice ya yl ym] 25) = x := ⟨_, rfl⟩
  have hba : Below w67.heap.size w67 w68 := by rw [← hwa]; exact (Below.refl _ _).alloc (Nat.le_refl _) _
  have HB68 := Lib.hid (HB67.out.trans (hba.mono HB67.out.size))
  have HST := Lib.hid (show ChnI w w67.heap.size 1 w68 from ⟨⟨⟨xc, xt, xk, xa, xl, xm, ya, yl, ym⟩, by rw [← hwa]; exact cells5 _ _ _ _ _ _ _ _ _ _ _, (HM.out.narrow.under hba).wide fun g hg => by have := hg.2; omega⟩, by rw [← hwa]; exact open5_new _ _ _ _ _ _ _ _ _ _ _, HB68.out, HB67.out.size⟩)
  clear hba HM HB67
  go_wp2_with fail
  clear hwa
  generalize w67.heap.size = bx at HST ⊢
  go_loopw [6] (fun i wr => ∃ (k : Nat), 1 ≤ k ∧ k ≤ 24 ∧ i = .int .i64 (k : Int) ∧ ChnI w bx k wr) (fun i _ => 24 - (intOf i).toNat)
  case atStart => exact ⟨1, Nat.le_refl _, by omega, rfl, HST.out⟩
  case round =>
    clear HST HB68
    obtain ⟨k, hk1, hk, rfl, hr⟩ := hrel
    obtain ⟨⟨V, hc, hm⟩, ho, hbw, hge⟩ := hr
    obtain ⟨xc, xt, xk, xa, xl, xm, ya, yl, ym⟩ := V
    have HC := Lib.hid hc
    have HM := Lib.hid hm
    have HO := Lib.hid ho
    have HBr := Lib.hid hbw
    have HGE := Lib.hid hge
    obtain ⟨r0, r1, r2, r3, r4⟩ := hc
    dsimp only at r0 r1 r2 r3 r4
    simp only [Nat.zero_add] at r0 r1 r2 r3 r4
    clear hm ho hbw hge
    by_cases hlt : k < 24
    · obtain ⟨j, rfl⟩ : ∃ j, k = j + 1 := ⟨k - 1, by omega⟩
      obtain ⟨u1, hu1⟩ : ∃ x, wr.alloc (.cells #[.int .i64 xc, .int .i64 xt, .bool xk, .slice xa xl xm, .slice ya yl ym] 25) = x := ⟨_, rfl⟩
      have hb1 : Below wr.heap.size wr u1 := by rw [← hu1]; exact (Below.refl _ _).alloc (Nat.le_refl _) _
      have HCN := Lib.hid (cons_any 0 16 (some ⟨wr.heap.size, 0, none⟩) 1 1 [chainT j] u1 (by rw [← hu1]; exact nodes1 wr ⟨xc, xt, xk, xa, xl, xm, ya, yl, ym⟩ (chainT j) HM.out.node _) (by simp only [wtL, chainT_wt]; omega))
      have HB1 := Lib.hid hb1
      have HLT := Lib.hid HC.out.lt
      clear hb1
      go_wp2_with fail
      clear hu1
      refine HCN.out.mono ?_
      rintro e u2 ⟨⟨V2, rfl, hm2⟩, hb2⟩
      obtain ⟨zc, zt, zk, za, zl, zm, ua, ul, um⟩ := V2
      unfold NV.agg
      dsimp only
      have hb02 : Below wr.heap.size wr u2 := HB1.out.trans (hb2.mono HB1.out.size)
      obtain ⟨g0, g1, g2, g3, g4⟩ := HO.out.below hb02 HLT.out
      obtain ⟨s0, s1, s2, s3, s4⟩ := HC.out.below hb02 HLT.out
      dsimp only at s0 s1 s2 s3 s4
      simp only [Nat.zero_add] at s0 s1 s2 s3 s4
      have HN := Lib.hid (show ChnI w bx (j + 1 + 1) (putNode u2 bx ⟨zc, zt, zk, za, zl, zm, ua, ul, um⟩) from
        ⟨⟨⟨zc, zt, zk, za, zl, zm, ua, ul, um⟩, putNode_cells u2 bx _ s0 s1 s2 s3 s4, (hm2.heap (fun g hg => putNode_heap _ _ _ _ (by have := HLT.out; have := HB1.out.size; omega))).wide fun g hg => by have := HLT.out; have := HB1.out.size; omega⟩,
          (HO.out.below hb02 HLT.out).put bx _, putNode_below (HBr.out.trans (hb02.mono HBr.out.size)) HGE.out _, HGE.out⟩)
      clear hb2 hm2 hb02 HCN
      go_wp2_with fail
      go_roundw
      case rel => exact ⟨j + 1 + 1, by omega, by omega, by go_num, HN.out⟩
      case measure => simp [intOf]; omega
    · obtain rfl : k = 24 := by omega
      clear hlt hk hk1
      have HNC := Lib.hid (show NodeAt wr ⟨xc, xt, xk, xa, xl, xm, ya, yl, ym⟩ (chainT 23) from HM.out.node)
      obtain ⟨i0, hi, hz0, hz1, hz2⟩ := info_parts Tryd.infoNode
      obtain ⟨g, hg⟩ : ∃ g, wr.heap.size = g := ⟨_, rfl⟩
      obtain ⟨wm, hmk0, hown, hgrow⟩ := run_make_full (P := Tryd.prog) wr wr.heap.size 23 25 i0 _ 5 Tryd.underlying23 hi hz0 hz1 .i64 .i64 3999 (by rw [hz2]; omega) (by unfold maxLen; omega) (Nat.le_refl _)
      have hmk : (Instr.makeSlice 23 (.int .i64 3999) (.int .i64 3999)).run Tryd.prog wr = .ok (.slice (some ⟨g, 0, none⟩) 3999 3999) wm := by rw [← hg]; exact hmk0
      have HW0 := Lib.hid (show WidI wr g 0 wm from ⟨made_row 3999 (by rw [← hg]; exact hown), by rw [← hg]; exact (Below.refl _ _).grown hgrow (Nat.le_refl _) (fun k hk => by cases hk)⟩)
      have HG := Lib.hid hg
      have HI := Lib.hid (And.intro hi (And.intro hz0 (And.intro hz1 hz2)))
      have HBX := Lib.hid (show bx < g by rw [← hg]; exact HC.out.lt)
      have HGW := Lib.hid (show w.heap.size ≤ g by rw [← hg]; exact HBr.out.size)
      clear hmk0 hown hgrow hg hi hz0 hz1 hz2 HM HO r0 r1 r2 r3 r4
      go_wp2_with fail
      clear hmk
      go_loopw [202] (fun i wx => ∃ (j : Nat), j ≤ 3999 ∧ i = .int .i64 (j : Int) ∧ WidI wr g j wx) (fun i _ => 3999 - (intOf i).toNat)
      case atStart => exact ⟨0, by omega, rfl, HW0.out⟩
      case round =>
        clear HW0
        obtain ⟨j, hj, rfl, hr⟩ := hrel
        rename World => wx
        have HR := Lib.hid hr
        clear hr
        by_cases hlt : j < 3999
        · have hjz : (j : Int) < 3999 := by omega
          obtain ⟨r0, r1, r2, r3, r4⟩ := HR.out.row.at j zeroV (wideV_get 3999 j hlt)
          have f0 := HR.out.row.freeAt (j * 5)
          have f1 := HR.out.row.freeAt (j * 5 + 1)
          have f2 := HR.out.row.freeAt (j * 5 + 2)
          have f3 := HR.out.row.freeAt (j * 5 + 3)
          have f4 := HR.out.row.freeAt (j * 5 + 4)
          dsimp only [zeroV] at r0 r1 r2 r3 r4
          have HN := Lib.hid (wid_next HR.out hlt)
          go_wp2_with fail
          go_roundw
          case rel => exact ⟨j + 1, by omega, by go_num, HN.out⟩
          case measure => simp [intOf]; omega
        · obtain rfl : j = 3999 := by omega
          clear hlt hj
          have HX := Lib.hid (HBr.out.trans (HR.out.below.mono HGW.out))
          have HCX := Lib.hid (HC.out.below HR.out.below HBX.out)
          have HNX := Lib.hid (HNC.out.under (by rw [HG.out]; exact HR.out.below))
          have HRW := Lib.hid (show RowN wx g (.slice (some ⟨g, 0, none⟩) 3999 3999) (List.replicate 3999 nullV) by rw [← wideV_full]; exact HR.out.row)
          have HTX := Lib.hid (tabs_below HT.out HX.out)
          have HU0 := Lib.hid (Below.refl wx.heap.size wx)
          clear HC HNC HR HG
          obtain ⟨p0, p1, p2, p3, p4⟩ := HCX.out.below HU0.out HCX.out.lt
          dsimp only at p0 p1 p2 p3 p4
          simp only [Nat.zero_add] at p0 p1 p2 p3 p4
          have HCT := Lib.hid (show Calls Tryd.prog 13 #[NV.agg ⟨xc, xt, xk, xa, xl, xm, ya, yl, ym⟩] wx fun e w' => e = .returned (.tuple #[.int .i64 24, .int .i64 24]) ∧ Below wx.heap.size wx w' by have := count_any ⟨xc, xt, xk, xa, xl, xm, ya, yl, ym⟩ (chainT 23) wx HNX.out (by rw [chainT_cnt]; omega) (by rw [chainT_dep]; omega); rw [chainT_cnt, chainT_dep] at this; exact this)
          unfold NV.agg at HCT
          dsimp only at HCT
          go_wp2_with fail
          refine HCT.out.mono ?_
          rintro e v1 ⟨rfl, hb⟩
          have HU1 := Lib.hid (HU0.out.trans (hb.mono HU0.out.size))
          clear hb HU0 HCT p0 p1 p2 p3 p4
          obtain ⟨v2, hwa⟩ : ∃ x, v1.alloc (.cells #[.int .u8 128, .int .u8 0, .int .u8 0, .int .u8 0, .int .u8 0, .int .u8 0, .int .u8 0, .int .u8 0] 5) = x := ⟨_, rfl⟩
          have hba : Below v1.heap.size v1 v2 := by rw [← hwa]; exact (Below.refl _ _).alloc (Nat.le_refl _) _
          have HU2 := Lib.hid (HU1.out.trans (hba.mono HU1.out.size))
          have HRD := Lib.hid (show Reads .u8 v2 (some ⟨v1.heap.size, 0, none⟩) 8 8 [128, 0, 0, 0, 0, 0, 0, 0] by rw [← hwa]; exact reads8_lit v1 _ [128, 0, 0, 0, 0, 0, 0, 0] _ rfl (by unfold maxLen; simp))
          clear hba HU1
          go_wp2_with fail
          refine (prim_any 0 2 _ 8 8 [128, 0, 0, 0, 0, 0, 0, 0] v2 HRD.out (by decide) (by omega)).mono ?_
          rintro e v3 ⟨⟨V, rfl, hm⟩, hb⟩
          have HU3 := Lib.hid (HU2.out.trans (hb.mono HU2.out.size))
          have HM := Lib.hid hm.node
          obtain ⟨zc, zt, zk, za, zl, zm, ua, ul, um⟩ := V
          unfold NV.agg
          dsimp only
          clear hb HU2 hm
          clear hwa HRD
          have HAI := Lib.hid (asInt_yes 2 (.inl rfl) [128, 0, 0, 0, 0, 0, 0, 0] (by decide) (by decide) ⟨zc, zt, zk, za, zl, zm, ua, ul, um⟩ v3 HM.out)
          rw [show valI [128, 0, 0, 0, 0, 0, 0, 0] = -9223372036854775808 by decide] at HAI
          unfold NV.agg at HAI
          dsimp only at HAI
          go_wp2_with fail
          refine HAI.out.mono ?_
          rintro e v4 ⟨rfl, hb⟩
          have HU4 := Lib.hid (HU3.out.trans (hb.mono HU3.out.size))
          clear hb HU3 HAI HM
          obtain ⟨v5, hwa⟩ : ∃ x, v4.alloc (.cells #[.int .u8 0, .int .u8 128, .int .u8 0, .int .u8 0, .int .u8 0, .int .u8 0, .int .u8 0, .int .u8 0, .int .u8 0] 5) = x := ⟨_, rfl⟩
          have hba : Below v4.heap.size v4 v5 := by rw [← hwa]; exact (Below.refl _ _).alloc (Nat.le_refl _) _
          have HU5 := Lib.hid (HU4.out.trans (hba.mono HU4.out.size))
          have HRD := Lib.hid (show Reads .u8 v5 (some ⟨v4.heap.size, 0, none⟩) 9 9 [0, 128, 0, 0, 0, 0, 0, 0, 0] by rw [← hwa]; exact reads8_lit v4 _ [0, 128, 0, 0, 0, 0, 0, 0, 0] _ rfl (by unfold maxLen; simp))
          clear hba HU4
          go_wp2_with fail
          refine (prim_any 0 2 _ 9 9 [0, 128, 0, 0, 0, 0, 0, 0, 0] v5 HRD.out (by decide) (by omega)).mono ?_
          rintro e v6 ⟨⟨V, rfl, hm⟩, hb⟩
          have HU6 := Lib.hid (HU5.out.trans (hb.mono HU5.out.size))
          have HM := Lib.hid hm.node
          obtain ⟨zc, zt, zk, za, zl, zm, ua, ul, um⟩ := V
          unfold NV.agg
          dsimp only
          clear hb HU5 hm
          clear hwa HRD
          go_wp2_with fail
          refine (asInt_no ⟨zc, zt, zk, za, zl, zm, ua, ul, um⟩ _ v6 HM.out (.inr ⟨rfl, rfl, by decide⟩)).mono ?_
          rintro e v7 ⟨rfl, hb⟩
          have HU7 := Lib.hid (HU6.out.trans (hb.mono HU6.out.size))
          clear hb HU6 HM
          obtain ⟨v8, hwa⟩ : ∃ x, v7.alloc (.cells #[.int .u8 1] 5) = x := ⟨_, rfl⟩
          have hba : Below v7.heap.size v7 v8 := by rw [← hwa]; exact (Below.refl _ _).alloc (Nat.le_refl _) _
          have HU8 := Lib.hid (HU7.out.trans (hba.mono HU7.out.size))
          have HRD := Lib.hid (show Reads .u8 v8 (some ⟨v7.heap.size, 0, none⟩) 1 1 [1] by rw [← hwa]; exact reads8_lit v7 _ [1] _ rfl (by unfold maxLen; simp))
          clear hba HU7
          go_wp2_with fail
          refine (prim_any 2 2 _ 1 1 [1] v8 HRD.out (by decide) (by omega)).mono ?_
          rintro e v9 ⟨⟨V, rfl, hm⟩, hb⟩
          have HU9 := Lib.hid (HU8.out.trans (hb.mono HU8.out.size))
          have HM := Lib.hid hm.node
          obtain ⟨zc, zt, zk, za, zl, zm, ua, ul, um⟩ := V
          unfold NV.agg
          dsimp only
          clear hb HU8 hm
          clear hwa HRD
          go_wp2_with fail
          refine (asInt_no ⟨zc, zt, zk, za, zl, zm, ua, ul, um⟩ _ v9 HM.out (.inl (by decide))).mono ?_
          rintro e v10 ⟨rfl, hb⟩
          have HU10 := Lib.hid (HU9.out.trans (hb.mono HU9.out.size))
          clear hb HU9 HM
          obtain ⟨p0, p1, p2, p3, p4⟩ := HCX.out.below HU10.out HCX.out.lt
          dsimp only at p0 p1 p2 p3 p4
          simp only [Nat.zero_add] at p0 p1 p2 p3 p4
          go_wp2_with fail
          refine (isT_fine ⟨xc, xt, xk, xa, xl, xm, ya, yl, ym⟩ (chainT 23) v10 (HNX.out.under HU10.out) (by rw [chainT_cnt]; omega) (by rw [chainT_dep]; omega) (tabs_below HTX.out HU10.out) chain_fine).mono ?_
          rintro e v11 ⟨rfl, hb⟩
          have HU11 := Lib.hid (HU10.out.trans (hb.mono HU10.out.size))
          clear hb HU10 p0 p1 p2 p3 p4
          obtain ⟨p0, p1, p2, p3, p4⟩ := HCX.out.below HU11.out HCX.out.lt
          dsimp only at p0 p1 p2 p3 p4
          simp only [Nat.zero_add] at p0 p1 p2 p3 p4
          obtain ⟨v12, hwa⟩ : ∃ x, v11.alloc (.cells #[.int .i64 xc, .int .i64 xt, .bool xk, .slice xa xl xm, .slice ya yl ym] 25) = x := ⟨_, rfl⟩
          have hba : Below v11.heap.size v11 v12 := by rw [← hwa]; exact (Below.refl _ _).alloc (Nat.le_refl _) _
          have HU12 := Lib.hid (HU11.out.trans (hba.mono HU11.out.size))
          have HRD := Lib.hid (show NodesAt v12 (some ⟨v11.heap.size, 0, none⟩) 1 1 [chainT 23] by rw [← hwa]; exact nodes1 v11 ⟨xc, xt, xk, xa, xl, xm, ya, yl, ym⟩ _ (HNX.out.under HU11.out) _)
          clear hba HU11
          go_wp2_with fail
          refine (cons_any 0 16 _ 1 1 [chainT 23] v12 HRD.out (by simp only [wtL, chainT_wt]; omega)).mono ?_
          rintro e v13 ⟨⟨V, rfl, hm⟩, hb⟩
          have HU13 := Lib.hid (HU12.out.trans (hb.mono HU12.out.size))
          have HM := Lib.hid hm.node
          obtain ⟨zc, zt, zk, za, zl, zm, ua, ul, um⟩ := V
          unfold NV.agg
          dsimp only
          clear hb HU12 hm
          clear hwa HRD p0 p1 p2 p3 p4
          go_wp2_with fail
          refine (isT_not ⟨zc, zt, zk, za, zl, zm, ua, ul, um⟩ _ v13 HM.out (by simp only [Tr.cnt, cntL, chainT_cnt]; omega) (by simp only [Tr.dep, depL, chainT_dep]; omega) (tabs_below HTX.out HU13.out) 5 0 chain_deep (by decide)).mono ?_
          rintro e v14 ⟨rfl, hb⟩
          have HU14 := Lib.hid (HU13.out.trans (hb.mono HU13.out.size))
          clear hb HU13 HM
          go_wp2_with fail
          refine (cons_any 0 16 (some ⟨g, 0, none⟩) 3999 3999 (List.replicate 3999 nullT) v14 (nodes_null (HRW.out.below HU14.out)) (by rw [wtL_null]; omega)).mono ?_
          rintro e v15 ⟨⟨V, rfl, hm⟩, hb⟩
          have HU15 := Lib.hid (HU14.out.trans (hb.mono HU14.out.size))
          have HM := Lib.hid hm.node
          obtain ⟨zc, zt, zk, za, zl, zm, ua, ul, um⟩ := V
          unfold NV.agg
          dsimp only
          clear hb HU14 hm
          go_wp2_with fail
          refine (isT_fine ⟨zc, zt, zk, za, zl, zm, ua, ul, um⟩ (wideT (List.replicate 3999 nullT)) v15 HM.out (by rw [wide_cnt]; omega) (by have := wide_dep 3999; omega) (tabs_below HTX.out HU15.out) (wide_fine 3999 (Nat.le_refl _))).mono ?_
          rintro e v16 ⟨rfl, hb⟩
          have HU16 := Lib.hid (HU15.out.trans (hb.mono HU15.out.size))
          clear hb HU15 HM
          obtain ⟨r0, r1, r2, r3, r4⟩ := (HRW.out.below HU16.out).at 0 nullV (by rw [List.getElem?_replicate, if_pos (by omega)])
          dsimp only [nullV] at r0 r1 r2 r3 r4
          simp only [Nat.zero_mul, Nat.zero_add] at r0 r1 r2 r3 r4
          obtain ⟨v17, hwa⟩ : ∃ x, v16.alloc (.cells #[.int .i64 0, .int .i64 5, .bool false, .slice none 0 0, .slice none 0 0] 25) = x := ⟨_, rfl⟩
          have hba : Below v16.heap.size v16 v17 := by rw [← hwa]; exact (Below.refl _ _).alloc (Nat.le_refl _) _
          have HU17 := Lib.hid (HU16.out.trans (hba.mono HU16.out.size))
          have HROW := Lib.hid (HRW.out.below HU17.out)
          have HNEW := Lib.hid (show ∀ j u, (nullV.cells)[j]? = some u → v17.cell? ((⟨v16.heap.size, 0, none⟩ : Addr).add j) = some u from by rw [← hwa]; exact null_news _ _)
          clear hba
          obtain ⟨hi, hz0, hz1, hz2⟩ := HI.out
          have HSZ := Lib.hid (show g ≤ v17.heap.size by have := World.ownsRow.lt HROW.out g rfl; omega)
          obtain ⟨y5, w5, hrun, hr5, hg5, hn5, ho5⟩ := run_append_own_at (P := Tryd.prog) v17 g 23 23 25 i0 _ 5 72 Tryd.underlying23 hi hz0 hz1 hz2 rfl (by decide) (.slice (some ⟨g, 0, none⟩) 3999 3999) 3999 _ (row_null HROW.out) ⟨v16.heap.size, 0, none⟩ 1 1 nullV.cells rfl HNEW.out (nvcells_one nullV) (by unfold maxLen; omega) (by omega) HSZ.out
          obtain ⟨g5, c5, rfl⟩ := ownsRow_form hr5 (by omega)
          have HNN := Lib.hid (nodes_more hr5)
          have HXX := Lib.hid ((HX.out.trans (HU17.out.mono HX.out.size)).grown hg5 (by have := HSZ.out; have := HGW.out; omega) (fun r e => by have := (World.ownsRow.lt HROW.out r e).1; have := HGW.out; omega))
          clear hr5 hg5 hn5 ho5 hi hz0 hz1 hz2 HROW HNEW HRW HX HTX
          go_wp2_with fail
          refine oper_append hrun rfl rfl rfl ?_
          clear hwa r0 r1 r2 r3 r4 hrun HU17
          have HTX := Lib.hid (tabs_below HT.out HXX.out)
          have HU18 := Lib.hid (Below.refl w5.heap.size w5)
          go_wp2_with fail
          refine (cons_any 0 16 _ 4000 _ (List.replicate 4000 nullT) w5 HNN.out (by rw [wtL_null]; omega)).mono ?_
          rintro e v19 ⟨⟨V, rfl, hm⟩, hb⟩
          have HU19 := Lib.hid (HU18.out.trans (hb.mono HU18.out.size))
          have HM := Lib.hid hm.node
          obtain ⟨zc, zt, zk, za, zl, zm, ua, ul, um⟩ := V
          unfold NV.agg
          dsimp only
          clear hb HU18 hm
          go_wp2_with fail
          refine (isT_not ⟨zc, zt, zk, za, zl, zm, ua, ul, um⟩ (wideT (List.replicate 4000 nullT)) v19 HM.out (by rw [wide_cnt]; omega) (by have := wide_dep 4000; omega) (tabs_below HTX.out HU19.out) 6 0 wide_many (by decide)).mono ?_
          rintro e v20 ⟨rfl, hb⟩
          have HU20 := Lib.hid (HU19.out.trans (hb.mono HU19.out.size))
          clear hb HU19 HM
          have HNM := Lib.hid (name_w 1 v20)
          rw [show nameW 1 = ⟨#[99, 108, 97, 115, 115]⟩ from rfl] at HNM
          go_wp2_with fail
          refine HNM.out.mono ?_
          rintro e wy ⟨rfl, hwy⟩
          obtain rfl : v20 = wy := hwy.symm
          clear HNM
          have HNM := Lib.hid (name_w 6 v20)
          rw [show nameW 6 = ⟨#[109, 97, 110, 121]⟩ from rfl] at HNM
          go_wp2_with fail
          refine HNM.out.mono ?_
          rintro e wy ⟨rfl, hwy⟩
          obtain rfl : v20 = wy := hwy.symm
          clear HNM
          have HNM := Lib.hid (name_w 0 v20)
          rw [show nameW 0 = ⟨#[]⟩ from rfl] at HNM
          go_wp2_with fail
          refine HNM.out.mono ?_
          rintro e wy ⟨rfl, hwy⟩
          obtain rfl : v20 = wy := hwy.symm
          clear HNM
          have HNM := Lib.hid (name_w 7 v20)
          rw [show nameW 7 = ⟨#[]⟩ from rfl] at HNM
          go_wp2_with fail
          refine HNM.out.mono ?_
          rintro e wy ⟨rfl, hwy⟩
          obtain rfl : v20 = wy := hwy.symm
          clear HNM
          go_wp2_with fail
          refine (alive_t v20).mono ?_
          rintro e v21 ⟨rfl, hb⟩
          have HU21 := Lib.hid (HU20.out.trans (hb.mono HU20.out.size))
          clear hb HU20
          go_wp2_with fail
          go_ret
          exact ⟨rfl, HXX.out.trans (HU21.out.mono HXX.out.size)⟩

end Go.Proofs.YtbikghejedkkeaaDoor
