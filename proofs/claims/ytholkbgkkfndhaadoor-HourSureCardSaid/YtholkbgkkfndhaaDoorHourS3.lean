/-
  HOUR: the law HourSure, case by case. (Written by wip/gen_hourS2.py.)
-/
import Derived.Test.YtholkbgkkfndhaaDoorHourS
namespace Go.Proofs.YtholkbgkkfndhaaDoor
open Go.RowKit
set_option maxRecDepth 100000

set_option maxHeartbeats 4000000 in
theorem sure_e (t0 t1 t2 s0 m0 u0 s1 m1 u1 s2 m2 u2 : Int) (z ww : Int) (w : World) (hL : Libs w)
    (hx : orderR t0 t1 (widthR s0 m0 u0) (widthR s1 m1 u1) = (1, 0)) (hy : orderR t1 t0 (widthR s1 m1 u1) (widthR s0 m0 u0) = (-1, 0)) (hz : orderR t1 t2 (widthR s1 m1 u1) (widthR s2 m2 u2) = (z, 0)) (hw : orderR t0 t2 (widthR s0 m0 u0) (widthR s2 m2 u2) = (ww, 0)) (hv : orderR t0 t1 (widthR 0 0 0) (widthR 0 0 0) = (1, 0)) (ht : t1 < t0) :
    Calls Tryd.prog 8 #[.agg #[.int .i64 t0, .int .i64 t1, .int .i64 t2], .agg #[.int .i64 s0, .int .i64 m0, .int .i64 u0, .int .i64 s1, .int .i64 m1, .int .i64 u1, .int .i64 s2, .int .i64 m2, .int .i64 u2]] w fun e w' => e = .returned (.bool true) ∧ Below w.heap.size w w' := by
  have HL := Lib.hid hL
  have HX := Lib.hid hx
  have HY := Lib.hid hy
  have HZ := Lib.hid hz
  have HW := Lib.hid hw
  have HV := Lib.hid hv
  clear hz hw hv
  clear hL hx hy
  have d1 : decide (t1 < t0) = true := decide_eq_true ht
  have d2 : decide (t0 < t1) = false := decide_eq_false (by omega)
  have d3 : ¬ t0 < t1 := by omega
  go_enter Tryd.func8, Tryd.ntmps8
  go_wp2_with fail
  have HT := Lib.hid (show BlkS _ w.heap.size _ from (Below.heap_alloc _ (.cells #[.int .i64 s0, .int .i64 m0, .int .i64 u0, .int .i64 s1, .int .i64 m1, .int .i64 u1, .int .i64 s2, .int .i64 m2, .int .i64 u2] 47) _ (by rw [World.size_alloc]; omega)).trans (World.alloc_heap_new w (.cells #[.int .i64 t0, .int .i64 t1, .int .i64 t2] 46)))
  have HA := Lib.hid (show BlkS _ (w.heap.size + 1) _ from (by have := World.alloc_heap_new (w.alloc (.cells #[.int .i64 t0, .int .i64 t1, .int .i64 t2] 46)) (.cells #[.int .i64 s0, .int .i64 m0, .int .i64 u0, .int .i64 s1, .int .i64 m1, .int .i64 u1, .int .i64 s2, .int .i64 m2, .int .i64 u2] 47); rwa [World.size_alloc] at this))
  have HB := Lib.hid (((Below.refl w.heap.size w).alloc (Nat.le_refl _) (.cells #[.int .i64 t0, .int .i64 t1, .int .i64 t2] 46)).alloc (by rw [World.size_alloc]; omega) (.cells #[.int .i64 s0, .int .i64 m0, .int .i64 u0, .int .i64 s1, .int .i64 m1, .int .i64 u1, .int .i64 s2, .int .i64 m2, .int .i64 u2] 47))
  have HL := Lib.hid (HL.out.below (HB.out))
  generalize ((w.alloc (.cells #[.int .i64 t0, .int .i64 t1, .int .i64 t2] 46)).alloc (.cells #[.int .i64 s0, .int .i64 m0, .int .i64 u0, .int .i64 s1, .int .i64 m1, .int .i64 u1, .int .i64 s2, .int .i64 m2, .int .i64 u2] 47)) = w2 at *
  obtain ⟨QB, hQB⟩ : ∃ q, w.heap.size = q := ⟨_, rfl⟩
  rw [hQB] at HT HA ⊢
  have HQB := Lib.hid hQB
  clear hQB
  skip
  refine (alive_h _ HL.out).mono ?_
  rintro e w1 ⟨rfl, hb⟩
  replace HL := Lib.hid (HL.out.below hb)
  replace HT := Lib.hid (HT.out.below hb)
  replace HA := Lib.hid (HA.out.below hb)
  replace HB := Lib.hid (HB.out.trans (hb.mono HB.out.size))
  clear hb
  have k0 : w1.cell? ⟨QB, 0, none⟩ = some (.int .i64 t0) := (cell_of_row w1 QB 0 _ _ (0, 0) HT.out).trans rfl
  have k1 : w1.cell? ⟨QB, 1, none⟩ = some (.int .i64 t1) := (cell_of_row w1 QB 1 _ _ (0, 0) HT.out).trans rfl
  have k2 : w1.cell? ⟨QB, 2, none⟩ = some (.int .i64 t2) := (cell_of_row w1 QB 2 _ _ (0, 0) HT.out).trans rfl
  have a0 : w1.cell? ⟨QB + 1, 0, none⟩ = some (.int .i64 s0) := (cell_of_row w1 (QB + 1) 0 _ _ (0, 0) HA.out).trans rfl
  have a1 : w1.cell? ⟨QB + 1, 1, none⟩ = some (.int .i64 m0) := (cell_of_row w1 (QB + 1) 1 _ _ (0, 0) HA.out).trans rfl
  have a2 : w1.cell? ⟨QB + 1, 2, none⟩ = some (.int .i64 u0) := (cell_of_row w1 (QB + 1) 2 _ _ (0, 0) HA.out).trans rfl
  have a3 : w1.cell? ⟨QB + 1, 3, none⟩ = some (.int .i64 s1) := (cell_of_row w1 (QB + 1) 3 _ _ (0, 0) HA.out).trans rfl
  have a4 : w1.cell? ⟨QB + 1, 4, none⟩ = some (.int .i64 m1) := (cell_of_row w1 (QB + 1) 4 _ _ (0, 0) HA.out).trans rfl
  have a5 : w1.cell? ⟨QB + 1, 5, none⟩ = some (.int .i64 u1) := (cell_of_row w1 (QB + 1) 5 _ _ (0, 0) HA.out).trans rfl
  have a6 : w1.cell? ⟨QB + 1, 6, none⟩ = some (.int .i64 s2) := (cell_of_row w1 (QB + 1) 6 _ _ (0, 0) HA.out).trans rfl
  have a7 : w1.cell? ⟨QB + 1, 7, none⟩ = some (.int .i64 m2) := (cell_of_row w1 (QB + 1) 7 _ _ (0, 0) HA.out).trans rfl
  have a8 : w1.cell? ⟨QB + 1, 8, none⟩ = some (.int .i64 u2) := (cell_of_row w1 (QB + 1) 8 _ _ (0, 0) HA.out).trans rfl
  
  go_wp2_with fail
  refine (order_any t0 t1 s0 m0 u0 s1 m1 u1 _).mono ?_
  rintro e w2 ⟨rfl, hb⟩
  rw [HX.out]
  dsimp only
  clear k0 k1 k2 a0 a1 a2 a3 a4 a5 a6 a7 a8
  replace HL := Lib.hid (HL.out.below hb)
  replace HT := Lib.hid (HT.out.below hb)
  replace HA := Lib.hid (HA.out.below hb)
  replace HB := Lib.hid (HB.out.trans (hb.mono HB.out.size))
  clear hb
  have k0 : w2.cell? ⟨QB, 0, none⟩ = some (.int .i64 t0) := (cell_of_row w2 QB 0 _ _ (0, 0) HT.out).trans rfl
  have k1 : w2.cell? ⟨QB, 1, none⟩ = some (.int .i64 t1) := (cell_of_row w2 QB 1 _ _ (0, 0) HT.out).trans rfl
  have k2 : w2.cell? ⟨QB, 2, none⟩ = some (.int .i64 t2) := (cell_of_row w2 QB 2 _ _ (0, 0) HT.out).trans rfl
  have a0 : w2.cell? ⟨QB + 1, 0, none⟩ = some (.int .i64 s0) := (cell_of_row w2 (QB + 1) 0 _ _ (0, 0) HA.out).trans rfl
  have a1 : w2.cell? ⟨QB + 1, 1, none⟩ = some (.int .i64 m0) := (cell_of_row w2 (QB + 1) 1 _ _ (0, 0) HA.out).trans rfl
  have a2 : w2.cell? ⟨QB + 1, 2, none⟩ = some (.int .i64 u0) := (cell_of_row w2 (QB + 1) 2 _ _ (0, 0) HA.out).trans rfl
  have a3 : w2.cell? ⟨QB + 1, 3, none⟩ = some (.int .i64 s1) := (cell_of_row w2 (QB + 1) 3 _ _ (0, 0) HA.out).trans rfl
  have a4 : w2.cell? ⟨QB + 1, 4, none⟩ = some (.int .i64 m1) := (cell_of_row w2 (QB + 1) 4 _ _ (0, 0) HA.out).trans rfl
  have a5 : w2.cell? ⟨QB + 1, 5, none⟩ = some (.int .i64 u1) := (cell_of_row w2 (QB + 1) 5 _ _ (0, 0) HA.out).trans rfl
  have a6 : w2.cell? ⟨QB + 1, 6, none⟩ = some (.int .i64 s2) := (cell_of_row w2 (QB + 1) 6 _ _ (0, 0) HA.out).trans rfl
  have a7 : w2.cell? ⟨QB + 1, 7, none⟩ = some (.int .i64 m2) := (cell_of_row w2 (QB + 1) 7 _ _ (0, 0) HA.out).trans rfl
  have a8 : w2.cell? ⟨QB + 1, 8, none⟩ = some (.int .i64 u2) := (cell_of_row w2 (QB + 1) 8 _ _ (0, 0) HA.out).trans rfl
  
  go_wp2_with fail
  refine (order_any t1 t0 s1 m1 u1 s0 m0 u0 _).mono ?_
  rintro e w3 ⟨rfl, hb⟩
  rw [HY.out]
  dsimp only
  clear k0 k1 k2 a0 a1 a2 a3 a4 a5 a6 a7 a8
  replace HL := Lib.hid (HL.out.below hb)
  replace HT := Lib.hid (HT.out.below hb)
  replace HA := Lib.hid (HA.out.below hb)
  replace HB := Lib.hid (HB.out.trans (hb.mono HB.out.size))
  clear hb
  have k0 : w3.cell? ⟨QB, 0, none⟩ = some (.int .i64 t0) := (cell_of_row w3 QB 0 _ _ (0, 0) HT.out).trans rfl
  have k1 : w3.cell? ⟨QB, 1, none⟩ = some (.int .i64 t1) := (cell_of_row w3 QB 1 _ _ (0, 0) HT.out).trans rfl
  have k2 : w3.cell? ⟨QB, 2, none⟩ = some (.int .i64 t2) := (cell_of_row w3 QB 2 _ _ (0, 0) HT.out).trans rfl
  have a0 : w3.cell? ⟨QB + 1, 0, none⟩ = some (.int .i64 s0) := (cell_of_row w3 (QB + 1) 0 _ _ (0, 0) HA.out).trans rfl
  have a1 : w3.cell? ⟨QB + 1, 1, none⟩ = some (.int .i64 m0) := (cell_of_row w3 (QB + 1) 1 _ _ (0, 0) HA.out).trans rfl
  have a2 : w3.cell? ⟨QB + 1, 2, none⟩ = some (.int .i64 u0) := (cell_of_row w3 (QB + 1) 2 _ _ (0, 0) HA.out).trans rfl
  have a3 : w3.cell? ⟨QB + 1, 3, none⟩ = some (.int .i64 s1) := (cell_of_row w3 (QB + 1) 3 _ _ (0, 0) HA.out).trans rfl
  have a4 : w3.cell? ⟨QB + 1, 4, none⟩ = some (.int .i64 m1) := (cell_of_row w3 (QB + 1) 4 _ _ (0, 0) HA.out).trans rfl
  have a5 : w3.cell? ⟨QB + 1, 5, none⟩ = some (.int .i64 u1) := (cell_of_row w3 (QB + 1) 5 _ _ (0, 0) HA.out).trans rfl
  have a6 : w3.cell? ⟨QB + 1, 6, none⟩ = some (.int .i64 s2) := (cell_of_row w3 (QB + 1) 6 _ _ (0, 0) HA.out).trans rfl
  have a7 : w3.cell? ⟨QB + 1, 7, none⟩ = some (.int .i64 m2) := (cell_of_row w3 (QB + 1) 7 _ _ (0, 0) HA.out).trans rfl
  have a8 : w3.cell? ⟨QB + 1, 8, none⟩ = some (.int .i64 u2) := (cell_of_row w3 (QB + 1) 8 _ _ (0, 0) HA.out).trans rfl
  
  go_wp2_with fail
  refine (order_any t1 t2 s1 m1 u1 s2 m2 u2 _).mono ?_
  rintro e w4 ⟨rfl, hb⟩
  rw [HZ.out]
  dsimp only
  clear k0 k1 k2 a0 a1 a2 a3 a4 a5 a6 a7 a8
  replace HL := Lib.hid (HL.out.below hb)
  replace HT := Lib.hid (HT.out.below hb)
  replace HA := Lib.hid (HA.out.below hb)
  replace HB := Lib.hid (HB.out.trans (hb.mono HB.out.size))
  clear hb
  have k0 : w4.cell? ⟨QB, 0, none⟩ = some (.int .i64 t0) := (cell_of_row w4 QB 0 _ _ (0, 0) HT.out).trans rfl
  have k1 : w4.cell? ⟨QB, 1, none⟩ = some (.int .i64 t1) := (cell_of_row w4 QB 1 _ _ (0, 0) HT.out).trans rfl
  have k2 : w4.cell? ⟨QB, 2, none⟩ = some (.int .i64 t2) := (cell_of_row w4 QB 2 _ _ (0, 0) HT.out).trans rfl
  have a0 : w4.cell? ⟨QB + 1, 0, none⟩ = some (.int .i64 s0) := (cell_of_row w4 (QB + 1) 0 _ _ (0, 0) HA.out).trans rfl
  have a1 : w4.cell? ⟨QB + 1, 1, none⟩ = some (.int .i64 m0) := (cell_of_row w4 (QB + 1) 1 _ _ (0, 0) HA.out).trans rfl
  have a2 : w4.cell? ⟨QB + 1, 2, none⟩ = some (.int .i64 u0) := (cell_of_row w4 (QB + 1) 2 _ _ (0, 0) HA.out).trans rfl
  have a3 : w4.cell? ⟨QB + 1, 3, none⟩ = some (.int .i64 s1) := (cell_of_row w4 (QB + 1) 3 _ _ (0, 0) HA.out).trans rfl
  have a4 : w4.cell? ⟨QB + 1, 4, none⟩ = some (.int .i64 m1) := (cell_of_row w4 (QB + 1) 4 _ _ (0, 0) HA.out).trans rfl
  have a5 : w4.cell? ⟨QB + 1, 5, none⟩ = some (.int .i64 u1) := (cell_of_row w4 (QB + 1) 5 _ _ (0, 0) HA.out).trans rfl
  have a6 : w4.cell? ⟨QB + 1, 6, none⟩ = some (.int .i64 s2) := (cell_of_row w4 (QB + 1) 6 _ _ (0, 0) HA.out).trans rfl
  have a7 : w4.cell? ⟨QB + 1, 7, none⟩ = some (.int .i64 m2) := (cell_of_row w4 (QB + 1) 7 _ _ (0, 0) HA.out).trans rfl
  have a8 : w4.cell? ⟨QB + 1, 8, none⟩ = some (.int .i64 u2) := (cell_of_row w4 (QB + 1) 8 _ _ (0, 0) HA.out).trans rfl
  
  go_wp2_with fail
  refine (order_any t0 t2 s0 m0 u0 s2 m2 u2 _).mono ?_
  rintro e w5 ⟨rfl, hb⟩
  rw [HW.out]
  dsimp only
  clear k0 k1 k2 a0 a1 a2 a3 a4 a5 a6 a7 a8
  replace HL := Lib.hid (HL.out.below hb)
  replace HT := Lib.hid (HT.out.below hb)
  replace HA := Lib.hid (HA.out.below hb)
  replace HB := Lib.hid (HB.out.trans (hb.mono HB.out.size))
  clear hb
  have hbA := (Below.refl w5.heap.size w5).alloc (Nat.le_refl _) (.cells #[.int .i64 0, .int .i64 0, .int .i64 0] 38)
  have HT := Lib.hid (HT.out.below hbA)
  have HA := Lib.hid (HA.out.below hbA)
  have HB := Lib.hid (HB.out.trans (hbA.mono HB.out.size))
  have HL := Lib.hid (HL.out.below hbA)
  clear hbA
  have k0 : (w5.alloc (.cells #[.int .i64 0, .int .i64 0, .int .i64 0] 38)).cell? ⟨QB, 0, none⟩ = some (.int .i64 t0) := (cell_of_row (w5.alloc (.cells #[.int .i64 0, .int .i64 0, .int .i64 0] 38)) QB 0 _ _ (0, 0) HT.out).trans rfl
  have k1 : (w5.alloc (.cells #[.int .i64 0, .int .i64 0, .int .i64 0] 38)).cell? ⟨QB, 1, none⟩ = some (.int .i64 t1) := (cell_of_row (w5.alloc (.cells #[.int .i64 0, .int .i64 0, .int .i64 0] 38)) QB 1 _ _ (0, 0) HT.out).trans rfl
  have k2 : (w5.alloc (.cells #[.int .i64 0, .int .i64 0, .int .i64 0] 38)).cell? ⟨QB, 2, none⟩ = some (.int .i64 t2) := (cell_of_row (w5.alloc (.cells #[.int .i64 0, .int .i64 0, .int .i64 0] 38)) QB 2 _ _ (0, 0) HT.out).trans rfl
  have a0 : (w5.alloc (.cells #[.int .i64 0, .int .i64 0, .int .i64 0] 38)).cell? ⟨QB + 1, 0, none⟩ = some (.int .i64 s0) := (cell_of_row (w5.alloc (.cells #[.int .i64 0, .int .i64 0, .int .i64 0] 38)) (QB + 1) 0 _ _ (0, 0) HA.out).trans rfl
  have a1 : (w5.alloc (.cells #[.int .i64 0, .int .i64 0, .int .i64 0] 38)).cell? ⟨QB + 1, 1, none⟩ = some (.int .i64 m0) := (cell_of_row (w5.alloc (.cells #[.int .i64 0, .int .i64 0, .int .i64 0] 38)) (QB + 1) 1 _ _ (0, 0) HA.out).trans rfl
  have a2 : (w5.alloc (.cells #[.int .i64 0, .int .i64 0, .int .i64 0] 38)).cell? ⟨QB + 1, 2, none⟩ = some (.int .i64 u0) := (cell_of_row (w5.alloc (.cells #[.int .i64 0, .int .i64 0, .int .i64 0] 38)) (QB + 1) 2 _ _ (0, 0) HA.out).trans rfl
  have a3 : (w5.alloc (.cells #[.int .i64 0, .int .i64 0, .int .i64 0] 38)).cell? ⟨QB + 1, 3, none⟩ = some (.int .i64 s1) := (cell_of_row (w5.alloc (.cells #[.int .i64 0, .int .i64 0, .int .i64 0] 38)) (QB + 1) 3 _ _ (0, 0) HA.out).trans rfl
  have a4 : (w5.alloc (.cells #[.int .i64 0, .int .i64 0, .int .i64 0] 38)).cell? ⟨QB + 1, 4, none⟩ = some (.int .i64 m1) := (cell_of_row (w5.alloc (.cells #[.int .i64 0, .int .i64 0, .int .i64 0] 38)) (QB + 1) 4 _ _ (0, 0) HA.out).trans rfl
  have a5 : (w5.alloc (.cells #[.int .i64 0, .int .i64 0, .int .i64 0] 38)).cell? ⟨QB + 1, 5, none⟩ = some (.int .i64 u1) := (cell_of_row (w5.alloc (.cells #[.int .i64 0, .int .i64 0, .int .i64 0] 38)) (QB + 1) 5 _ _ (0, 0) HA.out).trans rfl
  have a6 : (w5.alloc (.cells #[.int .i64 0, .int .i64 0, .int .i64 0] 38)).cell? ⟨QB + 1, 6, none⟩ = some (.int .i64 s2) := (cell_of_row (w5.alloc (.cells #[.int .i64 0, .int .i64 0, .int .i64 0] 38)) (QB + 1) 6 _ _ (0, 0) HA.out).trans rfl
  have a7 : (w5.alloc (.cells #[.int .i64 0, .int .i64 0, .int .i64 0] 38)).cell? ⟨QB + 1, 7, none⟩ = some (.int .i64 m2) := (cell_of_row (w5.alloc (.cells #[.int .i64 0, .int .i64 0, .int .i64 0] 38)) (QB + 1) 7 _ _ (0, 0) HA.out).trans rfl
  have a8 : (w5.alloc (.cells #[.int .i64 0, .int .i64 0, .int .i64 0] 38)).cell? ⟨QB + 1, 8, none⟩ = some (.int .i64 u2) := (cell_of_row (w5.alloc (.cells #[.int .i64 0, .int .i64 0, .int .i64 0] 38)) (QB + 1) 8 _ _ (0, 0) HA.out).trans rfl
  
  go_wp2_with fail
  clear k0 k1 k2 a0 a1 a2 a3 a4 a5 a6 a7 a8
  generalize w5.alloc (.cells #[.int .i64 0, .int .i64 0, .int .i64 0] 38) = wq at *
  skip
  refine (order_any t0 t1 0 0 0 0 0 0 _).mono ?_
  rintro e w6 ⟨rfl, hb⟩
  rw [HV.out]
  dsimp only
  replace HL := Lib.hid (HL.out.below hb)
  replace HT := Lib.hid (HT.out.below hb)
  replace HA := Lib.hid (HA.out.below hb)
  replace HB := Lib.hid (HB.out.trans (hb.mono HB.out.size))
  clear hb
  have k0 : w6.cell? ⟨QB, 0, none⟩ = some (.int .i64 t0) := (cell_of_row w6 QB 0 _ _ (0, 0) HT.out).trans rfl
  have k1 : w6.cell? ⟨QB, 1, none⟩ = some (.int .i64 t1) := (cell_of_row w6 QB 1 _ _ (0, 0) HT.out).trans rfl
  have k2 : w6.cell? ⟨QB, 2, none⟩ = some (.int .i64 t2) := (cell_of_row w6 QB 2 _ _ (0, 0) HT.out).trans rfl
  have a0 : w6.cell? ⟨QB + 1, 0, none⟩ = some (.int .i64 s0) := (cell_of_row w6 (QB + 1) 0 _ _ (0, 0) HA.out).trans rfl
  have a1 : w6.cell? ⟨QB + 1, 1, none⟩ = some (.int .i64 m0) := (cell_of_row w6 (QB + 1) 1 _ _ (0, 0) HA.out).trans rfl
  have a2 : w6.cell? ⟨QB + 1, 2, none⟩ = some (.int .i64 u0) := (cell_of_row w6 (QB + 1) 2 _ _ (0, 0) HA.out).trans rfl
  have a3 : w6.cell? ⟨QB + 1, 3, none⟩ = some (.int .i64 s1) := (cell_of_row w6 (QB + 1) 3 _ _ (0, 0) HA.out).trans rfl
  have a4 : w6.cell? ⟨QB + 1, 4, none⟩ = some (.int .i64 m1) := (cell_of_row w6 (QB + 1) 4 _ _ (0, 0) HA.out).trans rfl
  have a5 : w6.cell? ⟨QB + 1, 5, none⟩ = some (.int .i64 u1) := (cell_of_row w6 (QB + 1) 5 _ _ (0, 0) HA.out).trans rfl
  have a6 : w6.cell? ⟨QB + 1, 6, none⟩ = some (.int .i64 s2) := (cell_of_row w6 (QB + 1) 6 _ _ (0, 0) HA.out).trans rfl
  have a7 : w6.cell? ⟨QB + 1, 7, none⟩ = some (.int .i64 m2) := (cell_of_row w6 (QB + 1) 7 _ _ (0, 0) HA.out).trans rfl
  have a8 : w6.cell? ⟨QB + 1, 8, none⟩ = some (.int .i64 u2) := (cell_of_row w6 (QB + 1) 8 _ _ (0, 0) HA.out).trans rfl
  
  go_wp2_with fail
  go_wp2
  go_ret
  exact ⟨rfl, HB.out⟩


set_option maxHeartbeats 4000000 in
theorem sure_f (t0 t1 t2 s0 m0 u0 s1 m1 u1 s2 m2 u2 : Int) (w : World) (hL : Libs w)
    (hx : orderR t0 t1 (widthR s0 m0 u0) (widthR s1 m1 u1) = (-1, 0)) (hy : orderR t1 t0 (widthR s1 m1 u1) (widthR s0 m0 u0) = (1, 0)) (hz : orderR t1 t2 (widthR s1 m1 u1) (widthR s2 m2 u2) = (-1, 0)) (hw : orderR t0 t2 (widthR s0 m0 u0) (widthR s2 m2 u2) = (-1, 0)) (hv : orderR t0 t1 (widthR 0 0 0) (widthR 0 0 0) = (-1, 0)) (ht : t0 < t1) :
    Calls Tryd.prog 8 #[.agg #[.int .i64 t0, .int .i64 t1, .int .i64 t2], .agg #[.int .i64 s0, .int .i64 m0, .int .i64 u0, .int .i64 s1, .int .i64 m1, .int .i64 u1, .int .i64 s2, .int .i64 m2, .int .i64 u2]] w fun e w' => e = .returned (.bool true) ∧ Below w.heap.size w w' := by
  have HL := Lib.hid hL
  have HX := Lib.hid hx
  have HY := Lib.hid hy
  have HZ := Lib.hid hz
  have HW := Lib.hid hw
  have HV := Lib.hid hv
  clear hz hw hv
  clear hL hx hy
  have d1 : decide (t0 < t1) = true := decide_eq_true ht
  have d2 : decide (t1 < t0) = false := decide_eq_false (by omega)
  have d3 : ¬ t1 < t0 := by omega
  go_enter Tryd.func8, Tryd.ntmps8
  go_wp2_with fail
  have HT := Lib.hid (show BlkS _ w.heap.size _ from (Below.heap_alloc _ (.cells #[.int .i64 s0, .int .i64 m0, .int .i64 u0, .int .i64 s1, .int .i64 m1, .int .i64 u1, .int .i64 s2, .int .i64 m2, .int .i64 u2] 47) _ (by rw [World.size_alloc]; omega)).trans (World.alloc_heap_new w (.cells #[.int .i64 t0, .int .i64 t1, .int .i64 t2] 46)))
  have HA := Lib.hid (show BlkS _ (w.heap.size + 1) _ from (by have := World.alloc_heap_new (w.alloc (.cells #[.int .i64 t0, .int .i64 t1, .int .i64 t2] 46)) (.cells #[.int .i64 s0, .int .i64 m0, .int .i64 u0, .int .i64 s1, .int .i64 m1, .int .i64 u1, .int .i64 s2, .int .i64 m2, .int .i64 u2] 47); rwa [World.size_alloc] at this))
  have HB := Lib.hid (((Below.refl w.heap.size w).alloc (Nat.le_refl _) (.cells #[.int .i64 t0, .int .i64 t1, .int .i64 t2] 46)).alloc (by rw [World.size_alloc]; omega) (.cells #[.int .i64 s0, .int .i64 m0, .int .i64 u0, .int .i64 s1, .int .i64 m1, .int .i64 u1, .int .i64 s2, .int .i64 m2, .int .i64 u2] 47))
  have HL := Lib.hid (HL.out.below (HB.out))
  generalize ((w.alloc (.cells #[.int .i64 t0, .int .i64 t1, .int .i64 t2] 46)).alloc (.cells #[.int .i64 s0, .int .i64 m0, .int .i64 u0, .int .i64 s1, .int .i64 m1, .int .i64 u1, .int .i64 s2, .int .i64 m2, .int .i64 u2] 47)) = w2 at *
  obtain ⟨QB, hQB⟩ : ∃ q, w.heap.size = q := ⟨_, rfl⟩
  rw [hQB] at HT HA ⊢
  have HQB := Lib.hid hQB
  clear hQB
  skip
  refine (alive_h _ HL.out).mono ?_
  rintro e w1 ⟨rfl, hb⟩
  replace HL := Lib.hid (HL.out.below hb)
  replace HT := Lib.hid (HT.out.below hb)
  replace HA := Lib.hid (HA.out.below hb)
  replace HB := Lib.hid (HB.out.trans (hb.mono HB.out.size))
  clear hb
  have k0 : w1.cell? ⟨QB, 0, none⟩ = some (.int .i64 t0) := (cell_of_row w1 QB 0 _ _ (0, 0) HT.out).trans rfl
  have k1 : w1.cell? ⟨QB, 1, none⟩ = some (.int .i64 t1) := (cell_of_row w1 QB 1 _ _ (0, 0) HT.out).trans rfl
  have k2 : w1.cell? ⟨QB, 2, none⟩ = some (.int .i64 t2) := (cell_of_row w1 QB 2 _ _ (0, 0) HT.out).trans rfl
  have a0 : w1.cell? ⟨QB + 1, 0, none⟩ = some (.int .i64 s0) := (cell_of_row w1 (QB + 1) 0 _ _ (0, 0) HA.out).trans rfl
  have a1 : w1.cell? ⟨QB + 1, 1, none⟩ = some (.int .i64 m0) := (cell_of_row w1 (QB + 1) 1 _ _ (0, 0) HA.out).trans rfl
  have a2 : w1.cell? ⟨QB + 1, 2, none⟩ = some (.int .i64 u0) := (cell_of_row w1 (QB + 1) 2 _ _ (0, 0) HA.out).trans rfl
  have a3 : w1.cell? ⟨QB + 1, 3, none⟩ = some (.int .i64 s1) := (cell_of_row w1 (QB + 1) 3 _ _ (0, 0) HA.out).trans rfl
  have a4 : w1.cell? ⟨QB + 1, 4, none⟩ = some (.int .i64 m1) := (cell_of_row w1 (QB + 1) 4 _ _ (0, 0) HA.out).trans rfl
  have a5 : w1.cell? ⟨QB + 1, 5, none⟩ = some (.int .i64 u1) := (cell_of_row w1 (QB + 1) 5 _ _ (0, 0) HA.out).trans rfl
  have a6 : w1.cell? ⟨QB + 1, 6, none⟩ = some (.int .i64 s2) := (cell_of_row w1 (QB + 1) 6 _ _ (0, 0) HA.out).trans rfl
  have a7 : w1.cell? ⟨QB + 1, 7, none⟩ = some (.int .i64 m2) := (cell_of_row w1 (QB + 1) 7 _ _ (0, 0) HA.out).trans rfl
  have a8 : w1.cell? ⟨QB + 1, 8, none⟩ = some (.int .i64 u2) := (cell_of_row w1 (QB + 1) 8 _ _ (0, 0) HA.out).trans rfl
  
  go_wp2_with fail
  refine (order_any t0 t1 s0 m0 u0 s1 m1 u1 _).mono ?_
  rintro e w2 ⟨rfl, hb⟩
  rw [HX.out]
  dsimp only
  clear k0 k1 k2 a0 a1 a2 a3 a4 a5 a6 a7 a8
  replace HL := Lib.hid (HL.out.below hb)
  replace HT := Lib.hid (HT.out.below hb)
  replace HA := Lib.hid (HA.out.below hb)
  replace HB := Lib.hid (HB.out.trans (hb.mono HB.out.size))
  clear hb
  have k0 : w2.cell? ⟨QB, 0, none⟩ = some (.int .i64 t0) := (cell_of_row w2 QB 0 _ _ (0, 0) HT.out).trans rfl
  have k1 : w2.cell? ⟨QB, 1, none⟩ = some (.int .i64 t1) := (cell_of_row w2 QB 1 _ _ (0, 0) HT.out).trans rfl
  have k2 : w2.cell? ⟨QB, 2, none⟩ = some (.int .i64 t2) := (cell_of_row w2 QB 2 _ _ (0, 0) HT.out).trans rfl
  have a0 : w2.cell? ⟨QB + 1, 0, none⟩ = some (.int .i64 s0) := (cell_of_row w2 (QB + 1) 0 _ _ (0, 0) HA.out).trans rfl
  have a1 : w2.cell? ⟨QB + 1, 1, none⟩ = some (.int .i64 m0) := (cell_of_row w2 (QB + 1) 1 _ _ (0, 0) HA.out).trans rfl
  have a2 : w2.cell? ⟨QB + 1, 2, none⟩ = some (.int .i64 u0) := (cell_of_row w2 (QB + 1) 2 _ _ (0, 0) HA.out).trans rfl
  have a3 : w2.cell? ⟨QB + 1, 3, none⟩ = some (.int .i64 s1) := (cell_of_row w2 (QB + 1) 3 _ _ (0, 0) HA.out).trans rfl
  have a4 : w2.cell? ⟨QB + 1, 4, none⟩ = some (.int .i64 m1) := (cell_of_row w2 (QB + 1) 4 _ _ (0, 0) HA.out).trans rfl
  have a5 : w2.cell? ⟨QB + 1, 5, none⟩ = some (.int .i64 u1) := (cell_of_row w2 (QB + 1) 5 _ _ (0, 0) HA.out).trans rfl
  have a6 : w2.cell? ⟨QB + 1, 6, none⟩ = some (.int .i64 s2) := (cell_of_row w2 (QB + 1) 6 _ _ (0, 0) HA.out).trans rfl
  have a7 : w2.cell? ⟨QB + 1, 7, none⟩ = some (.int .i64 m2) := (cell_of_row w2 (QB + 1) 7 _ _ (0, 0) HA.out).trans rfl
  have a8 : w2.cell? ⟨QB + 1, 8, none⟩ = some (.int .i64 u2) := (cell_of_row w2 (QB + 1) 8 _ _ (0, 0) HA.out).trans rfl
  
  go_wp2_with fail
  refine (order_any t1 t0 s1 m1 u1 s0 m0 u0 _).mono ?_
  rintro e w3 ⟨rfl, hb⟩
  rw [HY.out]
  dsimp only
  clear k0 k1 k2 a0 a1 a2 a3 a4 a5 a6 a7 a8
  replace HL := Lib.hid (HL.out.below hb)
  replace HT := Lib.hid (HT.out.below hb)
  replace HA := Lib.hid (HA.out.below hb)
  replace HB := Lib.hid (HB.out.trans (hb.mono HB.out.size))
  clear hb
  have k0 : w3.cell? ⟨QB, 0, none⟩ = some (.int .i64 t0) := (cell_of_row w3 QB 0 _ _ (0, 0) HT.out).trans rfl
  have k1 : w3.cell? ⟨QB, 1, none⟩ = some (.int .i64 t1) := (cell_of_row w3 QB 1 _ _ (0, 0) HT.out).trans rfl
  have k2 : w3.cell? ⟨QB, 2, none⟩ = some (.int .i64 t2) := (cell_of_row w3 QB 2 _ _ (0, 0) HT.out).trans rfl
  have a0 : w3.cell? ⟨QB + 1, 0, none⟩ = some (.int .i64 s0) := (cell_of_row w3 (QB + 1) 0 _ _ (0, 0) HA.out).trans rfl
  have a1 : w3.cell? ⟨QB + 1, 1, none⟩ = some (.int .i64 m0) := (cell_of_row w3 (QB + 1) 1 _ _ (0, 0) HA.out).trans rfl
  have a2 : w3.cell? ⟨QB + 1, 2, none⟩ = some (.int .i64 u0) := (cell_of_row w3 (QB + 1) 2 _ _ (0, 0) HA.out).trans rfl
  have a3 : w3.cell? ⟨QB + 1, 3, none⟩ = some (.int .i64 s1) := (cell_of_row w3 (QB + 1) 3 _ _ (0, 0) HA.out).trans rfl
  have a4 : w3.cell? ⟨QB + 1, 4, none⟩ = some (.int .i64 m1) := (cell_of_row w3 (QB + 1) 4 _ _ (0, 0) HA.out).trans rfl
  have a5 : w3.cell? ⟨QB + 1, 5, none⟩ = some (.int .i64 u1) := (cell_of_row w3 (QB + 1) 5 _ _ (0, 0) HA.out).trans rfl
  have a6 : w3.cell? ⟨QB + 1, 6, none⟩ = some (.int .i64 s2) := (cell_of_row w3 (QB + 1) 6 _ _ (0, 0) HA.out).trans rfl
  have a7 : w3.cell? ⟨QB + 1, 7, none⟩ = some (.int .i64 m2) := (cell_of_row w3 (QB + 1) 7 _ _ (0, 0) HA.out).trans rfl
  have a8 : w3.cell? ⟨QB + 1, 8, none⟩ = some (.int .i64 u2) := (cell_of_row w3 (QB + 1) 8 _ _ (0, 0) HA.out).trans rfl
  
  go_wp2_with fail
  refine (order_any t1 t2 s1 m1 u1 s2 m2 u2 _).mono ?_
  rintro e w4 ⟨rfl, hb⟩
  rw [HZ.out]
  dsimp only
  clear k0 k1 k2 a0 a1 a2 a3 a4 a5 a6 a7 a8
  replace HL := Lib.hid (HL.out.below hb)
  replace HT := Lib.hid (HT.out.below hb)
  replace HA := Lib.hid (HA.out.below hb)
  replace HB := Lib.hid (HB.out.trans (hb.mono HB.out.size))
  clear hb
  have k0 : w4.cell? ⟨QB, 0, none⟩ = some (.int .i64 t0) := (cell_of_row w4 QB 0 _ _ (0, 0) HT.out).trans rfl
  have k1 : w4.cell? ⟨QB, 1, none⟩ = some (.int .i64 t1) := (cell_of_row w4 QB 1 _ _ (0, 0) HT.out).trans rfl
  have k2 : w4.cell? ⟨QB, 2, none⟩ = some (.int .i64 t2) := (cell_of_row w4 QB 2 _ _ (0, 0) HT.out).trans rfl
  have a0 : w4.cell? ⟨QB + 1, 0, none⟩ = some (.int .i64 s0) := (cell_of_row w4 (QB + 1) 0 _ _ (0, 0) HA.out).trans rfl
  have a1 : w4.cell? ⟨QB + 1, 1, none⟩ = some (.int .i64 m0) := (cell_of_row w4 (QB + 1) 1 _ _ (0, 0) HA.out).trans rfl
  have a2 : w4.cell? ⟨QB + 1, 2, none⟩ = some (.int .i64 u0) := (cell_of_row w4 (QB + 1) 2 _ _ (0, 0) HA.out).trans rfl
  have a3 : w4.cell? ⟨QB + 1, 3, none⟩ = some (.int .i64 s1) := (cell_of_row w4 (QB + 1) 3 _ _ (0, 0) HA.out).trans rfl
  have a4 : w4.cell? ⟨QB + 1, 4, none⟩ = some (.int .i64 m1) := (cell_of_row w4 (QB + 1) 4 _ _ (0, 0) HA.out).trans rfl
  have a5 : w4.cell? ⟨QB + 1, 5, none⟩ = some (.int .i64 u1) := (cell_of_row w4 (QB + 1) 5 _ _ (0, 0) HA.out).trans rfl
  have a6 : w4.cell? ⟨QB + 1, 6, none⟩ = some (.int .i64 s2) := (cell_of_row w4 (QB + 1) 6 _ _ (0, 0) HA.out).trans rfl
  have a7 : w4.cell? ⟨QB + 1, 7, none⟩ = some (.int .i64 m2) := (cell_of_row w4 (QB + 1) 7 _ _ (0, 0) HA.out).trans rfl
  have a8 : w4.cell? ⟨QB + 1, 8, none⟩ = some (.int .i64 u2) := (cell_of_row w4 (QB + 1) 8 _ _ (0, 0) HA.out).trans rfl
  
  go_wp2_with fail
  refine (order_any t0 t2 s0 m0 u0 s2 m2 u2 _).mono ?_
  rintro e w5 ⟨rfl, hb⟩
  rw [HW.out]
  dsimp only
  clear k0 k1 k2 a0 a1 a2 a3 a4 a5 a6 a7 a8
  replace HL := Lib.hid (HL.out.below hb)
  replace HT := Lib.hid (HT.out.below hb)
  replace HA := Lib.hid (HA.out.below hb)
  replace HB := Lib.hid (HB.out.trans (hb.mono HB.out.size))
  clear hb
  have hbA := (Below.refl w5.heap.size w5).alloc (Nat.le_refl _) (.cells #[.int .i64 0, .int .i64 0, .int .i64 0] 38)
  have HT := Lib.hid (HT.out.below hbA)
  have HA := Lib.hid (HA.out.below hbA)
  have HB := Lib.hid (HB.out.trans (hbA.mono HB.out.size))
  have HL := Lib.hid (HL.out.below hbA)
  clear hbA
  have k0 : (w5.alloc (.cells #[.int .i64 0, .int .i64 0, .int .i64 0] 38)).cell? ⟨QB, 0, none⟩ = some (.int .i64 t0) := (cell_of_row (w5.alloc (.cells #[.int .i64 0, .int .i64 0, .int .i64 0] 38)) QB 0 _ _ (0, 0) HT.out).trans rfl
  have k1 : (w5.alloc (.cells #[.int .i64 0, .int .i64 0, .int .i64 0] 38)).cell? ⟨QB, 1, none⟩ = some (.int .i64 t1) := (cell_of_row (w5.alloc (.cells #[.int .i64 0, .int .i64 0, .int .i64 0] 38)) QB 1 _ _ (0, 0) HT.out).trans rfl
  have k2 : (w5.alloc (.cells #[.int .i64 0, .int .i64 0, .int .i64 0] 38)).cell? ⟨QB, 2, none⟩ = some (.int .i64 t2) := (cell_of_row (w5.alloc (.cells #[.int .i64 0, .int .i64 0, .int .i64 0] 38)) QB 2 _ _ (0, 0) HT.out).trans rfl
  have a0 : (w5.alloc (.cells #[.int .i64 0, .int .i64 0, .int .i64 0] 38)).cell? ⟨QB + 1, 0, none⟩ = some (.int .i64 s0) := (cell_of_row (w5.alloc (.cells #[.int .i64 0, .int .i64 0, .int .i64 0] 38)) (QB + 1) 0 _ _ (0, 0) HA.out).trans rfl
  have a1 : (w5.alloc (.cells #[.int .i64 0, .int .i64 0, .int .i64 0] 38)).cell? ⟨QB + 1, 1, none⟩ = some (.int .i64 m0) := (cell_of_row (w5.alloc (.cells #[.int .i64 0, .int .i64 0, .int .i64 0] 38)) (QB + 1) 1 _ _ (0, 0) HA.out).trans rfl
  have a2 : (w5.alloc (.cells #[.int .i64 0, .int .i64 0, .int .i64 0] 38)).cell? ⟨QB + 1, 2, none⟩ = some (.int .i64 u0) := (cell_of_row (w5.alloc (.cells #[.int .i64 0, .int .i64 0, .int .i64 0] 38)) (QB + 1) 2 _ _ (0, 0) HA.out).trans rfl
  have a3 : (w5.alloc (.cells #[.int .i64 0, .int .i64 0, .int .i64 0] 38)).cell? ⟨QB + 1, 3, none⟩ = some (.int .i64 s1) := (cell_of_row (w5.alloc (.cells #[.int .i64 0, .int .i64 0, .int .i64 0] 38)) (QB + 1) 3 _ _ (0, 0) HA.out).trans rfl
  have a4 : (w5.alloc (.cells #[.int .i64 0, .int .i64 0, .int .i64 0] 38)).cell? ⟨QB + 1, 4, none⟩ = some (.int .i64 m1) := (cell_of_row (w5.alloc (.cells #[.int .i64 0, .int .i64 0, .int .i64 0] 38)) (QB + 1) 4 _ _ (0, 0) HA.out).trans rfl
  have a5 : (w5.alloc (.cells #[.int .i64 0, .int .i64 0, .int .i64 0] 38)).cell? ⟨QB + 1, 5, none⟩ = some (.int .i64 u1) := (cell_of_row (w5.alloc (.cells #[.int .i64 0, .int .i64 0, .int .i64 0] 38)) (QB + 1) 5 _ _ (0, 0) HA.out).trans rfl
  have a6 : (w5.alloc (.cells #[.int .i64 0, .int .i64 0, .int .i64 0] 38)).cell? ⟨QB + 1, 6, none⟩ = some (.int .i64 s2) := (cell_of_row (w5.alloc (.cells #[.int .i64 0, .int .i64 0, .int .i64 0] 38)) (QB + 1) 6 _ _ (0, 0) HA.out).trans rfl
  have a7 : (w5.alloc (.cells #[.int .i64 0, .int .i64 0, .int .i64 0] 38)).cell? ⟨QB + 1, 7, none⟩ = some (.int .i64 m2) := (cell_of_row (w5.alloc (.cells #[.int .i64 0, .int .i64 0, .int .i64 0] 38)) (QB + 1) 7 _ _ (0, 0) HA.out).trans rfl
  have a8 : (w5.alloc (.cells #[.int .i64 0, .int .i64 0, .int .i64 0] 38)).cell? ⟨QB + 1, 8, none⟩ = some (.int .i64 u2) := (cell_of_row (w5.alloc (.cells #[.int .i64 0, .int .i64 0, .int .i64 0] 38)) (QB + 1) 8 _ _ (0, 0) HA.out).trans rfl
  
  go_wp2_with fail
  clear k0 k1 k2 a0 a1 a2 a3 a4 a5 a6 a7 a8
  generalize w5.alloc (.cells #[.int .i64 0, .int .i64 0, .int .i64 0] 38) = wq at *
  skip
  refine (order_any t0 t1 0 0 0 0 0 0 _).mono ?_
  rintro e w6 ⟨rfl, hb⟩
  rw [HV.out]
  dsimp only
  replace HL := Lib.hid (HL.out.below hb)
  replace HT := Lib.hid (HT.out.below hb)
  replace HA := Lib.hid (HA.out.below hb)
  replace HB := Lib.hid (HB.out.trans (hb.mono HB.out.size))
  clear hb
  have k0 : w6.cell? ⟨QB, 0, none⟩ = some (.int .i64 t0) := (cell_of_row w6 QB 0 _ _ (0, 0) HT.out).trans rfl
  have k1 : w6.cell? ⟨QB, 1, none⟩ = some (.int .i64 t1) := (cell_of_row w6 QB 1 _ _ (0, 0) HT.out).trans rfl
  have k2 : w6.cell? ⟨QB, 2, none⟩ = some (.int .i64 t2) := (cell_of_row w6 QB 2 _ _ (0, 0) HT.out).trans rfl
  have a0 : w6.cell? ⟨QB + 1, 0, none⟩ = some (.int .i64 s0) := (cell_of_row w6 (QB + 1) 0 _ _ (0, 0) HA.out).trans rfl
  have a1 : w6.cell? ⟨QB + 1, 1, none⟩ = some (.int .i64 m0) := (cell_of_row w6 (QB + 1) 1 _ _ (0, 0) HA.out).trans rfl
  have a2 : w6.cell? ⟨QB + 1, 2, none⟩ = some (.int .i64 u0) := (cell_of_row w6 (QB + 1) 2 _ _ (0, 0) HA.out).trans rfl
  have a3 : w6.cell? ⟨QB + 1, 3, none⟩ = some (.int .i64 s1) := (cell_of_row w6 (QB + 1) 3 _ _ (0, 0) HA.out).trans rfl
  have a4 : w6.cell? ⟨QB + 1, 4, none⟩ = some (.int .i64 m1) := (cell_of_row w6 (QB + 1) 4 _ _ (0, 0) HA.out).trans rfl
  have a5 : w6.cell? ⟨QB + 1, 5, none⟩ = some (.int .i64 u1) := (cell_of_row w6 (QB + 1) 5 _ _ (0, 0) HA.out).trans rfl
  have a6 : w6.cell? ⟨QB + 1, 6, none⟩ = some (.int .i64 s2) := (cell_of_row w6 (QB + 1) 6 _ _ (0, 0) HA.out).trans rfl
  have a7 : w6.cell? ⟨QB + 1, 7, none⟩ = some (.int .i64 m2) := (cell_of_row w6 (QB + 1) 7 _ _ (0, 0) HA.out).trans rfl
  have a8 : w6.cell? ⟨QB + 1, 8, none⟩ = some (.int .i64 u2) := (cell_of_row w6 (QB + 1) 8 _ _ (0, 0) HA.out).trans rfl
  
  go_wp2_with fail
  go_wp2
  go_ret
  exact ⟨rfl, HB.out⟩


end Go.Proofs.YtholkbgkkfndhaaDoor
