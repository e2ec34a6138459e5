/-
  The law's examples: told, alive.
-/
import Derived.Test.YtkmphiakciihfaaDoorDeT
import Derived.Test.YtkmphiakciihfaaDoorTrQ
import Derived.Test.YtkmphiakciihfaaDoorTrM
import Derived.Test.YtkmphiakciihfaaDoorTk
namespace Go.Proofs.YtkmphiakciihfaaDoor
open Go.RowKit

/-- The examples. -/
def exInt : Tr := .mk 0 2 false (intL 5) []
def exNull : Tr := .mk 0 5 false [] []
def exSeq : Tr := .mk 0 16 true [] [exInt, exNull]
theorem exInt_enc : dEncR exInt = ([2, 1, 5], 0) := by kernel_rfl
theorem exInt_siz : dSizR exInt = (3, 0) := by kernel_rfl
theorem exSeq_enc : dEncR exSeq = ([48, 5, 2, 1, 5, 5, 0], 0) := by kernel_rfl
theorem exSeq_siz : dSizR exSeq = (7, 0) := by kernel_rfl
theorem ex_str : ((strOf [130, 1, 0]).toList == [130, 1, 0]) = true := by first | kernel_rfl | decide | (simp [strOf]; done)
theorem ex_len : lenU 256 = [130, 1, 0] := by kernel_rfl

set_option maxHeartbeats 2000000 in
theorem told_any (V : NV) (T : Tr) (L : List UInt8) (w : World) (hn : NodeAt w V T) (hw : T.wt ≤ 1000000) (hN : T.cnt ≤ 1000000) (hd : T.dep ≤ 1000000) (hl : Tabs w) (h1 : dEncR T = (L, 0)) (h2 : dSizR T = ((L.length : Int), 0)) :
    Calls Tryd.prog 26 #[V.agg, .string (strOf L)] w fun e w' => e = .returned (.bool true) ∧ Below w.heap.size w w' := by
  obtain ⟨c, t, kk, ba, bl, bc, ka, kl, kc⟩ := V
  obtain ⟨w1, hw1⟩ : ∃ w1, w.alloc (.cells #[.int .i64 c, .int .i64 t, .bool kk, .slice ba bl bc, .slice ka kl kc] 25) = w1 := ⟨_, rfl⟩
  have hb1 : Below w.heap.size w w1 := by rw [← hw1]; exact (Below.refl _ _).alloc (Nat.le_refl _) _
  have hcx : CellsAt w1 w.heap.size 0 ⟨c, t, kk, ba, bl, bc, ka, kl, kc⟩ := by rw [← hw1]; exact cells5 w c t kk ba bl bc ka kl kc _
  have HE := Lib.hid (dEnc_any ⟨c, t, kk, ba, bl, bc, ka, kl, kc⟩ T w1 (hn.under hb1) hw hN hd (tabs_below hl hb1))
  have HS := Lib.hid (fun (W : World) (hB : Below w1.heap.size w1 W) => dSize_any ⟨c, t, kk, ba, bl, bc, ka, kl, kc⟩ T W ((hn.under hb1).under hB) hw hN hd (tabs_below (tabs_below hl hb1) hB))
  rw [h1] at HE
  rw [h2] at HS
  have HC := Lib.hid hcx
  have HB1 := Lib.hid hb1
  obtain ⟨p0, p1, p2, p3, p4⟩ := hcx
  dsimp only at p0 p1 p2 p3 p4
  simp only [Nat.zero_add] at p0 p1 p2 p3 p4
  unfold NV.agg at HE HS ⊢
  dsimp only at HE HS ⊢
  have hss : (strOf L).size = L.length := rfl
  clear hn hb1 hl hw h1 h2
  go_enter Tryd.func26, Tryd.ntmps26
  go_wp2_with fail
  clear hw1
  refine HE.out.mono ?_
  rintro e w2 ⟨⟨v, rfl, ho⟩, hb2⟩
  obtain ⟨a, n, k, rfl⟩ := own8_sl ho
  obtain ⟨q0, q1, q2, q3, q4⟩ := HC.out.below hb2 HC.out.lt
  dsimp only at q0 q1 q2 q3 q4
  simp only [Nat.zero_add] at q0 q1 q2 q3 q4
  have HO := Lib.hid ho.bts
  have HB2 := Lib.hid hb2
  clear ho hb2 p0 p1 p2 p3 p4 HE
  go_wp2_with fail
  refine (HS.out w2 HB2.out).mono ?_
  rintro e w3 ⟨rfl, hb3⟩
  have hcv := conv8 (HO.out.below hb3)
  have HB3 := Lib.hid (HB1.out.trans ((HB2.out.trans (hb3.mono HB2.out.size)).mono HB1.out.size))
  clear hb3 q0 q1 q2 q3 q4
  generalize strOf L = S at *
  generalize L.length = m at *
  go_wp2_with fail
  go_ret
  exact ⟨rfl, HB3.out⟩

set_option maxRecDepth 100000 in
set_option maxHeartbeats 4000000 in
theorem alive12 (w : World) (hl : Tabs w) : Calls Tryd.prog 27 #[] w fun e w' => e = .returned (.bool true) ∧ Below w.heap.size w w' := by
  have HP := Lib.hid (prim_any 0 5 none 0 0 [] w (Reads.none _ w) (fun x h => by cases h) (by omega))
  have HTB := Lib.hid hl
  clear hl
  go_enter Tryd.func27, Tryd.ntmps27
  go_wp2_with fail
  refine HP.out.mono ?_
  rintro e w1 ⟨⟨V, rfl, hm⟩, hb1⟩
  have HN := Lib.hid hm.node
  have HB1 := Lib.hid hb1
  obtain ⟨vc, vt, vk, ba, bl, bc, ka, kl, kc⟩ := V
  unfold NV.agg
  dsimp only
  clear hm hb1 HP
  go_wp2_with fail
  obtain ⟨w2, hw2⟩ : ∃ u, w1.alloc (.cells #[.int .i64 vc, .int .i64 vt, .bool vk, .slice ba bl bc, .slice ka kl kc] 25) = u := ⟨_, rfl⟩
  have hb2 : Below w1.heap.size w1 w2 := by rw [← hw2]; exact (Below.refl _ _).alloc (Nat.le_refl _) _
  have hcx : CellsAt w2 w1.heap.size 0 ⟨vc, vt, vk, ba, bl, bc, ka, kl, kc⟩ := by rw [← hw2]; exact cells5 w1 vc vt vk ba bl bc ka kl kc _
  have HLT := Lib.hid (show w1.heap.size < w2.heap.size from hcx.lt)
  obtain ⟨p0, p1, p2, p3, p4⟩ := hcx
  dsimp only at p0 p1 p2 p3 p4
  simp only [Nat.zero_add] at p0 p1 p2 p3 p4
  have HN := Lib.hid (HN.out.under hb2)
  have HB2 := Lib.hid (HB1.out.trans (hb2.mono HB1.out.size))
  rw [hw2]
  clear hw2 hb2
  refine wp_region_held_drew (S := fun Y => Y.cell? ⟨w1.heap.size, 0, none⟩ = some (.int .i64 vc) ∧ Y.cell? ⟨w1.heap.size, 1, none⟩ = some (.int .i64 vt) ∧ Y.cell? ⟨w1.heap.size, 2, none⟩ = some (.bool vk) ∧ Y.cell? ⟨w1.heap.size, 3, none⟩ = some (.slice ba bl bc) ∧ Y.cell? ⟨w1.heap.size, 4, none⟩ = some (.slice ka kl kc)) (by kernel_rfl) ⟨p0, p1, p2, p3, p4⟩ (fun hHeld => ?_)
  try simp only [List.getElem_toArray, List.getElem_cons_succ, List.getElem_cons_zero, Act.put, List.setIfInBounds_toArray, List.set_cons_zero, List.set_cons_succ]
  refine' tr 0 (fun K hK => ?_)
  try simp only [List.getElem_toArray, List.getElem_cons_succ, List.getElem_cons_zero]
  go_simp
  refine (int_any 5 _ (by decide) (by decide)).mono ?_
  rintro e w3 ⟨⟨V3, rfl, hm3⟩, hb3⟩
  have g3 : Below w2.heap.size w2 w3 := (Below.refl _ w2).drew.trans hb3
  have HN3 := Lib.hid (show NodeAt w3 V3 exInt from hm3.node)
  obtain ⟨xc, xt, xk, xa, xl, xm, ya, yl, ym⟩ := V3
  unfold NV.agg
  dsimp only
  clear hm3 hb3
  refine hK.out _ _ ⟨(g3.cell (p := ⟨w1.heap.size, 0, none⟩) HLT.out).trans p0, (g3.cell (p := ⟨w1.heap.size, 1, none⟩) HLT.out).trans p1, (g3.cell (p := ⟨w1.heap.size, 2, none⟩) HLT.out).trans p2, (g3.cell (p := ⟨w1.heap.size, 3, none⟩) HLT.out).trans p3, (g3.cell (p := ⟨w1.heap.size, 4, none⟩) HLT.out).trans p4⟩ (fun hHeld => ?_)
  clear hK K
  try simp only [List.getElem_toArray, List.getElem_cons_succ, List.getElem_cons_zero, Act.put, List.setIfInBounds_toArray, List.set_cons_zero, List.set_cons_succ]
  refine' tr 1 (fun K hK => ?_)
  try simp only [List.getElem_toArray, List.getElem_cons_succ, List.getElem_cons_zero]
  go_simp
  have ht4 := told_any ⟨xc, xt, xk, xa, xl, xm, ya, yl, ym⟩ exInt [2, 1, 5] w3 HN3.out (by decide) (by decide) (by decide) (tabs_below HTB.out (HB2.out.trans (g3.mono HB2.out.size))) exInt_enc exInt_siz
  unfold NV.agg at ht4
  dsimp only at ht4
  refine ht4.mono ?_
  rintro e w4 ⟨rfl, hb4⟩
  have g4 : Below w2.heap.size w2 w4 := g3.trans (hb4.mono g3.size)
  clear hb4 ht4 HN3 g3
  refine hK.out _ _ ⟨(g4.cell (p := ⟨w1.heap.size, 0, none⟩) HLT.out).trans p0, (g4.cell (p := ⟨w1.heap.size, 1, none⟩) HLT.out).trans p1, (g4.cell (p := ⟨w1.heap.size, 2, none⟩) HLT.out).trans p2, (g4.cell (p := ⟨w1.heap.size, 3, none⟩) HLT.out).trans p3, (g4.cell (p := ⟨w1.heap.size, 4, none⟩) HLT.out).trans p4⟩ (fun hHeld => ?_)
  clear hK K
  try simp only [List.getElem_toArray, List.getElem_cons_succ, List.getElem_cons_zero, Act.put, List.setIfInBounds_toArray, List.set_cons_zero, List.set_cons_succ]
  refine' tk 2 ?_
  try simp only [List.getElem_toArray, List.getElem_cons_succ, List.getElem_cons_zero, Act.put, List.setIfInBounds_toArray, List.set_cons_zero, List.set_cons_succ]
  refine' tk 4 ?_
  try simp only [List.getElem_toArray, List.getElem_cons_succ, List.getElem_cons_zero, Act.put, List.setIfInBounds_toArray, List.set_cons_zero, List.set_cons_succ]
  refine' tr 3 (fun K hK => ?_)
  try simp only [List.getElem_toArray, List.getElem_cons_succ, List.getElem_cons_zero]
  go_simp
  refine (int_any 5 _ (by decide) (by decide)).mono ?_
  rintro e w5 ⟨⟨V5, rfl, hm5⟩, hb5⟩
  have g5 : Below w2.heap.size w2 w5 := g4.trans (hb5.mono g4.size)
  have HN5 := Lib.hid (show NodeAt w5 V5 exInt from hm5.node)
  obtain ⟨xc, xt, xk, xa, xl, xm, ya, yl, ym⟩ := V5
  unfold NV.agg
  dsimp only
  clear hm5 hb5 g4
  refine hK.out _ _ ⟨(g5.cell (p := ⟨w1.heap.size, 0, none⟩) HLT.out).trans p0, (g5.cell (p := ⟨w1.heap.size, 1, none⟩) HLT.out).trans p1, (g5.cell (p := ⟨w1.heap.size, 2, none⟩) HLT.out).trans p2, (g5.cell (p := ⟨w1.heap.size, 3, none⟩) HLT.out).trans p3, (g5.cell (p := ⟨w1.heap.size, 4, none⟩) HLT.out).trans p4⟩ (fun hHeld => ?_)
  clear hK K
  try simp only [List.getElem_toArray, List.getElem_cons_succ, List.getElem_cons_zero, Act.put, List.setIfInBounds_toArray, List.set_cons_zero, List.set_cons_succ]
  refine' tr 5 (fun K hK => ?_)
  try simp only [List.getElem_toArray, List.getElem_cons_succ, List.getElem_cons_zero]
  go_simp
  have hb6 : Below w5.heap.size w5 (w5.alloc (.cells #[.int .i64 xc, .int .i64 xt, .bool xk, .slice xa xl xm, .slice ya yl ym, .int .i64 vc, .int .i64 vt, .bool vk, .slice ba bl bc, .slice ka kl kc] 25)) := (Below.refl _ w5).alloc (Nat.le_refl _) _
  have g6 := g5.trans (hb6.mono g5.size)
  have HR6 := Lib.hid (nodes2 w5 ⟨xc, xt, xk, xa, xl, xm, ya, yl, ym⟩ ⟨vc, vt, vk, ba, bl, bc, ka, kl, kc⟩ exInt exNull HN5.out (HN.out.under (g5)) 25)
  dsimp only at HR6
  refine hK.out _ _ ⟨(g6.cell (p := ⟨w1.heap.size, 0, none⟩) HLT.out).trans p0, (g6.cell (p := ⟨w1.heap.size, 1, none⟩) HLT.out).trans p1, (g6.cell (p := ⟨w1.heap.size, 2, none⟩) HLT.out).trans p2, (g6.cell (p := ⟨w1.heap.size, 3, none⟩) HLT.out).trans p3, (g6.cell (p := ⟨w1.heap.size, 4, none⟩) HLT.out).trans p4⟩ (fun hHeld => ?_)
  clear hK K
  try simp only [List.getElem_toArray, List.getElem_cons_succ, List.getElem_cons_zero, Act.put, List.setIfInBounds_toArray, List.set_cons_zero, List.set_cons_succ]
  refine' tr 6 (fun K hK => ?_)
  try simp only [List.getElem_toArray, List.getElem_cons_succ, List.getElem_cons_zero]
  go_simp
  refine (cons_any 0 16 _ _ _ [exInt, exNull] _ HR6.out (by decide)).mono ?_
  rintro e w7 ⟨⟨V7, rfl, hm7⟩, hb7⟩
  have g7 : Below w2.heap.size w2 w7 := g6.trans (hb7.mono g6.size)
  have HN7 := Lib.hid (show NodeAt w7 V7 exSeq from hm7.node)
  obtain ⟨uc, ut, uk, ua, ul, um, qa, ql, qm⟩ := V7
  unfold NV.agg
  dsimp only
  clear hm7 hb7 hb6 g5 g6 HR6 HN5
  refine hK.out _ _ ⟨(g7.cell (p := ⟨w1.heap.size, 0, none⟩) HLT.out).trans p0, (g7.cell (p := ⟨w1.heap.size, 1, none⟩) HLT.out).trans p1, (g7.cell (p := ⟨w1.heap.size, 2, none⟩) HLT.out).trans p2, (g7.cell (p := ⟨w1.heap.size, 3, none⟩) HLT.out).trans p3, (g7.cell (p := ⟨w1.heap.size, 4, none⟩) HLT.out).trans p4⟩ (fun hHeld => ?_)
  clear hK K
  try simp only [List.getElem_toArray, List.getElem_cons_succ, List.getElem_cons_zero, Act.put, List.setIfInBounds_toArray, List.set_cons_zero, List.set_cons_succ]
  refine' tr 7 (fun K hK => ?_)
  try simp only [List.getElem_toArray, List.getElem_cons_succ, List.getElem_cons_zero]
  go_simp
  have ht8 := told_any ⟨uc, ut, uk, ua, ul, um, qa, ql, qm⟩ exSeq [48, 5, 2, 1, 5, 5, 0] w7 HN7.out (by decide) (by decide) (by decide) (tabs_below HTB.out (HB2.out.trans (g7.mono HB2.out.size))) exSeq_enc exSeq_siz
  unfold NV.agg at ht8
  dsimp only at ht8
  refine ht8.mono ?_
  rintro e w8 ⟨rfl, hb8⟩
  have g8 : Below w2.heap.size w2 w8 := g7.trans (hb8.mono g7.size)
  clear hb8 ht8 HN7 g7
  refine hK.out _ _ ⟨(g8.cell (p := ⟨w1.heap.size, 0, none⟩) HLT.out).trans p0, (g8.cell (p := ⟨w1.heap.size, 1, none⟩) HLT.out).trans p1, (g8.cell (p := ⟨w1.heap.size, 2, none⟩) HLT.out).trans p2, (g8.cell (p := ⟨w1.heap.size, 3, none⟩) HLT.out).trans p3, (g8.cell (p := ⟨w1.heap.size, 4, none⟩) HLT.out).trans p4⟩ (fun hHeld => ?_)
  clear hK K
  try simp only [List.getElem_toArray, List.getElem_cons_succ, List.getElem_cons_zero, Act.put, List.setIfInBounds_toArray, List.set_cons_zero, List.set_cons_succ]
  refine' tk 8 ?_
  try simp only [List.getElem_toArray, List.getElem_cons_succ, List.getElem_cons_zero, Act.put, List.setIfInBounds_toArray, List.set_cons_zero, List.set_cons_succ]
  refine' tk 9 ?_
  try simp only [List.getElem_toArray, List.getElem_cons_succ, List.getElem_cons_zero, Act.put, List.setIfInBounds_toArray, List.set_cons_zero, List.set_cons_succ]
  refine' tr 10 (fun K hK => ?_)
  try simp only [List.getElem_toArray, List.getElem_cons_succ, List.getElem_cons_zero]
  go_simp
  refine (length_any 256 (by decide) _).mono ?_
  rintro e w9 ⟨⟨v9, rfl, ho9⟩, hb9⟩
  rw [if_neg (by decide), show lenU (256 : Int).toNat = [130, 1, 0] from ex_len] at ho9
  obtain ⟨a9, n9, c9, rfl⟩ := own8_sl ho9
  have g9 : Below w2.heap.size w2 w9 := g8.trans (hb9.mono g8.size)
  have hcv := conv8 ho9.bts
  clear hb9 g8
  refine hK.out _ _ ⟨(g9.cell (p := ⟨w1.heap.size, 0, none⟩) HLT.out).trans p0, (g9.cell (p := ⟨w1.heap.size, 1, none⟩) HLT.out).trans p1, (g9.cell (p := ⟨w1.heap.size, 2, none⟩) HLT.out).trans p2, (g9.cell (p := ⟨w1.heap.size, 3, none⟩) HLT.out).trans p3, (g9.cell (p := ⟨w1.heap.size, 4, none⟩) HLT.out).trans p4⟩ (fun hHeld => ?_)
  clear hK K
  try simp only [List.getElem_toArray, List.getElem_cons_succ, List.getElem_cons_zero, Act.put, List.setIfInBounds_toArray, List.set_cons_zero, List.set_cons_succ]
  refine' tr 11 (fun K hK => ?_)
  try simp only [List.getElem_toArray, List.getElem_cons_succ, List.getElem_cons_zero]
  go_simp
  refine hK.out _ _ ⟨(g9.cell (p := ⟨w1.heap.size, 0, none⟩) HLT.out).trans p0, (g9.cell (p := ⟨w1.heap.size, 1, none⟩) HLT.out).trans p1, (g9.cell (p := ⟨w1.heap.size, 2, none⟩) HLT.out).trans p2, (g9.cell (p := ⟨w1.heap.size, 3, none⟩) HLT.out).trans p3, (g9.cell (p := ⟨w1.heap.size, 4, none⟩) HLT.out).trans p4⟩ (fun hHeld => ?_)
  clear hK K
  try simp only [List.getElem_toArray, List.getElem_cons_succ, List.getElem_cons_zero, Act.put, List.setIfInBounds_toArray, List.set_cons_zero, List.set_cons_succ]
  have hse : ((strOf [130, 1, 0]).toList == [130, 1, 0]) = true := ex_str
  refine' tk 12 ?_
  try simp only [List.getElem_toArray, List.getElem_cons_succ, List.getElem_cons_zero, Act.put, List.setIfInBounds_toArray, List.set_cons_zero, List.set_cons_succ]
  try rw [hse]
  refine' tk 13 ?_
  try simp only [List.getElem_toArray, List.getElem_cons_succ, List.getElem_cons_zero, Act.put, List.setIfInBounds_toArray, List.set_cons_zero, List.set_cons_succ]
  refine' tk 14 ?_
  try simp only [List.getElem_toArray, List.getElem_cons_succ, List.getElem_cons_zero, Act.put, List.setIfInBounds_toArray, List.set_cons_zero, List.set_cons_succ]
  refine wpAnyH_done (by kernel_rfl) ?_ _
  have HB9 := Lib.hid (HB2.out.trans (g9.mono HB2.out.size))
  clear hHeld p0 p1 p2 p3 p4
  go_wp2_with fail
  go_ret
  exact ⟨by rfl, HB9.out⟩

end Go.Proofs.YtkmphiakciihfaaDoor
