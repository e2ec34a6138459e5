/-
  Texts of ours, one behind the other: DeK DeL
-/
import Derived.Test.YtkmphiakciihfaaDoorDeT
import Derived.Test.YtkmphiakciihfaaDoorTrQ
import Derived.Test.YtkmphiakciihfaaDoorTrM
import Derived.Test.YtkmphiakciihfaaDoorTk
import Derived.Test.YtkmphiakciihfaaDoorTrR

namespace Go.Proofs.YtkmphiakciihfaaDoor
open Go.RowKit

/-- The examples. -/
def exInt : Tr := .mk 0 2 false (intL 5) []
def exNull : Tr := .mk 0 5 false [] []
def exSeq : Tr := .mk 0 16 true [] [exInt, exNull]
theorem exInt_enc : dEncR exInt = ([2, 1, 5], 0) := by kernel_rfl
theorem exInt_siz : dSizR exInt = (3, 0) := by kernel_rfl
theorem exSeq_enc : dEncR exSeq = ([48, 5, 2, 1, 5, 5, 0], 0) := by kernel_rfl
theorem exSeq_siz : dSizR exSeq = (7, 0) := by kernel_rfl
theorem ex_str : ((strOf [130, 1, 0]).toList == [130, 1, 0]) = true := by first | kernel_rfl | decide | (simp [strOf]; done)
theorem ex_len : lenU 256 = [130, 1, 0] := by kernel_rfl

set_option maxHeartbeats 2000000 in
theorem told_any (V : NV) (T : Tr) (L : List UInt8) (w : World) (hn : NodeAt w V T) (hw : T.wt ≤ 1000000) (hN : T.cnt ≤ 1000000) (hd : T.dep ≤ 1000000) (hl : Tabs w) (h1 : dEncR T = (L, 0)) (h2 : dSizR T = ((L.length : Int), 0)) :
    Calls Tryd.prog 26 #[V.agg, .string (strOf L)] w fun e w' => e = .returned (.bool true) ∧ Below w.heap.size w w' := by
  obtain ⟨c, t, kk, ba, bl, bc, ka, kl, kc⟩ := V
  obtain ⟨w1, hw1⟩ : ∃ w1, w.alloc (.cells #[.int .i64 c, .int .i64 t, .bool kk, .slice ba bl bc, .slice ka kl kc] 25) = w1 := ⟨_, rfl⟩
  have hb1 : Below w.heap.size w w1 := by rw [← hw1]; exact (Below.refl _ _).alloc (Nat.le_refl _) _
  have hcx : CellsAt w1 w.heap.size 0 ⟨c, t, kk, ba, bl, bc, ka, kl, kc⟩ := by rw [← hw1]; exact cells5 w c t kk ba bl bc ka kl kc _
  have HE := Lib.hid (dEnc_any ⟨c, t, kk, ba, bl, bc, ka, kl, kc⟩ T w1 (hn.under hb1) hw hN hd (tabs_below hl hb1))
  have HS := Lib.hid (fun (W : World) (hB : Below w1.heap.size w1 W) => dSize_any ⟨c, t, kk, ba, bl, bc, ka, kl, kc⟩ T W ((hn.under hb1).under hB) hw hN hd (tabs_below (tabs_below hl hb1) hB))
  rw [h1] at HE
  rw [h2] at HS
  have HC := Lib.hid hcx
  have HB1 := Lib.hid hb1
  obtain ⟨p0, p1, p2, p3, p4⟩ := hcx
  dsimp only at p0 p1 p2 p3 p4
  simp only [Nat.zero_add] at p0 p1 p2 p3 p4
  unfold NV.agg at HE HS ⊢
  dsimp only at HE HS ⊢
  have hss : (strOf L).size = L.length := rfl
  clear hn hb1 hl hw h1 h2
  go_enter Tryd.func26, Tryd.ntmps26
  go_wp2_with fail
  clear hw1
  refine HE.out.mono ?_
  rintro e w2 ⟨⟨v, rfl, ho⟩, hb2⟩
  obtain ⟨a, n, k, rfl⟩ := own8_sl ho
  obtain ⟨q0, q1, q2, q3, q4⟩ := HC.out.below hb2 HC.out.lt
  dsimp only at q0 q1 q2 q3 q4
  simp only [Nat.zero_add] at q0 q1 q2 q3 q4
  have HO := Lib.hid ho.bts
  have HB2 := Lib.hid hb2
  clear ho hb2 p0 p1 p2 p3 p4 HE
  go_wp2_with fail
  refine (HS.out w2 HB2.out).mono ?_
  rintro e w3 ⟨rfl, hb3⟩
  have hcv := conv8 (HO.out.below hb3)
  have HB3 := Lib.hid (HB1.out.trans ((HB2.out.trans (hb3.mono HB2.out.size)).mono HB1.out.size))
  clear hb3 q0 q1 q2 q3 q4
  generalize strOf L = S at *
  generalize L.length = m at *
  go_wp2_with fail
  go_ret
  exact ⟨rfl, HB3.out⟩

set_option maxRecDepth 100000 in
set_option maxHeartbeats 4000000 in
theorem alive12 (w : World) (hl : Tabs w) : Calls Tryd.prog 27 #[] w fun e w' => e = .returned (.bool true) ∧ Below w.heap.size w w' := by
  have HP := Lib.hid (prim_any 0 5 none 0 0 [] w (Reads.none _ w) (fun x h => by cases h) (by omega))
  have HTB := Lib.hid hl
  clear hl
  go_enter Tryd.func27, Tryd.ntmps27
  go_wp2_with fail
  refine HP.out.mono ?_
  rintro e w1 ⟨⟨V, rfl, hm⟩, hb1⟩
  have HN := Lib.hid hm.node
  have HB1 := Lib.hid hb1
  obtain ⟨vc, vt, vk, ba, bl, bc, ka, kl, kc⟩ := V
  unfold NV.agg
  dsimp only
  clear hm hb1 HP
  go_wp2_with fail
  obtain ⟨w2, hw2⟩ : ∃ u, w1.alloc (.cells #[.int .i64 vc, .int .i64 vt, .bool vk, .slice ba bl bc, .slice ka kl kc] 25) = u := ⟨_, rfl⟩
  have hb2 : Below w1.heap.size w1 w2 := by rw [← hw2]; exact (Below.refl _ _).alloc (Nat.le_refl _) _
  have hcx : CellsAt w2 w1.heap.size 0 ⟨vc, vt, vk, ba, bl, bc, ka, kl, kc⟩ := by rw [← hw2]; exact cells5 w1 vc vt vk ba bl bc ka kl kc _
  have HLT := Lib.hid (show w1.heap.size < w2.heap.size from hcx.lt)
  obtain ⟨p0, p1, p2, p3, p4⟩ := hcx
  dsimp only at p0 p1 p2 p3 p4
  simp only [Nat.zero_add] at p0 p1 p2 p3 p4
  have HN := Lib.hid (HN.out.under hb2)
  have HB2 := Lib.hid (HB1.out.trans (hb2.mono HB1.out.size))
  rw [hw2]
  clear hw2 hb2
  refine wp_region_held_drew (S := fun Y => Y.cell? ⟨w1.heap.size, 0, none⟩ = some (.int .i64 vc) ∧ Y.cell? ⟨w1.heap.size, 1, none⟩ = some (.int .i64 vt) ∧ Y.cell? ⟨w1.heap.size, 2, none⟩ = some (.bool vk) ∧ Y.cell? ⟨w1.heap.size, 3, none⟩ = some (.slice ba bl bc) ∧ Y.cell? ⟨w1.heap.size, 4, none⟩ = some (.slice ka kl kc)) (by kernel_rfl) ⟨p0, p1, p2, p3, p4⟩ (fun hHeld => ?_)
  try simp only [List.getElem_toArray, List.getElem_cons_succ, List.getElem_cons_zero, Act.put, List.setIfInBounds_toArray, List.set_cons_zero, List.set_cons_succ]
  refine' tr 0 (fun K hK => ?_)
  try simp only [List.getElem_toArray, List.getElem_cons_succ, List.getElem_cons_zero]
  go_simp
  refine (int_any 5 _ (by decide) (by decide)).mono ?_
  rintro e w3 ⟨⟨V3, rfl, hm3⟩, hb3⟩
  have g3 : Below w2.heap.size w2 w3 := (Below.refl _ w2).drew.trans hb3
  have HN3 := Lib.hid (show NodeAt w3 V3 exInt from hm3.node)
  obtain ⟨xc, xt, xk, xa, xl, xm, ya, yl, ym⟩ := V3
  unfold NV.agg
  dsimp only
  clear hm3 hb3
  refine hK.out _ _ ⟨(g3.cell (p := ⟨w1.heap.size, 0, none⟩) HLT.out).trans p0, (g3.cell (p := ⟨w1.heap.size, 1, none⟩) HLT.out).trans p1, (g3.cell (p := ⟨w1.heap.size, 2, none⟩) HLT.out).trans p2, (g3.cell (p := ⟨w1.heap.size, 3, none⟩) HLT.out).trans p3, (g3.cell (p := ⟨w1.heap.size, 4, none⟩) HLT.out).trans p4⟩ (fun hHeld => ?_)
  clear hK K
  try simp only [List.getElem_toArray, List.getElem_cons_succ, List.getElem_cons_zero, Act.put, List.setIfInBounds_toArray, List.set_cons_zero, List.set_cons_succ]
  refine' tr 1 (fun K hK => ?_)
  try simp only [List.getElem_toArray, List.getElem_cons_succ, List.getElem_cons_zero]
  go_simp
  have ht4 := told_any ⟨xc, xt, xk, xa, xl, xm, ya, yl, ym⟩ exInt [2, 1, 5] w3 HN3.out (by decide) (by decide) (by decide) (tabs_below HTB.out (HB2.out.trans (g3.mono HB2.out.size))) exInt_enc exInt_siz
  unfold NV.agg at ht4
  dsimp only at ht4
  refine ht4.mono ?_
  rintro e w4 ⟨rfl, hb4⟩
  have g4 : Below w2.heap.size w2 w4 := g3.trans (hb4.mono g3.size)
  clear hb4 ht4 HN3 g3
  refine hK.out _ _ ⟨(g4.cell (p := ⟨w1.heap.size, 0, none⟩) HLT.out).trans p0, (g4.cell (p := ⟨w1.heap.size, 1, none⟩) HLT.out).trans p1, (g4.cell (p := ⟨w1.heap.size, 2, none⟩) HLT.out).trans p2, (g4.cell (p := ⟨w1.heap.size, 3, none⟩) HLT.out).trans p3, (g4.cell (p := ⟨w1.heap.size, 4, none⟩) HLT.out).trans p4⟩ (fun hHeld => ?_)
  clear hK K
  try simp only [List.getElem_toArray, List.getElem_cons_succ, List.getElem_cons_zero, Act.put, List.setIfInBounds_toArray, List.set_cons_zero, List.set_cons_succ]
  refine' tk 2 ?_
  try simp only [List.getElem_toArray, List.getElem_cons_succ, List.getElem_cons_zero, Act.put, List.setIfInBounds_toArray, List.set_cons_zero, List.set_cons_succ]
  refine' tk 4 ?_
  try simp only [List.getElem_toArray, List.getElem_cons_succ, List.getElem_cons_zero, Act.put, List.setIfInBounds_toArray, List.set_cons_zero, List.set_cons_succ]
  refine' tr 3 (fun K hK => ?_)
  try simp only [List.getElem_toArray, List.getElem_cons_succ, List.getElem_cons_zero]
  go_simp
  refine (int_any 5 _ (by decide) (by decide)).mono ?_
  rintro e w5 ⟨⟨V5, rfl, hm5⟩, hb5⟩
  have g5 : Below w2.heap.size w2 w5 := g4.trans (hb5.mono g4.size)
  have HN5 := Lib.hid (show NodeAt w5 V5 exInt from hm5.node)
  obtain ⟨xc, xt, xk, xa, xl, xm, ya, yl, ym⟩ := V5
  unfold NV.agg
  dsimp only
  clear hm5 hb5 g4
  refine hK.out _ _ ⟨(g5.cell (p := ⟨w1.heap.size, 0, none⟩) HLT.out).trans p0, (g5.cell (p := ⟨w1.heap.size, 1, none⟩) HLT.out).trans p1, (g5.cell (p := ⟨w1.heap.size, 2, none⟩) HLT.out).trans p2, (g5.cell (p := ⟨w1.heap.size, 3, none⟩) HLT.out).trans p3, (g5.cell (p := ⟨w1.heap.size, 4, none⟩) HLT.out).trans p4⟩ (fun hHeld => ?_)
  clear hK K
  try simp only [List.getElem_toArray, List.getElem_cons_succ, List.getElem_cons_zero, Act.put, List.setIfInBounds_toArray, List.set_cons_zero, List.set_cons_succ]
  refine' tr 5 (fun K hK => ?_)
  try simp only [List.getElem_toArray, List.getElem_cons_succ, List.getElem_cons_zero]
  go_simp
  have hb6 : Below w5.heap.size w5 (w5.alloc (.cells #[.int .i64 xc, .int .i64 xt, .bool xk, .slice xa xl xm, .slice ya yl ym, .int .i64 vc, .int .i64 vt, .bool vk, .slice ba bl bc, .slice ka kl kc] 25)) := (Below.refl _ w5).alloc (Nat.le_refl _) _
  have g6 := g5.trans (hb6.mono g5.size)
  have HR6 := Lib.hid (nodes2 w5 ⟨xc, xt, xk, xa, xl, xm, ya, yl, ym⟩ ⟨vc, vt, vk, ba, bl, bc, ka, kl, kc⟩ exInt exNull HN5.out (HN.out.under (g5)) 25)
  dsimp only at HR6
  refine hK.out _ _ ⟨(g6.cell (p := ⟨w1.heap.size, 0, none⟩) HLT.out).trans p0, (g6.cell (p := ⟨w1.heap.size, 1, none⟩) HLT.out).trans p1, (g6.cell (p := ⟨w1.heap.size, 2, none⟩) HLT.out).trans p2, (g6.cell (p := ⟨w1.heap.size, 3, none⟩) HLT.out).trans p3, (g6.cell (p := ⟨w1.heap.size, 4, none⟩) HLT.out).trans p4⟩ (fun hHeld => ?_)
  clear hK K
  try simp only [List.getElem_toArray, List.getElem_cons_succ, List.getElem_cons_zero, Act.put, List.setIfInBounds_toArray, List.set_cons_zero, List.set_cons_succ]
  refine' tr 6 (fun K hK => ?_)
  try simp only [List.getElem_toArray, List.getElem_cons_succ, List.getElem_cons_zero]
  go_simp
  refine (cons_any 0 16 _ _ _ [exInt, exNull] _ HR6.out (by decide)).mono ?_
  rintro e w7 ⟨⟨V7, rfl, hm7⟩, hb7⟩
  have g7 : Below w2.heap.size w2 w7 := g6.trans (hb7.mono g6.size)
  have HN7 := Lib.hid (show NodeAt w7 V7 exSeq from hm7.node)
  obtain ⟨uc, ut, uk, ua, ul, um, qa, ql, qm⟩ := V7
  unfold NV.agg
  dsimp only
  clear hm7 hb7 hb6 g5 g6 HR6 HN5
  refine hK.out _ _ ⟨(g7.cell (p := ⟨w1.heap.size, 0, none⟩) HLT.out).trans p0, (g7.cell (p := ⟨w1.heap.size, 1, none⟩) HLT.out).trans p1, (g7.cell (p := ⟨w1.heap.size, 2, none⟩) HLT.out).trans p2, (g7.cell (p := ⟨w1.heap.size, 3, none⟩) HLT.out).trans p3, (g7.cell (p := ⟨w1.heap.size, 4, none⟩) HLT.out).trans p4⟩ (fun hHeld => ?_)
  clear hK K
  try simp only [List.getElem_toArray, List.getElem_cons_succ, List.getElem_cons_zero, Act.put, List.setIfInBounds_toArray, List.set_cons_zero, List.set_cons_succ]
  refine' tr 7 (fun K hK => ?_)
  try simp only [List.getElem_toArray, List.getElem_cons_succ, List.getElem_cons_zero]
  go_simp
  have ht8 := told_any ⟨uc, ut, uk, ua, ul, um, qa, ql, qm⟩ exSeq [48, 5, 2, 1, 5, 5, 0] w7 HN7.out (by decide) (by decide) (by decide) (tabs_below HTB.out (HB2.out.trans (g7.mono HB2.out.size))) exSeq_enc exSeq_siz
  unfold NV.agg at ht8
  dsimp only at ht8
  refine ht8.mono ?_
  rintro e w8 ⟨rfl, hb8⟩
  have g8 : Below w2.heap.size w2 w8 := g7.trans (hb8.mono g7.size)
  clear hb8 ht8 HN7 g7
  refine hK.out _ _ ⟨(g8.cell (p := ⟨w1.heap.size, 0, none⟩) HLT.out).trans p0, (g8.cell (p := ⟨w1.heap.size, 1, none⟩) HLT.out).trans p1, (g8.cell (p := ⟨w1.heap.size, 2, none⟩) HLT.out).trans p2, (g8.cell (p := ⟨w1.heap.size, 3, none⟩) HLT.out).trans p3, (g8.cell (p := ⟨w1.heap.size, 4, none⟩) HLT.out).trans p4⟩ (fun hHeld => ?_)
  clear hK K
  try simp only [List.getElem_toArray, List.getElem_cons_succ, List.getElem_cons_zero, Act.put, List.setIfInBounds_toArray, List.set_cons_zero, List.set_cons_succ]
  refine' tk 8 ?_
  try simp only [List.getElem_toArray, List.getElem_cons_succ, List.getElem_cons_zero, Act.put, List.setIfInBounds_toArray, List.set_cons_zero, List.set_cons_succ]
  refine' tk 9 ?_
  try simp only [List.getElem_toArray, List.getElem_cons_succ, List.getElem_cons_zero, Act.put, List.setIfInBounds_toArray, List.set_cons_zero, List.set_cons_succ]
  refine' tr 10 (fun K hK => ?_)
  try simp only [List.getElem_toArray, List.getElem_cons_succ, List.getElem_cons_zero]
  go_simp
  refine (length_any 256 (by decide) _).mono ?_
  rintro e w9 ⟨⟨v9, rfl, ho9⟩, hb9⟩
  rw [if_neg (by decide), show lenU (256 : Int).toNat = [130, 1, 0] from ex_len] at ho9
  obtain ⟨a9, n9, c9, rfl⟩ := own8_sl ho9
  have g9 : Below w2.heap.size w2 w9 := g8.trans (hb9.mono g8.size)
  have hcv := conv8 ho9.bts
  clear hb9 g8
  refine hK.out _ _ ⟨(g9.cell (p := ⟨w1.heap.size, 0, none⟩) HLT.out).trans p0, (g9.cell (p := ⟨w1.heap.size, 1, none⟩) HLT.out).trans p1, (g9.cell (p := ⟨w1.heap.size, 2, none⟩) HLT.out).trans p2, (g9.cell (p := ⟨w1.heap.size, 3, none⟩) HLT.out).trans p3, (g9.cell (p := ⟨w1.heap.size, 4, none⟩) HLT.out).trans p4⟩ (fun hHeld => ?_)
  clear hK K
  try simp only [List.getElem_toArray, List.getElem_cons_succ, List.getElem_cons_zero, Act.put, List.setIfInBounds_toArray, List.set_cons_zero, List.set_cons_succ]
  refine' tr 11 (fun K hK => ?_)
  try simp only [List.getElem_toArray, List.getElem_cons_succ, List.getElem_cons_zero]
  go_simp
  refine hK.out _ _ ⟨(g9.cell (p := ⟨w1.heap.size, 0, none⟩) HLT.out).trans p0, (g9.cell (p := ⟨w1.heap.size, 1, none⟩) HLT.out).trans p1, (g9.cell (p := ⟨w1.heap.size, 2, none⟩) HLT.out).trans p2, (g9.cell (p := ⟨w1.heap.size, 3, none⟩) HLT.out).trans p3, (g9.cell (p := ⟨w1.heap.size, 4, none⟩) HLT.out).trans p4⟩ (fun hHeld => ?_)
  clear hK K
  try simp only [List.getElem_toArray, List.getElem_cons_succ, List.getElem_cons_zero, Act.put, List.setIfInBounds_toArray, List.set_cons_zero, List.set_cons_succ]
  have hse : ((strOf [130, 1, 0]).toList == [130, 1, 0]) = true := ex_str
  refine' tk 12 ?_
  try simp only [List.getElem_toArray, List.getElem_cons_succ, List.getElem_cons_zero, Act.put, List.setIfInBounds_toArray, List.set_cons_zero, List.set_cons_succ]
  try rw [hse]
  refine' tk 13 ?_
  try simp only [List.getElem_toArray, List.getElem_cons_succ, List.getElem_cons_zero, Act.put, List.setIfInBounds_toArray, List.set_cons_zero, List.set_cons_succ]
  refine' tk 14 ?_
  try simp only [List.getElem_toArray, List.getElem_cons_succ, List.getElem_cons_zero, Act.put, List.setIfInBounds_toArray, List.set_cons_zero, List.set_cons_succ]
  refine wpAnyH_done (by kernel_rfl) ?_ _
  have HB9 := Lib.hid (HB2.out.trans (g9.mono HB2.out.size))
  clear hHeld p0 p1 p2 p3 p4
  go_wp2_with fail
  go_ret
  exact ⟨by rfl, HB9.out⟩

end Go.Proofs.YtkmphiakciihfaaDoor

namespace Go.Proofs.YtkmphiakciihfaaDoor
open Go.RowKit

theorem cmp_cons (x y : UInt8) (a b : List UInt8) : Lib.compareBytes (x :: a) (y :: b) = if x < y then -1 else if y < x then 1 else Lib.compareBytes a b := rfl

theorem cmp_self : ∀ a : List UInt8, Lib.compareBytes a a = 0
  | [] => rfl
  | x :: a => by rw [cmp_cons, if_neg (UInt8.lt_irrefl x), if_neg (UInt8.lt_irrefl x), cmp_self a]

theorem cmp_tri : ∀ a b : List UInt8, Lib.compareBytes a b = -1 ∨ Lib.compareBytes a b = 0 ∨ Lib.compareBytes a b = 1
  | [], [] => .inr (.inl rfl)
  | [], _ :: _ => .inl rfl
  | _ :: _, [] => .inr (.inr rfl)
  | x :: a, y :: b => by
    rw [cmp_cons]
    have := cmp_tri a b
    split
    · exact .inl rfl
    · split
      · exact .inr (.inr rfl)
      · exact this

theorem cmp_anti : ∀ a b : List UInt8, Lib.compareBytes b a = -Lib.compareBytes a b
  | [], [] => rfl
  | [], _ :: _ => rfl
  | _ :: _, [] => rfl
  | x :: a, y :: b => by
    rw [cmp_cons, cmp_cons]
    have := cmp_anti a b
    simp only [UInt8.lt_iff_toNat_lt]
    split
    · rw [if_neg (by omega)]
    · split
      · rfl
      · exact this

theorem cmp_eq : ∀ a b : List UInt8, Lib.compareBytes a b = 0 → a = b
  | [], [], _ => rfl
  | [], _ :: _, h => by cases h
  | _ :: _, [], h => by cases h
  | x :: a, y :: b, h => by
    rw [cmp_cons] at h
    simp only [UInt8.lt_iff_toNat_lt] at h
    split at h
    · cases h
    · split at h
      · cases h
      · rw [cmp_eq a b h, UInt8.toNat_inj.1 (by omega : x.toNat = y.toNat)]

theorem cmp_trans : ∀ a b c : List UInt8, Lib.compareBytes a b = -1 → Lib.compareBytes b c = -1 → Lib.compareBytes a c = -1
  | [], [], _, h, _ => by cases h
  | [], _ :: _, [], _, h => by cases h
  | [], _ :: _, _ :: _, _, _ => rfl
  | _ :: _, [], _, h, _ => by cases h
  | _ :: _, _ :: _, [], _, h => by cases h
  | x :: a, y :: b, z :: c, h1, h2 => by
    rw [cmp_cons] at h1 h2 ⊢
    simp only [UInt8.lt_iff_toNat_lt] at *
    have := cmp_trans a b c
    split at h1
    · split at h2
      · rw [if_pos (by omega)]
      · split at h2
        · cases h2
        · rw [if_pos (by omega)]
    · split at h1
      · cases h1
      · split at h2
        · rw [if_pos (by omega)]
        · split at h2
          · cases h2
          · rw [if_neg (by omega), if_neg (by omega)]; exact this h1 h2


theorem dCmp_zero (T U : Tr) : (dCmpR T U).2 = 0 ↔ (dEncR T).2 = 0 ∧ (dEncR U).2 = 0 := by
  unfold dCmpR
  by_cases h1 : (dEncR T).2 = 0
  · rw [if_pos h1]
    by_cases h2 : (dEncR U).2 = 0
    · rw [if_pos h2]; simp [h1, h2]
    · rw [if_neg h2]; simp [h1, h2]
  · rw [if_neg h1]; simp [h1]
theorem dCmp_val {T U : Tr} (h : (dCmpR T U).2 = 0) : (dCmpR T U).1 = Lib.compareBytes T.der U.der := by
  obtain ⟨h1, h2⟩ := (dCmp_zero T U).1 h
  unfold dCmpR
  rw [if_pos h1, if_pos h2]
theorem dCmp_turn {T U : Tr} (h : (dCmpR T U).2 = 0) : (dCmpR U T).1 = -(dCmpR T U).1 := by
  obtain ⟨h1, h2⟩ := (dCmp_zero T U).1 h
  rw [dCmp_val h, dCmp_val ((dCmp_zero U T).2 ⟨h2, h1⟩), cmp_anti]
theorem dCmp_same {T U : Tr} (h : (dCmpR T U).2 = 0) (hs : T.sm) (hs2 : U.sm) : (dCmpR T U).1 = 0 ↔ sameB T U = true := by
  obtain ⟨h1, h2⟩ := (dCmp_zero T U).1 h
  rw [dCmp_val h, sameB_iff]
  obtain ⟨-, f1, z1, -⟩ := dSizR_fine (dEncR_ok h1).1
  obtain ⟨-, f2, z2, -⟩ := dSizR_fine (dEncR_ok h2).1
  have hb : (65536 : Nat) < 256 ^ 8 := by decide
  constructor
  · intro e
    have := cmp_eq _ _ e
    exact (der_inj T U [] [] f1 f2 hs hs2 (by omega) (by omega) (by rw [this])).1
  · rintro rfl
    exact cmp_self _
theorem dCmp_tri {T U S : Tr} (h1 : (dCmpR T U).2 = 0) (h2 : (dCmpR U S).2 = 0) (h3 : (dCmpR T S).2 = 0) :
    ((dCmpR T U).1 = -1 ∨ (dCmpR T U).1 = 0 ∨ (dCmpR T U).1 = 1) ∧ ((dCmpR U S).1 = -1 ∨ (dCmpR U S).1 = 0 ∨ (dCmpR U S).1 = 1) ∧
    (((dCmpR T U).1 = 1 ∧ (dCmpR U S).1 = -1) ∨ ((dCmpR T U).1 = -1 ∧ (dCmpR U S).1 = 1) ∨ ((dCmpR T U).1 = 0 ∧ (dCmpR T S).1 = (dCmpR U S).1) ∨ ((dCmpR U S).1 = 0 ∧ (dCmpR T S).1 = (dCmpR T U).1) ∨ ((dCmpR U S).1 = (dCmpR T U).1 ∧ (dCmpR T S).1 = (dCmpR T U).1)) := by
  rw [dCmp_val h1, dCmp_val h2, dCmp_val h3]
  refine ⟨cmp_tri _ _, cmp_tri _ _, ?_⟩
  rcases cmp_tri T.der U.der with h4 | h4 | h4 <;> rcases cmp_tri U.der S.der with h5 | h5 | h5
  · exact .inr (.inr (.inr (.inr ⟨by rw [h4, h5], by rw [h4]; exact cmp_trans _ _ _ h4 h5⟩)))
  · exact .inr (.inr (.inr (.inl ⟨h5, by rw [← cmp_eq _ _ h5]⟩)))
  · exact .inr (.inl ⟨h4, h5⟩)
  · exact .inr (.inr (.inl ⟨h4, by rw [cmp_eq _ _ h4]⟩))
  · exact .inr (.inr (.inl ⟨h4, by rw [cmp_eq _ _ h4]⟩))
  · exact .inr (.inr (.inl ⟨h4, by rw [cmp_eq _ _ h4]⟩))
  · exact .inl ⟨h4, h5⟩
  · exact .inr (.inr (.inr (.inl ⟨h5, by rw [← cmp_eq _ _ h5]⟩)))
  · refine .inr (.inr (.inr (.inr ⟨by rw [h4, h5], ?_⟩)))
    have h6 := cmp_trans S.der U.der T.der (by rw [cmp_anti, h5]) (by rw [cmp_anti, h4])
    have h7 := cmp_anti S.der T.der
    rw [h6] at h7
    rw [h7, h4]
    rfl

set_option maxRecDepth 100000 in
set_option maxHeartbeats 16000000 in
theorem apart_walk (V U X : NV) (T1 T2 T3 : Tr) (w : World) (hn1 : NodeAt w V T1) (hn2 : NodeAt w U T2) (hn3 : NodeAt w X T3) (hl1 : T1.lim) (hl2 : T2.lim) (hl3 : T3.lim) (hk : Tabs w) :
    Calls Tryd.prog 8 #[V.agg, U.agg, X.agg] w fun e w' => e = .returned (.bool true) ∧ Below w.heap.size w w' := by
  obtain ⟨c, t, k, ba, bl, bc, ka, kl, kc⟩ := V
  obtain ⟨xc, xt, xk, xa, xl, xm, ya, yl, ym⟩ := U
  obtain ⟨uc, ut, uk, ua, ul, um, qa, ql, qm⟩ := X
  obtain ⟨w0, hw0⟩ : ∃ u, w.alloc (.cells #[.int .i64 c, .int .i64 t, .bool k, .slice ba bl bc, .slice ka kl kc] 25) = u := ⟨_, rfl⟩
  obtain ⟨w1, hw1⟩ : ∃ u, w0.alloc (.cells #[.int .i64 xc, .int .i64 xt, .bool xk, .slice xa xl xm, .slice ya yl ym] 25) = u := ⟨_, rfl⟩
  obtain ⟨w2, hw2⟩ : ∃ u, w1.alloc (.cells #[.int .i64 uc, .int .i64 ut, .bool uk, .slice ua ul um, .slice qa ql qm] 25) = u := ⟨_, rfl⟩
  have hb0 : Below w.heap.size w w0 := by rw [← hw0]; exact (Below.refl _ _).alloc (Nat.le_refl _) _
  have hb1 : Below w0.heap.size w0 w1 := by rw [← hw1]; exact (Below.refl _ _).alloc (Nat.le_refl _) _
  have hb2 : Below w1.heap.size w1 w2 := by rw [← hw2]; exact (Below.refl _ _).alloc (Nat.le_refl _) _
  have hz0 : w0.heap.size = w.heap.size + 1 := by rw [← hw0]; simp
  have hz1 : w1.heap.size = w0.heap.size + 1 := by rw [← hw1]; simp
  have hb02 : Below w0.heap.size w0 w2 := hb1.trans (hb2.mono hb1.size)
  have hbw : Below w.heap.size w w2 := hb0.trans (hb02.mono hb0.size)
  have ca : CellsAt w2 w.heap.size 0 ⟨c, t, k, ba, bl, bc, ka, kl, kc⟩ := CellsAt.below (by rw [← hw0]; exact cells5 w c t k ba bl bc ka kl kc _) hb02 (by omega)
  have cb : CellsAt w2 w0.heap.size 0 ⟨xc, xt, xk, xa, xl, xm, ya, yl, ym⟩ := CellsAt.below (by rw [← hw1]; exact cells5 w0 xc xt xk xa xl xm ya yl ym _) hb2 (by omega)
  have cc : CellsAt w2 w1.heap.size 0 ⟨uc, ut, uk, ua, ul, um, qa, ql, qm⟩ := by rw [← hw2]; exact cells5 w1 uc ut uk ua ul um qa ql qm _
  have CA := Lib.hid (fun (W : World) (h : Below w2.heap.size w2 W) => ca.below h ca.lt)
  have CB := Lib.hid (fun (W : World) (h : Below w2.heap.size w2 W) => cb.below h cb.lt)
  have CC := Lib.hid (fun (W : World) (h : Below w2.heap.size w2 W) => cc.below h cc.lt)
  have N1 := Lib.hid (fun (W : World) (h : Below w2.heap.size w2 W) => (hn1.under hbw).under h)
  have N2 := Lib.hid (fun (W : World) (h : Below w2.heap.size w2 W) => (hn2.under hbw).under h)
  have N3 := Lib.hid (fun (W : World) (h : Below w2.heap.size w2 W) => (hn3.under hbw).under h)
  have HT := Lib.hid (fun (W : World) (h : Below w2.heap.size w2 W) => tabs_below (tabs_below hk hbw) h)
  have HBW := Lib.hid hbw
  have HL := Lib.hid (show T1.lim ∧ T2.lim ∧ T3.lim from ⟨hl1, hl2, hl3⟩)
  have HS := Lib.hid (show T1.sm ∧ T2.sm from ⟨hn1.sm, hn2.sm⟩)
  have HAL := Lib.hid (alive12 w2 (tabs_below hk hbw))
  clear hn1 hn2 hn3 hl1 hl2 hl3 hk hb0 hb1 hb2 hb02 hbw ca cb cc hz0 hz1
  unfold NV.agg
  dsimp only
  go_enter Tryd.func8, Tryd.ntmps8
  go_wp2_with fail
  clear hw0 hw1 hw2
  refine HAL.out.mono ?_
  rintro e v0 ⟨rfl, hb⟩
  have G0 := Lib.hid hb
  clear hb HAL
  have hg := great12_any T1 ⟨c, t, k, ba, bl, bc, ka, kl, kc⟩ v0 (N1.out v0 G0.out) HL.out.1
  unfold NV.agg at hg
  dsimp only at hg
  obtain ⟨p0, p1, p2, p3, p4⟩ := CA.out v0 G0.out
  obtain ⟨q0, q1, q2, q3, q4⟩ := CB.out v0 G0.out
  obtain ⟨r0, r1, r2, r3, r4⟩ := CC.out v0 G0.out
  dsimp only at p0 p1 p2 p3 p4 q0 q1 q2 q3 q4 r0 r1 r2 r3 r4
  simp only [Nat.zero_add] at p0 p1 p2 p3 p4 q0 q1 q2 q3 q4 r0 r1 r2 r3 r4
  go_wp2_with fail
  refine hg.mono ?_
  rintro e v1 ⟨rfl, hb⟩
  have G1 := Lib.hid (G0.out.trans (hb.mono G0.out.size))
  clear hb hg
  clear p0 p1 p2 p3 p4 q0 q1 q2 q3 q4 r0 r1 r2 r3 r4
  cases g1 : great12 T1 with
  | true =>
    go_wp2_with fail
    go_ret
    exact ⟨rfl, HBW.out.trans (G1.out.mono HBW.out.size)⟩
  | false =>
    have b1 := great12_no g1
    have hg := great12_any T2 ⟨xc, xt, xk, xa, xl, xm, ya, yl, ym⟩ v1 (N2.out v1 G1.out) HL.out.2.1
    unfold NV.agg at hg
    dsimp only at hg
    obtain ⟨p0, p1, p2, p3, p4⟩ := CA.out v1 G1.out
    obtain ⟨q0, q1, q2, q3, q4⟩ := CB.out v1 G1.out
    obtain ⟨r0, r1, r2, r3, r4⟩ := CC.out v1 G1.out
    dsimp only at p0 p1 p2 p3 p4 q0 q1 q2 q3 q4 r0 r1 r2 r3 r4
    simp only [Nat.zero_add] at p0 p1 p2 p3 p4 q0 q1 q2 q3 q4 r0 r1 r2 r3 r4
    go_wp2_with fail
    refine hg.mono ?_
    rintro e v2 ⟨rfl, hb⟩
    have G2 := Lib.hid (G1.out.trans (hb.mono G1.out.size))
    clear hb hg
    clear p0 p1 p2 p3 p4 q0 q1 q2 q3 q4 r0 r1 r2 r3 r4
    cases g2 : great12 T2 with
    | true =>
      go_wp2_with fail
      go_ret
      exact ⟨rfl, HBW.out.trans (G2.out.mono HBW.out.size)⟩
    | false =>
      have b2 := great12_no g2
      have hg := great12_any T3 ⟨uc, ut, uk, ua, ul, um, qa, ql, qm⟩ v2 (N3.out v2 G2.out) HL.out.2.2
      unfold NV.agg at hg
      dsimp only at hg
      obtain ⟨p0, p1, p2, p3, p4⟩ := CA.out v2 G2.out
      obtain ⟨q0, q1, q2, q3, q4⟩ := CB.out v2 G2.out
      obtain ⟨r0, r1, r2, r3, r4⟩ := CC.out v2 G2.out
      dsimp only at p0 p1 p2 p3 p4 q0 q1 q2 q3 q4 r0 r1 r2 r3 r4
      simp only [Nat.zero_add] at p0 p1 p2 p3 p4 q0 q1 q2 q3 q4 r0 r1 r2 r3 r4
      go_wp2_with fail
      refine hg.mono ?_
      rintro e v3 ⟨rfl, hb⟩
      have G3 := Lib.hid (G2.out.trans (hb.mono G2.out.size))
      clear hb hg
      clear p0 p1 p2 p3 p4 q0 q1 q2 q3 q4 r0 r1 r2 r3 r4
      cases g3 : great12 T3 with
      | true =>
        go_wp2_with fail
        go_ret
        exact ⟨rfl, HBW.out.trans (G3.out.mono HBW.out.size)⟩
      | false =>
        have b3 := great12_no g3
        clear g1 g2 g3
        have H12 := Lib.hid (dCmp_zero T1 T2)
        have H21 := Lib.hid (dCmp_zero T2 T1)
        have HTU := Lib.hid (fun h => dCmp_turn (T := T1) (U := T2) h)
        have HSM := Lib.hid (fun h => dCmp_same (T := T1) (U := T2) h HS.out.1 HS.out.2)
        have HTR := Lib.hid (fun h1 h2 h3 => dCmp_tri (T := T1) (U := T2) (S := T3) h1 h2 h3)
        have HEF := Lib.hid (show (dCmpR T1 T2).2 = 0 ↔ (dCmpR T2 T1).2 = 0 by rw [H12.out, H21.out]; exact And.comm)
        have HD1 := Lib.hid (fun (h : (dCmpR T1 T2).2 = 0) => (cmp_tri T1.der T2.der : _))
        have HV1 := Lib.hid (fun (h : (dCmpR T1 T2).2 = 0) => (show (dCmpR T1 T2).1 = -1 ∨ (dCmpR T1 T2).1 = 0 ∨ (dCmpR T1 T2).1 = 1 by rw [dCmp_val h]; exact cmp_tri _ _))
        clear HD1 H12 H21
        have hc := dCmp_any ⟨c, t, k, ba, bl, bc, ka, kl, kc⟩ ⟨xc, xt, xk, xa, xl, xm, ya, yl, ym⟩ T1 T2 v3 (N1.out v3 G3.out) (N2.out v3 G3.out) (by have := b1.1; omega) (by have := b1.2.1; omega) (by have := b1.2.2; omega) (by have := b2.1; omega) (by have := b2.2.1; omega) (by have := b2.2.2; omega) (HT.out v3 G3.out)
        unfold NV.agg at hc
        dsimp only at hc
        obtain ⟨p0, p1, p2, p3, p4⟩ := CA.out v3 G3.out
        obtain ⟨q0, q1, q2, q3, q4⟩ := CB.out v3 G3.out
        obtain ⟨r0, r1, r2, r3, r4⟩ := CC.out v3 G3.out
        dsimp only at p0 p1 p2 p3 p4 q0 q1 q2 q3 q4 r0 r1 r2 r3 r4
        simp only [Nat.zero_add] at p0 p1 p2 p3 p4 q0 q1 q2 q3 q4 r0 r1 r2 r3 r4
        go_wp2_with fail
        refine hc.mono ?_
        rintro e v4 ⟨rfl, hb⟩
        have G4 := Lib.hid (G3.out.trans (hb.mono G3.out.size))
        clear hb hc
        clear p0 p1 p2 p3 p4 q0 q1 q2 q3 q4 r0 r1 r2 r3 r4
        have hc := dCmp_any ⟨xc, xt, xk, xa, xl, xm, ya, yl, ym⟩ ⟨c, t, k, ba, bl, bc, ka, kl, kc⟩ T2 T1 v4 (N2.out v4 G4.out) (N1.out v4 G4.out) (by have := b2.1; omega) (by have := b2.2.1; omega) (by have := b2.2.2; omega) (by have := b1.1; omega) (by have := b1.2.1; omega) (by have := b1.2.2; omega) (HT.out v4 G4.out)
        unfold NV.agg at hc
        dsimp only at hc
        obtain ⟨p0, p1, p2, p3, p4⟩ := CA.out v4 G4.out
        obtain ⟨q0, q1, q2, q3, q4⟩ := CB.out v4 G4.out
        obtain ⟨r0, r1, r2, r3, r4⟩ := CC.out v4 G4.out
        dsimp only at p0 p1 p2 p3 p4 q0 q1 q2 q3 q4 r0 r1 r2 r3 r4
        simp only [Nat.zero_add] at p0 p1 p2 p3 p4 q0 q1 q2 q3 q4 r0 r1 r2 r3 r4
        go_wp2_with fail
        refine hc.mono ?_
        rintro e v5 ⟨rfl, hb⟩
        have G5 := Lib.hid (G4.out.trans (hb.mono G4.out.size))
        clear hb hc
        clear p0 p1 p2 p3 p4 q0 q1 q2 q3 q4 r0 r1 r2 r3 r4
        have hc := dCmp_any ⟨xc, xt, xk, xa, xl, xm, ya, yl, ym⟩ ⟨uc, ut, uk, ua, ul, um, qa, ql, qm⟩ T2 T3 v5 (N2.out v5 G5.out) (N3.out v5 G5.out) (by have := b2.1; omega) (by have := b2.2.1; omega) (by have := b2.2.2; omega) (by have := b3.1; omega) (by have := b3.2.1; omega) (by have := b3.2.2; omega) (HT.out v5 G5.out)
        unfold NV.agg at hc
        dsimp only at hc
        obtain ⟨p0, p1, p2, p3, p4⟩ := CA.out v5 G5.out
        obtain ⟨q0, q1, q2, q3, q4⟩ := CB.out v5 G5.out
        obtain ⟨r0, r1, r2, r3, r4⟩ := CC.out v5 G5.out
        dsimp only at p0 p1 p2 p3 p4 q0 q1 q2 q3 q4 r0 r1 r2 r3 r4
        simp only [Nat.zero_add] at p0 p1 p2 p3 p4 q0 q1 q2 q3 q4 r0 r1 r2 r3 r4
        go_wp2_with fail
        refine hc.mono ?_
        rintro e v6 ⟨rfl, hb⟩
        have G6 := Lib.hid (G5.out.trans (hb.mono G5.out.size))
        clear hb hc
        clear p0 p1 p2 p3 p4 q0 q1 q2 q3 q4 r0 r1 r2 r3 r4
        have hc := dCmp_any ⟨c, t, k, ba, bl, bc, ka, kl, kc⟩ ⟨uc, ut, uk, ua, ul, um, qa, ql, qm⟩ T1 T3 v6 (N1.out v6 G6.out) (N3.out v6 G6.out) (by have := b1.1; omega) (by have := b1.2.1; omega) (by have := b1.2.2; omega) (by have := b3.1; omega) (by have := b3.2.1; omega) (by have := b3.2.2; omega) (HT.out v6 G6.out)
        unfold NV.agg at hc
        dsimp only at hc
        obtain ⟨p0, p1, p2, p3, p4⟩ := CA.out v6 G6.out
        obtain ⟨q0, q1, q2, q3, q4⟩ := CB.out v6 G6.out
        obtain ⟨r0, r1, r2, r3, r4⟩ := CC.out v6 G6.out
        dsimp only at p0 p1 p2 p3 p4 q0 q1 q2 q3 q4 r0 r1 r2 r3 r4
        simp only [Nat.zero_add] at p0 p1 p2 p3 p4 q0 q1 q2 q3 q4 r0 r1 r2 r3 r4
        go_wp2_with fail
        refine hc.mono ?_
        rintro e v7 ⟨rfl, hb⟩
        have G7 := Lib.hid (G6.out.trans (hb.mono G6.out.size))
        clear hb hc
        clear p0 p1 p2 p3 p4 q0 q1 q2 q3 q4 r0 r1 r2 r3 r4
        obtain ⟨sb, hsb⟩ : ∃ x, sameB T1 T2 = x := ⟨_, rfl⟩
        have hsa := same_any T1 T2 ⟨c, t, k, ba, bl, bc, ka, kl, kc⟩ ⟨xc, xt, xk, xa, xl, xm, ya, yl, ym⟩ v7 (N1.out v7 G7.out) (N2.out v7 G7.out)
        unfold NV.agg at hsa
        dsimp only at hsa
        rw [hsb] at hsa HSM
        have HSA := Lib.hid hsa
        clear hsa hsb
        obtain ⟨p0, p1, p2, p3, p4⟩ := CA.out v7 G7.out
        obtain ⟨q0, q1, q2, q3, q4⟩ := CB.out v7 G7.out
        obtain ⟨r0, r1, r2, r3, r4⟩ := CC.out v7 G7.out
        dsimp only at p0 p1 p2 p3 p4 q0 q1 q2 q3 q4 r0 r1 r2 r3 r4
        simp only [Nat.zero_add] at p0 p1 p2 p3 p4 q0 q1 q2 q3 q4 r0 r1 r2 r3 r4
        generalize dCmpR T1 T2 = x1 at *
        generalize dCmpR T2 T1 = x2 at *
        generalize dCmpR T2 T3 = x3 at *
        generalize dCmpR T1 T3 = x4 at *
        obtain ⟨a, e1⟩ := x1
        obtain ⟨b, e2⟩ := x2
        obtain ⟨cx, e3⟩ := x3
        obtain ⟨d, e4⟩ := x4
        dsimp only at HTU HSM HTR HEF HV1 ⊢
        by_cases h1 : e1 = 0
        · have h2 : e2 = 0 := HEF.out.1 h1
          subst h1 h2
          have hb : b = -a := HTU.out rfl
          have hv := HV1.out rfl
          have hs : a = 0 ↔ sb = true := HSM.out rfl
          have HTR2 := Lib.hid (fun (h2 : e3 = 0) (h3 : e4 = 0) => HTR.out rfl h2 h3)
          clear HEF HTU HSM HTR HV1
          subst hb
          rcases hv with rfl | rfl | rfl
          · obtain rfl : sb = false := by cases sb; (· rfl); (· have := hs.2 rfl; omega)
            clear hs
            go_wp2_with fail
            refine HSA.out.mono ?_
            rintro e v8 ⟨rfl, hb⟩
            have G8 := Lib.hid (G7.out.trans (hb.mono G7.out.size))
            clear hb HSA p0 p1 p2 p3 p4 q0 q1 q2 q3 q4 r0 r1 r2 r3 r4
            by_cases h3 : e3 = 0
            · subst h3
              by_cases h4 : e4 = 0
              · subst h4
                obtain ⟨-, hc, hd⟩ := HTR2.out rfl rfl
                clear HTR2
                rcases hc with rfl | rfl | rfl
                · obtain rfl : d = -1 := by omega
                  go_wp2_with fail
                  go_ret
                  exact ⟨rfl, HBW.out.trans (G8.out.mono HBW.out.size)⟩
                · obtain rfl : d = -1 := by omega
                  go_wp2_with fail
                  go_ret
                  exact ⟨rfl, HBW.out.trans (G8.out.mono HBW.out.size)⟩
                · clear hd
                  by_cases hd1 : d ≤ 0
                  · by_cases hd2 : 0 ≤ d
                    · have z1 : decide (d ≤ 0) = true := decide_eq_true hd1
                      have z2 : decide (0 ≤ d) = true := decide_eq_true hd2
                      go_wp2_with fail
                      go_ret
                      exact ⟨rfl, HBW.out.trans (G8.out.mono HBW.out.size)⟩
                    · have z1 : decide (d ≤ 0) = true := decide_eq_true hd1
                      have z2 : decide (0 ≤ d) = false := decide_eq_false hd2
                      go_wp2_with fail
                      go_ret
                      exact ⟨rfl, HBW.out.trans (G8.out.mono HBW.out.size)⟩
                  · have z1 : decide (d ≤ 0) = false := decide_eq_false hd1
                    have z2 : decide (0 ≤ d) = true := decide_eq_true (by omega)
                    go_wp2_with fail
                    go_ret
                    exact ⟨rfl, HBW.out.trans (G8.out.mono HBW.out.size)⟩
              · have z4 : (e4 != 0) = true := by simpa using h4
                go_wp2_with fail
                go_ret
                exact ⟨rfl, HBW.out.trans (G8.out.mono HBW.out.size)⟩
            · have z3 : (e3 != 0) = true := by simpa using h3
              go_wp2_with fail
              go_ret
              exact ⟨rfl, HBW.out.trans (G8.out.mono HBW.out.size)⟩
          · obtain rfl : sb = true := by exact hs.1 rfl
            clear hs
            go_wp2_with fail
            refine HSA.out.mono ?_
            rintro e v8 ⟨rfl, hb⟩
            have G8 := Lib.hid (G7.out.trans (hb.mono G7.out.size))
            clear hb HSA p0 p1 p2 p3 p4 q0 q1 q2 q3 q4 r0 r1 r2 r3 r4
            by_cases h3 : e3 = 0
            · subst h3
              by_cases h4 : e4 = 0
              · subst h4
                obtain ⟨-, hc, hd⟩ := HTR2.out rfl rfl
                clear HTR2
                rcases hc with rfl | rfl | rfl
                · obtain rfl : d = -1 := by omega
                  go_wp2_with fail
                  go_ret
                  exact ⟨rfl, HBW.out.trans (G8.out.mono HBW.out.size)⟩
                · obtain rfl : d = 0 := by omega
                  go_wp2_with fail
                  go_ret
                  exact ⟨rfl, HBW.out.trans (G8.out.mono HBW.out.size)⟩
                · obtain rfl : d = 1 := by omega
                  go_wp2_with fail
                  go_ret
                  exact ⟨rfl, HBW.out.trans (G8.out.mono HBW.out.size)⟩
              · have z4 : (e4 != 0) = true := by simpa using h4
                go_wp2_with fail
                go_ret
                exact ⟨rfl, HBW.out.trans (G8.out.mono HBW.out.size)⟩
            · have z3 : (e3 != 0) = true := by simpa using h3
              go_wp2_with fail
              go_ret
              exact ⟨rfl, HBW.out.trans (G8.out.mono HBW.out.size)⟩
          · obtain rfl : sb = false := by cases sb; (· rfl); (· have := hs.2 rfl; omega)
            clear hs
            go_wp2_with fail
            refine HSA.out.mono ?_
            rintro e v8 ⟨rfl, hb⟩
            have G8 := Lib.hid (G7.out.trans (hb.mono G7.out.size))
            clear hb HSA p0 p1 p2 p3 p4 q0 q1 q2 q3 q4 r0 r1 r2 r3 r4
            by_cases h3 : e3 = 0
            · subst h3
              by_cases h4 : e4 = 0
              · subst h4
                obtain ⟨-, hc, hd⟩ := HTR2.out rfl rfl
                clear HTR2
                rcases hc with rfl | rfl | rfl
                · clear hd
                  by_cases hd1 : d ≤ 0
                  · by_cases hd2 : 0 ≤ d
                    · have z1 : decide (d ≤ 0) = true := decide_eq_true hd1
                      have z2 : decide (0 ≤ d) = true := decide_eq_true hd2
                      go_wp2_with fail
                      go_ret
                      exact ⟨rfl, HBW.out.trans (G8.out.mono HBW.out.size)⟩
                    · have z1 : decide (d ≤ 0) = true := decide_eq_true hd1
                      have z2 : decide (0 ≤ d) = false := decide_eq_false hd2
                      go_wp2_with fail
                      go_ret
                      exact ⟨rfl, HBW.out.trans (G8.out.mono HBW.out.size)⟩
                  · have z1 : decide (d ≤ 0) = false := decide_eq_false hd1
                    have z2 : decide (0 ≤ d) = true := decide_eq_true (by omega)
                    go_wp2_with fail
                    go_ret
                    exact ⟨rfl, HBW.out.trans (G8.out.mono HBW.out.size)⟩
                · obtain rfl : d = 1 := by omega
                  go_wp2_with fail
                  go_ret
                  exact ⟨rfl, HBW.out.trans (G8.out.mono HBW.out.size)⟩
                · obtain rfl : d = 1 := by omega
                  go_wp2_with fail
                  go_ret
                  exact ⟨rfl, HBW.out.trans (G8.out.mono HBW.out.size)⟩
              · have z4 : (e4 != 0) = true := by simpa using h4
                go_wp2_with fail
                go_ret
                exact ⟨rfl, HBW.out.trans (G8.out.mono HBW.out.size)⟩
            · have z3 : (e3 != 0) = true := by simpa using h3
              go_wp2_with fail
              go_ret
              exact ⟨rfl, HBW.out.trans (G8.out.mono HBW.out.size)⟩
        · have h2 : ¬ e2 = 0 := fun h => h1 (HEF.out.2 h)
          have z1 : (e1 == 0) = false := by simpa using h1
          have z2 : (e2 == 0) = false := by simpa using h2
          have z3 : (e1 != 0) = true := by simpa using h1
          clear HEF HTU HSM HTR HV1 HSA
          go_wp2_with fail
          go_ret
          exact ⟨rfl, HBW.out.trans (G7.out.mono HBW.out.size)⟩
end Go.Proofs.YtkmphiakciihfaaDoor
