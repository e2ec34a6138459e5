/-
  THE REFERENCE: a tree's nodes in a row; the first rule that it breaks.
-/
import Derived.Test.YtkmphiakciihfaaDoorTxE
import Derived.Laws.OwnMore
import Derived.Lib.SmallJoins
namespace Go.Proofs.YtkmphiakciihfaaDoor
open Go.RowKit Go.Joins

/-- The nodes, in order of their numbers. -/
def Ts (T : Tr) : List Tr := (T.nodes 1).map (·.2)
def TsL (ks : List Tr) : List Tr := (nodesL 1 ks).map (·.2)
theorem Ts_mk (c t : Int) (k : Bool) (l : List Nat) (ks : List Tr) : Ts (.mk c t k l ks) = .mk c t k l ks :: TsL ks := by
  unfold Ts TsL
  rw [Tr.nodes, List.map_cons, nodesL_snd (1 + 1) 1 ks]
theorem Ts_length (T : Tr) : (Ts T).length = T.cnt := by unfold Ts; rw [List.length_map, T.nodes_length 1]
theorem TsL_length (ks : List Tr) : (TsL ks).length = cntL ks := by unfold TsL; rw [List.length_map, nodesL_length 1]
theorem TsL_take (ks : List Tr) (k : Nat) (hk : k < ks.length) : TsL (ks.take (k + 1)) = TsL (ks.take k) ++ Ts ks[k] := by
  unfold TsL Ts
  rw [nodesL_take 1 ks k hk, List.map_append]

/-- These cells are these nodes'. -/
def Reps (w0 : World) (Vs : List NV) (L : List Tr) : Prop := Vs.length = L.length ∧ ∀ (i : Nat) (V : NV) (T : Tr), Vs[i]? = some V → L[i]? = some T → NodeAt w0 V T
theorem Reps.append {w0 : World} {Vs Vs2 : List NV} {L L2 : List Tr} (h : Reps w0 Vs L) (h2 : Reps w0 Vs2 L2) : Reps w0 (Vs ++ Vs2) (L ++ L2) := by
  refine ⟨by rw [List.length_append, List.length_append, h.1, h2.1], fun i V T hv ht => ?_⟩
  by_cases hi : i < Vs.length
  · rw [List.getElem?_append_left hi] at hv
    rw [List.getElem?_append_left (by rw [← h.1]; exact hi)] at ht
    exact h.2 i V T hv ht
  · rw [List.getElem?_append_right (by omega)] at hv
    rw [List.getElem?_append_right (by rw [← h.1]; omega), ← h.1] at ht
    exact h2.2 _ V T hv ht
theorem Reps.one {w0 : World} {V : NV} {T : Tr} (h : NodeAt w0 V T) : Reps w0 [V] [T] := ⟨rfl, fun i V' T' hv ht => by
  match i with
  | 0 => simp at hv ht; subst hv ht; exact h
  | i + 1 => simp at hv⟩

/-- A row of such cells, of the call's own. -/
def RowN (w : World) (B : Nat) (v : Value) (Vs : List NV) : Prop := w.ownsRow B 25 5 v Vs.length (Vs.flatMap NV.cells)
theorem RowN.below {w w' : World} {B : Nat} {v : Value} {Vs : List NV} (h : RowN w B v Vs) (hb : Below w.heap.size w w') : RowN w' B v Vs := by
  obtain ⟨h1, h2⟩ := h
  refine ⟨h1, ?_⟩
  rcases h2 with h2 | ⟨g, cap, cur, hv, hB, hg, rest⟩
  · exact .inl h2
  · exact .inr ⟨g, cap, cur, hv, hB, by rw [hb.block g (Array.getElem?_eq_some_iff.1 hg).1]; exact hg, rest⟩
theorem flat5_length (Vs : List NV) : (Vs.flatMap NV.cells).length = Vs.length * 5 := by
  induction Vs with
  | nil => rfl
  | cons V Vs ih => rw [List.flatMap_cons, List.length_append, ih, List.length_cons]; simp [NV.cells]; omega
theorem flat5_get (Vs : List NV) (i j : Nat) (V : NV) (hi : Vs[i]? = some V) (hj : j < 5) : (Vs.flatMap NV.cells)[i * 5 + j]? = V.cells[j]? := by
  induction Vs generalizing i with
  | nil => simp at hi
  | cons X Vs ih =>
    rw [List.flatMap_cons]
    have hX : X.cells.length = 5 := rfl
    match i with
    | 0 =>
      simp at hi
      subst hi
      rw [List.getElem?_append_left (by omega)]
      simp
    | i + 1 =>
      rw [List.getElem?_append_right (by omega), hX, show (i + 1) * 5 + j - 5 = i * 5 + j by omega]
      exact ih i (by simpa using hi)
theorem flat5_one (Vs : List NV) : ∀ u ∈ Vs.flatMap NV.cells, u.oneCell' = true := fun u hu => by
  obtain ⟨V, -, h⟩ := List.mem_flatMap.1 hu
  exact nvcells_one V u h
theorem RowN.at {w : World} {B g n cap : Nat} {Vs : List NV} (h : RowN w B (.slice (some ⟨g, 0, .none⟩) n cap) Vs) (i : Nat) (V : NV) (hi : Vs[i]? = some V) : CellsAt w g (i * 5) V := by
  have hn : n = Vs.length := by
    rcases h.2 with ⟨h', _⟩ | ⟨_, _, _, h', _⟩
    · simp at h'
    · simp only [Value.slice.injEq] at h'; exact h'.2.1
  subst hn
  have hil : i < Vs.length := (List.getElem?_eq_some_iff.1 hi).1
  have key : ∀ j, j < 5 → w.cell? ⟨g, i * 5 + j, .none⟩ = V.cells[j]? := fun j hj => by
    rw [World.ownsRow.cellAt h (i * 5 + j) (by omega), flat5_get Vs i j V hi hj]
  exact ⟨key 0 (by omega), key 1 (by omega), key 2 (by omega), key 3 (by omega), key 4 (by omega)⟩

def ListOk (T : Tr) : Prop := ∀ (w0 : World) (V : NV) (w : World), NodeAt w0 V T → Below w0.heap.size w0 w → T.cnt ≤ 1000000 →
  Calls Tryd.prog 65 #[V.agg] w fun e w' => (∃ v Vs, e = .returned v ∧ RowN w' w.heap.size v Vs ∧ Reps w0 Vs (Ts T)) ∧ Below w.heap.size w w'

structure LisI (w0 w1 : World) (T : Tr) (ks : List Tr) (k : Nat) (v : Value) (Vs : List NV) (wr : World) : Prop where
  row : RowN wr w1.heap.size v Vs
  reps : Reps w0 Vs (T :: TsL (ks.take k))
  below : Below w1.heap.size w1 wr

set_option maxHeartbeats 8000000 in
set_option maxRecDepth 100000 in
theorem list_of (c t : Int) (kk : Bool) (l : List Nat) (ks : List Tr) (hI : ∀ T ∈ ks, ListOk T) : ListOk (.mk c t kk l ks) := by
  intro w0 V w hn hbw hcn
  obtain ⟨i0, hi, hz0, hz1, hz2⟩ := info_parts Tryd.infoNode
  have hkd := hn.kids
  have HN := Lib.hid hn
  obtain ⟨vc, vt, vk, ba, bl, bc, ka, kl, kc⟩ := V
  dsimp only at hkd
  simp only [Tr.kids] at hkd
  have hTs := Ts_mk c t kk l ks
  simp only [Tr.cnt] at hcn
  generalize Tr.mk c t kk l ks = T at *
  have hkl := Lib.hid hkd.length
  have hkle := hkd.le
  have hkm := hkd.max
  unfold maxLen at hkm
  obtain ⟨w1, hw1⟩ : ∃ w1, w.alloc (.cells #[.int .i64 vc, .int .i64 vt, .bool vk, .slice ba bl bc, .slice ka kl kc] 25) = w1 := ⟨_, rfl⟩
  have hz1' : w1.heap.size = w.heap.size + 1 := by rw [← hw1]; simp
  have hb1 : Below w.heap.size w w1 := by rw [← hw1]; exact (Below.refl _ _).alloc (Nat.le_refl _) _
  have ca : CellsAt w1 w.heap.size 0 ⟨vc, vt, vk, ba, bl, bc, ka, kl, kc⟩ := by rw [← hw1]; exact cells5 w vc vt vk ba bl bc ka kl kc _
  obtain ⟨w2, hw2⟩ : ∃ w2, w1.alloc (.cells #[.int .i64 vc, .int .i64 vt, .bool vk, .slice ba bl bc, .slice ka kl kc] 25) = w2 := ⟨_, rfl⟩
  have hb2 : Below w1.heap.size w1 w2 := by rw [← hw2]; exact (Below.refl _ _).alloc (Nat.le_refl _) _
  have hrow : RowN w2 w1.heap.size (.slice (some ⟨w1.heap.size, 0, none⟩) 1 1) [⟨vc, vt, vk, ba, bl, bc, ka, kl, kc⟩] := by
    rw [← hw2]
    exact World.ownsRow_lit (base := w1.heap.size) w1 #[.int .i64 vc, .int .i64 vt, .bool vk, .slice ba bl bc, .slice ka kl kc] 1 (Nat.le_refl _) (by unfold maxLen; omega) rfl
  have CA := Lib.hid ca
  have HB1 := Lib.hid hb1
  have HB01 := Lib.hid (hbw.trans (hb1.mono hbw.size))
  have HZ := Lib.hid hz1'
  have HS0 := Lib.hid hbw.size
  have HKD := Lib.hid hkd
  have HI := Lib.hid hI
  have HTS := Lib.hid hTs
  have HST := Lib.hid (show LisI w0 w1 T ks 0 (.slice (some ⟨w1.heap.size, 0, none⟩) 1 1) [⟨vc, vt, vk, ba, bl, bc, ka, kl, kc⟩] w2 from ⟨hrow, by rw [List.take_zero]; exact Reps.one HN.out, hb2⟩)
  obtain ⟨p0, p1, p2, p3, p4⟩ := ca
  dsimp only at p0 p1 p2 p3 p4
  simp only [Nat.zero_add] at p0 p1 p2 p3 p4
  clear hn hkd hb1 hb2 hz1' hI hbw hrow hTs
  unfold NV.agg
  dsimp only
  go_enter Tryd.func65, Tryd.ntmps65
  go_wp2_with fail
  clear hw1 hw2 p0 p1 p2 p3 p4
  go_loopw [4, 3] (fun i vv wr => ∃ (k : Nat) (v : Value) (Vs : List NV), k ≤ kl ∧ i = .int .i64 (k : Int) ∧ vv = v ∧ LisI w0 w1 T ks k v Vs wr) (fun i _ _ => kl - (intOf i).toNat)
  case atStart => exact ⟨0, _, _, Nat.zero_le _, rfl, rfl, HST.out⟩
  case round =>
    obtain ⟨k, v, Vs, hk, rfl, rfl, hr⟩ := hrel
    have HR := Lib.hid hr
    have p4 := (CA.out.below hr.below (by have := HZ.out; omega)).c4
    dsimp only at p4
    rw [Nat.zero_add] at p4
    clear hr
    by_cases hlt : k < kl
    · have hk1 : k < ks.length := by rw [hkl.out]; exact hlt
      obtain ⟨U, hc, hnu⟩ := HKD.out.cells
      obtain ⟨b1, o1, rfl, hb1, hcell⟩ := hc (by omega)
      have hb0r : Below w0.heap.size w0 wr := HB01.out.trans (HR.out.below.mono HB01.out.size)
      have hcu := (hcell k hlt).below hb0r hb1
      have hnk := hnu k hk1
      have HTK := Lib.hid (TsL_take ks k hk1)
      obtain ⟨X, hX⟩ : ∃ X, U k = X := ⟨_, rfl⟩
      rw [hX] at hcu hnk
      have hcm := cntL_mem (List.getElem_mem hk1)
      have htk := cntL_take ks k hk1
      have htl := cntL_take_le ks (k + 1)
      have HOK := Lib.hid (HI.out ks[k] (List.getElem_mem hk1) w0 X wr hnk hb0r (by omega))
      obtain ⟨xc, xt, xk, xa, xl, xm, ya, yl, ym⟩ := X
      unfold NV.agg at HOK
      dsimp only at HOK
      obtain ⟨r0, r1, r2, r3, r4⟩ := hcu
      dsimp only at r0 r1 r2 r3 r4
      have HLV := Lib.hid (show Vs.length = cntL (ks.take k) + 1 by rw [HR.out.reps.1, List.length_cons, TsL_length])
      have HLK := Lib.hid (show cntL (ks.take k) + ks[k].cnt ≤ 1000000 by omega)
      clear hc hnu hcell hnk hX hb1 hb0r hcm htk htl
      generalize ks[k] = K at *
      go_wp2_with fail
      refine HOK.out.mono ?_
      rintro e w4 ⟨⟨v2, Vs2, rfl, hrow2, hreps2⟩, hb4⟩
      have hl2 : Vs2.length = K.cnt := by rw [hreps2.1, Ts_length]
      obtain ⟨g2, c2, rfl⟩ := ownsRow_form hrow2 (by rw [hl2]; exact K.cnt_pos)
      have HROW := Lib.hid (HR.out.row.below hb4)
      have HB4 := Lib.hid hb4
      have HRP := Lib.hid (show Reps w0 (Vs ++ Vs2) (T :: TsL (ks.take (k + 1))) by rw [HTK.out]; exact HR.out.reps.append hreps2)
      have HNEW := Lib.hid (show ∀ j u, (Vs2.flatMap NV.cells)[j]? = some u → w4.cell? ((⟨g2, 0, none⟩ : Addr).add j) = some u from fun j u hu => by
        have hj : j < Vs2.length * 5 := by rw [← flat5_length]; exact (List.getElem?_eq_some_iff.1 hu).1
        rw [show (⟨g2, 0, none⟩ : Addr).add j = ⟨g2, j, none⟩ by unfold Addr.add; split <;> simp_all, World.ownsRow.cellAt hrow2 j hj]
        exact hu)
      have HL2 := Lib.hid hl2
      clear hb4 hrow2 hreps2 p4 r0 r1 r2 r3 r4 HOK hl2
      go_wp2_with (at_builtin; refine wpList_append_own_at _ rfl _ _ 23 rfl w1.heap.size 25 i0 _ 5 72 Tryd.underlying23 hi hz0 hz1 hz2 rfl (by decide) _ Vs.length (Vs.flatMap NV.cells) rfl HROW.out ⟨g2, 0, none⟩ Vs2.length c2 (Vs2.flatMap NV.cells) rfl (flat5_length Vs2) HNEW.out (flat5_one Vs2) (by have := HLV.out; have := HL2.out; have := HLK.out; unfold maxLen; omega) (by have := HLV.out; have := HL2.out; have := HLK.out; omega) (by have := HR.out.below.size; have := HB4.out.size; omega) ?_; intro v5 w5 hr5 hg5 hn5 ho5)
      have HR5 := Lib.hid (show RowN w5 w1.heap.size v5 (Vs ++ Vs2) by unfold RowN; rw [List.length_append, List.flatMap_append]; exact hr5)
      have HB5 := Lib.hid ((HR.out.below.trans (HB4.out.mono HR.out.below.size)).grown hg5 (by have := HR.out.below.size; have := HB4.out.size; omega) (fun r e => (World.ownsRow.lt HROW.out r e).1))
      clear hr5 hg5 hn5 ho5
      go_wp2_with fail
      go_roundw
      case rel => exact ⟨k + 1, v5, Vs ++ Vs2, by omega, by go_num, rfl, HR5.out, HRP.out, HB5.out⟩
      case measure => simp [intOf]; omega
    · obtain rfl : k = kl := by omega
      have HF := Lib.hid (show Reps w0 Vs (Ts T) by
        have := HR.out.reps
        rw [show ks.take k = ks from List.take_of_length_le (by rw [hkl.out]; exact Nat.le_refl _), ← HTS.out] at this
        exact this)
      clear hlt
      go_wp2_with fail
      go_ret
      exact ⟨⟨_, Vs, rfl, ownsRow_le HR.out.row (by have := HZ.out; omega), HF.out⟩, HB1.out.trans (HR.out.below.mono (by have := HZ.out; omega))⟩

theorem list_ok : ∀ (n : Nat) (T : Tr), T.cnt ≤ n → ListOk T
  | 0, T, h => by have := T.cnt_pos; omega
  | n + 1, .mk c t k l ks, h => by
    simp only [Tr.cnt] at h
    exact list_of c t k l ks fun T hT => list_ok n T (by have := cntL_mem hT; omega)
theorem rlist_any (T : Tr) (V : NV) (w : World) (hn : NodeAt w V T) (h : T.cnt ≤ 1000000) :
    Calls Tryd.prog 65 #[V.agg] w fun e w' => (∃ v Vs, e = .returned v ∧ RowN w' w.heap.size v Vs ∧ Reps w Vs (Ts T)) ∧ Below w.heap.size w w' :=
  list_ok T.cnt T (Nat.le_refl _) w V w hn (Below.refl _ _) h

mutual
theorem Tr.b_nodes (d : Nat) : ∀ (t : Tr), ∀ p ∈ t.nodes d, p.2.b.length ≤ t.wt
  | .mk c t k l ks, p, hp => by
    simp only [Tr.nodes, List.mem_cons] at hp
    simp only [Tr.wt]
    rcases hp with rfl | hp
    · simp only [Tr.b]; omega
    · have := b_nodesL (d + 1) ks p hp; omega
theorem b_nodesL (d : Nat) : ∀ (l : List Tr), ∀ p ∈ nodesL d l, p.2.b.length ≤ wtL l
  | [], p, hp => by simp [nodesL] at hp
  | t :: ts, p, hp => by
    simp only [nodesL, List.mem_append] at hp
    simp only [wtL]
    rcases hp with hp | hp
    · have := Tr.b_nodes d t p hp; omega
    · have := b_nodesL d ts p hp; omega
end
theorem Ts_b (T : Tr) (X : Tr) (h : X ∈ Ts T) : X.b.length ≤ T.wt := by
  obtain ⟨p, hp, rfl⟩ := List.mem_map.1 h
  exact T.b_nodes 1 p hp

structure WroI (q : Int → List Nat → Bool) (w1 : World) (g n cap : Nat) (Vs : List NV) (L : List Tr) (k : Nat) (wr : World) : Prop where
  row : RowN wr 0 (.slice (some ⟨g, 0, none⟩) n cap) Vs
  same : fbT q L = if (fbT q (L.drop k)).1 = 0 then (0, -1) else ((fbT q (L.drop k)).1, (fbT q (L.drop k)).2 + (k : Int))
  below : Below w1.heap.size w1 wr

set_option maxHeartbeats 8000000 in
set_option maxRecDepth 100000 in
theorem rwrong_any (V : NV) (T : Tr) (w : World) (hn : NodeAt w V T) (hw : T.wt ≤ 1000000) (hN : T.cnt ≤ 1000000) (hd : T.dep ≤ 1000000) :
    Calls Tryd.prog 55 #[V.agg] w fun e w' => e = .returned (.tuple #[.int .i64 (wrongR qV T).1, .int .i64 (wrongR qV T).2]) ∧ Below w.heap.size w w' := by
  obtain ⟨c, t, kk, ba, bl, bc, ka, kl, kc⟩ := V
  obtain ⟨w1, hw1⟩ : ∃ w1, w.alloc (.cells #[.int .i64 c, .int .i64 t, .bool kk, .slice ba bl bc, .slice ka kl kc] 25) = w1 := ⟨_, rfl⟩
  have hz1 : w1.heap.size = w.heap.size + 1 := by rw [← hw1]; simp
  have hb1 : Below w.heap.size w w1 := by rw [← hw1]; exact (Below.refl _ _).alloc (Nat.le_refl _) _
  have ca : CellsAt w1 w.heap.size 0 ⟨c, t, kk, ba, bl, bc, ka, kl, kc⟩ := by rw [← hw1]; exact cells5 w c t kk ba bl bc ka kl kc _
  have CA := Lib.hid ca
  have HB1 := Lib.hid hb1
  have HZ := Lib.hid hz1
  have HN := Lib.hid (hn.under hb1)
  have HNN := Lib.hid (And.intro hw (And.intro hN hd))
  have HWR := Lib.hid (wrongR_eq qV T)
  have HTL := Lib.hid (Ts_length T)
  obtain ⟨p0, p1, p2, p3, p4⟩ := ca
  dsimp only at p0 p1 p2 p3 p4
  simp only [Nat.zero_add] at p0 p1 p2 p3 p4
  clear hn hb1 hz1 hw
  unfold NV.agg
  dsimp only
  go_enter Tryd.func55, Tryd.ntmps55
  go_wp2_with fail
  clear hw1
  refine (rdeep_any T ⟨c, t, kk, ba, bl, bc, ka, kl, kc⟩ w1 HN.out (by have := HNN.out; omega)).mono ?_
  rintro e w2 ⟨rfl, hb2⟩
  have HB2 := Lib.hid hb2
  clear hb2 p0 p1 p2 p3 p4
  by_cases h24 : 24 < T.dep
  · have z : (24 : Int) < (T.dep : Int) := by omega
    have HF := Lib.hid (show wrongR qV T = (5, 0) by rw [HWR.out, if_pos h24])
    generalize T.dep = d at *
    go_wp2_with fail
    go_ret2
    exact ⟨by rw [HF.out]; rfl, HB1.out.trans (HB2.out.mono (by have := HZ.out; omega))⟩
  · have z : ¬ ((24 : Int) < (T.dep : Int)) := by omega
    have HWS := Lib.hid (show wrongR qV T = if 4000 < T.cnt then (6, 0) else fbT qV (Ts T) by rw [HWR.out, if_neg h24]; rfl)
    clear HWR
    generalize T.dep = d at *
    obtain ⟨p0, p1, p2, p3, p4⟩ := CA.out.below HB2.out CA.out.lt
    dsimp only at p0 p1 p2 p3 p4
    simp only [Nat.zero_add] at p0 p1 p2 p3 p4
    clear h24
    go_wp2_with fail
    refine (rlist_any T ⟨c, t, kk, ba, bl, bc, ka, kl, kc⟩ w2 (HN.out.under HB2.out) (by have := HNN.out; omega)).mono ?_
    rintro e w3 ⟨⟨v, Vs, rfl, hrow, hreps⟩, hb3⟩
    have hl : Vs.length = T.cnt := by rw [hreps.1, HTL.out]
    obtain ⟨g, cap, rfl⟩ := ownsRow_form hrow (by rw [hl]; exact T.cnt_pos)
    have HB3 := Lib.hid (HB2.out.trans (hb3.mono HB2.out.size))
    have HROW := Lib.hid (show RowN w3 0 (.slice (some ⟨g, 0, none⟩) T.cnt cap) Vs from ownsRow_le (by rw [← hl]; exact hrow) (Nat.zero_le _))
    rw [hl]
    have HREP := Lib.hid hreps
    have HSM := Lib.hid (fun X hX => Ts_b T X hX)
    have hw := HNN.out.1
    have hcap : T.cnt ≤ 1000000 := HNN.out.2.1
    have HL := Lib.hid hl
    have HB23 := Lib.hid (And.intro HB2.out hb3)
    clear hb3 hrow hreps p0 p1 p2 p3 p4 hl HNN
    generalize T.cnt = n at *
    generalize Ts T = L at *
    by_cases h4 : 4000 < n
    · have z4 : (4000 : Int) < (n : Int) := by omega
      have HF := Lib.hid (show wrongR qV T = (6, 0) by rw [HWS.out, if_pos h4])
      go_wp2_with fail
      go_ret2
      exact ⟨by rw [HF.out]; rfl, HB1.out.trans (HB3.out.mono (by have := HZ.out; omega))⟩
    · have z4 : ¬ ((4000 : Int) < (n : Int)) := by omega
      have HWT := Lib.hid (show wrongR qV T = fbT qV L by rw [HWS.out, if_neg h4])
      clear h4 HWS
      go_wp2_with fail
      go_loopw [6] (fun i wr => ∃ (k : Nat), k ≤ n ∧ i = .int .i64 (k : Int) ∧ WroI qV w3 g n cap Vs L k wr) (fun i _ => n - (intOf i).toNat)
      case atStart =>
        refine ⟨0, Nat.zero_le _, rfl, HROW.out, ?_, Below.refl _ _⟩
        rw [List.drop_zero]
        rcases fbT_range qV L with ⟨h1, h2⟩ | ⟨h1, -, -, -⟩
        · rw [if_pos h1]; exact Prod.ext h1 h2
        · rw [if_neg (by omega)]; exact Prod.ext rfl (by simp)
      case round =>
        obtain ⟨k, hk, rfl, hr⟩ := hrel
        have HR := Lib.hid hr
        clear hr
        by_cases hlt : k < n
        · have hkL : k < L.length := by rw [HTL.out]; exact hlt
          have hkV : k < Vs.length := by rw [HL.out]; exact hlt
          have hV : Vs[k]? = some Vs[k] := List.getElem?_eq_getElem hkV
          have hcu := HR.out.row.at k Vs[k] hV
          have hnk := HREP.out.2 k Vs[k] L[k] hV (List.getElem?_eq_getElem hkL)
          have hsm := HSM.out L[k] (List.getElem_mem hkL)
          have HS := Lib.hid (show fbT qV L = if brokenN qV L[k] = 0 then (if (fbT qV (L.drop (k + 1))).1 = 0 then (0, -1) else ((fbT qV (L.drop (k + 1))).1, (fbT qV (L.drop (k + 1))).2 + ((k + 1 : Nat) : Int))) else (brokenN qV L[k], (k : Int)) by
            rw [HR.out.same, List.drop_eq_getElem_cons hkL, fbT]
            by_cases hb : brokenN qV L[k] = 0
            · rw [if_pos hb, if_pos hb]
              by_cases h2 : (fbT qV (L.drop (k + 1))).1 = 0
              · rw [if_pos h2, if_pos h2, if_pos rfl]
              · rw [if_neg h2, if_neg h2, if_neg h2]
                exact Prod.ext rfl (by dsimp only; omega)
            · rw [if_neg hb, if_neg hb, if_neg hb]
              exact Prod.ext rfl (by dsimp only; omega))
          have hbr := broken_range qV L[k]
          have HOK := Lib.hid (rbreaks_any Vs[k] L[k] wr ((hnk.under HB23.out.2).under HR.out.below) (by omega))
          generalize Vs[k] = X at *
          generalize brokenN qV L[k] = bk at *
          obtain ⟨xc, xt, xk, xa, xl, xm, ya, yl, ym⟩ := X
          unfold NV.agg at HOK
          dsimp only at HOK
          obtain ⟨r0, r1, r2, r3, r4⟩ := hcu
          dsimp only at r0 r1 r2 r3 r4
          clear hV hnk hsm
          go_wp2_with fail
          refine HOK.out.mono ?_
          rintro e w4 ⟨rfl, hb4⟩
          have HB4 := Lib.hid hb4
          obtain ⟨hb0, hb44⟩ := hbr
          clear hb4 r0 r1 r2 r3 r4 HOK
          by_cases hz : bk = 0
          · have HN2 := Lib.hid (show fbT qV L = if (fbT qV (L.drop (k + 1))).1 = 0 then (0, -1) else ((fbT qV (L.drop (k + 1))).1, (fbT qV (L.drop (k + 1))).2 + ((k + 1 : Nat) : Int)) by rw [HS.out, if_pos hz])
            subst hz
            clear HS
            go_wp2_with fail
            go_roundw
            case rel => exact ⟨k + 1, by omega, by go_num, HR.out.row.below HB4.out, HN2.out, HR.out.below.trans (HB4.out.mono HR.out.below.size)⟩
            case measure => simp [intOf]; omega
          · have zb : (0 : Int) < bk := by omega
            have HF := Lib.hid (show wrongR qV T = (bk, (k : Int)) by rw [HWT.out, HS.out, if_neg hz])
            clear HS hz
            go_wp2_with fail
            go_ret2
            exact ⟨by rw [HF.out]; rfl, HB1.out.trans ((HB3.out.trans ((HR.out.below.trans (HB4.out.mono HR.out.below.size)).mono HB3.out.size)).mono (by have := HZ.out; omega))⟩
        · obtain rfl : k = n := by omega
          have HF := Lib.hid (show wrongR qV T = (0, -1) by rw [HWT.out, HR.out.same, List.drop_of_length_le (by rw [HTL.out]; exact Nat.le_refl _)]; rfl)
          clear hlt
          go_wp2_with fail
          go_ret2
          exact ⟨by rw [HF.out]; rfl, HB1.out.trans ((HB3.out.trans (HR.out.below.mono HB3.out.size)).mono (by have := HZ.out; omega))⟩

set_option maxHeartbeats 2000000 in
theorem rcheck_any (V : NV) (T : Tr) (w : World) (hn : NodeAt w V T) (hw : T.wt ≤ 1000000) (hN : T.cnt ≤ 1000000) (hd : T.dep ≤ 1000000) :
    Calls Tryd.prog 36 #[V.agg] w fun e w' => e = .returned (.int .i64 (if (wrongR qV T).1 = 0 then 0 else 110)) ∧ Below w.heap.size w w' := by
  obtain ⟨c, t, kk, ba, bl, bc, ka, kl, kc⟩ := V
  obtain ⟨w1, hw1⟩ : ∃ w1, w.alloc (.cells #[.int .i64 c, .int .i64 t, .bool kk, .slice ba bl bc, .slice ka kl kc] 25) = w1 := ⟨_, rfl⟩
  have hz1 : w1.heap.size = w.heap.size + 1 := by rw [← hw1]; simp
  have hb1 : Below w.heap.size w w1 := by rw [← hw1]; exact (Below.refl _ _).alloc (Nat.le_refl _) _
  obtain ⟨p0, p1, p2, p3, p4⟩ : CellsAt w1 w.heap.size 0 ⟨c, t, kk, ba, bl, bc, ka, kl, kc⟩ := by rw [← hw1]; exact cells5 w c t kk ba bl bc ka kl kc _
  have HC := Lib.hid (rwrong_any ⟨c, t, kk, ba, bl, bc, ka, kl, kc⟩ T w1 (hn.under hb1) hw hN hd)
  have HRG := Lib.hid (wrongR_range qV T)
  have HB1 := Lib.hid hb1
  dsimp only at p0 p1 p2 p3 p4
  simp only [Nat.zero_add] at p0 p1 p2 p3 p4
  clear hn hb1
  generalize (wrongR qV T).1 = r at *
  generalize (wrongR qV T).2 = a at *
  unfold NV.agg at HC ⊢
  dsimp only at HC ⊢
  obtain ⟨h1, h2, -⟩ := HRG.out
  by_cases hr : r = 0
  · subst hr
    go_enter Tryd.func36, Tryd.ntmps36
    go_wp2_with fail
    clear hw1
    refine HC.out.mono ?_
    rintro e w2 ⟨rfl, hb2⟩
    have HB2 := Lib.hid hb2
    clear hb2 HC
    go_wp2_with fail
    go_ret
    exact ⟨rfl, HB1.out.trans (HB2.out.mono HB1.out.size)⟩
  · have z : (0 : Int) < r := by omega
    go_enter Tryd.func36, Tryd.ntmps36
    go_wp2_with fail
    clear hw1
    refine HC.out.mono ?_
    rintro e w2 ⟨rfl, hb2⟩
    have HB2 := Lib.hid hb2
    clear hb2 HC
    have HR := Lib.hid hr
    clear hr
    go_wp2_with fail
    go_ret
    exact ⟨rfl, HB1.out.trans (HB2.out.mono HB1.out.size)⟩

end Go.Proofs.YtkmphiakciihfaaDoor
