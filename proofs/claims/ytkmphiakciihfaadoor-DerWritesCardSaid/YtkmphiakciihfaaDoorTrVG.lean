/-
  Texts of ours, one behind the other: TrV TxG
-/
import Derived.Test.YtkmphiakciihfaaDoorTrR
import Derived.Test.YtkmphiakciihfaaDoorTxF

namespace Go.Proofs.YtkmphiakciihfaaDoor
open Go.RowKit

/-- What Same does with this tree. -/
def SamrOk (T : Tr) : Prop := ∀ (T' : Tr) (V V' : NV) (w : World), NodeAt w V T → NodeAt w V' T' → Calls Tryd.prog 17 #[V.agg, V'.agg] w fun e w' => e = .returned (.bool (sameB T T')) ∧ Below w.heap.size w w'

def SamrI (w2 : World) (ks ks' : List Tr) (k : Nat) (wr : World) : Prop := ks.take k = ks'.take k ∧ Below w2.heap.size w2 wr

set_option maxRecDepth 100000 in
set_option maxHeartbeats 8000000 in
theorem samr_of (c t : Int) (kk : Bool) (l : List Nat) (ks : List Tr) (hI : ∀ T ∈ ks, SamrOk T) : SamrOk (.mk c t kk l ks) := by
  intro T' V V' w hn hn'
  obtain ⟨c', t', kk', l', ks'⟩ := T'
  have e1 : c = V.cls := hn.cls
  have e2 : t = V.tag := hn.tag
  have e3 : kk = V.cons := hn.cons
  have e1' : c' = V'.cls := hn'.cls
  have e2' : t' = V'.tag := hn'.tag
  have e3' : kk' = V'.cons := hn'.cons
  have hby := hn.bytes
  have hkd := hn.kids
  have hsm := hn.small
  have hby' := hn'.bytes
  have hkd' := hn'.kids
  have hsm' := hn'.small
  obtain ⟨vc, vt, vk, ba, bl, bc, ka, kl, kc⟩ := V
  obtain ⟨vc', vt', vk', ba', bl', bc', ka', kl', kc'⟩ := V'
  dsimp only at e1 e2 e3 e1' e2' e3' hby hkd hby' hkd'
  subst e1 e2 e3 e1' e2' e3'
  simp only [Tr.b, Tr.kids] at hby hkd hsm hby' hkd' hsm'
  have hkl := Lib.hid hkd.length
  have hkl' := Lib.hid hkd'.length
  have hkle := hkd.le
  have hkle' := hkd'.le
  have hkm := hkd.max
  have hkm' := hkd'.max
  unfold maxLen at hkm hkm'
  obtain ⟨w1, hw1⟩ : ∃ w1, w.alloc (.cells #[.int .i64 c, .int .i64 t, .bool kk, .slice ba bl bc, .slice ka kl kc] 25) = w1 := ⟨_, rfl⟩
  obtain ⟨w2, hw2⟩ : ∃ w2, w1.alloc (.cells #[.int .i64 c', .int .i64 t', .bool kk', .slice ba' bl' bc', .slice ka' kl' kc'] 25) = w2 := ⟨_, rfl⟩
  have hz1 : w1.heap.size = w.heap.size + 1 := by rw [← hw1]; simp
  have hz2 : w2.heap.size = w.heap.size + 2 := by rw [← hw2]; simp [hz1]
  have hb1 : Below w.heap.size w w1 := by rw [← hw1]; exact (Below.refl _ _).alloc (Nat.le_refl _) _
  have hb12 : Below w1.heap.size w1 w2 := by rw [← hw2]; exact (Below.refl _ _).alloc (Nat.le_refl _) _
  have hb2 : Below w.heap.size w w2 := hb1.trans (hb12.mono (by omega))
  have ca := (show CellsAt w1 w.heap.size 0 ⟨c, t, kk, ba, bl, bc, ka, kl, kc⟩ by rw [← hw1]; exact cells5 w c t kk ba bl bc ka kl kc _).below hb12 (by omega)
  have cb : CellsAt w2 w1.heap.size 0 ⟨c', t', kk', ba', bl', bc', ka', kl', kc'⟩ := by rw [← hw2]; exact cells5 w1 c' t' kk' ba' bl' bc' ka' kl' kc' _
  have CA := Lib.hid ca
  have CB := Lib.hid cb
  have HB2 := Lib.hid hb2
  have HZ := Lib.hid (And.intro hz1 hz2)
  have C1 := Lib.hid (convT (hby.below hb2) hsm)
  have C2 := Lib.hid (convT (hby'.below hb2) hsm')
  have HNE := Lib.hid (fun e : l ≠ l' => u8T_ne hsm hsm' e)
  have HKD := Lib.hid (And.intro hkd hkd')
  have HI := Lib.hid hI
  obtain ⟨p0, p1, p2, p3, p4⟩ := ca
  obtain ⟨q0, q1, q2, q3, q4⟩ := cb
  dsimp only at p0 p1 p2 p3 p4 q0 q1 q2 q3 q4
  simp only [Nat.zero_add] at p0 p1 p2 p3 p4 q0 q1 q2 q3 q4
  have HS := Lib.hid (show sameB (.mk c t kk l ks) (.mk c' t' kk' l' ks') = (decide (c = c') && decide (t = t') && decide (kk = kk') && decide (ks.length = ks'.length) && decide (l = l') && sameL ks ks') by simp only [sameB])
  clear hn hn' hby hkd hsm hby' hkd' hsm' hb1 hb12 hb2 hz1 hz2 hI
  unfold NV.agg
  dsimp only

  by_cases h1 : c = c'
  · have g1 : (c != c') = false := by simpa using h1
    by_cases h2 : t = t'
    · have g2 : (t != t') = false := by simpa using h2
      by_cases h3 : kk = kk'
      · have g3 : (kk == kk') = true := by simpa using h3
        by_cases h5 : l = l'
        · have c1 := C1.out
          have c2 := C2.out
          rw [← show u8s l = u8s l' by rw [h5]] at c2
          by_cases h4 : kl = kl'
          · have g4 : ((kl : Int) != (kl' : Int)) = false := by simp; omega
            have hle : ks.length = ks'.length := by rw [hkl.out, hkl'.out]; exact h4
            have HR := Lib.hid (show sameB (.mk c t kk l ks) (.mk c' t' kk' l' ks') = sameL ks ks' by rw [HS.out]; simp [h1, h2, h3, hle, h5])
            have HLE := Lib.hid hle
            clear h1 h2 h3 h5 hle
            subst h4
            go_enter Tryd.func17, Tryd.ntmps17
            go_wp2_with fail
            clear c1 c2 hw1 hw2
            go_loopw [5] (fun i wr => ∃ k : Nat, k ≤ kl ∧ i = .int .i64 (k : Int) ∧ SamrI w2 ks ks' k wr) (fun i _ => kl - (intOf i).toNat)
            case atStart => exact ⟨0, Nat.zero_le _, rfl, rfl, Below.refl _ _⟩
            case round =>
              obtain ⟨k, hk, rfl, hr⟩ := hrel
              have HRL := Lib.hid hr
              have hca := CA.out.below hr.2 (by have := HZ.out; omega)
              have hcb := CB.out.below hr.2 (by have := HZ.out; omega)
              clear hr p0 p1 p2 p3 p4 q0 q1 q2 q3 q4
              have HCAB := Lib.hid (And.intro hca hcb)
              have p4 := hca.c4
              have q4 := hcb.c4
              dsimp only at p4 q4
              rw [Nat.zero_add] at p4 q4
              clear hca hcb
              by_cases hlt : k < kl
              · obtain ⟨U, hc, hnu⟩ := HKD.out.1.cells
                obtain ⟨b1, o1, rfl, hb1, hcell⟩ := hc (by omega)
                obtain ⟨U', hc', hnu'⟩ := HKD.out.2.cells
                obtain ⟨b2, o2, rfl, hb2, hcell'⟩ := hc' (by omega)
                have hk1 : k < ks.length := by rw [hkl.out]; exact hlt
                have hk2 : k < ks'.length := by rw [← HLE.out]; exact hk1
                have hbw : Below w.heap.size w wr := HB2.out.trans (HRL.out.2.mono (by have := HZ.out.2; omega))
                have hcu := (hcell k hlt).below hbw hb1
                have hcu' := (hcell' k hlt).below hbw hb2
                have hnk := (hnu k hk1).under hbw
                have hnk' := (hnu' k hk2).under hbw
                obtain ⟨X, hX⟩ : ∃ X, U k = X := ⟨_, rfl⟩
                obtain ⟨Y, hY⟩ : ∃ Y, U' k = Y := ⟨_, rfl⟩
                rw [hX] at hcu hnk
                rw [hY] at hcu' hnk'
                have HTK := Lib.hid (sameL_take ks ks' HLE.out k hk1 hk2 HRL.out.1)
                have HOK := Lib.hid (HI.out ks[k] (List.getElem_mem hk1) ks'[k] X Y wr.drew (hnk.under ⟨rfl, rfl, rfl, Nat.le_refl _, fun _ _ => rfl⟩) (hnk'.under ⟨rfl, rfl, rfl, Nat.le_refl _, fun _ _ => rfl⟩))
                obtain ⟨sb, hsb⟩ : ∃ sb, sameB ks[k] ks'[k] = sb := ⟨_, rfl⟩
                rw [hsb] at HOK HTK
                obtain ⟨xc, xt, xk, xa, xl, xm, ya, yl, ym⟩ := X
                obtain ⟨xc', xt', xk', xa', xl', xm', ya', yl', ym'⟩ := Y
                unfold NV.agg at HOK
                dsimp only at HOK
                have HCU := Lib.hid (And.intro hcu hcu')
                obtain ⟨r0, r1, r2, r3, r4⟩ := hcu
                obtain ⟨s0, s1, s2, s3, s4⟩ := hcu'
                dsimp only at r0 r1 r2 r3 r4 s0 s1 s2 s3 s4
                clear hc hnu hcell hc' hnu' hcell' hnk hnk' hX hY hsb hk1 hk2 hbw hb1 hb2
                go_wp2_with fail
                refine wp_region_held_drew (S := fun W => W.cell? ⟨w.heap.size, 4, none⟩ = some (.slice (some ⟨b1, o1, none⟩) kl kc) ∧ W.cell? ⟨w1.heap.size, 4, none⟩ = some (.slice (some ⟨b2, o2, none⟩) kl kc') ∧
                  W.cell? ⟨b1, o1 + k * 5, none⟩ = some (.int .i64 xc) ∧ W.cell? ⟨b1, o1 + k * 5 + 1, none⟩ = some (.int .i64 xt) ∧ W.cell? ⟨b1, o1 + k * 5 + 2, none⟩ = some (.bool xk) ∧ W.cell? ⟨b1, o1 + k * 5 + 3, none⟩ = some (.slice xa xl xm) ∧ W.cell? ⟨b1, o1 + k * 5 + 4, none⟩ = some (.slice ya yl ym) ∧
                  W.cell? ⟨b2, o2 + k * 5, none⟩ = some (.int .i64 xc') ∧ W.cell? ⟨b2, o2 + k * 5 + 1, none⟩ = some (.int .i64 xt') ∧ W.cell? ⟨b2, o2 + k * 5 + 2, none⟩ = some (.bool xk') ∧ W.cell? ⟨b2, o2 + k * 5 + 3, none⟩ = some (.slice xa' xl' xm') ∧ W.cell? ⟨b2, o2 + k * 5 + 4, none⟩ = some (.slice ya' yl' ym')) (by kernel_rfl) ⟨p4, q4, r0, r1, r2, r3, r4, s0, s1, s2, s3, s4⟩ (fun hHeld => ?_)
                refine' tk 0 ?_
                try simp only [Act.put, List.setIfInBounds_toArray, List.set_cons_zero, List.set_cons_succ]
                refine' tk 1 ?_
                try simp only [Act.put, List.setIfInBounds_toArray, List.set_cons_zero, List.set_cons_succ]
                refine' tk 2 ?_
                try simp only [Act.put, List.setIfInBounds_toArray, List.set_cons_zero, List.set_cons_succ]
                refine' tk 3 ?_
                try simp only [Act.put, List.setIfInBounds_toArray, List.set_cons_zero, List.set_cons_succ]
                refine' tk 4 ?_
                try simp only [Act.put, List.setIfInBounds_toArray, List.set_cons_zero, List.set_cons_succ]
                refine' tk 5 ?_
                try simp only [Act.put, List.setIfInBounds_toArray, List.set_cons_zero, List.set_cons_succ]
                refine' tk 6 ?_
                try simp only [Act.put, List.setIfInBounds_toArray, List.set_cons_zero, List.set_cons_succ]
                refine' tk 7 ?_
                try simp only [Act.put, List.setIfInBounds_toArray, List.set_cons_zero, List.set_cons_succ]
                refine' tk 8 ?_
                try simp only [Act.put, List.setIfInBounds_toArray, List.set_cons_zero, List.set_cons_succ]
                refine' tk 9 ?_
                try simp only [Act.put, List.setIfInBounds_toArray, List.set_cons_zero, List.set_cons_succ]
                refine' tr 10 (fun K hK => ?_)
                try simp only [List.getElem_toArray, List.getElem_cons_succ, List.getElem_cons_zero]
                go_simp
                refine HOK.out.mono ?_
                rintro e w4 ⟨rfl, hb4d⟩
                have hb4 : Below wr.heap.size wr w4 := ⟨hb4d.os, hb4d.tape, hb4d.output, hb4d.size, hb4d.block⟩
                obtain ⟨r02, r12, r22, r32, r42⟩ := HCU.out.1.below hb4 HCU.out.1.lt
                obtain ⟨s02, s12, s22, s32, s42⟩ := HCU.out.2.below hb4 HCU.out.2.lt
                have p42 := (HCAB.out.1.below hb4 HCAB.out.1.lt).c4
                have q42 := (HCAB.out.2.below hb4 HCAB.out.2.lt).c4
                dsimp only at p42 q42 r02 r12 r22 r32 r42 s02 s12 s22 s32 s42
                rw [Nat.zero_add] at p42 q42
                have HB4 := Lib.hid (HRL.out.2.trans (hb4.mono HRL.out.2.size))
                clear hb4 hb4d p4 q4 r0 r1 r2 r3 r4 s0 s1 s2 s3 s4
                cases sb with
                | false =>
                  have HF := Lib.hid (HTK.out.1 rfl)
                  go_wp2_with fail
                  refine hK.out _ _ ⟨p42, q42, r02, r12, r22, r32, r42, s02, s12, s22, s32, s42⟩ (fun hHeld => ?_)
                  clear hK K
                  try simp only [Act.put, List.setIfInBounds_toArray, List.set_cons_zero, List.set_cons_succ]
                  refine' tk 11 ?_
                  try simp only [Act.put, List.setIfInBounds_toArray, List.set_cons_zero, List.set_cons_succ]
                  refine wpAnyH_done (by kernel_rfl) ?_ _
                  clear hHeld p42 q42 r02 r12 r22 r32 r42 s02 s12 s22 s32 s42
                  go_wp2_with fail
                  go_ret
                  exact ⟨ret_bool (by rw [HR.out, HF.out]), HB2.out.trans (HB4.out.mono (by have := HZ.out.2; omega))⟩
                | true =>
                  have HF := Lib.hid (HTK.out.2 rfl)
                  go_wp2_with fail
                  refine hK.out _ _ ⟨p42, q42, r02, r12, r22, r32, r42, s02, s12, s22, s32, s42⟩ (fun hHeld => ?_)
                  clear hK K
                  try simp only [Act.put, List.setIfInBounds_toArray, List.set_cons_zero, List.set_cons_succ]
                  refine' tk 11 ?_
                  try simp only [Act.put, List.setIfInBounds_toArray, List.set_cons_zero, List.set_cons_succ]
                  refine wpAnyH_done (by kernel_rfl) ?_ _
                  clear hHeld p42 q42 r02 r12 r22 r32 r42 s02 s12 s22 s32 s42
                  go_wp2_with fail
                  go_roundw
                  case rel => exact ⟨k + 1, by omega, by go_num, HF.out, HB4.out⟩
                  case measure => simp [intOf]; omega
              · obtain rfl : k = kl := by omega
                have HF := Lib.hid (show sameL ks ks' = true by
                  have h := HRL.out.1
                  rw [List.take_of_length_le (by rw [hkl.out]; exact Nat.le_refl _), List.take_of_length_le (by rw [← HLE.out, hkl.out]; exact Nat.le_refl _)] at h
                  exact (sameL_iff _ _).2 h)
                clear hlt
                go_wp2_with fail
                go_ret
                exact ⟨ret_bool (by rw [HR.out, HF.out]), HB2.out.trans (HRL.out.2.mono (by have := HZ.out.2; omega))⟩
          · have g4 : ((kl : Int) != (kl' : Int)) = true := by simp; omega
            have HR := Lib.hid (show sameB (.mk c t kk l ks) (.mk c' t' kk' l' ks') = false by rw [HS.out, hkl.out, hkl'.out]; simp [h4])
            clear h1 h2 h3 h4 h5
            go_enter Tryd.func17, Tryd.ntmps17
            go_wp2_with fail
            go_ret
            exact ⟨ret_bool (by rw [HR.out]), HB2.out⟩
        · have c1 := C1.out
          have c2 := C2.out
          have hne := HNE.out h5
          have HR := Lib.hid (show sameB (.mk c t kk l ks) (.mk c' t' kk' l' ks') = false by rw [HS.out]; simp [h5])
          clear h1 h2 h3 h5
          go_enter Tryd.func17, Tryd.ntmps17
          go_wp2_with fail
          go_ret
          exact ⟨ret_bool (by rw [HR.out]), HB2.out⟩
      · have g3 : (kk == kk') = false := by simpa using h3
        have HR := Lib.hid (show sameB (.mk c t kk l ks) (.mk c' t' kk' l' ks') = false by rw [HS.out]; simp [h3])
        clear h1 h2 h3
        go_enter Tryd.func17, Tryd.ntmps17
        go_wp2_with fail
        go_ret
        exact ⟨ret_bool (by rw [HR.out]), HB2.out⟩
    · have g2 : (t != t') = true := by simpa using h2
      have HR := Lib.hid (show sameB (.mk c t kk l ks) (.mk c' t' kk' l' ks') = false by rw [HS.out]; simp [h2])
      clear h1 h2
      go_enter Tryd.func17, Tryd.ntmps17
      go_wp2_with fail
      go_ret
      exact ⟨ret_bool (by rw [HR.out]), HB2.out⟩
  · have g1 : (c != c') = true := by simpa using h1
    have HR := Lib.hid (show sameB (.mk c t kk l ks) (.mk c' t' kk' l' ks') = false by rw [HS.out]; simp [h1])
    clear h1
    go_enter Tryd.func17, Tryd.ntmps17
    go_wp2_with fail
    go_ret
    exact ⟨ret_bool (by rw [HR.out]), HB2.out⟩

theorem samr_ok : ∀ (n : Nat) (T : Tr), T.wt ≤ n → SamrOk T
  | 0, T, h => by have := T.wt_pos; omega
  | n + 1, .mk c t k l ks, h => by
    simp only [Tr.wt] at h
    exact samr_of c t k l ks (fun T hT => samr_ok n T (by have := wtL_mem hT; omega))

theorem samr_any (T T' : Tr) (V V' : NV) (w : World) (h : NodeAt w V T) (h' : NodeAt w V' T') : Calls Tryd.prog 17 #[V.agg, V'.agg] w fun e w' => e = .returned (.bool (sameB T T')) ∧ Below w.heap.size w w' :=
  samr_ok T.wt T (Nat.le_refl _) T' V V' w h h'

end Go.Proofs.YtkmphiakciihfaaDoor

namespace Go.Proofs.YtkmphiakciihfaaDoor
open Go.RowKit

def TwinOk (T : Tr) : Prop := ∀ (V : NV) (w : World), NodeAt w V T → Calls Tryd.prog 10 #[V.agg] w fun e w' => RetsNode w.heap.size w' T e ∧ Below w.heap.size w w'

/-- What the rounds of Twin keep: b: the block of the node that is made; B: where the kids' memory begins. -/
structure TwnI (w w4 : World) (b B : Nat) (c t : Int) (kk : Bool) (a3 : Option Addr) (n3 c3 : Nat) (ks : List Tr) (k : Nat) (wr : World) : Prop where
  kids : ∃ ak ck, CellsAt wr b 0 ⟨c, t, kk, a3, n3, c3, ak, k, ck⟩ ∧ MineK 5 25 wr (fun g => B ≤ g) (.slice ak k ck) (ks.take k)
  free : Open5 wr b
  keep : ∀ g, g < B → g ≠ b → wr.heap[g]? = w4.heap[g]?
  size : B ≤ wr.heap.size
  below : Below w.heap.size w wr

set_option maxRecDepth 100000 in
set_option maxHeartbeats 8000000 in
theorem twin_of (c t : Int) (kk : Bool) (l : List Nat) (ks : List Tr) (hI : ∀ T ∈ ks, TwinOk T) (hm : ks.length ≤ 1000000) (hl : l.length ≤ 17592186044416) : TwinOk (.mk c t kk l ks) := by
  intro V w hn
  have e1 : c = V.cls := hn.cls
  have e2 : t = V.tag := hn.tag
  have e3 : kk = V.cons := hn.cons
  have hby := hn.bytes
  have hkd := hn.kids
  have hsm := hn.small
  obtain ⟨i0, hi, hz0, hzz1, hzz2⟩ := info_parts Tryd.infoNode
  obtain ⟨j0, hj, hj0, hj1, hj2⟩ := info_parts Tryd.info8t
  obtain ⟨vc, vt, vk, ba, bl, bc, ka, kl, kc⟩ := V
  dsimp only at e1 e2 e3 hby hkd
  subst e1 e2 e3
  simp only [Tr.b, Tr.kids] at hby hkd hsm
  have hbl := Lib.hid hby.length
  have hkl := Lib.hid hkd.length
  have hkm := Nat.le_trans hkd.le hkd.max
  unfold maxLen at hkm
  obtain ⟨w1, hw1⟩ : ∃ w1, w.alloc (.cells #[.int .i64 c, .int .i64 t, .bool kk, .slice ba bl bc, .slice ka kl kc] 25) = w1 := ⟨_, rfl⟩
  obtain ⟨w2, hw2⟩ : ∃ w2, w1.alloc (.cells #[.int .i64 0, .int .i64 0, .bool false, .slice none 0 0, .slice none 0 0] 25) = w2 := ⟨_, rfl⟩
  obtain ⟨w3, hw3⟩ : ∃ w3, w2.alloc (.cells #[.int .i64 c, .int .i64 t, .bool kk, .slice none 0 0, .slice none 0 0] 25) = w3 := ⟨_, rfl⟩
  have hz1 : w1.heap.size = w.heap.size + 1 := by rw [← hw1]; simp
  have hz2 : w2.heap.size = w.heap.size + 2 := by rw [← hw2]; simp [hz1]
  have hz3 : w3.heap.size = w.heap.size + 3 := by rw [← hw3]; simp [hz2]
  have hb1 : Below w.heap.size w w1 := by rw [← hw1]; exact (Below.refl _ _).alloc (Nat.le_refl _) _
  have hb12 : Below w1.heap.size w1 w2 := by rw [← hw2]; exact (Below.refl _ _).alloc (Nat.le_refl _) _
  have hb23 : Below w2.heap.size w2 w3 := by rw [← hw3]; exact (Below.refl _ _).alloc (Nat.le_refl _) _
  have hb13 : Below w1.heap.size w1 w3 := hb12.trans (hb23.mono (by omega))
  have hb3 : Below w.heap.size w w3 := hb1.trans (hb13.mono (by omega))
  have ca := (show CellsAt w1 w.heap.size 0 ⟨c, t, kk, ba, bl, bc, ka, kl, kc⟩ by rw [← hw1]; exact cells5 w c t kk ba bl bc ka kl kc _).below hb13 (by omega)
  have ca2 := (show CellsAt w1 w.heap.size 0 ⟨c, t, kk, ba, bl, bc, ka, kl, kc⟩ by rw [← hw1]; exact cells5 w c t kk ba bl bc ka kl kc _).below hb12 (by omega)
  have cb := (show CellsAt w2 (w.heap.size + 1) 0 ⟨0, 0, false, none, 0, 0, none, 0, 0⟩ by rw [← hw2, ← hz1]; exact cells5 w1 0 0 false none 0 0 none 0 0 _).below hb23 (by omega)
  have ob := (show Open5 w2 (w.heap.size + 1) by rw [← hw2, ← hz1]; exact open5_new w1 0 0 false none 0 0 none 0 0 _).below hb23 (by omega)
  have cc : CellsAt w3 (w.heap.size + 2) 0 ⟨c, t, kk, none, 0, 0, none, 0, 0⟩ := by rw [← hw3, ← hz2]; exact cells5 w2 c t kk none 0 0 none 0 0 _
  have oc : Open5 w3 (w.heap.size + 2) := by rw [← hw3, ← hz2]; exact open5_new w2 c t kk none 0 0 none 0 0 _
  have q3 := ca.c3
  have q0 := ca2.c0
  have q1 := ca2.c1
  have q2 := ca2.c2
  have s3 := cc.c3
  have CA := Lib.hid ca
  have CB := Lib.hid cb
  have OB := Lib.hid ob
  have CC := Lib.hid cc
  have OC := Lib.hid oc
  have HB3 := Lib.hid hb3
  have HZ := Lib.hid (And.intro hz1 (And.intro hz2 hz3))
  have HBY := Lib.hid (hby.below hb3)
  have HKD := Lib.hid hkd
  have HSM := Lib.hid hsm
  have HI := Lib.hid hI
  have HM := Lib.hid hm
  have HL := Lib.hid (show bl ≤ 17592186044416 by rw [← hbl.out]; exact hl)
  have HW3 := Lib.hid hw3
  have OCL := Lib.hid (show w.heap.size + 2 < w3.heap.size by omega)
  clear hw3 ca2 hn hby hkd hsm hb1 hb12 hb23 hb13 hb3 ca cb ob cc oc hI hm hl
  unfold NV.agg
  dsimp only
  go_enter Tryd.func10, Tryd.ntmps10
  dsimp only at q0 q1 q2 q3 s3
  simp only [Nat.zero_add] at q0 q1 q2 q3 s3
  go_upto_region 2 with fail
  rw [HW3.out]
  go_wp2_with (at_builtin; refine wpList_append_q .u8 _ rfl _ _ 22 rfl w3.heap.size 5 1 j0 Tryd.underlying22 hj hj0 hj1 hj2 (by decide) _ [] rfl (OwnQ.nil .u8 _ _ _) ba bl bc l rfl HBY.out (by have := HL.out; simp; omega) (Nat.le_refl _) ?_; intro v4 w4 ho4 hg4; rw [List.nil_append] at ho4; obtain ⟨a3, c3, rfl, -, -⟩ := ho4.form; have hb4 := hg4 _ (Below.refl _ _); have f3 := (OC.out.below hb4 OCL.out).f3; have x3 := (CC.out.below hb4 OCL.out).c3; dsimp only at x3; rw [Nat.zero_add] at x3)
  obtain ⟨w5, hw5⟩ : ∃ x, w4.setCell ⟨w.heap.size + 2, 3, none⟩ (.slice a3 l.length c3) = x := ⟨_, rfl⟩
  rw [hw5]
  obtain ⟨hz1, hz2, hz3⟩ := HZ.out
  have hs34 := hb4.size
  have hs5 : w5.heap.size = w4.heap.size := by rw [← hw5]; simp
  have hcc5 : CellsAt w5 (w.heap.size + 2) 0 ⟨c, t, kk, a3, l.length, c3, none, 0, 0⟩ := by rw [← hw5]; exact (CC.out.below hb4 (by omega)).set3 a3 l.length c3
  have hoc5 : Open5 w5 (w.heap.size + 2) := by rw [← hw5]; exact (OC.out.below hb4 (by omega)).setCell _ _
  have hca5 : CellsAt w5 w.heap.size 0 ⟨c, t, kk, ba, bl, bc, ka, kl, kc⟩ := by rw [← hw5]; exact (CA.out.below hb4 (by omega)).other _ _ (by show w.heap.size + 2 ≠ w.heap.size; omega)
  have hcb5 : CellsAt w5 (w.heap.size + 1) 0 ⟨0, 0, false, none, 0, 0, none, 0, 0⟩ := by rw [← hw5]; exact (CB.out.below hb4 (by omega)).other _ _ (by show w.heap.size + 2 ≠ w.heap.size + 1; omega)
  have hob5 : Open5 w5 (w.heap.size + 1) := by rw [← hw5]; exact (OB.out.below hb4 (by omega)).setCell _ _
  have hbw5 : Below w.heap.size w w5 := by rw [← hw5]; exact (HB3.out.trans (hb4.mono (by omega))).setCell (p := ⟨w.heap.size + 2, 3, none⟩) (by show w.heap.size ≤ w.heap.size + 2; omega) _
  have hown5 : OwnQ .u8 5 w3.heap.size w5 (.slice a3 l.length c3) l := by
    rw [← hw5]
    exact rowSame ho4 fun g hg => by
      have h1 := World.ownsRow.lt ho4 g hg
      rw [Below.heap_setCell _ _ _ _ (by show g ≠ w.heap.size + 2; omega)]
  have HO := Lib.hid (And.intro hown5 (fun g hg => World.ownsRow.lt ho4 g hg))
  have HS5 := Lib.hid (And.intro hs34 hs5)
  have HCA := Lib.hid hca5
  have HCB := Lib.hid (And.intro hcb5 hob5)
  have HST := Lib.hid (show TwnI w w5 (w.heap.size + 2) w4.heap.size c t kk a3 l.length c3 ks 0 w5 from ⟨⟨none, 0, hcc5, by rw [List.take_zero]; exact MineK.nil _ _ _ _⟩, hoc5, fun _ _ _ => rfl, by omega, hbw5⟩)
  clear hw5 hs34 hs5 hcc5 hoc5 hca5 hcb5 hob5 hbw5 hown5 ho4 hg4 hb4 f3 x3 q0 q1 q2 q3 s3 CC OC CA CB OB HBY HL HB3 HW3 hz1 hz2 hz3 hw1 hw2 hj hj0 hj1 hj2
  go_loopw [4] (fun i wr => ∃ (k : Nat), k ≤ kl ∧ i = .int .i64 (k : Int) ∧ TwnI w w5 (w.heap.size + 2) w4.heap.size c t kk a3 l.length c3 ks k wr) (fun i _ => kl - (intOf i).toNat)
  case atStart => exact ⟨0, Nat.zero_le _, rfl, HST.out⟩
  case round =>
    obtain ⟨k, hk, rfl, hr⟩ := hrel
    obtain ⟨⟨ak, ck, hcb, hmk⟩, hop, hkeep, hsz, hbel⟩ := hr
    have hB : w.heap.size + 3 ≤ w4.heap.size := by have := HS5.out.1; have := HZ.out; omega
    have hcar : CellsAt wr w.heap.size 0 ⟨c, t, kk, ba, bl, bc, ka, kl, kc⟩ := HCA.out.of fun i => World.cell?_of_block (w := w5) (hkeep w.heap.size (by omega) (by omega))
    have p4 := hcar.c4
    dsimp only at p4
    rw [Nat.zero_add] at p4
    have HBQ := Lib.hid hB
    have HCW := Lib.hid hcb
    have HMW := Lib.hid hmk
    have HOW := Lib.hid hop
    have HKW := Lib.hid hkeep
    have HSW := Lib.hid hsz
    have HBW := Lib.hid hbel
    clear hcb hmk hop hkeep hsz hbel hcar hB
    by_cases hlt : k < kl
    · have hk1 : k < ks.length := by rw [hkl.out]; exact hlt
      obtain ⟨U, hc, hnu⟩ := HKD.out.cells
      obtain ⟨b1, o1, rfl, hb1, hcell⟩ := hc (by omega)
      have hcu := (hcell k hlt).below HBW.out hb1
      have hnk := (hnu k hk1).under HBW.out
      obtain ⟨X, hX⟩ : ∃ X, U k = X := ⟨_, rfl⟩
      rw [hX] at hcu hnk
      have HTK := Lib.hid (show ks.take (k + 1) = ks.take k ++ [ks[k]] from List.take_succ_eq_append_getElem hk1)
      have HLK := Lib.hid (show (ks.take k).length = k by rw [List.length_take]; omega)
      have HOK := Lib.hid (HI.out ks[k] (List.getElem_mem hk1) X wr hnk)
      have HKM := Lib.hid (show k ≤ 1000000 by have := HM.out; omega)
      obtain ⟨xc, xt, xk, xa, xl, xm, ya, yl, ym⟩ := X
      unfold NV.agg at HOK
      dsimp only at HOK
      obtain ⟨r0, r1, r2, r3, r4⟩ := hcu
      dsimp only at r0 r1 r2 r3 r4
      clear hc hnu hcell hnk hX hb1
      generalize ks[k] = K at *
      go_wp2_with fail
      refine HOK.out.mono ?_
      rintro e w6 ⟨⟨V2, rfl, hm6⟩, hb6⟩
      obtain ⟨zc, zt, zk, za, zl, zm, ua, ul, um⟩ := V2
      unfold NV.agg
      dsimp only
      obtain ⟨w7, hw7⟩ : ∃ x, w6.alloc (.cells #[.int .i64 zc, .int .i64 zt, .bool zk, .slice za zl zm, .slice ua ul um] 25) = x := ⟨_, rfl⟩
      obtain ⟨w8, hw8⟩ : ∃ x, w7.alloc (.cells #[.int .i64 zc, .int .i64 zt, .bool zk, .slice za zl zm, .slice ua ul um] 25) = x := ⟨_, rfl⟩
      have hz7 : w7.heap.size = w6.heap.size + 1 := by rw [← hw7]; simp
      have hz8 : w8.heap.size = w6.heap.size + 2 := by rw [← hw8]; simp [hz7]
      have hb67 : Below w6.heap.size w6 w7 := by rw [← hw7]; exact (Below.refl _ _).alloc (Nat.le_refl _) _
      have hb78 : Below w7.heap.size w7 w8 := by rw [← hw8]; exact (Below.refl _ _).alloc (Nat.le_refl _) _
      have hb68 : Below w6.heap.size w6 w8 := hb67.trans (hb78.mono (by omega))
      have hb7r : Below wr.heap.size wr w7 := hb6.trans (hb67.mono hb6.size)
      have hb8r : Below wr.heap.size wr w8 := hb6.trans (hb68.mono hb6.size)
      have hbl3 : w.heap.size + 2 < wr.heap.size := by have := HBQ.out; have := HSW.out; omega
      have y4 := (HCW.out.below hb7r hbl3).c4
      obtain ⟨t0, t1, t2, t3, t4⟩ : CellsAt w7 w6.heap.size 0 ⟨zc, zt, zk, za, zl, zm, ua, ul, um⟩ := by rw [← hw7]; exact cells5 w6 zc zt zk za zl zm ua ul um _
      have HCS := Lib.hid (show CellsAt w8 (w6.heap.size + 1) 0 ⟨zc, zt, zk, za, zl, zm, ua, ul, um⟩ by rw [← hw8, ← hz7]; exact cells5 w7 zc zt zk za zl zm ua ul um _)
      have HMK := Lib.hid ((HMW.out.narrow.under hb8r).wide (S' := fun g => w4.heap.size ≤ g ∧ g < wr.heap.size) (fun g hg => hg))
      have HMT := Lib.hid (hm6.narrow.under hb68)
      have HB8 := Lib.hid hb8r
      have HC8 := Lib.hid (HCW.out.below hb8r hbl3)
      have HO8 := Lib.hid (HOW.out.below hb8r hbl3)
      have HZ8 := Lib.hid (And.intro hz7 (And.intro hz8 (And.intro hb6.size hbl3)))
      have HLN := Lib.hid (show (ks.take k ++ [K]).length = k + 1 by rw [List.length_append, HLK.out]; rfl)
      dsimp only at y4 t0 t1 t2 t3 t4
      simp only [Nat.zero_add] at y4 t0 t1 t2 t3 t4
      clear hm6 hb6 hb67 hb78 hb68 hb7r hb8r hz8 hbl3 p4 r0 r1 r2 r3 r4 HOK HMW
      go_wp2_with (at_builtin; refine wpList_append_node _ rfl _ _ 23 rfl 5 25 i0 Tryd.underlying23 hi hz0 hzz1 hzz2 _ rfl _ (ks.take k) HMK.out (fun g hg => by have := hg.2; have := HB8.out.size; omega) (w6.heap.size + 1) rfl _ HCS.out K _ HMT.out (fun g hg => ⟨by have := hg.2; have := HZ8.out; omega, fun h => by have := hg.1; have := h.2; omega⟩) (by rw [HLK.out]; have := HKM.out; omega) ?_; intro v9 w9 hm9 hg9 hs9; obtain ⟨a9, c9, he9, -, -, -⟩ := hm9.form; rw [HLN.out] at he9; subst he9; have hb9 := hg9 w4.heap.size wr (fun g hg => hg.1) (by have := HSW.out; have := HB8.out.size; omega) (HB8.out.mono HSW.out); have f9 := (HOW.out.below hb9 (by have := HBQ.out; omega)).f4; have y9 := (HCW.out.below hb9 (by have := HBQ.out; omega)).c4; dsimp only at y9; rw [Nat.zero_add] at y9)
      obtain ⟨w10, hw10⟩ : ∃ x, w9.setCell ⟨w.heap.size + 2, 4, none⟩ (.slice a9 (k + 1) c9) = x := ⟨_, rfl⟩
      rw [hw10]
      have hs10 : w10.heap.size = w9.heap.size := by rw [← hw10]; simp
      have HN := Lib.hid (show TwnI w w5 (w.heap.size + 2) w4.heap.size c t kk a3 l.length c3 ks (k + 1) w10 from by
        have hB := HBQ.out
        refine ⟨⟨a9, c9, ?_, ?_⟩, ?_, ?_, ?_, ?_⟩
        · rw [← hw10]; exact (HCW.out.below hb9 (by omega)).set4 a9 (k + 1) c9
        · rw [HTK.out, ← hw10]
          refine (hm9.wide (S' := fun g => w4.heap.size ≤ g) fun g hg => ?_).heap fun g hg => Below.heap_setCell _ _ _ _ (by show g ≠ w.heap.size + 2; omega)
          have h1 := HSW.out
          have h2 := HZ8.out
          rcases hg with h | h | h
          · exact h.1
          · have := h.1; omega
          · omega
        · rw [← hw10]; exact (HOW.out.below hb9 (by omega)).setCell _ _
        · intro g hg hgb
          rw [← hw10, Below.heap_setCell _ _ _ _ (by show g ≠ w.heap.size + 2; exact hgb), hb9.block g hg]
          exact HKW.out g hg hgb
        · have := HSW.out; have := HB8.out.size; omega
        · rw [← hw10]
          exact (HBW.out.trans (hb9.mono (by omega))).setCell (p := ⟨w.heap.size + 2, 4, none⟩) (by show w.heap.size ≤ w.heap.size + 2; omega) _)
      clear hw10 hs10 hm9 hg9 hs9 hb9 f9 y9 y4 t0 t1 t2 t3 t4 HMK HMT HC8 HO8 HCS hw7 hw8 hz7
      go_wp2_with fail
      go_roundw
      case rel => exact ⟨k + 1, by omega, by go_num, HN.out⟩
      case measure => simp [intOf]; omega
    · obtain rfl : k = kl := by omega
      have hB := HBQ.out
      obtain ⟨s0, s1, s2, s3, s4⟩ := HCB.out.1.of (w' := wr) fun i => World.cell?_of_block (w := w5) (HKW.out (w.heap.size + 1) (by omega) (by omega))
      have hfr : ∀ i, wr.frozen? ⟨w.heap.size + 1, i, none⟩ = w5.frozen? ⟨w.heap.size + 1, i, none⟩ := fun i => World.frozen?_of_block (w := w5) (HKW.out (w.heap.size + 1) (by omega) (by omega))
      have g0 := (hfr 0).trans HCB.out.2.f0
      have g1 := (hfr 1).trans HCB.out.2.f1
      have g2 := (hfr 2).trans HCB.out.2.f2
      have g3 := (hfr 3).trans HCB.out.2.f3
      have g4 := (hfr 4).trans HCB.out.2.f4
      obtain ⟨r0, r1, r2, r3, r4⟩ := HCW.out
      dsimp only at r0 r1 r2 r3 r4 s0 s1 s2 s3 s4
      simp only [Nat.zero_add] at r0 r1 r2 r3 r4 s0 s1 s2 s3 s4
      obtain ⟨V, hV⟩ : ∃ V : NV, V = ⟨c, t, kk, a3, l.length, c3, ak, k, ck⟩ := ⟨_, rfl⟩
      have hcs := putNode_cells wr (w.heap.size + 1) V s0 s1 s2 s3 s4
      have hown3 : OwnQ .u8 5 w3.heap.size wr (.slice a3 l.length c3) l := rowSame HO.out.1 fun g hg => HKW.out g (by have := HO.out.2 g hg; omega) (by have := HO.out.2 g hg; have := HZ.out; omega)
      have HP := Lib.hid (show RetsNode w.heap.size (putNode wr (w.heap.size + 1) V) (.mk c t kk l ks) (.returned V.agg) ∧ Below w.heap.size w (putNode wr (w.heap.size + 1) V) by
        refine ⟨⟨V, rfl, ?_⟩, putNode_below HBW.out (by omega) V⟩
        have hown : OwnQ .u8 5 w3.heap.size (putNode wr (w.heap.size + 1) V) (.slice a3 l.length c3) l := rowSame hown3 fun g hg => putNode_heap _ _ V g (by have h1 := (HO.out.2 g hg).1; have := HZ.out; omega)
        have hS : ∀ g, (Value.slice a3 l.length c3).ownBlock = some g → w.heap.size ≤ g ∧ g < w4.heap.size := fun g hg => by have := HO.out.2 g hg; have := HZ.out; omega
        have hk' : MineK 5 25 (putNode wr (w.heap.size + 1) V) (fun g => w4.heap.size ≤ g) (.slice ak k ck) ks := by
          have h1 := HMW.out
          rw [show ks.take k = ks from List.take_of_length_le (by rw [hkl.out]; exact Nat.le_refl _)] at h1
          exact h1.heap fun g hg => putNode_heap _ _ _ _ (by omega)
        subst hV
        exact MineT.of (S1 := fun g => w.heap.size ≤ g ∧ g < w4.heap.size) (S2 := fun g => w4.heap.size ≤ g) rfl rfl rfl (OwnQ.mono hown (Nat.zero_le _)) hS HSM.out hk' (fun g h1 h2 => by omega) (fun g h1 => h1.1) (fun g h1 => by show w.heap.size ≤ g; omega))
      subst hV
      have d0 := hcs.c0
      have d1 := hcs.c1
      have d2 := hcs.c2
      have d3 := hcs.c3
      have d4 := hcs.c4
      dsimp only at d0 d1 d2 d3 d4
      simp only [Nat.zero_add] at d0 d1 d2 d3 d4
      clear hcs hown3 hfr hlt hB HMW HOW HCW
      go_wp2_with fail
      change bodyPost _ _ _ _ _ (putNode wr (w.heap.size + 1) ⟨c, t, kk, a3, l.length, c3, ak, k, ck⟩)
      generalize putNode wr (w.heap.size + 1) ⟨c, t, kk, a3, l.length, c3, ak, k, ck⟩ = w11 at *
      refine bodyPost_ret (v := .agg #[.int .i64 c, .int .i64 t, .bool kk, .slice a3 l.length c3, .slice ak k ck]) ?_ rfl HP.out
      rw [results_cell_one rfl]
      go_simp

theorem twin_ok : ∀ (n : Nat) (T : Tr), T.wt ≤ n → n ≤ 1000000 → TwinOk T
  | 0, T, h, _ => by have := T.wt_pos; omega
  | n + 1, .mk c t k l ks, h, hn => by
    simp only [Tr.wt] at h
    exact twin_of c t k l ks (fun T hT => twin_ok n T (by have := wtL_mem hT; omega) (by omega)) (by have := wtL_len ks; omega) (by omega)
theorem rtwin_any (V : NV) (T : Tr) (w : World) (hn : NodeAt w V T) (h : T.wt ≤ 1000000) : Calls Tryd.prog 10 #[V.agg] w fun e w' => RetsNode w.heap.size w' T e ∧ Below w.heap.size w w' :=
  twin_ok 1000000 T h (Nat.le_refl _) V w hn

end Go.Proofs.YtkmphiakciihfaaDoor
