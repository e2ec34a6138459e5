/-
  WHETHER TWO TREES ARE THE SAME: tree.Same, walked by induction on the tree.
-/
import Derived.Test.YtkmphiakciihfaaDoorTrQ
import Derived.Test.YtkmphiakciihfaaDoorTk
namespace Go.Proofs.YtkmphiakciihfaaDoor
open Go.RowKit

mutual
/-- Are two trees the same? -/
def sameB : Tr → Tr → Bool
  | .mk c t k l ks, .mk c' t' k' l' ks' => decide (c = c') && decide (t = t') && decide (k = k') && decide (ks.length = ks'.length) && decide (l = l') && sameL ks ks'
def sameL : List Tr → List Tr → Bool
  | [], [] => true
  | x :: xs, y :: ys => sameB x y && sameL xs ys
  | _, _ => false
end

mutual
theorem sameB_iff : ∀ a b : Tr, sameB a b = true ↔ a = b
  | .mk c t k l ks, .mk c' t' k' l' ks' => by
    simp only [sameB, Bool.and_eq_true, decide_eq_true_eq, sameL_iff ks ks', Tr.mk.injEq]
    constructor
    · rintro ⟨⟨⟨⟨⟨h1, h2⟩, h3⟩, -⟩, h5⟩, h6⟩; exact ⟨h1, h2, h3, h5, h6⟩
    · rintro ⟨h1, h2, h3, h5, h6⟩; exact ⟨⟨⟨⟨⟨h1, h2⟩, h3⟩, by rw [h6]⟩, h5⟩, h6⟩
theorem sameL_iff : ∀ a b : List Tr, sameL a b = true ↔ a = b
  | [], [] => by simp [sameL]
  | x :: xs, y :: ys => by simp only [sameL, Bool.and_eq_true, sameB_iff x y, sameL_iff xs ys, List.cons.injEq]
  | [], _ :: _ => by simp [sameL]
  | _ :: _, [] => by simp [sameL]
end

theorem sameL_take (a b : List Tr) (h : a.length = b.length) (k : Nat) (hk : k < a.length) (hk2 : k < b.length) (ht : a.take k = b.take k) : (sameB a[k] b[k] = false → sameL a b = false) ∧ (sameB a[k] b[k] = true → a.take (k + 1) = b.take (k + 1)) := by
  constructor
  · intro hf
    rw [Bool.eq_false_iff]
    intro hs
    have := (sameL_iff a b).1 hs
    subst this
    rw [(sameB_iff _ _).2 rfl] at hf
    cases hf
  · intro hs
    rw [List.take_succ_eq_append_getElem hk, List.take_succ_eq_append_getElem hk2, ht, (sameB_iff _ _).1 hs]

/-- What Same does with this tree. -/
def SameOk (T : Tr) : Prop := ∀ (T' : Tr) (V V' : NV) (w : World), NodeAt w V T → NodeAt w V' T' → Calls Tryd.prog 29 #[V.agg, V'.agg] w fun e w' => e = .returned (.bool (sameB T T')) ∧ Below w.heap.size w w'

def SamI (w2 : World) (ks ks' : List Tr) (k : Nat) (wr : World) : Prop := ks.take k = ks'.take k ∧ Below w2.heap.size w2 wr

set_option maxRecDepth 100000 in
set_option maxHeartbeats 8000000 in
theorem same_of (c t : Int) (kk : Bool) (l : List Nat) (ks : List Tr) (hI : ∀ T ∈ ks, SameOk T) : SameOk (.mk c t kk l ks) := by
  intro T' V V' w hn hn'
  obtain ⟨c', t', kk', l', ks'⟩ := T'
  have e1 : c = V.cls := hn.cls
  have e2 : t = V.tag := hn.tag
  have e3 : kk = V.cons := hn.cons
  have e1' : c' = V'.cls := hn'.cls
  have e2' : t' = V'.tag := hn'.tag
  have e3' : kk' = V'.cons := hn'.cons
  have hby := hn.bytes
  have hkd := hn.kids
  have hsm := hn.small
  have hby' := hn'.bytes
  have hkd' := hn'.kids
  have hsm' := hn'.small
  obtain ⟨vc, vt, vk, ba, bl, bc, ka, kl, kc⟩ := V
  obtain ⟨vc', vt', vk', ba', bl', bc', ka', kl', kc'⟩ := V'
  dsimp only at e1 e2 e3 e1' e2' e3' hby hkd hby' hkd'
  subst e1 e2 e3 e1' e2' e3'
  simp only [Tr.b, Tr.kids] at hby hkd hsm hby' hkd' hsm'
  have hkl := Lib.hid hkd.length
  have hkl' := Lib.hid hkd'.length
  have hkle := hkd.le
  have hkle' := hkd'.le
  have hkm := hkd.max
  have hkm' := hkd'.max
  unfold maxLen at hkm hkm'
  obtain ⟨w1, hw1⟩ : ∃ w1, w.alloc (.cells #[.int .i64 c, .int .i64 t, .bool kk, .slice ba bl bc, .slice ka kl kc] 25) = w1 := ⟨_, rfl⟩
  obtain ⟨w2, hw2⟩ : ∃ w2, w1.alloc (.cells #[.int .i64 c', .int .i64 t', .bool kk', .slice ba' bl' bc', .slice ka' kl' kc'] 25) = w2 := ⟨_, rfl⟩
  have hz1 : w1.heap.size = w.heap.size + 1 := by rw [← hw1]; simp
  have hz2 : w2.heap.size = w.heap.size + 2 := by rw [← hw2]; simp [hz1]
  have hb1 : Below w.heap.size w w1 := by rw [← hw1]; exact (Below.refl _ _).alloc (Nat.le_refl _) _
  have hb12 : Below w1.heap.size w1 w2 := by rw [← hw2]; exact (Below.refl _ _).alloc (Nat.le_refl _) _
  have hb2 : Below w.heap.size w w2 := hb1.trans (hb12.mono (by omega))
  have ca := (show CellsAt w1 w.heap.size 0 ⟨c, t, kk, ba, bl, bc, ka, kl, kc⟩ by rw [← hw1]; exact cells5 w c t kk ba bl bc ka kl kc _).below hb12 (by omega)
  have cb : CellsAt w2 w1.heap.size 0 ⟨c', t', kk', ba', bl', bc', ka', kl', kc'⟩ := by rw [← hw2]; exact cells5 w1 c' t' kk' ba' bl' bc' ka' kl' kc' _
  have CA := Lib.hid ca
  have CB := Lib.hid cb
  have HB2 := Lib.hid hb2
  have HZ := Lib.hid (And.intro hz1 hz2)
  have HE := Lib.hid (fun W (hb : Below w2.heap.size w2 W) => equalT_any ba ba' bl bc bl' bc' l l' W ((hby.below hb2).below hb) ((hby'.below hb2).below hb) hsm hsm')
  have HKD := Lib.hid (And.intro hkd hkd')
  have HI := Lib.hid hI
  obtain ⟨p0, p1, p2, p3, p4⟩ := ca
  obtain ⟨q0, q1, q2, q3, q4⟩ := cb
  dsimp only at p0 p1 p2 p3 p4 q0 q1 q2 q3 q4
  simp only [Nat.zero_add] at p0 p1 p2 p3 p4 q0 q1 q2 q3 q4
  have HS := Lib.hid (show sameB (.mk c t kk l ks) (.mk c' t' kk' l' ks') = (decide (c = c') && decide (t = t') && decide (kk = kk') && decide (ks.length = ks'.length) && decide (l = l') && sameL ks ks') by simp only [sameB])
  clear hn hn' hby hkd hsm hby' hkd' hsm' hb1 hb12 hb2 hz1 hz2 hI
  unfold NV.agg
  dsimp only

  by_cases h1 : c = c'
  · have g1 : (c != c') = false := by simpa using h1
    by_cases h2 : t = t'
    · have g2 : (t != t') = false := by simpa using h2
      by_cases h3 : kk = kk'
      · have g3 : (kk == kk') = true := by simpa using h3
        by_cases h4 : kl = kl'
        · have g4 : ((kl : Int) != (kl' : Int)) = false := by simp; omega
          have hle : ks.length = ks'.length := by rw [hkl.out, hkl'.out]; exact h4
          by_cases h5 : l = l'
          · have HD := Lib.hid (decide_eq_true h5)
            have HR := Lib.hid (show sameB (.mk c t kk l ks) (.mk c' t' kk' l' ks') = sameL ks ks' by rw [HS.out]; simp [h1, h2, h3, hle, h5])
            have HLE := Lib.hid hle
            clear h1 h2 h3 h5 hle
            subst h4
            go_enter Tryd.func29, Tryd.ntmps29
            go_wp2_with fail
            refine (HE.out w2 (Below.refl _ _)).mono ?_
            rintro e w3 ⟨rfl, hw3⟩
            obtain rfl : w2 = w3 := hw3.symm
            rw [HD.out]
            go_wp2_with fail
            clear hw1 hw2
            go_loopw [45] (fun i wr => ∃ k : Nat, k ≤ kl ∧ i = .int .i64 (k : Int) ∧ SamI w2 ks ks' k wr) (fun i _ => kl - (intOf i).toNat)
            case atStart => exact ⟨0, Nat.zero_le _, rfl, rfl, Below.refl _ _⟩
            case round =>
              obtain ⟨k, hk, rfl, hr⟩ := hrel
              have HRL := Lib.hid hr
              clear hr p0 p1 p2 p3 p4 q0 q1 q2 q3 q4
              by_cases hlt : k < kl
              · obtain ⟨U, hc, hnu⟩ := HKD.out.1.cells
                obtain ⟨b1, o1, rfl, hb1, hcell⟩ := hc (by omega)
                obtain ⟨U', hc', hnu'⟩ := HKD.out.2.cells
                obtain ⟨b2, o2, rfl, hb2, hcell'⟩ := hc' (by omega)
                have hk1 : k < ks.length := by rw [hkl.out]; exact hlt
                have hk2 : k < ks'.length := by rw [← HLE.out]; exact hk1
                have hbw : Below w.heap.size w wr := HB2.out.trans (HRL.out.2.mono (by have := HZ.out.2; omega))
                have hcu := (hcell k hlt).below hbw hb1
                have hcu' := (hcell' k hlt).below hbw hb2
                have hnk := (hnu k hk1).under hbw
                have hnk' := (hnu' k hk2).under hbw
                obtain ⟨X, hX⟩ : ∃ X, U k = X := ⟨_, rfl⟩
                obtain ⟨Y, hY⟩ : ∃ Y, U' k = Y := ⟨_, rfl⟩
                rw [hX] at hcu hnk
                rw [hY] at hcu' hnk'
                have HTK := Lib.hid (sameL_take ks ks' HLE.out k hk1 hk2 HRL.out.1)
                have HOK := Lib.hid (HI.out ks[k] (List.getElem_mem hk1) ks'[k] X Y wr.drew (hnk.under ⟨rfl, rfl, rfl, Nat.le_refl _, fun _ _ => rfl⟩) (hnk'.under ⟨rfl, rfl, rfl, Nat.le_refl _, fun _ _ => rfl⟩))
                obtain ⟨sb, hsb⟩ : ∃ sb, sameB ks[k] ks'[k] = sb := ⟨_, rfl⟩
                rw [hsb] at HOK HTK
                obtain ⟨xc, xt, xk, xa, xl, xm, ya, yl, ym⟩ := X
                obtain ⟨xc', xt', xk', xa', xl', xm', ya', yl', ym'⟩ := Y
                unfold NV.agg at HOK
                dsimp only at HOK
                have hca := CA.out.below HRL.out.2 (by have := HZ.out; omega)
                have hcb := CB.out.below HRL.out.2 (by have := HZ.out; omega)
                have HCU := Lib.hid (And.intro hcu hcu')
                have HCAB := Lib.hid (And.intro hca hcb)
                have p4 := hca.c4
                have q4 := hcb.c4
                obtain ⟨r0, r1, r2, r3, r4⟩ := hcu
                obtain ⟨s0, s1, s2, s3, s4⟩ := hcu'
                dsimp only at p4 q4 r0 r1 r2 r3 r4 s0 s1 s2 s3 s4
                rw [Nat.zero_add] at p4 q4
                clear hc hnu hcell hc' hnu' hcell' hnk hnk' hX hY hsb hca hcb hk1 hk2 hbw hb1 hb2
                go_wp2_with fail
                refine wp_region_held_drew (S := fun W => W.cell? ⟨w.heap.size, 4, none⟩ = some (.slice (some ⟨b1, o1, none⟩) kl kc) ∧ W.cell? ⟨w1.heap.size, 4, none⟩ = some (.slice (some ⟨b2, o2, none⟩) kl kc') ∧
                  W.cell? ⟨b1, o1 + k * 5, none⟩ = some (.int .i64 xc) ∧ W.cell? ⟨b1, o1 + k * 5 + 1, none⟩ = some (.int .i64 xt) ∧ W.cell? ⟨b1, o1 + k * 5 + 2, none⟩ = some (.bool xk) ∧ W.cell? ⟨b1, o1 + k * 5 + 3, none⟩ = some (.slice xa xl xm) ∧ W.cell? ⟨b1, o1 + k * 5 + 4, none⟩ = some (.slice ya yl ym) ∧
                  W.cell? ⟨b2, o2 + k * 5, none⟩ = some (.int .i64 xc') ∧ W.cell? ⟨b2, o2 + k * 5 + 1, none⟩ = some (.int .i64 xt') ∧ W.cell? ⟨b2, o2 + k * 5 + 2, none⟩ = some (.bool xk') ∧ W.cell? ⟨b2, o2 + k * 5 + 3, none⟩ = some (.slice xa' xl' xm') ∧ W.cell? ⟨b2, o2 + k * 5 + 4, none⟩ = some (.slice ya' yl' ym')) (by kernel_rfl) ⟨p4, q4, r0, r1, r2, r3, r4, s0, s1, s2, s3, s4⟩ (fun hHeld => ?_)
                refine' tk 0 ?_
                try simp only [Act.put, List.setIfInBounds_toArray, List.set_cons_zero, List.set_cons_succ]
                refine' tk 1 ?_
                try simp only [Act.put, List.setIfInBounds_toArray, List.set_cons_zero, List.set_cons_succ]
                refine' tk 2 ?_
                try simp only [Act.put, List.setIfInBounds_toArray, List.set_cons_zero, List.set_cons_succ]
                refine' tk 3 ?_
                try simp only [Act.put, List.setIfInBounds_toArray, List.set_cons_zero, List.set_cons_succ]
                refine' tk 4 ?_
                try simp only [Act.put, List.setIfInBounds_toArray, List.set_cons_zero, List.set_cons_succ]
                refine' tk 5 ?_
                try simp only [Act.put, List.setIfInBounds_toArray, List.set_cons_zero, List.set_cons_succ]
                refine' tk 6 ?_
                try simp only [Act.put, List.setIfInBounds_toArray, List.set_cons_zero, List.set_cons_succ]
                refine' tk 7 ?_
                try simp only [Act.put, List.setIfInBounds_toArray, List.set_cons_zero, List.set_cons_succ]
                refine' tk 8 ?_
                try simp only [Act.put, List.setIfInBounds_toArray, List.set_cons_zero, List.set_cons_succ]
                refine' tk 9 ?_
                try simp only [Act.put, List.setIfInBounds_toArray, List.set_cons_zero, List.set_cons_succ]
                refine' tr 10 (fun K hK => ?_)
                try simp only [List.getElem_toArray, List.getElem_cons_succ, List.getElem_cons_zero]
                go_simp
                refine HOK.out.mono ?_
                rintro e w4 ⟨rfl, hb4d⟩
                have hb4 : Below wr.heap.size wr w4 := ⟨hb4d.os, hb4d.tape, hb4d.output, hb4d.size, hb4d.block⟩
                obtain ⟨r02, r12, r22, r32, r42⟩ := HCU.out.1.below hb4 HCU.out.1.lt
                obtain ⟨s02, s12, s22, s32, s42⟩ := HCU.out.2.below hb4 HCU.out.2.lt
                have p42 := (HCAB.out.1.below hb4 HCAB.out.1.lt).c4
                have q42 := (HCAB.out.2.below hb4 HCAB.out.2.lt).c4
                dsimp only at p42 q42 r02 r12 r22 r32 r42 s02 s12 s22 s32 s42
                rw [Nat.zero_add] at p42 q42
                have HB4 := Lib.hid (HRL.out.2.trans (hb4.mono HRL.out.2.size))
                clear hb4 hb4d p4 q4 r0 r1 r2 r3 r4 s0 s1 s2 s3 s4
                cases sb with
                | false =>
                  have HF := Lib.hid (HTK.out.1 rfl)
                  go_wp2_with fail
                  refine hK.out _ _ ⟨p42, q42, r02, r12, r22, r32, r42, s02, s12, s22, s32, s42⟩ (fun hHeld => ?_)
                  clear hK K
                  try simp only [Act.put, List.setIfInBounds_toArray, List.set_cons_zero, List.set_cons_succ]
                  refine' tk 11 ?_
                  try simp only [Act.put, List.setIfInBounds_toArray, List.set_cons_zero, List.set_cons_succ]
                  refine wpAnyH_done (by kernel_rfl) ?_ _
                  clear hHeld p42 q42 r02 r12 r22 r32 r42 s02 s12 s22 s32 s42
                  go_wp2_with fail
                  go_ret
                  exact ⟨ret_bool (by rw [HR.out, HF.out]), HB2.out.trans (HB4.out.mono (by have := HZ.out.2; omega))⟩
                | true =>
                  have HF := Lib.hid (HTK.out.2 rfl)
                  go_wp2_with fail
                  refine hK.out _ _ ⟨p42, q42, r02, r12, r22, r32, r42, s02, s12, s22, s32, s42⟩ (fun hHeld => ?_)
                  clear hK K
                  try simp only [Act.put, List.setIfInBounds_toArray, List.set_cons_zero, List.set_cons_succ]
                  refine' tk 11 ?_
                  try simp only [Act.put, List.setIfInBounds_toArray, List.set_cons_zero, List.set_cons_succ]
                  refine wpAnyH_done (by kernel_rfl) ?_ _
                  clear hHeld p42 q42 r02 r12 r22 r32 r42 s02 s12 s22 s32 s42
                  go_wp2_with fail
                  go_roundw
                  case rel => exact ⟨k + 1, by omega, by go_num, HF.out, HB4.out⟩
                  case measure => simp [intOf]; omega
              · obtain rfl : k = kl := by omega
                have HF := Lib.hid (show sameL ks ks' = true by
                  have h := HRL.out.1
                  rw [List.take_of_length_le (by rw [hkl.out]; exact Nat.le_refl _), List.take_of_length_le (by rw [← HLE.out, hkl.out]; exact Nat.le_refl _)] at h
                  exact (sameL_iff _ _).2 h)
                clear hlt
                go_wp2_with fail
                go_ret
                exact ⟨ret_bool (by rw [HR.out, HF.out]), HB2.out.trans (HRL.out.2.mono (by have := HZ.out.2; omega))⟩
          · have HD := Lib.hid (decide_eq_false h5)
            have HR := Lib.hid (show sameB (.mk c t kk l ks) (.mk c' t' kk' l' ks') = false by rw [HS.out]; simp [h5])
            clear h1 h2 h3 h4 h5 hle
            go_enter Tryd.func29, Tryd.ntmps29
            go_wp2_with fail
            refine (HE.out w2 (Below.refl _ _)).mono ?_
            rintro e w3 ⟨rfl, rfl⟩
            rw [HD.out]
            go_wp2_with fail
            go_ret
            exact ⟨ret_bool (by rw [HR.out]), HB2.out⟩
        · have g4 : ((kl : Int) != (kl' : Int)) = true := by simp; omega
          have HR := Lib.hid (show sameB (.mk c t kk l ks) (.mk c' t' kk' l' ks') = false by rw [HS.out, hkl.out, hkl'.out]; simp [h4])
          clear h1 h2 h3 h4
          go_enter Tryd.func29, Tryd.ntmps29
          go_wp2_with fail
          go_ret
          exact ⟨ret_bool (by rw [HR.out]), HB2.out⟩
      · have g3 : (kk == kk') = false := by simpa using h3
        have HR := Lib.hid (show sameB (.mk c t kk l ks) (.mk c' t' kk' l' ks') = false by rw [HS.out]; simp [h3])
        clear h1 h2 h3
        go_enter Tryd.func29, Tryd.ntmps29
        go_wp2_with fail
        go_ret
        exact ⟨ret_bool (by rw [HR.out]), HB2.out⟩
    · have g2 : (t != t') = true := by simpa using h2
      have HR := Lib.hid (show sameB (.mk c t kk l ks) (.mk c' t' kk' l' ks') = false by rw [HS.out]; simp [h2])
      clear h1 h2
      go_enter Tryd.func29, Tryd.ntmps29
      go_wp2_with fail
      go_ret
      exact ⟨ret_bool (by rw [HR.out]), HB2.out⟩
  · have g1 : (c != c') = true := by simpa using h1
    have HR := Lib.hid (show sameB (.mk c t kk l ks) (.mk c' t' kk' l' ks') = false by rw [HS.out]; simp [h1])
    clear h1
    go_enter Tryd.func29, Tryd.ntmps29
    go_wp2_with fail
    go_ret
    exact ⟨ret_bool (by rw [HR.out]), HB2.out⟩

theorem same_ok : ∀ (n : Nat) (T : Tr), T.wt ≤ n → SameOk T
  | 0, T, h => by have := T.wt_pos; omega
  | n + 1, .mk c t k l ks, h => by
    simp only [Tr.wt] at h
    exact same_of c t k l ks (fun T hT => same_ok n T (by have := wtL_mem hT; omega))

theorem same_any (T T' : Tr) (V V' : NV) (w : World) (h : NodeAt w V T) (h' : NodeAt w V' T') : Calls Tryd.prog 29 #[V.agg, V'.agg] w fun e w' => e = .returned (.bool (sameB T T')) ∧ Below w.heap.size w w' :=
  same_ok T.wt T (Nat.le_refl _) T' V V' w h h'

end Go.Proofs.YtkmphiakciihfaaDoor
