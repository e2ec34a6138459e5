/-
  SHA-512: the law Copies. (Written by wip/gen_shb.py.)
-/
import Derived.Test.YtpfdehjllnhllaaShb4
namespace Go.Proofs.Ytpfdehjllnhllaa
open Go.RowKit Go.Shelf

theorem nilB : Byt [] := fun x hx => by cases hx
theorem StateOf.copy {W : World} {g bt : Nat} {l : List Nat} (h : StateOf W g bt l) (hbt : bt ≠ 0) : Calls Try.prog 16 #[.pointer (some ⟨g, 0, none⟩)] W fun e W' => e = .returned (.pointer (some ⟨W.heap.size, 0, none⟩)) ∧ StateOf W' W.heap.size bt l ∧ Below W.heap.size W W' := by
  obtain ⟨ws, tail, h, k⟩ := h
  refine (copy_any g bt ws tail _ W h hbt).mono ?_
  rintro e W' ⟨rfl, rfl⟩
  exact ⟨rfl, ⟨ws, tail, ⟨Go.heap_alloc_new W _, h.wlen, h.tlen, h.wlt, h.tlt⟩, k⟩, (Below.refl _ _).alloc (Nat.le_refl _) _⟩
theorem len_of {W : World} {g bt : Nat} {l : List Nat} (h : StateOf W g bt l) (hbt : bt ≠ 0) : Calls Try.prog 13 #[.pointer (some ⟨g, 0, none⟩)] W fun e W' => e = .returned (.int .u64 (l.length : Int)) ∧ W = W' := by
  obtain ⟨ws, tail, h, -⟩ := h
  exact len_any g bt ws tail _ W h hbt
theorem byt_app {l m : List Nat} (h : Byt l) (k : Byt m) : Byt (l ++ m) := all_lt h k
set_option maxHeartbeats 8000000 in
set_option maxRecDepth 100000 in
theorem copies384_walk (a a2 a3 : Option Addr) (n c n2 c2 n3 c3 : Nat) (l l2 l3 : List Nat) (w : World) (hr : Reads .u8 w a n c l) (hl : Byt l) (hr2 : Reads .u8 w a2 n2 c2 l2) (hl2 : Byt l2) (hr3 : Reads .u8 w a3 n3 c3 l3) (hl3 : Byt l3) :
    Calls Try.prog 6 #[.bool false, .slice a n c, .slice a2 n2 c2, .slice a3 n3 c3] w fun e w' => e = .returned (.bool true) ∧ Below w.heap.size w w' := by
  obtain ⟨i0, hi, hz0, hz1, hz2⟩ := info_parts infoB
  have HR := Lib.hid hr
  have HR2 := Lib.hid hr2
  have HR3 := Lib.hid hr3
  have HL := Lib.hid hl
  have HL2 := Lib.hid hl2
  have HL3 := Lib.hid hl3
  have HNL := Lib.hid hr.length
  have HNL2 := Lib.hid hr2.length
  have HNL3 := Lib.hid hr3.length
  have hmx := hr.len_le
  have hmx2 := hr2.len_le
  have hmx3 := hr3.len_le
  unfold maxLen at hmx hmx2 hmx3
  clear hr hl hr2 hl2 hr3 hl3
  go_enter Try.func6, Try.ntmps6
  go_wp2_with fail
  refine (alive_any w).mono ?_
  rintro e w1 ⟨rfl, h1⟩
  have H1 := Lib.hid h1
  clear h1
  by_cases hbig : 1000 < n
  · have d1 : decide ((1000 : Int) < (n : Int)) = true := by simp; omega
    go_wp2
    go_ret
    exact ⟨rfl, H1.out⟩
  · have d1 : decide ((1000 : Int) < (n : Int)) = false := by simp; omega
    by_cases hbig2 : 1000 < n2
    · have d2 : decide ((1000 : Int) < (n2 : Int)) = true := by simp; omega
      go_wp2
      go_ret
      exact ⟨rfl, H1.out⟩
    · have d2 : decide ((1000 : Int) < (n2 : Int)) = false := by simp; omega
      by_cases hbig3 : 1000 < n3
      · have d3 : decide ((1000 : Int) < (n3 : Int)) = true := by simp; omega
        go_wp2
        go_ret
        exact ⟨rfl, H1.out⟩
      · have d3 : decide ((1000 : Int) < (n3 : Int)) = false := by simp; omega
        go_wp2_with fail
        refine (state384_any false _ _ _ _ _ _ _ _ w1 (HR.out.below H1.out) HL.out (by omega) (Reads.none _ _) nilB).mono ?_
        rintro e w2 ⟨rfl, hs2, hb2⟩
        have HS2 := Lib.hid hs2
        have HB2 := Lib.hid (below_on H1.out hb2)
        clear hs2 hb2
        go_wp2_with fail
        refine (HS2.out.copy (by decide)).mono ?_
        rintro e w3 ⟨rfl, hs3, hb3⟩
        have HT3 := Lib.hid (show Two w w3 w1.heap.size w2.heap.size 384 l l from ⟨HS2.out.below hb3 HS2.out.lt, hs3, below_on HB2.out hb3⟩)
        have hg1 := H1.out.size
        have hg2 := HS2.out.lt
        clear hs3 hb3
        generalize w1.heap.size = g1 at *
        generalize w2.heap.size = g2 at *
        have hne : Hid (g1 ≠ g2) := Nat.ne_of_lt hg2
        have hle1 : Hid (w.heap.size ≤ g1) := hg1
        have hle2 : Hid (w.heap.size ≤ g2) := Nat.le_trans hg1 (Nat.le_of_lt hg2)
        clear hg1 hg2
        go_wp2_with fail
        refine (HT3.out.write1 hne.out hle1.out (by decide) _ _ _ l2 (HR2.out.below HT3.out.below) HL2.out (by have := HNL.out; omega) (reads_block HR2.out hle1.out)).mono ?_
        rintro e w4 ⟨rfl, ht4, -⟩
        have HT4 := Lib.hid ht4
        clear ht4
        go_wp2_with fail
        refine (HT4.out.write2 hne.out hle2.out (by decide) _ _ _ l3 (HR3.out.below HT4.out.below) HL3.out (by have := HNL.out; omega) (reads_block HR3.out hle2.out)).mono ?_
        rintro e w5 ⟨rfl, ht5, -⟩
        have HT5 := Lib.hid ht5
        have HB5 := Lib.hid ht5.below
        clear ht5
        obtain ⟨N3, hN3⟩ : ∃ N, (l ++ l2).length = N := ⟨_, rfl⟩
        obtain ⟨N4, hN4⟩ : ∃ N, (l ++ l3).length = N := ⟨_, rfl⟩
        have hN3b : N3 ≤ 2000 := by have := HNL.out; have := HNL2.out; rw [← hN3, List.length_append]; omega
        have hN4b : N4 ≤ 2000 := by have := HNL.out; have := HNL3.out; rw [← hN4, List.length_append]; omega
        have hw4 : IntKind.u64.wrap (N4 : Int) = (N4 : Int) := by simp [IntKind.wrap, IntKind.bits, IntKind.signed]; omega
        have HN3 := Lib.hid hN3
        have HN4 := Lib.hid hN4
        clear hN3 hN4
        go_wp2_with (at_builtin; first | (refine wpList_append_q .u8 _ rfl (.tmp 50) (.tmp 51) 23 rfl w5.heap.size 5 1 i0 Try.underlying23 hi hz0 hz1 hz2 (by decide) _ [] rfl (OwnQ.empty _ _ _ _ (Nat.le_refl _)) _ _ _ l rfl ((HR.out.below HB5.out).below ((Below.refl _ _).alloc (Nat.le_refl _) _)) (by simp; omega) (by simp) ?_; intro v6 w6 hown6 hgrow6; rw [List.nil_append] at hown6; have HO6 := Lib.hid hown6; have HG6 := Lib.hid (hgrow6 _ ((Below.refl _ _).alloc (Nat.le_refl _) _)); clear hown6 hgrow6) | (refine wpList_append_q .u8 _ rfl (.tmp 52) (.tmp 53) 23 rfl w5.heap.size 5 1 i0 Try.underlying23 hi hz0 hz1 hz2 (by decide) _ l rfl HO6.out _ _ _ l2 rfl ((HR2.out.below HB5.out).below HG6.out) (by have := HNL.out; omega) HG6.out.size ?_; intro u6 x6 hown26 hgrow26; obtain ⟨a6, cc6, e6, hf6, -⟩ := hown26.form; rw [HN3.out] at e6 hf6; subst e6; have HP6 := Lib.hid hf6; have HH6 := Lib.hid (hgrow26 _ HG6.out); have HZ6 := Lib.hid (below_on HB5.out HH6.out); clear hown26 hgrow26 hf6) | (refine wpList_append_q .u8 _ rfl (.tmp 55) (.tmp 56) 23 rfl x6.heap.size 5 1 i0 Try.underlying23 hi hz0 hz1 hz2 (by decide) _ [] rfl (OwnQ.empty _ _ _ _ (Nat.le_refl _)) _ _ _ l rfl ((HR.out.below HZ6.out).below ((Below.refl _ _).alloc (Nat.le_refl _) _)) (by simp; omega) (by simp) ?_; intro v7 w7 hown7 hgrow7; rw [List.nil_append] at hown7; have HO7 := Lib.hid hown7; have HG7 := Lib.hid (hgrow7 _ ((Below.refl _ _).alloc (Nat.le_refl _) _)); clear hown7 hgrow7) | (refine wpList_append_q .u8 _ rfl (.tmp 57) (.tmp 58) 23 rfl x6.heap.size 5 1 i0 Try.underlying23 hi hz0 hz1 hz2 (by decide) _ l rfl HO7.out _ _ _ l3 rfl ((HR3.out.below HZ6.out).below HG7.out) (by have := HNL.out; omega) HG7.out.size ?_; intro u7 x7 hown27 hgrow27; obtain ⟨a7, cc7, e7, hf7, -⟩ := hown27.form; rw [HN4.out] at e7 hf7; subst e7; have HP7 := Lib.hid hf7; have HH7 := Lib.hid (hgrow27 _ HG7.out); have HZ7 := Lib.hid (below_on HZ6.out HH7.out); clear hown27 hgrow27 hf7))
        refine (state384_any false _ _ _ _ _ _ _ _ x7 (HP6.out.below HH7.out) (byt_app HL.out HL2.out) (by omega) (Reads.none _ _) nilB).mono ?_
        rintro e y1 ⟨rfl, hs8, hb8⟩
        have HT8 := Lib.hid (HT5.out.on (below_on (below_on HH6.out HH7.out) hb8))
        have HT6' := Lib.hid hs8
        have HP8 := Lib.hid (HP7.out.below hb8)
        clear hs8 hb8
        generalize x7.heap.size = g3 at *
        go_wp2_with fail
        refine (state384_any false _ _ _ _ _ _ _ _ y1 HP8.out (byt_app HL.out HL3.out) (by omega) (Reads.none _ _) nilB).mono ?_
        rintro e y2 ⟨rfl, hs9, hb9⟩
        have HT9 := Lib.hid (HT8.out.on hb9)
        have HTT := Lib.hid (HT6'.out.below hb9 HT6'.out.lt)
        have HUU := Lib.hid hs9
        clear hs9 hb9
        generalize y1.heap.size = g4 at *
        go_wp2_with fail
        refine (HT9.out.sum1 (by decide)).mono ?_
        rintro e y3 ⟨⟨adx, rfl, hsx⟩, htx, hbx⟩
        have HXX := Lib.hid hsx
        have HTX := Lib.hid htx
        have HTT2 := Lib.hid (HTT.out.below hbx HTT.out.lt)
        have HUU2 := Lib.hid (HUU.out.below hbx HUU.out.lt)
        clear hsx htx hbx
        go_wp2_with fail
        refine (HTX.out.sum1 (by decide)).mono ?_
        rintro e W ⟨⟨ady, rfl, hsy⟩, hty, hby⟩
        have HY := Lib.hid hsy
        have HX := Lib.hid (HXX.out.on hby)
        have HC6 := Lib.hid hty.drew.two
        have HBW := Lib.hid hty.drew.below
        have HT6 := Lib.hid (StateOf.below (HTT2.out.below hby HTT2.out.lt) (Below.refl W.heap.size W).drew (HTT2.out.below hby HTT2.out.lt).lt)
        have HU6 := Lib.hid (StateOf.below (HUU2.out.below hby HUU2.out.lt) (Below.refl W.heap.size W).drew (HUU2.out.below hby HUU2.out.lt).lt)
        clear hsy hty hby
        go_wp2_with fail
        refine wp_region_held_drew (S := fun W => SumAt w W adx 384 (l ++ l2) ∧ SumAt w W ady 384 (l ++ l2)) (by kernel_rfl) ⟨HX.out.on (Below.refl _ _).drew, HY.out.on (Below.refl _ _).drew⟩ (fun hHeld => ?_)
        refine' wpAnyH_take (i := 0) (oi := _) (v := _) rfl (by kernel_rfl) (by kernel_rfl) (by kernel_rfl) (fun _ _ _ h => h) (Or.inl ⟨?_, ?_⟩) (by assumption) ?_
        rotate_left
        all_goals (try simp only [List.getElem_toArray, List.getElem_cons_succ, List.getElem_cons_zero])
        · rfl
        · intro W hSw; (try dsimp only at hSw); go_simp; (try with_reducible rfl)
        try simp only [Act.put, List.setIfInBounds_toArray, List.set_cons_zero, List.set_cons_succ]
        refine' wpAnyH_take (i := 1) (oi := _) (v := _) rfl (by kernel_rfl) (by kernel_rfl) (by kernel_rfl) (fun _ _ _ h => h) (Or.inl ⟨?_, ?_⟩) (by assumption) ?_
        rotate_left
        all_goals (try simp only [List.getElem_toArray, List.getElem_cons_succ, List.getElem_cons_zero])
        · rfl
        · intro W hSw; (try dsimp only at hSw); go_simp; (try with_reducible rfl)
        try simp only [Act.put, List.setIfInBounds_toArray, List.set_cons_zero, List.set_cons_succ]
        refine' wpAnyH_take (i := 2) (oi := _) (v := _) rfl (by kernel_rfl) (by kernel_rfl) (by kernel_rfl) (fun _ _ _ h => h) (Or.inl ⟨?_, ?_⟩) (by assumption) ?_
        rotate_left
        all_goals (try simp only [List.getElem_toArray, List.getElem_cons_succ, List.getElem_cons_zero])
        · rfl
        · intro W hSw; (try dsimp only at hSw); go_simp; (try with_reducible rfl)
        try simp only [Act.put, List.setIfInBounds_toArray, List.set_cons_zero, List.set_cons_succ]
        refine' wpAnyH_take (i := 3) (oi := _) (v := _) rfl (by kernel_rfl) (by kernel_rfl) (by kernel_rfl) (fun _ _ _ h => h) (Or.inl ⟨?_, ?_⟩) (by assumption) ?_
        rotate_left
        all_goals (try simp only [List.getElem_toArray, List.getElem_cons_succ, List.getElem_cons_zero])
        · rfl
        · intro W hSw; (try dsimp only at hSw); have hcx := hSw.1.conv; simp only [Nat.reduceDiv] at hcx; go_simp; (try with_reducible rfl)
        try simp only [Act.put, List.setIfInBounds_toArray, List.set_cons_zero, List.set_cons_succ]
        refine' wpAnyH_take (i := 4) (oi := _) (v := _) rfl (by kernel_rfl) (by kernel_rfl) (by kernel_rfl) (fun _ _ _ h => h) (Or.inl ⟨?_, ?_⟩) (by assumption) ?_
        rotate_left
        all_goals (try simp only [List.getElem_toArray, List.getElem_cons_succ, List.getElem_cons_zero])
        · rfl
        · intro W hSw; (try dsimp only at hSw); go_simp; (try with_reducible rfl)
        try simp only [Act.put, List.setIfInBounds_toArray, List.set_cons_zero, List.set_cons_succ]
        refine wpAnyH_ready (rs := [5]) (by kernel_rfl) (by simp) ?_
        refine AllReadyH.cons (o := _) rfl (fun K hK => ?_) AllReadyH.nil
        try simp only [List.getElem_toArray, List.getElem_cons_succ, List.getElem_cons_zero]
        go_simp
        refine (sum_any g3 384 _ _ HT6.out (by decide)).mono ?_; rintro e W7 ⟨⟨ad7, rfl, hs7, -⟩, hb7⟩; have HS7 := Lib.hid hs7; have HC7 := Lib.hid (HC6.out.below hb7 HC6.out.lt); have HU7 := Lib.hid (HU6.out.below hb7 HU6.out.lt); have HX7 := Lib.hid (HX.out.on (below_on (Below.refl _ _).drew hb7)); have HY7 := Lib.hid (HY.out.on (below_on (Below.refl _ _).drew hb7)); have HB7 := Lib.hid (below_on HBW.out hb7); clear hs7 hb7
        go_wp2_with fail
        refine hK.out _ _ ⟨HX7.out, HY7.out⟩ (fun hHeld => ?_)
        clear hK K
        try simp only [Act.put, List.setIfInBounds_toArray, List.set_cons_zero, List.set_cons_succ]
        have hc7 := convB (HS7.out.bts (hashN_lt _ _))
        simp only [Nat.reduceDiv] at hc7
        refine wpAnyH_ready (rs := [6]) (by kernel_rfl) (by simp) ?_
        refine AllReadyH.cons (o := _) rfl (fun K hK => ?_) AllReadyH.nil
        try simp only [List.getElem_toArray, List.getElem_cons_succ, List.getElem_cons_zero]
        go_simp
        refine hK.out _ _ ⟨HX7.out, HY7.out⟩ (fun hHeld => ?_)
        clear hK K
        try simp only [Act.put, List.setIfInBounds_toArray, List.set_cons_zero, List.set_cons_succ]
        clear hc7
        refine' wpAnyH_take (i := 7) (oi := _) (v := _) rfl (by kernel_rfl) (by kernel_rfl) (by kernel_rfl) (fun _ _ _ h => h) (Or.inl ⟨?_, ?_⟩) (by assumption) ?_
        rotate_left
        all_goals (try simp only [List.getElem_toArray, List.getElem_cons_succ, List.getElem_cons_zero])
        · rfl
        · intro W hSw; (try dsimp only at hSw); go_simp; (try with_reducible rfl)
        try simp only [Act.put, List.setIfInBounds_toArray, List.set_cons_zero, List.set_cons_succ]
        refine' wpAnyH_take (i := 8) (oi := _) (v := _) rfl (by kernel_rfl) (by kernel_rfl) (by kernel_rfl) (fun _ _ _ h => h) (Or.inl ⟨?_, ?_⟩) (by assumption) ?_
        rotate_left
        all_goals (try simp only [List.getElem_toArray, List.getElem_cons_succ, List.getElem_cons_zero])
        · rfl
        · intro W hSw; (try dsimp only at hSw); go_simp; (try with_reducible rfl)
        try simp only [Act.put, List.setIfInBounds_toArray, List.set_cons_zero, List.set_cons_succ]
        refine' wpAnyH_take (i := 9) (oi := _) (v := _) rfl (by kernel_rfl) (by kernel_rfl) (by kernel_rfl) (fun _ _ _ h => h) (Or.inl ⟨?_, ?_⟩) (by assumption) ?_
        rotate_left
        all_goals (try simp only [List.getElem_toArray, List.getElem_cons_succ, List.getElem_cons_zero])
        · rfl
        · intro W hSw; (try dsimp only at hSw); go_simp; (try with_reducible rfl)
        try simp only [Act.put, List.setIfInBounds_toArray, List.set_cons_zero, List.set_cons_succ]
        refine' wpAnyH_take (i := 10) (oi := _) (v := _) rfl (by kernel_rfl) (by kernel_rfl) (by kernel_rfl) (fun _ _ _ h => h) (Or.inl ⟨?_, ?_⟩) (by assumption) ?_
        rotate_left
        all_goals (try simp only [List.getElem_toArray, List.getElem_cons_succ, List.getElem_cons_zero])
        · rfl
        · intro W hSw; (try dsimp only at hSw); go_simp; (try with_reducible rfl)
        try simp only [Act.put, List.setIfInBounds_toArray, List.set_cons_zero, List.set_cons_succ]
        refine' wpAnyH_take (i := 11) (oi := _) (v := _) rfl (by kernel_rfl) (by kernel_rfl) (by kernel_rfl) (fun _ _ _ h => h) (Or.inl ⟨?_, ?_⟩) (by assumption) ?_
        rotate_left
        all_goals (try simp only [List.getElem_toArray, List.getElem_cons_succ, List.getElem_cons_zero])
        · rfl
        · intro W hSw; (try dsimp only at hSw); have hcx := hSw.2.conv; simp only [Nat.reduceDiv] at hcx; go_simp; (try with_reducible rfl)
        try simp only [Act.put, List.setIfInBounds_toArray, List.set_cons_zero, List.set_cons_succ]
        refine' wpAnyH_take (i := 12) (oi := _) (v := _) rfl (by kernel_rfl) (by kernel_rfl) (by kernel_rfl) (fun _ _ _ h => h) (Or.inl ⟨?_, ?_⟩) (by assumption) ?_
        rotate_left
        all_goals (try simp only [List.getElem_toArray, List.getElem_cons_succ, List.getElem_cons_zero])
        · rfl
        · intro W hSw; (try dsimp only at hSw); go_simp; (try with_reducible rfl)
        try simp only [Act.put, List.setIfInBounds_toArray, List.set_cons_zero, List.set_cons_succ]
        refine' wpAnyH_take (i := 13) (oi := _) (v := _) rfl (by kernel_rfl) (by kernel_rfl) (by kernel_rfl) (fun _ _ _ h => h) (Or.inl ⟨?_, ?_⟩) (by assumption) ?_
        rotate_left
        all_goals (try simp only [List.getElem_toArray, List.getElem_cons_succ, List.getElem_cons_zero])
        · rfl
        · intro W hSw; (try dsimp only at hSw); have hcx := hSw.1.conv; simp only [Nat.reduceDiv] at hcx; go_simp; (try with_reducible rfl)
        try simp only [Act.put, List.setIfInBounds_toArray, List.set_cons_zero, List.set_cons_succ]
        refine' wpAnyH_take (i := 14) (oi := _) (v := _) rfl (by kernel_rfl) (by kernel_rfl) (by kernel_rfl) (fun _ _ _ h => h) (Or.inl ⟨?_, ?_⟩) (by assumption) ?_
        rotate_left
        all_goals (try simp only [List.getElem_toArray, List.getElem_cons_succ, List.getElem_cons_zero])
        · rfl
        · intro W hSw; (try dsimp only at hSw); go_simp; (try with_reducible rfl)
        try simp only [Act.put, List.setIfInBounds_toArray, List.set_cons_zero, List.set_cons_succ]
        refine' wpAnyH_take (i := 15) (oi := _) (v := _) rfl (by kernel_rfl) (by kernel_rfl) (by kernel_rfl) (fun _ _ _ h => h) (Or.inl ⟨?_, ?_⟩) (by assumption) ?_
        rotate_left
        all_goals (try simp only [List.getElem_toArray, List.getElem_cons_succ, List.getElem_cons_zero])
        · rfl
        · intro W hSw; (try dsimp only at hSw); go_simp; (try with_reducible rfl)
        try simp only [Act.put, List.setIfInBounds_toArray, List.set_cons_zero, List.set_cons_succ]
        refine' wpAnyH_take (i := 16) (oi := _) (v := _) rfl (by kernel_rfl) (by kernel_rfl) (by kernel_rfl) (fun _ _ _ h => h) (Or.inl ⟨?_, ?_⟩) (by assumption) ?_
        rotate_left
        all_goals (try simp only [List.getElem_toArray, List.getElem_cons_succ, List.getElem_cons_zero])
        · rfl
        · intro W hSw; (try dsimp only at hSw); go_simp; (try with_reducible rfl)
        try simp only [Act.put, List.setIfInBounds_toArray, List.set_cons_zero, List.set_cons_succ]
        refine' wpAnyH_take (i := 17) (oi := _) (v := _) rfl (by kernel_rfl) (by kernel_rfl) (by kernel_rfl) (fun _ _ _ h => h) (Or.inl ⟨?_, ?_⟩) (by assumption) ?_
        rotate_left
        all_goals (try simp only [List.getElem_toArray, List.getElem_cons_succ, List.getElem_cons_zero])
        · rfl
        · intro W hSw; (try dsimp only at hSw); go_simp; (try with_reducible rfl)
        try simp only [Act.put, List.setIfInBounds_toArray, List.set_cons_zero, List.set_cons_succ]
        refine' wpAnyH_take (i := 20) (oi := _) (v := _) rfl (by kernel_rfl) (by kernel_rfl) (by kernel_rfl) (fun _ _ _ h => h) (Or.inl ⟨?_, ?_⟩) (by assumption) ?_
        rotate_left
        all_goals (try simp only [List.getElem_toArray, List.getElem_cons_succ, List.getElem_cons_zero])
        · rfl
        · intro W hSw; (try dsimp only at hSw); go_simp; (try with_reducible rfl)
        try simp only [Act.put, List.setIfInBounds_toArray, List.set_cons_zero, List.set_cons_succ]
        refine wpAnyH_ready (rs := [18]) (by kernel_rfl) (by simp) ?_
        refine AllReadyH.cons (o := _) rfl (fun K hK => ?_) AllReadyH.nil
        try simp only [List.getElem_toArray, List.getElem_cons_succ, List.getElem_cons_zero]
        go_simp
        refine (sum_any g2 384 _ W7 HC7.out (by decide)).mono ?_; rintro e W8 ⟨⟨ad8, rfl, hs8, -⟩, hb8⟩; have HS8 := Lib.hid hs8; have HC8 := Lib.hid (HC7.out.below hb8 HC7.out.lt); have HU8 := Lib.hid (HU7.out.below hb8 HU7.out.lt); have HX8 := Lib.hid (HX7.out.on hb8); have HY8 := Lib.hid (HY7.out.on hb8); have HB8 := Lib.hid (below_on HB7.out hb8); clear hs8 hb8
        go_wp2_with fail
        refine hK.out _ _ ⟨HX8.out, HY8.out⟩ (fun hHeld => ?_)
        clear hK K
        try simp only [Act.put, List.setIfInBounds_toArray, List.set_cons_zero, List.set_cons_succ]
        refine wpAnyH_ready (rs := [19, 21]) (by kernel_rfl) (by simp) ?_
        refine AllReadyH.cons (o := _) rfl (fun K hK => ?_) (AllReadyH.cons (o := _) rfl (fun K hK => ?_) AllReadyH.nil)
        · try simp only [List.getElem_toArray, List.getElem_cons_succ, List.getElem_cons_zero]
          have hc8 := convB (HS8.out.bts (hashN_lt _ _)); simp only [Nat.reduceDiv] at hc8
          go_simp
          refine hK.out _ _ ⟨HX8.out, HY8.out⟩ (fun hHeld => ?_)
          clear hK K
          try simp only [Act.put, List.setIfInBounds_toArray, List.set_cons_zero, List.set_cons_succ]
          clear hc8
          refine wpAnyH_ready (rs := [21]) (by kernel_rfl) (by simp) ?_
          refine AllReadyH.cons (o := _) rfl (fun K hK => ?_) AllReadyH.nil
          try simp only [List.getElem_toArray, List.getElem_cons_succ, List.getElem_cons_zero]
          go_simp
          refine (sum_any g4 384 _ W8 HU8.out (by decide)).mono ?_; rintro e W9 ⟨⟨ad9, rfl, hs9, -⟩, hb9⟩; have HS9 := Lib.hid hs9; have HR8 := Lib.hid (HS8.out.below hb9); have HC9 := Lib.hid (HC8.out.below hb9 HC8.out.lt); have HX9 := Lib.hid (HX8.out.on hb9); have HY9 := Lib.hid (HY8.out.on hb9); have HB9 := Lib.hid (below_on HB8.out hb9); clear hs9 hb9
          go_wp2_with fail
          refine hK.out _ _ ⟨HX9.out, HY9.out⟩ (fun hHeld => ?_)
          clear hK K
          try simp only [Act.put, List.setIfInBounds_toArray, List.set_cons_zero, List.set_cons_succ]
          refine wpAnyH_ready (rs := [22]) (by kernel_rfl) (by simp) ?_
          refine AllReadyH.cons (o := _) rfl (fun K hK => ?_) AllReadyH.nil
          try simp only [List.getElem_toArray, List.getElem_cons_succ, List.getElem_cons_zero]
          have hc9 := convB (HS9.out.bts (hashN_lt _ _)); simp only [Nat.reduceDiv] at hc9
          go_simp
          refine hK.out _ _ ⟨HX9.out, HY9.out⟩ (fun hHeld => ?_)
          clear hK K
          try simp only [Act.put, List.setIfInBounds_toArray, List.set_cons_zero, List.set_cons_succ]
          refine' wpAnyH_take (i := 23) (oi := _) (v := _) rfl (by kernel_rfl) (by kernel_rfl) (by kernel_rfl) (fun _ _ _ h => h) (Or.inl ⟨?_, ?_⟩) (by assumption) ?_
          rotate_left
          all_goals (try simp only [List.getElem_toArray, List.getElem_cons_succ, List.getElem_cons_zero])
          · rfl
          · intro W hSw; (try dsimp only at hSw); go_simp; (try with_reducible rfl)
          try simp only [Act.put, List.setIfInBounds_toArray, List.set_cons_zero, List.set_cons_succ]
          refine' wpAnyH_take (i := 24) (oi := _) (v := _) rfl (by kernel_rfl) (by kernel_rfl) (by kernel_rfl) (fun _ _ _ h => h) (Or.inl ⟨?_, ?_⟩) (by assumption) ?_
          rotate_left
          all_goals (try simp only [List.getElem_toArray, List.getElem_cons_succ, List.getElem_cons_zero])
          · rfl
          · intro W hSw; (try dsimp only at hSw); go_simp; (try with_reducible rfl)
          try simp only [Act.put, List.setIfInBounds_toArray, List.set_cons_zero, List.set_cons_succ]
          refine' wpAnyH_take (i := 25) (oi := _) (v := _) rfl (by kernel_rfl) (by kernel_rfl) (by kernel_rfl) (fun _ _ _ h => h) (Or.inl ⟨?_, ?_⟩) (by assumption) ?_
          rotate_left
          all_goals (try simp only [List.getElem_toArray, List.getElem_cons_succ, List.getElem_cons_zero])
          · rfl
          · intro W hSw; (try dsimp only at hSw); go_simp; (try with_reducible rfl)
          try simp only [Act.put, List.setIfInBounds_toArray, List.set_cons_zero, List.set_cons_succ]
          refine' wpAnyH_take (i := 26) (oi := _) (v := _) rfl (by kernel_rfl) (by kernel_rfl) (by kernel_rfl) (fun _ _ _ h => h) (Or.inl ⟨?_, ?_⟩) (by assumption) ?_
          rotate_left
          all_goals (try simp only [List.getElem_toArray, List.getElem_cons_succ, List.getElem_cons_zero])
          · rfl
          · intro W hSw; (try dsimp only at hSw); go_simp; (try with_reducible rfl)
          try simp only [Act.put, List.setIfInBounds_toArray, List.set_cons_zero, List.set_cons_succ]
          refine' wpAnyH_take (i := 28) (oi := _) (v := _) rfl (by kernel_rfl) (by kernel_rfl) (by kernel_rfl) (fun _ _ _ h => h) (Or.inl ⟨?_, ?_⟩) (by assumption) ?_
          rotate_left
          all_goals (try simp only [List.getElem_toArray, List.getElem_cons_succ, List.getElem_cons_zero])
          · rfl
          · intro W hSw; (try dsimp only at hSw); go_simp; (try with_reducible rfl)
          try simp only [Act.put, List.setIfInBounds_toArray, List.set_cons_zero, List.set_cons_succ]
          refine' wpAnyH_take (i := 29) (oi := _) (v := _) rfl (by kernel_rfl) (by kernel_rfl) (by kernel_rfl) (fun _ _ _ h => h) (Or.inl ⟨?_, ?_⟩) (by assumption) ?_
          rotate_left
          all_goals (try simp only [List.getElem_toArray, List.getElem_cons_succ, List.getElem_cons_zero])
          · rfl
          · intro W hSw; (try dsimp only at hSw); go_simp; (try with_reducible rfl)
          try simp only [Act.put, List.setIfInBounds_toArray, List.set_cons_zero, List.set_cons_succ]
          refine' wpAnyH_take (i := 30) (oi := _) (v := _) rfl (by kernel_rfl) (by kernel_rfl) (by kernel_rfl) (fun _ _ _ h => h) (Or.inl ⟨?_, ?_⟩) (by assumption) ?_
          rotate_left
          all_goals (try simp only [List.getElem_toArray, List.getElem_cons_succ, List.getElem_cons_zero])
          · rfl
          · intro W hSw; (try dsimp only at hSw); go_simp; (try with_reducible rfl)
          try simp only [Act.put, List.setIfInBounds_toArray, List.set_cons_zero, List.set_cons_succ]
          refine wpAnyH_ready (rs := [27]) (by kernel_rfl) (by simp) ?_
          refine AllReadyH.cons (o := _) rfl (fun K hK => ?_) AllReadyH.nil
          try simp only [List.getElem_toArray, List.getElem_cons_succ, List.getElem_cons_zero]
          go_simp
          refine (len_of HC9.out (by decide)).mono ?_; rintro e WA ⟨rfl, rfl⟩; rw [HN4.out]
          go_wp2_with fail
          refine hK.out _ _ ⟨HX9.out, HY9.out⟩ (fun hHeld => ?_)
          clear hK K
          try simp only [Act.put, List.setIfInBounds_toArray, List.set_cons_zero, List.set_cons_succ]
          refine' wpAnyH_take (i := 31) (oi := _) (v := _) rfl (by kernel_rfl) (by kernel_rfl) (by kernel_rfl) (fun _ _ _ h => h) (Or.inl ⟨?_, ?_⟩) (by assumption) ?_
          rotate_left
          all_goals (try simp only [List.getElem_toArray, List.getElem_cons_succ, List.getElem_cons_zero])
          · rfl
          · intro W hSw; (try dsimp only at hSw); go_simp; (try with_reducible rfl)
          try simp only [Act.put, List.setIfInBounds_toArray, List.set_cons_zero, List.set_cons_succ]
          refine' wpAnyH_take (i := 32) (oi := _) (v := _) rfl (by kernel_rfl) (by kernel_rfl) (by kernel_rfl) (fun _ _ _ h => h) (Or.inl ⟨?_, ?_⟩) (by assumption) ?_
          rotate_left
          all_goals (try simp only [List.getElem_toArray, List.getElem_cons_succ, List.getElem_cons_zero])
          · rfl
          · intro W hSw; (try dsimp only at hSw); go_simp; (try with_reducible rfl)
          try simp only [Act.put, List.setIfInBounds_toArray, List.set_cons_zero, List.set_cons_succ]
          refine' wpAnyH_take (i := 33) (oi := _) (v := _) rfl (by kernel_rfl) (by kernel_rfl) (by kernel_rfl) (fun _ _ _ h => h) (Or.inl ⟨?_, ?_⟩) (by assumption) ?_
          rotate_left
          all_goals (try simp only [List.getElem_toArray, List.getElem_cons_succ, List.getElem_cons_zero])
          · rfl
          · intro W hSw; (try dsimp only at hSw); go_simp; (try with_reducible rfl)
          try simp only [Act.put, List.setIfInBounds_toArray, List.set_cons_zero, List.set_cons_succ]
          refine wpAnyH_done (by kernel_rfl) ?_ _
          go_wp2
          go_ret
          exact ⟨by simp [hw4], HB9.out⟩
        · try simp only [List.getElem_toArray, List.getElem_cons_succ, List.getElem_cons_zero]
          go_simp
          refine (sum_any g4 384 _ W8 HU8.out (by decide)).mono ?_; rintro e W9 ⟨⟨ad9, rfl, hs9, -⟩, hb9⟩; have HS9 := Lib.hid hs9; have HR8 := Lib.hid (HS8.out.below hb9); have HC9 := Lib.hid (HC8.out.below hb9 HC8.out.lt); have HX9 := Lib.hid (HX8.out.on hb9); have HY9 := Lib.hid (HY8.out.on hb9); have HB9 := Lib.hid (below_on HB8.out hb9); clear hs9 hb9
          go_wp2_with fail
          refine hK.out _ _ ⟨HX9.out, HY9.out⟩ (fun hHeld => ?_)
          clear hK K
          try simp only [Act.put, List.setIfInBounds_toArray, List.set_cons_zero, List.set_cons_succ]
          refine wpAnyH_ready (rs := [19, 22]) (by kernel_rfl) (by simp) ?_
          refine AllReadyH.cons (o := _) rfl (fun K hK => ?_) (AllReadyH.cons (o := _) rfl (fun K hK => ?_) AllReadyH.nil)
          · try simp only [List.getElem_toArray, List.getElem_cons_succ, List.getElem_cons_zero]
            have hc8 := convB (HR8.out.bts (hashN_lt _ _)); simp only [Nat.reduceDiv] at hc8
            go_simp
            refine hK.out _ _ ⟨HX9.out, HY9.out⟩ (fun hHeld => ?_)
            clear hK K
            try simp only [Act.put, List.setIfInBounds_toArray, List.set_cons_zero, List.set_cons_succ]
            refine wpAnyH_ready (rs := [22]) (by kernel_rfl) (by simp) ?_
            refine AllReadyH.cons (o := _) rfl (fun K hK => ?_) AllReadyH.nil
            try simp only [List.getElem_toArray, List.getElem_cons_succ, List.getElem_cons_zero]
            have hc9 := convB (HS9.out.bts (hashN_lt _ _)); simp only [Nat.reduceDiv] at hc9
            go_simp
            refine hK.out _ _ ⟨HX9.out, HY9.out⟩ (fun hHeld => ?_)
            clear hK K
            try simp only [Act.put, List.setIfInBounds_toArray, List.set_cons_zero, List.set_cons_succ]
            refine' wpAnyH_take (i := 23) (oi := _) (v := _) rfl (by kernel_rfl) (by kernel_rfl) (by kernel_rfl) (fun _ _ _ h => h) (Or.inl ⟨?_, ?_⟩) (by assumption) ?_
            rotate_left
            all_goals (try simp only [List.getElem_toArray, List.getElem_cons_succ, List.getElem_cons_zero])
            · rfl
            · intro W hSw; (try dsimp only at hSw); go_simp; (try with_reducible rfl)
            try simp only [Act.put, List.setIfInBounds_toArray, List.set_cons_zero, List.set_cons_succ]
            refine' wpAnyH_take (i := 24) (oi := _) (v := _) rfl (by kernel_rfl) (by kernel_rfl) (by kernel_rfl) (fun _ _ _ h => h) (Or.inl ⟨?_, ?_⟩) (by assumption) ?_
            rotate_left
            all_goals (try simp only [List.getElem_toArray, List.getElem_cons_succ, List.getElem_cons_zero])
            · rfl
            · intro W hSw; (try dsimp only at hSw); go_simp; (try with_reducible rfl)
            try simp only [Act.put, List.setIfInBounds_toArray, List.set_cons_zero, List.set_cons_succ]
            refine' wpAnyH_take (i := 25) (oi := _) (v := _) rfl (by kernel_rfl) (by kernel_rfl) (by kernel_rfl) (fun _ _ _ h => h) (Or.inl ⟨?_, ?_⟩) (by assumption) ?_
            rotate_left
            all_goals (try simp only [List.getElem_toArray, List.getElem_cons_succ, List.getElem_cons_zero])
            · rfl
            · intro W hSw; (try dsimp only at hSw); go_simp; (try with_reducible rfl)
            try simp only [Act.put, List.setIfInBounds_toArray, List.set_cons_zero, List.set_cons_succ]
            refine' wpAnyH_take (i := 26) (oi := _) (v := _) rfl (by kernel_rfl) (by kernel_rfl) (by kernel_rfl) (fun _ _ _ h => h) (Or.inl ⟨?_, ?_⟩) (by assumption) ?_
            rotate_left
            all_goals (try simp only [List.getElem_toArray, List.getElem_cons_succ, List.getElem_cons_zero])
            · rfl
            · intro W hSw; (try dsimp only at hSw); go_simp; (try with_reducible rfl)
            try simp only [Act.put, List.setIfInBounds_toArray, List.set_cons_zero, List.set_cons_succ]
            refine' wpAnyH_take (i := 28) (oi := _) (v := _) rfl (by kernel_rfl) (by kernel_rfl) (by kernel_rfl) (fun _ _ _ h => h) (Or.inl ⟨?_, ?_⟩) (by assumption) ?_
            rotate_left
            all_goals (try simp only [List.getElem_toArray, List.getElem_cons_succ, List.getElem_cons_zero])
            · rfl
            · intro W hSw; (try dsimp only at hSw); go_simp; (try with_reducible rfl)
            try simp only [Act.put, List.setIfInBounds_toArray, List.set_cons_zero, List.set_cons_succ]
            refine' wpAnyH_take (i := 29) (oi := _) (v := _) rfl (by kernel_rfl) (by kernel_rfl) (by kernel_rfl) (fun _ _ _ h => h) (Or.inl ⟨?_, ?_⟩) (by assumption) ?_
            rotate_left
            all_goals (try simp only [List.getElem_toArray, List.getElem_cons_succ, List.getElem_cons_zero])
            · rfl
            · intro W hSw; (try dsimp only at hSw); go_simp; (try with_reducible rfl)
            try simp only [Act.put, List.setIfInBounds_toArray, List.set_cons_zero, List.set_cons_succ]
            refine' wpAnyH_take (i := 30) (oi := _) (v := _) rfl (by kernel_rfl) (by kernel_rfl) (by kernel_rfl) (fun _ _ _ h => h) (Or.inl ⟨?_, ?_⟩) (by assumption) ?_
            rotate_left
            all_goals (try simp only [List.getElem_toArray, List.getElem_cons_succ, List.getElem_cons_zero])
            · rfl
            · intro W hSw; (try dsimp only at hSw); go_simp; (try with_reducible rfl)
            try simp only [Act.put, List.setIfInBounds_toArray, List.set_cons_zero, List.set_cons_succ]
            refine wpAnyH_ready (rs := [27]) (by kernel_rfl) (by simp) ?_
            refine AllReadyH.cons (o := _) rfl (fun K hK => ?_) AllReadyH.nil
            try simp only [List.getElem_toArray, List.getElem_cons_succ, List.getElem_cons_zero]
            go_simp
            refine (len_of HC9.out (by decide)).mono ?_; rintro e WA ⟨rfl, rfl⟩; rw [HN4.out]
            go_wp2_with fail
            refine hK.out _ _ ⟨HX9.out, HY9.out⟩ (fun hHeld => ?_)
            clear hK K
            try simp only [Act.put, List.setIfInBounds_toArray, List.set_cons_zero, List.set_cons_succ]
            refine' wpAnyH_take (i := 31) (oi := _) (v := _) rfl (by kernel_rfl) (by kernel_rfl) (by kernel_rfl) (fun _ _ _ h => h) (Or.inl ⟨?_, ?_⟩) (by assumption) ?_
            rotate_left
            all_goals (try simp only [List.getElem_toArray, List.getElem_cons_succ, List.getElem_cons_zero])
            · rfl
            · intro W hSw; (try dsimp only at hSw); go_simp; (try with_reducible rfl)
            try simp only [Act.put, List.setIfInBounds_toArray, List.set_cons_zero, List.set_cons_succ]
            refine' wpAnyH_take (i := 32) (oi := _) (v := _) rfl (by kernel_rfl) (by kernel_rfl) (by kernel_rfl) (fun _ _ _ h => h) (Or.inl ⟨?_, ?_⟩) (by assumption) ?_
            rotate_left
            all_goals (try simp only [List.getElem_toArray, List.getElem_cons_succ, List.getElem_cons_zero])
            · rfl
            · intro W hSw; (try dsimp only at hSw); go_simp; (try with_reducible rfl)
            try simp only [Act.put, List.setIfInBounds_toArray, List.set_cons_zero, List.set_cons_succ]
            refine' wpAnyH_take (i := 33) (oi := _) (v := _) rfl (by kernel_rfl) (by kernel_rfl) (by kernel_rfl) (fun _ _ _ h => h) (Or.inl ⟨?_, ?_⟩) (by assumption) ?_
            rotate_left
            all_goals (try simp only [List.getElem_toArray, List.getElem_cons_succ, List.getElem_cons_zero])
            · rfl
            · intro W hSw; (try dsimp only at hSw); go_simp; (try with_reducible rfl)
            try simp only [Act.put, List.setIfInBounds_toArray, List.set_cons_zero, List.set_cons_succ]
            refine wpAnyH_done (by kernel_rfl) ?_ _
            go_wp2
            go_ret
            exact ⟨by simp [hw4], HB9.out⟩
          · try simp only [List.getElem_toArray, List.getElem_cons_succ, List.getElem_cons_zero]
            have hc9 := convB (HS9.out.bts (hashN_lt _ _)); simp only [Nat.reduceDiv] at hc9
            go_simp
            refine hK.out _ _ ⟨HX9.out, HY9.out⟩ (fun hHeld => ?_)
            clear hK K
            try simp only [Act.put, List.setIfInBounds_toArray, List.set_cons_zero, List.set_cons_succ]
            refine wpAnyH_ready (rs := [19]) (by kernel_rfl) (by simp) ?_
            refine AllReadyH.cons (o := _) rfl (fun K hK => ?_) AllReadyH.nil
            try simp only [List.getElem_toArray, List.getElem_cons_succ, List.getElem_cons_zero]
            have hc8 := convB (HR8.out.bts (hashN_lt _ _)); simp only [Nat.reduceDiv] at hc8
            go_simp
            refine hK.out _ _ ⟨HX9.out, HY9.out⟩ (fun hHeld => ?_)
            clear hK K
            try simp only [Act.put, List.setIfInBounds_toArray, List.set_cons_zero, List.set_cons_succ]
            refine' wpAnyH_take (i := 23) (oi := _) (v := _) rfl (by kernel_rfl) (by kernel_rfl) (by kernel_rfl) (fun _ _ _ h => h) (Or.inl ⟨?_, ?_⟩) (by assumption) ?_
            rotate_left
            all_goals (try simp only [List.getElem_toArray, List.getElem_cons_succ, List.getElem_cons_zero])
            · rfl
            · intro W hSw; (try dsimp only at hSw); go_simp; (try with_reducible rfl)
            try simp only [Act.put, List.setIfInBounds_toArray, List.set_cons_zero, List.set_cons_succ]
            refine' wpAnyH_take (i := 24) (oi := _) (v := _) rfl (by kernel_rfl) (by kernel_rfl) (by kernel_rfl) (fun _ _ _ h => h) (Or.inl ⟨?_, ?_⟩) (by assumption) ?_
            rotate_left
            all_goals (try simp only [List.getElem_toArray, List.getElem_cons_succ, List.getElem_cons_zero])
            · rfl
            · intro W hSw; (try dsimp only at hSw); go_simp; (try with_reducible rfl)
            try simp only [Act.put, List.setIfInBounds_toArray, List.set_cons_zero, List.set_cons_succ]
            refine' wpAnyH_take (i := 25) (oi := _) (v := _) rfl (by kernel_rfl) (by kernel_rfl) (by kernel_rfl) (fun _ _ _ h => h) (Or.inl ⟨?_, ?_⟩) (by assumption) ?_
            rotate_left
            all_goals (try simp only [List.getElem_toArray, List.getElem_cons_succ, List.getElem_cons_zero])
            · rfl
            · intro W hSw; (try dsimp only at hSw); go_simp; (try with_reducible rfl)
            try simp only [Act.put, List.setIfInBounds_toArray, List.set_cons_zero, List.set_cons_succ]
            refine' wpAnyH_take (i := 26) (oi := _) (v := _) rfl (by kernel_rfl) (by kernel_rfl) (by kernel_rfl) (fun _ _ _ h => h) (Or.inl ⟨?_, ?_⟩) (by assumption) ?_
            rotate_left
            all_goals (try simp only [List.getElem_toArray, List.getElem_cons_succ, List.getElem_cons_zero])
            · rfl
            · intro W hSw; (try dsimp only at hSw); go_simp; (try with_reducible rfl)
            try simp only [Act.put, List.setIfInBounds_toArray, List.set_cons_zero, List.set_cons_succ]
            refine' wpAnyH_take (i := 28) (oi := _) (v := _) rfl (by kernel_rfl) (by kernel_rfl) (by kernel_rfl) (fun _ _ _ h => h) (Or.inl ⟨?_, ?_⟩) (by assumption) ?_
            rotate_left
            all_goals (try simp only [List.getElem_toArray, List.getElem_cons_succ, List.getElem_cons_zero])
            · rfl
            · intro W hSw; (try dsimp only at hSw); go_simp; (try with_reducible rfl)
            try simp only [Act.put, List.setIfInBounds_toArray, List.set_cons_zero, List.set_cons_succ]
            refine' wpAnyH_take (i := 29) (oi := _) (v := _) rfl (by kernel_rfl) (by kernel_rfl) (by kernel_rfl) (fun _ _ _ h => h) (Or.inl ⟨?_, ?_⟩) (by assumption) ?_
            rotate_left
            all_goals (try simp only [List.getElem_toArray, List.getElem_cons_succ, List.getElem_cons_zero])
            · rfl
            · intro W hSw; (try dsimp only at hSw); go_simp; (try with_reducible rfl)
            try simp only [Act.put, List.setIfInBounds_toArray, List.set_cons_zero, List.set_cons_succ]
            refine' wpAnyH_take (i := 30) (oi := _) (v := _) rfl (by kernel_rfl) (by kernel_rfl) (by kernel_rfl) (fun _ _ _ h => h) (Or.inl ⟨?_, ?_⟩) (by assumption) ?_
            rotate_left
            all_goals (try simp only [List.getElem_toArray, List.getElem_cons_succ, List.getElem_cons_zero])
            · rfl
            · intro W hSw; (try dsimp only at hSw); go_simp; (try with_reducible rfl)
            try simp only [Act.put, List.setIfInBounds_toArray, List.set_cons_zero, List.set_cons_succ]
            refine wpAnyH_ready (rs := [27]) (by kernel_rfl) (by simp) ?_
            refine AllReadyH.cons (o := _) rfl (fun K hK => ?_) AllReadyH.nil
            try simp only [List.getElem_toArray, List.getElem_cons_succ, List.getElem_cons_zero]
            go_simp
            refine (len_of HC9.out (by decide)).mono ?_; rintro e WA ⟨rfl, rfl⟩; rw [HN4.out]
            go_wp2_with fail
            refine hK.out _ _ ⟨HX9.out, HY9.out⟩ (fun hHeld => ?_)
            clear hK K
            try simp only [Act.put, List.setIfInBounds_toArray, List.set_cons_zero, List.set_cons_succ]
            refine' wpAnyH_take (i := 31) (oi := _) (v := _) rfl (by kernel_rfl) (by kernel_rfl) (by kernel_rfl) (fun _ _ _ h => h) (Or.inl ⟨?_, ?_⟩) (by assumption) ?_
            rotate_left
            all_goals (try simp only [List.getElem_toArray, List.getElem_cons_succ, List.getElem_cons_zero])
            · rfl
            · intro W hSw; (try dsimp only at hSw); go_simp; (try with_reducible rfl)
            try simp only [Act.put, List.setIfInBounds_toArray, List.set_cons_zero, List.set_cons_succ]
            refine' wpAnyH_take (i := 32) (oi := _) (v := _) rfl (by kernel_rfl) (by kernel_rfl) (by kernel_rfl) (fun _ _ _ h => h) (Or.inl ⟨?_, ?_⟩) (by assumption) ?_
            rotate_left
            all_goals (try simp only [List.getElem_toArray, List.getElem_cons_succ, List.getElem_cons_zero])
            · rfl
            · intro W hSw; (try dsimp only at hSw); go_simp; (try with_reducible rfl)
            try simp only [Act.put, List.setIfInBounds_toArray, List.set_cons_zero, List.set_cons_succ]
            refine' wpAnyH_take (i := 33) (oi := _) (v := _) rfl (by kernel_rfl) (by kernel_rfl) (by kernel_rfl) (fun _ _ _ h => h) (Or.inl ⟨?_, ?_⟩) (by assumption) ?_
            rotate_left
            all_goals (try simp only [List.getElem_toArray, List.getElem_cons_succ, List.getElem_cons_zero])
            · rfl
            · intro W hSw; (try dsimp only at hSw); go_simp; (try with_reducible rfl)
            try simp only [Act.put, List.setIfInBounds_toArray, List.set_cons_zero, List.set_cons_succ]
            refine wpAnyH_done (by kernel_rfl) ?_ _
            go_wp2
            go_ret
            exact ⟨by simp [hw4], HB9.out⟩

set_option maxHeartbeats 8000000 in
set_option maxRecDepth 100000 in
theorem copies512_walk (a a2 a3 : Option Addr) (n c n2 c2 n3 c3 : Nat) (l l2 l3 : List Nat) (w : World) (hr : Reads .u8 w a n c l) (hl : Byt l) (hr2 : Reads .u8 w a2 n2 c2 l2) (hl2 : Byt l2) (hr3 : Reads .u8 w a3 n3 c3 l3) (hl3 : Byt l3) :
    Calls Try.prog 6 #[.bool true, .slice a n c, .slice a2 n2 c2, .slice a3 n3 c3] w fun e w' => e = .returned (.bool true) ∧ Below w.heap.size w w' := by
  obtain ⟨i0, hi, hz0, hz1, hz2⟩ := info_parts infoB
  have HR := Lib.hid hr
  have HR2 := Lib.hid hr2
  have HR3 := Lib.hid hr3
  have HL := Lib.hid hl
  have HL2 := Lib.hid hl2
  have HL3 := Lib.hid hl3
  have HNL := Lib.hid hr.length
  have HNL2 := Lib.hid hr2.length
  have HNL3 := Lib.hid hr3.length
  have hmx := hr.len_le
  have hmx2 := hr2.len_le
  have hmx3 := hr3.len_le
  unfold maxLen at hmx hmx2 hmx3
  clear hr hl hr2 hl2 hr3 hl3
  go_enter Try.func6, Try.ntmps6
  go_wp2_with fail
  refine (alive_any w).mono ?_
  rintro e w1 ⟨rfl, h1⟩
  have H1 := Lib.hid h1
  clear h1
  by_cases hbig : 1000 < n
  · have d1 : decide ((1000 : Int) < (n : Int)) = true := by simp; omega
    go_wp2
    go_ret
    exact ⟨rfl, H1.out⟩
  · have d1 : decide ((1000 : Int) < (n : Int)) = false := by simp; omega
    by_cases hbig2 : 1000 < n2
    · have d2 : decide ((1000 : Int) < (n2 : Int)) = true := by simp; omega
      go_wp2
      go_ret
      exact ⟨rfl, H1.out⟩
    · have d2 : decide ((1000 : Int) < (n2 : Int)) = false := by simp; omega
      by_cases hbig3 : 1000 < n3
      · have d3 : decide ((1000 : Int) < (n3 : Int)) = true := by simp; omega
        go_wp2
        go_ret
        exact ⟨rfl, H1.out⟩
      · have d3 : decide ((1000 : Int) < (n3 : Int)) = false := by simp; omega
        go_wp2_with fail
        refine (state512_any false _ _ _ _ _ _ _ _ w1 (HR.out.below H1.out) HL.out (by omega) (Reads.none _ _) nilB).mono ?_
        rintro e w2 ⟨rfl, hs2, hb2⟩
        have HS2 := Lib.hid hs2
        have HB2 := Lib.hid (below_on H1.out hb2)
        clear hs2 hb2
        go_wp2_with fail
        refine (HS2.out.copy (by decide)).mono ?_
        rintro e w3 ⟨rfl, hs3, hb3⟩
        have HT3 := Lib.hid (show Two w w3 w1.heap.size w2.heap.size 512 l l from ⟨HS2.out.below hb3 HS2.out.lt, hs3, below_on HB2.out hb3⟩)
        have hg1 := H1.out.size
        have hg2 := HS2.out.lt
        clear hs3 hb3
        generalize w1.heap.size = g1 at *
        generalize w2.heap.size = g2 at *
        have hne : Hid (g1 ≠ g2) := Nat.ne_of_lt hg2
        have hle1 : Hid (w.heap.size ≤ g1) := hg1
        have hle2 : Hid (w.heap.size ≤ g2) := Nat.le_trans hg1 (Nat.le_of_lt hg2)
        clear hg1 hg2
        go_wp2_with fail
        refine (HT3.out.write1 hne.out hle1.out (by decide) _ _ _ l2 (HR2.out.below HT3.out.below) HL2.out (by have := HNL.out; omega) (reads_block HR2.out hle1.out)).mono ?_
        rintro e w4 ⟨rfl, ht4, -⟩
        have HT4 := Lib.hid ht4
        clear ht4
        go_wp2_with fail
        refine (HT4.out.write2 hne.out hle2.out (by decide) _ _ _ l3 (HR3.out.below HT4.out.below) HL3.out (by have := HNL.out; omega) (reads_block HR3.out hle2.out)).mono ?_
        rintro e w5 ⟨rfl, ht5, -⟩
        have HT5 := Lib.hid ht5
        have HB5 := Lib.hid ht5.below
        clear ht5
        obtain ⟨N3, hN3⟩ : ∃ N, (l ++ l2).length = N := ⟨_, rfl⟩
        obtain ⟨N4, hN4⟩ : ∃ N, (l ++ l3).length = N := ⟨_, rfl⟩
        have hN3b : N3 ≤ 2000 := by have := HNL.out; have := HNL2.out; rw [← hN3, List.length_append]; omega
        have hN4b : N4 ≤ 2000 := by have := HNL.out; have := HNL3.out; rw [← hN4, List.length_append]; omega
        have hw4 : IntKind.u64.wrap (N4 : Int) = (N4 : Int) := by simp [IntKind.wrap, IntKind.bits, IntKind.signed]; omega
        have HN3 := Lib.hid hN3
        have HN4 := Lib.hid hN4
        clear hN3 hN4
        go_wp2_with (at_builtin; first | (refine wpList_append_q .u8 _ rfl (.tmp 50) (.tmp 51) 23 rfl w5.heap.size 5 1 i0 Try.underlying23 hi hz0 hz1 hz2 (by decide) _ [] rfl (OwnQ.empty _ _ _ _ (Nat.le_refl _)) _ _ _ l rfl ((HR.out.below HB5.out).below ((Below.refl _ _).alloc (Nat.le_refl _) _)) (by simp; omega) (by simp) ?_; intro v6 w6 hown6 hgrow6; rw [List.nil_append] at hown6; have HO6 := Lib.hid hown6; have HG6 := Lib.hid (hgrow6 _ ((Below.refl _ _).alloc (Nat.le_refl _) _)); clear hown6 hgrow6) | (refine wpList_append_q .u8 _ rfl (.tmp 52) (.tmp 53) 23 rfl w5.heap.size 5 1 i0 Try.underlying23 hi hz0 hz1 hz2 (by decide) _ l rfl HO6.out _ _ _ l2 rfl ((HR2.out.below HB5.out).below HG6.out) (by have := HNL.out; omega) HG6.out.size ?_; intro u6 x6 hown26 hgrow26; obtain ⟨a6, cc6, e6, hf6, -⟩ := hown26.form; rw [HN3.out] at e6 hf6; subst e6; have HP6 := Lib.hid hf6; have HH6 := Lib.hid (hgrow26 _ HG6.out); have HZ6 := Lib.hid (below_on HB5.out HH6.out); clear hown26 hgrow26 hf6) | (refine wpList_append_q .u8 _ rfl (.tmp 55) (.tmp 56) 23 rfl x6.heap.size 5 1 i0 Try.underlying23 hi hz0 hz1 hz2 (by decide) _ [] rfl (OwnQ.empty _ _ _ _ (Nat.le_refl _)) _ _ _ l rfl ((HR.out.below HZ6.out).below ((Below.refl _ _).alloc (Nat.le_refl _) _)) (by simp; omega) (by simp) ?_; intro v7 w7 hown7 hgrow7; rw [List.nil_append] at hown7; have HO7 := Lib.hid hown7; have HG7 := Lib.hid (hgrow7 _ ((Below.refl _ _).alloc (Nat.le_refl _) _)); clear hown7 hgrow7) | (refine wpList_append_q .u8 _ rfl (.tmp 57) (.tmp 58) 23 rfl x6.heap.size 5 1 i0 Try.underlying23 hi hz0 hz1 hz2 (by decide) _ l rfl HO7.out _ _ _ l3 rfl ((HR3.out.below HZ6.out).below HG7.out) (by have := HNL.out; omega) HG7.out.size ?_; intro u7 x7 hown27 hgrow27; obtain ⟨a7, cc7, e7, hf7, -⟩ := hown27.form; rw [HN4.out] at e7 hf7; subst e7; have HP7 := Lib.hid hf7; have HH7 := Lib.hid (hgrow27 _ HG7.out); have HZ7 := Lib.hid (below_on HZ6.out HH7.out); clear hown27 hgrow27 hf7))
        refine (state512_any false _ _ _ _ _ _ _ _ x7 (HP6.out.below HH7.out) (byt_app HL.out HL2.out) (by omega) (Reads.none _ _) nilB).mono ?_
        rintro e y1 ⟨rfl, hs8, hb8⟩
        have HT8 := Lib.hid (HT5.out.on (below_on (below_on HH6.out HH7.out) hb8))
        have HT6' := Lib.hid hs8
        have HP8 := Lib.hid (HP7.out.below hb8)
        clear hs8 hb8
        generalize x7.heap.size = g3 at *
        go_wp2_with fail
        refine (state512_any false _ _ _ _ _ _ _ _ y1 HP8.out (byt_app HL.out HL3.out) (by omega) (Reads.none _ _) nilB).mono ?_
        rintro e y2 ⟨rfl, hs9, hb9⟩
        have HT9 := Lib.hid (HT8.out.on hb9)
        have HTT := Lib.hid (HT6'.out.below hb9 HT6'.out.lt)
        have HUU := Lib.hid hs9
        clear hs9 hb9
        generalize y1.heap.size = g4 at *
        go_wp2_with fail
        refine (HT9.out.sum1 (by decide)).mono ?_
        rintro e y3 ⟨⟨adx, rfl, hsx⟩, htx, hbx⟩
        have HXX := Lib.hid hsx
        have HTX := Lib.hid htx
        have HTT2 := Lib.hid (HTT.out.below hbx HTT.out.lt)
        have HUU2 := Lib.hid (HUU.out.below hbx HUU.out.lt)
        clear hsx htx hbx
        go_wp2_with fail
        refine (HTX.out.sum1 (by decide)).mono ?_
        rintro e W ⟨⟨ady, rfl, hsy⟩, hty, hby⟩
        have HY := Lib.hid hsy
        have HX := Lib.hid (HXX.out.on hby)
        have HC6 := Lib.hid hty.drew.two
        have HBW := Lib.hid hty.drew.below
        have HT6 := Lib.hid (StateOf.below (HTT2.out.below hby HTT2.out.lt) (Below.refl W.heap.size W).drew (HTT2.out.below hby HTT2.out.lt).lt)
        have HU6 := Lib.hid (StateOf.below (HUU2.out.below hby HUU2.out.lt) (Below.refl W.heap.size W).drew (HUU2.out.below hby HUU2.out.lt).lt)
        clear hsy hty hby
        go_wp2_with fail
        refine wp_region_held_drew (S := fun W => SumAt w W adx 512 (l ++ l2) ∧ SumAt w W ady 512 (l ++ l2)) (by kernel_rfl) ⟨HX.out.on (Below.refl _ _).drew, HY.out.on (Below.refl _ _).drew⟩ (fun hHeld => ?_)
        refine' wpAnyH_take (i := 0) (oi := _) (v := _) rfl (by kernel_rfl) (by kernel_rfl) (by kernel_rfl) (fun _ _ _ h => h) (Or.inl ⟨?_, ?_⟩) (by assumption) ?_
        rotate_left
        all_goals (try simp only [List.getElem_toArray, List.getElem_cons_succ, List.getElem_cons_zero])
        · rfl
        · intro W hSw; (try dsimp only at hSw); go_simp; (try with_reducible rfl)
        try simp only [Act.put, List.setIfInBounds_toArray, List.set_cons_zero, List.set_cons_succ]
        refine' wpAnyH_take (i := 1) (oi := _) (v := _) rfl (by kernel_rfl) (by kernel_rfl) (by kernel_rfl) (fun _ _ _ h => h) (Or.inl ⟨?_, ?_⟩) (by assumption) ?_
        rotate_left
        all_goals (try simp only [List.getElem_toArray, List.getElem_cons_succ, List.getElem_cons_zero])
        · rfl
        · intro W hSw; (try dsimp only at hSw); go_simp; (try with_reducible rfl)
        try simp only [Act.put, List.setIfInBounds_toArray, List.set_cons_zero, List.set_cons_succ]
        refine' wpAnyH_take (i := 2) (oi := _) (v := _) rfl (by kernel_rfl) (by kernel_rfl) (by kernel_rfl) (fun _ _ _ h => h) (Or.inl ⟨?_, ?_⟩) (by assumption) ?_
        rotate_left
        all_goals (try simp only [List.getElem_toArray, List.getElem_cons_succ, List.getElem_cons_zero])
        · rfl
        · intro W hSw; (try dsimp only at hSw); go_simp; (try with_reducible rfl)
        try simp only [Act.put, List.setIfInBounds_toArray, List.set_cons_zero, List.set_cons_succ]
        refine' wpAnyH_take (i := 3) (oi := _) (v := _) rfl (by kernel_rfl) (by kernel_rfl) (by kernel_rfl) (fun _ _ _ h => h) (Or.inl ⟨?_, ?_⟩) (by assumption) ?_
        rotate_left
        all_goals (try simp only [List.getElem_toArray, List.getElem_cons_succ, List.getElem_cons_zero])
        · rfl
        · intro W hSw; (try dsimp only at hSw); have hcx := hSw.1.conv; simp only [Nat.reduceDiv] at hcx; go_simp; (try with_reducible rfl)
        try simp only [Act.put, List.setIfInBounds_toArray, List.set_cons_zero, List.set_cons_succ]
        refine' wpAnyH_take (i := 4) (oi := _) (v := _) rfl (by kernel_rfl) (by kernel_rfl) (by kernel_rfl) (fun _ _ _ h => h) (Or.inl ⟨?_, ?_⟩) (by assumption) ?_
        rotate_left
        all_goals (try simp only [List.getElem_toArray, List.getElem_cons_succ, List.getElem_cons_zero])
        · rfl
        · intro W hSw; (try dsimp only at hSw); go_simp; (try with_reducible rfl)
        try simp only [Act.put, List.setIfInBounds_toArray, List.set_cons_zero, List.set_cons_succ]
        refine wpAnyH_ready (rs := [5]) (by kernel_rfl) (by simp) ?_
        refine AllReadyH.cons (o := _) rfl (fun K hK => ?_) AllReadyH.nil
        try simp only [List.getElem_toArray, List.getElem_cons_succ, List.getElem_cons_zero]
        go_simp
        refine (sum_any g3 512 _ _ HT6.out (by decide)).mono ?_; rintro e W7 ⟨⟨ad7, rfl, hs7, -⟩, hb7⟩; have HS7 := Lib.hid hs7; have HC7 := Lib.hid (HC6.out.below hb7 HC6.out.lt); have HU7 := Lib.hid (HU6.out.below hb7 HU6.out.lt); have HX7 := Lib.hid (HX.out.on (below_on (Below.refl _ _).drew hb7)); have HY7 := Lib.hid (HY.out.on (below_on (Below.refl _ _).drew hb7)); have HB7 := Lib.hid (below_on HBW.out hb7); clear hs7 hb7
        go_wp2_with fail
        refine hK.out _ _ ⟨HX7.out, HY7.out⟩ (fun hHeld => ?_)
        clear hK K
        try simp only [Act.put, List.setIfInBounds_toArray, List.set_cons_zero, List.set_cons_succ]
        have hc7 := convB (HS7.out.bts (hashN_lt _ _))
        simp only [Nat.reduceDiv] at hc7
        refine wpAnyH_ready (rs := [6]) (by kernel_rfl) (by simp) ?_
        refine AllReadyH.cons (o := _) rfl (fun K hK => ?_) AllReadyH.nil
        try simp only [List.getElem_toArray, List.getElem_cons_succ, List.getElem_cons_zero]
        go_simp
        refine hK.out _ _ ⟨HX7.out, HY7.out⟩ (fun hHeld => ?_)
        clear hK K
        try simp only [Act.put, List.setIfInBounds_toArray, List.set_cons_zero, List.set_cons_succ]
        clear hc7
        refine' wpAnyH_take (i := 7) (oi := _) (v := _) rfl (by kernel_rfl) (by kernel_rfl) (by kernel_rfl) (fun _ _ _ h => h) (Or.inl ⟨?_, ?_⟩) (by assumption) ?_
        rotate_left
        all_goals (try simp only [List.getElem_toArray, List.getElem_cons_succ, List.getElem_cons_zero])
        · rfl
        · intro W hSw; (try dsimp only at hSw); go_simp; (try with_reducible rfl)
        try simp only [Act.put, List.setIfInBounds_toArray, List.set_cons_zero, List.set_cons_succ]
        refine' wpAnyH_take (i := 8) (oi := _) (v := _) rfl (by kernel_rfl) (by kernel_rfl) (by kernel_rfl) (fun _ _ _ h => h) (Or.inl ⟨?_, ?_⟩) (by assumption) ?_
        rotate_left
        all_goals (try simp only [List.getElem_toArray, List.getElem_cons_succ, List.getElem_cons_zero])
        · rfl
        · intro W hSw; (try dsimp only at hSw); go_simp; (try with_reducible rfl)
        try simp only [Act.put, List.setIfInBounds_toArray, List.set_cons_zero, List.set_cons_succ]
        refine' wpAnyH_take (i := 9) (oi := _) (v := _) rfl (by kernel_rfl) (by kernel_rfl) (by kernel_rfl) (fun _ _ _ h => h) (Or.inl ⟨?_, ?_⟩) (by assumption) ?_
        rotate_left
        all_goals (try simp only [List.getElem_toArray, List.getElem_cons_succ, List.getElem_cons_zero])
        · rfl
        · intro W hSw; (try dsimp only at hSw); go_simp; (try with_reducible rfl)
        try simp only [Act.put, List.setIfInBounds_toArray, List.set_cons_zero, List.set_cons_succ]
        refine' wpAnyH_take (i := 10) (oi := _) (v := _) rfl (by kernel_rfl) (by kernel_rfl) (by kernel_rfl) (fun _ _ _ h => h) (Or.inl ⟨?_, ?_⟩) (by assumption) ?_
        rotate_left
        all_goals (try simp only [List.getElem_toArray, List.getElem_cons_succ, List.getElem_cons_zero])
        · rfl
        · intro W hSw; (try dsimp only at hSw); go_simp; (try with_reducible rfl)
        try simp only [Act.put, List.setIfInBounds_toArray, List.set_cons_zero, List.set_cons_succ]
        refine' wpAnyH_take (i := 11) (oi := _) (v := _) rfl (by kernel_rfl) (by kernel_rfl) (by kernel_rfl) (fun _ _ _ h => h) (Or.inl ⟨?_, ?_⟩) (by assumption) ?_
        rotate_left
        all_goals (try simp only [List.getElem_toArray, List.getElem_cons_succ, List.getElem_cons_zero])
        · rfl
        · intro W hSw; (try dsimp only at hSw); have hcx := hSw.2.conv; simp only [Nat.reduceDiv] at hcx; go_simp; (try with_reducible rfl)
        try simp only [Act.put, List.setIfInBounds_toArray, List.set_cons_zero, List.set_cons_succ]
        refine' wpAnyH_take (i := 12) (oi := _) (v := _) rfl (by kernel_rfl) (by kernel_rfl) (by kernel_rfl) (fun _ _ _ h => h) (Or.inl ⟨?_, ?_⟩) (by assumption) ?_
        rotate_left
        all_goals (try simp only [List.getElem_toArray, List.getElem_cons_succ, List.getElem_cons_zero])
        · rfl
        · intro W hSw; (try dsimp only at hSw); go_simp; (try with_reducible rfl)
        try simp only [Act.put, List.setIfInBounds_toArray, List.set_cons_zero, List.set_cons_succ]
        refine' wpAnyH_take (i := 13) (oi := _) (v := _) rfl (by kernel_rfl) (by kernel_rfl) (by kernel_rfl) (fun _ _ _ h => h) (Or.inl ⟨?_, ?_⟩) (by assumption) ?_
        rotate_left
        all_goals (try simp only [List.getElem_toArray, List.getElem_cons_succ, List.getElem_cons_zero])
        · rfl
        · intro W hSw; (try dsimp only at hSw); have hcx := hSw.1.conv; simp only [Nat.reduceDiv] at hcx; go_simp; (try with_reducible rfl)
        try simp only [Act.put, List.setIfInBounds_toArray, List.set_cons_zero, List.set_cons_succ]
        refine' wpAnyH_take (i := 14) (oi := _) (v := _) rfl (by kernel_rfl) (by kernel_rfl) (by kernel_rfl) (fun _ _ _ h => h) (Or.inl ⟨?_, ?_⟩) (by assumption) ?_
        rotate_left
        all_goals (try simp only [List.getElem_toArray, List.getElem_cons_succ, List.getElem_cons_zero])
        · rfl
        · intro W hSw; (try dsimp only at hSw); go_simp; (try with_reducible rfl)
        try simp only [Act.put, List.setIfInBounds_toArray, List.set_cons_zero, List.set_cons_succ]
        refine' wpAnyH_take (i := 15) (oi := _) (v := _) rfl (by kernel_rfl) (by kernel_rfl) (by kernel_rfl) (fun _ _ _ h => h) (Or.inl ⟨?_, ?_⟩) (by assumption) ?_
        rotate_left
        all_goals (try simp only [List.getElem_toArray, List.getElem_cons_succ, List.getElem_cons_zero])
        · rfl
        · intro W hSw; (try dsimp only at hSw); go_simp; (try with_reducible rfl)
        try simp only [Act.put, List.setIfInBounds_toArray, List.set_cons_zero, List.set_cons_succ]
        refine' wpAnyH_take (i := 16) (oi := _) (v := _) rfl (by kernel_rfl) (by kernel_rfl) (by kernel_rfl) (fun _ _ _ h => h) (Or.inl ⟨?_, ?_⟩) (by assumption) ?_
        rotate_left
        all_goals (try simp only [List.getElem_toArray, List.getElem_cons_succ, List.getElem_cons_zero])
        · rfl
        · intro W hSw; (try dsimp only at hSw); go_simp; (try with_reducible rfl)
        try simp only [Act.put, List.setIfInBounds_toArray, List.set_cons_zero, List.set_cons_succ]
        refine' wpAnyH_take (i := 17) (oi := _) (v := _) rfl (by kernel_rfl) (by kernel_rfl) (by kernel_rfl) (fun _ _ _ h => h) (Or.inl ⟨?_, ?_⟩) (by assumption) ?_
        rotate_left
        all_goals (try simp only [List.getElem_toArray, List.getElem_cons_succ, List.getElem_cons_zero])
        · rfl
        · intro W hSw; (try dsimp only at hSw); go_simp; (try with_reducible rfl)
        try simp only [Act.put, List.setIfInBounds_toArray, List.set_cons_zero, List.set_cons_succ]
        refine' wpAnyH_take (i := 20) (oi := _) (v := _) rfl (by kernel_rfl) (by kernel_rfl) (by kernel_rfl) (fun _ _ _ h => h) (Or.inl ⟨?_, ?_⟩) (by assumption) ?_
        rotate_left
        all_goals (try simp only [List.getElem_toArray, List.getElem_cons_succ, List.getElem_cons_zero])
        · rfl
        · intro W hSw; (try dsimp only at hSw); go_simp; (try with_reducible rfl)
        try simp only [Act.put, List.setIfInBounds_toArray, List.set_cons_zero, List.set_cons_succ]
        refine wpAnyH_ready (rs := [18]) (by kernel_rfl) (by simp) ?_
        refine AllReadyH.cons (o := _) rfl (fun K hK => ?_) AllReadyH.nil
        try simp only [List.getElem_toArray, List.getElem_cons_succ, List.getElem_cons_zero]
        go_simp
        refine (sum_any g2 512 _ W7 HC7.out (by decide)).mono ?_; rintro e W8 ⟨⟨ad8, rfl, hs8, -⟩, hb8⟩; have HS8 := Lib.hid hs8; have HC8 := Lib.hid (HC7.out.below hb8 HC7.out.lt); have HU8 := Lib.hid (HU7.out.below hb8 HU7.out.lt); have HX8 := Lib.hid (HX7.out.on hb8); have HY8 := Lib.hid (HY7.out.on hb8); have HB8 := Lib.hid (below_on HB7.out hb8); clear hs8 hb8
        go_wp2_with fail
        refine hK.out _ _ ⟨HX8.out, HY8.out⟩ (fun hHeld => ?_)
        clear hK K
        try simp only [Act.put, List.setIfInBounds_toArray, List.set_cons_zero, List.set_cons_succ]
        refine wpAnyH_ready (rs := [19, 21]) (by kernel_rfl) (by simp) ?_
        refine AllReadyH.cons (o := _) rfl (fun K hK => ?_) (AllReadyH.cons (o := _) rfl (fun K hK => ?_) AllReadyH.nil)
        · try simp only [List.getElem_toArray, List.getElem_cons_succ, List.getElem_cons_zero]
          have hc8 := convB (HS8.out.bts (hashN_lt _ _)); simp only [Nat.reduceDiv] at hc8
          go_simp
          refine hK.out _ _ ⟨HX8.out, HY8.out⟩ (fun hHeld => ?_)
          clear hK K
          try simp only [Act.put, List.setIfInBounds_toArray, List.set_cons_zero, List.set_cons_succ]
          clear hc8
          refine wpAnyH_ready (rs := [21]) (by kernel_rfl) (by simp) ?_
          refine AllReadyH.cons (o := _) rfl (fun K hK => ?_) AllReadyH.nil
          try simp only [List.getElem_toArray, List.getElem_cons_succ, List.getElem_cons_zero]
          go_simp
          refine (sum_any g4 512 _ W8 HU8.out (by decide)).mono ?_; rintro e W9 ⟨⟨ad9, rfl, hs9, -⟩, hb9⟩; have HS9 := Lib.hid hs9; have HR8 := Lib.hid (HS8.out.below hb9); have HC9 := Lib.hid (HC8.out.below hb9 HC8.out.lt); have HX9 := Lib.hid (HX8.out.on hb9); have HY9 := Lib.hid (HY8.out.on hb9); have HB9 := Lib.hid (below_on HB8.out hb9); clear hs9 hb9
          go_wp2_with fail
          refine hK.out _ _ ⟨HX9.out, HY9.out⟩ (fun hHeld => ?_)
          clear hK K
          try simp only [Act.put, List.setIfInBounds_toArray, List.set_cons_zero, List.set_cons_succ]
          refine wpAnyH_ready (rs := [22]) (by kernel_rfl) (by simp) ?_
          refine AllReadyH.cons (o := _) rfl (fun K hK => ?_) AllReadyH.nil
          try simp only [List.getElem_toArray, List.getElem_cons_succ, List.getElem_cons_zero]
          have hc9 := convB (HS9.out.bts (hashN_lt _ _)); simp only [Nat.reduceDiv] at hc9
          go_simp
          refine hK.out _ _ ⟨HX9.out, HY9.out⟩ (fun hHeld => ?_)
          clear hK K
          try simp only [Act.put, List.setIfInBounds_toArray, List.set_cons_zero, List.set_cons_succ]
          refine' wpAnyH_take (i := 23) (oi := _) (v := _) rfl (by kernel_rfl) (by kernel_rfl) (by kernel_rfl) (fun _ _ _ h => h) (Or.inl ⟨?_, ?_⟩) (by assumption) ?_
          rotate_left
          all_goals (try simp only [List.getElem_toArray, List.getElem_cons_succ, List.getElem_cons_zero])
          · rfl
          · intro W hSw; (try dsimp only at hSw); go_simp; (try with_reducible rfl)
          try simp only [Act.put, List.setIfInBounds_toArray, List.set_cons_zero, List.set_cons_succ]
          refine' wpAnyH_take (i := 24) (oi := _) (v := _) rfl (by kernel_rfl) (by kernel_rfl) (by kernel_rfl) (fun _ _ _ h => h) (Or.inl ⟨?_, ?_⟩) (by assumption) ?_
          rotate_left
          all_goals (try simp only [List.getElem_toArray, List.getElem_cons_succ, List.getElem_cons_zero])
          · rfl
          · intro W hSw; (try dsimp only at hSw); go_simp; (try with_reducible rfl)
          try simp only [Act.put, List.setIfInBounds_toArray, List.set_cons_zero, List.set_cons_succ]
          refine' wpAnyH_take (i := 25) (oi := _) (v := _) rfl (by kernel_rfl) (by kernel_rfl) (by kernel_rfl) (fun _ _ _ h => h) (Or.inl ⟨?_, ?_⟩) (by assumption) ?_
          rotate_left
          all_goals (try simp only [List.getElem_toArray, List.getElem_cons_succ, List.getElem_cons_zero])
          · rfl
          · intro W hSw; (try dsimp only at hSw); go_simp; (try with_reducible rfl)
          try simp only [Act.put, List.setIfInBounds_toArray, List.set_cons_zero, List.set_cons_succ]
          refine' wpAnyH_take (i := 26) (oi := _) (v := _) rfl (by kernel_rfl) (by kernel_rfl) (by kernel_rfl) (fun _ _ _ h => h) (Or.inl ⟨?_, ?_⟩) (by assumption) ?_
          rotate_left
          all_goals (try simp only [List.getElem_toArray, List.getElem_cons_succ, List.getElem_cons_zero])
          · rfl
          · intro W hSw; (try dsimp only at hSw); go_simp; (try with_reducible rfl)
          try simp only [Act.put, List.setIfInBounds_toArray, List.set_cons_zero, List.set_cons_succ]
          refine' wpAnyH_take (i := 28) (oi := _) (v := _) rfl (by kernel_rfl) (by kernel_rfl) (by kernel_rfl) (fun _ _ _ h => h) (Or.inl ⟨?_, ?_⟩) (by assumption) ?_
          rotate_left
          all_goals (try simp only [List.getElem_toArray, List.getElem_cons_succ, List.getElem_cons_zero])
          · rfl
          · intro W hSw; (try dsimp only at hSw); go_simp; (try with_reducible rfl)
          try simp only [Act.put, List.setIfInBounds_toArray, List.set_cons_zero, List.set_cons_succ]
          refine' wpAnyH_take (i := 29) (oi := _) (v := _) rfl (by kernel_rfl) (by kernel_rfl) (by kernel_rfl) (fun _ _ _ h => h) (Or.inl ⟨?_, ?_⟩) (by assumption) ?_
          rotate_left
          all_goals (try simp only [List.getElem_toArray, List.getElem_cons_succ, List.getElem_cons_zero])
          · rfl
          · intro W hSw; (try dsimp only at hSw); go_simp; (try with_reducible rfl)
          try simp only [Act.put, List.setIfInBounds_toArray, List.set_cons_zero, List.set_cons_succ]
          refine' wpAnyH_take (i := 30) (oi := _) (v := _) rfl (by kernel_rfl) (by kernel_rfl) (by kernel_rfl) (fun _ _ _ h => h) (Or.inl ⟨?_, ?_⟩) (by assumption) ?_
          rotate_left
          all_goals (try simp only [List.getElem_toArray, List.getElem_cons_succ, List.getElem_cons_zero])
          · rfl
          · intro W hSw; (try dsimp only at hSw); go_simp; (try with_reducible rfl)
          try simp only [Act.put, List.setIfInBounds_toArray, List.set_cons_zero, List.set_cons_succ]
          refine wpAnyH_ready (rs := [27]) (by kernel_rfl) (by simp) ?_
          refine AllReadyH.cons (o := _) rfl (fun K hK => ?_) AllReadyH.nil
          try simp only [List.getElem_toArray, List.getElem_cons_succ, List.getElem_cons_zero]
          go_simp
          refine (len_of HC9.out (by decide)).mono ?_; rintro e WA ⟨rfl, rfl⟩; rw [HN4.out]
          go_wp2_with fail
          refine hK.out _ _ ⟨HX9.out, HY9.out⟩ (fun hHeld => ?_)
          clear hK K
          try simp only [Act.put, List.setIfInBounds_toArray, List.set_cons_zero, List.set_cons_succ]
          refine' wpAnyH_take (i := 31) (oi := _) (v := _) rfl (by kernel_rfl) (by kernel_rfl) (by kernel_rfl) (fun _ _ _ h => h) (Or.inl ⟨?_, ?_⟩) (by assumption) ?_
          rotate_left
          all_goals (try simp only [List.getElem_toArray, List.getElem_cons_succ, List.getElem_cons_zero])
          · rfl
          · intro W hSw; (try dsimp only at hSw); go_simp; (try with_reducible rfl)
          try simp only [Act.put, List.setIfInBounds_toArray, List.set_cons_zero, List.set_cons_succ]
          refine' wpAnyH_take (i := 32) (oi := _) (v := _) rfl (by kernel_rfl) (by kernel_rfl) (by kernel_rfl) (fun _ _ _ h => h) (Or.inl ⟨?_, ?_⟩) (by assumption) ?_
          rotate_left
          all_goals (try simp only [List.getElem_toArray, List.getElem_cons_succ, List.getElem_cons_zero])
          · rfl
          · intro W hSw; (try dsimp only at hSw); go_simp; (try with_reducible rfl)
          try simp only [Act.put, List.setIfInBounds_toArray, List.set_cons_zero, List.set_cons_succ]
          refine' wpAnyH_take (i := 33) (oi := _) (v := _) rfl (by kernel_rfl) (by kernel_rfl) (by kernel_rfl) (fun _ _ _ h => h) (Or.inl ⟨?_, ?_⟩) (by assumption) ?_
          rotate_left
          all_goals (try simp only [List.getElem_toArray, List.getElem_cons_succ, List.getElem_cons_zero])
          · rfl
          · intro W hSw; (try dsimp only at hSw); go_simp; (try with_reducible rfl)
          try simp only [Act.put, List.setIfInBounds_toArray, List.set_cons_zero, List.set_cons_succ]
          refine wpAnyH_done (by kernel_rfl) ?_ _
          go_wp2
          go_ret
          exact ⟨by simp [hw4], HB9.out⟩
        · try simp only [List.getElem_toArray, List.getElem_cons_succ, List.getElem_cons_zero]
          go_simp
          refine (sum_any g4 512 _ W8 HU8.out (by decide)).mono ?_; rintro e W9 ⟨⟨ad9, rfl, hs9, -⟩, hb9⟩; have HS9 := Lib.hid hs9; have HR8 := Lib.hid (HS8.out.below hb9); have HC9 := Lib.hid (HC8.out.below hb9 HC8.out.lt); have HX9 := Lib.hid (HX8.out.on hb9); have HY9 := Lib.hid (HY8.out.on hb9); have HB9 := Lib.hid (below_on HB8.out hb9); clear hs9 hb9
          go_wp2_with fail
          refine hK.out _ _ ⟨HX9.out, HY9.out⟩ (fun hHeld => ?_)
          clear hK K
          try simp only [Act.put, List.setIfInBounds_toArray, List.set_cons_zero, List.set_cons_succ]
          refine wpAnyH_ready (rs := [19, 22]) (by kernel_rfl) (by simp) ?_
          refine AllReadyH.cons (o := _) rfl (fun K hK => ?_) (AllReadyH.cons (o := _) rfl (fun K hK => ?_) AllReadyH.nil)
          · try simp only [List.getElem_toArray, List.getElem_cons_succ, List.getElem_cons_zero]
            have hc8 := convB (HR8.out.bts (hashN_lt _ _)); simp only [Nat.reduceDiv] at hc8
            go_simp
            refine hK.out _ _ ⟨HX9.out, HY9.out⟩ (fun hHeld => ?_)
            clear hK K
            try simp only [Act.put, List.setIfInBounds_toArray, List.set_cons_zero, List.set_cons_succ]
            refine wpAnyH_ready (rs := [22]) (by kernel_rfl) (by simp) ?_
            refine AllReadyH.cons (o := _) rfl (fun K hK => ?_) AllReadyH.nil
            try simp only [List.getElem_toArray, List.getElem_cons_succ, List.getElem_cons_zero]
            have hc9 := convB (HS9.out.bts (hashN_lt _ _)); simp only [Nat.reduceDiv] at hc9
            go_simp
            refine hK.out _ _ ⟨HX9.out, HY9.out⟩ (fun hHeld => ?_)
            clear hK K
            try simp only [Act.put, List.setIfInBounds_toArray, List.set_cons_zero, List.set_cons_succ]
            refine' wpAnyH_take (i := 23) (oi := _) (v := _) rfl (by kernel_rfl) (by kernel_rfl) (by kernel_rfl) (fun _ _ _ h => h) (Or.inl ⟨?_, ?_⟩) (by assumption) ?_
            rotate_left
            all_goals (try simp only [List.getElem_toArray, List.getElem_cons_succ, List.getElem_cons_zero])
            · rfl
            · intro W hSw; (try dsimp only at hSw); go_simp; (try with_reducible rfl)
            try simp only [Act.put, List.setIfInBounds_toArray, List.set_cons_zero, List.set_cons_succ]
            refine' wpAnyH_take (i := 24) (oi := _) (v := _) rfl (by kernel_rfl) (by kernel_rfl) (by kernel_rfl) (fun _ _ _ h => h) (Or.inl ⟨?_, ?_⟩) (by assumption) ?_
            rotate_left
            all_goals (try simp only [List.getElem_toArray, List.getElem_cons_succ, List.getElem_cons_zero])
            · rfl
            · intro W hSw; (try dsimp only at hSw); go_simp; (try with_reducible rfl)
            try simp only [Act.put, List.setIfInBounds_toArray, List.set_cons_zero, List.set_cons_succ]
            refine' wpAnyH_take (i := 25) (oi := _) (v := _) rfl (by kernel_rfl) (by kernel_rfl) (by kernel_rfl) (fun _ _ _ h => h) (Or.inl ⟨?_, ?_⟩) (by assumption) ?_
            rotate_left
            all_goals (try simp only [List.getElem_toArray, List.getElem_cons_succ, List.getElem_cons_zero])
            · rfl
            · intro W hSw; (try dsimp only at hSw); go_simp; (try with_reducible rfl)
            try simp only [Act.put, List.setIfInBounds_toArray, List.set_cons_zero, List.set_cons_succ]
            refine' wpAnyH_take (i := 26) (oi := _) (v := _) rfl (by kernel_rfl) (by kernel_rfl) (by kernel_rfl) (fun _ _ _ h => h) (Or.inl ⟨?_, ?_⟩) (by assumption) ?_
            rotate_left
            all_goals (try simp only [List.getElem_toArray, List.getElem_cons_succ, List.getElem_cons_zero])
            · rfl
            · intro W hSw; (try dsimp only at hSw); go_simp; (try with_reducible rfl)
            try simp only [Act.put, List.setIfInBounds_toArray, List.set_cons_zero, List.set_cons_succ]
            refine' wpAnyH_take (i := 28) (oi := _) (v := _) rfl (by kernel_rfl) (by kernel_rfl) (by kernel_rfl) (fun _ _ _ h => h) (Or.inl ⟨?_, ?_⟩) (by assumption) ?_
            rotate_left
            all_goals (try simp only [List.getElem_toArray, List.getElem_cons_succ, List.getElem_cons_zero])
            · rfl
            · intro W hSw; (try dsimp only at hSw); go_simp; (try with_reducible rfl)
            try simp only [Act.put, List.setIfInBounds_toArray, List.set_cons_zero, List.set_cons_succ]
            refine' wpAnyH_take (i := 29) (oi := _) (v := _) rfl (by kernel_rfl) (by kernel_rfl) (by kernel_rfl) (fun _ _ _ h => h) (Or.inl ⟨?_, ?_⟩) (by assumption) ?_
            rotate_left
            all_goals (try simp only [List.getElem_toArray, List.getElem_cons_succ, List.getElem_cons_zero])
            · rfl
            · intro W hSw; (try dsimp only at hSw); go_simp; (try with_reducible rfl)
            try simp only [Act.put, List.setIfInBounds_toArray, List.set_cons_zero, List.set_cons_succ]
            refine' wpAnyH_take (i := 30) (oi := _) (v := _) rfl (by kernel_rfl) (by kernel_rfl) (by kernel_rfl) (fun _ _ _ h => h) (Or.inl ⟨?_, ?_⟩) (by assumption) ?_
            rotate_left
            all_goals (try simp only [List.getElem_toArray, List.getElem_cons_succ, List.getElem_cons_zero])
            · rfl
            · intro W hSw; (try dsimp only at hSw); go_simp; (try with_reducible rfl)
            try simp only [Act.put, List.setIfInBounds_toArray, List.set_cons_zero, List.set_cons_succ]
            refine wpAnyH_ready (rs := [27]) (by kernel_rfl) (by simp) ?_
            refine AllReadyH.cons (o := _) rfl (fun K hK => ?_) AllReadyH.nil
            try simp only [List.getElem_toArray, List.getElem_cons_succ, List.getElem_cons_zero]
            go_simp
            refine (len_of HC9.out (by decide)).mono ?_; rintro e WA ⟨rfl, rfl⟩; rw [HN4.out]
            go_wp2_with fail
            refine hK.out _ _ ⟨HX9.out, HY9.out⟩ (fun hHeld => ?_)
            clear hK K
            try simp only [Act.put, List.setIfInBounds_toArray, List.set_cons_zero, List.set_cons_succ]
            refine' wpAnyH_take (i := 31) (oi := _) (v := _) rfl (by kernel_rfl) (by kernel_rfl) (by kernel_rfl) (fun _ _ _ h => h) (Or.inl ⟨?_, ?_⟩) (by assumption) ?_
            rotate_left
            all_goals (try simp only [List.getElem_toArray, List.getElem_cons_succ, List.getElem_cons_zero])
            · rfl
            · intro W hSw; (try dsimp only at hSw); go_simp; (try with_reducible rfl)
            try simp only [Act.put, List.setIfInBounds_toArray, List.set_cons_zero, List.set_cons_succ]
            refine' wpAnyH_take (i := 32) (oi := _) (v := _) rfl (by kernel_rfl) (by kernel_rfl) (by kernel_rfl) (fun _ _ _ h => h) (Or.inl ⟨?_, ?_⟩) (by assumption) ?_
            rotate_left
            all_goals (try simp only [List.getElem_toArray, List.getElem_cons_succ, List.getElem_cons_zero])
            · rfl
            · intro W hSw; (try dsimp only at hSw); go_simp; (try with_reducible rfl)
            try simp only [Act.put, List.setIfInBounds_toArray, List.set_cons_zero, List.set_cons_succ]
            refine' wpAnyH_take (i := 33) (oi := _) (v := _) rfl (by kernel_rfl) (by kernel_rfl) (by kernel_rfl) (fun _ _ _ h => h) (Or.inl ⟨?_, ?_⟩) (by assumption) ?_
            rotate_left
            all_goals (try simp only [List.getElem_toArray, List.getElem_cons_succ, List.getElem_cons_zero])
            · rfl
            · intro W hSw; (try dsimp only at hSw); go_simp; (try with_reducible rfl)
            try simp only [Act.put, List.setIfInBounds_toArray, List.set_cons_zero, List.set_cons_succ]
            refine wpAnyH_done (by kernel_rfl) ?_ _
            go_wp2
            go_ret
            exact ⟨by simp [hw4], HB9.out⟩
          · try simp only [List.getElem_toArray, List.getElem_cons_succ, List.getElem_cons_zero]
            have hc9 := convB (HS9.out.bts (hashN_lt _ _)); simp only [Nat.reduceDiv] at hc9
            go_simp
            refine hK.out _ _ ⟨HX9.out, HY9.out⟩ (fun hHeld => ?_)
            clear hK K
            try simp only [Act.put, List.setIfInBounds_toArray, List.set_cons_zero, List.set_cons_succ]
            refine wpAnyH_ready (rs := [19]) (by kernel_rfl) (by simp) ?_
            refine AllReadyH.cons (o := _) rfl (fun K hK => ?_) AllReadyH.nil
            try simp only [List.getElem_toArray, List.getElem_cons_succ, List.getElem_cons_zero]
            have hc8 := convB (HR8.out.bts (hashN_lt _ _)); simp only [Nat.reduceDiv] at hc8
            go_simp
            refine hK.out _ _ ⟨HX9.out, HY9.out⟩ (fun hHeld => ?_)
            clear hK K
            try simp only [Act.put, List.setIfInBounds_toArray, List.set_cons_zero, List.set_cons_succ]
            refine' wpAnyH_take (i := 23) (oi := _) (v := _) rfl (by kernel_rfl) (by kernel_rfl) (by kernel_rfl) (fun _ _ _ h => h) (Or.inl ⟨?_, ?_⟩) (by assumption) ?_
            rotate_left
            all_goals (try simp only [List.getElem_toArray, List.getElem_cons_succ, List.getElem_cons_zero])
            · rfl
            · intro W hSw; (try dsimp only at hSw); go_simp; (try with_reducible rfl)
            try simp only [Act.put, List.setIfInBounds_toArray, List.set_cons_zero, List.set_cons_succ]
            refine' wpAnyH_take (i := 24) (oi := _) (v := _) rfl (by kernel_rfl) (by kernel_rfl) (by kernel_rfl) (fun _ _ _ h => h) (Or.inl ⟨?_, ?_⟩) (by assumption) ?_
            rotate_left
            all_goals (try simp only [List.getElem_toArray, List.getElem_cons_succ, List.getElem_cons_zero])
            · rfl
            · intro W hSw; (try dsimp only at hSw); go_simp; (try with_reducible rfl)
            try simp only [Act.put, List.setIfInBounds_toArray, List.set_cons_zero, List.set_cons_succ]
            refine' wpAnyH_take (i := 25) (oi := _) (v := _) rfl (by kernel_rfl) (by kernel_rfl) (by kernel_rfl) (fun _ _ _ h => h) (Or.inl ⟨?_, ?_⟩) (by assumption) ?_
            rotate_left
            all_goals (try simp only [List.getElem_toArray, List.getElem_cons_succ, List.getElem_cons_zero])
            · rfl
            · intro W hSw; (try dsimp only at hSw); go_simp; (try with_reducible rfl)
            try simp only [Act.put, List.setIfInBounds_toArray, List.set_cons_zero, List.set_cons_succ]
            refine' wpAnyH_take (i := 26) (oi := _) (v := _) rfl (by kernel_rfl) (by kernel_rfl) (by kernel_rfl) (fun _ _ _ h => h) (Or.inl ⟨?_, ?_⟩) (by assumption) ?_
            rotate_left
            all_goals (try simp only [List.getElem_toArray, List.getElem_cons_succ, List.getElem_cons_zero])
            · rfl
            · intro W hSw; (try dsimp only at hSw); go_simp; (try with_reducible rfl)
            try simp only [Act.put, List.setIfInBounds_toArray, List.set_cons_zero, List.set_cons_succ]
            refine' wpAnyH_take (i := 28) (oi := _) (v := _) rfl (by kernel_rfl) (by kernel_rfl) (by kernel_rfl) (fun _ _ _ h => h) (Or.inl ⟨?_, ?_⟩) (by assumption) ?_
            rotate_left
            all_goals (try simp only [List.getElem_toArray, List.getElem_cons_succ, List.getElem_cons_zero])
            · rfl
            · intro W hSw; (try dsimp only at hSw); go_simp; (try with_reducible rfl)
            try simp only [Act.put, List.setIfInBounds_toArray, List.set_cons_zero, List.set_cons_succ]
            refine' wpAnyH_take (i := 29) (oi := _) (v := _) rfl (by kernel_rfl) (by kernel_rfl) (by kernel_rfl) (fun _ _ _ h => h) (Or.inl ⟨?_, ?_⟩) (by assumption) ?_
            rotate_left
            all_goals (try simp only [List.getElem_toArray, List.getElem_cons_succ, List.getElem_cons_zero])
            · rfl
            · intro W hSw; (try dsimp only at hSw); go_simp; (try with_reducible rfl)
            try simp only [Act.put, List.setIfInBounds_toArray, List.set_cons_zero, List.set_cons_succ]
            refine' wpAnyH_take (i := 30) (oi := _) (v := _) rfl (by kernel_rfl) (by kernel_rfl) (by kernel_rfl) (fun _ _ _ h => h) (Or.inl ⟨?_, ?_⟩) (by assumption) ?_
            rotate_left
            all_goals (try simp only [List.getElem_toArray, List.getElem_cons_succ, List.getElem_cons_zero])
            · rfl
            · intro W hSw; (try dsimp only at hSw); go_simp; (try with_reducible rfl)
            try simp only [Act.put, List.setIfInBounds_toArray, List.set_cons_zero, List.set_cons_succ]
            refine wpAnyH_ready (rs := [27]) (by kernel_rfl) (by simp) ?_
            refine AllReadyH.cons (o := _) rfl (fun K hK => ?_) AllReadyH.nil
            try simp only [List.getElem_toArray, List.getElem_cons_succ, List.getElem_cons_zero]
            go_simp
            refine (len_of HC9.out (by decide)).mono ?_; rintro e WA ⟨rfl, rfl⟩; rw [HN4.out]
            go_wp2_with fail
            refine hK.out _ _ ⟨HX9.out, HY9.out⟩ (fun hHeld => ?_)
            clear hK K
            try simp only [Act.put, List.setIfInBounds_toArray, List.set_cons_zero, List.set_cons_succ]
            refine' wpAnyH_take (i := 31) (oi := _) (v := _) rfl (by kernel_rfl) (by kernel_rfl) (by kernel_rfl) (fun _ _ _ h => h) (Or.inl ⟨?_, ?_⟩) (by assumption) ?_
            rotate_left
            all_goals (try simp only [List.getElem_toArray, List.getElem_cons_succ, List.getElem_cons_zero])
            · rfl
            · intro W hSw; (try dsimp only at hSw); go_simp; (try with_reducible rfl)
            try simp only [Act.put, List.setIfInBounds_toArray, List.set_cons_zero, List.set_cons_succ]
            refine' wpAnyH_take (i := 32) (oi := _) (v := _) rfl (by kernel_rfl) (by kernel_rfl) (by kernel_rfl) (fun _ _ _ h => h) (Or.inl ⟨?_, ?_⟩) (by assumption) ?_
            rotate_left
            all_goals (try simp only [List.getElem_toArray, List.getElem_cons_succ, List.getElem_cons_zero])
            · rfl
            · intro W hSw; (try dsimp only at hSw); go_simp; (try with_reducible rfl)
            try simp only [Act.put, List.setIfInBounds_toArray, List.set_cons_zero, List.set_cons_succ]
            refine' wpAnyH_take (i := 33) (oi := _) (v := _) rfl (by kernel_rfl) (by kernel_rfl) (by kernel_rfl) (fun _ _ _ h => h) (Or.inl ⟨?_, ?_⟩) (by assumption) ?_
            rotate_left
            all_goals (try simp only [List.getElem_toArray, List.getElem_cons_succ, List.getElem_cons_zero])
            · rfl
            · intro W hSw; (try dsimp only at hSw); go_simp; (try with_reducible rfl)
            try simp only [Act.put, List.setIfInBounds_toArray, List.set_cons_zero, List.set_cons_succ]
            refine wpAnyH_done (by kernel_rfl) ?_ _
            go_wp2
            go_ret
            exact ⟨by simp [hw4], HB9.out⟩

theorem copies_walk (long : Bool) (a a2 a3 : Option Addr) (n c n2 c2 n3 c3 : Nat) (l l2 l3 : List Nat) (w : World) (hr : Reads .u8 w a n c l) (hl : Byt l) (hr2 : Reads .u8 w a2 n2 c2 l2) (hl2 : Byt l2) (hr3 : Reads .u8 w a3 n3 c3 l3) (hl3 : Byt l3) :
    Calls Try.prog 6 #[.bool long, .slice a n c, .slice a2 n2 c2, .slice a3 n3 c3] w fun e w' => e = .returned (.bool true) ∧ Below w.heap.size w w' := by
  cases long
  · exact copies384_walk a a2 a3 n c n2 c2 n3 c3 l l2 l3 w hr hl hr2 hl2 hr3 hl3
  · exact copies512_walk a a2 a3 n c n2 c2 n3 c3 l l2 l3 w hr hl hr2 hl2 hr3 hl3

end Go.Proofs.Ytpfdehjllnhllaa
