/-
  HOUR: General.
-/
import Derived.Test.YtholkbgkkfndhaaDoorHour9
import Derived.Test.YtholkbgkkfndhaaDoorHour5
import Derived.StillTactics
namespace Go.Proofs.YtholkbgkkfndhaaDoor
open Go.RowKit

theorem trim_length (l : List UInt8) : (Lib.trimRightB l 48).length ≤ l.length := by
  unfold Lib.trimRightB
  have := (List.dropWhile_suffix (l := l.reverse) (fun x => x == 48)).length_le
  simpa using this

theorem digits_at (size n : Nat) (hn : n < 10 ^ size) (h1 : 1 ≤ size) (h2 : size ≤ 10) (w : World) (ht : Tab w) :
    Calls Tryd.prog 24 #[.int .i64 (n : Int), .int .i64 (size : Int)] w fun e w' => ∃ A : List UInt8, e = .returned (.string ⟨A.toArray⟩) ∧ Hid (A = pdN size n) ∧ A.length = size ∧ Below w.heap.size w w' := by
  obtain ⟨k, rfl⟩ : ∃ k, size = k + 1 := ⟨size - 1, by omega⟩
  refine (digits_any k n hn (by omega) w ht).mono fun e w' ⟨he, hb⟩ => ⟨_, he, Lib.hid rfl, pdN_length _ _, hb⟩

set_option maxRecDepth 100000
set_option maxHeartbeats 400000
theorem general_yes (t : Nat) (ht : t ≤ 253402300799999) (w : World) (hT : Tab w) :
    Calls Tryd.prog 9 #[.int .i64 (t : Int)] w fun e w' => ∃ l, e = .returned (.tuple #[.string ⟨l.toArray⟩, .int .i64 0]) ∧ IsText t l ∧ Below w.heap.size w w' := by
  have HT := Lib.hid hT
  clear hT
  obtain ⟨T, hd⟩ : ∃ T, t / 86400000 = T := ⟨_, rfl⟩
  have hd1 : (t : Int) / 86400000 = (T : Int) := by omega
  have hd2 : T ≤ 2932896 := by omega
  have HD := Lib.hid hd
  clear hd
  go_enter Tryd.func9, Tryd.ntmps9
  go_wp2_with fail
  refine (istime_yes (t : Int) _ (by omega) (by omega)).mono ?_
  rintro e w' ⟨rfl, rfl⟩
  go_wp2_with fail
  refine (dateof_any (T : Int) _ (by omega) (by omega)).mono ?_
  rintro e w1 ⟨y', m', d', rfl, hI, hy9, hb⟩
  have hI2 := hI
  obtain ⟨i1, i2, i3, i4, i5, i6⟩ := hI2
  obtain ⟨y, rfl⟩ : ∃ y : Nat, y' = (y : Int) := ⟨y'.toNat, by omega⟩
  obtain ⟨m, rfl⟩ : ∃ m : Nat, m' = (m : Int) := ⟨m'.toNat, by omega⟩
  obtain ⟨d, rfl⟩ : ∃ d : Nat, d' = (d : Int) := ⟨d'.toNat, by omega⟩
  have hm31 := (longN_ge (y : Int) (m : Int)).2
  have hd31 : (d : Int) ≤ 31 := by omega
  have HI := Lib.hid hI
  have H1 := Lib.hid hb
  clear hI hb i5 i6 hm31
  go_wp2_with fail
  have hB := DateBox.new w1 (y : Int) (m : Int) (d : Int)
  have hb2 := H1.out.alloc H1.out.size (.cells #[.int .i64 (y : Int), .int .i64 (m : Int), .int .i64 (d : Int)] 51)
  generalize w1.alloc (.cells #[.int .i64 (y : Int), .int .i64 (m : Int), .int .i64 (d : Int)] 51) = w2 at *
  generalize w1.heap.size = B at *
  have B3 := Lib.hid (hB.below (Below.refl _ _).drew)
  have H3 := Lib.hid hb2.drew
  clear hB hb2 H1
  have z0 := B3.out.c0
  have z1 := B3.out.c1
  have z2 := B3.out.c2
  refine wp_region_held_drew (S := fun W => W.cell? ⟨B, 0, none⟩ = some (.int .i64 (y : Int)) ∧ W.cell? ⟨B, 1, none⟩ = some (.int .i64 (m : Int)) ∧ W.cell? ⟨B, 2, none⟩ = some (.int .i64 (d : Int))) (by kernel_rfl) ⟨z0, z1, z2⟩ (fun hHeld => ?_)
  generalize w2.drew = w3 at *
  refine' wpAnyH_take (i := 0) (oi := _) (v := _) rfl (by kernel_rfl) (by kernel_rfl) (by kernel_rfl) (fun _ _ _ h => h) (Or.inl ⟨?_, ?_⟩) (by assumption) ?_
  rotate_left
  all_goals (try simp only [List.getElem_toArray, List.getElem_cons_succ, List.getElem_cons_zero])
  · rfl
  · intro W hSw; (try dsimp only at hSw); go_simp; (try with_reducible rfl)
  try simp only [Act.put, List.setIfInBounds_toArray, List.set_cons_zero, List.set_cons_succ]
  refine' wpAnyH_take (i := 3) (oi := _) (v := _) rfl (by kernel_rfl) (by kernel_rfl) (by kernel_rfl) (fun _ _ _ h => h) (Or.inl ⟨?_, ?_⟩) (by assumption) ?_
  rotate_left
  all_goals (try simp only [List.getElem_toArray, List.getElem_cons_succ, List.getElem_cons_zero])
  · rfl
  · intro W hSw; (try dsimp only at hSw); go_simp; (try with_reducible rfl)
  try simp only [Act.put, List.setIfInBounds_toArray, List.set_cons_zero, List.set_cons_succ]
  refine' wpAnyH_take (i := 7) (oi := _) (v := _) rfl (by kernel_rfl) (by kernel_rfl) (by kernel_rfl) (fun _ _ _ h => h) (Or.inl ⟨?_, ?_⟩) (by assumption) ?_
  rotate_left
  all_goals (try simp only [List.getElem_toArray, List.getElem_cons_succ, List.getElem_cons_zero])
  · rfl
  · intro W hSw; (try dsimp only at hSw); go_simp; (try with_reducible rfl)
  try simp only [Act.put, List.setIfInBounds_toArray, List.set_cons_zero, List.set_cons_succ]
  refine' wpAnyH_take (i := 1) (oi := _) (v := _) rfl (by kernel_rfl) (by kernel_rfl) (by kernel_rfl) (fun _ _ _ h => h) (Or.inl ⟨?_, ?_⟩) (by assumption) ?_
  rotate_left
  all_goals (try simp only [List.getElem_toArray, List.getElem_cons_succ, List.getElem_cons_zero])
  · rfl
  · intro W hSw; (try dsimp only at hSw); go_simp; (try with_reducible rfl)
  try simp only [Act.put, List.setIfInBounds_toArray, List.set_cons_zero, List.set_cons_succ]
  refine' wpAnyH_take (i := 4) (oi := _) (v := _) rfl (by kernel_rfl) (by kernel_rfl) (by kernel_rfl) (fun _ _ _ h => h) (Or.inl ⟨?_, ?_⟩) (by assumption) ?_
  rotate_left
  all_goals (try simp only [List.getElem_toArray, List.getElem_cons_succ, List.getElem_cons_zero])
  · rfl
  · intro W hSw; (try dsimp only at hSw); go_simp; (try with_reducible rfl)
  try simp only [Act.put, List.setIfInBounds_toArray, List.set_cons_zero, List.set_cons_succ]
  refine' wpAnyH_take (i := 8) (oi := _) (v := _) rfl (by kernel_rfl) (by kernel_rfl) (by kernel_rfl) (fun _ _ _ h => h) (Or.inl ⟨?_, ?_⟩) (by assumption) ?_
  rotate_left
  all_goals (try simp only [List.getElem_toArray, List.getElem_cons_succ, List.getElem_cons_zero])
  · rfl
  · intro W hSw; (try dsimp only at hSw); go_simp; (try with_reducible rfl)
  try simp only [Act.put, List.setIfInBounds_toArray, List.set_cons_zero, List.set_cons_succ]
  refine wpAnyH_ready (rs := [2]) (by kernel_rfl) (by simp) ?_
  refine AllReadyH.cons (o := _) rfl (fun K hK => ?_) AllReadyH.nil
  try simp only [List.getElem_toArray, List.getElem_cons_succ, List.getElem_cons_zero]
  go_simp
  refine (digits_at 4 y (by omega) (by omega) (by omega) _ (HT.out.below H3.out)).mono ?_; rintro e w4 ⟨A1, rfl, PA1, lA1, hb⟩; have H4 := Lib.hid (H3.out.trans (hb.mono H3.out.size)); have B4 := Lib.hid (B3.out.below hb); have z0 := B4.out.c0; have z1 := B4.out.c1; have z2 := B4.out.c2; clear hb
  go_wp2_with fail
  refine hK.out _ _ ⟨z0, z1, z2⟩ (fun hHeld => ?_)
  clear hK K
  try simp only [Act.put, List.setIfInBounds_toArray, List.set_cons_zero, List.set_cons_succ]
  refine wpAnyH_ready (rs := [5]) (by kernel_rfl) (by simp) ?_
  refine AllReadyH.cons (o := _) rfl (fun K hK => ?_) AllReadyH.nil
  try simp only [List.getElem_toArray, List.getElem_cons_succ, List.getElem_cons_zero]
  go_simp
  refine (digits_at 2 m (by omega) (by omega) (by omega) _ (HT.out.below H4.out)).mono ?_; rintro e w5 ⟨A2, rfl, PA2, lA2, hb⟩; have H5 := Lib.hid (H4.out.trans (hb.mono H4.out.size)); have B5 := Lib.hid (B4.out.below hb); have z0 := B5.out.c0; have z1 := B5.out.c1; have z2 := B5.out.c2; clear hb
  go_wp2_with fail
  refine hK.out _ _ ⟨z0, z1, z2⟩ (fun hHeld => ?_)
  clear hK K
  try simp only [Act.put, List.setIfInBounds_toArray, List.set_cons_zero, List.set_cons_succ]
  refine' wpAnyH_take (i := 6) (oi := _) (v := _) rfl (by kernel_rfl) (by kernel_rfl) (by kernel_rfl) (fun _ _ _ h => h) (Or.inl ⟨?_, ?_⟩) (by assumption) ?_
  rotate_left
  all_goals (try simp only [List.getElem_toArray, List.getElem_cons_succ, List.getElem_cons_zero])
  · rfl
  · intro W hSw; (try dsimp only at hSw); go_simp; (try with_reducible rfl)
  try simp only [Act.put, List.setIfInBounds_toArray, List.set_cons_zero, List.set_cons_succ]
  refine wpAnyH_ready (rs := [9]) (by kernel_rfl) (by simp) ?_
  refine AllReadyH.cons (o := _) rfl (fun K hK => ?_) AllReadyH.nil
  try simp only [List.getElem_toArray, List.getElem_cons_succ, List.getElem_cons_zero]
  go_simp
  refine (digits_at 2 d (by omega) (by omega) (by omega) _ (HT.out.below H5.out)).mono ?_; rintro e w6 ⟨A3, rfl, PA3, lA3, hb⟩; have H6 := Lib.hid (H5.out.trans (hb.mono H5.out.size)); have B6 := Lib.hid (B5.out.below hb); have z0 := B6.out.c0; have z1 := B6.out.c1; have z2 := B6.out.c2; clear hb
  go_wp2_with fail
  refine hK.out _ _ ⟨z0, z1, z2⟩ (fun hHeld => ?_)
  clear hK K
  try simp only [Act.put, List.setIfInBounds_toArray, List.set_cons_zero, List.set_cons_succ]
  refine' wpAnyH_take (i := 10) (oi := _) (v := _) rfl (by kernel_rfl) (by kernel_rfl) (by kernel_rfl) (fun _ _ _ h => h) (Or.inl ⟨?_, ?_⟩) (by assumption) ?_
  rotate_left
  all_goals (try simp only [List.getElem_toArray, List.getElem_cons_succ, List.getElem_cons_zero])
  · rfl
  · intro W hSw; (try dsimp only at hSw); go_simp; (try with_reducible rfl)
  try simp only [Act.put, List.setIfInBounds_toArray, List.set_cons_zero, List.set_cons_succ]
  refine' wpAnyH_take (i := 11) (oi := _) (v := _) rfl (by kernel_rfl) (by kernel_rfl) (by kernel_rfl) (fun _ _ _ h => h) (Or.inl ⟨?_, ?_⟩) (by assumption) ?_
  rotate_left
  all_goals (try simp only [List.getElem_toArray, List.getElem_cons_succ, List.getElem_cons_zero])
  · rfl
  · intro W hSw; (try dsimp only at hSw); go_simp; (try with_reducible rfl)
  try simp only [Act.put, List.setIfInBounds_toArray, List.set_cons_zero, List.set_cons_succ]
  refine wpAnyH_done (by kernel_rfl) ?_ _
  simp only [str_add]
  have lL : (A1 ++ A2 ++ A3).length = 8 := by simp only [List.length_append, lA1, lA2, lA3]
  generalize hL : A1 ++ A2 ++ A3 = L at *
  have HL := Lib.hid hL
  clear hL lA1 lA2 lA3 z0 z1 z2 hHeld B3 B4 B5 B6
  obtain ⟨q1, hq1⟩ : ∃ q, t % 86400000 = q := ⟨_, rfl⟩
  obtain ⟨q2, hq2⟩ : ∃ q, t % 3600000 = q := ⟨_, rfl⟩
  obtain ⟨q3, hq3⟩ : ∃ q, t % 60000 = q := ⟨_, rfl⟩
  obtain ⟨r, hr⟩ : ∃ q, t % 1000 = q := ⟨_, rfl⟩
  have e1 : Int.tmod (t : Int) 86400000 = (q1 : Int) := by rw [Int.tmod_eq_emod_of_nonneg (by omega)]; omega
  have e2 : Int.tmod (t : Int) 3600000 = (q2 : Int) := by rw [Int.tmod_eq_emod_of_nonneg (by omega)]; omega
  have e3 : Int.tmod (t : Int) 60000 = (q3 : Int) := by rw [Int.tmod_eq_emod_of_nonneg (by omega)]; omega
  have e4 : Int.tmod (t : Int) 1000 = (r : Int) := by rw [Int.tmod_eq_emod_of_nonneg (by omega)]; omega
  obtain ⟨h, hh⟩ : ∃ q, q1 / 3600000 = q := ⟨_, rfl⟩
  obtain ⟨mi, hmi⟩ : ∃ q, q2 / 60000 = q := ⟨_, rfl⟩
  obtain ⟨s, hs⟩ : ∃ q, q3 / 1000 = q := ⟨_, rfl⟩
  have g1 : (q1 : Int) / 3600000 = (h : Int) := by omega
  have g2 : (q2 : Int) / 60000 = (mi : Int) := by omega
  have g3 : (q3 : Int) / 1000 = (s : Int) := by omega
  have b1 : h < 24 := by omega
  have b2 : mi < 60 := by omega
  have b3 : s < 60 := by omega
  have b4 : r < 1000 := by omega
  have HQ := Lib.hid (And.intro hq1 (And.intro hq2 (And.intro hq3 (And.intro hr (And.intro hh (And.intro hmi hs))))))
  clear hq1 hq2 hq3 hr hh hmi hs
  go_wp2_with fail
  refine (digits_at 2 h (by omega) (by omega) (by omega) _ (HT.out.below H6.out)).mono ?_; rintro e w7 ⟨A4, rfl, PA4, lA4, hb⟩; have H7 := Lib.hid (H6.out.trans (hb.mono H6.out.size)); clear hb
  go_wp2_with fail
  refine (digits_at 2 mi (by omega) (by omega) (by omega) _ (HT.out.below H7.out)).mono ?_; rintro e w8 ⟨A5, rfl, PA5, lA5, hb⟩; have H8 := Lib.hid (H7.out.trans (hb.mono H7.out.size)); clear hb
  go_wp2_with fail
  refine (digits_at 2 s (by omega) (by omega) (by omega) _ (HT.out.below H8.out)).mono ?_; rintro e w9 ⟨A6, rfl, PA6, lA6, hb⟩; have H9 := Lib.hid (H8.out.trans (hb.mono H8.out.size)); clear hb
  obtain ⟨k1, k2, k3, k4, k5, k6, k7⟩ := HQ.out
  have HK := Lib.hid (And.intro k1 (And.intro k2 (And.intro k3 (And.intro k4 (And.intro k5 (And.intro k6 k7))))))
  clear HQ k1 k2 k3 k4 k5 k6 k7 e1 e2 e3 g1 g2 g3
  by_cases h0 : r = 0
  · have hbr : ((r : Int) != 0) = false := by simp; omega
    have H0 := Lib.hid h0
    clear h0
    go_wp2
    go_ret2
    refine ⟨L ++ (A4 ++ A5 ++ A6) ++ [90], ?_, ?_, H9.out⟩
    · rw [← str_add, ← str_add, ← str_add, ← str_add]
      rfl
    · obtain ⟨k1, k2, k3, k4, k5, k6, k7⟩ := HK.out
      refine ⟨y, m, d, by rw [HD.out]; exact HI.out, ?_⟩
      rw [k1, k2, k3, k4, k5, k6, k7, ← HL.out, PA1.out, PA2.out, PA3.out, PA4.out, PA5.out, PA6.out, H0.out]
      simp only [textN, fracN, if_true, List.append_nil]
  · have hbr : ((r : Int) != 0) = true := by simp; omega
    have H0 := Lib.hid h0
    clear h0
    go_wp2_with fail
    refine (digits_at 3 r (by omega) (by omega) (by omega) _ (HT.out.below H9.out)).mono ?_; rintro e w10 ⟨A7, rfl, PA7, lA7, hb⟩; have H10 := Lib.hid (H9.out.trans (hb.mono H9.out.size)); clear hb
    go_wp2_with fail
    refine (Tryd.strings_TrimRight_one ⟨A7.toArray⟩ 48 (by decide) _ (by show A7.toArray.size ≤ _; rw [List.size_toArray]; omega)).mono ?_
    rintro e w11 ⟨rfl, rfl⟩
    have lF : (Lib.trimRightB A7.toArray.toList 48).length ≤ 3 := by
      rw [List.toList_toArray]
      have := trim_length A7
      omega
    generalize hF : Lib.trimRightB A7.toArray.toList 48 = F at *
    have HF := Lib.hid hF
    clear hF
    go_wp2
    go_ret2
    refine ⟨L ++ (A4 ++ A5 ++ A6) ++ (46 :: F) ++ [90], ?_, ?_, H10.out⟩
    · rw [← str_add, ← str_add, ← str_add, ← str_add, show (46 :: F) = [46] ++ F from rfl, ← str_add, ← str_add]
      rfl
    · obtain ⟨k1, k2, k3, k4, k5, k6, k7⟩ := HK.out
      refine ⟨y, m, d, by rw [HD.out]; exact HI.out, ?_⟩
      rw [k1, k2, k3, k4, k5, k6, k7, ← HL.out, PA1.out, PA2.out, PA3.out, PA4.out, PA5.out, PA6.out, ← HF.out, PA7.out]
      simp only [textN, fracN, if_neg H0.out]

end Go.Proofs.YtholkbgkkfndhaaDoor
