/-
  OID: THE REFERENCE's form AND Bytes. (Written by wip/gen_oidS.py.)
-/
import Derived.Test.YtojphfkiblhhiaaDoorOidR
namespace Go.Proofs.YtojphfkiblhhiaaDoor
open Go.RowKit
set_option maxRecDepth 100000

set_option maxHeartbeats 1000000 in
theorem form_any (n : Nat) (hn : n < 9223372036854775808) (w : World) :
    Calls Tryd.prog 33 #[.int .u64 (n : Int)] w fun e w' => (∃ a k c, e = .returned (.slice a k c) ∧ OwnQ .u8 5 w.heap.size w' (.slice a k c) (formO n)) ∧ Below w.heap.size w w' := by
  obtain ⟨i0, hi, hz0, hz1, hz2⟩ := info_parts infoU8
  obtain ⟨q0, hq0⟩ : ∃ q, n % 128 = q := ⟨_, rfl⟩
  obtain ⟨m0, hm0⟩ : ∃ q, n / 128 = q := ⟨_, rfl⟩
  have e0 : Int.tmod (n : Int) 128 = (q0 : Int) := by rw [Int.tmod_eq_emod_of_nonneg (by omega)]; omega
  have e1 : (n : Int) / 128 = (m0 : Int) := by omega
  have hq9 : q0 < 128 := by omega
  have hm9 : m0 < 72057594037927936 := by omega
  have HF := Lib.hid (show formO n = bigF 9 m0 ++ [q0] by rw [← hq0, ← hm0]; rfl)
  have HL := Lib.hid (OwnQ.litO .u8 w 5 w.heap.size (Nat.le_refl _) [q0] #[.int .u8 (q0 : Int)] 1 rfl rfl (by unfold maxLen; simp))
  have HB := Lib.hid ((Below.refl w.heap.size w).alloc (Nat.le_refl _) (.cells #[.int .u8 (q0 : Int)] 5))
  clear hq0 hm0
  go_enter Tryd.func33, Tryd.ntmps33
  go_wp2_with fail
  go_loopw [0, 3, 4] (fun nv ov kv wr => ∃ (k m : Nat) (a : Option Addr) (ln c : Nat) (O : List Nat), kv = .int .i64 (k : Int) ∧ k ≤ 9 ∧ nv = .int .u64 (m : Int) ∧ m < 72057594037927936 ∧ ov = .slice a ln c ∧ Hid (m < 128 ^ (9 - k)) ∧ Hid (formO n = bigF 9 m ++ O) ∧ O.length = k + 1 ∧ Hid (OwnQ .u8 5 w.heap.size wr (.slice a ln c) O) ∧ Hid (Below w.heap.size w wr)) (fun _ _ kv _ => 11 - (intOf kv).toNat)
  case atStart => exact ⟨0, m0, _, 1, 1, [q0], rfl, by omega, rfl, hm9, rfl, Lib.hid (Nat.lt_of_lt_of_le hm9 (by decide)), HF, rfl, HL, HB⟩
  case round =>
    obtain ⟨k, m, a, ln, c, O, rfl, hk, rfl, hm, rfl, HM, HE, hol, HO, HB⟩ := hrel
    have f1 : decide ((k : Int) < 10) = true := decide_eq_true (by omega)
    by_cases h0 : m = 0
    · have f2 : decide ((0 : Int) < (m : Int)) = false := decide_eq_false (by omega)
      have f3 : decide (0 < m) = false := decide_eq_false (by omega)
      have HX := Lib.hid (show O = formO n by rw [HE.out, h0, bigF_zero]; rfl)
      clear h0
      go_wp2
      go_ret
      exact ⟨⟨a, ln, c, rfl, by rw [← HX.out]; exact HO.out⟩, HB.out⟩
    · have f2 : decide ((0 : Int) < (m : Int)) = true := decide_eq_true (by omega)
      have f3 : decide (0 < m) = true := decide_eq_true (by omega)
      have hk8 : k < 9 := by
        rcases (show k < 9 ∨ k = 9 by omega) with h | h
        · exact h
        · have := HM.out
          rw [h] at this
          simp at this
          exact absurd this h0
      obtain ⟨q, hq⟩ : ∃ q, m % 128 = q := ⟨_, rfl⟩
      obtain ⟨d, hd⟩ : ∃ q, m / 128 = q := ⟨_, rfl⟩
      have e2 : Int.tmod (m : Int) 128 = (q : Int) := by rw [Int.tmod_eq_emod_of_nonneg (by omega)]; omega
      have e3 : (m : Int) / 128 = (d : Int) := by omega
      have hq9 : q < 128 := by omega
      obtain ⟨x, hx⟩ : ∃ x, 128 + q = x := ⟨_, rfl⟩
      have e4 : 128 + (q : Int) = (x : Int) := by omega
      have hx9 : x < 256 := by omega
      have hd9 : d < 72057594037927936 := by omega
      have HM2 := Lib.hid (show d < 128 ^ (9 - (k + 1)) from by
        have := HM.out
        rw [show 9 - k = (9 - (k + 1)) + 1 by omega, Nat.pow_succ] at this
        omega)
      have HE2 := Lib.hid (show formO n = bigF 9 d ++ (x :: O) from by
        rw [HE.out, bigF_step 9 m h0 (Nat.lt_of_lt_of_le hm (by decide)), hq, hd, List.append_assoc, show q + 128 = x by omega]
        rfl)
      have HS := Lib.hid HB.out.size
      have HL2 := Lib.hid (OwnQ.litO .u8 wr 5 w.heap.size HB.out.size [x] #[.int .u8 (x : Int)] 1 rfl rfl (by unfold maxLen; simp))
      have HB2 := Lib.hid (HB.out.alloc HB.out.size (.cells #[.int .u8 (x : Int)] 5))
      have HR2 := Lib.hid ((HO.out.alloc (.cells #[.int .u8 (x : Int)] 5)).reads)
      have hln := HO.out.cap.1
      clear hq hd hx h0
      go_wp2_with (at_builtin; refine wpList_append_q .u8 _ rfl _ _ 38 rfl w.heap.size 5 1 i0 Tryd.underlying38 hi hz0 hz1 hz2 (by decide) _ [x] rfl HL2.out _ _ _ O rfl HR2.out (by simp <;> omega) HB2.out.size ?_; intro v' w5 hown2 hgrow; obtain ⟨ta, tn, tc, rfl, -, hown2⟩ := hown2.slice; have HO5 := Lib.hid hown2; have Hw5 := Lib.hid (hgrow w HB2.out); clear hown2 hgrow)
      go_wp2
      go_roundw
      case rel => exact ⟨k + 1, d, ta, tn, tc, x :: O, by go_num, by omega, rfl, hd9, rfl, HM2, HE2, by rw [List.length_cons, hol], HO5, Hw5⟩
      case measure => simp [intOf]; omega

set_option maxHeartbeats 1000000 in
theorem refbytes_any (a : Option Addr) (len cap : Nat) (l : List Nat) (w : World) (h : Reads .u64 w a len cap l) :
    Calls Tryd.prog 16 #[.slice a len cap] w fun e w' => RetsO .u8 5 w.heap.size w' (bytesR l) e ∧ Below w.heap.size w w' := by
  obtain ⟨i0, hi0, hz0, hz1, hz2⟩ := info_parts infoU8
  have H := Lib.hid h
  by_cases hok : OidOk l
  rotate_left
  · have hr := Lib.hid (show bytesR l = ([], 140) from if_neg hok)
    have hc := Lib.hid (show decide (OidOk l) = false from decide_eq_false hok)
    clear h hok
    go_enter Tryd.func16, Tryd.ntmps16
    go_wp2_with fail
    refine (may_any a len cap l _ H.out).mono ?_
    rintro e w1 ⟨rfl, hb⟩
    rw [hc.out]
    have HB := Lib.hid hb
    clear hb
    go_wp2
    go_ret2
    exact ⟨⟨none, 0, 0, by rw [hr.out]; rfl, by rw [hr.out]; exact OwnQ.nil _ _ _ _⟩, HB.out⟩
  have hr := Lib.hid (show bytesR l = (bytesO l, 0) from if_pos hok)
  have hck := Lib.hid (show decide (OidOk l) = true from decide_eq_true hok)
  have hl := h.length
  have hm := h.len_le
  unfold maxLen at hm
  have hcm := h.max
  unfold maxLen at hcm
  have hle := h.le
  have hok2 := hok
  obtain ⟨k1, k2, k3, k4, k5, h6⟩ := hok2
  have hlen2 : 2 ≤ len := by omega
  have hlen20 : len ≤ 20 := by omega
  obtain ⟨b, off, rfl, hbl, hc⟩ := h.cells (by omega)
  have c0 : w.cell? ⟨b, off, none⟩ = some (.int .u64 ((l.getD 0 0 : Nat) : Int)) := hc 0 (by omega)
  have c1 : w.cell? ⟨b, off + 1, none⟩ = some (.int .u64 ((l.getD 1 0 : Nat) : Int)) := hc 1 (by omega)
  have HL := Lib.hid hl
  have HK3 := Lib.hid k3
  have HBY := Lib.hid (show bytesO l = formO (40 * l.getD 0 0 + l.getD 1 0) ++ (l.drop 2).flatMap formO from rfl)
  generalize l.getD 0 0 = x0 at *
  generalize l.getD 1 0 = x1 at *
  obtain ⟨y, hy⟩ : ∃ y, 40 * x0 + x1 = y := ⟨_, rfl⟩
  rw [hy] at h6 HBY
  have HY := Lib.hid hy
  have hx04 : x0 ≤ 2 := k4
  have hx18 : x1 < 9223372036854775808 := by omega
  have hyi : IntKind.u64.wrap (IntKind.u64.wrap (40 * (x0 : Int)) + (x1 : Int)) = (y : Int) := wrap_forty x0 x1 y hx04 hx18 hy h6
  clear hy
  have C0 := Lib.hid c0
  have C1 := Lib.hid c1
  have HC := Lib.hid hc
  clear h hc hok k1 k2 k3 k5 hl c0 c1
  go_enter Tryd.func16, Tryd.ntmps16
  go_wp2_with fail
  refine (may_any _ len cap l _ H.out).mono ?_
  rintro e w1 ⟨rfl, hb⟩
  rw [hck.out]
  have H1 := Lib.hid hb
  clear hb
  go_wp2_with fail
  have H2 := Lib.hid (H1.out.trans ((Below.refl w1.heap.size w1).drew.mono H1.out.size))
  have c0 : w1.drew.cell? ⟨b, off, none⟩ = some (.int .u64 (x0 : Int)) := (H2.out.cell (p := ⟨b, off, none⟩) hbl).trans C0.out
  have c1 : w1.drew.cell? ⟨b, off + 1, none⟩ = some (.int .u64 (x1 : Int)) := (H2.out.cell (p := ⟨b, off + 1, none⟩) hbl).trans C1.out
  refine wp_region_held_drew (S := fun X => X.cell? ⟨b, off, none⟩ = some (.int .u64 (x0 : Int)) ∧ X.cell? ⟨b, off + 1, none⟩ = some (.int .u64 (x1 : Int))) (by kernel_rfl) ⟨c0, c1⟩ (fun hHeld => ?_)
  generalize w1.drew = w2 at *
  refine' wpAnyH_take (i := 0) (oi := _) (v := _) rfl (by kernel_rfl) (by kernel_rfl) (by kernel_rfl) (fun _ _ _ h => h) (Or.inl ⟨?_, ?_⟩) (by assumption) ?_
  rotate_left
  all_goals (try simp only [List.getElem_toArray, List.getElem_cons_succ, List.getElem_cons_zero])
  · rfl
  · intro W hSw; (try dsimp only at hSw); go_simp; (try with_reducible rfl)
  try simp only [Act.put, List.setIfInBounds_toArray, List.set_cons_zero, List.set_cons_succ]
  refine' wpAnyH_take (i := 1) (oi := _) (v := .pointer (some ⟨b, off, none⟩)) rfl (by kernel_rfl) (by kernel_rfl) (by kernel_rfl) (fun _ _ _ h => h) (Or.inl ⟨?_, ?_⟩) (by assumption) ?_
  all_goals (try simp only [List.getElem_toArray, List.getElem_cons_succ, List.getElem_cons_zero])
  · rfl
  · intro W hSw; (try dsimp only at hSw); go_simp; (try (intro hz; omega))
  try simp only [Act.put, List.setIfInBounds_toArray, List.set_cons_zero, List.set_cons_succ]
  refine' wpAnyH_take (i := 2) (oi := _) (v := _) rfl (by kernel_rfl) (by kernel_rfl) (by kernel_rfl) (fun _ _ _ h => h) (Or.inl ⟨?_, ?_⟩) (by assumption) ?_
  rotate_left
  all_goals (try simp only [List.getElem_toArray, List.getElem_cons_succ, List.getElem_cons_zero])
  · rfl
  · intro W hSw; (try dsimp only at hSw); go_simp; (try with_reducible rfl)
  try simp only [Act.put, List.setIfInBounds_toArray, List.set_cons_zero, List.set_cons_succ]
  refine' wpAnyH_take (i := 3) (oi := _) (v := _) rfl (by kernel_rfl) (by kernel_rfl) (by kernel_rfl) (fun _ _ _ h => h) (Or.inl ⟨?_, ?_⟩) (by assumption) ?_
  rotate_left
  all_goals (try simp only [List.getElem_toArray, List.getElem_cons_succ, List.getElem_cons_zero])
  · rfl
  · intro W hSw; (try dsimp only at hSw); go_simp; (try with_reducible rfl)
  try simp only [Act.put, List.setIfInBounds_toArray, List.set_cons_zero, List.set_cons_succ]
  refine' wpAnyH_take (i := 4) (oi := _) (v := _) rfl (by kernel_rfl) (by kernel_rfl) (by kernel_rfl) (fun _ _ _ h => h) (Or.inl ⟨?_, ?_⟩) (by assumption) ?_
  rotate_left
  all_goals (try simp only [List.getElem_toArray, List.getElem_cons_succ, List.getElem_cons_zero])
  · rfl
  · intro W hSw; (try dsimp only at hSw); go_simp; (try with_reducible rfl)
  try simp only [Act.put, List.setIfInBounds_toArray, List.set_cons_zero, List.set_cons_succ]
  refine' wpAnyH_take (i := 5) (oi := _) (v := .pointer (some ⟨b, off + 1, none⟩)) rfl (by kernel_rfl) (by kernel_rfl) (by kernel_rfl) (fun _ _ _ h => h) (Or.inl ⟨?_, ?_⟩) (by assumption) ?_
  all_goals (try simp only [List.getElem_toArray, List.getElem_cons_succ, List.getElem_cons_zero])
  · rfl
  · intro W hSw; (try dsimp only at hSw); go_simp; (try (intro hz; omega))
  try simp only [Act.put, List.setIfInBounds_toArray, List.set_cons_zero, List.set_cons_succ]
  refine' wpAnyH_take (i := 6) (oi := _) (v := _) rfl (by kernel_rfl) (by kernel_rfl) (by kernel_rfl) (fun _ _ _ h => h) (Or.inl ⟨?_, ?_⟩) (by assumption) ?_
  rotate_left
  all_goals (try simp only [List.getElem_toArray, List.getElem_cons_succ, List.getElem_cons_zero])
  · rfl
  · intro W hSw; (try dsimp only at hSw); go_simp; (try with_reducible rfl)
  try simp only [Act.put, List.setIfInBounds_toArray, List.set_cons_zero, List.set_cons_succ]
  refine' wpAnyH_take (i := 7) (oi := _) (v := _) rfl (by kernel_rfl) (by kernel_rfl) (by kernel_rfl) (fun _ _ _ h => h) (Or.inl ⟨?_, ?_⟩) (by assumption) ?_
  rotate_left
  all_goals (try simp only [List.getElem_toArray, List.getElem_cons_succ, List.getElem_cons_zero])
  · rfl
  · intro W hSw; (try dsimp only at hSw); go_simp; (try with_reducible rfl)
  try simp only [Act.put, List.setIfInBounds_toArray, List.set_cons_zero, List.set_cons_succ]
  refine wpAnyH_ready (rs := [8]) (by kernel_rfl) (by simp) ?_
  refine AllReadyH.cons (o := _) rfl (fun K hK => ?_) AllReadyH.nil
  try simp only [List.getElem_toArray, List.getElem_cons_succ, List.getElem_cons_zero]
  go_simp
  refine (form_any y h6 _).mono ?_; rintro e w3 ⟨⟨a1, n1, d1, rfl, hv1⟩, hbb⟩; have HV := Lib.hid (hv1.mono H2.out.size); have H3 := Lib.hid (H2.out.trans (hbb.mono H2.out.size)); have c0 : w3.cell? ⟨b, off, none⟩ = some (.int .u64 (x0 : Int)) := (H3.out.cell (p := ⟨b, off, none⟩) hbl).trans C0.out; have c1 : w3.cell? ⟨b, off + 1, none⟩ = some (.int .u64 (x1 : Int)) := (H3.out.cell (p := ⟨b, off + 1, none⟩) hbl).trans C1.out; clear hv1 hbb
  go_wp2_with fail
  refine hK.out _ _ ⟨c0, c1⟩ (fun hHeld => ?_)
  clear hK K
  try simp only [Act.put, List.setIfInBounds_toArray, List.set_cons_zero, List.set_cons_succ]
  refine' wpAnyH_take (i := 9) (oi := _) (v := _) rfl (by kernel_rfl) (by kernel_rfl) (by kernel_rfl) (fun _ _ _ h => h) (Or.inl ⟨?_, ?_⟩) (by assumption) ?_
  rotate_left
  all_goals (try simp only [List.getElem_toArray, List.getElem_cons_succ, List.getElem_cons_zero])
  · rfl
  · intro W hSw; (try dsimp only at hSw); go_simp; (try with_reducible rfl)
  try simp only [Act.put, List.setIfInBounds_toArray, List.set_cons_zero, List.set_cons_succ]
  refine wpAnyH_done (by kernel_rfl) ?_ _
  clear c0 c1
  rw [show IntKind.u64.wrap (40 * (x0 : Int)) = 40 * (x0 : Int) by simp only [IntKind.wrap, IntKind.bits, IntKind.signed]; simp; omega]
  go_wp2_with fail
  go_loopw [5, 6] (fun bv iv wr => ∃ (i : Nat) (a n c : _), iv = .int .i64 (i : Int) ∧ 2 ≤ i ∧ i ≤ len ∧ bv = .slice a n c ∧ Hid (OwnQ .u8 5 w.heap.size wr (.slice a n c) (formO y ++ ((l.take i).drop 2).flatMap formO)) ∧ Hid (Below w.heap.size w wr)) (fun _ iv _ => len + 1 - (intOf iv).toNat)
  case atStart => exact ⟨2, a1, n1, d1, rfl, by omega, by omega, rfl, Lib.hid (by
    rw [List.drop_eq_nil_of_le (by rw [List.length_take]; omega)]
    simpa using HV.out), H3⟩
  case round =>
    obtain ⟨i, a, n, c, rfl, hi2, hi, rfl, HO, HB⟩ := hrel
    by_cases hlt : i < len
    · obtain ⟨x, hx⟩ : ∃ x, l.getD i 0 = x := ⟨_, rfl⟩
      have ci : wr.cell? ⟨b, off + i, none⟩ = some (.int .u64 (x : Int)) := by
        rw [← hx, List.getD_eq_getElem?_getD]
        exact (HB.out.cell (p := ⟨b, off + i, none⟩) hbl).trans (HC.out i hlt)
      have hget := (show l[i]? = some x from by
        rw [List.getD_eq_getElem?_getD] at hx
        rw [List.getElem?_eq_getElem (by have := HL.out; omega)] at hx ⊢
        simpa using hx)
      have hx8 : x < 9223372036854775808 := HK3.out x (List.mem_of_getElem? hget)
      have HX := Lib.hid (show ((l.take (i + 1)).drop 2).flatMap formO = ((l.take i).drop 2).flatMap formO ++ formO x by
        rw [List.take_add_one, hget, Option.toList_some, List.drop_append_of_le_length (by rw [List.length_take]; have := HL.out; omega)]
        simp)
      have hbig : (formO y ++ ((l.take i).drop 2).flatMap formO).length ≤ 100000 := by
        have := formO_len y
        have := (flat_len ((l.take i).drop 2)).2
        rw [List.length_append]
        rw [List.length_drop, List.length_take] at this
        omega
      have hfx := (formO_len x).2
      clear hget hx
      go_wp2_with fail
      refine (form_any x hx8 _).mono ?_
      rintro e w5 ⟨⟨a5, n5, c5, rfl, hv5⟩, hb5⟩
      have HB5 := Lib.hid (HB.out.trans (hb5.mono HB.out.size))
      have HO5 := Lib.hid (HO.out.below hb5)
      have HV5 := Lib.hid hv5.reads
      have hfl := HV5.out.length
      clear hv5 hb5
      obtain ⟨FX, hFX⟩ : ∃ z, formO x = z := ⟨_, rfl⟩
      obtain ⟨FY, hFY⟩ : ∃ z, formO y ++ ((l.take i).drop 2).flatMap formO = z := ⟨_, rfl⟩
      rw [hFX] at HV5 hfl hfx HX
      rw [hFY] at HO5 hbig
      have HYX := Lib.hid hFY
      clear hFX hFY
      go_wp2_with (at_builtin; refine wpList_append_q .u8 _ rfl _ _ 38 rfl w.heap.size 5 1 i0 Tryd.underlying38 hi0 hz0 hz1 hz2 (by decide) _ FY rfl HO5.out _ _ _ FX rfl HV5.out (by omega) HB5.out.size ?_; intro v' w6 hown2 hgrow; obtain ⟨ta, tn, tc, rfl, -, hown2⟩ := hown2.slice; have HO6 := Lib.hid hown2; have Hw6 := Lib.hid (hgrow w HB5.out); clear hown2 hgrow)
      go_wp2
      go_roundw
      case rel =>
        refine ⟨i + 1, ta, tn, tc, by go_num, by omega, by omega, rfl, ?_, Hw6⟩
        rw [HX.out, ← List.append_assoc, HYX.out]
        exact HO6
      case measure => simp [intOf]; omega
    · have hie : i = len := by omega
      subst hie
      have HT := Lib.hid (show l.take i = l from List.take_of_length_le (by rw [HL.out]; exact Nat.le_refl _))
      go_wp2
      go_ret2
      refine ⟨⟨a, n, c, by rw [hr.out]; rfl, ?_⟩, HB.out⟩
      rw [hr.out, HBY.out, ← HT.out]
      have h9 := HO.out
      rw [HT.out] at h9 ⊢
      exact h9

end Go.Proofs.YtojphfkiblhhiaaDoor
