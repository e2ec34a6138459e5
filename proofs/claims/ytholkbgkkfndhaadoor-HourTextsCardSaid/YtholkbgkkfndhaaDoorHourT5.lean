/-
  HOUR: THE REFERENCE's ReadGeneral. (Written by wip/gen_hourT5.py.)
-/
import Derived.Test.YtholkbgkkfndhaaDoorHourT4
namespace Go.Proofs.YtholkbgkkfndhaaDoor
open Go.RowKit
set_option maxRecDepth 100000

theorem tmod_nat (a b c : Nat) (h : a % b = c) : Int.tmod (a : Int) (b : Int) = (c : Int) := by
  rw [Int.tmod_eq_emod_of_nonneg (by omega)]
  subst h
  exact (Int.natCast_emod a b).symm

set_option maxHeartbeats 4000000 in
theorem refreadgeneral_any (s : List UInt8) (hs : s.length ≤ 1000) (w : World) :
    Calls Tryd.prog 14 #[.string ⟨s.toArray⟩] w fun e w' => RetsRead s e ∧ Below w.heap.size w w' := by
  have HR := Lib.hid (fun (n : Nat) (hn : n ≤ 253402300799999) (h : IsText n s) => text_reads h hn)
  have HB := Lib.hid (Below.refl w.heap.size w)
  by_cases h1 : s.length < 15
  · have d1 : decide ((s.length : Int) < 15) = true := decide_eq_true (by omega)
    have d1n : decide (s.length < 15) = true := decide_eq_true h1
    have HNO := Lib.hid (show ∀ n : Nat, n ≤ 253402300799999 → ¬ IsText n s from fun n hn ht => by have := (HR.out n hn ht).2.1; omega)
    clear h1
    go_enter Tryd.func14, Tryd.ntmps14
    go_wp2
    go_ret2
    exact ⟨.inr ⟨HNO.out, rfl⟩, HB.out⟩
  have d1 : decide ((s.length : Int) < 15) = false := decide_eq_false (by omega)
  have d1n : decide (s.length < 15) = false := decide_eq_false h1
  by_cases h2 : 19 < s.length
  · have d2 : decide ((19 : Int) < (s.length : Int)) = true := decide_eq_true (by omega)
    have d2n : decide (19 < s.length) = true := decide_eq_true h2
    have HNO := Lib.hid (show ∀ n : Nat, n ≤ 253402300799999 → ¬ IsText n s from fun n hn ht => by have := (text_length ht).2; omega)
    clear h2
    go_enter Tryd.func14, Tryd.ntmps14
    go_wp2
    go_ret2
    exact ⟨.inr ⟨HNO.out, rfl⟩, HB.out⟩
  have d2 : decide ((19 : Int) < (s.length : Int)) = false := decide_eq_false (by omega)
  have d2n : decide (19 < s.length) = false := decide_eq_false h2
  by_cases h3 : s.length = 16
  · have d3 : ((s.length : Int) == 16) = true := beq_iff_eq.2 (by omega)
    have d3n : (s.length == 16) = true := beq_iff_eq.2 h3
    have HNO := Lib.hid (show ∀ n : Nat, n ≤ 253402300799999 → ¬ IsText n s from fun n hn ht => by
        obtain ⟨-, -, -, r, -, -, hc⟩ := HR.out n hn ht
        rcases hc with ⟨h, -⟩ | ⟨-, k, m, ⟨hp, -⟩, h, -⟩ <;> omega)
    clear h3
    go_enter Tryd.func14, Tryd.ntmps14
    go_wp2
    go_ret2
    exact ⟨.inr ⟨HNO.out, rfl⟩, HB.out⟩
  have d3 : ((s.length : Int) == 16) = false := beq_eq_false_iff_ne.2 (by omega)
  have d3n : (s.length == 16) = false := beq_eq_false_iff_ne.2 h3
  obtain ⟨z, hz⟩ : ∃ z, s[s.length - 1]? = some z := ⟨_, List.getElem?_eq_getElem (by omega)⟩
  have hxz := run_strH s ((s.length : Int) - 1) (s.length - 1) z (by omega) hz
  have HZ := Lib.hid hz
  clear hz
  by_cases h4 : z = 90
  rotate_left
  · have z90 : z.toNat ≠ 90 := fun e => h4 (UInt8.toNat_inj.1 e)
    have d4 : ((z.toNat : Int) != 90) = true := bne_iff_ne.2 (by omega)
    have d4n : (z.toNat != 90) = true := bne_iff_ne.2 z90
    have HNO := Lib.hid (show ∀ n : Nat, n ≤ 253402300799999 → ¬ IsText n s from fun n hn ht => by have := (HR.out n hn ht).2.2.1; rw [HZ.out] at this; exact h4 (Option.some.inj this))
    clear h4
    go_enter Tryd.func14, Tryd.ntmps14
    go_wp2
    go_ret2
    exact ⟨.inr ⟨HNO.out, rfl⟩, HB.out⟩
  have d4 : ((z.toNat : Int) != 90) = false := by rw [h4]; rfl
  have d4n : (z.toNat != 90) = false := by rw [h4]; rfl
  have HZ := Lib.hid (show s[s.length - 1]? = some 90 by rw [HZ.out, h4])
  clear h4
  obtain ⟨A, hA⟩ : ∃ A, s.take 14 = A := ⟨_, rfl⟩
  have hct := run_toH s 14 A 14 rfl (by omega) hA
  have lA : A.length = 14 := by rw [← hA, List.length_take]; omega
  have HR := Lib.hid (show ∀ n : Nat, n ≤ 253402300799999 → IsText n s → DigH A ∧ ∃ r, GoodH (valH A) r ∧ ((s.length = 15 ∧ r = 0) ∨ (s[14]? = some 46 ∧ ∃ k m, PartH r k m ∧ s.length = 16 + k ∧ (s.take (s.length - 1)).drop 15 = pdN k m)) from fun n hn ht => by
    obtain ⟨h1, -, -, r, g, -, hc⟩ := HR.out n hn ht
    rw [hA] at h1 g
    exact ⟨h1, r, g, hc⟩)
  have HA := Lib.hid hA
  clear hA
  go_enter Tryd.func14, Tryd.ntmps14
  go_wp2_with fail
  refine (refnumber_any A (by omega) _).mono ?_
  rintro e w1 ⟨hv, hb⟩
  have HB := Lib.hid (HB.out.trans hb)
  clear hb hct
  rcases hv with ⟨hdig, rfl⟩ | ⟨hdig, rfl⟩
  rotate_left
  · skip
    have HNO := Lib.hid (show ∀ n : Nat, n ≤ 253402300799999 → ¬ IsText n s from fun n hn ht => hdig (HR.out n hn ht).1)
    clear hdig
    go_wp2
    go_ret2
    exact ⟨.inr ⟨HNO.out, rfl⟩, HB.out⟩
  have hv14 := valH_lt _ hdig
  rw [lA] at hv14
  replace hv14 : valH A < 100000000000000 := hv14
  have HDG := Lib.hid hdig
  clear hdig
  obtain ⟨a, ha⟩ : ∃ a, valH A = a := ⟨_, rfl⟩
  rw [ha] at hv14 ⊢
  have hn0 : decide ((a : Int) < 0) = false := decide_eq_false (by omega)
  have HVA := Lib.hid ha
  clear ha
  obtain ⟨y, hy⟩ : ∃ q, a / 10000000000 = q := ⟨_, rfl⟩
  have iy : (a : Int) / 10000000000 = (y : Int) := by rw [← hy]; exact (Int.natCast_ediv a 10000000000).symm
  have cy : y < 10000 := by rw [← hy]; exact Nat.div_lt_of_lt_mul (Nat.lt_of_lt_of_le hv14 (by decide))
  obtain ⟨q8, hq8⟩ : ∃ q, a / 100000000 = q := ⟨_, rfl⟩
  have iq8 : (a : Int) / 100000000 = (q8 : Int) := by rw [← hq8]; exact (Int.natCast_ediv a 100000000).symm
  have cq8 : q8 < 1000000 := by rw [← hq8]; exact Nat.div_lt_of_lt_mul (Nat.lt_of_lt_of_le hv14 (by decide))
  obtain ⟨q6, hq6⟩ : ∃ q, a / 1000000 = q := ⟨_, rfl⟩
  have iq6 : (a : Int) / 1000000 = (q6 : Int) := by rw [← hq6]; exact (Int.natCast_ediv a 1000000).symm
  have cq6 : q6 < 100000000 := by rw [← hq6]; exact Nat.div_lt_of_lt_mul (Nat.lt_of_lt_of_le hv14 (by decide))
  obtain ⟨q4, hq4⟩ : ∃ q, a / 10000 = q := ⟨_, rfl⟩
  have iq4 : (a : Int) / 10000 = (q4 : Int) := by rw [← hq4]; exact (Int.natCast_ediv a 10000).symm
  have cq4 : q4 < 10000000000 := by rw [← hq4]; exact Nat.div_lt_of_lt_mul (Nat.lt_of_lt_of_le hv14 (by decide))
  obtain ⟨q2, hq2⟩ : ∃ q, a / 100 = q := ⟨_, rfl⟩
  have iq2 : (a : Int) / 100 = (q2 : Int) := by rw [← hq2]; exact (Int.natCast_ediv a 100).symm
  have cq2 : q2 < 1000000000000 := by rw [← hq2]; exact Nat.div_lt_of_lt_mul (Nat.lt_of_lt_of_le hv14 (by decide))
  obtain ⟨m, hm⟩ : ∃ q, q8 % 100 = q := ⟨_, rfl⟩
  have im : Int.tmod (q8 : Int) 100 = (m : Int) := tmod_nat q8 100 m hm
  have bm : m < 100 := by rw [← hm]; exact Nat.mod_lt _ (by decide)
  obtain ⟨d, hd⟩ : ∃ q, q6 % 100 = q := ⟨_, rfl⟩
  have id : Int.tmod (q6 : Int) 100 = (d : Int) := tmod_nat q6 100 d hd
  have bd : d < 100 := by rw [← hd]; exact Nat.mod_lt _ (by decide)
  obtain ⟨h, hh⟩ : ∃ q, q4 % 100 = q := ⟨_, rfl⟩
  have ih : Int.tmod (q4 : Int) 100 = (h : Int) := tmod_nat q4 100 h hh
  have bh : h < 100 := by rw [← hh]; exact Nat.mod_lt _ (by decide)
  obtain ⟨mi, hmi⟩ : ∃ q, q2 % 100 = q := ⟨_, rfl⟩
  have imi : Int.tmod (q2 : Int) 100 = (mi : Int) := tmod_nat q2 100 mi hmi
  have bmi : mi < 100 := by rw [← hmi]; exact Nat.mod_lt _ (by decide)
  obtain ⟨c, hc⟩ : ∃ q, a % 100 = q := ⟨_, rfl⟩
  have ic : Int.tmod (a : Int) 100 = (c : Int) := tmod_nat a 100 c hc
  have bc : c < 100 := by rw [← hc]; exact Nat.mod_lt _ (by decide)
  have HG := Lib.hid (show ∀ r, GoodH a r ↔ (DateOk (y : Int) (m : Int) (d : Int) ∧ h ≤ 23 ∧ mi ≤ 59 ∧ c ≤ 59 ∧ r < 1000) from fun r => by
    unfold GoodH
    rw [hy, hq8, hm, hq6, hd, hq4, hh, hq2, hmi, hc]
    exact ⟨fun g => g.2, fun g => ⟨hv14, g⟩⟩)
  have HTM := Lib.hid (show ∀ r, timeH a r = (numN (y : Int) (m : Int) (d : Int)).toNat * 86400000 + (3600 * h + 60 * mi + c) * 1000 + r from fun r => by
    unfold timeH
    rw [hy, hq8, hm, hq6, hd, hq4, hh, hq2, hmi, hc])
  clear hy hq8 hm hq6 hd hq4 hh hq2 hmi hc
  have HR := Lib.hid (show ∀ n : Nat, n ≤ 253402300799999 → IsText n s → ∃ r, (DateOk (y : Int) (m : Int) (d : Int) ∧ h ≤ 23 ∧ mi ≤ 59 ∧ c ≤ 59 ∧ r < 1000) ∧ ((s.length = 15 ∧ r = 0) ∨ (s[14]? = some 46 ∧ ∃ k m, PartH r k m ∧ s.length = 16 + k ∧ (s.take (s.length - 1)).drop 15 = pdN k m)) from fun n hn ht => by
    obtain ⟨-, r, g, hc⟩ := HR.out n hn ht
    rw [HVA.out] at g
    exact ⟨r, (HG.out r).1 g, hc⟩)
  go_wp2_with fail
  refine (refdays_any (y : Int) (m : Int) (d : Int) _ (by omega) (by omega)).mono ?_
  rintro e w2 ⟨rfl, hb⟩
  have HB := Lib.hid (HB.out.trans (hb.mono HB.out.size))
  clear hb
  by_cases hok : DateOk (y : Int) (m : Int) (d : Int)
  rotate_left
  · rw [daysR_no hok]
    have HNO := Lib.hid (show ∀ n : Nat, n ≤ 253402300799999 → ¬ IsText n s from fun n hn ht => by obtain ⟨r, g, -⟩ := HR.out n hn ht; exact hok g.1)
    clear hok
    go_wp2
    go_ret2
    exact ⟨.inr ⟨HNO.out, rfl⟩, HB.out⟩
  rw [daysR_yes hok]
  obtain ⟨DD, hDD⟩ : ∃ DD : Nat, numN (y : Int) (m : Int) (d : Int) = (DD : Int) ∧ DD ≤ 2932896 := by
    obtain ⟨d1, d2, d3, d4, d5, d6⟩ := hok
    have hl := (longN_ge (y : Int) (m : Int)).2
    have hr := num_range (y : Int) (m : Int) (d : Int) d1 d2 d3 d4 d5 (by omega)
    exact ⟨(numN (y : Int) (m : Int) (d : Int)).toNat, by omega, by omega⟩
  obtain ⟨hD1, hD2⟩ := hDD
  have HOK := Lib.hid hok
  have HTM := Lib.hid (show ∀ r, timeH a r = DD * 86400000 + (3600 * h + 60 * mi + c) * 1000 + r from fun r => by rw [HTM.out r, hD1, Int.toNat_natCast])
  rw [hD1]
  clear hok hD1
  by_cases kh : 23 < h
  · have eh : decide ((23 : Int) < (h : Int)) = true := decide_eq_true (by omega)
    have ehn : decide (23 < h) = true := decide_eq_true kh
    have HNO := Lib.hid (show ∀ n : Nat, n ≤ 253402300799999 → ¬ IsText n s from fun n hn ht => by obtain ⟨r, g, -⟩ := HR.out n hn ht; have := g.2; omega)
    go_wp2
    go_ret2
    exact ⟨.inr ⟨HNO.out, rfl⟩, HB.out⟩
  have eh : decide ((23 : Int) < (h : Int)) = false := decide_eq_false (by omega)
  have ehn : decide (23 < h) = false := decide_eq_false kh
  by_cases kmi : 59 < mi
  · have emi : decide ((59 : Int) < (mi : Int)) = true := decide_eq_true (by omega)
    have emin : decide (59 < mi) = true := decide_eq_true kmi
    have HNO := Lib.hid (show ∀ n : Nat, n ≤ 253402300799999 → ¬ IsText n s from fun n hn ht => by obtain ⟨r, g, -⟩ := HR.out n hn ht; have := g.2; omega)
    go_wp2
    go_ret2
    exact ⟨.inr ⟨HNO.out, rfl⟩, HB.out⟩
  have emi : decide ((59 : Int) < (mi : Int)) = false := decide_eq_false (by omega)
  have emin : decide (59 < mi) = false := decide_eq_false kmi
  by_cases kc : 59 < c
  · have ec : decide ((59 : Int) < (c : Int)) = true := decide_eq_true (by omega)
    have ecn : decide (59 < c) = true := decide_eq_true kc
    have HNO := Lib.hid (show ∀ n : Nat, n ≤ 253402300799999 → ¬ IsText n s from fun n hn ht => by obtain ⟨r, g, -⟩ := HR.out n hn ht; have := g.2; omega)
    go_wp2
    go_ret2
    exact ⟨.inr ⟨HNO.out, rfl⟩, HB.out⟩
  have ec : decide ((59 : Int) < (c : Int)) = false := decide_eq_false (by omega)
  have ecn : decide (59 < c) = false := decide_eq_false kc
  have HOK := Lib.hid (show ∀ r, r < 1000 → GoodH a r from fun r hr => (HG.out r).2 ⟨HOK.out, by omega, by omega, by omega, hr⟩)
  by_cases h15 : s.length = 15
  · have g1 : decide ((15 : Int) < (s.length : Int)) = false := decide_eq_false (by omega)
    have g1n : decide (15 < s.length) = false := decide_eq_false (by omega)
    have HF := Lib.hid (show IsText (timeH a 0) s ∧ timeH a 0 ≤ 253402300799999 from by
      have h9 := good_bare (s := s) (by rw [HA.out]; exact HDG.out) h15 (by have := HZ.out; rw [h15] at this; exact this) (by rw [HA.out, HVA.out]; exact HOK.out 0 (by decide))
      rw [HA.out, HVA.out] at h9
      exact h9)
    clear h15
    go_wp2
    go_ret2
    have e9 : ((timeH a 0 : Nat) : Int) = (DD : Int) * 86400000 + (3600 * (h : Int) + 60 * (mi : Int) + (c : Int)) * 1000 := by rw [HTM.out 0]; omega
    exact ⟨.inl ⟨timeH a 0, HF.out.2, HF.out.1, by rw [e9]; rfl⟩, HB.out⟩
  have g1 : decide ((15 : Int) < (s.length : Int)) = true := decide_eq_true (by omega)
  have g1n : decide (15 < s.length) = true := decide_eq_true (by omega)
  obtain ⟨k, hk⟩ : ∃ k, s.length = 16 + k := ⟨s.length - 16, by omega⟩
  obtain ⟨f, hf⟩ : ∃ f, (s.take (s.length - 1)).drop 15 = f := ⟨_, rfl⟩
  have hcf := run_cutH s 15 (s.length - 1) f 15 ((s.length : Int) - 1) rfl (by omega) (by omega) (by omega) hf
  have lf : f.length = k := by rw [← hf, List.length_drop, List.length_take]; omega
  obtain ⟨x, hx⟩ : ∃ x, s[14]? = some x := ⟨_, List.getElem?_eq_getElem (by omega)⟩
  have hxx := run_strH s 14 14 x rfl hx
  have hk1 : 1 ≤ k := by omega
  have hk3 : k ≤ 3 := by omega
  have HR := Lib.hid (show ∀ n : Nat, n ≤ 253402300799999 → IsText n s → x = 46 ∧ ∃ m, m < 10 ^ k ∧ m % 10 ≠ 0 ∧ f = pdN k m from fun n hn ht => by
    obtain ⟨r, -, hc⟩ := HR.out n hn ht
    rcases hc with ⟨h, -⟩ | ⟨h1, k', m, ⟨-, -, p3, p4, -⟩, h2, h3⟩
    · omega
    · obtain rfl : k = k' := by omega
      rw [hx] at h1
      exact ⟨Option.some.inj h1, m, p3, p4, by rw [← hf]; exact h3⟩)
  have HX := Lib.hid hx
  have HF := Lib.hid hf
  have HK := Lib.hid hk
  clear hx hf hk h15
  go_wp2_with fail
  refine (refnumber_any f (by omega) _).mono ?_
  rintro e w3 ⟨hv, hb⟩
  have HB := Lib.hid (HB.out.trans (hb.mono HB.out.size))
  clear hb hcf
  rcases hv with ⟨hdig, rfl⟩ | ⟨hdig, rfl⟩
  rotate_left
  · skip
    have HNO := Lib.hid (show ∀ n : Nat, n ≤ 253402300799999 → ¬ IsText n s from fun n hn ht => by obtain ⟨-, m, -, -, e⟩ := HR.out n hn ht; exact hdig (by rw [e]; exact dig_pd _ _))
    clear hdig
    by_cases h46 : x = 46
    · skip
      have t1 : ((x.toNat : Int) != 46) = false := by rw [h46]; rfl
      have t1n : (x.toNat != 46) = false := by rw [h46]; rfl
      clear h46
      go_wp2
      go_ret2
      exact ⟨.inr ⟨HNO.out, rfl⟩, HB.out⟩
    · skip
      have x46 : x.toNat ≠ 46 := fun e => h46 (UInt8.toNat_inj.1 e)
      have t1 : ((x.toNat : Int) != 46) = true := bne_iff_ne.2 (by omega)
      have t1n : (x.toNat != 46) = true := bne_iff_ne.2 x46
      clear h46
      go_wp2
      go_ret2
      exact ⟨.inr ⟨HNO.out, rfl⟩, HB.out⟩
  have hv3 := valH_lt _ hdig
  rw [lf] at hv3
  have HDF := Lib.hid hdig
  clear hdig
  obtain ⟨v, hv⟩ : ∃ v, valH f = v := ⟨_, rfl⟩
  rw [hv] at hv3 ⊢
  have hv1000 : v < 1000 := Nat.lt_of_lt_of_le hv3 (Nat.le_trans (Nat.pow_le_pow_right (by decide) hk3) (by decide))
  have HV := Lib.hid hv
  have HV3 := Lib.hid hv3
  clear hv hv3
  have hv0 : decide ((v : Int) < 0) = false := decide_eq_false (by omega)
  by_cases h46 : x = 46
  rotate_left
  · skip
    have HNO := Lib.hid (show ∀ n : Nat, n ≤ 253402300799999 → ¬ IsText n s from fun n hn ht => h46 (HR.out n hn ht).1)
    have x46 : x.toNat ≠ 46 := fun e => h46 (UInt8.toNat_inj.1 e)
    have t1 : ((x.toNat : Int) != 46) = true := bne_iff_ne.2 (by omega)
    have t1n : (x.toNat != 46) = true := bne_iff_ne.2 x46
    clear h46
    go_wp2
    go_ret2
    exact ⟨.inr ⟨HNO.out, rfl⟩, HB.out⟩
  have t1 : ((x.toNat : Int) != 46) = false := by rw [h46]; rfl
  have t1n : (x.toNat != 46) = false := by rw [h46]; rfl
  obtain ⟨u, hu⟩ : ∃ q, v % 10 = q := ⟨_, rfl⟩
  have iu : Int.tmod (v : Int) 10 = (u : Int) := tmod_nat v 10 u hu
  have bu : u < 10 := by rw [← hu]; exact Nat.mod_lt _ (by decide)
  by_cases hu0 : u = 0
  · have t2 : ((u : Int) == 0) = true := beq_iff_eq.2 (by omega)
    have t2n : (u == 0) = true := beq_iff_eq.2 hu0
    have HNO := Lib.hid (show ∀ n : Nat, n ≤ 253402300799999 → ¬ IsText n s from fun n hn ht => by
        obtain ⟨-, m, p1, p2, e⟩ := HR.out n hn ht
        have h9 := HV.out
        rw [e, val_pd, Nat.mod_eq_of_lt p1] at h9
        omega)
    clear hu0 h46 hu
    go_wp2
    go_ret2
    exact ⟨.inr ⟨HNO.out, rfl⟩, HB.out⟩
  have t2 : ((u : Int) == 0) = false := beq_eq_false_iff_ne.2 (by omega)
  have t2n : (u == 0) = false := beq_eq_false_iff_ne.2 hu0
  obtain ⟨r, hr⟩ : ∃ r, v * 10 ^ (3 - k) = r := ⟨_, rfl⟩
  have HPT := Lib.hid (show PartH r k v from ⟨hk1, hk3, HV3.out, by omega, hr.symm⟩)
  have hr1000 := HPT.out.small.2
  have HFT := Lib.hid (show IsText (timeH a r) s ∧ timeH a r ≤ 253402300799999 from by
    have h9 := good_part (s := s) (k := k) (m := v) (r := r) (by rw [HA.out]; exact HDG.out) HK.out (by rw [HX.out, h46]) HZ.out (by rw [HF.out]; exact HDF.out) (by rw [HF.out]; exact HV.out.symm) HPT.out (by rw [HA.out, HVA.out]; exact HOK.out r hr1000)
    rw [HA.out, HVA.out] at h9
    exact h9)
  have HRV := Lib.hid hr
  have HLF := Lib.hid lf
  have flen : (f.length : Int) = (k : Int) := by rw [lf]
  clear hu0 h46 hu hr lf
  go_wp2_with fail
  go_loopw [10, 13] (fun mv jv wr => ∃ (j mm : Nat), jv = .int .i64 (j : Int) ∧ mv = .int .i64 (mm : Int) ∧ j ≤ 3 ∧ k ≤ j ∧ mm < 1000 ∧ Hid (mm * 10 ^ (3 - j) = r) ∧ Hid (Below w.heap.size w wr)) (fun _ jv _ => 4 - (intOf jv).toNat)
  case atStart => exact ⟨k, v, by first | rfl | rw [flen], rfl, hk3, by omega, hv1000, HRV, HB⟩
  case round =>
    obtain ⟨j, mm, rfl, rfl, hj3, hkj, hmm, HM, HB⟩ := hrel
    by_cases hj : j < 3
    · have hmr := Lib.hid (show 10 * mm < 1000 ∧ 10 * mm * 10 ^ (3 - (j + 1)) = r from by
        have h9 := HM.out
        rw [show 3 - j = (3 - (j + 1)) + 1 by omega, Nat.pow_succ, Nat.mul_comm (10 ^ (3 - (j + 1))) 10, ← Nat.mul_assoc, Nat.mul_comm mm 10] at h9
        refine ⟨Nat.lt_of_le_of_lt ?_ hr1000, h9⟩
        rw [← h9]
        exact Nat.le_mul_of_pos_right _ (Nat.pow_pos (by decide)))
      have HM2 := Lib.hid hmr.out.2
      have hm10 := hmr.out.1
      have q1 : decide ((j : Int) < 3) = true := decide_eq_true (by omega)
      go_wp2
      go_roundw
      case rel => exact ⟨j + 1, 10 * mm, by go_num, by go_num, by omega, by omega, hm10, HM2, HB⟩
      case measure => simp [intOf]; omega
    · have hmr : mm = r := by
        have h9 := HM.out
        rw [show 3 - j = 0 by omega] at h9
        simpa using h9
      subst hmr
      have q1 : decide ((j : Int) < 3) = false := decide_eq_false (by omega)
      go_wp2
      go_ret2
      exact ⟨.inl ⟨timeH a mm, HFT.out.2, HFT.out.1, by rw [HTM.out mm]; congr 4 <;> omega⟩, HB.out⟩
end Go.Proofs.YtholkbgkkfndhaaDoor
