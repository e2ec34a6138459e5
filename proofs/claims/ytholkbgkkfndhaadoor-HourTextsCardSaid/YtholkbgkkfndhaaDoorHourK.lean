/-
  HOUR: TEXTS' ORDER IS TIMES' ORDER; the law HourRises.
-/
import Derived.Test.YtholkbgkkfndhaaDoorHourI
import Derived.BigQuiet
namespace Go.Proofs.YtholkbgkkfndhaaDoor
open Go.RowKit
set_option maxRecDepth 100000

theorem less_append : ∀ (A B X Y : List UInt8), A.length = B.length → Op.bytesLess (A ++ X) (B ++ Y) = (Op.bytesLess A B || (A == B && Op.bytesLess X Y))
  | [], [], X, Y, _ => by
    have : Op.bytesLess ([] : List UInt8) [] = false := rfl
    rw [this]; simp
  | a :: A, b :: B, X, Y, h => by
    have ih := less_append A B X Y (by simpa using h)
    simp only [List.cons_append, Op.bytesLess, ih]
    cases hab : (a == b)
    · simp [hab]
    · have h2 : (a :: A == b :: B) = (A == B) := by
        have := eq_of_beq hab
        subst this
        simp
      rw [h2]
      simp [Bool.or_assoc]

theorem dig_lt (a b : Nat) : Op.bytesLess [UInt8.ofNat (48 + a % 10)] [UInt8.ofNat (48 + b % 10)] = decide (a % 10 < b % 10) := by
  have h0 : Op.bytesLess ([] : List UInt8) [] = false := rfl
  simp only [Op.bytesLess, Bool.and_false, Bool.or_false]
  rw [decide_eq_decide, UInt8.lt_iff_toNat_lt, dig_toNat, dig_toNat]
  omega

theorem pd_eq : ∀ (k a b : Nat), a < 10 ^ k → b < 10 ^ k → (pdN k a = pdN k b ↔ a = b)
  | 0, a, b, ha, hb => by
    simp only [pdN, true_iff]
    simp at ha hb
    omega
  | k + 1, a, b, ha, hb => by
    rw [Nat.pow_succ] at ha hb
    have ih := pd_eq k (a / 10) (b / 10) (by omega) (by omega)
    constructor
    · intro h
      simp only [pdN] at h
      have h1 := List.append_inj h (by rw [pdN_length, pdN_length])
      have h2 := ih.1 h1.1
      have h3 := List.singleton_inj.1 h1.2
      have h4 := congrArg UInt8.toNat h3
      rw [dig_toNat, dig_toNat] at h4
      omega
    · rintro rfl; rfl

theorem less_pd : ∀ (k a b : Nat), a < 10 ^ k → b < 10 ^ k → Op.bytesLess (pdN k a) (pdN k b) = decide (a < b)
  | 0, a, b, ha, hb => by
    simp at ha hb
    have : ¬ a < b := by omega
    simp [pdN, Op.bytesLess, this]
  | k + 1, a, b, ha, hb => by
    rw [Nat.pow_succ] at ha hb
    simp only [pdN]
    rw [less_append _ _ _ _ (by rw [pdN_length, pdN_length]), less_pd k (a / 10) (b / 10) (by omega) (by omega), dig_lt]
    have he := pd_eq k (a / 10) (b / 10) (by omega) (by omega)
    rw [Bool.eq_iff_iff]
    simp only [Bool.or_eq_true, Bool.and_eq_true, decide_eq_true_eq, beq_iff_eq, he]
    omega

theorem pd_join (j a b : Nat) (hb : b < 100) : pdN (j + 2) (a * 100 + b) = pdN j a ++ pdN 2 b := by
  have h1 : (a * 100 + b) / 10 / 10 = a := by omega
  have h2 : (a * 100 + b) / 10 % 10 = b / 10 % 10 := by omega
  have h3 : (a * 100 + b) % 10 = b % 10 := by omega
  simp only [pdN, h1, h2, h3, List.nil_append, List.append_assoc]

/-- A text's number. -/
def numT (y m d h mi s : Nat) : Nat := ((((y * 100 + m) * 100 + d) * 100 + h) * 100 + mi) * 100 + s
theorem text_whole {y m d h mi s : Nat} (hm : m < 100) (hd : d < 100) (hh : h < 100) (hmi : mi < 100) (hs : s < 100) : textN y m d h mi s 0 = pdN 14 (numT y m d h mi s) ++ [90] := by
  unfold numT
  rw [show 14 = 12 + 2 from rfl, pd_join _ _ _ hs, show 12 = 10 + 2 from rfl, pd_join _ _ _ hmi, show 10 = 8 + 2 from rfl, pd_join _ _ _ hh, show 8 = 6 + 2 from rfl, pd_join _ _ _ hd, show 6 = 4 + 2 from rfl, pd_join _ _ _ hm]
  simp only [textN, fracN, if_true, List.append_nil, List.append_assoc]

theorem date_mono {n y m d z k u e : Int} (h : IsDate n y m d) (g : IsDate z k u e) (hnz : n < z) : (y * 100 + m) * 100 + d < (k * 100 + u) * 100 + e := by
  have h1 := in_year h
  have g1 := in_year g
  have hl := longN_ge y m
  have gl := longN_ge k u
  obtain ⟨a1, a2, a3, a4, a5, a6⟩ := h
  obtain ⟨b1, b2, b3, b4, b5, b6⟩ := g
  have ea := num_day y m d
  have eb := num_day k u e
  rcases Int.lt_trichotomy y k with hc | hc | hc
  · omega
  · subst hc
    rcases Int.lt_trichotomy m u with hc | hc | hc
    · omega
    · subst hc; omega
    · have := num_months y u m b2 hc a3 a1
      have := num_month y u b2 (by omega)
      omega
  · have := num_mono k y b1 hc; omega

theorem numT_lt {t u y m d h mi s y' m' d' h' mi' s' : Nat} (c : Clock t y m d h mi s 0) (c' : Clock u y' m' d' h' mi' s' 0) (htu : t < u) : numT y m d h mi s < numT y' m' d' h' mi' s' := by
  have e1 := c.eq
  have e2 := c'.eq
  have b1 := c.bh
  have b2 := c.bm
  have b3 := c.bs
  have b4 := c'.bh
  have b5 := c'.bm
  have b6 := c'.bs
  unfold numT
  rcases Nat.lt_trichotomy (t / 86400000) (u / 86400000) with hc | hc | hc
  · have := date_mono c.date c'.date (by omega)
    omega
  · have hd := c'.date
    rw [← hc] at hd
    obtain ⟨p1, p2, p3⟩ := date_unique c.date hd
    have p1 := Int.ofNat.inj p1
    have p2 := Int.ofNat.inj p2
    have p3 := Int.ofNat.inj p3
    subst p1 p2 p3
    rw [← hc] at e2
    generalize t / 86400000 = T at *
    have hlt : h * 3600000 + mi * 60000 + s * 1000 < h' * 3600000 + mi' * 60000 + s' * 1000 := by omega
    rcases Nat.lt_trichotomy h h' with q | q | q
    · omega
    · subst q
      rcases Nat.lt_trichotomy mi mi' with q | q | q <;> omega
    · omega
  · omega

theorem numT_lt14 {t y m d h mi s : Nat} (c : Clock t y m d h mi s 0) : numT y m d h mi s < 10 ^ 14 := by
  have := c.year
  have := c.small
  have := c.bh
  have := c.bm
  have := c.bs
  unfold numT
  omega

theorem whole_clock {t : Nat} {l : List UInt8} (h : IsText t l) (ht : t ≤ 253402300799999) (h0 : t % 1000 = 0) : ∃ y m d h mi s : Nat, Clock t y m d h mi s 0 ∧ l = textN y m d h mi s 0 := by
  obtain ⟨y, m, d, c, hl⟩ := clock_of h ht
  rw [h0] at c hl
  exact ⟨y, m, d, _, _, _, c, hl⟩

theorem text_less {t u : Nat} {S V : List UInt8} (h : IsText t S) (g : IsText u V) (ht : t ≤ 253402300799999) (hu : u ≤ 253402300799999) (h0 : t % 1000 = 0) (g0 : u % 1000 = 0) (hlt : t < u) : Op.bytesLess S V = true ∧ Op.bytesLess V S = false ∧ S ≠ V := by
  obtain ⟨y, m, d, h, mi, s, c, rfl⟩ := whole_clock h ht h0
  obtain ⟨y', m', d', h', mi', s', c', rfl⟩ := whole_clock g hu g0
  have e := numT_lt c c' hlt
  have l1 := numT_lt14 c
  have l2 := numT_lt14 c'
  have a1 := c.small
  have a2 := c.bh
  have a3 := c.bm
  have a4 := c.bs
  have b1 := c'.small
  have b2 := c'.bh
  have b3 := c'.bm
  have b4 := c'.bs
  rw [text_whole (by omega) (by omega) (by omega) (by omega) (by omega), text_whole (by omega) (by omega) (by omega) (by omega) (by omega)]
  have hz : Op.bytesLess ([90] : List UInt8) [90] = false := by decide
  refine ⟨?_, ?_, ?_⟩
  · rw [less_append _ _ _ _ (by rw [pdN_length, pdN_length]), less_pd _ _ _ l1 l2, decide_eq_true e]; rfl
  · rw [less_append _ _ _ _ (by rw [pdN_length, pdN_length]), less_pd _ _ _ l2 l1, hz, Bool.and_false, Bool.or_false, decide_eq_false (by omega)]
  · intro hh
    have := (pd_eq 14 _ _ l1 l2).1 (List.append_cancel_right hh)
    omega

theorem whole_len {t : Nat} {l : List UInt8} (h : IsText t l) (ht : t ≤ 253402300799999) (h0 : t % 1000 = 0) : l.length = 15 := by
  obtain ⟨y, m, d, h, mi, s, c, rfl⟩ := whole_clock h ht h0
  rw [text_whole]
  · rw [List.length_append, pdN_length]; rfl
  · have := c.small; omega
  · have := c.small; omega
  · have := c.bh; omega
  · have := c.bm; omega
  · have := c.bs; omega

/-- A day's first text. -/
theorem day_text {t : Nat} {l e : List UInt8} (h : IsText t l) (g : IsText (t - t % 86400000) e) (ht : t ≤ 253402300799999) : e.take 8 = l.take 8 ∧ e.drop 8 = [48, 48, 48, 48, 48, 48, 90] := by
  obtain ⟨y, m, d, c, rfl⟩ := clock_of h ht
  obtain ⟨y', m', d', c', rfl⟩ := clock_of g (by omega)
  have hd := c'.date
  rw [show (t - t % 86400000) / 86400000 = t / 86400000 by omega] at hd
  obtain ⟨p1, p2, p3⟩ := date_unique c.date hd
  have p1 := Int.ofNat.inj p1
  have p2 := Int.ofNat.inj p2
  have p3 := Int.ofNat.inj p3
  subst p1 p2 p3
  rw [show (t - t % 86400000) % 86400000 = 0 by omega, show (t - t % 86400000) % 3600000 = 0 by omega, show (t - t % 86400000) % 60000 = 0 by omega, show (t - t % 86400000) % 1000 = 0 by omega]
  have hl : (pdN 4 y ++ pdN 2 m ++ pdN 2 d).length = 8 := by simp only [List.length_append, pdN_length]
  have e1 : ∀ a b c r : Nat, textN y m d a b c r = (pdN 4 y ++ pdN 2 m ++ pdN 2 d) ++ ((pdN 2 a ++ pdN 2 b ++ pdN 2 c) ++ fracN r ++ [90]) := fun a b c r => by simp only [textN, List.append_assoc]
  rw [e1, e1, List.take_left' hl, List.take_left' hl, List.drop_left' hl]
  exact ⟨rfl, by kernel_rfl⟩

set_option maxHeartbeats 4000000 in
theorem rises_walk (a b : Nat) (ha : a < 18446744073709551616) (hb' : b < 18446744073709551616) (w : World) (hL : Libs w) : Calls Tryd.prog 7 #[.int .u64 (a : Int), .int .u64 (b : Int)] w fun e w' => e = .returned (.bool true) ∧ Below w.heap.size w w' := by
  have HL := Lib.hid hL
  obtain ⟨p, hp⟩ : ∃ n, a % 253402300800 = n := ⟨_, rfl⟩
  obtain ⟨q, hq⟩ : ∃ n, b % 253402300800 = n := ⟨_, rfl⟩
  have e1 : Int.tmod (a : Int) 253402300800 = (p : Int) := by rw [Int.tmod_eq_emod_of_nonneg (by omega)]; omega
  have e2 : Int.tmod (b : Int) 253402300800 = (q : Int) := by rw [Int.tmod_eq_emod_of_nonneg (by omega)]; omega
  have hp2 : p < 253402300800 := by omega
  have hq2 : q < 253402300800 := by omega
  obtain ⟨t, ht⟩ : ∃ n, p * 1000 = n := ⟨_, rfl⟩
  obtain ⟨u, hu⟩ : ∃ n, q * 1000 = n := ⟨_, rfl⟩
  have m1 : (p : Int) * 1000 = (t : Int) := by omega
  have m2 : (q : Int) * 1000 = (u : Int) := by omega
  have ht2 : t ≤ 253402300799999 := by omega
  have hu2 : u ≤ 253402300799999 := by omega
  have HT0 := Lib.hid (show t % 1000 = 0 by omega)
  have HU0 := Lib.hid (show u % 1000 = 0 by omega)
  obtain ⟨r, hr⟩ : ∃ n, t % 86400000 = n := ⟨_, rfl⟩
  have e3 : Int.tmod (t : Int) 86400000 = (r : Int) := by rw [Int.tmod_eq_emod_of_nonneg (by omega)]; omega
  obtain ⟨v, hv⟩ : ∃ n, t - r = n := ⟨_, rfl⟩
  have m3 : (t : Int) - (r : Int) = (v : Int) := by omega
  have hv2 : v ≤ 253402300799999 := by omega
  have HV := Lib.hid (show v = t - t % 86400000 by omega)
  have HV0 := Lib.hid (show v % 1000 = 0 by have := HT0.out; omega)
  have hr2 : r < 86400000 := by omega
  clear hL hp hq ht hu hr hv
  go_enter Tryd.func7, Tryd.ntmps7
  go_wp2_with fail
  refine (alive_h _ HL.out).mono ?_
  rintro e w1 ⟨rfl, hb⟩
  have HB := Lib.hid hb
  clear hb
  go_wp2_with fail
  refine (general_yes t ht2 _ (HL.out.below HB.out).tab).mono ?_
  rintro e w2 ⟨S, rfl, hS, hb⟩
  have HS := Lib.hid hS
  have HB := Lib.hid (HB.out.trans (hb.mono HB.out.size))
  clear hb
  clear hS
  go_wp2_with fail
  refine (general_yes u hu2 _ (HL.out.below HB.out).tab).mono ?_
  rintro e w3 ⟨V, rfl, hV, hb⟩
  have HVV := Lib.hid hV
  have HB := Lib.hid (HB.out.trans (hb.mono HB.out.size))
  clear hb
  clear hV
  go_wp2_with fail
  refine (general_yes v hv2 _ (HL.out.below HB.out).tab).mono ?_
  rintro e w4 ⟨E, rfl, hE, hb⟩
  have HE := Lib.hid hE
  have HB := Lib.hid (HB.out.trans (hb.mono HB.out.size))
  clear hb
  clear hE
  have lS := whole_len HS.out ht2 HT0.out
  have lE := whole_len HE.out hv2 HV0.out
  have hday := day_text HS.out (HV.out ▸ HE.out) ht2
  have zS : (⟨S.toArray⟩ : ByteArray).size = 15 := by show S.toArray.size = _; rw [List.size_toArray, lS]
  have zE : (⟨E.toArray⟩ : ByteArray).size = 15 := by show E.toArray.size = _; rw [List.size_toArray, lE]
  have x1 : (⟨E.toArray⟩ : ByteArray).extract 0 8 = ⟨(S.take 8).toArray⟩ := by rw [str_to, hday.1]
  have x2 : (⟨S.toArray⟩ : ByteArray).extract 0 8 = ⟨(S.take 8).toArray⟩ := str_to _ _
  have x3 : (⟨E.toArray⟩ : ByteArray).extract 8 15 = ⟨#[48, 48, 48, 48, 48, 48, 90]⟩ := by rw [← lE, str_from, hday.2]
  have hcmp : (t < u ∧ Op.bytesLess S V = true ∧ (S == V) = false) ∨ (t = u ∧ S = V) ∨ (u < t ∧ Op.bytesLess S V = false ∧ (S == V) = false) := by
    rcases Nat.lt_trichotomy t u with h | h | h
    · have := text_less HS.out HVV.out ht2 hu2 HT0.out HU0.out h
      exact .inl ⟨h, this.1, str_ne this.2.2⟩
    · exact .inr (.inl ⟨h, by subst h; exact text_unique HS.out HVV.out⟩)
    · have := text_less HVV.out HS.out hu2 ht2 HU0.out HT0.out h
      exact .inr (.inr ⟨h, this.2.1, str_ne this.2.2.symm⟩)
  generalize S.take 8 = F at *
  clear hday m1 m2 m3 e1 e2 e3 lS lE
  rcases hcmp with ⟨h1, h2, h3⟩ | ⟨rfl, rfl⟩ | ⟨h1, h2, h3⟩
  · skip
    have d1 : decide ((t : Int) < (u : Int)) = true := by simp; omega
    have d2 : ((t : Int) == (u : Int)) = false := by simp; omega
    go_wp2_with fail
    go_big_quiet (fail)
    go_wp2
    go_ret
    exact ⟨rfl, below_drewN HB.out nq⟩
  · skip
    have d1 : decide ((t : Int) < (t : Int)) = false := by simp
    have h2 : Op.bytesLess S S = false := by
      have : ∀ l : List UInt8, Op.bytesLess l l = false := fun l => by
        induction l with
        | nil => rfl
        | cons a r ih => simp [Op.bytesLess, ih]
      exact this S
    go_wp2_with fail
    go_big_quiet (fail)
    go_wp2
    go_ret
    exact ⟨rfl, below_drewN HB.out nq⟩
  · skip
    have d4 : decide (t < u) = false := by simp; omega
    have d5 : ¬ t < u := by omega
    have d6 : ¬ (t : Int) < (u : Int) := by omega
    have d1 : decide ((t : Int) < (u : Int)) = false := by simp; omega
    have d2 : ((t : Int) == (u : Int)) = false := by simp; omega
    go_wp2_with fail
    go_big_quiet (fail)
    go_wp2
    go_ret
    exact ⟨rfl, below_drewN HB.out nq⟩
end Go.Proofs.YtholkbgkkfndhaaDoor
