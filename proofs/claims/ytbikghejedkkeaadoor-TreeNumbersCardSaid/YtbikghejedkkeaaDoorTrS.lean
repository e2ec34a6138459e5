/-
  THE LAW TreeNumbers, walked: a number is read from its node as it was.
-/
import Derived.Test.YtbikghejedkkeaaDoorTrR
import Derived.Deep.Cut
namespace Go.Proofs.YtbikghejedkkeaaDoor
open Go.RowKit

theorem wrong_int {l : List Nat} (h : intB l = true) : wrongR qI (.mk 0 2 false l []) = (0, -1) := by
  have hb : brokenN qI (.mk 0 2 false l []) = 0 := (brokenI (T := .mk 0 2 false l []) rfl (.inl rfl)).2 ⟨rfl, rfl, h⟩
  show (if deepB [(1, Tr.mk 0 2 false l [])] then ((5 : Int), (0 : Int)) else ((wfold qI [(1, Tr.mk 0 2 false l [])]).1, (wfold qI [(1, Tr.mk 0 2 false l [])]).2.1)) = (0, -1)
  rw [if_neg (by simp [deepB])]
  show ((wstep qI (0, -1, 0) (1, Tr.mk 0 2 false l [])).1, (wstep qI (0, -1, 0) (1, Tr.mk 0 2 false l [])).2.1) = (0, -1)
  unfold wstep
  rw [if_neg (by decide), if_pos rfl, if_pos hb]

theorem check_int (l : List Nat) (h : intB l = true) (V : NV) (w : World) (hn : NodeAt w V (.mk 0 2 false l [])) : Calls Tryd.prog 12 #[V.agg] w fun e w' => e = .returned (.int .i64 0) ∧ Below w.heap.size w w' := by
  have := check_any (fun _ => True) (fun _ _ h _ => h) qI V _ w hn (by simp [Tr.cnt, cntL]) (by simp [Tr.dep, depL]) trivial (fun p hp => by
    simp only [Tr.nodes, nodesL, List.mem_singleton] at hp
    subst hp
    exact wantedI 2 (.inl rfl))
  rw [wrong_int h] at this
  exact this

theorem same_int (n m : Int) (hn : valI (intL n) = n) (hm : valI (intL m) = m) : sameB (.mk 0 2 false (intL n) []) (.mk 0 2 false (intL m) []) = decide (n = m) := by
  rw [Bool.eq_iff_iff, sameB_iff, decide_eq_true_eq]
  constructor
  · intro h
    have : intL n = intL m := by injection h
    rw [← hn, ← hm, this]
  · rintro rfl; rfl

set_option maxRecDepth 100000 in
set_option maxHeartbeats 8000000 in
theorem numbers_1 (n m : Int) (w : World) (hn1 : -9223372036854775808 ≤ n) (hn2 : n ≤ 9223372036854775807) (hm1 : -9223372036854775808 ≤ m) (hm2 : m ≤ 9223372036854775807) (s' : Nat) (hF : IntF n 1) (hF' : IntF m s') (hs1 : 1 ≤ s') (hs8 : s' ≤ 8) (h1 : -128 ≤ n) (h2 : n < 128) (hu : 0 ≤ n → n ≤ m → 1 ≤ s') (hd : n < 0 → m ≤ n → 1 ≤ s') :
    Calls Tryd.prog 5 #[.int .i64 n, .int .i64 m] w fun e w' => e = .returned (.bool true) ∧ Below w.heap.size w w' := by
  have HF := Lib.hid hF
  have HF' := Lib.hid hF'
  have HSB := Lib.hid (same_int n m hF.val hF'.val)
  have HBN := Lib.hid (And.intro (And.intro hn1 hn2) (And.intro hm1 hm2))
  have HUD := Lib.hid (And.intro hu hd)
  have HH := Lib.hid (And.intro h1 h2)
  clear hF hF' hu hd hn1 hn2 hm1 hm2
  go_enter Tryd.func5, Tryd.ntmps5
  go_wp2_with fail
  refine (alive_t w).mono ?_
  rintro e w1 ⟨rfl, hb1⟩
  have HB := Lib.hid hb1
  clear hb1
  go_wp2_with fail
  refine (int_any n w1 HBN.out.1.1 HBN.out.1.2).mono ?_
  rintro e w2 ⟨⟨V1, rfl, hv1⟩, hb2⟩
  have HX := Lib.hid hv1.node
  have HB := Lib.hid (HB.out.trans (hb2.mono HB.out.size))
  clear hv1 hb2
  go_wp2_with fail
  refine (int_any m w2 HBN.out.2.1 HBN.out.2.2).mono ?_
  rintro e w3 ⟨⟨V2, rfl, hv2⟩, hb3⟩
  have HX := Lib.hid (HX.out.under hb3)
  have HY := Lib.hid hv2.node
  have HB := Lib.hid (HB.out.trans (hb3.mono HB.out.size))
  clear hv2 hb3
  obtain ⟨xc, xt, xk, xa, xl, xm, ya, yl, ym⟩ := V1
  obtain ⟨uc, ut, uk, ua, ul, um, va, vl, vm⟩ := V2
  have hxl : xl = 1 := HX.out.bytes.length.symm.trans HF.out.len
  have hul : ul = s' := HY.out.bytes.length.symm.trans HF'.out.len
  subst hxl hul
  unfold NV.agg
  dsimp only
  go_wp2_with fail
  obtain ⟨u1, hu1⟩ : ∃ u, w3.alloc (.cells #[.int .i64 xc, .int .i64 xt, .bool xk, .slice xa 1 xm, .slice ya yl ym] 25) = u := ⟨_, rfl⟩
  obtain ⟨u2, hu2⟩ : ∃ u, u1.alloc (.cells #[.int .i64 uc, .int .i64 ut, .bool uk, .slice ua ul um, .slice va vl vm] 25) = u := ⟨_, rfl⟩
  have hq1 : Below w3.heap.size w3 u1 := by rw [← hu1]; exact (Below.refl _ _).alloc (Nat.le_refl _) _
  have hq2 : Below u1.heap.size u1 u2 := by rw [← hu2]; exact (Below.refl _ _).alloc (Nat.le_refl _) _
  have hz : w3.heap.size < u1.heap.size ∧ u1.heap.size < u2.heap.size := ⟨by rw [← hu1]; simp, by rw [← hu2]; simp⟩
  have hq : Below w3.heap.size w3 u2 := hq1.trans (hq2.mono hq1.size)
  have hcx := (show CellsAt u1 w3.heap.size 0 ⟨xc, xt, xk, xa, 1, xm, ya, yl, ym⟩ by rw [← hu1]; exact cells5 _ _ _ _ _ _ _ _ _ _ _).below hq2 hz.1
  have hzz : u1.heap.size = w3.heap.size + 1 := by rw [← hu1]; simp
  have hcy : CellsAt u2 (w3.heap.size + 1) 0 ⟨uc, ut, uk, ua, ul, um, va, vl, vm⟩ := by rw [← hu2, ← hzz]; exact cells5 _ _ _ _ _ _ _ _ _ _ _
  have HX := Lib.hid (HX.out.under hq)
  have HY := Lib.hid (HY.out.under hq)
  have HB := Lib.hid (HB.out.trans (hq.mono HB.out.size))
  have HCX := Lib.hid hcx
  have HCY := Lib.hid hcy
  have HZ := Lib.hid (And.intro hz hzz)
  rw [hu1, hu2]
  clear hq1 hq2 hz hq hcx hcy hzz hu1 hu2
  refine (asInt_yes 2 (.inl rfl) _ (by rw [HF.out.len]; decide) HF.out.good ⟨xc, xt, xk, xa, 1, xm, ya, yl, ym⟩ u2 HX.out).mono ?_
  rintro e w4 ⟨rfl, hb4⟩
  rw [HF.out.val]
  have HB4 := Lib.hid hb4
  obtain ⟨p0, p1, p2, p3, p4⟩ := HCX.out.below hb4 (by have := HZ.out; omega)
  dsimp only at p0 p1 p2 p3 p4
  simp only [Nat.zero_add] at p0 p1 p2 p3 p4
  clear hb4
  go_wp2_with fail
  refine (check_int _ HF.out.good ⟨xc, xt, xk, xa, 1, xm, ya, yl, ym⟩ w4 (HX.out.under HB4.out)).mono ?_
  rintro e w5 ⟨rfl, hb5⟩
  have HB5 := Lib.hid (HB4.out.trans (hb5.mono HB4.out.size))
  obtain ⟨p0, p1, p2, p3, p4⟩ := HCX.out.below HB5.out (by have := HZ.out; omega)
  dsimp only at p0 p1 p2 p3 p4
  simp only [Nat.zero_add] at p0 p1 p2 p3 p4
  have HIS := Lib.hid (show (decide (xc = 0) && decide (xt = 2)) = true by
    have hxc : (0 : Int) = xc := HX.out.cls
    have hxt : (2 : Int) = xt := HX.out.tag
    rw [← hxc, ← hxt]; rfl)
  clear hb5
  go_wp2_with fail
  refine (is_lit ⟨xc, xt, xk, xa, 1, xm, ya, yl, ym⟩ 0 2 w5 true HIS.out).mono ?_
  rintro e w6 ⟨rfl, hb6⟩
  have HB6 := Lib.hid (HB5.out.trans (hb6.mono HB5.out.size))
  obtain ⟨p0, p1, p2, p3, p4⟩ := HCX.out.below HB6.out (by have := HZ.out; omega)
  obtain ⟨q0, q1, q2, q3, q4⟩ := HCY.out.below HB6.out (by have := HZ.out; omega)
  dsimp only at p0 p1 p2 p3 p4 q0 q1 q2 q3 q4
  simp only [Nat.zero_add] at p0 p1 p2 p3 p4 q0 q1 q2 q3 q4
  clear hb6

  go_upto_region 7 with fail
  have d1 : decide (n < 128) = true := decide_eq_true HH.out.2
  have d2 : decide (-128 ≤ n) = true := decide_eq_true HH.out.1
  go_upto_region 8 with fail
  clear d1 d2
  have hs : (n < 0 ∧ n < m) ∨ (n < 0 ∧ m ≤ n) ∨ (0 ≤ n ∧ m < n) ∨ (0 ≤ n ∧ n ≤ m) := by omega
  obtain hs | hs | hs | hs := hs
  · have HS := Lib.hid hs
    clear hs
    have e1 : decide (n < 0) = true := by simp; have := HS.out; omega
    have e2 : decide (0 ≤ n) = false := by simp; have := HS.out; omega
    have e3 : decide (n < m) = true := decide_eq_true HS.out.2
    go_wp2_with fail
    refine (same_any _ _ ⟨xc, xt, xk, xa, 1, xm, ya, yl, ym⟩ ⟨uc, ut, uk, ua, ul, um, va, vl, vm⟩ w6 (HX.out.under HB6.out) (HY.out.under HB6.out)).mono ?_
    rintro e w7 ⟨rfl, hb7⟩
    have HB7 := Lib.hid (HB6.out.trans (hb7.mono HB6.out.size))
    clear hb7 p0 p1 p2 p3 p4 q0 q1 q2 q3 q4 e1 e2 e3
    rw [HSB.out]
    go_wp2_with fail
    rw [show (decide (n = m) == (n == m)) = true by by_cases h : n = m <;> simp [h]]
    go_ret
    exact ⟨rfl, HB.out.trans (HB7.out.mono HB.out.size)⟩
  · have HS := Lib.hid hs
    clear hs
    have e1 : decide (n < 0) = true := by simp; have := HS.out; omega
    have e2 : decide (0 ≤ n) = false := by simp; have := HS.out; omega
    have e3 : decide (n < m) = false := by simp; have := HS.out; omega
    have e4 : decide ((1 : Int) ≤ (ul : Int)) = true := decide_eq_true (by have := HUD.out.2 (by have := HS.out; omega) (by have := HS.out; omega); omega)
    go_wp2_with fail
    refine (same_any _ _ ⟨xc, xt, xk, xa, 1, xm, ya, yl, ym⟩ ⟨uc, ut, uk, ua, ul, um, va, vl, vm⟩ w6 (HX.out.under HB6.out) (HY.out.under HB6.out)).mono ?_
    rintro e w7 ⟨rfl, hb7⟩
    have HB7 := Lib.hid (HB6.out.trans (hb7.mono HB6.out.size))
    clear hb7 p0 p1 p2 p3 p4 q0 q1 q2 q3 q4 e1 e2 e3
    rw [HSB.out]
    go_wp2_with fail
    rw [show (decide (n = m) == (n == m)) = true by by_cases h : n = m <;> simp [h]]
    go_ret
    exact ⟨rfl, HB.out.trans (HB7.out.mono HB.out.size)⟩
  · have HS := Lib.hid hs
    clear hs
    have e1 : decide (n < 0) = false := by simp; have := HS.out; omega
    have e2 : decide (0 ≤ n) = true := by simp; have := HS.out; omega
    have e3 : decide (m < n) = true := decide_eq_true HS.out.2
    go_wp2_with fail
    refine (same_any _ _ ⟨xc, xt, xk, xa, 1, xm, ya, yl, ym⟩ ⟨uc, ut, uk, ua, ul, um, va, vl, vm⟩ w6 (HX.out.under HB6.out) (HY.out.under HB6.out)).mono ?_
    rintro e w7 ⟨rfl, hb7⟩
    have HB7 := Lib.hid (HB6.out.trans (hb7.mono HB6.out.size))
    clear hb7 p0 p1 p2 p3 p4 q0 q1 q2 q3 q4 e1 e2 e3
    rw [HSB.out]
    go_wp2_with fail
    rw [show (decide (n = m) == (n == m)) = true by by_cases h : n = m <;> simp [h]]
    go_ret
    exact ⟨rfl, HB.out.trans (HB7.out.mono HB.out.size)⟩
  · have HS := Lib.hid hs
    clear hs
    have e1 : decide (n < 0) = false := by simp; have := HS.out; omega
    have e2 : decide (0 ≤ n) = true := by simp; have := HS.out; omega
    have e3 : decide (m < n) = false := by simp; have := HS.out; omega
    have e4 : decide ((1 : Int) ≤ (ul : Int)) = true := decide_eq_true (by have := HUD.out.1 (by have := HS.out; omega) (by have := HS.out; omega); omega)
    go_wp2_with fail
    refine (same_any _ _ ⟨xc, xt, xk, xa, 1, xm, ya, yl, ym⟩ ⟨uc, ut, uk, ua, ul, um, va, vl, vm⟩ w6 (HX.out.under HB6.out) (HY.out.under HB6.out)).mono ?_
    rintro e w7 ⟨rfl, hb7⟩
    have HB7 := Lib.hid (HB6.out.trans (hb7.mono HB6.out.size))
    clear hb7 p0 p1 p2 p3 p4 q0 q1 q2 q3 q4 e1 e2 e3
    rw [HSB.out]
    go_wp2_with fail
    rw [show (decide (n = m) == (n == m)) = true by by_cases h : n = m <;> simp [h]]
    go_ret
    exact ⟨rfl, HB.out.trans (HB7.out.mono HB.out.size)⟩

set_option maxRecDepth 100000 in
set_option maxHeartbeats 8000000 in
theorem numbers_2 (n m : Int) (w : World) (hn1 : -9223372036854775808 ≤ n) (hn2 : n ≤ 9223372036854775807) (hm1 : -9223372036854775808 ≤ m) (hm2 : m ≤ 9223372036854775807) (s' : Nat) (hF : IntF n 2) (hF' : IntF m s') (hs1 : 1 ≤ s') (hs8 : s' ≤ 8) (h1 : -32768 ≤ n) (h2 : n < 32768) (h3 : n < -128 ∨ 128 ≤ n) (hu : 0 ≤ n → n ≤ m → 2 ≤ s') (hd : n < 0 → m ≤ n → 2 ≤ s') :
    Calls Tryd.prog 5 #[.int .i64 n, .int .i64 m] w fun e w' => e = .returned (.bool true) ∧ Below w.heap.size w w' := by
  have HF := Lib.hid hF
  have HF' := Lib.hid hF'
  have HSB := Lib.hid (same_int n m hF.val hF'.val)
  have HBN := Lib.hid (And.intro (And.intro hn1 hn2) (And.intro hm1 hm2))
  have HUD := Lib.hid (And.intro hu hd)
  have HH := Lib.hid (And.intro h1 h2)
  clear hF hF' hu hd hn1 hn2 hm1 hm2
  go_enter Tryd.func5, Tryd.ntmps5
  go_wp2_with fail
  refine (alive_t w).mono ?_
  rintro e w1 ⟨rfl, hb1⟩
  have HB := Lib.hid hb1
  clear hb1
  go_wp2_with fail
  refine (int_any n w1 HBN.out.1.1 HBN.out.1.2).mono ?_
  rintro e w2 ⟨⟨V1, rfl, hv1⟩, hb2⟩
  have HX := Lib.hid hv1.node
  have HB := Lib.hid (HB.out.trans (hb2.mono HB.out.size))
  clear hv1 hb2
  go_wp2_with fail
  refine (int_any m w2 HBN.out.2.1 HBN.out.2.2).mono ?_
  rintro e w3 ⟨⟨V2, rfl, hv2⟩, hb3⟩
  have HX := Lib.hid (HX.out.under hb3)
  have HY := Lib.hid hv2.node
  have HB := Lib.hid (HB.out.trans (hb3.mono HB.out.size))
  clear hv2 hb3
  obtain ⟨xc, xt, xk, xa, xl, xm, ya, yl, ym⟩ := V1
  obtain ⟨uc, ut, uk, ua, ul, um, va, vl, vm⟩ := V2
  have hxl : xl = 2 := HX.out.bytes.length.symm.trans HF.out.len
  have hul : ul = s' := HY.out.bytes.length.symm.trans HF'.out.len
  subst hxl hul
  unfold NV.agg
  dsimp only
  go_wp2_with fail
  obtain ⟨u1, hu1⟩ : ∃ u, w3.alloc (.cells #[.int .i64 xc, .int .i64 xt, .bool xk, .slice xa 2 xm, .slice ya yl ym] 25) = u := ⟨_, rfl⟩
  obtain ⟨u2, hu2⟩ : ∃ u, u1.alloc (.cells #[.int .i64 uc, .int .i64 ut, .bool uk, .slice ua ul um, .slice va vl vm] 25) = u := ⟨_, rfl⟩
  have hq1 : Below w3.heap.size w3 u1 := by rw [← hu1]; exact (Below.refl _ _).alloc (Nat.le_refl _) _
  have hq2 : Below u1.heap.size u1 u2 := by rw [← hu2]; exact (Below.refl _ _).alloc (Nat.le_refl _) _
  have hz : w3.heap.size < u1.heap.size ∧ u1.heap.size < u2.heap.size := ⟨by rw [← hu1]; simp, by rw [← hu2]; simp⟩
  have hq : Below w3.heap.size w3 u2 := hq1.trans (hq2.mono hq1.size)
  have hcx := (show CellsAt u1 w3.heap.size 0 ⟨xc, xt, xk, xa, 2, xm, ya, yl, ym⟩ by rw [← hu1]; exact cells5 _ _ _ _ _ _ _ _ _ _ _).below hq2 hz.1
  have hzz : u1.heap.size = w3.heap.size + 1 := by rw [← hu1]; simp
  have hcy : CellsAt u2 (w3.heap.size + 1) 0 ⟨uc, ut, uk, ua, ul, um, va, vl, vm⟩ := by rw [← hu2, ← hzz]; exact cells5 _ _ _ _ _ _ _ _ _ _ _
  have HX := Lib.hid (HX.out.under hq)
  have HY := Lib.hid (HY.out.under hq)
  have HB := Lib.hid (HB.out.trans (hq.mono HB.out.size))
  have HCX := Lib.hid hcx
  have HCY := Lib.hid hcy
  have HZ := Lib.hid (And.intro hz hzz)
  rw [hu1, hu2]
  clear hq1 hq2 hz hq hcx hcy hzz hu1 hu2
  refine (asInt_yes 2 (.inl rfl) _ (by rw [HF.out.len]; decide) HF.out.good ⟨xc, xt, xk, xa, 2, xm, ya, yl, ym⟩ u2 HX.out).mono ?_
  rintro e w4 ⟨rfl, hb4⟩
  rw [HF.out.val]
  have HB4 := Lib.hid hb4
  obtain ⟨p0, p1, p2, p3, p4⟩ := HCX.out.below hb4 (by have := HZ.out; omega)
  dsimp only at p0 p1 p2 p3 p4
  simp only [Nat.zero_add] at p0 p1 p2 p3 p4
  clear hb4
  go_wp2_with fail
  refine (check_int _ HF.out.good ⟨xc, xt, xk, xa, 2, xm, ya, yl, ym⟩ w4 (HX.out.under HB4.out)).mono ?_
  rintro e w5 ⟨rfl, hb5⟩
  have HB5 := Lib.hid (HB4.out.trans (hb5.mono HB4.out.size))
  obtain ⟨p0, p1, p2, p3, p4⟩ := HCX.out.below HB5.out (by have := HZ.out; omega)
  dsimp only at p0 p1 p2 p3 p4
  simp only [Nat.zero_add] at p0 p1 p2 p3 p4
  have HIS := Lib.hid (show (decide (xc = 0) && decide (xt = 2)) = true by
    have hxc : (0 : Int) = xc := HX.out.cls
    have hxt : (2 : Int) = xt := HX.out.tag
    rw [← hxc, ← hxt]; rfl)
  clear hb5
  go_wp2_with fail
  refine (is_lit ⟨xc, xt, xk, xa, 2, xm, ya, yl, ym⟩ 0 2 w5 true HIS.out).mono ?_
  rintro e w6 ⟨rfl, hb6⟩
  have HB6 := Lib.hid (HB5.out.trans (hb6.mono HB5.out.size))
  obtain ⟨p0, p1, p2, p3, p4⟩ := HCX.out.below HB6.out (by have := HZ.out; omega)
  obtain ⟨q0, q1, q2, q3, q4⟩ := HCY.out.below HB6.out (by have := HZ.out; omega)
  dsimp only at p0 p1 p2 p3 p4 q0 q1 q2 q3 q4
  simp only [Nat.zero_add] at p0 p1 p2 p3 p4 q0 q1 q2 q3 q4
  clear hb6

  go_upto_region 7 with fail
  have d1 : decide (n < 32768) = true := decide_eq_true HH.out.2
  have d2 : decide (-32768 ≤ n) = true := decide_eq_true HH.out.1
  go_upto_region 8 with fail
  clear d1 d2
  have H3 := Lib.hid h3
  clear h3
  have hs : (n < 0 ∧ n < m) ∨ (n < 0 ∧ m ≤ n) ∨ (0 ≤ n ∧ m < n) ∨ (0 ≤ n ∧ n ≤ m) := by omega
  obtain hs | hs | hs | hs := hs
  · have HS := Lib.hid hs
    clear hs
    have d3 : decide (128 ≤ n) = false := decide_eq_false (by have := H3.out; have := HS.out; omega)
    have d4 : decide (n < -128) = true := decide_eq_true (by have := H3.out; have := HS.out; omega)
    have e1 : decide (n < 0) = true := by simp; have := HS.out; omega
    have e2 : decide (0 ≤ n) = false := by simp; have := HS.out; omega
    have e3 : decide (n < m) = true := decide_eq_true HS.out.2
    go_wp2_with fail
    refine (same_any _ _ ⟨xc, xt, xk, xa, 2, xm, ya, yl, ym⟩ ⟨uc, ut, uk, ua, ul, um, va, vl, vm⟩ w6 (HX.out.under HB6.out) (HY.out.under HB6.out)).mono ?_
    rintro e w7 ⟨rfl, hb7⟩
    have HB7 := Lib.hid (HB6.out.trans (hb7.mono HB6.out.size))
    clear hb7 p0 p1 p2 p3 p4 q0 q1 q2 q3 q4 e1 e2 e3
    rw [HSB.out]
    go_wp2_with fail
    rw [show (decide (n = m) == (n == m)) = true by by_cases h : n = m <;> simp [h]]
    go_ret
    exact ⟨rfl, HB.out.trans (HB7.out.mono HB.out.size)⟩
  · have HS := Lib.hid hs
    clear hs
    have d3 : decide (128 ≤ n) = false := decide_eq_false (by have := H3.out; have := HS.out; omega)
    have d4 : decide (n < -128) = true := decide_eq_true (by have := H3.out; have := HS.out; omega)
    have e1 : decide (n < 0) = true := by simp; have := HS.out; omega
    have e2 : decide (0 ≤ n) = false := by simp; have := HS.out; omega
    have e3 : decide (n < m) = false := by simp; have := HS.out; omega
    have e4 : decide ((2 : Int) ≤ (ul : Int)) = true := decide_eq_true (by have := HUD.out.2 (by have := HS.out; omega) (by have := HS.out; omega); omega)
    go_wp2_with fail
    refine (same_any _ _ ⟨xc, xt, xk, xa, 2, xm, ya, yl, ym⟩ ⟨uc, ut, uk, ua, ul, um, va, vl, vm⟩ w6 (HX.out.under HB6.out) (HY.out.under HB6.out)).mono ?_
    rintro e w7 ⟨rfl, hb7⟩
    have HB7 := Lib.hid (HB6.out.trans (hb7.mono HB6.out.size))
    clear hb7 p0 p1 p2 p3 p4 q0 q1 q2 q3 q4 e1 e2 e3
    rw [HSB.out]
    go_wp2_with fail
    rw [show (decide (n = m) == (n == m)) = true by by_cases h : n = m <;> simp [h]]
    go_ret
    exact ⟨rfl, HB.out.trans (HB7.out.mono HB.out.size)⟩
  · have HS := Lib.hid hs
    clear hs
    have d3 : decide (128 ≤ n) = true := decide_eq_true (by have := H3.out; have := HS.out; omega)
    have e1 : decide (n < 0) = false := by simp; have := HS.out; omega
    have e2 : decide (0 ≤ n) = true := by simp; have := HS.out; omega
    have e3 : decide (m < n) = true := decide_eq_true HS.out.2
    go_wp2_with fail
    refine (same_any _ _ ⟨xc, xt, xk, xa, 2, xm, ya, yl, ym⟩ ⟨uc, ut, uk, ua, ul, um, va, vl, vm⟩ w6 (HX.out.under HB6.out) (HY.out.under HB6.out)).mono ?_
    rintro e w7 ⟨rfl, hb7⟩
    have HB7 := Lib.hid (HB6.out.trans (hb7.mono HB6.out.size))
    clear hb7 p0 p1 p2 p3 p4 q0 q1 q2 q3 q4 e1 e2 e3
    rw [HSB.out]
    go_wp2_with fail
    rw [show (decide (n = m) == (n == m)) = true by by_cases h : n = m <;> simp [h]]
    go_ret
    exact ⟨rfl, HB.out.trans (HB7.out.mono HB.out.size)⟩
  · have HS := Lib.hid hs
    clear hs
    have d3 : decide (128 ≤ n) = true := decide_eq_true (by have := H3.out; have := HS.out; omega)
    have e1 : decide (n < 0) = false := by simp; have := HS.out; omega
    have e2 : decide (0 ≤ n) = true := by simp; have := HS.out; omega
    have e3 : decide (m < n) = false := by simp; have := HS.out; omega
    have e4 : decide ((2 : Int) ≤ (ul : Int)) = true := decide_eq_true (by have := HUD.out.1 (by have := HS.out; omega) (by have := HS.out; omega); omega)
    go_wp2_with fail
    refine (same_any _ _ ⟨xc, xt, xk, xa, 2, xm, ya, yl, ym⟩ ⟨uc, ut, uk, ua, ul, um, va, vl, vm⟩ w6 (HX.out.under HB6.out) (HY.out.under HB6.out)).mono ?_
    rintro e w7 ⟨rfl, hb7⟩
    have HB7 := Lib.hid (HB6.out.trans (hb7.mono HB6.out.size))
    clear hb7 p0 p1 p2 p3 p4 q0 q1 q2 q3 q4 e1 e2 e3
    rw [HSB.out]
    go_wp2_with fail
    rw [show (decide (n = m) == (n == m)) = true by by_cases h : n = m <;> simp [h]]
    go_ret
    exact ⟨rfl, HB.out.trans (HB7.out.mono HB.out.size)⟩

set_option maxRecDepth 100000 in
set_option maxHeartbeats 8000000 in
theorem numbers_3 (n m : Int) (w : World) (hn1 : -9223372036854775808 ≤ n) (hn2 : n ≤ 9223372036854775807) (hm1 : -9223372036854775808 ≤ m) (hm2 : m ≤ 9223372036854775807) (s' : Nat) (hF : IntF n 3) (hF' : IntF m s') (hs1 : 1 ≤ s') (hs8 : s' ≤ 8) (h1 : -8388608 ≤ n) (h2 : n < 8388608) (h3 : n < -32768 ∨ 32768 ≤ n) (hu : 0 ≤ n → n ≤ m → 3 ≤ s') (hd : n < 0 → m ≤ n → 3 ≤ s') :
    Calls Tryd.prog 5 #[.int .i64 n, .int .i64 m] w fun e w' => e = .returned (.bool true) ∧ Below w.heap.size w w' := by
  have HF := Lib.hid hF
  have HF' := Lib.hid hF'
  have HSB := Lib.hid (same_int n m hF.val hF'.val)
  have HBN := Lib.hid (And.intro (And.intro hn1 hn2) (And.intro hm1 hm2))
  have HUD := Lib.hid (And.intro hu hd)
  have HH := Lib.hid (And.intro h1 h2)
  clear hF hF' hu hd hn1 hn2 hm1 hm2
  go_enter Tryd.func5, Tryd.ntmps5
  go_wp2_with fail
  refine (alive_t w).mono ?_
  rintro e w1 ⟨rfl, hb1⟩
  have HB := Lib.hid hb1
  clear hb1
  go_wp2_with fail
  refine (int_any n w1 HBN.out.1.1 HBN.out.1.2).mono ?_
  rintro e w2 ⟨⟨V1, rfl, hv1⟩, hb2⟩
  have HX := Lib.hid hv1.node
  have HB := Lib.hid (HB.out.trans (hb2.mono HB.out.size))
  clear hv1 hb2
  go_wp2_with fail
  refine (int_any m w2 HBN.out.2.1 HBN.out.2.2).mono ?_
  rintro e w3 ⟨⟨V2, rfl, hv2⟩, hb3⟩
  have HX := Lib.hid (HX.out.under hb3)
  have HY := Lib.hid hv2.node
  have HB := Lib.hid (HB.out.trans (hb3.mono HB.out.size))
  clear hv2 hb3
  obtain ⟨xc, xt, xk, xa, xl, xm, ya, yl, ym⟩ := V1
  obtain ⟨uc, ut, uk, ua, ul, um, va, vl, vm⟩ := V2
  have hxl : xl = 3 := HX.out.bytes.length.symm.trans HF.out.len
  have hul : ul = s' := HY.out.bytes.length.symm.trans HF'.out.len
  subst hxl hul
  unfold NV.agg
  dsimp only
  go_wp2_with fail
  obtain ⟨u1, hu1⟩ : ∃ u, w3.alloc (.cells #[.int .i64 xc, .int .i64 xt, .bool xk, .slice xa 3 xm, .slice ya yl ym] 25) = u := ⟨_, rfl⟩
  obtain ⟨u2, hu2⟩ : ∃ u, u1.alloc (.cells #[.int .i64 uc, .int .i64 ut, .bool uk, .slice ua ul um, .slice va vl vm] 25) = u := ⟨_, rfl⟩
  have hq1 : Below w3.heap.size w3 u1 := by rw [← hu1]; exact (Below.refl _ _).alloc (Nat.le_refl _) _
  have hq2 : Below u1.heap.size u1 u2 := by rw [← hu2]; exact (Below.refl _ _).alloc (Nat.le_refl _) _
  have hz : w3.heap.size < u1.heap.size ∧ u1.heap.size < u2.heap.size := ⟨by rw [← hu1]; simp, by rw [← hu2]; simp⟩
  have hq : Below w3.heap.size w3 u2 := hq1.trans (hq2.mono hq1.size)
  have hcx := (show CellsAt u1 w3.heap.size 0 ⟨xc, xt, xk, xa, 3, xm, ya, yl, ym⟩ by rw [← hu1]; exact cells5 _ _ _ _ _ _ _ _ _ _ _).below hq2 hz.1
  have hzz : u1.heap.size = w3.heap.size + 1 := by rw [← hu1]; simp
  have hcy : CellsAt u2 (w3.heap.size + 1) 0 ⟨uc, ut, uk, ua, ul, um, va, vl, vm⟩ := by rw [← hu2, ← hzz]; exact cells5 _ _ _ _ _ _ _ _ _ _ _
  have HX := Lib.hid (HX.out.under hq)
  have HY := Lib.hid (HY.out.under hq)
  have HB := Lib.hid (HB.out.trans (hq.mono HB.out.size))
  have HCX := Lib.hid hcx
  have HCY := Lib.hid hcy
  have HZ := Lib.hid (And.intro hz hzz)
  rw [hu1, hu2]
  clear hq1 hq2 hz hq hcx hcy hzz hu1 hu2
  refine (asInt_yes 2 (.inl rfl) _ (by rw [HF.out.len]; decide) HF.out.good ⟨xc, xt, xk, xa, 3, xm, ya, yl, ym⟩ u2 HX.out).mono ?_
  rintro e w4 ⟨rfl, hb4⟩
  rw [HF.out.val]
  have HB4 := Lib.hid hb4
  obtain ⟨p0, p1, p2, p3, p4⟩ := HCX.out.below hb4 (by have := HZ.out; omega)
  dsimp only at p0 p1 p2 p3 p4
  simp only [Nat.zero_add] at p0 p1 p2 p3 p4
  clear hb4
  go_wp2_with fail
  refine (check_int _ HF.out.good ⟨xc, xt, xk, xa, 3, xm, ya, yl, ym⟩ w4 (HX.out.under HB4.out)).mono ?_
  rintro e w5 ⟨rfl, hb5⟩
  have HB5 := Lib.hid (HB4.out.trans (hb5.mono HB4.out.size))
  obtain ⟨p0, p1, p2, p3, p4⟩ := HCX.out.below HB5.out (by have := HZ.out; omega)
  dsimp only at p0 p1 p2 p3 p4
  simp only [Nat.zero_add] at p0 p1 p2 p3 p4
  have HIS := Lib.hid (show (decide (xc = 0) && decide (xt = 2)) = true by
    have hxc : (0 : Int) = xc := HX.out.cls
    have hxt : (2 : Int) = xt := HX.out.tag
    rw [← hxc, ← hxt]; rfl)
  clear hb5
  go_wp2_with fail
  refine (is_lit ⟨xc, xt, xk, xa, 3, xm, ya, yl, ym⟩ 0 2 w5 true HIS.out).mono ?_
  rintro e w6 ⟨rfl, hb6⟩
  have HB6 := Lib.hid (HB5.out.trans (hb6.mono HB5.out.size))
  obtain ⟨p0, p1, p2, p3, p4⟩ := HCX.out.below HB6.out (by have := HZ.out; omega)
  obtain ⟨q0, q1, q2, q3, q4⟩ := HCY.out.below HB6.out (by have := HZ.out; omega)
  dsimp only at p0 p1 p2 p3 p4 q0 q1 q2 q3 q4
  simp only [Nat.zero_add] at p0 p1 p2 p3 p4 q0 q1 q2 q3 q4
  clear hb6

  go_upto_region 7 with fail
  have d1 : decide (n < 8388608) = true := decide_eq_true HH.out.2
  have d2 : decide (-8388608 ≤ n) = true := decide_eq_true HH.out.1
  go_upto_region 8 with fail
  clear d1 d2
  have H3 := Lib.hid h3
  clear h3
  have hs : (n < 0 ∧ n < m) ∨ (n < 0 ∧ m ≤ n) ∨ (0 ≤ n ∧ m < n) ∨ (0 ≤ n ∧ n ≤ m) := by omega
  obtain hs | hs | hs | hs := hs
  · have HS := Lib.hid hs
    clear hs
    have d3 : decide (32768 ≤ n) = false := decide_eq_false (by have := H3.out; have := HS.out; omega)
    have d4 : decide (n < -32768) = true := decide_eq_true (by have := H3.out; have := HS.out; omega)
    have e1 : decide (n < 0) = true := by simp; have := HS.out; omega
    have e2 : decide (0 ≤ n) = false := by simp; have := HS.out; omega
    have e3 : decide (n < m) = true := decide_eq_true HS.out.2
    go_wp2_with fail
    refine (same_any _ _ ⟨xc, xt, xk, xa, 3, xm, ya, yl, ym⟩ ⟨uc, ut, uk, ua, ul, um, va, vl, vm⟩ w6 (HX.out.under HB6.out) (HY.out.under HB6.out)).mono ?_
    rintro e w7 ⟨rfl, hb7⟩
    have HB7 := Lib.hid (HB6.out.trans (hb7.mono HB6.out.size))
    clear hb7 p0 p1 p2 p3 p4 q0 q1 q2 q3 q4 e1 e2 e3
    rw [HSB.out]
    go_wp2_with fail
    rw [show (decide (n = m) == (n == m)) = true by by_cases h : n = m <;> simp [h]]
    go_ret
    exact ⟨rfl, HB.out.trans (HB7.out.mono HB.out.size)⟩
  · have HS := Lib.hid hs
    clear hs
    have d3 : decide (32768 ≤ n) = false := decide_eq_false (by have := H3.out; have := HS.out; omega)
    have d4 : decide (n < -32768) = true := decide_eq_true (by have := H3.out; have := HS.out; omega)
    have e1 : decide (n < 0) = true := by simp; have := HS.out; omega
    have e2 : decide (0 ≤ n) = false := by simp; have := HS.out; omega
    have e3 : decide (n < m) = false := by simp; have := HS.out; omega
    have e4 : decide ((3 : Int) ≤ (ul : Int)) = true := decide_eq_true (by have := HUD.out.2 (by have := HS.out; omega) (by have := HS.out; omega); omega)
    go_wp2_with fail
    refine (same_any _ _ ⟨xc, xt, xk, xa, 3, xm, ya, yl, ym⟩ ⟨uc, ut, uk, ua, ul, um, va, vl, vm⟩ w6 (HX.out.under HB6.out) (HY.out.under HB6.out)).mono ?_
    rintro e w7 ⟨rfl, hb7⟩
    have HB7 := Lib.hid (HB6.out.trans (hb7.mono HB6.out.size))
    clear hb7 p0 p1 p2 p3 p4 q0 q1 q2 q3 q4 e1 e2 e3
    rw [HSB.out]
    go_wp2_with fail
    rw [show (decide (n = m) == (n == m)) = true by by_cases h : n = m <;> simp [h]]
    go_ret
    exact ⟨rfl, HB.out.trans (HB7.out.mono HB.out.size)⟩
  · have HS := Lib.hid hs
    clear hs
    have d3 : decide (32768 ≤ n) = true := decide_eq_true (by have := H3.out; have := HS.out; omega)
    have e1 : decide (n < 0) = false := by simp; have := HS.out; omega
    have e2 : decide (0 ≤ n) = true := by simp; have := HS.out; omega
    have e3 : decide (m < n) = true := decide_eq_true HS.out.2
    go_wp2_with fail
    refine (same_any _ _ ⟨xc, xt, xk, xa, 3, xm, ya, yl, ym⟩ ⟨uc, ut, uk, ua, ul, um, va, vl, vm⟩ w6 (HX.out.under HB6.out) (HY.out.under HB6.out)).mono ?_
    rintro e w7 ⟨rfl, hb7⟩
    have HB7 := Lib.hid (HB6.out.trans (hb7.mono HB6.out.size))
    clear hb7 p0 p1 p2 p3 p4 q0 q1 q2 q3 q4 e1 e2 e3
    rw [HSB.out]
    go_wp2_with fail
    rw [show (decide (n = m) == (n == m)) = true by by_cases h : n = m <;> simp [h]]
    go_ret
    exact ⟨rfl, HB.out.trans (HB7.out.mono HB.out.size)⟩
  · have HS := Lib.hid hs
    clear hs
    have d3 : decide (32768 ≤ n) = true := decide_eq_true (by have := H3.out; have := HS.out; omega)
    have e1 : decide (n < 0) = false := by simp; have := HS.out; omega
    have e2 : decide (0 ≤ n) = true := by simp; have := HS.out; omega
    have e3 : decide (m < n) = false := by simp; have := HS.out; omega
    have e4 : decide ((3 : Int) ≤ (ul : Int)) = true := decide_eq_true (by have := HUD.out.1 (by have := HS.out; omega) (by have := HS.out; omega); omega)
    go_wp2_with fail
    refine (same_any _ _ ⟨xc, xt, xk, xa, 3, xm, ya, yl, ym⟩ ⟨uc, ut, uk, ua, ul, um, va, vl, vm⟩ w6 (HX.out.under HB6.out) (HY.out.under HB6.out)).mono ?_
    rintro e w7 ⟨rfl, hb7⟩
    have HB7 := Lib.hid (HB6.out.trans (hb7.mono HB6.out.size))
    clear hb7 p0 p1 p2 p3 p4 q0 q1 q2 q3 q4 e1 e2 e3
    rw [HSB.out]
    go_wp2_with fail
    rw [show (decide (n = m) == (n == m)) = true by by_cases h : n = m <;> simp [h]]
    go_ret
    exact ⟨rfl, HB.out.trans (HB7.out.mono HB.out.size)⟩

set_option maxRecDepth 100000 in
set_option maxHeartbeats 8000000 in
theorem numbers_4 (n m : Int) (w : World) (hn1 : -9223372036854775808 ≤ n) (hn2 : n ≤ 9223372036854775807) (hm1 : -9223372036854775808 ≤ m) (hm2 : m ≤ 9223372036854775807) (s' : Nat) (hF : IntF n 4) (hF' : IntF m s') (hs1 : 1 ≤ s') (hs8 : s' ≤ 8) (h1 : -2147483648 ≤ n) (h2 : n < 2147483648) (h3 : n < -8388608 ∨ 8388608 ≤ n) (hu : 0 ≤ n → n ≤ m → 4 ≤ s') (hd : n < 0 → m ≤ n → 4 ≤ s') :
    Calls Tryd.prog 5 #[.int .i64 n, .int .i64 m] w fun e w' => e = .returned (.bool true) ∧ Below w.heap.size w w' := by
  have HF := Lib.hid hF
  have HF' := Lib.hid hF'
  have HSB := Lib.hid (same_int n m hF.val hF'.val)
  have HBN := Lib.hid (And.intro (And.intro hn1 hn2) (And.intro hm1 hm2))
  have HUD := Lib.hid (And.intro hu hd)
  have HH := Lib.hid (And.intro h1 h2)
  clear hF hF' hu hd hn1 hn2 hm1 hm2
  go_enter Tryd.func5, Tryd.ntmps5
  go_wp2_with fail
  refine (alive_t w).mono ?_
  rintro e w1 ⟨rfl, hb1⟩
  have HB := Lib.hid hb1
  clear hb1
  go_wp2_with fail
  refine (int_any n w1 HBN.out.1.1 HBN.out.1.2).mono ?_
  rintro e w2 ⟨⟨V1, rfl, hv1⟩, hb2⟩
  have HX := Lib.hid hv1.node
  have HB := Lib.hid (HB.out.trans (hb2.mono HB.out.size))
  clear hv1 hb2
  go_wp2_with fail
  refine (int_any m w2 HBN.out.2.1 HBN.out.2.2).mono ?_
  rintro e w3 ⟨⟨V2, rfl, hv2⟩, hb3⟩
  have HX := Lib.hid (HX.out.under hb3)
  have HY := Lib.hid hv2.node
  have HB := Lib.hid (HB.out.trans (hb3.mono HB.out.size))
  clear hv2 hb3
  obtain ⟨xc, xt, xk, xa, xl, xm, ya, yl, ym⟩ := V1
  obtain ⟨uc, ut, uk, ua, ul, um, va, vl, vm⟩ := V2
  have hxl : xl = 4 := HX.out.bytes.length.symm.trans HF.out.len
  have hul : ul = s' := HY.out.bytes.length.symm.trans HF'.out.len
  subst hxl hul
  unfold NV.agg
  dsimp only
  go_wp2_with fail
  obtain ⟨u1, hu1⟩ : ∃ u, w3.alloc (.cells #[.int .i64 xc, .int .i64 xt, .bool xk, .slice xa 4 xm, .slice ya yl ym] 25) = u := ⟨_, rfl⟩
  obtain ⟨u2, hu2⟩ : ∃ u, u1.alloc (.cells #[.int .i64 uc, .int .i64 ut, .bool uk, .slice ua ul um, .slice va vl vm] 25) = u := ⟨_, rfl⟩
  have hq1 : Below w3.heap.size w3 u1 := by rw [← hu1]; exact (Below.refl _ _).alloc (Nat.le_refl _) _
  have hq2 : Below u1.heap.size u1 u2 := by rw [← hu2]; exact (Below.refl _ _).alloc (Nat.le_refl _) _
  have hz : w3.heap.size < u1.heap.size ∧ u1.heap.size < u2.heap.size := ⟨by rw [← hu1]; simp, by rw [← hu2]; simp⟩
  have hq : Below w3.heap.size w3 u2 := hq1.trans (hq2.mono hq1.size)
  have hcx := (show CellsAt u1 w3.heap.size 0 ⟨xc, xt, xk, xa, 4, xm, ya, yl, ym⟩ by rw [← hu1]; exact cells5 _ _ _ _ _ _ _ _ _ _ _).below hq2 hz.1
  have hzz : u1.heap.size = w3.heap.size + 1 := by rw [← hu1]; simp
  have hcy : CellsAt u2 (w3.heap.size + 1) 0 ⟨uc, ut, uk, ua, ul, um, va, vl, vm⟩ := by rw [← hu2, ← hzz]; exact cells5 _ _ _ _ _ _ _ _ _ _ _
  have HX := Lib.hid (HX.out.under hq)
  have HY := Lib.hid (HY.out.under hq)
  have HB := Lib.hid (HB.out.trans (hq.mono HB.out.size))
  have HCX := Lib.hid hcx
  have HCY := Lib.hid hcy
  have HZ := Lib.hid (And.intro hz hzz)
  rw [hu1, hu2]
  clear hq1 hq2 hz hq hcx hcy hzz hu1 hu2
  refine (asInt_yes 2 (.inl rfl) _ (by rw [HF.out.len]; decide) HF.out.good ⟨xc, xt, xk, xa, 4, xm, ya, yl, ym⟩ u2 HX.out).mono ?_
  rintro e w4 ⟨rfl, hb4⟩
  rw [HF.out.val]
  have HB4 := Lib.hid hb4
  obtain ⟨p0, p1, p2, p3, p4⟩ := HCX.out.below hb4 (by have := HZ.out; omega)
  dsimp only at p0 p1 p2 p3 p4
  simp only [Nat.zero_add] at p0 p1 p2 p3 p4
  clear hb4
  go_wp2_with fail
  refine (check_int _ HF.out.good ⟨xc, xt, xk, xa, 4, xm, ya, yl, ym⟩ w4 (HX.out.under HB4.out)).mono ?_
  rintro e w5 ⟨rfl, hb5⟩
  have HB5 := Lib.hid (HB4.out.trans (hb5.mono HB4.out.size))
  obtain ⟨p0, p1, p2, p3, p4⟩ := HCX.out.below HB5.out (by have := HZ.out; omega)
  dsimp only at p0 p1 p2 p3 p4
  simp only [Nat.zero_add] at p0 p1 p2 p3 p4
  have HIS := Lib.hid (show (decide (xc = 0) && decide (xt = 2)) = true by
    have hxc : (0 : Int) = xc := HX.out.cls
    have hxt : (2 : Int) = xt := HX.out.tag
    rw [← hxc, ← hxt]; rfl)
  clear hb5
  go_wp2_with fail
  refine (is_lit ⟨xc, xt, xk, xa, 4, xm, ya, yl, ym⟩ 0 2 w5 true HIS.out).mono ?_
  rintro e w6 ⟨rfl, hb6⟩
  have HB6 := Lib.hid (HB5.out.trans (hb6.mono HB5.out.size))
  obtain ⟨p0, p1, p2, p3, p4⟩ := HCX.out.below HB6.out (by have := HZ.out; omega)
  obtain ⟨q0, q1, q2, q3, q4⟩ := HCY.out.below HB6.out (by have := HZ.out; omega)
  dsimp only at p0 p1 p2 p3 p4 q0 q1 q2 q3 q4
  simp only [Nat.zero_add] at p0 p1 p2 p3 p4 q0 q1 q2 q3 q4
  clear hb6

  go_upto_region 7 with fail
  have d1 : decide (n < 2147483648) = true := decide_eq_true HH.out.2
  have d2 : decide (-2147483648 ≤ n) = true := decide_eq_true HH.out.1
  go_upto_region 8 with fail
  clear d1 d2
  have H3 := Lib.hid h3
  clear h3
  have hs : (n < 0 ∧ n < m) ∨ (n < 0 ∧ m ≤ n) ∨ (0 ≤ n ∧ m < n) ∨ (0 ≤ n ∧ n ≤ m) := by omega
  obtain hs | hs | hs | hs := hs
  · have HS := Lib.hid hs
    clear hs
    have d3 : decide (8388608 ≤ n) = false := decide_eq_false (by have := H3.out; have := HS.out; omega)
    have d4 : decide (n < -8388608) = true := decide_eq_true (by have := H3.out; have := HS.out; omega)
    have e1 : decide (n < 0) = true := by simp; have := HS.out; omega
    have e2 : decide (0 ≤ n) = false := by simp; have := HS.out; omega
    have e3 : decide (n < m) = true := decide_eq_true HS.out.2
    go_wp2_with fail
    refine (same_any _ _ ⟨xc, xt, xk, xa, 4, xm, ya, yl, ym⟩ ⟨uc, ut, uk, ua, ul, um, va, vl, vm⟩ w6 (HX.out.under HB6.out) (HY.out.under HB6.out)).mono ?_
    rintro e w7 ⟨rfl, hb7⟩
    have HB7 := Lib.hid (HB6.out.trans (hb7.mono HB6.out.size))
    clear hb7 p0 p1 p2 p3 p4 q0 q1 q2 q3 q4 e1 e2 e3
    rw [HSB.out]
    go_wp2_with fail
    rw [show (decide (n = m) == (n == m)) = true by by_cases h : n = m <;> simp [h]]
    go_ret
    exact ⟨rfl, HB.out.trans (HB7.out.mono HB.out.size)⟩
  · have HS := Lib.hid hs
    clear hs
    have d3 : decide (8388608 ≤ n) = false := decide_eq_false (by have := H3.out; have := HS.out; omega)
    have d4 : decide (n < -8388608) = true := decide_eq_true (by have := H3.out; have := HS.out; omega)
    have e1 : decide (n < 0) = true := by simp; have := HS.out; omega
    have e2 : decide (0 ≤ n) = false := by simp; have := HS.out; omega
    have e3 : decide (n < m) = false := by simp; have := HS.out; omega
    have e4 : decide ((4 : Int) ≤ (ul : Int)) = true := decide_eq_true (by have := HUD.out.2 (by have := HS.out; omega) (by have := HS.out; omega); omega)
    go_wp2_with fail
    refine (same_any _ _ ⟨xc, xt, xk, xa, 4, xm, ya, yl, ym⟩ ⟨uc, ut, uk, ua, ul, um, va, vl, vm⟩ w6 (HX.out.under HB6.out) (HY.out.under HB6.out)).mono ?_
    rintro e w7 ⟨rfl, hb7⟩
    have HB7 := Lib.hid (HB6.out.trans (hb7.mono HB6.out.size))
    clear hb7 p0 p1 p2 p3 p4 q0 q1 q2 q3 q4 e1 e2 e3
    rw [HSB.out]
    go_wp2_with fail
    rw [show (decide (n = m) == (n == m)) = true by by_cases h : n = m <;> simp [h]]
    go_ret
    exact ⟨rfl, HB.out.trans (HB7.out.mono HB.out.size)⟩
  · have HS := Lib.hid hs
    clear hs
    have d3 : decide (8388608 ≤ n) = true := decide_eq_true (by have := H3.out; have := HS.out; omega)
    have e1 : decide (n < 0) = false := by simp; have := HS.out; omega
    have e2 : decide (0 ≤ n) = true := by simp; have := HS.out; omega
    have e3 : decide (m < n) = true := decide_eq_true HS.out.2
    go_wp2_with fail
    refine (same_any _ _ ⟨xc, xt, xk, xa, 4, xm, ya, yl, ym⟩ ⟨uc, ut, uk, ua, ul, um, va, vl, vm⟩ w6 (HX.out.under HB6.out) (HY.out.under HB6.out)).mono ?_
    rintro e w7 ⟨rfl, hb7⟩
    have HB7 := Lib.hid (HB6.out.trans (hb7.mono HB6.out.size))
    clear hb7 p0 p1 p2 p3 p4 q0 q1 q2 q3 q4 e1 e2 e3
    rw [HSB.out]
    go_wp2_with fail
    rw [show (decide (n = m) == (n == m)) = true by by_cases h : n = m <;> simp [h]]
    go_ret
    exact ⟨rfl, HB.out.trans (HB7.out.mono HB.out.size)⟩
  · have HS := Lib.hid hs
    clear hs
    have d3 : decide (8388608 ≤ n) = true := decide_eq_true (by have := H3.out; have := HS.out; omega)
    have e1 : decide (n < 0) = false := by simp; have := HS.out; omega
    have e2 : decide (0 ≤ n) = true := by simp; have := HS.out; omega
    have e3 : decide (m < n) = false := by simp; have := HS.out; omega
    have e4 : decide ((4 : Int) ≤ (ul : Int)) = true := decide_eq_true (by have := HUD.out.1 (by have := HS.out; omega) (by have := HS.out; omega); omega)
    go_wp2_with fail
    refine (same_any _ _ ⟨xc, xt, xk, xa, 4, xm, ya, yl, ym⟩ ⟨uc, ut, uk, ua, ul, um, va, vl, vm⟩ w6 (HX.out.under HB6.out) (HY.out.under HB6.out)).mono ?_
    rintro e w7 ⟨rfl, hb7⟩
    have HB7 := Lib.hid (HB6.out.trans (hb7.mono HB6.out.size))
    clear hb7 p0 p1 p2 p3 p4 q0 q1 q2 q3 q4 e1 e2 e3
    rw [HSB.out]
    go_wp2_with fail
    rw [show (decide (n = m) == (n == m)) = true by by_cases h : n = m <;> simp [h]]
    go_ret
    exact ⟨rfl, HB.out.trans (HB7.out.mono HB.out.size)⟩

set_option maxRecDepth 100000 in
set_option maxHeartbeats 8000000 in
theorem numbers_5 (n m : Int) (w : World) (hn1 : -9223372036854775808 ≤ n) (hn2 : n ≤ 9223372036854775807) (hm1 : -9223372036854775808 ≤ m) (hm2 : m ≤ 9223372036854775807) (s' : Nat) (hF : IntF n 5) (hF' : IntF m s') (hs1 : 1 ≤ s') (hs8 : s' ≤ 8) (h1 : -549755813888 ≤ n) (h2 : n < 549755813888) (h3 : n < -2147483648 ∨ 2147483648 ≤ n) (hu : 0 ≤ n → n ≤ m → 5 ≤ s') (hd : n < 0 → m ≤ n → 5 ≤ s') :
    Calls Tryd.prog 5 #[.int .i64 n, .int .i64 m] w fun e w' => e = .returned (.bool true) ∧ Below w.heap.size w w' := by
  have HF := Lib.hid hF
  have HF' := Lib.hid hF'
  have HSB := Lib.hid (same_int n m hF.val hF'.val)
  have HBN := Lib.hid (And.intro (And.intro hn1 hn2) (And.intro hm1 hm2))
  have HUD := Lib.hid (And.intro hu hd)
  have HH := Lib.hid (And.intro h1 h2)
  clear hF hF' hu hd hn1 hn2 hm1 hm2
  go_enter Tryd.func5, Tryd.ntmps5
  go_wp2_with fail
  refine (alive_t w).mono ?_
  rintro e w1 ⟨rfl, hb1⟩
  have HB := Lib.hid hb1
  clear hb1
  go_wp2_with fail
  refine (int_any n w1 HBN.out.1.1 HBN.out.1.2).mono ?_
  rintro e w2 ⟨⟨V1, rfl, hv1⟩, hb2⟩
  have HX := Lib.hid hv1.node
  have HB := Lib.hid (HB.out.trans (hb2.mono HB.out.size))
  clear hv1 hb2
  go_wp2_with fail
  refine (int_any m w2 HBN.out.2.1 HBN.out.2.2).mono ?_
  rintro e w3 ⟨⟨V2, rfl, hv2⟩, hb3⟩
  have HX := Lib.hid (HX.out.under hb3)
  have HY := Lib.hid hv2.node
  have HB := Lib.hid (HB.out.trans (hb3.mono HB.out.size))
  clear hv2 hb3
  obtain ⟨xc, xt, xk, xa, xl, xm, ya, yl, ym⟩ := V1
  obtain ⟨uc, ut, uk, ua, ul, um, va, vl, vm⟩ := V2
  have hxl : xl = 5 := HX.out.bytes.length.symm.trans HF.out.len
  have hul : ul = s' := HY.out.bytes.length.symm.trans HF'.out.len
  subst hxl hul
  unfold NV.agg
  dsimp only
  go_wp2_with fail
  obtain ⟨u1, hu1⟩ : ∃ u, w3.alloc (.cells #[.int .i64 xc, .int .i64 xt, .bool xk, .slice xa 5 xm, .slice ya yl ym] 25) = u := ⟨_, rfl⟩
  obtain ⟨u2, hu2⟩ : ∃ u, u1.alloc (.cells #[.int .i64 uc, .int .i64 ut, .bool uk, .slice ua ul um, .slice va vl vm] 25) = u := ⟨_, rfl⟩
  have hq1 : Below w3.heap.size w3 u1 := by rw [← hu1]; exact (Below.refl _ _).alloc (Nat.le_refl _) _
  have hq2 : Below u1.heap.size u1 u2 := by rw [← hu2]; exact (Below.refl _ _).alloc (Nat.le_refl _) _
  have hz : w3.heap.size < u1.heap.size ∧ u1.heap.size < u2.heap.size := ⟨by rw [← hu1]; simp, by rw [← hu2]; simp⟩
  have hq : Below w3.heap.size w3 u2 := hq1.trans (hq2.mono hq1.size)
  have hcx := (show CellsAt u1 w3.heap.size 0 ⟨xc, xt, xk, xa, 5, xm, ya, yl, ym⟩ by rw [← hu1]; exact cells5 _ _ _ _ _ _ _ _ _ _ _).below hq2 hz.1
  have hzz : u1.heap.size = w3.heap.size + 1 := by rw [← hu1]; simp
  have hcy : CellsAt u2 (w3.heap.size + 1) 0 ⟨uc, ut, uk, ua, ul, um, va, vl, vm⟩ := by rw [← hu2, ← hzz]; exact cells5 _ _ _ _ _ _ _ _ _ _ _
  have HX := Lib.hid (HX.out.under hq)
  have HY := Lib.hid (HY.out.under hq)
  have HB := Lib.hid (HB.out.trans (hq.mono HB.out.size))
  have HCX := Lib.hid hcx
  have HCY := Lib.hid hcy
  have HZ := Lib.hid (And.intro hz hzz)
  rw [hu1, hu2]
  clear hq1 hq2 hz hq hcx hcy hzz hu1 hu2
  refine (asInt_yes 2 (.inl rfl) _ (by rw [HF.out.len]; decide) HF.out.good ⟨xc, xt, xk, xa, 5, xm, ya, yl, ym⟩ u2 HX.out).mono ?_
  rintro e w4 ⟨rfl, hb4⟩
  rw [HF.out.val]
  have HB4 := Lib.hid hb4
  obtain ⟨p0, p1, p2, p3, p4⟩ := HCX.out.below hb4 (by have := HZ.out; omega)
  dsimp only at p0 p1 p2 p3 p4
  simp only [Nat.zero_add] at p0 p1 p2 p3 p4
  clear hb4
  go_wp2_with fail
  refine (check_int _ HF.out.good ⟨xc, xt, xk, xa, 5, xm, ya, yl, ym⟩ w4 (HX.out.under HB4.out)).mono ?_
  rintro e w5 ⟨rfl, hb5⟩
  have HB5 := Lib.hid (HB4.out.trans (hb5.mono HB4.out.size))
  obtain ⟨p0, p1, p2, p3, p4⟩ := HCX.out.below HB5.out (by have := HZ.out; omega)
  dsimp only at p0 p1 p2 p3 p4
  simp only [Nat.zero_add] at p0 p1 p2 p3 p4
  have HIS := Lib.hid (show (decide (xc = 0) && decide (xt = 2)) = true by
    have hxc : (0 : Int) = xc := HX.out.cls
    have hxt : (2 : Int) = xt := HX.out.tag
    rw [← hxc, ← hxt]; rfl)
  clear hb5
  go_wp2_with fail
  refine (is_lit ⟨xc, xt, xk, xa, 5, xm, ya, yl, ym⟩ 0 2 w5 true HIS.out).mono ?_
  rintro e w6 ⟨rfl, hb6⟩
  have HB6 := Lib.hid (HB5.out.trans (hb6.mono HB5.out.size))
  obtain ⟨p0, p1, p2, p3, p4⟩ := HCX.out.below HB6.out (by have := HZ.out; omega)
  obtain ⟨q0, q1, q2, q3, q4⟩ := HCY.out.below HB6.out (by have := HZ.out; omega)
  dsimp only at p0 p1 p2 p3 p4 q0 q1 q2 q3 q4
  simp only [Nat.zero_add] at p0 p1 p2 p3 p4 q0 q1 q2 q3 q4
  clear hb6

  go_upto_region 7 with fail
  have d1 : decide (n < 549755813888) = true := decide_eq_true HH.out.2
  have d2 : decide (-549755813888 ≤ n) = true := decide_eq_true HH.out.1
  go_upto_region 8 with fail
  clear d1 d2
  have H3 := Lib.hid h3
  clear h3
  have hs : (n < 0 ∧ n < m) ∨ (n < 0 ∧ m ≤ n) ∨ (0 ≤ n ∧ m < n) ∨ (0 ≤ n ∧ n ≤ m) := by omega
  obtain hs | hs | hs | hs := hs
  · have HS := Lib.hid hs
    clear hs
    have d3 : decide (2147483648 ≤ n) = false := decide_eq_false (by have := H3.out; have := HS.out; omega)
    have d4 : decide (n < -2147483648) = true := decide_eq_true (by have := H3.out; have := HS.out; omega)
    have e1 : decide (n < 0) = true := by simp; have := HS.out; omega
    have e2 : decide (0 ≤ n) = false := by simp; have := HS.out; omega
    have e3 : decide (n < m) = true := decide_eq_true HS.out.2
    go_wp2_with fail
    refine (same_any _ _ ⟨xc, xt, xk, xa, 5, xm, ya, yl, ym⟩ ⟨uc, ut, uk, ua, ul, um, va, vl, vm⟩ w6 (HX.out.under HB6.out) (HY.out.under HB6.out)).mono ?_
    rintro e w7 ⟨rfl, hb7⟩
    have HB7 := Lib.hid (HB6.out.trans (hb7.mono HB6.out.size))
    clear hb7 p0 p1 p2 p3 p4 q0 q1 q2 q3 q4 e1 e2 e3
    rw [HSB.out]
    go_wp2_with fail
    rw [show (decide (n = m) == (n == m)) = true by by_cases h : n = m <;> simp [h]]
    go_ret
    exact ⟨rfl, HB.out.trans (HB7.out.mono HB.out.size)⟩
  · have HS := Lib.hid hs
    clear hs
    have d3 : decide (2147483648 ≤ n) = false := decide_eq_false (by have := H3.out; have := HS.out; omega)
    have d4 : decide (n < -2147483648) = true := decide_eq_true (by have := H3.out; have := HS.out; omega)
    have e1 : decide (n < 0) = true := by simp; have := HS.out; omega
    have e2 : decide (0 ≤ n) = false := by simp; have := HS.out; omega
    have e3 : decide (n < m) = false := by simp; have := HS.out; omega
    have e4 : decide ((5 : Int) ≤ (ul : Int)) = true := decide_eq_true (by have := HUD.out.2 (by have := HS.out; omega) (by have := HS.out; omega); omega)
    go_wp2_with fail
    refine (same_any _ _ ⟨xc, xt, xk, xa, 5, xm, ya, yl, ym⟩ ⟨uc, ut, uk, ua, ul, um, va, vl, vm⟩ w6 (HX.out.under HB6.out) (HY.out.under HB6.out)).mono ?_
    rintro e w7 ⟨rfl, hb7⟩
    have HB7 := Lib.hid (HB6.out.trans (hb7.mono HB6.out.size))
    clear hb7 p0 p1 p2 p3 p4 q0 q1 q2 q3 q4 e1 e2 e3
    rw [HSB.out]
    go_wp2_with fail
    rw [show (decide (n = m) == (n == m)) = true by by_cases h : n = m <;> simp [h]]
    go_ret
    exact ⟨rfl, HB.out.trans (HB7.out.mono HB.out.size)⟩
  · have HS := Lib.hid hs
    clear hs
    have d3 : decide (2147483648 ≤ n) = true := decide_eq_true (by have := H3.out; have := HS.out; omega)
    have e1 : decide (n < 0) = false := by simp; have := HS.out; omega
    have e2 : decide (0 ≤ n) = true := by simp; have := HS.out; omega
    have e3 : decide (m < n) = true := decide_eq_true HS.out.2
    go_wp2_with fail
    refine (same_any _ _ ⟨xc, xt, xk, xa, 5, xm, ya, yl, ym⟩ ⟨uc, ut, uk, ua, ul, um, va, vl, vm⟩ w6 (HX.out.under HB6.out) (HY.out.under HB6.out)).mono ?_
    rintro e w7 ⟨rfl, hb7⟩
    have HB7 := Lib.hid (HB6.out.trans (hb7.mono HB6.out.size))
    clear hb7 p0 p1 p2 p3 p4 q0 q1 q2 q3 q4 e1 e2 e3
    rw [HSB.out]
    go_wp2_with fail
    rw [show (decide (n = m) == (n == m)) = true by by_cases h : n = m <;> simp [h]]
    go_ret
    exact ⟨rfl, HB.out.trans (HB7.out.mono HB.out.size)⟩
  · have HS := Lib.hid hs
    clear hs
    have d3 : decide (2147483648 ≤ n) = true := decide_eq_true (by have := H3.out; have := HS.out; omega)
    have e1 : decide (n < 0) = false := by simp; have := HS.out; omega
    have e2 : decide (0 ≤ n) = true := by simp; have := HS.out; omega
    have e3 : decide (m < n) = false := by simp; have := HS.out; omega
    have e4 : decide ((5 : Int) ≤ (ul : Int)) = true := decide_eq_true (by have := HUD.out.1 (by have := HS.out; omega) (by have := HS.out; omega); omega)
    go_wp2_with fail
    refine (same_any _ _ ⟨xc, xt, xk, xa, 5, xm, ya, yl, ym⟩ ⟨uc, ut, uk, ua, ul, um, va, vl, vm⟩ w6 (HX.out.under HB6.out) (HY.out.under HB6.out)).mono ?_
    rintro e w7 ⟨rfl, hb7⟩
    have HB7 := Lib.hid (HB6.out.trans (hb7.mono HB6.out.size))
    clear hb7 p0 p1 p2 p3 p4 q0 q1 q2 q3 q4 e1 e2 e3
    rw [HSB.out]
    go_wp2_with fail
    rw [show (decide (n = m) == (n == m)) = true by by_cases h : n = m <;> simp [h]]
    go_ret
    exact ⟨rfl, HB.out.trans (HB7.out.mono HB.out.size)⟩

set_option maxRecDepth 100000 in
set_option maxHeartbeats 8000000 in
theorem numbers_6 (n m : Int) (w : World) (hn1 : -9223372036854775808 ≤ n) (hn2 : n ≤ 9223372036854775807) (hm1 : -9223372036854775808 ≤ m) (hm2 : m ≤ 9223372036854775807) (s' : Nat) (hF : IntF n 6) (hF' : IntF m s') (hs1 : 1 ≤ s') (hs8 : s' ≤ 8) (h1 : -140737488355328 ≤ n) (h2 : n < 140737488355328) (h3 : n < -549755813888 ∨ 549755813888 ≤ n) (hu : 0 ≤ n → n ≤ m → 6 ≤ s') (hd : n < 0 → m ≤ n → 6 ≤ s') :
    Calls Tryd.prog 5 #[.int .i64 n, .int .i64 m] w fun e w' => e = .returned (.bool true) ∧ Below w.heap.size w w' := by
  have HF := Lib.hid hF
  have HF' := Lib.hid hF'
  have HSB := Lib.hid (same_int n m hF.val hF'.val)
  have HBN := Lib.hid (And.intro (And.intro hn1 hn2) (And.intro hm1 hm2))
  have HUD := Lib.hid (And.intro hu hd)
  have HH := Lib.hid (And.intro h1 h2)
  clear hF hF' hu hd hn1 hn2 hm1 hm2
  go_enter Tryd.func5, Tryd.ntmps5
  go_wp2_with fail
  refine (alive_t w).mono ?_
  rintro e w1 ⟨rfl, hb1⟩
  have HB := Lib.hid hb1
  clear hb1
  go_wp2_with fail
  refine (int_any n w1 HBN.out.1.1 HBN.out.1.2).mono ?_
  rintro e w2 ⟨⟨V1, rfl, hv1⟩, hb2⟩
  have HX := Lib.hid hv1.node
  have HB := Lib.hid (HB.out.trans (hb2.mono HB.out.size))
  clear hv1 hb2
  go_wp2_with fail
  refine (int_any m w2 HBN.out.2.1 HBN.out.2.2).mono ?_
  rintro e w3 ⟨⟨V2, rfl, hv2⟩, hb3⟩
  have HX := Lib.hid (HX.out.under hb3)
  have HY := Lib.hid hv2.node
  have HB := Lib.hid (HB.out.trans (hb3.mono HB.out.size))
  clear hv2 hb3
  obtain ⟨xc, xt, xk, xa, xl, xm, ya, yl, ym⟩ := V1
  obtain ⟨uc, ut, uk, ua, ul, um, va, vl, vm⟩ := V2
  have hxl : xl = 6 := HX.out.bytes.length.symm.trans HF.out.len
  have hul : ul = s' := HY.out.bytes.length.symm.trans HF'.out.len
  subst hxl hul
  unfold NV.agg
  dsimp only
  go_wp2_with fail
  obtain ⟨u1, hu1⟩ : ∃ u, w3.alloc (.cells #[.int .i64 xc, .int .i64 xt, .bool xk, .slice xa 6 xm, .slice ya yl ym] 25) = u := ⟨_, rfl⟩
  obtain ⟨u2, hu2⟩ : ∃ u, u1.alloc (.cells #[.int .i64 uc, .int .i64 ut, .bool uk, .slice ua ul um, .slice va vl vm] 25) = u := ⟨_, rfl⟩
  have hq1 : Below w3.heap.size w3 u1 := by rw [← hu1]; exact (Below.refl _ _).alloc (Nat.le_refl _) _
  have hq2 : Below u1.heap.size u1 u2 := by rw [← hu2]; exact (Below.refl _ _).alloc (Nat.le_refl _) _
  have hz : w3.heap.size < u1.heap.size ∧ u1.heap.size < u2.heap.size := ⟨by rw [← hu1]; simp, by rw [← hu2]; simp⟩
  have hq : Below w3.heap.size w3 u2 := hq1.trans (hq2.mono hq1.size)
  have hcx := (show CellsAt u1 w3.heap.size 0 ⟨xc, xt, xk, xa, 6, xm, ya, yl, ym⟩ by rw [← hu1]; exact cells5 _ _ _ _ _ _ _ _ _ _ _).below hq2 hz.1
  have hzz : u1.heap.size = w3.heap.size + 1 := by rw [← hu1]; simp
  have hcy : CellsAt u2 (w3.heap.size + 1) 0 ⟨uc, ut, uk, ua, ul, um, va, vl, vm⟩ := by rw [← hu2, ← hzz]; exact cells5 _ _ _ _ _ _ _ _ _ _ _
  have HX := Lib.hid (HX.out.under hq)
  have HY := Lib.hid (HY.out.under hq)
  have HB := Lib.hid (HB.out.trans (hq.mono HB.out.size))
  have HCX := Lib.hid hcx
  have HCY := Lib.hid hcy
  have HZ := Lib.hid (And.intro hz hzz)
  rw [hu1, hu2]
  clear hq1 hq2 hz hq hcx hcy hzz hu1 hu2
  refine (asInt_yes 2 (.inl rfl) _ (by rw [HF.out.len]; decide) HF.out.good ⟨xc, xt, xk, xa, 6, xm, ya, yl, ym⟩ u2 HX.out).mono ?_
  rintro e w4 ⟨rfl, hb4⟩
  rw [HF.out.val]
  have HB4 := Lib.hid hb4
  obtain ⟨p0, p1, p2, p3, p4⟩ := HCX.out.below hb4 (by have := HZ.out; omega)
  dsimp only at p0 p1 p2 p3 p4
  simp only [Nat.zero_add] at p0 p1 p2 p3 p4
  clear hb4
  go_wp2_with fail
  refine (check_int _ HF.out.good ⟨xc, xt, xk, xa, 6, xm, ya, yl, ym⟩ w4 (HX.out.under HB4.out)).mono ?_
  rintro e w5 ⟨rfl, hb5⟩
  have HB5 := Lib.hid (HB4.out.trans (hb5.mono HB4.out.size))
  obtain ⟨p0, p1, p2, p3, p4⟩ := HCX.out.below HB5.out (by have := HZ.out; omega)
  dsimp only at p0 p1 p2 p3 p4
  simp only [Nat.zero_add] at p0 p1 p2 p3 p4
  have HIS := Lib.hid (show (decide (xc = 0) && decide (xt = 2)) = true by
    have hxc : (0 : Int) = xc := HX.out.cls
    have hxt : (2 : Int) = xt := HX.out.tag
    rw [← hxc, ← hxt]; rfl)
  clear hb5
  go_wp2_with fail
  refine (is_lit ⟨xc, xt, xk, xa, 6, xm, ya, yl, ym⟩ 0 2 w5 true HIS.out).mono ?_
  rintro e w6 ⟨rfl, hb6⟩
  have HB6 := Lib.hid (HB5.out.trans (hb6.mono HB5.out.size))
  obtain ⟨p0, p1, p2, p3, p4⟩ := HCX.out.below HB6.out (by have := HZ.out; omega)
  obtain ⟨q0, q1, q2, q3, q4⟩ := HCY.out.below HB6.out (by have := HZ.out; omega)
  dsimp only at p0 p1 p2 p3 p4 q0 q1 q2 q3 q4
  simp only [Nat.zero_add] at p0 p1 p2 p3 p4 q0 q1 q2 q3 q4
  clear hb6

  go_upto_region 7 with fail
  have d1 : decide (n < 140737488355328) = true := decide_eq_true HH.out.2
  have d2 : decide (-140737488355328 ≤ n) = true := decide_eq_true HH.out.1
  go_upto_region 8 with fail
  clear d1 d2
  have H3 := Lib.hid h3
  clear h3
  have hs : (n < 0 ∧ n < m) ∨ (n < 0 ∧ m ≤ n) ∨ (0 ≤ n ∧ m < n) ∨ (0 ≤ n ∧ n ≤ m) := by omega
  obtain hs | hs | hs | hs := hs
  · have HS := Lib.hid hs
    clear hs
    have d3 : decide (549755813888 ≤ n) = false := decide_eq_false (by have := H3.out; have := HS.out; omega)
    have d4 : decide (n < -549755813888) = true := decide_eq_true (by have := H3.out; have := HS.out; omega)
    have e1 : decide (n < 0) = true := by simp; have := HS.out; omega
    have e2 : decide (0 ≤ n) = false := by simp; have := HS.out; omega
    have e3 : decide (n < m) = true := decide_eq_true HS.out.2
    go_wp2_with fail
    refine (same_any _ _ ⟨xc, xt, xk, xa, 6, xm, ya, yl, ym⟩ ⟨uc, ut, uk, ua, ul, um, va, vl, vm⟩ w6 (HX.out.under HB6.out) (HY.out.under HB6.out)).mono ?_
    rintro e w7 ⟨rfl, hb7⟩
    have HB7 := Lib.hid (HB6.out.trans (hb7.mono HB6.out.size))
    clear hb7 p0 p1 p2 p3 p4 q0 q1 q2 q3 q4 e1 e2 e3
    rw [HSB.out]
    go_wp2_with fail
    rw [show (decide (n = m) == (n == m)) = true by by_cases h : n = m <;> simp [h]]
    go_ret
    exact ⟨rfl, HB.out.trans (HB7.out.mono HB.out.size)⟩
  · have HS := Lib.hid hs
    clear hs
    have d3 : decide (549755813888 ≤ n) = false := decide_eq_false (by have := H3.out; have := HS.out; omega)
    have d4 : decide (n < -549755813888) = true := decide_eq_true (by have := H3.out; have := HS.out; omega)
    have e1 : decide (n < 0) = true := by simp; have := HS.out; omega
    have e2 : decide (0 ≤ n) = false := by simp; have := HS.out; omega
    have e3 : decide (n < m) = false := by simp; have := HS.out; omega
    have e4 : decide ((6 : Int) ≤ (ul : Int)) = true := decide_eq_true (by have := HUD.out.2 (by have := HS.out; omega) (by have := HS.out; omega); omega)
    go_wp2_with fail
    refine (same_any _ _ ⟨xc, xt, xk, xa, 6, xm, ya, yl, ym⟩ ⟨uc, ut, uk, ua, ul, um, va, vl, vm⟩ w6 (HX.out.under HB6.out) (HY.out.under HB6.out)).mono ?_
    rintro e w7 ⟨rfl, hb7⟩
    have HB7 := Lib.hid (HB6.out.trans (hb7.mono HB6.out.size))
    clear hb7 p0 p1 p2 p3 p4 q0 q1 q2 q3 q4 e1 e2 e3
    rw [HSB.out]
    go_wp2_with fail
    rw [show (decide (n = m) == (n == m)) = true by by_cases h : n = m <;> simp [h]]
    go_ret
    exact ⟨rfl, HB.out.trans (HB7.out.mono HB.out.size)⟩
  · have HS := Lib.hid hs
    clear hs
    have d3 : decide (549755813888 ≤ n) = true := decide_eq_true (by have := H3.out; have := HS.out; omega)
    have e1 : decide (n < 0) = false := by simp; have := HS.out; omega
    have e2 : decide (0 ≤ n) = true := by simp; have := HS.out; omega
    have e3 : decide (m < n) = true := decide_eq_true HS.out.2
    go_wp2_with fail
    refine (same_any _ _ ⟨xc, xt, xk, xa, 6, xm, ya, yl, ym⟩ ⟨uc, ut, uk, ua, ul, um, va, vl, vm⟩ w6 (HX.out.under HB6.out) (HY.out.under HB6.out)).mono ?_
    rintro e w7 ⟨rfl, hb7⟩
    have HB7 := Lib.hid (HB6.out.trans (hb7.mono HB6.out.size))
    clear hb7 p0 p1 p2 p3 p4 q0 q1 q2 q3 q4 e1 e2 e3
    rw [HSB.out]
    go_wp2_with fail
    rw [show (decide (n = m) == (n == m)) = true by by_cases h : n = m <;> simp [h]]
    go_ret
    exact ⟨rfl, HB.out.trans (HB7.out.mono HB.out.size)⟩
  · have HS := Lib.hid hs
    clear hs
    have d3 : decide (549755813888 ≤ n) = true := decide_eq_true (by have := H3.out; have := HS.out; omega)
    have e1 : decide (n < 0) = false := by simp; have := HS.out; omega
    have e2 : decide (0 ≤ n) = true := by simp; have := HS.out; omega
    have e3 : decide (m < n) = false := by simp; have := HS.out; omega
    have e4 : decide ((6 : Int) ≤ (ul : Int)) = true := decide_eq_true (by have := HUD.out.1 (by have := HS.out; omega) (by have := HS.out; omega); omega)
    go_wp2_with fail
    refine (same_any _ _ ⟨xc, xt, xk, xa, 6, xm, ya, yl, ym⟩ ⟨uc, ut, uk, ua, ul, um, va, vl, vm⟩ w6 (HX.out.under HB6.out) (HY.out.under HB6.out)).mono ?_
    rintro e w7 ⟨rfl, hb7⟩
    have HB7 := Lib.hid (HB6.out.trans (hb7.mono HB6.out.size))
    clear hb7 p0 p1 p2 p3 p4 q0 q1 q2 q3 q4 e1 e2 e3
    rw [HSB.out]
    go_wp2_with fail
    rw [show (decide (n = m) == (n == m)) = true by by_cases h : n = m <;> simp [h]]
    go_ret
    exact ⟨rfl, HB.out.trans (HB7.out.mono HB.out.size)⟩

set_option maxRecDepth 100000 in
set_option maxHeartbeats 8000000 in
theorem numbers_7 (n m : Int) (w : World) (hn1 : -9223372036854775808 ≤ n) (hn2 : n ≤ 9223372036854775807) (hm1 : -9223372036854775808 ≤ m) (hm2 : m ≤ 9223372036854775807) (s' : Nat) (hF : IntF n 7) (hF' : IntF m s') (hs1 : 1 ≤ s') (hs8 : s' ≤ 8) (h1 : -36028797018963968 ≤ n) (h2 : n < 36028797018963968) (h3 : n < -140737488355328 ∨ 140737488355328 ≤ n) (hu : 0 ≤ n → n ≤ m → 7 ≤ s') (hd : n < 0 → m ≤ n → 7 ≤ s') :
    Calls Tryd.prog 5 #[.int .i64 n, .int .i64 m] w fun e w' => e = .returned (.bool true) ∧ Below w.heap.size w w' := by
  have HF := Lib.hid hF
  have HF' := Lib.hid hF'
  have HSB := Lib.hid (same_int n m hF.val hF'.val)
  have HBN := Lib.hid (And.intro (And.intro hn1 hn2) (And.intro hm1 hm2))
  have HUD := Lib.hid (And.intro hu hd)
  have HH := Lib.hid (And.intro h1 h2)
  clear hF hF' hu hd hn1 hn2 hm1 hm2
  go_enter Tryd.func5, Tryd.ntmps5
  go_wp2_with fail
  refine (alive_t w).mono ?_
  rintro e w1 ⟨rfl, hb1⟩
  have HB := Lib.hid hb1
  clear hb1
  go_wp2_with fail
  refine (int_any n w1 HBN.out.1.1 HBN.out.1.2).mono ?_
  rintro e w2 ⟨⟨V1, rfl, hv1⟩, hb2⟩
  have HX := Lib.hid hv1.node
  have HB := Lib.hid (HB.out.trans (hb2.mono HB.out.size))
  clear hv1 hb2
  go_wp2_with fail
  refine (int_any m w2 HBN.out.2.1 HBN.out.2.2).mono ?_
  rintro e w3 ⟨⟨V2, rfl, hv2⟩, hb3⟩
  have HX := Lib.hid (HX.out.under hb3)
  have HY := Lib.hid hv2.node
  have HB := Lib.hid (HB.out.trans (hb3.mono HB.out.size))
  clear hv2 hb3
  obtain ⟨xc, xt, xk, xa, xl, xm, ya, yl, ym⟩ := V1
  obtain ⟨uc, ut, uk, ua, ul, um, va, vl, vm⟩ := V2
  have hxl : xl = 7 := HX.out.bytes.length.symm.trans HF.out.len
  have hul : ul = s' := HY.out.bytes.length.symm.trans HF'.out.len
  subst hxl hul
  unfold NV.agg
  dsimp only
  go_wp2_with fail
  obtain ⟨u1, hu1⟩ : ∃ u, w3.alloc (.cells #[.int .i64 xc, .int .i64 xt, .bool xk, .slice xa 7 xm, .slice ya yl ym] 25) = u := ⟨_, rfl⟩
  obtain ⟨u2, hu2⟩ : ∃ u, u1.alloc (.cells #[.int .i64 uc, .int .i64 ut, .bool uk, .slice ua ul um, .slice va vl vm] 25) = u := ⟨_, rfl⟩
  have hq1 : Below w3.heap.size w3 u1 := by rw [← hu1]; exact (Below.refl _ _).alloc (Nat.le_refl _) _
  have hq2 : Below u1.heap.size u1 u2 := by rw [← hu2]; exact (Below.refl _ _).alloc (Nat.le_refl _) _
  have hz : w3.heap.size < u1.heap.size ∧ u1.heap.size < u2.heap.size := ⟨by rw [← hu1]; simp, by rw [← hu2]; simp⟩
  have hq : Below w3.heap.size w3 u2 := hq1.trans (hq2.mono hq1.size)
  have hcx := (show CellsAt u1 w3.heap.size 0 ⟨xc, xt, xk, xa, 7, xm, ya, yl, ym⟩ by rw [← hu1]; exact cells5 _ _ _ _ _ _ _ _ _ _ _).below hq2 hz.1
  have hzz : u1.heap.size = w3.heap.size + 1 := by rw [← hu1]; simp
  have hcy : CellsAt u2 (w3.heap.size + 1) 0 ⟨uc, ut, uk, ua, ul, um, va, vl, vm⟩ := by rw [← hu2, ← hzz]; exact cells5 _ _ _ _ _ _ _ _ _ _ _
  have HX := Lib.hid (HX.out.under hq)
  have HY := Lib.hid (HY.out.under hq)
  have HB := Lib.hid (HB.out.trans (hq.mono HB.out.size))
  have HCX := Lib.hid hcx
  have HCY := Lib.hid hcy
  have HZ := Lib.hid (And.intro hz hzz)
  rw [hu1, hu2]
  clear hq1 hq2 hz hq hcx hcy hzz hu1 hu2
  refine (asInt_yes 2 (.inl rfl) _ (by rw [HF.out.len]; decide) HF.out.good ⟨xc, xt, xk, xa, 7, xm, ya, yl, ym⟩ u2 HX.out).mono ?_
  rintro e w4 ⟨rfl, hb4⟩
  rw [HF.out.val]
  have HB4 := Lib.hid hb4
  obtain ⟨p0, p1, p2, p3, p4⟩ := HCX.out.below hb4 (by have := HZ.out; omega)
  dsimp only at p0 p1 p2 p3 p4
  simp only [Nat.zero_add] at p0 p1 p2 p3 p4
  clear hb4
  go_wp2_with fail
  refine (check_int _ HF.out.good ⟨xc, xt, xk, xa, 7, xm, ya, yl, ym⟩ w4 (HX.out.under HB4.out)).mono ?_
  rintro e w5 ⟨rfl, hb5⟩
  have HB5 := Lib.hid (HB4.out.trans (hb5.mono HB4.out.size))
  obtain ⟨p0, p1, p2, p3, p4⟩ := HCX.out.below HB5.out (by have := HZ.out; omega)
  dsimp only at p0 p1 p2 p3 p4
  simp only [Nat.zero_add] at p0 p1 p2 p3 p4
  have HIS := Lib.hid (show (decide (xc = 0) && decide (xt = 2)) = true by
    have hxc : (0 : Int) = xc := HX.out.cls
    have hxt : (2 : Int) = xt := HX.out.tag
    rw [← hxc, ← hxt]; rfl)
  clear hb5
  go_wp2_with fail
  refine (is_lit ⟨xc, xt, xk, xa, 7, xm, ya, yl, ym⟩ 0 2 w5 true HIS.out).mono ?_
  rintro e w6 ⟨rfl, hb6⟩
  have HB6 := Lib.hid (HB5.out.trans (hb6.mono HB5.out.size))
  obtain ⟨p0, p1, p2, p3, p4⟩ := HCX.out.below HB6.out (by have := HZ.out; omega)
  obtain ⟨q0, q1, q2, q3, q4⟩ := HCY.out.below HB6.out (by have := HZ.out; omega)
  dsimp only at p0 p1 p2 p3 p4 q0 q1 q2 q3 q4
  simp only [Nat.zero_add] at p0 p1 p2 p3 p4 q0 q1 q2 q3 q4
  clear hb6

  go_upto_region 7 with fail
  have d1 : decide (n < 36028797018963968) = true := decide_eq_true HH.out.2
  have d2 : decide (-36028797018963968 ≤ n) = true := decide_eq_true HH.out.1
  go_upto_region 8 with fail
  clear d1 d2
  have H3 := Lib.hid h3
  clear h3
  have hs : (n < 0 ∧ n < m) ∨ (n < 0 ∧ m ≤ n) ∨ (0 ≤ n ∧ m < n) ∨ (0 ≤ n ∧ n ≤ m) := by omega
  obtain hs | hs | hs | hs := hs
  · have HS := Lib.hid hs
    clear hs
    have d3 : decide (140737488355328 ≤ n) = false := decide_eq_false (by have := H3.out; have := HS.out; omega)
    have d4 : decide (n < -140737488355328) = true := decide_eq_true (by have := H3.out; have := HS.out; omega)
    have e1 : decide (n < 0) = true := by simp; have := HS.out; omega
    have e2 : decide (0 ≤ n) = false := by simp; have := HS.out; omega
    have e3 : decide (n < m) = true := decide_eq_true HS.out.2
    go_wp2_with fail
    refine (same_any _ _ ⟨xc, xt, xk, xa, 7, xm, ya, yl, ym⟩ ⟨uc, ut, uk, ua, ul, um, va, vl, vm⟩ w6 (HX.out.under HB6.out) (HY.out.under HB6.out)).mono ?_
    rintro e w7 ⟨rfl, hb7⟩
    have HB7 := Lib.hid (HB6.out.trans (hb7.mono HB6.out.size))
    clear hb7 p0 p1 p2 p3 p4 q0 q1 q2 q3 q4 e1 e2 e3
    rw [HSB.out]
    go_wp2_with fail
    rw [show (decide (n = m) == (n == m)) = true by by_cases h : n = m <;> simp [h]]
    go_ret
    exact ⟨rfl, HB.out.trans (HB7.out.mono HB.out.size)⟩
  · have HS := Lib.hid hs
    clear hs
    have d3 : decide (140737488355328 ≤ n) = false := decide_eq_false (by have := H3.out; have := HS.out; omega)
    have d4 : decide (n < -140737488355328) = true := decide_eq_true (by have := H3.out; have := HS.out; omega)
    have e1 : decide (n < 0) = true := by simp; have := HS.out; omega
    have e2 : decide (0 ≤ n) = false := by simp; have := HS.out; omega
    have e3 : decide (n < m) = false := by simp; have := HS.out; omega
    have e4 : decide ((7 : Int) ≤ (ul : Int)) = true := decide_eq_true (by have := HUD.out.2 (by have := HS.out; omega) (by have := HS.out; omega); omega)
    go_wp2_with fail
    refine (same_any _ _ ⟨xc, xt, xk, xa, 7, xm, ya, yl, ym⟩ ⟨uc, ut, uk, ua, ul, um, va, vl, vm⟩ w6 (HX.out.under HB6.out) (HY.out.under HB6.out)).mono ?_
    rintro e w7 ⟨rfl, hb7⟩
    have HB7 := Lib.hid (HB6.out.trans (hb7.mono HB6.out.size))
    clear hb7 p0 p1 p2 p3 p4 q0 q1 q2 q3 q4 e1 e2 e3
    rw [HSB.out]
    go_wp2_with fail
    rw [show (decide (n = m) == (n == m)) = true by by_cases h : n = m <;> simp [h]]
    go_ret
    exact ⟨rfl, HB.out.trans (HB7.out.mono HB.out.size)⟩
  · have HS := Lib.hid hs
    clear hs
    have d3 : decide (140737488355328 ≤ n) = true := decide_eq_true (by have := H3.out; have := HS.out; omega)
    have e1 : decide (n < 0) = false := by simp; have := HS.out; omega
    have e2 : decide (0 ≤ n) = true := by simp; have := HS.out; omega
    have e3 : decide (m < n) = true := decide_eq_true HS.out.2
    go_wp2_with fail
    refine (same_any _ _ ⟨xc, xt, xk, xa, 7, xm, ya, yl, ym⟩ ⟨uc, ut, uk, ua, ul, um, va, vl, vm⟩ w6 (HX.out.under HB6.out) (HY.out.under HB6.out)).mono ?_
    rintro e w7 ⟨rfl, hb7⟩
    have HB7 := Lib.hid (HB6.out.trans (hb7.mono HB6.out.size))
    clear hb7 p0 p1 p2 p3 p4 q0 q1 q2 q3 q4 e1 e2 e3
    rw [HSB.out]
    go_wp2_with fail
    rw [show (decide (n = m) == (n == m)) = true by by_cases h : n = m <;> simp [h]]
    go_ret
    exact ⟨rfl, HB.out.trans (HB7.out.mono HB.out.size)⟩
  · have HS := Lib.hid hs
    clear hs
    have d3 : decide (140737488355328 ≤ n) = true := decide_eq_true (by have := H3.out; have := HS.out; omega)
    have e1 : decide (n < 0) = false := by simp; have := HS.out; omega
    have e2 : decide (0 ≤ n) = true := by simp; have := HS.out; omega
    have e3 : decide (m < n) = false := by simp; have := HS.out; omega
    have e4 : decide ((7 : Int) ≤ (ul : Int)) = true := decide_eq_true (by have := HUD.out.1 (by have := HS.out; omega) (by have := HS.out; omega); omega)
    go_wp2_with fail
    refine (same_any _ _ ⟨xc, xt, xk, xa, 7, xm, ya, yl, ym⟩ ⟨uc, ut, uk, ua, ul, um, va, vl, vm⟩ w6 (HX.out.under HB6.out) (HY.out.under HB6.out)).mono ?_
    rintro e w7 ⟨rfl, hb7⟩
    have HB7 := Lib.hid (HB6.out.trans (hb7.mono HB6.out.size))
    clear hb7 p0 p1 p2 p3 p4 q0 q1 q2 q3 q4 e1 e2 e3
    rw [HSB.out]
    go_wp2_with fail
    rw [show (decide (n = m) == (n == m)) = true by by_cases h : n = m <;> simp [h]]
    go_ret
    exact ⟨rfl, HB.out.trans (HB7.out.mono HB.out.size)⟩

set_option maxRecDepth 100000 in
set_option maxHeartbeats 8000000 in
theorem numbers_8 (n m : Int) (w : World) (hn1 : -9223372036854775808 ≤ n) (hn2 : n ≤ 9223372036854775807) (hm1 : -9223372036854775808 ≤ m) (hm2 : m ≤ 9223372036854775807) (s' : Nat) (hF : IntF n 8) (hF' : IntF m s') (hs1 : 1 ≤ s') (hs8 : s' ≤ 8) (h1 : -9223372036854775808 ≤ n) (h2 : n < 9223372036854775808) (h3 : n < -36028797018963968 ∨ 36028797018963968 ≤ n) (hu : 0 ≤ n → n ≤ m → 8 ≤ s') (hd : n < 0 → m ≤ n → 8 ≤ s') :
    Calls Tryd.prog 5 #[.int .i64 n, .int .i64 m] w fun e w' => e = .returned (.bool true) ∧ Below w.heap.size w w' := by
  have HF := Lib.hid hF
  have HF' := Lib.hid hF'
  have HSB := Lib.hid (same_int n m hF.val hF'.val)
  have HBN := Lib.hid (And.intro (And.intro hn1 hn2) (And.intro hm1 hm2))
  have HUD := Lib.hid (And.intro hu hd)
  have HH := Lib.hid (And.intro h1 h2)
  clear hF hF' hu hd hn1 hn2 hm1 hm2
  go_enter Tryd.func5, Tryd.ntmps5
  go_wp2_with fail
  refine (alive_t w).mono ?_
  rintro e w1 ⟨rfl, hb1⟩
  have HB := Lib.hid hb1
  clear hb1
  go_wp2_with fail
  refine (int_any n w1 HBN.out.1.1 HBN.out.1.2).mono ?_
  rintro e w2 ⟨⟨V1, rfl, hv1⟩, hb2⟩
  have HX := Lib.hid hv1.node
  have HB := Lib.hid (HB.out.trans (hb2.mono HB.out.size))
  clear hv1 hb2
  go_wp2_with fail
  refine (int_any m w2 HBN.out.2.1 HBN.out.2.2).mono ?_
  rintro e w3 ⟨⟨V2, rfl, hv2⟩, hb3⟩
  have HX := Lib.hid (HX.out.under hb3)
  have HY := Lib.hid hv2.node
  have HB := Lib.hid (HB.out.trans (hb3.mono HB.out.size))
  clear hv2 hb3
  obtain ⟨xc, xt, xk, xa, xl, xm, ya, yl, ym⟩ := V1
  obtain ⟨uc, ut, uk, ua, ul, um, va, vl, vm⟩ := V2
  have hxl : xl = 8 := HX.out.bytes.length.symm.trans HF.out.len
  have hul : ul = s' := HY.out.bytes.length.symm.trans HF'.out.len
  subst hxl hul
  unfold NV.agg
  dsimp only
  go_wp2_with fail
  obtain ⟨u1, hu1⟩ : ∃ u, w3.alloc (.cells #[.int .i64 xc, .int .i64 xt, .bool xk, .slice xa 8 xm, .slice ya yl ym] 25) = u := ⟨_, rfl⟩
  obtain ⟨u2, hu2⟩ : ∃ u, u1.alloc (.cells #[.int .i64 uc, .int .i64 ut, .bool uk, .slice ua ul um, .slice va vl vm] 25) = u := ⟨_, rfl⟩
  have hq1 : Below w3.heap.size w3 u1 := by rw [← hu1]; exact (Below.refl _ _).alloc (Nat.le_refl _) _
  have hq2 : Below u1.heap.size u1 u2 := by rw [← hu2]; exact (Below.refl _ _).alloc (Nat.le_refl _) _
  have hz : w3.heap.size < u1.heap.size ∧ u1.heap.size < u2.heap.size := ⟨by rw [← hu1]; simp, by rw [← hu2]; simp⟩
  have hq : Below w3.heap.size w3 u2 := hq1.trans (hq2.mono hq1.size)
  have hcx := (show CellsAt u1 w3.heap.size 0 ⟨xc, xt, xk, xa, 8, xm, ya, yl, ym⟩ by rw [← hu1]; exact cells5 _ _ _ _ _ _ _ _ _ _ _).below hq2 hz.1
  have hzz : u1.heap.size = w3.heap.size + 1 := by rw [← hu1]; simp
  have hcy : CellsAt u2 (w3.heap.size + 1) 0 ⟨uc, ut, uk, ua, ul, um, va, vl, vm⟩ := by rw [← hu2, ← hzz]; exact cells5 _ _ _ _ _ _ _ _ _ _ _
  have HX := Lib.hid (HX.out.under hq)
  have HY := Lib.hid (HY.out.under hq)
  have HB := Lib.hid (HB.out.trans (hq.mono HB.out.size))
  have HCX := Lib.hid hcx
  have HCY := Lib.hid hcy
  have HZ := Lib.hid (And.intro hz hzz)
  rw [hu1, hu2]
  clear hq1 hq2 hz hq hcx hcy hzz hu1 hu2
  refine (asInt_yes 2 (.inl rfl) _ (by rw [HF.out.len]; decide) HF.out.good ⟨xc, xt, xk, xa, 8, xm, ya, yl, ym⟩ u2 HX.out).mono ?_
  rintro e w4 ⟨rfl, hb4⟩
  rw [HF.out.val]
  have HB4 := Lib.hid hb4
  obtain ⟨p0, p1, p2, p3, p4⟩ := HCX.out.below hb4 (by have := HZ.out; omega)
  dsimp only at p0 p1 p2 p3 p4
  simp only [Nat.zero_add] at p0 p1 p2 p3 p4
  clear hb4
  go_wp2_with fail
  refine (check_int _ HF.out.good ⟨xc, xt, xk, xa, 8, xm, ya, yl, ym⟩ w4 (HX.out.under HB4.out)).mono ?_
  rintro e w5 ⟨rfl, hb5⟩
  have HB5 := Lib.hid (HB4.out.trans (hb5.mono HB4.out.size))
  obtain ⟨p0, p1, p2, p3, p4⟩ := HCX.out.below HB5.out (by have := HZ.out; omega)
  dsimp only at p0 p1 p2 p3 p4
  simp only [Nat.zero_add] at p0 p1 p2 p3 p4
  have HIS := Lib.hid (show (decide (xc = 0) && decide (xt = 2)) = true by
    have hxc : (0 : Int) = xc := HX.out.cls
    have hxt : (2 : Int) = xt := HX.out.tag
    rw [← hxc, ← hxt]; rfl)
  clear hb5
  go_wp2_with fail
  refine (is_lit ⟨xc, xt, xk, xa, 8, xm, ya, yl, ym⟩ 0 2 w5 true HIS.out).mono ?_
  rintro e w6 ⟨rfl, hb6⟩
  have HB6 := Lib.hid (HB5.out.trans (hb6.mono HB5.out.size))
  obtain ⟨p0, p1, p2, p3, p4⟩ := HCX.out.below HB6.out (by have := HZ.out; omega)
  obtain ⟨q0, q1, q2, q3, q4⟩ := HCY.out.below HB6.out (by have := HZ.out; omega)
  dsimp only at p0 p1 p2 p3 p4 q0 q1 q2 q3 q4
  simp only [Nat.zero_add] at p0 p1 p2 p3 p4 q0 q1 q2 q3 q4
  clear hb6

  go_upto_region 7 with fail
  go_upto_region 8 with fail
  have H3 := Lib.hid h3
  clear h3
  have hs : (n < 0 ∧ n < m) ∨ (n < 0 ∧ m ≤ n) ∨ (0 ≤ n ∧ m < n) ∨ (0 ≤ n ∧ n ≤ m) := by omega
  obtain hs | hs | hs | hs := hs
  · have HS := Lib.hid hs
    clear hs
    have d3 : decide (36028797018963968 ≤ n) = false := decide_eq_false (by have := H3.out; have := HS.out; omega)
    have d4 : decide (n < -36028797018963968) = true := decide_eq_true (by have := H3.out; have := HS.out; omega)
    have e1 : decide (n < 0) = true := by simp; have := HS.out; omega
    have e2 : decide (0 ≤ n) = false := by simp; have := HS.out; omega
    have e3 : decide (n < m) = true := decide_eq_true HS.out.2
    go_wp2_with fail
    refine (same_any _ _ ⟨xc, xt, xk, xa, 8, xm, ya, yl, ym⟩ ⟨uc, ut, uk, ua, ul, um, va, vl, vm⟩ w6 (HX.out.under HB6.out) (HY.out.under HB6.out)).mono ?_
    rintro e w7 ⟨rfl, hb7⟩
    have HB7 := Lib.hid (HB6.out.trans (hb7.mono HB6.out.size))
    clear hb7 p0 p1 p2 p3 p4 q0 q1 q2 q3 q4 e1 e2 e3
    rw [HSB.out]
    go_wp2_with fail
    rw [show (decide (n = m) == (n == m)) = true by by_cases h : n = m <;> simp [h]]
    go_ret
    exact ⟨rfl, HB.out.trans (HB7.out.mono HB.out.size)⟩
  · have HS := Lib.hid hs
    clear hs
    have d3 : decide (36028797018963968 ≤ n) = false := decide_eq_false (by have := H3.out; have := HS.out; omega)
    have d4 : decide (n < -36028797018963968) = true := decide_eq_true (by have := H3.out; have := HS.out; omega)
    have e1 : decide (n < 0) = true := by simp; have := HS.out; omega
    have e2 : decide (0 ≤ n) = false := by simp; have := HS.out; omega
    have e3 : decide (n < m) = false := by simp; have := HS.out; omega
    have e4 : decide ((8 : Int) ≤ (ul : Int)) = true := decide_eq_true (by have := HUD.out.2 (by have := HS.out; omega) (by have := HS.out; omega); omega)
    go_wp2_with fail
    refine (same_any _ _ ⟨xc, xt, xk, xa, 8, xm, ya, yl, ym⟩ ⟨uc, ut, uk, ua, ul, um, va, vl, vm⟩ w6 (HX.out.under HB6.out) (HY.out.under HB6.out)).mono ?_
    rintro e w7 ⟨rfl, hb7⟩
    have HB7 := Lib.hid (HB6.out.trans (hb7.mono HB6.out.size))
    clear hb7 p0 p1 p2 p3 p4 q0 q1 q2 q3 q4 e1 e2 e3
    rw [HSB.out]
    go_wp2_with fail
    rw [show (decide (n = m) == (n == m)) = true by by_cases h : n = m <;> simp [h]]
    go_ret
    exact ⟨rfl, HB.out.trans (HB7.out.mono HB.out.size)⟩
  · have HS := Lib.hid hs
    clear hs
    have d3 : decide (36028797018963968 ≤ n) = true := decide_eq_true (by have := H3.out; have := HS.out; omega)
    have e1 : decide (n < 0) = false := by simp; have := HS.out; omega
    have e2 : decide (0 ≤ n) = true := by simp; have := HS.out; omega
    have e3 : decide (m < n) = true := decide_eq_true HS.out.2
    go_wp2_with fail
    refine (same_any _ _ ⟨xc, xt, xk, xa, 8, xm, ya, yl, ym⟩ ⟨uc, ut, uk, ua, ul, um, va, vl, vm⟩ w6 (HX.out.under HB6.out) (HY.out.under HB6.out)).mono ?_
    rintro e w7 ⟨rfl, hb7⟩
    have HB7 := Lib.hid (HB6.out.trans (hb7.mono HB6.out.size))
    clear hb7 p0 p1 p2 p3 p4 q0 q1 q2 q3 q4 e1 e2 e3
    rw [HSB.out]
    go_wp2_with fail
    rw [show (decide (n = m) == (n == m)) = true by by_cases h : n = m <;> simp [h]]
    go_ret
    exact ⟨rfl, HB.out.trans (HB7.out.mono HB.out.size)⟩
  · have HS := Lib.hid hs
    clear hs
    have d3 : decide (36028797018963968 ≤ n) = true := decide_eq_true (by have := H3.out; have := HS.out; omega)
    have e1 : decide (n < 0) = false := by simp; have := HS.out; omega
    have e2 : decide (0 ≤ n) = true := by simp; have := HS.out; omega
    have e3 : decide (m < n) = false := by simp; have := HS.out; omega
    have e4 : decide ((8 : Int) ≤ (ul : Int)) = true := decide_eq_true (by have := HUD.out.1 (by have := HS.out; omega) (by have := HS.out; omega); omega)
    go_wp2_with fail
    refine (same_any _ _ ⟨xc, xt, xk, xa, 8, xm, ya, yl, ym⟩ ⟨uc, ut, uk, ua, ul, um, va, vl, vm⟩ w6 (HX.out.under HB6.out) (HY.out.under HB6.out)).mono ?_
    rintro e w7 ⟨rfl, hb7⟩
    have HB7 := Lib.hid (HB6.out.trans (hb7.mono HB6.out.size))
    clear hb7 p0 p1 p2 p3 p4 q0 q1 q2 q3 q4 e1 e2 e3
    rw [HSB.out]
    go_wp2_with fail
    rw [show (decide (n = m) == (n == m)) = true by by_cases h : n = m <;> simp [h]]
    go_ret
    exact ⟨rfl, HB.out.trans (HB7.out.mono HB.out.size)⟩


theorem numbers_walk (n m : Int) (w : World) (hn1 : -9223372036854775808 ≤ n) (hn2 : n ≤ 9223372036854775807) (hm1 : -9223372036854775808 ≤ m) (hm2 : m ≤ 9223372036854775807) :
    Calls Tryd.prog 5 #[.int .i64 n, .int .i64 m] w fun e w' => e = .returned (.bool true) ∧ Below w.heap.size w w' := by
  obtain ⟨s, F, d⟩ := intF n hn1 hn2
  obtain ⟨s', F', d'⟩ := intF m hm1 hm2
  have hs1 : 1 ≤ s' := by omega
  have hs8 : s' ≤ 8 := by omega
  have hu : 0 ≤ n → n ≤ m → s ≤ s' := fun a b => by omega
  have hd : n < 0 → m ≤ n → s ≤ s' := fun a b => by omega
  clear d'
  rcases d with ⟨rfl, h⟩ | ⟨rfl, h, g⟩ | ⟨rfl, h, g⟩ | ⟨rfl, h, g⟩ | ⟨rfl, h, g⟩ | ⟨rfl, h, g⟩ | ⟨rfl, h, g⟩ | ⟨rfl, h, g⟩
  · exact numbers_1 n m w hn1 hn2 hm1 hm2 s' F F' hs1 hs8 h.1 h.2 hu hd
  · exact numbers_2 n m w hn1 hn2 hm1 hm2 s' F F' hs1 hs8 h.1 h.2 (by omega) hu hd
  · exact numbers_3 n m w hn1 hn2 hm1 hm2 s' F F' hs1 hs8 h.1 h.2 (by omega) hu hd
  · exact numbers_4 n m w hn1 hn2 hm1 hm2 s' F F' hs1 hs8 h.1 h.2 (by omega) hu hd
  · exact numbers_5 n m w hn1 hn2 hm1 hm2 s' F F' hs1 hs8 h.1 h.2 (by omega) hu hd
  · exact numbers_6 n m w hn1 hn2 hm1 hm2 s' F F' hs1 hs8 h.1 h.2 (by omega) hu hd
  · exact numbers_7 n m w hn1 hn2 hm1 hm2 s' F F' hs1 hs8 h.1 h.2 (by omega) hu hd
  · exact numbers_8 n m w hn1 hn2 hm1 hm2 s' F F' hs1 hs8 h.1 h.2 (by omega) hu hd

end Go.Proofs.YtbikghejedkkeaaDoor
