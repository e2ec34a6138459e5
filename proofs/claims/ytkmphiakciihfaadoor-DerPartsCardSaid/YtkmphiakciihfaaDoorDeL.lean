/-
  THE LAW DerApart: two trees in order have the same bytes just if they are the same, and their order is one.
-/
import Derived.Test.YtkmphiakciihfaaDoorDeT
import Derived.Test.YtkmphiakciihfaaDoorDeK
import Derived.Test.YtkmphiakciihfaaDoorTrR
namespace Go.Proofs.YtkmphiakciihfaaDoor
open Go.RowKit

theorem cmp_cons (x y : UInt8) (a b : List UInt8) : Lib.compareBytes (x :: a) (y :: b) = if x < y then -1 else if y < x then 1 else Lib.compareBytes a b := rfl

theorem cmp_self : ∀ a : List UInt8, Lib.compareBytes a a = 0
  | [] => rfl
  | x :: a => by rw [cmp_cons, if_neg (UInt8.lt_irrefl x), if_neg (UInt8.lt_irrefl x), cmp_self a]

theorem cmp_tri : ∀ a b : List UInt8, Lib.compareBytes a b = -1 ∨ Lib.compareBytes a b = 0 ∨ Lib.compareBytes a b = 1
  | [], [] => .inr (.inl rfl)
  | [], _ :: _ => .inl rfl
  | _ :: _, [] => .inr (.inr rfl)
  | x :: a, y :: b => by
    rw [cmp_cons]
    have := cmp_tri a b
    split
    · exact .inl rfl
    · split
      · exact .inr (.inr rfl)
      · exact this

theorem cmp_anti : ∀ a b : List UInt8, Lib.compareBytes b a = -Lib.compareBytes a b
  | [], [] => rfl
  | [], _ :: _ => rfl
  | _ :: _, [] => rfl
  | x :: a, y :: b => by
    rw [cmp_cons, cmp_cons]
    have := cmp_anti a b
    simp only [UInt8.lt_iff_toNat_lt]
    split
    · rw [if_neg (by omega)]
    · split
      · rfl
      · exact this

theorem cmp_eq : ∀ a b : List UInt8, Lib.compareBytes a b = 0 → a = b
  | [], [], _ => rfl
  | [], _ :: _, h => by cases h
  | _ :: _, [], h => by cases h
  | x :: a, y :: b, h => by
    rw [cmp_cons] at h
    simp only [UInt8.lt_iff_toNat_lt] at h
    split at h
    · cases h
    · split at h
      · cases h
      · rw [cmp_eq a b h, UInt8.toNat_inj.1 (by omega : x.toNat = y.toNat)]

theorem cmp_trans : ∀ a b c : List UInt8, Lib.compareBytes a b = -1 → Lib.compareBytes b c = -1 → Lib.compareBytes a c = -1
  | [], [], _, h, _ => by cases h
  | [], _ :: _, [], _, h => by cases h
  | [], _ :: _, _ :: _, _, _ => rfl
  | _ :: _, [], _, h, _ => by cases h
  | _ :: _, _ :: _, [], _, h => by cases h
  | x :: a, y :: b, z :: c, h1, h2 => by
    rw [cmp_cons] at h1 h2 ⊢
    simp only [UInt8.lt_iff_toNat_lt] at *
    have := cmp_trans a b c
    split at h1
    · split at h2
      · rw [if_pos (by omega)]
      · split at h2
        · cases h2
        · rw [if_pos (by omega)]
    · split at h1
      · cases h1
      · split at h2
        · rw [if_pos (by omega)]
        · split at h2
          · cases h2
          · rw [if_neg (by omega), if_neg (by omega)]; exact this h1 h2


theorem dCmp_zero (T U : Tr) : (dCmpR T U).2 = 0 ↔ (dEncR T).2 = 0 ∧ (dEncR U).2 = 0 := by
  unfold dCmpR
  by_cases h1 : (dEncR T).2 = 0
  · rw [if_pos h1]
    by_cases h2 : (dEncR U).2 = 0
    · rw [if_pos h2]; simp [h1, h2]
    · rw [if_neg h2]; simp [h1, h2]
  · rw [if_neg h1]; simp [h1]
theorem dCmp_val {T U : Tr} (h : (dCmpR T U).2 = 0) : (dCmpR T U).1 = Lib.compareBytes T.der U.der := by
  obtain ⟨h1, h2⟩ := (dCmp_zero T U).1 h
  unfold dCmpR
  rw [if_pos h1, if_pos h2]
theorem dCmp_turn {T U : Tr} (h : (dCmpR T U).2 = 0) : (dCmpR U T).1 = -(dCmpR T U).1 := by
  obtain ⟨h1, h2⟩ := (dCmp_zero T U).1 h
  rw [dCmp_val h, dCmp_val ((dCmp_zero U T).2 ⟨h2, h1⟩), cmp_anti]
theorem dCmp_same {T U : Tr} (h : (dCmpR T U).2 = 0) (hs : T.sm) (hs2 : U.sm) : (dCmpR T U).1 = 0 ↔ sameB T U = true := by
  obtain ⟨h1, h2⟩ := (dCmp_zero T U).1 h
  rw [dCmp_val h, sameB_iff]
  obtain ⟨-, f1, z1, -⟩ := dSizR_fine (dEncR_ok h1).1
  obtain ⟨-, f2, z2, -⟩ := dSizR_fine (dEncR_ok h2).1
  have hb : (65536 : Nat) < 256 ^ 8 := by decide
  constructor
  · intro e
    have := cmp_eq _ _ e
    exact (der_inj T U [] [] f1 f2 hs hs2 (by omega) (by omega) (by rw [this])).1
  · rintro rfl
    exact cmp_self _
theorem dCmp_tri {T U S : Tr} (h1 : (dCmpR T U).2 = 0) (h2 : (dCmpR U S).2 = 0) (h3 : (dCmpR T S).2 = 0) :
    ((dCmpR T U).1 = -1 ∨ (dCmpR T U).1 = 0 ∨ (dCmpR T U).1 = 1) ∧ ((dCmpR U S).1 = -1 ∨ (dCmpR U S).1 = 0 ∨ (dCmpR U S).1 = 1) ∧
    (((dCmpR T U).1 = 1 ∧ (dCmpR U S).1 = -1) ∨ ((dCmpR T U).1 = -1 ∧ (dCmpR U S).1 = 1) ∨ ((dCmpR T U).1 = 0 ∧ (dCmpR T S).1 = (dCmpR U S).1) ∨ ((dCmpR U S).1 = 0 ∧ (dCmpR T S).1 = (dCmpR T U).1) ∨ ((dCmpR U S).1 = (dCmpR T U).1 ∧ (dCmpR T S).1 = (dCmpR T U).1)) := by
  rw [dCmp_val h1, dCmp_val h2, dCmp_val h3]
  refine ⟨cmp_tri _ _, cmp_tri _ _, ?_⟩
  rcases cmp_tri T.der U.der with h4 | h4 | h4 <;> rcases cmp_tri U.der S.der with h5 | h5 | h5
  · exact .inr (.inr (.inr (.inr ⟨by rw [h4, h5], by rw [h4]; exact cmp_trans _ _ _ h4 h5⟩)))
  · exact .inr (.inr (.inr (.inl ⟨h5, by rw [← cmp_eq _ _ h5]⟩)))
  · exact .inr (.inl ⟨h4, h5⟩)
  · exact .inr (.inr (.inl ⟨h4, by rw [cmp_eq _ _ h4]⟩))
  · exact .inr (.inr (.inl ⟨h4, by rw [cmp_eq _ _ h4]⟩))
  · exact .inr (.inr (.inl ⟨h4, by rw [cmp_eq _ _ h4]⟩))
  · exact .inl ⟨h4, h5⟩
  · exact .inr (.inr (.inr (.inl ⟨h5, by rw [← cmp_eq _ _ h5]⟩)))
  · refine .inr (.inr (.inr (.inr ⟨by rw [h4, h5], ?_⟩)))
    have h6 := cmp_trans S.der U.der T.der (by rw [cmp_anti, h5]) (by rw [cmp_anti, h4])
    have h7 := cmp_anti S.der T.der
    rw [h6] at h7
    rw [h7, h4]
    rfl

set_option maxRecDepth 100000 in
set_option maxHeartbeats 16000000 in
theorem apart_walk (V U X : NV) (T1 T2 T3 : Tr) (w : World) (hn1 : NodeAt w V T1) (hn2 : NodeAt w U T2) (hn3 : NodeAt w X T3) (hl1 : T1.lim) (hl2 : T2.lim) (hl3 : T3.lim) (hk : Tabs w) :
    Calls Tryd.prog 8 #[V.agg, U.agg, X.agg] w fun e w' => e = .returned (.bool true) ∧ Below w.heap.size w w' := by
  obtain ⟨c, t, k, ba, bl, bc, ka, kl, kc⟩ := V
  obtain ⟨xc, xt, xk, xa, xl, xm, ya, yl, ym⟩ := U
  obtain ⟨uc, ut, uk, ua, ul, um, qa, ql, qm⟩ := X
  obtain ⟨w0, hw0⟩ : ∃ u, w.alloc (.cells #[.int .i64 c, .int .i64 t, .bool k, .slice ba bl bc, .slice ka kl kc] 25) = u := ⟨_, rfl⟩
  obtain ⟨w1, hw1⟩ : ∃ u, w0.alloc (.cells #[.int .i64 xc, .int .i64 xt, .bool xk, .slice xa xl xm, .slice ya yl ym] 25) = u := ⟨_, rfl⟩
  obtain ⟨w2, hw2⟩ : ∃ u, w1.alloc (.cells #[.int .i64 uc, .int .i64 ut, .bool uk, .slice ua ul um, .slice qa ql qm] 25) = u := ⟨_, rfl⟩
  have hb0 : Below w.heap.size w w0 := by rw [← hw0]; exact (Below.refl _ _).alloc (Nat.le_refl _) _
  have hb1 : Below w0.heap.size w0 w1 := by rw [← hw1]; exact (Below.refl _ _).alloc (Nat.le_refl _) _
  have hb2 : Below w1.heap.size w1 w2 := by rw [← hw2]; exact (Below.refl _ _).alloc (Nat.le_refl _) _
  have hz0 : w0.heap.size = w.heap.size + 1 := by rw [← hw0]; simp
  have hz1 : w1.heap.size = w0.heap.size + 1 := by rw [← hw1]; simp
  have hb02 : Below w0.heap.size w0 w2 := hb1.trans (hb2.mono hb1.size)
  have hbw : Below w.heap.size w w2 := hb0.trans (hb02.mono hb0.size)
  have ca : CellsAt w2 w.heap.size 0 ⟨c, t, k, ba, bl, bc, ka, kl, kc⟩ := CellsAt.below (by rw [← hw0]; exact cells5 w c t k ba bl bc ka kl kc _) hb02 (by omega)
  have cb : CellsAt w2 w0.heap.size 0 ⟨xc, xt, xk, xa, xl, xm, ya, yl, ym⟩ := CellsAt.below (by rw [← hw1]; exact cells5 w0 xc xt xk xa xl xm ya yl ym _) hb2 (by omega)
  have cc : CellsAt w2 w1.heap.size 0 ⟨uc, ut, uk, ua, ul, um, qa, ql, qm⟩ := by rw [← hw2]; exact cells5 w1 uc ut uk ua ul um qa ql qm _
  have CA := Lib.hid (fun (W : World) (h : Below w2.heap.size w2 W) => ca.below h ca.lt)
  have CB := Lib.hid (fun (W : World) (h : Below w2.heap.size w2 W) => cb.below h cb.lt)
  have CC := Lib.hid (fun (W : World) (h : Below w2.heap.size w2 W) => cc.below h cc.lt)
  have N1 := Lib.hid (fun (W : World) (h : Below w2.heap.size w2 W) => (hn1.under hbw).under h)
  have N2 := Lib.hid (fun (W : World) (h : Below w2.heap.size w2 W) => (hn2.under hbw).under h)
  have N3 := Lib.hid (fun (W : World) (h : Below w2.heap.size w2 W) => (hn3.under hbw).under h)
  have HT := Lib.hid (fun (W : World) (h : Below w2.heap.size w2 W) => tabs_below (tabs_below hk hbw) h)
  have HBW := Lib.hid hbw
  have HL := Lib.hid (show T1.lim ∧ T2.lim ∧ T3.lim from ⟨hl1, hl2, hl3⟩)
  have HS := Lib.hid (show T1.sm ∧ T2.sm from ⟨hn1.sm, hn2.sm⟩)
  have HAL := Lib.hid (alive12 w2 (tabs_below hk hbw))
  clear hn1 hn2 hn3 hl1 hl2 hl3 hk hb0 hb1 hb2 hb02 hbw ca cb cc hz0 hz1
  unfold NV.agg
  dsimp only
  go_enter Tryd.func8, Tryd.ntmps8
  go_wp2_with fail
  clear hw0 hw1 hw2
  refine HAL.out.mono ?_
  rintro e v0 ⟨rfl, hb⟩
  have G0 := Lib.hid hb
  clear hb HAL
  have hg := great12_any T1 ⟨c, t, k, ba, bl, bc, ka, kl, kc⟩ v0 (N1.out v0 G0.out) HL.out.1
  unfold NV.agg at hg
  dsimp only at hg
  obtain ⟨p0, p1, p2, p3, p4⟩ := CA.out v0 G0.out
  obtain ⟨q0, q1, q2, q3, q4⟩ := CB.out v0 G0.out
  obtain ⟨r0, r1, r2, r3, r4⟩ := CC.out v0 G0.out
  dsimp only at p0 p1 p2 p3 p4 q0 q1 q2 q3 q4 r0 r1 r2 r3 r4
  simp only [Nat.zero_add] at p0 p1 p2 p3 p4 q0 q1 q2 q3 q4 r0 r1 r2 r3 r4
  go_wp2_with fail
  refine hg.mono ?_
  rintro e v1 ⟨rfl, hb⟩
  have G1 := Lib.hid (G0.out.trans (hb.mono G0.out.size))
  clear hb hg
  clear p0 p1 p2 p3 p4 q0 q1 q2 q3 q4 r0 r1 r2 r3 r4
  cases g1 : great12 T1 with
  | true =>
    go_wp2_with fail
    go_ret
    exact ⟨rfl, HBW.out.trans (G1.out.mono HBW.out.size)⟩
  | false =>
    have b1 := great12_no g1
    have hg := great12_any T2 ⟨xc, xt, xk, xa, xl, xm, ya, yl, ym⟩ v1 (N2.out v1 G1.out) HL.out.2.1
    unfold NV.agg at hg
    dsimp only at hg
    obtain ⟨p0, p1, p2, p3, p4⟩ := CA.out v1 G1.out
    obtain ⟨q0, q1, q2, q3, q4⟩ := CB.out v1 G1.out
    obtain ⟨r0, r1, r2, r3, r4⟩ := CC.out v1 G1.out
    dsimp only at p0 p1 p2 p3 p4 q0 q1 q2 q3 q4 r0 r1 r2 r3 r4
    simp only [Nat.zero_add] at p0 p1 p2 p3 p4 q0 q1 q2 q3 q4 r0 r1 r2 r3 r4
    go_wp2_with fail
    refine hg.mono ?_
    rintro e v2 ⟨rfl, hb⟩
    have G2 := Lib.hid (G1.out.trans (hb.mono G1.out.size))
    clear hb hg
    clear p0 p1 p2 p3 p4 q0 q1 q2 q3 q4 r0 r1 r2 r3 r4
    cases g2 : great12 T2 with
    | true =>
      go_wp2_with fail
      go_ret
      exact ⟨rfl, HBW.out.trans (G2.out.mono HBW.out.size)⟩
    | false =>
      have b2 := great12_no g2
      have hg := great12_any T3 ⟨uc, ut, uk, ua, ul, um, qa, ql, qm⟩ v2 (N3.out v2 G2.out) HL.out.2.2
      unfold NV.agg at hg
      dsimp only at hg
      obtain ⟨p0, p1, p2, p3, p4⟩ := CA.out v2 G2.out
      obtain ⟨q0, q1, q2, q3, q4⟩ := CB.out v2 G2.out
      obtain ⟨r0, r1, r2, r3, r4⟩ := CC.out v2 G2.out
      dsimp only at p0 p1 p2 p3 p4 q0 q1 q2 q3 q4 r0 r1 r2 r3 r4
      simp only [Nat.zero_add] at p0 p1 p2 p3 p4 q0 q1 q2 q3 q4 r0 r1 r2 r3 r4
      go_wp2_with fail
      refine hg.mono ?_
      rintro e v3 ⟨rfl, hb⟩
      have G3 := Lib.hid (G2.out.trans (hb.mono G2.out.size))
      clear hb hg
      clear p0 p1 p2 p3 p4 q0 q1 q2 q3 q4 r0 r1 r2 r3 r4
      cases g3 : great12 T3 with
      | true =>
        go_wp2_with fail
        go_ret
        exact ⟨rfl, HBW.out.trans (G3.out.mono HBW.out.size)⟩
      | false =>
        have b3 := great12_no g3
        clear g1 g2 g3
        have H12 := Lib.hid (dCmp_zero T1 T2)
        have H21 := Lib.hid (dCmp_zero T2 T1)
        have HTU := Lib.hid (fun h => dCmp_turn (T := T1) (U := T2) h)
        have HSM := Lib.hid (fun h => dCmp_same (T := T1) (U := T2) h HS.out.1 HS.out.2)
        have HTR := Lib.hid (fun h1 h2 h3 => dCmp_tri (T := T1) (U := T2) (S := T3) h1 h2 h3)
        have HEF := Lib.hid (show (dCmpR T1 T2).2 = 0 ↔ (dCmpR T2 T1).2 = 0 by rw [H12.out, H21.out]; exact And.comm)
        have HD1 := Lib.hid (fun (h : (dCmpR T1 T2).2 = 0) => (cmp_tri T1.der T2.der : _))
        have HV1 := Lib.hid (fun (h : (dCmpR T1 T2).2 = 0) => (show (dCmpR T1 T2).1 = -1 ∨ (dCmpR T1 T2).1 = 0 ∨ (dCmpR T1 T2).1 = 1 by rw [dCmp_val h]; exact cmp_tri _ _))
        clear HD1 H12 H21
        have hc := dCmp_any ⟨c, t, k, ba, bl, bc, ka, kl, kc⟩ ⟨xc, xt, xk, xa, xl, xm, ya, yl, ym⟩ T1 T2 v3 (N1.out v3 G3.out) (N2.out v3 G3.out) (by have := b1.1; omega) (by have := b1.2.1; omega) (by have := b1.2.2; omega) (by have := b2.1; omega) (by have := b2.2.1; omega) (by have := b2.2.2; omega) (HT.out v3 G3.out)
        unfold NV.agg at hc
        dsimp only at hc
        obtain ⟨p0, p1, p2, p3, p4⟩ := CA.out v3 G3.out
        obtain ⟨q0, q1, q2, q3, q4⟩ := CB.out v3 G3.out
        obtain ⟨r0, r1, r2, r3, r4⟩ := CC.out v3 G3.out
        dsimp only at p0 p1 p2 p3 p4 q0 q1 q2 q3 q4 r0 r1 r2 r3 r4
        simp only [Nat.zero_add] at p0 p1 p2 p3 p4 q0 q1 q2 q3 q4 r0 r1 r2 r3 r4
        go_wp2_with fail
        refine hc.mono ?_
        rintro e v4 ⟨rfl, hb⟩
        have G4 := Lib.hid (G3.out.trans (hb.mono G3.out.size))
        clear hb hc
        clear p0 p1 p2 p3 p4 q0 q1 q2 q3 q4 r0 r1 r2 r3 r4
        have hc := dCmp_any ⟨xc, xt, xk, xa, xl, xm, ya, yl, ym⟩ ⟨c, t, k, ba, bl, bc, ka, kl, kc⟩ T2 T1 v4 (N2.out v4 G4.out) (N1.out v4 G4.out) (by have := b2.1; omega) (by have := b2.2.1; omega) (by have := b2.2.2; omega) (by have := b1.1; omega) (by have := b1.2.1; omega) (by have := b1.2.2; omega) (HT.out v4 G4.out)
        unfold NV.agg at hc
        dsimp only at hc
        obtain ⟨p0, p1, p2, p3, p4⟩ := CA.out v4 G4.out
        obtain ⟨q0, q1, q2, q3, q4⟩ := CB.out v4 G4.out
        obtain ⟨r0, r1, r2, r3, r4⟩ := CC.out v4 G4.out
        dsimp only at p0 p1 p2 p3 p4 q0 q1 q2 q3 q4 r0 r1 r2 r3 r4
        simp only [Nat.zero_add] at p0 p1 p2 p3 p4 q0 q1 q2 q3 q4 r0 r1 r2 r3 r4
        go_wp2_with fail
        refine hc.mono ?_
        rintro e v5 ⟨rfl, hb⟩
        have G5 := Lib.hid (G4.out.trans (hb.mono G4.out.size))
        clear hb hc
        clear p0 p1 p2 p3 p4 q0 q1 q2 q3 q4 r0 r1 r2 r3 r4
        have hc := dCmp_any ⟨xc, xt, xk, xa, xl, xm, ya, yl, ym⟩ ⟨uc, ut, uk, ua, ul, um, qa, ql, qm⟩ T2 T3 v5 (N2.out v5 G5.out) (N3.out v5 G5.out) (by have := b2.1; omega) (by have := b2.2.1; omega) (by have := b2.2.2; omega) (by have := b3.1; omega) (by have := b3.2.1; omega) (by have := b3.2.2; omega) (HT.out v5 G5.out)
        unfold NV.agg at hc
        dsimp only at hc
        obtain ⟨p0, p1, p2, p3, p4⟩ := CA.out v5 G5.out
        obtain ⟨q0, q1, q2, q3, q4⟩ := CB.out v5 G5.out
        obtain ⟨r0, r1, r2, r3, r4⟩ := CC.out v5 G5.out
        dsimp only at p0 p1 p2 p3 p4 q0 q1 q2 q3 q4 r0 r1 r2 r3 r4
        simp only [Nat.zero_add] at p0 p1 p2 p3 p4 q0 q1 q2 q3 q4 r0 r1 r2 r3 r4
        go_wp2_with fail
        refine hc.mono ?_
        rintro e v6 ⟨rfl, hb⟩
        have G6 := Lib.hid (G5.out.trans (hb.mono G5.out.size))
        clear hb hc
        clear p0 p1 p2 p3 p4 q0 q1 q2 q3 q4 r0 r1 r2 r3 r4
        have hc := dCmp_any ⟨c, t, k, ba, bl, bc, ka, kl, kc⟩ ⟨uc, ut, uk, ua, ul, um, qa, ql, qm⟩ T1 T3 v6 (N1.out v6 G6.out) (N3.out v6 G6.out) (by have := b1.1; omega) (by have := b1.2.1; omega) (by have := b1.2.2; omega) (by have := b3.1; omega) (by have := b3.2.1; omega) (by have := b3.2.2; omega) (HT.out v6 G6.out)
        unfold NV.agg at hc
        dsimp only at hc
        obtain ⟨p0, p1, p2, p3, p4⟩ := CA.out v6 G6.out
        obtain ⟨q0, q1, q2, q3, q4⟩ := CB.out v6 G6.out
        obtain ⟨r0, r1, r2, r3, r4⟩ := CC.out v6 G6.out
        dsimp only at p0 p1 p2 p3 p4 q0 q1 q2 q3 q4 r0 r1 r2 r3 r4
        simp only [Nat.zero_add] at p0 p1 p2 p3 p4 q0 q1 q2 q3 q4 r0 r1 r2 r3 r4
        go_wp2_with fail
        refine hc.mono ?_
        rintro e v7 ⟨rfl, hb⟩
        have G7 := Lib.hid (G6.out.trans (hb.mono G6.out.size))
        clear hb hc
        clear p0 p1 p2 p3 p4 q0 q1 q2 q3 q4 r0 r1 r2 r3 r4
        obtain ⟨sb, hsb⟩ : ∃ x, sameB T1 T2 = x := ⟨_, rfl⟩
        have hsa := same_any T1 T2 ⟨c, t, k, ba, bl, bc, ka, kl, kc⟩ ⟨xc, xt, xk, xa, xl, xm, ya, yl, ym⟩ v7 (N1.out v7 G7.out) (N2.out v7 G7.out)
        unfold NV.agg at hsa
        dsimp only at hsa
        rw [hsb] at hsa HSM
        have HSA := Lib.hid hsa
        clear hsa hsb
        obtain ⟨p0, p1, p2, p3, p4⟩ := CA.out v7 G7.out
        obtain ⟨q0, q1, q2, q3, q4⟩ := CB.out v7 G7.out
        obtain ⟨r0, r1, r2, r3, r4⟩ := CC.out v7 G7.out
        dsimp only at p0 p1 p2 p3 p4 q0 q1 q2 q3 q4 r0 r1 r2 r3 r4
        simp only [Nat.zero_add] at p0 p1 p2 p3 p4 q0 q1 q2 q3 q4 r0 r1 r2 r3 r4
        generalize dCmpR T1 T2 = x1 at *
        generalize dCmpR T2 T1 = x2 at *
        generalize dCmpR T2 T3 = x3 at *
        generalize dCmpR T1 T3 = x4 at *
        obtain ⟨a, e1⟩ := x1
        obtain ⟨b, e2⟩ := x2
        obtain ⟨cx, e3⟩ := x3
        obtain ⟨d, e4⟩ := x4
        dsimp only at HTU HSM HTR HEF HV1 ⊢
        by_cases h1 : e1 = 0
        · have h2 : e2 = 0 := HEF.out.1 h1
          subst h1 h2
          have hb : b = -a := HTU.out rfl
          have hv := HV1.out rfl
          have hs : a = 0 ↔ sb = true := HSM.out rfl
          have HTR2 := Lib.hid (fun (h2 : e3 = 0) (h3 : e4 = 0) => HTR.out rfl h2 h3)
          clear HEF HTU HSM HTR HV1
          subst hb
          rcases hv with rfl | rfl | rfl
          · obtain rfl : sb = false := by cases sb; (· rfl); (· have := hs.2 rfl; omega)
            clear hs
            go_wp2_with fail
            refine HSA.out.mono ?_
            rintro e v8 ⟨rfl, hb⟩
            have G8 := Lib.hid (G7.out.trans (hb.mono G7.out.size))
            clear hb HSA p0 p1 p2 p3 p4 q0 q1 q2 q3 q4 r0 r1 r2 r3 r4
            by_cases h3 : e3 = 0
            · subst h3
              by_cases h4 : e4 = 0
              · subst h4
                obtain ⟨-, hc, hd⟩ := HTR2.out rfl rfl
                clear HTR2
                rcases hc with rfl | rfl | rfl
                · obtain rfl : d = -1 := by omega
                  go_wp2_with fail
                  go_ret
                  exact ⟨rfl, HBW.out.trans (G8.out.mono HBW.out.size)⟩
                · obtain rfl : d = -1 := by omega
                  go_wp2_with fail
                  go_ret
                  exact ⟨rfl, HBW.out.trans (G8.out.mono HBW.out.size)⟩
                · clear hd
                  by_cases hd1 : d ≤ 0
                  · by_cases hd2 : 0 ≤ d
                    · have z1 : decide (d ≤ 0) = true := decide_eq_true hd1
                      have z2 : decide (0 ≤ d) = true := decide_eq_true hd2
                      go_wp2_with fail
                      go_ret
                      exact ⟨rfl, HBW.out.trans (G8.out.mono HBW.out.size)⟩
                    · have z1 : decide (d ≤ 0) = true := decide_eq_true hd1
                      have z2 : decide (0 ≤ d) = false := decide_eq_false hd2
                      go_wp2_with fail
                      go_ret
                      exact ⟨rfl, HBW.out.trans (G8.out.mono HBW.out.size)⟩
                  · have z1 : decide (d ≤ 0) = false := decide_eq_false hd1
                    have z2 : decide (0 ≤ d) = true := decide_eq_true (by omega)
                    go_wp2_with fail
                    go_ret
                    exact ⟨rfl, HBW.out.trans (G8.out.mono HBW.out.size)⟩
              · have z4 : (e4 != 0) = true := by simpa using h4
                go_wp2_with fail
                go_ret
                exact ⟨rfl, HBW.out.trans (G8.out.mono HBW.out.size)⟩
            · have z3 : (e3 != 0) = true := by simpa using h3
              go_wp2_with fail
              go_ret
              exact ⟨rfl, HBW.out.trans (G8.out.mono HBW.out.size)⟩
          · obtain rfl : sb = true := by exact hs.1 rfl
            clear hs
            go_wp2_with fail
            refine HSA.out.mono ?_
            rintro e v8 ⟨rfl, hb⟩
            have G8 := Lib.hid (G7.out.trans (hb.mono G7.out.size))
            clear hb HSA p0 p1 p2 p3 p4 q0 q1 q2 q3 q4 r0 r1 r2 r3 r4
            by_cases h3 : e3 = 0
            · subst h3
              by_cases h4 : e4 = 0
              · subst h4
                obtain ⟨-, hc, hd⟩ := HTR2.out rfl rfl
                clear HTR2
                rcases hc with rfl | rfl | rfl
                · obtain rfl : d = -1 := by omega
                  go_wp2_with fail
                  go_ret
                  exact ⟨rfl, HBW.out.trans (G8.out.mono HBW.out.size)⟩
                · obtain rfl : d = 0 := by omega
                  go_wp2_with fail
                  go_ret
                  exact ⟨rfl, HBW.out.trans (G8.out.mono HBW.out.size)⟩
                · obtain rfl : d = 1 := by omega
                  go_wp2_with fail
                  go_ret
                  exact ⟨rfl, HBW.out.trans (G8.out.mono HBW.out.size)⟩
              · have z4 : (e4 != 0) = true := by simpa using h4
                go_wp2_with fail
                go_ret
                exact ⟨rfl, HBW.out.trans (G8.out.mono HBW.out.size)⟩
            · have z3 : (e3 != 0) = true := by simpa using h3
              go_wp2_with fail
              go_ret
              exact ⟨rfl, HBW.out.trans (G8.out.mono HBW.out.size)⟩
          · obtain rfl : sb = false := by cases sb; (· rfl); (· have := hs.2 rfl; omega)
            clear hs
            go_wp2_with fail
            refine HSA.out.mono ?_
            rintro e v8 ⟨rfl, hb⟩
            have G8 := Lib.hid (G7.out.trans (hb.mono G7.out.size))
            clear hb HSA p0 p1 p2 p3 p4 q0 q1 q2 q3 q4 r0 r1 r2 r3 r4
            by_cases h3 : e3 = 0
            · subst h3
              by_cases h4 : e4 = 0
              · subst h4
                obtain ⟨-, hc, hd⟩ := HTR2.out rfl rfl
                clear HTR2
                rcases hc with rfl | rfl | rfl
                · clear hd
                  by_cases hd1 : d ≤ 0
                  · by_cases hd2 : 0 ≤ d
                    · have z1 : decide (d ≤ 0) = true := decide_eq_true hd1
                      have z2 : decide (0 ≤ d) = true := decide_eq_true hd2
                      go_wp2_with fail
                      go_ret
                      exact ⟨rfl, HBW.out.trans (G8.out.mono HBW.out.size)⟩
                    · have z1 : decide (d ≤ 0) = true := decide_eq_true hd1
                      have z2 : decide (0 ≤ d) = false := decide_eq_false hd2
                      go_wp2_with fail
                      go_ret
                      exact ⟨rfl, HBW.out.trans (G8.out.mono HBW.out.size)⟩
                  · have z1 : decide (d ≤ 0) = false := decide_eq_false hd1
                    have z2 : decide (0 ≤ d) = true := decide_eq_true (by omega)
                    go_wp2_with fail
                    go_ret
                    exact ⟨rfl, HBW.out.trans (G8.out.mono HBW.out.size)⟩
                · obtain rfl : d = 1 := by omega
                  go_wp2_with fail
                  go_ret
                  exact ⟨rfl, HBW.out.trans (G8.out.mono HBW.out.size)⟩
                · obtain rfl : d = 1 := by omega
                  go_wp2_with fail
                  go_ret
                  exact ⟨rfl, HBW.out.trans (G8.out.mono HBW.out.size)⟩
              · have z4 : (e4 != 0) = true := by simpa using h4
                go_wp2_with fail
                go_ret
                exact ⟨rfl, HBW.out.trans (G8.out.mono HBW.out.size)⟩
            · have z3 : (e3 != 0) = true := by simpa using h3
              go_wp2_with fail
              go_ret
              exact ⟨rfl, HBW.out.trans (G8.out.mono HBW.out.size)⟩
        · have h2 : ¬ e2 = 0 := fun h => h1 (HEF.out.2 h)
          have z1 : (e1 == 0) = false := by simpa using h1
          have z2 : (e2 == 0) = false := by simpa using h2
          have z3 : (e1 != 0) = true := by simpa using h1
          clear HEF HTU HSM HTR HV1 HSA
          go_wp2_with fail
          go_ret
          exact ⟨rfl, HBW.out.trans (G7.out.mono HBW.out.size)⟩
end Go.Proofs.YtkmphiakciihfaaDoor
