/-
  Texts of ours, one behind the other: DeR DeU DeV
-/
import Derived.Test.YtkmphiakciihfaaDoorDeX
import Derived.Test.YtkmphiakciihfaaDoorTxF
import Derived.Test.YtkmphiakciihfaaDoorTk
import Derived.Test.YtkmphiakciihfaaDoorTrVG

namespace Go.Proofs.YtkmphiakciihfaaDoor
open Go.RowKit

def RbOk (T : Tr) : Prop := ∀ (V : NV) (w : World), NodeAt w V T → T.fine → T.wt ≤ 1000000 → Calls Tryd.prog 33 #[V.agg] w fun e w' => RetsOwn w.heap.size w' T.der e ∧ Below w.heap.size w w'

structure RbI (w1 : World) (L : List UInt8) (v : Value) (wr : World) : Prop where
  own : Own8 5 w1.heap.size wr v L
  below : Below w1.heap.size w1 wr

set_option maxHeartbeats 4000000 in
set_option maxRecDepth 100000 in
theorem rb_of (c t : Int) (kk : Bool) (l : List Nat) (ks : List Tr) (hI : ∀ T ∈ ks, RbOk T) : RbOk (.mk c t kk l ks) := by
  intro V w hn hf hwt
  obtain ⟨i0, hi, hz0, hz1, hz2⟩ := info_parts Tryd.info8
  have e1 : c = V.cls := hn.cls
  have e2 : t = V.tag := hn.tag
  have e3 : kk = V.cons := hn.cons
  have hby := hn.bytes.bts hn.small
  have hkd := hn.kids
  obtain ⟨vc, vt, vk, ba, bl, bc, ka, kl, kc⟩ := V
  dsimp only at e1 e2 e3 hby hkd
  subst e1 e2 e3
  simp only [Tr.b, Tr.kids] at hby hkd
  simp only [Tr.wt] at hwt
  obtain ⟨⟨f1, f2, f3, f4, -⟩, f5⟩ := hf
  have HFK := Lib.hid ((fineL_iff ks).1 f5)
  obtain ⟨nc, rfl⟩ : ∃ n : Nat, c = (n : Int) := ⟨c.toNat, by omega⟩
  obtain ⟨nt, rfl⟩ : ∃ n : Nat, t = (n : Int) := ⟨t.toNat, by omega⟩
  have hkl := Lib.hid hkd.length
  have hkle := hkd.le
  have hkm := hkd.max
  unfold maxLen at hkm
  have hbl := hby.length
  have hdl := dsizL_le ks
  obtain ⟨w1, hw1⟩ : ∃ w1, w.alloc (.cells #[.int .i64 (nc : Int), .int .i64 (nt : Int), .bool kk, .slice ba bl bc, .slice ka kl kc] 25) = w1 := ⟨_, rfl⟩
  have hb1 : Below w.heap.size w w1 := by rw [← hw1]; exact (Below.refl _ _).alloc (Nat.le_refl _) _
  have ca : CellsAt w1 w.heap.size 0 ⟨(nc : Int), (nt : Int), kk, ba, bl, bc, ka, kl, kc⟩ := by rw [← hw1]; exact cells5 w _ _ kk ba bl bc ka kl kc _
  have CA := Lib.hid ca
  have HB1 := Lib.hid hb1
  have HKD := Lib.hid (hkd.below hb1)
  have HBY := Lib.hid (hby.below hb1)
  have HI := Lib.hid hI
  have HWT := Lib.hid hwt
  have hub : (u8s l).length = bl := hbl
  have hbl6 : bl ≤ 1000000 := by simp [u8s] at hub; omega
  have HTOT := Lib.hid (show dsizL ks ≤ 11000000 by omega)
  have HDER := Lib.hid (show (Tr.mk (nc : Int) (nt : Int) kk l ks).der = UInt8.ofNat (fstN (nc : Int) (nt : Int) kk) :: (lenU (u8s l ++ derL ks).length ++ (u8s l ++ derL ks)) by
    simp only [Tr.der, List.length_append, derL_length]
    simp [u8s])
  obtain ⟨p0, p1, p2, p3, p4⟩ := ca
  dsimp only at p0 p1 p2 p3 p4
  simp only [Nat.zero_add] at p0 p1 p2 p3 p4
  generalize Tr.mk (nc : Int) (nt : Int) kk l ks = T at *
  generalize u8s l = B at *
  have HUB := Lib.hid hub
  have HC1 := Lib.hid (show nc ≤ 3 ∧ nt ≤ 30 by omega)
  clear hn hby hkd hb1 hI hwt hdl hbl f1 f3 f5
  unfold NV.agg
  dsimp only
  go_enter Tryd.func33, Tryd.ntmps33
  go_wp2_with (at_builtin; refine wpList_append_bts _ rfl _ _ 22 rfl w1.heap.size 5 i0 Tryd.underlying22 hi hz0 hz1 hz2 _ [] rfl (Own8.nil _ _ _) ba bl bc B rfl HBY.out (by simp; omega) (Nat.le_refl _) ?_; intro v2 w2 ho2 hg2)
  have HS0 := Lib.hid (show RbI w1 (B ++ derL (ks.take 0)) v2 w2 from ⟨by rw [List.take_zero]; simpa [derL] using ho2, hg2 _ (Below.refl _ _)⟩)
  clear ho2 hg2 hw1 p0 p1 p2 p3 p4
  go_loopw [4, 3] (fun i vv wr => ∃ (k : Nat) (v : Value), k ≤ kl ∧ i = .int .i64 (k : Int) ∧ vv = v ∧ RbI w1 (B ++ derL (ks.take k)) v wr) (fun i _ _ => kl - (intOf i).toNat)
  case atStart => exact ⟨0, _, Nat.zero_le _, rfl, rfl, HS0.out⟩
  case round =>
    obtain ⟨k, v, hk, rfl, rfl, hr⟩ := hrel
    have HR := Lib.hid hr
    obtain ⟨p0, p1, p2, p3, p4⟩ := CA.out.below hr.below CA.out.lt
    dsimp only at p0 p1 p2 p3 p4
    simp only [Nat.zero_add] at p0 p1 p2 p3 p4
    clear hr
    by_cases hlt : k < kl
    · have hk1 : k < ks.length := by rw [hkl.out]; exact hlt
      obtain ⟨U, hc, hnu⟩ := HKD.out.cells
      obtain ⟨b1, o1, rfl, hb1, hcell⟩ := hc (by omega)
      have hcu := (hcell k hlt).below HR.out.below hb1
      have hnk := (hnu k hk1).under HR.out.below
      have hmem := List.getElem_mem hk1
      obtain ⟨X, hX⟩ : ∃ X, U k = X := ⟨_, rfl⟩
      rw [hX] at hcu hnk
      have HOK := Lib.hid (HI.out ks[k] hmem X _ hnk (HFK.out _ hmem) (by have := wtL_mem hmem; have := HWT.out; omega))
      have HDT := Lib.hid (derL_take ks k hk1)
      have hsz : (B ++ derL (ks.take k)).length + (ks[k]).dsiz ≤ 12000000 := by
        have h1 := dsizL_take ks k hk1
        have h2 := dsizL_take_le ks (k + 1)
        have h3 := HTOT.out
        rw [List.length_append, derL_length, HUB.out]
        omega
      have hdz : (ks[k]).der.length = (ks[k]).dsiz := (ks[k]).der_length
      obtain ⟨xc, xt, xk, xa, xl, xm, ya, yl, ym⟩ := X
      unfold NV.agg at HOK
      dsimp only at HOK
      obtain ⟨r0, r1, r2, r3, r4⟩ := hcu
      dsimp only at r0 r1 r2 r3 r4
      generalize ks[k] = K at *
      clear hc hnu hcell hnk hX hb1 hmem p0 p1 p2 p3
      go_wp2_with fail
      refine HOK.out.mono ?_
      rintro e w4 ⟨⟨v4, rfl, ho4⟩, hb4⟩
      obtain ⟨a4, n4, c4, rfl⟩ := own8_sl ho4
      have HN4 := Lib.hid (show (B ++ derL (ks.take k)).length + n4 ≤ 12000000 by have h1 := (ho4.cap).1; omega)
      clear hsz hdz
      have HO4 := Lib.hid ho4.bts
      have HR4 := Lib.hid (HR.out.own.below hb4)
      have HB4 := Lib.hid (HR.out.below.trans (hb4.mono HR.out.below.size))
      clear ho4 hb4 HOK p4 r0 r1 r2 r3 r4
      go_wp2_with (at_builtin; go_loud (refine wpList_append_bts _ rfl _ _ 22 rfl w1.heap.size 5 i0 Tryd.underlying22 hi hz0 hz1 hz2 _ (B ++ derL (ks.take k)) rfl HR4.out a4 n4 c4 K.der rfl HO4.out (by have := HN4.out; omega) HB4.out.size ?_); intro v5 w5 ho5 hg5)
      have HS5 := Lib.hid (show RbI w1 (B ++ derL (ks.take (k + 1))) v5 w5 from ⟨by rw [HDT.out, ← List.append_assoc]; exact ho5, hg5 _ HB4.out⟩)
      clear ho5 hg5
      go_wp2_with fail
      go_roundw
      case rel => exact ⟨k + 1, v5, by omega, by go_num, rfl, HS5.out⟩
      case measure => simp [intOf]; omega
    · obtain rfl : k = kl := by omega
      have hfull : ks.take k = ks := List.take_of_length_le (by rw [hkl.out]; exact Nat.le_refl _)
      rw [hfull] at HR
      clear hlt hfull
      obtain ⟨D, hD⟩ : ∃ D, B ++ derL ks = D := ⟨_, rfl⟩
      rw [hD] at HR HDER
      obtain ⟨va, vn, vc, rfl⟩ := own8_sl HR.out.own
      have hvn := (HR.out.own.cap).1
      have hdl6 : vn ≤ 12000000 := by
        have h1 := HTOT.out
        rw [hvn, ← hD, List.length_append, derL_length, HUB.out]
        omega
      have HVN := Lib.hid hvn
      obtain ⟨m, hm⟩ : ∃ m, m = 64 * nc := ⟨_, rfl⟩
      obtain ⟨q, hq⟩ : ∃ q, q = m + nt := ⟨_, rfl⟩
      obtain ⟨r, hr⟩ : ∃ r, r = q + (if kk then 32 else 0) := ⟨_, rfl⟩
      have x1 : IntKind.i64.wrap (64 * (nc : Int)) = (m : Int) := by rw [IntKind.wrap_i64]; omega
      have x2 : IntKind.i64.wrap ((m : Int) + (nt : Int)) = (q : Int) := by rw [IntKind.wrap_i64]; omega
      have hfk : fstN (nc : Int) (nt : Int) kk = r := by unfold fstN; rw [Int.toNat_natCast, Int.toNat_natCast, hr, hq, hm]
      rw [hfk] at HDER
      have hr256 : r < 256 := by rw [hr]; split <;> omega
      have HLN := Lib.hid (fun (W : World) => rlength_any (vn : Int) (by omega) W)
      have HLU := Lib.hid (lenU_le vn)
      clear hD hvn hfk hm p3
      cases kk with
      | true =>
        obtain rfl : r = q + 32 := hr
        have x3 : IntKind.i64.wrap ((q : Int) + 32) = ((q + 32 : Nat) : Int) := by rw [IntKind.wrap_i64]; omega
        have x4 : IntKind.u8.wrap ((q + 32 : Nat) : Int) = ((q + 32 : Nat) : Int) := by rw [IntKind.wrap_u8]; omega
        obtain ⟨y, hy⟩ : ∃ y, q + 32 = y := ⟨_, rfl⟩
        rw [hy] at x3 x4 HDER hr256
        have HY := Lib.hid hr256
        clear hy hq hr256
        go_wp2_with fail
        refine (HLN.out _).mono ?_
        rintro e w6 ⟨⟨v6, rfl, ho6⟩, hb6⟩
        rw [if_neg (by omega), Int.toNat_natCast] at ho6
        obtain ⟨a6, n6, c6, rfl⟩ := own8_sl ho6
        have hbl : Below wr.heap.size wr (wr.alloc (.cells #[.int .u8 (y : Int)] 5)) := (Below.refl _ wr).alloc (Nat.le_refl _) _
        have HLT := Lib.hid ((ownU_one wr (y : Int) y rfl HY.out).below hb6)
        have HL6 := Lib.hid ho6.bts
        have HN6 := Lib.hid (show n6 ≤ 9 by have h1 := (ho6.cap).1; have h2 := HLU.out; omega)
        have HB6 := Lib.hid (hbl.trans (hb6.mono hbl.size))
        clear ho6 hb6 hbl
        go_wp2_with (at_builtin; first | (refine wpList_append_bts _ rfl _ _ 22 rfl wr.heap.size 5 i0 Tryd.underlying22 hi hz0 hz1 hz2 _ [UInt8.ofNat y] rfl HLT.out a6 n6 c6 (lenU vn) rfl HL6.out (by have := HN6.out; simp; omega) HB6.out.size ?_; intro v7 w7 ho7 hg7; have HB7 := Lib.hid (hg7 _ HB6.out); have HO7 := Lib.hid ho7; have HIN := Lib.hid (HR.out.own.bts.below HB7.out); clear ho7 hg7 HLT) | (refine wpList_append_bts _ rfl _ _ 22 rfl wr.heap.size 5 i0 Tryd.underlying22 hi hz0 hz1 hz2 _ ([UInt8.ofNat y] ++ lenU vn) rfl HO7.out va vn vc D rfl HIN.out (by have := HLU.out; rw [List.length_append, List.length_singleton]; omega) HB7.out.size ?_; intro v8 w8 ho8 hg8; have HB8 := Lib.hid (hg8 _ HB7.out); have HO8 := Lib.hid ho8; clear ho8 hg8))
        go_ret
        refine ⟨⟨_, rfl, ?_⟩, HB1.out.trans ((HR.out.below.trans (HB8.out.mono HR.out.below.size)).mono HB1.out.size)⟩
        rw [HDER.out, ← HVN.out]
        exact HO8.out.mono (Nat.le_trans HB1.out.size HR.out.below.size)
      | false =>
        obtain rfl : r = q := hr
        have x4 : IntKind.u8.wrap (r : Int) = (r : Int) := by rw [IntKind.wrap_u8]; omega
        obtain ⟨y, hy⟩ : ∃ y, r = y := ⟨_, rfl⟩
        rw [hy] at x2 x4 HDER hr256
        have HY := Lib.hid hr256
        clear hy hq hr256
        go_wp2_with fail
        refine (HLN.out _).mono ?_
        rintro e w6 ⟨⟨v6, rfl, ho6⟩, hb6⟩
        rw [if_neg (by omega), Int.toNat_natCast] at ho6
        obtain ⟨a6, n6, c6, rfl⟩ := own8_sl ho6
        have hbl : Below wr.heap.size wr (wr.alloc (.cells #[.int .u8 (y : Int)] 5)) := (Below.refl _ wr).alloc (Nat.le_refl _) _
        have HLT := Lib.hid ((ownU_one wr (y : Int) y rfl HY.out).below hb6)
        have HL6 := Lib.hid ho6.bts
        have HN6 := Lib.hid (show n6 ≤ 9 by have h1 := (ho6.cap).1; have h2 := HLU.out; omega)
        have HB6 := Lib.hid (hbl.trans (hb6.mono hbl.size))
        clear ho6 hb6 hbl
        go_wp2_with (at_builtin; first | (refine wpList_append_bts _ rfl _ _ 22 rfl wr.heap.size 5 i0 Tryd.underlying22 hi hz0 hz1 hz2 _ [UInt8.ofNat y] rfl HLT.out a6 n6 c6 (lenU vn) rfl HL6.out (by have := HN6.out; simp; omega) HB6.out.size ?_; intro v7 w7 ho7 hg7; have HB7 := Lib.hid (hg7 _ HB6.out); have HO7 := Lib.hid ho7; have HIN := Lib.hid (HR.out.own.bts.below HB7.out); clear ho7 hg7 HLT) | (refine wpList_append_bts _ rfl _ _ 22 rfl wr.heap.size 5 i0 Tryd.underlying22 hi hz0 hz1 hz2 _ ([UInt8.ofNat y] ++ lenU vn) rfl HO7.out va vn vc D rfl HIN.out (by have := HLU.out; rw [List.length_append, List.length_singleton]; omega) HB7.out.size ?_; intro v8 w8 ho8 hg8; have HB8 := Lib.hid (hg8 _ HB7.out); have HO8 := Lib.hid ho8; clear ho8 hg8))
        go_ret
        refine ⟨⟨_, rfl, ?_⟩, HB1.out.trans ((HR.out.below.trans (HB8.out.mono HR.out.below.size)).mono HB1.out.size)⟩
        rw [HDER.out, ← HVN.out]
        exact HO8.out.mono (Nat.le_trans HB1.out.size HR.out.below.size)
theorem rb_ok : ∀ (n : Nat) (T : Tr), T.wt ≤ n → RbOk T
  | 0, T, h => by have := T.wt_pos; omega
  | n + 1, .mk c t k l ks, h => by
    simp only [Tr.wt] at h
    exact rb_of c t k l ks fun T hT => rb_ok n T (by have := wtL_mem hT; omega)
theorem rbytes_any (T : Tr) : RbOk T := rb_ok T.wt T (Nat.le_refl _)

set_option maxHeartbeats 2000000 in
theorem rSize_any (V : NV) (T : Tr) (w : World) (hn : NodeAt w V T) (hw : T.wt ≤ 1000000) (hN : T.cnt ≤ 1000000) (hd : T.dep ≤ 1000000) :
    Calls Tryd.prog 14 #[V.agg] w fun e w' => e = .returned (.tuple #[.int .i64 (dSizR T).1, .int .i64 (dSizR T).2]) ∧ Below w.heap.size w w' := by
  obtain ⟨c, t, kk, ba, bl, bc, ka, kl, kc⟩ := V
  obtain ⟨w1, hw1⟩ : ∃ w1, w.alloc (.cells #[.int .i64 c, .int .i64 t, .bool kk, .slice ba bl bc, .slice ka kl kc] 25) = w1 := ⟨_, rfl⟩
  have hb1 : Below w.heap.size w w1 := by rw [← hw1]; exact (Below.refl _ _).alloc (Nat.le_refl _) _
  have hcx : CellsAt w1 w.heap.size 0 ⟨c, t, kk, ba, bl, bc, ka, kl, kc⟩ := by rw [← hw1]; exact cells5 w c t kk ba bl bc ka kl kc _
  have HCK := Lib.hid (rcheck_any ⟨c, t, kk, ba, bl, bc, ka, kl, kc⟩ T w1 (hn.under hb1) hw hN hd)
  have HRB := Lib.hid (fun (W : World) (hB : Below w1.heap.size w1 W) (hf : T.fine) => rbytes_any T ⟨c, t, kk, ba, bl, bc, ka, kl, kc⟩ W ((hn.under hb1).under hB) hf hw)
  have hle := T.dsiz_le
  have HCA := Lib.hid hcx
  have HB1 := Lib.hid hb1
  have HFI := Lib.hid (fine_of qV T)
  have HDL := Lib.hid T.der_length
  have HR := Lib.hid (show dSizR T = if (wrongR qV T).1 = 0 then (if 65536 < T.dsiz then (0, 120) else ((T.dsiz : Int), 0)) else (0, 110) from rfl)
  obtain ⟨p0, p1, p2, p3, p4⟩ := hcx
  dsimp only at p0 p1 p2 p3 p4
  simp only [Nat.zero_add] at p0 p1 p2 p3 p4
  generalize dSizR T = R at *
  generalize (wrongR qV T).1 = r at *
  have hd2 : T.dsiz ≤ 11000000 := by omega
  generalize T.dsiz = d at *
  clear hn hb1 hle
  unfold NV.agg at HCK HRB ⊢
  dsimp only at HCK HRB ⊢
  by_cases hr : r = 0
  · rw [if_pos hr] at HCK HR
    have HFF := Lib.hid (HFI.out hr)
    clear hr HFI
    go_enter Tryd.func14, Tryd.ntmps14
    go_wp2_with fail
    clear hw1
    refine HCK.out.mono ?_
    rintro e w2 ⟨rfl, hb2⟩
    obtain ⟨q0, q1, q2, q3, q4⟩ := HCA.out.below hb2 HCA.out.lt
    dsimp only at q0 q1 q2 q3 q4
    simp only [Nat.zero_add] at q0 q1 q2 q3 q4
    have HB2 := Lib.hid hb2
    clear hb2 p0 p1 p2 p3 p4
    go_wp2_with fail
    refine (HRB.out w2 HB2.out HFF.out).mono ?_
    rintro e w3 ⟨⟨v, rfl, ho⟩, hb3⟩
    obtain ⟨a, n, c', rfl⟩ := own8_sl ho
    have hnd : n = d := by rw [← HDL.out]; exact (ho.cap).1
    subst hnd
    have HB3 := Lib.hid (HB1.out.trans ((HB2.out.trans (hb3.mono HB2.out.size)).mono HB1.out.size))
    clear hb3 ho q0 q1 q2 q3 q4
    by_cases h6 : 65536 < n
    · rw [if_pos h6] at HR
      have z : (65536 : Int) < (n : Int) := by omega
      clear h6
      go_wp2_with fail
      go_ret2
      exact ⟨by rw [HR.out]; rfl, HB3.out⟩
    · rw [if_neg h6] at HR
      have z : ¬ ((65536 : Int) < (n : Int)) := by omega
      clear h6
      go_wp2_with fail
      go_ret2
      exact ⟨by rw [HR.out]; rfl, HB3.out⟩
  · rw [if_neg hr] at HCK HR
    clear hr
    go_enter Tryd.func14, Tryd.ntmps14
    go_wp2_with fail
    clear hw1
    refine HCK.out.mono ?_
    rintro e w2 ⟨rfl, hb2⟩
    have HB2 := Lib.hid (HB1.out.trans (hb2.mono HB1.out.size))
    clear hb2 p0 p1 p2 p3 p4
    go_wp2_with fail
    go_ret2
    exact ⟨by rw [HR.out]; rfl, HB2.out⟩

end Go.Proofs.YtkmphiakciihfaaDoor

namespace Go.Proofs.YtkmphiakciihfaaDoor
open Go.RowKit

theorem downs_take {ks : List Tr} {i : Nat} (h1 : 1 ≤ i) (h : i < ks.length) : downs [] ((ks.map Tr.der).take (i + 1)) = (downs [] ((ks.map Tr.der).take i) || decide (0 < Lib.compareBytes (ks[i - 1]'(by omega)).der (ks[i]).der)) := by
  have e1 : (ks.map Tr.der).take (i + 1) = (ks.map Tr.der).take i ++ [(ks[i]).der] := by
    rw [List.take_add_one, List.getElem?_map, List.getElem?_eq_getElem h]
    rfl
  have e2 : lastU [] ((ks.map Tr.der).take i) = (ks[i - 1]'(by omega)).der := by
    obtain ⟨j, rfl⟩ : ∃ j, i = j + 1 := ⟨i - 1, by omega⟩
    have e3 : (ks.map Tr.der).take (j + 1) = (ks.map Tr.der).take j ++ [(ks[j]'(by omega)).der] := by
      rw [List.take_add_one, List.getElem?_map, List.getElem?_eq_getElem (by omega)]
      rfl
    rw [e3, lastU_snoc]
    rfl
  rw [e1, downs_snoc, e2]
theorem downs_one (ks : List Tr) : downs [] ((ks.map Tr.der).take 1) = false := by
  cases ks with
  | nil => rfl
  | cons t ts =>
    show (decide (0 < Lib.compareBytes [] t.der) || downs t.der []) = false
    cases t.der with
    | nil => rfl
    | cons x xs => rfl
theorem downs_true {ks : List Tr} {k : Nat} (h : downs [] ((ks.map Tr.der).take k) = true) : downs [] (ks.map Tr.der) = true := by
  have key : ∀ (a : List UInt8) (L M : List (List UInt8)), downs a L = true → downs a (L ++ M) = true := by
    intro a L M
    induction L generalizing a with
    | nil => intro h; cases h
    | cons x xs ih =>
      intro h
      simp only [downs, List.cons_append, Bool.or_eq_true] at h ⊢
      rcases h with h | h
      · exact .inl h
      · exact .inr (ih x h)
  have := key [] ((ks.map Tr.der).take k) ((ks.map Tr.der).drop k) h
  rwa [List.take_append_drop] at this
theorem fallsL_true {ks : List Tr} {k : Nat} (hk : k < ks.length) (h : (ks[k]).falls = true) : fallsL ks = true := by
  rw [fallsL_any]
  exact List.any_eq_true.2 ⟨_, List.getElem_mem hk, h⟩

def OrOk (T : Tr) : Prop := ∀ (V : NV) (w : World), NodeAt w V T → T.fine → T.wt ≤ 1000000 → Calls Tryd.prog 32 #[V.agg] w fun e w' => e = .returned (.bool (!T.falls)) ∧ Below w.heap.size w w'

structure OrI (w1 : World) (ks : List Tr) (k : Nat) (wr : World) : Prop where
  falls : fallsL (ks.take k) = false
  below : Below w1.heap.size w1 wr
structure OrJ (w1 : World) (ks : List Tr) (k : Nat) (wr : World) : Prop where
  downs : downs [] ((ks.map Tr.der).take k) = false
  below : Below w1.heap.size w1 wr
theorem wrap_pred (q j : Nat) (h : j + 1 = q) (hb : q ≤ 9223372036854775807) : IntKind.i64.wrap ((q : Int) - 1) = (j : Int) := by rw [IntKind.wrap_i64]; omega
theorem ret_bU {a b : Bool} (h : a = b) : Ending.returned (.bool a) = .returned (.bool b) := by rw [h]

set_option maxHeartbeats 8000000 in
set_option maxRecDepth 100000 in
theorem or_of (c t : Int) (kk : Bool) (l : List Nat) (ks : List Tr) (hI : ∀ T ∈ ks, OrOk T) : OrOk (.mk c t kk l ks) := by
  intro V w hn hf hwt
  have e1 : c = V.cls := hn.cls
  have e2 : t = V.tag := hn.tag
  have hkd := hn.kids
  obtain ⟨vc, vt, vk, ba, bl, bc, ka, kl, kc⟩ := V
  dsimp only at e1 e2 hkd
  subst e1 e2
  simp only [Tr.kids] at hkd
  simp only [Tr.wt] at hwt
  obtain ⟨-, f5⟩ := hf
  have HFK := Lib.hid ((fineL_iff ks).1 f5)
  have hkl := Lib.hid hkd.length
  have hkle := hkd.le
  have hkm := hkd.max
  unfold maxLen at hkm
  obtain ⟨w1, hw1⟩ : ∃ w1, w.alloc (.cells #[.int .i64 c, .int .i64 t, .bool vk, .slice ba bl bc, .slice ka kl kc] 25) = w1 := ⟨_, rfl⟩
  have hb1 : Below w.heap.size w w1 := by rw [← hw1]; exact (Below.refl _ _).alloc (Nat.le_refl _) _
  have ca : CellsAt w1 w.heap.size 0 ⟨c, t, vk, ba, bl, bc, ka, kl, kc⟩ := by rw [← hw1]; exact cells5 w _ _ vk ba bl bc ka kl kc _
  have CA := Lib.hid ca
  have HB1 := Lib.hid hb1
  have HKD := Lib.hid (hkd.below hb1)
  have HI := Lib.hid hI
  have HWT := Lib.hid (show ∀ T ∈ ks, T.wt ≤ 1000000 from fun T hT => by have := wtL_mem hT; omega)
  have HFL := Lib.hid (show (Tr.mk c t kk l ks).falls = (fallsL ks || (decide (c = 0 ∧ t = 17) && downs [] (ks.map Tr.der))) from rfl)
  generalize Tr.mk c t kk l ks = T at *
  clear hn hkd hb1 hI ca hwt f5
  unfold NV.agg
  dsimp only
  go_enter Tryd.func32, Tryd.ntmps32
  go_wp2_with fail
  clear hw1
  go_loopw [3] (fun i wr => ∃ k : Nat, k ≤ kl ∧ i = .int .i64 (k : Int) ∧ OrI w1 ks k wr) (fun i _ => kl - (intOf i).toNat)
  case atStart => exact ⟨0, Nat.zero_le _, rfl, rfl, Below.refl _ _⟩
  case round =>
    obtain ⟨k, hk, rfl, hr⟩ := hrel
    have HR := Lib.hid hr
    obtain ⟨p0, p1, p2, p3, p4⟩ := CA.out.below hr.below CA.out.lt
    dsimp only at p0 p1 p2 p3 p4
    simp only [Nat.zero_add] at p0 p1 p2 p3 p4
    clear hr
    by_cases hlt : k < kl
    · have hk1 : k < ks.length := by rw [hkl.out]; exact hlt
      obtain ⟨U, hc, hnu⟩ := HKD.out.cells
      obtain ⟨b1, o1, rfl, hb1, hcell⟩ := hc (by omega)
      have hcu := (hcell k hlt).below HR.out.below hb1
      have hnk := (hnu k hk1).under HR.out.below
      have hmem := List.getElem_mem hk1
      obtain ⟨X, hX⟩ : ∃ X, U k = X := ⟨_, rfl⟩
      rw [hX] at hcu hnk
      have HOK := Lib.hid (HI.out ks[k] hmem X _ hnk (HFK.out _ hmem) (HWT.out _ hmem))
      have HFT := Lib.hid (fallsL_take ks k hk1)
      have HFX := Lib.hid (fun h => fallsL_true hk1 h)
      obtain ⟨xc, xt, xk, xa, xl, xm, ya, yl, ym⟩ := X
      unfold NV.agg at HOK
      dsimp only at HOK
      obtain ⟨r0, r1, r2, r3, r4⟩ := hcu
      dsimp only at r0 r1 r2 r3 r4
      obtain ⟨g, hg⟩ : ∃ g, (ks[k]).falls = g := ⟨_, rfl⟩
      rw [hg] at HOK HFT HFX
      clear hc hnu hcell hnk hX hb1 hmem hg
      go_wp2_with fail
      refine HOK.out.mono ?_
      rintro e w4 ⟨rfl, hb4⟩
      have HB4 := Lib.hid (HR.out.below.trans (hb4.mono HR.out.below.size))
      clear hb4 HOK p0 p1 p2 p3 p4 r0 r1 r2 r3 r4
      cases g with
      | true =>
        have HFX2 := Lib.hid (HFX.out rfl)
        clear HFX
        go_wp2_with fail
        go_ret
        exact ⟨ret_bU (by rw [HFL.out, HFX2.out]; rfl), HB1.out.trans (HB4.out.mono HB1.out.size)⟩
      | false =>
        go_wp2_with fail
        go_roundw
        case rel => exact ⟨k + 1, by omega, by go_num, by rw [HFT.out, HR.out.falls]; rfl, HB4.out⟩
        case measure => simp [intOf]; omega
    · obtain rfl : k = kl := by omega
      have hfull : ks.take k = ks := List.take_of_length_le (by rw [hkl.out]; exact Nat.le_refl _)
      have HF0 := Lib.hid (show fallsL ks = false by have := HR.out.falls; rwa [hfull] at this)
      have HBA := Lib.hid HR.out.below
      clear hlt hfull HR
      by_cases hset : c = 0 ∧ t = 17
      · obtain ⟨rfl, rfl⟩ := hset
        go_wp2_with fail
        clear p0 p1 p2 p3 p4
        go_loopw [5] (fun i wr2 => ∃ q : Nat, 1 ≤ q ∧ i = .int .i64 (q : Int) ∧ (q ≤ k ∨ q = 1) ∧ OrJ w1 ks q wr2) (fun i _ => k - (intOf i).toNat)
        case atStart => exact ⟨1, Nat.le_refl _, rfl, .inr rfl, downs_one ks, HBA.out⟩
        case round =>
          obtain ⟨q, hq1, rfl, hq, hr⟩ := hrel
          have HR := Lib.hid hr
          obtain ⟨p0, p1, p2, p3, p4⟩ := CA.out.below hr.below CA.out.lt
          dsimp only at p0 p1 p2 p3 p4
          simp only [Nat.zero_add] at p0 p1 p2 p3 p4
          clear hr
          by_cases hlt : q < k
          · clear hq
            have hk1 : q < ks.length := by rw [hkl.out]; exact hlt
            have hk2 : q - 1 < ks.length := by omega
            have dq : decide ((q : Int) < (k : Int)) = true := by simp; omega
            obtain ⟨U, hc, hnu⟩ := HKD.out.cells
            obtain ⟨b1, o1, rfl, hb1, hcell⟩ := hc (by omega)
            have hcu := (hcell q hlt).below HR.out.below hb1
            have hcv := (hcell (q - 1) (by omega)).below HR.out.below hb1
            have hb1r : b1 < wr.heap.size := Nat.lt_of_lt_of_le hb1 HR.out.below.size
            have NU := Lib.hid (fun (W : World) (h : Below w1.heap.size w1 W) => (hnu q hk1).under h)
            have NW := Lib.hid (fun (W : World) (h : Below w1.heap.size w1 W) => (hnu (q - 1) hk2).under h)
            have hm1 := List.getElem_mem hk1
            have hm2 := List.getElem_mem hk2
            have HU := Lib.hid (fun (W : World) (h : Below w1.heap.size w1 W) => rbytes_any ks[q] (U q) W (NU.out W h) (HFK.out _ hm1) (HWT.out _ hm1))
            have HV := Lib.hid (fun (W : World) (h : Below w1.heap.size w1 W) => rbytes_any ks[q - 1] (U (q - 1)) W (NW.out W h) (HFK.out _ hm2) (HWT.out _ hm2))
            have HDW := Lib.hid (downs_take hq1 hk1)
            generalize ks[q] = KU at *
            generalize ks[q - 1] = KV at *
            generalize U q = X at *
            generalize U (q - 1) = Y at *
            obtain ⟨xc, xt, xk, xa, xl, xm, ya, yl, ym⟩ := X
            obtain ⟨zc, zt, zk, za, zl, zm, ua, ul, um⟩ := Y
            unfold NV.agg at HU HV
            dsimp only at HU HV
            obtain ⟨r0, r1, r2, r3, r4⟩ := hcu
            obtain ⟨s0, s1, s2, s3, s4⟩ := hcv
            dsimp only at r0 r1 r2 r3 r4 s0 s1 s2 s3 s4
            have hqj : q - 1 + 1 = q := Nat.sub_add_cancel hq1
            generalize q - 1 = j at *
            have wj : IntKind.i64.wrap ((q : Int) - 1) = (j : Int) := wrap_pred q j hqj (by omega)
            have hj1 : j < k := by rw [← hqj] at hlt; exact Nat.lt_of_succ_lt hlt
            have HLB := Lib.hid hb1r
            have HLW := Lib.hid (show w.heap.size < wr.heap.size from World.block_lt_of_cell? wr _ p4)
            clear hc hnu hcell hb1 hm1 hm2 NU NW hb1r
            go_wp2_with fail
            refine wp_region_held_drew (S := fun Y => Y.cell? ⟨w.heap.size, 4, none⟩ = some (.slice (some ⟨b1, o1, none⟩) k kc) ∧ Y.cell? ⟨b1, o1 + q * 5, none⟩ = some (.int .i64 xc) ∧ Y.cell? ⟨b1, o1 + q * 5 + 1, none⟩ = some (.int .i64 xt) ∧ Y.cell? ⟨b1, o1 + q * 5 + 2, none⟩ = some (.bool xk) ∧ Y.cell? ⟨b1, o1 + q * 5 + 3, none⟩ = some (.slice xa xl xm) ∧ Y.cell? ⟨b1, o1 + q * 5 + 4, none⟩ = some (.slice ya yl ym) ∧ Y.cell? ⟨b1, o1 + j * 5, none⟩ = some (.int .i64 zc) ∧ Y.cell? ⟨b1, o1 + j * 5 + 1, none⟩ = some (.int .i64 zt) ∧ Y.cell? ⟨b1, o1 + j * 5 + 2, none⟩ = some (.bool zk) ∧ Y.cell? ⟨b1, o1 + j * 5 + 3, none⟩ = some (.slice za zl zm) ∧ Y.cell? ⟨b1, o1 + j * 5 + 4, none⟩ = some (.slice ua ul um)) (by kernel_rfl) ⟨p4, r0, r1, r2, r3, r4, s0, s1, s2, s3, s4⟩ (fun hHeld => ?_)
            try simp only [List.getElem_toArray, List.getElem_cons_succ, List.getElem_cons_zero, Act.put, List.setIfInBounds_toArray, List.set_cons_zero, List.set_cons_succ]
            refine' tk 0 ?_
            try simp only [List.getElem_toArray, List.getElem_cons_succ, List.getElem_cons_zero, Act.put, List.setIfInBounds_toArray, List.set_cons_zero, List.set_cons_succ]
            refine' tk 1 ?_
            try simp only [List.getElem_toArray, List.getElem_cons_succ, List.getElem_cons_zero, Act.put, List.setIfInBounds_toArray, List.set_cons_zero, List.set_cons_succ]
            refine' tk 2 ?_
            try simp only [List.getElem_toArray, List.getElem_cons_succ, List.getElem_cons_zero, Act.put, List.setIfInBounds_toArray, List.set_cons_zero, List.set_cons_succ]
            refine' tk 3 ?_
            try simp only [List.getElem_toArray, List.getElem_cons_succ, List.getElem_cons_zero, Act.put, List.setIfInBounds_toArray, List.set_cons_zero, List.set_cons_succ]
            refine' tk 4 ?_
            try simp only [List.getElem_toArray, List.getElem_cons_succ, List.getElem_cons_zero, Act.put, List.setIfInBounds_toArray, List.set_cons_zero, List.set_cons_succ]
            refine' tk 5 ?_
            try simp only [List.getElem_toArray, List.getElem_cons_succ, List.getElem_cons_zero, Act.put, List.setIfInBounds_toArray, List.set_cons_zero, List.set_cons_succ]
            refine' tk 7 ?_
            try simp only [List.getElem_toArray, List.getElem_cons_succ, List.getElem_cons_zero, Act.put, List.setIfInBounds_toArray, List.set_cons_zero, List.set_cons_succ]
            refine' tk 8 ?_
            try simp only [List.getElem_toArray, List.getElem_cons_succ, List.getElem_cons_zero, Act.put, List.setIfInBounds_toArray, List.set_cons_zero, List.set_cons_succ]
            refine' tk 9 ?_
            try simp only [List.getElem_toArray, List.getElem_cons_succ, List.getElem_cons_zero, Act.put, List.setIfInBounds_toArray, List.set_cons_zero, List.set_cons_succ]
            refine' tk 10 ?_
            try simp only [List.getElem_toArray, List.getElem_cons_succ, List.getElem_cons_zero, Act.put, List.setIfInBounds_toArray, List.set_cons_zero, List.set_cons_succ]
            refine' tk 11 ?_
            try simp only [List.getElem_toArray, List.getElem_cons_succ, List.getElem_cons_zero, Act.put, List.setIfInBounds_toArray, List.set_cons_zero, List.set_cons_succ]
            have gd : Below wr.heap.size wr wr.drew := (Below.refl _ wr).drew
            refine' tr 6 (fun K hK => ?_)
            try simp only [List.getElem_toArray, List.getElem_cons_succ, List.getElem_cons_zero]
            go_simp
            refine (HV.out _ (HR.out.below.trans (gd.mono HR.out.below.size))).mono ?_
            rintro e w7 ⟨⟨vv, rfl, ho⟩, hb⟩
            obtain ⟨av, nv, cv, rfl⟩ := own8_sl ho
            have HVB := Lib.hid ho.bts
            have g7 : Below wr.heap.size wr w7 := gd.trans (hb.mono gd.size)
            clear hb ho
            refine hK.out _ _ ⟨(g7.cell (p := ⟨w.heap.size, 4, none⟩) HLW.out).trans p4, (g7.cell (p := ⟨b1, o1 + q * 5, none⟩) HLB.out).trans r0, (g7.cell (p := ⟨b1, o1 + q * 5 + 1, none⟩) HLB.out).trans r1, (g7.cell (p := ⟨b1, o1 + q * 5 + 2, none⟩) HLB.out).trans r2, (g7.cell (p := ⟨b1, o1 + q * 5 + 3, none⟩) HLB.out).trans r3, (g7.cell (p := ⟨b1, o1 + q * 5 + 4, none⟩) HLB.out).trans r4, (g7.cell (p := ⟨b1, o1 + j * 5, none⟩) HLB.out).trans s0, (g7.cell (p := ⟨b1, o1 + j * 5 + 1, none⟩) HLB.out).trans s1, (g7.cell (p := ⟨b1, o1 + j * 5 + 2, none⟩) HLB.out).trans s2, (g7.cell (p := ⟨b1, o1 + j * 5 + 3, none⟩) HLB.out).trans s3, (g7.cell (p := ⟨b1, o1 + j * 5 + 4, none⟩) HLB.out).trans s4⟩ (fun hHeld => ?_)
            clear hK K
            try simp only [List.getElem_toArray, List.getElem_cons_succ, List.getElem_cons_zero, Act.put, List.setIfInBounds_toArray, List.set_cons_zero, List.set_cons_succ]
            refine' tr 12 (fun K hK => ?_)
            try simp only [List.getElem_toArray, List.getElem_cons_succ, List.getElem_cons_zero]
            go_simp
            refine (HU.out _ (HR.out.below.trans (g7.mono HR.out.below.size))).mono ?_
            rintro e w8 ⟨⟨vu, rfl, ho⟩, hb⟩
            obtain ⟨au, nu, cu, rfl⟩ := own8_sl ho
            have HUB := Lib.hid ho.bts
            have g8 : Below wr.heap.size wr w8 := g7.trans (hb.mono g7.size)
            have HVB := Lib.hid (HVB.out.below hb)
            clear hb ho
            refine hK.out _ _ ⟨(g8.cell (p := ⟨w.heap.size, 4, none⟩) HLW.out).trans p4, (g8.cell (p := ⟨b1, o1 + q * 5, none⟩) HLB.out).trans r0, (g8.cell (p := ⟨b1, o1 + q * 5 + 1, none⟩) HLB.out).trans r1, (g8.cell (p := ⟨b1, o1 + q * 5 + 2, none⟩) HLB.out).trans r2, (g8.cell (p := ⟨b1, o1 + q * 5 + 3, none⟩) HLB.out).trans r3, (g8.cell (p := ⟨b1, o1 + q * 5 + 4, none⟩) HLB.out).trans r4, (g8.cell (p := ⟨b1, o1 + j * 5, none⟩) HLB.out).trans s0, (g8.cell (p := ⟨b1, o1 + j * 5 + 1, none⟩) HLB.out).trans s1, (g8.cell (p := ⟨b1, o1 + j * 5 + 2, none⟩) HLB.out).trans s2, (g8.cell (p := ⟨b1, o1 + j * 5 + 3, none⟩) HLB.out).trans s3, (g8.cell (p := ⟨b1, o1 + j * 5 + 4, none⟩) HLB.out).trans s4⟩ (fun hHeld => ?_)
            clear hK K
            try simp only [List.getElem_toArray, List.getElem_cons_succ, List.getElem_cons_zero, Act.put, List.setIfInBounds_toArray, List.set_cons_zero, List.set_cons_succ]
            refine' tr 13 (fun K hK => ?_)
            try simp only [List.getElem_toArray, List.getElem_cons_succ, List.getElem_cons_zero]
            go_simp
            refine (refcmp_any av au nv cv nu cu KV.der KU.der _ HVB.out HUB.out).mono ?_
            rintro e w9 ⟨rfl, dN, rfl⟩
            generalize Lib.compareBytes KV.der KU.der = rr at *
            have g9 : Below wr.heap.size wr _ := g8.trans ((below_drewN _ dN).mono g8.size)
            refine hK.out _ _ ⟨(g9.cell (p := ⟨w.heap.size, 4, none⟩) HLW.out).trans p4, (g9.cell (p := ⟨b1, o1 + q * 5, none⟩) HLB.out).trans r0, (g9.cell (p := ⟨b1, o1 + q * 5 + 1, none⟩) HLB.out).trans r1, (g9.cell (p := ⟨b1, o1 + q * 5 + 2, none⟩) HLB.out).trans r2, (g9.cell (p := ⟨b1, o1 + q * 5 + 3, none⟩) HLB.out).trans r3, (g9.cell (p := ⟨b1, o1 + q * 5 + 4, none⟩) HLB.out).trans r4, (g9.cell (p := ⟨b1, o1 + j * 5, none⟩) HLB.out).trans s0, (g9.cell (p := ⟨b1, o1 + j * 5 + 1, none⟩) HLB.out).trans s1, (g9.cell (p := ⟨b1, o1 + j * 5 + 2, none⟩) HLB.out).trans s2, (g9.cell (p := ⟨b1, o1 + j * 5 + 3, none⟩) HLB.out).trans s3, (g9.cell (p := ⟨b1, o1 + j * 5 + 4, none⟩) HLB.out).trans s4⟩ (fun hHeld => ?_)
            clear hK K
            try simp only [List.getElem_toArray, List.getElem_cons_succ, List.getElem_cons_zero, Act.put, List.setIfInBounds_toArray, List.set_cons_zero, List.set_cons_succ]
            refine' tk 14 ?_
            try simp only [List.getElem_toArray, List.getElem_cons_succ, List.getElem_cons_zero, Act.put, List.setIfInBounds_toArray, List.set_cons_zero, List.set_cons_succ]
            refine wpAnyH_done (by kernel_rfl) ?_ _
            have G9 := Lib.hid (HR.out.below.trans (g9.mono HR.out.below.size))
            clear hHeld g9
            by_cases hrr : 0 < rr
            · have hd : decide (0 < rr) = true := decide_eq_true hrr
              have HDX := Lib.hid (downs_true (ks := ks) (k := q + 1) (by rw [HDW.out, hd, Bool.or_true]))
              clear HDW
              go_wp2_with fail
              go_ret
              exact ⟨ret_bU (by rw [HFL.out, HDX.out]; simp), HB1.out.trans (G9.out.mono HB1.out.size)⟩
            · have hd : decide (0 < rr) = false := decide_eq_false hrr
              have HDX := Lib.hid (show downs [] ((ks.map Tr.der).take (q + 1)) = false by rw [HDW.out, hd, HR.out.downs]; rfl)
              clear HDW
              go_wp2_with fail
              go_roundw
              case rel => exact ⟨q + 1, by omega, by go_num, .inl (by omega), HDX.out, G9.out⟩
              case measure => simp [intOf]; omega
          · have dq : decide ((q : Int) < (k : Int)) = false := by simp; omega
            have HG := Lib.hid (show T.falls = false by
              have h1 := HR.out.downs
              rw [List.take_of_length_le (by rw [List.length_map, hkl.out]; omega)] at h1
              rw [HFL.out, HF0.out, h1]
              simp)
            go_wp2_with fail
            go_ret
            exact ⟨ret_bU (by rw [HG.out]; rfl), HB1.out.trans (HR.out.below.mono HB1.out.size)⟩
      · have HG := Lib.hid (show T.falls = false by rw [HFL.out, HF0.out, decide_eq_false hset]; rfl)
        by_cases h1k : 1 < k
        · have z1 : decide ((1 : Int) < (k : Int)) = true := by simp; omega
          by_cases hc0 : c = 0
          · have z2 : (c == 0) = true := by simpa using hc0
            have z3 : (t == 17) = false := by simp; exact fun h => hset ⟨hc0, h⟩
            clear hset
            subst hc0
            go_wp2_with fail
            go_loopw [5] (fun i wr2 => i = .int .i64 1 ∧ Below w1.heap.size w1 wr2) (fun i _ => k - (intOf i).toNat)
            case atStart => exact ⟨rfl, HBA.out⟩
            case round =>
              obtain ⟨rfl, hr⟩ := hrel
              have HR := Lib.hid hr
              obtain ⟨p0, p1, p2, p3, p4⟩ := CA.out.below hr CA.out.lt
              dsimp only at p0 p1 p2 p3 p4
              simp only [Nat.zero_add] at p0 p1 p2 p3 p4
              clear hr
              go_wp2_with fail
              go_ret
              exact ⟨ret_bU (by rw [HG.out]; rfl), HB1.out.trans (HR.out.mono HB1.out.size)⟩
          · have z2 : (c == 0) = false := by simpa using hc0
            clear hset
            go_wp2_with fail
            go_loopw [5] (fun i wr2 => i = .int .i64 1 ∧ Below w1.heap.size w1 wr2) (fun i _ => k - (intOf i).toNat)
            case atStart => exact ⟨rfl, HBA.out⟩
            case round =>
              obtain ⟨rfl, hr⟩ := hrel
              have HR := Lib.hid hr
              obtain ⟨p0, p1, p2, p3, p4⟩ := CA.out.below hr CA.out.lt
              dsimp only at p0 p1 p2 p3 p4
              simp only [Nat.zero_add] at p0 p1 p2 p3 p4
              clear hr
              go_wp2_with fail
              go_ret
              exact ⟨ret_bU (by rw [HG.out]; rfl), HB1.out.trans (HR.out.mono HB1.out.size)⟩
        · have z1 : decide ((1 : Int) < (k : Int)) = false := by simp; omega
          clear hset
          go_wp2_with fail
          go_loopw [5] (fun i wr2 => i = .int .i64 1 ∧ Below w1.heap.size w1 wr2) (fun i _ => k - (intOf i).toNat)
          case atStart => exact ⟨rfl, HBA.out⟩
          case round =>
            obtain ⟨rfl, hr⟩ := hrel
            have HR := Lib.hid hr
            obtain ⟨p0, p1, p2, p3, p4⟩ := CA.out.below hr CA.out.lt
            dsimp only at p0 p1 p2 p3 p4
            simp only [Nat.zero_add] at p0 p1 p2 p3 p4
            clear hr
            go_wp2_with fail
            go_ret
            exact ⟨ret_bU (by rw [HG.out]; rfl), HB1.out.trans (HR.out.mono HB1.out.size)⟩

theorem or_ok : ∀ (n : Nat) (T : Tr), T.wt ≤ n → OrOk T
  | 0, T, h => by have := T.wt_pos; omega
  | n + 1, .mk c t k l ks, h => by
    simp only [Tr.wt] at h
    exact or_of c t k l ks fun T hT => or_ok n T (by have := wtL_mem hT; omega)
theorem rOrdered_any (T : Tr) : OrOk T := or_ok T.wt T (Nat.le_refl _)

end Go.Proofs.YtkmphiakciihfaaDoor

namespace Go.Proofs.YtkmphiakciihfaaDoor
open Go.RowKit

set_option maxHeartbeats 2000000 in
theorem rEnc_any (V : NV) (T : Tr) (w : World) (hn : NodeAt w V T) (hw : T.wt ≤ 1000000) (hN : T.cnt ≤ 1000000) (hd : T.dep ≤ 1000000) :
    Calls Tryd.prog 12 #[V.agg] w fun e w' => RetsOwn2 w.heap.size w' (dEncR T) e ∧ Below w.heap.size w w' := by
  obtain ⟨c, t, kk, ba, bl, bc, ka, kl, kc⟩ := V
  obtain ⟨w1, hw1⟩ : ∃ w1, w.alloc (.cells #[.int .i64 c, .int .i64 t, .bool kk, .slice ba bl bc, .slice ka kl kc] 25) = w1 := ⟨_, rfl⟩
  have hb1 : Below w.heap.size w w1 := by rw [← hw1]; exact (Below.refl _ _).alloc (Nat.le_refl _) _
  have hcx : CellsAt w1 w.heap.size 0 ⟨c, t, kk, ba, bl, bc, ka, kl, kc⟩ := by rw [← hw1]; exact cells5 w c t kk ba bl bc ka kl kc _
  have HSZ := Lib.hid (rSize_any ⟨c, t, kk, ba, bl, bc, ka, kl, kc⟩ T w1 (hn.under hb1) hw hN hd)
  have HOR := Lib.hid (fun (W : World) (hB : Below w1.heap.size w1 W) (hf : T.fine) => rOrdered_any T ⟨c, t, kk, ba, bl, bc, ka, kl, kc⟩ W ((hn.under hb1).under hB) hf hw)
  have HRB := Lib.hid (fun (W : World) (hB : Below w1.heap.size w1 W) (hf : T.fine) => rbytes_any T ⟨c, t, kk, ba, bl, bc, ka, kl, kc⟩ W ((hn.under hb1).under hB) hf hw)
  have HB1 := Lib.hid hb1
  have HC := Lib.hid hcx
  have HR := Lib.hid (show dEncR T = if (dSizR T).2 = 0 then (if T.falls then ([], 121) else (T.der, 0)) else ([], (dSizR T).2) from rfl)
  have HF := Lib.hid (fun h => (dSizR_fine (T := T) h).2.1)
  obtain ⟨p0, p1, p2, p3, p4⟩ := hcx
  dsimp only at p0 p1 p2 p3 p4
  simp only [Nat.zero_add] at p0 p1 p2 p3 p4
  generalize dEncR T = R at *
  obtain ⟨s, hs⟩ : ∃ s, dSizR T = s := ⟨_, rfl⟩
  rw [hs] at HSZ HR HF
  obtain ⟨s1, s2⟩ := s
  dsimp only at HSZ HR HF
  clear hn hb1 hw hs
  unfold NV.agg at HSZ HOR HRB ⊢
  dsimp only at HSZ HOR HRB ⊢
  by_cases h2 : s2 = 0
  · subst h2
    rw [if_pos rfl] at HR
    have HFF := Lib.hid (HF.out rfl)
    clear HF
    go_enter Tryd.func12, Tryd.ntmps12
    go_wp2_with fail
    clear hw1
    refine HSZ.out.mono ?_
    rintro e w2 ⟨rfl, hb2⟩
    obtain ⟨q0, q1, q2, q3, q4⟩ := HC.out.below hb2 HC.out.lt
    dsimp only at q0 q1 q2 q3 q4
    simp only [Nat.zero_add] at q0 q1 q2 q3 q4
    have HB2 := Lib.hid hb2
    clear hb2 p0 p1 p2 p3 p4
    go_wp2_with fail
    refine (HOR.out w2 HB2.out HFF.out).mono ?_
    rintro e w3 ⟨rfl, hb3⟩
    have HB3 := Lib.hid (HB2.out.trans (hb3.mono HB2.out.size))
    obtain ⟨p0, p1, p2, p3, p4⟩ := HC.out.below HB3.out HC.out.lt
    dsimp only at p0 p1 p2 p3 p4
    simp only [Nat.zero_add] at p0 p1 p2 p3 p4
    clear hb3 q0 q1 q2 q3 q4
    cases hf : T.falls with
    | true =>
      rw [hf] at HR
      rw [if_pos rfl] at HR
      clear hf
      go_wp2_with fail
      go_ret2
      rw [HR.out]
      exact ⟨⟨_, rfl, Own8.nil _ _ _⟩, HB1.out.trans (HB3.out.mono HB1.out.size)⟩
    | false =>
      rw [hf] at HR
      rw [if_neg (by decide)] at HR
      clear hf
      go_wp2_with fail
      refine (HRB.out w3 HB3.out HFF.out).mono ?_
      rintro e w4 ⟨⟨v, rfl, ho⟩, hb4⟩
      obtain ⟨a, n, k, rfl⟩ := own8_sl ho
      have HO := Lib.hid (ho.mono (show w.heap.size ≤ _ from Nat.le_trans HB1.out.size HB3.out.size))
      have HB4 := Lib.hid (HB1.out.trans ((HB3.out.trans (hb4.mono HB3.out.size)).mono HB1.out.size))
      clear ho hb4 p0 p1 p2 p3 p4
      go_wp2_with fail
      go_ret2
      rw [HR.out]
      exact ⟨⟨_, rfl, HO.out⟩, HB4.out⟩
  · rw [if_neg h2] at HR
    have h3 : (s2 != 0) = true := by simpa using h2
    go_enter Tryd.func12, Tryd.ntmps12
    go_wp2_with fail
    clear hw1
    refine HSZ.out.mono ?_
    rintro e w2 ⟨rfl, hb2⟩
    have HB2 := Lib.hid (HB1.out.trans (hb2.mono HB1.out.size))
    clear hb2 p0 p1 p2 p3 p4
    go_wp2_with fail
    go_ret2
    rw [HR.out]
    exact ⟨⟨_, rfl, Own8.nil _ _ _⟩, HB2.out⟩

set_option maxRecDepth 100000 in
set_option maxHeartbeats 16000000 in
theorem dwrites_walk (V : NV) (T : Tr) (w : World) (hn : NodeAt w V T) (hlim : T.lim) (n : Int) (hn1 : n ≤ 9223372036854775807) (hk : Tabs w) :
    Calls Tryd.prog 3 #[V.agg, .int .i64 n] w fun e w' => e = .returned (.bool true) ∧ Below w.heap.size w w' := by
  obtain ⟨c, t, kk, ba, bl, bc, ka, kl, kc⟩ := V
  obtain ⟨w1, hw1⟩ : ∃ w1, w.alloc (.cells #[.int .i64 c, .int .i64 t, .bool kk, .slice ba bl bc, .slice ka kl kc] 25) = w1 := ⟨_, rfl⟩
  have hb1 : Below w.heap.size w w1 := by rw [← hw1]; exact (Below.refl _ _).alloc (Nat.le_refl _) _
  have hcx : CellsAt w1 w.heap.size 0 ⟨c, t, kk, ba, bl, bc, ka, kl, kc⟩ := by rw [← hw1]; exact cells5 w c t kk ba bl bc ka kl kc _
  have HLA := Lib.hid hcx.lt
  have CA := Lib.hid (fun (W : World) (h : Below w1.heap.size w1 W) => hcx.below h hcx.lt)
  have HN := Lib.hid (fun (W : World) (h : Below w1.heap.size w1 W) => (hn.under hb1).under h)
  have HT := Lib.hid (fun (W : World) (h : Below w1.heap.size w1 W) => tabs_below (tabs_below hk hb1) h)
  have HB1 := Lib.hid hb1
  have hg := great12_any T ⟨c, t, kk, ba, bl, bc, ka, kl, kc⟩ w1 (hn.under hb1) hlim
  unfold NV.agg at hg
  dsimp only at hg
  obtain ⟨p0, p1, p2, p3, p4⟩ := hcx
  dsimp only at p0 p1 p2 p3 p4
  simp only [Nat.zero_add] at p0 p1 p2 p3 p4
  clear hn hlim hk hb1
  unfold NV.agg
  dsimp only
  go_enter Tryd.func3, Tryd.ntmps3
  go_wp2_with fail
  clear hw1
  refine hg.mono ?_
  rintro e v0 ⟨rfl, hb⟩
  have G0 := Lib.hid hb
  clear hb hg p0 p1 p2 p3 p4
  cases g1 : great12 T with
  | true =>
    go_wp2_with fail
    go_ret
    exact ⟨rfl, HB1.out.trans (G0.out.mono HB1.out.size)⟩
  | false =>
    have b1 := great12_no g1
    have y1 : T.wt ≤ 1000000 := by omega
    have y2 : T.cnt ≤ 1000000 := by omega
    have y3 : T.dep ≤ 1000000 := by omega
    have HY := Lib.hid (And.intro y1 (And.intro y2 y3))
    clear g1 b1 y1 y2 y3
    have ht := rtwin_any ⟨c, t, kk, ba, bl, bc, ka, kl, kc⟩ T v0 (HN.out v0 G0.out) HY.out.1
    unfold NV.agg at ht
    dsimp only at ht
    obtain ⟨p0, p1, p2, p3, p4⟩ := CA.out v0 G0.out
    dsimp only at p0 p1 p2 p3 p4
    simp only [Nat.zero_add] at p0 p1 p2 p3 p4
    go_wp2_with fail
    refine ht.mono ?_
    rintro e v1 ⟨⟨X, rfl, hm⟩, hb⟩
    have G1 := Lib.hid (G0.out.trans (hb.mono G0.out.size))
    have HM := Lib.hid hm.node
    obtain ⟨xc, xt, xk, xa, xl, xm, ya, yl, ym⟩ := X
    unfold NV.agg
    dsimp only
    clear hb hm ht p0 p1 p2 p3 p4
    obtain ⟨v2, hv2⟩ : ∃ u, v1.alloc (.cells #[.int .i64 xc, .int .i64 xt, .bool xk, .slice xa xl xm, .slice ya yl ym] 25) = u := ⟨_, rfl⟩
    have hb12 : Below v1.heap.size v1 v2 := by rw [← hv2]; exact (Below.refl _ _).alloc (Nat.le_refl _) _
    have hcy : CellsAt v2 v1.heap.size 0 ⟨xc, xt, xk, xa, xl, xm, ya, yl, ym⟩ := by rw [← hv2]; exact cells5 v1 xc xt xk xa xl xm ya yl ym _
    have HLY := Lib.hid hcy.lt
    have G2 := Lib.hid (G1.out.trans (hb12.mono G1.out.size))
    have CY := Lib.hid (fun (W : World) (h : Below v2.heap.size v2 W) => hcy.below h hcy.lt)
    have NY := Lib.hid (fun (W : World) (h : Below v2.heap.size v2 W) => (HM.out.under hb12).under h)
    have N2 := Lib.hid (fun (W : World) (h : Below v2.heap.size v2 W) => HN.out W (G2.out.trans (h.mono G2.out.size)))
    have C2 := Lib.hid (fun (W : World) (h : Below v2.heap.size v2 W) => CA.out W (G2.out.trans (h.mono G2.out.size)))
    have T2 := Lib.hid (fun (W : World) (h : Below v2.heap.size v2 W) => HT.out W (G2.out.trans (h.mono G2.out.size)))
    have F2 := Lib.hid (Below.refl v2.heap.size v2)
    clear hb12 hcy HM
    have hc := dEnc_any ⟨xc, xt, xk, xa, xl, xm, ya, yl, ym⟩ T v2 (NY.out v2 F2.out) HY.out.1 HY.out.2.1 HY.out.2.2 (T2.out v2 F2.out)
    try unfold NV.agg at hc
    try dsimp only at hc
    obtain ⟨p0, p1, p2, p3, p4⟩ := C2.out v2 F2.out
    obtain ⟨q0, q1, q2, q3, q4⟩ := CY.out v2 F2.out
    dsimp only at p0 p1 p2 p3 p4 q0 q1 q2 q3 q4
    simp only [Nat.zero_add] at p0 p1 p2 p3 p4 q0 q1 q2 q3 q4
    go_wp2_with fail
    refine hc.mono ?_
    rintro e v3 ⟨⟨va, rfl, hoa⟩, hb⟩
    have F3 := Lib.hid (F2.out.trans (hb.mono F2.out.size))
    obtain ⟨aa, an, ac, rfl⟩ := own8_sl hoa
    have HA := Lib.hid (fun (W : World) (h : Below v3.heap.size v3 W) => hoa.bts.below h)
    clear hoa hv2
    clear hb hc p0 p1 p2 p3 p4 q0 q1 q2 q3 q4
    have hc := rEnc_any ⟨c, t, kk, ba, bl, bc, ka, kl, kc⟩ T v3 (N2.out v3 F3.out) HY.out.1 HY.out.2.1 HY.out.2.2
    try unfold NV.agg at hc
    try dsimp only at hc
    obtain ⟨p0, p1, p2, p3, p4⟩ := C2.out v3 F3.out
    obtain ⟨q0, q1, q2, q3, q4⟩ := CY.out v3 F3.out
    dsimp only at p0 p1 p2 p3 p4 q0 q1 q2 q3 q4
    simp only [Nat.zero_add] at p0 p1 p2 p3 p4 q0 q1 q2 q3 q4
    go_wp2_with fail
    refine hc.mono ?_
    rintro e v4 ⟨⟨vb, rfl, hob⟩, hb⟩
    have F4 := Lib.hid (F3.out.trans (hb.mono F3.out.size))
    obtain ⟨ea, en, ec, rfl⟩ := own8_sl hob
    have HB := Lib.hid (fun (W : World) (h : Below v4.heap.size v4 W) => hob.bts.below h)
    have HA := Lib.hid (fun (W : World) (h : Below v4.heap.size v4 W) => HA.out W (hb.trans (h.mono hb.size)))
    clear hob
    clear hb hc p0 p1 p2 p3 p4 q0 q1 q2 q3 q4
    have hc := dSize_any ⟨xc, xt, xk, xa, xl, xm, ya, yl, ym⟩ T v4 (NY.out v4 F4.out) HY.out.1 HY.out.2.1 HY.out.2.2 (T2.out v4 F4.out)
    try unfold NV.agg at hc
    try dsimp only at hc
    obtain ⟨p0, p1, p2, p3, p4⟩ := C2.out v4 F4.out
    obtain ⟨q0, q1, q2, q3, q4⟩ := CY.out v4 F4.out
    dsimp only at p0 p1 p2 p3 p4 q0 q1 q2 q3 q4
    simp only [Nat.zero_add] at p0 p1 p2 p3 p4 q0 q1 q2 q3 q4
    go_wp2_with fail
    refine hc.mono ?_
    rintro e v5 ⟨rfl, hb⟩
    have F5 := Lib.hid (F4.out.trans (hb.mono F4.out.size))
    have HA := Lib.hid (fun (W : World) (h : Below v5.heap.size v5 W) => HA.out W (hb.trans (h.mono hb.size)))
    have HB := Lib.hid (fun (W : World) (h : Below v5.heap.size v5 W) => HB.out W (hb.trans (h.mono hb.size)))
    clear hb hc p0 p1 p2 p3 p4 q0 q1 q2 q3 q4
    have hc := rSize_any ⟨c, t, kk, ba, bl, bc, ka, kl, kc⟩ T v5 (N2.out v5 F5.out) HY.out.1 HY.out.2.1 HY.out.2.2
    try unfold NV.agg at hc
    try dsimp only at hc
    obtain ⟨p0, p1, p2, p3, p4⟩ := C2.out v5 F5.out
    obtain ⟨q0, q1, q2, q3, q4⟩ := CY.out v5 F5.out
    dsimp only at p0 p1 p2 p3 p4 q0 q1 q2 q3 q4
    simp only [Nat.zero_add] at p0 p1 p2 p3 p4 q0 q1 q2 q3 q4
    go_wp2_with fail
    refine hc.mono ?_
    rintro e v6 ⟨rfl, hb⟩
    have F6 := Lib.hid (F5.out.trans (hb.mono F5.out.size))
    have HA := Lib.hid (fun (W : World) (h : Below v6.heap.size v6 W) => HA.out W (hb.trans (h.mono hb.size)))
    have HB := Lib.hid (fun (W : World) (h : Below v6.heap.size v6 W) => HB.out W (hb.trans (h.mono hb.size)))
    clear hb hc p0 p1 p2 p3 p4 q0 q1 q2 q3 q4
    generalize hLL : (if n < 0 then [] else lenU n.toNat) = LL at *
    have HLL := Lib.hid hLL
    clear hLL
    have hc := length_any n hn1 v6
    try unfold NV.agg at hc
    try dsimp only at hc
    obtain ⟨p0, p1, p2, p3, p4⟩ := C2.out v6 F6.out
    obtain ⟨q0, q1, q2, q3, q4⟩ := CY.out v6 F6.out
    dsimp only at p0 p1 p2 p3 p4 q0 q1 q2 q3 q4
    simp only [Nat.zero_add] at p0 p1 p2 p3 p4 q0 q1 q2 q3 q4
    go_wp2_with fail
    refine hc.mono ?_
    rintro e v7 ⟨⟨vl, rfl, hol⟩, hb⟩
    have F7 := Lib.hid (F6.out.trans (hb.mono F6.out.size))
    rw [HLL.out] at hol
    obtain ⟨la, ln, lc, rfl⟩ := own8_sl hol
    have HA := Lib.hid (fun (W : World) (h : Below v7.heap.size v7 W) => HA.out W (hb.trans (h.mono hb.size)))
    have HB := Lib.hid (fun (W : World) (h : Below v7.heap.size v7 W) => HB.out W (hb.trans (h.mono hb.size)))
    have HL := Lib.hid (fun (W : World) (h : Below v7.heap.size v7 W) => hol.bts.below h)
    clear hol
    clear hb hc p0 p1 p2 p3 p4 q0 q1 q2 q3 q4
    obtain ⟨p0, p1, p2, p3, p4⟩ := C2.out v7 F7.out
    obtain ⟨q0, q1, q2, q3, q4⟩ := CY.out v7 F7.out
    dsimp only at p0 p1 p2 p3 p4 q0 q1 q2 q3 q4
    simp only [Nat.zero_add] at p0 p1 p2 p3 p4 q0 q1 q2 q3 q4
    have hsa := fun (W : World) (h : Below v2.heap.size v2 W) => samr_any T T ⟨xc, xt, xk, xa, xl, xm, ya, yl, ym⟩ ⟨c, t, kk, ba, bl, bc, ka, kl, kc⟩ W (NY.out W h) (N2.out W h)
    rw [show sameB T T = true from (sameB_iff T T).2 rfl] at hsa
    unfold NV.agg at hsa
    dsimp only at hsa
    have HSA := Lib.hid hsa
    clear hsa
    generalize dEncR T = R at *
    obtain ⟨R1, R2⟩ := R
    generalize dSizR T = Z at *
    obtain ⟨Z1, Z2⟩ := Z
    try dsimp only at HA
    try dsimp only at HB
    have cA := fun (W : World) (h : Below v7.heap.size v7 W) => conv8 (HA.out W h)
    have cB := fun (W : World) (h : Below v7.heap.size v7 W) => conv8 (HB.out W h)
    have cL := fun (W : World) (h : Below v7.heap.size v7 W) => conv8 (HL.out W h)
    have HCV := Lib.hid (And.intro cA (And.intro cB cL))
    have cA := cA v7 (Below.refl _ _)
    have cB := cB v7 (Below.refl _ _)
    have cL := cL v7 (Below.refl _ _)
    generalize strOf R1 = SR at *
    obtain ⟨SL, hSL⟩ : ∃ s, strOf LL = s := ⟨_, rfl⟩
    rw [hSL] at cL HCV
    have HSL := Lib.hid hSL
    clear hSL
    go_wp2_with fail
    have gd : Below v7.heap.size v7 v7.drew := (Below.refl _ v7).drew
    refine wp_region_held_drew (S := fun Y => Y.cell? ⟨w.heap.size, 0, none⟩ = some (.int .i64 c) ∧ Y.cell? ⟨w.heap.size, 1, none⟩ = some (.int .i64 t) ∧ Y.cell? ⟨w.heap.size, 2, none⟩ = some (.bool kk) ∧ Y.cell? ⟨w.heap.size, 3, none⟩ = some (.slice ba bl bc) ∧ Y.cell? ⟨w.heap.size, 4, none⟩ = some (.slice ka kl kc) ∧ Y.cell? ⟨v1.heap.size, 0, none⟩ = some (.int .i64 xc) ∧ Y.cell? ⟨v1.heap.size, 1, none⟩ = some (.int .i64 xt) ∧ Y.cell? ⟨v1.heap.size, 2, none⟩ = some (.bool xk) ∧ Y.cell? ⟨v1.heap.size, 3, none⟩ = some (.slice xa xl xm) ∧ Y.cell? ⟨v1.heap.size, 4, none⟩ = some (.slice ya yl ym) ∧ (convert 22 9 (.slice aa an ac)).run Tryd.prog Y = .ok (.string SR) Y ∧ (convert 22 9 (.slice ea en ec)).run Tryd.prog Y = .ok (.string SR) Y ∧ (convert 22 9 (.slice la ln lc)).run Tryd.prog Y = .ok (.string SL) Y) (by kernel_rfl) ⟨p0, p1, p2, p3, p4, q0, q1, q2, q3, q4, HCV.out.1 _ gd, HCV.out.2.1 _ gd, HCV.out.2.2 _ gd⟩ (fun hHeld => ?_)
    try simp only [List.getElem_toArray, List.getElem_cons_succ, List.getElem_cons_zero, Act.put, List.setIfInBounds_toArray, List.set_cons_zero, List.set_cons_succ]
    have HLW := Lib.hid (show w.heap.size < v7.heap.size from World.block_lt_of_cell? v7 _ p0)
    have HLX := Lib.hid (show v1.heap.size < v7.heap.size from World.block_lt_of_cell? v7 _ q0)
    clear cA cB cL
    refine' tk 0 ?_
    try simp only [List.getElem_toArray, List.getElem_cons_succ, List.getElem_cons_zero, Act.put, List.setIfInBounds_toArray, List.set_cons_zero, List.set_cons_succ]
    refine' tk 1 ?_
    try simp only [List.getElem_toArray, List.getElem_cons_succ, List.getElem_cons_zero, Act.put, List.setIfInBounds_toArray, List.set_cons_zero, List.set_cons_succ]
    refine' tk 2 ?_
    try simp only [List.getElem_toArray, List.getElem_cons_succ, List.getElem_cons_zero, Act.put, List.setIfInBounds_toArray, List.set_cons_zero, List.set_cons_succ]
    refine' tk 3 ?_
    try simp only [List.getElem_toArray, List.getElem_cons_succ, List.getElem_cons_zero, Act.put, List.setIfInBounds_toArray, List.set_cons_zero, List.set_cons_succ]
    refine' tk (v := .bool true) 4 ?_
    try simp only [List.getElem_toArray, List.getElem_cons_succ, List.getElem_cons_zero, Act.put, List.setIfInBounds_toArray, List.set_cons_zero, List.set_cons_succ]
    refine' tk 5 ?_
    try simp only [List.getElem_toArray, List.getElem_cons_succ, List.getElem_cons_zero, Act.put, List.setIfInBounds_toArray, List.set_cons_zero, List.set_cons_succ]
    refine' tk 6 ?_
    try simp only [List.getElem_toArray, List.getElem_cons_succ, List.getElem_cons_zero, Act.put, List.setIfInBounds_toArray, List.set_cons_zero, List.set_cons_succ]
    refine' tk 7 ?_
    try simp only [List.getElem_toArray, List.getElem_cons_succ, List.getElem_cons_zero, Act.put, List.setIfInBounds_toArray, List.set_cons_zero, List.set_cons_succ]
    refine' tk (v := .bool true) 8 ?_
    try simp only [List.getElem_toArray, List.getElem_cons_succ, List.getElem_cons_zero, Act.put, List.setIfInBounds_toArray, List.set_cons_zero, List.set_cons_succ]
    refine' tk 9 ?_
    try simp only [List.getElem_toArray, List.getElem_cons_succ, List.getElem_cons_zero, Act.put, List.setIfInBounds_toArray, List.set_cons_zero, List.set_cons_succ]
    refine' tk 10 ?_
    try simp only [List.getElem_toArray, List.getElem_cons_succ, List.getElem_cons_zero, Act.put, List.setIfInBounds_toArray, List.set_cons_zero, List.set_cons_succ]
    refine' tk 11 ?_
    try simp only [List.getElem_toArray, List.getElem_cons_succ, List.getElem_cons_zero, Act.put, List.setIfInBounds_toArray, List.set_cons_zero, List.set_cons_succ]
    refine' tk 12 ?_
    try simp only [List.getElem_toArray, List.getElem_cons_succ, List.getElem_cons_zero, Act.put, List.setIfInBounds_toArray, List.set_cons_zero, List.set_cons_succ]
    refine' tk (v := .bool true) 13 ?_
    try simp only [List.getElem_toArray, List.getElem_cons_succ, List.getElem_cons_zero, Act.put, List.setIfInBounds_toArray, List.set_cons_zero, List.set_cons_succ]
    refine' tk 14 ?_
    try simp only [List.getElem_toArray, List.getElem_cons_succ, List.getElem_cons_zero, Act.put, List.setIfInBounds_toArray, List.set_cons_zero, List.set_cons_succ]
    refine' tk 15 ?_
    try simp only [List.getElem_toArray, List.getElem_cons_succ, List.getElem_cons_zero, Act.put, List.setIfInBounds_toArray, List.set_cons_zero, List.set_cons_succ]
    refine' tk 16 ?_
    try simp only [List.getElem_toArray, List.getElem_cons_succ, List.getElem_cons_zero, Act.put, List.setIfInBounds_toArray, List.set_cons_zero, List.set_cons_succ]
    refine' tk 17 ?_
    try simp only [List.getElem_toArray, List.getElem_cons_succ, List.getElem_cons_zero, Act.put, List.setIfInBounds_toArray, List.set_cons_zero, List.set_cons_succ]
    refine' tk (v := .bool true) 18 ?_
    try simp only [List.getElem_toArray, List.getElem_cons_succ, List.getElem_cons_zero, Act.put, List.setIfInBounds_toArray, List.set_cons_zero, List.set_cons_succ]
    refine' tk 19 ?_
    try simp only [List.getElem_toArray, List.getElem_cons_succ, List.getElem_cons_zero, Act.put, List.setIfInBounds_toArray, List.set_cons_zero, List.set_cons_succ]
    refine' tk 20 ?_
    try simp only [List.getElem_toArray, List.getElem_cons_succ, List.getElem_cons_zero, Act.put, List.setIfInBounds_toArray, List.set_cons_zero, List.set_cons_succ]
    refine' tk 21 ?_
    try simp only [List.getElem_toArray, List.getElem_cons_succ, List.getElem_cons_zero, Act.put, List.setIfInBounds_toArray, List.set_cons_zero, List.set_cons_succ]
    refine' tk 22 ?_
    try simp only [List.getElem_toArray, List.getElem_cons_succ, List.getElem_cons_zero, Act.put, List.setIfInBounds_toArray, List.set_cons_zero, List.set_cons_succ]
    refine' tk 23 ?_
    try simp only [List.getElem_toArray, List.getElem_cons_succ, List.getElem_cons_zero, Act.put, List.setIfInBounds_toArray, List.set_cons_zero, List.set_cons_succ]
    refine' tr 24 (fun K hK => ?_)
    try simp only [List.getElem_toArray, List.getElem_cons_succ, List.getElem_cons_zero]
    go_simp
    refine (rlength_any n hn1 _).mono ?_
    rintro e v8 ⟨⟨vr, rfl, hor⟩, hb⟩
    rw [HLL.out] at hor
    obtain ⟨ra, rn, rc, rfl⟩ := own8_sl hor
    have hcr := conv8 hor.bts
    rw [HSL.out] at hcr
    have g8 : Below v7.heap.size v7 v8 := gd.trans hb
    clear hb hor
    refine hK.out _ _ ⟨(g8.cell (p := ⟨w.heap.size, 0, none⟩) HLW.out).trans p0, (g8.cell (p := ⟨w.heap.size, 1, none⟩) HLW.out).trans p1, (g8.cell (p := ⟨w.heap.size, 2, none⟩) HLW.out).trans p2, (g8.cell (p := ⟨w.heap.size, 3, none⟩) HLW.out).trans p3, (g8.cell (p := ⟨w.heap.size, 4, none⟩) HLW.out).trans p4, (g8.cell (p := ⟨v1.heap.size, 0, none⟩) HLX.out).trans q0, (g8.cell (p := ⟨v1.heap.size, 1, none⟩) HLX.out).trans q1, (g8.cell (p := ⟨v1.heap.size, 2, none⟩) HLX.out).trans q2, (g8.cell (p := ⟨v1.heap.size, 3, none⟩) HLX.out).trans q3, (g8.cell (p := ⟨v1.heap.size, 4, none⟩) HLX.out).trans q4, HCV.out.1 _ g8, HCV.out.2.1 _ g8, HCV.out.2.2 _ g8⟩ (fun hHeld => ?_)
    clear hK K
    try simp only [List.getElem_toArray, List.getElem_cons_succ, List.getElem_cons_zero, Act.put, List.setIfInBounds_toArray, List.set_cons_zero, List.set_cons_succ]
    refine' tr 25 (fun K hK => ?_)
    try simp only [List.getElem_toArray, List.getElem_cons_succ, List.getElem_cons_zero]
    go_simp
    refine hK.out _ _ ⟨(g8.cell (p := ⟨w.heap.size, 0, none⟩) HLW.out).trans p0, (g8.cell (p := ⟨w.heap.size, 1, none⟩) HLW.out).trans p1, (g8.cell (p := ⟨w.heap.size, 2, none⟩) HLW.out).trans p2, (g8.cell (p := ⟨w.heap.size, 3, none⟩) HLW.out).trans p3, (g8.cell (p := ⟨w.heap.size, 4, none⟩) HLW.out).trans p4, (g8.cell (p := ⟨v1.heap.size, 0, none⟩) HLX.out).trans q0, (g8.cell (p := ⟨v1.heap.size, 1, none⟩) HLX.out).trans q1, (g8.cell (p := ⟨v1.heap.size, 2, none⟩) HLX.out).trans q2, (g8.cell (p := ⟨v1.heap.size, 3, none⟩) HLX.out).trans q3, (g8.cell (p := ⟨v1.heap.size, 4, none⟩) HLX.out).trans q4, HCV.out.1 _ g8, HCV.out.2.1 _ g8, HCV.out.2.2 _ g8⟩ (fun hHeld => ?_)
    clear hK K
    try simp only [List.getElem_toArray, List.getElem_cons_succ, List.getElem_cons_zero, Act.put, List.setIfInBounds_toArray, List.set_cons_zero, List.set_cons_succ]
    refine' tk (v := .bool true) 26 ?_
    try simp only [List.getElem_toArray, List.getElem_cons_succ, List.getElem_cons_zero, Act.put, List.setIfInBounds_toArray, List.set_cons_zero, List.set_cons_succ]
    refine' tk 27 ?_
    try simp only [List.getElem_toArray, List.getElem_cons_succ, List.getElem_cons_zero, Act.put, List.setIfInBounds_toArray, List.set_cons_zero, List.set_cons_succ]
    refine' tk 28 ?_
    try simp only [List.getElem_toArray, List.getElem_cons_succ, List.getElem_cons_zero, Act.put, List.setIfInBounds_toArray, List.set_cons_zero, List.set_cons_succ]
    refine' tk 29 ?_
    try simp only [List.getElem_toArray, List.getElem_cons_succ, List.getElem_cons_zero, Act.put, List.setIfInBounds_toArray, List.set_cons_zero, List.set_cons_succ]
    refine' tk 30 ?_
    try simp only [List.getElem_toArray, List.getElem_cons_succ, List.getElem_cons_zero, Act.put, List.setIfInBounds_toArray, List.set_cons_zero, List.set_cons_succ]
    refine' tr 31 (fun K hK => ?_)
    try simp only [List.getElem_toArray, List.getElem_cons_succ, List.getElem_cons_zero]
    go_simp
    refine (HSA.out _ (F7.out.trans (g8.mono F7.out.size))).mono ?_
    rintro e v9 ⟨rfl, hb⟩
    have g9 : Below v7.heap.size v7 v9 := g8.trans (hb.mono g8.size)
    clear hb hcr
    refine hK.out _ _ ⟨(g9.cell (p := ⟨w.heap.size, 0, none⟩) HLW.out).trans p0, (g9.cell (p := ⟨w.heap.size, 1, none⟩) HLW.out).trans p1, (g9.cell (p := ⟨w.heap.size, 2, none⟩) HLW.out).trans p2, (g9.cell (p := ⟨w.heap.size, 3, none⟩) HLW.out).trans p3, (g9.cell (p := ⟨w.heap.size, 4, none⟩) HLW.out).trans p4, (g9.cell (p := ⟨v1.heap.size, 0, none⟩) HLX.out).trans q0, (g9.cell (p := ⟨v1.heap.size, 1, none⟩) HLX.out).trans q1, (g9.cell (p := ⟨v1.heap.size, 2, none⟩) HLX.out).trans q2, (g9.cell (p := ⟨v1.heap.size, 3, none⟩) HLX.out).trans q3, (g9.cell (p := ⟨v1.heap.size, 4, none⟩) HLX.out).trans q4, HCV.out.1 _ g9, HCV.out.2.1 _ g9, HCV.out.2.2 _ g9⟩ (fun hHeld => ?_)
    clear hK K
    try simp only [List.getElem_toArray, List.getElem_cons_succ, List.getElem_cons_zero, Act.put, List.setIfInBounds_toArray, List.set_cons_zero, List.set_cons_succ]
    refine' tk 32 ?_
    try simp only [List.getElem_toArray, List.getElem_cons_succ, List.getElem_cons_zero, Act.put, List.setIfInBounds_toArray, List.set_cons_zero, List.set_cons_succ]
    refine' tk 33 ?_
    try simp only [List.getElem_toArray, List.getElem_cons_succ, List.getElem_cons_zero, Act.put, List.setIfInBounds_toArray, List.set_cons_zero, List.set_cons_succ]
    refine wpAnyH_done (by kernel_rfl) ?_ _
    have HF9 := Lib.hid (HB1.out.trans ((G2.out.trans ((F7.out.trans (g9.mono F7.out.size)).mono G2.out.size)).mono HB1.out.size))
    clear hHeld p0 p1 p2 p3 p4 q0 q1 q2 q3 q4
    go_wp2_with fail
    go_ret
    exact ⟨rfl, HF9.out⟩
    
end Go.Proofs.YtkmphiakciihfaaDoor
