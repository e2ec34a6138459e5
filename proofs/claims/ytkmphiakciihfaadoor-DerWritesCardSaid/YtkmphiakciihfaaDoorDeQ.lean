/-
  Texts of ours, one behind the other: DeA DeB DeC DeD DeG
-/
import Derived.Test.YtkmphiakciihfaaDoorOctF
import Derived.Laws.OwnMore
import Derived.Test.YtkmphiakciihfaaDoorTrM
import Derived.Test.YtkmphiakciihfaaDoorTpB
import Derived.Test.YtkmphiakciihfaaDoorTpA
import Derived.Test.YtkmphiakciihfaaDoorByt

namespace Go.Proofs.YtkmphiakciihfaaDoor
open Go.RowKit

/-- A length's bytes. -/
def lenU (n : Nat) : List UInt8 := if n < 128 then [UInt8.ofNat n] else UInt8.ofNat (128 + (bareL (bigL n 8)).length) :: bareL (bigL n 8)

theorem ownU_one (w : World) (x : Int) (n : Nat) (h : x = (n : Int)) (hn : n < 256) : Own8 5 w.heap.size (w.alloc (.cells #[.int .u8 x] 5)) (.slice (some ⟨w.heap.size, 0, none⟩) 1 1) [UInt8.ofNat n] := by
  subst h
  have e : (UInt8.ofNat n).toNat = n := by rw [UInt8.toNat_ofNat']; omega
  have h := World.ownsRow_lit (base := w.heap.size) (size := 1) (e := 5) w #[.int .u8 (n : Int)] 1 (Nat.le_refl _) (by unfold maxLen; omega) rfl
  have e2 : [UInt8.ofNat n].map byt = [Value.int .u8 (n : Int)] := by simp [byt, e]
  unfold Own8
  rw [e2]
  exact h

set_option maxHeartbeats 2000000 in
set_option maxRecDepth 100000 in
theorem length_any (n : Int) (hn : n ≤ 9223372036854775807) (w : World) :
    Calls Tryd.prog 15 #[.int .i64 n] w fun e w' => RetsOwn w.heap.size w' (if n < 0 then [] else lenU n.toNat) e ∧ Below w.heap.size w w' := by
  by_cases h0 : n < 0
  · go_enter Tryd.func15, Tryd.ntmps15
    go_wp2_with fail
    go_ret
    exact ⟨⟨_, rfl, World.ownsRow_nil _ _ _ _⟩, Below.refl _ _⟩
  · obtain ⟨m, rfl⟩ : ∃ m : Nat, n = (m : Int) := ⟨n.toNat, by omega⟩
    rw [if_neg h0, Int.toNat_natCast]
    clear h0
    by_cases h1 : m < 128
    · have z1 : (m : Int) < 128 := by omega
      have hw8 : IntKind.u8.wrap (m : Int) = (m : Int) := by rw [IntKind.wrap_u8]; omega
      have HO := Lib.hid (ownU_one w (m : Int) m rfl (by omega))
      have HL := Lib.hid (show lenU m = [UInt8.ofNat m] by unfold lenU; rw [if_pos h1])
      clear h1
      go_enter Tryd.func15, Tryd.ntmps15
      go_wp2_with fail
      go_ret
      refine ⟨?_, (Below.refl _ _).alloc (Nat.le_refl _) _⟩
      rw [HL.out]
      exact ⟨_, rfl, HO.out⟩
    · have z1 : ¬ ((m : Int) < 128) := by omega
      have hb8 : m < 256 ^ 8 := by have : (256 : Nat) ^ 8 = 18446744073709551616 := by decide
                                   omega
      have HBG := Lib.hid (big_any m 8 w (Lib.hid hb8))
      rw [show bigR m 8 = (bigL m 8, 0) by unfold bigR; rw [if_pos (by decide), if_pos (show m < 256 ^ (8 : Int).toNat from hb8)]; rfl] at HBG
      have HL := Lib.hid (show lenU m = UInt8.ofNat (128 + (bareL (bigL m 8)).length) :: bareL (bigL m 8) by unfold lenU; rw [if_neg h1])
      have hbl : (bigL m 8).length = 8 := bigL_length m 8
      have hbr := bareL_le (bigL m 8)
      rw [hbl] at hbr
      have hw64 : IntKind.u64.wrap (m : Int) = (m : Int) := by rw [IntKind.wrap_u64]; omega
      clear h1 hb8
      generalize bigL m 8 = L at *
      go_enter Tryd.func15, Tryd.ntmps15
      go_wp2_with fail
      refine HBG.out.mono ?_
      rintro e w2 ⟨⟨v2, rfl, ho2⟩, hb2⟩
      obtain ⟨a2, c2, rfl, hbt2, -⟩ := ho2.form
      have HB2 := Lib.hid hb2
      rw [hbl] at hbt2 ⊢
      have HT := Lib.hid (trim_any a2 8 c2 L w2 hbt2 (by omega))
      clear hb2 ho2 hbt2 HBG
      go_wp2_with fail
      refine HT.out.mono ?_
      rintro e w3 ⟨⟨v3, rfl, ho3⟩, hb3⟩
      obtain ⟨a3, c3, rfl, hbt3, -⟩ := ho3.form
      have HB3 := Lib.hid (HB2.out.trans (hb3.mono HB2.out.size))
      have HR3 := Lib.hid hbt3
      clear hb3 ho3 hbt3 HT
      generalize bareL L = R at *
      obtain ⟨r, hr⟩ : ∃ r, R.length = r := ⟨_, rfl⟩
      rw [hr] at hbr HR3 HL ⊢
      have hws : IntKind.u8.wrap (128 + (r : Int)) = 128 + (r : Int) := by rw [IntKind.wrap_u8]; omega
      obtain ⟨x, hx⟩ : ∃ x, UInt8.ofNat (128 + r) = x := ⟨_, rfl⟩
      have hxt : 128 + (r : Int) = (x.toNat : Int) := by rw [← hx, UInt8.toNat_ofNat']; omega
      rw [hx] at HL
      have hb1 := Bts.one w3 5 (128 + (r : Int)) x hxt
      obtain ⟨w4, hw4⟩ : ∃ y, w3.alloc (.cells #[.int .u8 (128 + (r : Int))] 5) = y := ⟨_, rfl⟩
      rw [hw4] at hb1
      have hb4 : Below w3.heap.size w3 w4 := by rw [← hw4]; exact (Below.refl _ _).alloc (Nat.le_refl _) _
      obtain ⟨w5, hw5⟩ : ∃ y, w4.alloc (.cells #[.slice (some ⟨w3.heap.size, 0, none⟩) 1 1, .slice a3 r c3] 22) = y := ⟨_, rfl⟩
      have hb5 : Below w4.heap.size w4 w5 := by rw [← hw5]; exact (Below.refl _ _).alloc (Nat.le_refl _) _
      have HJ := Lib.hid (join_any (some ⟨w4.heap.size, 0, none⟩) 2 2 [(some ⟨w3.heap.size, 0, none⟩, 1, 1, [x]), (a3, r, c3, R)] w5 (by rw [← hw5]; exact rows2_lit2 w4 _ _ _ 1 1 r c3 [x] R hb1 (HR3.out.below hb4)) (by simp only [joined, List.flatMap_cons, List.flatMap_nil, List.append_nil, List.length_append, List.length_singleton]; omega))
      rw [show joined [(some (⟨w3.heap.size, 0, none⟩ : Addr), 1, 1, [x]), (a3, r, c3, R)] = x :: R by simp [joined]] at HJ
      have HB5 := Lib.hid (HB3.out.trans ((hb4.trans (hb5.mono hb4.size)).mono HB3.out.size))
      clear hb1 hb4 hb5 hx hxt
      go_wp2_with fail
      clear hw4 hw5
      refine HJ.out.mono ?_
      rintro e w6 ⟨hret, hb6⟩
      obtain ⟨v6, rfl, ho6⟩ := hret
      have HO6 := Lib.hid ho6
      have HB6 := Lib.hid (HB5.out.trans (hb6.mono HB5.out.size))
      clear ho6 hb6 HJ
      go_wp2_with fail
      go_ret
      rw [HL.out]
      exact ⟨⟨_, rfl, HO6.out.mono HB5.out.size⟩, HB6.out⟩

set_option maxHeartbeats 2000000 in
set_option maxRecDepth 100000 in
theorem rlength_any (n : Int) (hn : n ≤ 9223372036854775807) (w : World) :
    Calls Tryd.prog 16 #[.int .i64 n] w fun e w' => RetsOwn w.heap.size w' (if n < 0 then [] else lenU n.toNat) e ∧ Below w.heap.size w w' := by
  by_cases h0 : n < 0
  · go_enter Tryd.func16, Tryd.ntmps16
    go_wp2_with fail
    go_ret
    exact ⟨⟨_, rfl, World.ownsRow_nil _ _ _ _⟩, Below.refl _ _⟩
  · obtain ⟨m, rfl⟩ : ∃ m : Nat, n = (m : Int) := ⟨n.toNat, by omega⟩
    rw [if_neg h0, Int.toNat_natCast]
    clear h0
    by_cases h1 : m < 128
    · have z1 : (m : Int) < 128 := by omega
      have hw8 : IntKind.u8.wrap (m : Int) = (m : Int) := by rw [IntKind.wrap_u8]; omega
      have HO := Lib.hid (ownU_one w (m : Int) m rfl (by omega))
      have HL := Lib.hid (show lenU m = [UInt8.ofNat m] by unfold lenU; rw [if_pos h1])
      clear h1
      go_enter Tryd.func16, Tryd.ntmps16
      go_wp2_with fail
      go_ret
      refine ⟨?_, (Below.refl _ _).alloc (Nat.le_refl _) _⟩
      rw [HL.out]
      exact ⟨_, rfl, HO.out⟩
    · have z1 : ¬ ((m : Int) < 128) := by omega
      have hb8 : m < 256 ^ 8 := by have : (256 : Nat) ^ 8 = 18446744073709551616 := by decide
                                   omega
      have HBG := Lib.hid (refbig_any m 8 w (Lib.hid hb8))
      rw [show bigR m 8 = (bigL m 8, 0) by unfold bigR; rw [if_pos (by decide), if_pos (show m < 256 ^ (8 : Int).toNat from hb8)]; rfl] at HBG
      have HL := Lib.hid (show lenU m = UInt8.ofNat (128 + (bareL (bigL m 8)).length) :: bareL (bigL m 8) by unfold lenU; rw [if_neg h1])
      have hbl : (bigL m 8).length = 8 := bigL_length m 8
      have hbr := bareL_le (bigL m 8)
      rw [hbl] at hbr
      have hw64 : IntKind.u64.wrap (m : Int) = (m : Int) := by rw [IntKind.wrap_u64]; omega
      clear h1 hb8
      generalize bigL m 8 = L at *
      go_enter Tryd.func16, Tryd.ntmps16
      go_wp2_with fail
      refine HBG.out.mono ?_
      rintro e w2 ⟨⟨v2, rfl, ho2⟩, hb2⟩
      obtain ⟨a2, c2, rfl, hbt2, -⟩ := ho2.form
      have HB2 := Lib.hid hb2
      rw [hbl] at hbt2 ⊢
      have HT := Lib.hid (reftrim_any a2 8 c2 L w2 hbt2 (by omega))
      clear hb2 ho2 hbt2 HBG
      go_wp2_with fail
      refine HT.out.mono ?_
      rintro e w3 ⟨⟨v3, rfl, ho3⟩, hb3⟩
      obtain ⟨a3, c3, rfl, hbt3, -⟩ := ho3.form
      have HB3 := Lib.hid (HB2.out.trans (hb3.mono HB2.out.size))
      have HR3 := Lib.hid hbt3
      clear hb3 ho3 hbt3 HT
      generalize bareL L = R at *
      obtain ⟨r, hr⟩ : ∃ r, R.length = r := ⟨_, rfl⟩
      rw [hr] at hbr HR3 HL ⊢
      have hws : IntKind.u8.wrap (128 + (r : Int)) = 128 + (r : Int) := by rw [IntKind.wrap_u8]; omega
      obtain ⟨x, hx⟩ : ∃ x, UInt8.ofNat (128 + r) = x := ⟨_, rfl⟩
      have hxt : 128 + (r : Int) = (x.toNat : Int) := by rw [← hx, UInt8.toNat_ofNat']; omega
      rw [hx] at HL
      have HO := Lib.hid (show Own8 5 w.heap.size (w3.alloc (.cells #[.int .u8 (128 + (r : Int))] 5)) (.slice (some ⟨w3.heap.size, 0, none⟩) 1 1) [x] from by rw [← hx]; exact (ownU_one w3 (128 + (r : Int)) (128 + r) (by omega) (by omega)).mono HB3.out.size)
      obtain ⟨w4, hw4⟩ : ∃ y, w3.alloc (.cells #[.int .u8 (128 + (r : Int))] 5) = y := ⟨_, rfl⟩
      rw [hw4] at HO
      have hb4 : Below w3.heap.size w3 w4 := by rw [← hw4]; exact (Below.refl _ _).alloc (Nat.le_refl _) _
      have HB4 := Lib.hid (HB3.out.trans (hb4.mono HB3.out.size))
      have HR4 := Lib.hid (HR3.out.below hb4)
      obtain ⟨i0, hi, hz0, hz1, hz2⟩ := info_parts Tryd.info8
      clear hb4 hx hxt
      go_wp2_with (at_builtin; refine wpList_append_bts _ rfl _ _ 22 rfl w.heap.size 5 i0 Tryd.underlying22 hi hz0 hz1 hz2 _ [x] rfl HO.out a3 r c3 R rfl HR4.out (by simp; omega) HB4.out.size ?_; intro v6 w6 ho6 hg6)
      have HO6 := Lib.hid ho6
      have HB6 := Lib.hid (hg6 _ HB4.out)
      clear ho6 hg6 hw4
      go_ret
      rw [HL.out]
      exact ⟨⟨_, rfl, HO6.out⟩, HB6.out⟩

end Go.Proofs.YtkmphiakciihfaaDoor

namespace Go.Proofs.YtkmphiakciihfaaDoor
open Go.RowKit

mutual
/-- How many bytes a tree has. -/
def Tr.dsiz : Tr → Nat | .mk _ _ _ l ks => 1 + (lenU (l.length + dsizL ks)).length + (l.length + dsizL ks)
def dsizL : List Tr → Nat
  | [] => 0
  | t :: ts => t.dsiz + dsizL ts
end

theorem lenU_le (n : Nat) : (lenU n).length ≤ 9 := by
  unfold lenU
  split
  · simp
  · have h1 := bareL_le (bigL n 8)
    have h2 : (bigL n 8).length = 8 := bigL_length n 8
    rw [List.length_cons]
    omega

mutual
theorem Tr.dsiz_le : ∀ T : Tr, T.dsiz ≤ 11 * T.wt
  | .mk c t k l ks => by
    have h1 := lenU_le (l.length + dsizL ks)
    have h2 := dsizL_le ks
    simp only [Tr.dsiz, Tr.wt]
    omega
theorem dsizL_le : ∀ ks : List Tr, dsizL ks ≤ 11 * wtL ks
  | [] => by simp [dsizL]
  | t :: ts => by
    have h1 := t.dsiz_le
    have h2 := dsizL_le ts
    simp only [dsizL, wtL]
    omega
end

def DszOk (T : Tr) : Prop := ∀ (V : NV) (w : World) (b off : Nat), NodeAt w V T → CellsAt w b off V → T.wt ≤ 1000000 → Calls Tryd.prog 35 #[.pointer (some ⟨b, off, none⟩)] w fun e w' => e = .returned (.int .i64 (T.dsiz : Nat)) ∧ Below w.heap.size w w'

structure DszI (w : World) (ks : List Tr) (tot k x : Nat) (wr : World) : Prop where
  sum : x + dsizL (ks.drop k) = tot
  below : Below w.heap.size w wr

theorem ret_i64d {a b : Int} (h : a = b) : Ending.returned (.int .i64 a) = .returned (.int .i64 b) := by rw [h]

set_option maxHeartbeats 4000000 in
set_option maxRecDepth 100000 in
theorem dsz_of (c t : Int) (kk : Bool) (l : List Nat) (ks : List Tr) (hI : ∀ T ∈ ks, DszOk T) : DszOk (.mk c t kk l ks) := by
  intro V w b off hn hca hwt
  have hkd := hn.kids
  have hby := hn.bytes
  obtain ⟨vc, vt, vk, ba, bl, bc, ka, kl, kc⟩ := V
  dsimp only at hkd hby
  simp only [Tr.kids, Tr.b] at hkd hby
  simp only [Tr.wt] at hwt
  have htot := dsizL_le ks
  obtain ⟨tot, htt⟩ : ∃ x, l.length + dsizL ks = x := ⟨_, rfl⟩
  have HD := Lib.hid (show (Tr.mk c t kk l ks).dsiz = 1 + (lenU tot).length + tot by simp only [Tr.dsiz]; rw [htt])
  rw [HD.out]
  have hkl := Lib.hid hkd.length
  have hkle := hkd.le
  have hkm := hkd.max
  have hbl := hby.length
  have hbm := hby.len_le
  unfold maxLen at hkm hbm
  have hlu := lenU_le tot
  have h1 : tot ≤ 11000000 := by omega
  have h0 : bl + dsizL (ks.drop 0) = tot := by rw [List.drop_zero]; omega
  have H0 := Lib.hid h0
  have CA := Lib.hid hca
  have HKD := Lib.hid hkd
  have HI := Lib.hid hI
  have HWT := Lib.hid hwt
  have p3 := hca.c3
  have p4 := hca.c4
  dsimp only at p3 p4
  have hblt : bl ≤ 11000000 := by omega
  clear hn hkd hby hI hca htot hwt h0 htt hbl
  go_enter Tryd.func35, Tryd.ntmps35
  go_wp2_with fail
  go_loopw [15, 3] (fun i m wr => ∃ (k x : Nat), k ≤ kl ∧ i = .int .i64 (k : Int) ∧ m = .int .i64 (x : Int) ∧ DszI w ks tot k x wr) (fun i _ _ => kl - (intOf i).toNat)
  case atStart => exact ⟨0, bl, Nat.zero_le _, rfl, rfl, H0.out, Below.refl _ _⟩
  case round =>
    obtain ⟨k, x, hk, rfl, rfl, hr⟩ := hrel
    have hsum := hr.sum
    have HBW := Lib.hid hr.below
    have p4 := (CA.out.below HBW.out CA.out.lt).c4
    dsimp only at p4
    clear hr p3
    by_cases hlt : k < kl
    · have hk1 : k < ks.length := by rw [hkl.out]; exact hlt
      rw [List.drop_eq_getElem_cons hk1, dsizL] at hsum
      obtain ⟨U, hc, hnu⟩ := HKD.out.cells
      obtain ⟨b1, o1, rfl, hb1, hcell⟩ := hc (by omega)
      have hcu := (hcell k hlt).below HBW.out hb1
      have hnk := (hnu k hk1).under HBW.out
      have hwk := wtL_mem (List.getElem_mem hk1)
      have HOK := Lib.hid (HI.out ks[k] (List.getElem_mem hk1) (U k) wr b1 (o1 + k * 5) hnk hcu (by have := HWT.out; omega))
      have hdk := (ks[k]).dsiz_le
      have hxs : x + (ks[k]).dsiz ≤ 11000000 := by omega
      clear hc hnu hcell hnk hcu hb1 hwk hdk
      generalize (ks[k]).dsiz = d at *
      have HS := Lib.hid hsum
      clear hsum
      go_wp2_with fail
      refine HOK.out.mono ?_
      rintro e w4 ⟨rfl, hb4⟩
      have HB4 := Lib.hid (HBW.out.trans (hb4.mono HBW.out.size))
      clear hb4 HOK p4
      go_wp2_with fail
      go_roundw
      case rel => exact ⟨k + 1, x + d, by omega, by go_num, by go_num, by have := HS.out; omega, HB4.out⟩
      case measure => simp [intOf]; omega
    · obtain rfl : k = kl := by omega
      rw [List.drop_of_length_le (by rw [hkl.out]; exact Nat.le_refl _), dsizL] at hsum
      obtain rfl : x = tot := by omega
      have HLN := Lib.hid (length_any (x : Int) (by omega) wr)
      rw [if_neg (by omega), Int.toNat_natCast] at HLN
      clear hlt hsum
      go_wp2_with fail
      refine HLN.out.mono ?_
      rintro e w4 ⟨⟨v, rfl, ho⟩, hb4⟩
      obtain ⟨a4, c4, rfl, -, -⟩ := ho.form
      have HB4 := Lib.hid (HBW.out.trans (hb4.mono HBW.out.size))
      clear ho hb4 HLN
      obtain ⟨q, hq⟩ : ∃ q, (lenU x).length = q := ⟨_, rfl⟩
      rw [hq]
      rw [hq] at hlu
      have HQ := Lib.hid hq
      clear hq
      go_wp2_with fail
      go_ret
      exact ⟨ret_i64d (by have := HQ.out; omega), HB4.out⟩

theorem dsz_ok : ∀ (n : Nat) (T : Tr), T.wt ≤ n → DszOk T
  | 0, T, h => by have := T.wt_pos; omega
  | n + 1, .mk c t k l ks, h => by
    simp only [Tr.wt] at h
    exact dsz_of c t k l ks fun T hT => dsz_ok n T (by have := wtL_mem hT; omega)
theorem dsize_any (T : Tr) (V : NV) (w : World) (b off : Nat) (hn : NodeAt w V T) (hc : CellsAt w b off V) (h : T.wt ≤ 1000000) : Calls Tryd.prog 35 #[.pointer (some ⟨b, off, none⟩)] w fun e w' => e = .returned (.int .i64 (T.dsiz : Nat)) ∧ Below w.heap.size w w' :=
  dsz_ok T.wt T (Nat.le_refl _) V w b off hn hc h

end Go.Proofs.YtkmphiakciihfaaDoor

namespace Go.Proofs.YtkmphiakciihfaaDoor
open Go.RowKit

/-- What Size answers. -/
def dSizR (T : Tr) : Int × Int := if (wrongR qV T).1 = 0 then (if 65536 < T.dsiz then (0, 120) else ((T.dsiz : Int), 0)) else (0, 110)

set_option maxHeartbeats 2000000 in
theorem dSize_any (V : NV) (T : Tr) (w : World) (hn : NodeAt w V T) (hw : T.wt ≤ 1000000) (hN : T.cnt ≤ 1000000) (hd : T.dep ≤ 1000000) (hl : Tabs w) :
    Calls Tryd.prog 13 #[V.agg] w fun e w' => e = .returned (.tuple #[.int .i64 (dSizR T).1, .int .i64 (dSizR T).2]) ∧ Below w.heap.size w w' := by
  obtain ⟨c, t, kk, ba, bl, bc, ka, kl, kc⟩ := V
  obtain ⟨w1, hw1⟩ : ∃ w1, w.alloc (.cells #[.int .i64 c, .int .i64 t, .bool kk, .slice ba bl bc, .slice ka kl kc] 25) = w1 := ⟨_, rfl⟩
  have hb1 : Below w.heap.size w w1 := by rw [← hw1]; exact (Below.refl _ _).alloc (Nat.le_refl _) _
  have hcx : CellsAt w1 w.heap.size 0 ⟨c, t, kk, ba, bl, bc, ka, kl, kc⟩ := by rw [← hw1]; exact cells5 w c t kk ba bl bc ka kl kc _
  have HCK := Lib.hid (check_any Tabs (fun _ _ h hb => tabs_below h hb) qV ⟨c, t, kk, ba, bl, bc, ka, kl, kc⟩ T w1 (hn.under hb1) hN hd (tabs_below hl hb1) (fun p _ => wantedV p.2.tag))
  have HSZ := Lib.hid (fun (W : World) (hB : Below w1.heap.size w1 W) => dsize_any T ⟨c, t, kk, ba, bl, bc, ka, kl, kc⟩ W w.heap.size 0 ((hn.under hb1).under hB) (hcx.below hB hcx.lt) hw)
  have hle := T.dsiz_le
  have HB1 := Lib.hid hb1
  have HR := Lib.hid (show dSizR T = if (wrongR qV T).1 = 0 then (if 65536 < T.dsiz then (0, 120) else ((T.dsiz : Int), 0)) else (0, 110) from rfl)
  obtain ⟨p0, p1, p2, p3, p4⟩ := hcx
  dsimp only at p0 p1 p2 p3 p4
  simp only [Nat.zero_add] at p0 p1 p2 p3 p4
  generalize dSizR T = R at *
  generalize (wrongR qV T).1 = r at *
  have hd2 : T.dsiz ≤ 11000000 := by omega
  generalize T.dsiz = d at *
  clear hn hb1 hl hle
  unfold NV.agg at HCK ⊢
  dsimp only at HCK ⊢
  by_cases hr : r = 0
  · rw [if_pos hr] at HCK HR
    by_cases h6 : 65536 < d
    · rw [if_pos h6] at HR
      have z : (65536 : Int) < (d : Int) := by omega
      clear hr h6
      go_enter Tryd.func13, Tryd.ntmps13
      go_wp2_with fail
      clear hw1
      refine HCK.out.mono ?_
      rintro e w2 ⟨rfl, hb2⟩
      have HB2 := Lib.hid hb2
      clear hb2 p0 p1 p2 p3 p4
      go_wp2_with fail
      refine (HSZ.out w2 HB2.out).mono ?_
      rintro e w3 ⟨rfl, hb3⟩
      have HB3 := Lib.hid (HB1.out.trans ((HB2.out.trans (hb3.mono HB2.out.size)).mono HB1.out.size))
      clear hb3
      go_wp2_with fail
      go_ret2
      exact ⟨by rw [HR.out]; rfl, HB3.out⟩
    · rw [if_neg h6] at HR
      have z : ¬ ((65536 : Int) < (d : Int)) := by omega
      clear hr h6
      go_enter Tryd.func13, Tryd.ntmps13
      go_wp2_with fail
      clear hw1
      refine HCK.out.mono ?_
      rintro e w2 ⟨rfl, hb2⟩
      have HB2 := Lib.hid hb2
      clear hb2 p0 p1 p2 p3 p4
      go_wp2_with fail
      refine (HSZ.out w2 HB2.out).mono ?_
      rintro e w3 ⟨rfl, hb3⟩
      have HB3 := Lib.hid (HB1.out.trans ((HB2.out.trans (hb3.mono HB2.out.size)).mono HB1.out.size))
      clear hb3
      go_wp2_with fail
      go_ret2
      exact ⟨by rw [HR.out]; rfl, HB3.out⟩
  · rw [if_neg hr] at HCK HR
    clear hr
    go_enter Tryd.func13, Tryd.ntmps13
    go_wp2_with fail
    clear hw1
    refine HCK.out.mono ?_
    rintro e w2 ⟨rfl, hb2⟩
    have HB2 := Lib.hid (HB1.out.trans (hb2.mono HB1.out.size))
    clear hb2 p0 p1 p2 p3 p4
    go_wp2_with fail
    go_ret2
    exact ⟨by rw [HR.out]; rfl, HB2.out⟩

end Go.Proofs.YtkmphiakciihfaaDoor

namespace Go.Proofs.YtkmphiakciihfaaDoor
open Go.RowKit

/-! ### Trees that may be -/

mutual
/-- A tree whose nodes have a first byte of their own. -/
def Tr.fine : Tr → Prop | .mk c t k l ks => (0 ≤ c ∧ c ≤ 3 ∧ 0 ≤ t ∧ t ≤ 30 ∧ (k = true → l = []) ∧ (k = false → ks = []) ∧ (c = 0 → t = 17 → k = true)) ∧ fineL ks
def fineL : List Tr → Prop
  | [] => True
  | t :: ts => t.fine ∧ fineL ts
end
theorem fineL_iff (l : List Tr) : fineL l ↔ ∀ t ∈ l, t.fine := by
  induction l with
  | nil => simp [fineL]
  | cons t ts ih => simp [fineL, ih]

theorem wrong_zero (q : Int → List Nat → Bool) (T : Tr) (h : (wrongR q T).1 = 0) : brokenN q T = 0 ∧ T.dep ≤ 24 ∧ T.cnt ≤ 4000 := by
  rw [wrongR_eq] at h
  by_cases h1 : 24 < T.dep
  · rw [if_pos h1] at h; cases h
  · rw [if_neg h1] at h
    by_cases h2 : 4000 < T.cnt
    · rw [if_pos h2] at h; cases h
    · rw [if_neg h2, T.fb_nodes] at h
      by_cases h3 : brokenN q T = 0
      · exact ⟨h3, by omega, by omega⟩
      · rw [if_neg h3] at h; exact absurd h h3

theorem broken_none (q : Int → List Nat → Bool) (T : Tr) (h : brokenN q T = 0) : 0 ≤ T.cls ∧ T.cls ≤ 3 ∧ 0 ≤ T.tag ∧ T.tag ≤ 30 ∧ (T.cons = true → T.b = []) ∧ (T.cons = false → T.kids = []) ∧ (T.cls = 0 → T.tag = 17 → T.cons = true) := by
  unfold brokenN at h
  by_cases h1 : T.cls < 0 ∨ 3 < T.cls ∨ T.tag < 0 ∨ 30 < T.tag
  · rw [if_pos h1] at h; omega
  · rw [if_neg h1] at h
    by_cases h2 : (T.cons = true ∧ T.b ≠ []) ∨ (T.cons = false ∧ T.kids ≠ [])
    · rw [if_pos h2] at h; omega
    · rw [if_neg h2] at h
      refine ⟨by omega, by omega, by omega, by omega, fun e => ?_, fun e => ?_, fun e1 e2 => ?_⟩
      · exact Classical.byContradiction fun h3 => h2 (.inl ⟨e, h3⟩)
      · exact Classical.byContradiction fun h3 => h2 (.inr ⟨e, h3⟩)
      · rw [if_neg (by omega), if_pos (.inr e2)] at h
        cases hk : T.cons
        · rw [hk] at h; simp at h
        · rfl

mutual
theorem fine_of (q : Int → List Nat → Bool) : ∀ T : Tr, (wrongR q T).1 = 0 → T.fine
  | .mk c t k l ks, h => ⟨broken_none q (.mk c t k l ks) (wrong_zero q _ h).1, fineL_of q ks (parts_fine q _ h).2.1⟩
theorem fineL_of (q : Int → List Nat → Bool) : ∀ ks : List Tr, (∀ t ∈ ks, (wrongR q t).1 = 0) → fineL ks
  | [], _ => trivial
  | t :: ts, h => ⟨fine_of q t (h t (by simp)), fineL_of q ts fun x hx => h x (by simp [hx])⟩
end

mutual
/-- Each byte is one. -/
def Tr.sm : Tr → Prop | .mk _ _ _ l ks => Byt l ∧ smL ks
def smL : List Tr → Prop
  | [] => True
  | t :: ts => t.sm ∧ smL ts
end
theorem smL_iff (l : List Tr) : smL l ↔ ∀ t ∈ l, t.sm := by
  induction l with
  | nil => simp [smL]
  | cons t ts ih => simp [smL, ih]
theorem NodeAt.sm {w : World} {V : NV} {T : Tr} (h : NodeAt w V T) : T.sm := by
  induction h with
  | mk V l ks U hb hx hl hle hm hnil hc hk ih =>
    refine ⟨hx, (smL_iff _).2 fun t ht => ?_⟩
    obtain ⟨i, hi, rfl⟩ := List.getElem_of_mem ht
    exact ih i hi

/-! ### Their bytes -/

/-- A node's first byte. -/
def fstN (c t : Int) (k : Bool) : Nat := 64 * c.toNat + t.toNat + (if k then 32 else 0)
mutual
/-- A tree's bytes. -/
def Tr.der : Tr → List UInt8 | .mk c t k l ks => UInt8.ofNat (fstN c t k) :: (lenU (l.length + dsizL ks) ++ (u8s l ++ derL ks))
def derL : List Tr → List UInt8
  | [] => []
  | t :: ts => t.der ++ derL ts
end
mutual
theorem Tr.der_length : ∀ T : Tr, T.der.length = T.dsiz
  | .mk c t k l ks => by
    have := derL_length ks
    simp only [Tr.der, Tr.dsiz, List.length_cons, List.length_append, u8s, List.length_map, this]
    omega
theorem derL_length : ∀ ks : List Tr, (derL ks).length = dsizL ks
  | [] => rfl
  | t :: ts => by
    simp only [derL, dsizL, List.length_append, t.der_length, derL_length ts]
end
theorem derL_flat (ks : List Tr) : derL ks = (ks.map Tr.der).flatten := by
  induction ks with
  | nil => rfl
  | cons t ts ih => simp [derL, ih]
theorem derL_take (ks : List Tr) (k : Nat) (hk : k < ks.length) : derL (ks.take (k + 1)) = derL (ks.take k) ++ (ks[k]).der := by
  induction ks generalizing k with
  | nil => simp at hk
  | cons t ts ih =>
    cases k with
    | zero => simp [derL]
    | succ k =>
      have := ih k (by simpa using hk)
      simp only [List.take_succ_cons, derL, this, List.getElem_cons_succ, List.append_assoc]
theorem dsizL_take_le (ks : List Tr) (k : Nat) : dsizL (ks.take k) ≤ dsizL ks := by
  induction ks generalizing k with
  | nil => simp
  | cons t ts ih =>
    cases k with
    | zero => simp [dsizL]
    | succ k => have := ih k; simp only [List.take_succ_cons, dsizL]; omega
theorem dsizL_take (ks : List Tr) (k : Nat) (hk : k < ks.length) : dsizL (ks.take (k + 1)) = dsizL (ks.take k) + (ks[k]).dsiz := by
  rw [← derL_length, derL_take ks k hk, List.length_append, derL_length, Tr.der_length]
theorem dsizL_mem {ks : List Tr} {T : Tr} (h : T ∈ ks) : T.dsiz ≤ dsizL ks := by
  induction ks with
  | nil => cases h
  | cons t ts ih =>
    simp only [dsizL]
    rcases List.mem_cons.1 h with rfl | h
    · omega
    · have := ih h; omega

/-! ### Falls -/

/-- Whether a row of texts falls somewhere, the first behind a given one. -/
def downs : List UInt8 → List (List UInt8) → Bool
  | _, [] => false
  | a, x :: xs => decide (0 < Lib.compareBytes a x) || downs x xs
/-- The last of a row, or the one ahead of it. -/
def lastU (a : List UInt8) (L : List (List UInt8)) : List UInt8 := L.getLast?.getD a
theorem lastU_snoc (a : List UInt8) (L : List (List UInt8)) (x : List UInt8) : lastU a (L ++ [x]) = x := by unfold lastU; simp
theorem downs_snoc (a : List UInt8) (L : List (List UInt8)) (x : List UInt8) : downs a (L ++ [x]) = (downs a L || decide (0 < Lib.compareBytes (lastU a L) x)) := by
  induction L generalizing a with
  | nil =>
    simp [downs, lastU]
    rfl
  | cons y ys ih =>
    rw [List.cons_append, downs, downs, ih]
    have : lastU y ys = lastU a (y :: ys) := by
      unfold lastU
      cases ys with
      | nil => simp
      | cons z zs => simp [List.getLast?_cons_cons, List.getLast?_eq_some_getLast]
    rw [this, Bool.or_assoc]

mutual
/-- Does a set of the tree fall? -/
def Tr.falls : Tr → Bool | .mk c t _ _ ks => fallsL ks || (decide (c = 0 ∧ t = 17) && downs [] (ks.map Tr.der))
def fallsL : List Tr → Bool
  | [] => false
  | t :: ts => t.falls || fallsL ts
end
theorem fallsL_take (ks : List Tr) (k : Nat) (hk : k < ks.length) : fallsL (ks.take (k + 1)) = (fallsL (ks.take k) || (ks[k]).falls) := by
  induction ks generalizing k with
  | nil => simp at hk
  | cons t ts ih =>
    cases k with
    | zero => simp [fallsL]
    | succ k =>
      have := ih k (by simpa using hk)
      simp only [List.take_succ_cons, fallsL, this, List.getElem_cons_succ, Bool.or_assoc]
theorem fallsL_any (ks : List Tr) : fallsL ks = ks.any Tr.falls := by
  induction ks with
  | nil => rfl
  | cons t ts ih => simp [fallsL, ih]

/-! ### What is answered -/

/-- What Encode answers. -/
def dEncR (T : Tr) : List UInt8 × Int := if (dSizR T).2 = 0 then (if T.falls then ([], 121) else (T.der, 0)) else ([], (dSizR T).2)
/-- What Cmp answers. -/
def dCmpR (T U : Tr) : Int × Int := if (dEncR T).2 = 0 then (if (dEncR U).2 = 0 then (Lib.compareBytes T.der U.der, 0) else (0, (dEncR U).2)) else (0, (dEncR T).2)

/-! ### A length says its number, and ends by itself -/

theorem lenU_short {n : Nat} (h : n < 128) : lenU n = [UInt8.ofNat n] := by unfold lenU; rw [if_pos h]
theorem lenU_long {n : Nat} (h : 128 ≤ n) (hn : n < 256 ^ 8) : ∃ r : List UInt8, lenU n = UInt8.ofNat (128 + r.length) :: r ∧ wholeL r = n ∧ 1 ≤ r.length ∧ r.length ≤ 8 ∧ r[0]? ≠ some 0 := by
  refine ⟨bareL (bigL n 8), by unfold lenU; rw [if_neg (by omega)], ?_, ?_, ?_, ?_⟩
  · rw [wholeL_bare, bigL_val, Nat.mod_eq_of_lt hn]
  · rcases hb : bareL (bigL n 8) with _ | ⟨x, xs⟩
    · have := wholeL_bare (bigL n 8)
      rw [hb, bigL_val, Nat.mod_eq_of_lt hn] at this
      simp [wholeL] at this
      omega
    · simp
  · have := bareL_le (bigL n 8)
    rwa [bigL_length] at this
  · rcases hb : bareL (bigL n 8) with _ | ⟨x, xs⟩
    · simp
    · have := bareL_head _ _ _ hb
      simpa using this

theorem lenU_pos (n : Nat) : 1 ≤ (lenU n).length := by unfold lenU; split <;> simp
theorem ofNat_inj8 {a b : Nat} (ha : a < 256) (hb : b < 256) (h : UInt8.ofNat a = UInt8.ofNat b) : a = b := by
  have := congrArg UInt8.toNat h
  rw [UInt8.toNat_ofNat', UInt8.toNat_ofNat'] at this
  omega

theorem lenU_inj {n m : Nat} (hn : n < 256 ^ 8) (hm : m < 256 ^ 8) {x y : List UInt8} (h : lenU n ++ x = lenU m ++ y) : n = m ∧ x = y := by
  by_cases h1 : n < 128
  · rw [lenU_short h1] at h
    by_cases h2 : m < 128
    · rw [lenU_short h2] at h
      simp only [List.cons_append, List.nil_append, List.cons.injEq] at h
      exact ⟨ofNat_inj8 (by omega) (by omega) h.1, h.2⟩
    · obtain ⟨r, hr, -, h3, h4, -⟩ := lenU_long (by omega) hm
      rw [hr] at h
      simp only [List.cons_append, List.nil_append, List.cons.injEq] at h
      have := ofNat_inj8 (by omega) (by omega) h.1
      omega
  · obtain ⟨r, hr, hv, h3, h4, -⟩ := lenU_long (by omega) hn
    rw [hr] at h
    by_cases h2 : m < 128
    · rw [lenU_short h2] at h
      simp only [List.cons_append, List.nil_append, List.cons.injEq] at h
      have := ofNat_inj8 (by omega) (by omega) h.1
      omega
    · obtain ⟨s, hs, hv2, h5, h6, -⟩ := lenU_long (by omega) hm
      rw [hs] at h
      simp only [List.cons_append, List.cons.injEq] at h
      have h7 := ofNat_inj8 (by omega) (by omega) h.1
      obtain ⟨rfl, h8⟩ := List.append_inj h.2 (by omega)
      exact ⟨by rw [← hv, ← hv2], h8⟩

theorem fst_inj {c t c' t' : Int} {k k' : Bool} (h1 : 0 ≤ c) (h2 : c ≤ 3) (h3 : 0 ≤ t) (h4 : t ≤ 30) (h5 : 0 ≤ c') (h6 : c' ≤ 3) (h7 : 0 ≤ t') (h8 : t' ≤ 30) (h : UInt8.ofNat (fstN c t k) = UInt8.ofNat (fstN c' t' k')) : c = c' ∧ t = t' ∧ k = k' := by
  have h9 : fstN c t k < 256 := by unfold fstN; split <;> omega
  have h10 : fstN c' t' k' < 256 := by unfold fstN; split <;> omega
  have h11 := ofNat_inj8 h9 h10 h
  unfold fstN at h11
  cases k <;> cases k' <;> simp at h11 ⊢ <;> omega

mutual
/-- A tree's bytes end by themselves, and say the tree. -/
theorem der_inj : ∀ (T U : Tr) (x y : List UInt8), T.fine → U.fine → T.sm → U.sm → T.dsiz < 256 ^ 8 → U.dsiz < 256 ^ 8 → T.der ++ x = U.der ++ y → T = U ∧ x = y
  | .mk c t k l ks, .mk c' t' k' l' ks', x, y, hf, hf', hs, hs', hz, hz', h => by
    obtain ⟨⟨a1, a2, a3, a4, a5, a6, -⟩, a7⟩ := hf
    obtain ⟨⟨b1, b2, b3, b4, b5, b6, -⟩, b7⟩ := hf'
    obtain ⟨s1, s2⟩ := hs
    obtain ⟨t1, t2⟩ := hs'
    simp only [Tr.dsiz] at hz hz'
    simp only [Tr.der, List.cons_append, List.cons.injEq, List.append_assoc] at h
    obtain ⟨rfl, rfl, rfl⟩ := fst_inj a1 a2 a3 a4 b1 b2 b3 b4 h.1
    have hd := derL_length ks
    have hd' := derL_length ks'
    obtain ⟨e1, e2⟩ := lenU_inj (by omega) (by omega) h.2
    rw [← List.append_assoc, ← List.append_assoc] at e2
    obtain ⟨e3, e4⟩ := List.append_inj e2 (by rw [List.length_append, List.length_append, hd, hd']; simpa [u8s] using e1)
    subst e4
    cases k with
    | true =>
      obtain rfl := a5 rfl
      obtain rfl := b5 rfl
      obtain rfl := derL_inj ks ks' a7 b7 s2 t2 (by omega) (by omega) (by simpa [u8s] using e3)
      exact ⟨rfl, rfl⟩
    | false =>
      obtain rfl := a6 rfl
      obtain rfl := b6 rfl
      obtain rfl := u8s_inj s1 t1 (by simpa [derL] using e3)
      exact ⟨rfl, rfl⟩
theorem derL_inj : ∀ (ks ms : List Tr), fineL ks → fineL ms → smL ks → smL ms → dsizL ks < 256 ^ 8 → dsizL ms < 256 ^ 8 → derL ks = derL ms → ks = ms
  | [], [], _, _, _, _, _, _, _ => rfl
  | [], .mk _ _ _ _ _ :: _, _, _, _, _, _, _, h => by simp [derL, Tr.der] at h
  | .mk _ _ _ _ _ :: _, [], _, _, _, _, _, _, h => by simp [derL, Tr.der] at h
  | t :: ts, u :: us, hf, hf', hs, hs', hz, hz', h => by
    simp only [dsizL] at hz hz'
    obtain ⟨rfl, e⟩ := der_inj t u (derL ts) (derL us) hf.1 hf'.1 hs.1 hs'.1 (by omega) (by omega) h
    obtain rfl := derL_inj ts us hf.2 hf'.2 hs.2 hs'.2 (by omega) (by omega) e
    rfl
end

end Go.Proofs.YtkmphiakciihfaaDoor

namespace Go.Proofs.YtkmphiakciihfaaDoor
open Go.RowKit

theorem bcmp_any (a1 a2 : Option Addr) (n1 c1 n2 c2 : Nat) (l1 l2 : List UInt8) (w : World) (h1 : Bts w a1 n1 c1 l1) (h2 : Bts w a2 n2 c2 l2) :
    Calls Tryd.prog 60 #[.slice a1 n1 c1, .slice a2 n2 c2] w fun e w' => e = .returned (.int .i64 (Lib.compareBytes l1 l2)) ∧ w = w' := by
  have hx : (callFunc 69 #[.slice a1 n1 c1, .slice a2 n2 c2]).run Tryd.prog w = .ok (.value (.int .i64 (Lib.compareBytes l1 l2))) w := by
    rw [run_callFunc_extern Tryd.func69 (by kernel_rfl) (by kernel_rfl) (by kernel_rfl) (e := Extern.BytealgCompare.compare) (by kernel_rfl), run_compare h1 h2]
    rfl
  generalize Lib.compareBytes l1 l2 = r at *
  clear h1 h2
  go_enter Tryd.func60, Tryd.ntmps60
  go_wp2
  go_ret
  exact ⟨rfl, rfl⟩

theorem ocmp_any (a1 a2 : Option Addr) (n1 c1 n2 c2 : Nat) (l1 l2 : List UInt8) (w : World) (h1 : Bts w a1 n1 c1 l1) (h2 : Bts w a2 n2 c2 l2) :
    Calls Tryd.prog 45 #[.slice a1 n1 c1, .slice a2 n2 c2] w fun e w' => e = .returned (.int .i64 (Lib.compareBytes l1 l2)) ∧ w = w' := by
  have HB := Lib.hid (bcmp_any a1 a2 n1 c1 n2 c2 l1 l2 w h1 h2)
  generalize Lib.compareBytes l1 l2 = r at *
  clear h1 h2
  go_enter Tryd.func45, Tryd.ntmps45
  go_wp2_with fail
  refine HB.out.mono ?_
  rintro e w' ⟨rfl, rfl⟩
  go_wp2_with fail
  go_ret
  exact ⟨rfl, rfl⟩

end Go.Proofs.YtkmphiakciihfaaDoor
