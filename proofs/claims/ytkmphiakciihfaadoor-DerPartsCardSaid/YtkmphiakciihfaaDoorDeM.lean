/-
  THE LAW DerParts: a constructed node's bytes are one, the length, and its kids' bytes; a length is as short as can be, and says its number.
-/
import Derived.Test.YtkmphiakciihfaaDoorDeL
namespace Go.Proofs.YtkmphiakciihfaaDoor
open Go.RowKit

/-- What the law's loop makes of a length. -/
def numU (L : List UInt8) (i : Nat) : Nat := wholeL ((L.drop 1).take (i - 1))
theorem numU_step (L : List UInt8) (i : Nat) (h1 : 1 ≤ i) (h : i < L.length) : numU L (i + 1) = 256 * numU L i + (L[i]?.getD 0).toNat := by
  unfold numU
  obtain ⟨j, rfl⟩ : ∃ j, i = j + 1 := ⟨i - 1, by omega⟩
  rw [show j + 1 + 1 - 1 = j + 1 by omega, show j + 1 - 1 = j by omega, wholeL_step _ j (by rw [List.length_drop]; omega), List.getElem?_drop, Nat.add_comm 1 j]
theorem numU_le (L : List UInt8) (i : Nat) : numU L i ≤ wholeL (L.drop 1) := by
  unfold numU
  have h := wholeL_append ((L.drop 1).take (i - 1)) ((L.drop 1).drop (i - 1))
  rw [List.take_append_drop] at h
  rw [h]
  have : 1 ≤ 256 ^ ((L.drop 1).drop (i - 1)).length := Nat.pos_of_ne_zero (by simp)
  calc wholeL ((L.drop 1).take (i - 1)) = wholeL ((L.drop 1).take (i - 1)) * 1 := (Nat.mul_one _).symm
    _ ≤ wholeL ((L.drop 1).take (i - 1)) * 256 ^ ((L.drop 1).drop (i - 1)).length := Nat.mul_le_mul_left _ this
    _ ≤ _ := Nat.le_add_right _ _
theorem numU_all (L : List UInt8) (i : Nat) (h : L.length ≤ i) : numU L i = wholeL (L.drop 1) := by
  unfold numU
  rw [List.take_of_length_le (by rw [List.length_drop]; omega)]

/-- A length, by its bytes. -/
theorem lenU_parts (k : Nat) (hk : k < 256 ^ 8) : wholeL ((lenU k).drop 1) ≤ k ∧ (lenU k).length ≤ 9 ∧ 1 ≤ (lenU k).length ∧ (k < 128 → (lenU k).length = 1 ∧ ((lenU k)[0]?.getD 0).toNat = k) ∧
    (128 ≤ k → 2 ≤ (lenU k).length ∧ ((lenU k)[0]?.getD 0).toNat = 127 + (lenU k).length ∧ wholeL ((lenU k).drop 1) = k ∧ ((lenU k)[1]?.getD 0).toNat ≠ 0) := by
  by_cases h : k < 128
  · rw [lenU_short h]
    refine ⟨by simp [wholeL], by simp, by simp, fun _ => ⟨rfl, ?_⟩, fun h2 => by omega⟩
    simp only [List.getElem?_cons_zero, Option.getD_some, UInt8.toNat_ofNat']
    omega
  · obtain ⟨r, hr, h1, h2, h3, h4⟩ := lenU_long (by omega) hk
    rw [hr]
    have hd : (UInt8.ofNat (128 + r.length) :: r).drop 1 = r := rfl
    rw [hd]
    refine ⟨by omega, by simp; omega, by simp, fun h => by omega, fun _ => ⟨by simp; omega, ?_, h1, ?_⟩⟩
    · simp only [List.getElem?_cons_zero, Option.getD_some, UInt8.toNat_ofNat', List.length_cons]
      omega
    · cases r with
      | nil => simp at h2
      | cons x xs =>
        simp at h4 ⊢
        intro e
        exact h4 (UInt8.toNat_inj.1 (by simpa using e))

/-- A tree that Encode writes: so are its kids. -/
theorem dEnc_kids {T : Tr} (h : (dEncR T).2 = 0) : ∀ K ∈ T.kids, dEncR K = (K.der, 0) := by
  obtain ⟨h1, h2, -⟩ := dEncR_ok h
  obtain ⟨h3, -, h4, -⟩ := dSizR_fine h1
  obtain ⟨c, t, k, l, ks⟩ := T
  intro K hK
  have hK' : K ∈ ks := hK
  have h5 := (parts_fine qV _ h3).2.1 K hK
  have h6 := dsizL_mem hK'
  simp only [Tr.dsiz] at h4
  have h7 : K.falls = false := by
    simp only [Tr.falls, Bool.or_eq_false_iff, fallsL_any] at h2
    have := List.any_eq_false.1 h2.1 K hK'
    simpa using this
  have e : dSizR K = ((K.dsiz : Int), 0) := by unfold dSizR; rw [if_pos h5, if_neg (by omega)]
  unfold dEncR
  rw [e, h7]
  rfl

theorem kid_wt (T : Tr) : ∀ t ∈ T.kids, t.wt ≤ T.wt := fun t ht => by
  obtain ⟨c, g, k, l, ks⟩ := T
  have := wtL_mem (show t ∈ ks from ht)
  simp only [Tr.wt]
  omega

theorem kids_siz (T : Tr) : dsizL T.kids ≤ T.dsiz := by
  obtain ⟨c, g, k, l, ks⟩ := T
  simp only [Tr.dsiz, Tr.kids]
  omega

theorem wrap64_sm (f : Nat) (h : f < 256) : wrap64 (f : Int) = (f : Int) := by unfold wrap64; omega
theorem wrapi_sm (f : Nat) (h : f < 256) : IntKind.i64.wrap (f : Int) = (f : Int) := by rw [IntKind.wrap_i64]; omega

theorem strOf_append (l m : List UInt8) : strOf l ++ strOf m = strOf (l ++ m) := by
  unfold strOf
  exact ByteArray.ext (by simp [ByteArray.data_append])

structure PartI (w1 : World) (L : List UInt8) (i m : Nat) (wr : World) : Prop where
  num : m = numU L i
  below : Below w1.heap.size w1 wr

set_option maxRecDepth 100000 in
set_option maxHeartbeats 16000000 in
theorem dparts_walk (V : NV) (T : Tr) (w : World) (hn : NodeAt w V T) (hlim : T.lim) (n : Int) (hn0 : 0 ≤ n) (hn1 : n ≤ 18446744073709551615) (hk : Tabs w) :
    Calls Tryd.prog 7 #[V.agg, .int .u64 n] w fun e w' => e = .returned (.bool true) ∧ Below w.heap.size w w' := by
  obtain ⟨N, rfl⟩ : ∃ N : Nat, n = (N : Int) := ⟨n.toNat, by omega⟩
  obtain ⟨c, t, kk, ba, bl, bc, ka, kl, kc⟩ := V
  obtain ⟨w1, hw1⟩ : ∃ w1, w.alloc (.cells #[.int .i64 c, .int .i64 t, .bool kk, .slice ba bl bc, .slice ka kl kc] 25) = w1 := ⟨_, rfl⟩
  have hb1 : Below w.heap.size w w1 := by rw [← hw1]; exact (Below.refl _ _).alloc (Nat.le_refl _) _
  have hcx : CellsAt w1 w.heap.size 0 ⟨c, t, kk, ba, bl, bc, ka, kl, kc⟩ := by rw [← hw1]; exact cells5 w c t kk ba bl bc ka kl kc _
  have CA := Lib.hid (fun (W : World) (h : Below w1.heap.size w1 W) => hcx.below h hcx.lt)
  have HN := Lib.hid (fun (W : World) (h : Below w1.heap.size w1 W) => (hn.under hb1).under h)
  have HT := Lib.hid (fun (W : World) (h : Below w1.heap.size w1 W) => tabs_below (tabs_below hk hb1) h)
  have HL := Lib.hid hlim
  have HB1 := Lib.hid hb1
  have HCS := Lib.hid (show T.cls = c ∧ T.tag = t ∧ T.cons = kk ∧ T.kids.length = kl ∧ kl ≤ kc ∧ kc ≤ maxLen from ⟨hn.cls, hn.tag, hn.cons, hn.kids.length, hn.kids.le, hn.kids.max⟩)
  have HKD := Lib.hid (hn.kids.below hb1)
  have HAL := Lib.hid (alive12 w1 (tabs_below hk hb1))
  clear hn hlim hk hb1 hcx
  unfold NV.agg
  dsimp only
  go_enter Tryd.func7, Tryd.ntmps7
  go_wp2_with fail
  clear hw1
  refine HAL.out.mono ?_
  rintro e v0 ⟨rfl, hb⟩
  have G0 := Lib.hid hb
  clear hb HAL
  have hg := great12_any T ⟨c, t, kk, ba, bl, bc, ka, kl, kc⟩ v0 (HN.out v0 G0.out) HL.out
  unfold NV.agg at hg
  dsimp only at hg
  obtain ⟨p0, p1, p2, p3, p4⟩ := CA.out v0 G0.out
  dsimp only at p0 p1 p2 p3 p4
  simp only [Nat.zero_add] at p0 p1 p2 p3 p4
  go_wp2_with fail
  refine hg.mono ?_
  rintro e v1 ⟨rfl, hb⟩
  have G1 := Lib.hid (G0.out.trans (hb.mono G0.out.size))
  clear hb hg p0 p1 p2 p3 p4
  cases g1 : great12 T with
  | true =>
    go_wp2_with fail
    go_ret
    exact ⟨rfl, HB1.out.trans (G1.out.mono HB1.out.size)⟩
  | false =>
    have b1 := great12_no g1
    clear g1
    obtain ⟨k, hkN⟩ : ∃ k, N % 1099511627776 = k := ⟨_, rfl⟩
    have hk40 : k < 1099511627776 := by omega
    have hrem : (N : Int).tmod 1099511627776 = (k : Int) := by rw [← hkN]; rfl
    have hwk : IntKind.i64.wrap (k : Int) = (k : Int) := by rw [IntKind.wrap_i64]; omega
    have hln := length_any (k : Int) (by omega) v1
    rw [if_neg (by omega), Int.toNat_natCast] at hln
    obtain ⟨hp1, hp2, hp3, hp4, hp5⟩ := lenU_parts k (by have : (1099511627776 : Nat) < 256 ^ 8 := by decide
                                                         omega)
    generalize lenU k = L at *
    have HP := Lib.hid (And.intro hp4 hp5)
    clear hp4 hp5 hkN
    go_wp2_with fail
    refine hln.mono ?_
    rintro e v2 ⟨⟨vv, rfl, ho⟩, hb⟩
    obtain ⟨la, ln, lc, rfl⟩ := own8_sl ho
    have hL := (ho.cap).1
    have G2 := Lib.hid (G1.out.trans (hb.mono G1.out.size))
    have HR := Lib.hid ho.bts
    have hlc := ho.bts.le
    have hlm := ho.bts.max
    have hLL := ho.bts.length
    unfold maxLen at hlm
    clear hb ho hln hrem
    have hln9 : ln ≤ 9 := by omega
    have hln1 : 1 ≤ ln := by omega
    obtain ⟨lb, loff, hla, hlb, hcell⟩ := HR.out.cells (by omega)
    subst hla
    have HCELL := Lib.hid hcell
    have HLB := Lib.hid hlb
    have HLL := Lib.hid hLL
    clear hcell hlb hL hLL
    go_wp2_with fail
    go_loopw [9, 8] (fun i m wr => ∃ (j x : Nat), 1 ≤ j ∧ j ≤ ln ∧ i = .int .i64 (j : Int) ∧ m = .int .i64 (x : Int) ∧ PartI v2 L j x wr) (fun i _ _ => ln - (intOf i).toNat)
    case atStart => exact ⟨1, 0, Nat.le_refl _, hln1, rfl, rfl, by unfold numU; simp [wholeL], Below.refl _ _⟩
    case round =>
      obtain ⟨j, x, hj1, hj, rfl, rfl, hr⟩ := hrel
      have hnum := hr.num
      have HBR := Lib.hid hr.below
      have hxk : x ≤ k := by rw [hnum]; exact Nat.le_trans (numU_le L j) hp1
      clear hr
      by_cases hlt : j < ln
      · have hcj := (HBR.out.cell (p := ⟨lb, loff + j, none⟩) HLB.out).trans (HCELL.out j hlt)
        have hst := numU_step L j hj1 (by rw [HLL.out]; exact hlt)
        have hle := numU_le L (j + 1)
        generalize (L[j]?.getD 0).toNat = y at *
        have HST := Lib.hid (show 256 * x + y = numU L (j + 1) by rw [hst, hnum])
        have hy : 256 * x + y ≤ k := by rw [HST.out]; omega
        clear hst hle hnum
        go_wp2_with fail
        go_roundw
        case rel => exact ⟨j + 1, 256 * x + y, by omega, by omega, by go_num, by go_num, HST.out, HBR.out⟩
        case measure => simp [intOf]; omega
      · obtain rfl : j = ln := by omega
        rw [numU_all L j (by rw [HLL.out]; exact Nat.le_refl _)] at hnum
        have HNM := Lib.hid hnum
        clear hnum hlt
        obtain ⟨y0, hy0⟩ : ∃ y, (L[0]?.getD 0).toNat = y := ⟨_, rfl⟩
        have hy0b : y0 < 256 := by rw [← hy0]; exact UInt8.toNat_lt _
        have c0 := (HBR.out.cell (p := ⟨lb, loff + 0, none⟩) HLB.out).trans (HCELL.out 0 (by omega))
        rw [hy0] at c0
        rw [Nat.add_zero] at c0
        have hE := dEnc_any ⟨c, t, kk, ba, bl, bc, ka, kl, kc⟩ T wr (HN.out wr (G2.out.trans (HBR.out.mono G2.out.size))) (by have := b1.1; omega) (by have := b1.2.1; omega) (by have := b1.2.2; omega) (HT.out wr (G2.out.trans (HBR.out.mono G2.out.size)))
        unfold NV.agg at hE
        dsimp only at hE
        obtain ⟨p0, p1, p2, p3, p4⟩ := CA.out wr (G2.out.trans (HBR.out.mono G2.out.size))
        dsimp only at p0 p1 p2 p3 p4
        simp only [Nat.zero_add] at p0 p1 p2 p3 p4
        have G3 := Lib.hid (G2.out.trans (HBR.out.mono G2.out.size))
        have HDK := Lib.hid (dEnc_kids (T := T))
        have HDO := Lib.hid (fun h => (dEncR_ok (T := T) h).2.2)
        have HFI := Lib.hid (show (dEncR T).2 = 0 → T.fine ∧ T.dsiz ≤ 65536 from fun h => ⟨(dSizR_fine (dEncR_ok (T := T) h).1).2.1, (dSizR_fine (dEncR_ok (T := T) h).1).2.2.1⟩)
        by_cases hk8 : k < 128
        · obtain ⟨h1, h2⟩ := HP.out.1 hk8
          rw [HLL.out] at h1
          rw [hy0] at h2
          subst h2
          have d1 : decide ((y0 : Int) < 128) = true := by simp; omega
          have d2 : decide (128 ≤ (y0 : Int)) = false := by simp; omega
          have d3 : ((j : Int) != 1) = false := by simp; omega
          have hj0 : 0 < j := by omega
          clear hp2 hp3 hy0 HP HNM hj1 h1
          go_wp2_with fail
          refine hE.mono ?_
          rintro e v3 ⟨⟨bv, rfl, hbo⟩, hb⟩
          obtain ⟨ba', bn', bc', rfl⟩ := own8_sl hbo
          have G4 := Lib.hid (G3.out.trans (hb.mono G3.out.size))
          have HBO := Lib.hid hbo.bts
          clear hb hbo hE p0 p1 p2 p3 p4
          generalize dEncR T = R at *
          obtain ⟨R1, R2⟩ := R
          dsimp only at HDK HDO HFI HBO ⊢
          by_cases hR : R2 = 0
          · subst hR
            have hR1 : R1 = T.der := HDO.out rfl
            subst hR1
            have HKK := Lib.hid (show ∀ K ∈ T.kids, dEncR K = (K.der, 0) from fun K hK => HDK.out rfl K hK)
            clear HDK
            obtain ⟨hfn, hdz⟩ := HFI.out rfl
            have HFN := Lib.hid hfn
            have HDZ := Lib.hid hdz
            clear hfn hdz HFI HDO
            obtain ⟨p0, p1, p2, p3, p4⟩ := CA.out v3 G4.out
            dsimp only at p0 p1 p2 p3 p4
            simp only [Nat.zero_add] at p0 p1 p2 p3 p4
            cases kk with
            | false =>
              go_wp2_with fail
              go_ret
              exact ⟨rfl, HB1.out.trans (G4.out.mono HB1.out.size)⟩
            | true =>
              go_wp2_with fail
              go_loopw [104, 12] (fun i s wr => ∃ q : Nat, q ≤ kl ∧ i = .int .i64 (q : Int) ∧ s = .string (strOf (derL (T.kids.take q))) ∧ Below v3.heap.size v3 wr) (fun i _ _ => kl - (intOf i).toNat)
              case atStart => exact ⟨0, Nat.zero_le _, rfl, by rw [List.take_zero]; rfl, Below.refl _ _⟩
              case round =>
                obtain ⟨q, hq, rfl, rfl, hr⟩ := hrel
                have HBQ := Lib.hid hr
                have G5 := Lib.hid (G4.out.trans (hr.mono G4.out.size))
                obtain ⟨q0, q1, q2, q3, q4⟩ := CA.out _ G5.out
                dsimp only at q0 q1 q2 q3 q4
                simp only [Nat.zero_add] at q0 q1 q2 q3 q4
                have hkm : kl ≤ 9223372036854775807 := by have h1 := HCS.out.2.2.2.2.1; have h2 := HCS.out.2.2.2.2.2; unfold maxLen at h2; omega
                clear hr p0 p1 p2 p3 p4
                by_cases hlt : q < kl
                · have hk1 : q < T.kids.length := by rw [HCS.out.2.2.2.1]; exact hlt
                  obtain ⟨U, hc, hnu⟩ := HKD.out.cells
                  obtain ⟨kb, ko, hka, hkb, hcell⟩ := hc (by omega)
                  rw [hka] at q4
                  have hcu := (hcell q hlt).below G5.out hkb
                  have hnk := (hnu q hk1).under G5.out
                  have hmem := List.getElem_mem hk1
                  have hcm : (T.kids[q]).cnt ≤ T.cnt := by have := T.cnt_kids _ hmem; omega
                  have hdm : (T.kids[q]).dep ≤ T.dep := by have := T.dep_kids _ hmem; omega
                  have hwm : (T.kids[q]).wt ≤ T.wt := kid_wt T _ hmem
                  obtain ⟨X, hX⟩ : ∃ X, U q = X := ⟨_, rfl⟩
                  rw [hX] at hcu hnk
                  have hE2 := dEnc_any X T.kids[q] _ hnk (by have := b1.1; omega) (by have := b1.2.1; omega) (by have := b1.2.2; omega) (HT.out _ G5.out)
                  rw [HKK.out _ hmem] at hE2
                  have HDT := Lib.hid (derL_take T.kids q hk1)
                  have hs1 : (strOf (derL (T.kids.take q))).size ≤ 65536 := by
                    show (derL (T.kids.take q)).length ≤ _
                    rw [derL_length]
                    exact Nat.le_trans (dsizL_take_le _ _) (Nat.le_trans (kids_siz T) HDZ.out)
                  have hs2 : (strOf (T.kids[q]).der).size ≤ 65536 := by
                    show ((T.kids[q]).der).length ≤ _
                    rw [Tr.der_length]
                    exact Nat.le_trans (dsizL_mem hmem) (Nat.le_trans (kids_siz T) HDZ.out)
                  obtain ⟨xc, xt, xk, xa, xl, xm, ya, yl, ym⟩ := X
                  unfold NV.agg at hE2
                  dsimp only at hE2
                  obtain ⟨r0, r1, r2, r3, r4⟩ := hcu
                  dsimp only at r0 r1 r2 r3 r4
                  generalize T.kids[q] = K at *
                  clear hc hnu hcell hnk hmem hX hkb hka hcm hdm hwm
                  go_wp2_with fail
                  refine hE2.mono ?_
                  rintro e v6 ⟨⟨cv, rfl, hco⟩, hb⟩
                  obtain ⟨ca, cn, cc, rfl⟩ := own8_sl hco
                  have hcv := conv8 hco.bts
                  have hap := strOf_append (derL (T.kids.take q)) K.der
                  have HB6 := Lib.hid (HBQ.out.trans (hb.mono HBQ.out.size))
                  rw [← HDT.out] at hap
                  clear hb hco hE2 r0 r1 r2 r3 r4 q0 q1 q2 q3 q4
                  go_wp2_with fail
                  go_roundw
                  case rel => exact ⟨q + 1, by omega, by go_num, by first | rfl | rw [hap], HB6.out⟩
                  case measure => simp [intOf]; omega
                · obtain rfl : q = kl := by omega
                  rw [List.take_of_length_le (by rw [HCS.out.2.2.2.1]; exact Nat.le_refl _)]
                  clear hlt
                  go_wp2_with fail
                  have hBo := HBO.out.below HBQ.out
                  obtain ⟨D, hD⟩ : ∃ D, derL T.kids = D := ⟨_, rfl⟩
                  have hf1 : 0 ≤ c ∧ c ≤ 3 ∧ 0 ≤ t ∧ t ≤ 30 ∧ T.der = UInt8.ofNat (fstN c t true) :: (lenU D.length ++ D) := by
                    have h1 := HFN.out
                    have h2 := HCS.out
                    obtain ⟨c', t', k', l', ks'⟩ := T
                    obtain ⟨⟨a1, a2, a3, a4, a5, -⟩, -⟩ := h1
                    obtain ⟨e1, e2, e3, -⟩ := h2
                    simp only [Tr.cls, Tr.tag, Tr.cons] at e1 e2 e3
                    subst e1 e2 e3
                    refine ⟨a1, a2, a3, a4, ?_⟩
                    have e4 := a5 rfl
                    subst e4
                    have e5 : derL ks' = D := hD
                    simp only [Tr.der, ← e5, derL_length]
                    simp [u8s]
                  rw [hD]
                  obtain ⟨hc0, hc3, ht0, ht30, hder⟩ := hf1
                  have hlen : T.der.length ≤ 65536 := by rw [Tr.der_length]; exact HDZ.out
                  rw [hder] at hBo hlen
                  obtain ⟨nc, rfl⟩ : ∃ n : Nat, c = (n : Int) := ⟨c.toNat, by omega⟩
                  obtain ⟨nt, rfl⟩ : ∃ n : Nat, t = (n : Int) := ⟨t.toNat, by omega⟩
                  obtain ⟨m, hm⟩ : ∃ m, m = 64 * nc := ⟨_, rfl⟩
                  obtain ⟨m2, hm2⟩ : ∃ m2, m2 = m + 32 := ⟨_, rfl⟩
                  obtain ⟨f, hf⟩ : ∃ f, f = m2 + nt := ⟨_, rfl⟩
                  have hfs : fstN (nc : Int) (nt : Int) true = f := by unfold fstN; simp; omega
                  rw [hfs] at hBo hlen
                  have hf256 : f < 256 := by omega
                  have w1 : IntKind.i64.wrap (64 * (nc : Int)) = (m : Int) := by rw [IntKind.wrap_i64]; omega
                  have w2 : IntKind.i64.wrap ((m : Int) + 32) = (m2 : Int) := by rw [IntKind.wrap_i64]; omega
                  have w3 : IntKind.i64.wrap ((m2 : Int) + (nt : Int)) = (f : Int) := by rw [IntKind.wrap_i64]; omega
                  have w4 : wrap64 (f : Int) = (f : Int) := wrap64_sm f hf256
                  have w5 : IntKind.i64.wrap (f : Int) = (f : Int) := wrapi_sm f hf256
                  have hbl := hBo.length
                  have hlu := lenU_pos D.length
                  have hlu9 := lenU_le D.length
                  simp only [List.length_cons, List.length_append] at hbl hlen
                  obtain ⟨gb, go, hga, hgb, hgc⟩ := hBo.cells (by omega)
                  subst hga
                  have s0 := hgc 0 (by omega)
                  simp only [List.getElem?_cons_zero, Option.getD_some, UInt8.toNat_ofNat', Nat.add_zero] at s0
                  rw [show f % 2 ^ 8 = f from Nat.mod_eq_of_lt hf256] at s0
                  have hBd := hBo.drop (k := 1) (by omega)
                  simp only [List.drop_succ_cons, List.drop_zero] at hBd
                  have hcap := hBo.le
                  have hcm := hBo.max
                  unfold maxLen at hcm
                  have hn1 : (1 : Int) ≤ (bn' : Int) := by omega
                  have hc1 : (1 : Int) ≤ (bc' : Int) := by omega
                  have hc2 : ¬ bc' = 1 := by omega
                  have hn2 : (0 : Int) < (bn' : Int) := by omega
                  have hn3 : 0 < bn' := by omega
                  have hb64 : (bn' : Int) ≤ 65536 := by omega
                  obtain ⟨M, hM⟩ : ∃ M, D.length = M := ⟨_, rfl⟩
                  have hsz : (strOf D).size = M := hM
                  have hM6 : M ≤ 65536 := by omega
                  rw [hM] at hBd
                  have HAPP := Lib.hid (strOf_append (lenU M) D)
                  have HBD := Lib.hid hBd
                  have HGB := Lib.hid hgb
                  have HAB := Lib.hid (show w.heap.size < wr.heap.size from World.block_lt_of_cell? wr _ q0)
                  have HFE := Lib.hid hf
                  clear hBo hgb hgc hBd hbl hlen hlu hlu9 hder hfs hM hf hm2 hm hD q2 q3 q4
                  refine wp_region_held_drew (S := fun Y => Y.cell? ⟨gb, go, none⟩ = some (.int .u8 (f : Int)) ∧ Y.cell? ⟨w.heap.size, 0, none⟩ = some (.int .i64 (nc : Int)) ∧ Y.cell? ⟨w.heap.size, 1, none⟩ = some (.int .i64 (nt : Int))) (by kernel_rfl) ⟨s0, q0, q1⟩ (fun hHeld => ?_)
                  try simp only [List.getElem_toArray, List.getElem_cons_succ, List.getElem_cons_zero, Act.put, List.setIfInBounds_toArray, List.set_cons_zero, List.set_cons_succ]
                  refine' tk 0 ?_
                  try simp only [List.getElem_toArray, List.getElem_cons_succ, List.getElem_cons_zero, Act.put, List.setIfInBounds_toArray, List.set_cons_zero, List.set_cons_succ]
                  refine' tk 1 ?_
                  try simp only [List.getElem_toArray, List.getElem_cons_succ, List.getElem_cons_zero, Act.put, List.setIfInBounds_toArray, List.set_cons_zero, List.set_cons_succ]
                  refine' tk 2 ?_
                  try simp only [List.getElem_toArray, List.getElem_cons_succ, List.getElem_cons_zero, Act.put, List.setIfInBounds_toArray, List.set_cons_zero, List.set_cons_succ]
                  refine' tk 3 ?_
                  try simp only [List.getElem_toArray, List.getElem_cons_succ, List.getElem_cons_zero, Act.put, List.setIfInBounds_toArray, List.set_cons_zero, List.set_cons_succ]
                  refine' tk (v := .bool true) 4 ?_
                  try simp only [List.getElem_toArray, List.getElem_cons_succ, List.getElem_cons_zero, Act.put, List.setIfInBounds_toArray, List.set_cons_zero, List.set_cons_succ]
                  refine' tk 5 ?_
                  try simp only [List.getElem_toArray, List.getElem_cons_succ, List.getElem_cons_zero, Act.put, List.setIfInBounds_toArray, List.set_cons_zero, List.set_cons_succ]
                  refine' tk 6 ?_
                  try simp only [List.getElem_toArray, List.getElem_cons_succ, List.getElem_cons_zero, Act.put, List.setIfInBounds_toArray, List.set_cons_zero, List.set_cons_succ]
                  refine' tk 7 ?_
                  try simp only [List.getElem_toArray, List.getElem_cons_succ, List.getElem_cons_zero, Act.put, List.setIfInBounds_toArray, List.set_cons_zero, List.set_cons_succ]
                  refine' tk 8 ?_
                  try simp only [List.getElem_toArray, List.getElem_cons_succ, List.getElem_cons_zero, Act.put, List.setIfInBounds_toArray, List.set_cons_zero, List.set_cons_succ]
                  refine' tk 9 ?_
                  try simp only [List.getElem_toArray, List.getElem_cons_succ, List.getElem_cons_zero, Act.put, List.setIfInBounds_toArray, List.set_cons_zero, List.set_cons_succ]
                  refine' tk 10 ?_
                  try simp only [List.getElem_toArray, List.getElem_cons_succ, List.getElem_cons_zero, Act.put, List.setIfInBounds_toArray, List.set_cons_zero, List.set_cons_succ]
                  refine' tk 11 ?_
                  try simp only [List.getElem_toArray, List.getElem_cons_succ, List.getElem_cons_zero, Act.put, List.setIfInBounds_toArray, List.set_cons_zero, List.set_cons_succ]
                  refine' tk 12 ?_
                  try simp only [List.getElem_toArray, List.getElem_cons_succ, List.getElem_cons_zero, Act.put, List.setIfInBounds_toArray, List.set_cons_zero, List.set_cons_succ]
                  refine' tk 13 ?_
                  try simp only [List.getElem_toArray, List.getElem_cons_succ, List.getElem_cons_zero, Act.put, List.setIfInBounds_toArray, List.set_cons_zero, List.set_cons_succ]
                  refine' tk 14 ?_
                  try simp only [List.getElem_toArray, List.getElem_cons_succ, List.getElem_cons_zero, Act.put, List.setIfInBounds_toArray, List.set_cons_zero, List.set_cons_succ]
                  refine' tk 15 ?_
                  try simp only [List.getElem_toArray, List.getElem_cons_succ, List.getElem_cons_zero, Act.put, List.setIfInBounds_toArray, List.set_cons_zero, List.set_cons_succ]
                  refine' tk 16 ?_
                  try simp only [List.getElem_toArray, List.getElem_cons_succ, List.getElem_cons_zero, Act.put, List.setIfInBounds_toArray, List.set_cons_zero, List.set_cons_succ]
                  refine' tk 17 ?_
                  try simp only [List.getElem_toArray, List.getElem_cons_succ, List.getElem_cons_zero, Act.put, List.setIfInBounds_toArray, List.set_cons_zero, List.set_cons_succ]
                  refine' tk (v := .bool true) 18 ?_
                  try simp only [List.getElem_toArray, List.getElem_cons_succ, List.getElem_cons_zero, Act.put, List.setIfInBounds_toArray, List.set_cons_zero, List.set_cons_succ]
                  refine' tk 19 ?_
                  try simp only [List.getElem_toArray, List.getElem_cons_succ, List.getElem_cons_zero, Act.put, List.setIfInBounds_toArray, List.set_cons_zero, List.set_cons_succ]
                  refine' tk 20 ?_
                  try simp only [List.getElem_toArray, List.getElem_cons_succ, List.getElem_cons_zero, Act.put, List.setIfInBounds_toArray, List.set_cons_zero, List.set_cons_succ]
                  refine' tk 21 ?_
                  try simp only [List.getElem_toArray, List.getElem_cons_succ, List.getElem_cons_zero, Act.put, List.setIfInBounds_toArray, List.set_cons_zero, List.set_cons_succ]
                  refine' tk 22 ?_
                  try simp only [List.getElem_toArray, List.getElem_cons_succ, List.getElem_cons_zero, Act.put, List.setIfInBounds_toArray, List.set_cons_zero, List.set_cons_succ]
                  refine' tk 24 ?_
                  try simp only [List.getElem_toArray, List.getElem_cons_succ, List.getElem_cons_zero, Act.put, List.setIfInBounds_toArray, List.set_cons_zero, List.set_cons_succ]
                  refine' tk 25 ?_
                  try simp only [List.getElem_toArray, List.getElem_cons_succ, List.getElem_cons_zero, Act.put, List.setIfInBounds_toArray, List.set_cons_zero, List.set_cons_succ]
                  refine' tk 28 ?_
                  try simp only [List.getElem_toArray, List.getElem_cons_succ, List.getElem_cons_zero, Act.put, List.setIfInBounds_toArray, List.set_cons_zero, List.set_cons_succ]
                  have hap := HAPP.out
                  have hz1 : (strOf (lenU M)).size ≤ 9 := lenU_le M
                  have hz3 : (strOf (lenU M)).size + M ≤ 9223372036854775807 := by omega
                  refine wpAnyH_ready (rs := [23, 26]) (by kernel_rfl) (by simp) ?_
                  refine AllReadyH.cons (o := _) rfl (fun K hK => ?_) (AllReadyH.cons (o := _) rfl (fun K hK => ?_) AllReadyH.nil)
                  · skip
                    have hcv := conv8 (HBD.out.below ((Below.refl _ wr).drew))
                    try simp only [List.getElem_toArray, List.getElem_cons_succ, List.getElem_cons_zero]
                    go_simp
                    refine hK.out _ _ ⟨(((Below.refl _ wr).drew).cell (p := ⟨gb, go, none⟩) HGB.out).trans s0, (((Below.refl _ wr).drew).cell (p := ⟨w.heap.size, 0, none⟩) HAB.out).trans q0, (((Below.refl _ wr).drew).cell (p := ⟨w.heap.size, 1, none⟩) HAB.out).trans q1⟩ (fun hHeld => ?_)
                    clear hK K
                    try simp only [List.getElem_toArray, List.getElem_cons_succ, List.getElem_cons_zero, Act.put, List.setIfInBounds_toArray, List.set_cons_zero, List.set_cons_succ]
                    clear hcv
                    refine' tr 26 (fun K hK => ?_)
                    try simp only [List.getElem_toArray, List.getElem_cons_succ, List.getElem_cons_zero]
                    go_simp
                    refine (length_any (M : Int) (by omega) _).mono ?_
                    rintro e v7 ⟨⟨vl, rfl, ho7⟩, hb⟩
                    rw [if_neg (by omega), Int.toNat_natCast] at ho7
                    obtain ⟨xa, xn, xc, rfl⟩ := own8_sl ho7
                    have hl7 := ho7.bts
                    have hb7 : Below wr.heap.size wr v7 := (show Below wr.heap.size wr wr.drew from (Below.refl _ wr).drew).trans hb
                    clear hb ho7
                    refine hK.out _ _ ⟨(hb7.cell (p := ⟨gb, go, none⟩) HGB.out).trans s0, (hb7.cell (p := ⟨w.heap.size, 0, none⟩) HAB.out).trans q0, (hb7.cell (p := ⟨w.heap.size, 1, none⟩) HAB.out).trans q1⟩ (fun hHeld => ?_)
                    clear hK K
                    try simp only [List.getElem_toArray, List.getElem_cons_succ, List.getElem_cons_zero, Act.put, List.setIfInBounds_toArray, List.set_cons_zero, List.set_cons_succ]
                    refine' tr 27 (fun K hK => ?_)
                    have hcv2 := conv8 hl7
                    try simp only [List.getElem_toArray, List.getElem_cons_succ, List.getElem_cons_zero]
                    go_simp
                    refine hK.out _ _ ⟨(hb7.cell (p := ⟨gb, go, none⟩) HGB.out).trans s0, (hb7.cell (p := ⟨w.heap.size, 0, none⟩) HAB.out).trans q0, (hb7.cell (p := ⟨w.heap.size, 1, none⟩) HAB.out).trans q1⟩ (fun hHeld => ?_)
                    clear hK K
                    try simp only [List.getElem_toArray, List.getElem_cons_succ, List.getElem_cons_zero, Act.put, List.setIfInBounds_toArray, List.set_cons_zero, List.set_cons_succ]
                    clear hcv2
                    refine' tk (v := .string (strOf (lenU M ++ D))) 29 ?_
                    try simp only [List.getElem_toArray, List.getElem_cons_succ, List.getElem_cons_zero, Act.put, List.setIfInBounds_toArray, List.set_cons_zero, List.set_cons_succ]
                    refine' tk (v := .bool true) 30 ?_
                    try simp only [List.getElem_toArray, List.getElem_cons_succ, List.getElem_cons_zero, Act.put, List.setIfInBounds_toArray, List.set_cons_zero, List.set_cons_succ]
                    refine' tk 31 ?_
                    try simp only [List.getElem_toArray, List.getElem_cons_succ, List.getElem_cons_zero, Act.put, List.setIfInBounds_toArray, List.set_cons_zero, List.set_cons_succ]
                    refine' tk 32 ?_
                    try simp only [List.getElem_toArray, List.getElem_cons_succ, List.getElem_cons_zero, Act.put, List.setIfInBounds_toArray, List.set_cons_zero, List.set_cons_succ]
                    refine wpAnyH_done (by kernel_rfl) ?_ _
                    have HF7 := Lib.hid (HB1.out.trans ((G5.out.trans (hb7.mono G5.out.size)).mono HB1.out.size))
                    clear hHeld s0 q0 q1
                    go_wp2_with fail
                    go_ret
                    exact ⟨rfl, HF7.out⟩
                  · skip
                    try simp only [List.getElem_toArray, List.getElem_cons_succ, List.getElem_cons_zero]
                    go_simp
                    refine (length_any (M : Int) (by omega) _).mono ?_
                    rintro e v7 ⟨⟨vl, rfl, ho7⟩, hb⟩
                    rw [if_neg (by omega), Int.toNat_natCast] at ho7
                    obtain ⟨xa, xn, xc, rfl⟩ := own8_sl ho7
                    have hl7 := ho7.bts
                    have hb7 : Below wr.heap.size wr v7 := (show Below wr.heap.size wr wr.drew from (Below.refl _ wr).drew).trans hb
                    clear hb ho7
                    refine hK.out _ _ ⟨(hb7.cell (p := ⟨gb, go, none⟩) HGB.out).trans s0, (hb7.cell (p := ⟨w.heap.size, 0, none⟩) HAB.out).trans q0, (hb7.cell (p := ⟨w.heap.size, 1, none⟩) HAB.out).trans q1⟩ (fun hHeld => ?_)
                    clear hK K
                    try simp only [List.getElem_toArray, List.getElem_cons_succ, List.getElem_cons_zero, Act.put, List.setIfInBounds_toArray, List.set_cons_zero, List.set_cons_succ]
                    refine wpAnyH_ready (rs := [23, 27]) (by kernel_rfl) (by simp) ?_
                    refine AllReadyH.cons (o := _) rfl (fun K hK => ?_) (AllReadyH.cons (o := _) rfl (fun K hK => ?_) AllReadyH.nil)
                    · skip
                      have hcv := conv8 (HBD.out.below (hb7))
                      try simp only [List.getElem_toArray, List.getElem_cons_succ, List.getElem_cons_zero]
                      go_simp
                      refine hK.out _ _ ⟨((hb7).cell (p := ⟨gb, go, none⟩) HGB.out).trans s0, ((hb7).cell (p := ⟨w.heap.size, 0, none⟩) HAB.out).trans q0, ((hb7).cell (p := ⟨w.heap.size, 1, none⟩) HAB.out).trans q1⟩ (fun hHeld => ?_)
                      clear hK K
                      try simp only [List.getElem_toArray, List.getElem_cons_succ, List.getElem_cons_zero, Act.put, List.setIfInBounds_toArray, List.set_cons_zero, List.set_cons_succ]
                      clear hcv
                      refine' tr 27 (fun K hK => ?_)
                      have hcv2 := conv8 hl7
                      try simp only [List.getElem_toArray, List.getElem_cons_succ, List.getElem_cons_zero]
                      go_simp
                      refine hK.out _ _ ⟨(hb7.cell (p := ⟨gb, go, none⟩) HGB.out).trans s0, (hb7.cell (p := ⟨w.heap.size, 0, none⟩) HAB.out).trans q0, (hb7.cell (p := ⟨w.heap.size, 1, none⟩) HAB.out).trans q1⟩ (fun hHeld => ?_)
                      clear hK K
                      try simp only [List.getElem_toArray, List.getElem_cons_succ, List.getElem_cons_zero, Act.put, List.setIfInBounds_toArray, List.set_cons_zero, List.set_cons_succ]
                      clear hcv2
                      refine' tk (v := .string (strOf (lenU M ++ D))) 29 ?_
                      try simp only [List.getElem_toArray, List.getElem_cons_succ, List.getElem_cons_zero, Act.put, List.setIfInBounds_toArray, List.set_cons_zero, List.set_cons_succ]
                      refine' tk (v := .bool true) 30 ?_
                      try simp only [List.getElem_toArray, List.getElem_cons_succ, List.getElem_cons_zero, Act.put, List.setIfInBounds_toArray, List.set_cons_zero, List.set_cons_succ]
                      refine' tk 31 ?_
                      try simp only [List.getElem_toArray, List.getElem_cons_succ, List.getElem_cons_zero, Act.put, List.setIfInBounds_toArray, List.set_cons_zero, List.set_cons_succ]
                      refine' tk 32 ?_
                      try simp only [List.getElem_toArray, List.getElem_cons_succ, List.getElem_cons_zero, Act.put, List.setIfInBounds_toArray, List.set_cons_zero, List.set_cons_succ]
                      refine wpAnyH_done (by kernel_rfl) ?_ _
                      have HF7 := Lib.hid (HB1.out.trans ((G5.out.trans (hb7.mono G5.out.size)).mono HB1.out.size))
                      clear hHeld s0 q0 q1
                      go_wp2_with fail
                      go_ret
                      exact ⟨rfl, HF7.out⟩
                    · skip
                      have hcv2 := conv8 hl7
                      try simp only [List.getElem_toArray, List.getElem_cons_succ, List.getElem_cons_zero]
                      go_simp
                      refine hK.out _ _ ⟨(hb7.cell (p := ⟨gb, go, none⟩) HGB.out).trans s0, (hb7.cell (p := ⟨w.heap.size, 0, none⟩) HAB.out).trans q0, (hb7.cell (p := ⟨w.heap.size, 1, none⟩) HAB.out).trans q1⟩ (fun hHeld => ?_)
                      clear hK K
                      try simp only [List.getElem_toArray, List.getElem_cons_succ, List.getElem_cons_zero, Act.put, List.setIfInBounds_toArray, List.set_cons_zero, List.set_cons_succ]
                      clear hcv2
                      refine' tk (v := .string (strOf (lenU M ++ D))) 29 ?_
                      try simp only [List.getElem_toArray, List.getElem_cons_succ, List.getElem_cons_zero, Act.put, List.setIfInBounds_toArray, List.set_cons_zero, List.set_cons_succ]
                      have hcv := conv8 (HBD.out.below (hb7))
                      refine' tr 23 (fun K hK => ?_)
                      try simp only [List.getElem_toArray, List.getElem_cons_succ, List.getElem_cons_zero]
                      go_simp
                      refine hK.out _ _ ⟨((hb7).cell (p := ⟨gb, go, none⟩) HGB.out).trans s0, ((hb7).cell (p := ⟨w.heap.size, 0, none⟩) HAB.out).trans q0, ((hb7).cell (p := ⟨w.heap.size, 1, none⟩) HAB.out).trans q1⟩ (fun hHeld => ?_)
                      clear hK K
                      try simp only [List.getElem_toArray, List.getElem_cons_succ, List.getElem_cons_zero, Act.put, List.setIfInBounds_toArray, List.set_cons_zero, List.set_cons_succ]
                      clear hcv
                      refine' tk (v := .bool true) 30 ?_
                      try simp only [List.getElem_toArray, List.getElem_cons_succ, List.getElem_cons_zero, Act.put, List.setIfInBounds_toArray, List.set_cons_zero, List.set_cons_succ]
                      refine' tk 31 ?_
                      try simp only [List.getElem_toArray, List.getElem_cons_succ, List.getElem_cons_zero, Act.put, List.setIfInBounds_toArray, List.set_cons_zero, List.set_cons_succ]
                      refine' tk 32 ?_
                      try simp only [List.getElem_toArray, List.getElem_cons_succ, List.getElem_cons_zero, Act.put, List.setIfInBounds_toArray, List.set_cons_zero, List.set_cons_succ]
                      refine wpAnyH_done (by kernel_rfl) ?_ _
                      have HF7 := Lib.hid (HB1.out.trans ((G5.out.trans (hb7.mono G5.out.size)).mono HB1.out.size))
                      clear hHeld s0 q0 q1
                      go_wp2_with fail
                      go_ret
                      exact ⟨rfl, HF7.out⟩
          · have z : (R2 != 0) = true := by simpa using hR
            go_wp2_with fail
            go_ret
            exact ⟨rfl, HB1.out.trans (G4.out.mono HB1.out.size)⟩
        · obtain ⟨h1, h2, h3, h4⟩ := HP.out.2 (by omega)
          rw [HLL.out] at h1 h2
          rw [hy0] at h2
          obtain ⟨y1, hy1⟩ : ∃ y, (L[1]?.getD 0).toNat = y := ⟨_, rfl⟩
          have c1 := (HBR.out.cell (p := ⟨lb, loff + 1, none⟩) HLB.out).trans (HCELL.out 1 (by omega))
          rw [hy1] at c1 h4
          have hx : x = k := by rw [HNM.out]; exact h3
          subst hx
          have d1 : decide ((x : Int) < 128) = false := by simp; omega
          have d2 : decide (128 ≤ (x : Int)) = true := by simp; omega
          have d3 : decide ((j : Int) < 2) = false := by simp; omega
          have d4 : ((y0 : Int) != 127 + (j : Int)) = false := by simp; omega
          have d5 : ((y1 : Int) == 0) = false := by simp; omega
          have HQ := Lib.hid h2
          clear hp2 hp3 hy0 HP HNM hy1 h2 h3 hj1
          go_wp2_with fail
          refine hE.mono ?_
          rintro e v3 ⟨⟨bv, rfl, hbo⟩, hb⟩
          obtain ⟨ba', bn', bc', rfl⟩ := own8_sl hbo
          have G4 := Lib.hid (G3.out.trans (hb.mono G3.out.size))
          have HBO := Lib.hid hbo.bts
          clear hb hbo hE p0 p1 p2 p3 p4
          generalize dEncR T = R at *
          obtain ⟨R1, R2⟩ := R
          dsimp only at HDK HDO HFI HBO ⊢
          by_cases hR : R2 = 0
          · subst hR
            have hR1 : R1 = T.der := HDO.out rfl
            subst hR1
            have HKK := Lib.hid (show ∀ K ∈ T.kids, dEncR K = (K.der, 0) from fun K hK => HDK.out rfl K hK)
            clear HDK
            obtain ⟨hfn, hdz⟩ := HFI.out rfl
            have HFN := Lib.hid hfn
            have HDZ := Lib.hid hdz
            clear hfn hdz HFI HDO
            obtain ⟨p0, p1, p2, p3, p4⟩ := CA.out v3 G4.out
            dsimp only at p0 p1 p2 p3 p4
            simp only [Nat.zero_add] at p0 p1 p2 p3 p4
            cases kk with
            | false =>
              go_wp2_with fail
              go_ret
              exact ⟨rfl, HB1.out.trans (G4.out.mono HB1.out.size)⟩
            | true =>
              go_wp2_with fail
              go_loopw [104, 12] (fun i s wr => ∃ q : Nat, q ≤ kl ∧ i = .int .i64 (q : Int) ∧ s = .string (strOf (derL (T.kids.take q))) ∧ Below v3.heap.size v3 wr) (fun i _ _ => kl - (intOf i).toNat)
              case atStart => exact ⟨0, Nat.zero_le _, rfl, by rw [List.take_zero]; rfl, Below.refl _ _⟩
              case round =>
                obtain ⟨q, hq, rfl, rfl, hr⟩ := hrel
                have HBQ := Lib.hid hr
                have G5 := Lib.hid (G4.out.trans (hr.mono G4.out.size))
                obtain ⟨q0, q1, q2, q3, q4⟩ := CA.out _ G5.out
                dsimp only at q0 q1 q2 q3 q4
                simp only [Nat.zero_add] at q0 q1 q2 q3 q4
                have hkm : kl ≤ 9223372036854775807 := by have h1 := HCS.out.2.2.2.2.1; have h2 := HCS.out.2.2.2.2.2; unfold maxLen at h2; omega
                clear hr p0 p1 p2 p3 p4
                by_cases hlt : q < kl
                · have hk1 : q < T.kids.length := by rw [HCS.out.2.2.2.1]; exact hlt
                  obtain ⟨U, hc, hnu⟩ := HKD.out.cells
                  obtain ⟨kb, ko, hka, hkb, hcell⟩ := hc (by omega)
                  rw [hka] at q4
                  have hcu := (hcell q hlt).below G5.out hkb
                  have hnk := (hnu q hk1).under G5.out
                  have hmem := List.getElem_mem hk1
                  have hcm : (T.kids[q]).cnt ≤ T.cnt := by have := T.cnt_kids _ hmem; omega
                  have hdm : (T.kids[q]).dep ≤ T.dep := by have := T.dep_kids _ hmem; omega
                  have hwm : (T.kids[q]).wt ≤ T.wt := kid_wt T _ hmem
                  obtain ⟨X, hX⟩ : ∃ X, U q = X := ⟨_, rfl⟩
                  rw [hX] at hcu hnk
                  have hE2 := dEnc_any X T.kids[q] _ hnk (by have := b1.1; omega) (by have := b1.2.1; omega) (by have := b1.2.2; omega) (HT.out _ G5.out)
                  rw [HKK.out _ hmem] at hE2
                  have HDT := Lib.hid (derL_take T.kids q hk1)
                  have hs1 : (strOf (derL (T.kids.take q))).size ≤ 65536 := by
                    show (derL (T.kids.take q)).length ≤ _
                    rw [derL_length]
                    exact Nat.le_trans (dsizL_take_le _ _) (Nat.le_trans (kids_siz T) HDZ.out)
                  have hs2 : (strOf (T.kids[q]).der).size ≤ 65536 := by
                    show ((T.kids[q]).der).length ≤ _
                    rw [Tr.der_length]
                    exact Nat.le_trans (dsizL_mem hmem) (Nat.le_trans (kids_siz T) HDZ.out)
                  obtain ⟨xc, xt, xk, xa, xl, xm, ya, yl, ym⟩ := X
                  unfold NV.agg at hE2
                  dsimp only at hE2
                  obtain ⟨r0, r1, r2, r3, r4⟩ := hcu
                  dsimp only at r0 r1 r2 r3 r4
                  generalize T.kids[q] = K at *
                  clear hc hnu hcell hnk hmem hX hkb hka hcm hdm hwm
                  go_wp2_with fail
                  refine hE2.mono ?_
                  rintro e v6 ⟨⟨cv, rfl, hco⟩, hb⟩
                  obtain ⟨ca, cn, cc, rfl⟩ := own8_sl hco
                  have hcv := conv8 hco.bts
                  have hap := strOf_append (derL (T.kids.take q)) K.der
                  have HB6 := Lib.hid (HBQ.out.trans (hb.mono HBQ.out.size))
                  rw [← HDT.out] at hap
                  clear hb hco hE2 r0 r1 r2 r3 r4 q0 q1 q2 q3 q4
                  go_wp2_with fail
                  go_roundw
                  case rel => exact ⟨q + 1, by omega, by go_num, by first | rfl | rw [hap], HB6.out⟩
                  case measure => simp [intOf]; omega
                · obtain rfl : q = kl := by omega
                  rw [List.take_of_length_le (by rw [HCS.out.2.2.2.1]; exact Nat.le_refl _)]
                  clear hlt
                  go_wp2_with fail
                  have hBo := HBO.out.below HBQ.out
                  obtain ⟨D, hD⟩ : ∃ D, derL T.kids = D := ⟨_, rfl⟩
                  have hf1 : 0 ≤ c ∧ c ≤ 3 ∧ 0 ≤ t ∧ t ≤ 30 ∧ T.der = UInt8.ofNat (fstN c t true) :: (lenU D.length ++ D) := by
                    have h1 := HFN.out
                    have h2 := HCS.out
                    obtain ⟨c', t', k', l', ks'⟩ := T
                    obtain ⟨⟨a1, a2, a3, a4, a5, -⟩, -⟩ := h1
                    obtain ⟨e1, e2, e3, -⟩ := h2
                    simp only [Tr.cls, Tr.tag, Tr.cons] at e1 e2 e3
                    subst e1 e2 e3
                    refine ⟨a1, a2, a3, a4, ?_⟩
                    have e4 := a5 rfl
                    subst e4
                    have e5 : derL ks' = D := hD
                    simp only [Tr.der, ← e5, derL_length]
                    simp [u8s]
                  rw [hD]
                  obtain ⟨hc0, hc3, ht0, ht30, hder⟩ := hf1
                  have hlen : T.der.length ≤ 65536 := by rw [Tr.der_length]; exact HDZ.out
                  rw [hder] at hBo hlen
                  obtain ⟨nc, rfl⟩ : ∃ n : Nat, c = (n : Int) := ⟨c.toNat, by omega⟩
                  obtain ⟨nt, rfl⟩ : ∃ n : Nat, t = (n : Int) := ⟨t.toNat, by omega⟩
                  obtain ⟨m, hm⟩ : ∃ m, m = 64 * nc := ⟨_, rfl⟩
                  obtain ⟨m2, hm2⟩ : ∃ m2, m2 = m + 32 := ⟨_, rfl⟩
                  obtain ⟨f, hf⟩ : ∃ f, f = m2 + nt := ⟨_, rfl⟩
                  have hfs : fstN (nc : Int) (nt : Int) true = f := by unfold fstN; simp; omega
                  rw [hfs] at hBo hlen
                  have hf256 : f < 256 := by omega
                  have w1 : IntKind.i64.wrap (64 * (nc : Int)) = (m : Int) := by rw [IntKind.wrap_i64]; omega
                  have w2 : IntKind.i64.wrap ((m : Int) + 32) = (m2 : Int) := by rw [IntKind.wrap_i64]; omega
                  have w3 : IntKind.i64.wrap ((m2 : Int) + (nt : Int)) = (f : Int) := by rw [IntKind.wrap_i64]; omega
                  have w4 : wrap64 (f : Int) = (f : Int) := wrap64_sm f hf256
                  have w5 : IntKind.i64.wrap (f : Int) = (f : Int) := wrapi_sm f hf256
                  have hbl := hBo.length
                  have hlu := lenU_pos D.length
                  have hlu9 := lenU_le D.length
                  simp only [List.length_cons, List.length_append] at hbl hlen
                  obtain ⟨gb, go, hga, hgb, hgc⟩ := hBo.cells (by omega)
                  subst hga
                  have s0 := hgc 0 (by omega)
                  simp only [List.getElem?_cons_zero, Option.getD_some, UInt8.toNat_ofNat', Nat.add_zero] at s0
                  rw [show f % 2 ^ 8 = f from Nat.mod_eq_of_lt hf256] at s0
                  have hBd := hBo.drop (k := 1) (by omega)
                  simp only [List.drop_succ_cons, List.drop_zero] at hBd
                  have hcap := hBo.le
                  have hcm := hBo.max
                  unfold maxLen at hcm
                  have hn1 : (1 : Int) ≤ (bn' : Int) := by omega
                  have hc1 : (1 : Int) ≤ (bc' : Int) := by omega
                  have hc2 : ¬ bc' = 1 := by omega
                  have hn2 : (0 : Int) < (bn' : Int) := by omega
                  have hn3 : 0 < bn' := by omega
                  have hb64 : (bn' : Int) ≤ 65536 := by omega
                  obtain ⟨M, hM⟩ : ∃ M, D.length = M := ⟨_, rfl⟩
                  have hsz : (strOf D).size = M := hM
                  have hM6 : M ≤ 65536 := by omega
                  rw [hM] at hBd
                  have HAPP := Lib.hid (strOf_append (lenU M) D)
                  have HBD := Lib.hid hBd
                  have HGB := Lib.hid hgb
                  have HAB := Lib.hid (show w.heap.size < wr.heap.size from World.block_lt_of_cell? wr _ q0)
                  have HFE := Lib.hid hf
                  clear hBo hgb hgc hBd hbl hlen hlu hlu9 hder hfs hM hf hm2 hm hD q2 q3 q4
                  refine wp_region_held_drew (S := fun Y => Y.cell? ⟨gb, go, none⟩ = some (.int .u8 (f : Int)) ∧ Y.cell? ⟨w.heap.size, 0, none⟩ = some (.int .i64 (nc : Int)) ∧ Y.cell? ⟨w.heap.size, 1, none⟩ = some (.int .i64 (nt : Int))) (by kernel_rfl) ⟨s0, q0, q1⟩ (fun hHeld => ?_)
                  try simp only [List.getElem_toArray, List.getElem_cons_succ, List.getElem_cons_zero, Act.put, List.setIfInBounds_toArray, List.set_cons_zero, List.set_cons_succ]
                  refine' tk 0 ?_
                  try simp only [List.getElem_toArray, List.getElem_cons_succ, List.getElem_cons_zero, Act.put, List.setIfInBounds_toArray, List.set_cons_zero, List.set_cons_succ]
                  refine' tk 1 ?_
                  try simp only [List.getElem_toArray, List.getElem_cons_succ, List.getElem_cons_zero, Act.put, List.setIfInBounds_toArray, List.set_cons_zero, List.set_cons_succ]
                  refine' tk 2 ?_
                  try simp only [List.getElem_toArray, List.getElem_cons_succ, List.getElem_cons_zero, Act.put, List.setIfInBounds_toArray, List.set_cons_zero, List.set_cons_succ]
                  refine' tk 3 ?_
                  try simp only [List.getElem_toArray, List.getElem_cons_succ, List.getElem_cons_zero, Act.put, List.setIfInBounds_toArray, List.set_cons_zero, List.set_cons_succ]
                  refine' tk (v := .bool true) 4 ?_
                  try simp only [List.getElem_toArray, List.getElem_cons_succ, List.getElem_cons_zero, Act.put, List.setIfInBounds_toArray, List.set_cons_zero, List.set_cons_succ]
                  refine' tk 5 ?_
                  try simp only [List.getElem_toArray, List.getElem_cons_succ, List.getElem_cons_zero, Act.put, List.setIfInBounds_toArray, List.set_cons_zero, List.set_cons_succ]
                  refine' tk 6 ?_
                  try simp only [List.getElem_toArray, List.getElem_cons_succ, List.getElem_cons_zero, Act.put, List.setIfInBounds_toArray, List.set_cons_zero, List.set_cons_succ]
                  refine' tk 7 ?_
                  try simp only [List.getElem_toArray, List.getElem_cons_succ, List.getElem_cons_zero, Act.put, List.setIfInBounds_toArray, List.set_cons_zero, List.set_cons_succ]
                  refine' tk 8 ?_
                  try simp only [List.getElem_toArray, List.getElem_cons_succ, List.getElem_cons_zero, Act.put, List.setIfInBounds_toArray, List.set_cons_zero, List.set_cons_succ]
                  refine' tk 9 ?_
                  try simp only [List.getElem_toArray, List.getElem_cons_succ, List.getElem_cons_zero, Act.put, List.setIfInBounds_toArray, List.set_cons_zero, List.set_cons_succ]
                  refine' tk 10 ?_
                  try simp only [List.getElem_toArray, List.getElem_cons_succ, List.getElem_cons_zero, Act.put, List.setIfInBounds_toArray, List.set_cons_zero, List.set_cons_succ]
                  refine' tk 11 ?_
                  try simp only [List.getElem_toArray, List.getElem_cons_succ, List.getElem_cons_zero, Act.put, List.setIfInBounds_toArray, List.set_cons_zero, List.set_cons_succ]
                  refine' tk 12 ?_
                  try simp only [List.getElem_toArray, List.getElem_cons_succ, List.getElem_cons_zero, Act.put, List.setIfInBounds_toArray, List.set_cons_zero, List.set_cons_succ]
                  refine' tk 13 ?_
                  try simp only [List.getElem_toArray, List.getElem_cons_succ, List.getElem_cons_zero, Act.put, List.setIfInBounds_toArray, List.set_cons_zero, List.set_cons_succ]
                  refine' tk 14 ?_
                  try simp only [List.getElem_toArray, List.getElem_cons_succ, List.getElem_cons_zero, Act.put, List.setIfInBounds_toArray, List.set_cons_zero, List.set_cons_succ]
                  refine' tk 15 ?_
                  try simp only [List.getElem_toArray, List.getElem_cons_succ, List.getElem_cons_zero, Act.put, List.setIfInBounds_toArray, List.set_cons_zero, List.set_cons_succ]
                  refine' tk 16 ?_
                  try simp only [List.getElem_toArray, List.getElem_cons_succ, List.getElem_cons_zero, Act.put, List.setIfInBounds_toArray, List.set_cons_zero, List.set_cons_succ]
                  refine' tk 17 ?_
                  try simp only [List.getElem_toArray, List.getElem_cons_succ, List.getElem_cons_zero, Act.put, List.setIfInBounds_toArray, List.set_cons_zero, List.set_cons_succ]
                  refine' tk (v := .bool true) 18 ?_
                  try simp only [List.getElem_toArray, List.getElem_cons_succ, List.getElem_cons_zero, Act.put, List.setIfInBounds_toArray, List.set_cons_zero, List.set_cons_succ]
                  refine' tk 19 ?_
                  try simp only [List.getElem_toArray, List.getElem_cons_succ, List.getElem_cons_zero, Act.put, List.setIfInBounds_toArray, List.set_cons_zero, List.set_cons_succ]
                  refine' tk 20 ?_
                  try simp only [List.getElem_toArray, List.getElem_cons_succ, List.getElem_cons_zero, Act.put, List.setIfInBounds_toArray, List.set_cons_zero, List.set_cons_succ]
                  refine' tk 21 ?_
                  try simp only [List.getElem_toArray, List.getElem_cons_succ, List.getElem_cons_zero, Act.put, List.setIfInBounds_toArray, List.set_cons_zero, List.set_cons_succ]
                  refine' tk 22 ?_
                  try simp only [List.getElem_toArray, List.getElem_cons_succ, List.getElem_cons_zero, Act.put, List.setIfInBounds_toArray, List.set_cons_zero, List.set_cons_succ]
                  refine' tk 24 ?_
                  try simp only [List.getElem_toArray, List.getElem_cons_succ, List.getElem_cons_zero, Act.put, List.setIfInBounds_toArray, List.set_cons_zero, List.set_cons_succ]
                  refine' tk 25 ?_
                  try simp only [List.getElem_toArray, List.getElem_cons_succ, List.getElem_cons_zero, Act.put, List.setIfInBounds_toArray, List.set_cons_zero, List.set_cons_succ]
                  refine' tk 28 ?_
                  try simp only [List.getElem_toArray, List.getElem_cons_succ, List.getElem_cons_zero, Act.put, List.setIfInBounds_toArray, List.set_cons_zero, List.set_cons_succ]
                  have hap := HAPP.out
                  have hz1 : (strOf (lenU M)).size ≤ 9 := lenU_le M
                  have hz3 : (strOf (lenU M)).size + M ≤ 9223372036854775807 := by omega
                  refine wpAnyH_ready (rs := [23, 26]) (by kernel_rfl) (by simp) ?_
                  refine AllReadyH.cons (o := _) rfl (fun K hK => ?_) (AllReadyH.cons (o := _) rfl (fun K hK => ?_) AllReadyH.nil)
                  · skip
                    have hcv := conv8 (HBD.out.below ((Below.refl _ wr).drew))
                    try simp only [List.getElem_toArray, List.getElem_cons_succ, List.getElem_cons_zero]
                    go_simp
                    refine hK.out _ _ ⟨(((Below.refl _ wr).drew).cell (p := ⟨gb, go, none⟩) HGB.out).trans s0, (((Below.refl _ wr).drew).cell (p := ⟨w.heap.size, 0, none⟩) HAB.out).trans q0, (((Below.refl _ wr).drew).cell (p := ⟨w.heap.size, 1, none⟩) HAB.out).trans q1⟩ (fun hHeld => ?_)
                    clear hK K
                    try simp only [List.getElem_toArray, List.getElem_cons_succ, List.getElem_cons_zero, Act.put, List.setIfInBounds_toArray, List.set_cons_zero, List.set_cons_succ]
                    clear hcv
                    refine' tr 26 (fun K hK => ?_)
                    try simp only [List.getElem_toArray, List.getElem_cons_succ, List.getElem_cons_zero]
                    go_simp
                    refine (length_any (M : Int) (by omega) _).mono ?_
                    rintro e v7 ⟨⟨vl, rfl, ho7⟩, hb⟩
                    rw [if_neg (by omega), Int.toNat_natCast] at ho7
                    obtain ⟨xa, xn, xc, rfl⟩ := own8_sl ho7
                    have hl7 := ho7.bts
                    have hb7 : Below wr.heap.size wr v7 := (show Below wr.heap.size wr wr.drew from (Below.refl _ wr).drew).trans hb
                    clear hb ho7
                    refine hK.out _ _ ⟨(hb7.cell (p := ⟨gb, go, none⟩) HGB.out).trans s0, (hb7.cell (p := ⟨w.heap.size, 0, none⟩) HAB.out).trans q0, (hb7.cell (p := ⟨w.heap.size, 1, none⟩) HAB.out).trans q1⟩ (fun hHeld => ?_)
                    clear hK K
                    try simp only [List.getElem_toArray, List.getElem_cons_succ, List.getElem_cons_zero, Act.put, List.setIfInBounds_toArray, List.set_cons_zero, List.set_cons_succ]
                    refine' tr 27 (fun K hK => ?_)
                    have hcv2 := conv8 hl7
                    try simp only [List.getElem_toArray, List.getElem_cons_succ, List.getElem_cons_zero]
                    go_simp
                    refine hK.out _ _ ⟨(hb7.cell (p := ⟨gb, go, none⟩) HGB.out).trans s0, (hb7.cell (p := ⟨w.heap.size, 0, none⟩) HAB.out).trans q0, (hb7.cell (p := ⟨w.heap.size, 1, none⟩) HAB.out).trans q1⟩ (fun hHeld => ?_)
                    clear hK K
                    try simp only [List.getElem_toArray, List.getElem_cons_succ, List.getElem_cons_zero, Act.put, List.setIfInBounds_toArray, List.set_cons_zero, List.set_cons_succ]
                    clear hcv2
                    refine' tk (v := .string (strOf (lenU M ++ D))) 29 ?_
                    try simp only [List.getElem_toArray, List.getElem_cons_succ, List.getElem_cons_zero, Act.put, List.setIfInBounds_toArray, List.set_cons_zero, List.set_cons_succ]
                    refine' tk (v := .bool true) 30 ?_
                    try simp only [List.getElem_toArray, List.getElem_cons_succ, List.getElem_cons_zero, Act.put, List.setIfInBounds_toArray, List.set_cons_zero, List.set_cons_succ]
                    refine' tk 31 ?_
                    try simp only [List.getElem_toArray, List.getElem_cons_succ, List.getElem_cons_zero, Act.put, List.setIfInBounds_toArray, List.set_cons_zero, List.set_cons_succ]
                    refine' tk 32 ?_
                    try simp only [List.getElem_toArray, List.getElem_cons_succ, List.getElem_cons_zero, Act.put, List.setIfInBounds_toArray, List.set_cons_zero, List.set_cons_succ]
                    refine wpAnyH_done (by kernel_rfl) ?_ _
                    have HF7 := Lib.hid (HB1.out.trans ((G5.out.trans (hb7.mono G5.out.size)).mono HB1.out.size))
                    clear hHeld s0 q0 q1
                    go_wp2_with fail
                    go_ret
                    exact ⟨rfl, HF7.out⟩
                  · skip
                    try simp only [List.getElem_toArray, List.getElem_cons_succ, List.getElem_cons_zero]
                    go_simp
                    refine (length_any (M : Int) (by omega) _).mono ?_
                    rintro e v7 ⟨⟨vl, rfl, ho7⟩, hb⟩
                    rw [if_neg (by omega), Int.toNat_natCast] at ho7
                    obtain ⟨xa, xn, xc, rfl⟩ := own8_sl ho7
                    have hl7 := ho7.bts
                    have hb7 : Below wr.heap.size wr v7 := (show Below wr.heap.size wr wr.drew from (Below.refl _ wr).drew).trans hb
                    clear hb ho7
                    refine hK.out _ _ ⟨(hb7.cell (p := ⟨gb, go, none⟩) HGB.out).trans s0, (hb7.cell (p := ⟨w.heap.size, 0, none⟩) HAB.out).trans q0, (hb7.cell (p := ⟨w.heap.size, 1, none⟩) HAB.out).trans q1⟩ (fun hHeld => ?_)
                    clear hK K
                    try simp only [List.getElem_toArray, List.getElem_cons_succ, List.getElem_cons_zero, Act.put, List.setIfInBounds_toArray, List.set_cons_zero, List.set_cons_succ]
                    refine wpAnyH_ready (rs := [23, 27]) (by kernel_rfl) (by simp) ?_
                    refine AllReadyH.cons (o := _) rfl (fun K hK => ?_) (AllReadyH.cons (o := _) rfl (fun K hK => ?_) AllReadyH.nil)
                    · skip
                      have hcv := conv8 (HBD.out.below (hb7))
                      try simp only [List.getElem_toArray, List.getElem_cons_succ, List.getElem_cons_zero]
                      go_simp
                      refine hK.out _ _ ⟨((hb7).cell (p := ⟨gb, go, none⟩) HGB.out).trans s0, ((hb7).cell (p := ⟨w.heap.size, 0, none⟩) HAB.out).trans q0, ((hb7).cell (p := ⟨w.heap.size, 1, none⟩) HAB.out).trans q1⟩ (fun hHeld => ?_)
                      clear hK K
                      try simp only [List.getElem_toArray, List.getElem_cons_succ, List.getElem_cons_zero, Act.put, List.setIfInBounds_toArray, List.set_cons_zero, List.set_cons_succ]
                      clear hcv
                      refine' tr 27 (fun K hK => ?_)
                      have hcv2 := conv8 hl7
                      try simp only [List.getElem_toArray, List.getElem_cons_succ, List.getElem_cons_zero]
                      go_simp
                      refine hK.out _ _ ⟨(hb7.cell (p := ⟨gb, go, none⟩) HGB.out).trans s0, (hb7.cell (p := ⟨w.heap.size, 0, none⟩) HAB.out).trans q0, (hb7.cell (p := ⟨w.heap.size, 1, none⟩) HAB.out).trans q1⟩ (fun hHeld => ?_)
                      clear hK K
                      try simp only [List.getElem_toArray, List.getElem_cons_succ, List.getElem_cons_zero, Act.put, List.setIfInBounds_toArray, List.set_cons_zero, List.set_cons_succ]
                      clear hcv2
                      refine' tk (v := .string (strOf (lenU M ++ D))) 29 ?_
                      try simp only [List.getElem_toArray, List.getElem_cons_succ, List.getElem_cons_zero, Act.put, List.setIfInBounds_toArray, List.set_cons_zero, List.set_cons_succ]
                      refine' tk (v := .bool true) 30 ?_
                      try simp only [List.getElem_toArray, List.getElem_cons_succ, List.getElem_cons_zero, Act.put, List.setIfInBounds_toArray, List.set_cons_zero, List.set_cons_succ]
                      refine' tk 31 ?_
                      try simp only [List.getElem_toArray, List.getElem_cons_succ, List.getElem_cons_zero, Act.put, List.setIfInBounds_toArray, List.set_cons_zero, List.set_cons_succ]
                      refine' tk 32 ?_
                      try simp only [List.getElem_toArray, List.getElem_cons_succ, List.getElem_cons_zero, Act.put, List.setIfInBounds_toArray, List.set_cons_zero, List.set_cons_succ]
                      refine wpAnyH_done (by kernel_rfl) ?_ _
                      have HF7 := Lib.hid (HB1.out.trans ((G5.out.trans (hb7.mono G5.out.size)).mono HB1.out.size))
                      clear hHeld s0 q0 q1
                      go_wp2_with fail
                      go_ret
                      exact ⟨rfl, HF7.out⟩
                    · skip
                      have hcv2 := conv8 hl7
                      try simp only [List.getElem_toArray, List.getElem_cons_succ, List.getElem_cons_zero]
                      go_simp
                      refine hK.out _ _ ⟨(hb7.cell (p := ⟨gb, go, none⟩) HGB.out).trans s0, (hb7.cell (p := ⟨w.heap.size, 0, none⟩) HAB.out).trans q0, (hb7.cell (p := ⟨w.heap.size, 1, none⟩) HAB.out).trans q1⟩ (fun hHeld => ?_)
                      clear hK K
                      try simp only [List.getElem_toArray, List.getElem_cons_succ, List.getElem_cons_zero, Act.put, List.setIfInBounds_toArray, List.set_cons_zero, List.set_cons_succ]
                      clear hcv2
                      refine' tk (v := .string (strOf (lenU M ++ D))) 29 ?_
                      try simp only [List.getElem_toArray, List.getElem_cons_succ, List.getElem_cons_zero, Act.put, List.setIfInBounds_toArray, List.set_cons_zero, List.set_cons_succ]
                      have hcv := conv8 (HBD.out.below (hb7))
                      refine' tr 23 (fun K hK => ?_)
                      try simp only [List.getElem_toArray, List.getElem_cons_succ, List.getElem_cons_zero]
                      go_simp
                      refine hK.out _ _ ⟨((hb7).cell (p := ⟨gb, go, none⟩) HGB.out).trans s0, ((hb7).cell (p := ⟨w.heap.size, 0, none⟩) HAB.out).trans q0, ((hb7).cell (p := ⟨w.heap.size, 1, none⟩) HAB.out).trans q1⟩ (fun hHeld => ?_)
                      clear hK K
                      try simp only [List.getElem_toArray, List.getElem_cons_succ, List.getElem_cons_zero, Act.put, List.setIfInBounds_toArray, List.set_cons_zero, List.set_cons_succ]
                      clear hcv
                      refine' tk (v := .bool true) 30 ?_
                      try simp only [List.getElem_toArray, List.getElem_cons_succ, List.getElem_cons_zero, Act.put, List.setIfInBounds_toArray, List.set_cons_zero, List.set_cons_succ]
                      refine' tk 31 ?_
                      try simp only [List.getElem_toArray, List.getElem_cons_succ, List.getElem_cons_zero, Act.put, List.setIfInBounds_toArray, List.set_cons_zero, List.set_cons_succ]
                      refine' tk 32 ?_
                      try simp only [List.getElem_toArray, List.getElem_cons_succ, List.getElem_cons_zero, Act.put, List.setIfInBounds_toArray, List.set_cons_zero, List.set_cons_succ]
                      refine wpAnyH_done (by kernel_rfl) ?_ _
                      have HF7 := Lib.hid (HB1.out.trans ((G5.out.trans (hb7.mono G5.out.size)).mono HB1.out.size))
                      clear hHeld s0 q0 q1
                      go_wp2_with fail
                      go_ret
                      exact ⟨rfl, HF7.out⟩
          · have z : (R2 != 0) = true := by simpa using hR
            go_wp2_with fail
            go_ret
            exact ⟨rfl, HB1.out.trans (G4.out.mono HB1.out.size)⟩
end Go.Proofs.YtkmphiakciihfaaDoor
