/-
  THE LAW TreeParts, WALKED.
-/
import Derived.Test.YtbikghejedkkeaaDoorTcL
import Derived.Test.YtbikghejedkkeaaDoorTpA
import Derived.Test.YtbikghejedkkeaaDoorTrQ
import Derived.Test.YtbikghejedkkeaaDoorTpC
namespace Go.Proofs.YtbikghejedkkeaaDoor
open Go.RowKit

theorem asks_utf8 (w : World) (h : Tabs w) : Asks w (.func (.func 49) #[] #[]) validN :=
  ⟨49, #[], rfl, enters_of Tryd.func49 (by kernel_rfl) rfl, fun W a len cap l hb hr hx => by simpa using valid_any a len cap l W hr hx (tabs_below h hb)⟩

/-- What the bytes of every tag have to be. -/
abbrev qV : Int → List Nat → Bool := qC validN
theorem wantedV (t : Int) : WantedOk Tabs qV t := wantedC Tabs validN (fun _ w' h hb => asks_utf8 w' (tabs_below h hb)) t

theorem wrong_v (V : NV) (T : Tr) (w : World) (hn : NodeAt w V T) (hN : T.cnt ≤ 1000000) (hd : T.dep ≤ 1000000) (hl : Tabs w) :
    Calls Tryd.prog 10 #[V.agg] w fun e w' => e = .returned (.tuple #[.int .i64 (wrongR qV T).1, .int .i64 (wrongR qV T).2]) ∧ Below w.heap.size w w' :=
  wrong_any Tabs (fun _ _ h hb => tabs_below h hb) qV V T w hn hN hd hl (fun p _ => wantedV p.2.tag)

/-- What the rounds over the kids keep. -/
structure PrtI (w1 : World) (ks : List Tr) (N D : Nat) (F : Int) (k : Nat) (s mo f : Int) (wr : World) : Prop where
  sum : s + (cntL (ks.drop k) : Int) = (N : Int)
  one : 1 ≤ s
  most : max mo ((depL (ks.drop k) : Int) + 1) = (D : Int)
  mone : 1 ≤ mo
  first : (if f < 0 then firstK qV s (ks.drop k) else f) = F
  low : -1 ≤ f
  high : f ≤ (N : Int)
  below : Below w1.heap.size w1 wr

set_option maxHeartbeats 8000000 in
set_option maxRecDepth 100000 in
theorem parts_walk (V : NV) (T : Tr) (w : World) (hn : NodeAt w V T) (hT : Tabs w) :
    Calls Tryd.prog 6 #[V.agg] w fun e w' => e = .returned (.bool true) ∧ Below w.heap.size w w' := by
  obtain ⟨c, t, kk, ba, bl, bc, ka, kl, kc⟩ := V
  obtain ⟨w1, hw1⟩ : ∃ w1, w.alloc (.cells #[.int .i64 c, .int .i64 t, .bool kk, .slice ba bl bc, .slice ka kl kc] 25) = w1 := ⟨_, rfl⟩
  have hb1 : Below w.heap.size w w1 := by rw [← hw1]; exact (Below.refl _ _).alloc (Nat.le_refl _) _
  have hz1 : w1.heap.size = w.heap.size + 1 := by rw [← hw1]; simp
  have hcx : CellsAt w1 w.heap.size 0 ⟨c, t, kk, ba, bl, bc, ka, kl, kc⟩ := by rw [← hw1]; exact cells5 w c t kk ba bl bc ka kl kc _
  have HC := Lib.hid hcx
  have HN := Lib.hid (hn.under hb1)
  have HB1 := Lib.hid hb1
  have HZ := Lib.hid hz1
  have HT := Lib.hid (tabs_below hT hb1)
  have hkd := hn.kids.below hb1
  dsimp only at hkd
  have hkl := Lib.hid hkd.length
  have hkle := hkd.le
  have hkm := hkd.max
  unfold maxLen at hkm
  have HKD := Lib.hid hkd
  have HRT := Lib.hid (wrongR_range qV T)
  clear hb1 hz1 hcx hn hT hkd
  unfold NV.agg
  dsimp only
  go_enter Tryd.func6, Tryd.ntmps6
  go_wp2_with fail
  refine (alive_t w1).mono ?_
  rintro e w2 ⟨rfl, hb2⟩
  have HB := Lib.hid hb2
  obtain ⟨p0, p1, p2, p3, p4⟩ := HC.out.below HB.out HC.out.lt
  dsimp only at p0 p1 p2 p3 p4
  simp only [Nat.zero_add] at p0 p1 p2 p3 p4
  clear hb2
  go_wp2_with fail
  refine (great_any T ⟨c, t, kk, ba, bl, bc, ka, kl, kc⟩ w2 (HN.out.under HB.out)).mono ?_
  rintro e w3 ⟨rfl, hb3⟩
  have HB := Lib.hid (HB.out.trans (hb3.mono HB.out.size))
  clear hb3 p0 p1 p2 p3 p4 hw1
  cases hg : greatT T with
  | true =>
    go_wp2_with fail
    go_ret
    exact ⟨rfl, HB1.out.trans (HB.out.mono (by have := HZ.out; omega))⟩
  | false =>
    have HG := Lib.hid (great_no hg)
    clear hg
    obtain ⟨p0, p1, p2, p3, p4⟩ := HC.out.below HB.out HC.out.lt
    dsimp only at p0 p1 p2 p3 p4
    simp only [Nat.zero_add] at p0 p1 p2 p3 p4
    go_wp2_with fail
    refine (wrong_v ⟨c, t, kk, ba, bl, bc, ka, kl, kc⟩ T w3 (HN.out.under HB.out) (by have := HG.out; omega) (by have := HG.out; omega) (tabs_below HT.out HB.out)).mono ?_
    rintro e w4 ⟨rfl, hb4⟩
    have HB := Lib.hid (HB.out.trans (hb4.mono HB.out.size))
    have HPF := Lib.hid (parts_fine qV T)
    have HPW := Lib.hid (parts_wrong qV T)
    clear hb4 p0 p1 p2 p3 p4
    obtain ⟨p0, p1, p2, p3, p4⟩ := HC.out.below HB.out HC.out.lt
    dsimp only at p0 p1 p2 p3 p4
    simp only [Nat.zero_add] at p0 p1 p2 p3 p4
    generalize (wrongR qV T).1 = ru at *
    generalize (wrongR qV T).2 = at' at *
    go_wp2_with fail
    refine (count_any ⟨c, t, kk, ba, bl, bc, ka, kl, kc⟩ T w4 (HN.out.under HB.out) (by have := HG.out; omega) (by have := HG.out; omega)).mono ?_
    rintro e w5 ⟨rfl, hb5⟩
    have HB := Lib.hid (HB.out.trans (hb5.mono HB.out.size))
    clear hb5 p0 p1 p2 p3
    obtain ⟨p0, p1, p2, p3, p4⟩ := HC.out.below HB.out HC.out.lt
    dsimp only at p4
    simp only [Nat.zero_add] at p4
    clear p0 p1 p2 p3
    obtain ⟨ks, hks⟩ : ∃ ks, T.kids = ks := ⟨_, rfl⟩
    have hN : cntL ks + 1 = T.cnt := by rw [← hks]; cases T; rfl
    have hD : depL ks + 1 = T.dep := by rw [← hks]; cases T; rfl
    have hb4 : T.cnt ≤ 10000 ∧ T.dep ≤ 201 := HG.out.2
    rw [hks] at HKD HPF HPW hkl
    generalize T.cnt = N at *
    generalize T.dep = D at *
    obtain ⟨F, hF⟩ : ∃ F, firstK qV 1 ks = F := ⟨_, rfl⟩
    rw [hF] at HPF HPW
    have HF := Lib.hid hF
    have HND := Lib.hid (And.intro hN hD)
    obtain ⟨hn4, hd4⟩ := hb4
    clear hF hN hD hks
    go_wp2_with fail
    go_loopw [37, 8, 9, 10] (fun i s mo f wr => ∃ (k : Nat) (sv mv fv : Int), k ≤ kl ∧ i = .int .i64 (k : Int) ∧ s = .int .i64 sv ∧ mo = .int .i64 mv ∧ f = .int .i64 fv ∧ PrtI w1 ks N D F k sv mv fv wr) (fun i _ _ _ _ => kl - (intOf i).toNat)
    case atStart => exact ⟨0, 1, 1, -1, Nat.zero_le _, rfl, rfl, rfl, rfl, by have := HND.out.1; rw [List.drop_zero]; omega, Int.le_refl _, by have := HND.out.2; rw [List.drop_zero]; omega, Int.le_refl _, by rw [if_pos (by decide), List.drop_zero]; exact HF.out, Int.le_refl _, by omega, HB.out⟩
    case round =>
      obtain ⟨k, s, mo, f, hk, rfl, rfl, rfl, rfl, hr⟩ := hrel
      have HRL := Lib.hid hr
      have p4 := (HC.out.below hr.below HC.out.lt).c4
      dsimp only at p4
      rw [Nat.zero_add] at p4
      have e1 := hr.sum
      have e2 := hr.one
      have e3 := hr.most
      have e4 := hr.mone
      have e5 := hr.low
      have e6 := hr.high
      clear hr
      by_cases hlt : k < kl
      · have hk1 : k < ks.length := by rw [hkl.out]; exact hlt
        have hdr : ks.drop k = ks[k] :: ks.drop (k + 1) := List.drop_eq_getElem_cons hk1
        rw [hdr, cntL] at e1
        rw [hdr, depL] at e3
        have HDR := Lib.hid hdr
        clear hdr
        obtain ⟨U, hc, hnu⟩ := HKD.out.cells
        obtain ⟨b1, o1, rfl, hb1, hcell⟩ := hc (by omega)
        have hcu := (hcell k hlt).below HRL.out.below hb1
        have hnk := (hnu k hk1).under HRL.out.below
        obtain ⟨X, hX⟩ : ∃ X, U k = X := ⟨_, rfl⟩
        rw [hX] at hcu hnk
        have HCU := Lib.hid hcu
        have HNK := Lib.hid hnk
        have HRK := Lib.hid (wrongR_range qV ks[k])
        have HPK := Lib.hid (fun h => (HPF.out h).2.1 ks[k] (List.getElem_mem hk1))
        have HFK := Lib.hid (show (if f < 0 then (if 0 < (wrongR qV ks[k]).1 ∧ (wrongR qV ks[k]).1 < 5 then s + (wrongR qV ks[k]).2 else firstK qV (s + (ks[k].cnt : Int)) (ks.drop (k + 1))) else f) = F by
          have := HRL.out.first
          rw [HDR.out, firstK] at this
          exact this)
        obtain ⟨xc, xt, xk, xa, xl, xm, ya, yl, ym⟩ := X
        obtain ⟨r0, r1, r2, r3, r4⟩ := hcu
        dsimp only at r0 r1 r2 r3 r4
        clear hc hnu hcell hnk hX hb1 HDR
        have hkN : ks[k].cnt ≤ 10000 := by omega
        have hkD : ks[k].dep ≤ 201 := by omega
        generalize ks[k] = K at *
        go_wp2_with fail
        refine (wrong_v ⟨xc, xt, xk, xa, xl, xm, ya, yl, ym⟩ K wr HNK.out (by omega) (by omega) (tabs_below HT.out HRL.out.below)).mono ?_
        rintro e w6 ⟨rfl, hb6⟩
        have HU := Lib.hid hb6
        clear p4 r0 r1 r2 r3 r4 hb6
        obtain ⟨r0, r1, r2, r3, r4⟩ := HCU.out.below HU.out HCU.out.lt
        dsimp only at r0 r1 r2 r3 r4
        have p4 := (HC.out.below (HRL.out.below.trans (HU.out.mono HRL.out.below.size)) HC.out.lt).c4
        dsimp only at p4
        rw [Nat.zero_add] at p4
        go_wp2_with fail
        refine (count_any ⟨xc, xt, xk, xa, xl, xm, ya, yl, ym⟩ K w6 (HNK.out.under HU.out) (by omega) (by omega)).mono ?_
        rintro e w7 ⟨rfl, hb7⟩
        have HU := Lib.hid (HRL.out.below.trans ((HU.out.trans (hb7.mono HU.out.size)).mono HRL.out.below.size))
        clear p4 r0 r1 r2 r3 r4 hb7 HCU HNK
        obtain ⟨q1, q2, q3, q4, q5⟩ := HRK.out
        generalize (wrongR qV K).1 = r at *
        generalize (wrongR qV K).2 = a at *
        generalize K.cnt = n at *
        generalize K.dep = d at *
        have HE := Lib.hid (And.intro e1 e3)
        have hsn1 : s + (n : Int) ≤ 10000 := by omega
        have hd1 : (d : Int) + 1 ≤ 1000 := by omega
        clear e1 e3
        by_cases h0 : r = 0
        · have z1 : ¬ (0 < r) := by omega
          have z5 : -1 ≤ f := e5
          have HFL := Lib.hid (show (if f < 0 then firstK qV (s + (n : Int)) (ks.drop (k + 1)) else f) = F by
            have := HFK.out
            rw [if_neg (show ¬ (0 < r ∧ r < 5) by omega)] at this
            exact this)
          subst h0
          clear HFK q1 q2 q3 q4 q5 z1
          by_cases hru : ru = 0
          · subst hru
            go_wp2_with fail
            go_roundw
            case rel => exact ⟨k + 1, _, _, _, by omega, by go_num, rfl, rfl, rfl, by have := HE.out.1; omega, by omega, by have := HE.out.2; omega, by omega, HFL.out, by have := HE.out.1; omega, by have := HE.out.1; omega, HU.out⟩
            case measure => simp [intOf]; omega
          · have zr : (ru == 0) = false := by simpa using hru
            go_wp2_with fail
            go_roundw
            case rel => exact ⟨k + 1, _, _, _, by omega, by go_num, rfl, rfl, rfl, by have := HE.out.1; omega, by omega, by have := HE.out.2; omega, by omega, HFL.out, by have := HE.out.1; omega, by have := HE.out.1; omega, HU.out⟩
            case measure => simp [intOf]; omega
        · have hru : ru ≠ 0 := fun h => h0 (HPK.out h)
          have zr : (ru == 0) = false := by simpa using hru
          have z1 : 0 < r := by omega
          clear h0
          by_cases h5 : r < 5
          · by_cases hf : f < 0
            · have HFL := Lib.hid (show s + a = F by
                have := HFK.out
                rw [if_pos hf, if_pos ⟨z1, h5⟩] at this
                exact this)
              have hsa : 0 ≤ a := by omega
              have hsn : s + a ≤ (N : Int) := by have := HE.out.1; omega
              go_wp2_with fail
              go_roundw
              case rel => exact ⟨k + 1, _, _, _, by omega, by go_num, rfl, rfl, rfl, by have := HE.out.1; omega, by omega, by have := HE.out.2; omega, by omega, by rw [if_neg (by omega)]; exact HFL.out, by have := HE.out.1; omega, by have := HE.out.1; omega, HU.out⟩
              case measure => simp [intOf]; omega
            · have HFL := Lib.hid (show f = F by
                have := HFK.out
                rw [if_neg hf] at this
                exact this)
              go_wp2_with fail
              go_roundw
              case rel => exact ⟨k + 1, _, _, _, by omega, by go_num, rfl, rfl, rfl, by have := HE.out.1; omega, by omega, by have := HE.out.2; omega, by omega, by rw [if_neg (by omega)]; exact HFL.out, by have := HE.out.1; omega, by have := HE.out.1; omega, HU.out⟩
              case measure => simp [intOf]; omega
          · have HFL := Lib.hid (show (if f < 0 then firstK qV (s + (n : Int)) (ks.drop (k + 1)) else f) = F by
              have := HFK.out
              rw [if_neg (show ¬ (0 < r ∧ r < 5) by omega)] at this
              exact this)
            go_wp2_with fail
            go_roundw
            case rel => exact ⟨k + 1, _, _, _, by omega, by go_num, rfl, rfl, rfl, by have := HE.out.1; omega, by omega, by have := HE.out.2; omega, by omega, HFL.out, by have := HE.out.1; omega, by have := HE.out.1; omega, HU.out⟩
            case measure => simp [intOf]; omega
      · obtain rfl : k = kl := by omega
        have hnil : ks.drop k = [] := List.drop_of_length_le (by rw [hkl.out]; exact Nat.le_refl _)
        have hfin : f = F := by
          have := HRL.out.first
          rw [hnil, firstK] at this
          by_cases hf : f < 0
          · rw [if_pos hf] at this; omega
          · rw [if_neg hf] at this; exact this
        rw [hnil] at e1 e3
        have hs : s = (N : Int) := by simpa [cntL] using e1
        have hm : mo = (D : Int) := by
          have : max mo 1 = (D : Int) := by simpa [depL] using e3
          omega
        subst hfin hs hm
        have HBW := Lib.hid HRL.out.below
        clear hlt e1 e3 hnil HRL
        by_cases hru : ru = 0
        · obtain ⟨h1, -, h3⟩ := HPF.out hru
          subst hru h1 h3
          clear HRT HF HPF HPW
          go_wp2_with fail
          go_ret
          exact ⟨rfl, HB1.out.trans (HBW.out.mono (by have := HZ.out; omega))⟩
        · have zr : (ru == 0) = false := by simpa using hru
          have HW := HPW.out hru
          clear HRT HF HPF HPW
          by_cases ha : at' = 0
          · subst ha
            clear HW
            by_cases h4 : (4 : Int) < ru
            · go_wp2_with fail
              go_ret
              exact ⟨rfl, HB1.out.trans (HBW.out.mono (by have := HZ.out; omega))⟩
            · go_wp2_with fail
              go_ret
              exact ⟨rfl, HB1.out.trans (HBW.out.mono (by have := HZ.out; omega))⟩
          · have za : (at' == 0) = false := by simpa using ha
            have hE : at' = f := HW.resolve_left ha
            subst hE
            clear HW
            by_cases h4 : (4 : Int) < ru
            · go_wp2_with fail
              go_ret
              exact ⟨rfl, HB1.out.trans (HBW.out.mono (by have := HZ.out; omega))⟩
            · go_wp2_with fail
              go_ret
              exact ⟨rfl, HB1.out.trans (HBW.out.mono (by have := HZ.out; omega))⟩

end Go.Proofs.YtbikghejedkkeaaDoor
