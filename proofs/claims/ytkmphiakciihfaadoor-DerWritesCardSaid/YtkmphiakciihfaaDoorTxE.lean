/-
  THE REFERENCE: whether bytes fit a tag, the rule that a node breaks by itself, how deep a tree is.
-/
import Derived.Test.YtkmphiakciihfaaDoorTxD
import Derived.Test.YtkmphiakciihfaaDoorTpB
namespace Go.Proofs.YtkmphiakciihfaaDoor
open Go.RowKit

/-- What Fits answers. -/
def fitsN (t : Int) (l : List Nat) : Int := if hasB t = true then (if qV t l = true then 0 else 4) else 3
theorem fits_q {t : Int} {l : List Nat} (ht : hasB t = true) {b : Bool} (h : qV t l = b) : fitsN t l = if b = true then 0 else 4 := by unfold fitsN; rw [if_pos ht, h]

set_option maxHeartbeats 4000000 in
set_option maxRecDepth 100000 in
theorem rfits_any (t : Int) (a : Option Addr) (len cap : Nat) (l : List Nat) (w : World) (h : Reads .u8 w a len cap l) (hx : ∀ x ∈ l, x < 256) (hbig : len ≤ 1000000) :
    Calls Tryd.prog 73 #[.int .i64 t, .slice a len cap] w fun e w' => e = .returned (.int .i64 (fitsN t l)) ∧ w' = w := by
  have hm := h.len_le
  unfold maxLen at hm
  have hl := Lib.hid h.length
  by_cases ht : hasB t = true
  · have ht2 : t = 1 ∨ t = 2 ∨ t = 3 ∨ t = 4 ∨ t = 5 ∨ t = 6 ∨ t = 10 ∨ t = 12 ∨ t = 19 ∨ t = 22 ∨ t = 23 ∨ t = 24 := by simpa [hasB] using ht
    rcases ht2 with rfl | rfl | rfl | rfl | rfl | rfl | rfl | rfl | rfl | rfl | rfl | rfl
    · by_cases h1 : len = 1
      · subst h1
        obtain ⟨b, off, rfl, hlt, hc⟩ := h.cells (by omega)
        have c0 : w.cell? ⟨b, off, none⟩ = _ := hc 0 (by omega)
        have x0 := gN_lt hx 0
        have HQ := Lib.hid (show qV 1 l = (decide (gN l 0 = 0) || decide (gN l 0 = 255)) by simp [qC, boolB, hl.out])
        have e0 : (l[0]?.getD 0) = gN l 0 := rfl
        simp only [e0] at c0
        clear hc e0 h hx
        generalize gN l 0 = u at *
        by_cases u0 : u = 0
        · subst u0
          have HF := Lib.hid (show fitsN 1 l = 0 by rw [fits_q ht (show qV 1 l = true by rw [HQ.out]; rfl)]; rfl)
          clear HQ ht
          go_enter Tryd.func73, Tryd.ntmps73
          go_wp2_with fail
          go_ret
          exact ⟨ret_i64c HF.out.symm, rfl⟩
        · have z0 : ((u : Int) == 0) = false := by simp; omega
          by_cases u1 : u = 255
          · subst u1
            have HF := Lib.hid (show fitsN 1 l = 0 by rw [fits_q ht (show qV 1 l = true by rw [HQ.out]; rfl)]; rfl)
            clear HQ ht
            go_enter Tryd.func73, Tryd.ntmps73
            go_wp2_with fail
            go_ret
            exact ⟨ret_i64c HF.out.symm, rfl⟩
          · have z1 : ((u : Int) == 255) = false := by simp; omega
            have HF := Lib.hid (show fitsN 1 l = 4 by rw [fits_q ht (show qV 1 l = false by rw [HQ.out, decide_eq_false u0, decide_eq_false u1]; rfl)]; rfl)
            clear HQ ht u0 u1
            go_enter Tryd.func73, Tryd.ntmps73
            go_wp2_with fail
            go_ret
            exact ⟨ret_i64c HF.out.symm, rfl⟩
      · have z1 : ((len : Int) == 1) = false := by simp; omega
        have HF := Lib.hid (show fitsN 1 l = 4 by rw [fits_q ht (show qV 1 l = false by simp [qC, boolB, hl.out, h1])]; rfl)
        clear ht h1 hx
        go_enter Tryd.func73, Tryd.ntmps73
        go_wp2_with fail
        go_ret
        exact ⟨ret_i64c HF.out.symm, rfl⟩
    · have HC := Lib.hid (rnumber_any a len cap l w h hx)
      have HQ := Lib.hid (show qV 2 l = intB l by simp [qC])
      clear h hx
      go_enter Tryd.func73, Tryd.ntmps73
      go_wp2_with fail
      refine HC.out.mono ?_
      rintro e w' ⟨rfl, hw'⟩
      obtain rfl : w = w' := hw'.symm
      clear HC
      cases hb : (intB l) with
      | true =>
        have HF := Lib.hid (show fitsN 2 l = 0 by rw [fits_q ht (show qV 2 l = true by rw [HQ.out]; exact hb)]; rfl)
        clear hb HQ ht
        go_wp2_with fail
        go_ret
        exact ⟨ret_i64c HF.out.symm, rfl⟩
      | false =>
        have HF := Lib.hid (show fitsN 2 l = 4 by rw [fits_q ht (show qV 2 l = false by rw [HQ.out]; exact hb)]; rfl)
        clear hb HQ ht
        go_wp2_with fail
        go_ret
        exact ⟨ret_i64c HF.out.symm, rfl⟩
    · have HC := Lib.hid (rbits_any a len cap l w h hx)
      have HQ := Lib.hid (show qV 3 l = bitsB l by simp [qC])
      clear h hx
      go_enter Tryd.func73, Tryd.ntmps73
      go_wp2_with fail
      refine HC.out.mono ?_
      rintro e w' ⟨rfl, hw'⟩
      obtain rfl : w = w' := hw'.symm
      clear HC
      cases hb : (bitsB l) with
      | true =>
        have HF := Lib.hid (show fitsN 3 l = 0 by rw [fits_q ht (show qV 3 l = true by rw [HQ.out]; exact hb)]; rfl)
        clear hb HQ ht
        go_wp2_with fail
        go_ret
        exact ⟨ret_i64c HF.out.symm, rfl⟩
      | false =>
        have HF := Lib.hid (show fitsN 3 l = 4 by rw [fits_q ht (show qV 3 l = false by rw [HQ.out]; exact hb)]; rfl)
        clear hb HQ ht
        go_wp2_with fail
        go_ret
        exact ⟨ret_i64c HF.out.symm, rfl⟩
    · skip
      have HF := Lib.hid (show fitsN 4 l = 0 by rw [fits_q ht (show qV 4 l = true by simp [qC])]; rfl)
      clear ht hx
      go_enter Tryd.func73, Tryd.ntmps73
      go_wp2_with fail
      go_ret
      exact ⟨ret_i64c HF.out.symm, rfl⟩
    · by_cases h0 : len = 0
      · have z0 : ((len : Int) == 0) = true := by simp [h0]
        have HF := Lib.hid (show fitsN 5 l = 0 by rw [fits_q ht (show qV 5 l = true by simp [qC, hl.out, h0])]; rfl)
        clear ht h0 hx
        go_enter Tryd.func73, Tryd.ntmps73
        go_wp2_with fail
        go_ret
        exact ⟨ret_i64c HF.out.symm, rfl⟩
      · have z0 : ((len : Int) == 0) = false := by simp; omega
        have HF := Lib.hid (show fitsN 5 l = 4 by rw [fits_q ht (show qV 5 l = false by show qC validN 5 l = false; unfold qC; simp [hl.out, h0])]; rfl)
        clear ht h0 hx
        go_enter Tryd.func73, Tryd.ntmps73
        go_wp2_with fail
        go_ret
        exact ⟨ret_i64c HF.out.symm, rfl⟩
    · have HC := Lib.hid (roid_any a len cap l w h hx)
      have HQ := Lib.hid (show qV 6 l = oidB l by simp [qC])
      clear h hx
      go_enter Tryd.func73, Tryd.ntmps73
      go_wp2_with fail
      refine HC.out.mono ?_
      rintro e w' ⟨rfl, hw'⟩
      obtain rfl : w = w' := hw'.symm
      clear HC
      cases hb : (oidB l) with
      | true =>
        have HF := Lib.hid (show fitsN 6 l = 0 by rw [fits_q ht (show qV 6 l = true by rw [HQ.out]; exact hb)]; rfl)
        clear hb HQ ht
        go_wp2_with fail
        go_ret
        exact ⟨ret_i64c HF.out.symm, rfl⟩
      | false =>
        have HF := Lib.hid (show fitsN 6 l = 4 by rw [fits_q ht (show qV 6 l = false by rw [HQ.out]; exact hb)]; rfl)
        clear hb HQ ht
        go_wp2_with fail
        go_ret
        exact ⟨ret_i64c HF.out.symm, rfl⟩
    · have HC := Lib.hid (rnumber_any a len cap l w h hx)
      have HQ := Lib.hid (show qV 10 l = intB l by simp [qC])
      clear h hx
      go_enter Tryd.func73, Tryd.ntmps73
      go_wp2_with fail
      refine HC.out.mono ?_
      rintro e w' ⟨rfl, hw'⟩
      obtain rfl : w = w' := hw'.symm
      clear HC
      cases hb : (intB l) with
      | true =>
        have HF := Lib.hid (show fitsN 10 l = 0 by rw [fits_q ht (show qV 10 l = true by rw [HQ.out]; exact hb)]; rfl)
        clear hb HQ ht
        go_wp2_with fail
        go_ret
        exact ⟨ret_i64c HF.out.symm, rfl⟩
      | false =>
        have HF := Lib.hid (show fitsN 10 l = 4 by rw [fits_q ht (show qV 10 l = false by rw [HQ.out]; exact hb)]; rfl)
        clear hb HQ ht
        go_wp2_with fail
        go_ret
        exact ⟨ret_i64c HF.out.symm, rfl⟩
    · have HC := Lib.hid (rvalid_any a len cap l w h hx hbig)
      have HQ := Lib.hid (show qV 12 l = validN l by simp [qC])
      clear h hx
      go_enter Tryd.func73, Tryd.ntmps73
      go_wp2_with fail
      refine HC.out.mono ?_
      rintro e w' ⟨rfl, hw'⟩
      obtain rfl : w = w' := hw'.symm
      clear HC
      cases hb : (validN l) with
      | true =>
        have HF := Lib.hid (show fitsN 12 l = 0 by rw [fits_q ht (show qV 12 l = true by rw [HQ.out]; exact hb)]; rfl)
        clear hb HQ ht
        go_wp2_with fail
        go_ret
        exact ⟨ret_i64c HF.out.symm, rfl⟩
      | false =>
        have HF := Lib.hid (show fitsN 12 l = 4 by rw [fits_q ht (show qV 12 l = false by rw [HQ.out]; exact hb)]; rfl)
        clear hb HQ ht
        go_wp2_with fail
        go_ret
        exact ⟨ret_i64c HF.out.symm, rfl⟩
    · have HC := Lib.hid (reach19_any a len cap l w h hx)
      have HQ := Lib.hid (show qV 19 l = l.all printB by simp [qC])
      clear h hx
      go_enter Tryd.func73, Tryd.ntmps73
      go_wp2_with fail
      refine HC.out.mono ?_
      rintro e w' ⟨rfl, hw'⟩
      obtain rfl : w = w' := hw'.symm
      clear HC
      cases hb : (l.all printB) with
      | true =>
        have HF := Lib.hid (show fitsN 19 l = 0 by rw [fits_q ht (show qV 19 l = true by rw [HQ.out]; exact hb)]; rfl)
        clear hb HQ ht
        go_wp2_with fail
        go_ret
        exact ⟨ret_i64c HF.out.symm, rfl⟩
      | false =>
        have HF := Lib.hid (show fitsN 19 l = 4 by rw [fits_q ht (show qV 19 l = false by rw [HQ.out]; exact hb)]; rfl)
        clear hb HQ ht
        go_wp2_with fail
        go_ret
        exact ⟨ret_i64c HF.out.symm, rfl⟩
    · have HC := Lib.hid (reach22_any a len cap l w h hx)
      have HQ := Lib.hid (show qV 22 l = l.all (fun x => decide (x < 128)) by simp [qC])
      clear h hx
      go_enter Tryd.func73, Tryd.ntmps73
      go_wp2_with fail
      refine HC.out.mono ?_
      rintro e w' ⟨rfl, hw'⟩
      obtain rfl : w = w' := hw'.symm
      clear HC
      cases hb : (l.all (fun x => decide (x < 128))) with
      | true =>
        have HF := Lib.hid (show fitsN 22 l = 0 by rw [fits_q ht (show qV 22 l = true by rw [HQ.out]; exact hb)]; rfl)
        clear hb HQ ht
        go_wp2_with fail
        go_ret
        exact ⟨ret_i64c HF.out.symm, rfl⟩
      | false =>
        have HF := Lib.hid (show fitsN 22 l = 4 by rw [fits_q ht (show qV 22 l = false by rw [HQ.out]; exact hb)]; rfl)
        clear hb HQ ht
        go_wp2_with fail
        go_ret
        exact ⟨ret_i64c HF.out.symm, rfl⟩
    · have HC := Lib.hid (rutc_any a len cap l w h hx)
      have HQ := Lib.hid (show qV 23 l = shortB l by simp [qC])
      clear h hx
      go_enter Tryd.func73, Tryd.ntmps73
      go_wp2_with fail
      refine HC.out.mono ?_
      rintro e w' ⟨rfl, hw'⟩
      obtain rfl : w = w' := hw'.symm
      clear HC
      cases hb : (shortB l) with
      | true =>
        have HF := Lib.hid (show fitsN 23 l = 0 by rw [fits_q ht (show qV 23 l = true by rw [HQ.out]; exact hb)]; rfl)
        clear hb HQ ht
        go_wp2_with fail
        go_ret
        exact ⟨ret_i64c HF.out.symm, rfl⟩
      | false =>
        have HF := Lib.hid (show fitsN 23 l = 4 by rw [fits_q ht (show qV 23 l = false by rw [HQ.out]; exact hb)]; rfl)
        clear hb HQ ht
        go_wp2_with fail
        go_ret
        exact ⟨ret_i64c HF.out.symm, rfl⟩
    · have HC := Lib.hid (rtime_any a len cap l w h hx)
      have HQ := Lib.hid (show qV 24 l = timeB l by simp [qC])
      clear h hx
      go_enter Tryd.func73, Tryd.ntmps73
      go_wp2_with fail
      refine HC.out.mono ?_
      rintro e w' ⟨rfl, hw'⟩
      obtain rfl : w = w' := hw'.symm
      clear HC
      cases hb : (timeB l) with
      | true =>
        have HF := Lib.hid (show fitsN 24 l = 0 by rw [fits_q ht (show qV 24 l = true by rw [HQ.out]; exact hb)]; rfl)
        clear hb HQ ht
        go_wp2_with fail
        go_ret
        exact ⟨ret_i64c HF.out.symm, rfl⟩
      | false =>
        have HF := Lib.hid (show fitsN 24 l = 4 by rw [fits_q ht (show qV 24 l = false by rw [HQ.out]; exact hb)]; rfl)
        clear hb HQ ht
        go_wp2_with fail
        go_ret
        exact ⟨ret_i64c HF.out.symm, rfl⟩
  · have HF := Lib.hid (show fitsN t l = 3 by unfold fitsN; rw [if_neg ht])
    have ht2 : ¬ (t = 1 ∨ t = 2 ∨ t = 3 ∨ t = 4 ∨ t = 5 ∨ t = 6 ∨ t = 10 ∨ t = 12 ∨ t = 19 ∨ t = 22 ∨ t = 23 ∨ t = 24) := by simpa [hasB] using ht
    have n1 : (t == 1) = false := by simp; omega
    have n2 : (t == 2) = false := by simp; omega
    have n3 : (t == 3) = false := by simp; omega
    have n4 : (t == 4) = false := by simp; omega
    have n5 : (t == 5) = false := by simp; omega
    have n6 : (t == 6) = false := by simp; omega
    have n10 : (t == 10) = false := by simp; omega
    have n12 : (t == 12) = false := by simp; omega
    have n19 : (t == 19) = false := by simp; omega
    have n22 : (t == 22) = false := by simp; omega
    have n23 : (t == 23) = false := by simp; omega
    have n24 : (t == 24) = false := by simp; omega
    clear ht ht2 h hx
    go_enter Tryd.func73, Tryd.ntmps73
    go_wp2_with fail
    go_ret
    exact ⟨ret_i64c HF.out.symm, rfl⟩

set_option maxHeartbeats 4000000 in
set_option maxRecDepth 100000 in
theorem rbreaks_any (V : NV) (T : Tr) (w : World) (hn : NodeAt w V T) (hbig : T.b.length ≤ 1000000) :
    Calls Tryd.prog 66 #[V.agg] w fun e w' => e = .returned (.int .i64 (brokenN qV T)) ∧ Below w.heap.size w w' := by
  obtain ⟨c, t, kk, ba, bl, bc, ka, kl, kc⟩ := V
  have e1 := hn.cls
  have e2 := hn.tag
  have e3 := hn.cons
  have hby := hn.bytes
  have hkd := hn.kids
  dsimp only at e1 e2 e3 hby hkd
  have hbm := hby.len_le
  have hkm := Nat.le_trans hkd.le hkd.max
  unfold maxLen at hbm hkm
  obtain ⟨w1, hw1⟩ : ∃ w1, w.alloc (.cells #[.int .i64 c, .int .i64 t, .bool kk, .slice ba bl bc, .slice ka kl kc] 25) = w1 := ⟨_, rfl⟩
  have hb1 : Below w.heap.size w w1 := by rw [← hw1]; exact (Below.refl _ _).alloc (Nat.le_refl _) _
  obtain ⟨p0, p1, p2, p3, p4⟩ : CellsAt w1 w.heap.size 0 ⟨c, t, kk, ba, bl, bc, ka, kl, kc⟩ := by rw [← hw1]; exact cells5 w c t kk ba bl bc ka kl kc _
  dsimp only at p0 p1 p2 p3 p4
  simp only [Nat.zero_add] at p0 p1 p2 p3 p4
  have hB : brokenN qV T = (if c < 0 ∨ 3 < c ∨ t < 0 ∨ 30 < t then 1 else if (kk = true ∧ bl ≠ 0) ∨ (kk = false ∧ kl ≠ 0) then 2 else if c ≠ 0 then 0 else if t = 16 ∨ t = 17 then (if kk then 0 else 3) else if kk = true then 3 else fitsN t T.b) := by
    have q1 : T.b ≠ [] ↔ bl ≠ 0 := by rw [← hby.length]; cases T.b <;> simp
    have q2 : T.kids ≠ [] ↔ kl ≠ 0 := by rw [← hkd.length]; cases T.kids <;> simp
    unfold brokenN fitsN
    simp only [e1, e2, e3, q1, q2]
    cases kk <;> cases hasB t <;> simp
  have HB := Lib.hid hB
  have HFT := Lib.hid (rfits_any t ba bl bc T.b w1 (hby.below hb1) hn.small (by rw [← hby.length]; exact hbig))
  have HB1 := Lib.hid hb1
  clear hn hb1 hB e1 e2 e3 hby hkd
  unfold NV.agg
  dsimp only
  by_cases a0 : c < 0
  · skip
    have HF := Lib.hid (show brokenN qV T = 1 by rw [HB.out]; exact if_pos (by omega))
    clear HB HFT
    go_enter Tryd.func66, Tryd.ntmps66
    go_wp2_with fail
    go_ret
    exact ⟨ret_i64c HF.out.symm, HB1.out⟩
  · skip
    by_cases a1 : 3 < c
    · skip
      have HF := Lib.hid (show brokenN qV T = 1 by rw [HB.out]; exact if_pos (by omega))
      clear HB HFT
      go_enter Tryd.func66, Tryd.ntmps66
      go_wp2_with fail
      go_ret
      exact ⟨ret_i64c HF.out.symm, HB1.out⟩
    · skip
      by_cases a2 : t < 0
      · skip
        have HF := Lib.hid (show brokenN qV T = 1 by rw [HB.out]; exact if_pos (by omega))
        clear HB HFT
        go_enter Tryd.func66, Tryd.ntmps66
        go_wp2_with fail
        go_ret
        exact ⟨ret_i64c HF.out.symm, HB1.out⟩
      · skip
        by_cases a3 : 30 < t
        · skip
          have HF := Lib.hid (show brokenN qV T = 1 by rw [HB.out]; exact if_pos (by omega))
          clear HB HFT
          go_enter Tryd.func66, Tryd.ntmps66
          go_wp2_with fail
          go_ret
          exact ⟨ret_i64c HF.out.symm, HB1.out⟩
        · skip
          have HN1 := Lib.hid (show ¬ (c < 0 ∨ 3 < c ∨ t < 0 ∨ 30 < t) by omega)
          cases kk with
          | true =>
            by_cases b0 : bl = 0
            · have HN2 := Lib.hid (show ¬ ((true = true ∧ bl ≠ 0) ∨ (true = false ∧ kl ≠ 0)) by simp [b0])
              subst b0
              by_cases c0 : c = 0
              · subst c0
                by_cases t16 : t = 16 ∨ t = 17
                · have HF := Lib.hid (show brokenN qV T = 0 by rw [HB.out, if_neg HN1.out, if_neg HN2.out, if_neg (by simp), if_pos t16]; rfl)
                  clear HB HFT HN1 HN2
                  rcases t16 with rfl | rfl
                  all_goals
                    go_enter Tryd.func66, Tryd.ntmps66
                    go_wp2_with fail
                    go_ret
                    exact ⟨ret_i64c HF.out.symm, HB1.out⟩
                · have n16 : (t == 16) = false := by simp; omega
                  have n17 : (t == 17) = false := by simp; omega
                  have HF := Lib.hid (show brokenN qV T = 3 by rw [HB.out, if_neg HN1.out, if_neg HN2.out, if_neg (by simp), if_neg t16, if_pos rfl])
                  clear HB HFT HN1 HN2 t16
                  go_enter Tryd.func66, Tryd.ntmps66
                  go_wp2_with fail
                  go_ret
                  exact ⟨ret_i64c HF.out.symm, HB1.out⟩
              · have zc : (0 : Int) < c := by omega
                have HF := Lib.hid (show brokenN qV T = 0 by rw [HB.out, if_neg HN1.out, if_neg HN2.out, if_pos c0])
                clear HB HFT HN1 HN2 c0
                go_enter Tryd.func66, Tryd.ntmps66
                go_wp2_with fail
                go_ret
                exact ⟨ret_i64c HF.out.symm, HB1.out⟩
            · have zb : (0 : Int) < (bl : Int) := by omega
              have HF := Lib.hid (show brokenN qV T = 2 by rw [HB.out, if_neg HN1.out, if_pos (.inl ⟨rfl, b0⟩)])
              clear HB HFT HN1
              go_enter Tryd.func66, Tryd.ntmps66
              go_wp2_with fail
              go_ret
              exact ⟨ret_i64c HF.out.symm, HB1.out⟩
          | false =>
            by_cases b0 : kl = 0
            · have HN2 := Lib.hid (show ¬ ((false = true ∧ bl ≠ 0) ∨ (false = false ∧ kl ≠ 0)) by simp [b0])
              subst b0
              by_cases c0 : c = 0
              · subst c0
                by_cases t16 : t = 16 ∨ t = 17
                · have HF := Lib.hid (show brokenN qV T = 3 by rw [HB.out, if_neg HN1.out, if_neg HN2.out, if_neg (by simp), if_pos t16]; rfl)
                  clear HB HFT HN1 HN2
                  rcases t16 with rfl | rfl
                  all_goals
                    go_enter Tryd.func66, Tryd.ntmps66
                    go_wp2_with fail
                    go_ret
                    exact ⟨ret_i64c HF.out.symm, HB1.out⟩
                · have n16 : (t == 16) = false := by simp; omega
                  have n17 : (t == 17) = false := by simp; omega
                  have HF := Lib.hid (show brokenN qV T = fitsN t T.b by rw [HB.out, if_neg HN1.out, if_neg HN2.out, if_neg (by simp), if_neg t16, if_neg (by simp)])
                  clear HB HN1 HN2 t16
                  go_enter Tryd.func66, Tryd.ntmps66
                  go_wp2_with fail
                  refine HFT.out.mono ?_
                  rintro e w2 ⟨rfl, hw2⟩
                  obtain rfl := hw2
                  clear HFT
                  go_wp2_with fail
                  go_ret
                  exact ⟨ret_i64c HF.out.symm, HB1.out⟩
              · have zc : (0 : Int) < c := by omega
                have HF := Lib.hid (show brokenN qV T = 0 by rw [HB.out, if_neg HN1.out, if_neg HN2.out, if_pos c0])
                clear HB HFT HN1 HN2 c0
                go_enter Tryd.func66, Tryd.ntmps66
                go_wp2_with fail
                go_ret
                exact ⟨ret_i64c HF.out.symm, HB1.out⟩
            · have zb : (0 : Int) < (kl : Int) := by omega
              have HF := Lib.hid (show brokenN qV T = 2 by rw [HB.out, if_neg HN1.out, if_pos (.inr ⟨rfl, b0⟩)])
              clear HB HFT HN1
              go_enter Tryd.func66, Tryd.ntmps66
              go_wp2_with fail
              go_ret
              exact ⟨ret_i64c HF.out.symm, HB1.out⟩

def DeepOk (T : Tr) : Prop := ∀ (V : NV) (w : World), NodeAt w V T → T.dep ≤ 1000000 → Calls Tryd.prog 64 #[V.agg] w fun e w' => e = .returned (.int .i64 (T.dep : Nat)) ∧ Below w.heap.size w w'

structure DepI (w1 : World) (ks : List Tr) (k n : Nat) (wr : World) : Prop where
  most : max n (depL (ks.drop k)) = depL ks
  below : Below w1.heap.size w1 wr

set_option maxHeartbeats 4000000 in
set_option maxRecDepth 100000 in
theorem deep_of (c t : Int) (kk : Bool) (l : List Nat) (ks : List Tr) (hI : ∀ T ∈ ks, DeepOk T) : DeepOk (.mk c t kk l ks) := by
  intro V w hn hdp
  have hkd := hn.kids
  obtain ⟨vc, vt, vk, ba, bl, bc, ka, kl, kc⟩ := V
  dsimp only at hkd
  simp only [Tr.kids] at hkd
  simp only [Tr.dep] at hdp ⊢
  have hkl := Lib.hid hkd.length
  have hkle := hkd.le
  have hkm := hkd.max
  unfold maxLen at hkm
  obtain ⟨w1, hw1⟩ : ∃ w1, w.alloc (.cells #[.int .i64 vc, .int .i64 vt, .bool vk, .slice ba bl bc, .slice ka kl kc] 25) = w1 := ⟨_, rfl⟩
  have hz1 : w1.heap.size = w.heap.size + 1 := by rw [← hw1]; simp
  have hb1 : Below w.heap.size w w1 := by rw [← hw1]; exact (Below.refl _ _).alloc (Nat.le_refl _) _
  have ca : CellsAt w1 w.heap.size 0 ⟨vc, vt, vk, ba, bl, bc, ka, kl, kc⟩ := by rw [← hw1]; exact cells5 w vc vt vk ba bl bc ka kl kc _
  have CA := Lib.hid ca
  have HB1 := Lib.hid hb1
  have HZ := Lib.hid hz1
  have HKD := Lib.hid (hkd.below hb1)
  have HI := Lib.hid hI
  clear hn hkd hb1 hz1 hI ca
  unfold NV.agg
  dsimp only
  go_enter Tryd.func64, Tryd.ntmps64
  go_wp2_with fail
  clear hw1
  go_loopw [4, 3] (fun i m wr => ∃ (k n : Nat), k ≤ kl ∧ i = .int .i64 (k : Int) ∧ m = .int .i64 (n : Int) ∧ DepI w1 ks k n wr) (fun i _ _ => kl - (intOf i).toNat)
  case atStart => exact ⟨0, 0, Nat.zero_le _, rfl, rfl, by rw [List.drop_zero]; omega, Below.refl _ _⟩
  case round =>
    obtain ⟨k, n, hk, rfl, rfl, hr⟩ := hrel
    have hmo := hr.most
    have HBW := Lib.hid hr.below
    have p4 := (CA.out.below HBW.out CA.out.lt).c4
    dsimp only at p4
    rw [Nat.zero_add] at p4
    clear hr
    by_cases hlt : k < kl
    · have hk1 : k < ks.length := by rw [hkl.out]; exact hlt
      rw [List.drop_eq_getElem_cons hk1, depL] at hmo
      obtain ⟨U, hc, hnu⟩ := HKD.out.cells
      obtain ⟨b1, o1, rfl, hb1, hcell⟩ := hc (by omega)
      have hcu := (hcell k hlt).below HBW.out hb1
      have hnk := (hnu k hk1).under HBW.out
      obtain ⟨X, hX⟩ : ∃ X, U k = X := ⟨_, rfl⟩
      rw [hX] at hcu hnk
      have HOK := Lib.hid (HI.out ks[k] (List.getElem_mem hk1) X wr hnk (by omega))
      obtain ⟨xc, xt, xk, xa, xl, xm, ya, yl, ym⟩ := X
      unfold NV.agg at HOK
      dsimp only at HOK
      obtain ⟨r0, r1, r2, r3, r4⟩ := hcu
      dsimp only at r0 r1 r2 r3 r4
      clear hc hnu hcell hnk hX hb1
      generalize ks[k] = K at *
      go_wp2_with fail
      refine HOK.out.mono ?_
      rintro e w4 ⟨rfl, hb4⟩
      have HB4 := Lib.hid (HBW.out.trans (hb4.mono HBW.out.size))
      clear hb4 p4 r0 r1 r2 r3 r4 HOK
      generalize K.dep = d at *
      have HMO := Lib.hid hmo
      have hd6 : (d : Int) ≤ 1000000 := by omega
      clear hmo
      by_cases hnd : n < d
      · have z : (n : Int) < (d : Int) := by omega
        go_wp2_with fail
        go_roundw
        case rel => exact ⟨k + 1, d, by omega, by go_num, rfl, by have := HMO.out; omega, HB4.out⟩
        case measure => simp [intOf]; omega
      · have z : ¬ ((n : Int) < (d : Int)) := by omega
        go_wp2_with fail
        go_roundw
        case rel => exact ⟨k + 1, n, by omega, by go_num, rfl, by have := HMO.out; omega, HB4.out⟩
        case measure => simp [intOf]; omega
    · obtain rfl : k = kl := by omega
      rw [List.drop_of_length_le (by rw [hkl.out]; exact Nat.le_refl _), depL] at hmo
      obtain rfl : n = depL ks := by omega
      clear hlt
      have hn6 : (depL ks : Int) + 1 ≤ 1000001 := by omega
      go_wp2_with fail
      go_ret
      exact ⟨ret_i64c (by omega), HB1.out.trans (HBW.out.mono (by have := HZ.out; omega))⟩

theorem deep_ok : ∀ (n : Nat) (T : Tr), T.cnt ≤ n → DeepOk T
  | 0, T, h => by have := T.cnt_pos; omega
  | n + 1, .mk c t k l ks, h => by
    simp only [Tr.cnt] at h
    exact deep_of c t k l ks fun T hT => deep_ok n T (by have := cntL_mem hT; omega)
theorem rdeep_any (T : Tr) (V : NV) (w : World) (hn : NodeAt w V T) (h : T.dep ≤ 1000000) : Calls Tryd.prog 64 #[V.agg] w fun e w' => e = .returned (.int .i64 (T.dep : Nat)) ∧ Below w.heap.size w w' := deep_ok T.cnt T (Nat.le_refl _) V w hn h

end Go.Proofs.YtkmphiakciihfaaDoor
