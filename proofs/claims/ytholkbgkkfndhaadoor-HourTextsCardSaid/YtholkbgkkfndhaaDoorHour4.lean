/-
  HOUR: dateOf.
-/
import Derived.Test.YtholkbgkkfndhaaDoorHour3
import Derived.Deep.RegionHeld3
import Derived.Handy
namespace Go.Proofs.YtholkbgkkfndhaaDoor
open Go.RowKit

/-- A date in a block. -/
def DateBox (w : World) (B : Nat) (y m d : Int) : Prop := w.heap[B]? = some (.cells #[.int .i64 y, .int .i64 m, .int .i64 d] 51 (0, 0))

theorem DateBox.lt {w : World} {B : Nat} {y m d : Int} (h : DateBox w B y m d) : B < w.heap.size := (Array.getElem?_eq_some_iff.1 h).1
theorem DateBox.new (w : World) (y m d : Int) : DateBox (w.alloc (.cells #[.int .i64 y, .int .i64 m, .int .i64 d] 51)) w.heap.size y m d := by
  show (w.heap.push _)[w.heap.size]? = _
  simp
theorem DateBox.c0 {w : World} {B : Nat} {y m d : Int} (h : DateBox w B y m d) : w.cell? ⟨B, 0, none⟩ = some (.int .i64 y) := by simp [World.cell?, show w.heap[B]? = _ from h]
theorem DateBox.c1 {w : World} {B : Nat} {y m d : Int} (h : DateBox w B y m d) : w.cell? ⟨B, 1, none⟩ = some (.int .i64 m) := by simp [World.cell?, show w.heap[B]? = _ from h]
theorem DateBox.c2 {w : World} {B : Nat} {y m d : Int} (h : DateBox w B y m d) : w.cell? ⟨B, 2, none⟩ = some (.int .i64 d) := by simp [World.cell?, show w.heap[B]? = _ from h]
theorem DateBox.fz {w : World} {B : Nat} {y m d : Int} (h : DateBox w B y m d) (i : Nat) : w.frozen? ⟨B, i, none⟩ = false := by simp [World.frozen?, show w.heap[B]? = _ from h]
theorem DateBox.below {w w' : World} {B : Nat} {y m d : Int} (h : DateBox w B y m d) (hb : Below w.heap.size w w') : DateBox w' B y m d := (hb.block B h.lt).trans h
theorem DateBox.set0 {w : World} {B : Nat} {y m d : Int} (h : DateBox w B y m d) (y' : Int) : DateBox (w.setCell ⟨B, 0, none⟩ (.int .i64 y')) B y' m d := heap_setCell_same w B 0 _ _ _ h
theorem DateBox.set1 {w : World} {B : Nat} {y m d : Int} (h : DateBox w B y m d) (m' : Int) : DateBox (w.setCell ⟨B, 1, none⟩ (.int .i64 m')) B y m' d := heap_setCell_same w B 1 _ _ _ h
theorem DateBox.set2 {w : World} {B : Nat} {y m d : Int} (h : DateBox w B y m d) (d' : Int) : DateBox (w.setCell ⟨B, 2, none⟩ (.int .i64 d')) B y m d' := heap_setCell_same w B 2 _ _ _ h
theorem DateBox.other {w : World} {B : Nat} {y m d : Int} (h : DateBox w B y m d) (p : Addr) (v : Value) (hp : B ≠ p.block) : DateBox (w.setCell p v) B y m d := (Below.heap_setCell w p v B hp).trans h

def yearOf (w : World) (B : Nat) : Int := intOf ((w.cell? ⟨B, 0, none⟩).getD undef)
def monthOf (w : World) (B : Nat) : Int := intOf ((w.cell? ⟨B, 1, none⟩).getD undef)
theorem DateBox.year {w : World} {B : Nat} {y m d : Int} (h : DateBox w B y m d) : yearOf w B = y := by rw [yearOf, h.c0]; rfl
theorem DateBox.month {w : World} {B : Nat} {y m d : Int} (h : DateBox w B y m d) : monthOf w B = m := by rw [monthOf, h.c1]; rfl

theorem wrap_two (z : Int) (h0 : 0 ≤ z) (h1 : z < 4611686018427387904) : IntKind.i64.wrap (1 + IntKind.i64.wrap z) = 1 + z := by
  simp only [IntKind.wrap, IntKind.bits, IntKind.signed]
  simp
  omega

theorem num_top (y : Int) (h : 10000 ≤ y) : 2932897 ≤ numN y 1 1 := by
  unfold numN
  simp
  omega

theorem num_start (n : Int) (h0 : 0 ≤ n) (h1 : n ≤ 2932896) : numN (1970 + n / 366) 1 1 ≤ n := by
  unfold numN
  simp
  omega

set_option maxHeartbeats 4000000 in
theorem dateof_any (n : Int) (w : World) (h0 : 0 ≤ n) (h1 : n ≤ 2932896) :
    Calls Tryd.prog 23 #[.int .i64 n] w fun e w' => ∃ y m d, e = .returned (acc y m d) ∧ IsDate n y m d ∧ y ≤ 9999 ∧ Below w.heap.size w w' := by
  go_enter Tryd.func23, Tryd.ntmps23
  have hB0 := (DateBox.new w 0 0 0).below ((Below.refl _ _).alloc (Nat.le_refl _) (.cells #[.int .i64 (1970 + n / 366), .int .i64 1, .int .i64 1] 51))
  have hB1 := DateBox.new (w.alloc (.cells #[.int .i64 0, .int .i64 0, .int .i64 0] 51)) (1970 + n / 366) 1 1
  rw [World.size_alloc] at hB1
  have hbw := ((Below.refl w.heap.size w).alloc (Nat.le_refl _) (.cells #[.int .i64 0, .int .i64 0, .int .i64 0] 51)).alloc (by simp only [World.size_alloc]; omega) (.cells #[.int .i64 (1970 + n / 366), .int .i64 1, .int .i64 1] 51)
  have hst := num_start n h0 h1
  have HB0 := Lib.hid hB0
  have HB1 := Lib.hid hB1
  have HBW := Lib.hid hbw
  have HST := Lib.hid hst
  clear hB0 hB1 hbw hst
  go_wp2
  go_loopw [] (fun wr => ∃ y : Int, 1970 ≤ y ∧ y ≤ 9999 ∧ Hid (numN y 1 1 ≤ n) ∧ Hid (DateBox wr w.heap.size 0 0 0) ∧ Hid (DateBox wr (w.heap.size + 1) y 1 1) ∧ Below w.heap.size w wr) (fun wr => (10000 - yearOf wr (w.heap.size + 1)).toNat)
  case atStart =>
    have := num_top (1970 + n / 366)
    have := HST.out
    exact ⟨1970 + n / 366, by omega, by omega, HST.out, HB0.out, HB1.out, HBW.out⟩
  case round =>
    obtain ⟨y, hy, hy2, hn, b0, b1, hb⟩ := hrel
    have c0 := b1.out.c0
    have c1 := b1.out.c1
    have c2 := b1.out.c2
    have f0 := b1.out.fz 0
    have hsz := b1.out.lt
    go_wp2_with fail
    refine (number_any (y + 1) 1 1 _ (by omega) (by omega) (by omega) (by omega) (by omega) (by omega)).mono ?_
    rintro e w2 ⟨rfl, hb2⟩
    replace b0 := Lib.hid (b0.out.below hb2)
    have b2 := Lib.hid (b1.out.below hb2)
    have hbw2 := Lib.hid (hb.trans (hb2.mono hb.size))
    clear c0 c1 c2 f0 hb2
    have c0 := b2.out.c0
    have c1 := b2.out.c1
    have c2 := b2.out.c2
    have f0 := b2.out.fz 0
    have hyr := Lib.hid b1.out.year
    by_cases hle : numN (y + 1) 1 1 ≤ n
    · have hle2 := Lib.hid hle
      have hy3 : y + 1 ≤ 9999 := by
        rcases Int.lt_or_le (y + 1) 10000 with h | h
        · omega
        · have := num_top (y + 1) h
          omega
      have hqe : ∃ q, numN (y + 1) 1 1 = q := ⟨_, rfl⟩
      obtain ⟨q, hqe⟩ := hqe
      have HQ := Lib.hid hqe
      rw [hqe] at hle ⊢
      clear hqe
      go_wp2
      go_roundw
      case rel => exact ⟨y + 1, by omega, hy3, hle2.out, b0.out.other _ _ (by show w.heap.size ≠ w.heap.size + 1; omega), b2.out.set0 (y + 1), hbw2.out.setCell (p := ⟨w.heap.size + 1, 0, none⟩) (by show w.heap.size ≤ w.heap.size + 1; omega) _⟩
      case measure =>
        rw [(b2.out.set0 (y + 1)).year, hyr.out]
        omega
    · have hle2 := Lib.hid (show n < numN (y + 1) 1 1 by omega)
      have hle3 : decide (numN (y + 1) 1 1 ≤ n) = false := decide_eq_false hle
      clear hle c0 c1 c2 f0
      go_wp2
      go_loopw [] (fun wr => ∃ m : Int, 1 ≤ m ∧ m ≤ 12 ∧ Hid (numN y m 1 ≤ n) ∧ Hid (DateBox wr w.heap.size 0 0 0) ∧ Hid (DateBox wr (w.heap.size + 1) y m 1) ∧ Below w.heap.size w wr) (fun wr => (12 - monthOf wr (w.heap.size + 1)).toNat)
      case atStart => exact ⟨1, by omega, by omega, hn, b0, b2, hbw2.out⟩
      case round =>
        obtain ⟨m, hm1, hm2, hnm, b3, b4, hb4⟩ := hrel
        have c0 := b4.out.c0
        have c1 := b4.out.c1
        have c2 := b4.out.c2
        have f1 := b4.out.fz 1
        have hsz4 := b4.out.lt
        by_cases hm : m < 12
        · go_wp2_with fail
          refine (number_any y (m + 1) 1 _ hy (by omega) (by omega) (by omega) (by omega) (by omega)).mono ?_
          rintro e w4 ⟨rfl, hb5⟩
          replace b3 := Lib.hid (b3.out.below hb5)
          have hmo := Lib.hid b4.out.month
          replace b4 := Lib.hid (b4.out.below hb5)
          replace hb4 := hb4.trans (hb5.mono hb4.size)
          clear c0 c1 c2 f1 hb5
          have c0 := b4.out.c0
          have c1 := b4.out.c1
          have c2 := b4.out.c2
          have f1 := b4.out.fz 1
          by_cases hle4 : numN y (m + 1) 1 ≤ n
          · have hle5 := Lib.hid hle4
            obtain ⟨q2, hqe⟩ : ∃ q, numN y (m + 1) 1 = q := ⟨_, rfl⟩
            have HQ2 := Lib.hid hqe
            rw [hqe] at hle4 ⊢
            clear hqe
            go_wp2
            go_roundw
            case rel => exact ⟨m + 1, by omega, by omega, hle5, b3.out.other _ _ (by show w.heap.size ≠ w.heap.size + 1; omega), b4.out.set1 (m + 1), hb4.setCell (p := ⟨w.heap.size + 1, 1, none⟩) (by show w.heap.size ≤ w.heap.size + 1; omega) _⟩
            case measure =>
              rw [(b4.out.set1 (m + 1)).month, hmo.out]
              omega
          · have hday := Lib.hid (show n - numN y m 1 < longN y m by
              have := num_month y m hm1 hm
              omega)
            have hle5 : decide (numN y (m + 1) 1 ≤ n) = false := decide_eq_false hle4
            clear hle4 f1
            have EW := Lib.hid (wrap_two (n - numN y m 1) (by have := hnm.out; omega) (by have := hday.out; have := longN_ge y m; omega))
            have f2 := b4.out.fz 2
            go_wp2
            go_region_with (go_at_call 31; refine (number_any y m 1 _ hy (by omega) hm1 hm2 (by omega) (by omega)).mono ?_; rintro e w5 ⟨rfl, hb5⟩; have H5 := Lib.hid (((Below.refl w4.heap.size w4).drew).trans hb5); have d0 := (b4.out.below H5.out).c0; have d1 := (b4.out.below H5.out).c1; have d2 := (b4.out.below H5.out).c2; have g2 := (b4.out.below H5.out).fz 2)
            all_goals
              rw [EW.out]
              have D2 := Lib.hid ((b4.out.below H5.out).set2 (1 + (n - numN y m 1)))
              have R2 := Lib.hid ((b3.out.below H5.out).other ⟨w.heap.size + 1, 2, none⟩ (.int .i64 (1 + (n - numN y m 1))) (by show w.heap.size ≠ w.heap.size + 1; omega))
              have hbe := Lib.hid ((hb4.trans (H5.out.mono hb4.size)).setCell (p := ⟨w.heap.size + 1, 2, none⟩) (by show w.heap.size ≤ w.heap.size + 1; omega) (.int .i64 (1 + (n - numN y m 1))))
              have e0 := D2.out.c0
              have e1 := D2.out.c1
              have e2 := D2.out.c2
              have r0 := R2.out.c0
              have r1 := R2.out.c1
              have r2 := R2.out.c2
              have s0 := R2.out.fz 0
              have s1 := R2.out.fz 1
              have s2 := R2.out.fz 2
              generalize (w5.setCell ⟨w.heap.size + 1, 2, none⟩ (.int .i64 (1 + (n - numN y m 1)))) = w6 at *
              clear c0 c1 c2 f2 d0 d1 d2 g2
              go_wp2
              have F := ((R2.out.set0 y).set1 m).set2 (1 + (n - numN y m 1))
              have hbf := Lib.hid (((hbe.out.setCell (p := ⟨w.heap.size, 0, none⟩) (Nat.le_refl _) (.int .i64 y)).setCell (p := ⟨w.heap.size, 1, none⟩) (Nat.le_refl _) (.int .i64 m)).setCell (p := ⟨w.heap.size, 2, none⟩) (Nat.le_refl _) (.int .i64 (1 + (n - numN y m 1))))
              clear e0 e1 e2 r0 r1 r2 s0 s1 s2
              have e0 := F.c0
              have e1 := F.c1
              have e2 := F.c2
              generalize (((w6.setCell ⟨w.heap.size, 0, none⟩ (.int .i64 y)).setCell ⟨w.heap.size, 1, none⟩ (.int .i64 m)).setCell ⟨w.heap.size, 2, none⟩ (.int .i64 (1 + (n - numN y m 1)))) = w7 at *
              refine bodyPost_ret (v := acc y m (1 + (n - numN y m 1))) (by simp [results, Tryd.results23, go_sem, e0, e1, e2]) rfl ?_
              exact ⟨y, m, 1 + (n - numN y m 1), rfl, ⟨hy, hm1, hm2, by have := hnm.out; omega, by have := hday.out; omega, by rw [num_day]; omega⟩, hy2, hbf.out⟩
        · have hm3 : 12 ≤ m := by omega
          have hday := Lib.hid (show n - numN y m 1 < longN y m by
            obtain rfl : m = 12 := by omega
            have h9 := num_last y
            have h8 := hle2.out
            have h7 : longN y 12 = 31 := by unfold longN; simp
            omega)
          obtain ⟨w4, hw4⟩ : ∃ w4 : World, w4 = wr := ⟨_, rfl⟩
          subst hw4
          clear hm f1
          have EW := Lib.hid (wrap_two (n - numN y m 1) (by have := hnm.out; omega) (by have := hday.out; have := longN_ge y m; omega))
          have f2 := b4.out.fz 2
          go_wp2
          go_region_with (go_at_call 31; refine (number_any y m 1 _ hy (by omega) hm1 hm2 (by omega) (by omega)).mono ?_; rintro e w5 ⟨rfl, hb5⟩; have H5 := Lib.hid (((Below.refl w4.heap.size w4).drew).trans hb5); have d0 := (b4.out.below H5.out).c0; have d1 := (b4.out.below H5.out).c1; have d2 := (b4.out.below H5.out).c2; have g2 := (b4.out.below H5.out).fz 2)
          all_goals
            rw [EW.out]
            have D2 := Lib.hid ((b4.out.below H5.out).set2 (1 + (n - numN y m 1)))
            have R2 := Lib.hid ((b3.out.below H5.out).other ⟨w.heap.size + 1, 2, none⟩ (.int .i64 (1 + (n - numN y m 1))) (by show w.heap.size ≠ w.heap.size + 1; omega))
            have hbe := Lib.hid ((hb4.trans (H5.out.mono hb4.size)).setCell (p := ⟨w.heap.size + 1, 2, none⟩) (by show w.heap.size ≤ w.heap.size + 1; omega) (.int .i64 (1 + (n - numN y m 1))))
            have e0 := D2.out.c0
            have e1 := D2.out.c1
            have e2 := D2.out.c2
            have r0 := R2.out.c0
            have r1 := R2.out.c1
            have r2 := R2.out.c2
            have s0 := R2.out.fz 0
            have s1 := R2.out.fz 1
            have s2 := R2.out.fz 2
            generalize (w5.setCell ⟨w.heap.size + 1, 2, none⟩ (.int .i64 (1 + (n - numN y m 1)))) = w6 at *
            clear c0 c1 c2 f2 d0 d1 d2 g2
            go_wp2
            have F := ((R2.out.set0 y).set1 m).set2 (1 + (n - numN y m 1))
            have hbf := Lib.hid (((hbe.out.setCell (p := ⟨w.heap.size, 0, none⟩) (Nat.le_refl _) (.int .i64 y)).setCell (p := ⟨w.heap.size, 1, none⟩) (Nat.le_refl _) (.int .i64 m)).setCell (p := ⟨w.heap.size, 2, none⟩) (Nat.le_refl _) (.int .i64 (1 + (n - numN y m 1))))
            clear e0 e1 e2 r0 r1 r2 s0 s1 s2
            have e0 := F.c0
            have e1 := F.c1
            have e2 := F.c2
            generalize (((w6.setCell ⟨w.heap.size, 0, none⟩ (.int .i64 y)).setCell ⟨w.heap.size, 1, none⟩ (.int .i64 m)).setCell ⟨w.heap.size, 2, none⟩ (.int .i64 (1 + (n - numN y m 1)))) = w7 at *
            refine bodyPost_ret (v := acc y m (1 + (n - numN y m 1))) (by simp [results, Tryd.results23, go_sem, e0, e1, e2]) rfl ?_
            exact ⟨y, m, 1 + (n - numN y m 1), rfl, ⟨hy, hm1, hm2, by have := hnm.out; omega, by have := hday.out; omega, by rw [num_day]; omega⟩, hy2, hbf.out⟩

end Go.Proofs.YtholkbgkkfndhaaDoor
