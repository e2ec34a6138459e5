/-
  SHA-512, the reference: wide numbers, more.
-/
import Derived.Test.YtpfdehjllnhllaaSi1
namespace Go.Proofs.Ytpfdehjllnhllaa
open Go.RowKit Go.Shelf

/-- Is one wide number more than another one? -/
def moreN (a b : List Nat) : Nat → Bool
  | 0 => false
  | j + 1 => if g0 a j = g0 b j then moreN a b j else decide (g0 b j < g0 a j)
set_option maxHeartbeats 1000000 in
theorem more_any (a b : List Nat) (ha : a.length = 8) (hb : b.length = 8) (w : World) :
    Calls Try.prog 34 #[.agg (arrC .u64 a), .agg (arrC .u64 b)] w fun e w' => e = .returned (.bool (moreN a b 8)) ∧ Below w.heap.size w w' := by
  go_enter Try.func34, Try.ntmps34
  go_wp2_with fail
  have HA := Lib.hid (show Arr .u64 65 ((w.alloc (.cells (arrC .u64 a) 65)).alloc (.cells (arrC .u64 b) 65)) w.heap.size a from Arr.alloc (Go.heap_alloc_new w _) _)
  have HB := Lib.hid (show Arr .u64 65 ((w.alloc (.cells (arrC .u64 a) 65)).alloc (.cells (arrC .u64 b) 65)) (w.heap.size + 1) b from by
    have := Go.heap_alloc_new (w.alloc (.cells (arrC .u64 a) 65)) (.cells (arrC .u64 b) 65)
    rwa [World.size_alloc] at this)
  have HW := Lib.hid (((Below.refl w.heap.size w).alloc (Nat.le_refl _) (.cells (arrC .u64 a) 65)).alloc (by simp) (.cells (arrC .u64 b) 65))
  generalize (w.alloc (.cells (arrC .u64 a) 65)).alloc (.cells (arrC .u64 b) 65) = W at *
  have HLA := Lib.hid ha
  have HLB := Lib.hid hb
  clear ha hb
  obtain ⟨g1, hg1⟩ : ∃ g, g = w.heap.size := ⟨_, rfl⟩
  obtain ⟨g2, hg2⟩ : ∃ g, g = w.heap.size + 1 := ⟨_, rfl⟩
  rw [← hg2] at HB ⊢
  rw [← hg1] at HA ⊢
  clear hg1 hg2
  go_loopw [5] (fun iv wq => ∃ j : Nat, iv = .int .i64 ((j : Int) - 1) ∧ j ≤ 8 ∧ Hid (moreN a b 8 = moreN a b j ∧ Arr .u64 65 wq g1 a ∧ Arr .u64 65 wq g2 b ∧ Below w.heap.size w wq)) (fun iv _ => (intOf iv + 1).toNat)
  case atStart => exact ⟨8, rfl, by decide, rfl, HA.out, HB.out, HW.out⟩
  case round =>
    obtain ⟨j, rfl, hj, hI⟩ := hrel
    cases j with
    | zero =>
      go_wp2
      go_ret
      exact ⟨by rw [hI.out.1]; rfl, hI.out.2.2.2⟩
    | succ j =>
      have e : (((j + 1 : Nat) : Int) - 1) = (j : Int) := by omega
      rw [e]
      clear e
      have c1 := hI.out.2.1.cell j (by rw [HLA.out]; omega)
      have c2 := hI.out.2.2.1.cell j (by rw [HLB.out]; omega)
      have HM := Lib.hid (show moreN a b (j + 1) = if g0 a j = g0 b j then moreN a b j else decide (g0 b j < g0 a j) from rfl)
      unfold g0 at HM
      generalize a[j]?.getD 0 = x at *
      generalize b[j]?.getD 0 = y at *
      by_cases hxy : x = y
      · have HXY := Lib.hid hxy
        have t1 : ((x : Int) != (y : Int)) = false := by simp; omega
        clear hxy
        go_wp2_with fail
        go_quiet (fail)
        go_wp2
        go_roundw
        case rel => exact ⟨j, rfl, by omega, by rw [hI.out.1, HM.out, if_pos HXY.out], hI.out.2.1.drewN nq, hI.out.2.2.1.drewN nq, below_drewS hI.out.2.2.2 nq⟩
        case measure => simp [intOf] <;> omega
      · have HXY := Lib.hid hxy
        have t1 : ((x : Int) != (y : Int)) = true := by simp; omega
        clear hxy
        go_wp2_with fail
        go_quiet (fail)
        go_wp2_with fail
        have c3 : (wr.drewN nq).cell? ⟨g1, j, none⟩ = some (.int .u64 (x : Int)) := c1
        have c4 : (wr.drewN nq).cell? ⟨g2, j, none⟩ = some (.int .u64 (y : Int)) := c2
        have H5 := Lib.hid (below_drewS hI.out.2.2.2 nq)
        have HE := Lib.hid (show moreN a b 8 = decide (y < x) by rw [hI.out.1, HM.out, if_neg HXY.out])
        clear c1 c2 hI HM
        generalize wr.drewN nq = w5 at *
        go_quiet (fail)
        go_wp2
        go_ret
        refine ⟨?_, below_drewS H5.out _⟩
        rw [HE.out]
        simp

end Go.Proofs.Ytpfdehjllnhllaa
