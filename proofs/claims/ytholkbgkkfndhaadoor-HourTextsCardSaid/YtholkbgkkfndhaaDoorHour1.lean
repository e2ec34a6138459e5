/-
  HOUR: WIDTHS AND ORDERS, AND THE REFERENCE's.
-/
import Derived.Test.YtholkbgkkfndhaaDoorRows
import Derived.WalkKit
import Derived.OpenShut
import Derived.WalkSpells
import Derived.Lib.Hide
import Derived.Below
namespace Go.Proofs.YtholkbgkkfndhaaDoor
open Go.RowKit

theorem below_yes (n l : Int) (w : World) (h0 : 0 ≤ n) (h1 : n < l) : Calls Tryd.prog 32 #[.int .i64 n, .int .i64 l] w fun e w' => e = .returned (.bool true) ∧ w' = w := by
  go_enter Tryd.func32, Tryd.ntmps32
  go_wp2
  go_ret
  exact ⟨rfl, rfl⟩

theorem below_no (n l : Int) (w : World) (h : ¬ (0 ≤ n ∧ n < l)) : Calls Tryd.prog 32 #[.int .i64 n, .int .i64 l] w fun e w' => e = .returned (.bool false) ∧ w' = w := by
  by_cases h0 : n < 0
  · clear h
    go_enter Tryd.func32, Tryd.ntmps32
    go_wp2
    go_ret
    exact ⟨rfl, rfl⟩
  · have h1 : l ≤ n := by omega
    have h2 : 0 ≤ n := by omega
    clear h h0
    go_enter Tryd.func32, Tryd.ntmps32
    go_wp2
    go_ret
    exact ⟨by simp; omega, rfl⟩

abbrev acc (s m u : Int) : Value := .agg #[.int .i64 s, .int .i64 m, .int .i64 u]

def AccOk (s m u : Int) : Prop := (0 ≤ s ∧ s ≤ 2147483647) ∧ (0 ≤ m ∧ m ≤ 999) ∧ (0 ≤ u ∧ u ≤ 999)
instance (s m u : Int) : Decidable (AccOk s m u) := by unfold AccOk; infer_instance
def widthR (s m u : Int) : Int × Int := if AccOk s m u then (1000000 * s + 1000 * m + u, 0) else (0, 150)

set_option maxHeartbeats 1600000 in
theorem width_any (s m u : Int) (w : World) : Calls Tryd.prog 20 #[acc s m u] w fun e w' => e = .returned (.tuple #[.int .i64 (widthR s m u).1, .int .i64 (widthR s m u).2]) ∧ Below w.heap.size w w' := by
  have hbel := (Below.refl w.heap.size w).alloc (Nat.le_refl _) (.cells #[.int .i64 s, .int .i64 m, .int .i64 u] 38)
  have HB := Lib.hid hbel
  clear hbel
  by_cases h : AccOk s m u
  · have hr := Lib.hid (show widthR s m u = (1000000 * s + 1000 * m + u, 0) from if_pos h)
    obtain ⟨⟨h1, h2⟩, ⟨h3, h4⟩, h5, h6⟩ := h
    go_enter Tryd.func20, Tryd.ntmps20
    go_wp2_with fail
    refine (below_yes s 2147483648 _ (by omega) (by omega)).mono ?_
    rintro e w' ⟨rfl, rfl⟩
    go_wp2_with fail
    refine (below_yes m 1000 _ (by omega) (by omega)).mono ?_
    rintro e w' ⟨rfl, rfl⟩
    go_wp2_with fail
    refine (below_yes u 1000 _ (by omega) (by omega)).mono ?_
    rintro e w' ⟨rfl, rfl⟩
    go_wp2_with fail
    go_ret2
    refine ⟨?_, HB.out⟩
    rw [hr.out]
    simp
    omega
  · have hr := Lib.hid (show widthR s m u = (0, 150) from if_neg h)
    unfold AccOk at h
    by_cases h1 : 0 ≤ s ∧ s ≤ 2147483647
    · by_cases h2 : 0 ≤ m ∧ m ≤ 999
      · have h3 : ¬ (0 ≤ u ∧ u < 1000) := by omega
        go_enter Tryd.func20, Tryd.ntmps20
        go_wp2_with fail
        refine (below_yes s 2147483648 _ (by omega) (by omega)).mono ?_
        rintro e w' ⟨rfl, rfl⟩
        go_wp2_with fail
        refine (below_yes m 1000 _ (by omega) (by omega)).mono ?_
        rintro e w' ⟨rfl, rfl⟩
        go_wp2_with fail
        refine (below_no u 1000 _ (by omega)).mono ?_
        rintro e w' ⟨rfl, rfl⟩
        go_wp2_with fail
        go_ret2
        exact ⟨by rw [hr.out]; rfl, HB.out⟩
      · go_enter Tryd.func20, Tryd.ntmps20
        go_wp2_with fail
        refine (below_yes s 2147483648 _ (by omega) (by omega)).mono ?_
        rintro e w' ⟨rfl, rfl⟩
        go_wp2_with fail
        refine (below_no m 1000 _ (by omega)).mono ?_
        rintro e w' ⟨rfl, rfl⟩
        go_wp2_with fail
        go_ret2
        exact ⟨by rw [hr.out]; rfl, HB.out⟩
    · go_enter Tryd.func20, Tryd.ntmps20
      go_wp2_with fail
      refine (below_no s 2147483648 _ (by omega)).mono ?_
      rintro e w' ⟨rfl, rfl⟩
      go_wp2_with fail
      go_ret2
      exact ⟨by rw [hr.out]; rfl, HB.out⟩

theorem istime_yes (t : Int) (w : World) (h0 : 0 ≤ t) (h1 : t ≤ 253402300799999) : Calls Tryd.prog 22 #[.int .i64 t] w fun e w' => e = .returned (.bool true) ∧ w' = w := by
  go_enter Tryd.func22, Tryd.ntmps22
  go_wp2
  go_ret
  exact ⟨by simp <;> omega, rfl⟩

theorem istime_no (t : Int) (w : World) (h : ¬ (0 ≤ t ∧ t ≤ 253402300799999)) : Calls Tryd.prog 22 #[.int .i64 t] w fun e w' => e = .returned (.bool false) ∧ w' = w := by
  by_cases h0 : t < 0
  · clear h
    go_enter Tryd.func22, Tryd.ntmps22
    go_wp2
    go_ret
    exact ⟨rfl, rfl⟩
  · have h1 : 253402300799999 < t := by omega
    have h2 : 0 ≤ t := by omega
    clear h h0
    go_enter Tryd.func22, Tryd.ntmps22
    go_wp2
    go_ret
    exact ⟨by simp <;> omega, rfl⟩

end Go.Proofs.YtholkbgkkfndhaaDoor
