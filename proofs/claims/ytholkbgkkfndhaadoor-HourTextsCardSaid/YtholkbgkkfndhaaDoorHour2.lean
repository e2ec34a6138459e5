/-
  HOUR: Order, THE REFERENCE's, AND THE LAW HourOrders.
-/
import Derived.Test.YtholkbgkkfndhaaDoorHour1
namespace Go.Proofs.YtholkbgkkfndhaaDoor
open Go.RowKit

/-- An accuracy in a box. -/
structure AccAt (w : World) (B : Nat) (s m u : Int) : Prop where
  lt : B < w.heap.size
  c0 : w.cell? ⟨B, 0, none⟩ = some (.int .i64 s)
  c1 : w.cell? ⟨B, 1, none⟩ = some (.int .i64 m)
  c2 : w.cell? ⟨B, 2, none⟩ = some (.int .i64 u)

theorem AccAt.new (w : World) (T : TypeId) (s m u : Int) : AccAt (w.alloc (.cells #[.int .i64 s, .int .i64 m, .int .i64 u] T)) w.heap.size s m u := by
  refine ⟨by simp, ?_, ?_, ?_⟩
  all_goals
    rw [World.cell?_alloc_at _ _ _ _ rfl]
    rfl

theorem AccAt.below {w w' : World} {B : Nat} {s m u : Int} (h : AccAt w B s m u) (hb : Below w.heap.size w w') : AccAt w' B s m u :=
  ⟨Nat.lt_of_lt_of_le h.lt hb.size, (hb.cell (p := ⟨B, 0, none⟩) h.lt).trans h.c0, (hb.cell (p := ⟨B, 1, none⟩) h.lt).trans h.c1, (hb.cell (p := ⟨B, 2, none⟩) h.lt).trans h.c2⟩

theorem width_cases (s m u : Int) : widthR s m u = (0, 150) ∨ ∃ v : Int, widthR s m u = (v, 0) ∧ 0 ≤ v ∧ v ≤ 2147483647999999 := by
  by_cases h : AccOk s m u
  · refine .inr ⟨1000000 * s + 1000 * m + u, if_pos h, ?_⟩
    unfold AccOk at h
    omega
  · exact .inl (if_neg h)

def TimeOk (t : Int) : Prop := 0 ≤ t ∧ t ≤ 253402300799999
instance (t : Int) : Decidable (TimeOk t) := by unfold TimeOk; infer_instance
def orderR (a b : Int) (x y : Int × Int) : Int × Int :=
  if x.2 = 0 ∧ y.2 = 0 ∧ TimeOk a ∧ TimeOk b then (if x.1 + y.1 < (b - a) * 1000 then (-1, 0) else if x.1 + y.1 < (a - b) * 1000 then (1, 0) else (0, 0)) else (0, 150)

theorem orderR_no {a b : Int} {x y : Int × Int} (h : ¬ (x.2 = 0 ∧ y.2 = 0 ∧ TimeOk a ∧ TimeOk b)) : orderR a b x y = (0, 150) := if_neg h
theorem orderR_lt {a b v z : Int} (ha : TimeOk a) (hb : TimeOk b) (h : v + z < (b - a) * 1000) : orderR a b (v, 0) (z, 0) = (-1, 0) := by rw [orderR, if_pos ⟨rfl, rfl, ha, hb⟩, if_pos h]
theorem orderR_gt {a b v z : Int} (ha : TimeOk a) (hb : TimeOk b) (h1 : ¬ v + z < (b - a) * 1000) (h : v + z < (a - b) * 1000) : orderR a b (v, 0) (z, 0) = (1, 0) := by rw [orderR, if_pos ⟨rfl, rfl, ha, hb⟩, if_neg h1, if_pos h]
theorem orderR_eq {a b v z : Int} (ha : TimeOk a) (hb : TimeOk b) (h1 : ¬ v + z < (b - a) * 1000) (h : ¬ v + z < (a - b) * 1000) : orderR a b (v, 0) (z, 0) = (0, 0) := by rw [orderR, if_pos ⟨rfl, rfl, ha, hb⟩, if_neg h1, if_neg h]

set_option maxHeartbeats 4000000 in
theorem order_any (a b s m u s2 m2 u2 : Int) (w : World) : Calls Tryd.prog 19 #[.int .i64 a, .int .i64 b, acc s m u, acc s2 m2 u2] w fun e w' => e = .returned (.tuple #[.int .i64 (orderR a b (widthR s m u) (widthR s2 m2 u2)).1, .int .i64 (orderR a b (widthR s m u) (widthR s2 m2 u2)).2]) ∧ Below w.heap.size w w' := by
  have hz := (AccAt.new (w.alloc (.cells #[.int .i64 s, .int .i64 m, .int .i64 u] 38)) 38 s2 m2 u2)
  rw [World.size_alloc] at hz
  have HZ := Lib.hid hz
  have hb0 := ((Below.refl w.heap.size w).alloc (Nat.le_refl _) (.cells #[.int .i64 s, .int .i64 m, .int .i64 u] 38)).alloc (by simp only [World.size_alloc]; omega) (.cells #[.int .i64 s2, .int .i64 m2, .int .i64 u2] 38)
  have HB0 := Lib.hid hb0
  clear hz hb0
  go_enter Tryd.func19, Tryd.ntmps19
  go_wp2_with fail
  refine (width_any s m u _).mono ?_
  rintro e w1 ⟨rfl, hb1⟩
  have hy := HZ.out.below hb1
  have h01 := Lib.hid (HB0.out.trans (hb1.mono HB0.out.size))
  have y0 := hy.c0
  have y1 := hy.c1
  have y2 := hy.c2
  clear hb1 hy
  rcases width_cases s m u with hx | ⟨v, hx, v0, v1⟩
  all_goals
    rw [hx]
    go_wp2_with fail
    refine (width_any s2 m2 u2 _).mono ?_
    rintro e w2 ⟨rfl, hb2⟩
    have h02 := Lib.hid (h01.out.trans (hb2.mono h01.out.size))
    clear hb2 y0 y1 y2
    rcases width_cases s2 m2 u2 with hy | ⟨z, hy, z0, z1⟩
  all_goals rw [hy]
  all_goals
    have HX := Lib.hid hx
    have HY := Lib.hid hy
    clear hx hy
  · have hr := Lib.hid (orderR_no (a := a) (b := b) (x := (0, 150)) (y := (0, 150)) (by rintro ⟨h1, h2, _⟩; first | (cases h1; done) | (cases h2; done)))
    go_wp2
    all_goals
      go_ret2
      exact ⟨by rw [HX.out, HY.out, hr.out]; rfl, h02.out⟩
  · have hr := Lib.hid (orderR_no (a := a) (b := b) (x := (0, 150)) (y := (z, 0)) (by rintro ⟨h1, h2, _⟩; first | (cases h1; done) | (cases h2; done)))
    go_wp2
    all_goals
      go_ret2
      exact ⟨by rw [HX.out, HY.out, hr.out]; rfl, h02.out⟩
  · have hr := Lib.hid (orderR_no (a := a) (b := b) (x := (v, 0)) (y := (0, 150)) (by rintro ⟨h1, h2, _⟩; first | (cases h1; done) | (cases h2; done)))
    go_wp2
    all_goals
      go_ret2
      exact ⟨by rw [HX.out, HY.out, hr.out]; rfl, h02.out⟩
  · by_cases ha : TimeOk a
    · by_cases hb : TimeOk b
      · have ha2 := ha
        have hb2 := hb
        unfold TimeOk at ha2 hb2
        go_wp2_with fail
        refine (istime_yes a _ ha2.1 ha2.2).mono ?_
        rintro e w' ⟨rfl, rfl⟩
        go_wp2_with fail
        refine (istime_yes b _ hb2.1 hb2.2).mono ?_
        rintro e w' ⟨rfl, rfl⟩
        obtain ⟨a0, a1⟩ := ha2
        obtain ⟨b0, b1⟩ := hb2
        by_cases c1 : v + z < (b - a) * 1000
        · have hr := Lib.hid (orderR_lt ha hb c1)
          clear ha hb
          go_wp2
          go_ret2
          exact ⟨by rw [HX.out, HY.out, hr.out]; rfl, h02.out⟩
        · by_cases c2 : v + z < (a - b) * 1000
          · have hr := Lib.hid (orderR_gt ha hb c1 c2)
            clear ha hb
            have c3 : (b - a) * 1000 ≤ v + z := by omega
            have c4 : v + z < -((b - a) * 1000) := by omega
            clear c1 c2
            go_wp2
            go_ret2
            exact ⟨by rw [HX.out, HY.out, hr.out]; rfl, h02.out⟩
          · have hr := Lib.hid (orderR_eq ha hb c1 c2)
            clear ha hb
            have c3 : (b - a) * 1000 ≤ v + z := by omega
            have c4 : -((b - a) * 1000) ≤ v + z := by omega
            clear c1 c2
            go_wp2
            go_ret2
            exact ⟨by rw [HX.out, HY.out, hr.out]; rfl, h02.out⟩
      · have hr := Lib.hid (orderR_no (a := a) (b := b) (x := (v, 0)) (y := (z, 0)) (fun h => hb h.2.2.2))
        unfold TimeOk at ha hb
        go_wp2_with fail
        refine (istime_yes a _ ha.1 ha.2).mono ?_
        rintro e w' ⟨rfl, rfl⟩
        go_wp2_with fail
        refine (istime_no b _ hb).mono ?_
        rintro e w' ⟨rfl, rfl⟩
        clear ha hb
        go_wp2
        go_ret2
        exact ⟨by rw [HX.out, HY.out, hr.out]; rfl, h02.out⟩
    · have hr := Lib.hid (orderR_no (a := a) (b := b) (x := (v, 0)) (y := (z, 0)) (fun h => ha h.2.2.1))
      unfold TimeOk at ha
      go_wp2_with fail
      refine (istime_no a _ ha).mono ?_
      rintro e w' ⟨rfl, rfl⟩
      clear ha
      go_wp2
      go_ret2
      exact ⟨by rw [HX.out, HY.out, hr.out]; rfl, h02.out⟩

end Go.Proofs.YtholkbgkkfndhaaDoor