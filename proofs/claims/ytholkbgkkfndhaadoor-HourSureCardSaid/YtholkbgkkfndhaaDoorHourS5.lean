/-
  HOUR: the law HourSure. (Written by wip/gen_hourS2.py.)
-/
import Derived.Test.YtholkbgkkfndhaaDoorHourS1
import Derived.Test.YtholkbgkkfndhaaDoorHourS2
import Derived.Test.YtholkbgkkfndhaaDoorHourS3
import Derived.Test.YtholkbgkkfndhaaDoorHourS4
namespace Go.Proofs.YtholkbgkkfndhaaDoor
open Go.RowKit
set_option maxRecDepth 100000

theorem sure_walk (t0 t1 t2 s0 m0 u0 s1 m1 u1 s2 m2 u2 : Int) (w : World) (hL : Libs w) :
    Calls Tryd.prog 8 #[.agg #[.int .i64 t0, .int .i64 t1, .int .i64 t2], .agg #[.int .i64 s0, .int .i64 m0, .int .i64 u0, .int .i64 s1, .int .i64 m1, .int .i64 u1, .int .i64 s2, .int .i64 m2, .int .i64 u2]] w fun e w' => e = .returned (.bool true) ∧ Below w.heap.size w w' := by
  rcases sure_facts t0 t1 t2 _ _ _ (width_mild s0 m0 u0) (width_mild s1 m1 u1) (width_mild s2 m2 u2) with ⟨hx, hy⟩ | ⟨x, v, z, g, ww, h, hx, hy, hz, hw, hv, hcv, hcx, hcg⟩
  · exact sure_no t0 t1 t2 s0 m0 u0 s1 m1 u1 s2 m2 u2 w hL hx hy
  rw [← exact_width] at hv
  rcases (show (x = 0) ∨ (x = 1 ∧ v = 1 ∧ t1 < t0) ∨ (x = -1 ∧ v = -1 ∧ t0 < t1) by omega) with rfl | ⟨rfl, rfl, ht⟩ | ⟨rfl, rfl, ht⟩
  · rcases hcg with rfl | ⟨rfl, rfl, _⟩
    · exact sure_a t0 t1 t2 s0 m0 u0 s1 m1 u1 s2 m2 u2 v z ww h w hL hx hy hz hw hv hcv
    · exact sure_d t0 t1 t2 s0 m0 u0 s1 m1 u1 s2 m2 u2 v z ww w hL hx hy hz hw hv hcv
  · rcases hcg with rfl | ⟨rfl, rfl, _⟩
    · exact sure_b t0 t1 t2 s0 m0 u0 s1 m1 u1 s2 m2 u2 z ww h w hL hx hy hz hw hv ht
    · exact sure_e t0 t1 t2 s0 m0 u0 s1 m1 u1 s2 m2 u2 z ww w hL hx hy hz hw hv ht
  · rcases hcg with rfl | ⟨rfl, rfl, hzw⟩
    · exact sure_c t0 t1 t2 s0 m0 u0 s1 m1 u1 s2 m2 u2 z ww h w hL hx hy hz hw hv ht
    · by_cases h1 : z = -1
      · have hw1 := hzw rfl h1
        subst h1
        subst hw1
        exact sure_f t0 t1 t2 s0 m0 u0 s1 m1 u1 s2 m2 u2 w hL hx hy hz hw hv ht
      · exact sure_g t0 t1 t2 s0 m0 u0 s1 m1 u1 s2 m2 u2 z ww w hL hx hy hz hw hv ht (by simp; omega)

end Go.Proofs.YtholkbgkkfndhaaDoor
