/-
  HOUR: the law HourSure.
-/
import Derived.Test.YtholkbgkkfndhaaDoorHourI
import Derived.Test.YtholkbgkkfndhaaDoorHour2
namespace Go.Proofs.YtholkbgkkfndhaaDoor
open Go.RowKit
set_option maxRecDepth 100000

theorem sure_facts (t0 t1 t2 : Int) (p0 p1 p2 : Int × Int) (h0 : p0 = (0, 150) ∨ ∃ v, p0 = (v, 0) ∧ 0 ≤ v) (h1 : p1 = (0, 150) ∨ ∃ v, p1 = (v, 0) ∧ 0 ≤ v) (h2 : p2 = (0, 150) ∨ ∃ v, p2 = (v, 0) ∧ 0 ≤ v) :
    (orderR t0 t1 p0 p1 = (0, 150) ∧ orderR t1 t0 p1 p0 = (0, 150)) ∨
    (∃ x v z g w h : Int, orderR t0 t1 p0 p1 = (x, 0) ∧ orderR t1 t0 p1 p0 = (-x, 0) ∧ orderR t1 t2 p1 p2 = (z, g) ∧ orderR t0 t2 p0 p2 = (w, h) ∧ orderR t0 t1 (0, 0) (0, 0) = (v, 0) ∧
      ((t0 < t1 ∧ v = -1) ∨ (t0 = t1 ∧ v = 0) ∨ (t1 < t0 ∧ v = 1)) ∧ ((x = -1 ∧ v = -1) ∨ (x = 1 ∧ v = 1) ∨ x = 0) ∧ (g = 150 ∨ (g = 0 ∧ h = 0 ∧ (x = -1 → z = -1 → w = -1)))) := by
  by_cases hok : p0.2 = 0 ∧ p1.2 = 0 ∧ TimeOk t0 ∧ TimeOk t1
  rotate_left
  · exact .inl ⟨if_neg hok, if_neg fun k => hok ⟨k.2.1, k.1, k.2.2.2, k.2.2.1⟩⟩
  obtain ⟨a0, a1, a2, a3⟩ := hok
  obtain ⟨v0, rfl, hv0⟩ : ∃ v, p0 = (v, 0) ∧ 0 ≤ v := by
    rcases h0 with rfl | h
    · cases a0
    · exact h
  obtain ⟨v1, rfl, hv1⟩ : ∃ v, p1 = (v, 0) ∧ 0 ≤ v := by
    rcases h1 with rfl | h
    · cases a1
    · exact h
  have e1 : orderR t0 t1 (v0, 0) (v1, 0) = (if v0 + v1 < (t1 - t0) * 1000 then (-1, 0) else if v0 + v1 < (t0 - t1) * 1000 then (1, 0) else (0, 0)) := if_pos ⟨rfl, rfl, a2, a3⟩
  have e2 : orderR t1 t0 (v1, 0) (v0, 0) = (if v1 + v0 < (t0 - t1) * 1000 then (-1, 0) else if v1 + v0 < (t1 - t0) * 1000 then (1, 0) else (0, 0)) := if_pos ⟨rfl, rfl, a3, a2⟩
  have e3 : orderR t0 t1 (0, 0) (0, 0) = (if (0 : Int) + 0 < (t1 - t0) * 1000 then (-1, 0) else if (0 : Int) + 0 < (t0 - t1) * 1000 then (1, 0) else (0, 0)) := if_pos ⟨rfl, rfl, a2, a3⟩
  have hgh : ∃ z g w h : Int, orderR t1 t2 (v1, 0) p2 = (z, g) ∧ orderR t0 t2 (v0, 0) p2 = (w, h) ∧ (g = 150 ∨ (g = 0 ∧ h = 0 ∧ (v0 + v1 < (t1 - t0) * 1000 → z = -1 → w = -1))) := by
    by_cases hk : p2.2 = 0 ∧ TimeOk t2
    · obtain ⟨v2, rfl, hv2⟩ : ∃ v, p2 = (v, 0) ∧ 0 ≤ v := by
        rcases h2 with rfl | h
        · cases hk.1
        · exact h
      have f1 : orderR t1 t2 (v1, 0) (v2, 0) = (if v1 + v2 < (t2 - t1) * 1000 then (-1, 0) else if v1 + v2 < (t1 - t2) * 1000 then (1, 0) else (0, 0)) := if_pos ⟨rfl, rfl, a3, hk.2⟩
      have f2 : orderR t0 t2 (v0, 0) (v2, 0) = (if v0 + v2 < (t2 - t0) * 1000 then (-1, 0) else if v0 + v2 < (t0 - t2) * 1000 then (1, 0) else (0, 0)) := if_pos ⟨rfl, rfl, a2, hk.2⟩
      have g1 : (orderR t1 t2 (v1, 0) (v2, 0)).2 = 0 := by rw [f1]; split <;> (try split) <;> rfl
      have g2 : (orderR t0 t2 (v0, 0) (v2, 0)).2 = 0 := by rw [f2]; split <;> (try split) <;> rfl
      refine ⟨(orderR t1 t2 (v1, 0) (v2, 0)).1, (orderR t1 t2 (v1, 0) (v2, 0)).2, (orderR t0 t2 (v0, 0) (v2, 0)).1, (orderR t0 t2 (v0, 0) (v2, 0)).2, rfl, rfl, .inr ⟨g1, g2, fun q1 q2 => ?_⟩⟩
      rw [f1] at q2
      rw [f2]
      split at q2
      · rw [if_pos (by omega)]
      · split at q2
        · simp at q2
        · simp at q2
    · refine ⟨(orderR t1 t2 (v1, 0) p2).1, (orderR t1 t2 (v1, 0) p2).2, (orderR t0 t2 (v0, 0) p2).1, (orderR t0 t2 (v0, 0) p2).2, rfl, rfl, .inl ?_⟩
      rw [show orderR t1 t2 (v1, 0) p2 = (0, 150) from if_neg fun k => hk ⟨k.2.1, k.2.2.2⟩]
  obtain ⟨z, g, w, h, q1, q2, q3⟩ := hgh
  rcases (show v0 + v1 < (t1 - t0) * 1000 ∨ v0 + v1 < (t0 - t1) * 1000 ∨ (¬ v0 + v1 < (t1 - t0) * 1000 ∧ ¬ v0 + v1 < (t0 - t1) * 1000) by omega) with hc | hc | ⟨hc, hd⟩
  · refine .inr ⟨-1, -1, z, g, w, h, ?_, ?_, q1, q2, ?_, .inl ⟨by omega, rfl⟩, .inl ⟨rfl, rfl⟩, ?_⟩
    · rw [e1, if_pos hc]
    · rw [e2, if_neg (by omega), if_pos (by omega)]; rfl
    · rw [e3, if_pos (by omega)]
    · rcases q3 with q | ⟨qa, qb, qc⟩
      · exact .inl q
      · exact .inr ⟨qa, qb, fun _ => qc hc⟩
  · refine .inr ⟨1, 1, z, g, w, h, ?_, ?_, q1, q2, ?_, .inr (.inr ⟨by omega, rfl⟩), .inr (.inl ⟨rfl, rfl⟩), ?_⟩
    · rw [e1, if_neg (by omega), if_pos hc]
    · rw [e2, if_pos (by omega)]
    · rw [e3, if_neg (by omega), if_pos (by omega)]
    · rcases q3 with q | ⟨qa, qb, qc⟩
      · exact .inl q
      · exact .inr ⟨qa, qb, fun k => by omega⟩
  · have hx : orderR t0 t1 (v0, 0) (v1, 0) = (0, 0) := by rw [e1, if_neg hc, if_neg hd]
    have hy : orderR t1 t0 (v1, 0) (v0, 0) = (-0, 0) := by rw [e2, if_neg (by omega), if_neg (by omega)]; rfl
    have hq : g = 150 ∨ (g = 0 ∧ h = 0 ∧ ((0 : Int) = -1 → z = -1 → w = -1)) := by
      rcases q3 with q | ⟨qa, qb, qc⟩
      · exact .inl q
      · exact .inr ⟨qa, qb, fun k => by omega⟩
    rcases Int.lt_trichotomy t0 t1 with hl | hl | hl
    · exact .inr ⟨0, -1, z, g, w, h, hx, hy, q1, q2, by rw [e3, if_pos (by omega)], .inl ⟨hl, rfl⟩, .inr (.inr rfl), hq⟩
    · exact .inr ⟨0, 0, z, g, w, h, hx, hy, q1, q2, by rw [e3, if_neg (by omega), if_neg (by omega)], .inr (.inl ⟨hl, rfl⟩), .inr (.inr rfl), hq⟩
    · exact .inr ⟨0, 1, z, g, w, h, hx, hy, q1, q2, by rw [e3, if_neg (by omega), if_pos (by omega)], .inr (.inr ⟨hl, rfl⟩), .inr (.inr rfl), hq⟩

theorem width_mild (s m u : Int) : widthR s m u = (0, 150) ∨ ∃ v, widthR s m u = (v, 0) ∧ 0 ≤ v := by
  rcases width_cases s m u with h | ⟨v, h, h1, _⟩
  · exact .inl h
  · exact .inr ⟨v, h, h1⟩

/-- A block that stays. -/
def BlkS (W : World) (b : Nat) (o : Obj) : Prop := W.heap[b]? = some o
theorem BlkS.below {W W' : World} {b : Nat} {o : Obj} (h : BlkS W b o) (hb : Below W.heap.size W W') : BlkS W' b o := (hb.block b (Array.getElem?_eq_some_iff.1 h).1).trans h
theorem exact_width : widthR 0 0 0 = (0, 0) := by kernel_rfl

end Go.Proofs.YtholkbgkkfndhaaDoor
