/-
  THE HEAP's METHODS WALKED: Len, Less, Swap.
-/
import Derived.Test.YtfeajcgcjpngkaaPriY
namespace Go.Proofs.Ytfeajcgcjpngkaa
open Go.RowKit
theorem len_any (a : Option Addr) (n c : Nat) (w : World) : Calls Try.prog 88 #[.slice a n c] w fun e w' => e = .returned (.int .i64 (n : Int)) ∧ w = w' := by
  go_enter Try.func88, Try.ntmps88
  go_wp2
  go_ret
  exact ⟨rfl, rfl⟩
theorem less_any (g n c i j x y : Nat) (w : World) (hi : i < n) (hj : j < n) (hn : n < 1000000) (h1 : w.cell? ⟨g, i * 2, none⟩ = some (.int .i64 (x : Int))) (h2 : w.cell? ⟨g, j * 2, none⟩ = some (.int .i64 (y : Int))) (r : Bool) (hr : r = decide (x < y)) : Calls Try.prog 89 #[.slice (some ⟨g, 0, none⟩) n c, .int .i64 (i : Int), .int .i64 (j : Int)] w fun e w' => e = .returned (.bool r) ∧ w' = w.drew := by
  subst hr
  go_enter Try.func89, Try.ntmps89
  go_wp2
  go_region
  all_goals go_wp2
  all_goals go_ret
  all_goals exact ⟨rfl, rfl⟩

/-- The cells of marks. -/
def flat : List (Nat × Nat) → List Value
  | [] => []
  | x :: L => .int .i64 (x.1 : Int) :: .int .i64 (x.2 : Int) :: flat L
theorem flat_len : ∀ L, (flat L).length = L.length * 2 := by
  intro L
  induction L with
  | nil => rfl
  | cons x L ih => simp [flat, ih]; omega
theorem flat_get0 : ∀ (L : List (Nat × Nat)) (i : Nat), i < L.length → (flat L)[i * 2]? = some (.int .i64 ((gt L i).1 : Int)) := by
  intro L
  induction L with
  | nil => intro i h; simp at h
  | cons x L ih =>
    intro i h
    rcases i with _ | i
    · rfl
    · rw [show (i + 1) * 2 = i * 2 + 1 + 1 by omega]
      have := ih i (by simpa using h)
      simpa [flat, gt] using this
theorem flat_get1 : ∀ (L : List (Nat × Nat)) (i : Nat), i < L.length → (flat L)[i * 2 + 1]? = some (.int .i64 ((gt L i).2 : Int)) := by
  intro L
  induction L with
  | nil => intro i h; simp at h
  | cons x L ih =>
    intro i h
    rcases i with _ | i
    · rfl
    · rw [show (i + 1) * 2 + 1 = i * 2 + 1 + 1 + 1 by omega]
      have := ih i (by simpa using h)
      simpa [flat, gt] using this
theorem flat_set : ∀ (L : List (Nat × Nat)) (i : Nat) (x : Nat × Nat), ((flat L).set (i * 2) (.int .i64 (x.1 : Int))).set (i * 2 + 1) (.int .i64 (x.2 : Int)) = flat (L.set i x) := by
  intro L
  induction L with
  | nil => intro i x; rfl
  | cons y L ih =>
    intro i x
    rcases i with _ | i
    · rfl
    · rw [show (i + 1) * 2 + 1 = i * 2 + 1 + 1 + 1 by omega, show (i + 1) * 2 = i * 2 + 1 + 1 by omega]
      have := ih i x
      simpa [flat] using this
/-- Marks in a row of one's own. -/
def MkQ (B : Nat) (w : World) (v : Value) (L : List (Nat × Nat)) : Prop := w.ownsRow B 88 2 v L.length (flat L)
/-- The world behind a Swap. -/
def swW (w : World) (g i j : Nat) (x y : Nat × Nat) : World := ((((w.setCell ⟨g, i * 2, none⟩ (.int .i64 (y.1 : Int))).setCell ⟨g, i * 2 + 1, none⟩ (.int .i64 (y.2 : Int))).setCell ⟨g, j * 2, none⟩ (.int .i64 (x.1 : Int))).setCell ⟨g, j * 2 + 1, none⟩ (.int .i64 (x.2 : Int))).drew
theorem swW_below {B g i j : Nat} {x y : Nat × Nat} {w0 w : World} (h : Below B w0 w) (hg : B ≤ g) : Below B w0 (swW w g i j x y) :=
  ((((h.setCell (p := ⟨g, i * 2, none⟩) hg _).setCell (p := ⟨g, i * 2 + 1, none⟩) hg _).setCell (p := ⟨g, j * 2, none⟩) hg _).setCell (p := ⟨g, j * 2 + 1, none⟩) hg _).drew
theorem swW_heap {g i j k : Nat} {x y : Nat × Nat} {w : World} (h : k ≠ g) : (swW w g i j x y).heap[k]? = w.heap[k]? := by
  show (((((w.setCell ⟨g, i * 2, none⟩ (.int .i64 (y.1 : Int))).setCell ⟨g, i * 2 + 1, none⟩ (.int .i64 (y.2 : Int))).setCell ⟨g, j * 2, none⟩ (.int .i64 (x.1 : Int))).setCell ⟨g, j * 2 + 1, none⟩ (.int .i64 (x.2 : Int)))).heap[k]? = _
  rw [Below.heap_setCell _ ⟨g, _, none⟩ _ k h, Below.heap_setCell _ ⟨g, _, none⟩ _ k h, Below.heap_setCell _ ⟨g, _, none⟩ _ k h, Below.heap_setCell _ ⟨g, _, none⟩ _ k h]
set_option maxHeartbeats 1000000 in
theorem swap_any (B g n c i j : Nat) (L : List (Nat × Nat)) (w : World) (h : MkQ B w (.slice (some ⟨g, 0, none⟩) n c) L) (hl : n = L.length) (hi : i < n) (hj : j < n) (hn : n < 1000000) : Calls Try.prog 92 #[.slice (some ⟨g, 0, none⟩) n c, .int .i64 (i : Int), .int .i64 (j : Int)] w fun e w' => e = .returned (.tuple #[]) ∧ w' = swW w g i j (gt L i) (gt L j) ∧ MkQ B w' (.slice (some ⟨g, 0, none⟩) n c) (sw L i j) := by
  subst hl
  have h1 := (h.cellAt (i * 2) (by omega)).trans (flat_get0 L i hi)
  have h2 := (h.cellAt (j * 2) (by omega)).trans (flat_get0 L j hj)
  have h3 := (h.cellAt (i * 2 + 1) (by omega)).trans (flat_get1 L i hi)
  have h4 := (h.cellAt (j * 2 + 1) (by omega)).trans (flat_get1 L j hj)
  have hf := h.frozenAt
  have h0 : Try.f92.results = #[] := by kernel_rfl
  have s1 := h.stored (i * 2) (.int .i64 ((gt L j).1 : Int))
  have s2 := s1.1.stored (i * 2 + 1) (.int .i64 ((gt L j).2 : Int))
  rw [flat_set L i (gt L j)] at s2
  have s3 := s2.1.stored (j * 2) (.int .i64 ((gt L i).1 : Int))
  have s4 := s3.1.stored (j * 2 + 1) (.int .i64 ((gt L i).2 : Int))
  rw [flat_set _ j (gt L i)] at s4
  have S4 := Lib.hid s4
  clear s1 s2 s3 s4
  have hsw : sw L i j = (L.set i (gt L j)).set j (gt L i) := rfl
  have HSW := Lib.hid hsw
  have H0 := Lib.hid h0
  obtain ⟨wz, hwz⟩ : ∃ wz, swW w g i j (gt L i) (gt L j) = wz := ⟨_, rfl⟩
  rw [hwz]
  unfold swW at hwz
  have HW := Lib.hid hwz
  clear hwz
  clear hsw h h0
  have hN : L.length < 1000000 := hn
  rcases Nat.lt_trichotomy i j with hij | hij | hij
  · skip
    generalize (gt L i).1 = x at *
    generalize (gt L j).1 = y at *
    generalize (gt L i).2 = p at *
    generalize (gt L j).2 = q at *
    go_enter Try.func92, Try.ntmps92
    go_wp2
    go_region
    go_wp2
    refine bodyPost_end (v := .tuple #[]) (by simp [results, H0.out]) rfl ?_
    exact ⟨rfl, HW.out, by unfold MkQ; rw [sw_len, HSW.out]; exact S4.out.1.drew⟩
  · skip
    subst hij
    clear h2 h4
    generalize (gt L i).1 = x at *
    generalize (gt L i).2 = p at *
    go_enter Try.func92, Try.ntmps92
    go_wp2
    go_region
    go_wp2
    refine bodyPost_end (v := .tuple #[]) (by simp [results, H0.out]) rfl ?_
    exact ⟨rfl, HW.out, by unfold MkQ; rw [sw_len, HSW.out]; exact S4.out.1.drew⟩
  · skip
    generalize (gt L i).1 = x at *
    generalize (gt L j).1 = y at *
    generalize (gt L i).2 = p at *
    generalize (gt L j).2 = q at *
    go_enter Try.func92, Try.ntmps92
    go_wp2
    go_region
    go_wp2
    refine bodyPost_end (v := .tuple #[]) (by simp [results, H0.out]) rfl ?_
    exact ⟨rfl, HW.out, by unfold MkQ; rw [sw_len, HSW.out]; exact S4.out.1.drew⟩
end Go.Proofs.Ytfeajcgcjpngkaa
