/-
  THE HEAP: the methods Push and Pop.
-/
import Derived.Test.YtfeajcgcjpngkaaPriD
import Derived.Test.YtfeajcgcjpngkaaSeqT
import Derived.Deep.RegionLaw
namespace Go.Proofs.Ytfeajcgcjpngkaa
open Go.RowKit

/-- The types whose blocks the iterator of primes writes. -/
def TMk (E : TypeId) : Prop := E = 88 ∨ E = 82
/-- A way from one world to another that writes such blocks, from B on, alone. -/
def WayT (B : Nat) (w w' : World) : Prop := ∀ J : World → Prop, (∀ X X' row, J X → X.grownBy X' row → (∀ r, row = some r → B ≤ r ∧ ∃ o : Obj, X.heap[r]? = some o ∧ OwnT TMk o) → J X') → J w → J w'
theorem WayT.refl (B : Nat) (w : World) : WayT B w w := fun _ _ h => h
theorem WayT.trans {B : Nat} {X Y Z : World} (h : WayT B X Y) (k : WayT B Y Z) : WayT B X Z := fun J hJ h0 => k J hJ (h J hJ h0)
theorem WayT.step {B : Nat} {w X X' : World} {row : Option Nat} (h : WayT B w X) (hg : X.grownBy X' row) (hr : ∀ r, row = some r → B ≤ r ∧ ∃ c E f, X.heap[r]? = some (Obj.cells c E f) ∧ TMk E) : WayT B w X' := fun J hJ h0 =>
  hJ _ _ row (h J hJ h0) hg (fun r e => ⟨(hr r e).1, (hr r e).2.elim fun c ⟨E, f, hk, hE⟩ => ⟨_, hk, .inr ⟨c, E, f, rfl, hE⟩⟩⟩)
theorem WayT.alloc {B : Nat} {w X : World} (h : WayT B w X) (o : Obj) : WayT B w (X.alloc o) := h.step (World.grownBy_alloc X o none) (fun r e => by cases e)
theorem WayT.drew {B : Nat} {w X : World} (h : WayT B w X) : WayT B w X.drew := h.step (row := none) ⟨rfl, rfl, rfl, Nat.le_refl _, fun _ _ _ => rfl⟩ (fun r e => by cases e)
theorem WayT.below {B : Nat} {w0 w w' : World} (h : WayT B w w') (h0 : Below B w0 w) (hB : B ≤ w.heap.size) : Below B w0 w' ∧ B ≤ w'.heap.size :=
  h (fun X => Below B w0 X ∧ B ≤ X.heap.size) (fun _ _ _ hj hg hr => ⟨hj.1.grown hg hj.2 (fun k e => (hr k e).1), Nat.le_trans hj.2 hg.size⟩) ⟨h0, hB⟩
theorem WayT.wrk {B g n c : Nat} {w w' : World} {L : List (Nat × Nat)} (h : Wrk B g w w') (hg : MkQ B w (.slice (some ⟨g, 0, none⟩) n c) L) : WayT B w w' := by
  have hb := h.2 w (Below.refl B w)
  refine (WayT.refl B w).step (row := some g) ⟨hb.os, hb.tape, hb.output, hb.size, fun k _ hk => h.1 k fun e => hk (by rw [e])⟩ fun r e => ?_
  cases e
  rcases hg.2 with ⟨h1, -⟩ | ⟨g', cap, cur, h1, h2, h3, -⟩
  · cases h1
  · cases h1
    exact ⟨h2, cur, _, _, h3, .inl rfl⟩
/-- The heap in its box. -/
def HpB (B : Nat) (w : World) (b g n c : Nat) (L : List (Nat × Nat)) : Prop := Boxed w b 82 (.slice (some ⟨g, 0, none⟩) n c) ∧ HpI B w b g n c L ∧ B ≤ b ∧ B ≤ w.heap.size
theorem HpB.wrk {B b g n c : Nat} {w w' : World} {L L' : List (Nat × Nat)} (h : HpB B w b g n c L) (k : HpI B w' b g n c L') (hw : Wrk B g w w') : HpB B w' b g n c L' ∧ WayT B w w' := by
  have hy : WayT B w w' := WayT.wrk hw h.2.1.2.1
  exact ⟨⟨(hw.1 b h.2.1.2.2.2.2).trans h.1, k, h.2.2.1, (hy.below (Below.refl B w) h.2.2.2).2⟩, hy⟩
theorem HpB.drew {B b g n c : Nat} {w : World} {L : List (Nat × Nat)} (h : HpB B w b g n c L) : HpB B w.drew b g n c L := ⟨h.1, h.2.1.drew, h.2.2⟩
theorem HpB.alloc {B b g n c : Nat} {w : World} {L : List (Nat × Nat)} (h : HpB B w b g n c L) (o : Obj) : HpB B (w.alloc o) b g n c L :=
  ⟨h.1.alloc o, ⟨(h.1.alloc o).cell, h.2.1.2.1.alloc o, h.2.1.2.2⟩, h.2.2.1, by have := h.2.2.2; simp; omega⟩

theorem flat_take : ∀ (L : List (Nat × Nat)) (m : Nat), flat (L.take m) = (flat L).take (m * 2) := by
  intro L
  induction L with
  | nil => intro m; simp [flat]
  | cons x L ih =>
    intro m
    rcases m with _ | m
    · simp [flat]
    · rw [show (m + 1) * 2 = m * 2 + 1 + 1 by omega]
      simp [flat, ih]
theorem flat_append : ∀ (L M : List (Nat × Nat)), flat (L ++ M) = flat L ++ flat M := by
  intro L M
  induction L with
  | nil => rfl
  | cons x L ih => simp [flat, ih]
theorem MkQ.upto {B : Nat} {w : World} {g n c : Nat} {L : List (Nat × Nat)} (h : MkQ B w (.slice (some ⟨g, 0, none⟩) n c) L) (m : Nat) (hm : m ≤ n) : MkQ B w (.slice (some ⟨g, 0, none⟩) m c) (L.take m) := by
  obtain ⟨h1, h2⟩ := h
  rcases h2 with ⟨h3, -⟩ | ⟨g', cap, cur, h3, hb, hg, hn, hc, hs, ht⟩
  · cases h3
  · cases h3
    have hl : (L.take m).length = m := by simp; omega
    refine ⟨by rw [flat_len], .inr ⟨g, c, cur, by rw [hl], hb, hg, by rw [hl]; omega, hc, hs, ?_⟩⟩
    rw [hl, flat_take, ← ht, List.take_take, Nat.min_eq_left (by omega)]
theorem HpB.shrunk {B b g m c : Nat} {w : World} {L : List (Nat × Nat)} (h : HpB B w b g (m + 1) c L) : HpB B (w.setCell ⟨b, 0, none⟩ (.slice (some ⟨g, 0, none⟩) m c)) b g m c (L.take m) ∧ WayT B w (w.setCell ⟨b, 0, none⟩ (.slice (some ⟨g, 0, none⟩) m c)) := by
  obtain ⟨h1, ⟨-, h3, h4, h5, h6⟩, h7, h8⟩ := h
  refine ⟨⟨h1.set _, ⟨(h1.set _).cell, ownsRow_setCell_other (h3.upto m (by omega)) (by intro e; simp [Value.ownBlock] at e; omega) _, by simp; omega, h5, h6⟩, h7, by simpa using h8⟩, ?_⟩
  exact (WayT.refl B w).step (grownBy_setCell' w b _) fun r e => by cases e; exact ⟨h7, _, _, _, h1, .inr rfl⟩

set_option maxRecDepth 100000 in
set_option maxHeartbeats 1000000 in
theorem popM_any (B b g m c : Nat) (L : List (Nat × Nat)) (w : World) (h : HpB B w b g (m + 1) c L) (hn : m < 1000000) :
    Calls Try.prog 90 #[.pointer (some ⟨b, 0, none⟩)] w fun e w' => e = .returned (.iface 88 (.agg #[.int .i64 ((gt L m).1 : Int), .int .i64 ((gt L m).2 : Int)])) ∧ HpB B w' b g m c (L.take m) ∧ WayT B w w' := by
  have hc := h.1.cell
  have hf := h.1.frozen
  have hl := h.2.1.2.2.1
  have hq : MkQ B w (.slice (some ⟨g, 0, none⟩) L.length c) L := by rw [← hl]; exact h.2.1.2.1
  have h1 := (hq.cellAt (m * 2) (by omega)).trans (flat_get0 L m (by omega))
  have h2 := (hq.cellAt (m * 2 + 1) (by omega)).trans (flat_get1 L m (by omega))
  have H := Lib.hid h
  have hbz := h.1.lt
  have hgz := (hq.lt g rfl).2
  have hmc : m + 1 ≤ c := by
    rw [hl]
    rcases hq.2 with ⟨h3, -⟩ | ⟨g', cap, cur, h3, -, -, h4, -⟩
    · cases h3
    · cases h3; exact h4
  clear h hl hq
  generalize (gt L m).1 = x at *
  generalize (gt L m).2 = y at *
  go_enter Try.func90, Try.ntmps90
  go_wp2
  go_region
  all_goals go_wp2
  all_goals go_region
  all_goals go_wp2
  all_goals go_ret
  all_goals exact ⟨rfl, (H.out.shrunk.1.alloc _).drew.drew, (H.out.shrunk.2.alloc _).drew.drew⟩

theorem two_new (w : World) (x y : Value) (t : TypeId) : ∀ j u, [x, y][j]? = some u → (w.alloc (.cells #[x, y] t)).drew.cell? ((⟨w.heap.size, 0, none⟩ : Addr).add j) = some u := by
  intro j u h
  have e : (⟨w.heap.size, 0, none⟩ : Addr).add j = ⟨w.heap.size, 0 + j, none⟩ := by unfold Addr.add; split <;> simp_all
  rw [e]
  show (w.alloc (.cells #[x, y] t)).cell? _ = _
  rw [World.cell?_alloc_at _ _ _ _ (by simp)]
  match j, h with
  | 0, h => simpa using h
  | 1, h => simpa using h
  | j + 2, h => simp at h
theorem two_one (q r : IntKind) (x y : Int) : ∀ u ∈ [Value.int q x, Value.int r y], u.oneCell' = true := by
  intro u hu
  simp at hu
  rcases hu with rfl | rfl <;> rfl
theorem row_form {w : World} {B E s n : Nat} {v : Value} {xs : List Value} (h : w.ownsRow B E s v (n + 1) xs) : ∃ g c, v = .slice (some ⟨g, 0, none⟩) (n + 1) c ∧ B ≤ g := by
  rcases h.2 with ⟨-, h0⟩ | ⟨g, c, _, rfl, hb, _⟩
  · omega
  · exact ⟨g, c, rfl, hb⟩
theorem HpB.pushed {B b g n c g2 c2 x y : Nat} {w1 w2 : World} {o : Obj} {L : List (Nat × Nat)} (h : HpB B w1 b g n c L) (hown : w2.ownsRow B 88 2 (.slice (some ⟨g2, 0, none⟩) (L.length + 1) c2) (L.length + 1) (flat L ++ [.int .i64 (x : Int), .int .i64 (y : Int)])) (hg : (w1.alloc o).drew.grownBy w2 (some g)) (hg2 : B ≤ g2) :
    Boxed w2 b 82 (.slice (some ⟨g, 0, none⟩) n c) ∧ HpB B (w2.setCell ⟨b, 0, none⟩ (.slice (some ⟨g2, 0, none⟩) (L.length + 1) c2)) b g2 (n + 1) c2 (L ++ [(x, y)]) ∧ WayT B w1 (w2.setCell ⟨b, 0, none⟩ (.slice (some ⟨g2, 0, none⟩) (L.length + 1) c2)) := by
  obtain ⟨h1, ⟨-, h3, h4, h5, h6⟩, h7, h8⟩ := h
  have b2 : Boxed w2 b 82 (.slice (some ⟨g, 0, none⟩) n c) := Boxed.kept (W := (w1.alloc o).drew) (h1.alloc o) hg (by simpa using h6)
  have hne : some b ≠ some g2 := b2.not_row (by decide) hown
  have hz : B ≤ w2.heap.size := by
    have h9 := hg.size
    have h10 : (w1.alloc o).drew.heap.size = w1.heap.size + 1 := World.size_alloc _ _
    omega
  have hm : MkQ B w2 (.slice (some ⟨g2, 0, none⟩) (n + 1) c2) (L ++ [(x, y)]) := by
    unfold MkQ
    rw [flat_append, List.length_append, List.length_singleton, h4]
    exact hown
  rw [← h4]
  refine ⟨b2, ⟨b2.set _, ⟨(b2.set _).cell, ownsRow_setCell_other hm (by intro e; exact hne (by simpa [Value.ownBlock] using e.symm)) _, by simp; omega, hg2, fun e => hne (by rw [e])⟩, h7, by simpa using hz⟩, ?_⟩
  refine ((((WayT.refl B w1).alloc o).drew).step hg fun r e => ?_).step (grownBy_setCell' w2 b _) fun r e => by cases e; exact ⟨h7, _, _, _, b2, .inr rfl⟩
  cases e
  rcases (World.ownsRow.alloc h3 o).2 with ⟨k1, -⟩ | ⟨g', cap, cur, k1, k2, k3, -⟩
  · cases k1
  · cases k1
    exact ⟨k2, cur, _, _, k3, .inl rfl⟩
theorem infoM : (Try.prog.info? 88).map (fun i => (i.zero, i.size, i.bytes)) = some (some (.agg #[.int .i64 0, .int .i64 0]), 2, 16) := by kernel_rfl
set_option maxRecDepth 100000 in
set_option maxHeartbeats 1000000 in
theorem pushM_any (B b g n c : Nat) (L : List (Nat × Nat)) (x y : Nat) (w : World) (h : HpB B w b g n c L) (hn : n < 1000000) :
    Calls Try.prog 91 #[.pointer (some ⟨b, 0, none⟩), .iface 88 (.agg #[.int .i64 (x : Int), .int .i64 (y : Int)])] w fun e w' => e = .returned (.tuple #[]) ∧ (∃ g' c', HpB B w' b g' (n + 1) c' (L ++ [(x, y)])) ∧ WayT B w w' := by
  have h0 : Try.f91.results = #[] := by kernel_rfl
  have H0 := Lib.hid h0
  obtain ⟨i0, hi, hz0, hz1, hz2⟩ := info_parts infoM
  have hc := h.1.cell
  have hbz := h.1.lt
  have H := Lib.hid h
  have hta : ∀ w, (Instr.typeAssert (.iface 88 (.agg #[.int .i64 (x : Int), .int .i64 (y : Int)])) 20 88 true).run Try.prog w = .ok (.tuple #[.agg #[.int .i64 (x : Int), .int .i64 (y : Int)], .bool true]) w := fun _ => by kernel_rfl
  clear h h0
  go_enter Try.func91, Try.ntmps91
  go_wp2
  have H1 := Lib.hid (H.out.alloc (.cells #[.int .i64 (x : Int), .int .i64 (y : Int)] 88))
  have Y1 := Lib.hid ((WayT.refl B w).alloc (.cells #[.int .i64 (x : Int), .int .i64 (y : Int)] 88))
  have hc1 := H1.out.1.cell
  have hf1 := H1.out.1.frozen
  have hbz1 := H1.out.1.lt
  have k0 : (w.alloc (.cells #[.int .i64 (x : Int), .int .i64 (y : Int)] 88)).cell? ⟨w.heap.size, 0, none⟩ = some (.int .i64 (x : Int)) := by rw [World.cell?_alloc_at _ _ _ _ rfl]; rfl
  have k1 : (w.alloc (.cells #[.int .i64 (x : Int), .int .i64 (y : Int)] 88)).cell? ⟨w.heap.size, 1, none⟩ = some (.int .i64 (y : Int)) := by rw [World.cell?_alloc_at _ _ _ _ rfl]; rfl
  have hlt : w.heap.size < (w.alloc (.cells #[.int .i64 (x : Int), .int .i64 (y : Int)] 88)).heap.size := by simp
  generalize w.alloc (.cells #[.int .i64 (x : Int), .int .i64 (y : Int)] 88) = w1 at *
  generalize w.heap.size = N at *
  have hown := Lib.hid ((World.ownsRow.alloc H1.out.2.1.2.1 (.cells #[.int .i64 (x : Int), .int .i64 (y : Int)] 88)).drew)
  have hnew := Lib.hid (two_new w1 (.int .i64 (x : Int)) (.int .i64 (y : Int)) 88)
  have hbase := Lib.hid H1.out.2.2.2
  have hLn := Lib.hid (show L.length < 1000000 by rw [← H.out.2.1.2.2.1]; exact hn)
  clear hc
  go_region_law (refine wp_append_own _ (.tmp 15) (.tmp 17) 82 rfl B 88 i0 (.agg #[.int .i64 0, .int .i64 0]) 2 16 Try.underlying82 hi hz0 hz1 hz2 rfl (by decide) _ L.length (flat L) rfl hown.out _ 1 1 [.int .i64 (x : Int), .int .i64 (y : Int)] rfl rfl hnew.out (two_one _ _ _ _) (by have := hLn.out; unfold maxLen; omega) (by have := hLn.out; omega) (by have := hbase.out; simp; omega) ?_; intro v' w2 hown2 hgrow hnil; obtain ⟨g2, c2, rfl, hg2⟩ := row_form hown2; have hP := Lib.hid (H1.out.pushed hown2 hgrow hg2); have hc2 := hP.out.1.cell; have hf2 := hP.out.1.frozen; clear hown2 hgrow hnil)
  all_goals go_wp2
  all_goals refine bodyPost_end (v := .tuple #[]) (by simp [results, H0.out]) rfl ?_
  all_goals exact ⟨rfl, ⟨_, _, hP.out.2.1⟩, Y1.out.trans hP.out.2.2⟩

end Go.Proofs.Ytfeajcgcjpngkaa
