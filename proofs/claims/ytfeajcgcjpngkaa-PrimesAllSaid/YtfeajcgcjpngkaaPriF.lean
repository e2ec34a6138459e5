/-
  heap.Push AND heap.Pop.
-/
import Derived.Test.YtfeajcgcjpngkaaPriE
namespace Go.Proofs.Ytfeajcgcjpngkaa
open Go.RowKit

/-- The heap in its box, in order. -/
def HpO (B : Nat) (w : World) (b g n c : Nat) (L : List (Nat × Nat)) : Prop := HpB B w b g n c L ∧ HeapN L L.length

set_option maxRecDepth 100000 in
set_option maxHeartbeats 1000000 in
theorem hpush_any (B b g n c : Nat) (L : List (Nat × Nat)) (x y : Nat) (w : World) (h : HpO B w b g n c L) (hn : n < 900000) :
    Calls Try.prog 54 #[.iface 80 (.pointer (some ⟨b, 0, none⟩)), .iface 88 (.agg #[.int .i64 (x : Int), .int .i64 (y : Int)])] w fun e w' => e = .returned (.tuple #[]) ∧ (∃ g' c' L', HpO B w' b g' (n + 1) c' L' ∧ L'.Perm (L ++ [(x, y)])) ∧ WayT B w w' := by
  have h0 : Try.f54.results = #[] := by kernel_rfl
  have H0 := Lib.hid h0
  have H := Lib.hid h
  have hmp := m_push b w
  clear h h0
  go_enter Try.func54, Try.ntmps54
  go_wp2_with fail
  refine (pushM_any B b g n c L x y w H.out.1 (by omega)).mono ?_
  rintro e w1 ⟨rfl, ⟨g1, c1, h1⟩, hy⟩
  have H1 := Lib.hid h1
  have Y1 := Lib.hid hy
  have HU := Lib.hid (UpI.start H.out.2 (x, y))
  have HL := Lib.hid (show L.length = n from H.out.1.2.1.2.2.1.symm)
  clear hmp h1 hy
  have hml := m_len 226 b w1 _ H1.out.1.cell
  go_wp2_with fail
  refine (len_any _ _ _ _).mono ?_
  rintro e w2 ⟨rfl, rfl⟩
  clear hml
  go_wp2_with fail
  refine (heap_up B b g1 (n + 1) c1 n _ w1 H1.out.2.1 (HL.out ▸ HU.out) (by omega) (by omega)).mono ?_
  rintro e w2 ⟨rfl, L2, hI2, hN2, hp2, hW2⟩
  have H2 := Lib.hid (H1.out.wrk hI2 hW2)
  have HN2 := Lib.hid hN2
  have HP2 := Lib.hid hp2
  clear hI2 hN2 hp2 hW2
  go_wp2
  refine bodyPost_end (v := .tuple #[]) (by simp [results, H0.out]) rfl ?_
  exact ⟨rfl, ⟨g1, c1, L2, ⟨H2.out.1, HN2.out⟩, HP2.out⟩, Y1.out.trans H2.out.2⟩

set_option maxRecDepth 100000 in
set_option maxHeartbeats 1000000 in
theorem hpop_any (B b g m c : Nat) (L : List (Nat × Nat)) (x y : Nat) (w : World) (h : HpO B w b g (m + 1) c L) (hn : m < 900000) (hx : gt L 0 = (x, y)) :
    Calls Try.prog 66 #[.iface 80 (.pointer (some ⟨b, 0, none⟩))] w fun e w' => e = .returned (.iface 88 (.agg #[.int .i64 (x : Int), .int .i64 (y : Int)])) ∧ (∃ L', HpO B w' b g m c L' ∧ ((x, y) :: L').Perm L) ∧ WayT B w w' := by
  have H := Lib.hid h
  have HX := Lib.hid hx
  have HL := Lib.hid (show L.length = m + 1 from h.1.2.1.2.2.1.symm)
  have hml := m_len 226 b w _ h.1.1.cell
  clear h hx
  go_enter Try.func66, Try.ntmps66
  go_wp2_with fail
  refine (len_any _ _ _ _).mono ?_
  rintro e w2 ⟨rfl, rfl⟩
  clear hml
  have hms := m_swap 226 b w _ H.out.1.1.cell
  go_wp2_with fail
  refine (swap_any B g (m + 1) c 0 m L w H.out.1.2.1.2.1 HL.out.symm (by omega) (by omega) (by omega)).mono ?_
  rintro e w1 ⟨rfl, hw1, hq1⟩
  have HI1 : Hid (HpI B w1 b g (m + 1) c (sw L 0 m) ∧ Wrk B g w w1) := by
    subst hw1
    exact ⟨H.out.1.2.1.swap hq1, (Wrk.refl B g w).swap H.out.1.2.1.2.2.2.1⟩
  have H1 := Lib.hid (H.out.1.wrk HI1.out.1 HI1.out.2)
  clear hms hw1 hq1
  go_wp2_with fail
  refine (heap_down B b g (m + 1) c 0 m (sw L 0 m) w1 H1.out.1.2.1 (DownI.start H.out.2 HL.out) (by omega) (by omega) (by omega)).mono ?_
  rintro e w2 ⟨⟨r, rfl⟩, L2, hI2, hN2, hS2, hW2⟩
  have H2 := Lib.hid (H1.out.1.wrk hI2 hW2)
  have hpo := popped HL.out hS2 hN2
  rw [HX.out] at hpo
  have HP := Lib.hid hpo
  clear hI2 hN2 hS2 hW2 hpo
  have hmp := m_pop b w2
  go_wp2_with fail
  refine (popM_any B b g m c L2 w2 H2.out.1 (by omega)).mono ?_
  rintro e w3 ⟨rfl, h3, hy3⟩
  have H3 := Lib.hid h3
  have Y3 := Lib.hid hy3
  clear hmp h3 hy3
  go_wp2
  go_ret
  exact ⟨by rw [HP.out.1]; rfl, ⟨_, ⟨H3.out, HP.out.2.1⟩, HP.out.2.2⟩, (H1.out.2.trans H2.out.2).trans Y3.out⟩

end Go.Proofs.Ytfeajcgcjpngkaa
