/-
  THE HEAP: up.
-/
import Derived.Test.YtfeajcgcjpngkaaPriZ
namespace Go.Proofs.Ytfeajcgcjpngkaa
open Go.RowKit

/-- A box with a row of marks. -/
def HpI (B : Nat) (w : World) (b g n c : Nat) (L : List (Nat × Nat)) : Prop := w.cell? ⟨b, 0, none⟩ = some (.slice (some ⟨g, 0, none⟩) n c) ∧ MkQ B w (.slice (some ⟨g, 0, none⟩) n c) L ∧ n = L.length ∧ B ≤ g ∧ b ≠ g
theorem HpI.drew {B b g n c : Nat} {w : World} {L : List (Nat × Nat)} (h : HpI B w b g n c L) : HpI B w.drew b g n c L := ⟨h.1, h.2.1.drew, h.2.2⟩
theorem HpI.key {B b g n c i : Nat} {w : World} {L : List (Nat × Nat)} (h : HpI B w b g n c L) (hi : i < n) : w.cell? ⟨g, i * 2, none⟩ = some (.int .i64 ((ky L i : Nat) : Int)) := by
  obtain ⟨-, h2, rfl, -⟩ := h
  exact (h2.cellAt (i * 2) (by omega)).trans (flat_get0 L i hi)
theorem cell_heap {w w' : World} {b : Nat} (h : w'.heap[b]? = w.heap[b]?) : w'.cell? ⟨b, 0, none⟩ = w.cell? ⟨b, 0, none⟩ := by
  unfold World.cell?
  simp only [h]
theorem HpI.swap {B b g n c i j : Nat} {w : World} {L : List (Nat × Nat)} (h : HpI B w b g n c L) (hq : MkQ B (swW w g i j (gt L i) (gt L j)) (.slice (some ⟨g, 0, none⟩) n c) (sw L i j)) : HpI B (swW w g i j (gt L i) (gt L j)) b g n c (sw L i j) := by
  obtain ⟨h1, h2, h3, h4, h5⟩ := h
  exact ⟨(cell_heap (swW_heap h5)).trans h1, hq, by rw [sw_len]; exact h3, h4, h5⟩
/-- What the heap's work leaves: all but the row's block, and what was written before. -/
def Wrk (B g : Nat) (w w' : World) : Prop := (∀ k, k ≠ g → w'.heap[k]? = w.heap[k]?) ∧ ∀ w0, Below B w0 w → Below B w0 w'
theorem Wrk.refl (B g : Nat) (w : World) : Wrk B g w w := ⟨fun _ _ => rfl, fun _ h => h⟩
theorem Wrk.drew {B g : Nat} {w w' : World} (h : Wrk B g w w') : Wrk B g w w'.drew := ⟨h.1, fun w0 h0 => (h.2 w0 h0).drew⟩
theorem Wrk.swap {B g i j : Nat} {x y : Nat × Nat} {w w' : World} (h : Wrk B g w w') (hg : B ≤ g) : Wrk B g w (swW w' g i j x y) := ⟨fun k hk => (swW_heap hk).trans (h.1 k hk), fun w0 h0 => swW_below (h.2 w0 h0) hg⟩

set_option maxRecDepth 100000 in
set_option maxHeartbeats 1000000 in
theorem heap_up (B b g n c j0 : Nat) (L : List (Nat × Nat)) (w : World) (h : HpI B w b g n c L) (hU : UpI L j0) (hj : j0 < n) (hn : n < 1000000) :
    Calls Try.prog 67 #[.iface 80 (.pointer (some ⟨b, 0, none⟩)), .int .i64 (j0 : Int)] w fun e w' => e = .returned (.tuple #[]) ∧ ∃ L', HpI B w' b g n c L' ∧ HeapN L' L'.length ∧ L'.Perm L ∧ Wrk B g w w' := by
  have h0 : Try.f67.results = #[] := by kernel_rfl
  have H0 := Lib.hid h0
  have HI := Lib.hid h
  have HU := Lib.hid hU
  clear h hU h0
  go_enter Try.func67, Try.ntmps67
  go_wp2
  go_loopw [1] (fun jv wr => ∃ (j : Nat) (M : List (Nat × Nat)), jv = .int .i64 (j : Int) ∧ j < n ∧ Hid (HpI B wr b g n c M ∧ UpI M j ∧ M.Perm L ∧ Wrk B g w wr)) (fun jv _ => (intOf jv).toNat)
  case atStart => exact ⟨j0, L, rfl, hj, HI.out, HU.out, List.Perm.refl _, Wrk.refl _ _ _⟩
  case round =>
    obtain ⟨j, M, rfl, hjn, hI⟩ := hrel
    rcases j with _ | t
    · go_wp2
      refine bodyPost_end (v := .tuple #[]) (by simp [results, H0.out]) rfl ?_
      exact ⟨rfl, M, hI.out.1, hI.out.2.1.top, hI.out.2.2.1, hI.out.2.2.2⟩
    · obtain ⟨i, hi⟩ : ∃ i, i = t / 2 := ⟨_, rfl⟩
      have hq : (t : Int) / 2 = (i : Int) := by omega
      have hin : i < n := by omega
      have hit : i < t + 1 := by omega
      have HP := Lib.hid (show i = (t + 1 - 1) / 2 by omega)
      clear hi
      have hm := m_less 226 b wr _ hI.out.1.1
      by_cases hk : ky M (t + 1) < ky M i
      · have HK := Lib.hid hk
        have HR := Lib.hid (decide_eq_true hk).symm
        clear hk
        go_wp2_with fail
        refine (less_any g n c (t + 1) i _ _ wr hjn hin hn (hI.out.1.key hjn) (hI.out.1.key hin) true HR.out).mono ?_
        rintro e w1 ⟨rfl, rfl⟩
        have hms := m_swap 226 b wr.drew _ hI.out.1.drew.1
        go_wp2_with fail
        refine (swap_any B g n c i (t + 1) M wr.drew hI.out.1.drew.2.1 hI.out.1.2.2.1 hin hjn hn).mono ?_
        rintro e w2 ⟨rfl, rfl, hq2⟩
        have HQ2 := Lib.hid hq2
        clear hq2
        go_wp2
        go_roundw
        case rel => exact ⟨i, sw M i (t + 1), rfl, hin, hI.out.1.drew.swap HQ2.out, hI.out.2.1.step (by omega) (by rw [← hI.out.1.2.2.1]; exact hjn) HP.out HK.out, (sw_perm (by rw [← hI.out.1.2.2.1]; exact hin) (by rw [← hI.out.1.2.2.1]; exact hjn)).trans hI.out.2.2.1, hI.out.2.2.2.drew.swap hI.out.1.2.2.2.1⟩
        case measure => simp [intOf]; omega
      · have HK := Lib.hid (show ky M ((t + 1 - 1) / 2) ≤ ky M (t + 1) by rw [← HP.out]; omega)
        have HR := Lib.hid (decide_eq_false hk).symm
        clear hk
        go_wp2_with fail
        refine (less_any g n c (t + 1) i _ _ wr hjn hin hn (hI.out.1.key hjn) (hI.out.1.key hin) false HR.out).mono ?_
        rintro e w1 ⟨rfl, rfl⟩
        go_wp2
        refine bodyPost_end (v := .tuple #[]) (by simp [results, H0.out]) rfl ?_
        exact ⟨rfl, M, hI.out.1.drew, hI.out.2.1.done HK.out, hI.out.2.2.1, hI.out.2.2.2.drew⟩

end Go.Proofs.Ytfeajcgcjpngkaa
