/-
  HOUR: fields, AND WHAT read TELLS, AS A FUNCTION OF BYTES.
-/
import Derived.Test.YtholkbgkkfndhaaDoorHourD
namespace Go.Proofs.YtholkbgkkfndhaaDoor
open Go.RowKit Go.Shelf
set_option maxRecDepth 100000

theorem fields_m (w : World) (s : List UInt8) (yd : Nat) : Calls Tryd.prog 42 #[.string ⟨s.toArray⟩, .int .i64 (yd : Int)] w fun e w' => e = .returned (.func (.func 55) #[] #[.pointer (some ⟨w.heap.size + 1, 0, none⟩), .pointer (some ⟨w.heap.size, 0, none⟩)]) ∧ w' = (w.alloc (.cells #[.string ⟨s.toArray⟩] 9)).alloc (.cells #[.int .i64 (yd : Int)] 3) := by
  go_enter Tryd.func42, Tryd.ntmps42
  go_wp2
  go_ret
  exact ⟨rfl, rfl⟩

/-- Six fields, all of them numbers: the text is long enough. -/
theorem seqF_long : ∀ k size s, (∀ x ∈ seqF k size s, x.2 = true) → (seqF k size s).length = k ∧ (0 < k → size + 2 * (k - 1) ≤ s.length)
  | 0, _, _, _ => ⟨rfl, fun h => by omega⟩
  | k + 1, size, s, h => by
    unfold seqF at h ⊢
    by_cases hs : s.length < size
    · rw [if_pos hs] at h
      have := h (0, false) (List.mem_singleton.2 rfl)
      cases this
    · rw [if_neg hs] at h ⊢
      obtain ⟨h1, h2⟩ := seqF_long k 2 (s.drop size) (fun x hx => h x (List.mem_cons_of_mem _ hx))
      rw [List.length_drop] at h2
      refine ⟨by rw [List.length_cons, h1], fun _ => ?_⟩
      by_cases hk : k = 0
      · subst hk; omega
      · have := h2 (by omega)
        omega

/-- The numbers of a text's fields, where all are numbers. -/
def AllF (yd : Nat) (s : List UInt8) : Prop := ∀ x ∈ seqF 6 yd s, x.2 = true

end Go.Proofs.YtholkbgkkfndhaaDoor
