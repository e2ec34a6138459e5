/-
  SHA-512: states that nobody made.
-/
import Derived.Test.YtpfdehjllnhllaaShbK
namespace Go.Proofs.Ytpfdehjllnhllaa
open Go.RowKit Go.Shelf

/-- A state that nobody made. -/
def Unmade (w : World) (v : Value) : Prop := v = .pointer none ∨ ∃ z, v = .pointer (some ⟨z, 0, none⟩) ∧ w.cell? ⟨z, 0, none⟩ = some (.int .i64 0) ∧ z < w.heap.size
theorem Unmade.below {w w' : World} {v : Value} (h : Unmade w v) (hb : Below w.heap.size w w') : Unmade w' v := by
  rcases h with h | ⟨z, h, h1, h2⟩
  · exact .inl h
  · exact .inr ⟨z, h, (World.cell?_of_block (hb.block z h2)).trans h1, Nat.lt_of_lt_of_le h2 hb.size⟩
theorem made_no (v : Value) (w : World) (h : Unmade w v) : Calls Try.prog 26 #[v] w fun e w' => e = .returned (.bool false) ∧ w = w' := by
  rcases h with rfl | ⟨z, rfl, h0, -⟩
  · go_enter Try.func26, Try.ntmps26
    go_wp2
    go_ret
    exact ⟨rfl, rfl⟩
  · go_enter Try.func26, Try.ntmps26
    go_wp2
    go_ret
    exact ⟨rfl, rfl⟩
theorem len_no (v : Value) (w : World) (h : Unmade w v) : Calls Try.prog 13 #[v] w fun e w' => e = .returned (.int .u64 0) ∧ w = w' := by
  go_enter Try.func13, Try.ntmps13
  go_wp2_with fail
  refine (made_no v w h).mono ?_
  rintro e w1 ⟨rfl, rfl⟩
  go_wp2
  go_ret
  exact ⟨rfl, rfl⟩
theorem copy_no (v : Value) (w : World) (h : Unmade w v) : Calls Try.prog 16 #[v] w fun e w' => e = .returned (.pointer none) ∧ w = w' := by
  go_enter Try.func16, Try.ntmps16
  go_wp2_with fail
  refine (made_no v w h).mono ?_
  rintro e w1 ⟨rfl, rfl⟩
  go_wp2
  go_ret
  exact ⟨rfl, rfl⟩
theorem sum_no (v : Value) (w : World) (h : Unmade w v) : Calls Try.prog 12 #[v] w fun e w' => e = .returned (.slice none 0 0) ∧ w = w' := by
  go_enter Try.func12, Try.ntmps12
  go_wp2_with fail
  refine (made_no v w h).mono ?_
  rintro e w1 ⟨rfl, rfl⟩
  go_wp2
  go_ret
  exact ⟨rfl, rfl⟩
theorem write_no (v : Value) (a : Option Addr) (n c : Nat) (w : World) (h : Unmade w v) : Calls Try.prog 11 #[v, .slice a n c] w fun e w' => e = .returned (.tuple #[]) ∧ w = w' := by
  have h0 : Try.f11.results = #[] := by kernel_rfl
  go_enter Try.func11, Try.ntmps11
  go_wp2_with fail
  refine (made_no v w h).mono ?_
  rintro e w1 ⟨rfl, rfl⟩
  go_wp2
  refine bodyPost_ret (v := .tuple #[]) (by simp [results, h0]) rfl ?_
  exact ⟨rfl, rfl⟩
theorem of_no (b : Int) (h : b ≠ 384 ∧ b ≠ 512) (a : Option Addr) (n c : Nat) (w : World) : Calls Try.prog 8 #[.int .i64 b, .slice a n c] w fun e w' => e = .returned (.tuple #[.slice none 0 0, .int .i64 2]) ∧ w = w' := by
  go_enter Try.func8, Try.ntmps8
  go_wp2_with fail
  refine (new_no b h w).mono ?_
  rintro e w1 ⟨rfl, rfl⟩
  go_wp2
  go_ret2
  exact ⟨rfl, rfl⟩

end Go.Proofs.Ytpfdehjllnhllaa
