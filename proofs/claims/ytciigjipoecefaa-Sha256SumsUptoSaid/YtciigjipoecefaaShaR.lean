/-
  SHA-256: states that nobody made; the law Names.
-/
import Derived.Test.YtciigjipoecefaaShaQ
namespace Go.Proofs.Ytciigjipoecefaa
open Go.RowKit Go.Shelf
attribute [local go_sem] Oper.semAt_some

/-- A state that nobody made. -/
def Unmade (w : World) (v : Value) : Prop := v = .pointer none ∨ ∃ z, v = .pointer (some ⟨z, 0, none⟩) ∧ w.cell? ⟨z, 0, none⟩ = some (.int .i64 0) ∧ z < w.heap.size
theorem Unmade.below {w w' : World} {v : Value} (h : Unmade w v) (hb : Below w.heap.size w w') : Unmade w' v := by
  rcases h with h | ⟨z, h, h1, h2⟩
  · exact .inl h
  · exact .inr ⟨z, h, (World.cell?_of_block (hb.block z h2)).trans h1, Nat.lt_of_lt_of_le h2 hb.size⟩
theorem made_no (v : Value) (w : World) (h : Unmade w v) : Calls Try.prog 26 #[v] w fun e w' => e = .returned (.bool false) ∧ w = w' := by
  rcases h with rfl | ⟨z, rfl, h0, -⟩
  · go_enter Try.func26, Try.ntmps26
    go_wp2
    go_ret
    exact ⟨rfl, rfl⟩
  · go_enter Try.func26, Try.ntmps26
    go_wp2
    go_ret
    exact ⟨rfl, rfl⟩
theorem len_no (v : Value) (w : World) (h : Unmade w v) : Calls Try.prog 13 #[v] w fun e w' => e = .returned (.int .u64 0) ∧ w = w' := by
  go_enter Try.func13, Try.ntmps13
  go_wp2_with fail
  refine (made_no v w h).mono ?_
  rintro e w1 ⟨rfl, rfl⟩
  go_wp2
  go_ret
  exact ⟨rfl, rfl⟩
theorem copy_no (v : Value) (w : World) (h : Unmade w v) : Calls Try.prog 16 #[v] w fun e w' => e = .returned (.pointer none) ∧ w = w' := by
  go_enter Try.func16, Try.ntmps16
  go_wp2_with fail
  refine (made_no v w h).mono ?_
  rintro e w1 ⟨rfl, rfl⟩
  go_wp2
  go_ret
  exact ⟨rfl, rfl⟩
theorem sum_no (v : Value) (w : World) (h : Unmade w v) : Calls Try.prog 12 #[v] w fun e w' => e = .returned (.slice none 0 0) ∧ w = w' := by
  have HRES := Lib.hid (show Try.f12.results = #[.tmp 2] by kernel_rfl)
  refine (callsIn_wide (n := 3)).1 ?_
  refine callsIn_of_wp_marks Try.func12 rfl trivial ?_ rfl
  simp only [Try.ntmps12, List.size_toArray, List.length_cons, List.length_nil, Nat.reduceAdd, Nat.reduceSub, Array.replicate_succ, Array.replicate_zero, List.push_toArray, List.append_toArray, List.nil_append, List.cons_append]
  refine wpIn_wide.2 ?_
  go_wp2_with fail
  refine (made_no v w h).mono ?_
  rintro e w1 ⟨rfl, rfl⟩
  go_wp2
  exact ⟨_, results_tmp HRES.out _ _ _, rfl, rfl⟩
theorem write_no (v : Value) (a : Option Addr) (n c : Nat) (w : World) (h : Unmade w v) : Calls Try.prog 11 #[v, .slice a n c] w fun e w' => e = .returned (.tuple #[]) ∧ Below w.heap.size w w' := by
  have HRES := Lib.hid (show Try.f11.results = #[] by kernel_rfl)
  have HU := Lib.hid h
  have cS := (Boxed.new w 29 v).cell
  have hb := Lib.hid ((Below.refl w.heap.size w).alloc (Nat.le_refl _) (.cells #[v] 29))
  refine (callsIn_wide (n := 3)).1 ?_
  refine callsIn_of_wp_marks Try.func11 rfl trivial ?_ rfl
  simp only [Try.ntmps11, List.size_toArray, List.length_cons, List.length_nil, Nat.reduceAdd, Nat.reduceSub, Array.replicate_succ, Array.replicate_zero, List.push_toArray, List.append_toArray, List.nil_append, List.cons_append]
  refine wpIn_wide.2 ?_
  obtain ⟨pv, rfl⟩ : ∃ p, v = .pointer p := by
    rcases h with rfl | ⟨z, rfl, -, -⟩ <;> exact ⟨_, rfl⟩
  clear h
  go_wp2_with fail
  refine wp_scope_straight ?_
  go_wp2_with fail
  generalize w.alloc (.cells #[.pointer pv] 29) = w1 at *
  refine (made_no _ w1 (HU.out.below hb.out)).mono ?_
  rintro e w2 ⟨rfl, rfl⟩
  go_wp2
  rw [Exit.noGoto_ret]
  exact ⟨_, results_none HRES.out _ _ _, rfl, hb.out⟩

end Go.Proofs.Ytciigjipoecefaa
