/-
  SHA-512: the law Names.
-/
import Derived.Test.YtpfdehjllnhllaaShbQ
import Derived.Lib.SmallJoins
namespace Go.Proofs.Ytpfdehjllnhllaa
open Go.RowKit Go.Shelf

theorem below_onS {w x y : World} (h : Below w.heap.size w x) (k : Below x.heap.size x y) : Below w.heap.size w y := h.trans (k.mono h.size)
set_option maxHeartbeats 4000000 in
set_option maxRecDepth 100000 in
theorem names_walk (w : World) : Calls Try.prog 4 #[] w fun e w' => e = .returned (.bool true) ∧ Below w.heap.size w w' := by
  have hz2 : ∀ w, (zeroValue 41).run Try.prog w = .ok (.agg (st0 0)) w := fun _ => by kernel_rfl
  go_enter Try.func4, Try.ntmps4
  go_wp2_with fail
  refine (hash_any 512 (by decide) [] (by decide) (by decide) _ _ rfl (by kernel_rfl) w).mono ?_
  rintro e w1 ⟨rfl, h1⟩
  have H1 := Lib.hid h1
  clear h1
  go_wp2_with fail
  refine (hash_any 384 (by decide) [] (by decide) (by decide) _ _ rfl (by kernel_rfl) w1).mono ?_
  rintro e w4 ⟨rfl, h4⟩
  have H4 := Lib.hid (below_onS H1.out h4)
  clear h4 H1
  go_wp2_with fail
  refine (new_no 256 (by decide) w4).mono ?_
  rintro e w5 ⟨rfl, rfl⟩
  go_wp2_with fail
  refine (new_no 0 (by decide) w4).mono ?_
  rintro e w5 ⟨rfl, rfl⟩
  go_wp2_with fail
  refine (of_no 513 (by decide) _ _ _ w4).mono ?_
  rintro e w5 ⟨rfl, rfl⟩
  have hcs : (convert 23 23 (.slice (some ⟨w4.heap.size + 1, 0, none⟩) 1 1)).run Try.prog ((w4.alloc (.cells (st0 0) 41)).alloc (.cells #[.int .u8 97] 5)) = .ok (.slice (some ⟨w4.heap.size + 1, 0, none⟩) 1 1) ((w4.alloc (.cells (st0 0) 41)).alloc (.cells #[.int .u8 97] 5 (1, 2))) :=
    Joins.run_convert_bytes_const_at (P := Try.prog) (w4.alloc (.cells (st0 0) 41)) 23 5 #[.int .u8 97] 1 1 (w4.heap.size + 1) (by simp) Try.underlying23 Try.underlying5
  go_wp2_with fail
  clear hcs
  have hz := Lib.hid (show Unmade (w4.alloc (.cells (st0 0) 41)) (.pointer (some ⟨w4.heap.size, 0, none⟩)) from .inr ⟨w4.heap.size, rfl, (cell_of_row _ _ 0 _ _ _ (Go.heap_alloc_new w4 (.cells (st0 0) 41))).trans rfl, (Array.getElem?_eq_some_iff.1 (Go.heap_alloc_new w4 (.cells (st0 0) 41))).1⟩)
  have hb := H4.out.alloc H4.out.size (.cells (st0 0) 41)
  have H6 := Lib.hid (hb.alloc hb.size (.cells #[.int .u8 97] 5 (1, 2)))
  have hz6 := Lib.hid (hz.out.below ((Below.refl _ _).alloc (Nat.le_refl _) (.cells #[.int .u8 97] 5 (1, 2))))
  clear hb
  obtain ⟨Z, hZ⟩ : ∃ z, z = w4.heap.size := ⟨_, rfl⟩
  rw [← hZ] at hz6 ⊢
  clear hZ hz
  generalize (w4.alloc (.cells (st0 0) 41)).alloc (.cells #[.int .u8 97] 5 (1, 2)) = w6 at *
  refine (write_no _ _ _ _ w6 (.inl rfl)).mono ?_
  rintro e w7 ⟨rfl, rfl⟩
  have H7 := H6
  have hz7 := hz6
  have hcs : (convert 23 23 (.slice (some ⟨w6.heap.size, 0, none⟩) 1 1)).run Try.prog (w6.alloc (.cells #[.int .u8 97] 5)) = .ok (.slice (some ⟨w6.heap.size, 0, none⟩) 1 1) (w6.alloc (.cells #[.int .u8 97] 5 (1, 2))) :=
    Joins.run_convert_bytes_const_at (P := Try.prog) w6 23 5 #[.int .u8 97] 1 1 w6.heap.size rfl Try.underlying23 Try.underlying5
  go_wp2_with fail
  clear hcs
  have H8 := Lib.hid (H7.out.alloc H7.out.size (.cells #[.int .u8 97] 5 (1, 2)))
  have hz8 := Lib.hid (hz7.out.below ((Below.refl _ _).alloc (Nat.le_refl _) (.cells #[.int .u8 97] 5 (1, 2))))
  generalize w6.alloc (.cells #[.int .u8 97] 5 (1, 2)) = w8 at *
  refine (write_no _ _ _ _ w8 hz8.out).mono ?_
  rintro e w9 ⟨rfl, rfl⟩
  have H9 := H8
  have hz9 := hz8
  go_wp2_with fail
  refine (alive_any w8).mono ?_
  rintro e wa ⟨rfl, ha⟩
  have HA := Lib.hid (below_onS H9.out ha)
  have hza := Lib.hid (hz9.out.below ha)
  clear ha
  go_wp2_with fail
  refine (sum_no _ wa (.inl rfl)).mono ?_
  rintro e wb ⟨rfl, rfl⟩
  go_wp2_with fail
  refine (sum_no _ wa hza.out).mono ?_
  rintro e wb ⟨rfl, rfl⟩
  go_wp2_with fail
  refine (len_no _ wa (.inl rfl)).mono ?_
  rintro e wb ⟨rfl, rfl⟩
  go_wp2_with fail
  refine (len_no _ wa hza.out).mono ?_
  rintro e wb ⟨rfl, rfl⟩
  go_wp2_with fail
  refine (copy_no _ wa (.inl rfl)).mono ?_
  rintro e wb ⟨rfl, rfl⟩
  go_wp2_with fail
  refine (copy_no _ wa hza.out).mono ?_
  rintro e wb ⟨rfl, rfl⟩
  go_wp2
  go_ret
  exact ⟨rfl, HA.out⟩

end Go.Proofs.Ytpfdehjllnhllaa
