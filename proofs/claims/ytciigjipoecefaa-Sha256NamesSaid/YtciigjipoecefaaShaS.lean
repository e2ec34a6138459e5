/-
  SHA-256: the law Names.
-/
import Derived.Test.YtciigjipoecefaaShaR
import Derived.Lib.SmallJoins
namespace Go.Proofs.Ytciigjipoecefaa
open Go.RowKit Go.Shelf

theorem long_text : Byt [97, 98, 99, 100, 98, 99, 100, 101, 99, 100, 101, 102, 100, 101, 102, 103, 101, 102, 103, 104, 102, 103, 104, 105, 103, 104, 105, 106, 104, 105, 106, 107, 105, 106, 107, 108, 106, 107, 108, 109, 107, 108, 109, 110, 108, 109, 110, 111, 109, 110, 111, 112, 110, 111, 112, 113] := by decide
theorem below_on {w x y : World} (h : Below w.heap.size w x) (k : Below x.heap.size x y) : Below w.heap.size w y := h.trans (k.mono h.size)
set_option maxHeartbeats 4000000 in
set_option maxRecDepth 100000 in
theorem names_walk (w : World) : Calls Try.prog 4 #[] w fun e w' => e = .returned (.bool true) ∧ Below w.heap.size w w' := by
  have hz2 : ∀ w, (zeroValue 42).run Try.prog w = .ok (.agg (st0 0)) w := fun _ => by kernel_rfl
  go_enter Try.func4, Try.ntmps4
  go_wp2_with fail
  refine (hash_any 256 (by decide) [] (by decide) (by decide) _ _ rfl (by kernel_rfl) w).mono ?_
  rintro e w1 ⟨rfl, h1⟩
  have H1 := Lib.hid h1
  clear h1
  go_wp2_with fail
  refine (hash_any 256 (by decide) _ long_text (by decide) _ _ rfl (by kernel_rfl) w1).mono ?_
  rintro e w2 ⟨rfl, h2⟩
  have H2 := Lib.hid (below_on H1.out h2)
  clear h2
  go_wp2_with fail
  refine (hash_any 224 (by decide) [] (by decide) (by decide) _ _ rfl (by kernel_rfl) w2).mono ?_
  rintro e w3 ⟨rfl, h3⟩
  have H3 := Lib.hid (below_on H2.out h3)
  clear h3
  go_wp2_with fail
  refine (hash_any 224 (by decide) _ long_text (by decide) _ _ rfl (by kernel_rfl) w3).mono ?_
  rintro e w4 ⟨rfl, h4⟩
  have H4 := Lib.hid (below_on H3.out h4)
  clear h4 H1 H2 H3
  go_wp2_with fail
  refine (new_no 512 (by decide) w4).mono ?_
  rintro e w5 ⟨rfl, rfl⟩
  go_wp2_with fail
  refine (new_no 0 (by decide) w4).mono ?_
  rintro e w5 ⟨rfl, rfl⟩
  go_wp2_with fail
  refine (of_no 225 (by decide) _ _ _ w4).mono ?_
  rintro e w5 ⟨rfl, rfl⟩
  have hcs : (convert 23 23 (.slice (some ⟨w4.heap.size + 1, 0, none⟩) 1 1)).run Try.prog ((w4.alloc (.cells (st0 0) 42)).alloc (.cells #[.int .u8 97] 5)) = .ok (.slice (some ⟨w4.heap.size + 1, 0, none⟩) 1 1) ((w4.alloc (.cells (st0 0) 42)).alloc (.cells #[.int .u8 97] 5 (1, 2))) :=
    Joins.run_convert_bytes_const_at (P := Try.prog) (w4.alloc (.cells (st0 0) 42)) 23 5 #[.int .u8 97] 1 1 (w4.heap.size + 1) (by simp) Try.underlying23 Try.underlying5
  go_wp2_with fail
  clear hcs
  have hz := Lib.hid (show Unmade (w4.alloc (.cells (st0 0) 42)) (.pointer (some ⟨w4.heap.size, 0, none⟩)) from .inr ⟨w4.heap.size, rfl, (cell_of_row _ _ 0 _ _ _ (Go.heap_alloc_new w4 (.cells (st0 0) 42))).trans rfl, (Array.getElem?_eq_some_iff.1 (Go.heap_alloc_new w4 (.cells (st0 0) 42))).1⟩)
  have hb := H4.out.alloc H4.out.size (.cells (st0 0) 42)
  have H6 := Lib.hid (hb.alloc hb.size (.cells #[.int .u8 97] 5 (1, 2)))
  have hz6 := Lib.hid (hz.out.below ((Below.refl _ _).alloc (Nat.le_refl _) (.cells #[.int .u8 97] 5 (1, 2))))
  clear hb
  obtain ⟨Z, hZ⟩ : ∃ z, z = w4.heap.size := ⟨_, rfl⟩
  rw [← hZ] at hz6 ⊢
  clear hZ hz
  generalize (w4.alloc (.cells (st0 0) 42)).alloc (.cells #[.int .u8 97] 5 (1, 2)) = w6 at *
  refine (write_no _ _ _ _ w6 (.inl rfl)).mono ?_
  rintro e w7 ⟨rfl, h7⟩
  have H7 := Lib.hid (below_on H6.out h7)
  have hz7 := Lib.hid (hz6.out.below h7)
  clear h7
  have hcs : (convert 23 23 (.slice (some ⟨w7.heap.size, 0, none⟩) 1 1)).run Try.prog (w7.alloc (.cells #[.int .u8 97] 5)) = .ok (.slice (some ⟨w7.heap.size, 0, none⟩) 1 1) (w7.alloc (.cells #[.int .u8 97] 5 (1, 2))) :=
    Joins.run_convert_bytes_const_at (P := Try.prog) w7 23 5 #[.int .u8 97] 1 1 w7.heap.size rfl Try.underlying23 Try.underlying5
  go_wp2_with fail
  clear hcs
  have H8 := Lib.hid (H7.out.alloc H7.out.size (.cells #[.int .u8 97] 5 (1, 2)))
  have hz8 := Lib.hid (hz7.out.below ((Below.refl _ _).alloc (Nat.le_refl _) (.cells #[.int .u8 97] 5 (1, 2))))
  generalize w7.alloc (.cells #[.int .u8 97] 5 (1, 2)) = w8 at *
  refine (write_no _ _ _ _ w8 hz8.out).mono ?_
  rintro e w9 ⟨rfl, h9⟩
  have H9 := Lib.hid (below_on H8.out h9)
  have hz9 := Lib.hid (hz8.out.below h9)
  clear h9
  go_wp2_with fail
  refine (alive_any w9).mono ?_
  rintro e wa ⟨rfl, ha⟩
  have HA := Lib.hid (below_on H9.out ha)
  have hza := Lib.hid (hz9.out.below ha)
  clear ha
  go_wp2_with fail
  refine (sum_no _ wa (.inl rfl)).mono ?_
  rintro e wb ⟨rfl, rfl⟩
  go_wp2_with fail
  refine (sum_no _ wa hza.out).mono ?_
  rintro e wb ⟨rfl, rfl⟩
  go_wp2_with fail
  refine (len_no _ wa (.inl rfl)).mono ?_
  rintro e wb ⟨rfl, rfl⟩
  go_wp2_with fail
  refine (len_no _ wa hza.out).mono ?_
  rintro e wb ⟨rfl, rfl⟩
  go_wp2_with fail
  refine (copy_no _ wa (.inl rfl)).mono ?_
  rintro e wb ⟨rfl, rfl⟩
  go_wp2_with fail
  refine (copy_no _ wa hza.out).mono ?_
  rintro e wb ⟨rfl, rfl⟩
  go_wp2
  go_ret
  exact ⟨rfl, HA.out⟩

end Go.Proofs.Ytciigjipoecefaa
