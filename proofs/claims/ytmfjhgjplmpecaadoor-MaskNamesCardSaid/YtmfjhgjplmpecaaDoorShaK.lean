/-
  SHA-256: New, Copy, Len. (Written by wip/gen_shaK.py.)
-/
import Derived.Test.YtmfjhgjplmpecaaDoorShaJ
namespace Go.Proofs.YtmfjhgjplmpecaaDoor
open Go.RowKit Go.Shelf
set_option maxRecDepth 100000

set_option maxHeartbeats 1000000 in
theorem start256_any (T : Nat) (w : World) : Calls Tryd.prog 47 #[.pointer (some ⟨T, 0, none⟩), .int .i64 256] w fun e w' => e = .returned (.slice (some ⟨T, 64, none⟩) 8 8) ∧ w = w' := by
  go_enter Tryd.func47, Tryd.ntmps47
  go_wp2
  go_ret
  exact ⟨rfl, rfl⟩
set_option maxHeartbeats 1000000 in
theorem start224_any (T : Nat) (w : World) : Calls Tryd.prog 47 #[.pointer (some ⟨T, 0, none⟩), .int .i64 224] w fun e w' => e = .returned (.slice (some ⟨T, 72, none⟩) 8 8) ∧ w = w' := by
  go_enter Tryd.func47, Tryd.ntmps47
  go_wp2
  go_ret
  exact ⟨rfl, rfl⟩

theorem known_yes (bt : Nat) (h : bt = 224 ∨ bt = 256) (w : World) : Calls Tryd.prog 45 #[.int .i64 (bt : Int)] w fun e w' => e = .returned (.bool true) ∧ w = w' := by
  rcases h with rfl | rfl
  · go_enter Tryd.func45, Tryd.ntmps45
    go_wp2
    go_ret
    exact ⟨rfl, rfl⟩
  · go_enter Tryd.func45, Tryd.ntmps45
    go_wp2
    go_ret
    exact ⟨rfl, rfl⟩
theorem known_no (b : Int) (h : b ≠ 224 ∧ b ≠ 256) (w : World) : Calls Tryd.prog 45 #[.int .i64 b] w fun e w' => e = .returned (.bool false) ∧ w = w' := by
  have h1 : (b == 224) = false := by simp; omega
  have h2 : (b == 256) = false := by simp; omega
  clear h
  go_enter Tryd.func45, Tryd.ntmps45
  go_wp2
  go_ret
  exact ⟨rfl, rfl⟩
theorem new_no (b : Int) (h : b ≠ 224 ∧ b ≠ 256) (w : World) : Calls Tryd.prog 31 #[.int .i64 b] w fun e w' => e = .returned (.tuple #[.pointer none, .int .i64 2]) ∧ w = w' := by
  go_enter Tryd.func31, Tryd.ntmps31
  go_wp2_with fail
  refine (known_no b h w).mono ?_
  rintro e w1 ⟨rfl, rfl⟩
  go_wp2
  go_ret2
  exact ⟨rfl, rfl⟩
theorem slice_words (g : Nat) (W : World) : (Instr.sliceAt 74 (.pointer (some ⟨g, 1, none⟩)) none none none).run Tryd.prog W = .ok (.slice (some ⟨g, 1, none⟩) 8 8) W := by
  have hl : Tryd.prog.arrayLen 74 = 8 := by kernel_rfl
  have hs : ∀ w, (sizeOf (Tryd.prog.elem 74)).run Tryd.prog w = .ok 1 w := fun _ => by kernel_rfl
  rw [run_sliceAt_array_all W 74 ⟨g, 1, none⟩ (by kernel_rfl), hs]
  show Result.ok (slicedAt ⟨g, 1, none⟩ 0 (Tryd.prog.arrayLen 74) (Tryd.prog.arrayLen 74) 1) W = _
  rw [hl]
  rfl
theorem tab_cell (w : World) (T i : Nat) (hT : w.heap[T]? = some (.cells tabC 89 (0, 0))) (hi : i < 80) : w.cell? ⟨T, i, none⟩ = some (.int .u32 ((g0 (kL ++ startL) i : Nat) : Int)) := by
  rw [cell_of_row w T i _ _ _ hT]
  exact arrC_get .u32 (kL ++ startL) i hi
theorem start_copy (w : World) (g T o bt : Nat) (hg : w.heap[g]? = some (.cells (stL bt (List.replicate 8 0) (List.replicate 64 0) 0).toArray 86 (0, 0))) (hT : w.heap[T]? = some (.cells tabC 89 (0, 0))) (ho : o + 8 ≤ 80) (hst : ((kL ++ startL).drop o).take 8 = startN bt) :
    (Builtin.copy_ #[91, 91] 3 #[.slice (some ⟨g, 1, none⟩) 8 8, .slice (some ⟨T, o, none⟩) 8 8]).run Tryd.prog w = .ok (goInt 8) (w.setRow g (stL bt (startN bt) (List.replicate 64 0) 0).toArray) := by
  have hl : ((startN bt).map (num .u32)).length = 8 := by rw [List.length_map, startN_len]
  have := run_copy_row Tryd.prog w 91 91 3 72 g 1 8 8 ⟨T, o, none⟩ 8 8 _ _ ((startN bt).map (num .u32)) Tryd.underlying91 (by kernel_rfl) hg (by rw [hl]; rfl) (fun j v hv => by
    have hj : j < 8 := by
      have := (List.getElem?_eq_some_iff.1 hv).1
      rwa [hl] at this
    have e : (⟨T, o, none⟩ : Addr).add j = ⟨T, o + j, none⟩ := by unfold Addr.add; split <;> simp_all
    rw [e, tab_cell w T (o + j) hT (by omega)]
    rw [List.getElem?_map, ← hst, List.getElem?_take, if_pos hj, List.getElem?_drop] at hv
    have hlt : o + j < (kL ++ startL).length := by
      have : (kL ++ startL).length = 80 := rfl
      omega
    rw [List.getElem?_eq_getElem hlt] at hv
    simp only [Option.map_some, Option.some.injEq] at hv
    rw [← hv, g0, List.getElem?_eq_getElem hlt]
    rfl) (by rw [hl]; simp [stL]) (fun u hu => nums_oneCell .u32 _ u hu)
  rw [hl] at this
  rw [this]
  congr 2

theorem wpList_buildV {ops : Array Oper} {rest : List Oper} {o : Oper} {a : Act} {w : World} {Q : Exit → Act → World → Prop} (hg : o.guard = none) (t : TypeId) (parts : Array (Nat × Operand)) (ho : o.op = .build t parts) (cs : Array Value)
    (hv : Tryd.prog.built t (parts.map fun (i, x) => (i, a.eval x)).toList = some cs) (h : wpList Tryd.prog ops Q rest (a.put o.dst (.agg cs)) w) : wpList Tryd.prog ops Q (o :: rest) a w :=
  wpList_build hg t parts ho (by rw [hv]; rfl) (by rw [hv]; exact h)

/-- A state as it is built. -/
def st0 (bt : Nat) : Array Value := (stL bt (List.replicate 8 0) (List.replicate 64 0) 0).toArray
set_option maxRecDepth 100000 in
set_option maxHeartbeats 2000000 in
theorem new256_any (w : World) : Calls Tryd.prog 31 #[.int .i64 256] w fun e w' => e = .returned (.tuple #[.pointer (some ⟨w.heap.size, 0, none⟩), .int .i64 0]) ∧ StateOf w' w.heap.size 256 [] ∧ Below w.heap.size w w' := by
  have hz : ∀ w, (zeroValue 89).run Tryd.prog w = .ok (.agg (arrC .u32 (List.replicate 80 0))) w := fun _ => by kernel_rfl
  go_enter Tryd.func31, Tryd.ntmps31
  go_wp2_with fail
  refine (known_yes 256 (by decide) w).mono ?_
  rintro e w1 ⟨rfl, rfl⟩
  go_wp2_with (refine wpList_buildV rfl _ _ rfl (st0 256) (by kernel_rfl) ?_)
  have hg1 := Lib.hid (Go.heap_alloc_new w (.cells (st0 256) 86))
  have hB1 := Lib.hid (Below.alloc (Below.refl w.heap.size w) (Nat.le_refl _) (.cells (st0 256) 86))
  have hs1 := Lib.hid ((Array.getElem?_eq_some_iff.1 hg1.out).1)
  generalize w.alloc (.cells (st0 256) 86) = w1 at *
  refine (written_any w1).mono ?_
  rintro e w2 ⟨rfl, rfl⟩
  have hg2 := Lib.hid ((Below.heap_alloc w1 (.cells tabC 89) _ hs1.out).trans hg1.out)
  have hB2 := Lib.hid (Below.alloc hB1.out (Nat.le_of_lt hs1.out) (.cells tabC 89))
  have hs2 := Lib.hid ((Array.getElem?_eq_some_iff.1 hg2.out).1)
  generalize w1.alloc (.cells tabC 89) = w2 at *
  clear hg1 hB1 hs1
  go_wp2_with (refine wpList_store_row rfl _ _ _ rfl w2.heap.size tabC rfl (by kernel_rfl) 89 _ (Go.heap_alloc_new w2 _) (by kernel_rfl) (by kernel_rfl) tabC_one ?_)
  rw [alloc_setRow]
  have hg3 := Lib.hid ((Below.heap_alloc w2 (.cells tabC 89) _ hs2.out).trans hg2.out)
  have hT3 := Lib.hid (Go.heap_alloc_new w2 (.cells tabC 89))
  have hB3 := Lib.hid (Below.alloc hB2.out (Nat.le_of_lt hs2.out) (.cells tabC 89))
  generalize hTE : w2.heap.size = T at *
  generalize w2.alloc (.cells tabC 89) = w3 at *
  have hsl := slice_words w.heap.size
  have hgE := hs2
  clear hg2 hB2 hTE hs2
  generalize hge : w.heap.size = g at *
  have hcp := start_copy w3.drew g T 64 256 hg3.out hT3.out (by decide) rfl
  have HGE := Lib.hid hge
  clear hge
  go_wp2_with fail
  refine wp_region_held_drew (S := fun _ => True) (by kernel_rfl) trivial (fun hHeld => ?_)
  refine' wpAnyH_take (i := 0) (oi := _) (v := _) rfl (by kernel_rfl) (by kernel_rfl) (by kernel_rfl) (fun _ _ _ h => h) (Or.inl ⟨?_, ?_⟩) (by assumption) ?_
  rotate_left
  all_goals (try simp only [List.getElem_toArray, List.getElem_cons_succ, List.getElem_cons_zero])
  · rfl
  · intro W hSw; (try dsimp only at hSw); go_simp; (try with_reducible rfl)
  try simp only [Act.put, List.setIfInBounds_toArray, List.set_cons_zero, List.set_cons_succ]
  refine' wpAnyH_take (i := 1) (oi := _) (v := _) rfl (by kernel_rfl) (by kernel_rfl) (by kernel_rfl) (fun _ _ _ h => h) (Or.inl ⟨?_, ?_⟩) (by assumption) ?_
  rotate_left
  all_goals (try simp only [List.getElem_toArray, List.getElem_cons_succ, List.getElem_cons_zero])
  · rfl
  · intro W hSw; (try dsimp only at hSw); go_simp; (try with_reducible rfl)
  try simp only [Act.put, List.setIfInBounds_toArray, List.set_cons_zero, List.set_cons_succ]
  refine' wpAnyH_take (i := 2) (oi := _) (v := _) rfl (by kernel_rfl) (by kernel_rfl) (by kernel_rfl) (fun _ _ _ h => h) (Or.inl ⟨?_, ?_⟩) (by assumption) ?_
  rotate_left
  all_goals (try simp only [List.getElem_toArray, List.getElem_cons_succ, List.getElem_cons_zero])
  · rfl
  · intro W hSw; (try dsimp only at hSw); go_simp; (try with_reducible rfl)
  try simp only [Act.put, List.setIfInBounds_toArray, List.set_cons_zero, List.set_cons_succ]
  refine' wpAnyH_take (i := 3) (oi := _) (v := _) rfl (by kernel_rfl) (by kernel_rfl) (by kernel_rfl) (fun _ _ _ h => h) (Or.inl ⟨?_, ?_⟩) (by assumption) ?_
  rotate_left
  all_goals (try simp only [List.getElem_toArray, List.getElem_cons_succ, List.getElem_cons_zero])
  · rfl
  · intro W hSw; (try dsimp only at hSw); go_simp; (try with_reducible rfl)
  try simp only [Act.put, List.setIfInBounds_toArray, List.set_cons_zero, List.set_cons_succ]
  refine' wpAnyH_take (i := 4) (oi := _) (v := _) rfl (by kernel_rfl) (by kernel_rfl) (by kernel_rfl) (fun _ _ _ h => h) (Or.inl ⟨?_, ?_⟩) (by assumption) ?_
  rotate_left
  all_goals (try simp only [List.getElem_toArray, List.getElem_cons_succ, List.getElem_cons_zero])
  · rfl
  · intro W hSw; (try dsimp only at hSw); go_simp; (try with_reducible rfl)
  try simp only [Act.put, List.setIfInBounds_toArray, List.set_cons_zero, List.set_cons_succ]
  refine wpAnyH_ready (rs := [5]) (by kernel_rfl) (by simp) ?_
  refine AllReadyH.cons (o := _) rfl (fun K hK => ?_) AllReadyH.nil
  try simp only [List.getElem_toArray, List.getElem_cons_succ, List.getElem_cons_zero]
  go_simp
  refine (start256_any _ _).mono ?_; rintro e w5 ⟨rfl, rfl⟩
  go_wp2_with fail
  refine hK.out _ _ trivial (fun hHeld => ?_)
  clear hK K
  try simp only [Act.put, List.setIfInBounds_toArray, List.set_cons_zero, List.set_cons_succ]
  refine wpAnyH_ready (rs := [6]) (by kernel_rfl) (by simp) ?_
  refine AllReadyH.cons (o := _) rfl (fun K hK => ?_) AllReadyH.nil
  try simp only [List.getElem_toArray, List.getElem_cons_succ, List.getElem_cons_zero]
  go_simp
  refine hK.out _ _ trivial (fun hHeld => ?_)
  clear hK K
  try simp only [Act.put, List.setIfInBounds_toArray, List.set_cons_zero, List.set_cons_succ]
  refine wpAnyH_done (by kernel_rfl) ?_ _
  go_wp2
  go_ret2
  rw [HGE.out]
  have hgr : w3.grownBy (w3.drew.setRow g (stL 256 (startN 256) (List.replicate 64 0) 0).toArray) (some g) := grown_setRow (grown_drew (x := w3) (y := w3) ⟨rfl, rfl, rfl, Nat.le_refl _, fun _ _ _ => rfl⟩) _
  exact ⟨rfl, ⟨startN 256, List.replicate 64 0, ⟨setRow_heap _ g _ _ _ _ hg3.out, startN_len _, by simp, startN_lt _, fun x hx => by have := List.eq_of_mem_replicate hx; omega⟩, ⟨rfl, rfl⟩, by decide, fun x hx => by simp at hx⟩, hB3.out.grown hgr (Nat.le_of_lt (Array.getElem?_eq_some_iff.1 hg3.out).1) (fun k hk => by cases hk; exact Nat.le_refl _)⟩

set_option maxRecDepth 100000 in
set_option maxHeartbeats 2000000 in
theorem new224_any (w : World) : Calls Tryd.prog 31 #[.int .i64 224] w fun e w' => e = .returned (.tuple #[.pointer (some ⟨w.heap.size, 0, none⟩), .int .i64 0]) ∧ StateOf w' w.heap.size 224 [] ∧ Below w.heap.size w w' := by
  have hz : ∀ w, (zeroValue 89).run Tryd.prog w = .ok (.agg (arrC .u32 (List.replicate 80 0))) w := fun _ => by kernel_rfl
  go_enter Tryd.func31, Tryd.ntmps31
  go_wp2_with fail
  refine (known_yes 224 (by decide) w).mono ?_
  rintro e w1 ⟨rfl, rfl⟩
  go_wp2_with (refine wpList_buildV rfl _ _ rfl (st0 224) (by kernel_rfl) ?_)
  have hg1 := Lib.hid (Go.heap_alloc_new w (.cells (st0 224) 86))
  have hB1 := Lib.hid (Below.alloc (Below.refl w.heap.size w) (Nat.le_refl _) (.cells (st0 224) 86))
  have hs1 := Lib.hid ((Array.getElem?_eq_some_iff.1 hg1.out).1)
  generalize w.alloc (.cells (st0 224) 86) = w1 at *
  refine (written_any w1).mono ?_
  rintro e w2 ⟨rfl, rfl⟩
  have hg2 := Lib.hid ((Below.heap_alloc w1 (.cells tabC 89) _ hs1.out).trans hg1.out)
  have hB2 := Lib.hid (Below.alloc hB1.out (Nat.le_of_lt hs1.out) (.cells tabC 89))
  have hs2 := Lib.hid ((Array.getElem?_eq_some_iff.1 hg2.out).1)
  generalize w1.alloc (.cells tabC 89) = w2 at *
  clear hg1 hB1 hs1
  go_wp2_with (refine wpList_store_row rfl _ _ _ rfl w2.heap.size tabC rfl (by kernel_rfl) 89 _ (Go.heap_alloc_new w2 _) (by kernel_rfl) (by kernel_rfl) tabC_one ?_)
  rw [alloc_setRow]
  have hg3 := Lib.hid ((Below.heap_alloc w2 (.cells tabC 89) _ hs2.out).trans hg2.out)
  have hT3 := Lib.hid (Go.heap_alloc_new w2 (.cells tabC 89))
  have hB3 := Lib.hid (Below.alloc hB2.out (Nat.le_of_lt hs2.out) (.cells tabC 89))
  generalize hTE : w2.heap.size = T at *
  generalize w2.alloc (.cells tabC 89) = w3 at *
  have hsl := slice_words w.heap.size
  have hgE := hs2
  clear hg2 hB2 hTE hs2
  generalize hge : w.heap.size = g at *
  have hcp := start_copy w3.drew g T 72 224 hg3.out hT3.out (by decide) rfl
  have HGE := Lib.hid hge
  clear hge
  go_wp2_with fail
  refine wp_region_held_drew (S := fun _ => True) (by kernel_rfl) trivial (fun hHeld => ?_)
  refine' wpAnyH_take (i := 0) (oi := _) (v := _) rfl (by kernel_rfl) (by kernel_rfl) (by kernel_rfl) (fun _ _ _ h => h) (Or.inl ⟨?_, ?_⟩) (by assumption) ?_
  rotate_left
  all_goals (try simp only [List.getElem_toArray, List.getElem_cons_succ, List.getElem_cons_zero])
  · rfl
  · intro W hSw; (try dsimp only at hSw); go_simp; (try with_reducible rfl)
  try simp only [Act.put, List.setIfInBounds_toArray, List.set_cons_zero, List.set_cons_succ]
  refine' wpAnyH_take (i := 1) (oi := _) (v := _) rfl (by kernel_rfl) (by kernel_rfl) (by kernel_rfl) (fun _ _ _ h => h) (Or.inl ⟨?_, ?_⟩) (by assumption) ?_
  rotate_left
  all_goals (try simp only [List.getElem_toArray, List.getElem_cons_succ, List.getElem_cons_zero])
  · rfl
  · intro W hSw; (try dsimp only at hSw); go_simp; (try with_reducible rfl)
  try simp only [Act.put, List.setIfInBounds_toArray, List.set_cons_zero, List.set_cons_succ]
  refine' wpAnyH_take (i := 2) (oi := _) (v := _) rfl (by kernel_rfl) (by kernel_rfl) (by kernel_rfl) (fun _ _ _ h => h) (Or.inl ⟨?_, ?_⟩) (by assumption) ?_
  rotate_left
  all_goals (try simp only [List.getElem_toArray, List.getElem_cons_succ, List.getElem_cons_zero])
  · rfl
  · intro W hSw; (try dsimp only at hSw); go_simp; (try with_reducible rfl)
  try simp only [Act.put, List.setIfInBounds_toArray, List.set_cons_zero, List.set_cons_succ]
  refine' wpAnyH_take (i := 3) (oi := _) (v := _) rfl (by kernel_rfl) (by kernel_rfl) (by kernel_rfl) (fun _ _ _ h => h) (Or.inl ⟨?_, ?_⟩) (by assumption) ?_
  rotate_left
  all_goals (try simp only [List.getElem_toArray, List.getElem_cons_succ, List.getElem_cons_zero])
  · rfl
  · intro W hSw; (try dsimp only at hSw); go_simp; (try with_reducible rfl)
  try simp only [Act.put, List.setIfInBounds_toArray, List.set_cons_zero, List.set_cons_succ]
  refine' wpAnyH_take (i := 4) (oi := _) (v := _) rfl (by kernel_rfl) (by kernel_rfl) (by kernel_rfl) (fun _ _ _ h => h) (Or.inl ⟨?_, ?_⟩) (by assumption) ?_
  rotate_left
  all_goals (try simp only [List.getElem_toArray, List.getElem_cons_succ, List.getElem_cons_zero])
  · rfl
  · intro W hSw; (try dsimp only at hSw); go_simp; (try with_reducible rfl)
  try simp only [Act.put, List.setIfInBounds_toArray, List.set_cons_zero, List.set_cons_succ]
  refine wpAnyH_ready (rs := [5]) (by kernel_rfl) (by simp) ?_
  refine AllReadyH.cons (o := _) rfl (fun K hK => ?_) AllReadyH.nil
  try simp only [List.getElem_toArray, List.getElem_cons_succ, List.getElem_cons_zero]
  go_simp
  refine (start224_any _ _).mono ?_; rintro e w5 ⟨rfl, rfl⟩
  go_wp2_with fail
  refine hK.out _ _ trivial (fun hHeld => ?_)
  clear hK K
  try simp only [Act.put, List.setIfInBounds_toArray, List.set_cons_zero, List.set_cons_succ]
  refine wpAnyH_ready (rs := [6]) (by kernel_rfl) (by simp) ?_
  refine AllReadyH.cons (o := _) rfl (fun K hK => ?_) AllReadyH.nil
  try simp only [List.getElem_toArray, List.getElem_cons_succ, List.getElem_cons_zero]
  go_simp
  refine hK.out _ _ trivial (fun hHeld => ?_)
  clear hK K
  try simp only [Act.put, List.setIfInBounds_toArray, List.set_cons_zero, List.set_cons_succ]
  refine wpAnyH_done (by kernel_rfl) ?_ _
  go_wp2
  go_ret2
  rw [HGE.out]
  have hgr : w3.grownBy (w3.drew.setRow g (stL 224 (startN 224) (List.replicate 64 0) 0).toArray) (some g) := grown_setRow (grown_drew (x := w3) (y := w3) ⟨rfl, rfl, rfl, Nat.le_refl _, fun _ _ _ => rfl⟩) _
  exact ⟨rfl, ⟨startN 224, List.replicate 64 0, ⟨setRow_heap _ g _ _ _ _ hg3.out, startN_len _, by simp, startN_lt _, fun x hx => by have := List.eq_of_mem_replicate hx; omega⟩, ⟨rfl, rfl⟩, by decide, fun x hx => by simp at hx⟩, hB3.out.grown hgr (Nat.le_of_lt (Array.getElem?_eq_some_iff.1 hg3.out).1) (fun k hk => by cases hk; exact Nat.le_refl _)⟩


theorem new_any (bt : Nat) (h : bt = 224 ∨ bt = 256) (w : World) : Calls Tryd.prog 31 #[.int .i64 (bt : Int)] w fun e w' => e = .returned (.tuple #[.pointer (some ⟨w.heap.size, 0, none⟩), .int .i64 0]) ∧ StateOf w' w.heap.size bt [] ∧ Below w.heap.size w w' := by
  rcases h with rfl | rfl
  · exact new224_any w
  · exact new256_any w
set_option maxRecDepth 100000 in
theorem copy_any (g bt : Nat) (ws tail : List Nat) (T : Nat) (w : World) (h : StateAt w g bt ws tail T) (hb : bt ≠ 0) : Calls Tryd.prog 51 #[.pointer (some ⟨g, 0, none⟩)] w fun e w' => e = .returned (.pointer (some ⟨w.heap.size, 0, none⟩)) ∧ w' = w.alloc (.cells (stL bt ws tail T).toArray 86) := by
  have hz2 : ∀ w, (zeroValue 86).run Tryd.prog w = .ok (.agg (st0 0)) w := fun _ => by kernel_rfl
  have hsz : (stL bt ws tail T).toArray.size = 74 := by simp [stL, h.wlen, h.tlen]
  have hone : (stL bt ws tail T).toArray.all (·.oneCell') = true := by
    rw [Array.all_eq_true_iff_forall_mem]
    intro u hu
    simp only [stL, List.mem_toArray, List.mem_cons, List.mem_append] at hu
    rcases hu with rfl | hu | hu | hu
    · rfl
    · exact nums_oneCell .u32 _ u hu
    · exact nums_oneCell .u8 _ u hu
    · simp at hu
      rw [hu]
      rfl
  have hH := h.heap
  generalize (stL bt ws tail T).toArray = cs at *
  go_enter Tryd.func51, Tryd.ntmps51
  go_wp2_with fail
  refine (made_yes g bt ws tail T w h hb).mono ?_
  rintro e w1 ⟨rfl, rfl⟩
  go_wp2_with (first | (refine wpList_load_row rfl _ _ rfl g rfl _ _ _ _ hH Tryd.underlying86 rfl (by rw [hsz]; kernel_rfl) ?_) | (refine wpList_store_row rfl _ _ _ rfl w.heap.size cs rfl rfl 86 _ (Go.heap_alloc_new w _) (by rw [hsz]; kernel_rfl) (by rw [hsz]; kernel_rfl) hone ?_))
  go_ret
  rw [alloc_setRow]
  exact ⟨rfl, rfl⟩

end Go.Proofs.YtmfjhgjplmpecaaDoor
