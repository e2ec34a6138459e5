/- Part of the proofs: what the functions that the law calls do. -/
import Derived.Test.YtpefjkndfifceaaGreatDoorPkb3
import Derived.Test.YtpefjkndfifceaaGreatDoorPkb4
import Derived.Test.YtpefjkndfifceaaGreatDoorPkb5
import Derived.Deep.RegionHeld
import Derived.OrdersHeld
import Derived.Laws.Tables
import Derived.BigQuiet
import Derived.Deep.QuietTactic
import Derived.Laws.EntriesVeiled
import Derived.Laws.ResultCell
import Derived.Lib.SmallJoins
import Derived.Maps.OwnIn
open Go.Lib renaming hid → zH
open List renaming setIfInBounds_toArray → zq1, set_cons_zero → zq2, set_cons_succ → zq3, getElem_toArray → zq4, getElem_cons_succ → zq5, getElem_cons_zero → zq6
set_option linter.unusedVariables false
set_option linter.unusedSimpArgs false
namespace Go.Proofs.YtpefjkndfifceaaGreatDoor.L5
open Go.RowKit Go.Shelf
set_option maxRecDepth 100000
set_option maxHeartbeats 1000000 in
theorem start512_any (T : Nat) (w : World) : Calls Tryz.prog 157 #[.pointer (some ⟨T, 0, none⟩), .int .i64 512] w fun e w' => e = .returned (.slice (some ⟨T, 80, none⟩) 8 16) ∧ w = w' := by
 go_enter Tryz.func157, Tryz.ntmps157
 go_wp2
 go_ret
 exact ⟨rfl, rfl⟩
set_option maxHeartbeats 1000000 in
theorem start384_any (T : Nat) (w : World) : Calls Tryz.prog 157 #[.pointer (some ⟨T, 0, none⟩), .int .i64 384] w fun e w' => e = .returned (.slice (some ⟨T, 88, none⟩) 8 8) ∧ w = w' := by
 go_enter Tryz.func157, Tryz.ntmps157
 go_wp2
 go_ret
 exact ⟨rfl, rfl⟩
theorem known_yes (bt : Nat) (h : bt = 384 ∨ bt = 512) (w : World) : Calls Tryz.prog 155 #[.int .i64 (bt : Int)] w fun e w' => e = .returned (.bool true) ∧ w = w' := by
 rcases h with rfl | rfl
 ·go_enter Tryz.func155, Tryz.ntmps155
  go_wp2
  go_ret
  exact ⟨rfl, rfl⟩
 ·go_enter Tryz.func155, Tryz.ntmps155
  go_wp2
  go_ret
  exact ⟨rfl, rfl⟩
theorem slice_words (g : Nat) (W : World) : (Instr.sliceAt 182 (.pointer (some ⟨g, 1, none⟩)) none none none).run Tryz.prog W = .ok (.slice (some ⟨g, 1, none⟩) 8 8) W := by
 have hl : Tryz.prog.arrayLen 182 = 8 := by kernel_rfl
 have hs : ∀ w, (sizeOf (Tryz.prog.elem 182)).run Tryz.prog w = .ok 1 w := fun _ => by kernel_rfl
 rw [run_sliceAt_array_all W 182 ⟨g, 1, none⟩ (by kernel_rfl), hs]
 show Result.ok (slicedAt ⟨g, 1, none⟩ 0 (Tryz.prog.arrayLen 182) (Tryz.prog.arrayLen 182) 1) W = _
 rw [hl]
 rfl
theorem tab_cell (w : World) (T i : Nat) (hT : w.heap[T]? = some (.cells tabC 189 (0, 0))) (hi : i < 96) : w.cell? ⟨T, i, none⟩ = some (.int .u64 ((g0 (kL ++ startL) i : Nat) : Int)) := by
 rw [cell_of_row w T i _ _ _ hT]
 exact arrC_get .u64 (kL ++ startL) i hi
theorem start_copy (w : World) (g T o bt cc : Nat) (hg : w.heap[g]? = some (.cells (stL bt (List.replicate 8 0) (List.replicate 128 0) 0).toArray 185 (0, 0))) (hT : w.heap[T]? = some (.cells tabC 189 (0, 0))) (ho : o + 8 ≤ 96) (hst : ((kL ++ startL).drop o).take 8 = startN bt) :
  (Builtin.copy_ #[191, 191] 3 #[.slice (some ⟨g, 1, none⟩) 8 8, .slice (some ⟨T, o, none⟩) 8 cc]).run Tryz.prog w = .ok (goInt 8) (w.setRow g (stL bt (startN bt) (List.replicate 128 0) 0).toArray) := by
 have hl : ((startN bt).map (num .u64)).length = 8 := by rw [List.length_map, startN_len]
 have := run_copy_row Tryz.prog w 191 191 3 48 g 1 8 8 ⟨T, o, none⟩ 8 cc _ _ ((startN bt).map (num .u64)) Tryz.underlying191 (by kernel_rfl) hg (by rw [hl]; rfl) (fun j v hv => by
  have hj : j < 8 := by
   have := (List.getElem?_eq_some_iff.1 hv).1
   rwa [hl] at this
  have e : (⟨T, o, none⟩ : Addr).add j = ⟨T, o + j, none⟩ := by unfold Addr.add; split <;> simp_all
  rw [e, tab_cell w T (o + j) hT (by omega)]
  rw [List.getElem?_map, ← hst, List.getElem?_take, if_pos hj, List.getElem?_drop] at hv
  have hlt : o + j < (kL ++ startL).length := by
   have : (kL ++ startL).length = 96 := rfl
   omega
  rw [List.getElem?_eq_getElem hlt] at hv
  simp only [Option.map_some, Option.some.injEq] at hv
  rw [← hv, g0, List.getElem?_eq_getElem hlt]
  rfl) (by rw [hl]; simp [stL]) (fun u hu => nums_oneCell .u64 _ u hu)
 rw [hl] at this
 rw [this]
 congr 2
theorem wpList_buildV {ops : Array Oper} {rest : List Oper} {o : Oper} {a : Act} {w : World} {Q : Exit → Act → World → Prop} (hg : o.guard = none) (t : TypeId) (parts : Array (Nat × Operand)) (ho : o.op = .build t parts) (cs : Array Value)
  (hv : Tryz.prog.built t (parts.map fun (i, x) => (i, a.eval x)).toList = some cs) (h : wpList Tryz.prog ops Q rest (a.put o.dst (.agg cs)) w) : wpList Tryz.prog ops Q (o :: rest) a w :=
 wpList_build hg t parts ho (by rw [hv]; rfl) (by rw [hv]; exact h)
def st0 (bt : Nat) : Array Value := (stL bt (List.replicate 8 0) (List.replicate 128 0) 0).toArray
set_option maxRecDepth 100000 in
set_option maxHeartbeats 2000000 in
theorem new512_any (w : World) : Calls Tryz.prog 120 #[.int .i64 512] w fun e w' => e = .returned (.tuple #[.pointer (some ⟨w.heap.size, 0, none⟩), .int .i64 0]) ∧ StateOf w' w.heap.size 512 [] ∧ Below w.heap.size w w' := by
 have hz : ∀ w, (zeroValue 189).run Tryz.prog w = .ok (.agg (arrC .u64 (List.replicate 96 0))) w := fun _ => by kernel_rfl
 go_enter Tryz.func120, Tryz.ntmps120
 go_wp2_with fail
 refine (known_yes 512 (by decide) w).mono ?_
 rintro e w1 ⟨rfl, rfl⟩
 go_wp2_with (refine wpList_buildV rfl _ _ rfl (st0 512) (by kernel_rfl) ?_)
 have hg1 := zH (Go.heap_alloc_new w (.cells (st0 512) 185))
 have hB1 := zH (Below.alloc (Below.refl w.heap.size w) (Nat.le_refl _) (.cells (st0 512) 185))
 have hs1 := zH ((Array.getElem?_eq_some_iff.1 hg1.out).1)
 generalize w.alloc (.cells (st0 512) 185) = w1 at *
 refine (written_any w1).mono ?_
 rintro e w2 ⟨rfl, rfl⟩
 have hg2 := zH ((Below.heap_alloc w1 (.cells tabC 189) _ hs1.out).trans hg1.out)
 have hB2 := zH (Below.alloc hB1.out (Nat.le_of_lt hs1.out) (.cells tabC 189))
 have hs2 := zH ((Array.getElem?_eq_some_iff.1 hg2.out).1)
 generalize w1.alloc (.cells tabC 189) = w2 at *
 clear hg1 hB1 hs1
 go_wp2_with (refine wpList_store_row rfl _ _ _ rfl w2.heap.size tabC rfl (by kernel_rfl) 189 _ (Go.heap_alloc_new w2 _) (by kernel_rfl) (by kernel_rfl) tabC_one ?_)
 rw [alloc_setRow]
 have hg3 := zH ((Below.heap_alloc w2 (.cells tabC 189) _ hs2.out).trans hg2.out)
 have hT3 := zH (Go.heap_alloc_new w2 (.cells tabC 189))
 have hB3 := zH (Below.alloc hB2.out (Nat.le_of_lt hs2.out) (.cells tabC 189))
 generalize hTE : w2.heap.size = T at *
 generalize w2.alloc (.cells tabC 189) = w3 at *
 have hsl := slice_words w.heap.size
 have hgE := hs2
 clear hg2 hB2 hTE hs2
 generalize hge : w.heap.size = g at *
 have hcp := start_copy w3.drew g T 80 512 16 hg3.out hT3.out (by decide) rfl
 have HGE := zH hge
 clear hge
 go_wp2_with fail
 refine wp_region_held_drew (S := fun _ => True) (by kernel_rfl) trivial (fun hHeld => ?_)
 refine' wpAnyH_take (i := 0) rfl (by kernel_rfl) (by kernel_rfl) (by kernel_rfl) (fun _ _ _ h => h) (Or.inl ⟨?_, ?_⟩) (by assumption) ?_
 rotate_left
 all_goals (try simp only [zq4, zq5, zq6])
 ·rfl
 ·intro W hSw; (try dsimp only at hSw); go_simp; (try with_reducible rfl)
 try simp only [Act.put, zq1, zq2, zq3]
 refine' wpAnyH_take (i := 1) rfl (by kernel_rfl) (by kernel_rfl) (by kernel_rfl) (fun _ _ _ h => h) (Or.inl ⟨?_, ?_⟩) (by assumption) ?_
 rotate_left
 all_goals (try simp only [zq4, zq5, zq6])
 ·rfl
 ·intro W hSw; (try dsimp only at hSw); go_simp; (try with_reducible rfl)
 try simp only [Act.put, zq1, zq2, zq3]
 refine' wpAnyH_take (i := 2) rfl (by kernel_rfl) (by kernel_rfl) (by kernel_rfl) (fun _ _ _ h => h) (Or.inl ⟨?_, ?_⟩) (by assumption) ?_
 rotate_left
 all_goals (try simp only [zq4, zq5, zq6])
 ·rfl
 ·intro W hSw; (try dsimp only at hSw); go_simp; (try with_reducible rfl)
 try simp only [Act.put, zq1, zq2, zq3]
 refine' wpAnyH_take (i := 3) rfl (by kernel_rfl) (by kernel_rfl) (by kernel_rfl) (fun _ _ _ h => h) (Or.inl ⟨?_, ?_⟩) (by assumption) ?_
 rotate_left
 all_goals (try simp only [zq4, zq5, zq6])
 ·rfl
 ·intro W hSw; (try dsimp only at hSw); go_simp; (try with_reducible rfl)
 try simp only [Act.put, zq1, zq2, zq3]
 refine' wpAnyH_take (i := 4) rfl (by kernel_rfl) (by kernel_rfl) (by kernel_rfl) (fun _ _ _ h => h) (Or.inl ⟨?_, ?_⟩) (by assumption) ?_
 rotate_left
 all_goals (try simp only [zq4, zq5, zq6])
 ·rfl
 ·intro W hSw; (try dsimp only at hSw); go_simp; (try with_reducible rfl)
 try simp only [Act.put, zq1, zq2, zq3]
 refine wpAnyH_ready (rs := [5]) (by kernel_rfl) (by simp) ?_
 refine AllReadyH.cons (o := _) rfl (fun K hK => ?_) AllReadyH.nil
 try simp only [zq4, zq5, zq6]
 go_simp
 refine (start512_any _ _).mono ?_; rintro e w5 ⟨rfl, rfl⟩
 go_wp2_with fail
 refine hK.out _ _ trivial (fun hHeld => ?_)
 clear hK K
 try simp only [Act.put, zq1, zq2, zq3]
 refine wpAnyH_ready (rs := [6]) (by kernel_rfl) (by simp) ?_
 refine AllReadyH.cons (o := _) rfl (fun K hK => ?_) AllReadyH.nil
 try simp only [zq4, zq5, zq6]
 go_simp
 refine hK.out _ _ trivial (fun hHeld => ?_)
 clear hK K
 try simp only [Act.put, zq1, zq2, zq3]
 refine wpAnyH_done (by kernel_rfl) ?_ _
 go_wp2
 go_ret2
 rw [HGE.out]
 have hgr : w3.grownBy (w3.drew.setRow g (stL 512 (startN 512) (List.replicate 128 0) 0).toArray) (some g) := grown_setRow (grown_drew (x := w3) (y := w3) ⟨rfl, rfl, rfl, Nat.le_refl _, fun _ _ _ => rfl⟩) _
 exact ⟨rfl, ⟨startN 512, List.replicate 128 0, ⟨setRow_heap _ g _ _ _ _ hg3.out, startN_len _, by simp, startN_lt _, fun x hx => by have := List.eq_of_mem_replicate hx; omega⟩, ⟨rfl, rfl⟩, by decide, fun x hx => by simp at hx⟩, hB3.out.grown hgr (Nat.le_of_lt (Array.getElem?_eq_some_iff.1 hg3.out).1) (fun k hk => by cases hk; exact Nat.le_refl _)⟩
set_option maxRecDepth 100000 in
set_option maxHeartbeats 2000000 in
theorem new384_any (w : World) : Calls Tryz.prog 120 #[.int .i64 384] w fun e w' => e = .returned (.tuple #[.pointer (some ⟨w.heap.size, 0, none⟩), .int .i64 0]) ∧ StateOf w' w.heap.size 384 [] ∧ Below w.heap.size w w' := by
 have hz : ∀ w, (zeroValue 189).run Tryz.prog w = .ok (.agg (arrC .u64 (List.replicate 96 0))) w := fun _ => by kernel_rfl
 go_enter Tryz.func120, Tryz.ntmps120
 go_wp2_with fail
 refine (known_yes 384 (by decide) w).mono ?_
 rintro e w1 ⟨rfl, rfl⟩
 go_wp2_with (refine wpList_buildV rfl _ _ rfl (st0 384) (by kernel_rfl) ?_)
 have hg1 := zH (Go.heap_alloc_new w (.cells (st0 384) 185))
 have hB1 := zH (Below.alloc (Below.refl w.heap.size w) (Nat.le_refl _) (.cells (st0 384) 185))
 have hs1 := zH ((Array.getElem?_eq_some_iff.1 hg1.out).1)
 generalize w.alloc (.cells (st0 384) 185) = w1 at *
 refine (written_any w1).mono ?_
 rintro e w2 ⟨rfl, rfl⟩
 have hg2 := zH ((Below.heap_alloc w1 (.cells tabC 189) _ hs1.out).trans hg1.out)
 have hB2 := zH (Below.alloc hB1.out (Nat.le_of_lt hs1.out) (.cells tabC 189))
 have hs2 := zH ((Array.getElem?_eq_some_iff.1 hg2.out).1)
 generalize w1.alloc (.cells tabC 189) = w2 at *
 clear hg1 hB1 hs1
 go_wp2_with (refine wpList_store_row rfl _ _ _ rfl w2.heap.size tabC rfl (by kernel_rfl) 189 _ (Go.heap_alloc_new w2 _) (by kernel_rfl) (by kernel_rfl) tabC_one ?_)
 rw [alloc_setRow]
 have hg3 := zH ((Below.heap_alloc w2 (.cells tabC 189) _ hs2.out).trans hg2.out)
 have hT3 := zH (Go.heap_alloc_new w2 (.cells tabC 189))
 have hB3 := zH (Below.alloc hB2.out (Nat.le_of_lt hs2.out) (.cells tabC 189))
 generalize hTE : w2.heap.size = T at *
 generalize w2.alloc (.cells tabC 189) = w3 at *
 have hsl := slice_words w.heap.size
 have hgE := hs2
 clear hg2 hB2 hTE hs2
 generalize hge : w.heap.size = g at *
 have hcp := start_copy w3.drew g T 88 384 8 hg3.out hT3.out (by decide) rfl
 have HGE := zH hge
 clear hge
 go_wp2_with fail
 refine wp_region_held_drew (S := fun _ => True) (by kernel_rfl) trivial (fun hHeld => ?_)
 refine' wpAnyH_take (i := 0) rfl (by kernel_rfl) (by kernel_rfl) (by kernel_rfl) (fun _ _ _ h => h) (Or.inl ⟨?_, ?_⟩) (by assumption) ?_
 rotate_left
 all_goals (try simp only [zq4, zq5, zq6])
 ·rfl
 ·intro W hSw; (try dsimp only at hSw); go_simp; (try with_reducible rfl)
 try simp only [Act.put, zq1, zq2, zq3]
 refine' wpAnyH_take (i := 1) rfl (by kernel_rfl) (by kernel_rfl) (by kernel_rfl) (fun _ _ _ h => h) (Or.inl ⟨?_, ?_⟩) (by assumption) ?_
 rotate_left
 all_goals (try simp only [zq4, zq5, zq6])
 ·rfl
 ·intro W hSw; (try dsimp only at hSw); go_simp; (try with_reducible rfl)
 try simp only [Act.put, zq1, zq2, zq3]
 refine' wpAnyH_take (i := 2) rfl (by kernel_rfl) (by kernel_rfl) (by kernel_rfl) (fun _ _ _ h => h) (Or.inl ⟨?_, ?_⟩) (by assumption) ?_
 rotate_left
 all_goals (try simp only [zq4, zq5, zq6])
 ·rfl
 ·intro W hSw; (try dsimp only at hSw); go_simp; (try with_reducible rfl)
 try simp only [Act.put, zq1, zq2, zq3]
 refine' wpAnyH_take (i := 3) rfl (by kernel_rfl) (by kernel_rfl) (by kernel_rfl) (fun _ _ _ h => h) (Or.inl ⟨?_, ?_⟩) (by assumption) ?_
 rotate_left
 all_goals (try simp only [zq4, zq5, zq6])
 ·rfl
 ·intro W hSw; (try dsimp only at hSw); go_simp; (try with_reducible rfl)
 try simp only [Act.put, zq1, zq2, zq3]
 refine' wpAnyH_take (i := 4) rfl (by kernel_rfl) (by kernel_rfl) (by kernel_rfl) (fun _ _ _ h => h) (Or.inl ⟨?_, ?_⟩) (by assumption) ?_
 rotate_left
 all_goals (try simp only [zq4, zq5, zq6])
 ·rfl
 ·intro W hSw; (try dsimp only at hSw); go_simp; (try with_reducible rfl)
 try simp only [Act.put, zq1, zq2, zq3]
 refine wpAnyH_ready (rs := [5]) (by kernel_rfl) (by simp) ?_
 refine AllReadyH.cons (o := _) rfl (fun K hK => ?_) AllReadyH.nil
 try simp only [zq4, zq5, zq6]
 go_simp
 refine (start384_any _ _).mono ?_; rintro e w5 ⟨rfl, rfl⟩
 go_wp2_with fail
 refine hK.out _ _ trivial (fun hHeld => ?_)
 clear hK K
 try simp only [Act.put, zq1, zq2, zq3]
 refine wpAnyH_ready (rs := [6]) (by kernel_rfl) (by simp) ?_
 refine AllReadyH.cons (o := _) rfl (fun K hK => ?_) AllReadyH.nil
 try simp only [zq4, zq5, zq6]
 go_simp
 refine hK.out _ _ trivial (fun hHeld => ?_)
 clear hK K
 try simp only [Act.put, zq1, zq2, zq3]
 refine wpAnyH_done (by kernel_rfl) ?_ _
 go_wp2
 go_ret2
 rw [HGE.out]
 have hgr : w3.grownBy (w3.drew.setRow g (stL 384 (startN 384) (List.replicate 128 0) 0).toArray) (some g) := grown_setRow (grown_drew (x := w3) (y := w3) ⟨rfl, rfl, rfl, Nat.le_refl _, fun _ _ _ => rfl⟩) _
 exact ⟨rfl, ⟨startN 384, List.replicate 128 0, ⟨setRow_heap _ g _ _ _ _ hg3.out, startN_len _, by simp, startN_lt _, fun x hx => by have := List.eq_of_mem_replicate hx; omega⟩, ⟨rfl, rfl⟩, by decide, fun x hx => by simp at hx⟩, hB3.out.grown hgr (Nat.le_of_lt (Array.getElem?_eq_some_iff.1 hg3.out).1) (fun k hk => by cases hk; exact Nat.le_refl _)⟩
set_option maxRecDepth 100000 in
theorem copy_any (g bt : Nat) (ws tail : List Nat) (T : Nat) (w : World) (h : StateAt w g bt ws tail T) (hb : bt ≠ 0) : Calls Tryz.prog 160 #[.pointer (some ⟨g, 0, none⟩)] w fun e w' => e = .returned (.pointer (some ⟨w.heap.size, 0, none⟩)) ∧ w' = w.alloc (.cells (stL bt ws tail T).toArray 185) := by
 have hz2 : ∀ w, (zeroValue 185).run Tryz.prog w = .ok (.agg (st0 0)) w := fun _ => by kernel_rfl
 have hsz : (stL bt ws tail T).toArray.size = 138 := by simp [stL, h.wlen, h.tlen]
 have hone : (stL bt ws tail T).toArray.all (·.oneCell') = true := by
  rw [Array.all_eq_true_iff_forall_mem]
  intro u hu
  simp only [stL, List.mem_toArray, List.mem_cons, List.mem_append] at hu
  rcases hu with rfl | hu | hu | hu
  ·rfl
  ·exact nums_oneCell .u64 _ u hu
  ·exact nums_oneCell .u8 _ u hu
  ·simp at hu
   rw [hu]
   rfl
 have hH := h.heap
 generalize (stL bt ws tail T).toArray = cs at *
 go_enter Tryz.func160, Tryz.ntmps160
 go_wp2_with fail
 refine (made_yes g bt ws tail T w h hb).mono ?_
 rintro e w1 ⟨rfl, rfl⟩
 go_wp2_with (first | (refine wpList_load_row rfl _ _ rfl g rfl _ _ _ _ hH Tryz.underlying185 rfl (by rw [hsz]; kernel_rfl) ?_) | (refine wpList_store_row rfl _ _ _ rfl w.heap.size cs rfl rfl 185 _ (Go.heap_alloc_new w _) (by rw [hsz]; kernel_rfl) (by rw [hsz]; kernel_rfl) hone ?_))
 go_ret
 rw [alloc_setRow]
 exact ⟨rfl, rfl⟩
end Go.Proofs.YtpefjkndfifceaaGreatDoor.L5
namespace Go.Proofs.YtpefjkndfifceaaGreatDoor.L5
open Go.RowKit
set_option maxRecDepth 100000
def endN (T : Nat) : List Nat := [128] ++ List.replicate ((239 - T % 128) % 128) 0 ++ wd 0 8 ++ wd (T * 8) 8
def dwN (t : Nat) : Nat → List Nat
 | 0 => []
 | j + 1 => dwN t j ++ wd (g0 [0, t] j) 8
theorem dwN_len (t : Nat) : ∀ j, (dwN t j).length = 8 * j
 | 0 => rfl
 | j + 1 => by rw [dwN, List.length_append, dwN_len t j, wd_len]; omega
set_option maxRecDepth 100000 in
set_option maxHeartbeats 2000000 in
theorem ending_any (T : Nat) (y : Int) (hy : y = T) (hT : T < 1152921504606846976) (w : World) :
  Calls Tryz.prog 161 #[.int .u64 y] w fun e w' => (∃ v, e = .returned v ∧ OwnQ .u8 5 w.heap.size w' v (endN T)) ∧ Below w.heap.size w w' := by
 subst hy
 obtain ⟨i0, hi, hz0, hz1, hz2⟩ := info_parts infoB
 obtain ⟨us, hus⟩ : ∃ x, x = T % 128 := ⟨_, rfl⟩
 have hatc : (T : Int) % 128 = (us : Int) := by omega
 have hus64 : us < 128 := by omega
 obtain ⟨k, hk⟩ : ∃ k, k = (239 - us) % 128 := ⟨_, rfl⟩
 have hkc : Int.tmod (239 - (us : Int)) 128 = (k : Int) := by
  rw [Int.tmod_eq_emod_of_nonneg (by omega)]
  omega
 have hk128 : k < 128 := by omega
 obtain ⟨t8, ht8⟩ : ∃ t, t = T * 8 := ⟨_, rfl⟩
 have ht8b : t8 < 18446744073709551616 := by omega
 have hs1 : (T : Int) / 2305843009213693952 = 0 := by omega
 have hs2 : IntKind.u64.wrap ((T : Int) * 8) = (t8 : Int) := by simp [IntKind.wrap, IntKind.bits, IntKind.signed]; omega
 have HU := zH hus
 have HK := zH hk
 have HT8 := zH ht8
 clear hus hk ht8
 go_enter Tryz.func161, Tryz.ntmps161
 go_wp2_with (first
  | (at_builtin; refine wpList_append_noughts _ rfl _ _ 22 3 rfl w.heap.size 5 i0 Tryz.underlying22 Tryz.underlying3 hi hz0 hz1 hz2 _ [128] rfl (World.ownsRow_lit w #[.int .u8 128] 1 (Nat.le_refl _) (by unfold maxLen; omega) rfl) (by simp) k rfl (by simp; omega) (by simp) ?_; intro v2 w2 hown2 hgrow2; have HO2 := zH hown2; have HB2 := zH (hgrow2 _ ((Below.refl _ _).alloc (Nat.le_refl _) _)); clear hown2 hgrow2))
 rw [show #[Value.int .u64 0, Value.int .u64 (t8 : Int)] = arrC .u64 [0, t8] from rfl]
 obtain ⟨R0, hR0⟩ : ∃ R, R = [128] ++ List.replicate k 0 := ⟨_, rfl⟩
 rw [← hR0] at HO2
 have hRl : R0.length ≤ 200 := by rw [hR0]; simp; omega
 have HR0 := zH hR0
 clear hR0
 go_loopw [20, 4] (fun iv sv wq => ∃ j : Nat, iv = .int .i64 (j : Int) ∧ j ≤ 2 ∧ Hid (OwnQ .u8 5 w.heap.size wq sv (R0 ++ dwN t8 j) ∧ Below w.heap.size w wq)) (fun iv _ _ => 2 - (intOf iv).toNat)
 case atStart => exact ⟨0, rfl, by decide, by rw [show dwN t8 0 = [] from rfl, List.append_nil]; exact HO2.out, HB2.out⟩
 case round =>
  obtain ⟨j, rfl, hj, hI⟩ := hrel
  by_cases hlt : j < 2
  ·have ix := idx2 [0, t8] j hlt rfl
   have lx : g0 [0, t8] j < 18446744073709551616 := g0_lt (by intro x hx; simp at hx; rcases hx with rfl | rfl <;> omega) (by decide) j
   have HD := zH (show dwN t8 (j + 1) = dwN t8 j ++ wd (g0 [0, t8] j) 8 from rfl)
   unfold g0 at lx HD
   generalize [0, t8][j]?.getD 0 = x at *
   go_wp2_with fail
   refine (appended_any w.heap.size _ _ x _ wr hI.out.1 (by rw [List.length_append, dwN_len]; omega) hI.out.2.size rfl lx).mono ?_
   rintro e w5 ⟨⟨v5, rfl, h5⟩, h6⟩
   rw [List.append_assoc, ← HD.out] at h5
   have H5 := zH h5
   have H6 := zH (h6 _ hI.out.2)
   clear h5 h6
   go_wp2
   go_roundw
   case rel => exact ⟨j + 1, by go_num, by omega, H5.out, H6.out⟩
   case measure => simp [intOf] <;> omega
  ·obtain rfl : j = 2 := by omega
   have hE : R0 ++ dwN t8 2 = endN T := by
    unfold endN
    rw [← HU.out, ← HK.out, ← HT8.out, ← HR0.out, List.append_assoc]
    rfl
   have ho := hI.out.1
   rw [hE] at ho
   have HOO := zH ho
   clear ho hE
   go_wp2
   go_ret
   exact ⟨⟨_, rfl, HOO.out⟩, hI.out.2⟩
end Go.Proofs.YtpefjkndfifceaaGreatDoor.L5
namespace Go.Proofs.YtpefjkndfifceaaGreatDoor.L5
open Go.RowKit Go.Shelf
set_option maxRecDepth 100000
def sumW (bt : Nat) (m : List Nat) : List Nat := wsK bt (m ++ endN m.length) ((m ++ endN m.length).length / 128)
def bytesW (ws : List Nat) (j : Nat) : List Nat := (List.range j).flatMap fun i => wd (g0 ws i) 8
theorem bytesW_succ (ws : List Nat) (j : Nat) : bytesW ws (j + 1) = bytesW ws j ++ wd (g0 ws j) 8 := by
 unfold bytesW
 rw [List.range_succ, List.flatMap_append]
 simp
theorem bytesW_len (ws : List Nat) : ∀ j, (bytesW ws j).length = 8 * j
 | 0 => rfl
 | j + 1 => by rw [bytesW_succ, List.length_append, bytesW_len ws j, wd_len]; omega
theorem bytesW_lt (ws : List Nat) (j : Nat) : ∀ x ∈ bytesW ws j, x < 256 := fun x hx => by
 unfold bytesW at hx
 obtain ⟨i, -, hx⟩ := List.mem_flatMap.1 hx
 exact wd_lt _ _ x hx
def hashN (bt : Nat) (m : List Nat) : List Nat := bytesW (sumW bt m) (bt / 64)
theorem hashN_lt (bt : Nat) (m : List Nat) : ∀ x ∈ hashN bt m, x < 256 := bytesW_lt _ _
theorem hashN_len {bt : Nat} (m : List Nat) (h : bt = 384 ∨ bt = 512) : (hashN bt m).length = bt / 8 := by
 unfold hashN
 rw [bytesW_len]
 omega
theorem endN_len (T : Nat) : (endN T).length = 1 + (239 - T % 128) % 128 + 8 + 8 := by
 unfold endN
 simp only [List.length_append, List.length_replicate, List.length_singleton, wd_len]
theorem endN_lt (T : Nat) : ∀ x ∈ endN T, x < 256 := fun x hx => by
 unfold endN at hx
 simp only [List.mem_append, List.mem_singleton] at hx
 rcases hx with ((rfl | hx) | hx) | hx
 ·decide
 ·have := List.eq_of_mem_replicate hx
  omega
 ·exact wd_lt _ _ x hx
 ·exact wd_lt _ _ x hx
theorem slice_upto (g q : Nat) (h : q ≤ 8) (W : World) : (Instr.sliceAt 182 (.pointer (some ⟨g, 1, none⟩)) none (some (.int .i64 (q : Int))) none).run Tryz.prog W = .ok (.slice (some ⟨g, 1, none⟩) q 8) W := by
 have hl : Tryz.prog.arrayLen 182 = 8 := by kernel_rfl
 have hs : ∀ w, (sizeOf (Tryz.prog.elem 182)).run Tryz.prog w = .ok 1 w := fun _ => by kernel_rfl
 rw [run_sliceAt_array_h W 182 ⟨g, 1, none⟩ (by kernel_rfl) .i64 (q : Int) (by omega) (by rw [hl]; omega), hs]
 show Result.ok (slicedAt ⟨g, 1, none⟩ 0 (q : Int).toNat (Tryz.prog.arrayLen 182) 1) W = _
 rw [hl]
 unfold slicedAt
 rw [Int.toNat_natCast]
 simp [Addr.add]
set_option maxRecDepth 100000 in
set_option maxHeartbeats 4000000 in
theorem sum_any (g bt : Nat) (m : List Nat) (w : World) (h : StateOf w g bt m) (hbt : bt = 384 ∨ bt = 512) :
  Calls Tryz.prog 122 #[.pointer (some ⟨g, 0, none⟩)] w fun e w' => (∃ ad : Addr × Nat, e = .returned (.slice (some ad.1) (bt / 8) ad.2) ∧ Reads .u8 w' (some ad.1) (bt / 8) ad.2 (hashN bt m) ∧ w.heap.size ≤ ad.1.block) ∧ Below w.heap.size w w' := by
 obtain ⟨ws, tail, hst, hfin, hmb, hm0⟩ := h
 have HM0 := zH hm0
 have HF := zH hfin
 have HS := zH hst
 have hgw := zH hst.lt
 have hbt0 : bt ≠ 0 := by omega
 have HBT := zH hbt
 have cT := hst.taken
 obtain ⟨T, hT⟩ : ∃ T, T = m.length := ⟨_, rfl⟩
 have HT := zH hT
 rw [← hT] at cT hmb
 obtain ⟨q, hq⟩ : ∃ q, q = bt / 64 := ⟨_, rfl⟩
 have hq1 : Int.tdiv (bt : Int) 64 = (q : Int) := by
  rw [Int.tdiv_eq_ediv_of_nonneg (by omega)]
  omega
 have hq8 : q ≤ 8 ∧ 6 ≤ q := by omega
 have hq9 : 8 * q = bt / 8 := by omega
 have HQ := zH hq
 have HQ9 := zH hq9
 clear hm0 hfin hst hbt hT hq hq9
 go_enter Tryz.func122, Tryz.ntmps122
 go_wp2_with fail
 refine (made_yes g bt ws tail _ w HS.out hbt0).mono ?_
 rintro e w1 ⟨rfl, rfl⟩
 go_wp2_with fail
 refine (copy_any g bt ws tail _ w HS.out hbt0).mono ?_
 rintro e w3 ⟨rfl, rfl⟩
 have hs3 := zH (show StateAt (w.alloc (.cells (stL bt ws tail m.length).toArray 185)) w.heap.size bt ws tail m.length from ⟨Go.heap_alloc_new w _, HS.out.wlen, HS.out.tlen, HS.out.wlt, HS.out.tlt⟩)
 have hb3 := zH ((Below.refl w.heap.size w).alloc (Nat.le_refl _) (.cells (stL bt ws tail m.length).toArray 185))
 have cT3 := (HS.out.below hb3.out hgw.out).taken
 have hz3 := zH (show (w.alloc (.cells (stL bt ws tail m.length).toArray 185)).heap.size = w.heap.size + 1 by simp)
 obtain ⟨f, hf⟩ : ∃ f, f = w.heap.size := ⟨_, rfl⟩
 rw [← hf] at hs3 ⊢
 have HFE := zH hf
 clear hf cT
 generalize w.alloc (.cells (stL bt ws tail m.length).toArray 185) = w3 at *
 rw [← HT.out] at cT3
 go_wp2_with fail
 refine (ending_any T _ rfl hmb w3).mono ?_
 rintro e w4 ⟨⟨v, rfl, ho4⟩, hb4⟩
 have HO4 := zH ho4
 have HB4 := zH hb4
 obtain ⟨g1, c1, rfl⟩ := ho4.succ (by intro e; have := endN_len T; rw [e] at this; simp at this)
 have hlt1 := zH (ho4.lt g1 rfl)
 have hs4 := zH (hs3.out.below hb4 hs3.out.lt)
 obtain ⟨N, hN⟩ : ∃ N, N = (endN T).length := ⟨_, rfl⟩
 have hel := endN_len T
 rw [← hN] at hel HO4 ⊢
 have HN := zH hN
 clear ho4 hb4 hN cT3
 have hNb : N ≤ 200 := by omega
 clear hel
 have HR4 : Reads .u8 w4 (some ⟨g1, 0, none⟩) N c1 (endN T) := by
  have h := HO4.out
  rw [HN.out] at h ⊢
  exact h.reads
 have HWC := zH (write_core f bt ws tail m (endN T) (some ⟨g1, 0, none⟩) N c1 w4 hs4.out HF.out hbt0 HR4 (endN_lt T) (by rw [← HT.out]; omega) (fun _ ad e => by cases e; have := hlt1.out.1; have := hs3.out.lt; show g1 ≠ f; omega))
 clear HR4
 generalize hET : endN T = ET at *
 have HET := zH hET
 clear hET
 go_wp2_with fail
 refine (HWC.out).mono ?_
 rintro e w5 ⟨rfl, ⟨ws5, tail5, hs5, hf5⟩, hg5⟩
 have HS5 := zH hs5
 have HZ := zH (show ws5 = sumW bt m by rw [hf5.1]; unfold sumW; rw [← HT.out, HET.out])
 have hfw : w.heap.size ≤ f := by rw [HFE.out]; exact Nat.le_refl _
 have HB5 := zH (show Below w.heap.size w w5 from ((hb3.out.trans (HB4.out.mono (by have := hz3.out; omega))).grown hg5 (by have := HB4.out.size; have := hz3.out; omega) (fun r e => by cases e; exact hfw)))
 have cB := (HS.out.below HB5.out hgw.out).bits
 have hsl := slice_upto f q hq8.1
 clear hs5 hf5 hg5
 go_wp2_with fail
 go_quiet (fail)
 have HS6 := zH (show StateAt (w5.drewN nq) f bt ws5 tail5 (m ++ ET).length from HS5.out.block rfl)
 have HB6 := zH (show Below w.heap.size w (w5.drewN nq) from below_drewS HB5.out nq)
 generalize w5.drewN nq = w6 at *
 clear cB hsl
 go_wp2_with fail
 go_loopw [29, 4] (fun iv sv wq => ∃ j : Nat, iv = .int .i64 (j : Int) ∧ j ≤ q ∧ Hid (OwnQ .u8 5 w6.heap.size wq sv (bytesW ws5 j) ∧ Below w6.heap.size w6 wq)) (fun iv _ _ => q - (intOf iv).toNat)
 case atStart => exact ⟨0, rfl, Nat.zero_le _, OwnQ.nil _ _ _ _, Below.refl _ _⟩
 case round =>
  obtain ⟨j, rfl, hj, hI⟩ := hrel
  by_cases hlt : j < q
  ·have cw := (HS6.out.below hI.out.2 HS6.out.lt).word j (by omega)
   have lx : g0 ws5 j < 18446744073709551616 := g0_lt HS6.out.wlt (by decide) j
   have hbs := zH (bytesW_succ ws5 j)
   have hbl := zH (bytesW_len ws5 j)
   generalize g0 ws5 j = x at *
   have hjq : decide ((j : Int) < (q : Int)) = true := by simp; exact hlt
   go_wp2_with fail
   refine (appended_any w6.heap.size _ (bytesW ws5 j) x _ wr hI.out.1 (by rw [hbl.out]; omega) hI.out.2.size rfl lx).mono ?_
   rintro e w7 ⟨⟨v7, rfl, ho7⟩, hb7⟩
   rw [← hbs.out] at ho7
   have HO7 := zH ho7
   have HB7 := zH (hb7 _ hI.out.2)
   clear ho7 hb7
   go_wp2
   go_roundw
   case rel => exact ⟨j + 1, by go_num, by omega, HO7.out, HB7.out⟩
   case measure => simp [intOf] <;> omega
  ·obtain rfl : j = q := by omega
   have ho := hI.out.1
   rw [show bytesW ws5 j = hashN bt m by unfold hashN; rw [← HQ.out, ← HZ.out]] at ho
   have HO := zH ho
   have HBf := zH (HB6.out.trans (hI.out.2.mono HB6.out.size))
   obtain ⟨h1, c9, hv⟩ := ho.succ (by intro e; have h8 := hashN_len m HBT.out; rw [e, List.length_nil] at h8; have := HQ9.out; omega)
   rw [hashN_len m HBT.out] at hv
   subst hv
   have hh1 := zH (ho.lt h1 rfl)
   clear ho hI
   have hjq : decide ((j : Int) < (j : Int)) = false := by simp
   go_wp2
   go_ret
   exact ⟨⟨(⟨h1, 0, none⟩, c9), rfl, HO.out.reads, by have := hh1.out.1; have := HB6.out.size; show w.heap.size ≤ h1; omega⟩, HBf.out⟩
end Go.Proofs.YtpefjkndfifceaaGreatDoor.L5
namespace Go.Proofs.YtpefjkndfifceaaGreatDoor
open Go.RowKit Go.Shelf
set_option maxRecDepth 100000
theorem stM_lt {w : World} {g bt : Nat} {m : List Nat} (h : StateOf w g bt m) : g < w.heap.size := by
 obtain ⟨ws, tail, h, -⟩ := h
 exact h.lt
theorem stM_below {w w' : World} {g bt B : Nat} {m : List Nat} (h : StateOf w g bt m) (hb : Below B w w') (hg : g < B) : StateOf w' g bt m := by
 obtain ⟨ws, tail, h, k⟩ := h
 exact ⟨ws, tail, h.below hb hg, k⟩
theorem stM_kept {W W' : World} {g1 g2 bt : Nat} {l : List Nat} (h : StateOf W g1 bt l) (hg : W.grownBy W' (some g2)) (hne : g1 ≠ g2) : StateOf W' g1 bt l := by
 obtain ⟨ws, tail, h, k⟩ := h
 exact ⟨ws, tail, h.block (hg.block g1 h.lt (fun e => hne (Option.some.inj e))), k⟩
theorem L5.stM_kept {W W' : World} {g1 g2 bt : Nat} {l : List Nat} (h : L5.StateOf W g1 bt l) (hg : W.grownBy W' (some g2)) (hne : g1 ≠ g2) : L5.StateOf W' g1 bt l := by
 obtain ⟨ws, tail, h, k⟩ := h
 exact ⟨ws, tail, h.block (hg.block g1 h.lt (fun e => hne (Option.some.inj e))), k⟩
theorem L5.stM_lt {w : World} {g bt : Nat} {m : List Nat} (h : L5.StateOf w g bt m) : g < w.heap.size := by
 obtain ⟨ws, tail, h, -⟩ := h
 exact h.lt
theorem L5.stM_below {w w' : World} {g bt B : Nat} {m : List Nat} (h : L5.StateOf w g bt m) (hb : Below B w w') (hg : g < B) : L5.StateOf w' g bt m := by
 obtain ⟨ws, tail, h, k⟩ := h
 exact ⟨ws, tail, h.below hb hg, k⟩
theorem open_1 (w : World) (hk : Kinds w) : Calls Tryz.prog 78 #[.int .i64 1] w fun e w' => (∃ g, e = .returned (.tuple #[.agg #[.func (.func 118) #[.pointer (some ⟨g, 0, none⟩)] #[], .func (.func 119) #[.pointer (some ⟨g, 0, none⟩)] #[]], .bool true]) ∧ w.heap.size ≤ g ∧ StateOf w' g 224 []) ∧ Below w.heap.size w w' := by
 have HK := zH hk
 clear hk
 go_enter Tryz.func78, Tryz.ntmps78
 go_wp2_with fail
 refine (known_yesM 1 (by simp [IsHash]) _ (HK.out.below ((Below.refl _ _).alloc (Nat.le_refl _) _))).mono ?_
 rintro e w1 ⟨rfl, h1⟩
 have hz1 : w.heap.size + 1 ≤ w1.heap.size := by have := h1.size; simpa using this
 have B1 := zH (((Below.refl w.heap.size w).alloc (Nat.le_refl _) (.cells #[.nilFunc, .nilFunc] 98)).trans (h1.mono (by simp)))
 have c0 : w1.cell? ⟨w.heap.size, 0, none⟩ = some .nilFunc := (h1.cell (p := ⟨w.heap.size, 0, none⟩) (by simp)).trans (by simp)
 have c1 : w1.cell? ⟨w.heap.size, 1, none⟩ = some .nilFunc := (h1.cell (p := ⟨w.heap.size, 1, none⟩) (by simp)).trans (by simp)
 have f0 : w1.frozen? ⟨w.heap.size, 0, none⟩ = false := (h1.frozen (p := ⟨w.heap.size, 0, none⟩) (by simp)).trans (by simp)
 have f1 : w1.frozen? ⟨w.heap.size, 1, none⟩ = false := (h1.frozen (p := ⟨w.heap.size, 1, none⟩) (by simp)).trans (by simp)
 unfold kindV
 rw [show mSize 1 = 28 from rfl, show mMark 1 = 4 from rfl]
 clear h1
 go_wp2_with fail
 refine (new224_any _).mono ?_
 rintro e w2 ⟨rfl, hs, h2⟩
 rw [World.size_alloc] at h2
 have hz2 : w1.heap.size + 1 ≤ w2.heap.size := by have := h2.size; simpa using this
 have B2 := zH (B1.out.trans ((((Below.refl w1.heap.size w1).alloc (Nat.le_refl _) _).trans (h2.mono (by simp))).mono (by omega)))
 have c0' : w2.cell? ⟨w.heap.size, 0, none⟩ = some .nilFunc := (h2.cell (p := ⟨w.heap.size, 0, none⟩) (by simp; omega)).trans ((((Below.refl w1.heap.size w1).alloc (Nat.le_refl _) _).cell (p := ⟨w.heap.size, 0, none⟩) (by simp; omega)).trans c0)
 have c1' : w2.cell? ⟨w.heap.size, 1, none⟩ = some .nilFunc := (h2.cell (p := ⟨w.heap.size, 1, none⟩) (by simp; omega)).trans ((((Below.refl w1.heap.size w1).alloc (Nat.le_refl _) _).cell (p := ⟨w.heap.size, 1, none⟩) (by simp; omega)).trans c1)
 have f0' : w2.frozen? ⟨w.heap.size, 0, none⟩ = false := (h2.frozen (p := ⟨w.heap.size, 0, none⟩) (by simp; omega)).trans ((((Below.refl w1.heap.size w1).alloc (Nat.le_refl _) _).frozen (p := ⟨w.heap.size, 0, none⟩) (by simp; omega)).trans f0)
 have f1' : w2.frozen? ⟨w.heap.size, 1, none⟩ = false := (h2.frozen (p := ⟨w.heap.size, 1, none⟩) (by simp; omega)).trans ((((Below.refl w1.heap.size w1).alloc (Nat.le_refl _) _).frozen (p := ⟨w.heap.size, 1, none⟩) (by simp; omega)).trans f1)
 rw [World.size_alloc] at hs ⊢
 have HS := zH hs
 have hgl := stM_lt hs
 clear c0 c1 f0 f1 hs h2
 have hgw : w.heap.size < w1.heap.size + 1 := by omega
 generalize w1.heap.size + 1 = g at *
 go_wp2
 refine bodyPost_ret (v := .tuple #[.agg #[.func (.func 118) #[.pointer (some ⟨g, 0, none⟩)] #[], .func (.func 119) #[.pointer (some ⟨g, 0, none⟩)] #[]], .bool true]) ?_ rfl ⟨⟨g, rfl, by omega, stM_kept HS.out (grown_set (grown_set (grown_below (Below.refl _ w2) (some w.heap.size)) 0 _) 1 _) (by omega)⟩, (B2.out.setCell (p := ⟨w.heap.size, 0, none⟩) (Nat.le_refl _) _).setCell (p := ⟨w.heap.size, 1, none⟩) (Nat.le_refl _) _⟩
 rw [results_cell_tmp rfl]
 go_simp
theorem open_2 (w : World) (hk : Kinds w) : Calls Tryz.prog 78 #[.int .i64 2] w fun e w' => (∃ g, e = .returned (.tuple #[.agg #[.func (.func 118) #[.pointer (some ⟨g, 0, none⟩)] #[], .func (.func 119) #[.pointer (some ⟨g, 0, none⟩)] #[]], .bool true]) ∧ w.heap.size ≤ g ∧ StateOf w' g 256 []) ∧ Below w.heap.size w w' := by
 have HK := zH hk
 clear hk
 go_enter Tryz.func78, Tryz.ntmps78
 go_wp2_with fail
 refine (known_yesM 2 (by simp [IsHash]) _ (HK.out.below ((Below.refl _ _).alloc (Nat.le_refl _) _))).mono ?_
 rintro e w1 ⟨rfl, h1⟩
 have hz1 : w.heap.size + 1 ≤ w1.heap.size := by have := h1.size; simpa using this
 have B1 := zH (((Below.refl w.heap.size w).alloc (Nat.le_refl _) (.cells #[.nilFunc, .nilFunc] 98)).trans (h1.mono (by simp)))
 have c0 : w1.cell? ⟨w.heap.size, 0, none⟩ = some .nilFunc := (h1.cell (p := ⟨w.heap.size, 0, none⟩) (by simp)).trans (by simp)
 have c1 : w1.cell? ⟨w.heap.size, 1, none⟩ = some .nilFunc := (h1.cell (p := ⟨w.heap.size, 1, none⟩) (by simp)).trans (by simp)
 have f0 : w1.frozen? ⟨w.heap.size, 0, none⟩ = false := (h1.frozen (p := ⟨w.heap.size, 0, none⟩) (by simp)).trans (by simp)
 have f1 : w1.frozen? ⟨w.heap.size, 1, none⟩ = false := (h1.frozen (p := ⟨w.heap.size, 1, none⟩) (by simp)).trans (by simp)
 unfold kindV
 rw [show mSize 2 = 32 from rfl, show mMark 2 = 1 from rfl]
 clear h1
 go_wp2_with fail
 refine (new256_any _).mono ?_
 rintro e w2 ⟨rfl, hs, h2⟩
 rw [World.size_alloc] at h2
 have hz2 : w1.heap.size + 1 ≤ w2.heap.size := by have := h2.size; simpa using this
 have B2 := zH (B1.out.trans ((((Below.refl w1.heap.size w1).alloc (Nat.le_refl _) _).trans (h2.mono (by simp))).mono (by omega)))
 have c0' : w2.cell? ⟨w.heap.size, 0, none⟩ = some .nilFunc := (h2.cell (p := ⟨w.heap.size, 0, none⟩) (by simp; omega)).trans ((((Below.refl w1.heap.size w1).alloc (Nat.le_refl _) _).cell (p := ⟨w.heap.size, 0, none⟩) (by simp; omega)).trans c0)
 have c1' : w2.cell? ⟨w.heap.size, 1, none⟩ = some .nilFunc := (h2.cell (p := ⟨w.heap.size, 1, none⟩) (by simp; omega)).trans ((((Below.refl w1.heap.size w1).alloc (Nat.le_refl _) _).cell (p := ⟨w.heap.size, 1, none⟩) (by simp; omega)).trans c1)
 have f0' : w2.frozen? ⟨w.heap.size, 0, none⟩ = false := (h2.frozen (p := ⟨w.heap.size, 0, none⟩) (by simp; omega)).trans ((((Below.refl w1.heap.size w1).alloc (Nat.le_refl _) _).frozen (p := ⟨w.heap.size, 0, none⟩) (by simp; omega)).trans f0)
 have f1' : w2.frozen? ⟨w.heap.size, 1, none⟩ = false := (h2.frozen (p := ⟨w.heap.size, 1, none⟩) (by simp; omega)).trans ((((Below.refl w1.heap.size w1).alloc (Nat.le_refl _) _).frozen (p := ⟨w.heap.size, 1, none⟩) (by simp; omega)).trans f1)
 rw [World.size_alloc] at hs ⊢
 have HS := zH hs
 have hgl := stM_lt hs
 clear c0 c1 f0 f1 hs h2
 have hgw : w.heap.size < w1.heap.size + 1 := by omega
 generalize w1.heap.size + 1 = g at *
 go_wp2
 refine bodyPost_ret (v := .tuple #[.agg #[.func (.func 118) #[.pointer (some ⟨g, 0, none⟩)] #[], .func (.func 119) #[.pointer (some ⟨g, 0, none⟩)] #[]], .bool true]) ?_ rfl ⟨⟨g, rfl, by omega, stM_kept HS.out (grown_set (grown_set (grown_below (Below.refl _ w2) (some w.heap.size)) 0 _) 1 _) (by omega)⟩, (B2.out.setCell (p := ⟨w.heap.size, 0, none⟩) (Nat.le_refl _) _).setCell (p := ⟨w.heap.size, 1, none⟩) (Nat.le_refl _) _⟩
 rw [results_cell_tmp rfl]
 go_simp
theorem open_3 (w : World) (hk : Kinds w) : Calls Tryz.prog 78 #[.int .i64 3] w fun e w' => (∃ g, e = .returned (.tuple #[.agg #[.func (.func 121) #[.pointer (some ⟨g, 0, none⟩)] #[], .func (.func 122) #[.pointer (some ⟨g, 0, none⟩)] #[]], .bool true]) ∧ w.heap.size ≤ g ∧ L5.StateOf w' g 384 []) ∧ Below w.heap.size w w' := by
 have HK := zH hk
 clear hk
 go_enter Tryz.func78, Tryz.ntmps78
 go_wp2_with fail
 refine (known_yesM 3 (by simp [IsHash]) _ (HK.out.below ((Below.refl _ _).alloc (Nat.le_refl _) _))).mono ?_
 rintro e w1 ⟨rfl, h1⟩
 have hz1 : w.heap.size + 1 ≤ w1.heap.size := by have := h1.size; simpa using this
 have B1 := zH (((Below.refl w.heap.size w).alloc (Nat.le_refl _) (.cells #[.nilFunc, .nilFunc] 98)).trans (h1.mono (by simp)))
 have c0 : w1.cell? ⟨w.heap.size, 0, none⟩ = some .nilFunc := (h1.cell (p := ⟨w.heap.size, 0, none⟩) (by simp)).trans (by simp)
 have c1 : w1.cell? ⟨w.heap.size, 1, none⟩ = some .nilFunc := (h1.cell (p := ⟨w.heap.size, 1, none⟩) (by simp)).trans (by simp)
 have f0 : w1.frozen? ⟨w.heap.size, 0, none⟩ = false := (h1.frozen (p := ⟨w.heap.size, 0, none⟩) (by simp)).trans (by simp)
 have f1 : w1.frozen? ⟨w.heap.size, 1, none⟩ = false := (h1.frozen (p := ⟨w.heap.size, 1, none⟩) (by simp)).trans (by simp)
 unfold kindV
 rw [show mSize 3 = 48 from rfl, show mMark 3 = 2 from rfl]
 clear h1
 go_wp2_with fail
 refine (L5.new384_any _).mono ?_
 rintro e w2 ⟨rfl, hs, h2⟩
 rw [World.size_alloc] at h2
 have hz2 : w1.heap.size + 1 ≤ w2.heap.size := by have := h2.size; simpa using this
 have B2 := zH (B1.out.trans ((((Below.refl w1.heap.size w1).alloc (Nat.le_refl _) _).trans (h2.mono (by simp))).mono (by omega)))
 have c0' : w2.cell? ⟨w.heap.size, 0, none⟩ = some .nilFunc := (h2.cell (p := ⟨w.heap.size, 0, none⟩) (by simp; omega)).trans ((((Below.refl w1.heap.size w1).alloc (Nat.le_refl _) _).cell (p := ⟨w.heap.size, 0, none⟩) (by simp; omega)).trans c0)
 have c1' : w2.cell? ⟨w.heap.size, 1, none⟩ = some .nilFunc := (h2.cell (p := ⟨w.heap.size, 1, none⟩) (by simp; omega)).trans ((((Below.refl w1.heap.size w1).alloc (Nat.le_refl _) _).cell (p := ⟨w.heap.size, 1, none⟩) (by simp; omega)).trans c1)
 have f0' : w2.frozen? ⟨w.heap.size, 0, none⟩ = false := (h2.frozen (p := ⟨w.heap.size, 0, none⟩) (by simp; omega)).trans ((((Below.refl w1.heap.size w1).alloc (Nat.le_refl _) _).frozen (p := ⟨w.heap.size, 0, none⟩) (by simp; omega)).trans f0)
 have f1' : w2.frozen? ⟨w.heap.size, 1, none⟩ = false := (h2.frozen (p := ⟨w.heap.size, 1, none⟩) (by simp; omega)).trans ((((Below.refl w1.heap.size w1).alloc (Nat.le_refl _) _).frozen (p := ⟨w.heap.size, 1, none⟩) (by simp; omega)).trans f1)
 rw [World.size_alloc] at hs ⊢
 have HS := zH hs
 have hgl := L5.stM_lt hs
 clear c0 c1 f0 f1 hs h2
 have hgw : w.heap.size < w1.heap.size + 1 := by omega
 generalize w1.heap.size + 1 = g at *
 go_wp2
 refine bodyPost_ret (v := .tuple #[.agg #[.func (.func 121) #[.pointer (some ⟨g, 0, none⟩)] #[], .func (.func 122) #[.pointer (some ⟨g, 0, none⟩)] #[]], .bool true]) ?_ rfl ⟨⟨g, rfl, by omega, L5.stM_kept HS.out (grown_set (grown_set (grown_below (Below.refl _ w2) (some w.heap.size)) 0 _) 1 _) (by omega)⟩, (B2.out.setCell (p := ⟨w.heap.size, 0, none⟩) (Nat.le_refl _) _).setCell (p := ⟨w.heap.size, 1, none⟩) (Nat.le_refl _) _⟩
 rw [results_cell_tmp rfl]
 go_simp
theorem open_4 (w : World) (hk : Kinds w) : Calls Tryz.prog 78 #[.int .i64 4] w fun e w' => (∃ g, e = .returned (.tuple #[.agg #[.func (.func 121) #[.pointer (some ⟨g, 0, none⟩)] #[], .func (.func 122) #[.pointer (some ⟨g, 0, none⟩)] #[]], .bool true]) ∧ w.heap.size ≤ g ∧ L5.StateOf w' g 512 []) ∧ Below w.heap.size w w' := by
 have HK := zH hk
 clear hk
 go_enter Tryz.func78, Tryz.ntmps78
 go_wp2_with fail
 refine (known_yesM 4 (by simp [IsHash]) _ (HK.out.below ((Below.refl _ _).alloc (Nat.le_refl _) _))).mono ?_
 rintro e w1 ⟨rfl, h1⟩
 have hz1 : w.heap.size + 1 ≤ w1.heap.size := by have := h1.size; simpa using this
 have B1 := zH (((Below.refl w.heap.size w).alloc (Nat.le_refl _) (.cells #[.nilFunc, .nilFunc] 98)).trans (h1.mono (by simp)))
 have c0 : w1.cell? ⟨w.heap.size, 0, none⟩ = some .nilFunc := (h1.cell (p := ⟨w.heap.size, 0, none⟩) (by simp)).trans (by simp)
 have c1 : w1.cell? ⟨w.heap.size, 1, none⟩ = some .nilFunc := (h1.cell (p := ⟨w.heap.size, 1, none⟩) (by simp)).trans (by simp)
 have f0 : w1.frozen? ⟨w.heap.size, 0, none⟩ = false := (h1.frozen (p := ⟨w.heap.size, 0, none⟩) (by simp)).trans (by simp)
 have f1 : w1.frozen? ⟨w.heap.size, 1, none⟩ = false := (h1.frozen (p := ⟨w.heap.size, 1, none⟩) (by simp)).trans (by simp)
 unfold kindV
 rw [show mSize 4 = 64 from rfl, show mMark 4 = 3 from rfl]
 clear h1
 go_wp2_with fail
 refine (L5.new512_any _).mono ?_
 rintro e w2 ⟨rfl, hs, h2⟩
 rw [World.size_alloc] at h2
 have hz2 : w1.heap.size + 1 ≤ w2.heap.size := by have := h2.size; simpa using this
 have B2 := zH (B1.out.trans ((((Below.refl w1.heap.size w1).alloc (Nat.le_refl _) _).trans (h2.mono (by simp))).mono (by omega)))
 have c0' : w2.cell? ⟨w.heap.size, 0, none⟩ = some .nilFunc := (h2.cell (p := ⟨w.heap.size, 0, none⟩) (by simp; omega)).trans ((((Below.refl w1.heap.size w1).alloc (Nat.le_refl _) _).cell (p := ⟨w.heap.size, 0, none⟩) (by simp; omega)).trans c0)
 have c1' : w2.cell? ⟨w.heap.size, 1, none⟩ = some .nilFunc := (h2.cell (p := ⟨w.heap.size, 1, none⟩) (by simp; omega)).trans ((((Below.refl w1.heap.size w1).alloc (Nat.le_refl _) _).cell (p := ⟨w.heap.size, 1, none⟩) (by simp; omega)).trans c1)
 have f0' : w2.frozen? ⟨w.heap.size, 0, none⟩ = false := (h2.frozen (p := ⟨w.heap.size, 0, none⟩) (by simp; omega)).trans ((((Below.refl w1.heap.size w1).alloc (Nat.le_refl _) _).frozen (p := ⟨w.heap.size, 0, none⟩) (by simp; omega)).trans f0)
 have f1' : w2.frozen? ⟨w.heap.size, 1, none⟩ = false := (h2.frozen (p := ⟨w.heap.size, 1, none⟩) (by simp; omega)).trans ((((Below.refl w1.heap.size w1).alloc (Nat.le_refl _) _).frozen (p := ⟨w.heap.size, 1, none⟩) (by simp; omega)).trans f1)
 rw [World.size_alloc] at hs ⊢
 have HS := zH hs
 have hgl := L5.stM_lt hs
 clear c0 c1 f0 f1 hs h2
 have hgw : w.heap.size < w1.heap.size + 1 := by omega
 generalize w1.heap.size + 1 = g at *
 go_wp2
 refine bodyPost_ret (v := .tuple #[.agg #[.func (.func 121) #[.pointer (some ⟨g, 0, none⟩)] #[], .func (.func 122) #[.pointer (some ⟨g, 0, none⟩)] #[]], .bool true]) ?_ rfl ⟨⟨g, rfl, by omega, L5.stM_kept HS.out (grown_set (grown_set (grown_below (Below.refl _ w2) (some w.heap.size)) 0 _) 1 _) (by omega)⟩, (B2.out.setCell (p := ⟨w.heap.size, 0, none⟩) (Nat.le_refl _) _).setCell (p := ⟨w.heap.size, 1, none⟩) (Nat.le_refl _) _⟩
 rw [results_cell_tmp rfl]
 go_simp
end Go.Proofs.YtpefjkndfifceaaGreatDoor
namespace Go.Proofs.YtpefjkndfifceaaGreatDoor
open Go.RowKit Go.Shelf
set_option maxRecDepth 100000
structure RowsM (w : World) (a : Option Addr) (n : Nat) (R : Nat → Option Addr × Nat × Nat × List Nat) : Prop where
 each : ∀ i, i < n → Reads .u8 w (R i).1 (R i).2.1 (R i).2.2.1 (R i).2.2.2 ∧ Byt (R i).2.2.2 ∧ (R i).2.1 ≤ 1048576
 cells : 0 < n → ∃ b off, a = some ⟨b, off, none⟩ ∧ b < w.heap.size ∧ ∀ i, i < n → w.cell? ⟨b, off + i, none⟩ = some (.slice (R i).1 (R i).2.1 (R i).2.2.1)
def flatM (R : Nat → Option Addr × Nat × Nat × List Nat) : Nat → List Nat
 | 0 => []
 | i + 1 => flatM R i ++ (R i).2.2.2
theorem flatM_len {w : World} {a : Option Addr} {n : Nat} {R : Nat → Option Addr × Nat × Nat × List Nat} (h : RowsM w a n R) : ∀ i, i ≤ n → (flatM R i).length ≤ 1048576 * i
 | 0, _ => Nat.zero_le _
 | i + 1, hi => by
  have h1 := flatM_len h i (by omega)
  obtain ⟨h2, -, h3⟩ := h.each i (by omega)
  have h4 := h2.length
  rw [flatM, List.length_append]
  omega
def mHash (h : Nat) (m : List Nat) : List Nat := match h with
 | 1 => hashN 224 m
 | 2 => hashN 256 m
 | 3 => L5.hashN 384 m
 | 4 => L5.hashN 512 m
 | _ => []
theorem open_A (h bt : Nat) (hh : h = 1 ∧ bt = 224 ∨ h = 2 ∧ bt = 256) (w : World) (hk : Kinds w) : Calls Tryz.prog 78 #[.int .i64 (h : Int)] w fun e w' => (∃ g, e = .returned (.tuple #[.agg #[.func (.func 118) #[.pointer (some ⟨g, 0, none⟩)] #[], .func (.func 119) #[.pointer (some ⟨g, 0, none⟩)] #[]], .bool true]) ∧ w.heap.size ≤ g ∧ StateOf w' g bt []) ∧ Below w.heap.size w w' := by
 rcases hh with ⟨rfl, rfl⟩ | ⟨rfl, rfl⟩
 ·exact open_1 w hk
 ·exact open_2 w hk
set_option maxHeartbeats 1000000 in
theorem sum_A (h bt : Nat) (hh : h = 1 ∧ bt = 224 ∨ h = 2 ∧ bt = 256) (a : Option Addr) (n cap : Nat) (R : Nat → Option Addr × Nat × Nat × List Nat) (w : World) (hk : Kinds w) (hR : RowsM w a n R) (hn : n ≤ 1000) :
  Calls Tryz.prog 37 #[.int .i64 (h : Int), .slice a n cap] w fun e w' => (∃ ad c, e = .returned (.tuple #[.slice (some ad) (bt / 8) c, .int .i64 0]) ∧ Reads .u8 w' (some ad) (bt / 8) c (hashN bt (flatM R n)) ∧ w.heap.size ≤ ad.block) ∧ Below w.heap.size w w' := by
 have HR := zH hR
 have HH := zH hh
 have HBT := zH (show bt = 224 ∨ bt = 256 by omega)
 have hbt0 : bt ≠ 0 := by omega
 clear hR hh
 go_enter Tryz.func37, Tryz.ntmps37
 go_wp2_with fail
 refine (open_A h bt HH.out w hk).mono ?_
 rintro e w1 ⟨⟨g, rfl, hg, hs⟩, h1⟩
 have hgl := stM_lt hs
 have HB1 := zH h1
 have HGW := zH hg
 have HS1 := zH (stM_below hs ((Below.refl w1.heap.size w1).alloc (Nat.le_refl _) (.cells #[.func (.func 118) #[.pointer (some ⟨g, 0, none⟩)] #[], .func (.func 119) #[.pointer (some ⟨g, 0, none⟩)] #[]] 98)) hgl)
 have HB2 := zH (h1.alloc h1.size (.cells #[.func (.func 118) #[.pointer (some ⟨g, 0, none⟩)] #[], .func (.func 119) #[.pointer (some ⟨g, 0, none⟩)] #[]] 98))
 have cF0 : (w1.alloc (.cells #[.func (.func 118) #[.pointer (some ⟨g, 0, none⟩)] #[], .func (.func 119) #[.pointer (some ⟨g, 0, none⟩)] #[]] 98)).cell? ⟨w1.heap.size, 0, none⟩ = some (.func (.func 118) #[.pointer (some ⟨g, 0, none⟩)] #[]) := by simp
 have cF1 : (w1.alloc (.cells #[.func (.func 118) #[.pointer (some ⟨g, 0, none⟩)] #[], .func (.func 119) #[.pointer (some ⟨g, 0, none⟩)] #[]] 98)).cell? ⟨w1.heap.size, 1, none⟩ = some (.func (.func 119) #[.pointer (some ⟨g, 0, none⟩)] #[]) := by simp
 have CF0 := zH cF0
 have CF1 := zH cF1
 have hfs : w1.heap.size < (w1.alloc (.cells #[.func (.func 118) #[.pointer (some ⟨g, 0, none⟩)] #[], .func (.func 119) #[.pointer (some ⟨g, 0, none⟩)] #[]] 98)).heap.size := by simp
 clear hs h1 hg cF0 cF1 hk
 go_wp2_with fail
 generalize w1.alloc (.cells #[.func (.func 118) #[.pointer (some ⟨g, 0, none⟩)] #[], .func (.func 119) #[.pointer (some ⟨g, 0, none⟩)] #[]] 98) = w2 at *
 have hz02 := HB2.out.size
 clear HB1
 generalize w1.heap.size = fb at *
 have HG2 := zH (show w2.grownBy w2 (some g) from ⟨rfl, rfl, rfl, Nat.le_refl _, fun _ _ _ => rfl⟩)
 go_loopw [19] (fun iv wq => ∃ i : Nat, iv = .int .i64 (i : Int) ∧ i ≤ n ∧ Hid (StateOf wq g bt (flatM R i) ∧ w2.grownBy wq (some g))) (fun iv _ => n - (intOf iv).toNat)
 case atStart => exact ⟨0, rfl, Nat.zero_le _, HS1.out, HG2.out⟩
 case round =>
  obtain ⟨i, rfl, hi, hI⟩ := hrel
  have HST := zH hI.out.1
  have HG := zH hI.out.2
  have cF0 := (World.cell?_of_block (a := ⟨fb, 0, none⟩) (HG.out.block fb hfs (fun e => by have := Option.some.inj e; omega))).trans CF0.out
  have cF1 := (World.cell?_of_block (a := ⟨fb, 1, none⟩) (HG.out.block fb hfs (fun e => by have := Option.some.inj e; omega))).trans CF1.out
  clear hI
  by_cases hlt : i < n
  ·have tn : decide (i < n) = true := by simp; omega
   obtain ⟨b, off, rfl, hbk, hc⟩ := HR.out.cells (by omega)
   have HBW := zH (HB2.out.grown HG.out HB2.out.size (fun r e => by cases e; exact HGW.out))
   have hci := (World.cell?_of_block (a := ⟨b, off + i, none⟩) (HBW.out.block b hbk)).trans (hc i hlt)
   have he := HR.out.each i hlt
   have HEL := zH (show flatM R (i + 1) = flatM R i ++ (R i).2.2.2 from rfl)
   have HLN := zH (flatM_len HR.out i (by omega))
   obtain ⟨⟨ra, rl, rc, l⟩, hri⟩ : ∃ r, r = R i := ⟨_, rfl⟩
   rw [← hri] at hci he HEL
   dsimp only at hci he HEL
   have HE := zH he
   have hrl := he.2.2
   clear hc he hri
   go_wp2_with fail
   refine (write_any g bt (flatM R i) l ra rl rc wr HST.out hbt0 (HE.out.1.below HBW.out) HE.out.2.1 (by have := HLN.out; omega) (fun hp ad e => by
    subst e
    obtain ⟨b', off', e, hb', -⟩ := HE.out.1.cells hp
    cases e
    have := HGW.out
    exact Nat.ne_of_lt (Nat.lt_of_lt_of_le hb' this))).mono ?_
   rintro e w6 ⟨rfl, hs6, hg6⟩
   rw [← HEL.out] at hs6
   have HS6 := zH hs6
   have HG6 := zH (grown_trans HG.out hg6)
   clear hs6 hg6 hci cF0 cF1
   go_wp2
   go_roundw
   case rel => exact ⟨i + 1, by go_num, by omega, HS6.out, HG6.out⟩
   case measure => simp [intOf] <;> omega
  ·have hin : i = n := by omega
   have tn : decide (i < n) = false := by simp; omega
   have HBW := zH (HB2.out.grown HG.out HB2.out.size (fun r e => by cases e; exact HGW.out))
   subst hin
   clear hlt
   go_wp2_with fail
   refine (sum_any g bt (flatM R i) wr HST.out HBT.out).mono ?_
   rintro e w7 ⟨⟨ad, rfl, h7, h8⟩, h9⟩
   try dsimp only at h7 h8
   have H7 := zH h7
   have HB7 := zH (HBW.out.trans (h9.mono HBW.out.size))
   have had : w.heap.size ≤ ad.block := Nat.le_trans HBW.out.size h8
   clear h7 h8 h9 cF0 cF1
   go_wp2
   go_ret2
   exact ⟨⟨ad, _, rfl, H7.out, had⟩, HB7.out⟩
theorem open_B (h bt : Nat) (hh : h = 3 ∧ bt = 384 ∨ h = 4 ∧ bt = 512) (w : World) (hk : Kinds w) : Calls Tryz.prog 78 #[.int .i64 (h : Int)] w fun e w' => (∃ g, e = .returned (.tuple #[.agg #[.func (.func 121) #[.pointer (some ⟨g, 0, none⟩)] #[], .func (.func 122) #[.pointer (some ⟨g, 0, none⟩)] #[]], .bool true]) ∧ w.heap.size ≤ g ∧ L5.StateOf w' g bt []) ∧ Below w.heap.size w w' := by
 rcases hh with ⟨rfl, rfl⟩ | ⟨rfl, rfl⟩
 ·exact open_3 w hk
 ·exact open_4 w hk
set_option maxHeartbeats 1000000 in
theorem sum_B (h bt : Nat) (hh : h = 3 ∧ bt = 384 ∨ h = 4 ∧ bt = 512) (a : Option Addr) (n cap : Nat) (R : Nat → Option Addr × Nat × Nat × List Nat) (w : World) (hk : Kinds w) (hR : RowsM w a n R) (hn : n ≤ 1000) :
  Calls Tryz.prog 37 #[.int .i64 (h : Int), .slice a n cap] w fun e w' => (∃ ad c, e = .returned (.tuple #[.slice (some ad) (bt / 8) c, .int .i64 0]) ∧ Reads .u8 w' (some ad) (bt / 8) c (L5.hashN bt (flatM R n)) ∧ w.heap.size ≤ ad.block) ∧ Below w.heap.size w w' := by
 have HR := zH hR
 have HH := zH hh
 have HBT := zH (show bt = 384 ∨ bt = 512 by omega)
 have hbt0 : bt ≠ 0 := by omega
 clear hR hh
 go_enter Tryz.func37, Tryz.ntmps37
 go_wp2_with fail
 refine (open_B h bt HH.out w hk).mono ?_
 rintro e w1 ⟨⟨g, rfl, hg, hs⟩, h1⟩
 have hgl := L5.stM_lt hs
 have HB1 := zH h1
 have HGW := zH hg
 have HS1 := zH (L5.stM_below hs ((Below.refl w1.heap.size w1).alloc (Nat.le_refl _) (.cells #[.func (.func 121) #[.pointer (some ⟨g, 0, none⟩)] #[], .func (.func 122) #[.pointer (some ⟨g, 0, none⟩)] #[]] 98)) hgl)
 have HB2 := zH (h1.alloc h1.size (.cells #[.func (.func 121) #[.pointer (some ⟨g, 0, none⟩)] #[], .func (.func 122) #[.pointer (some ⟨g, 0, none⟩)] #[]] 98))
 have cF0 : (w1.alloc (.cells #[.func (.func 121) #[.pointer (some ⟨g, 0, none⟩)] #[], .func (.func 122) #[.pointer (some ⟨g, 0, none⟩)] #[]] 98)).cell? ⟨w1.heap.size, 0, none⟩ = some (.func (.func 121) #[.pointer (some ⟨g, 0, none⟩)] #[]) := by simp
 have cF1 : (w1.alloc (.cells #[.func (.func 121) #[.pointer (some ⟨g, 0, none⟩)] #[], .func (.func 122) #[.pointer (some ⟨g, 0, none⟩)] #[]] 98)).cell? ⟨w1.heap.size, 1, none⟩ = some (.func (.func 122) #[.pointer (some ⟨g, 0, none⟩)] #[]) := by simp
 have CF0 := zH cF0
 have CF1 := zH cF1
 have hfs : w1.heap.size < (w1.alloc (.cells #[.func (.func 121) #[.pointer (some ⟨g, 0, none⟩)] #[], .func (.func 122) #[.pointer (some ⟨g, 0, none⟩)] #[]] 98)).heap.size := by simp
 clear hs h1 hg cF0 cF1 hk
 go_wp2_with fail
 generalize w1.alloc (.cells #[.func (.func 121) #[.pointer (some ⟨g, 0, none⟩)] #[], .func (.func 122) #[.pointer (some ⟨g, 0, none⟩)] #[]] 98) = w2 at *
 have hz02 := HB2.out.size
 clear HB1
 generalize w1.heap.size = fb at *
 have HG2 := zH (show w2.grownBy w2 (some g) from ⟨rfl, rfl, rfl, Nat.le_refl _, fun _ _ _ => rfl⟩)
 go_loopw [19] (fun iv wq => ∃ i : Nat, iv = .int .i64 (i : Int) ∧ i ≤ n ∧ Hid (L5.StateOf wq g bt (flatM R i) ∧ w2.grownBy wq (some g))) (fun iv _ => n - (intOf iv).toNat)
 case atStart => exact ⟨0, rfl, Nat.zero_le _, HS1.out, HG2.out⟩
 case round =>
  obtain ⟨i, rfl, hi, hI⟩ := hrel
  have HST := zH hI.out.1
  have HG := zH hI.out.2
  have cF0 := (World.cell?_of_block (a := ⟨fb, 0, none⟩) (HG.out.block fb hfs (fun e => by have := Option.some.inj e; omega))).trans CF0.out
  have cF1 := (World.cell?_of_block (a := ⟨fb, 1, none⟩) (HG.out.block fb hfs (fun e => by have := Option.some.inj e; omega))).trans CF1.out
  clear hI
  by_cases hlt : i < n
  ·have tn : decide (i < n) = true := by simp; omega
   obtain ⟨b, off, rfl, hbk, hc⟩ := HR.out.cells (by omega)
   have HBW := zH (HB2.out.grown HG.out HB2.out.size (fun r e => by cases e; exact HGW.out))
   have hci := (World.cell?_of_block (a := ⟨b, off + i, none⟩) (HBW.out.block b hbk)).trans (hc i hlt)
   have he := HR.out.each i hlt
   have HEL := zH (show flatM R (i + 1) = flatM R i ++ (R i).2.2.2 from rfl)
   have HLN := zH (flatM_len HR.out i (by omega))
   obtain ⟨⟨ra, rl, rc, l⟩, hri⟩ : ∃ r, r = R i := ⟨_, rfl⟩
   rw [← hri] at hci he HEL
   dsimp only at hci he HEL
   have HE := zH he
   have hrl := he.2.2
   clear hc he hri
   go_wp2_with fail
   refine (L5.write_any g bt (flatM R i) l ra rl rc wr HST.out hbt0 (HE.out.1.below HBW.out) HE.out.2.1 (by have := HLN.out; omega) (fun hp ad e => by
    subst e
    obtain ⟨b', off', e, hb', -⟩ := HE.out.1.cells hp
    cases e
    have := HGW.out
    exact Nat.ne_of_lt (Nat.lt_of_lt_of_le hb' this))).mono ?_
   rintro e w6 ⟨rfl, hs6, hg6⟩
   rw [← HEL.out] at hs6
   have HS6 := zH hs6
   have HG6 := zH (grown_trans HG.out hg6)
   clear hs6 hg6 hci cF0 cF1
   go_wp2
   go_roundw
   case rel => exact ⟨i + 1, by go_num, by omega, HS6.out, HG6.out⟩
   case measure => simp [intOf] <;> omega
  ·have hin : i = n := by omega
   have tn : decide (i < n) = false := by simp; omega
   have HBW := zH (HB2.out.grown HG.out HB2.out.size (fun r e => by cases e; exact HGW.out))
   subst hin
   clear hlt
   go_wp2_with fail
   refine (L5.sum_any g bt (flatM R i) wr HST.out HBT.out).mono ?_
   rintro e w7 ⟨⟨⟨ad, cc⟩, rfl, h7, h8⟩, h9⟩
   try dsimp only at h7 h8
   have H7 := zH h7
   have HB7 := zH (HBW.out.trans (h9.mono HBW.out.size))
   have had : w.heap.size ≤ ad.block := Nat.le_trans HBW.out.size h8
   clear h7 h8 h9 cF0 cF1
   go_wp2
   go_ret2
   exact ⟨⟨ad, _, rfl, H7.out, had⟩, HB7.out⟩
end Go.Proofs.YtpefjkndfifceaaGreatDoor
namespace Go.Proofs.YtpefjkndfifceaaGreatDoor
open Go.RowKit Go.Shelf
set_option maxRecDepth 100000
theorem sum_yes (h : Nat) (hh : IsHash h) (a : Option Addr) (n cap : Nat) (R : Nat → Option Addr × Nat × Nat × List Nat) (w : World) (hk : Kinds w) (hR : RowsM w a n R) (hn : n ≤ 1000) :
  Calls Tryz.prog 37 #[.int .i64 (h : Int), .slice a n cap] w fun e w' => (∃ ad c, e = .returned (.tuple #[.slice (some ad) (mSize h) c, .int .i64 0]) ∧ Reads .u8 w' (some ad) (mSize h) c (mHash h (flatM R n)) ∧ w.heap.size ≤ ad.block) ∧ Below w.heap.size w w' := by
 rcases hh with rfl | rfl | rfl | rfl
 ·exact sum_A 1 224 (.inl ⟨rfl, rfl⟩) a n cap R w hk hR hn
 ·exact sum_A 2 256 (.inr ⟨rfl, rfl⟩) a n cap R w hk hR hn
 ·exact sum_B 3 384 (.inl ⟨rfl, rfl⟩) a n cap R w hk hR hn
 ·exact sum_B 4 512 (.inr ⟨rfl, rfl⟩) a n cap R w hk hR hn
theorem mHash_byt {h : Nat} (hh : IsHash h) (m : List Nat) : Byt (mHash h m) := by
 rcases hh with rfl | rfl | rfl | rfl
 ·exact hashN_lt 224 m
 ·exact hashN_lt 256 m
 ·exact L5.hashN_lt 384 m
 ·exact L5.hashN_lt 512 m
end Go.Proofs.YtpefjkndfifceaaGreatDoor
namespace Go.Proofs.YtpefjkndfifceaaGreatDoor
open Go.RowKit Go.Shelf
set_option maxRecDepth 100000
def eqS (h : Nat) (s : ByteArray) : Bool := (strOf (mName h)).toList == s.toList
def mNamed (s : ByteArray) : Int := if eqS 1 s = true then 1 else if eqS 2 s = true then 2 else if eqS 3 s = true then 3 else if eqS 4 s = true then 4 else 0
end Go.Proofs.YtpefjkndfifceaaGreatDoor
namespace Go.Proofs.YtpefjkndfifceaaGreatDoor
open Go.RowKit Go.Shelf
theorem cellM {W : World} {g i : Nat} {cs : Array Value} {E : TypeId} {fz : Nat × Nat} (h : W.heap[g]? = some (.cells cs E fz)) : W.cell? ⟨g, i, none⟩ = cs[i]? := by
 simp [World.cell?, h]
def abcR (s : Nat) : Nat → Option Addr × Nat × Nat × List Nat
 | 0 => (some ⟨s, 0, none⟩, 1, 1, [97])
 | 1 => (none, 0, 0, [])
 | _ => (some ⟨s + 1, 0, none⟩, 2, 2, [98, 99])
end Go.Proofs.YtpefjkndfifceaaGreatDoor
namespace Go.Proofs.YtpefjkndfifceaaGreatDoor
open Go.RowKit Go.Shelf
theorem rows_alloc (W0 W : World) (cs : Array Value) (n : Nat) (R : Nat → Option Addr × Nat × Nat × List Nat) {E : TypeId} (hb : Below W0.heap.size W0 W) (hr : ∀ i, i < n → Reads .u8 W0 (R i).1 (R i).2.1 (R i).2.2.1 (R i).2.2.2 ∧ Byt (R i).2.2.2 ∧ (R i).2.1 ≤ 1048576)
  (hc : ∀ i, i < n → cs[i]? = some (.slice (R i).1 (R i).2.1 (R i).2.2.1)) : RowsM (W.alloc (.cells cs E)) (some ⟨W.heap.size, 0, none⟩) n R :=
 ⟨fun i hi => ⟨((hr i hi).1.below hb).below ((Below.refl _ _).alloc (Nat.le_refl _) _), (hr i hi).2⟩, fun _ => ⟨_, 0, rfl, by simp, fun i hi => by
  rw [Nat.zero_add, cellM (World.alloc_heap_new W _)]
  exact hc i hi⟩⟩
end Go.Proofs.YtpefjkndfifceaaGreatDoor
namespace Go.Proofs.YtpefjkndfifceaaGreatDoor
open Go.RowKit
def SeqM {α : Type} (R : Nat → Prop) (F : Fence) (n : Nat) (P : Program) (g : Nat) (lb : Array Value) (encs : α → Array Value) (Gd : List α → α → World → Prop) (N : Nat) (w : World) : Prop :=
 ∀ (l : Nat) (J Jx : List α → World → Prop) (W : World), Below w.heap.size w W → (∀ s X X', J s X → X.grownBy X' none → J s X') →
  (∀ s X X', Jx s X → X.grownBy X' none → Jx s X') → (∀ pre X, J pre X → pre.length < N) →
  (∀ pre x X, J pre X → Gd pre x X → YieldAt F (n - 1) P l (encs x) X fun e X' => (e = .returned (.bool true) ∧ J (pre ++ [x]) X' ∧ KpR R X X') ∨ (e = .returned (.bool false) ∧ Jx (pre ++ [x]) X')) →
  J [] W → CallsIn F n P g (#[.func (.yield l) #[] #[]] ++ lb) W fun e X => (∃ v, e = .returned v) ∧ ∃ pre, Jx pre X
def StaysW {β : Type} (B : Nat) (J : β → World → Prop) : Prop := ∀ s W W' row, J s W → W.grownBy W' row → (∀ r, row = some r → B ≤ r ∧ ∃ o : Obj, W.heap[r]? = some o ∧ o.isCells = false) → J s W'
set_option maxHeartbeats 1000000 in
theorem wpIn_rangeM {α : Type} {F : Fence} {n : Nat} {P : Program} {R : Nat → Prop} {g : Operand} {ps : Array Tmp} {assign body : Code} {Q : Exit → Act → World → Prop} {a : Act} {w : World}
  (hro : F.round = none) (h1 : 1 ≤ n) {gf : Nat} {lb : Array Value} (hg : a.eval g = .func (.func gf) #[] lb) (hFg : F.fn gf) (eg : ∀ args w, (callFunc gf args).run P w = .ok (.enter gf args) w)
  {encs : α → Array Value} {Gd : List α → α → World → Prop} {N : Nat} {w0 : World} (hseq : SeqM R F (n - 1) P gf lb encs Gd N w0) (hRl : ∀ k, R k → k < w.heap.size) (hb0 : Below w0.heap.size w0 w) (hps : ∀ x, (encs x).size = ps.size)
  (I : List α → World → Prop) (Ix : Code → List α → World → Prop) (hI : StaysW w.heap.size I) (hIx : ∀ c, StaysW w.heap.size (Ix c)) (hGd : StaysW w.heap.size (fun (s : List α × α) W => Gd s.1 s.2 W)) (hN : ∀ pre W, I pre W → pre.length < N) (h0 : I [] w) (a₁ : α → Act)
  (hassign : ∀ (l : Nat) (x : α) (W : World) (K : Act → World → Prop), K (a₁ x) W →
   assign.wpIn (F.inRound l) (n - 1 - 1) P (Exit.then K (fun _ _ _ => False)) { tmps := (ps.zip (encs x)).foldl (fun t (p, v) => t.setIfInBounds p v) a.tmps, defers := [] } W)
  (hbody : ∀ (l : Nat) (pre : List α) (x : α) (W : World), I pre W → Gd pre x W → body.wpIn (F.inRound l) (n - 1 - 1) P (ownPostG w.heap.size (KpR R) I Ix (pre ++ [x]) W) (a₁ x) W)
  (hstop : ∀ (D : Nat) (c : Code) (pre : List α) (W : World), w.heap.size ≤ D → Ix c pre W → W.heap[D]? = some (.deferred (some [])) → c.wpIn F n P Q { a with defers := { target := .collected D, args := #[] } :: a.defers } W) :
  (Code.rangeFunc g ps assign body).wpIn F n P Q a w := by
 refine wpIn_rangeFunc fun fn hfn => ?_
 rw [hro]
 generalize hB : w.heap.size = B at *
 obtain ⟨rc, hrc⟩ : ∃ rc : LoopState → Option Code → Loop, rc = fun st pe => { state := st, pending := pe, fn, tmps := a.tmps, params := ps, assign, body, defers := B } := ⟨_, rfl⟩
 obtain ⟨W1, hW1⟩ : ∃ W1, (w.alloc (.deferred (some []))).alloc (.loop (rc .ready none)) = W1 := ⟨_, rfl⟩
 have bel1 : Below B w W1 := by rw [← hW1]; exact ((Below.refl _ w).alloc (Nat.le_of_eq hB.symm) _).alloc (by simp; omega) _
 have hD1 : W1.heap[B]? = some (.deferred (some [])) := by
  rw [← hW1]
  refine (Below.heap_alloc _ _ _ (by simp; omega)).trans ?_
  have := World.alloc_heap_new w (.deferred (some []))
  rwa [hB] at this
 have hL1 : W1.heap[B + 1]? = some (.loop (rc .ready none)) := by
  have := World.alloc_heap_new (w.alloc (.deferred (some []))) (.loop (rc .ready none))
  rwa [World.size_alloc, hB, hW1] at this
 have hz1 : W1.heap.size = B + 2 := by rw [← hW1]; simp; omega
 have hi1 : I [] W1 := by
  rw [← hW1]
  exact hI _ _ _ none (hI _ _ _ none h0 (World.grownBy_alloc w _ none) (fun r e => by cases e)) (World.grownBy_alloc _ _ none) (fun r e => by cases e)
 have put : ∀ {β : Type} {G : β → World → Prop} (_ : StaysW B G) {s : β} {W : World} {r : Loop} (o : Obj), G s W → W.heap[B + 1]? = some (.loop r) → G s (W.putObj (B + 1) o) := fun hG s W r o hs hl =>
  hG s W _ (some (B + 1)) hs (grownBy_putObj' W (B + 1) o) (fun k e => by cases e; exact ⟨by omega, _, hl, rfl⟩)
 refine ⟨B + 1, [{ target := .collected B, args := #[] }], W1, { target := .fn (.func gf) lb, args := #[.func (.yield (B + 1)) #[] #[]] }, W1, gf, #[.func (.yield (B + 1)) #[] #[]] ++ lb, W1, ?_, by simp only [resolve, hg]; simp [go_sem], ?_, by simp [invoke, go_sem, eg], fun _ => h1, ?_⟩
 ·rw [← hW1, hrc, ← hB]
  exact run_enterLoop_outer _ _ _ _ _
 ·intro f' hf'
  simp [Target.leads] at hf'
  subst hf'
  exact hFg
 have stay : ∀ {G : List α → World → Prop} (_ : StaysW B G) (ro : Loop) (s : List α) (X X' : World), (G s X ∧ X.heap[B + 1]? = some (.loop ro) ∧ X.heap[B]? = some (.deferred (some []))) → X.grownBy X' none → G s X' ∧ X'.heap[B + 1]? = some (.loop ro) ∧ X'.heap[B]? = some (.deferred (some [])) := fun hG ro s X X' h hgr =>
  ⟨hG s X X' none h.1 hgr (fun r e => by cases e), (hgr.block _ (Array.getElem?_eq_some_iff.1 h.2.1).1 (fun e => by cases e)).trans h.2.1, (hgr.block _ (Array.getElem?_eq_some_iff.1 h.2.2).1 (fun e => by cases e)).trans h.2.2⟩
 refine (hseq (B + 1) (fun s X => I s X ∧ X.heap[B + 1]? = some (.loop (rc .ready none)) ∧ X.heap[B]? = some (.deferred (some [])))
  (fun s X => ∃ c, Ix c s X ∧ X.heap[B + 1]? = some (.loop (rc .done (some c))) ∧ X.heap[B]? = some (.deferred (some []))) W1 (hb0.trans (bel1.mono (by rw [← hB]; exact hb0.size)))
  (fun s X X' h hgr => stay hI _ s X X' h hgr) (fun s X X' ⟨c, h⟩ hgr => ⟨c, stay (hIx c) _ s X X' h hgr⟩) (fun pre X h => hN pre X h.1) ?_ ⟨hi1, hL1, hD1⟩).mono ?_
 ·rintro pre x X ⟨hi, hl, hd⟩ hgd
  have hlt : B + 1 < X.heap.size := (Array.getElem?_eq_some_iff.1 hl).1
  have hy := run_yield (P := P) (args := encs x) hl (by rw [hrc]; exact hps x)
  rw [hrc] at hy
  refine ⟨fn, _, assign, body, hy, roundIn_of_wpIn hfn (hassign _ x X _ ⟨_, run_beginRound hl (by rw [hrc]), wpIn_mono (hbody _ pre x _ (put hI _ hi hl) (put hGd (s := (pre, x)) _ hgd hl)) ?_⟩)⟩
  obtain ⟨X2, hX2⟩ : ∃ X2, X.putObj (B + 1) (.loop { rc .ready none with state := .busy }) = X2 := ⟨_, rfl⟩
  rw [hX2]
  have hl2 : X2.heap[B + 1]? = some (.loop { rc .ready none with state := .busy }) := by rw [← hX2]; exact World.putObj_heap_same hlt
  have hd2 : X2.heap[B]? = some (.deferred (some [])) := by rw [← hX2]; exact (World.putObj_heap_other (by omega)).trans hd
  have kp2 : KpR R X X2 := by rw [← hX2]; exact KpR.put X _ _ (fun h => by have := hRl _ h; omega)
  have last : ∀ (j : Option Code) (X3 : World), KeepsFrom B X2 X3 → (Instr.endRound (B + 1) j).run P X3 = .ok (.bool j.isNone) (X3.putObj (B + 1) (.loop (rc (if j.isNone then .ready else .done) j))) ∧ X3.heap[B + 1]? = some (.loop { rc .ready none with state := .busy }) ∧ (X3.putObj (B + 1) (.loop (rc (if j.isNone then .ready else .done) j))).heap[B + 1]? = some (.loop (rc (if j.isNone then .ready else .done) j)) ∧ (X3.putObj (B + 1) (.loop (rc (if j.isNone then .ready else .done) j))).heap[B]? = some (.deferred (some [])) := fun j X3 hk => by
   have hl3 := hk.same _ _ (by omega) hl2 rfl
   have hr := run_endRound (P := P) j hl3
   rw [hrc] at hr hl3 ⊢
   exact ⟨hr, hl3, World.putObj_heap_same (Array.getElem?_eq_some_iff.1 hl3).1, (World.putObj_heap_other (by omega)).trans (hk.same _ _ (Nat.le_refl _) hd2 rfl)⟩
  rintro e a3 X3 hp
  cases e with
  | normal =>
   obtain ⟨hk, kp3, hi3⟩ := hp
   obtain ⟨hr, hl3, hl4, hd4⟩ := last none X3 hk
   exact ⟨_, _, hr, .inl ⟨rfl, ⟨put hI _ hi3 hl3, hl4, hd4⟩, (kp2.trans kp3).trans (KpR.put X3 _ _ (fun h => by have := hRl _ h; omega))⟩⟩
  | ret =>
   obtain ⟨hr, hl3, hl4, hd4⟩ := last (some .ret) X3 hp.1
   exact ⟨_, _, hr, .inr ⟨rfl, .ret, put (hIx _) _ hp.2 hl3, hl4, hd4⟩⟩
  | exit id =>
   obtain ⟨hr, hl3, hl4, hd4⟩ := last (some (.exit id)) X3 hp.1
   exact ⟨_, _, hr, .inr ⟨rfl, .exit id, put (hIx _) _ hp.2 hl3, hl4, hd4⟩⟩
  | goto t =>
   obtain ⟨hr, hl3, hl4, hd4⟩ := last (some (.goto t)) X3 hp.1
   exact ⟨_, _, hr, .inr ⟨rfl, .goto t, put (hIx _) _ hp.2 hl3, hl4, hd4⟩⟩
  | panic ch => exact hp.elim
  | outgrown => exact hp.elim
 ·rintro e X2 ⟨⟨v, rfl⟩, pre, c, hi, hl, hd⟩
  refine ⟨some c, X2.putObj (B + 1) (.loop { rc .done (some c) with state := .exhausted }), ?_, hstop _ c pre _ (Nat.le_refl _) (put (hIx c) _ hi hl) ((World.putObj_heap_other (by omega)).trans hd)⟩
  have := run_endLoop (P := P) hl (by rw [hrc]; simp)
  rw [hrc] at this ⊢
  exact this
end Go.Proofs.YtpefjkndfifceaaGreatDoor
namespace Go.Proofs.YtpefjkndfifceaaGreatDoor
open Go.RowKit Go.Shelf
set_option maxRecDepth 100000
def be4 (k : Nat) : List Nat := [0, 0, k / 256, k % 256]
theorem be4_byt {k : Nat} (h : k < 65536) : Byt (be4 k) := fun x hx => by
 simp only [be4, List.mem_cons, List.not_mem_nil, or_false] at hx
 omega
def pieceN (h : Nat) (seed : List Nat) (k : Nat) : List Nat := mHash h (seed ++ be4 k)
theorem Reads.same {q : IntKind} {w w' : World} {B : Nat} {a : Option Addr} {n c : Nat} {l : List Nat} (h : Reads q w a n c l) (hb : ∀ k, k < B → w'.heap[k]? = w.heap[k]?) (hs : w.heap.size ≤ w'.heap.size) (ha : 0 < n → ∀ x, a = some x → x.block < B) : Reads q w' a n c l :=
 ⟨h.length, h.le, h.max, h.nil, fun hp => by
  obtain ⟨b, off, rfl, hlt, hc⟩ := h.cells hp
  exact ⟨b, off, rfl, Nat.lt_of_lt_of_le hlt hs, fun i hi => (World.cell?_of_block (a := ⟨b, off + i, .none⟩) (hb b (ha hp _ rfl))).trans (hc i hi)⟩⟩
theorem Kinds.same {w w' : World} (h : Kinds w) (hb : w'.heap[0]? = w.heap[0]?) : Kinds w' := fun i hi => (World.cell?_of_block (a := ⟨0, i, none⟩) hb).trans (h i hi)
theorem pieces_m (w : World) (h : Int) (a : Option Addr) (n c : Nat) : Calls Tryz.prog 191 #[.int .i64 h, .slice a n c] w fun e w' => e = .returned (.func (.func 208) #[] #[.pointer (some ⟨w.heap.size, 0, none⟩), .pointer (some ⟨w.heap.size + 1, 0, none⟩)]) ∧ w' = (w.alloc (.cells #[.int .i64 h] 26)).alloc (.cells #[.slice a n c] 22) := by
 go_enter Tryz.func191, Tryz.ntmps191
 go_wp2
 go_ret
 exact ⟨rfl, rfl⟩
def sdR (a : Option Addr) (ls cs : Nat) (seed : List Nat) (s k : Nat) : Nat → Option Addr × Nat × Nat × List Nat
 | 0 => (a, ls, cs, seed)
 | _ => (some ⟨s, 0, none⟩, 4, 4, be4 k)
def GdP (h : Nat) (seed : List Nat) (pre : List (Addr × Nat)) (x : Addr × Nat) (X : World) : Prop := Reads .u8 X (some x.1) (mSize h) x.2 (pieceN h seed pre.length)
set_option maxHeartbeats 4000000 in
theorem pieces_come_m (n : Nat) (hn : 1 ≤ n) (h : Nat) (hh : IsHash h) (a : Option Addr) (ls cs : Nat) (seed : List Nat) (N B bh bs : Nat) (hN : N ≤ 60000) (w : World) (hk : Kinds w) (hGB : 0 < B) (hr : Reads .u8 w a ls cs seed) (hsb : Byt seed) (hls : ls ≤ 1048000) (hab : 0 < ls → ∀ x, a = some x → x.block < B)
  (hbh : Boxed w bh 26 (.int .i64 (h : Int))) (hbs : Boxed w bs 22 (.slice a ls cs)) (hBw : B ≤ w.heap.size) :
  SeqM (fun k => k < B ∨ k = bh ∨ k = bs) Fence.wide n Tryz.prog 208 #[.pointer (some ⟨bh, 0, none⟩), .pointer (some ⟨bs, 0, none⟩)] (fun x : Addr × Nat => #[.slice (some x.1) (mSize h) x.2]) (GdP h seed) N w := fun lp J Jx W hbel hJ hJx hJN hY h0 => by
 have HJ := zH hJ
 have HJN := zH hJN
 have HH := zH hh
 have HY := zH hY
 have HJ0 := zH h0
 have HKW := zH (hk.below hbel)
 have HRW := zH (hr.below hbel)
 have HBH := zH (show Boxed W bh 26 (.int .i64 (h : Int)) from (hbel.block bh hbh.lt).trans hbh)
 have HBS := zH (show Boxed W bs 22 (.slice a ls cs) from (hbel.block bs hbs.lt).trans hbs)
 have HSB := zH hsb
 have HAB := zH hab
 have hBW : B ≤ W.heap.size := Nat.le_trans hBw hbel.size
 have hhW : bh < W.heap.size := HBH.out.lt
 have hsW : bs < W.heap.size := HBS.out.lt
 have hh4 := isHash_lt hh
 have HKP := zH (KpR.refl (fun k => k < B ∨ k = bh ∨ k = bs) W)
 clear hJ hJN hh hY h0 hk hr hbh hbs hsb hab hbel
 refine callsIn_of_wp Tryz.func208 rfl trivial ?_ rfl
 simp only [Tryz.ntmps208, List.size_toArray, List.length_cons, List.length_nil, Nat.reduceAdd, Nat.reduceSub, Array.replicate_succ, Array.replicate_zero, List.push_toArray, List.append_toArray, List.nil_append, List.cons_append]
 gi_wp2_with fail
 gi_loopw [4] (fun nv wr => ∃ k : Nat, nv = .int .u32 (k : Int) ∧ Hid (∃ pre, pre.length = k ∧ J pre wr ∧ KpR (fun k => k < B ∨ k = bh ∨ k = bs) W wr)) (fun nv _ => N - (intOf nv).toNat)
 case atStart => exact ⟨0, rfl, [], rfl, HJ0.out, HKP.out⟩
 case round =>
  obtain ⟨k, rfl, hI⟩ := hrel
  obtain ⟨pre, hpl, hj, hkp⟩ := hI.out
  have hkN : k < N := by rw [← hpl]; exact HJN.out _ _ hj
  have HJ1 := zH hj
  have HP1 := zH hkp
  have HPL := zH hpl
  have BH := (show Boxed wr bh 26 (.int .i64 (h : Int)) from (hkp.2 bh (.inr (.inl rfl))).trans HBH.out)
  have BS := (show Boxed wr bs 22 (.slice a ls cs) from (hkp.2 bs (.inr (.inr rfl))).trans HBS.out)
  have HKR := zH (HKW.out.same (hkp.2 _ (.inl hGB)))
  have HRR := zH (HRW.out.same (B := B) (fun z hz => hkp.2 z (.inl hz)) hkp.1 HAB.out)
  have cH := BH.cell
  have cS := BS.cell
  have s24 : (k : Int) / 16777216 = 0 := by omega
  have s16 : (k : Int) / 65536 = 0 := by omega
  obtain ⟨q, hq⟩ : ∃ q, q = k / 256 := ⟨_, rfl⟩
  obtain ⟨r, hr⟩ : ∃ r, r = k % 256 := ⟨_, rfl⟩
  have s8 : (k : Int) / 256 = (q : Int) := by omega
  have hq256 : q < 256 := by omega
  have w8 : IntKind.u8.wrap (q : Int) = (q : Int) := by rw [IntKind.wrap_u8]; omega
  have w0 : IntKind.u8.wrap (k : Int) = (r : Int) := by rw [IntKind.wrap_u8]; omega
  have HBE := zH (show be4 k = [0, 0, q, r] by rw [hq, hr]; rfl)
  clear hI hpl hj hkp BH BS hq hr
  have hN2 : k < 65536 := by omega
  have HRW2 := zH (show ∀ z, z < 2 → Reads .u8 (wr.alloc (.cells #[.int .u8 0, .int .u8 0, .int .u8 (q : Int), .int .u8 (r : Int)] 5)) (sdR a ls cs seed wr.heap.size k z).1 (sdR a ls cs seed wr.heap.size k z).2.1 (sdR a ls cs seed wr.heap.size k z).2.2.1 (sdR a ls cs seed wr.heap.size k z).2.2.2 ∧ Byt (sdR a ls cs seed wr.heap.size k z).2.2.2 ∧ (sdR a ls cs seed wr.heap.size k z).2.1 ≤ 1048576 from fun z hz => by
   rcases (show z = 0 ∨ z = 1 by omega) with rfl | rfl
   ·exact ⟨HRR.out.below ((Below.refl _ _).alloc (Nat.le_refl _) _), HSB.out, by show ls ≤ 1048576; omega⟩
   ·refine ⟨Reads.litM .u8 wr 5 (be4 k) _ 4 (by rw [HBE.out]; simp [num]) rfl (by rw [HBE.out]; unfold maxLen; simp), be4_byt hN2, (by decide : 4 ≤ 1048576)⟩)
  gi_wp2_with fail
  refine ⟨trivial, ?_⟩
  have hrows := rows_alloc (E := 22) (wr.alloc (.cells #[.int .u8 0, .int .u8 0, .int .u8 (q : Int), .int .u8 (r : Int)] 5)) (wr.alloc (.cells #[.int .u8 0, .int .u8 0, .int .u8 (q : Int), .int .u8 (r : Int)] 5)) #[.slice a ls cs, .slice (some ⟨wr.heap.size, 0, none⟩) 4 4] 2 (sdR a ls cs seed wr.heap.size k) (Below.refl _ _) HRW2.out (fun z hz => by rcases (show z = 0 ∨ z = 1 by omega) with rfl | rfl <;> rfl)
  rw [World.size_alloc] at hrows
  refine (callsIn_wide.2 (sum_yes h HH.out (some ⟨wr.heap.size + 1, 0, none⟩) 2 2 (sdR a ls cs seed wr.heap.size k) _ (HKR.out.below (((Below.refl _ _).alloc (Nat.le_refl _) _).alloc (by simp) _)) hrows (by decide))).mono ?_
  rintro e w1 ⟨⟨ad, c, rfl, h1, h2⟩, h3⟩
  have hb1 : Below wr.heap.size wr w1 := (((Below.refl wr.heap.size wr).alloc (Nat.le_refl _) _).alloc (by simp) _).trans (h3.mono (by simp; omega))
  have J1 := HJ.out _ _ _ HJ1.out (grown_below hb1 none)
  have hgd : GdP h seed pre (ad, c) w1 := by
   show Reads .u8 w1 (some ad) (mSize h) c (mHash h (seed ++ be4 pre.length))
   rw [HPL.out]
   exact h1
  have HP2 := zH (HP1.out.trans (KpR.grown (R := fun k => k < B ∨ k = bh ∨ k = bs) (grown_below hb1 none) (fun z hz => by have := HP1.out.1; rcases hz with hz | rfl | rfl <;> omega) (fun r e => by cases e)))
  obtain ⟨fn, tmps, assign, body, hy, hR⟩ := HY.out pre (ad, c) w1 J1 hgd
  have HR := zH hR
  clear hrows h1 h2 h3 hb1 J1 hgd hR cH cS
  gi_wp2_with fail
  refine HR.out.mono ?_
  rintro e W3 (⟨rfl, hJ3, hk3⟩ | ⟨rfl, hx3⟩)
  ·have J3 := zH hJ3
   have HP3 := zH (HP2.out.trans hk3)
   clear hJ3 hk3
   gi_wp2
   go_roundw
   case rel => exact ⟨k + 1, by go_num, pre ++ [(ad, c)], by rw [List.length_append, HPL.out]; rfl, J3.out, HP3.out⟩
   case measure => simp [intOf]; omega
  ·have HX3 := zH hx3
   clear hx3
   gi_wp2
   refine bodyPost_ret (results_none rfl _ _ _) rfl ?_
   exact ⟨⟨_, rfl⟩, _, HX3.out⟩
end Go.Proofs.YtpefjkndfifceaaGreatDoor
namespace Go.Proofs.YtpefjkndfifceaaGreatDoor
open Go.RowKit Go.Shelf
set_option maxRecDepth 100000
attribute [local go_sem] Oper.semAt_some
def maskAll (h : Nat) (seed : List Nat) : Nat → List Nat
 | 0 => []
 | k + 1 => maskAll h seed k ++ pieceN h seed k
def maskN (h : Nat) (seed : List Nat) (size : Nat) : List Nat := (maskAll h seed size).take size
theorem mHash_len {h : Nat} (hh : IsHash h) (m : List Nat) : (mHash h m).length = mSize h := by
 rcases hh with rfl | rfl | rfl | rfl
 ·exact hashN_len m (.inl rfl)
 ·exact hashN_len m (.inr rfl)
 ·exact L5.hashN_len m (.inl rfl)
 ·exact L5.hashN_len m (.inr rfl)
theorem maskAll_len {h : Nat} (hh : IsHash h) (seed : List Nat) (k : Nat) : (maskAll h seed k).length = k * mSize h := by
 induction k with
 | zero => simp [maskAll]
 | succ k ih => rw [maskAll, List.length_append, ih, pieceN, mHash_len hh, Nat.succ_mul]
theorem maskAll_byt {h : Nat} (hh : IsHash h) (seed : List Nat) (k : Nat) : Byt (maskAll h seed k) := by
 induction k with
 | zero => intro x hx; cases hx
 | succ k ih => exact fun x hx => (List.mem_append.1 hx).elim (ih x) (mHash_byt hh _ x)
theorem maskAll_pre (h : Nat) (seed : List Nat) {k m : Nat} (hkm : k ≤ m) : ∃ t, maskAll h seed m = maskAll h seed k ++ t := by
 induction m with
 | zero => exact ⟨[], by rw [show k = 0 by omega, List.append_nil]⟩
 | succ m ih =>
  rcases Nat.lt_or_ge m k with hlt | hge
  ·exact ⟨[], by rw [show k = m + 1 by omega, List.append_nil]⟩
  ·obtain ⟨t, ht⟩ := ih hge
   exact ⟨t ++ pieceN h seed m, by rw [maskAll, ht, List.append_assoc]⟩
theorem maskAll_take {h : Nat} (hh : IsHash h) (seed : List Nat) {k m s : Nat} (hk : s ≤ k * mSize h) (hm : s ≤ m * mSize h) : (maskAll h seed k).take s = (maskAll h seed m).take s := by
 rcases Nat.le_total k m with h1 | h1
 ·obtain ⟨t, ht⟩ := maskAll_pre h seed h1
  rw [ht, List.take_append_of_le_length (by rw [maskAll_len hh]; exact hk)]
 ·obtain ⟨t, ht⟩ := maskAll_pre h seed h1
  rw [ht, List.take_append_of_le_length (by rw [maskAll_len hh]; exact hm)]
theorem mask_fill {h : Nat} (hh : IsHash h) (seed : List Nat) {k s : Nat} (hk : k * mSize h ≤ s) (hs : s ≤ k * mSize h + mSize h) : maskAll h seed k ++ (pieceN h seed k).take (s - k * mSize h) = maskN h seed s := by
 have h28 := (mSize_le hh).1
 have e : maskN h seed s = (maskAll h seed (k + 1)).take s := by
  refine maskAll_take hh seed ?_ (by rw [Nat.succ_mul]; omega)
  exact Nat.le_mul_of_pos_right s (by omega)
 rw [e, maskAll, List.take_append, maskAll_len hh]
 congr 1
 exact (List.take_of_length_le (by rw [maskAll_len hh]; exact hk)).symm
theorem OwnQ.keptW {q : IntKind} {E : TypeId} {B : Nat} {W W' : World} {v : Value} {l : List Nat} {row : Option Nat} (h : OwnQ q E B W v l) (hg : W.grownBy W' row) (hr : ∀ r, row = some r → ∃ o : Obj, W.heap[r]? = some o ∧ o.isCells = false) : OwnQ q E B W' v l := by
 obtain ⟨h1, h2⟩ := h
 refine ⟨h1, ?_⟩
 rcases h2 with h2 | ⟨g', cap', cur, e, hB, hh, r⟩
 ·exact .inl h2
 ·exact .inr ⟨g', cap', cur, e, hB, (hg.block g' (Array.getElem?_eq_some_iff.1 hh).1 (fun hc => by
   obtain ⟨o, ho, hoc⟩ := hr g' hc.symm
   rw [hh] at ho
   cases ho
   cases hoc)).trans hh, r⟩
theorem Reads.keptW {q : IntKind} {W W' : World} {a : Option Addr} {n c : Nat} {l : List Nat} {row : Option Nat} (h : Reads q W a n c l) (hg : W.grownBy W' row) (hr : ∀ r, row = some r → ∃ o : Obj, W.heap[r]? = some o ∧ o.isCells = false) : Reads q W' a n c l :=
 ⟨h.length, h.le, h.max, h.nil, fun hp => by
  obtain ⟨b, off, rfl, hlt, hc⟩ := h.cells hp
  refine ⟨b, off, rfl, Nat.lt_of_lt_of_le hlt hg.size, fun i hi => (World.cell?_of_block (a := ⟨b, off + i, .none⟩) (hg.block b hlt (fun e => ?_))).trans (hc i hi)⟩
  obtain ⟨o, ho, hoc⟩ := hr b e.symm
  have h0 := hc 0 hp
  cases o with
  | cells _ _ _ => cases hoc
  | _ => simp [World.cell?, show W.heap[b]? = _ from ho] at h0⟩
theorem appendedM {q : IntKind} {E n₀ : Nat} {W w1 : World} {v : Value} {l : List Nat} (hrow : OwnQ q E n₀ W v l) (hn₀ : n₀ ≤ W.heap.size) (hgrow : W.grownBy w1 v.ownBlock) :
  KeepsOthers W w1 ∧ (∀ w0, Below n₀ w0 W → Below n₀ w0 w1) ∧ (∀ b t u, Boxed W b t u → v.ownBlock ≠ some b → Boxed w1 b t u) := by
 refine ⟨?_, ?_, fun b t u hb hne => hb.kept hgrow (fun e => hne e.symm)⟩
 ·refine KeepsOthers.of_grownBy hgrow fun j o ej hj => ?_
  rcases hrow.2 with ⟨rfl, _⟩ | ⟨g, cap, cur, rfl, _, hgb, _⟩
  ·simp [Value.ownBlock] at ej
  ·obtain rfl : g = j := by simpa [Value.ownBlock] using ej
   rw [hgb] at hj; cases hj; rfl
 ·intro w0 h0
  refine h0.grown hgrow hn₀ fun j ej => ?_
  rcases hrow.2 with ⟨rfl, _⟩ | ⟨g, cap, cur, rfl, hb, _, _⟩
  ·simp [Value.ownBlock] at ej
  ·obtain rfl : g = j := by simpa [Value.ownBlock] using ej
   exact hb
theorem ownBase {q : IntKind} {E B : Nat} {W : World} {v : Value} {l : List Nat} (h : OwnQ q E B W v l) {b : Nat} (hb : v.ownBlock = some b) : B ≤ b ∧ b < W.heap.size := by
 rcases h.2 with ⟨rfl, _⟩ | ⟨g, cap, cur, rfl, hB, hgb, _⟩
 ·simp [Value.ownBlock] at hb
 ·obtain rfl : g = b := by simpa [Value.ownBlock] using hb
  exact ⟨hB, (Array.getElem?_eq_some_iff.1 hgb).1⟩
theorem own_sets {q : IntKind} {E B b i : Nat} {W : World} {v u : Value} {l : List Nat} (h : OwnQ q E B W v l) (hne : v.ownBlock ≠ some b) : OwnQ q E B (W.setCell ⟨b, i, none⟩ u) v l := by
 obtain ⟨h1, h2⟩ := h
 refine ⟨h1, ?_⟩
 rcases h2 with h2 | ⟨g', cap', cur, rfl, hB, hh, r⟩
 ·exact .inl h2
 ·exact .inr ⟨g', cap', cur, rfl, hB, (Below.heap_setCell W ⟨b, i, none⟩ u g' (fun e => hne (by rw [show g' = b from e]; rfl))).trans hh, r⟩
theorem own_ne_box {q : IntKind} {E B b t : Nat} {W : World} {v u : Value} {l : List Nat} (h : OwnQ q E B W v l) (hb : Boxed W b t u) (hne : t ≠ E) : v.ownBlock ≠ some b := by
 rcases h.2 with ⟨rfl, _⟩ | ⟨g, cap, cur, rfl, _, hgb, _⟩
 ·simp [Value.ownBlock]
 ·intro e
  obtain rfl : g = b := by simpa [Value.ownBlock] using e
  rw [show W.heap[g]? = _ from hb] at hgb
  simp only [Option.some.injEq, Obj.cells.injEq] at hgb
  exact hne hgb.2.1
theorem step_append_M {P : Program} (q : IntKind) (w : World) {o : Oper} {a : Act} {K : Act → World → Prop} {Q : Exit → Act → World → Prop} (s x : Operand) (t : TypeId)
  (ho : o.op = .call { callee := .builtin .append, args := #[s, x], argTypes := #[t, t] })
  (B E by' : Nat) (i : TypeInfo) (ht : P.underlying t = some (.slice E)) (hi : P.info? E = some i) (hz : i.zero = some (.int q 0)) (hsize : i.size = 1) (hby : i.bytes = by') (hby8 : by' ≤ 8)
  (v : Value) (l : List Nat) (hs : a.eval s = v) (hown : OwnQ q E B w v l) (ad : Addr) (m c : Nat) (l2 : List Nat) (hx : a.eval x = .slice (some ad) m c) (hb : Reads q w (some ad) m c l2)
  (hsum : l.length + m ≤ 17592186044416) (hbase : B ≤ w.heap.size)
  (h : ∀ v' w', OwnQ q E B w' v' (l ++ l2) → w.grownBy w' v.ownBlock → K (a.put o.dst v') w') : o.wp P a w K Q := by
 have hlen := hb.length
 have hbb : (l.length + m) * by' ≤ 140737488355328 := Nat.le_trans (Nat.mul_le_mul hsum hby8) (by decide)
 refine wp_append_own w s x t ho B E i (.int q 0) 1 by' ht hi hz hsize hby rfl (by decide) v l.length (l.map (num q)) hs hown ad m c (l2.map (num q)) hx (by simpa using hlen) hb.news (nums_oneCell _ _) (by unfold maxLen; omega) hbb hbase ?_
 intro v' w' ho' hg _
 refine h v' w' ?_ hg
 unfold OwnQ
 rw [List.map_append, List.length_append, hlen]
 exact ho'
def MkI (h : Nat) (seed : List Nat) (size bz bM bH : Nat) (w : World) (pre : List (Addr × Nat)) (W : World) : Prop := ∃ v, Boxed W bM 22 v ∧ OwnQ .u8 5 bz W v (maskAll h seed pre.length) ∧ Boxed W bz 3 (.int .i64 (size : Int)) ∧ pre.length * mSize h ≤ size ∧ Below bz w W ∧ (v.ownBlock ≠ some bM ∧ v.ownBlock ≠ some bH ∧ v.ownBlock ≠ some (bH + 1) ∧ v.ownBlock ≠ some bz) ∧ bH + 2 ≤ W.heap.size
def MkX (h : Nat) (seed : List Nat) (size bz bM : Nat) (w : World) (W : World) : Prop := ∃ v, Boxed W bM 22 v ∧ OwnQ .u8 5 bz W v (maskN h seed size) ∧ Below bz w W
set_option maxHeartbeats 4000000 in
theorem mask_yes (h : Nat) (hh : IsHash h) (a : Option Addr) (ls cs : Nat) (seed : List Nat) (size : Nat) (w : World) (hk : Kinds w) (hr : Reads .u8 w a ls cs seed) (hsb : Byt seed) (hls : ls ≤ 1048000) (hs : size ≤ 50000) :
  Calls Tryz.prog 163 #[.int .i64 (h : Int), .slice a ls cs, .int .i64 (size : Int)] w fun e w' => (∃ v, e = .returned (.tuple #[v, .int .i64 0]) ∧ OwnQ .u8 5 w.heap.size w' v (maskN h seed size)) ∧ Below w.heap.size w w' := by
 obtain ⟨i0, hi, hz0, hz1, hz2⟩ := info_parts infoMk
 have HR := zH hr
 have HSB := zH hsb
 have HK := zH hk
 have HH := zH hh
 have hh4 := isHash_lt hh
 have h0w := hk.lt
 have hab := zH (show 0 < ls → ∀ x, a = some x → x.block < w.heap.size from fun hp x e => by
  obtain ⟨b, off, e2, hlt, -⟩ := hr.cells hp
  rw [e2] at e
  cases e
  exact hlt)
 have d1 : decide ((size : Int) < 0) = false := by simp
 have d2 : decide ((65536 : Int) < (size : Int)) = false := by simp; omega
 have BZ0 := zH (Boxed.new w 3 (.int .i64 (size : Int)))
 have HB0 := zH ((Below.refl w.heap.size w).alloc (Nat.le_refl _) (.cells #[.int .i64 (size : Int)] 3))
 have cZ0 := BZ0.out.cell
 clear hr hsb hk hh
 refine (callsIn_wide (n := 3)).1 ?_
 refine callsIn_of_wp_marks Tryz.func163 rfl trivial ?_ rfl
 simp only [Tryz.ntmps163, List.size_toArray, List.length_cons, List.length_nil, Nat.reduceAdd, Nat.reduceSub, Array.replicate_succ, Array.replicate_zero, List.push_toArray, List.append_toArray, List.nil_append, List.cons_append]
 refine wpIn_wide.2 ?_
 go_wp2_with fail
 refine wp_scope_straight ?_
 go_wp2_with fail
 generalize w.alloc (.cells #[.int .i64 (size : Int)] 3) = w0 at *
 obtain ⟨bz, hbz⟩ : ∃ b, b = w.heap.size := ⟨_, rfl⟩
 rw [← hbz] at BZ0 HB0 h0w hab ⊢
 have HBS := zH hbz.symm
 clear hbz
 refine (known_yesM h HH.out w0 (HK.out.below (by rw [HBS.out]; exact HB0.out))).mono ?_
 rintro e w1 ⟨rfl, h1⟩
 have BZ1 := zH (show Boxed w1 bz 3 (.int .i64 (size : Int)) from (h1.block bz BZ0.out.lt).trans BZ0.out)
 have HB1 := zH (HB0.out.trans (h1.mono (by have := HB0.out.size; rw [HBS.out] at this; exact this)))
 have BZ2 := zH (BZ1.out.alloc (.cells #[.string (strOf (mName h)), .int .i64 (mSize h : Int), .int .u8 (mMark h : Int)] 92))
 have cZ2 := BZ2.out.cell
 have hz1w : bz ≤ w1.heap.size := by have := HB1.out.size; rw [HBS.out] at this; exact this
 unfold kindV
 clear h1 cZ0
 go_wp2_with (at_make; refine wpList_make_lcM .u8 _ rfl _ _ 22 rfl bz 5 i0 Tryz.underlying22 hi hz0 hz1 _ _ _ _ 0 size rfl rfl rfl rfl (Nat.zero_le _) (by rw [hz2]; omega) (by unfold maxLen; omega) (by simp; omega) ?_; intro w2 hown hgrow; rw [World.size_alloc] at hown; have HO2 := zH hown; have hgl := (World.ownsRow.lt hown (w1.heap.size + 1) rfl).2; have HB2 := zH ((HB1.out.alloc hz1w _).grown hgrow (by simp; omega) (fun r e => by cases e)); have BZ3 := zH (Boxed.kept BZ2.out hgrow (fun e => by cases e)); clear hown hgrow)
 have hbz1 : bz < w1.heap.size := BZ1.out.lt
 have BM3 := zH (Boxed.new w2 22 (.slice (some ⟨w1.heap.size + 1, 0, none⟩) 0 size))
 have HO3 := zH (HO2.out.alloc (.cells #[.slice (some ⟨w1.heap.size + 1, 0, none⟩) 0 size] 22))
 have BZ4 := zH (BZ3.out.alloc (.cells #[.slice (some ⟨w1.heap.size + 1, 0, none⟩) 0 size] 22))
 have HB3 := zH (HB2.out.alloc (by omega) (.cells #[.slice (some ⟨w1.heap.size + 1, 0, none⟩) 0 size] 22))
 have hz3 : (w2.alloc (.cells #[.slice (some ⟨w1.heap.size + 1, 0, none⟩) 0 size] 22)).heap.size = w2.heap.size + 1 := by simp
 clear cZ2
 generalize w2.alloc (.cells #[.slice (some ⟨w1.heap.size + 1, 0, none⟩) 0 size] 22) = w3 at *
 obtain ⟨gm, hgm⟩ : ∃ g, g = w1.heap.size + 1 := ⟨_, rfl⟩
 obtain ⟨bM, hbM⟩ : ∃ b, b = w2.heap.size := ⟨_, rfl⟩
 rw [← hgm] at BM3 HO3 hgl ⊢
 rw [← hbM] at BM3 hz3 hgl ⊢
 have HZ3 := zH hz3
 have HGM := zH hgm
 have HBMq := zH hbM
 have hz3b : bz ≤ w3.heap.size := by omega
 clear hz3 hgm hbM
 refine (wpIn_wide (n := 3)).1 ?_
 refine wpIn_label ?_
 go_wp2_with fail
 refine (pieces_m w3 h a ls cs).mono ?_
 rintro e w4 ⟨rfl, rfl⟩
 go_wp2_with fail
 refine (wpIn_wide (n := 3)).1 ?_
 have BM5 := (BM3.out.alloc (.cells #[.int .i64 (h : Int)] 26)).alloc (.cells #[.slice a ls cs] 22)
 have BZ5 := (BZ4.out.alloc (.cells #[.int .i64 (h : Int)] 26)).alloc (.cells #[.slice a ls cs] 22)
 have HO5 := (HO3.out.alloc (.cells #[.int .i64 (h : Int)] 26)).alloc (.cells #[.slice a ls cs] 22)
 have HB5 := (HB3.out.alloc hz3b (.cells #[.int .i64 (h : Int)] 26)).alloc (by simp; omega) (.cells #[.slice a ls cs] 22)
 have bH5 := (Boxed.new w3 26 (.int .i64 (h : Int))).alloc (.cells #[.slice a ls cs] 22)
 have bS5 := Boxed.new (w3.alloc (.cells #[.int .i64 (h : Int)] 26)) 22 (.slice a ls cs)
 rw [World.size_alloc] at bS5
 have hz5 : ((w3.alloc (.cells #[.int .i64 (h : Int)] 26)).alloc (.cells #[.slice a ls cs] 22)).heap.size = w3.heap.size + 2 := by simp
 generalize (w3.alloc (.cells #[.int .i64 (h : Int)] 26)).alloc (.cells #[.slice a ls cs] 22) = w5 at *
 obtain ⟨bH, hbH⟩ : ∃ b, b = w3.heap.size := ⟨_, rfl⟩
 have hz3 := HZ3.out
 rw [← hbH] at bH5 bS5 hz5 ⊢
 have hgm := HGM.out
 have hbM := HBMq.out
 have hord : Hid (bz < gm ∧ gm < bM ∧ bM < bH ∧ w5.heap.size = bH + 2) := ⟨by omega, by omega, by omega, by omega⟩
 have hz5b : bz ≤ w5.heap.size := by omega
 have hz5c : bH + 2 ≤ w5.heap.size := by omega
 clear hgm hbM hbH hz3 hz5
 have K5 := zH (HK.out.below (by rw [HBS.out]; exact HB5))
 have R5 := zH (HR.out.below (by rw [HBS.out]; exact HB5))
 refine wpIn_rangeM (F := Fence.wide) (R := fun k => k < bz ∨ k = bH ∨ k = bH + 1) rfl (show 1 ≤ 3 by decide) (gf := 208) (lb := #[.pointer (some ⟨bH, 0, none⟩), .pointer (some ⟨bH + 1, 0, none⟩)]) rfl trivial (enters_of Tryz.func208 (by kernel_rfl) rfl)
  (pieces_come_m (3 - 1) (by decide) h HH.out a ls cs seed (size + 1) bz bH (bH + 1) (by omega) w5 K5.out h0w R5.out HSB.out hls hab.out bH5 bS5 hz5b) (fun k hk => by have := hord.out; rcases hk with hk | rfl | rfl <;> omega) (Below.refl _ _) (fun _ => rfl)
  (fun pre W => MkI h seed size bz bM bH w pre W)
  (fun cc pre W => cc = .exit 0 ∧ MkX h seed size bz bM w W)
  ?_ ?_ ?_ ?_ ⟨_, BM5, HO5, BZ5, by simp, HB5, ⟨by simp [Value.ownBlock]; have := hord.out; omega, by simp [Value.ownBlock]; have := hord.out; omega, by simp [Value.ownBlock]; have := hord.out; omega, by simp [Value.ownBlock]; have := hord.out; omega⟩, hz5c⟩ ?_ ?_ ?_ ?_
 rotate_left 5
 ·intro lp x W K hK
  gi_wp2
  exact hK
 ·rintro lp pre x W ⟨v, hbM', hown, hbZ, hle, hB, ⟨n1, n2, n3, n4⟩, hsz⟩ hG
  obtain ⟨va, vn, vc, rfl, hvn, hown⟩ := own_slM hown
  rw [maskAll_len HH.out] at hvn
  have HVN := zH (show vn = (maskAll h seed pre.length).length by rw [maskAll_len HH.out]; exact hvn)
  have HVK := zH hvn
  have cM := hbM'.cell
  have fM := hbM'.frozen
  have cZ := hbZ.cell
  have HBM := zH hbM'
  have HBZ := zH hbZ
  have HOW := zH hown
  have HBW := zH hB
  have HNE := zH (show (Value.slice va vn vc).ownBlock ≠ some bM ∧ (Value.slice va vn vc).ownBlock ≠ some bH ∧ (Value.slice va vn vc).ownBlock ≠ some (bH + 1) ∧ (Value.slice va vn vc).ownBlock ≠ some bz from ⟨n1, n2, n3, n4⟩)
  have HG := zH hG
  have hbW : bz ≤ W.heap.size := by have := hord.out; omega
  have hszb := mSize_le HH.out
  obtain ⟨sz, hsze⟩ : ∃ s, s = mSize h := ⟨_, rfl⟩
  rw [← hsze] at hszb hle hvn ⊢
  have HSZ := zH hsze
  have HLE := zH hle
  have hvs : vn ≤ size := by omega
  obtain ⟨L, hL⟩ : ∃ L, L = size - vn := ⟨_, rfl⟩
  have hLi : (size : Int) - (vn : Int) = (L : Int) := by omega
  have HL := zH hL
  have hLs : L ≤ size := by omega
  clear hbM' hown hbZ hle hB n1 n2 n3 n4 hG hvn hL hsze
  have HPC := zH (mHash_len HH.out (seed ++ be4 pre.length))
  by_cases hc : sz < L
  ·have t1 : decide ((sz : Int) < (L : Int)) = true := by simp; omega
   have HC := zH hc
   clear hc
   gi_wp2_with (gi_at_builtin; go_loud (refine wpListIn_append_own_at _ rfl _ _ 22 rfl bz 5 i0 (.int .u8 0) 1 1 Tryz.underlying22 hi hz0 hz1 hz2 rfl (by decide) (.slice va vn vc) vn ((maskAll h seed pre.length).map (num .u8)) rfl (by have h1 := HOW.out; unfold OwnQ at h1; rwa [← HVN.out] at h1) x.1 sz x.2 ((pieceN h seed pre.length).map (num .u8)) rfl (by rw [List.length_map, show (pieceN h seed pre.length).length = mSize h from HPC.out, ← HSZ.out, Nat.mul_one]) (by have h1 := HG.out; unfold GdP at h1; rw [← HSZ.out] at h1; exact h1.news) (nums_oneCell _ _) (by unfold maxLen; omega) (by omega) hbW ?_); intro v' w' ho' hgrow _ hblk; obtain ⟨a', n', c', rfl, -, ho2⟩ := own_slM (q := .u8) (E := 5) (B := bz) (w := w') (v := v') (l := maskAll h seed pre.length ++ pieceN h seed pre.length) (by unfold OwnQ; rw [List.map_append, List.length_append, ← HVN.out, show (pieceN h seed pre.length).length = mSize h from HPC.out, ← HSZ.out]; exact ho'); have HO2 := zH ho2; have HA := zH (appendedM HOW.out hbW hgrow); have HBM' := zH (HA.out.2.2 bM _ _ HBM.out HNE.out.1); have cM' := (HA.out.2.2 _ _ _ HBM.out HNE.out.1).cell; have fM' := (HA.out.2.2 _ _ _ HBM.out HNE.out.1).frozen; have HGR := zH hgrow; have HBL := zH hblk; clear ho' hgrow hblk ho2)
   have hne' := own_ne_box HO2.out HBM'.out (by decide)
   have hKO : KeepsOthers W (w'.setCell ⟨bM, 0, none⟩ (.slice a' n' c')) := HA.out.1.trans (KeepsOthers.setCell _ _ _)
   have hbm := hord.out
   have hnew : ∀ b, b < W.heap.size → (Value.slice va vn vc).ownBlock ≠ some b → (Value.slice a' n' c').ownBlock ≠ some b := fun b hb h1 e => by
    rcases HBL.out with h2 | h2
    ·rw [h2] at e; exact h1 e
    ·rw [h2] at e; have := Option.some.inj e; omega
   refine ⟨hKO.from _, ⟨hKO.size, fun k hk => ?_⟩, ⟨_, HBM'.out.set _, ?_, ?_, ?_, ?_, ⟨hne', hnew bH (by omega) HNE.out.2.1, hnew (bH + 1) (by omega) HNE.out.2.2.1, hnew bz (by omega) HNE.out.2.2.2⟩, Nat.le_trans hsz hKO.size⟩⟩
   ·have hkW : k < W.heap.size := by rcases hk with hk | rfl | rfl <;> omega
    have hkM : k ≠ bM := by rcases hk with hk | rfl | rfl <;> omega
    have hko : (Value.slice va vn vc).ownBlock ≠ some k := by
     rcases hk with hk | rfl | rfl
     ·intro e
      have := (ownBase HOW.out e).1
      omega
     ·exact HNE.out.2.1
     ·exact HNE.out.2.2.1
    exact (Below.heap_setCell w' ⟨bM, 0, none⟩ _ k hkM).trans (HGR.out.block k hkW (fun e => hko e.symm))
   ·rw [List.length_append]
    exact own_sets (i := 0) (u := .slice a' n' c') HO2.out hne'
   ·exact (HA.out.2.2 bz _ _ HBZ.out HNE.out.2.2.2).other' (g := bM) (i := 0) (by omega) _
   ·have e1 := HVK.out
    have e2 := HL.out
    have e3 := HC.out
    rw [← HSZ.out] at e1 ⊢
    rw [List.length_append, List.length_singleton, Nat.succ_mul]
    omega
   ·exact (HA.out.2.1 w HBW.out).setCell (p := ⟨bM, 0, none⟩) (by show bz ≤ bM; omega) _
  ·have t1 : decide ((sz : Int) < (L : Int)) = false := by simp; omega
   have HC := zH hc
   have hLz : L ≤ sz := by omega
   clear hc
   have hs1 : ∀ w, (sizeOf (Tryz.prog.elem 22)).run Tryz.prog w = .ok 1 w := fun _ => by kernel_rfl
   have hxc : sz ≤ x.2 := by have h1 := HG.out.le; rw [← HSZ.out] at h1; exact h1
   have sl : ∀ W, (Instr.sliceAt 22 (.slice (some x.1) sz x.2) none (some (.int .i64 (L : Int))) none).run Tryz.prog W = .ok (.slice (some x.1) L x.2) W := fun W => by
    rw [run_sliceAt_slice W _ _ _ _ _ (by kernel_rfl), run_slice_h W _ (some x.1) sz x.2 (by kernel_rfl) .i64 (L : Int) (by omega) (by omega), hs1]
    simp [sliced, Result.andThen, Addr.add]
   have HGL := zH (show Reads .u8 W (some x.1) L x.2 ((pieceN h seed pre.length).take L) by have h1 := HG.out; unfold GdP at h1; rw [← HSZ.out] at h1; exact h1.upto L hLz)
   clear hs1
   gi_wp2_with fail
   refine wpIn_region_held_drew (S := fun _ => True) (by kernel_rfl) (plain_of (by kernel_rfl)) ?_ trivial (fun hHeld => ?_)
   ·rintro ⟨a, w, h⟩
    exact h
   refine' wpAnyH_take (i := 1) rfl (by kernel_rfl) (by kernel_rfl) (by kernel_rfl) (fun _ _ _ h => h) (Or.inl ⟨?_, ?_⟩) (by assumption) ?_
   rotate_left
   all_goals (try simp only [zq4, zq5, zq6])
   ·rfl
   ·intro W hSw; (try dsimp only at hSw); go_simp; (try with_reducible rfl)
   try simp only [Act.put, zq1, zq2, zq3]
   refine' wpAnyH_take (i := 2) rfl (by kernel_rfl) (by kernel_rfl) (by kernel_rfl) (fun _ _ _ h => h) (Or.inl ⟨?_, ?_⟩) (by assumption) ?_
   rotate_left
   all_goals (try simp only [zq4, zq5, zq6])
   ·rfl
   ·intro W hSw; (try dsimp only at hSw); go_simp; (try with_reducible rfl)
   try simp only [Act.put, zq1, zq2, zq3]
   refine' wpAnyH_take (i := 3) (oi := _) (v := .slice (some x.1) L x.2) rfl (by kernel_rfl) (by kernel_rfl) (by kernel_rfl) (fun _ _ _ h => h) (Or.inl ⟨?_, ?_⟩) (by assumption) ?_
   all_goals (try simp only [zq4, zq5, zq6])
   ·rfl
   ·intro W hSw; (try dsimp only at hSw); go_simp; (first | done | exact sl W)
   try simp only [Act.put, zq1, zq2, zq3]
   refine wpAnyH_ready (rs := [0]) (by kernel_rfl) (by simp) ?_
   refine AllReadyH.cons (o := _) rfl (fun K hK => ?_) AllReadyH.nil
   try simp only [zq4, zq5, zq6]
   go_simp
   refine hK.out _ _ trivial (fun hHeld => ?_)
   clear hK K
   try simp only [Act.put, zq1, zq2, zq3]
   refine wpAnyH_ready (rs := [4]) (by kernel_rfl) (by simp) ?_
   refine AllReadyH.cons (o := _) rfl (fun K hK => ?_) AllReadyH.nil
   try simp only [zq4, zq5, zq6]
   rw [if_pos (by rfl)]
   refine step_append_M .u8 _ (.tmp 36) (.tmp 39) 22 rfl bz 5 1 i0 Tryz.underlying22 hi hz0 hz1 hz2 (by decide) _ (maskAll h seed pre.length) rfl HOW.out.drew x.1 L x.2 ((pieceN h seed pre.length).take L) rfl (HGL.out.below (Below.refl _ _).drew) (by rw [← HVN.out]; omega) hbW ?_
   intro v' w' ho' hgrow
   obtain ⟨a', n', c', rfl, -, ho'⟩ := own_slM ho'
   have HA := zH (appendedM HOW.out.drew hbW hgrow)
   have HBM' := zH (HA.out.2.2 bM _ _ HBM.out HNE.out.1)
   have cM' := HBM'.out.cell
   have fM' := HBM'.out.frozen
   have HO' := zH ho'
   clear ho' hgrow
   refine hK.out _ _ trivial (fun hHeld => ?_)
   clear hK K
   try simp only [Act.put, zq1, zq2, zq3]
   refine wpAnyH_ready (rs := [5]) (by kernel_rfl) (by simp) ?_
   refine AllReadyH.cons (o := _) rfl (fun K hK => ?_) AllReadyH.nil
   try simp only [zq4, zq5, zq6]
   go_simp
   refine hK.out _ _ trivial (fun hHeld => ?_)
   clear hK K
   try simp only [Act.put, zq1, zq2, zq3]
   refine wpAnyH_done (by kernel_rfl) ?_ _
   simp only [Exit.then]
   gi_wp2_with fail
   have hne' := own_ne_box HO'.out HBM'.out (by decide)
   have hKO : KeepsOthers W (w'.setCell ⟨bM, 0, none⟩ (.slice a' n' c')) := (KeepsOthers.drew W).trans (HA.out.1.trans (KeepsOthers.setCell _ _ _))
   refine ⟨hKO.from _, rfl, _, HBM'.out.set _, ?_, ?_⟩
   ·have h1 := own_sets (i := 0) (u := .slice a' n' c') HO'.out hne'
    have h2 := mask_fill HH.out seed (k := pre.length) (s := size) (by rw [← HSZ.out]; exact HLE.out) (by have e1 := HVK.out; have e2 := HL.out; rw [← HSZ.out] at e1 ⊢; omega)
    rw [← h2, ← HVK.out, ← HL.out]
    exact h1
   ·exact (HA.out.2.1 w (HBW.out.drew)).setCell (p := ⟨bM, 0, none⟩) (by have := hord.out; show bz ≤ bM; omega) _
 ·rintro D cc pre W hD ⟨rfl, v, hbM', hown, hB⟩ hK
  obtain ⟨va, vn, vc, rfl, -, hown⟩ := own_slM hown
  have cM := hbM'.cell
  have HO := zH hown
  have HBW := zH hB
  have HDb := zH (show bz ≤ D by omega)
  clear hown hB
  gi_wp2_with fail
  go_wp2
  rw [Exit.noGoto_ret]
  refine ⟨by simp, .inl ⟨_, _, rfl, run_takeDeferred hK, ?_⟩⟩
  have hgr := grownBy_putObj' W D (.deferred none)
  refine ⟨_, results_tmp2 rfl _ _ _, ⟨_, rfl, ?_⟩, ?_⟩
  ·rw [HBS.out]
   exact HO.out.keptW hgr (fun r e => by cases e; exact ⟨_, hK, rfl⟩)
  ·rw [HBS.out]
   exact HBW.out.grown hgr (Nat.le_trans HDb.out (Nat.le_of_lt (Array.getElem?_eq_some_iff.1 hK).1)) (fun r e => by cases e; exact HDb.out)
 ·rintro pre W W' row ⟨v, h1, h2, h3, h4, h5, h6, h7⟩ hg hr
  have hne : ∀ b, b < w5.heap.size → some b ≠ row := fun b hb e => by have := (hr b e.symm).1; omega
  have hbm := hord.out
  exact ⟨v, h1.kept hg (hne bM (by omega)), h2.keptW hg (fun r e => (hr r e).2), h3.kept hg (hne bz (by omega)), h4, h5.grown hg (by omega) (fun r e => by have := (hr r e).1; omega), h6, Nat.le_trans h7 hg.size⟩
 ·rintro cc pre W W' row ⟨h0, v, h1, h2, h3⟩ hg hr
  have hne : ∀ b, b < w5.heap.size → some b ≠ row := fun b hb e => by have := (hr b e.symm).1; omega
  have hbm := hord.out
  exact ⟨h0, v, h1.kept hg (hne bM (by omega)), h2.keptW hg (fun r e => (hr r e).2), h3.grown hg (by have := h1.lt; omega) (fun r e => by have := (hr r e).1; omega)⟩
 ·rintro s W W' row h1 hg hr
  exact Reads.keptW h1 hg (fun r e => (hr r e).2)
 ·rintro pre W ⟨v, h1, h2, h3, h4, h5, h6, h7⟩
  have := (mSize_le HH.out).1
  have h8 : pre.length * 1 ≤ pre.length * mSize h := Nat.mul_le_mul_left _ (by omega)
  omega
end Go.Proofs.YtpefjkndfifceaaGreatDoor
namespace Go.Proofs.YtpefjkndfifceaaGreatDoor
open Go.RowKit
set_option maxRecDepth 100000
def lenP (bits : Nat) : Nat := (bits + 7) / 8
def lowP (bits : Nat) : Nat := 255 / 2 ^ (8 * lenP bits - bits)
def RoomP (h : Int) (s bits : Int) : Prop := IsHash h.toNat ∧ 0 ≤ s ∧ 0 ≤ bits ∧ bits ≤ 524288 ∧ s + (mSize h.toNat : Int) + 2 ≤ (lenP bits.toNat : Int)
instance isHashDecP (h : Nat) : Decidable (IsHash h) := by unfold IsHash; infer_instance
instance (h s bits : Int) : Decidable (RoomP h s bits) := by unfold RoomP; infer_instance
theorem lenP_bits (n : Nat) : 8 * lenP n - n < 8 ∧ n ≤ 8 * lenP n := by unfold lenP; omega
theorem lowP_lt (n : Nat) : lowP n < 256 := Nat.lt_of_le_of_lt (Nat.div_le_self _ _) (by decide)
def xorN (a b : List Nat) : List Nat := List.zipWith (· ^^^ ·) a b
theorem xorN_len (a b : List Nat) (h : a.length = b.length) : (xorN a b).length = a.length := by simp [xorN, h]
theorem xor_byte {x y : Nat} (hx : x < 256) (hy : y < 256) : x ^^^ y < 256 := Nat.xor_lt_two_pow (n := 8) hx hy
theorem xorN_byt : ∀ {a b : List Nat}, (∀ x ∈ a, x < 256) → (∀ x ∈ b, x < 256) → ∀ x ∈ xorN a b, x < 256
 | [], _, _, _, x, hx => by simp [xorN] at hx
 | _ :: _, [], _, _, x, hx => by simp [xorN] at hx
 | u :: a, v :: b, ha, hb, x, hx => by
  rw [xorN, List.zipWith_cons_cons, List.mem_cons] at hx
  rcases hx with rfl | hx
  ·exact xor_byte (ha u List.mem_cons_self) (hb v List.mem_cons_self)
  ·exact xorN_byt (fun z hz => ha z (List.mem_cons_of_mem _ hz)) (fun z hz => hb z (List.mem_cons_of_mem _ hz)) x hx
theorem xorN_back : ∀ (a b : List Nat), a.length = b.length → xorN (xorN a b) b = a
 | [], [], _ => rfl
 | [], _ :: _, h => by simp at h
 | _ :: _, [], h => by simp at h
 | u :: a, v :: b, h => by
  have ih := xorN_back a b (by simpa using h)
  unfold xorN at ih ⊢
  rw [List.zipWith_cons_cons, List.zipWith_cons_cons, ih, Nat.xor_assoc, Nat.xor_self, Nat.xor_zero]
def headA (m : Nat) : List Nat → List Nat
 | [] => []
 | x :: r => (x &&& m) :: r
theorem headA_len (m : Nat) (l : List Nat) : (headA m l).length = l.length := by cases l <;> rfl
theorem headA_byt {m : Nat} {l : List Nat} (h : ∀ x ∈ l, x < 256) : ∀ x ∈ headA m l, x < 256 := by
 cases l with
 | nil => exact h
 | cons y r =>
  intro x hx
  rw [headA, List.mem_cons] at hx
  rcases hx with rfl | hx
  ·exact Nat.lt_of_le_of_lt Nat.and_le_left (h y List.mem_cons_self)
  ·exact h x (List.mem_cons_of_mem _ hx)
theorem headA_set (m : Nat) (l : List Nat) (h : 0 < l.length) : headA m l = l.set 0 ((l[0]?.getD 0) &&& m) := by
 cases l with
 | nil => simp at h
 | cons x r => simp [headA]
def FitsP (m : Nat) (l : List Nat) : Prop := (l[0]?.getD 0) &&& m = l[0]?.getD 0
theorem and_twice (x m : Nat) : x &&& m &&& m = x &&& m := by rw [Nat.and_assoc, Nat.and_self]
theorem headA_fits (m : Nat) (l : List Nat) : FitsP m (headA m l) := by
 cases l with
 | nil => simp [FitsP, headA]
 | cons x r => simp [FitsP, headA, and_twice]
def maskedP (h : Nat) (block inner : List Nat) (bits : Nat) : List Nat := headA (lowP bits) (xorN block (maskN h inner block.length))
theorem maskN_len {h : Nat} (hh : IsHash h) (seed : List Nat) (n : Nat) : (maskN h seed n).length = n := by
 unfold maskN
 rw [List.length_take, maskAll_len hh]
 have := (mSize_le hh).1
 refine Nat.min_eq_left ?_
 calc n = n * 1 := (Nat.mul_one n).symm
  _ ≤ n * mSize h := Nat.mul_le_mul_left n (by omega)
theorem maskN_byt {h : Nat} (hh : IsHash h) (seed : List Nat) (n : Nat) : ∀ x ∈ maskN h seed n, x < 256 := fun x hx => maskAll_byt hh seed n x (List.mem_of_mem_take hx)
theorem masked_len {h : Nat} (hh : IsHash h) (block inner : List Nat) (bits : Nat) : (maskedP h block inner bits).length = block.length := by
 unfold maskedP
 rw [headA_len, xorN_len _ _ (maskN_len hh _ _).symm]
theorem masked_byt {h : Nat} (hh : IsHash h) {block : List Nat} (inner : List Nat) (bits : Nat) (hb : ∀ x ∈ block, x < 256) : ∀ x ∈ maskedP h block inner bits, x < 256 := headA_byt (xorN_byt hb (maskN_byt hh inner _))
theorem masked_fits (h : Nat) (block inner : List Nat) (bits : Nat) : FitsP (lowP bits) (maskedP h block inner bits) := headA_fits _ _
theorem masked_back {h : Nat} (hh : IsHash h) (block inner : List Nat) (bits : Nat) (hf : FitsP (lowP bits) block) : maskedP h (maskedP h block inner bits) inner bits = block := by
 have hl := masked_len hh block inner bits
 have e : maskedP h (maskedP h block inner bits) inner bits = headA (lowP bits) (xorN (maskedP h block inner bits) (maskN h inner block.length)) := by
  show headA (lowP bits) (xorN (maskedP h block inner bits) (maskN h inner (maskedP h block inner bits).length)) = _
  rw [hl]
 rw [e]
 have hm := maskN_len hh inner block.length
 unfold maskedP
 generalize maskN h inner block.length = M at *
 generalize lowP bits = m at *
 cases block with
 | nil => simp [xorN, headA]
 | cons x r =>
  cases M with
  | nil => simp at hm
  | cons y s =>
   have hx : x &&& m = x := by simpa [FitsP] using hf
   have ih := xorN_back r s (by simpa using hm.symm)
   unfold xorN at ih ⊢
   rw [List.zipWith_cons_cons, headA, List.zipWith_cons_cons, headA, ih]
   congr 1
   rw [Nat.and_xor_distrib_right, and_twice, ← Nat.and_xor_distrib_right, Nat.xor_assoc, Nat.xor_self, Nat.xor_zero, hx]
def innerP (h : Nat) (d s : List Nat) : List Nat := mHash h (List.replicate 8 0 ++ d ++ s)
def blockP (n : Nat) (s : List Nat) : List Nat := List.replicate (n - s.length - 1) 0 ++ [1] ++ s
def emsP (h : Nat) (d s : List Nat) (bits : Nat) : List Nat := maskedP h (blockP (lenP bits - mSize h - 1) s) (innerP h d s) bits ++ innerP h d s ++ [188]
theorem innerP_len {h : Nat} (hh : IsHash h) (d s : List Nat) : (innerP h d s).length = mSize h := mHash_len hh _
end Go.Proofs.YtpefjkndfifceaaGreatDoor
