/-
  OID: Names. (Written by wip/gen_oidN.py.)
-/
import Derived.Test.YtojphfkiblhhiaaDoorOidN1
namespace Go.Proofs.YtojphfkiblhhiaaDoor
open Go.RowKit Go.Shelf
attribute [local go_sem] Oper.semAt_some
set_option maxRecDepth 100000

theorem OwnS.cell {B : Nat} {w : World} {g n cap : Nat} {xs : List (List UInt8)} (h : OwnS B w (.slice (some ⟨g, 0, none⟩) n cap) xs) (i : Nat) (x : List UInt8) (hx : xs[i]? = some x) : w.cell? ⟨g, i, none⟩ = some (.string ⟨x.toArray⟩) := by
  have hi : i < xs.length := (List.getElem?_eq_some_iff.1 hx).1
  have hn : n = xs.length := by
    obtain ⟨a', n', c', e, e2, -⟩ := h.slice
    cases e
    exact e2
  subst hn
  have := World.ownsRow.cellAt h i (by omega)
  rw [this, List.getElem?_map, hx]
  rfl

set_option maxHeartbeats 1000000 in
theorem names_any (w : World) (hK : Knowns w) :
    Calls Tryd.prog 24 #[] w fun e w' => (∃ g c, e = .returned (.slice (some ⟨g, 0, none⟩) 26 c) ∧ OwnS w.heap.size w' (.slice (some ⟨g, 0, none⟩) 26 c) (knownT.map (·.1))) ∧ Below w.heap.size w w' := by
  obtain ⟨i0, hi, hz0, hz1, hz2⟩ := info_parts infoStr
  have HK := Lib.hid hK
  clear hK
  go_enter Tryd.func24, Tryd.ntmps24
  go_wp2_with (refine wpList_load_part rfl 69 _ rfl 0 0 rfl knownA _ HK.out.cells Tryd.underlying69 rfl (by kernel_rfl) ?_)
  have HI := Lib.hid (fun (i : Nat) (x : List UInt8 × List UInt8) (hx : knownT[i]? = some x) (W : World) => known_idx i x hx W)
  generalize Value.agg knownA = T at *
  go_loopw [1, 5] (fun bv iv wr => ∃ (i : Nat) (a n c : _), iv = .int .i64 (i : Int) ∧ i ≤ 26 ∧ n = i ∧ bv = .slice a n c ∧ Hid (OwnS w.heap.size wr (.slice a n c) ((knownT.take i).map (·.1))) ∧ Hid (Below w.heap.size w wr)) (fun _ iv _ => 27 - (intOf iv).toNat)
  case atStart => exact ⟨0, none, 0, 0, rfl, by omega, rfl, rfl, Lib.hid (World.ownsRow_nil _ _ _ _), Lib.hid (Below.refl _ _)⟩
  case round =>
    obtain ⟨i, a, n, c, rfl, hi26, hni, rfl, HO, HB⟩ := hrel
    subst hni
    by_cases hlt : n < 26
    · obtain ⟨x, hx⟩ : ∃ x, knownT[n]? = some x := ⟨_, List.getElem?_eq_getElem (by rw [known_len]; exact hlt)⟩
      have ix := HI.out n x hx
      have HX := Lib.hid (show (knownT.take (n + 1)).map (·.1) = (knownT.take n).map (·.1) ++ [x.1] by
        rw [List.take_add_one, hx]; simp)
      have d1 : decide ((n : Int) < 26) = true := decide_eq_true (by omega)
      clear hx
      have HB2 := Lib.hid (HB.out.alloc HB.out.size (.cells #[.string ⟨x.1.toArray⟩, .string ⟨x.2.toArray⟩] 68))
      have HO5 := Lib.hid (show (wr.alloc (.cells #[.string ⟨x.1.toArray⟩, .string ⟨x.2.toArray⟩] 68)).ownsRow w.heap.size 9 1 (.slice a n c) n (((knownT.take n).map (·.1)).map strV) from by
        have := World.ownsRow.alloc HO.out (.cells #[.string ⟨x.1.toArray⟩, .string ⟨x.2.toArray⟩] 68)
        rw [List.length_map, List.length_take, Nat.min_eq_left (by rw [known_len]; omega)] at this
        exact this)
      have hs2 := HB.out.size
      go_wp2_with (at_builtin; go_loud (refine wpList_append_own_at _ rfl _ _ 49 rfl w.heap.size 9 i0 (.string ⟨#[]⟩) 1 16 Tryd.underlying49 hi hz0 hz1 hz2 rfl (by decide) _ _ _ rfl (World.ownsRow.alloc HO5.out _) ⟨wr.heap.size + 1, 0, none⟩ 1 1 [strV x.1] rfl rfl (cell_oneO _ _ _ _ (by simp)) (by simp [Value.oneCell', strV]) (by unfold maxLen; omega) (by omega) (by simp; omega) ?_); intro v' w5 hown' hgrow _ hblk; obtain ⟨g', cap', rfl⟩ := ownsRow_succ hown'; have HW5 := Lib.hid hown'; have HB5 := Lib.hid ((appendedO HO5.out HB2.out.size hgrow).2.1 w HB2.out); clear hown' hgrow hblk)
      go_wp2
      go_roundw
      case rel =>
        refine ⟨n + 1, _, n + 1, cap', by go_num, by omega, rfl, rfl, ?_, HB5⟩
        rw [HX.out]
        refine Lib.hid ?_
        unfold OwnS
        rw [List.length_append, List.length_map, List.length_take, Nat.min_eq_left (by rw [known_len]; omega), List.map_append]
        exact HW5.out
      case measure => simp [intOf]; omega
    · have hie : n = 26 := by omega
      subst hie
      have HT := Lib.hid (show (knownT.take 26).map (·.1) = knownT.map (·.1) from rfl)
      have HO := HO.out
      rw [HT.out] at HO
      have hd1 : decide (((26 : Nat) : Int) < 26) = false := by decide
      rcases HO.2 with ⟨h1, h0⟩ | ⟨g, cap, cur, he, r⟩
      · rw [List.length_map, known_len] at h0
        cases h0
      · obtain ⟨rfl, rfl⟩ : a = some ⟨g, 0, none⟩ ∧ c = cap := by
          rw [List.length_map, known_len] at he
          cases he
          exact ⟨rfl, rfl⟩
        clear he r
        have HO := Lib.hid HO
        go_wp2
        go_ret
        exact ⟨⟨g, c, rfl, HO.out⟩, HB.out⟩
end Go.Proofs.YtojphfkiblhhiaaDoor
