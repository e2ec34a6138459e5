/-
  OID: the law OidNames. (Written by wip/gen_oidN.py.)
-/
import Derived.Test.YtojphfkiblhhiaaDoorOidN2
import Derived.Lib.SmallJoins
namespace Go.Proofs.YtojphfkiblhhiaaDoor
open Go.RowKit
set_option maxRecDepth 100000

theorem reads_const (w : World) (E : TypeId) (fr : Nat × Nat) (l : List Nat) (cs : Array Value) (n : Nat) (h : cs = (l.map (num .u8)).toArray) (hn : n = l.length) (hm : l.length ≤ 1000) : Reads .u8 (w.alloc (.cells cs E fr)) (some ⟨w.heap.size, 0, none⟩) n n l := by
  subst h hn
  refine ⟨rfl, Nat.le_refl _, by unfold maxLen; omega, (fun h => by cases h), fun _ => ⟨w.heap.size, 0, rfl, by rw [World.size_alloc]; omega, fun i hi => ?_⟩⟩
  rw [Nat.zero_add, cell_of_row _ _ i _ E fr (World.alloc_heap_new _ _)]
  simp [num, hi]

set_option maxHeartbeats 8000000 in
theorem onames_walk (w : World) (hL : Libs w) (hK : Knowns w) :
    Calls Tryd.prog 5 #[] w fun e w' => e = .returned (.bool true) ∧ Below w.heap.size w w' := by
  have HL0 := Lib.hid hL
  have HK0 := Lib.hid hK
  clear hL hK
  go_enter Tryd.func5, Tryd.ntmps5
  go_wp2_with fail
  refine (alive_o _).mono ?_
  rintro e w1 ⟨rfl, hb⟩
  have HB := Lib.hid hb
  clear hb
  have hblk : (w1.alloc (.cells textsN 9)).heap[w1.heap.size]? = some (.cells textsN 9 (0, 0)) := World.alloc_heap_new _ _
  have HBA := Lib.hid (HB.out.alloc HB.out.size (.cells textsN 9))
  have HBK := Lib.hid hblk
  have hsz := World.size_alloc w1 (.cells textsN 9)
  clear hblk
  go_wp2_with fail
  generalize w1.alloc (.cells textsN 9) = wa at *
  generalize w1.heap.size = Q at *
  clear HB
  go_loopw [1, 20] (fun bv iv wr => ∃ i : Nat, bv = .bool true ∧ iv = .int .i64 (i : Int) ∧ i ≤ 15 ∧ Hid (Below wa.heap.size wa wr)) (fun _ iv _ => 16 - (intOf iv).toNat)
  case atStart => exact ⟨0, rfl, rfl, by decide, Lib.hid (Below.refl _ _)⟩
  case round =>
    obtain ⟨i, rfl, rfl, hi, HW⟩ := hrel
    have HB := Lib.hid (HBA.out.trans (HW.out.mono HBA.out.size))
    by_cases hlt : i < 15
    · obtain ⟨s, hs, hsl, hno⟩ := texts_n i hlt
      have ci : wr.cell? ⟨Q, i, none⟩ = some (.string ⟨s.toArray⟩) := (HW.out.cell (p := ⟨Q, i, none⟩) (by show Q < wa.heap.size; omega)).trans ((cell_of_row wa Q i textsN 9 (0, 0) HBK.out).trans (by rw [← Array.getElem?_toList]; exact hs))
      have HNO := Lib.hid hno
      have d1 : decide ((i : Int) < 15) = true := decide_eq_true (by omega)
      clear hs hno
      go_wp2_with fail
      refine (parse_any s (by omega) _ (HL0.out.below HB.out)).mono ?_
      rintro e w3 ⟨⟨pa, pn, pc, rfl, hv⟩, hb⟩
      rw [HNO.out] at hv ⊢
      dsimp only at hv ⊢
      have hpn := hv.cap.1
      rw [List.length_nil] at hpn
      subst hpn
      have HW := Lib.hid (HW.out.trans (hb.mono HW.out.size))
      clear hb hv
      go_wp2
      go_roundw
      case rel => exact ⟨i + 1, rfl, by go_num, by omega, HW⟩
      case measure => simp [intOf]; omega
    · have hie : i = 15 := by omega
      subst hie
      have d1 : decide (((15 : Nat) : Int) < 15) = false := by decide
      clear HW HBK hlt hi hsz HBA
      have hblk : (wr.alloc (.cells bytesN 9)).heap[wr.heap.size]? = some (.cells bytesN 9 (0, 0)) := World.alloc_heap_new _ _
      have HBA := Lib.hid (HB.out.alloc HB.out.size (.cells bytesN 9))
      have HBK := Lib.hid hblk
      have hsz := World.size_alloc wr (.cells bytesN 9)
      clear hblk
      go_wp2_with fail
      generalize wr.alloc (.cells bytesN 9) = wc at *
      generalize wr.heap.size = Q2 at *
      clear HB
      go_loopw [1, 42] (fun bv iv wr => ∃ i : Nat, bv = .bool true ∧ iv = .int .i64 (i : Int) ∧ i ≤ 5 ∧ Hid (Below wc.heap.size wc wr)) (fun _ iv _ => 6 - (intOf iv).toNat)
      case atStart => exact ⟨0, rfl, rfl, by decide, Lib.hid (Below.refl _ _)⟩
      case round =>
        obtain ⟨i, rfl, rfl, hi, HW⟩ := hrel
        have HB := Lib.hid (HBA.out.trans (HW.out.mono HBA.out.size))
        by_cases hlt : i < 5
        · obtain ⟨l, hs, hsl, hby, hno⟩ := bytes_n i hlt
          have ci : wr.cell? ⟨Q2, i, none⟩ = some (.string ⟨(u8s l).toArray⟩) := (HW.out.cell (p := ⟨Q2, i, none⟩) (by show Q2 < wc.heap.size; omega)).trans ((cell_of_row wc Q2 i bytesN 9 (0, 0) HBK.out).trans (by rw [← Array.getElem?_toList]; exact hs))
          have HNO := Lib.hid hno
          have HBYL := Lib.hid hby
          have d1 : decide ((i : Int) < 5) = true := decide_eq_true (by omega)
          have hcv := Lib.run_convert_string_bytes (P := Tryd.prog) wr 9 38 5 ⟨(u8s l).toArray⟩ (u := .string) Tryd.underlying9 Tryd.underlying38 Tryd.underlying5
          rw [u8_size] at hcv
          have HR := Lib.hid (bytes_reads wr 5 l hby (by omega))
          have hbw := bytes_below wr 5 ⟨(u8s l).toArray⟩
          have HW := Lib.hid (HW.out.trans (hbw.mono HW.out.size))
          clear hs hno hby hbw
          go_wp2_with fail
          generalize Lib.bytesWorld wr 5 ⟨(u8s l).toArray⟩ = w5 at *
          clear hcv
          refine (read_o _ _ _ l w5 HR.out HBYL.out (by omega)).mono ?_
          rintro e w3 ⟨⟨pa, pn, pc, rfl, hv⟩, hb⟩
          rw [HNO.out] at hv ⊢
          dsimp only at hv ⊢
          have hpn := hv.cap.1
          rw [List.length_nil] at hpn
          subst hpn
          have HW := Lib.hid (HW.out.trans (hb.mono HW.out.size))
          clear hb hv
          go_wp2
          go_roundw
          case rel => exact ⟨i + 1, rfl, by go_num, by omega, HW⟩
          case measure => simp [intOf]; omega
        · have hie : i = 5 := by omega
          subst hie
          have d1 : decide (((5 : Nat) : Int) < 5) = false := by decide
          clear HW HBK hlt hi hsz HBA
          go_wp2_with fail
          refine (parse_any bigS (by decide) _ (HL0.out.below HB.out)).mono ?_
          rintro e w6 ⟨⟨pa, pn, pc, rfl, hv⟩, hb⟩
          rw [big_parse] at hv ⊢
          dsimp only at hv ⊢
          have HP := Lib.hid hv
          have HB := Lib.hid (HB.out.trans (hb.mono HB.out.size))
          clear hb hv
          go_wp2_with fail
          refine (bytes_any pa pn pc _ _ HP.out.reads).mono ?_
          rintro e w7 ⟨⟨xa, xn, xc, rfl, hv⟩, hb⟩
          rw [big_bytes] at hv ⊢
          dsimp only at hv ⊢
          have HB := Lib.hid (HB.out.trans (hb.mono HB.out.size))
          have cx : (convert 38 9 (.slice xa xn xc)).run Tryd.prog w7 = .ok (.string ⟨#[255, 255, 255, 255, 255, 255, 255, 255, 127]⟩) w7 := convS hv.reads (by decide)
          clear hb hv HP
          go_wp2_with fail
          refine (names_any _ (HK0.out.below HB.out)).mono ?_
          rintro e w8 ⟨⟨g, c, rfl, hv⟩, hb⟩
          have HN := Lib.hid hv
          have HB8 := Lib.hid (HB.out.trans (hb.mono HB.out.size))
          clear hb hv cx HB
          go_wp2_with fail
          go_loopw [1, 89] (fun bv iv wr => ∃ i : Nat, bv = .bool true ∧ iv = .int .i64 (i : Int) ∧ i ≤ 26 ∧ Hid (Below w8.heap.size w8 wr)) (fun _ iv _ => 27 - (intOf iv).toNat)
          case atStart => exact ⟨0, rfl, rfl, by decide, Lib.hid (Below.refl _ _)⟩
          case round =>
            obtain ⟨i, rfl, rfl, hi, HW⟩ := hrel
            have HB := Lib.hid (HB8.out.trans (HW.out.mono HB8.out.size))
            by_cases hlt : i < 26
            · obtain ⟨x, hx⟩ : ∃ x, knownT[i]? = some x := ⟨_, List.getElem?_eq_getElem (by rw [known_len]; exact hlt)⟩
              have HM := Lib.hid (List.mem_of_getElem? hx)
              have HC := Lib.hid (fun (W : World) (h : Below w8.heap.size w8 W) => (HN.out.below h).cell i x.1 (by rw [List.getElem?_map, hx]; rfl))
              have cn := HC.out wr HW.out
              have d1 : decide ((i : Int) < 26) = true := decide_eq_true (by omega)
              clear hx
              go_wp2_with fail
              refine (named_any x.1 _ (HL0.out.below HB.out) (HK0.out.below HB.out)).mono ?_
              rintro e w10 ⟨⟨ya, yn, yc, rfl, hv⟩, hb⟩
              rw [named_of HM.out] at hv
              have hy3 : 3 ≤ yn ∧ yn ≤ 100 := by have := hv.cap.1; have := long_of HM.out; omega
              obtain ⟨hy3, hy100⟩ := hy3
              have d2 : decide ((2 : Int) < (yn : Int)) = true := decide_eq_true (by omega)
              have HY := Lib.hid (OwnQ.drew hv)
              have HW := Lib.hid (HW.out.trans (hb.mono HW.out.size)).drew
              have HB := Lib.hid (HB.out.trans (hb.mono HB.out.size)).drew
              have HNM := Lib.hid (nameR_of HM.out)
              have cn := HC.out w10.drew HW.out
              clear hb hv
              go_wp2_with fail
              refine wp_region_held_drew (S := fun W => W.cell? ⟨g, i, none⟩ = some (.string ⟨x.1.toArray⟩)) (by kernel_rfl) cn (fun hHeld => ?_)
              generalize w10.drew = w11 at *
              refine' wpAnyH_take (i := 0) (oi := _) (v := _) rfl (by kernel_rfl) (by kernel_rfl) (by kernel_rfl) (fun _ _ _ h => h) (Or.inl ⟨?_, ?_⟩) (by assumption) ?_
              rotate_left
              all_goals (try simp only [List.getElem_toArray, List.getElem_cons_succ, List.getElem_cons_zero])
              · rfl
              · intro W hSw; (try dsimp only at hSw); go_simp; (try with_reducible rfl)
              try simp only [Act.put, List.setIfInBounds_toArray, List.set_cons_zero, List.set_cons_succ]
              refine' wpAnyH_take (i := 1) (oi := _) (v := _) rfl (by kernel_rfl) (by kernel_rfl) (by kernel_rfl) (fun _ _ _ h => h) (Or.inl ⟨?_, ?_⟩) (by assumption) ?_
              rotate_left
              all_goals (try simp only [List.getElem_toArray, List.getElem_cons_succ, List.getElem_cons_zero])
              · rfl
              · intro W hSw; (try dsimp only at hSw); go_simp; (try with_reducible rfl)
              try simp only [Act.put, List.setIfInBounds_toArray, List.set_cons_zero, List.set_cons_succ]
              refine' wpAnyH_take (i := 2) (oi := _) (v := _) rfl (by kernel_rfl) (by kernel_rfl) (by kernel_rfl) (fun _ _ _ h => h) (Or.inl ⟨?_, ?_⟩) (by assumption) ?_
              rotate_left
              all_goals (try simp only [List.getElem_toArray, List.getElem_cons_succ, List.getElem_cons_zero])
              · rfl
              · intro W hSw; (try dsimp only at hSw); go_simp; (try with_reducible rfl)
              try simp only [Act.put, List.setIfInBounds_toArray, List.set_cons_zero, List.set_cons_succ]
              refine' wpAnyH_take (i := 3) (oi := _) (v := _) rfl (by kernel_rfl) (by kernel_rfl) (by kernel_rfl) (fun _ _ _ h => h) (Or.inl ⟨?_, ?_⟩) (by assumption) ?_
              rotate_left
              all_goals (try simp only [List.getElem_toArray, List.getElem_cons_succ, List.getElem_cons_zero])
              · rfl
              · intro W hSw; (try dsimp only at hSw); go_simp; (try with_reducible rfl)
              try simp only [Act.put, List.setIfInBounds_toArray, List.set_cons_zero, List.set_cons_succ]
              refine' wpAnyH_take (i := 4) (oi := _) (v := _) rfl (by kernel_rfl) (by kernel_rfl) (by kernel_rfl) (fun _ _ _ h => h) (Or.inl ⟨?_, ?_⟩) (by assumption) ?_
              rotate_left
              all_goals (try simp only [List.getElem_toArray, List.getElem_cons_succ, List.getElem_cons_zero])
              · rfl
              · intro W hSw; (try dsimp only at hSw); go_simp; (try with_reducible rfl)
              try simp only [Act.put, List.setIfInBounds_toArray, List.set_cons_zero, List.set_cons_succ]
              refine' wpAnyH_take (i := 5) (oi := _) (v := _) rfl (by kernel_rfl) (by kernel_rfl) (by kernel_rfl) (fun _ _ _ h => h) (Or.inl ⟨?_, ?_⟩) (by assumption) ?_
              rotate_left
              all_goals (try simp only [List.getElem_toArray, List.getElem_cons_succ, List.getElem_cons_zero])
              · rfl
              · intro W hSw; (try dsimp only at hSw); go_simp; (try with_reducible rfl)
              try simp only [Act.put, List.setIfInBounds_toArray, List.set_cons_zero, List.set_cons_succ]
              refine' wpAnyH_take (i := 6) (oi := _) (v := _) rfl (by kernel_rfl) (by kernel_rfl) (by kernel_rfl) (fun _ _ _ h => h) (Or.inl ⟨?_, ?_⟩) (by assumption) ?_
              rotate_left
              all_goals (try simp only [List.getElem_toArray, List.getElem_cons_succ, List.getElem_cons_zero])
              · rfl
              · intro W hSw; (try dsimp only at hSw); go_simp; (try with_reducible rfl)
              try simp only [Act.put, List.setIfInBounds_toArray, List.set_cons_zero, List.set_cons_succ]
              refine' wpAnyH_take (i := 7) (oi := _) (v := _) rfl (by kernel_rfl) (by kernel_rfl) (by kernel_rfl) (fun _ _ _ h => h) (Or.inl ⟨?_, ?_⟩) (by assumption) ?_
              rotate_left
              all_goals (try simp only [List.getElem_toArray, List.getElem_cons_succ, List.getElem_cons_zero])
              · rfl
              · intro W hSw; (try dsimp only at hSw); go_simp; (try with_reducible rfl)
              try simp only [Act.put, List.setIfInBounds_toArray, List.set_cons_zero, List.set_cons_succ]
              refine' wpAnyH_take (i := 9) (oi := _) (v := _) rfl (by kernel_rfl) (by kernel_rfl) (by kernel_rfl) (fun _ _ _ h => h) (Or.inl ⟨?_, ?_⟩) (by assumption) ?_
              rotate_left
              all_goals (try simp only [List.getElem_toArray, List.getElem_cons_succ, List.getElem_cons_zero])
              · rfl
              · intro W hSw; (try dsimp only at hSw); go_simp; (try with_reducible rfl)
              try simp only [Act.put, List.setIfInBounds_toArray, List.set_cons_zero, List.set_cons_succ]
              refine' wpAnyH_take (i := 10) (oi := _) (v := _) rfl (by kernel_rfl) (by kernel_rfl) (by kernel_rfl) (fun _ _ _ h => h) (Or.inl ⟨?_, ?_⟩) (by assumption) ?_
              rotate_left
              all_goals (try simp only [List.getElem_toArray, List.getElem_cons_succ, List.getElem_cons_zero])
              · rfl
              · intro W hSw; (try dsimp only at hSw); go_simp; (try with_reducible rfl)
              try simp only [Act.put, List.setIfInBounds_toArray, List.set_cons_zero, List.set_cons_succ]
              refine' wpAnyH_take (i := 11) (oi := _) (v := .pointer (some ⟨g, i, none⟩)) rfl (by kernel_rfl) (by kernel_rfl) (by kernel_rfl) (fun _ _ _ h => h) (Or.inl ⟨?_, ?_⟩) (by assumption) ?_
              all_goals (try simp only [List.getElem_toArray, List.getElem_cons_succ, List.getElem_cons_zero])
              · rfl
              · intro W hSw; (try dsimp only at hSw); go_simp; (try (intro hz; omega))
              try simp only [Act.put, List.setIfInBounds_toArray, List.set_cons_zero, List.set_cons_succ]
              refine' wpAnyH_take (i := 12) (oi := _) (v := _) rfl (by kernel_rfl) (by kernel_rfl) (by kernel_rfl) (fun _ _ _ h => h) (Or.inl ⟨?_, ?_⟩) (by assumption) ?_
              rotate_left
              all_goals (try simp only [List.getElem_toArray, List.getElem_cons_succ, List.getElem_cons_zero])
              · rfl
              · intro W hSw; (try dsimp only at hSw); go_simp; (try with_reducible rfl)
              try simp only [Act.put, List.setIfInBounds_toArray, List.set_cons_zero, List.set_cons_succ]
              refine wpAnyH_ready (rs := [8]) (by kernel_rfl) (by simp) ?_
              refine AllReadyH.cons (o := _) rfl (fun K hK => ?_) AllReadyH.nil
              try simp only [List.getElem_toArray, List.getElem_cons_succ, List.getElem_cons_zero]
              go_simp
              refine (name_any ya yn yc _ _ HY.out.reads (bytesO_byt _) (by omega) (HL0.out.below HB.out) (HK0.out.below HB.out)).mono ?_; rintro e w12 ⟨rfl, hb⟩; rw [HNM.out]; have HW := Lib.hid (HW.out.trans (hb.mono HW.out.size)); have HB := Lib.hid (HB.out.trans (hb.mono HB.out.size)); have cn := HC.out w12 HW.out; clear hb
              go_wp2_with fail
              refine hK.out _ _ cn (fun hHeld => ?_)
              clear hK K
              try simp only [Act.put, List.setIfInBounds_toArray, List.set_cons_zero, List.set_cons_succ]
              refine wpAnyH_ready (rs := [13]) (by kernel_rfl) (by simp) ?_
              refine AllReadyH.cons (o := _) rfl (fun K hK => ?_) AllReadyH.nil
              try simp only [List.getElem_toArray, List.getElem_cons_succ, List.getElem_cons_zero]
              go_simp
              refine hK.out _ _ cn (fun hHeld => ?_)
              clear hK K
              try simp only [Act.put, List.setIfInBounds_toArray, List.set_cons_zero, List.set_cons_succ]
              refine wpAnyH_ready (rs := [14]) (by kernel_rfl) (by simp) ?_
              refine AllReadyH.cons (o := _) rfl (fun K hK => ?_) AllReadyH.nil
              try simp only [List.getElem_toArray, List.getElem_cons_succ, List.getElem_cons_zero]
              go_simp
              refine hK.out _ _ cn (fun hHeld => ?_)
              clear hK K
              try simp only [Act.put, List.setIfInBounds_toArray, List.set_cons_zero, List.set_cons_succ]
              refine wpAnyH_ready (rs := [15]) (by kernel_rfl) (by simp) ?_
              refine AllReadyH.cons (o := _) rfl (fun K hK => ?_) AllReadyH.nil
              try simp only [List.getElem_toArray, List.getElem_cons_succ, List.getElem_cons_zero]
              go_simp
              refine hK.out _ _ cn (fun hHeld => ?_)
              clear hK K
              try simp only [Act.put, List.setIfInBounds_toArray, List.set_cons_zero, List.set_cons_succ]
              refine wpAnyH_done (by kernel_rfl) ?_ _
              go_wp2
              go_roundw
              case rel => exact ⟨i + 1, by first | rfl | simp, by go_num, by omega, HW⟩
              case measure => simp [intOf]; omega
            · have hie : i = 26 := by omega
              subst hie
              have d1 : decide (((26 : Nat) : Int) < 26) = false := by decide
              have c0 : wr.cell? ⟨g, 0, none⟩ = some (.string ⟨#[115, 104, 97, 50, 50, 52]⟩) := (HN.out.below HW.out).cell 0 [115, 104, 97, 50, 50, 52] rfl
              have c25 : wr.cell? ⟨g, 25, none⟩ = some (.string ⟨#[116, 105, 109, 101, 83, 116, 97, 109, 112, 105, 110, 103]⟩) := (HN.out.below HW.out).cell 25 [116, 105, 109, 101, 83, 116, 97, 109, 112, 105, 110, 103] rfl
              clear hlt hi HW HN HB8
              have H0 := Lib.hid (Reads.litO .u64 wr 36 [0, 0] #[.int .u64 0, .int .u64 0] 2 rfl rfl (by decide))
              have HB := Lib.hid (HB.out.alloc HB.out.size (.cells #[.int .u64 0, .int .u64 0] 36))
              go_wp2_with fail
              refine (form_yes [0] _ 2 2 [0, 0] _ H0.out (by decide) (by kernel_rfl)).mono ?_
              rintro e wf0 ⟨rfl, hb⟩
              have HB := Lib.hid (HB.out.trans (hb.mono HB.out.size))
              clear hb H0
              have H0 := Lib.hid (Reads.litO .u64 wf0 36 [0, 39] #[.int .u64 0, .int .u64 39] 2 rfl rfl (by decide))
              have HB := Lib.hid (HB.out.alloc HB.out.size (.cells #[.int .u64 0, .int .u64 39] 36))
              go_wp2_with fail
              refine (form_yes [39] _ 2 2 [0, 39] _ H0.out (by decide) (by kernel_rfl)).mono ?_
              rintro e wf1 ⟨rfl, hb⟩
              have HB := Lib.hid (HB.out.trans (hb.mono HB.out.size))
              clear hb H0
              have H0 := Lib.hid (Reads.litO .u64 wf1 36 [1, 0] #[.int .u64 1, .int .u64 0] 2 rfl rfl (by decide))
              have HB := Lib.hid (HB.out.alloc HB.out.size (.cells #[.int .u64 1, .int .u64 0] 36))
              go_wp2_with fail
              refine (form_yes [40] _ 2 2 [1, 0] _ H0.out (by decide) (by kernel_rfl)).mono ?_
              rintro e wf2 ⟨rfl, hb⟩
              have HB := Lib.hid (HB.out.trans (hb.mono HB.out.size))
              clear hb H0
              have H0 := Lib.hid (Reads.litO .u64 wf2 36 [2, 0] #[.int .u64 2, .int .u64 0] 2 rfl rfl (by decide))
              have HB := Lib.hid (HB.out.alloc HB.out.size (.cells #[.int .u64 2, .int .u64 0] 36))
              go_wp2_with fail
              refine (form_yes [80] _ 2 2 [2, 0] _ H0.out (by decide) (by kernel_rfl)).mono ?_
              rintro e wf3 ⟨rfl, hb⟩
              have HB := Lib.hid (HB.out.trans (hb.mono HB.out.size))
              clear hb H0
              clear c0 c25
              go_wp2_with fail
              refine (named_any [100, 97, 116, 97] _ (HL0.out.below HB.out) (HK0.out.below HB.out)).mono ?_
              rintro e wg ⟨⟨ya, yn, yc, rfl, hv⟩, hb⟩
              rw [named_data] at hv
              have HB := Lib.hid (HB.out.trans (hb.mono HB.out.size))
              have cx : (convert 38 9 (.slice ya yn yc)).run Tryd.prog wg = .ok (.string ⟨#[42, 134, 72, 134, 247, 13, 1, 7, 1]⟩) wg := convS hv.reads (by decide)
              have cv1 := Joins.run_convert_bytes_const_at (P := Tryd.prog) wg 38 5 #[.int .u8 43, .int .u8 6, .int .u8 1, .int .u8 5, .int .u8 5, .int .u8 7, .int .u8 3, .int .u8 8] 8 8 wg.heap.size rfl Tryd.underlying38 Tryd.underlying5
              simp only [List.size_toArray, List.length_cons, List.length_nil, Nat.reduceAdd] at cv1
              have HR := Lib.hid (reads_const wg 5 (8, 9) [43, 6, 1, 5, 5, 7, 3, 8] #[.int .u8 43, .int .u8 6, .int .u8 1, .int .u8 5, .int .u8 5, .int .u8 7, .int .u8 3, .int .u8 8] 8 rfl rfl (by decide))
              have HB := Lib.hid (HB.out.alloc HB.out.size (.cells #[.int .u8 43, .int .u8 6, .int .u8 1, .int .u8 5, .int .u8 5, .int .u8 7, .int .u8 3, .int .u8 8] 5 (8, 9)))
              clear hb hv
              go_wp2_with fail
              refine (name_any _ 8 8 [43, 6, 1, 5, 5, 7, 3, 8] _ HR.out (by decide) (by decide) (HL0.out.below HB.out) (HK0.out.below HB.out)).mono ?_
              rintro e wh ⟨rfl, hb⟩
              rw [name_stamp]
              have HB := Lib.hid (HB.out.trans (hb.mono HB.out.size))
              clear hb cv1 cx HR
              go_wp2_with fail
              refine (named_any [110, 111, 110, 101] _ (HL0.out.below HB.out) (HK0.out.below HB.out)).mono ?_
              rintro e wi ⟨⟨za, zn, zc, rfl, hv⟩, hb⟩
              rw [named_none] at hv
              have hzn := hv.cap.1
              rw [List.length_nil] at hzn
              subst hzn
              have HB := Lib.hid (HB.out.trans (hb.mono HB.out.size))
              clear hb hv
              go_wp2_with fail
              refine (name_any none 0 0 [] _ (Reads.none _ _) (by decide) (by decide) (HL0.out.below HB.out) (HK0.out.below HB.out)).mono ?_
              rintro e wj ⟨rfl, hb⟩
              rw [name_nil]
              have HB := Lib.hid (HB.out.trans (hb.mono HB.out.size))
              clear hb
              go_wp2
              go_ret
              exact ⟨rfl, HB.out⟩
end Go.Proofs.YtojphfkiblhhiaaDoor
