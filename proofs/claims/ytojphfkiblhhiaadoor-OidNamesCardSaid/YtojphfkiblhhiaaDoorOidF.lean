/-
  OID: Parse.
-/
import Derived.Test.YtojphfkiblhhiaaDoorOidE
namespace Go.Proofs.YtojphfkiblhhiaaDoor
open Go.RowKit Go.Shelf
attribute [local go_sem] Oper.semAt_some
set_option maxRecDepth 100000

theorem str_inj {a b : List UInt8} : ((⟨a.toArray⟩ : ByteArray) = ⟨b.toArray⟩) ↔ a = b := ⟨fun h => by simpa using congrArg (fun x : ByteArray => x.data.toList) h, fun h => by rw [h]⟩

set_option maxHeartbeats 2000000 in
theorem parse_any (s : List UInt8) (hs : s.length ≤ 100000) (w : World) (hL : Libs w) :
    Calls Tryd.prog 10 #[.string ⟨s.toArray⟩] w fun e w' => RetsO .u64 36 w.heap.size w' (parseR s) e ∧ Below w.heap.size w w' := by
  obtain ⟨i0, hi, hz0, hz1, hz2⟩ := info_parts infoU64
  have HLB := Lib.hid hL
  have hsl := splitS_len s
  have HPL := Lib.hid hsl.2
  have hN := hsl.1
  clear hsl hL
  go_enter Tryd.func10, Tryd.ntmps10
  go_wp2_with fail
  refine (split_any s (by omega) _ HLB.out).mono ?_
  rintro e w1 ⟨rfl, hw1⟩
  have HW1 := Lib.hid hw1
  have hsz : w1.heap.size = w.heap.size + 1 := by rw [hw1, World.size_alloc]
  have HB1 := Lib.hid (show Below w.heap.size w w1 by rw [hw1]; exact (Below.refl _ _).alloc (Nat.le_refl _) _)
  have HC1 := Lib.hid (show ∀ (i : Nat) p, (splitS s)[i]? = some p → w1.cell? ⟨w.heap.size, i, none⟩ = some (.string ⟨p.toArray⟩) from fun i p hp => by
    rw [hw1, World.cell?_alloc_new, List.getElem?_toArray, List.getElem?_map, hp]
    rfl)
  clear hw1
  generalize hps : splitS s = ps at *
  have HPS := Lib.hid hps
  clear hps
  go_wp2_with fail
  go_loopw [4, 14] (fun bv iv wr => ∃ (i : Nat) (a n c : _) (L : List Nat), iv = .int .i64 (i : Int) ∧ i ≤ ps.length ∧ bv = .slice a n c ∧ n = i ∧ Hid (L.length = i ∧ OwnQ .u64 36 w1.heap.size wr (.slice a n c) L ∧ Spell (ps.take i) L) ∧ Hid (Below w1.heap.size w1 wr)) (fun _ iv _ => ps.length + 1 - (intOf iv).toNat)
  case atStart => exact ⟨0, none, 0, 0, [], rfl, by omega, rfl, rfl, Lib.hid ⟨rfl, OwnQ.nil _ _ _ _, rfl⟩, Lib.hid (Below.refl _ _)⟩
  case round =>
    obtain ⟨i, a, n, c, L, rfl, hin, rfl, hni, HO, HB⟩ := hrel
    subst hni
    have hBw := Lib.hid (HB1.out.trans (HB.out.mono HB1.out.size))
    by_cases hlt : n < ps.length
    · obtain ⟨p, hp⟩ : ∃ p, ps[n]? = some p := ⟨_, List.getElem?_eq_getElem hlt⟩
      have ci : wr.cell? ⟨w.heap.size, n, none⟩ = some (.string ⟨p.toArray⟩) := (HB.out.cell (p := ⟨w.heap.size, n, none⟩) (by show w.heap.size < w1.heap.size; omega)).trans (HC1.out n p hp)
      have hpl : p.length ≤ 100000 := Nat.le_trans (HPL.out p (List.mem_of_getElem? hp)) hs
      have HP := Lib.hid hp
      clear hp
      go_wp2_with fail
      refine (parseU_any p (by omega) wr (HLB.out.below hBw.out)).mono ?_
      rintro e w4 ⟨hre, hb4⟩
      have HB4 := Lib.hid (HB.out.trans (hb4.mono HB.out.size))
      have HBw4 := Lib.hid (hBw.out.trans (hb4.mono hBw.out.size))
      have HO4 := Lib.hid (HO.out.2.1.below hb4)
      have HLS := Lib.hid (show L.length = n ∧ Spell (ps.take n) L from ⟨HO.out.1, HO.out.2.2⟩)
      have hs4 := hb4.size
      have hs2 := HB.out.size
      clear hb4
      rcases hre with ⟨u, hu, rfl⟩ | ⟨hno, v, t, N, rfl⟩
      · have HU := Lib.hid hu
        clear hu
        have HO5 := Lib.hid (show w4.ownsRow w1.heap.size 36 1 (.slice a n c) n (L.map (num .u64)) from by
          have := HO4.out
          unfold OwnQ at this
          rw [HLS.out.1] at this
          exact this)
        go_wp2_with (at_builtin; go_loud (refine wpList_append_own_at _ rfl _ _ 22 rfl w1.heap.size 36 i0 (.int .u64 0) 1 8 Tryd.underlying22 hi hz0 hz1 hz2 rfl (by decide) _ _ _ rfl (World.ownsRow.alloc HO5.out _) ⟨w4.heap.size, 0, none⟩ 1 1 [.int .u64 (u : Int)] rfl rfl (cell_oneO _ _ _ _ (by simp)) (by simp [Value.oneCell']) (by unfold maxLen; omega) (by omega) (by simp; omega) ?_); intro v' w5 hown' hgrow _ hblk; obtain ⟨g', cap', rfl⟩ := ownsRow_succ hown'; have HW5 := Lib.hid hown'; have HB5 := Lib.hid ((appendedO HO5.out HB4.out.size hgrow).2.1 w1 HB4.out); clear hown' hgrow hblk)
        go_wp2
        go_roundw
        case rel =>
          refine ⟨n + 1, _, n + 1, cap', L ++ [u], by go_num, by omega, rfl, rfl, Lib.hid ⟨by rw [List.length_append, HLS.out.1]; rfl, ?_, ?_⟩, HB5⟩
          · unfold OwnQ
            rw [List.length_append, HLS.out.1, List.map_append]
            exact HW5.out
          · have := HLS.out.2
            unfold Spell at this ⊢
            rw [List.take_add_one, HP.out, Option.toList_some, List.map_append, this, List.map_append]
            simp [HU.out]
        case measure => simp [intOf]; omega
      · have HR := Lib.hid (no_text (s := s) (i := n) (p := p) (by rw [HPS.out]; exact HP.out) hno)
        clear hno
        go_wp2
        go_ret2
        exact ⟨⟨none, 0, 0, by rw [HR.out]; rfl, by rw [HR.out]; exact OwnQ.nil _ _ _ _⟩, HBw4.out⟩
    · have hie : n = ps.length := by omega
      have HSP := Lib.hid (show Spell ps L by
        have := HO.out.2.2
        rwa [List.take_of_length_le (by omega)] at this)
      obtain ⟨a2, cap2, hv2, hr2, -⟩ := HO.out.2.1.form
      have hlen := HO.out.1
      rw [hlen] at hv2 hr2
      cases hv2
      have HRD := Lib.hid hr2
      have HLN := Lib.hid hlen
      clear hr2 hie hlen
      go_wp2_with fail
      refine (text_any a n c L wr HRD.out (HLB.out.below hBw.out).tab).mono ?_
      rintro e w4 ⟨rfl, hb4⟩
      have HBw4 := Lib.hid (hBw.out.trans (hb4.mono hBw.out.size))
      have HO4 := Lib.hid (HO.out.2.1.below hb4)
      clear hb4
      by_cases hok : OidOk L
      · have hr := show textR L = (textO L, 0) from if_pos hok
        rw [hr]
        dsimp only
        by_cases hts : textO L = s
        · have HR := Lib.hid (parseR_yes (l := L) (s := s) ⟨hok, hts⟩)
          have hq : (textO L == s) = true := beq_iff_eq.2 hts
          clear hr hok hts
          go_wp2
          go_ret2
          exact ⟨⟨a, n, c, by rw [HR.out]; rfl, by rw [HR.out]; exact HO4.out.mono HB1.out.size⟩, HBw4.out⟩
        · have HR := Lib.hid (show parseR s = ([], 140) from parseR_no fun l hl => hts (by
            have h1 := spell_text hl
            rw [HPS.out] at h1
            rw [HSP.out.unique h1]
            exact hl.2))
          have hq : (textO L == s) = false := beq_eq_false_iff_ne.2 hts
          clear hr hok hts
          go_wp2
          go_ret2
          exact ⟨⟨none, 0, 0, by rw [HR.out]; rfl, by rw [HR.out]; exact OwnQ.nil _ _ _ _⟩, HBw4.out⟩
      · have hr := show textR L = ([], 140) from if_neg hok
        have HR := Lib.hid (show parseR s = ([], 140) from parseR_no fun l hl => hok (by
          have h1 := spell_text hl
          rw [HPS.out] at h1
          rw [HSP.out.unique h1]
          exact hl.1))
        rw [hr]
        clear hr hok
        go_wp2
        go_ret2
        exact ⟨⟨none, 0, 0, by rw [HR.out]; rfl, by rw [HR.out]; exact OwnQ.nil _ _ _ _⟩, HBw4.out⟩
end Go.Proofs.YtojphfkiblhhiaaDoor
