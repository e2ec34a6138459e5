/-
  OID: THE REFERENCE's Parse, walked. (Written by wip/gen_oidP.py.)
-/
import Derived.Test.YtojphfkiblhhiaaDoorOidM
import Derived.Test.YtojphfkiblhhiaaDoorOidH
namespace Go.Proofs.YtojphfkiblhhiaaDoor
open Go.RowKit
set_option maxRecDepth 100000

set_option maxHeartbeats 2000000 in
theorem refparse_any (s : List UInt8) (hs : s.length ≤ 100000) (w : World) :
    Calls Tryd.prog 11 #[.string ⟨s.toArray⟩] w fun e w' => RetsO .u64 36 w.heap.size w' (parseR s) e ∧ Below w.heap.size w w' := by
  obtain ⟨i0, hi, hz0, hz1, hz2⟩ := info_parts infoU64
  go_enter Tryd.func11, Tryd.ntmps11
  go_wp2_with fail
  go_loopw [4, 5, 6] (fun ov fv iv wr => ∃ (i st : Nat) (a : Option Addr) (n c : Nat) (L : List Nat), iv = .int .i64 (i : Int) ∧ fv = .int .i64 (st : Int) ∧ ov = .slice a n c ∧ i ≤ s.length + 1 ∧ st ≤ s.length + 1 ∧ n ≤ i ∧ Hid (OwnQ .u64 36 w.heap.size wr (.slice a n c) L) ∧ Hid (WayO s L st i) ∧ Hid (Below w.heap.size w wr)) (fun _ _ iv _ => s.length + 2 - (intOf iv).toNat)
  case atStart => exact ⟨0, 0, none, 0, 0, [], rfl, rfl, rfl, by omega, by omega, by omega, Lib.hid (OwnQ.nil _ _ _ _), Lib.hid (.inl ⟨by omega, ⟨Nat.le_refl _, fun c h => by simp at h, rfl, fun x h => by cases h⟩⟩), Lib.hid (Below.refl _ _)⟩
  case round =>
    obtain ⟨i, st, a, n, c, L, rfl, rfl, rfl, hi1, hst, hni, HO, HW, HB⟩ := hrel
    have hln := Lib.hid HO.out.cap.1
    by_cases hend : i = s.length + 1
    · have hT := Lib.hid (show (OidOk L → parseR s = (L, 0)) ∧ (¬ OidOk L → parseR s = ([], 140)) from by
        rcases HW.out with ⟨h1, -⟩ | ⟨-, h2, h3⟩
        · omega
        · exact told_all h2 h3)
      have d1 : decide ((i : Int) ≤ (s.length : Int)) = false := decide_eq_false (by omega)
      have d2 : decide (i ≤ s.length) = false := decide_eq_false (by omega)
      clear hend
      go_wp2_with fail
      refine (may_any a n c L _ HO.out.reads).mono ?_
      rintro e w1 ⟨rfl, hb⟩
      have HB1 := Lib.hid (HB.out.trans (hb.mono HB.out.size))
      have HO1 := Lib.hid (HO.out.below hb)
      clear hb
      by_cases hok : OidOk L
      · have hr := Lib.hid (hT.out.1 hok)
        rw [decide_eq_true hok]
        clear hok
        go_wp2
        go_ret2
        exact ⟨⟨a, n, c, by rw [hr.out]; rfl, by rw [hr.out]; exact HO1.out⟩, HB1.out⟩
      · have hr := Lib.hid (hT.out.2 hok)
        rw [decide_eq_false hok]
        clear hok
        go_wp2
        go_ret2
        exact ⟨⟨none, 0, 0, by rw [hr.out]; rfl, by rw [hr.out]; exact OwnQ.nil _ _ _ _⟩, HB1.out⟩
    have d1 : decide ((i : Int) ≤ (s.length : Int)) = true := decide_eq_true (by omega)
    have d2 : decide (i ≤ s.length) = true := decide_eq_true (by omega)
    have HF := Lib.hid (show FarO s L st i from by
      rcases HW.out with ⟨-, h1⟩ | ⟨h2, -⟩
      · exact h1
      · exact absurd h2 hend)
    have hsi := HF.out.le
    clear HW
    obtain ⟨pw, hpw⟩ : ∃ pw, (s.take i).drop st = pw := ⟨_, rfl⟩
    have hcut := run_cutO s st i pw hsi (by omega) hpw
    have hpl : pw.length ≤ 100000 := by rw [← hpw, List.length_drop, List.length_take]; omega
    have HPW := Lib.hid hpw
    clear hpw
    by_cases hlt : i < s.length
    · obtain ⟨ch, hc⟩ : ∃ ch, s[i]? = some ch := ⟨_, List.getElem?_eq_getElem hlt⟩
      have hx := run_strO s (i : Int) i ch rfl hc
      have HC := Lib.hid hc
      clear hc
      have d3 : decide ((i : Int) < (s.length : Int)) = true := decide_eq_true (by omega)
      have d4 : decide (i < s.length) = true := decide_eq_true hlt
      by_cases h46 : ch = 46
      · have d5 : ((ch.toNat : Int) == 46) = true := beq_iff_eq.2 (by rw [h46]; rfl)
        have d6 : (ch.toNat == 46) = true := beq_iff_eq.2 (by rw [h46]; rfl)
        have d7 : ((ch.toNat : Int) != 46) = false := by rw [bne, d5]; rfl
        have d8 : (ch.toNat != 46) = false := by rw [bne, d6]; rfl
        have H46 := Lib.hid h46
        clear h46
        go_wp2_with fail
        refine (number_any pw (by omega) _).mono ?_
        rintro e w1 ⟨⟨v, t, rfl, hv⟩, hb⟩
        replace HB := Lib.hid (HB.out.trans (hb.mono HB.out.size))
        replace HO := Lib.hid (HO.out.below hb)
        clear hb hcut
        rcases hv with ⟨rfl, hv⟩ | ⟨rfl, hv⟩
        · have HS := Lib.hid hv
          have hv64 : v < 18446744073709551616 := Nat.lt_trans hv.1 (by decide)
          have HWY := Lib.hid (show WayO s (L ++ [v]) (i + 1) (i + 1) from .inl ⟨by omega, HF.out.told HC.out H46.out (by rw [HPW.out]; exact HS.out)⟩)
          have hLb : L.length ≤ 200000 := by have := hln.out; omega
          clear hv
          go_wp2_with (at_builtin; refine wpList_append_q .u64 _ rfl _ _ 22 rfl w.heap.size 36 8 i0 Tryd.underlying22 hi hz0 hz1 hz2 (by decide) _ L rfl (HO.out.alloc _) _ _ _ [v] rfl (Reads.one .u64 _ _ _ _ rfl) (by simp <;> omega) (by have := HB.out.size; simp; omega) ?_; intro v' w5 hown2 hgrow; obtain ⟨ta, tn, tc, rfl, -, hown2⟩ := hown2.slice; have HO5 := Lib.hid hown2; have Hw5 := Lib.hid (hgrow w (HB.out.alloc HB.out.size _)); clear hown2 hgrow)
          go_wp2
          go_roundw
          case rel => exact ⟨i + 1, i + 1, ta, tn, tc, L ++ [v], by go_num, by go_num, rfl, by omega, by omega, by have := HO5.out.cap.1; have := hln.out; simp at *; omega, HO5, HWY, Hw5⟩
          case measure => simp [intOf] <;> omega
        · have hr := Lib.hid (show parseR s = ([], 140) from no_word (p := pw) (by rw [HF.out.word HC.out H46.out, HPW.out]; simp) hv)
          clear hv
          go_wp2
          go_ret2
          exact ⟨⟨none, 0, 0, by rw [hr.out]; rfl, by rw [hr.out]; exact OwnQ.nil _ _ _ _⟩, HB.out⟩
      · have e0 : ch.toNat ≠ 46 := fun e => h46 (UInt8.toNat_inj.1 e)
        have d5 : ((ch.toNat : Int) == 46) = false := beq_eq_false_iff_ne.2 (by omega)
        have d6 : (ch.toNat == 46) = false := beq_eq_false_iff_ne.2 e0
        have d7 : ((ch.toNat : Int) != 46) = true := by rw [bne, d5]; rfl
        have d8 : (ch.toNat != 46) = true := by rw [bne, d6]; rfl
        have HWY := Lib.hid (show WayO s L st (i + 1) from .inl ⟨by omega, HF.out.next HC.out h46⟩)
        clear h46 e0 hcut
        go_wp2
        go_roundw
        case rel => exact ⟨i + 1, st, a, n, c, L, by go_num, rfl, rfl, by omega, by omega, by omega, HO, HWY, HB⟩
        case measure => simp [intOf]; omega
    · have hie : i = s.length := by omega
      subst hie
      have d3 : decide ((s.length : Int) < (s.length : Int)) = false := decide_eq_false (by omega)
      have d4 : decide (s.length < s.length) = false := decide_eq_false (by omega)
      clear hend hlt
      go_wp2_with fail
      refine (number_any pw (by omega) _).mono ?_
      rintro e w1 ⟨⟨v, t, rfl, hv⟩, hb⟩
      replace HB := Lib.hid (HB.out.trans (hb.mono HB.out.size))
      replace HO := Lib.hid (HO.out.below hb)
      clear hb hcut
      rcases hv with ⟨rfl, hv⟩ | ⟨rfl, hv⟩
      · have HS := Lib.hid hv
        have hv64 : v < 18446744073709551616 := Nat.lt_trans hv.1 (by decide)
        have HWY := Lib.hid (show WayO s (L ++ [v]) (s.length + 1) (s.length + 1) from HF.out.ends (by rw [HPW.out]; exact HS.out))
        have hLb : L.length ≤ 200000 := by have := hln.out; omega
        clear hv
        go_wp2_with (at_builtin; refine wpList_append_q .u64 _ rfl _ _ 22 rfl w.heap.size 36 8 i0 Tryd.underlying22 hi hz0 hz1 hz2 (by decide) _ L rfl (HO.out.alloc _) _ _ _ [v] rfl (Reads.one .u64 _ _ _ _ rfl) (by simp <;> omega) (by have := HB.out.size; simp; omega) ?_; intro v' w5 hown2 hgrow; obtain ⟨ta, tn, tc, rfl, -, hown2⟩ := hown2.slice; have HO5 := Lib.hid hown2; have Hw5 := Lib.hid (hgrow w (HB.out.alloc HB.out.size _)); clear hown2 hgrow)
        go_wp2
        go_roundw
        case rel => exact ⟨s.length + 1, s.length + 1, ta, tn, tc, L ++ [v], by go_num, by go_num, rfl, by omega, by omega, by have := HO5.out.cap.1; have := hln.out; simp at *; omega, HO5, HWY, Hw5⟩
        case measure => simp [intOf] <;> omega
      · have hr := Lib.hid (show parseR s = ([], 140) from no_word (p := pw) (by have h8 := HF.out.last; rw [HPW.out] at h8; rw [h8]; simp) hv)
        clear hv
        go_wp2
        go_ret2
        exact ⟨⟨none, 0, 0, by rw [hr.out]; rfl, by rw [hr.out]; exact OwnQ.nil _ _ _ _⟩, HB.out⟩
end Go.Proofs.YtojphfkiblhhiaaDoor
