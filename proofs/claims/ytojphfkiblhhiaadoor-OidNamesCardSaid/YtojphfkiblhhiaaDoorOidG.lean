/-
  OID: the law OidBack. (Written by wip/gen_oidG.py.)
-/
import Derived.Test.YtojphfkiblhhiaaDoorOidF
import Derived.Test.YtojphfkiblhhiaaDoorOidA
namespace Go.Proofs.YtojphfkiblhhiaaDoor
open Go.RowKit
set_option maxRecDepth 100000

theorem parseR_cases (s : List UInt8) : (∃ l, OidOk l ∧ textO l = s ∧ parseR s = (l, 0)) ∨ parseR s = ([], 140) := by
  by_cases h : ∃ l, IsTextO l s
  · obtain ⟨l, hl⟩ := h
    exact .inl ⟨l, hl.1, hl.2, parseR_yes hl⟩
  · exact .inr (parseR_no fun l hl => h ⟨l, hl⟩)

theorem same_self (a a' : Option Addr) (n c n' c' : Nat) (l : List Nat) (w : World) (hl : Reads .u64 w a n c l) (hm : Reads .u64 w a' n' c' l) :
    Calls Tryd.prog 13 #[.slice a n c, .slice a' n' c'] w fun e w' => e = .returned (.bool true) ∧ Below w.heap.size w w' :=
  (same_any a a' n c n' c' l l w hl hm).mono fun e w' ⟨he, hb⟩ => ⟨by rw [he, decide_eq_true rfl], hb⟩

set_option maxHeartbeats 4000000 in
theorem oback_walk (la : Option Addr) (len cap : Nat) (l : List Nat) (s : List UInt8) (ba : Option Addr) (bn bc : Nat) (b : List Nat) (w : World) (hl : Reads .u64 w la len cap l) (hb0 : Reads .u8 w ba bn bc b) (hby : Byt b) (hL : Libs w) :
    Calls Tryd.prog 6 #[.slice la len cap, .string ⟨s.toArray⟩, .slice ba bn bc] w fun e w' => e = .returned (.bool true) ∧ Below w.heap.size w w' := by
  have HL := Lib.hid hl
  have HBI := Lib.hid hb0
  have HBY := Lib.hid hby
  have HLB := Lib.hid hL
  have hb1 := hl.len_le
  unfold maxLen at hb1
  have hb2 := hb0.len_le
  unfold maxLen at hb2
  clear hl hb0 hby hL
  by_cases h1 : 100 < len
  · skip
    have d1 : decide ((100 : Int) < (len : Int)) = true := by simp; omega
    go_enter Tryd.func6, Tryd.ntmps6
    go_wp2_with fail
    refine (alive_o _).mono ?_
    rintro e w1 ⟨rfl, hb⟩
    have HB := Lib.hid hb
    clear hb
    go_wp2
    go_ret
    exact ⟨rfl, HB.out⟩
  have d1 : decide ((100 : Int) < (len : Int)) = false := by simp; omega
  by_cases h2 : 500 < s.length
  · skip
    have d2 : decide ((500 : Int) < (s.length : Int)) = true := by simp; omega
    go_enter Tryd.func6, Tryd.ntmps6
    go_wp2_with fail
    refine (alive_o _).mono ?_
    rintro e w1 ⟨rfl, hb⟩
    have HB := Lib.hid hb
    clear hb
    go_wp2
    go_ret
    exact ⟨rfl, HB.out⟩
  have d2 : decide ((500 : Int) < (s.length : Int)) = false := by simp; omega
  by_cases h3 : 500 < bn
  · skip
    have d3 : decide ((500 : Int) < (bn : Int)) = true := by simp; omega
    go_enter Tryd.func6, Tryd.ntmps6
    go_wp2_with fail
    refine (alive_o _).mono ?_
    rintro e w1 ⟨rfl, hb⟩
    have HB := Lib.hid hb
    clear hb
    go_wp2
    go_ret
    exact ⟨rfl, HB.out⟩
  have d3 : decide ((500 : Int) < (bn : Int)) = false := by simp; omega
  go_enter Tryd.func6, Tryd.ntmps6
  go_wp2_with fail
  refine (alive_o _).mono ?_
  rintro e w1 ⟨rfl, hb⟩
  have HB := Lib.hid hb
  clear hb
  by_cases hok : OidOk l
  rotate_left
  · have hck := Lib.hid (show checkO l = 140 from if_neg hok)
    clear hok
    go_wp2_with fail
    refine (check_any la len cap l _ (HL.out.below HB.out)).mono ?_
    rintro e wn ⟨rfl, hb⟩
    rw [hck.out]
    have HB := Lib.hid (HB.out.trans (hb.mono HB.out.size))
    clear hb
    go_wp2_with fail
    refine (parse_any s (by omega) _ (HLB.out.below HB.out)).mono ?_
    rintro e wn ⟨⟨pa, pn, pc, rfl, hv⟩, hb⟩
    have HP := Lib.hid hv
    clear hv
    have HB := Lib.hid (HB.out.trans (hb.mono HB.out.size))
    clear hb
    go_wp2_with fail
    refine (read_o ba bn bc b _ (HBI.out.below HB.out) HBY.out (by omega)).mono ?_
    rintro e wn ⟨⟨ra, rn, rc, rfl, hv⟩, hb⟩
    have HR := Lib.hid hv
    have HP := Lib.hid (HP.out.below hb)
    clear hv
    have HB := Lib.hid (HB.out.trans (hb.mono HB.out.size))
    clear hb
    go_wp2_with fail
    refine (text_any pa pn pc (parseR s).1 _ HP.out.reads (HLB.out.below HB.out).tab).mono ?_
    rintro e wn ⟨rfl, hb⟩
    have HP := Lib.hid (HP.out.below hb)
    have HR := Lib.hid (HR.out.below hb)
    have HB := Lib.hid (HB.out.trans (hb.mono HB.out.size))
    clear hb
    go_wp2_with fail
    refine (bytes_any ra rn rc (readO b).1 _ HR.out.reads).mono ?_
    rintro e wn ⟨⟨xa, xn, xc, rfl, hv⟩, hb⟩
    have HX := Lib.hid hv
    clear hv
    have HB := Lib.hid (HB.out.trans (hb.mono HB.out.size))
    clear hb
    rcases parseR_cases s with ⟨P, hP, hPt, hPr⟩ | hPr
    · have HXX := Lib.hid HX.out
      have hT : textR P = (s, 0) := by unfold textR; rw [if_pos hP, hPt]
      rw [hPr]
      dsimp only
      rw [hT]
      dsimp only
      clear hT hP hPt hPr HP
      rcases readO_cases b with ⟨R, hR, hRt, hRr⟩ | ⟨-, hRr⟩
      · skip
        have hT : bytesR R = (b, 0) := by unfold bytesR; rw [if_pos hR, hRt]
        have HX := HX.out
        rw [hRr] at HX ⊢
        dsimp only at HX ⊢
        rw [hT] at HX ⊢
        dsimp only at HX ⊢
        have cvX := convB (HX.reads.bts HBY.out)
        have cvY := convB ((HBI.out.below HB.out).bts HBY.out)
        clear hT hR hRt hRr HR HX
        clear HXX
        go_wp2
        go_ret
        exact ⟨rfl, HB.out⟩
      · skip
        rw [hRr]
        dsimp only
        generalize (bytesR []).2 = bx at *
        clear hRr HR HX
        clear HXX
        go_wp2
        go_ret
        exact ⟨rfl, HB.out⟩
    · have HXX := Lib.hid HX.out
      rw [hPr]
      dsimp only
      generalize textR [] = tx at *
      clear hPr HP
      rcases readO_cases b with ⟨R, hR, hRt, hRr⟩ | ⟨-, hRr⟩
      · skip
        have hT : bytesR R = (b, 0) := by unfold bytesR; rw [if_pos hR, hRt]
        have HX := HX.out
        rw [hRr] at HX ⊢
        dsimp only at HX ⊢
        rw [hT] at HX ⊢
        dsimp only at HX ⊢
        have cvX := convB (HX.reads.bts HBY.out)
        have cvY := convB ((HBI.out.below HB.out).bts HBY.out)
        clear hT hR hRt hRr HR HX
        clear HXX
        go_wp2
        go_ret
        exact ⟨rfl, HB.out⟩
      · skip
        rw [hRr]
        dsimp only
        generalize (bytesR []).2 = bx at *
        clear hRr HR HX
        clear HXX
        go_wp2
        go_ret
        exact ⟨rfl, HB.out⟩
  have hck := Lib.hid (show checkO l = 0 from if_pos hok)
  have HT := Lib.hid (show textR l = (textO l, 0) from if_pos hok)
  have HBR := Lib.hid (show bytesR l = (bytesO l, 0) from if_pos hok)
  have HPA := Lib.hid (show parseR (textO l) = (l, 0) from parseR_yes ⟨hok, rfl⟩)
  have HRA := Lib.hid (readO_yes hok)
  have HTL := Lib.hid (text_len l hok.2.1 hok.2.2.1)
  have HBL := Lib.hid (show (bytesO l).length ≤ 1000 from by have := (bytesO_len l).2; have := hok.2.1; omega)
  clear hok
  go_wp2_with fail
  refine (check_any la len cap l _ (HL.out.below HB.out)).mono ?_
  rintro e wn ⟨rfl, hb⟩
  rw [hck.out]
  have HB := Lib.hid (HB.out.trans (hb.mono HB.out.size))
  clear hb
  go_wp2_with fail
  refine (text_any la len cap l _ (HL.out.below HB.out) (HLB.out.below HB.out).tab).mono ?_
  rintro e wn ⟨rfl, hb⟩
  rw [HT.out]
  dsimp only
  have HB := Lib.hid (HB.out.trans (hb.mono HB.out.size))
  clear hb
  go_wp2_with fail
  refine (bytes_any la len cap l _ (HL.out.below HB.out)).mono ?_
  rintro e wn ⟨⟨xa, xn, xc, rfl, hv⟩, hb⟩
  rw [HBR.out] at hv ⊢
  dsimp only at hv ⊢
  have HX := Lib.hid hv
  have hxn := Lib.hid HX.out.cap.1
  clear hv
  have HB := Lib.hid (HB.out.trans (hb.mono HB.out.size))
  clear hb
  go_wp2_with fail
  refine (parse_any (textO l) (Nat.le_trans HTL.out (by decide)) _ (HLB.out.below HB.out)).mono ?_
  rintro e wn ⟨⟨pa, pn, pc, rfl, hv⟩, hb⟩
  rw [HPA.out] at hv ⊢
  dsimp only at hv ⊢
  have HP := Lib.hid hv
  have HX := Lib.hid (HX.out.below hb)
  clear hv
  have HB := Lib.hid (HB.out.trans (hb.mono HB.out.size))
  clear hb
  go_wp2_with fail
  refine (read_o xa xn xc (bytesO l) _ HX.out.reads (bytesO_byt l) (by rw [hxn.out]; exact Nat.le_trans HBL.out (by decide))).mono ?_
  rintro e wn ⟨⟨ra, rn, rc, rfl, hv⟩, hb⟩
  rw [HRA.out] at hv ⊢
  dsimp only at hv ⊢
  have HR := Lib.hid hv
  have HP := Lib.hid (HP.out.below hb)
  clear hv
  have HB := Lib.hid (HB.out.trans (hb.mono HB.out.size))
  clear hb
  clear hxn HX
  generalize textO l = TL at *
  go_wp2_with fail
  refine (same_self pa la pn pc len cap l _ HP.out.reads (HL.out.below HB.out)).mono ?_
  rintro e wn ⟨rfl, hb⟩
  have HR := Lib.hid (HR.out.below hb)
  have HB := Lib.hid (HB.out.trans (hb.mono HB.out.size))
  clear hb
  go_wp2_with fail
  refine (same_self ra la rn rc len cap l _ HR.out.reads (HL.out.below HB.out)).mono ?_
  rintro e wn ⟨rfl, hb⟩
  have HB := Lib.hid (HB.out.trans (hb.mono HB.out.size))
  clear hb
  clear HP HR HT HBR HPA HRA HTL HBL
  go_wp2_with fail
  refine (parse_any s (by omega) _ (HLB.out.below HB.out)).mono ?_
  rintro e wn ⟨⟨pa, pn, pc, rfl, hv⟩, hb⟩
  have HP := Lib.hid hv
  clear hv
  have HB := Lib.hid (HB.out.trans (hb.mono HB.out.size))
  clear hb
  go_wp2_with fail
  refine (read_o ba bn bc b _ (HBI.out.below HB.out) HBY.out (by omega)).mono ?_
  rintro e wn ⟨⟨ra, rn, rc, rfl, hv⟩, hb⟩
  have HR := Lib.hid hv
  have HP := Lib.hid (HP.out.below hb)
  clear hv
  have HB := Lib.hid (HB.out.trans (hb.mono HB.out.size))
  clear hb
  go_wp2_with fail
  refine (text_any pa pn pc (parseR s).1 _ HP.out.reads (HLB.out.below HB.out).tab).mono ?_
  rintro e wn ⟨rfl, hb⟩
  have HP := Lib.hid (HP.out.below hb)
  have HR := Lib.hid (HR.out.below hb)
  have HB := Lib.hid (HB.out.trans (hb.mono HB.out.size))
  clear hb
  go_wp2_with fail
  refine (bytes_any ra rn rc (readO b).1 _ HR.out.reads).mono ?_
  rintro e wn ⟨⟨xa, xn, xc, rfl, hv⟩, hb⟩
  have HX := Lib.hid hv
  clear hv
  have HB := Lib.hid (HB.out.trans (hb.mono HB.out.size))
  clear hb
  rcases parseR_cases s with ⟨P, hP, hPt, hPr⟩ | hPr
  · have HXX := Lib.hid HX.out
    have hT : textR P = (s, 0) := by unfold textR; rw [if_pos hP, hPt]
    rw [hPr]
    dsimp only
    rw [hT]
    dsimp only
    clear hT hP hPt hPr HP
    rcases readO_cases b with ⟨R, hR, hRt, hRr⟩ | ⟨-, hRr⟩
    · skip
      have hT : bytesR R = (b, 0) := by unfold bytesR; rw [if_pos hR, hRt]
      have HX := HX.out
      rw [hRr] at HX ⊢
      dsimp only at HX ⊢
      rw [hT] at HX ⊢
      dsimp only at HX ⊢
      have cvX := convB (HX.reads.bts HBY.out)
      have cvY := convB ((HBI.out.below HB.out).bts HBY.out)
      clear hT hR hRt hRr HR HX
      clear HXX
      go_wp2
      go_ret
      exact ⟨rfl, HB.out⟩
    · skip
      rw [hRr]
      dsimp only
      generalize (bytesR []).2 = bx at *
      clear hRr HR HX
      clear HXX
      go_wp2
      go_ret
      exact ⟨rfl, HB.out⟩
  · have HXX := Lib.hid HX.out
    rw [hPr]
    dsimp only
    generalize textR [] = tx at *
    clear hPr HP
    rcases readO_cases b with ⟨R, hR, hRt, hRr⟩ | ⟨-, hRr⟩
    · skip
      have hT : bytesR R = (b, 0) := by unfold bytesR; rw [if_pos hR, hRt]
      have HX := HX.out
      rw [hRr] at HX ⊢
      dsimp only at HX ⊢
      rw [hT] at HX ⊢
      dsimp only at HX ⊢
      have cvX := convB (HX.reads.bts HBY.out)
      have cvY := convB ((HBI.out.below HB.out).bts HBY.out)
      clear hT hR hRt hRr HR HX
      clear HXX
      go_wp2
      go_ret
      exact ⟨rfl, HB.out⟩
    · skip
      rw [hRr]
      dsimp only
      generalize (bytesR []).2 = bx at *
      clear hRr HR HX
      clear HXX
      go_wp2
      go_ret
      exact ⟨rfl, HB.out⟩
end Go.Proofs.YtojphfkiblhhiaaDoor
