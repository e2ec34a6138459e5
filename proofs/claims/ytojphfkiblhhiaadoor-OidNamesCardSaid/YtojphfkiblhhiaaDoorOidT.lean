/-
  OID: the law OidTexts. (Written by wip/gen_oidT.py.)
-/
import Derived.Test.YtojphfkiblhhiaaDoorOidP
import Derived.Test.YtojphfkiblhhiaaDoorOidQ
import Derived.Test.YtojphfkiblhhiaaDoorOidG
namespace Go.Proofs.YtojphfkiblhhiaaDoor
open Go.RowKit
set_option maxRecDepth 100000

theorem ho64 : ∀ w : World, (sizeOf (Tryd.prog.elem 22)).run Tryd.prog w = .ok 1 w := fun _ => by kernel_rfl

set_option maxHeartbeats 4000000 in
theorem otexts_walk (la : Option Addr) (len cap : Nat) (l : List Nat) (s : List UInt8) (w : World) (hl : Reads .u64 w la len cap l) (hL : Libs w) :
    Calls Tryd.prog 3 #[.slice la len cap, .string ⟨s.toArray⟩] w fun e w' => e = .returned (.bool true) ∧ Below w.heap.size w w' := by
  have HL := Lib.hid hl
  have HLN := Lib.hid hl.length
  have HLB := Lib.hid hL
  have hb1 := hl.len_le
  unfold maxLen at hb1
  clear hl hL
  by_cases h1 : 100 < len
  · skip
    have d1 : decide ((100 : Int) < (len : Int)) = true := by simp; omega
    go_enter Tryd.func3, Tryd.ntmps3
    go_wp2
    go_ret
    exact ⟨rfl, Below.refl _ _⟩
  have d1 : decide ((100 : Int) < (len : Int)) = false := by simp; omega
  by_cases h2 : 500 < s.length
  · skip
    have d2 : decide ((500 : Int) < (s.length : Int)) = true := by simp; omega
    go_enter Tryd.func3, Tryd.ntmps3
    go_wp2
    go_ret
    exact ⟨rfl, Below.refl _ _⟩
  have d2 : decide ((500 : Int) < (s.length : Int)) = false := by simp; omega
  go_enter Tryd.func3, Tryd.ntmps3
  go_wp2_with fail
  refine (twinO_any la len cap l _ HL.out (by omega)).mono ?_
  rintro e wn ⟨⟨g, c, rfl, hv⟩, hb⟩
  have HO := Lib.hid hv
  have hcc := hv.cap.2
  have hc1 : len ≤ c := by omega
  unfold maxLen at hcc
  have sl0 := slice_up (some ⟨g, 0, none⟩) (len + 1) c len 22 hc1 (by kernel_rfl) ho64
  have HTK := Lib.hid (show (l ++ [77]).take len = l by rw [← HLN.out, List.take_left])
  clear hv
  have HB := Lib.hid hb
  clear hb
  go_wp2_with fail
  refine (text_any _ len c l _ (by have h9 := HO.out.reads.upto len (by omega); rw [HTK.out] at h9; exact h9) (HLB.out.below HB.out).tab).mono ?_
  rintro e wn ⟨rfl, hb⟩
  have HO := Lib.hid (HO.out.below hb)
  have HB := Lib.hid (HB.out.trans (hb.mono HB.out.size))
  clear hb
  go_wp2_with fail
  refine (reftext_any la len cap l _ (HL.out.below HB.out)).mono ?_
  rintro e wn ⟨rfl, hb⟩
  have HO := Lib.hid (HO.out.below hb)
  have HB := Lib.hid (HB.out.trans (hb.mono HB.out.size))
  clear hb
  go_wp2_with fail
  refine (parse_any s (by omega) _ (HLB.out.below HB.out)).mono ?_
  rintro e wn ⟨⟨pa, pn, pc, rfl, hv⟩, hb⟩
  have HP := Lib.hid hv
  have HO := Lib.hid (HO.out.below hb)
  clear hv
  have HB := Lib.hid (HB.out.trans (hb.mono HB.out.size))
  clear hb
  go_wp2_with fail
  refine (refparse_any s (by omega) _).mono ?_
  rintro e wn ⟨⟨ra, rn, rc, rfl, hv⟩, hb⟩
  have HR := Lib.hid hv
  have HO := Lib.hid (HO.out.below hb)
  have HP := Lib.hid (HP.out.below hb)
  clear hv
  have HB := Lib.hid (HB.out.trans (hb.mono HB.out.size))
  clear hb
  go_wp2_with fail
  refine (may_any la len cap l _ (HL.out.below HB.out)).mono ?_
  rintro e wn ⟨rfl, hb⟩
  have HO := Lib.hid (HO.out.below hb)
  have HP := Lib.hid (HP.out.below hb)
  have HR := Lib.hid (HR.out.below hb)
  have HB := Lib.hid (HB.out.trans (hb.mono HB.out.size))
  clear hb
  obtain ⟨t1, t2, ht⟩ : ∃ t1 t2, textR l = (t1, t2) := ⟨_, _, rfl⟩
  obtain ⟨q1, q2, hq⟩ : ∃ q1 q2, parseR s = (q1, q2) := ⟨_, _, rfl⟩
  rw [ht, hq]
  rw [hq] at HP HR
  dsimp only at HP HR ⊢
  clear ht hq
  have hce := Lib.hid (show checkO l = if OidOk l then 0 else 140 from rfl)
  have c7 := HO.out.cellAt HO.out.cap.1 len (by omega)
  have h77 : (l ++ [77])[len]?.getD 0 = 77 := by rw [← HLN.out]; simp
  rw [h77] at c7
  clear h77 c7
  go_wp2_with fail
  refine (same_self pa ra pn pc rn rc q1 _ HP.out.reads HR.out.reads).mono ?_
  rintro e wn ⟨rfl, hb⟩
  have HO := Lib.hid (HO.out.below hb)
  have HB := Lib.hid (HB.out.trans (hb.mono HB.out.size))
  clear hb
  clear HP HR
  by_cases hok : OidOk l
  · have hck := Lib.hid (show checkO l = 0 from if_pos hok)
    rw [decide_eq_true hok]
    clear hok hce
    go_wp2_with fail
    refine (check_any _ len c l _ (by have h9 := HO.out.reads.upto len (by omega); rw [HTK.out] at h9; exact h9)).mono ?_
    rintro e wn ⟨rfl, hb⟩
    rw [hck.out]
    have HO := Lib.hid (HO.out.below hb)
    have HB := Lib.hid (HB.out.trans (hb.mono HB.out.size))
    clear hb
    go_wp2_with fail
    refine (same_self _ la len c len cap l _ (by have h9 := HO.out.reads.upto len (by omega); rw [HTK.out] at h9; exact h9) (HL.out.below HB.out)).mono ?_
    rintro e wn ⟨rfl, hb⟩
    have HO := Lib.hid (HO.out.below hb)
    have HB := Lib.hid (HB.out.trans (hb.mono HB.out.size))
    clear hb
    have c7 := HO.out.cellAt HO.out.cap.1 len (by omega)
    have h77 : (l ++ [77])[len]?.getD 0 = 77 := by rw [← HLN.out]; simp
    rw [h77] at c7
    clear h77 sl0
    go_wp2
    go_ret
    exact ⟨rfl, HB.out⟩
  · have hck := Lib.hid (show checkO l = 140 from if_neg hok)
    rw [decide_eq_false hok]
    clear hok hce
    go_wp2_with fail
    refine (check_any _ len c l _ (by have h9 := HO.out.reads.upto len (by omega); rw [HTK.out] at h9; exact h9)).mono ?_
    rintro e wn ⟨rfl, hb⟩
    rw [hck.out]
    have HO := Lib.hid (HO.out.below hb)
    have HB := Lib.hid (HB.out.trans (hb.mono HB.out.size))
    clear hb
    go_wp2_with fail
    refine (same_self _ la len c len cap l _ (by have h9 := HO.out.reads.upto len (by omega); rw [HTK.out] at h9; exact h9) (HL.out.below HB.out)).mono ?_
    rintro e wn ⟨rfl, hb⟩
    have HO := Lib.hid (HO.out.below hb)
    have HB := Lib.hid (HB.out.trans (hb.mono HB.out.size))
    clear hb
    have c7 := HO.out.cellAt HO.out.cap.1 len (by omega)
    have h77 : (l ++ [77])[len]?.getD 0 = 77 := by rw [← HLN.out]; simp
    rw [h77] at c7
    clear h77 sl0
    go_wp2
    go_ret
    exact ⟨rfl, HB.out⟩
end Go.Proofs.YtojphfkiblhhiaaDoor
