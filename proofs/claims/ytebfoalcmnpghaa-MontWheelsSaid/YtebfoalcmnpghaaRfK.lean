/-
  THE REFERENCE OF RATIO: Inverse of any two.
-/
import Derived.Test.YtebfoalcmnpghaaRfGs
namespace Go.Proofs.Ytebfoalcmnpghaa
open Go.RowKit
namespace rf

theorem ordR_le1 {M : Nat} (h : ¬ 2 ≤ M) : ∃ o : Int, o = ordR M 1 ∧ o ≤ 0 := ⟨_, rfl, by unfold ordR; split <;> (try split) <;> omega⟩

set_option maxRecDepth 100000 in
set_option maxHeartbeats 1000000 in
theorem inverse_s (x m : Value) (X M E : Nat) (w : World) (hx : NatS w x X) (hm : NatS w m M) (hE : E ≤ 19000) (hP : M < topM → M * M < 2 ^ E) :
    Calls Try.prog 45 #[x, m] w fun e w' => RetsQ2 .u32 41 w.heap.size w' (invR X M) e ∧ Below w.heap.size w w' := by
  have NX := Lib.hid hx
  have NM := Lib.hid hm
  by_cases hM : M < topM
  · by_cases hX : X < topN
    · by_cases h2 : 2 ≤ M
      · exact inverse_main x m X M E w hx hm hM hX h2 hE (hP hM)
      · have hr := Lib.hid (invR_none hM hX (fun h => h2 h.1))
        obtain ⟨o, ho, ho2⟩ := ordR_le1 h2
        have hO := Lib.hid ho
        have hmt := Lib.hid (show true = decide (X < topN ∧ M < topN) from (decide_eq_true ⟨hX, Nat.lt_of_lt_of_le hM topM_le⟩).symm)
        have hmo := Lib.hid (show true = decide (M < topM) from (decide_eq_true hM).symm)
        clear hx hm hM hX h2 hP hE ho
        go_enter Try.func45, Try.ntmps45
        go_wp2_with fail
        refine (may_s NX.out NM.out _ hmt.out).mono ?_
        rintro e w1 ⟨rfl, hb⟩
        have B1 := Lib.hid hb
        have NM1 := Lib.hid (NM.out.below hb)
        clear hb
        go_wp2_with fail
        refine (modulus_s NM1.out _ hmo.out).mono ?_
        rintro e w2 ⟨rfl, hb⟩
        have B2 := Lib.hid (B1.out.trans (hb.mono B1.out.size))
        have NM2 := Lib.hid (NM1.out.below hb)
        clear hb NM1 B1
        have HA := Lib.hid ((Below.refl w2.heap.size w2).alloc (Nat.le_refl _) (.cells #[.int .u32 1] 41))
        go_wp2_with fail
        refine (cmp_s (NM2.out.below HA.out) (NatS.one _ _) o hO.out).mono ?_
        rintro e w3 ⟨rfl, hb⟩
        have hb2 := HA.out.trans (hb.mono HA.out.size)
        have B3 := Lib.hid (B2.out.trans (hb2.mono B2.out.size))
        clear hb hb2 NM2 B2 HA
        go_wp2
        go_ret2
        exact ⟨⟨_, by rw [hr.out]; rfl, by rw [hr.out]; exact OwnQ.nil _ _ _ _⟩, B3.out⟩
    · have hr := Lib.hid (invR_no (x := X) (m := M) (fun h => hX h.2))
      have hmt := Lib.hid (show false = decide (X < topN ∧ M < topN) from (decide_eq_false (fun h => hX h.1)).symm)
      obtain ⟨r, hmo⟩ : ∃ r, r = decide (M < topM) := ⟨_, rfl⟩
      have hmo := Lib.hid hmo
      clear hx hm hM hX hP hE
      go_enter Try.func45, Try.ntmps45
      go_wp2_with fail
      refine (may_s NX.out NM.out _ hmt.out).mono ?_
      rintro e w1 ⟨rfl, hb⟩
      have B1 := Lib.hid hb
      have NM1 := Lib.hid (NM.out.below hb)
      clear hb
      go_wp2_with fail
      refine (modulus_s NM1.out _ hmo.out).mono ?_
      rintro e w2 ⟨rfl, hb⟩
      have B2 := Lib.hid (B1.out.trans (hb.mono B1.out.size))
      clear hb
      go_wp2
      go_ret2
      exact ⟨⟨_, by rw [hr.out]; rfl, by rw [hr.out]; exact OwnQ.nil _ _ _ _⟩, B2.out⟩
  · have hr := Lib.hid (invR_no (x := X) (m := M) (fun h => hM h.1))
    have hmo := Lib.hid (show false = decide (M < topM) from (decide_eq_false hM).symm)
    have hmt : ∃ r, r = decide (X < topN ∧ M < topN) := ⟨_, rfl⟩
    obtain ⟨r, hmt0⟩ := hmt
    have hmt := Lib.hid hmt0
    clear hmt0
    clear hx hm hM hP hE
    cases r
    all_goals
      go_enter Try.func45, Try.ntmps45
      go_wp2_with fail
      refine (may_s NX.out NM.out _ hmt.out).mono ?_
      rintro e w1 ⟨rfl, hb⟩
      have B1 := Lib.hid hb
      have NM1 := Lib.hid (NM.out.below hb)
      clear hb
      go_wp2_with fail
      refine (modulus_s NM1.out _ hmo.out).mono ?_
      rintro e w2 ⟨rfl, hb⟩
      have B2 := Lib.hid (B1.out.trans (hb.mono B1.out.size))
      clear hb
      go_wp2
      go_ret2
      exact ⟨⟨_, by rw [hr.out]; rfl, by rw [hr.out]; exact OwnQ.nil _ _ _ _⟩, B2.out⟩

end rf

end Go.Proofs.Ytebfoalcmnpghaa
