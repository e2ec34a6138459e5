/-
  THE LAW PrimesRises, but for alive, which is asked of a hypothesis. (Written by wip/gen_priS.py.)
-/
import Derived.Test.YtfeajcgcjpngkaaPriL
import Derived.Test.YtfeajcgcjpngkaaPriN
namespace Go.Proofs.Ytfeajcgcjpngkaa
open Go.RowKit

theorem topP {n : Nat} (h : n < 4294967296 ^ 20) : n + 1 < topN := by
  have e : topN = 4294967296 ^ 20 * 4294967296 ^ 236 := by unfold topN; rw [← Nat.pow_add]
  have h2 : 4294967296 ^ 1 ≤ 4294967296 ^ 236 := Nat.pow_le_pow_right (by decide) (by decide)
  have h3 := Nat.mul_le_mul_left (4294967296 ^ 20) h2
  rw [← e] at h3
  generalize 4294967296 ^ 20 = t at *
  omega
theorem ltP {a : Option Addr} {n c m : Nat} {w : World} (h : NatAt w (.slice a n c) m) (k : Nat) (hn : n ≤ k) : m < 4294967296 ^ k := by
  obtain ⟨a', n', c', l, e, hr, hl, rfl⟩ := h
  cases e
  have h1 := valB_lt (b := 4294967296) (l := l) (by decide) hl
  rw [hr.length] at h1
  exact Nat.lt_of_lt_of_le h1 (Nat.pow_le_pow_right (by decide) hn)
/-- The chapter's first examples hold, in every memory. -/
def AliveP : Prop := ∀ w : World, Calls Try.prog 22 #[] w fun e w' => e = .returned (.bool true) ∧ Below w.heap.size w w'

set_option maxRecDepth 100000 in
set_option maxHeartbeats 4000000 in
theorem rises2 (hal : AliveP) (a : Option Addr) (nx cx : Nat) (a' : Option Addr) (ny cy : Nat) (X Y : Nat) (w : World) (hx : NatAt w (.slice a nx cx) X) (hy : NatAt w (.slice a' ny cy) Y) :
    Calls Try.prog 9 #[.slice a nx cx, .slice a' ny cy, .bool false] w fun e w' => e = .returned (.bool true) ∧ Below w.heap.size w w' := by
  have HX := Lib.hid hx
  have HY := Lib.hid hy
  have HAL := Lib.hid (hal w)
  have F := Lib.hid (Below.refl w.heap.size w)
  by_cases h1 : 20 < nx
  · clear hx hy
    go_enter Try.func9, Try.ntmps9
    go_wp2_with fail
    refine HAL.out.mono ?_
    rintro e w1 ⟨rfl, hb⟩
    replace F := Lib.hid hb
    clear hb
    go_wp2
    all_goals go_ret
    all_goals exact ⟨rfl, F.out⟩
  by_cases h2 : 20 < ny
  · clear hx hy
    go_enter Try.func9, Try.ntmps9
    go_wp2_with fail
    refine HAL.out.mono ?_
    rintro e w1 ⟨rfl, hb⟩
    replace F := Lib.hid hb
    clear hb
    go_wp2
    all_goals go_ret
    all_goals exact ⟨rfl, F.out⟩
  have hX1 := topP (ltP hx 20 (by omega))
  have hY1 := topP (ltP hy 20 (by omega))
  have TX1 := Lib.hid hX1
  have TX := Lib.hid (show X < topN by omega)
  have TY := Lib.hid (show Y < topN by omega)
  have hmono : ∀ S T, S ≤ T → rootN 2 S ≤ rootN 2 T := fun S T h => rootN_mono (by decide) h
  have hcs : ∃ o1 o2 : Int, o1 = ordN (rootN 2 X) (rootN 2 Y) ∧ o2 = ordN X Y ∧ ((o1 = -1 ∧ o2 = -1) ∨ (o1 = 0 ∧ o2 = -1) ∨ (o1 = 0 ∧ o2 = 0) ∨ (o1 = 0 ∧ o2 = 1) ∨ (o1 = 1 ∧ o2 = 1)) := by
    refine ⟨_, _, rfl, rfl, ?_⟩
    have m1 := hmono X Y
    have m2 := hmono Y X
    rcases ordN_cases X Y with h | h | h <;> rcases ordN_cases (rootN 2 X) (rootN 2 Y) with g | g | g <;> omega
  have hnx := rootN_next (k := 2) X (by decide)
  have TA := Lib.hid (show rootN 2 X + 1 < topN from by
    have := (rootN_is (k := 2) X (by decide)).le (by decide)
    omega)
  obtain ⟨o1, o2, ho1, ho2, hoo⟩ := hcs
  have HO1 := Lib.hid ho1
  have HO2 := Lib.hid ho2
  have hcc : ∃ o3 : Int, o3 = ordN (rootN 2 (X + 1)) (rootN 2 X) ∧ (o3 = 0 ∨ (o3 = 1 ∧ 0 = ordN (rootN 2 (X + 1)) (rootN 2 X + 1))) := by
    refine ⟨_, rfl, ?_⟩
    rcases hnx with h | h
    · exact .inl (ordN_eq h)
    · exact .inr ⟨ordN_gt (by omega), (ordN_eq h).symm⟩
  obtain ⟨o3, ho3, hoc⟩ := hcc
  have HO3 := Lib.hid ho3
  clear hx hy hX1 hY1 hmono ho1 ho2 hnx ho3
  have HOC := Lib.hid hoc
  have HOO := Lib.hid hoo
  clear hoc hoo
  go_enter Try.func9, Try.ntmps9
  go_wp2_with fail
  refine (HAL.out).mono ?_
  rintro e w1 ⟨rfl, hb⟩
  replace HX := Lib.hid (HX.out.below hb)
  replace HY := Lib.hid (HY.out.below hb)
  replace F := Lib.hid (F.out.trans (hb.mono F.out.size))
  clear hb
  go_wp2_with fail
  refine (root_ok _ X 2 _ HX.out TX.out (.inl rfl)).mono ?_
  rintro e w2 ⟨⟨v1, rfl, ho⟩, hb⟩
  replace HX := Lib.hid (HX.out.below hb)
  replace HY := Lib.hid (HY.out.below hb)
  have RA := Lib.hid (NatC.of ho)
  replace F := Lib.hid (F.out.trans (hb.mono F.out.size))
  clear hb
  go_wp2_with fail
  refine (root_ok _ Y 2 _ HY.out TY.out (.inl rfl)).mono ?_
  rintro e w3 ⟨⟨v2, rfl, ho⟩, hb⟩
  replace HX := Lib.hid (HX.out.below hb)
  replace HY := Lib.hid (HY.out.below hb)
  replace RA := Lib.hid (RA.out.below hb)
  have RB := Lib.hid (NatC.of ho)
  replace F := Lib.hid (F.out.trans (hb.mono F.out.size))
  clear hb
  go_wp2_with fail
  refine (of_c 1 1 rfl _ (by decide)).mono ?_
  rintro e w4 ⟨⟨v3, rfl, ho⟩, hb⟩
  replace HX := Lib.hid (HX.out.below hb)
  replace HY := Lib.hid (HY.out.below hb)
  replace RA := Lib.hid (RA.out.below hb)
  replace RB := Lib.hid (RB.out.below hb)
  have ON := Lib.hid (ho)
  replace F := Lib.hid (F.out.trans (hb.mono F.out.size))
  clear hb
  go_wp2_with fail
  refine (add_nat HX.out ON.out.at TX1.out).mono ?_
  rintro e w5 ⟨⟨v4, rfl, ho⟩, hb⟩
  replace HX := Lib.hid (HX.out.below hb)
  replace HY := Lib.hid (HY.out.below hb)
  replace RA := Lib.hid (RA.out.below hb)
  replace RB := Lib.hid (RB.out.below hb)
  replace ON := Lib.hid (ON.out.below hb)
  have MO := Lib.hid (ho)
  replace F := Lib.hid (F.out.trans (hb.mono F.out.size))
  clear hb
  go_wp2_with fail
  refine (root_ok _ (X + 1) 2 _ MO.out.at TX1.out (.inl rfl)).mono ?_
  rintro e w6 ⟨⟨v5, rfl, ho⟩, hb⟩
  replace HX := Lib.hid (HX.out.below hb)
  replace HY := Lib.hid (HY.out.below hb)
  replace RA := Lib.hid (RA.out.below hb)
  replace RB := Lib.hid (RB.out.below hb)
  replace ON := Lib.hid (ON.out.below hb)
  replace MO := Lib.hid (MO.out.below hb)
  have RC := Lib.hid (NatC.of ho)
  replace F := Lib.hid (F.out.trans (hb.mono F.out.size))
  clear hb
  go_wp2_with fail
  refine (of_c 1 1 rfl _ (by decide)).mono ?_
  rintro e w7 ⟨⟨v6, rfl, ho⟩, hb⟩
  replace HX := Lib.hid (HX.out.below hb)
  replace HY := Lib.hid (HY.out.below hb)
  replace RA := Lib.hid (RA.out.below hb)
  replace RB := Lib.hid (RB.out.below hb)
  replace ON := Lib.hid (ON.out.below hb)
  replace MO := Lib.hid (MO.out.below hb)
  replace RC := Lib.hid (RC.out.below hb)
  have OO := Lib.hid (ho)
  replace F := Lib.hid (F.out.trans (hb.mono F.out.size))
  clear hb
  go_wp2_with fail
  refine (add_nat RA.out.at OO.out.at TA.out).mono ?_
  rintro e w8 ⟨⟨v7, rfl, ho⟩, hb⟩
  replace HX := Lib.hid (HX.out.below hb)
  replace HY := Lib.hid (HY.out.below hb)
  replace RA := Lib.hid (RA.out.below hb)
  replace RB := Lib.hid (RB.out.below hb)
  replace ON := Lib.hid (ON.out.below hb)
  replace MO := Lib.hid (MO.out.below hb)
  replace RC := Lib.hid (RC.out.below hb)
  replace OO := Lib.hid (OO.out.below hb)
  have NX := Lib.hid (ho)
  replace F := Lib.hid (F.out.trans (hb.mono F.out.size))
  clear hb
  rcases HOO.out with ⟨rfl, rfl⟩ | ⟨rfl, rfl⟩ | ⟨rfl, rfl⟩ | ⟨rfl, rfl⟩ | ⟨rfl, rfl⟩
  · skip
    clear HOO
    go_wp2_with fail
    refine (cmp_nat RA.out.at RB.out.at _ HO1.out).mono ?_
    rintro e w9 ⟨rfl, hb⟩
    replace HX := Lib.hid (HX.out.below hb)
    replace HY := Lib.hid (HY.out.below hb)
    replace RA := Lib.hid (RA.out.below hb)
    replace RB := Lib.hid (RB.out.below hb)
    replace ON := Lib.hid (ON.out.below hb)
    replace MO := Lib.hid (MO.out.below hb)
    replace RC := Lib.hid (RC.out.below hb)
    replace OO := Lib.hid (OO.out.below hb)
    replace NX := Lib.hid (NX.out.below hb)
    replace F := Lib.hid (F.out.trans (hb.mono F.out.size))
    clear hb
    go_wp2_with fail
    refine (cmp_nat HX.out HY.out _ HO2.out).mono ?_
    rintro e w10 ⟨rfl, hb⟩
    replace HX := Lib.hid (HX.out.below hb)
    replace HY := Lib.hid (HY.out.below hb)
    replace RA := Lib.hid (RA.out.below hb)
    replace RB := Lib.hid (RB.out.below hb)
    replace ON := Lib.hid (ON.out.below hb)
    replace MO := Lib.hid (MO.out.below hb)
    replace RC := Lib.hid (RC.out.below hb)
    replace OO := Lib.hid (OO.out.below hb)
    replace NX := Lib.hid (NX.out.below hb)
    replace F := Lib.hid (F.out.trans (hb.mono F.out.size))
    clear hb
    go_wp2_with fail
    refine (cmp_nat HX.out HY.out _ HO2.out).mono ?_
    rintro e w11 ⟨rfl, hb⟩
    replace HX := Lib.hid (HX.out.below hb)
    replace HY := Lib.hid (HY.out.below hb)
    replace RA := Lib.hid (RA.out.below hb)
    replace RB := Lib.hid (RB.out.below hb)
    replace ON := Lib.hid (ON.out.below hb)
    replace MO := Lib.hid (MO.out.below hb)
    replace RC := Lib.hid (RC.out.below hb)
    replace OO := Lib.hid (OO.out.below hb)
    replace NX := Lib.hid (NX.out.below hb)
    replace F := Lib.hid (F.out.trans (hb.mono F.out.size))
    clear hb
    rcases HOC.out with rfl | ⟨rfl, h4⟩
    · skip
      clear HOC
      go_wp2_with fail
      refine (cmp_nat RC.out.at RA.out.at _ HO3.out).mono ?_
      rintro e w12 ⟨rfl, hb⟩
      replace HX := Lib.hid (HX.out.below hb)
      replace HY := Lib.hid (HY.out.below hb)
      replace RA := Lib.hid (RA.out.below hb)
      replace RB := Lib.hid (RB.out.below hb)
      replace ON := Lib.hid (ON.out.below hb)
      replace MO := Lib.hid (MO.out.below hb)
      replace RC := Lib.hid (RC.out.below hb)
      replace OO := Lib.hid (OO.out.below hb)
      replace NX := Lib.hid (NX.out.below hb)
      replace F := Lib.hid (F.out.trans (hb.mono F.out.size))
      clear hb
      go_wp2
      go_ret
      exact ⟨rfl, F.out⟩
    · skip
      have HO4 := Lib.hid h4
      clear h4
      clear HOC
      go_wp2_with fail
      refine (cmp_nat RC.out.at RA.out.at _ HO3.out).mono ?_
      rintro e w12 ⟨rfl, hb⟩
      replace HX := Lib.hid (HX.out.below hb)
      replace HY := Lib.hid (HY.out.below hb)
      replace RA := Lib.hid (RA.out.below hb)
      replace RB := Lib.hid (RB.out.below hb)
      replace ON := Lib.hid (ON.out.below hb)
      replace MO := Lib.hid (MO.out.below hb)
      replace RC := Lib.hid (RC.out.below hb)
      replace OO := Lib.hid (OO.out.below hb)
      replace NX := Lib.hid (NX.out.below hb)
      replace F := Lib.hid (F.out.trans (hb.mono F.out.size))
      clear hb
      go_wp2_with fail
      refine (cmp_nat RC.out.at NX.out.at _ HO4.out).mono ?_
      rintro e w13 ⟨rfl, hb⟩
      replace HX := Lib.hid (HX.out.below hb)
      replace HY := Lib.hid (HY.out.below hb)
      replace RA := Lib.hid (RA.out.below hb)
      replace RB := Lib.hid (RB.out.below hb)
      replace ON := Lib.hid (ON.out.below hb)
      replace MO := Lib.hid (MO.out.below hb)
      replace RC := Lib.hid (RC.out.below hb)
      replace OO := Lib.hid (OO.out.below hb)
      replace NX := Lib.hid (NX.out.below hb)
      replace F := Lib.hid (F.out.trans (hb.mono F.out.size))
      clear hb
      go_wp2
      go_ret
      exact ⟨rfl, F.out⟩
  · skip
    clear HOO
    go_wp2_with fail
    refine (cmp_nat RA.out.at RB.out.at _ HO1.out).mono ?_
    rintro e w9 ⟨rfl, hb⟩
    replace HX := Lib.hid (HX.out.below hb)
    replace HY := Lib.hid (HY.out.below hb)
    replace RA := Lib.hid (RA.out.below hb)
    replace RB := Lib.hid (RB.out.below hb)
    replace ON := Lib.hid (ON.out.below hb)
    replace MO := Lib.hid (MO.out.below hb)
    replace RC := Lib.hid (RC.out.below hb)
    replace OO := Lib.hid (OO.out.below hb)
    replace NX := Lib.hid (NX.out.below hb)
    replace F := Lib.hid (F.out.trans (hb.mono F.out.size))
    clear hb
    go_wp2_with fail
    refine (cmp_nat HX.out HY.out _ HO2.out).mono ?_
    rintro e w10 ⟨rfl, hb⟩
    replace HX := Lib.hid (HX.out.below hb)
    replace HY := Lib.hid (HY.out.below hb)
    replace RA := Lib.hid (RA.out.below hb)
    replace RB := Lib.hid (RB.out.below hb)
    replace ON := Lib.hid (ON.out.below hb)
    replace MO := Lib.hid (MO.out.below hb)
    replace RC := Lib.hid (RC.out.below hb)
    replace OO := Lib.hid (OO.out.below hb)
    replace NX := Lib.hid (NX.out.below hb)
    replace F := Lib.hid (F.out.trans (hb.mono F.out.size))
    clear hb
    go_wp2_with fail
    refine (cmp_nat HX.out HY.out _ HO2.out).mono ?_
    rintro e w11 ⟨rfl, hb⟩
    replace HX := Lib.hid (HX.out.below hb)
    replace HY := Lib.hid (HY.out.below hb)
    replace RA := Lib.hid (RA.out.below hb)
    replace RB := Lib.hid (RB.out.below hb)
    replace ON := Lib.hid (ON.out.below hb)
    replace MO := Lib.hid (MO.out.below hb)
    replace RC := Lib.hid (RC.out.below hb)
    replace OO := Lib.hid (OO.out.below hb)
    replace NX := Lib.hid (NX.out.below hb)
    replace F := Lib.hid (F.out.trans (hb.mono F.out.size))
    clear hb
    rcases HOC.out with rfl | ⟨rfl, h4⟩
    · skip
      clear HOC
      go_wp2_with fail
      refine (cmp_nat RC.out.at RA.out.at _ HO3.out).mono ?_
      rintro e w12 ⟨rfl, hb⟩
      replace HX := Lib.hid (HX.out.below hb)
      replace HY := Lib.hid (HY.out.below hb)
      replace RA := Lib.hid (RA.out.below hb)
      replace RB := Lib.hid (RB.out.below hb)
      replace ON := Lib.hid (ON.out.below hb)
      replace MO := Lib.hid (MO.out.below hb)
      replace RC := Lib.hid (RC.out.below hb)
      replace OO := Lib.hid (OO.out.below hb)
      replace NX := Lib.hid (NX.out.below hb)
      replace F := Lib.hid (F.out.trans (hb.mono F.out.size))
      clear hb
      go_wp2
      go_ret
      exact ⟨rfl, F.out⟩
    · skip
      have HO4 := Lib.hid h4
      clear h4
      clear HOC
      go_wp2_with fail
      refine (cmp_nat RC.out.at RA.out.at _ HO3.out).mono ?_
      rintro e w12 ⟨rfl, hb⟩
      replace HX := Lib.hid (HX.out.below hb)
      replace HY := Lib.hid (HY.out.below hb)
      replace RA := Lib.hid (RA.out.below hb)
      replace RB := Lib.hid (RB.out.below hb)
      replace ON := Lib.hid (ON.out.below hb)
      replace MO := Lib.hid (MO.out.below hb)
      replace RC := Lib.hid (RC.out.below hb)
      replace OO := Lib.hid (OO.out.below hb)
      replace NX := Lib.hid (NX.out.below hb)
      replace F := Lib.hid (F.out.trans (hb.mono F.out.size))
      clear hb
      go_wp2_with fail
      refine (cmp_nat RC.out.at NX.out.at _ HO4.out).mono ?_
      rintro e w13 ⟨rfl, hb⟩
      replace HX := Lib.hid (HX.out.below hb)
      replace HY := Lib.hid (HY.out.below hb)
      replace RA := Lib.hid (RA.out.below hb)
      replace RB := Lib.hid (RB.out.below hb)
      replace ON := Lib.hid (ON.out.below hb)
      replace MO := Lib.hid (MO.out.below hb)
      replace RC := Lib.hid (RC.out.below hb)
      replace OO := Lib.hid (OO.out.below hb)
      replace NX := Lib.hid (NX.out.below hb)
      replace F := Lib.hid (F.out.trans (hb.mono F.out.size))
      clear hb
      go_wp2
      go_ret
      exact ⟨rfl, F.out⟩
  · skip
    clear HOO
    go_wp2_with fail
    refine (cmp_nat RA.out.at RB.out.at _ HO1.out).mono ?_
    rintro e w9 ⟨rfl, hb⟩
    replace HX := Lib.hid (HX.out.below hb)
    replace HY := Lib.hid (HY.out.below hb)
    replace RA := Lib.hid (RA.out.below hb)
    replace RB := Lib.hid (RB.out.below hb)
    replace ON := Lib.hid (ON.out.below hb)
    replace MO := Lib.hid (MO.out.below hb)
    replace RC := Lib.hid (RC.out.below hb)
    replace OO := Lib.hid (OO.out.below hb)
    replace NX := Lib.hid (NX.out.below hb)
    replace F := Lib.hid (F.out.trans (hb.mono F.out.size))
    clear hb
    go_wp2_with fail
    refine (cmp_nat HX.out HY.out _ HO2.out).mono ?_
    rintro e w10 ⟨rfl, hb⟩
    replace HX := Lib.hid (HX.out.below hb)
    replace HY := Lib.hid (HY.out.below hb)
    replace RA := Lib.hid (RA.out.below hb)
    replace RB := Lib.hid (RB.out.below hb)
    replace ON := Lib.hid (ON.out.below hb)
    replace MO := Lib.hid (MO.out.below hb)
    replace RC := Lib.hid (RC.out.below hb)
    replace OO := Lib.hid (OO.out.below hb)
    replace NX := Lib.hid (NX.out.below hb)
    replace F := Lib.hid (F.out.trans (hb.mono F.out.size))
    clear hb
    go_wp2_with fail
    refine (cmp_nat HX.out HY.out _ HO2.out).mono ?_
    rintro e w11 ⟨rfl, hb⟩
    replace HX := Lib.hid (HX.out.below hb)
    replace HY := Lib.hid (HY.out.below hb)
    replace RA := Lib.hid (RA.out.below hb)
    replace RB := Lib.hid (RB.out.below hb)
    replace ON := Lib.hid (ON.out.below hb)
    replace MO := Lib.hid (MO.out.below hb)
    replace RC := Lib.hid (RC.out.below hb)
    replace OO := Lib.hid (OO.out.below hb)
    replace NX := Lib.hid (NX.out.below hb)
    replace F := Lib.hid (F.out.trans (hb.mono F.out.size))
    clear hb
    go_wp2_with fail
    refine (cmp_nat RA.out.at RB.out.at _ HO1.out).mono ?_
    rintro e w12 ⟨rfl, hb⟩
    replace HX := Lib.hid (HX.out.below hb)
    replace HY := Lib.hid (HY.out.below hb)
    replace RA := Lib.hid (RA.out.below hb)
    replace RB := Lib.hid (RB.out.below hb)
    replace ON := Lib.hid (ON.out.below hb)
    replace MO := Lib.hid (MO.out.below hb)
    replace RC := Lib.hid (RC.out.below hb)
    replace OO := Lib.hid (OO.out.below hb)
    replace NX := Lib.hid (NX.out.below hb)
    replace F := Lib.hid (F.out.trans (hb.mono F.out.size))
    clear hb
    rcases HOC.out with rfl | ⟨rfl, h4⟩
    · skip
      clear HOC
      go_wp2_with fail
      refine (cmp_nat RC.out.at RA.out.at _ HO3.out).mono ?_
      rintro e w13 ⟨rfl, hb⟩
      replace HX := Lib.hid (HX.out.below hb)
      replace HY := Lib.hid (HY.out.below hb)
      replace RA := Lib.hid (RA.out.below hb)
      replace RB := Lib.hid (RB.out.below hb)
      replace ON := Lib.hid (ON.out.below hb)
      replace MO := Lib.hid (MO.out.below hb)
      replace RC := Lib.hid (RC.out.below hb)
      replace OO := Lib.hid (OO.out.below hb)
      replace NX := Lib.hid (NX.out.below hb)
      replace F := Lib.hid (F.out.trans (hb.mono F.out.size))
      clear hb
      go_wp2
      go_ret
      exact ⟨rfl, F.out⟩
    · skip
      have HO4 := Lib.hid h4
      clear h4
      clear HOC
      go_wp2_with fail
      refine (cmp_nat RC.out.at RA.out.at _ HO3.out).mono ?_
      rintro e w13 ⟨rfl, hb⟩
      replace HX := Lib.hid (HX.out.below hb)
      replace HY := Lib.hid (HY.out.below hb)
      replace RA := Lib.hid (RA.out.below hb)
      replace RB := Lib.hid (RB.out.below hb)
      replace ON := Lib.hid (ON.out.below hb)
      replace MO := Lib.hid (MO.out.below hb)
      replace RC := Lib.hid (RC.out.below hb)
      replace OO := Lib.hid (OO.out.below hb)
      replace NX := Lib.hid (NX.out.below hb)
      replace F := Lib.hid (F.out.trans (hb.mono F.out.size))
      clear hb
      go_wp2_with fail
      refine (cmp_nat RC.out.at NX.out.at _ HO4.out).mono ?_
      rintro e w14 ⟨rfl, hb⟩
      replace HX := Lib.hid (HX.out.below hb)
      replace HY := Lib.hid (HY.out.below hb)
      replace RA := Lib.hid (RA.out.below hb)
      replace RB := Lib.hid (RB.out.below hb)
      replace ON := Lib.hid (ON.out.below hb)
      replace MO := Lib.hid (MO.out.below hb)
      replace RC := Lib.hid (RC.out.below hb)
      replace OO := Lib.hid (OO.out.below hb)
      replace NX := Lib.hid (NX.out.below hb)
      replace F := Lib.hid (F.out.trans (hb.mono F.out.size))
      clear hb
      go_wp2
      go_ret
      exact ⟨rfl, F.out⟩
  · skip
    clear HOO
    go_wp2_with fail
    refine (cmp_nat RA.out.at RB.out.at _ HO1.out).mono ?_
    rintro e w9 ⟨rfl, hb⟩
    replace HX := Lib.hid (HX.out.below hb)
    replace HY := Lib.hid (HY.out.below hb)
    replace RA := Lib.hid (RA.out.below hb)
    replace RB := Lib.hid (RB.out.below hb)
    replace ON := Lib.hid (ON.out.below hb)
    replace MO := Lib.hid (MO.out.below hb)
    replace RC := Lib.hid (RC.out.below hb)
    replace OO := Lib.hid (OO.out.below hb)
    replace NX := Lib.hid (NX.out.below hb)
    replace F := Lib.hid (F.out.trans (hb.mono F.out.size))
    clear hb
    go_wp2_with fail
    refine (cmp_nat HX.out HY.out _ HO2.out).mono ?_
    rintro e w10 ⟨rfl, hb⟩
    replace HX := Lib.hid (HX.out.below hb)
    replace HY := Lib.hid (HY.out.below hb)
    replace RA := Lib.hid (RA.out.below hb)
    replace RB := Lib.hid (RB.out.below hb)
    replace ON := Lib.hid (ON.out.below hb)
    replace MO := Lib.hid (MO.out.below hb)
    replace RC := Lib.hid (RC.out.below hb)
    replace OO := Lib.hid (OO.out.below hb)
    replace NX := Lib.hid (NX.out.below hb)
    replace F := Lib.hid (F.out.trans (hb.mono F.out.size))
    clear hb
    go_wp2_with fail
    refine (cmp_nat HX.out HY.out _ HO2.out).mono ?_
    rintro e w11 ⟨rfl, hb⟩
    replace HX := Lib.hid (HX.out.below hb)
    replace HY := Lib.hid (HY.out.below hb)
    replace RA := Lib.hid (RA.out.below hb)
    replace RB := Lib.hid (RB.out.below hb)
    replace ON := Lib.hid (ON.out.below hb)
    replace MO := Lib.hid (MO.out.below hb)
    replace RC := Lib.hid (RC.out.below hb)
    replace OO := Lib.hid (OO.out.below hb)
    replace NX := Lib.hid (NX.out.below hb)
    replace F := Lib.hid (F.out.trans (hb.mono F.out.size))
    clear hb
    rcases HOC.out with rfl | ⟨rfl, h4⟩
    · skip
      clear HOC
      go_wp2_with fail
      refine (cmp_nat RC.out.at RA.out.at _ HO3.out).mono ?_
      rintro e w12 ⟨rfl, hb⟩
      replace HX := Lib.hid (HX.out.below hb)
      replace HY := Lib.hid (HY.out.below hb)
      replace RA := Lib.hid (RA.out.below hb)
      replace RB := Lib.hid (RB.out.below hb)
      replace ON := Lib.hid (ON.out.below hb)
      replace MO := Lib.hid (MO.out.below hb)
      replace RC := Lib.hid (RC.out.below hb)
      replace OO := Lib.hid (OO.out.below hb)
      replace NX := Lib.hid (NX.out.below hb)
      replace F := Lib.hid (F.out.trans (hb.mono F.out.size))
      clear hb
      go_wp2
      go_ret
      exact ⟨rfl, F.out⟩
    · skip
      have HO4 := Lib.hid h4
      clear h4
      clear HOC
      go_wp2_with fail
      refine (cmp_nat RC.out.at RA.out.at _ HO3.out).mono ?_
      rintro e w12 ⟨rfl, hb⟩
      replace HX := Lib.hid (HX.out.below hb)
      replace HY := Lib.hid (HY.out.below hb)
      replace RA := Lib.hid (RA.out.below hb)
      replace RB := Lib.hid (RB.out.below hb)
      replace ON := Lib.hid (ON.out.below hb)
      replace MO := Lib.hid (MO.out.below hb)
      replace RC := Lib.hid (RC.out.below hb)
      replace OO := Lib.hid (OO.out.below hb)
      replace NX := Lib.hid (NX.out.below hb)
      replace F := Lib.hid (F.out.trans (hb.mono F.out.size))
      clear hb
      go_wp2_with fail
      refine (cmp_nat RC.out.at NX.out.at _ HO4.out).mono ?_
      rintro e w13 ⟨rfl, hb⟩
      replace HX := Lib.hid (HX.out.below hb)
      replace HY := Lib.hid (HY.out.below hb)
      replace RA := Lib.hid (RA.out.below hb)
      replace RB := Lib.hid (RB.out.below hb)
      replace ON := Lib.hid (ON.out.below hb)
      replace MO := Lib.hid (MO.out.below hb)
      replace RC := Lib.hid (RC.out.below hb)
      replace OO := Lib.hid (OO.out.below hb)
      replace NX := Lib.hid (NX.out.below hb)
      replace F := Lib.hid (F.out.trans (hb.mono F.out.size))
      clear hb
      go_wp2
      go_ret
      exact ⟨rfl, F.out⟩
  · skip
    clear HOO
    go_wp2_with fail
    refine (cmp_nat RA.out.at RB.out.at _ HO1.out).mono ?_
    rintro e w9 ⟨rfl, hb⟩
    replace HX := Lib.hid (HX.out.below hb)
    replace HY := Lib.hid (HY.out.below hb)
    replace RA := Lib.hid (RA.out.below hb)
    replace RB := Lib.hid (RB.out.below hb)
    replace ON := Lib.hid (ON.out.below hb)
    replace MO := Lib.hid (MO.out.below hb)
    replace RC := Lib.hid (RC.out.below hb)
    replace OO := Lib.hid (OO.out.below hb)
    replace NX := Lib.hid (NX.out.below hb)
    replace F := Lib.hid (F.out.trans (hb.mono F.out.size))
    clear hb
    go_wp2_with fail
    refine (cmp_nat HX.out HY.out _ HO2.out).mono ?_
    rintro e w10 ⟨rfl, hb⟩
    replace HX := Lib.hid (HX.out.below hb)
    replace HY := Lib.hid (HY.out.below hb)
    replace RA := Lib.hid (RA.out.below hb)
    replace RB := Lib.hid (RB.out.below hb)
    replace ON := Lib.hid (ON.out.below hb)
    replace MO := Lib.hid (MO.out.below hb)
    replace RC := Lib.hid (RC.out.below hb)
    replace OO := Lib.hid (OO.out.below hb)
    replace NX := Lib.hid (NX.out.below hb)
    replace F := Lib.hid (F.out.trans (hb.mono F.out.size))
    clear hb
    go_wp2_with fail
    refine (cmp_nat HX.out HY.out _ HO2.out).mono ?_
    rintro e w11 ⟨rfl, hb⟩
    replace HX := Lib.hid (HX.out.below hb)
    replace HY := Lib.hid (HY.out.below hb)
    replace RA := Lib.hid (RA.out.below hb)
    replace RB := Lib.hid (RB.out.below hb)
    replace ON := Lib.hid (ON.out.below hb)
    replace MO := Lib.hid (MO.out.below hb)
    replace RC := Lib.hid (RC.out.below hb)
    replace OO := Lib.hid (OO.out.below hb)
    replace NX := Lib.hid (NX.out.below hb)
    replace F := Lib.hid (F.out.trans (hb.mono F.out.size))
    clear hb
    rcases HOC.out with rfl | ⟨rfl, h4⟩
    · skip
      clear HOC
      go_wp2_with fail
      refine (cmp_nat RC.out.at RA.out.at _ HO3.out).mono ?_
      rintro e w12 ⟨rfl, hb⟩
      replace HX := Lib.hid (HX.out.below hb)
      replace HY := Lib.hid (HY.out.below hb)
      replace RA := Lib.hid (RA.out.below hb)
      replace RB := Lib.hid (RB.out.below hb)
      replace ON := Lib.hid (ON.out.below hb)
      replace MO := Lib.hid (MO.out.below hb)
      replace RC := Lib.hid (RC.out.below hb)
      replace OO := Lib.hid (OO.out.below hb)
      replace NX := Lib.hid (NX.out.below hb)
      replace F := Lib.hid (F.out.trans (hb.mono F.out.size))
      clear hb
      go_wp2
      go_ret
      exact ⟨rfl, F.out⟩
    · skip
      have HO4 := Lib.hid h4
      clear h4
      clear HOC
      go_wp2_with fail
      refine (cmp_nat RC.out.at RA.out.at _ HO3.out).mono ?_
      rintro e w12 ⟨rfl, hb⟩
      replace HX := Lib.hid (HX.out.below hb)
      replace HY := Lib.hid (HY.out.below hb)
      replace RA := Lib.hid (RA.out.below hb)
      replace RB := Lib.hid (RB.out.below hb)
      replace ON := Lib.hid (ON.out.below hb)
      replace MO := Lib.hid (MO.out.below hb)
      replace RC := Lib.hid (RC.out.below hb)
      replace OO := Lib.hid (OO.out.below hb)
      replace NX := Lib.hid (NX.out.below hb)
      replace F := Lib.hid (F.out.trans (hb.mono F.out.size))
      clear hb
      go_wp2_with fail
      refine (cmp_nat RC.out.at NX.out.at _ HO4.out).mono ?_
      rintro e w13 ⟨rfl, hb⟩
      replace HX := Lib.hid (HX.out.below hb)
      replace HY := Lib.hid (HY.out.below hb)
      replace RA := Lib.hid (RA.out.below hb)
      replace RB := Lib.hid (RB.out.below hb)
      replace ON := Lib.hid (ON.out.below hb)
      replace MO := Lib.hid (MO.out.below hb)
      replace RC := Lib.hid (RC.out.below hb)
      replace OO := Lib.hid (OO.out.below hb)
      replace NX := Lib.hid (NX.out.below hb)
      replace F := Lib.hid (F.out.trans (hb.mono F.out.size))
      clear hb
      go_wp2
      go_ret
      exact ⟨rfl, F.out⟩

set_option maxRecDepth 100000 in
set_option maxHeartbeats 4000000 in
theorem rises3 (hal : AliveP) (a : Option Addr) (nx cx : Nat) (a' : Option Addr) (ny cy : Nat) (X Y : Nat) (w : World) (hx : NatAt w (.slice a nx cx) X) (hy : NatAt w (.slice a' ny cy) Y) :
    Calls Try.prog 9 #[.slice a nx cx, .slice a' ny cy, .bool true] w fun e w' => e = .returned (.bool true) ∧ Below w.heap.size w w' := by
  have HX := Lib.hid hx
  have HY := Lib.hid hy
  have HAL := Lib.hid (hal w)
  have F := Lib.hid (Below.refl w.heap.size w)
  by_cases h1 : 20 < nx
  · clear hx hy
    go_enter Try.func9, Try.ntmps9
    go_wp2_with fail
    refine HAL.out.mono ?_
    rintro e w1 ⟨rfl, hb⟩
    replace F := Lib.hid hb
    clear hb
    go_wp2
    all_goals go_ret
    all_goals exact ⟨rfl, F.out⟩
  by_cases h2 : 20 < ny
  · clear hx hy
    go_enter Try.func9, Try.ntmps9
    go_wp2_with fail
    refine HAL.out.mono ?_
    rintro e w1 ⟨rfl, hb⟩
    replace F := Lib.hid hb
    clear hb
    go_wp2
    all_goals go_ret
    all_goals exact ⟨rfl, F.out⟩
  have hX1 := topP (ltP hx 20 (by omega))
  have hY1 := topP (ltP hy 20 (by omega))
  have TX1 := Lib.hid hX1
  have TX := Lib.hid (show X < topN by omega)
  have TY := Lib.hid (show Y < topN by omega)
  have hmono : ∀ S T, S ≤ T → rootN 3 S ≤ rootN 3 T := fun S T h => rootN_mono (by decide) h
  have hcs : ∃ o1 o2 : Int, o1 = ordN (rootN 3 X) (rootN 3 Y) ∧ o2 = ordN X Y ∧ ((o1 = -1 ∧ o2 = -1) ∨ (o1 = 0 ∧ o2 = -1) ∨ (o1 = 0 ∧ o2 = 0) ∨ (o1 = 0 ∧ o2 = 1) ∨ (o1 = 1 ∧ o2 = 1)) := by
    refine ⟨_, _, rfl, rfl, ?_⟩
    have m1 := hmono X Y
    have m2 := hmono Y X
    rcases ordN_cases X Y with h | h | h <;> rcases ordN_cases (rootN 3 X) (rootN 3 Y) with g | g | g <;> omega
  have hnx := rootN_next (k := 3) X (by decide)
  have TA := Lib.hid (show rootN 3 X + 1 < topN from by
    have := (rootN_is (k := 3) X (by decide)).le (by decide)
    omega)
  obtain ⟨o1, o2, ho1, ho2, hoo⟩ := hcs
  have HO1 := Lib.hid ho1
  have HO2 := Lib.hid ho2
  have hcc : ∃ o3 : Int, o3 = ordN (rootN 3 (X + 1)) (rootN 3 X) ∧ (o3 = 0 ∨ (o3 = 1 ∧ 0 = ordN (rootN 3 (X + 1)) (rootN 3 X + 1))) := by
    refine ⟨_, rfl, ?_⟩
    rcases hnx with h | h
    · exact .inl (ordN_eq h)
    · exact .inr ⟨ordN_gt (by omega), (ordN_eq h).symm⟩
  obtain ⟨o3, ho3, hoc⟩ := hcc
  have HO3 := Lib.hid ho3
  clear hx hy hX1 hY1 hmono ho1 ho2 hnx ho3
  have HOC := Lib.hid hoc
  have HOO := Lib.hid hoo
  clear hoc hoo
  go_enter Try.func9, Try.ntmps9
  go_wp2_with fail
  refine (HAL.out).mono ?_
  rintro e w1 ⟨rfl, hb⟩
  replace HX := Lib.hid (HX.out.below hb)
  replace HY := Lib.hid (HY.out.below hb)
  replace F := Lib.hid (F.out.trans (hb.mono F.out.size))
  clear hb
  go_wp2_with fail
  refine (root_ok _ X 3 _ HX.out TX.out (.inr rfl)).mono ?_
  rintro e w2 ⟨⟨v1, rfl, ho⟩, hb⟩
  replace HX := Lib.hid (HX.out.below hb)
  replace HY := Lib.hid (HY.out.below hb)
  have RA := Lib.hid (NatC.of ho)
  replace F := Lib.hid (F.out.trans (hb.mono F.out.size))
  clear hb
  go_wp2_with fail
  refine (root_ok _ Y 3 _ HY.out TY.out (.inr rfl)).mono ?_
  rintro e w3 ⟨⟨v2, rfl, ho⟩, hb⟩
  replace HX := Lib.hid (HX.out.below hb)
  replace HY := Lib.hid (HY.out.below hb)
  replace RA := Lib.hid (RA.out.below hb)
  have RB := Lib.hid (NatC.of ho)
  replace F := Lib.hid (F.out.trans (hb.mono F.out.size))
  clear hb
  go_wp2_with fail
  refine (of_c 1 1 rfl _ (by decide)).mono ?_
  rintro e w4 ⟨⟨v3, rfl, ho⟩, hb⟩
  replace HX := Lib.hid (HX.out.below hb)
  replace HY := Lib.hid (HY.out.below hb)
  replace RA := Lib.hid (RA.out.below hb)
  replace RB := Lib.hid (RB.out.below hb)
  have ON := Lib.hid (ho)
  replace F := Lib.hid (F.out.trans (hb.mono F.out.size))
  clear hb
  go_wp2_with fail
  refine (add_nat HX.out ON.out.at TX1.out).mono ?_
  rintro e w5 ⟨⟨v4, rfl, ho⟩, hb⟩
  replace HX := Lib.hid (HX.out.below hb)
  replace HY := Lib.hid (HY.out.below hb)
  replace RA := Lib.hid (RA.out.below hb)
  replace RB := Lib.hid (RB.out.below hb)
  replace ON := Lib.hid (ON.out.below hb)
  have MO := Lib.hid (ho)
  replace F := Lib.hid (F.out.trans (hb.mono F.out.size))
  clear hb
  go_wp2_with fail
  refine (root_ok _ (X + 1) 3 _ MO.out.at TX1.out (.inr rfl)).mono ?_
  rintro e w6 ⟨⟨v5, rfl, ho⟩, hb⟩
  replace HX := Lib.hid (HX.out.below hb)
  replace HY := Lib.hid (HY.out.below hb)
  replace RA := Lib.hid (RA.out.below hb)
  replace RB := Lib.hid (RB.out.below hb)
  replace ON := Lib.hid (ON.out.below hb)
  replace MO := Lib.hid (MO.out.below hb)
  have RC := Lib.hid (NatC.of ho)
  replace F := Lib.hid (F.out.trans (hb.mono F.out.size))
  clear hb
  go_wp2_with fail
  refine (of_c 1 1 rfl _ (by decide)).mono ?_
  rintro e w7 ⟨⟨v6, rfl, ho⟩, hb⟩
  replace HX := Lib.hid (HX.out.below hb)
  replace HY := Lib.hid (HY.out.below hb)
  replace RA := Lib.hid (RA.out.below hb)
  replace RB := Lib.hid (RB.out.below hb)
  replace ON := Lib.hid (ON.out.below hb)
  replace MO := Lib.hid (MO.out.below hb)
  replace RC := Lib.hid (RC.out.below hb)
  have OO := Lib.hid (ho)
  replace F := Lib.hid (F.out.trans (hb.mono F.out.size))
  clear hb
  go_wp2_with fail
  refine (add_nat RA.out.at OO.out.at TA.out).mono ?_
  rintro e w8 ⟨⟨v7, rfl, ho⟩, hb⟩
  replace HX := Lib.hid (HX.out.below hb)
  replace HY := Lib.hid (HY.out.below hb)
  replace RA := Lib.hid (RA.out.below hb)
  replace RB := Lib.hid (RB.out.below hb)
  replace ON := Lib.hid (ON.out.below hb)
  replace MO := Lib.hid (MO.out.below hb)
  replace RC := Lib.hid (RC.out.below hb)
  replace OO := Lib.hid (OO.out.below hb)
  have NX := Lib.hid (ho)
  replace F := Lib.hid (F.out.trans (hb.mono F.out.size))
  clear hb
  rcases HOO.out with ⟨rfl, rfl⟩ | ⟨rfl, rfl⟩ | ⟨rfl, rfl⟩ | ⟨rfl, rfl⟩ | ⟨rfl, rfl⟩
  · skip
    clear HOO
    go_wp2_with fail
    refine (cmp_nat RA.out.at RB.out.at _ HO1.out).mono ?_
    rintro e w9 ⟨rfl, hb⟩
    replace HX := Lib.hid (HX.out.below hb)
    replace HY := Lib.hid (HY.out.below hb)
    replace RA := Lib.hid (RA.out.below hb)
    replace RB := Lib.hid (RB.out.below hb)
    replace ON := Lib.hid (ON.out.below hb)
    replace MO := Lib.hid (MO.out.below hb)
    replace RC := Lib.hid (RC.out.below hb)
    replace OO := Lib.hid (OO.out.below hb)
    replace NX := Lib.hid (NX.out.below hb)
    replace F := Lib.hid (F.out.trans (hb.mono F.out.size))
    clear hb
    go_wp2_with fail
    refine (cmp_nat HX.out HY.out _ HO2.out).mono ?_
    rintro e w10 ⟨rfl, hb⟩
    replace HX := Lib.hid (HX.out.below hb)
    replace HY := Lib.hid (HY.out.below hb)
    replace RA := Lib.hid (RA.out.below hb)
    replace RB := Lib.hid (RB.out.below hb)
    replace ON := Lib.hid (ON.out.below hb)
    replace MO := Lib.hid (MO.out.below hb)
    replace RC := Lib.hid (RC.out.below hb)
    replace OO := Lib.hid (OO.out.below hb)
    replace NX := Lib.hid (NX.out.below hb)
    replace F := Lib.hid (F.out.trans (hb.mono F.out.size))
    clear hb
    go_wp2_with fail
    refine (cmp_nat HX.out HY.out _ HO2.out).mono ?_
    rintro e w11 ⟨rfl, hb⟩
    replace HX := Lib.hid (HX.out.below hb)
    replace HY := Lib.hid (HY.out.below hb)
    replace RA := Lib.hid (RA.out.below hb)
    replace RB := Lib.hid (RB.out.below hb)
    replace ON := Lib.hid (ON.out.below hb)
    replace MO := Lib.hid (MO.out.below hb)
    replace RC := Lib.hid (RC.out.below hb)
    replace OO := Lib.hid (OO.out.below hb)
    replace NX := Lib.hid (NX.out.below hb)
    replace F := Lib.hid (F.out.trans (hb.mono F.out.size))
    clear hb
    rcases HOC.out with rfl | ⟨rfl, h4⟩
    · skip
      clear HOC
      go_wp2_with fail
      refine (cmp_nat RC.out.at RA.out.at _ HO3.out).mono ?_
      rintro e w12 ⟨rfl, hb⟩
      replace HX := Lib.hid (HX.out.below hb)
      replace HY := Lib.hid (HY.out.below hb)
      replace RA := Lib.hid (RA.out.below hb)
      replace RB := Lib.hid (RB.out.below hb)
      replace ON := Lib.hid (ON.out.below hb)
      replace MO := Lib.hid (MO.out.below hb)
      replace RC := Lib.hid (RC.out.below hb)
      replace OO := Lib.hid (OO.out.below hb)
      replace NX := Lib.hid (NX.out.below hb)
      replace F := Lib.hid (F.out.trans (hb.mono F.out.size))
      clear hb
      go_wp2
      go_ret
      exact ⟨rfl, F.out⟩
    · skip
      have HO4 := Lib.hid h4
      clear h4
      clear HOC
      go_wp2_with fail
      refine (cmp_nat RC.out.at RA.out.at _ HO3.out).mono ?_
      rintro e w12 ⟨rfl, hb⟩
      replace HX := Lib.hid (HX.out.below hb)
      replace HY := Lib.hid (HY.out.below hb)
      replace RA := Lib.hid (RA.out.below hb)
      replace RB := Lib.hid (RB.out.below hb)
      replace ON := Lib.hid (ON.out.below hb)
      replace MO := Lib.hid (MO.out.below hb)
      replace RC := Lib.hid (RC.out.below hb)
      replace OO := Lib.hid (OO.out.below hb)
      replace NX := Lib.hid (NX.out.below hb)
      replace F := Lib.hid (F.out.trans (hb.mono F.out.size))
      clear hb
      go_wp2_with fail
      refine (cmp_nat RC.out.at NX.out.at _ HO4.out).mono ?_
      rintro e w13 ⟨rfl, hb⟩
      replace HX := Lib.hid (HX.out.below hb)
      replace HY := Lib.hid (HY.out.below hb)
      replace RA := Lib.hid (RA.out.below hb)
      replace RB := Lib.hid (RB.out.below hb)
      replace ON := Lib.hid (ON.out.below hb)
      replace MO := Lib.hid (MO.out.below hb)
      replace RC := Lib.hid (RC.out.below hb)
      replace OO := Lib.hid (OO.out.below hb)
      replace NX := Lib.hid (NX.out.below hb)
      replace F := Lib.hid (F.out.trans (hb.mono F.out.size))
      clear hb
      go_wp2
      go_ret
      exact ⟨rfl, F.out⟩
  · skip
    clear HOO
    go_wp2_with fail
    refine (cmp_nat RA.out.at RB.out.at _ HO1.out).mono ?_
    rintro e w9 ⟨rfl, hb⟩
    replace HX := Lib.hid (HX.out.below hb)
    replace HY := Lib.hid (HY.out.below hb)
    replace RA := Lib.hid (RA.out.below hb)
    replace RB := Lib.hid (RB.out.below hb)
    replace ON := Lib.hid (ON.out.below hb)
    replace MO := Lib.hid (MO.out.below hb)
    replace RC := Lib.hid (RC.out.below hb)
    replace OO := Lib.hid (OO.out.below hb)
    replace NX := Lib.hid (NX.out.below hb)
    replace F := Lib.hid (F.out.trans (hb.mono F.out.size))
    clear hb
    go_wp2_with fail
    refine (cmp_nat HX.out HY.out _ HO2.out).mono ?_
    rintro e w10 ⟨rfl, hb⟩
    replace HX := Lib.hid (HX.out.below hb)
    replace HY := Lib.hid (HY.out.below hb)
    replace RA := Lib.hid (RA.out.below hb)
    replace RB := Lib.hid (RB.out.below hb)
    replace ON := Lib.hid (ON.out.below hb)
    replace MO := Lib.hid (MO.out.below hb)
    replace RC := Lib.hid (RC.out.below hb)
    replace OO := Lib.hid (OO.out.below hb)
    replace NX := Lib.hid (NX.out.below hb)
    replace F := Lib.hid (F.out.trans (hb.mono F.out.size))
    clear hb
    go_wp2_with fail
    refine (cmp_nat HX.out HY.out _ HO2.out).mono ?_
    rintro e w11 ⟨rfl, hb⟩
    replace HX := Lib.hid (HX.out.below hb)
    replace HY := Lib.hid (HY.out.below hb)
    replace RA := Lib.hid (RA.out.below hb)
    replace RB := Lib.hid (RB.out.below hb)
    replace ON := Lib.hid (ON.out.below hb)
    replace MO := Lib.hid (MO.out.below hb)
    replace RC := Lib.hid (RC.out.below hb)
    replace OO := Lib.hid (OO.out.below hb)
    replace NX := Lib.hid (NX.out.below hb)
    replace F := Lib.hid (F.out.trans (hb.mono F.out.size))
    clear hb
    rcases HOC.out with rfl | ⟨rfl, h4⟩
    · skip
      clear HOC
      go_wp2_with fail
      refine (cmp_nat RC.out.at RA.out.at _ HO3.out).mono ?_
      rintro e w12 ⟨rfl, hb⟩
      replace HX := Lib.hid (HX.out.below hb)
      replace HY := Lib.hid (HY.out.below hb)
      replace RA := Lib.hid (RA.out.below hb)
      replace RB := Lib.hid (RB.out.below hb)
      replace ON := Lib.hid (ON.out.below hb)
      replace MO := Lib.hid (MO.out.below hb)
      replace RC := Lib.hid (RC.out.below hb)
      replace OO := Lib.hid (OO.out.below hb)
      replace NX := Lib.hid (NX.out.below hb)
      replace F := Lib.hid (F.out.trans (hb.mono F.out.size))
      clear hb
      go_wp2
      go_ret
      exact ⟨rfl, F.out⟩
    · skip
      have HO4 := Lib.hid h4
      clear h4
      clear HOC
      go_wp2_with fail
      refine (cmp_nat RC.out.at RA.out.at _ HO3.out).mono ?_
      rintro e w12 ⟨rfl, hb⟩
      replace HX := Lib.hid (HX.out.below hb)
      replace HY := Lib.hid (HY.out.below hb)
      replace RA := Lib.hid (RA.out.below hb)
      replace RB := Lib.hid (RB.out.below hb)
      replace ON := Lib.hid (ON.out.below hb)
      replace MO := Lib.hid (MO.out.below hb)
      replace RC := Lib.hid (RC.out.below hb)
      replace OO := Lib.hid (OO.out.below hb)
      replace NX := Lib.hid (NX.out.below hb)
      replace F := Lib.hid (F.out.trans (hb.mono F.out.size))
      clear hb
      go_wp2_with fail
      refine (cmp_nat RC.out.at NX.out.at _ HO4.out).mono ?_
      rintro e w13 ⟨rfl, hb⟩
      replace HX := Lib.hid (HX.out.below hb)
      replace HY := Lib.hid (HY.out.below hb)
      replace RA := Lib.hid (RA.out.below hb)
      replace RB := Lib.hid (RB.out.below hb)
      replace ON := Lib.hid (ON.out.below hb)
      replace MO := Lib.hid (MO.out.below hb)
      replace RC := Lib.hid (RC.out.below hb)
      replace OO := Lib.hid (OO.out.below hb)
      replace NX := Lib.hid (NX.out.below hb)
      replace F := Lib.hid (F.out.trans (hb.mono F.out.size))
      clear hb
      go_wp2
      go_ret
      exact ⟨rfl, F.out⟩
  · skip
    clear HOO
    go_wp2_with fail
    refine (cmp_nat RA.out.at RB.out.at _ HO1.out).mono ?_
    rintro e w9 ⟨rfl, hb⟩
    replace HX := Lib.hid (HX.out.below hb)
    replace HY := Lib.hid (HY.out.below hb)
    replace RA := Lib.hid (RA.out.below hb)
    replace RB := Lib.hid (RB.out.below hb)
    replace ON := Lib.hid (ON.out.below hb)
    replace MO := Lib.hid (MO.out.below hb)
    replace RC := Lib.hid (RC.out.below hb)
    replace OO := Lib.hid (OO.out.below hb)
    replace NX := Lib.hid (NX.out.below hb)
    replace F := Lib.hid (F.out.trans (hb.mono F.out.size))
    clear hb
    go_wp2_with fail
    refine (cmp_nat HX.out HY.out _ HO2.out).mono ?_
    rintro e w10 ⟨rfl, hb⟩
    replace HX := Lib.hid (HX.out.below hb)
    replace HY := Lib.hid (HY.out.below hb)
    replace RA := Lib.hid (RA.out.below hb)
    replace RB := Lib.hid (RB.out.below hb)
    replace ON := Lib.hid (ON.out.below hb)
    replace MO := Lib.hid (MO.out.below hb)
    replace RC := Lib.hid (RC.out.below hb)
    replace OO := Lib.hid (OO.out.below hb)
    replace NX := Lib.hid (NX.out.below hb)
    replace F := Lib.hid (F.out.trans (hb.mono F.out.size))
    clear hb
    go_wp2_with fail
    refine (cmp_nat HX.out HY.out _ HO2.out).mono ?_
    rintro e w11 ⟨rfl, hb⟩
    replace HX := Lib.hid (HX.out.below hb)
    replace HY := Lib.hid (HY.out.below hb)
    replace RA := Lib.hid (RA.out.below hb)
    replace RB := Lib.hid (RB.out.below hb)
    replace ON := Lib.hid (ON.out.below hb)
    replace MO := Lib.hid (MO.out.below hb)
    replace RC := Lib.hid (RC.out.below hb)
    replace OO := Lib.hid (OO.out.below hb)
    replace NX := Lib.hid (NX.out.below hb)
    replace F := Lib.hid (F.out.trans (hb.mono F.out.size))
    clear hb
    go_wp2_with fail
    refine (cmp_nat RA.out.at RB.out.at _ HO1.out).mono ?_
    rintro e w12 ⟨rfl, hb⟩
    replace HX := Lib.hid (HX.out.below hb)
    replace HY := Lib.hid (HY.out.below hb)
    replace RA := Lib.hid (RA.out.below hb)
    replace RB := Lib.hid (RB.out.below hb)
    replace ON := Lib.hid (ON.out.below hb)
    replace MO := Lib.hid (MO.out.below hb)
    replace RC := Lib.hid (RC.out.below hb)
    replace OO := Lib.hid (OO.out.below hb)
    replace NX := Lib.hid (NX.out.below hb)
    replace F := Lib.hid (F.out.trans (hb.mono F.out.size))
    clear hb
    rcases HOC.out with rfl | ⟨rfl, h4⟩
    · skip
      clear HOC
      go_wp2_with fail
      refine (cmp_nat RC.out.at RA.out.at _ HO3.out).mono ?_
      rintro e w13 ⟨rfl, hb⟩
      replace HX := Lib.hid (HX.out.below hb)
      replace HY := Lib.hid (HY.out.below hb)
      replace RA := Lib.hid (RA.out.below hb)
      replace RB := Lib.hid (RB.out.below hb)
      replace ON := Lib.hid (ON.out.below hb)
      replace MO := Lib.hid (MO.out.below hb)
      replace RC := Lib.hid (RC.out.below hb)
      replace OO := Lib.hid (OO.out.below hb)
      replace NX := Lib.hid (NX.out.below hb)
      replace F := Lib.hid (F.out.trans (hb.mono F.out.size))
      clear hb
      go_wp2
      go_ret
      exact ⟨rfl, F.out⟩
    · skip
      have HO4 := Lib.hid h4
      clear h4
      clear HOC
      go_wp2_with fail
      refine (cmp_nat RC.out.at RA.out.at _ HO3.out).mono ?_
      rintro e w13 ⟨rfl, hb⟩
      replace HX := Lib.hid (HX.out.below hb)
      replace HY := Lib.hid (HY.out.below hb)
      replace RA := Lib.hid (RA.out.below hb)
      replace RB := Lib.hid (RB.out.below hb)
      replace ON := Lib.hid (ON.out.below hb)
      replace MO := Lib.hid (MO.out.below hb)
      replace RC := Lib.hid (RC.out.below hb)
      replace OO := Lib.hid (OO.out.below hb)
      replace NX := Lib.hid (NX.out.below hb)
      replace F := Lib.hid (F.out.trans (hb.mono F.out.size))
      clear hb
      go_wp2_with fail
      refine (cmp_nat RC.out.at NX.out.at _ HO4.out).mono ?_
      rintro e w14 ⟨rfl, hb⟩
      replace HX := Lib.hid (HX.out.below hb)
      replace HY := Lib.hid (HY.out.below hb)
      replace RA := Lib.hid (RA.out.below hb)
      replace RB := Lib.hid (RB.out.below hb)
      replace ON := Lib.hid (ON.out.below hb)
      replace MO := Lib.hid (MO.out.below hb)
      replace RC := Lib.hid (RC.out.below hb)
      replace OO := Lib.hid (OO.out.below hb)
      replace NX := Lib.hid (NX.out.below hb)
      replace F := Lib.hid (F.out.trans (hb.mono F.out.size))
      clear hb
      go_wp2
      go_ret
      exact ⟨rfl, F.out⟩
  · skip
    clear HOO
    go_wp2_with fail
    refine (cmp_nat RA.out.at RB.out.at _ HO1.out).mono ?_
    rintro e w9 ⟨rfl, hb⟩
    replace HX := Lib.hid (HX.out.below hb)
    replace HY := Lib.hid (HY.out.below hb)
    replace RA := Lib.hid (RA.out.below hb)
    replace RB := Lib.hid (RB.out.below hb)
    replace ON := Lib.hid (ON.out.below hb)
    replace MO := Lib.hid (MO.out.below hb)
    replace RC := Lib.hid (RC.out.below hb)
    replace OO := Lib.hid (OO.out.below hb)
    replace NX := Lib.hid (NX.out.below hb)
    replace F := Lib.hid (F.out.trans (hb.mono F.out.size))
    clear hb
    go_wp2_with fail
    refine (cmp_nat HX.out HY.out _ HO2.out).mono ?_
    rintro e w10 ⟨rfl, hb⟩
    replace HX := Lib.hid (HX.out.below hb)
    replace HY := Lib.hid (HY.out.below hb)
    replace RA := Lib.hid (RA.out.below hb)
    replace RB := Lib.hid (RB.out.below hb)
    replace ON := Lib.hid (ON.out.below hb)
    replace MO := Lib.hid (MO.out.below hb)
    replace RC := Lib.hid (RC.out.below hb)
    replace OO := Lib.hid (OO.out.below hb)
    replace NX := Lib.hid (NX.out.below hb)
    replace F := Lib.hid (F.out.trans (hb.mono F.out.size))
    clear hb
    go_wp2_with fail
    refine (cmp_nat HX.out HY.out _ HO2.out).mono ?_
    rintro e w11 ⟨rfl, hb⟩
    replace HX := Lib.hid (HX.out.below hb)
    replace HY := Lib.hid (HY.out.below hb)
    replace RA := Lib.hid (RA.out.below hb)
    replace RB := Lib.hid (RB.out.below hb)
    replace ON := Lib.hid (ON.out.below hb)
    replace MO := Lib.hid (MO.out.below hb)
    replace RC := Lib.hid (RC.out.below hb)
    replace OO := Lib.hid (OO.out.below hb)
    replace NX := Lib.hid (NX.out.below hb)
    replace F := Lib.hid (F.out.trans (hb.mono F.out.size))
    clear hb
    rcases HOC.out with rfl | ⟨rfl, h4⟩
    · skip
      clear HOC
      go_wp2_with fail
      refine (cmp_nat RC.out.at RA.out.at _ HO3.out).mono ?_
      rintro e w12 ⟨rfl, hb⟩
      replace HX := Lib.hid (HX.out.below hb)
      replace HY := Lib.hid (HY.out.below hb)
      replace RA := Lib.hid (RA.out.below hb)
      replace RB := Lib.hid (RB.out.below hb)
      replace ON := Lib.hid (ON.out.below hb)
      replace MO := Lib.hid (MO.out.below hb)
      replace RC := Lib.hid (RC.out.below hb)
      replace OO := Lib.hid (OO.out.below hb)
      replace NX := Lib.hid (NX.out.below hb)
      replace F := Lib.hid (F.out.trans (hb.mono F.out.size))
      clear hb
      go_wp2
      go_ret
      exact ⟨rfl, F.out⟩
    · skip
      have HO4 := Lib.hid h4
      clear h4
      clear HOC
      go_wp2_with fail
      refine (cmp_nat RC.out.at RA.out.at _ HO3.out).mono ?_
      rintro e w12 ⟨rfl, hb⟩
      replace HX := Lib.hid (HX.out.below hb)
      replace HY := Lib.hid (HY.out.below hb)
      replace RA := Lib.hid (RA.out.below hb)
      replace RB := Lib.hid (RB.out.below hb)
      replace ON := Lib.hid (ON.out.below hb)
      replace MO := Lib.hid (MO.out.below hb)
      replace RC := Lib.hid (RC.out.below hb)
      replace OO := Lib.hid (OO.out.below hb)
      replace NX := Lib.hid (NX.out.below hb)
      replace F := Lib.hid (F.out.trans (hb.mono F.out.size))
      clear hb
      go_wp2_with fail
      refine (cmp_nat RC.out.at NX.out.at _ HO4.out).mono ?_
      rintro e w13 ⟨rfl, hb⟩
      replace HX := Lib.hid (HX.out.below hb)
      replace HY := Lib.hid (HY.out.below hb)
      replace RA := Lib.hid (RA.out.below hb)
      replace RB := Lib.hid (RB.out.below hb)
      replace ON := Lib.hid (ON.out.below hb)
      replace MO := Lib.hid (MO.out.below hb)
      replace RC := Lib.hid (RC.out.below hb)
      replace OO := Lib.hid (OO.out.below hb)
      replace NX := Lib.hid (NX.out.below hb)
      replace F := Lib.hid (F.out.trans (hb.mono F.out.size))
      clear hb
      go_wp2
      go_ret
      exact ⟨rfl, F.out⟩
  · skip
    clear HOO
    go_wp2_with fail
    refine (cmp_nat RA.out.at RB.out.at _ HO1.out).mono ?_
    rintro e w9 ⟨rfl, hb⟩
    replace HX := Lib.hid (HX.out.below hb)
    replace HY := Lib.hid (HY.out.below hb)
    replace RA := Lib.hid (RA.out.below hb)
    replace RB := Lib.hid (RB.out.below hb)
    replace ON := Lib.hid (ON.out.below hb)
    replace MO := Lib.hid (MO.out.below hb)
    replace RC := Lib.hid (RC.out.below hb)
    replace OO := Lib.hid (OO.out.below hb)
    replace NX := Lib.hid (NX.out.below hb)
    replace F := Lib.hid (F.out.trans (hb.mono F.out.size))
    clear hb
    go_wp2_with fail
    refine (cmp_nat HX.out HY.out _ HO2.out).mono ?_
    rintro e w10 ⟨rfl, hb⟩
    replace HX := Lib.hid (HX.out.below hb)
    replace HY := Lib.hid (HY.out.below hb)
    replace RA := Lib.hid (RA.out.below hb)
    replace RB := Lib.hid (RB.out.below hb)
    replace ON := Lib.hid (ON.out.below hb)
    replace MO := Lib.hid (MO.out.below hb)
    replace RC := Lib.hid (RC.out.below hb)
    replace OO := Lib.hid (OO.out.below hb)
    replace NX := Lib.hid (NX.out.below hb)
    replace F := Lib.hid (F.out.trans (hb.mono F.out.size))
    clear hb
    go_wp2_with fail
    refine (cmp_nat HX.out HY.out _ HO2.out).mono ?_
    rintro e w11 ⟨rfl, hb⟩
    replace HX := Lib.hid (HX.out.below hb)
    replace HY := Lib.hid (HY.out.below hb)
    replace RA := Lib.hid (RA.out.below hb)
    replace RB := Lib.hid (RB.out.below hb)
    replace ON := Lib.hid (ON.out.below hb)
    replace MO := Lib.hid (MO.out.below hb)
    replace RC := Lib.hid (RC.out.below hb)
    replace OO := Lib.hid (OO.out.below hb)
    replace NX := Lib.hid (NX.out.below hb)
    replace F := Lib.hid (F.out.trans (hb.mono F.out.size))
    clear hb
    rcases HOC.out with rfl | ⟨rfl, h4⟩
    · skip
      clear HOC
      go_wp2_with fail
      refine (cmp_nat RC.out.at RA.out.at _ HO3.out).mono ?_
      rintro e w12 ⟨rfl, hb⟩
      replace HX := Lib.hid (HX.out.below hb)
      replace HY := Lib.hid (HY.out.below hb)
      replace RA := Lib.hid (RA.out.below hb)
      replace RB := Lib.hid (RB.out.below hb)
      replace ON := Lib.hid (ON.out.below hb)
      replace MO := Lib.hid (MO.out.below hb)
      replace RC := Lib.hid (RC.out.below hb)
      replace OO := Lib.hid (OO.out.below hb)
      replace NX := Lib.hid (NX.out.below hb)
      replace F := Lib.hid (F.out.trans (hb.mono F.out.size))
      clear hb
      go_wp2
      go_ret
      exact ⟨rfl, F.out⟩
    · skip
      have HO4 := Lib.hid h4
      clear h4
      clear HOC
      go_wp2_with fail
      refine (cmp_nat RC.out.at RA.out.at _ HO3.out).mono ?_
      rintro e w12 ⟨rfl, hb⟩
      replace HX := Lib.hid (HX.out.below hb)
      replace HY := Lib.hid (HY.out.below hb)
      replace RA := Lib.hid (RA.out.below hb)
      replace RB := Lib.hid (RB.out.below hb)
      replace ON := Lib.hid (ON.out.below hb)
      replace MO := Lib.hid (MO.out.below hb)
      replace RC := Lib.hid (RC.out.below hb)
      replace OO := Lib.hid (OO.out.below hb)
      replace NX := Lib.hid (NX.out.below hb)
      replace F := Lib.hid (F.out.trans (hb.mono F.out.size))
      clear hb
      go_wp2_with fail
      refine (cmp_nat RC.out.at NX.out.at _ HO4.out).mono ?_
      rintro e w13 ⟨rfl, hb⟩
      replace HX := Lib.hid (HX.out.below hb)
      replace HY := Lib.hid (HY.out.below hb)
      replace RA := Lib.hid (RA.out.below hb)
      replace RB := Lib.hid (RB.out.below hb)
      replace ON := Lib.hid (ON.out.below hb)
      replace MO := Lib.hid (MO.out.below hb)
      replace RC := Lib.hid (RC.out.below hb)
      replace OO := Lib.hid (OO.out.below hb)
      replace NX := Lib.hid (NX.out.below hb)
      replace F := Lib.hid (F.out.trans (hb.mono F.out.size))
      clear hb
      go_wp2
      go_ret
      exact ⟨rfl, F.out⟩

theorem rises_walk (hal : AliveP) (a : Option Addr) (nx cx : Nat) (a' : Option Addr) (ny cy : Nat) (X Y : Nat) (b : Bool) (w : World) (hx : NatAt w (.slice a nx cx) X) (hy : NatAt w (.slice a' ny cy) Y) :
    Calls Try.prog 9 #[.slice a nx cx, .slice a' ny cy, .bool b] w fun e w' => e = .returned (.bool true) ∧ Below w.heap.size w w' := by
  cases b with
  | false => exact rises2 hal a nx cx a' ny cy X Y w hx hy
  | true => exact rises3 hal a nx cx a' ny cy X Y w hx hy

end Go.Proofs.Ytfeajcgcjpngkaa
