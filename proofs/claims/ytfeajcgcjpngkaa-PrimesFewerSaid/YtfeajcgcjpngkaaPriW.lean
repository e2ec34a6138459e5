/-
  THE LAW PrimesWithin, but for alive, which is asked of a hypothesis. (Written by wip/gen_priW.py.)
-/
import Derived.Test.YtfeajcgcjpngkaaPriV
namespace Go.Proofs.Ytfeajcgcjpngkaa
open Go.RowKit

theorem cube_top {n k : Nat} (h : n ≤ 4294967296 ^ 40) (hk : k ≤ 3) : n ^ k < topN := by
  refine Nat.lt_of_le_of_lt (Nat.pow_le_pow_left h k) ?_
  unfold topN
  rw [← Nat.pow_mul]
  exact Nat.pow_lt_pow_right (by decide) (by omega)

set_option maxHeartbeats 1000000 in
theorem power_law (x : Value) (R k : Nat) (w : World) (hx : NatAt w x R) (hR : R < topN) (hk : k = 2 ∨ k = 3) (h : R ^ k < topN) :
    Calls Try.prog 26 #[x, .int .i64 (k : Int)] w fun e w' => (∃ v, e = .returned (.tuple #[v, .bool true]) ∧ NatAt w' v (R ^ k)) ∧ Below w.heap.size w w' := by
  have NX := Lib.hid hx
  have HR := Lib.hid hR
  have HP := Lib.hid h
  have hk1 : 2 ≤ k ∧ k ≤ 3 := by omega
  clear hx hR hk h
  go_enter Try.func26, Try.ntmps26
  go_wp2
  go_loopw [6, 7] (fun v i wr => ∃ j : Nat, i = .int .i64 (j : Int) ∧ 1 ≤ j ∧ j ≤ k ∧ Hid (NatAt wr v (R ^ j) ∧ R ^ j < topN ∧ NatAt wr x R ∧ Below w.heap.size w wr)) (fun _ i _ => 4 - (intOf i).toNat)
  case atStart => exact ⟨1, rfl, by omega, by omega, by rw [Nat.pow_one]; exact ⟨NX.out, HR.out, NX.out, Below.refl _ _⟩⟩
  case round =>
    obtain ⟨j, rfl, hj1, hj, hI⟩ := hrel
    rcases Nat.lt_or_ge j k with hlt | hge
    · have HM := Lib.hid (pow_below HP.out (show j + 1 ≤ k from hlt))
      go_wp2_with fail
      refine (mul_ok hI.out.1 hI.out.2.2.1 hI.out.2.1 HR.out HM.out).mono ?_
      rintro e w1 ⟨⟨v1, rfl, ho⟩, hb⟩
      have O := Lib.hid (NatC.of ho).at
      have HB := Lib.hid hb
      clear ho hb
      go_wp2
      go_roundw
      case rel => exact ⟨j + 1, rfl, by omega, hlt, by rw [Nat.pow_succ]; exact O.out, by rw [Nat.pow_succ]; exact HM.out, hI.out.2.2.1.below HB.out, hI.out.2.2.2.trans (HB.out.mono hI.out.2.2.2.size)⟩
      case measure => simp [intOf]; omega
    · obtain rfl : k = j := by omega
      go_wp2
      go_ret2
      exact ⟨⟨_, rfl, hI.out.1⟩, hI.out.2.2.2⟩

set_option maxRecDepth 100000 in
set_option maxHeartbeats 4000000 in
theorem within2 (hal : AliveP) (a : Option Addr) (nx cx : Nat) (X : Nat) (w : World) (hx : NatAt w (.slice a nx cx) X) :
    Calls Try.prog 7 #[.slice a nx cx, .bool false] w fun e w' => e = .returned (.bool true) ∧ Below w.heap.size w w' := by
  have HX := Lib.hid hx
  have HAL := Lib.hid (hal w)
  have F := Lib.hid (Below.refl w.heap.size w)
  by_cases h1 : 40 < nx
  · clear hx
    go_enter Try.func7, Try.ntmps7
    go_wp2_with fail
    refine HAL.out.mono ?_
    rintro e w1 ⟨rfl, hb⟩
    replace F := Lib.hid hb
    clear hb
    go_wp2
    all_goals go_ret
    all_goals exact ⟨rfl, F.out⟩
  have hX := ltP hx 40 (by omega)
  have hri := rootN_is (k := 2) X (by decide)
  have hrl := hri.le (by decide)
  obtain ⟨r, hr⟩ : ∃ r, r = rootN 2 X := ⟨_, rfl⟩
  rw [← hr] at hri hrl
  have HRE := Lib.hid hr
  have TX := Lib.hid (top_le hX (by decide))
  have TX3 := Lib.hid (cube_top (k := 2) (Nat.le_of_lt hX) (by decide))
  have hr4 : r + 1 ≤ 4294967296 ^ 40 := Nat.lt_of_le_of_lt hrl hX
  have TN3 := Lib.hid (cube_top (k := 2) hr4 (by decide))
  have TN := Lib.hid (show r + 1 < topN by have := cube_top (k := 1) hr4 (by decide); rwa [Nat.pow_one] at this)
  have TR := Lib.hid (show r < topN from Nat.lt_of_succ_lt TN.out)
  have TR3 := Lib.hid (Nat.lt_of_le_of_lt hri.1 TX.out)
  have HHI := Lib.hid (show (1 : Int) = ordN ((r + 1) ^ 2) X from (ordN_gt hri.2).symm)
  have HBK := Lib.hid (show (0 : Int) = ordN (rootN 2 (X ^ 2)) X from (ordN_eq (rootN_pow X (by decide))).symm)
  obtain ⟨o1, ho1, hoo⟩ : ∃ o1 : Int, o1 = ordN (r ^ 2) X ∧ (o1 = -1 ∨ o1 = 0) := by
    refine ⟨_, rfl, ?_⟩
    rcases ordN_cases (r ^ 2) X with h | h | h
    · exact .inl h.1
    · exact .inr h.1
    · exact absurd hri.1 (by omega)
  have HO1 := Lib.hid ho1
  have HOO := Lib.hid hoo
  clear hx hX hri hrl hr hr4 ho1 hoo
  go_enter Try.func7, Try.ntmps7
  go_wp2_with fail
  refine (HAL.out).mono ?_
  rintro e w1 ⟨rfl, hb⟩
  replace HX := Lib.hid (HX.out.below hb)
  replace F := Lib.hid (F.out.trans (hb.mono F.out.size))
  clear hb
  go_wp2_with fail
  refine (root_ok _ X 2 _ HX.out TX.out (.inl rfl)).mono ?_
  rintro e w2 ⟨⟨v1, rfl, ho⟩, hb⟩
  replace HX := Lib.hid (HX.out.below hb)
  have RA := Lib.hid (by rw [← HRE.out] at ho; exact NatC.of ho)
  replace F := Lib.hid (F.out.trans (hb.mono F.out.size))
  clear hb
  go_wp2_with fail
  refine (of_c 1 1 rfl _ (by decide)).mono ?_
  rintro e w3 ⟨⟨v3, rfl, ho⟩, hb⟩
  replace HX := Lib.hid (HX.out.below hb)
  replace RA := Lib.hid (RA.out.below hb)
  have ON := Lib.hid (ho)
  replace F := Lib.hid (F.out.trans (hb.mono F.out.size))
  clear hb
  go_wp2_with fail
  refine (add_nat RA.out.at ON.out.at TN.out).mono ?_
  rintro e w4 ⟨⟨v4, rfl, ho⟩, hb⟩
  replace HX := Lib.hid (HX.out.below hb)
  replace RA := Lib.hid (RA.out.below hb)
  replace ON := Lib.hid (ON.out.below hb)
  have NX := Lib.hid (ho)
  replace F := Lib.hid (F.out.trans (hb.mono F.out.size))
  clear hb
  go_wp2_with fail
  refine (power_law _ r 2 _ RA.out.at TR.out (.inl rfl) TR3.out).mono ?_
  rintro e w5 ⟨⟨v5, rfl, ho⟩, hb⟩
  replace HX := Lib.hid (HX.out.below hb)
  replace RA := Lib.hid (RA.out.below hb)
  replace ON := Lib.hid (ON.out.below hb)
  replace NX := Lib.hid (NX.out.below hb)
  have LO := Lib.hid (ho)
  replace F := Lib.hid (F.out.trans (hb.mono F.out.size))
  clear hb
  go_wp2_with fail
  refine (power_law _ (r + 1) 2 _ NX.out.at TN.out (.inl rfl) TN3.out).mono ?_
  rintro e w6 ⟨⟨v6, rfl, ho⟩, hb⟩
  replace HX := Lib.hid (HX.out.below hb)
  replace RA := Lib.hid (RA.out.below hb)
  replace ON := Lib.hid (ON.out.below hb)
  replace NX := Lib.hid (NX.out.below hb)
  replace LO := Lib.hid (LO.out.below hb)
  have HI := Lib.hid (ho)
  replace F := Lib.hid (F.out.trans (hb.mono F.out.size))
  clear hb
  rcases HOO.out with rfl | rfl
  · skip
    clear HOO
    go_wp2_with fail
    refine (cmp_nat LO.out HX.out _ HO1.out).mono ?_
    rintro e w7 ⟨rfl, hb⟩
    replace HX := Lib.hid (HX.out.below hb)
    replace RA := Lib.hid (RA.out.below hb)
    replace ON := Lib.hid (ON.out.below hb)
    replace NX := Lib.hid (NX.out.below hb)
    replace LO := Lib.hid (LO.out.below hb)
    replace HI := Lib.hid (HI.out.below hb)
    replace F := Lib.hid (F.out.trans (hb.mono F.out.size))
    clear hb
    go_wp2_with fail
    refine (cmp_nat HI.out HX.out _ HHI.out).mono ?_
    rintro e w8 ⟨rfl, hb⟩
    replace HX := Lib.hid (HX.out.below hb)
    replace RA := Lib.hid (RA.out.below hb)
    replace ON := Lib.hid (ON.out.below hb)
    replace NX := Lib.hid (NX.out.below hb)
    replace LO := Lib.hid (LO.out.below hb)
    replace HI := Lib.hid (HI.out.below hb)
    replace F := Lib.hid (F.out.trans (hb.mono F.out.size))
    clear hb
    go_wp2_with fail
    refine (power_law _ X 2 _ HX.out TX.out (.inl rfl) TX3.out).mono ?_
    rintro e w9 ⟨⟨v7, rfl, ho⟩, hb⟩
    replace HX := Lib.hid (HX.out.below hb)
    replace RA := Lib.hid (RA.out.below hb)
    replace ON := Lib.hid (ON.out.below hb)
    replace NX := Lib.hid (NX.out.below hb)
    replace LO := Lib.hid (LO.out.below hb)
    replace HI := Lib.hid (HI.out.below hb)
    have RS := Lib.hid (ho)
    replace F := Lib.hid (F.out.trans (hb.mono F.out.size))
    clear hb
    go_wp2_with fail
    refine (root_ok _ (X ^ 2) 2 _ RS.out TX3.out (.inl rfl)).mono ?_
    rintro e w10 ⟨⟨v8, rfl, ho⟩, hb⟩
    replace HX := Lib.hid (HX.out.below hb)
    replace RA := Lib.hid (RA.out.below hb)
    replace ON := Lib.hid (ON.out.below hb)
    replace NX := Lib.hid (NX.out.below hb)
    replace LO := Lib.hid (LO.out.below hb)
    replace HI := Lib.hid (HI.out.below hb)
    replace RS := Lib.hid (RS.out.below hb)
    have BK := Lib.hid (NatC.of ho)
    replace F := Lib.hid (F.out.trans (hb.mono F.out.size))
    clear hb
    go_wp2_with fail
    refine (cmp_nat BK.out.at HX.out _ HBK.out).mono ?_
    rintro e w11 ⟨rfl, hb⟩
    replace HX := Lib.hid (HX.out.below hb)
    replace RA := Lib.hid (RA.out.below hb)
    replace ON := Lib.hid (ON.out.below hb)
    replace NX := Lib.hid (NX.out.below hb)
    replace LO := Lib.hid (LO.out.below hb)
    replace HI := Lib.hid (HI.out.below hb)
    replace RS := Lib.hid (RS.out.below hb)
    replace BK := Lib.hid (BK.out.below hb)
    replace F := Lib.hid (F.out.trans (hb.mono F.out.size))
    clear hb
    go_wp2
    go_ret
    exact ⟨rfl, F.out⟩
  · skip
    clear HOO
    go_wp2_with fail
    refine (cmp_nat LO.out HX.out _ HO1.out).mono ?_
    rintro e w7 ⟨rfl, hb⟩
    replace HX := Lib.hid (HX.out.below hb)
    replace RA := Lib.hid (RA.out.below hb)
    replace ON := Lib.hid (ON.out.below hb)
    replace NX := Lib.hid (NX.out.below hb)
    replace LO := Lib.hid (LO.out.below hb)
    replace HI := Lib.hid (HI.out.below hb)
    replace F := Lib.hid (F.out.trans (hb.mono F.out.size))
    clear hb
    go_wp2_with fail
    refine (cmp_nat HI.out HX.out _ HHI.out).mono ?_
    rintro e w8 ⟨rfl, hb⟩
    replace HX := Lib.hid (HX.out.below hb)
    replace RA := Lib.hid (RA.out.below hb)
    replace ON := Lib.hid (ON.out.below hb)
    replace NX := Lib.hid (NX.out.below hb)
    replace LO := Lib.hid (LO.out.below hb)
    replace HI := Lib.hid (HI.out.below hb)
    replace F := Lib.hid (F.out.trans (hb.mono F.out.size))
    clear hb
    go_wp2_with fail
    refine (power_law _ X 2 _ HX.out TX.out (.inl rfl) TX3.out).mono ?_
    rintro e w9 ⟨⟨v7, rfl, ho⟩, hb⟩
    replace HX := Lib.hid (HX.out.below hb)
    replace RA := Lib.hid (RA.out.below hb)
    replace ON := Lib.hid (ON.out.below hb)
    replace NX := Lib.hid (NX.out.below hb)
    replace LO := Lib.hid (LO.out.below hb)
    replace HI := Lib.hid (HI.out.below hb)
    have RS := Lib.hid (ho)
    replace F := Lib.hid (F.out.trans (hb.mono F.out.size))
    clear hb
    go_wp2_with fail
    refine (root_ok _ (X ^ 2) 2 _ RS.out TX3.out (.inl rfl)).mono ?_
    rintro e w10 ⟨⟨v8, rfl, ho⟩, hb⟩
    replace HX := Lib.hid (HX.out.below hb)
    replace RA := Lib.hid (RA.out.below hb)
    replace ON := Lib.hid (ON.out.below hb)
    replace NX := Lib.hid (NX.out.below hb)
    replace LO := Lib.hid (LO.out.below hb)
    replace HI := Lib.hid (HI.out.below hb)
    replace RS := Lib.hid (RS.out.below hb)
    have BK := Lib.hid (NatC.of ho)
    replace F := Lib.hid (F.out.trans (hb.mono F.out.size))
    clear hb
    go_wp2_with fail
    refine (cmp_nat BK.out.at HX.out _ HBK.out).mono ?_
    rintro e w11 ⟨rfl, hb⟩
    replace HX := Lib.hid (HX.out.below hb)
    replace RA := Lib.hid (RA.out.below hb)
    replace ON := Lib.hid (ON.out.below hb)
    replace NX := Lib.hid (NX.out.below hb)
    replace LO := Lib.hid (LO.out.below hb)
    replace HI := Lib.hid (HI.out.below hb)
    replace RS := Lib.hid (RS.out.below hb)
    replace BK := Lib.hid (BK.out.below hb)
    replace F := Lib.hid (F.out.trans (hb.mono F.out.size))
    clear hb
    go_wp2
    go_ret
    exact ⟨rfl, F.out⟩

set_option maxRecDepth 100000 in
set_option maxHeartbeats 4000000 in
theorem within3 (hal : AliveP) (a : Option Addr) (nx cx : Nat) (X : Nat) (w : World) (hx : NatAt w (.slice a nx cx) X) :
    Calls Try.prog 7 #[.slice a nx cx, .bool true] w fun e w' => e = .returned (.bool true) ∧ Below w.heap.size w w' := by
  have HX := Lib.hid hx
  have HAL := Lib.hid (hal w)
  have F := Lib.hid (Below.refl w.heap.size w)
  by_cases h1 : 40 < nx
  · clear hx
    go_enter Try.func7, Try.ntmps7
    go_wp2_with fail
    refine HAL.out.mono ?_
    rintro e w1 ⟨rfl, hb⟩
    replace F := Lib.hid hb
    clear hb
    go_wp2
    all_goals go_ret
    all_goals exact ⟨rfl, F.out⟩
  have hX := ltP hx 40 (by omega)
  have hri := rootN_is (k := 3) X (by decide)
  have hrl := hri.le (by decide)
  obtain ⟨r, hr⟩ : ∃ r, r = rootN 3 X := ⟨_, rfl⟩
  rw [← hr] at hri hrl
  have HRE := Lib.hid hr
  have TX := Lib.hid (top_le hX (by decide))
  have TX3 := Lib.hid (cube_top (k := 3) (Nat.le_of_lt hX) (by decide))
  have hr4 : r + 1 ≤ 4294967296 ^ 40 := Nat.lt_of_le_of_lt hrl hX
  have TN3 := Lib.hid (cube_top (k := 3) hr4 (by decide))
  have TN := Lib.hid (show r + 1 < topN by have := cube_top (k := 1) hr4 (by decide); rwa [Nat.pow_one] at this)
  have TR := Lib.hid (show r < topN from Nat.lt_of_succ_lt TN.out)
  have TR3 := Lib.hid (Nat.lt_of_le_of_lt hri.1 TX.out)
  have HHI := Lib.hid (show (1 : Int) = ordN ((r + 1) ^ 3) X from (ordN_gt hri.2).symm)
  have HBK := Lib.hid (show (0 : Int) = ordN (rootN 3 (X ^ 3)) X from (ordN_eq (rootN_pow X (by decide))).symm)
  obtain ⟨o1, ho1, hoo⟩ : ∃ o1 : Int, o1 = ordN (r ^ 3) X ∧ (o1 = -1 ∨ o1 = 0) := by
    refine ⟨_, rfl, ?_⟩
    rcases ordN_cases (r ^ 3) X with h | h | h
    · exact .inl h.1
    · exact .inr h.1
    · exact absurd hri.1 (by omega)
  have HO1 := Lib.hid ho1
  have HOO := Lib.hid hoo
  clear hx hX hri hrl hr hr4 ho1 hoo
  go_enter Try.func7, Try.ntmps7
  go_wp2_with fail
  refine (HAL.out).mono ?_
  rintro e w1 ⟨rfl, hb⟩
  replace HX := Lib.hid (HX.out.below hb)
  replace F := Lib.hid (F.out.trans (hb.mono F.out.size))
  clear hb
  go_wp2_with fail
  refine (root_ok _ X 3 _ HX.out TX.out (.inr rfl)).mono ?_
  rintro e w2 ⟨⟨v1, rfl, ho⟩, hb⟩
  replace HX := Lib.hid (HX.out.below hb)
  have RA := Lib.hid (by rw [← HRE.out] at ho; exact NatC.of ho)
  replace F := Lib.hid (F.out.trans (hb.mono F.out.size))
  clear hb
  go_wp2_with fail
  refine (of_c 1 1 rfl _ (by decide)).mono ?_
  rintro e w3 ⟨⟨v3, rfl, ho⟩, hb⟩
  replace HX := Lib.hid (HX.out.below hb)
  replace RA := Lib.hid (RA.out.below hb)
  have ON := Lib.hid (ho)
  replace F := Lib.hid (F.out.trans (hb.mono F.out.size))
  clear hb
  go_wp2_with fail
  refine (add_nat RA.out.at ON.out.at TN.out).mono ?_
  rintro e w4 ⟨⟨v4, rfl, ho⟩, hb⟩
  replace HX := Lib.hid (HX.out.below hb)
  replace RA := Lib.hid (RA.out.below hb)
  replace ON := Lib.hid (ON.out.below hb)
  have NX := Lib.hid (ho)
  replace F := Lib.hid (F.out.trans (hb.mono F.out.size))
  clear hb
  go_wp2_with fail
  refine (power_law _ r 3 _ RA.out.at TR.out (.inr rfl) TR3.out).mono ?_
  rintro e w5 ⟨⟨v5, rfl, ho⟩, hb⟩
  replace HX := Lib.hid (HX.out.below hb)
  replace RA := Lib.hid (RA.out.below hb)
  replace ON := Lib.hid (ON.out.below hb)
  replace NX := Lib.hid (NX.out.below hb)
  have LO := Lib.hid (ho)
  replace F := Lib.hid (F.out.trans (hb.mono F.out.size))
  clear hb
  go_wp2_with fail
  refine (power_law _ (r + 1) 3 _ NX.out.at TN.out (.inr rfl) TN3.out).mono ?_
  rintro e w6 ⟨⟨v6, rfl, ho⟩, hb⟩
  replace HX := Lib.hid (HX.out.below hb)
  replace RA := Lib.hid (RA.out.below hb)
  replace ON := Lib.hid (ON.out.below hb)
  replace NX := Lib.hid (NX.out.below hb)
  replace LO := Lib.hid (LO.out.below hb)
  have HI := Lib.hid (ho)
  replace F := Lib.hid (F.out.trans (hb.mono F.out.size))
  clear hb
  rcases HOO.out with rfl | rfl
  · skip
    clear HOO
    go_wp2_with fail
    refine (cmp_nat LO.out HX.out _ HO1.out).mono ?_
    rintro e w7 ⟨rfl, hb⟩
    replace HX := Lib.hid (HX.out.below hb)
    replace RA := Lib.hid (RA.out.below hb)
    replace ON := Lib.hid (ON.out.below hb)
    replace NX := Lib.hid (NX.out.below hb)
    replace LO := Lib.hid (LO.out.below hb)
    replace HI := Lib.hid (HI.out.below hb)
    replace F := Lib.hid (F.out.trans (hb.mono F.out.size))
    clear hb
    go_wp2_with fail
    refine (cmp_nat HI.out HX.out _ HHI.out).mono ?_
    rintro e w8 ⟨rfl, hb⟩
    replace HX := Lib.hid (HX.out.below hb)
    replace RA := Lib.hid (RA.out.below hb)
    replace ON := Lib.hid (ON.out.below hb)
    replace NX := Lib.hid (NX.out.below hb)
    replace LO := Lib.hid (LO.out.below hb)
    replace HI := Lib.hid (HI.out.below hb)
    replace F := Lib.hid (F.out.trans (hb.mono F.out.size))
    clear hb
    go_wp2_with fail
    refine (power_law _ X 3 _ HX.out TX.out (.inr rfl) TX3.out).mono ?_
    rintro e w9 ⟨⟨v7, rfl, ho⟩, hb⟩
    replace HX := Lib.hid (HX.out.below hb)
    replace RA := Lib.hid (RA.out.below hb)
    replace ON := Lib.hid (ON.out.below hb)
    replace NX := Lib.hid (NX.out.below hb)
    replace LO := Lib.hid (LO.out.below hb)
    replace HI := Lib.hid (HI.out.below hb)
    have RS := Lib.hid (ho)
    replace F := Lib.hid (F.out.trans (hb.mono F.out.size))
    clear hb
    go_wp2_with fail
    refine (root_ok _ (X ^ 3) 3 _ RS.out TX3.out (.inr rfl)).mono ?_
    rintro e w10 ⟨⟨v8, rfl, ho⟩, hb⟩
    replace HX := Lib.hid (HX.out.below hb)
    replace RA := Lib.hid (RA.out.below hb)
    replace ON := Lib.hid (ON.out.below hb)
    replace NX := Lib.hid (NX.out.below hb)
    replace LO := Lib.hid (LO.out.below hb)
    replace HI := Lib.hid (HI.out.below hb)
    replace RS := Lib.hid (RS.out.below hb)
    have BK := Lib.hid (NatC.of ho)
    replace F := Lib.hid (F.out.trans (hb.mono F.out.size))
    clear hb
    go_wp2_with fail
    refine (cmp_nat BK.out.at HX.out _ HBK.out).mono ?_
    rintro e w11 ⟨rfl, hb⟩
    replace HX := Lib.hid (HX.out.below hb)
    replace RA := Lib.hid (RA.out.below hb)
    replace ON := Lib.hid (ON.out.below hb)
    replace NX := Lib.hid (NX.out.below hb)
    replace LO := Lib.hid (LO.out.below hb)
    replace HI := Lib.hid (HI.out.below hb)
    replace RS := Lib.hid (RS.out.below hb)
    replace BK := Lib.hid (BK.out.below hb)
    replace F := Lib.hid (F.out.trans (hb.mono F.out.size))
    clear hb
    go_wp2
    go_ret
    exact ⟨rfl, F.out⟩
  · skip
    clear HOO
    go_wp2_with fail
    refine (cmp_nat LO.out HX.out _ HO1.out).mono ?_
    rintro e w7 ⟨rfl, hb⟩
    replace HX := Lib.hid (HX.out.below hb)
    replace RA := Lib.hid (RA.out.below hb)
    replace ON := Lib.hid (ON.out.below hb)
    replace NX := Lib.hid (NX.out.below hb)
    replace LO := Lib.hid (LO.out.below hb)
    replace HI := Lib.hid (HI.out.below hb)
    replace F := Lib.hid (F.out.trans (hb.mono F.out.size))
    clear hb
    go_wp2_with fail
    refine (cmp_nat HI.out HX.out _ HHI.out).mono ?_
    rintro e w8 ⟨rfl, hb⟩
    replace HX := Lib.hid (HX.out.below hb)
    replace RA := Lib.hid (RA.out.below hb)
    replace ON := Lib.hid (ON.out.below hb)
    replace NX := Lib.hid (NX.out.below hb)
    replace LO := Lib.hid (LO.out.below hb)
    replace HI := Lib.hid (HI.out.below hb)
    replace F := Lib.hid (F.out.trans (hb.mono F.out.size))
    clear hb
    go_wp2_with fail
    refine (power_law _ X 3 _ HX.out TX.out (.inr rfl) TX3.out).mono ?_
    rintro e w9 ⟨⟨v7, rfl, ho⟩, hb⟩
    replace HX := Lib.hid (HX.out.below hb)
    replace RA := Lib.hid (RA.out.below hb)
    replace ON := Lib.hid (ON.out.below hb)
    replace NX := Lib.hid (NX.out.below hb)
    replace LO := Lib.hid (LO.out.below hb)
    replace HI := Lib.hid (HI.out.below hb)
    have RS := Lib.hid (ho)
    replace F := Lib.hid (F.out.trans (hb.mono F.out.size))
    clear hb
    go_wp2_with fail
    refine (root_ok _ (X ^ 3) 3 _ RS.out TX3.out (.inr rfl)).mono ?_
    rintro e w10 ⟨⟨v8, rfl, ho⟩, hb⟩
    replace HX := Lib.hid (HX.out.below hb)
    replace RA := Lib.hid (RA.out.below hb)
    replace ON := Lib.hid (ON.out.below hb)
    replace NX := Lib.hid (NX.out.below hb)
    replace LO := Lib.hid (LO.out.below hb)
    replace HI := Lib.hid (HI.out.below hb)
    replace RS := Lib.hid (RS.out.below hb)
    have BK := Lib.hid (NatC.of ho)
    replace F := Lib.hid (F.out.trans (hb.mono F.out.size))
    clear hb
    go_wp2_with fail
    refine (cmp_nat BK.out.at HX.out _ HBK.out).mono ?_
    rintro e w11 ⟨rfl, hb⟩
    replace HX := Lib.hid (HX.out.below hb)
    replace RA := Lib.hid (RA.out.below hb)
    replace ON := Lib.hid (ON.out.below hb)
    replace NX := Lib.hid (NX.out.below hb)
    replace LO := Lib.hid (LO.out.below hb)
    replace HI := Lib.hid (HI.out.below hb)
    replace RS := Lib.hid (RS.out.below hb)
    replace BK := Lib.hid (BK.out.below hb)
    replace F := Lib.hid (F.out.trans (hb.mono F.out.size))
    clear hb
    go_wp2
    go_ret
    exact ⟨rfl, F.out⟩

theorem within_walk (hal : AliveP) (a : Option Addr) (nx cx : Nat) (X : Nat) (b : Bool) (w : World) (hx : NatAt w (.slice a nx cx) X) :
    Calls Try.prog 7 #[.slice a nx cx, .bool b] w fun e w' => e = .returned (.bool true) ∧ Below w.heap.size w w' := by
  cases b with
  | false => exact within2 hal a nx cx X w hx
  | true => exact within3 hal a nx cx X w hx

end Go.Proofs.Ytfeajcgcjpngkaa
