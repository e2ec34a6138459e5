/-
  THE LAW MontRules. (Written by wip/gen_monJ.py.)
-/
import Derived.Test.YtebfoalcmnpghaaMonJ
import Derived.Deep.RegionHeld
namespace Go.Proofs.Ytebfoalcmnpghaa
open Go.RowKit

set_option maxRecDepth 100000 in
set_option maxHeartbeats 2000000 in
theorem pow_any (b : Value) (ma : Option Addr) (mn mc : Nat) (c : Int) (k X M F G : Nat) (w : World) (hb : NatAt w b X) (hm : NatAt w (.slice ma mn mc) M) (hM : Mod3 M) (hX : X < topN) (hc : c = k) (hk : k < 18446744073709551616) (hG : Boxed w G 23 (.slice ma mn mc)) (hF : Boxed w F 4 (.bool true)) :
    Calls Try.prog 29 #[b, .int .u64 c, .pointer (some ⟨G, 0, none⟩), .pointer (some ⟨F, 0, none⟩)] w fun e w' => (∃ v, e = .returned v ∧ NatC w' v (X ^ k % M)) ∧ Below w.heap.size w w' := by
  have NB := Lib.hid hb
  have NM := Lib.hid hm
  have M3 := Lib.hid hM
  have HX := Lib.hid hX
  have HC := Lib.hid hc
  have HK := Lib.hid hk
  have BG := Lib.hid hG
  have BF := Lib.hid hF
  have q0 := hG.cell
  clear hb hm hM hX hc hk hG hF
  go_enter Try.func29, Try.ntmps29
  go_wp2
  refine wp_region_held_drew (S := fun W => W.cell? ⟨G, 0, none⟩ = some (.slice ma mn mc)) (by kernel_rfl) q0 (fun hHeld => ?_)
  refine' wpAnyH_take (i := 0) (oi := _) (v := _) rfl (by kernel_rfl) (by kernel_rfl) (by kernel_rfl) (fun _ _ _ h => h) (Or.inl ⟨?_, ?_⟩) (by assumption) ?_
  rotate_left
  all_goals (try simp only [List.getElem_toArray, List.getElem_cons_succ, List.getElem_cons_zero])
  · rfl
  · intro W hSw; (try dsimp only at hSw); go_simp; (try with_reducible rfl)
  try simp only [Act.put, List.setIfInBounds_toArray, List.set_cons_zero, List.set_cons_succ]
  refine' wpAnyH_take (i := 1) (oi := _) (v := _) rfl (by kernel_rfl) (by kernel_rfl) (by kernel_rfl) (fun _ _ _ h => h) (Or.inl ⟨?_, ?_⟩) (by assumption) ?_
  rotate_left
  all_goals (try simp only [List.getElem_toArray, List.getElem_cons_succ, List.getElem_cons_zero])
  · rfl
  · intro W hSw; (try dsimp only at hSw); go_simp; (try with_reducible rfl)
  try simp only [Act.put, List.setIfInBounds_toArray, List.set_cons_zero, List.set_cons_succ]
  refine' wpAnyH_take (i := 3) (oi := _) (v := _) rfl (by kernel_rfl) (by kernel_rfl) (by kernel_rfl) (fun _ _ _ h => h) (Or.inl ⟨?_, ?_⟩) (by assumption) ?_
  rotate_left
  all_goals (try simp only [List.getElem_toArray, List.getElem_cons_succ, List.getElem_cons_zero])
  · rfl
  · intro W hSw; (try dsimp only at hSw); go_simp; (try with_reducible rfl)
  try simp only [Act.put, List.setIfInBounds_toArray, List.set_cons_zero, List.set_cons_succ]
  refine wpAnyH_ready (rs := [2]) (by kernel_rfl) (by simp) ?_
  refine AllReadyH.cons (o := _) rfl (fun K hK => ?_) AllReadyH.nil
  try simp only [List.getElem_toArray, List.getElem_cons_succ, List.getElem_cons_zero]
  go_simp
  refine (of_nat c k HC.out _ HK.out).mono ?_
  rintro e w1 ⟨⟨v1, rfl, ho1⟩, hb1⟩
  have D1 := Lib.hid ((Below.refl w.heap.size w).drew.trans hb1)
  have N1 := Lib.hid ho1
  have q0 := (boxed_below BG.out D1.out).cell
  clear ho1 hb1
  go_wp2_with fail
  refine hK.out _ _ q0 (fun hHeld => ?_)
  clear hK K
  try simp only [Act.put, List.setIfInBounds_toArray, List.set_cons_zero, List.set_cons_succ]
  refine wpAnyH_ready (rs := [4]) (by kernel_rfl) (by simp) ?_
  refine AllReadyH.cons (o := _) rfl (fun K hK => ?_) AllReadyH.nil
  try simp only [List.getElem_toArray, List.getElem_cons_succ, List.getElem_cons_zero]
  go_simp
  refine (mpow_nat (NB.out.below D1.out) N1.out.at (NM.out.below D1.out) M3.out HX.out (lt_top (by have := HK.out; omega))).mono ?_
  rintro e w2 ⟨⟨v2, rfl, ho2⟩, hb2⟩
  have D2 := Lib.hid (D1.out.trans (hb2.mono D1.out.size))
  have N2 := Lib.hid ho2
  have q0 := (boxed_below BG.out D2.out).cell
  clear ho2 hb2
  go_wp2_with fail
  refine hK.out _ _ q0 (fun hHeld => ?_)
  clear hK K
  try simp only [Act.put, List.setIfInBounds_toArray, List.set_cons_zero, List.set_cons_succ]
  refine' wpAnyH_take (i := 5) (oi := _) (v := _) rfl (by kernel_rfl) (by kernel_rfl) (by kernel_rfl) (fun _ _ _ h => h) (Or.inl ⟨?_, ?_⟩) (by assumption) ?_
  rotate_left
  all_goals (try simp only [List.getElem_toArray, List.getElem_cons_succ, List.getElem_cons_zero])
  · rfl
  · intro W hSw; (try dsimp only at hSw); go_simp; (try with_reducible rfl)
  try simp only [Act.put, List.setIfInBounds_toArray, List.set_cons_zero, List.set_cons_succ]
  refine' wpAnyH_take (i := 6) (oi := _) (v := _) rfl (by kernel_rfl) (by kernel_rfl) (by kernel_rfl) (fun _ _ _ h => h) (Or.inl ⟨?_, ?_⟩) (by assumption) ?_
  rotate_left
  all_goals (try simp only [List.getElem_toArray, List.getElem_cons_succ, List.getElem_cons_zero])
  · rfl
  · intro W hSw; (try dsimp only at hSw); go_simp; (try with_reducible rfl)
  try simp only [Act.put, List.setIfInBounds_toArray, List.set_cons_zero, List.set_cons_succ]
  refine' wpAnyH_take (i := 7) (oi := _) (v := _) rfl (by kernel_rfl) (by kernel_rfl) (by kernel_rfl) (fun _ _ _ h => h) (Or.inl ⟨?_, ?_⟩) (by assumption) ?_
  rotate_left
  all_goals (try simp only [List.getElem_toArray, List.getElem_cons_succ, List.getElem_cons_zero])
  · rfl
  · intro W hSw; (try dsimp only at hSw); go_simp; (try with_reducible rfl)
  try simp only [Act.put, List.setIfInBounds_toArray, List.set_cons_zero, List.set_cons_succ]
  refine' wpAnyH_take (i := 8) (oi := _) (v := _) rfl (by kernel_rfl) (by kernel_rfl) (by kernel_rfl) (fun _ _ _ h => h) (Or.inl ⟨?_, ?_⟩) (by assumption) ?_
  rotate_left
  all_goals (try simp only [List.getElem_toArray, List.getElem_cons_succ, List.getElem_cons_zero])
  · rfl
  · intro W hSw; (try dsimp only at hSw); go_simp; (try with_reducible rfl)
  try simp only [Act.put, List.setIfInBounds_toArray, List.set_cons_zero, List.set_cons_succ]
  refine' wpAnyH_take (i := 9) (oi := _) (v := _) rfl (by kernel_rfl) (by kernel_rfl) (by kernel_rfl) (fun _ _ _ h => h) (Or.inl ⟨?_, ?_⟩) (by assumption) ?_
  rotate_left
  all_goals (try simp only [List.getElem_toArray, List.getElem_cons_succ, List.getElem_cons_zero])
  · rfl
  · intro W hSw; (try dsimp only at hSw); go_simp; (try with_reducible rfl)
  try simp only [Act.put, List.setIfInBounds_toArray, List.set_cons_zero, List.set_cons_succ]
  refine wpAnyH_done (by kernel_rfl) ?_ _
  have BF2 := boxed_below BF.out D2.out
  have cF := BF2.cell
  have fF := BF2.frozen
  go_wp2
  go_ret
  rw [setCell_id BF2]
  exact ⟨⟨_, rfl, N2.out⟩, D2.out⟩

set_option maxHeartbeats 1600000 in
theorem times7_any (x y : Value) (ma : Option Addr) (mn mc : Nat) (X Y M F G : Nat) (w : World) (hx : NatAt w x X) (hy : NatAt w y Y) (hm : NatAt w (.slice ma mn mc) M) (hM : Mod3 M) (hX : X < topN) (hY : Y < topN) (hG : Boxed w G 23 (.slice ma mn mc)) (hF : Boxed w F 4 (.bool true)) :
    Calls Try.prog 31 #[x, y, .pointer (some ⟨G, 0, none⟩), .pointer (some ⟨F, 0, none⟩)] w fun e w' => (∃ v, e = .returned v ∧ NatC w' v (X * Y % M)) ∧ Below w.heap.size w w' := by
  have NX := Lib.hid hx
  have NY := Lib.hid hy
  have NM := Lib.hid hm
  have M3 := Lib.hid hM
  have BF := Lib.hid hF
  have q0 := hG.cell
  have HR := Lib.hid (mulModR_yes (x := X) (y := Y) hM.1 hX hY (by have := hM.2.1; omega))
  clear hx hy hm hM hX hY hG hF
  go_enter Try.func31, Try.ntmps31
  go_wp2_with fail
  refine (mulMod_any _ _ _ X Y M _ NX.out NY.out NM.out).mono ?_
  rintro e w1 ⟨hr, hb⟩
  rw [HR.out] at hr
  obtain ⟨v1, rfl, ho⟩ := hr
  dsimp only
  have N1 := Lib.hid (NatC.of ho)
  have D1 := Lib.hid hb
  have BF2 := boxed_below BF.out hb
  have cF := BF2.cell
  have fF := BF2.frozen
  clear ho hb q0
  go_wp2
  go_ret
  rw [setCell_id BF2]
  exact ⟨⟨_, rfl, N1.out⟩, D1.out⟩

theorem rule1 (X M j k : Nat) : X ^ (j + k) % M = X ^ j % M * (X ^ k % M) % M := by rw [Nat.pow_add, Nat.mul_mod]
theorem rule2 (X M j k : Nat) : (X ^ j % M) ^ k % M = X ^ (j * k) % M := by rw [← Nat.pow_mod, ← Nat.pow_mul]
theorem rule3 (X Y M j : Nat) : (X * Y) ^ j % M = X ^ j % M * (Y ^ j % M) % M := by rw [Nat.mul_pow, Nat.mul_mod]

set_option maxRecDepth 100000 in
set_option maxHeartbeats 4000000 in
theorem rules_walk (a : Option Addr) (nx cx : Nat) (a' : Option Addr) (ny cy : Nat) (a'' : Option Addr) (nz cz : Nat) (X Y M : Nat) (j k : Int) (w : World) (hx : NatAt w (.slice a nx cx) X) (hy : NatAt w (.slice a' ny cy) Y) (hm : NatAt w (.slice a'' nz cz) M) (hj : (Lit.int .u32 j).wf = true) (hk : (Lit.int .u32 k).wf = true) :
    Calls Try.prog 6 #[.slice a nx cx, .slice a' ny cy, .slice a'' nz cz, .int .u32 j, .int .u32 k] w fun e w' => e = .returned (.bool true) ∧ Below w.heap.size w w' := by
  obtain ⟨jn, rfl, hjn⟩ : ∃ jn : Nat, j = (jn : Int) ∧ jn < 4294967296 := by
    simp [Lit.wf, IntKind.min, IntKind.max, IntKind.signed, IntKind.bits] at hj
    exact ⟨j.toNat, by omega, by omega⟩
  obtain ⟨kn, rfl, hkn⟩ : ∃ kn : Nat, k = (kn : Int) ∧ kn < 4294967296 := by
    simp [Lit.wf, IntKind.min, IntKind.max, IntKind.signed, IntKind.bits] at hk
    exact ⟨k.toNat, by omega, by omega⟩
  have hbm := (Below.refl w.heap.size w).alloc (Nat.le_refl _) (.cells #[.slice a'' nz cz] 23)
  have BG := Lib.hid (Boxed.new w 23 (.slice a'' nz cz))
  have HX := Lib.hid (hx.below hbm)
  have HY := Lib.hid (hy.below hbm)
  have HM := Lib.hid (hm.below hbm)
  have F := Lib.hid hbm
  obtain ⟨r, hg⟩ : ∃ r, r = decide (20 < nx ∨ 20 < ny ∨ 20 < nz) := ⟨_, rfl⟩
  clear hx hy hm hj hk hbm
  by_cases hl : 20 < nx ∨ 20 < ny ∨ 20 < nz
  · have HG := Lib.hid (show true = decide (20 < nx ∨ 20 < ny ∨ 20 < nz) by rw [decide_eq_true hl])
    clear hg hl
    go_enter Try.func6, Try.ntmps6
    go_wp2_with fail
    generalize w.alloc (.cells #[.slice a'' nz cz] 23) = w0 at *
    skip
    refine (alive_any _).mono ?_
    rintro e w1 ⟨rfl, hb⟩
    replace BG := Lib.hid (boxed_below BG.out hb)
    replace HX := Lib.hid (HX.out.below hb)
    replace HY := Lib.hid (HY.out.below hb)
    replace HM := Lib.hid (HM.out.below hb)
    replace F := Lib.hid (F.out.trans (hb.mono F.out.size))
    clear hb
    have cBG := BG.out.cell
    go_wp2_with fail
    clear cBG
    refine (great3 HX.out HY.out HM.out 20 20 rfl _ (by simp) _ true HG.out).mono ?_
    rintro e wg ⟨rfl, rfl⟩
    have hb := (Below.refl w1.heap.size w1).alloc (Nat.le_refl _) (.cells #[.slice a nx cx, .slice a' ny cy, .slice a'' nz cz] 23)
    replace HX := Lib.hid (HX.out.below hb)
    replace HY := Lib.hid (HY.out.below hb)
    replace HM := Lib.hid (HM.out.below hb)
    replace BG := Lib.hid (boxed_below BG.out hb)
    replace F := Lib.hid (F.out.trans (hb.mono F.out.size))
    clear hb
    generalize w1.alloc (.cells #[.slice a nx cx, .slice a' ny cy, .slice a'' nz cz] 23) = u2 at *
    have cBG := BG.out.cell
    go_wp2
    go_ret
    exact ⟨rfl, F.out⟩
  · have HG := Lib.hid (show false = decide (20 < nx ∨ 20 < ny ∨ 20 < nz) by rw [decide_eq_false hl])
    by_cases h3 : Mod3 M
    · have M3 := Lib.hid h3
      have hX20 := HX.out.lt (show nx ≤ 20 by omega)
      have hY20 := HY.out.lt (show ny ≤ 20 by omega)
      have hXt := Lib.hid (top_le hX20 (by decide))
      have hYt := Lib.hid (top_le hY20 (by decide))
      have hXY := Lib.hid (show X * Y < topN from top_le (k := 40) (by
        rw [show (40 : Nat) = 20 + 20 from rfl, Nat.pow_add]
        exact Nat.mul_lt_mul'' hX20 hY20) (by decide))
      have hMt := Lib.hid (Nat.lt_of_lt_of_le h3.1 topM_le)
      have hM0 := Lib.hid (show 0 < M by have := h3.2.1; omega)
      have hrt := Lib.hid (fun Z => Nat.lt_trans (Nat.mod_lt Z hM0.out) hMt.out)
      have hjk : jn + kn < 18446744073709551616 := by omega
      have hjk2 : jn * kn < 18446744073709551616 := by
        have : jn * kn ≤ 4294967295 * 4294967295 := Nat.mul_le_mul (by omega) (by omega)
        omega
      have es : (jn : Int) + (kn : Int) = ((jn + kn : Nat) : Int) := by omega
      have em : (jn : Int) * (kn : Int) = ((jn * kn : Nat) : Int) := by simp
      have R1 := Lib.hid (rule1 X M jn kn)
      have R2 := Lib.hid (rule2 X M jn kn)
      obtain ⟨s, hs⟩ : ∃ s, s = jn + kn := ⟨_, rfl⟩
      obtain ⟨p, hp⟩ : ∃ p, p = jn * kn := ⟨_, rfl⟩
      rw [← hs] at es hjk R1
      rw [← hp] at em hjk2 R2
      clear hg hl hX20 hY20 h3 hs hp
      go_enter Try.func6, Try.ntmps6
      go_wp2_with fail
      generalize w.alloc (.cells #[.slice a'' nz cz] 23) = w0 at *
      skip
      refine (alive_any _).mono ?_
      rintro e w1 ⟨rfl, hb⟩
      replace BG := Lib.hid (boxed_below BG.out hb)
      replace HX := Lib.hid (HX.out.below hb)
      replace HY := Lib.hid (HY.out.below hb)
      replace HM := Lib.hid (HM.out.below hb)
      replace F := Lib.hid (F.out.trans (hb.mono F.out.size))
      clear hb
      have cBG := BG.out.cell
      go_wp2_with fail
      clear cBG
      refine (great3 HX.out HY.out HM.out 20 20 rfl _ (by simp) _ false HG.out).mono ?_
      rintro e wg ⟨rfl, rfl⟩
      have hb := (Below.refl w1.heap.size w1).alloc (Nat.le_refl _) (.cells #[.slice a nx cx, .slice a' ny cy, .slice a'' nz cz] 23)
      replace HX := Lib.hid (HX.out.below hb)
      replace HY := Lib.hid (HY.out.below hb)
      replace HM := Lib.hid (HM.out.below hb)
      replace BG := Lib.hid (boxed_below BG.out hb)
      replace F := Lib.hid (F.out.trans (hb.mono F.out.size))
      clear hb
      generalize w1.alloc (.cells #[.slice a nx cx, .slice a' ny cy, .slice a'' nz cz] 23) = u2 at *
      have cBG := BG.out.cell
      have hbf := (Below.refl u2.heap.size u2).alloc (Nat.le_refl _) (.cells #[.bool true] 4)
      have BF := Lib.hid (Boxed.new u2 4 (.bool true))
      replace HX := Lib.hid (HX.out.below hbf)
      replace HY := Lib.hid (HY.out.below hbf)
      replace HM := Lib.hid (HM.out.below hbf)
      replace BG := Lib.hid (boxed_below BG.out hbf)
      replace F := Lib.hid (F.out.trans (hbf.mono F.out.size))
      clear cBG hbf
      have cBG := BG.out.cell
      have cBF := BF.out.cell
      go_wp2_with fail
      clear cBG cBF
      generalize u2.alloc (.cells #[.bool true] 4) = wf at *
      generalize u2.heap.size = gF at *
      skip
      refine (new_ok _ M _ HM.out M3.out.1 M3.out.2.1 M3.out.2.2).mono ?_
      rintro e w3 ⟨⟨pw, rfl, -⟩, hb⟩
      replace BG := Lib.hid (boxed_below BG.out hb)
      replace BF := Lib.hid (boxed_below BF.out hb)
      replace HX := Lib.hid (HX.out.below hb)
      replace HY := Lib.hid (HY.out.below hb)
      replace HM := Lib.hid (HM.out.below hb)
      replace F := Lib.hid (F.out.trans (hb.mono F.out.size))
      clear hb
      have cBG := BG.out.cell
      have cBF := BF.out.cell
      go_wp2_with fail
      clear cBG
      clear cBF
      skip
      refine (pow_any _ _ _ _ _ jn _ M gF _ _ HX.out HM.out M3.out hXt.out rfl (by omega) BG.out BF.out).mono ?_
      rintro e w4 ⟨⟨v1, rfl, ho⟩, hb⟩
      replace BG := Lib.hid (boxed_below BG.out hb)
      replace BF := Lib.hid (boxed_below BF.out hb)
      replace HX := Lib.hid (HX.out.below hb)
      replace HY := Lib.hid (HY.out.below hb)
      replace HM := Lib.hid (HM.out.below hb)
      have XJ := Lib.hid (ho)
      replace F := Lib.hid (F.out.trans (hb.mono F.out.size))
      clear hb
      have cBG := BG.out.cell
      have cBF := BF.out.cell
      go_wp2_with fail
      clear cBG
      clear cBF
      skip
      refine (pow_any _ _ _ _ _ kn _ M gF _ _ HX.out HM.out M3.out hXt.out rfl (by omega) BG.out BF.out).mono ?_
      rintro e w5 ⟨⟨v2, rfl, ho⟩, hb⟩
      replace BG := Lib.hid (boxed_below BG.out hb)
      replace BF := Lib.hid (boxed_below BF.out hb)
      replace HX := Lib.hid (HX.out.below hb)
      replace HY := Lib.hid (HY.out.below hb)
      replace HM := Lib.hid (HM.out.below hb)
      replace XJ := Lib.hid (XJ.out.below hb)
      have XK := Lib.hid (ho)
      replace F := Lib.hid (F.out.trans (hb.mono F.out.size))
      clear hb
      have cBG := BG.out.cell
      have cBF := BF.out.cell
      go_wp2_with fail
      clear cBG
      clear cBF
      skip
      refine (pow_any _ _ _ _ _ s _ M gF _ _ HX.out HM.out M3.out hXt.out rfl hjk BG.out BF.out).mono ?_
      rintro e w6 ⟨⟨v3, rfl, ho⟩, hb⟩
      replace BG := Lib.hid (boxed_below BG.out hb)
      replace BF := Lib.hid (boxed_below BF.out hb)
      replace HX := Lib.hid (HX.out.below hb)
      replace HY := Lib.hid (HY.out.below hb)
      replace HM := Lib.hid (HM.out.below hb)
      replace XJ := Lib.hid (XJ.out.below hb)
      replace XK := Lib.hid (XK.out.below hb)
      have XS := Lib.hid (ho)
      replace F := Lib.hid (F.out.trans (hb.mono F.out.size))
      clear hb
      have cBG := BG.out.cell
      have cBF := BF.out.cell
      go_wp2_with fail
      clear cBG
      clear cBF
      skip
      refine (times7_any _ _ _ _ _ _ _ M gF _ _ XJ.out.at XK.out.at HM.out M3.out (hrt.out _) (hrt.out _) BG.out BF.out).mono ?_
      rintro e w7 ⟨⟨v4, rfl, ho⟩, hb⟩
      replace BG := Lib.hid (boxed_below BG.out hb)
      replace BF := Lib.hid (boxed_below BF.out hb)
      replace HX := Lib.hid (HX.out.below hb)
      replace HY := Lib.hid (HY.out.below hb)
      replace HM := Lib.hid (HM.out.below hb)
      replace XJ := Lib.hid (XJ.out.below hb)
      replace XK := Lib.hid (XK.out.below hb)
      replace XS := Lib.hid (XS.out.below hb)
      have T1 := Lib.hid (ho)
      replace F := Lib.hid (F.out.trans (hb.mono F.out.size))
      clear hb
      have cBG := BG.out.cell
      have cBF := BF.out.cell
      go_wp2_with fail
      clear cBG
      clear cBF
      skip
      refine (cmp_nat XS.out.at T1.out.at 0 (ordN_eq R1.out).symm).mono ?_
      rintro e w8 ⟨rfl, hb⟩
      replace BG := Lib.hid (boxed_below BG.out hb)
      replace BF := Lib.hid (boxed_below BF.out hb)
      replace HX := Lib.hid (HX.out.below hb)
      replace HY := Lib.hid (HY.out.below hb)
      replace HM := Lib.hid (HM.out.below hb)
      replace XJ := Lib.hid (XJ.out.below hb)
      replace XK := Lib.hid (XK.out.below hb)
      replace XS := Lib.hid (XS.out.below hb)
      replace T1 := Lib.hid (T1.out.below hb)
      replace F := Lib.hid (F.out.trans (hb.mono F.out.size))
      clear hb
      have cBG := BG.out.cell
      have cBF := BF.out.cell
      go_wp2_with fail
      clear cBG
      clear cBF
      skip
      refine (pow_any _ _ _ _ _ kn _ M gF _ _ XJ.out.at HM.out M3.out (hrt.out _) rfl (by omega) BG.out BF.out).mono ?_
      rintro e w9 ⟨⟨v5, rfl, ho⟩, hb⟩
      replace BG := Lib.hid (boxed_below BG.out hb)
      replace BF := Lib.hid (boxed_below BF.out hb)
      replace HX := Lib.hid (HX.out.below hb)
      replace HY := Lib.hid (HY.out.below hb)
      replace HM := Lib.hid (HM.out.below hb)
      replace XJ := Lib.hid (XJ.out.below hb)
      replace XK := Lib.hid (XK.out.below hb)
      replace XS := Lib.hid (XS.out.below hb)
      replace T1 := Lib.hid (T1.out.below hb)
      have XJK := Lib.hid (ho)
      replace F := Lib.hid (F.out.trans (hb.mono F.out.size))
      clear hb
      have cBG := BG.out.cell
      have cBF := BF.out.cell
      go_wp2_with fail
      clear cBG
      clear cBF
      skip
      refine (pow_any _ _ _ _ _ p _ M gF _ _ HX.out HM.out M3.out hXt.out rfl hjk2 BG.out BF.out).mono ?_
      rintro e w10 ⟨⟨v6, rfl, ho⟩, hb⟩
      replace BG := Lib.hid (boxed_below BG.out hb)
      replace BF := Lib.hid (boxed_below BF.out hb)
      replace HX := Lib.hid (HX.out.below hb)
      replace HY := Lib.hid (HY.out.below hb)
      replace HM := Lib.hid (HM.out.below hb)
      replace XJ := Lib.hid (XJ.out.below hb)
      replace XK := Lib.hid (XK.out.below hb)
      replace XS := Lib.hid (XS.out.below hb)
      replace T1 := Lib.hid (T1.out.below hb)
      replace XJK := Lib.hid (XJK.out.below hb)
      have XP := Lib.hid (ho)
      replace F := Lib.hid (F.out.trans (hb.mono F.out.size))
      clear hb
      have cBG := BG.out.cell
      have cBF := BF.out.cell
      go_wp2_with fail
      clear cBG
      clear cBF
      skip
      refine (cmp_nat XJK.out.at XP.out.at 0 (ordN_eq R2.out).symm).mono ?_
      rintro e w11 ⟨rfl, hb⟩
      replace BG := Lib.hid (boxed_below BG.out hb)
      replace BF := Lib.hid (boxed_below BF.out hb)
      replace HX := Lib.hid (HX.out.below hb)
      replace HY := Lib.hid (HY.out.below hb)
      replace HM := Lib.hid (HM.out.below hb)
      replace XJ := Lib.hid (XJ.out.below hb)
      replace XK := Lib.hid (XK.out.below hb)
      replace XS := Lib.hid (XS.out.below hb)
      replace T1 := Lib.hid (T1.out.below hb)
      replace XJK := Lib.hid (XJK.out.below hb)
      replace XP := Lib.hid (XP.out.below hb)
      replace F := Lib.hid (F.out.trans (hb.mono F.out.size))
      clear hb
      have cBG := BG.out.cell
      have cBF := BF.out.cell
      go_wp2_with fail
      clear cBG
      clear cBF
      skip
      refine (mul_nat HX.out HY.out hXt.out hYt.out hXY.out).mono ?_
      rintro e w12 ⟨⟨v7, rfl, ho⟩, hb⟩
      replace BG := Lib.hid (boxed_below BG.out hb)
      replace BF := Lib.hid (boxed_below BF.out hb)
      replace HX := Lib.hid (HX.out.below hb)
      replace HY := Lib.hid (HY.out.below hb)
      replace HM := Lib.hid (HM.out.below hb)
      replace XJ := Lib.hid (XJ.out.below hb)
      replace XK := Lib.hid (XK.out.below hb)
      replace XS := Lib.hid (XS.out.below hb)
      replace T1 := Lib.hid (T1.out.below hb)
      replace XJK := Lib.hid (XJK.out.below hb)
      replace XP := Lib.hid (XP.out.below hb)
      have XY := Lib.hid (ho)
      replace F := Lib.hid (F.out.trans (hb.mono F.out.size))
      clear hb
      have cBG := BG.out.cell
      have cBF := BF.out.cell
      go_wp2_with fail
      clear cBG
      clear cBF
      skip
      refine (pow_any _ _ _ _ _ jn _ M gF _ _ XY.out.at HM.out M3.out hXY.out rfl (by omega) BG.out BF.out).mono ?_
      rintro e w13 ⟨⟨v8, rfl, ho⟩, hb⟩
      replace BG := Lib.hid (boxed_below BG.out hb)
      replace BF := Lib.hid (boxed_below BF.out hb)
      replace HX := Lib.hid (HX.out.below hb)
      replace HY := Lib.hid (HY.out.below hb)
      replace HM := Lib.hid (HM.out.below hb)
      replace XJ := Lib.hid (XJ.out.below hb)
      replace XK := Lib.hid (XK.out.below hb)
      replace XS := Lib.hid (XS.out.below hb)
      replace T1 := Lib.hid (T1.out.below hb)
      replace XJK := Lib.hid (XJK.out.below hb)
      replace XP := Lib.hid (XP.out.below hb)
      replace XY := Lib.hid (XY.out.below hb)
      have Q1 := Lib.hid (ho)
      replace F := Lib.hid (F.out.trans (hb.mono F.out.size))
      clear hb
      have cBG := BG.out.cell
      have cBF := BF.out.cell
      go_wp2_with fail
      clear cBG
      clear cBF
      skip
      refine (pow_any _ _ _ _ _ jn _ M gF _ _ HY.out HM.out M3.out hYt.out rfl (by omega) BG.out BF.out).mono ?_
      rintro e w14 ⟨⟨v9, rfl, ho⟩, hb⟩
      replace BG := Lib.hid (boxed_below BG.out hb)
      replace BF := Lib.hid (boxed_below BF.out hb)
      replace HX := Lib.hid (HX.out.below hb)
      replace HY := Lib.hid (HY.out.below hb)
      replace HM := Lib.hid (HM.out.below hb)
      replace XJ := Lib.hid (XJ.out.below hb)
      replace XK := Lib.hid (XK.out.below hb)
      replace XS := Lib.hid (XS.out.below hb)
      replace T1 := Lib.hid (T1.out.below hb)
      replace XJK := Lib.hid (XJK.out.below hb)
      replace XP := Lib.hid (XP.out.below hb)
      replace XY := Lib.hid (XY.out.below hb)
      replace Q1 := Lib.hid (Q1.out.below hb)
      have YJ := Lib.hid (ho)
      replace F := Lib.hid (F.out.trans (hb.mono F.out.size))
      clear hb
      have cBG := BG.out.cell
      have cBF := BF.out.cell
      go_wp2_with fail
      clear cBG
      clear cBF
      skip
      refine (times7_any _ _ _ _ _ _ _ M gF _ _ XJ.out.at YJ.out.at HM.out M3.out (hrt.out _) (hrt.out _) BG.out BF.out).mono ?_
      rintro e w15 ⟨⟨v10, rfl, ho⟩, hb⟩
      replace BG := Lib.hid (boxed_below BG.out hb)
      replace BF := Lib.hid (boxed_below BF.out hb)
      replace HX := Lib.hid (HX.out.below hb)
      replace HY := Lib.hid (HY.out.below hb)
      replace HM := Lib.hid (HM.out.below hb)
      replace XJ := Lib.hid (XJ.out.below hb)
      replace XK := Lib.hid (XK.out.below hb)
      replace XS := Lib.hid (XS.out.below hb)
      replace T1 := Lib.hid (T1.out.below hb)
      replace XJK := Lib.hid (XJK.out.below hb)
      replace XP := Lib.hid (XP.out.below hb)
      replace XY := Lib.hid (XY.out.below hb)
      replace Q1 := Lib.hid (Q1.out.below hb)
      replace YJ := Lib.hid (YJ.out.below hb)
      have T3 := Lib.hid (ho)
      replace F := Lib.hid (F.out.trans (hb.mono F.out.size))
      clear hb
      have cBG := BG.out.cell
      have cBF := BF.out.cell
      go_wp2_with fail
      clear cBG
      clear cBF
      skip
      refine (cmp_nat Q1.out.at T3.out.at 0 (ordN_eq (rule3 X Y M jn)).symm).mono ?_
      rintro e w16 ⟨rfl, hb⟩
      replace BG := Lib.hid (boxed_below BG.out hb)
      replace BF := Lib.hid (boxed_below BF.out hb)
      replace HX := Lib.hid (HX.out.below hb)
      replace HY := Lib.hid (HY.out.below hb)
      replace HM := Lib.hid (HM.out.below hb)
      replace XJ := Lib.hid (XJ.out.below hb)
      replace XK := Lib.hid (XK.out.below hb)
      replace XS := Lib.hid (XS.out.below hb)
      replace T1 := Lib.hid (T1.out.below hb)
      replace XJK := Lib.hid (XJK.out.below hb)
      replace XP := Lib.hid (XP.out.below hb)
      replace XY := Lib.hid (XY.out.below hb)
      replace Q1 := Lib.hid (Q1.out.below hb)
      replace YJ := Lib.hid (YJ.out.below hb)
      replace T3 := Lib.hid (T3.out.below hb)
      replace F := Lib.hid (F.out.trans (hb.mono F.out.size))
      clear hb
      have cBG := BG.out.cell
      have cBF := BF.out.cell
      go_wp2
      go_ret
      exact ⟨rfl, F.out⟩
    · have M3 := Lib.hid h3
      clear hg hl h3
      go_enter Try.func6, Try.ntmps6
      go_wp2_with fail
      generalize w.alloc (.cells #[.slice a'' nz cz] 23) = w0 at *
      skip
      refine (alive_any _).mono ?_
      rintro e w1 ⟨rfl, hb⟩
      replace BG := Lib.hid (boxed_below BG.out hb)
      replace HX := Lib.hid (HX.out.below hb)
      replace HY := Lib.hid (HY.out.below hb)
      replace HM := Lib.hid (HM.out.below hb)
      replace F := Lib.hid (F.out.trans (hb.mono F.out.size))
      clear hb
      have cBG := BG.out.cell
      go_wp2_with fail
      clear cBG
      refine (great3 HX.out HY.out HM.out 20 20 rfl _ (by simp) _ false HG.out).mono ?_
      rintro e wg ⟨rfl, rfl⟩
      have hb := (Below.refl w1.heap.size w1).alloc (Nat.le_refl _) (.cells #[.slice a nx cx, .slice a' ny cy, .slice a'' nz cz] 23)
      replace HX := Lib.hid (HX.out.below hb)
      replace HY := Lib.hid (HY.out.below hb)
      replace HM := Lib.hid (HM.out.below hb)
      replace BG := Lib.hid (boxed_below BG.out hb)
      replace F := Lib.hid (F.out.trans (hb.mono F.out.size))
      clear hb
      generalize w1.alloc (.cells #[.slice a nx cx, .slice a' ny cy, .slice a'' nz cz] 23) = u2 at *
      have cBG := BG.out.cell
      have hbf := (Below.refl u2.heap.size u2).alloc (Nat.le_refl _) (.cells #[.bool true] 4)
      replace HM := Lib.hid (HM.out.below hbf)
      replace BG := Lib.hid (boxed_below BG.out hbf)
      replace F := Lib.hid (F.out.trans (hbf.mono F.out.size))
      clear cBG hbf
      have cBG := BG.out.cell
      go_wp2_with fail
      refine (new_no _ M _ HM.out M3.out).mono ?_
      rintro e wn ⟨rfl, hb⟩
      replace F := Lib.hid (F.out.trans (hb.mono F.out.size))
      clear hb
      go_wp2
      go_ret
      exact ⟨rfl, F.out⟩

end Go.Proofs.Ytebfoalcmnpghaa
