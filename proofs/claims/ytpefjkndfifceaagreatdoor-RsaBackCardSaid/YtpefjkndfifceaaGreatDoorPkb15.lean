/- Part of the proofs: what the functions that the law calls do. -/
import Derived.Test.YtpefjkndfifceaaGreatDoorPkb1
import Derived.Test.YtpefjkndfifceaaGreatDoorPkb6
import Derived.Test.YtpefjkndfifceaaGreatDoorPkb7
import Derived.Test.YtpefjkndfifceaaGreatDoorPkb9
import Derived.Test.YtpefjkndfifceaaGreatDoorPkb12
import Derived.Test.YtpefjkndfifceaaGreatDoorPkb14
import Derived.Deep.RegionHeld
import Derived.OrdersHeld
import Derived.Laws.ResultCell
import Derived.Laws.EntriesVeiled
open Go.Lib renaming hid → zH
open List renaming setIfInBounds_toArray → zq1, set_cons_zero → zq2, set_cons_succ → zq3, getElem_toArray → zq4, getElem_cons_succ → zq5, getElem_cons_zero → zq6
set_option linter.unusedVariables false
set_option linter.unusedSimpArgs false
namespace Go.Proofs.YtpefjkndfifceaaGreatDoor
open Go.RowKit
instance (M : Nat) : Decidable (Mod3 M) := by unfold Mod3; infer_instance
namespace rf
end rf
end Go.Proofs.YtpefjkndfifceaaGreatDoor
namespace Go.Proofs.YtpefjkndfifceaaGreatDoor
open Go.RowKit
namespace rf
end rf
end Go.Proofs.YtpefjkndfifceaaGreatDoor
namespace Go.Proofs.YtpefjkndfifceaaGreatDoor
open Go.RowKit
set_option maxRecDepth 100000
theorem byte_small {l : List Nat} (hb : Byt l) (h : l.length ≤ 1024) : valB 256 l.reverse < topN := by
 have h1 := valB_lt (b := 256) (by decide) (l := l.reverse) (fun x hx => hb x (List.mem_reverse.1 hx))
 rw [List.length_reverse] at h1
 exact top_of topN_256 h h1
def raiseV (N B Y : List Nat) : List UInt8 × Int := if nV B < nV N then Oc.padR (u8s (natB 256 (nV B ^ nV Y % nV N)).reverse) (N.length : Int) else ([], 101)
set_option maxRecDepth 100000
theorem two_top {j k : Nat} (hj : topM = 2 ^ j) (hk : k ≤ j) {n : Nat} (h : n < 2 ^ k) : n < topM := by
 rw [hj]
 exact Nat.lt_of_lt_of_le h (Nat.pow_le_pow_right (show 0 < 2 by decide) hk)
theorem topM_2 {j : Nat} (hj : j = 4096) : topM = 2 ^ j := by
 have h : ∀ a b c d e : Nat, a = b ^ c → e = c * d → a ^ d = b ^ e := by
  rintro a b c d e rfl rfl
  exact (Nat.pow_mul b c d).symm
 exact h 4294967296 2 32 128 j (by decide) (by omega)
theorem pub_mod {N E : List Nat} (h : PubP N E) : Mod3 (nV N) := by
 obtain ⟨-, -, h1, h2, -, -, h3, -, -⟩ := h
 refine ⟨two_top (topM_2 rfl) (Nat.le_refl _) ((bitsN_le (nV N) 4096).1 h2), ?_, ?_⟩
 ·by_cases h4 : 3 ≤ nV N
  ·exact h4
  ·have h5 := (bitsN_le (nV N) 2).2 (by omega)
   omega
 ·rw [Nat.testBit_zero] at h3
  exact of_decide_eq_true h3
open Classical in
noncomputable def rRaise (N E B : List Nat) : List UInt8 × Int := if PubP N E then raiseV N B E else ([], 100)
open Classical in
noncomputable def rLower (N E D B : List Nat) : List UInt8 × Int := if PrivP N E D then raiseV N B D else ([], 100)
set_option maxRecDepth 100000
theorem results_cell1 {fn : Func} {p : Tmp} {ty : TypeId} (h : fn.results = #[.cell p ty]) (tmps : Array Value) (P : Program) (w : World) :
  (results fn tmps).run P w = ((asAddr (tmps.getD p undef)).run P w).andThen fun a w₁ => (loadVar ty a).run P w₁ := by
 simp [results, h]
theorem half_cells {X : World} {P : Nat} {c0 c1 : Value} {t : TypeId} (h : X.heap[P]? = some (.cells #[c0, c1] t)) : X.cell? ⟨P, 0, none⟩ = some c0 ∧ X.cell? ⟨P, 1, none⟩ = some c1 := by
 simp [World.cell?, h]
theorem publicE_m (x y z : Value) (w : World) (hx : ∃ a n c, x = .slice a n c) (hy : ∃ a n c, y = .slice a n c) (hz : ∃ a n c, z = .slice a n c) :
  Calls Tryz.prog 105 #[.agg #[x, y, z]] w fun e w' => e = .returned y ∧ Below w.heap.size w w' := by
 obtain ⟨a1, n1, c1, rfl⟩ := hx
 obtain ⟨a2, n2, c2, rfl⟩ := hy
 obtain ⟨a3, n3, c3, rfl⟩ := hz
 go_enter Tryz.func105, Tryz.ntmps105
 go_wp2
 go_ret
 exact ⟨rfl, (Below.refl _ _).alloc (Nat.le_refl _) _⟩
theorem privateE_m (x y z : Value) (w : World) (hx : ∃ a n c, x = .slice a n c) (hy : ∃ a n c, y = .slice a n c) (hz : ∃ a n c, z = .slice a n c) :
  Calls Tryz.prog 108 #[.agg #[x, y, z]] w fun e w' => e = .returned z ∧ Below w.heap.size w w' := by
 obtain ⟨a1, n1, c1, rfl⟩ := hx
 obtain ⟨a2, n2, c2, rfl⟩ := hy
 obtain ⟨a3, n3, c3, rfl⟩ := hz
 go_enter Tryz.func108, Tryz.ntmps108
 go_wp2
 go_ret
 exact ⟨rfl, (Below.refl _ _).alloc (Nat.le_refl _) _⟩
theorem publicHalf_any (w : World) : Calls Tryz.prog 64 #[] w fun e w' => e = .returned (.agg #[.func (.func 32) #[] #[], .func (.func 105) #[] #[]]) ∧ Below w.heap.size w w' := by
 go_enter Tryz.func64, Tryz.ntmps64
 go_wp2
 refine bodyPost_ret (v := .agg #[.func (.func 32) #[] #[], .func (.func 105) #[] #[]]) ?_ rfl ⟨rfl, ?_⟩
 ·rw [results_cell1 rfl]
  go_simp
 ·exact ((Below.refl _ _).alloc (Nat.le_refl _) _)
set_option maxHeartbeats 8000000 in
theorem hraise_any (na : Option Addr) (nn nc : Nat) (N : List Nat) (ea : Option Addr) (en ec : Nat) (E : List Nat) (da : Option Addr) (dn dc : Nat) (D : List Nat) (ba : Option Addr) (bn bc : Nat) (B : List Nat) (w : World) (hN : Reads .u8 w na nn nc N) (bN : Byt N) (hE : Reads .u8 w ea en ec E) (bE : Byt E) (hD : Reads .u8 w da dn dc D) (bD : Byt D) (hB : Reads .u8 w ba bn bc B) (bB : Byt B) (ln : nn ≤ 700) (le : en ≤ 700) (ld : dn ≤ 700) (lb : bn ≤ 1000) :
  Calls Tryz.prog 65 #[.agg #[.func (.func 32) #[] #[], .func (.func 105) #[] #[]], .agg #[.slice na nn nc, .slice ea en ec, .slice da dn dc], .slice ba bn bc] w fun e w' => Oc.RetsOwn2 w.heap.size w' (rRaise N E B) e ∧ Below w.heap.size w w' := by
 have HRN := zH hN
 have HRE := zH hE
 have HRD := zH hD
 have HRB := zH hB
 have HBN := zH bN
 have HBE := zH bE
 have HBD := zH bD
 have HBB := zH bB
 have HNL := zH hN.length
 have HSN := zH (key_small bN (by rw [hN.length]; exact ln))
 have HSY := zH (key_small bE (by rw [hE.length]; exact le))
 have HSB := zH (byte_small bB (by rw [hB.length]; omega))
 have hba := ((Below.refl w.heap.size w).alloc (Nat.le_refl _) (.cells #[.func (.func 32) #[] #[], .func (.func 105) #[] #[]] 85)).alloc (by simp) (.cells #[.slice na nn nc, .slice ea en ec, .slice da dn dc] 24)
 have hqh : ((w.alloc (.cells #[.func (.func 32) #[] #[], .func (.func 105) #[] #[]] 85)).alloc (.cells #[.slice na nn nc, .slice ea en ec, .slice da dn dc] 24)).heap[w.heap.size]? = some (.cells #[.func (.func 32) #[] #[], .func (.func 105) #[] #[]] 85) := (Below.heap_alloc _ _ _ (by simp)).trans (World.alloc_heap_new w _)
 have hqk : ((w.alloc (.cells #[.func (.func 32) #[] #[], .func (.func 105) #[] #[]] 85)).alloc (.cells #[.slice na nn nc, .slice ea en ec, .slice da dn dc] 24)).heap[w.heap.size + 1]? = some (.cells #[.slice na nn nc, .slice ea en ec, .slice da dn dc] 24) := by
  have h := World.alloc_heap_new (w.alloc (.cells #[.func (.func 32) #[] #[], .func (.func 105) #[] #[]] 85)) (.cells #[.slice na nn nc, .slice ea en ec, .slice da dn dc] 24)
  rwa [World.size_alloc] at h
 have HQH0 := zH hqh
 have HQK0 := zH hqk
 have HB := zH hba
 clear hN bN hE bE hD bD hB bB hba hqh hqk
 go_enter Tryz.func65, Tryz.ntmps65
 go_wp2_with fail
 generalize (w.alloc (.cells #[.func (.func 32) #[] #[], .func (.func 105) #[] #[]] 85)).alloc (.cells #[.slice na nn nc, .slice ea en ec, .slice da dn dc] 24) = w0 at *
 obtain ⟨P, hP⟩ : ∃ P, w.heap.size = P := ⟨_, rfl⟩
 simp only [hP] at HQH0 HQK0 ⊢
 have HPW := zH hP
 have HQ : Hid (∀ X, Below w0.heap.size w0 X → X.heap[P + 1]? = some (.cells #[.slice na nn nc, .slice ea en ec, .slice da dn dc] 24)) := zH fun X hX => (hX.block _ (Array.getElem?_eq_some_iff.1 HQK0.out).1).trans HQK0.out
 have HQH : Hid (∀ X, Below w0.heap.size w0 X → X.heap[P]? = some (.cells #[.func (.func 32) #[] #[], .func (.func 105) #[] #[]] 85)) := zH fun X hX => (hX.block _ (Array.getElem?_eq_some_iff.1 HQH0.out).1).trans HQH0.out
 clear hP HQH0 HQK0
 obtain ⟨q0, q1⟩ := half_cells (HQH.out _ (Below.refl _ _))
 obtain ⟨k0, k1, k2⟩ := key_cells (HQ.out _ (Below.refl _ _))
 go_wp2_with fail
 refine (public_any na nn nc N ea en ec E da dn dc w0 (HRN.out.below HB.out) HBN.out (HRE.out.below HB.out) HBE.out ln le).mono ?_
 rintro e w1 ⟨rfl, hb⟩
 have HC1 := zH hb
 clear q0 q1 k0 k1 k2 hb
 by_cases hp : PubP N E
 rotate_left
 ·have HF := zH (show rRaise N E B = ([], 100) by unfold rRaise; rw [if_neg hp])
  rw [show pubE N E = 100 by unfold pubE; rw [if_neg hp]]
  clear hp
  go_wp2
  go_ret2
  exact ⟨by rw [HF.out]; exact ⟨.slice none 0 0, rfl, World.ownsRow_nil _ _ _ _⟩, HPW.out ▸ (HB.out.trans (HC1.out.mono HB.out.size))⟩
 have HFR := zH (show rRaise N E B = raiseV N B E by unfold rRaise; rw [if_pos hp])
 have HM := zH (pub_mod (N := N) (E := E) hp)
 rw [show pubE N E = 0 by unfold pubE; rw [if_pos hp]]
 clear hp
 obtain ⟨k0, k1, k2⟩ := key_cells (HQ.out _ HC1.out)
 go_wp2_with fail
 refine (read_any na nn nc N w1 (HRN.out.below (HB.out.trans (HC1.out.mono HB.out.size))) HBN.out (by omega)).mono ?_
 rintro e w2 ⟨⟨v1, rfl, hv⟩, hb⟩
 rw [cutR_small HSN.out] at hv ⊢
 obtain ⟨a1, n1, c1, rfl, hn1, o1⟩ := num_slice hv HSN.out
 have V1 := zH o1
 have HC2 := zH (HC1.out.trans (hb.mono HC1.out.size))
 clear k0 k1 k2 hv hb HC1 o1
 go_wp2_with fail
 refine (read_any ba bn bc B w2 (HRB.out.below (HB.out.trans (HC2.out.mono HB.out.size))) HBB.out (by omega)).mono ?_
 rintro e w3 ⟨⟨v3, rfl, hv⟩, hb⟩
 rw [cutR_small HSB.out] at hv ⊢
 obtain ⟨a3, n3, c3, rfl, hn3, o3⟩ := num_slice hv HSB.out
 have V3 := zH o3
 replace V1 := zH (V1.out.below hb)
 have HC3 := zH (HC2.out.trans (hb.mono HC2.out.size))
 clear hv hb HC2 o3
 obtain ⟨o, hor⟩ : ∃ x, x = ordN (nV B) (nV N) := ⟨_, rfl⟩
 have hol : o = -1 ↔ nV B < nV N := by
  rw [hor]
  unfold ordN
  by_cases h : nV B < nV N
  ·rw [if_pos h]; exact ⟨fun _ => h, fun _ => rfl⟩
  ·rw [if_neg h]; constructor
   ·intro k; split at k <;> omega
   ·intro k; exact absurd k h
 have ho3 : o = -1 ∨ o = 0 ∨ o = 1 := by
  rw [hor]
  unfold ordN
  split
  ·exact .inl rfl
  ·split
   ·exact .inr (.inr rfl)
   ·exact .inr (.inl rfl)
 have HOL := zH hol
 have HOo := zH (show ordN (val32 (nat32 (nV B))) (val32 (nat32 (nV N))) = o by rw [val_nat, val_nat]; exact hor.symm)
 clear hor hol
 go_wp2_with fail
 refine (cmp_any a3 a1 n3 c3 n1 c1 _ _ _ V3.out.reads V1.out.reads (lim_nat _) (lim_nat _)).mono ?_
 rintro e w4 ⟨rfl, hb⟩
 rw [HOo.out]
 replace V1 := zH (V1.out.below hb)
 replace V3 := zH (V3.out.below hb)
 have HC4 := zH (HC3.out.trans (hb.mono HC3.out.size))
 clear hb HC3
 by_cases hc : o = -1
 rotate_left
 ·have t2 : decide ((0 : Int) ≤ o) = true := decide_eq_true (by omega)
  have HF := zH (show raiseV N B E = ([], 101) by unfold raiseV; rw [if_neg fun k => hc (HOL.out.2 k)])
  clear hc
  go_wp2
  go_ret2
  exact ⟨by rw [HFR.out, HF.out]; exact ⟨.slice none 0 0, rfl, World.ownsRow_nil _ _ _ _⟩, HPW.out ▸ (HB.out.trans (HC4.out.mono HB.out.size))⟩
 have t2 : decide ((0 : Int) ≤ o) = false := decide_eq_false (by omega)
 have HF := zH (show raiseV N B E = Oc.padR (u8s (natB 256 (nV B ^ nV E % nV N)).reverse) (N.length : Int) by unfold raiseV; rw [if_pos (HOL.out.1 hc)])
 clear hc
 obtain ⟨q0, q1⟩ := half_cells (HQH.out _ HC4.out)
 obtain ⟨k0, k1, k2⟩ := key_cells (HQ.out _ HC4.out)
 go_wp2_with fail
 refine (publicE_m _ _ _ w4 ⟨_, _, _, rfl⟩ ⟨_, _, _, rfl⟩ ⟨_, _, _, rfl⟩).mono ?_
 rintro e w5 ⟨rfl, hb⟩
 replace V1 := zH (V1.out.below hb)
 replace V3 := zH (V3.out.below hb)
 have HC5 := zH (HC4.out.trans (hb.mono HC4.out.size))
 clear q0 q1 k0 k1 k2 hb HC4
 go_wp2_with fail
 refine (read_any ea en ec E w5 (HRE.out.below (HB.out.trans (HC5.out.mono HB.out.size))) HBE.out (by omega)).mono ?_
 rintro e w6 ⟨⟨v2, rfl, hv⟩, hb⟩
 rw [cutR_small HSY.out] at hv ⊢
 obtain ⟨a2, n2, c2, rfl, hn2, o2⟩ := num_slice hv HSY.out
 have V2 := zH o2
 replace V1 := zH (V1.out.below hb)
 replace V3 := zH (V3.out.below hb)
 have HC6 := zH (HC5.out.trans (hb.mono HC5.out.size))
 clear hv hb HC5 o2
 go_wp2_with fail
 refine (mpow_any _ _ _ _ _ _ _ (natAt_own V3.out) (natAt_own V2.out) (natAt_own V1.out) HM.out).mono ?_
 rintro e w7 ⟨hq, hb⟩
 rw [powR_yes HSB.out HSY.out] at hq
 obtain ⟨v5, rfl, hv⟩ := hq
 have hpt : nV B ^ nV E % nV N < topN := Nat.lt_trans (Nat.mod_lt _ (by have := HM.out.2.1; omega)) HSN.out
 obtain ⟨a5, n5, c5, rfl, hn5, ho⟩ := num_slice hv hpt
 have H5 := zH ho
 have HC5 := zH (HC6.out.trans (hb.mono HC6.out.size))
 clear hv hb ho V1 V2 V3 HC6
 obtain ⟨Z, hZe⟩ : ∃ Z, nV B ^ nV E % nV N = Z := ⟨_, rfl⟩
 rw [hZe] at HF H5 hpt
 have HZT := zH hpt
 clear hZe hpt
 go_wp2_with fail
 refine wp_region_held_drew (S := fun X => X.cell? ⟨P + 1, 0, none⟩ = some (.slice na nn nc) ∧ X.cell? ⟨P + 1, 1, none⟩ = some (.slice ea en ec) ∧ X.cell? ⟨P + 1, 2, none⟩ = some (.slice da dn dc)) (by kernel_rfl) (key_cells (HQ.out _ HC5.out.drew)) (fun hHeld => ?_)
 replace H5 := zH (H5.out.below (Below.refl _ _).drew)
 replace HC5 := zH HC5.out.drew
 generalize w7.drew = w8 at *
 refine' wpAnyH_take (i := 0) rfl (by kernel_rfl) (by kernel_rfl) (by kernel_rfl) (fun _ _ _ h => h) (Or.inl ⟨?_, ?_⟩) (by assumption) ?_
 rotate_left
 all_goals (try simp only [zq4, zq5, zq6])
 ·rfl
 ·intro W hSw; (try dsimp only at hSw); go_simp; (try with_reducible rfl)
 try simp only [Act.put, zq1, zq2, zq3]
 refine' wpAnyH_take (i := 2) rfl (by kernel_rfl) (by kernel_rfl) (by kernel_rfl) (fun _ _ _ h => h) (Or.inl ⟨?_, ?_⟩) (by assumption) ?_
 rotate_left
 all_goals (try simp only [zq4, zq5, zq6])
 ·rfl
 ·intro W hSw; (try dsimp only at hSw); go_simp; (try with_reducible rfl)
 try simp only [Act.put, zq1, zq2, zq3]
 refine' wpAnyH_take (i := 3) rfl (by kernel_rfl) (by kernel_rfl) (by kernel_rfl) (fun _ _ _ h => h) (Or.inl ⟨?_, ?_⟩) (by assumption) ?_
 rotate_left
 all_goals (try simp only [zq4, zq5, zq6])
 ·rfl
 ·intro W hSw; (try dsimp only at hSw); go_simp; (try with_reducible rfl)
 try simp only [Act.put, zq1, zq2, zq3]
 refine' wpAnyH_take (i := 4) rfl (by kernel_rfl) (by kernel_rfl) (by kernel_rfl) (fun _ _ _ h => h) (Or.inl ⟨?_, ?_⟩) (by assumption) ?_
 rotate_left
 all_goals (try simp only [zq4, zq5, zq6])
 ·rfl
 ·intro W hSw; (try dsimp only at hSw); go_simp; (try with_reducible rfl)
 try simp only [Act.put, zq1, zq2, zq3]
 refine wpAnyH_ready (rs := [1]) (by kernel_rfl) (by simp) ?_
 refine AllReadyH.cons (o := _) rfl (fun K hK => ?_) AllReadyH.nil
 try simp only [zq4, zq5, zq6]
 go_simp
 refine (bytes_any a5 n5 c5 _ _ H5.out.reads (lim_nat _) (by omega)).mono ?_; rintro e w9 ⟨⟨v7, rfl, hv⟩, hb⟩; rw [val_nat] at hv; obtain ⟨a7, n7, c7, rfl, hn7, ho⟩ := hv.slice; have H7 := zH ho; replace HC5 := zH (HC5.out.trans (hb.mono HC5.out.size)); have hn7b : n7 ≤ 1024 := (by rw [hn7, List.length_reverse]; exact (natB_length (by decide) Z 1024).2 (by rw [← topN_256]; exact HZT.out)); clear hv hb ho hn7
 go_wp2_with fail
 refine hK.out _ _ (key_cells (HQ.out _ HC5.out)) (fun hHeld => ?_)
 clear hK K
 try simp only [Act.put, zq1, zq2, zq3]
 refine wpAnyH_ready (rs := [5]) (by kernel_rfl) (by simp) ?_
 refine AllReadyH.cons (o := _) rfl (fun K hK => ?_) AllReadyH.nil
 try simp only [zq4, zq5, zq6]
 go_simp
 refine (Oc.pad_any a7 n7 c7 _ (nn : Int) _ (H7.out.reads.bts (fun x hx => natB_digit (by decide) Z x (List.mem_reverse.1 hx)))).mono ?_; rintro e w10 ⟨⟨v8, rfl, hv⟩, hb⟩; have H8 := zH (hv.mono HC5.out.size); replace HC5 := zH (HC5.out.trans (hb.mono HC5.out.size)); clear hv hb
 go_wp2_with fail
 refine hK.out _ _ (key_cells (HQ.out _ HC5.out)) (fun hHeld => ?_)
 clear hK K
 try simp only [Act.put, zq1, zq2, zq3]
 refine' wpAnyH_take (i := 6) rfl (by kernel_rfl) (by kernel_rfl) (by kernel_rfl) (fun _ _ _ h => h) (Or.inl ⟨?_, ?_⟩) (by assumption) ?_
 rotate_left
 all_goals (try simp only [zq4, zq5, zq6])
 ·rfl
 ·intro W hSw; (try dsimp only at hSw); go_simp; (try with_reducible rfl)
 try simp only [Act.put, zq1, zq2, zq3]
 refine' wpAnyH_take (i := 7) rfl (by kernel_rfl) (by kernel_rfl) (by kernel_rfl) (fun _ _ _ h => h) (Or.inl ⟨?_, ?_⟩) (by assumption) ?_
 rotate_left
 all_goals (try simp only [zq4, zq5, zq6])
 ·rfl
 ·intro W hSw; (try dsimp only at hSw); go_simp; (try with_reducible rfl)
 try simp only [Act.put, zq1, zq2, zq3]
 refine' wpAnyH_take (i := 8) rfl (by kernel_rfl) (by kernel_rfl) (by kernel_rfl) (fun _ _ _ h => h) (Or.inl ⟨?_, ?_⟩) (by assumption) ?_
 rotate_left
 all_goals (try simp only [zq4, zq5, zq6])
 ·rfl
 ·intro W hSw; (try dsimp only at hSw); go_simp; (try with_reducible rfl)
 try simp only [Act.put, zq1, zq2, zq3]
 refine' wpAnyH_take (i := 9) rfl (by kernel_rfl) (by kernel_rfl) (by kernel_rfl) (fun _ _ _ h => h) (Or.inl ⟨?_, ?_⟩) (by assumption) ?_
 rotate_left
 all_goals (try simp only [zq4, zq5, zq6])
 ·rfl
 ·intro W hSw; (try dsimp only at hSw); go_simp; (try with_reducible rfl)
 try simp only [Act.put, zq1, zq2, zq3]
 refine wpAnyH_done (by kernel_rfl) ?_ _
 simp only [Exit.then]
 clear hHeld
 go_wp2
 go_ret2
 exact ⟨by rw [HFR.out, HF.out, HNL.out]; exact ⟨v8, rfl, H8.out.mono (HPW.out ▸ HB.out.size)⟩, HPW.out ▸ (HB.out.trans (HC5.out.mono HB.out.size))⟩
set_option maxHeartbeats 8000000 in
theorem raise_any (na : Option Addr) (nn nc : Nat) (N : List Nat) (ea : Option Addr) (en ec : Nat) (E : List Nat) (da : Option Addr) (dn dc : Nat) (D : List Nat) (ba : Option Addr) (bn bc : Nat) (B : List Nat) (w : World) (hN : Reads .u8 w na nn nc N) (bN : Byt N) (hE : Reads .u8 w ea en ec E) (bE : Byt E) (hD : Reads .u8 w da dn dc D) (bD : Byt D) (hB : Reads .u8 w ba bn bc B) (bB : Byt B) (ln : nn ≤ 700) (le : en ≤ 700) (ld : dn ≤ 700) (lb : bn ≤ 1000) :
  Calls Tryz.prog 25 #[.agg #[.slice na nn nc, .slice ea en ec, .slice da dn dc], .slice ba bn bc] w fun e w' => Oc.RetsOwn2 w.heap.size w' (rRaise N E B) e ∧ Below w.heap.size w w' := by
 have HRN := zH hN
 have HRE := zH hE
 have HRD := zH hD
 have HRB := zH hB
 have HBN := zH bN
 have HBE := zH bE
 have HBD := zH bD
 have HBB := zH bB
 have hba := (Below.refl w.heap.size w).alloc (Nat.le_refl _) (.cells #[.slice na nn nc, .slice ea en ec, .slice da dn dc] 24)
 have hq0 : (w.alloc (.cells #[.slice na nn nc, .slice ea en ec, .slice da dn dc] 24)).heap[w.heap.size]? = some (.cells #[.slice na nn nc, .slice ea en ec, .slice da dn dc] 24) := World.alloc_heap_new w _
 have HQ0 := zH hq0
 have HB := zH hba
 clear hN bN hE bE hD bD hB bB hba hq0
 obtain ⟨R, hR⟩ : ∃ R, rRaise N E B = R := ⟨_, rfl⟩
 have HR := zH hR
 rw [hR]
 clear hR
 go_enter Tryz.func25, Tryz.ntmps25
 go_wp2_with fail
 generalize w.alloc (.cells #[.slice na nn nc, .slice ea en ec, .slice da dn dc] 24) = w0 at *
 obtain ⟨P, hP⟩ : ∃ P, w.heap.size = P := ⟨_, rfl⟩
 rw [hP] at HQ0 ⊢
 have HPW := zH hP
 have HQ : Hid (∀ X, Below w0.heap.size w0 X → X.heap[P]? = some (.cells #[.slice na nn nc, .slice ea en ec, .slice da dn dc] 24)) := zH fun X hX => (hX.block P (Array.getElem?_eq_some_iff.1 HQ0.out).1).trans HQ0.out
 clear hP HQ0
 have HC := zH (Below.refl w0.heap.size w0)
 refine wp_region_held_drew (S := fun X => X.cell? ⟨P, 0, none⟩ = some (.slice na nn nc) ∧ X.cell? ⟨P, 1, none⟩ = some (.slice ea en ec) ∧ X.cell? ⟨P, 2, none⟩ = some (.slice da dn dc)) (by kernel_rfl) (key_cells (HQ.out _ HC.out.drew)) (fun hHeld => ?_)
 replace HC := zH HC.out.drew
 generalize w0.drew = w1 at *
 refine' wpAnyH_take (i := 1) rfl (by kernel_rfl) (by kernel_rfl) (by kernel_rfl) (fun _ _ _ h => h) (Or.inl ⟨?_, ?_⟩) (by assumption) ?_
 rotate_left
 all_goals (try simp only [zq4, zq5, zq6])
 ·rfl
 ·intro W hSw; (try dsimp only at hSw); go_simp; (try with_reducible rfl)
 try simp only [Act.put, zq1, zq2, zq3]
 refine' wpAnyH_take (i := 2) rfl (by kernel_rfl) (by kernel_rfl) (by kernel_rfl) (fun _ _ _ h => h) (Or.inl ⟨?_, ?_⟩) (by assumption) ?_
 rotate_left
 all_goals (try simp only [zq4, zq5, zq6])
 ·rfl
 ·intro W hSw; (try dsimp only at hSw); go_simp; (try with_reducible rfl)
 try simp only [Act.put, zq1, zq2, zq3]
 refine wpAnyH_ready (rs := [0]) (by kernel_rfl) (by simp) ?_
 refine AllReadyH.cons (o := _) rfl (fun K hK => ?_) AllReadyH.nil
 try simp only [zq4, zq5, zq6]
 go_simp
 refine (publicHalf_any _).mono ?_; rintro e w2 ⟨rfl, hb⟩; replace HC := zH (HC.out.trans (hb.mono HC.out.size)); clear hb
 go_wp2_with fail
 refine hK.out _ _ (key_cells (HQ.out _ HC.out)) (fun hHeld => ?_)
 clear hK K
 try simp only [Act.put, zq1, zq2, zq3]
 refine wpAnyH_ready (rs := [3]) (by kernel_rfl) (by simp) ?_
 refine AllReadyH.cons (o := _) rfl (fun K hK => ?_) AllReadyH.nil
 try simp only [zq4, zq5, zq6]
 go_simp
 refine (hraise_any na nn nc N ea en ec E da dn dc D ba bn bc B _ (HRN.out.below (HB.out.trans (HC.out.mono HB.out.size))) HBN.out (HRE.out.below (HB.out.trans (HC.out.mono HB.out.size))) HBE.out (HRD.out.below (HB.out.trans (HC.out.mono HB.out.size))) HBD.out (HRB.out.below (HB.out.trans (HC.out.mono HB.out.size))) HBB.out ln le ld lb).mono ?_; rintro e w3 ⟨hq, hb⟩; rw [HR.out] at hq; obtain ⟨v8, rfl, hv⟩ := hq; have H8 := zH (hv.mono HC.out.size); replace HC := zH (HC.out.trans (hb.mono HC.out.size)); clear hv hb
 go_wp2_with fail
 refine hK.out _ _ (key_cells (HQ.out _ HC.out)) (fun hHeld => ?_)
 clear hK K
 try simp only [Act.put, zq1, zq2, zq3]
 refine' wpAnyH_take (i := 4) rfl (by kernel_rfl) (by kernel_rfl) (by kernel_rfl) (fun _ _ _ h => h) (Or.inl ⟨?_, ?_⟩) (by assumption) ?_
 rotate_left
 all_goals (try simp only [zq4, zq5, zq6])
 ·rfl
 ·intro W hSw; (try dsimp only at hSw); go_simp; (try with_reducible rfl)
 try simp only [Act.put, zq1, zq2, zq3]
 refine' wpAnyH_take (i := 5) rfl (by kernel_rfl) (by kernel_rfl) (by kernel_rfl) (fun _ _ _ h => h) (Or.inl ⟨?_, ?_⟩) (by assumption) ?_
 rotate_left
 all_goals (try simp only [zq4, zq5, zq6])
 ·rfl
 ·intro W hSw; (try dsimp only at hSw); go_simp; (try with_reducible rfl)
 try simp only [Act.put, zq1, zq2, zq3]
 refine' wpAnyH_take (i := 6) rfl (by kernel_rfl) (by kernel_rfl) (by kernel_rfl) (fun _ _ _ h => h) (Or.inl ⟨?_, ?_⟩) (by assumption) ?_
 rotate_left
 all_goals (try simp only [zq4, zq5, zq6])
 ·rfl
 ·intro W hSw; (try dsimp only at hSw); go_simp; (try with_reducible rfl)
 try simp only [Act.put, zq1, zq2, zq3]
 refine' wpAnyH_take (i := 7) rfl (by kernel_rfl) (by kernel_rfl) (by kernel_rfl) (fun _ _ _ h => h) (Or.inl ⟨?_, ?_⟩) (by assumption) ?_
 rotate_left
 all_goals (try simp only [zq4, zq5, zq6])
 ·rfl
 ·intro W hSw; (try dsimp only at hSw); go_simp; (try with_reducible rfl)
 try simp only [Act.put, zq1, zq2, zq3]
 refine wpAnyH_done (by kernel_rfl) ?_ _
 simp only [Exit.then]
 clear hHeld
 go_wp2
 go_ret2
 exact ⟨⟨v8, rfl, H8.out.mono (HPW.out ▸ HB.out.size)⟩, HPW.out ▸ (HB.out.trans (HC.out.mono HB.out.size))⟩
theorem privateHalf_any (w : World) : Calls Tryz.prog 66 #[] w fun e w' => e = .returned (.agg #[.func (.func 24) #[] #[], .func (.func 108) #[] #[]]) ∧ Below w.heap.size w w' := by
 go_enter Tryz.func66, Tryz.ntmps66
 go_wp2
 refine bodyPost_ret (v := .agg #[.func (.func 24) #[] #[], .func (.func 108) #[] #[]]) ?_ rfl ⟨rfl, ?_⟩
 ·rw [results_cell1 rfl]
  go_simp
 ·exact ((Below.refl _ _).alloc (Nat.le_refl _) _)
set_option maxHeartbeats 8000000 in
theorem hlower_any (na : Option Addr) (nn nc : Nat) (N : List Nat) (ea : Option Addr) (en ec : Nat) (E : List Nat) (da : Option Addr) (dn dc : Nat) (D : List Nat) (ba : Option Addr) (bn bc : Nat) (B : List Nat) (w : World) (hN : Reads .u8 w na nn nc N) (bN : Byt N) (hE : Reads .u8 w ea en ec E) (bE : Byt E) (hD : Reads .u8 w da dn dc D) (bD : Byt D) (hB : Reads .u8 w ba bn bc B) (bB : Byt B) (ln : nn ≤ 700) (le : en ≤ 700) (ld : dn ≤ 700) (lb : bn ≤ 1000) :
  Calls Tryz.prog 65 #[.agg #[.func (.func 24) #[] #[], .func (.func 108) #[] #[]], .agg #[.slice na nn nc, .slice ea en ec, .slice da dn dc], .slice ba bn bc] w fun e w' => Oc.RetsOwn2 w.heap.size w' (rLower N E D B) e ∧ Below w.heap.size w w' := by
 have HRN := zH hN
 have HRE := zH hE
 have HRD := zH hD
 have HRB := zH hB
 have HBN := zH bN
 have HBE := zH bE
 have HBD := zH bD
 have HBB := zH bB
 have HNL := zH hN.length
 have HSN := zH (key_small bN (by rw [hN.length]; exact ln))
 have HSY := zH (key_small bD (by rw [hD.length]; exact ld))
 have HSB := zH (byte_small bB (by rw [hB.length]; omega))
 have hba := ((Below.refl w.heap.size w).alloc (Nat.le_refl _) (.cells #[.func (.func 24) #[] #[], .func (.func 108) #[] #[]] 85)).alloc (by simp) (.cells #[.slice na nn nc, .slice ea en ec, .slice da dn dc] 24)
 have hqh : ((w.alloc (.cells #[.func (.func 24) #[] #[], .func (.func 108) #[] #[]] 85)).alloc (.cells #[.slice na nn nc, .slice ea en ec, .slice da dn dc] 24)).heap[w.heap.size]? = some (.cells #[.func (.func 24) #[] #[], .func (.func 108) #[] #[]] 85) := (Below.heap_alloc _ _ _ (by simp)).trans (World.alloc_heap_new w _)
 have hqk : ((w.alloc (.cells #[.func (.func 24) #[] #[], .func (.func 108) #[] #[]] 85)).alloc (.cells #[.slice na nn nc, .slice ea en ec, .slice da dn dc] 24)).heap[w.heap.size + 1]? = some (.cells #[.slice na nn nc, .slice ea en ec, .slice da dn dc] 24) := by
  have h := World.alloc_heap_new (w.alloc (.cells #[.func (.func 24) #[] #[], .func (.func 108) #[] #[]] 85)) (.cells #[.slice na nn nc, .slice ea en ec, .slice da dn dc] 24)
  rwa [World.size_alloc] at h
 have HQH0 := zH hqh
 have HQK0 := zH hqk
 have HB := zH hba
 clear hN bN hE bE hD bD hB bB hba hqh hqk
 go_enter Tryz.func65, Tryz.ntmps65
 go_wp2_with fail
 generalize (w.alloc (.cells #[.func (.func 24) #[] #[], .func (.func 108) #[] #[]] 85)).alloc (.cells #[.slice na nn nc, .slice ea en ec, .slice da dn dc] 24) = w0 at *
 obtain ⟨P, hP⟩ : ∃ P, w.heap.size = P := ⟨_, rfl⟩
 simp only [hP] at HQH0 HQK0 ⊢
 have HPW := zH hP
 have HQ : Hid (∀ X, Below w0.heap.size w0 X → X.heap[P + 1]? = some (.cells #[.slice na nn nc, .slice ea en ec, .slice da dn dc] 24)) := zH fun X hX => (hX.block _ (Array.getElem?_eq_some_iff.1 HQK0.out).1).trans HQK0.out
 have HQH : Hid (∀ X, Below w0.heap.size w0 X → X.heap[P]? = some (.cells #[.func (.func 24) #[] #[], .func (.func 108) #[] #[]] 85)) := zH fun X hX => (hX.block _ (Array.getElem?_eq_some_iff.1 HQH0.out).1).trans HQH0.out
 clear hP HQH0 HQK0
 obtain ⟨q0, q1⟩ := half_cells (HQH.out _ (Below.refl _ _))
 obtain ⟨k0, k1, k2⟩ := key_cells (HQ.out _ (Below.refl _ _))
 go_wp2_with fail
 refine (private_any na nn nc N ea en ec E da dn dc D w0 (HRN.out.below HB.out) HBN.out (HRE.out.below HB.out) HBE.out (HRD.out.below HB.out) HBD.out ln le ld).mono ?_
 rintro e w1 ⟨rfl, hb⟩
 have HC1 := zH hb
 clear q0 q1 k0 k1 k2 hb
 by_cases hp : PrivP N E D
 rotate_left
 ·have HF := zH (show rLower N E D B = ([], 100) by unfold rLower; rw [if_neg hp])
  rw [show privE N E D = 100 by unfold privE; rw [if_neg hp]]
  clear hp
  go_wp2
  go_ret2
  exact ⟨by rw [HF.out]; exact ⟨.slice none 0 0, rfl, World.ownsRow_nil _ _ _ _⟩, HPW.out ▸ (HB.out.trans (HC1.out.mono HB.out.size))⟩
 have HFR := zH (show rLower N E D B = raiseV N B D by unfold rLower; rw [if_pos hp])
 have HM := zH (pub_mod (N := N) (E := E) hp.1)
 rw [show privE N E D = 0 by unfold privE; rw [if_pos hp]]
 clear hp
 obtain ⟨k0, k1, k2⟩ := key_cells (HQ.out _ HC1.out)
 go_wp2_with fail
 refine (read_any na nn nc N w1 (HRN.out.below (HB.out.trans (HC1.out.mono HB.out.size))) HBN.out (by omega)).mono ?_
 rintro e w2 ⟨⟨v1, rfl, hv⟩, hb⟩
 rw [cutR_small HSN.out] at hv ⊢
 obtain ⟨a1, n1, c1, rfl, hn1, o1⟩ := num_slice hv HSN.out
 have V1 := zH o1
 have HC2 := zH (HC1.out.trans (hb.mono HC1.out.size))
 clear k0 k1 k2 hv hb HC1 o1
 go_wp2_with fail
 refine (read_any ba bn bc B w2 (HRB.out.below (HB.out.trans (HC2.out.mono HB.out.size))) HBB.out (by omega)).mono ?_
 rintro e w3 ⟨⟨v3, rfl, hv⟩, hb⟩
 rw [cutR_small HSB.out] at hv ⊢
 obtain ⟨a3, n3, c3, rfl, hn3, o3⟩ := num_slice hv HSB.out
 have V3 := zH o3
 replace V1 := zH (V1.out.below hb)
 have HC3 := zH (HC2.out.trans (hb.mono HC2.out.size))
 clear hv hb HC2 o3
 obtain ⟨o, hor⟩ : ∃ x, x = ordN (nV B) (nV N) := ⟨_, rfl⟩
 have hol : o = -1 ↔ nV B < nV N := by
  rw [hor]
  unfold ordN
  by_cases h : nV B < nV N
  ·rw [if_pos h]; exact ⟨fun _ => h, fun _ => rfl⟩
  ·rw [if_neg h]; constructor
   ·intro k; split at k <;> omega
   ·intro k; exact absurd k h
 have ho3 : o = -1 ∨ o = 0 ∨ o = 1 := by
  rw [hor]
  unfold ordN
  split
  ·exact .inl rfl
  ·split
   ·exact .inr (.inr rfl)
   ·exact .inr (.inl rfl)
 have HOL := zH hol
 have HOo := zH (show ordN (val32 (nat32 (nV B))) (val32 (nat32 (nV N))) = o by rw [val_nat, val_nat]; exact hor.symm)
 clear hor hol
 go_wp2_with fail
 refine (cmp_any a3 a1 n3 c3 n1 c1 _ _ _ V3.out.reads V1.out.reads (lim_nat _) (lim_nat _)).mono ?_
 rintro e w4 ⟨rfl, hb⟩
 rw [HOo.out]
 replace V1 := zH (V1.out.below hb)
 replace V3 := zH (V3.out.below hb)
 have HC4 := zH (HC3.out.trans (hb.mono HC3.out.size))
 clear hb HC3
 by_cases hc : o = -1
 rotate_left
 ·have t2 : decide ((0 : Int) ≤ o) = true := decide_eq_true (by omega)
  have HF := zH (show raiseV N B D = ([], 101) by unfold raiseV; rw [if_neg fun k => hc (HOL.out.2 k)])
  clear hc
  go_wp2
  go_ret2
  exact ⟨by rw [HFR.out, HF.out]; exact ⟨.slice none 0 0, rfl, World.ownsRow_nil _ _ _ _⟩, HPW.out ▸ (HB.out.trans (HC4.out.mono HB.out.size))⟩
 have t2 : decide ((0 : Int) ≤ o) = false := decide_eq_false (by omega)
 have HF := zH (show raiseV N B D = Oc.padR (u8s (natB 256 (nV B ^ nV D % nV N)).reverse) (N.length : Int) by unfold raiseV; rw [if_pos (HOL.out.1 hc)])
 clear hc
 obtain ⟨q0, q1⟩ := half_cells (HQH.out _ HC4.out)
 obtain ⟨k0, k1, k2⟩ := key_cells (HQ.out _ HC4.out)
 go_wp2_with fail
 refine (privateE_m _ _ _ w4 ⟨_, _, _, rfl⟩ ⟨_, _, _, rfl⟩ ⟨_, _, _, rfl⟩).mono ?_
 rintro e w5 ⟨rfl, hb⟩
 replace V1 := zH (V1.out.below hb)
 replace V3 := zH (V3.out.below hb)
 have HC5 := zH (HC4.out.trans (hb.mono HC4.out.size))
 clear q0 q1 k0 k1 k2 hb HC4
 go_wp2_with fail
 refine (read_any da dn dc D w5 (HRD.out.below (HB.out.trans (HC5.out.mono HB.out.size))) HBD.out (by omega)).mono ?_
 rintro e w6 ⟨⟨v2, rfl, hv⟩, hb⟩
 rw [cutR_small HSY.out] at hv ⊢
 obtain ⟨a2, n2, c2, rfl, hn2, o2⟩ := num_slice hv HSY.out
 have V2 := zH o2
 replace V1 := zH (V1.out.below hb)
 replace V3 := zH (V3.out.below hb)
 have HC6 := zH (HC5.out.trans (hb.mono HC5.out.size))
 clear hv hb HC5 o2
 go_wp2_with fail
 refine (mpow_any _ _ _ _ _ _ _ (natAt_own V3.out) (natAt_own V2.out) (natAt_own V1.out) HM.out).mono ?_
 rintro e w7 ⟨hq, hb⟩
 rw [powR_yes HSB.out HSY.out] at hq
 obtain ⟨v5, rfl, hv⟩ := hq
 have hpt : nV B ^ nV D % nV N < topN := Nat.lt_trans (Nat.mod_lt _ (by have := HM.out.2.1; omega)) HSN.out
 obtain ⟨a5, n5, c5, rfl, hn5, ho⟩ := num_slice hv hpt
 have H5 := zH ho
 have HC5 := zH (HC6.out.trans (hb.mono HC6.out.size))
 clear hv hb ho V1 V2 V3 HC6
 obtain ⟨Z, hZe⟩ : ∃ Z, nV B ^ nV D % nV N = Z := ⟨_, rfl⟩
 rw [hZe] at HF H5 hpt
 have HZT := zH hpt
 clear hZe hpt
 go_wp2_with fail
 refine wp_region_held_drew (S := fun X => X.cell? ⟨P + 1, 0, none⟩ = some (.slice na nn nc) ∧ X.cell? ⟨P + 1, 1, none⟩ = some (.slice ea en ec) ∧ X.cell? ⟨P + 1, 2, none⟩ = some (.slice da dn dc)) (by kernel_rfl) (key_cells (HQ.out _ HC5.out.drew)) (fun hHeld => ?_)
 replace H5 := zH (H5.out.below (Below.refl _ _).drew)
 replace HC5 := zH HC5.out.drew
 generalize w7.drew = w8 at *
 refine' wpAnyH_take (i := 0) rfl (by kernel_rfl) (by kernel_rfl) (by kernel_rfl) (fun _ _ _ h => h) (Or.inl ⟨?_, ?_⟩) (by assumption) ?_
 rotate_left
 all_goals (try simp only [zq4, zq5, zq6])
 ·rfl
 ·intro W hSw; (try dsimp only at hSw); go_simp; (try with_reducible rfl)
 try simp only [Act.put, zq1, zq2, zq3]
 refine' wpAnyH_take (i := 2) rfl (by kernel_rfl) (by kernel_rfl) (by kernel_rfl) (fun _ _ _ h => h) (Or.inl ⟨?_, ?_⟩) (by assumption) ?_
 rotate_left
 all_goals (try simp only [zq4, zq5, zq6])
 ·rfl
 ·intro W hSw; (try dsimp only at hSw); go_simp; (try with_reducible rfl)
 try simp only [Act.put, zq1, zq2, zq3]
 refine' wpAnyH_take (i := 3) rfl (by kernel_rfl) (by kernel_rfl) (by kernel_rfl) (fun _ _ _ h => h) (Or.inl ⟨?_, ?_⟩) (by assumption) ?_
 rotate_left
 all_goals (try simp only [zq4, zq5, zq6])
 ·rfl
 ·intro W hSw; (try dsimp only at hSw); go_simp; (try with_reducible rfl)
 try simp only [Act.put, zq1, zq2, zq3]
 refine' wpAnyH_take (i := 4) rfl (by kernel_rfl) (by kernel_rfl) (by kernel_rfl) (fun _ _ _ h => h) (Or.inl ⟨?_, ?_⟩) (by assumption) ?_
 rotate_left
 all_goals (try simp only [zq4, zq5, zq6])
 ·rfl
 ·intro W hSw; (try dsimp only at hSw); go_simp; (try with_reducible rfl)
 try simp only [Act.put, zq1, zq2, zq3]
 refine wpAnyH_ready (rs := [1]) (by kernel_rfl) (by simp) ?_
 refine AllReadyH.cons (o := _) rfl (fun K hK => ?_) AllReadyH.nil
 try simp only [zq4, zq5, zq6]
 go_simp
 refine (bytes_any a5 n5 c5 _ _ H5.out.reads (lim_nat _) (by omega)).mono ?_; rintro e w9 ⟨⟨v7, rfl, hv⟩, hb⟩; rw [val_nat] at hv; obtain ⟨a7, n7, c7, rfl, hn7, ho⟩ := hv.slice; have H7 := zH ho; replace HC5 := zH (HC5.out.trans (hb.mono HC5.out.size)); have hn7b : n7 ≤ 1024 := (by rw [hn7, List.length_reverse]; exact (natB_length (by decide) Z 1024).2 (by rw [← topN_256]; exact HZT.out)); clear hv hb ho hn7
 go_wp2_with fail
 refine hK.out _ _ (key_cells (HQ.out _ HC5.out)) (fun hHeld => ?_)
 clear hK K
 try simp only [Act.put, zq1, zq2, zq3]
 refine wpAnyH_ready (rs := [5]) (by kernel_rfl) (by simp) ?_
 refine AllReadyH.cons (o := _) rfl (fun K hK => ?_) AllReadyH.nil
 try simp only [zq4, zq5, zq6]
 go_simp
 refine (Oc.pad_any a7 n7 c7 _ (nn : Int) _ (H7.out.reads.bts (fun x hx => natB_digit (by decide) Z x (List.mem_reverse.1 hx)))).mono ?_; rintro e w10 ⟨⟨v8, rfl, hv⟩, hb⟩; have H8 := zH (hv.mono HC5.out.size); replace HC5 := zH (HC5.out.trans (hb.mono HC5.out.size)); clear hv hb
 go_wp2_with fail
 refine hK.out _ _ (key_cells (HQ.out _ HC5.out)) (fun hHeld => ?_)
 clear hK K
 try simp only [Act.put, zq1, zq2, zq3]
 refine' wpAnyH_take (i := 6) rfl (by kernel_rfl) (by kernel_rfl) (by kernel_rfl) (fun _ _ _ h => h) (Or.inl ⟨?_, ?_⟩) (by assumption) ?_
 rotate_left
 all_goals (try simp only [zq4, zq5, zq6])
 ·rfl
 ·intro W hSw; (try dsimp only at hSw); go_simp; (try with_reducible rfl)
 try simp only [Act.put, zq1, zq2, zq3]
 refine' wpAnyH_take (i := 7) rfl (by kernel_rfl) (by kernel_rfl) (by kernel_rfl) (fun _ _ _ h => h) (Or.inl ⟨?_, ?_⟩) (by assumption) ?_
 rotate_left
 all_goals (try simp only [zq4, zq5, zq6])
 ·rfl
 ·intro W hSw; (try dsimp only at hSw); go_simp; (try with_reducible rfl)
 try simp only [Act.put, zq1, zq2, zq3]
 refine' wpAnyH_take (i := 8) rfl (by kernel_rfl) (by kernel_rfl) (by kernel_rfl) (fun _ _ _ h => h) (Or.inl ⟨?_, ?_⟩) (by assumption) ?_
 rotate_left
 all_goals (try simp only [zq4, zq5, zq6])
 ·rfl
 ·intro W hSw; (try dsimp only at hSw); go_simp; (try with_reducible rfl)
 try simp only [Act.put, zq1, zq2, zq3]
 refine' wpAnyH_take (i := 9) rfl (by kernel_rfl) (by kernel_rfl) (by kernel_rfl) (fun _ _ _ h => h) (Or.inl ⟨?_, ?_⟩) (by assumption) ?_
 rotate_left
 all_goals (try simp only [zq4, zq5, zq6])
 ·rfl
 ·intro W hSw; (try dsimp only at hSw); go_simp; (try with_reducible rfl)
 try simp only [Act.put, zq1, zq2, zq3]
 refine wpAnyH_done (by kernel_rfl) ?_ _
 simp only [Exit.then]
 clear hHeld
 go_wp2
 go_ret2
 exact ⟨by rw [HFR.out, HF.out, HNL.out]; exact ⟨v8, rfl, H8.out.mono (HPW.out ▸ HB.out.size)⟩, HPW.out ▸ (HB.out.trans (HC5.out.mono HB.out.size))⟩
set_option maxHeartbeats 8000000 in
theorem lower_any (na : Option Addr) (nn nc : Nat) (N : List Nat) (ea : Option Addr) (en ec : Nat) (E : List Nat) (da : Option Addr) (dn dc : Nat) (D : List Nat) (ba : Option Addr) (bn bc : Nat) (B : List Nat) (w : World) (hN : Reads .u8 w na nn nc N) (bN : Byt N) (hE : Reads .u8 w ea en ec E) (bE : Byt E) (hD : Reads .u8 w da dn dc D) (bD : Byt D) (hB : Reads .u8 w ba bn bc B) (bB : Byt B) (ln : nn ≤ 700) (le : en ≤ 700) (ld : dn ≤ 700) (lb : bn ≤ 1000) :
  Calls Tryz.prog 26 #[.agg #[.slice na nn nc, .slice ea en ec, .slice da dn dc], .slice ba bn bc] w fun e w' => Oc.RetsOwn2 w.heap.size w' (rLower N E D B) e ∧ Below w.heap.size w w' := by
 have HRN := zH hN
 have HRE := zH hE
 have HRD := zH hD
 have HRB := zH hB
 have HBN := zH bN
 have HBE := zH bE
 have HBD := zH bD
 have HBB := zH bB
 have hba := (Below.refl w.heap.size w).alloc (Nat.le_refl _) (.cells #[.slice na nn nc, .slice ea en ec, .slice da dn dc] 24)
 have hq0 : (w.alloc (.cells #[.slice na nn nc, .slice ea en ec, .slice da dn dc] 24)).heap[w.heap.size]? = some (.cells #[.slice na nn nc, .slice ea en ec, .slice da dn dc] 24) := World.alloc_heap_new w _
 have HQ0 := zH hq0
 have HB := zH hba
 clear hN bN hE bE hD bD hB bB hba hq0
 obtain ⟨R, hR⟩ : ∃ R, rLower N E D B = R := ⟨_, rfl⟩
 have HR := zH hR
 rw [hR]
 clear hR
 go_enter Tryz.func26, Tryz.ntmps26
 go_wp2_with fail
 generalize w.alloc (.cells #[.slice na nn nc, .slice ea en ec, .slice da dn dc] 24) = w0 at *
 obtain ⟨P, hP⟩ : ∃ P, w.heap.size = P := ⟨_, rfl⟩
 rw [hP] at HQ0 ⊢
 have HPW := zH hP
 have HQ : Hid (∀ X, Below w0.heap.size w0 X → X.heap[P]? = some (.cells #[.slice na nn nc, .slice ea en ec, .slice da dn dc] 24)) := zH fun X hX => (hX.block P (Array.getElem?_eq_some_iff.1 HQ0.out).1).trans HQ0.out
 clear hP HQ0
 have HC := zH (Below.refl w0.heap.size w0)
 refine wp_region_held_drew (S := fun X => X.cell? ⟨P, 0, none⟩ = some (.slice na nn nc) ∧ X.cell? ⟨P, 1, none⟩ = some (.slice ea en ec) ∧ X.cell? ⟨P, 2, none⟩ = some (.slice da dn dc)) (by kernel_rfl) (key_cells (HQ.out _ HC.out.drew)) (fun hHeld => ?_)
 replace HC := zH HC.out.drew
 generalize w0.drew = w1 at *
 refine' wpAnyH_take (i := 1) rfl (by kernel_rfl) (by kernel_rfl) (by kernel_rfl) (fun _ _ _ h => h) (Or.inl ⟨?_, ?_⟩) (by assumption) ?_
 rotate_left
 all_goals (try simp only [zq4, zq5, zq6])
 ·rfl
 ·intro W hSw; (try dsimp only at hSw); go_simp; (try with_reducible rfl)
 try simp only [Act.put, zq1, zq2, zq3]
 refine' wpAnyH_take (i := 2) rfl (by kernel_rfl) (by kernel_rfl) (by kernel_rfl) (fun _ _ _ h => h) (Or.inl ⟨?_, ?_⟩) (by assumption) ?_
 rotate_left
 all_goals (try simp only [zq4, zq5, zq6])
 ·rfl
 ·intro W hSw; (try dsimp only at hSw); go_simp; (try with_reducible rfl)
 try simp only [Act.put, zq1, zq2, zq3]
 refine wpAnyH_ready (rs := [0]) (by kernel_rfl) (by simp) ?_
 refine AllReadyH.cons (o := _) rfl (fun K hK => ?_) AllReadyH.nil
 try simp only [zq4, zq5, zq6]
 go_simp
 refine (privateHalf_any _).mono ?_; rintro e w2 ⟨rfl, hb⟩; replace HC := zH (HC.out.trans (hb.mono HC.out.size)); clear hb
 go_wp2_with fail
 refine hK.out _ _ (key_cells (HQ.out _ HC.out)) (fun hHeld => ?_)
 clear hK K
 try simp only [Act.put, zq1, zq2, zq3]
 refine wpAnyH_ready (rs := [3]) (by kernel_rfl) (by simp) ?_
 refine AllReadyH.cons (o := _) rfl (fun K hK => ?_) AllReadyH.nil
 try simp only [zq4, zq5, zq6]
 go_simp
 refine (hlower_any na nn nc N ea en ec E da dn dc D ba bn bc B _ (HRN.out.below (HB.out.trans (HC.out.mono HB.out.size))) HBN.out (HRE.out.below (HB.out.trans (HC.out.mono HB.out.size))) HBE.out (HRD.out.below (HB.out.trans (HC.out.mono HB.out.size))) HBD.out (HRB.out.below (HB.out.trans (HC.out.mono HB.out.size))) HBB.out ln le ld lb).mono ?_; rintro e w3 ⟨hq, hb⟩; rw [HR.out] at hq; obtain ⟨v8, rfl, hv⟩ := hq; have H8 := zH (hv.mono HC.out.size); replace HC := zH (HC.out.trans (hb.mono HC.out.size)); clear hv hb
 go_wp2_with fail
 refine hK.out _ _ (key_cells (HQ.out _ HC.out)) (fun hHeld => ?_)
 clear hK K
 try simp only [Act.put, zq1, zq2, zq3]
 refine' wpAnyH_take (i := 4) rfl (by kernel_rfl) (by kernel_rfl) (by kernel_rfl) (fun _ _ _ h => h) (Or.inl ⟨?_, ?_⟩) (by assumption) ?_
 rotate_left
 all_goals (try simp only [zq4, zq5, zq6])
 ·rfl
 ·intro W hSw; (try dsimp only at hSw); go_simp; (try with_reducible rfl)
 try simp only [Act.put, zq1, zq2, zq3]
 refine' wpAnyH_take (i := 5) rfl (by kernel_rfl) (by kernel_rfl) (by kernel_rfl) (fun _ _ _ h => h) (Or.inl ⟨?_, ?_⟩) (by assumption) ?_
 rotate_left
 all_goals (try simp only [zq4, zq5, zq6])
 ·rfl
 ·intro W hSw; (try dsimp only at hSw); go_simp; (try with_reducible rfl)
 try simp only [Act.put, zq1, zq2, zq3]
 refine' wpAnyH_take (i := 6) rfl (by kernel_rfl) (by kernel_rfl) (by kernel_rfl) (fun _ _ _ h => h) (Or.inl ⟨?_, ?_⟩) (by assumption) ?_
 rotate_left
 all_goals (try simp only [zq4, zq5, zq6])
 ·rfl
 ·intro W hSw; (try dsimp only at hSw); go_simp; (try with_reducible rfl)
 try simp only [Act.put, zq1, zq2, zq3]
 refine' wpAnyH_take (i := 7) rfl (by kernel_rfl) (by kernel_rfl) (by kernel_rfl) (fun _ _ _ h => h) (Or.inl ⟨?_, ?_⟩) (by assumption) ?_
 rotate_left
 all_goals (try simp only [zq4, zq5, zq6])
 ·rfl
 ·intro W hSw; (try dsimp only at hSw); go_simp; (try with_reducible rfl)
 try simp only [Act.put, zq1, zq2, zq3]
 refine wpAnyH_done (by kernel_rfl) ?_ _
 simp only [Exit.then]
 clear hHeld
 go_wp2
 go_ret2
 exact ⟨⟨v8, rfl, H8.out.mono (HPW.out ▸ HB.out.size)⟩, HPW.out ▸ (HB.out.trans (HC.out.mono HB.out.size))⟩
end Go.Proofs.YtpefjkndfifceaaGreatDoor
set_option linter.unusedVariables false
namespace Go.Proofs.YtpefjkndfifceaaGreatDoor
set_option maxRecDepth 100000
namespace LL
def XY : Nat → Int × Int
 | 0 => (1, 0)
 | n + 1 => (2 * (XY n).1 + 3 * (XY n).2, (XY n).1 + 2 * (XY n).2)
theorem xy_add (m n : Nat) : (XY (m + n)).1 = (XY m).1 * (XY n).1 + 3 * ((XY m).2 * (XY n).2) ∧ (XY (m + n)).2 = (XY m).1 * (XY n).2 + (XY m).2 * (XY n).1 := by
 induction n with
 | zero => simp [XY]
 | succ n ih =>
  obtain ⟨h1, h2⟩ := ih
  rw [← Nat.add_assoc]
  simp only [XY, h1, h2]
  constructor <;> grind
theorem xy_norm (n : Nat) : (XY n).1 * (XY n).1 - 3 * ((XY n).2 * (XY n).2) = 1 := by
 induction n with
 | zero => simp [XY]
 | succ n ih => simp only [XY]; grind
def Per (q : Int) (n : Nat) : Prop := q ∣ (XY n).1 - 1 ∧ q ∣ (XY n).2
theorem Per.zero (q : Int) : Per q 0 := by simp [Per, XY]
theorem Per.add {q : Int} {m n : Nat} (h : Per q m) (k : Per q n) : Per q (m + n) := by
 obtain ⟨⟨a, ha⟩, ⟨b, hb⟩⟩ := h
 obtain ⟨⟨c, hc⟩, ⟨d, hd⟩⟩ := k
 obtain ⟨h1, h2⟩ := xy_add m n
 have e1 : (XY m).1 = q * a + 1 := by omega
 have e2 : (XY n).1 = q * c + 1 := by omega
 refine ⟨⟨q * a * c + a + c + 3 * (b * (q * d)), ?_⟩, ⟨(q * a + 1) * d + b * (q * c + 1), ?_⟩⟩
 ·rw [h1, e1, e2, hb, hd]; grind
 ·rw [h2, e1, e2, hb, hd]; grind
theorem Per.mul {q : Int} {m : Nat} (h : Per q m) (k : Nat) : Per q (m * k) := by
 induction k with
 | zero => exact Per.zero q
 | succ k ih => exact ih.add h
theorem Per.of_same {q : Int} {i d : Nat} (h1 : q ∣ (XY (i + d)).1 - (XY i).1) (h2 : q ∣ (XY (i + d)).2 - (XY i).2) : Per q d := by
 obtain ⟨a, ha⟩ := h1
 obtain ⟨b, hb⟩ := h2
 obtain ⟨e1, e2⟩ := xy_add i d
 have n := xy_norm i
 refine ⟨⟨(XY i).1 * a - 3 * ((XY i).2 * b), ?_⟩, ⟨(XY i).1 * b - (XY i).2 * a, ?_⟩⟩ <;> grind
theorem Per.sub {q : Int} {m d : Nat} (h : Per q m) (k : Per q (m + d)) : Per q d := by
 refine Per.of_same (i := m) ?_ ?_
 ·obtain ⟨a, ha⟩ := h.1
  obtain ⟨b, hb⟩ := k.1
  exact ⟨b - a, by grind⟩
 ·obtain ⟨a, ha⟩ := h.2
  obtain ⟨b, hb⟩ := k.2
  exact ⟨b - a, by grind⟩
theorem Per.gcd {q : Int} (m n : Nat) (h : Per q m) (k : Per q n) : Per q (Nat.gcd m n) := by
 induction m, n using Nat.gcd.induction with
 | H0 n => simpa using k
 | H1 m n hm ih =>
  rw [Nat.gcd_rec]
  refine ih ?_ h
  have e := Nat.div_add_mod n m
  exact (h.mul (n / m)).sub (by rw [e]; exact k)
theorem two_half {d k : Nat} (hd : 0 < d) (hk : d < 2 ^ (k + 1)) : Nat.gcd d (2 ^ (k + 1)) ∣ 2 ^ k := by
 obtain ⟨h, hh⟩ := Nat.gcd_dvd_right d (2 ^ (k + 1))
 have hg : Nat.gcd d (2 ^ (k + 1)) ≤ d := Nat.le_of_dvd hd (Nat.gcd_dvd_left d _)
 generalize Nat.gcd d (2 ^ (k + 1)) = g at *
 rcases Nat.mod_two_eq_zero_or_one h with h2 | h2
 ·refine ⟨h / 2, ?_⟩
  have e : h = 2 * (h / 2) := by omega
  rw [Nat.pow_succ] at hh
  have : 2 ^ k * 2 = (g * (h / 2)) * 2 := by rw [hh, Nat.mul_assoc]; congr 1; omega
  exact Nat.eq_of_mul_eq_mul_right (by decide) this
 ·have hc : Nat.Coprime h (2 ^ (k + 1)) := by
   refine Nat.Coprime.pow_right _ ?_
   rw [Nat.coprime_comm, Nat.Coprime, Nat.gcd_rec, h2]
   decide
  have h1 : h ∣ 1 := by
   have : h ∣ Nat.gcd h (2 ^ (k + 1)) := Nat.dvd_gcd (Nat.dvd_refl h) ⟨g, by rw [hh, Nat.mul_comm]⟩
   rw [hc] at this
   exact this
  have : h = 1 := Nat.dvd_one.1 h1
  subst this
  rw [Nat.mul_one] at hh
  omega
theorem pigeon (n : Nat) : ∀ f : Nat → Nat, (∀ i, i ≤ n → f i < n) → ∃ i j, i < j ∧ j ≤ n ∧ f i = f j := by
 induction n with
 | zero => intro f h; exact absurd (h 0 (Nat.le_refl _)) (by omega)
 | succ n ih =>
  intro f h
  by_cases hx : ∃ i, i ≤ n ∧ f i = f (n + 1)
  ·obtain ⟨i, hi, e⟩ := hx
   exact ⟨i, n + 1, by omega, by omega, e⟩
  ·have hne : ∀ i, i ≤ n → f i ≠ f (n + 1) := fun i hi e => hx ⟨i, hi, e⟩
   obtain ⟨i, j, h1, h2, h3⟩ := ih (fun i => if f i = n then f (n + 1) else f i) (fun i hi => by
    have h1 := h i (by omega)
    have h2 := h (n + 1) (by omega)
    have h3 := hne i hi
    skip
    split <;> omega)
   refine ⟨i, j, h1, by omega, ?_⟩
   have a := hne i (by omega)
   have b := hne j h2
   skip
   split at h3 <;> split at h3 <;> omega
theorem no_small {q k : Nat} (hq : 2 < q) (hk : (q : Int) ∣ (XY (2 ^ k)).1 + 1) (hy : (q : Int) ∣ (XY (2 ^ k)).2) : 2 ^ (k + 1) ≤ q * q := by
 refine Nat.le_of_not_lt fun hlt => ?_
 have hpos : (0 : Int) < q := by omega
 have half : ¬ Per q (2 ^ k) := fun h => by
  obtain ⟨a, ha⟩ := h.1
  obtain ⟨b, hb⟩ := hk
  have : (q : Int) ∣ 2 := ⟨b - a, by grind⟩
  have := Int.le_of_dvd (by decide) this
  omega
 have full : Per q (2 ^ (k + 1)) := by
  rw [Nat.pow_succ, Nat.mul_two]
  obtain ⟨h1, h2⟩ := xy_add (2 ^ k) (2 ^ k)
  obtain ⟨a, ha⟩ := hk
  obtain ⟨b, hb⟩ := hy
  have e : (XY (2 ^ k)).1 = q * a - 1 := by omega
  refine ⟨⟨q * a * a - 2 * a + 3 * (b * (q * b)), ?_⟩, ⟨(q * a - 1) * b + b * (q * a - 1), ?_⟩⟩
  ·rw [h1, e, hb]; grind
  ·rw [h2, e, hb]; grind
 have rest : ∀ x : Int, (x % q).toNat < q ∧ ((x % q).toNat : Int) = x % q := fun x => by
  have := Int.emod_nonneg x (show (q : Int) ≠ 0 by omega)
  have := Int.emod_lt_of_pos x hpos
  omega
 obtain ⟨i, j, hij, hj, e⟩ := pigeon (q * q) (fun i => ((XY i).1 % q).toNat * q + ((XY i).2 % q).toNat) (fun i _ => by
  have h1 := (rest (XY i).1).1
  have h2 := (rest (XY i).2).1
  have := Nat.mul_le_mul_right q (show ((XY i).1 % q).toNat + 1 ≤ q by omega)
  rw [Nat.add_mul, Nat.one_mul] at this
  skip
  omega)
 skip
 obtain ⟨d, rfl⟩ : ∃ d, j = i + d := ⟨j - i, by omega⟩
 have pair : ∀ a b c d q : Nat, b < q → d < q → a * q + b = c * q + d → a = c ∧ b = d := fun a b c d q h1 h2 h => by
  have e1 := congrArg (· / q) h
  have e2 := congrArg (· % q) h
  have hq : 0 < q := by omega
  rw [Nat.mul_comm a, Nat.mul_comm c, Nat.mul_add_div hq, Nat.mul_add_div hq, Nat.div_eq_of_lt h1, Nat.div_eq_of_lt h2] at e1
  rw [Nat.mul_comm a, Nat.mul_comm c, Nat.mul_add_mod, Nat.mul_add_mod, Nat.mod_eq_of_lt h1, Nat.mod_eq_of_lt h2] at e2
  exact ⟨by simpa using e1, e2⟩
 obtain ⟨e1, e2⟩ := pair _ _ _ _ _ (rest _).1 (rest _).1 e
 have same : ∀ x y : Int, (x % q).toNat = (y % q).toNat → (q : Int) ∣ y - x := fun x y h => by
  have h1 := (rest x).2
  have h2 := (rest y).2
  exact Int.dvd_of_emod_eq_zero (Int.emod_eq_emod_iff_emod_sub_eq_zero.1 (by omega))
 have hd : Per q d := Per.of_same (same _ _ e1) (same _ _ e2)
 have hg := hd.gcd _ _ full
 obtain ⟨c, hc⟩ := two_half (show 0 < d by omega) (show d < 2 ^ (k + 1) by omega)
 rw [hc] at half
 exact half (hg.mul c)
def ll (M : Nat) : Nat → Nat
 | 0 => 4
 | n + 1 => (ll M n * ll M n + (M - 2)) % M
theorem ll_is {M : Nat} (hM : 2 ≤ M) (n : Nat) : (M : Int) ∣ (ll M n : Int) - 2 * (XY (2 ^ n)).1 := by
 induction n with
 | zero => exact ⟨0, by simp [ll, XY]⟩
 | succ n ih =>
  obtain ⟨a, ha⟩ := ih
  have h1 := (xy_add (2 ^ n) (2 ^ n)).1
  have h2 := xy_norm (2 ^ n)
  rw [Nat.pow_succ, Nat.mul_two]
  have e : ((ll M (n + 1) : Nat) : Int) = (ll M n : Int) * ll M n + (M - 2) - M * (((ll M n * ll M n + (M - 2) : Nat) / M : Nat) : Int) := by
   have := Nat.div_add_mod (ll M n * ll M n + (M - 2)) M
   have hd : ll M (n + 1) = (ll M n * ll M n + (M - 2)) % M := rfl
   rw [hd]
   have h3 : ((M * ((ll M n * ll M n + (M - 2)) / M) + (ll M n * ll M n + (M - 2)) % M : Nat) : Int) = ((ll M n * ll M n + (M - 2) : Nat) : Int) := by rw [this]
   rw [Int.natCast_add, Int.natCast_mul, Int.natCast_add, Int.natCast_mul, show ((M - 2 : Nat) : Int) = (M : Int) - 2 by omega] at h3
   omega
  generalize ((ll M n * ll M n + (M - 2)) / M : Nat) = t at e
  rw [e]
  refine ⟨a * (ll M n + 2 * (XY (2 ^ n)).1) + 1 - t, ?_⟩
  grind
def Pr (p : Nat) : Prop := 1 < p ∧ ∀ d, d ∣ p → d = 1 ∨ d = p
theorem prime_ll {M k : Nat} (hM : M + 1 = 2 ^ (k + 2)) (h : ll M k = 0) : Pr M := by
 have h4 : 4 ≤ 2 ^ (k + 2) := Nat.pow_le_pow_right (show 0 < 2 by decide) (show 2 ≤ k + 2 by omega)
 have hodd : M % 2 = 1 := by
  rw [Nat.pow_succ] at hM
  omega
 obtain ⟨a, ha⟩ := ll_is (M := M) (by omega) k
 rw [h] at ha
 have hx : ∀ q : Nat, q ∣ M → (q : Int) ∣ (XY (2 ^ k)).1 := fun q hq => by
  have h2 : q ∣ 2 * (XY (2 ^ k)).1.natAbs := by
   obtain ⟨b, hb⟩ := hq
   have : (q : Int) ∣ 2 * (XY (2 ^ k)).1 := ⟨-(b * a), by rw [hb] at ha; grind⟩
   have := Int.natAbs_dvd_natAbs.2 this
   rwa [Int.natAbs_mul, Int.natAbs_natCast] at this
  have hc : Nat.Coprime q 2 := by
   have h3 : Nat.gcd q 2 ∣ 2 := Nat.gcd_dvd_right _ _
   have h4 : Nat.gcd q 2 ∣ M := Nat.dvd_trans (Nat.gcd_dvd_left _ _) hq
   have h5 := Nat.le_of_dvd (by decide) h3
   have h6 : Nat.gcd q 2 ≠ 0 := fun e => by rw [e] at h3; simp at h3
   have h7 : Nat.gcd q 2 ≠ 2 := fun e => by rw [e] at h4; omega
   show Nat.gcd q 2 = 1
   omega
  have := hc.dvd_of_dvd_mul_left h2
  exact Int.natAbs_dvd_natAbs.1 (by simpa using this)
 have big : ∀ q : Nat, q ∣ M → 1 < q → 2 ^ (k + 2) ≤ q * q := fun q hq h1 => by
  have hq2 : q ≠ 2 := fun e => by rw [e] at hq; omega
  obtain ⟨c, hc⟩ := hx q hq
  obtain ⟨e1, e2⟩ := xy_add (2 ^ k) (2 ^ k)
  have n := xy_norm (2 ^ k)
  refine no_small (k := k + 1) (by omega) ?_ ?_
  ·rw [Nat.pow_succ, Nat.mul_two, e1]
   exact ⟨2 * c * (XY (2 ^ k)).1, by grind⟩
  ·rw [Nat.pow_succ, Nat.mul_two, e2]
   exact ⟨2 * (c * (XY (2 ^ k)).2), by grind⟩
 refine ⟨by omega, fun d hd => ?_⟩
 obtain ⟨e, he⟩ := hd
 have hd0 : d ≠ 0 := fun h => by rw [h] at he; omega
 have he0 : e ≠ 0 := fun h => by rw [h] at he; omega
 by_cases hd1 : d = 1
 ·exact .inl hd1
 by_cases he1 : e = 1
 ·right; rw [he, he1, Nat.mul_one]
 exfalso
 have b1 := big d ⟨e, he⟩ (by omega)
 have b2 := big e ⟨d, by rw [he, Nat.mul_comm]⟩ (by omega)
 rcases Nat.le_total d e with h | h
 ·have := Nat.mul_le_mul_left d h
  omega
 ·have := Nat.mul_le_mul_right e h
  omega
def llGo (M : Nat) : Nat → Nat → Nat
 | 0, s => s
 | n + 1, s => llGo M n ((s * s + (M - 2)) % M)
theorem llGo_eq (M : Nat) : ∀ n m, llGo M n (ll M m) = ll M (m + n) := by
 intro n
 induction n with
 | zero => intro m; rfl
 | succ n ih => intro m; rw [show m + (n + 1) = (m + 1) + n by omega, ← ih]; rfl
theorem p61 : llGo (2 ^ 61 - 1) 59 4 = 0 := by decide +kernel
theorem p521 : llGo (2^521-1) 519 4 = 0 := by decide +kernel
theorem p607 : llGo (2^607-1) 605 4 = 0 := by decide +kernel
def Ch : Nat → Nat → Nat
 | _, 0 => 1
 | 0, _ + 1 => 0
 | n + 1, k + 1 => Ch n k + Ch n (k + 1)
theorem ch_mul (n k : Nat) : (k + 1) * Ch (n + 1) (k + 1) = (n + 1) * Ch n k := by
 induction n generalizing k with
 | zero => cases k <;> simp [Ch]
 | succ n ih =>
  cases k with
  | zero =>
   have := ih 0
   simp only [Ch] at this ⊢
   grind
  | succ k =>
   have h1 := ih k
   have h2 := ih (k + 1)
   have e1 : Ch (n + 1 + 1) (k + 1 + 1) = Ch (n + 1) (k + 1) + Ch (n + 1) (k + 1 + 1) := rfl
   have e2 : Ch (n + 1) (k + 1) = Ch n k + Ch n (k + 1) := rfl
   rw [e1]
   grind
theorem ch_big (n : Nat) : ∀ k, n < k → Ch n k = 0 := by
 induction n with
 | zero => intro k h; cases k with | zero => omega | succ k => rfl
 | succ n ih => intro k h; cases k with | zero => omega | succ k => simp only [Ch]; rw [ih k (by omega), ih (k + 1) (by omega)]
theorem ch_self (n : Nat) : Ch n n = 1 := by
 induction n with
 | zero => rfl
 | succ n ih => simp only [Ch]; rw [ih, ch_big n (n + 1) (by omega)]
def sumTo (f : Nat → Nat) : Nat → Nat
 | 0 => 0
 | n + 1 => sumTo f n + f n
theorem sumTo_add (f g : Nat → Nat) (n : Nat) : sumTo (fun i => f i + g i) n = sumTo f n + sumTo g n := by
 induction n with
 | zero => rfl
 | succ n ih => simp only [sumTo]; rw [ih]; omega
theorem sumTo_mul (f : Nat → Nat) (c n : Nat) : sumTo (fun i => c * f i) n = c * sumTo f n := by
 induction n with
 | zero => rfl
 | succ n ih => simp only [sumTo]; rw [ih]; grind
theorem sumTo_first (f : Nat → Nat) (n : Nat) : sumTo f (n + 1) = f 0 + sumTo (fun i => f (i + 1)) n := by
 induction n with
 | zero => simp [sumTo]
 | succ n ih => rw [sumTo, ih]; simp only [sumTo]; omega
theorem sumTo_congr (f g : Nat → Nat) (n : Nat) (h : ∀ i, i < n → f i = g i) : sumTo f n = sumTo g n := by
 induction n with
 | zero => rfl
 | succ n ih => simp only [sumTo]; rw [ih (fun i hi => h i (by omega)), h n (by omega)]
theorem sumTo_dvd (f : Nat → Nat) (p n : Nat) (h : ∀ i, i < n → p ∣ f i) : p ∣ sumTo f n := by
 induction n with
 | zero => exact ⟨0, rfl⟩
 | succ n ih => exact Nat.dvd_add (ih fun i hi => h i (by omega)) (h n (by omega))
theorem binom (x n : Nat) : (x + 1) ^ n = sumTo (fun k => Ch n k * x ^ k) (n + 1) := by
 induction n with
 | zero => simp [sumTo, Ch]
 | succ n ih =>
  rw [Nat.pow_succ, ih, sumTo_first _ (n + 1)]
  have e : sumTo (fun i => Ch (n + 1) (i + 1) * x ^ (i + 1)) (n + 1) = x * sumTo (fun k => Ch n k * x ^ k) (n + 1) + sumTo (fun i => Ch n (i + 1) * x ^ (i + 1)) (n + 1) := by
   rw [← sumTo_mul, ← sumTo_add]
   refine sumTo_congr _ _ _ fun i _ => ?_
   simp only [Ch, Nat.pow_succ]
   grind
  rw [e]
  have e2 : sumTo (fun k => Ch n k * x ^ k) (n + 1) + Ch n (n + 1) * x ^ (n + 1) = Ch n 0 * x ^ 0 + sumTo (fun i => Ch n (i + 1) * x ^ (i + 1)) (n + 1) := by
   rw [← sumTo_first (fun k => Ch n k * x ^ k)]
   rfl
  rw [ch_big n (n + 1) (by omega)] at e2
  have e3 : Ch (n + 1) 0 * x ^ 0 = Ch n 0 * x ^ 0 := by cases n <;> rfl
  rw [e3]
  generalize sumTo (fun k => Ch n k * x ^ k) (n + 1) = S at *
  generalize sumTo (fun i => Ch n (i + 1) * x ^ (i + 1)) (n + 1) = T at *
  generalize Ch n 0 * x ^ 0 = U at *
  grind
theorem Pr.coprime {p a : Nat} (hp : Pr p) (h : ¬ p ∣ a) : Nat.Coprime p a := by
 rcases hp.2 (Nat.gcd p a) (Nat.gcd_dvd_left _ _) with e | e
 ·exact e
 ·exact absurd (by rw [← e]; exact Nat.gcd_dvd_right _ _) h
theorem Pr.ch {p k : Nat} (hp : Pr p) (h0 : 0 < k) (hk : k < p) : p ∣ Ch p k := by
 obtain ⟨k, rfl⟩ : ∃ j, k = j + 1 := ⟨k - 1, by omega⟩
 have h1 := hp.1
 obtain ⟨n, rfl⟩ : ∃ n, p = n + 1 := ⟨p - 1, by omega⟩
 have hc : Nat.Coprime (n + 1) (k + 1) := hp.coprime fun h => by have := Nat.le_of_dvd (by omega) h; omega
 exact hc.dvd_of_dvd_mul_left (m := k + 1) ⟨Ch n k, ch_mul n k⟩
theorem fermat {p : Nat} (hp : Pr p) (x : Nat) : x ^ p % p = x % p := by
 have h1 := hp.1
 induction x with
 | zero => rw [Nat.zero_pow (by omega)]
 | succ x ih =>
  rw [binom, sumTo]
  obtain ⟨n, rfl⟩ : ∃ n, p = n + 1 := ⟨p - 1, by omega⟩
  rw [sumTo_first, ch_self, Nat.one_mul]
  obtain ⟨c, hc⟩ := sumTo_dvd (fun i => Ch (n + 1) (i + 1) * x ^ (i + 1)) (n + 1) n fun i hi => Nat.dvd_trans (hp.ch (by omega) (by omega)) (Nat.dvd_mul_right _ _)
  rw [hc]
  have e : Ch (n + 1) 0 * x ^ 0 = 1 := by simp [Ch]
  rw [e, show 1 + (n + 1) * c + x ^ (n + 1) = (x ^ (n + 1) + 1) + (n + 1) * c by omega, Nat.add_mul_mod_self_left, Nat.add_mod, ih, ← Nat.add_mod]
theorem fermat_more {p : Nat} (hp : Pr p) (x k : Nat) : x ^ (1 + k * (p - 1)) % p = x % p := by
 have h1 := hp.1
 induction k with
 | zero => simp
 | succ k ih =>
  rw [show 1 + (k + 1) * (p - 1) = k * (p - 1) + p by rw [Nat.add_mul]; omega, Nat.pow_add, Nat.mul_mod, fermat hp, ← Nat.mul_mod, ← Nat.pow_succ, Nat.succ_eq_add_one, Nat.add_comm _ 1, ih]
theorem rsa_round {p q e d : Nat} (hp : Pr p) (hq : Pr q) (hne : p ≠ q) (h : e * d % ((p - 1) * (q - 1)) = 1) (x : Nat) (hx : x < p * q) : (x ^ e % (p * q)) ^ d % (p * q) = x := by
 obtain ⟨k, hk⟩ : ∃ k, e * d = 1 + k * ((p - 1) * (q - 1)) := ⟨e * d / ((p - 1) * (q - 1)), by
  have := Nat.div_add_mod (e * d) ((p - 1) * (q - 1))
  rw [h, Nat.mul_comm] at this
  omega⟩
 rw [← Nat.pow_mod, ← Nat.pow_mul, hk]
 generalize hy : x ^ (1 + k * ((p - 1) * (q - 1))) = y
 have hc : Nat.Coprime p q := hp.coprime fun hd => by
  rcases hq.2 p hd with e | e
  ·have := hp.1; omega
  ·exact hne e
 have m1 : y % p = x % p := by
  rw [← hy, show k * ((p - 1) * (q - 1)) = (k * (q - 1)) * (p - 1) by rw [Nat.mul_comm (p - 1), Nat.mul_assoc]]
  exact fermat_more hp x _
 have m2 : y % q = x % q := by
  rw [← hy, ← Nat.mul_assoc]
  exact fermat_more hq x _
 have two : ∀ n : Nat, y % n = x % n → (n : Int) ∣ (y : Int) - x := fun n h => Int.dvd_of_emod_eq_zero (Int.emod_eq_emod_iff_emod_sub_eq_zero.1 (by exact_mod_cast h))
 have d1 := two p m1
 have d2 := two q m2
 have d3 : p * q ∣ ((y : Int) - x).natAbs := hc.mul_dvd_of_dvd_of_dvd (by simpa using Int.natAbs_dvd_natAbs.2 d1) (by simpa using Int.natAbs_dvd_natAbs.2 d2)
 have d4 : ((p * q : Nat) : Int) ∣ (y : Int) - x := Int.natAbs_dvd_natAbs.1 (by rw [Int.natAbs_natCast]; exact d3)
 have := Int.emod_emod_of_dvd
 have d5 := Int.emod_eq_emod_iff_emod_sub_eq_zero.2 (Int.emod_eq_zero_of_dvd d4)
 have d6 : y % (p * q) = x % (p * q) := by exact_mod_cast d5
 rw [d6, Nat.mod_eq_of_lt hx]
theorem pr_of (n k : Nat) (hk : n = k + 2) (h : llGo (2 ^ n - 1) k 4 = 0) : Pr (2 ^ n - 1) := by
 subst hk
 have h1 : 0 < 2 ^ (k + 2) := Nat.pow_pos (by decide)
 refine prime_ll (k := k) (by omega) ?_
 have := llGo_eq (2 ^ (k + 2) - 1) k 0
 rw [show ll (2 ^ (k + 2) - 1) 0 = 4 from rfl, h, Nat.zero_add] at this
 exact this.symm
theorem pr61 : Pr (2 ^ 61 - 1) := pr_of 61 59 rfl p61
theorem pr521 : Pr (2 ^ 521 - 1) := pr_of 521 519 rfl p521
theorem pr607 : Pr (2 ^ 607 - 1) := pr_of 607 605 rfl p607
end LL
end Go.Proofs.YtpefjkndfifceaaGreatDoor
namespace Go.Proofs.YtpefjkndfifceaaGreatDoor
open Go.RowKit
set_option maxRecDepth 100000
theorem bare_u8s : ∀ (l : List Nat) (_ : Byt l), Oc.bareL (u8s l) = u8s (natB 256 (nV l)).reverse
 | [], _ => by rw [show nV [] = 0 from rfl, natB_zero]; rfl
 | x :: r, hb => by
  have hx : x < 256 := hb x List.mem_cons_self
  have hr : Byt r := fun y hy => hb y (List.mem_cons_of_mem _ hy)
  have ih := bare_u8s r hr
  unfold Oc.bareL u8s at ih ⊢
  rw [List.map_cons, List.dropWhile_cons]
  by_cases h0 : x = 0
  ·subst h0
   rw [if_pos (by decide), ih]
   have : nV (0 :: r) = nV r := by
    show valB 256 (0 :: r).reverse = valB 256 r.reverse
    rw [List.reverse_cons, valB_snoc, Nat.mul_zero, Nat.add_zero]
   rw [this]
  ·rw [if_neg]
   ·have hl : (∀ y ∈ (x :: r).reverse, y < 256) := fun y hy => hb y (List.mem_reverse.1 hy)
    have := bareN_eq (by decide) hl
    rw [List.reverse_cons, bareN_snoc _ _ h0] at this
    show List.map UInt8.ofNat (x :: r) = _
    rw [show nV (x :: r) = valB 256 (r.reverse ++ [x]) by show valB 256 (x :: r).reverse = _; rw [List.reverse_cons], ← this, List.reverse_append, List.reverse_reverse]
    rfl
   ·intro h1
    rw [beq_iff_eq] at h1
    have h2 := congrArg UInt8.toNat h1
    rw [UInt8.toNat_ofNat', Nat.mod_eq_of_lt (show x < 2 ^ 8 from hx)] at h2
    exact h0 h2
def beN (n z : Nat) : List Nat := List.replicate (n - (natB 256 z).length) 0 ++ (natB 256 z).reverse
theorem beN_len {n z : Nat} (h : z < 256 ^ n) : (beN n z).length = n := by
 have := (natB_length (show 2 ≤ 256 by decide) z n).2 h
 unfold beN
 rw [List.length_append, List.length_replicate, List.length_reverse]
 omega
theorem beN_byt (n z : Nat) : Byt (beN n z) := fun x hx => by
 rcases List.mem_append.1 hx with h | h
 ·rw [List.eq_of_mem_replicate h]; decide
 ·exact natB_digit (by decide) z x (List.mem_reverse.1 h)
theorem beN_val (n z : Nat) : nV (beN n z) = z := by
 show valB 256 (beN n z).reverse = z
 unfold beN
 rw [List.reverse_append, List.reverse_reverse, List.reverse_replicate, valB_append, valB_zeros, Nat.mul_zero, Nat.add_zero, natB_val (by decide)]
theorem nV_lt {l : List Nat} (h : Byt l) : nV l < 256 ^ l.length := by
 have := valB_lt (b := 256) (by decide) (l := l.reverse) (fun x hx => h x (List.mem_reverse.1 hx))
 rwa [List.length_reverse] at this
theorem nV_inj {l m : List Nat} (hl : Byt l) (hm : Byt m) (hn : l.length = m.length) (h : nV l = nV m) : l = m := by
 have hr : l.reverse = m.reverse := by
  refine List.ext_getElem (by simpa using hn) fun i h1 h2 => ?_
  have a := valB_get (b := 256) (by decide) (l := l.reverse) (fun x hx => hl x (List.mem_reverse.1 hx)) i
  have b := valB_get (b := 256) (by decide) (l := m.reverse) (fun x hx => hm x (List.mem_reverse.1 hx)) i
  rw [List.getElem?_eq_getElem h1] at a
  rw [List.getElem?_eq_getElem h2] at b
  have h' : valB 256 l.reverse = valB 256 m.reverse := h
  rw [h'] at a
  simp only [Option.getD_some] at a b
  rw [a, b]
 exact List.reverse_inj.1 hr
theorem beN_of {l : List Nat} (h : Byt l) : beN l.length (nV l) = l :=
 nV_inj (beN_byt _ _) h (beN_len (nV_lt h)) (beN_val _ _)
theorem pad_be {n z : Nat} (h : z < 256 ^ n) (hn : n ≤ 65536) : Oc.padR (u8s (natB 256 z).reverse) (n : Int) = (u8s (beN n z), 0) := by
 have hl := (natB_length (show 2 ≤ 256 by decide) z n).2 h
 have hb : Byt (natB 256 z).reverse := fun x hx => natB_digit (by decide) z x (List.mem_reverse.1 hx)
 have e : Oc.bareL (u8s (natB 256 z).reverse) = u8s (natB 256 z).reverse := by
  rw [bare_u8s _ hb]
  show u8s (natB 256 (valB 256 (natB 256 z).reverse.reverse)).reverse = _
  rw [List.reverse_reverse, natB_val (by decide)]
 rw [Oc.padR_yes hn (by rw [e]; simpa [u8s] using hl), e]
 unfold beN u8s
 rw [List.map_append, List.map_replicate, List.length_map, List.length_reverse]
 rfl
theorem raise_yes {N B Y : List Nat} (bN : Byt N) (ln : N.length ≤ 700) (h : nV B < nV N) : raiseV N B Y = (u8s (beN N.length (nV B ^ nV Y % nV N)), 0) := by
 unfold raiseV
 rw [if_pos h]
 refine pad_be (Nat.lt_trans (Nat.mod_lt _ (by omega)) (nV_lt bN)) (by omega)
theorem raise_no {N B Y : List Nat} (h : ¬ nV B < nV N) : raiseV N B Y = ([], 101) := by
 unfold raiseV
 rw [if_neg h]
def GoodK (N E D : List Nat) : Prop := PrivP N E D ∧ ∃ p q, LL.Pr p ∧ LL.Pr q ∧ p ≠ q ∧ nV N = p * q ∧ nV E * nV D % ((p - 1) * (q - 1)) = 1
theorem GoodK.down {N E D : List Nat} (h : GoodK N E D) {x : Nat} (hx : x < nV N) : (x ^ nV D % nV N) ^ nV E % nV N = x := by
 obtain ⟨-, p, q, hp, hq, hne, hn, hr⟩ := h
 rw [hn] at hx ⊢
 exact LL.rsa_round hp hq hne (by rw [Nat.mul_comm]; exact hr) x hx
set_option maxRecDepth 100000
def KeyAt (w : World) (k : Value) (N E D : List Nat) : Prop := ∃ (na : Option Addr) (nn nc : Nat) (ea : Option Addr) (en ec : Nat) (da : Option Addr) (dn dc : Nat), k = .agg #[.slice na nn nc, .slice ea en ec, .slice da dn dc] ∧ (Reads .u8 w na nn nc N ∧ Byt N ∧ nn ≤ 700) ∧ (Reads .u8 w ea en ec E ∧ Byt E ∧ en ≤ 700) ∧ Reads .u8 w da dn dc D ∧ Byt D ∧ dn ≤ 700
theorem KeyAt.below {w w' : World} {k : Value} {N E D : List Nat} (h : KeyAt w k N E D) (hb : Below w.heap.size w w') : KeyAt w' k N E D := by
 obtain ⟨na, nn, nc, ea, en, ec, da, dn, dc, rfl, ⟨h1, h2, h3⟩, ⟨h4, h5, h6⟩, h7, h8, h9⟩ := h
 exact ⟨na, nn, nc, ea, en, ec, da, dn, dc, rfl, ⟨h1.below hb, h2, h3⟩, ⟨h4.below hb, h5, h6⟩, h7.below hb, h8, h9⟩
theorem KeyAt.small {w : World} {k : Value} {N E D : List Nat} (h : KeyAt w k N E D) : (Byt N ∧ N.length ≤ 700) ∧ (Byt E ∧ E.length ≤ 700) ∧ Byt D ∧ D.length ≤ 700 := by
 obtain ⟨na, nn, nc, ea, en, ec, da, dn, dc, rfl, ⟨h1, h2, h3⟩, ⟨h4, h5, h6⟩, h7, h8, h9⟩ := h
 exact ⟨⟨h2, by rw [h1.length]; exact h3⟩, ⟨h5, by rw [h4.length]; exact h6⟩, h8, by rw [h7.length]; exact h9⟩
theorem kpublic (k : Value) (N E D : List Nat) (w : World) (hkey : KeyAt w k N E D) :
  Calls Tryz.prog 32 #[k] w fun e w' => e = .returned (.int .i64 (pubE N E)) ∧ Below w.heap.size w w' := by
 obtain ⟨na, nn, nc, ea, en, ec, da, dn, dc, rfl, ⟨hN, bN, ln⟩, ⟨hE, bE, le⟩, hD, bD, ld⟩ := hkey
 exact public_any na nn nc N ea en ec E da dn dc w hN bN hE bE ln le
theorem kprivate (k : Value) (N E D : List Nat) (w : World) (hkey : KeyAt w k N E D) :
  Calls Tryz.prog 24 #[k] w fun e w' => e = .returned (.int .i64 (privE N E D)) ∧ Below w.heap.size w w' := by
 obtain ⟨na, nn, nc, ea, en, ec, da, dn, dc, rfl, ⟨hN, bN, ln⟩, ⟨hE, bE, le⟩, hD, bD, ld⟩ := hkey
 exact private_any na nn nc N ea en ec E da dn dc D w hN bN hE bE hD bD ln le ld
theorem kbits (k : Value) (N E D : List Nat) (w : World) (hkey : KeyAt w k N E D) :
  Calls Tryz.prog 56 #[k] w fun e w' => e = .returned (.int .i64 (bitsN (numV N) : Nat)) ∧ Below w.heap.size w w' := by
 obtain ⟨na, nn, nc, ea, en, ec, da, dn, dc, rfl, ⟨hN, bN, ln⟩, ⟨hE, bE, le⟩, hD, bD, ld⟩ := hkey
 exact kbits_any na nn nc N ea en ec da dn dc w hN bN ln
theorem krprivate (k : Value) (N E D : List Nat) (w : World) (hkey : KeyAt w k N E D) :
  Calls Tryz.prog 12 #[k] w fun e w' => e = .returned (.int .i64 (privE N E D)) ∧ Below w.heap.size w w' := by
 obtain ⟨na, nn, nc, ea, en, ec, da, dn, dc, rfl, ⟨hN, bN, ln⟩, ⟨hE, bE, le⟩, hD, bD, ld⟩ := hkey
 exact rprivate_any na nn nc N ea en ec E da dn dc D w hN bN hE bE hD bD ln le ld
theorem kraise (k : Value) (N E D : List Nat) (ba : Option Addr) (bn bc : Nat) (B : List Nat) (w : World) (hkey : KeyAt w k N E D) (hB : Reads .u8 w ba bn bc B) (bB : Byt B) (lb : bn ≤ 1000) :
  Calls Tryz.prog 25 #[k, .slice ba bn bc] w fun e w' => Oc.RetsOwn2 w.heap.size w' (rRaise N E B) e ∧ Below w.heap.size w w' := by
 obtain ⟨na, nn, nc, ea, en, ec, da, dn, dc, rfl, ⟨hN, bN, ln⟩, ⟨hE, bE, le⟩, hD, bD, ld⟩ := hkey
 exact raise_any na nn nc N ea en ec E da dn dc D ba bn bc B w hN bN hE bE hD bD hB bB ln le ld lb
theorem klower (k : Value) (N E D : List Nat) (ba : Option Addr) (bn bc : Nat) (B : List Nat) (w : World) (hkey : KeyAt w k N E D) (hB : Reads .u8 w ba bn bc B) (bB : Byt B) (lb : bn ≤ 1000) :
  Calls Tryz.prog 26 #[k, .slice ba bn bc] w fun e w' => Oc.RetsOwn2 w.heap.size w' (rLower N E D B) e ∧ Below w.heap.size w w' := by
 obtain ⟨na, nn, nc, ea, en, ec, da, dn, dc, rfl, ⟨hN, bN, ln⟩, ⟨hE, bE, le⟩, hD, bD, ld⟩ := hkey
 exact lower_any na nn nc N ea en ec E da dn dc D ba bn bc B w hN bN hE bE hD bD hB bB ln le ld lb
set_option maxRecDepth 100000
instance isHashDecR (h : Nat) : Decidable (IsHash h) := by unfold IsHash; infer_instance
def rSize (h : Int) : Int := if IsHash h.toNat then (mSize h.toNat : Int) else 0
set_option maxRecDepth 100000
def hSz (h : Int) : Nat := if IsHash h.toNat then mSize h.toNat else 0
theorem hSz_le (h : Int) : hSz h ≤ 64 := by
 unfold hSz
 split
 ·next hh => exact (mSize_le hh).2
 ·exact Nat.zero_le _
theorem hSz_yes {h : Int} (hh : IsHash h.toNat) : hSz h = mSize h.toNat := if_pos hh
theorem hSz_no {h : Int} (hh : ¬ IsHash h.toNat) : hSz h = 0 := if_neg hh
theorem isHash_nat {h : Int} (hh : IsHash h.toNat) : h = (h.toNat : Int) := by
 rcases hh with e | e | e | e <;> omega
theorem msize_any (h : Int) (w : World) (hk : Kinds w) : Calls Tryz.prog 36 #[.int .i64 h] w fun e w' => e = .returned (.int .i64 (hSz h : Nat)) ∧ Below w.heap.size w w' := by
 by_cases hh : IsHash h.toNat
 ·have e := isHash_nat hh
  rw [hSz_yes hh]
  generalize h.toNat = g at *
  subst e
  exact size_yes g hh w hk
 ·rw [hSz_no hh]
  exact size_no h (by unfold IsHash at hh; omega) w
def pssV (h : Int) (d s : List Nat) (b : Int) : List Nat × Int := if RoomP h (s.length : Int) b ∧ d.length = mSize h.toNat then (emsP h.toNat d s b.toNat, 0) else ([], 90)
def sgnV (N : List Nat) (way h : Int) (d s : List Nat) : List Nat × Int := if way = 1 then encR h d (N.length : Int) else if way = 2 then (if s.length = hSz h then pssV h d s ((bitsN (numV N) : Int) - 1) else ([], 101)) else ([], 101)
def RoomK (N E : List Nat) (way h : Int) : Prop := PubP N E ∧ (sgnV N way h (List.replicate (hSz h) 0) (List.replicate (hSz h) 0)).2 = 0
theorem encR_ok {h : Int} {d : List Nat} {n : Int} : (encR h d n).2 = 0 ↔ IsHash h.toNat ∧ d.length = mSize h.toNat ∧ (d.length : Int) + 30 ≤ n ∧ n ≤ 65536 := by
 unfold encR
 by_cases h1 : FrameOk h d.length
 ·rw [if_pos h1]
  by_cases h2 : n < (d.length : Int) + 30 ∨ 65536 < n
  ·rw [if_pos h2]
   exact ⟨fun e => (by cases e), fun e => (by omega)⟩
  ·rw [if_neg h2]
   exact ⟨fun _ => ⟨h1.1, h1.2, by omega, by omega⟩, fun _ => rfl⟩
 ·rw [if_neg h1]
  exact ⟨fun e => (by cases e), fun e => absurd ⟨e.1, e.2.1⟩ h1⟩
theorem encR_yes {h : Int} {d : List Nat} {n : Int} (h1 : (encR h d n).2 = 0) : (encR h d n).1 = encL h.toNat d n.toNat := by
 obtain ⟨a, b, c, e⟩ := encR_ok.1 h1
 unfold encR
 rw [if_pos (show FrameOk h d.length from ⟨a, b⟩), if_neg (by omega)]
theorem encR_no {h : Int} {d : List Nat} {n : Int} (h1 : (encR h d n).2 ≠ 0) : (encR h d n).1 = [] := by
 unfold encR at h1 ⊢
 split
 ·next hf =>
  rw [if_pos hf] at h1
  split
  ·rfl
  ·next hg => rw [if_neg hg] at h1; exact absurd rfl h1
 ·rfl
theorem pssV_ok {h : Int} {d s : List Nat} {b : Int} : (pssV h d s b).2 = 0 ↔ RoomP h (s.length : Int) b ∧ d.length = mSize h.toNat := by
 unfold pssV
 by_cases h1 : RoomP h (s.length : Int) b ∧ d.length = mSize h.toNat
 ·rw [if_pos h1]; exact ⟨fun _ => h1, fun _ => rfl⟩
 ·rw [if_neg h1]; exact ⟨fun e => (by cases e), fun e => absurd e h1⟩
theorem pub_bits {N E : List Nat} (hp : PubP N E) : numV N = nV N ∧ 256 ≤ bitsN (nV N) ∧ bitsN (nV N) ≤ 4096 := ⟨by unfold numV; rw [if_pos hp.1], hp.2.2.1, hp.2.2.2.1⟩
theorem pub_len {N E : List Nat} (hp : PubP N E) (bN : Byt N) : N.length = lenP (bitsN (nV N)) := by
 have h1 := hp.1
 have hb := hp.2.2.1
 have hN : bareN N.reverse = N.reverse := by
  cases N with
  | nil => rfl
  | cons x r =>
   have hx : x ≠ 0 := by
    unfold numOk at h1
    simp at h1
    omega
   rw [List.reverse_cons, bareN_snoc _ _ hx]
 have e := bareN_eq (b := 256) (by decide) (l := N.reverse) (fun x hx => bN x (List.mem_reverse.1 hx))
 rw [hN] at e
 have hl : N.length = (natB 256 (nV N)).length := by
  have := congrArg List.length e
  rwa [List.length_reverse] at this
 have p1 : ∀ k, nV N < 256 ^ k ↔ bitsN (nV N) ≤ 8 * k := fun k => by
  rw [bitsN_le, Nat.pow_mul]
 have a1 : ∀ k, N.length ≤ k ↔ bitsN (nV N) ≤ 8 * k := fun k => by
  rw [hl, natB_length (by decide), p1]
 have a2 := (a1 N.length).1 (Nat.le_refl _)
 have a3 := (a1 (lenP (bitsN (nV N)))).2 (by unfold lenP; omega)
 unfold lenP at a3 ⊢
 omega
theorem sgn_ok {N E : List Nat} (hp : PubP N E) (bN : Byt N) {way h : Int} {d s : List Nat} : (sgnV N way h d s).2 = 0 ↔ IsHash h.toNat ∧ d.length = mSize h.toNat ∧ ((way = 1 ∧ mSize h.toNat + 30 ≤ N.length) ∨ (way = 2 ∧ s.length = mSize h.toNat ∧ 2 * mSize h.toNat + 2 ≤ lenP (bitsN (nV N) - 1))) := by
 have hl := pub_len hp bN
 obtain ⟨hn, hb1, hb2⟩ := pub_bits hp
 unfold sgnV
 rw [hn]
 by_cases w1 : way = 1
 ·rw [if_pos w1, encR_ok]
  constructor
  ·rintro ⟨a, b, c, e⟩
   exact ⟨a, b, .inl ⟨w1, by omega⟩⟩
  ·rintro ⟨a, b, c | c⟩
   ·exact ⟨a, b, by omega, by rw [hl]; unfold lenP; omega⟩
   ·omega
 rw [if_neg w1]
 by_cases w2 : way = 2
 ·rw [if_pos w2]
  by_cases hs : s.length = hSz h
  ·rw [if_pos hs, pssV_ok]
   unfold RoomP
   have hz : ∀ (a : IsHash h.toNat), hSz h = mSize h.toNat := fun a => hSz_yes a
   rw [show ((bitsN (nV N) : Int) - 1).toNat = bitsN (nV N) - 1 by omega]
   constructor
   ·rintro ⟨⟨a, b, c, e, f⟩, g⟩
    exact ⟨a, g, .inr ⟨w2, by rw [hs, hz a], by rw [hs, hz a] at f; omega⟩⟩
   ·rintro ⟨a, b, c | ⟨c, e, f⟩⟩
    ·omega
    ·exact ⟨⟨a, by omega, by omega, by omega, by omega⟩, b⟩
  ·rw [if_neg hs]
   constructor
   ·intro e; cases e
   ·rintro ⟨a, b, c | ⟨c, e, f⟩⟩
    ·omega
    ·exact absurd (by rw [e, hSz_yes a]) hs
 ·rw [if_neg w2]
  constructor
  ·intro e; cases e
  ·rintro ⟨a, b, c | c⟩ <;> omega
theorem roomK_iff {N E : List Nat} (bN : Byt N) {way h : Int} : RoomK N E way h ↔ PubP N E ∧ IsHash h.toNat ∧ ((way = 1 ∧ mSize h.toNat + 30 ≤ N.length) ∨ (way = 2 ∧ 2 * mSize h.toNat + 2 ≤ lenP (bitsN (nV N) - 1))) := by
 unfold RoomK
 constructor
 ·rintro ⟨hp, h1⟩
  obtain ⟨a, b, c⟩ := (sgn_ok hp bN).1 h1
  exact ⟨hp, a, by rcases c with c | c; exact .inl c; exact .inr ⟨c.1, c.2.2⟩⟩
 ·rintro ⟨hp, a, c⟩
  refine ⟨hp, (sgn_ok hp bN).2 ⟨a, by rw [List.length_replicate, hSz_yes a], ?_⟩⟩
  rcases c with c | c
  ·exact .inl c
  ·exact .inr ⟨c.1, by rw [List.length_replicate, hSz_yes a], c.2⟩
theorem sgn_room {N E : List Nat} (hp : PubP N E) (bN : Byt N) {way h : Int} {d s : List Nat} : (sgnV N way h d s).2 = 0 ↔ RoomK N E way h ∧ d.length = hSz h ∧ (way = 2 → s.length = hSz h) := by
 rw [sgn_ok hp bN, roomK_iff bN]
 constructor
 ·rintro ⟨a, b, c⟩
  refine ⟨⟨hp, a, ?_⟩, by rw [b, hSz_yes a], fun e => ?_⟩
  ·rcases c with c | c
   ·exact .inl c
   ·exact .inr ⟨c.1, c.2.2⟩
  ·rcases c with c | c
   ·omega
   ·rw [c.2.1, hSz_yes a]
 ·rintro ⟨⟨-, a, c⟩, b, f⟩
  refine ⟨a, by rw [b, hSz_yes a], ?_⟩
  rcases c with c | c
  ·exact .inl c
  ·exact .inr ⟨c.1, by rw [f c.1, hSz_yes a], c.2⟩
theorem sgn_byt {N E : List Nat} (hp : PubP N E) (bN : Byt N) {way h : Int} {d s : List Nat} (bd : Byt d) (bs : Byt s) : Byt (sgnV N way h d s).1 ∧ (sgnV N way h d s).1.length ≤ 700 := by
 by_cases h0 : (sgnV N way h d s).2 = 0
 ·obtain ⟨a, b, c⟩ := (sgn_ok hp bN).1 h0
  have hl := pub_len hp bN
  obtain ⟨hn, hb1, hb2⟩ := pub_bits hp
  have hg := isHash_nat a
  rcases c with ⟨w1, c⟩ | ⟨w2, c, e⟩
  ·have e1 : sgnV N way h d s = encR h d (N.length : Int) := by unfold sgnV; rw [if_pos w1]
   rw [e1] at h0 ⊢
   rw [encR_yes h0, Int.toNat_natCast]
   constructor
   ·intro x hx
    unfold encL mEncP frameL at hx
    simp only [List.mem_append, List.mem_cons, List.not_mem_nil, or_false, List.mem_replicate] at hx
    rcases hx with ((hx | hx) | hx) | hx | hx
    ·rcases hx with rfl | rfl <;> decide
    ·rw [hx.2]; decide
    ·subst hx; decide
    ·exact frameH_lt a x hx
    ·exact bd x hx
   ·unfold encL mEncP frameL
    simp only [List.length_append, List.length_cons, List.length_nil, List.length_replicate, frameH_len]
    rw [hl] at c ⊢
    unfold lenP at c ⊢
    omega
  ·have w1 : way ≠ 1 := by omega
   have e1 : sgnV N way h d s = pssV h d s ((bitsN (numV N) : Int) - 1) := by unfold sgnV; rw [if_neg w1, if_pos w2, if_pos (by rw [c, hSz_yes a])]
   rw [e1] at h0 ⊢
   have hr := pssV_ok.1 h0
   unfold pssV
   rw [if_pos hr]
   have hnn : ((bitsN (numV N) : Int) - 1) = (((bitsN (numV N) : Int) - 1).toNat : Int) := by rw [hn]; omega
   have hrm := hr.1
   rw [hg, hnn] at hrm
   have := ems_fine a d s rfl bs hrm
   exact ⟨this.2.2.2.2, by rw [this.2.2.2.1]; unfold lenP; rw [hn]; omega⟩
 ·have hz : (sgnV N way h d s).1 = [] := by
   unfold sgnV at h0 ⊢
   split
   ·next w1 => rw [if_pos w1] at h0; exact encR_no h0
   ·next w1 =>
    rw [if_neg w1] at h0
    split
    ·next w2 =>
     rw [if_pos w2] at h0
     split
     ·next e =>
      rw [if_pos e] at h0
      unfold pssV at h0 ⊢
      split
      ·next k => rw [if_pos k] at h0; exact absurd rfl h0
      ·rfl
     ·rfl
    ·rfl
  rw [hz]
  exact ⟨fun x hx => (by cases hx), Nat.zero_le _⟩
end Go.Proofs.YtpefjkndfifceaaGreatDoor
