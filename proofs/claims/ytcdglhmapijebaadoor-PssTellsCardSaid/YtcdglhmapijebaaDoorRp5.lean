/-
  PSS: the law PssTells. (Written by wip/gen_rp5.py.)
-/
import Derived.Test.YtcdglhmapijebaaDoorPk1
import Derived.Test.YtcdglhmapijebaaDoorPk2
import Derived.Test.YtcdglhmapijebaaDoorPk3
import Derived.Test.YtcdglhmapijebaaDoorPk4
import Derived.Test.YtcdglhmapijebaaDoorPk5
import Derived.Test.YtcdglhmapijebaaDoorPk6
import Derived.Test.YtcdglhmapijebaaDoorPk7
import Derived.Test.YtcdglhmapijebaaDoorPk8
import Derived.Test.YtcdglhmapijebaaDoorPk9
import Derived.Test.YtcdglhmapijebaaDoorPk10
import Derived.Test.YtcdglhmapijebaaDoorPk11
import Derived.Test.YtcdglhmapijebaaDoorPk12
import Derived.Test.YtcdglhmapijebaaDoorPk13
import Derived.Test.YtcdglhmapijebaaDoorPk14
import Derived.Maps.AppendAt
set_option linter.unusedVariables false
set_option linter.unusedSimpArgs false
namespace Go.Proofs.YtcdglhmapijebaaDoor
open Go.RowKit
set_option maxRecDepth 100000

theorem strOf_appC (l : List Nat) (c : Nat) : strOf (u8s l) ++ ⟨#[UInt8.ofNat c]⟩ = strOf (u8s (l ++ [c])) := ByteArray.ext (by simp [strOf, u8s, ByteArray.data_append])
theorem byt_appC {l m : List Nat} (h : Byt l) (k : Byt m) : Byt (l ++ m) := fun x hx => by
  rcases List.mem_append.1 hx with hx | hx
  · exact h x hx
  · exact k x hx
theorem byt_setT {l : List Nat} (h : Byt l) (j x : Nat) (hx : x < 256) : Byt (l.set j x) := fun y hy => by
  rcases List.mem_or_eq_of_mem_set hy with h1 | h1
  · exact h y h1
  · rw [h1]; exact hx
theorem grown_cellT (W : World) (a : Addr) (v : Value) : W.grownBy (W.setCell a v) (some a.block) :=
  ⟨rfl, rfl, rfl, (KeepsWalks.setCell W _ v).size, fun k _ hk => Below.heap_setCell _ _ _ k (fun e => hk (by rw [e]))⟩
theorem OwnQ.kpT {q : IntKind} {E B : Nat} {w X : World} {v : Value} {l : List Nat} {Ex : Nat → Prop} (h : OwnQ q E B w v l) (hk : KpV Ex w X) (hn : ∀ g, v.ownBlock = some g → ¬ Ex g) : OwnQ q E B X v l := by
  obtain ⟨h1, h2⟩ := h
  refine ⟨h1, ?_⟩
  rcases h2 with h2 | ⟨g, cap, cur, rfl, hB, hg, rest⟩
  · exact .inl h2
  · exact .inr ⟨g, cap, cur, rfl, hB, by rw [hk.2 g (Array.getElem?_eq_some_iff.1 hg).1 (hn g (by simp [Value.ownBlock]))]; exact hg, rest⟩
theorem ask_alloc {X : World} {P : Nat} {o : Obj} (h : X.heap[P]? = some o) (o' : Obj) : (X.alloc o').heap[P]? = some o :=
  (((Below.refl X.heap.size X).alloc (Nat.le_refl _) o').block P (Array.getElem?_eq_some_iff.1 h).1).trans h

set_option maxHeartbeats 16000000 in
theorem tells_walk (h : Int) (da : Option Addr) (dn dc : Nat) (D : List Nat) (sa : Option Addr) (sn sc : Nat) (SS : List Nat) (ba : Option Addr) (bn bc : Nat) (B : List Nat) (S n : Int) (hdn : dn ≤ 140737488351232) (hsn : sn ≤ 140737488351232) (hbn : bn ≤ 140737488351232) (s0 : -9223372036854775808 ≤ S) (s1 : S ≤ 9223372036854775807) (n0 : -9223372036854775808 ≤ n) (n1 : n ≤ 9223372036854775807)
    (w : World) (hk : Kinds w) (hD : Reads .u8 w da dn dc D) (bD : Byt D) (hS : Reads .u8 w sa sn sc SS) (bS : Byt SS) (hB : Reads .u8 w ba bn bc B) (bB : Byt B) :
    Calls Tryd.prog 3 #[.agg #[.int .i64 h, .slice da dn dc, .slice sa sn sc, .slice ba bn bc, .int .i64 S, .int .i64 n]] w fun e w' => e = .returned (.bool true) ∧ Below w.heap.size w w' := by
  obtain ⟨i0, hi0, hz0, hz1, hz2⟩ := info_parts infoMk
  have HKo := Lib.hid hk
  have HDo := Lib.hid hD
  have HSo := Lib.hid hS
  have HBo := Lib.hid hB
  have HDL := Lib.hid hD.length
  have HSL := Lib.hid hS.length
  have HBL := Lib.hid hB.length
  have HDB := Lib.hid bD
  have HSB := Lib.hid bS
  have HBB := Lib.hid bB
  have hba := (Below.refl w.heap.size w).alloc (Nat.le_refl _) (.cells #[.int .i64 h, .slice da dn dc, .slice sa sn sc, .slice ba bn bc, .int .i64 S, .int .i64 n] 24)
  have hq0 : (w.alloc (.cells #[.int .i64 h, .slice da dn dc, .slice sa sn sc, .slice ba bn bc, .int .i64 S, .int .i64 n] 24)).heap[w.heap.size]? = some (.cells #[.int .i64 h, .slice da dn dc, .slice sa sn sc, .slice ba bn bc, .int .i64 S, .int .i64 n] 24) := World.alloc_heap_new w _
  have HQ0 := Lib.hid hq0
  have HB0 := Lib.hid hba
  clear hk hD bD hS bS hB bB hba hq0
  go_enter Tryd.func3, Tryd.ntmps3
  go_wp2_with fail
  generalize w.alloc (.cells #[.int .i64 h, .slice da dn dc, .slice sa sn sc, .slice ba bn bc, .int .i64 S, .int .i64 n] 24) = w0 at *
  obtain ⟨P, hP⟩ : ∃ P, w.heap.size = P := ⟨_, rfl⟩
  replace HKo := Lib.hid (HKo.out.below HB0.out)
  replace HDo := Lib.hid (HDo.out.below HB0.out)
  replace HSo := Lib.hid (HSo.out.below HB0.out)
  replace HBo := Lib.hid (HBo.out.below HB0.out)
  rw [hP] at HQ0
  have HPW := Lib.hid hP
  have HQo : Hid (∀ X, Below w0.heap.size w0 X → X.heap[P]? = some (.cells #[.int .i64 h, .slice da dn dc, .slice sa sn sc, .slice ba bn bc, .int .i64 S, .int .i64 n] 24)) := Lib.hid fun X hX => (hX.block P (Array.getElem?_eq_some_iff.1 HQ0.out).1).trans HQ0.out
  simp only [hP]
  clear hP HQ0
  obtain ⟨k0, k1, k2, k3, k4, k5⟩ := ask_cells (HQo.out _ (Below.refl _ _))
  go_wp2_with fail
  refine (great_any h da dn dc sa sn sc ba bn bc S n hdn hsn hbn _ _ rfl).mono ?_
  rintro e w1 ⟨rfl, hb⟩
  have HC1 := Lib.hid hb
  clear hb k0 k1 k2 k3 k4 k5
  by_cases hbig : BigAsk dn sn bn n
  · rw [if_pos hbig]
    clear hbig
    go_wp2
    go_ret
    exact ⟨rfl, HB0.out.trans (HC1.out.mono HB0.out.size)⟩
  rw [if_neg hbig]
  have hsum : dn + sn + bn ≤ 2000 := by
    by_cases h5 : 2000 < dn + sn + bn
    · exact absurd (.inl h5) hbig
    · omega
  have hn5 : n ≤ 5000 ∨ 524288 < n := by
    by_cases h5 : n ≤ 5000
    · exact .inl h5
    · by_cases h6 : n ≤ 524288
      · exact absurd (.inr ⟨by omega, h6⟩) hbig
      · exact .inr (by omega)
  clear hbig
  have hdn2 : dn ≤ 2000 := by omega
  have hsn2 : sn ≤ 2000 := by omega
  have hbn2 : bn ≤ 2000 := by omega
  obtain ⟨F, fe, bF, lF, cE, cRE⟩ := enc_pair h D SS n n0 n1 hn5 HDB.out HSB.out
  obtain ⟨G, ge, bG, lG, cS, cRS⟩ := sal_pair h B S n s0 s1 n0 n1 hn5 HBB.out
  obtain ⟨vv, cV, cRV⟩ := ver_pair h D B S n s0 s1 n0 n1 hn5 HDB.out HBB.out
  obtain ⟨rb, cP, cRP⟩ : ∃ rb : Bool, (∀ w : World, Kinds w → Calls Tryd.prog 15 #[.int .i64 h, .int .i64 S, .int .i64 n] w fun e w' => e = .returned (.bool rb) ∧ Below w.heap.size w w') ∧ (∀ w : World, Calls Tryd.prog 16 #[.int .i64 h, .int .i64 S, .int .i64 n] w fun e w' => e = .returned (.bool rb) ∧ w = w') := ⟨decide (RoomP h S n), fun w hk => room_p h S n s0 s1 n0 n1 w hk, fun w => room_pair h S n s0 s1 w⟩
  have BF := Lib.hid bF
  have BG := Lib.hid bG
  have CE := Lib.hid cE
  have CRE := Lib.hid cRE
  have CS := Lib.hid cS
  have CRS := Lib.hid cRS
  have CV := Lib.hid cV
  have CRV := Lib.hid cRV
  have CP := Lib.hid cP
  have CRP := Lib.hid cRP
  clear hn5 hsum bF bG cE cRE cS cRS cV cRV cP cRP
  obtain ⟨-, kk, -, -, -, -⟩ := ask_cells (ask_alloc (HQo.out _ HC1.out) (.cells #[] 5))
  obtain ⟨kk0, -, -, -, -, -⟩ := ask_cells (HQo.out _ HC1.out)
  go_wp2_with (at_builtin; first
    | (refine wpList_append_q1 .u8 _ rfl _ _ 22 rfl w1.heap.size 5 i0 Tryd.underlying22 hi0 hz0 hz1 hz2 _ [] rfl (OwnQ.empty .u8 w1 _ _ (Nat.le_refl _)) da dn dc D rfl ((HDo.out.below HC1.out).below ((Below.refl _ _).alloc (Nat.le_refl _) _)) (by simp; omega) (by simp) ?_; intro vx w2 hown hgrow; rw [List.nil_append] at hown; obtain ⟨xa4, xn4, xc4, rfl, hxn, ho⟩ := own_slM hown; have HX4 := Lib.hid ho; have HBX4 := Lib.hid (hgrow w1 ((Below.refl _ _).alloc (Nat.le_refl _) _)); clear hown hgrow ho hxn kk)
    | (refine wpList_append_q1 .u8 _ rfl _ _ 22 rfl w1.heap.size 5 i0 Tryd.underlying22 hi0 hz0 hz1 hz2 (.slice xa4 xn4 xc4) D rfl (HX4.out.alloc _) _ 1 1 [7] rfl (Reads.one .u8 _ _ _ _ rfl) (by rw [HDL.out]; omega) (by have := HBX4.out.size; simp; omega) ?_; intro vy w3 hown hgrow; obtain ⟨ga, gn, gc, rfl, hgn, ho⟩ := own_slM hown; have HG := Lib.hid ho; have HN4 := Lib.hid hgn; have hcp4 : dn ≤ gc := (by have h1 := ho.cap; have h2 := HDL.out; rw [List.length_append] at h1; omega); have HBY4 := Lib.hid (hgrow w1 (HBX4.out.alloc HBX4.out.size _)); have HC3 := Lib.hid (HC1.out.trans (HBY4.out.mono HC1.out.size)); obtain ⟨-, -, kk, -, -, -⟩ := ask_cells (ask_alloc (HQo.out _ HC3.out) (.cells #[] 5)); clear hown hgrow hgn ho)
    | (refine wpList_append_q1 .u8 _ rfl _ _ 22 rfl w3.heap.size 5 i0 Tryd.underlying22 hi0 hz0 hz1 hz2 _ [] rfl (OwnQ.empty .u8 w3 _ _ (Nat.le_refl _)) sa sn sc SS rfl ((HSo.out.below HC3.out).below ((Below.refl _ _).alloc (Nat.le_refl _) _)) (by simp; omega) (by simp) ?_; intro vx w4 hown hgrow; rw [List.nil_append] at hown; obtain ⟨xa5, xn5, xc5, rfl, hxn, ho⟩ := own_slM hown; have HX5 := Lib.hid ho; have HBX5 := Lib.hid (hgrow w3 ((Below.refl _ _).alloc (Nat.le_refl _) _)); clear hown hgrow ho hxn kk)
    | (refine wpList_append_q1 .u8 _ rfl _ _ 22 rfl w3.heap.size 5 i0 Tryd.underlying22 hi0 hz0 hz1 hz2 (.slice xa5 xn5 xc5) SS rfl (HX5.out.alloc _) _ 1 1 [8] rfl (Reads.one .u8 _ _ _ _ rfl) (by rw [HSL.out]; omega) (by have := HBX5.out.size; simp; omega) ?_; intro vy w5 hown hgrow; obtain ⟨ta, tn, tc, rfl, hgn, ho⟩ := own_slM hown; have HT := Lib.hid ho; have HN5 := Lib.hid hgn; have hcp5 : sn ≤ tc := (by have h1 := ho.cap; have h2 := HSL.out; rw [List.length_append] at h1; omega); have HBY5 := Lib.hid (hgrow w3 (HBX5.out.alloc HBX5.out.size _)); have HC5 := Lib.hid (HC3.out.trans (HBY5.out.mono HC3.out.size)); obtain ⟨-, -, -, kk, -, -⟩ := ask_cells (ask_alloc (HQo.out _ HC5.out) (.cells #[] 5)); clear hown hgrow hgn ho)
    | (refine wpList_append_q1 .u8 _ rfl _ _ 22 rfl w5.heap.size 5 i0 Tryd.underlying22 hi0 hz0 hz1 hz2 _ [] rfl (OwnQ.empty .u8 w5 _ _ (Nat.le_refl _)) ba bn bc B rfl ((HBo.out.below HC5.out).below ((Below.refl _ _).alloc (Nat.le_refl _) _)) (by simp; omega) (by simp) ?_; intro vx w6 hown hgrow; rw [List.nil_append] at hown; obtain ⟨xa6, xn6, xc6, rfl, hxn, ho⟩ := own_slM hown; have HX6 := Lib.hid ho; have HBX6 := Lib.hid (hgrow w5 ((Below.refl _ _).alloc (Nat.le_refl _) _)); clear hown hgrow ho hxn kk)
    | (refine wpList_append_q1 .u8 _ rfl _ _ 22 rfl w5.heap.size 5 i0 Tryd.underlying22 hi0 hz0 hz1 hz2 (.slice xa6 xn6 xc6) B rfl (HX6.out.alloc _) _ 1 1 [9] rfl (Reads.one .u8 _ _ _ _ rfl) (by rw [HBL.out]; omega) (by have := HBX6.out.size; simp; omega) ?_; intro vy w7 hown hgrow; obtain ⟨oa, on, oc, rfl, hgn, ho⟩ := own_slM hown; have HO := Lib.hid ho; have HN6 := Lib.hid hgn; have hcp6 : bn ≤ oc := (by have h1 := ho.cap; have h2 := HBL.out; rw [List.length_append] at h1; omega); have HBY6 := Lib.hid (hgrow w5 (HBX6.out.alloc HBX6.out.size _)); have HC7 := Lib.hid (HC5.out.trans (HBY6.out.mono HC5.out.size)); clear hown hgrow hgn ho))
  replace HG := Lib.hid ((HG.out.below HBY5.out).below HBY6.out)
  replace HT := Lib.hid (HT.out.below HBY6.out)
  have HGd := Lib.hid (show Reads .u8 w7 ga dn gc D from by have h1 := (HG.out.upto dn (by have := HN4.out; rw [List.length_append, HDL.out] at this; omega)).reads; rwa [List.take_left' HDL.out] at h1)
  have HTd := Lib.hid (show Reads .u8 w7 ta sn tc SS from by have h1 := (HT.out.upto sn (by have := HN5.out; rw [List.length_append, HSL.out] at this; omega)).reads; rwa [List.take_left' HSL.out] at h1)
  have HOd := Lib.hid (show Reads .u8 w7 oa bn oc B from by have h1 := (HO.out.upto bn (by have := HN6.out; rw [List.length_append, HBL.out] at this; omega)).reads; rwa [List.take_left' HBL.out] at h1)
  have HK := Lib.hid (HKo.out.below HC7.out)
  have HDr := Lib.hid (HDo.out.below HC7.out)
  have HSr := Lib.hid (HSo.out.below HC7.out)
  have HBr := Lib.hid (HBo.out.below HC7.out)
  have HQ : Hid (∀ X, Below w7.heap.size w7 X → X.heap[P]? = some (.cells #[.int .i64 h, .slice da dn dc, .slice sa sn sc, .slice ba bn bc, .int .i64 S, .int .i64 n] 24)) := Lib.hid fun X hX => HQo.out X (HC7.out.trans (hX.mono HC7.out.size))
  have HBW := Lib.hid (show Below w.heap.size w w7 from HB0.out.trans (HC7.out.mono HB0.out.size))
  clear HKo HDo HSo HBo HQo HB0 HC1 HC3 HC5 HC7 HBY4 HBY5 HBY6 HBX4 HBX5 HBX6 HX4 HX5 HX6 HN4 HN5 HN6 kk0
  have hs1 : ∀ w, (sizeOf (Tryd.prog.elem 22)).run Tryd.prog w = .ok 1 w := fun _ => by kernel_rfl
  have sl1 : ∀ W, (Instr.sliceAt 22 (.slice ga gn gc) none (some (.int .i64 (dn : Int))) none).run Tryd.prog W = .ok (.slice ga dn gc) W := fun W => by
    rw [run_sliceAt_slice W _ _ _ _ _ (by kernel_rfl), run_slice_h W _ ga gn gc (by kernel_rfl) .i64 (dn : Int) (by omega) (by omega), hs1]
    cases ga <;> simp [sliced, Result.andThen, Addr.add]
  have sl2 : ∀ W, (Instr.sliceAt 22 (.slice ta tn tc) none (some (.int .i64 (sn : Int))) none).run Tryd.prog W = .ok (.slice ta sn tc) W := fun W => by
    rw [run_sliceAt_slice W _ _ _ _ _ (by kernel_rfl), run_slice_h W _ ta tn tc (by kernel_rfl) .i64 (sn : Int) (by omega) (by omega), hs1]
    cases ta <;> simp [sliced, Result.andThen, Addr.add]
  have sl3 : ∀ W, (Instr.sliceAt 22 (.slice oa on oc) none (some (.int .i64 (bn : Int))) none).run Tryd.prog W = .ok (.slice oa bn oc) W := fun W => by
    rw [run_sliceAt_slice W _ _ _ _ _ (by kernel_rfl), run_slice_h W _ oa on oc (by kernel_rfl) .i64 (bn : Int) (by omega) (by omega), hs1]
    cases oa <;> simp [sliced, Result.andThen, Addr.add]
  clear hs1
  have HH := Lib.hid (Below.refl w7.heap.size w7)
  refine wp_region_held_drew (S := fun X => X.cell? ⟨P, 0, none⟩ = some (.int .i64 h) ∧ X.cell? ⟨P, 1, none⟩ = some (.slice da dn dc) ∧ X.cell? ⟨P, 2, none⟩ = some (.slice sa sn sc) ∧ X.cell? ⟨P, 3, none⟩ = some (.slice ba bn bc) ∧ X.cell? ⟨P, 4, none⟩ = some (.int .i64 S) ∧ X.cell? ⟨P, 5, none⟩ = some (.int .i64 n)) (by kernel_rfl) (ask_cells (HQ.out _ HH.out.drew)) (fun hHeld => ?_)
  replace HH := Lib.hid HH.out.drew
  have hd_w8 : w7.heap.size ≤ w7.drew.heap.size := (Below.refl w7.heap.size w7).drew.size
  generalize w7.drew = w8 at *
  have h78 : w7.heap.size ≤ w8.heap.size := HH.out.size
  refine' wpAnyH_take (i := 0) (oi := _) (v := _) rfl (by kernel_rfl) (by kernel_rfl) (by kernel_rfl) (fun _ _ _ h => h) (Or.inl ⟨?_, ?_⟩) (by assumption) ?_
  rotate_left
  all_goals (try simp only [List.getElem_toArray, List.getElem_cons_succ, List.getElem_cons_zero])
  · rfl
  · intro W hSw; (try dsimp only at hSw); go_simp; (try with_reducible rfl)
  try simp only [Act.put, List.setIfInBounds_toArray, List.set_cons_zero, List.set_cons_succ]
  refine' wpAnyH_take (i := 1) (oi := _) (v := _) rfl (by kernel_rfl) (by kernel_rfl) (by kernel_rfl) (fun _ _ _ h => h) (Or.inl ⟨?_, ?_⟩) (by assumption) ?_
  rotate_left
  all_goals (try simp only [List.getElem_toArray, List.getElem_cons_succ, List.getElem_cons_zero])
  · rfl
  · intro W hSw; (try dsimp only at hSw); go_simp; (try with_reducible rfl)
  try simp only [Act.put, List.setIfInBounds_toArray, List.set_cons_zero, List.set_cons_succ]
  refine' wpAnyH_take (i := 2) (oi := _) (v := _) rfl (by kernel_rfl) (by kernel_rfl) (by kernel_rfl) (fun _ _ _ h => h) (Or.inl ⟨?_, ?_⟩) (by assumption) ?_
  rotate_left
  all_goals (try simp only [List.getElem_toArray, List.getElem_cons_succ, List.getElem_cons_zero])
  · rfl
  · intro W hSw; (try dsimp only at hSw); go_simp; (try with_reducible rfl)
  try simp only [Act.put, List.setIfInBounds_toArray, List.set_cons_zero, List.set_cons_succ]
  refine' wpAnyH_take (i := 3) (oi := _) (v := _) rfl (by kernel_rfl) (by kernel_rfl) (by kernel_rfl) (fun _ _ _ h => h) (Or.inl ⟨?_, ?_⟩) (by assumption) ?_
  rotate_left
  all_goals (try simp only [List.getElem_toArray, List.getElem_cons_succ, List.getElem_cons_zero])
  · rfl
  · intro W hSw; (try dsimp only at hSw); go_simp; (try with_reducible rfl)
  try simp only [Act.put, List.setIfInBounds_toArray, List.set_cons_zero, List.set_cons_succ]
  refine' wpAnyH_take (i := 4) (oi := _) (v := _) rfl (by kernel_rfl) (by kernel_rfl) (by kernel_rfl) (fun _ _ _ h => h) (Or.inl ⟨?_, ?_⟩) (by assumption) ?_
  rotate_left
  all_goals (try simp only [List.getElem_toArray, List.getElem_cons_succ, List.getElem_cons_zero])
  · rfl
  · intro W hSw; (try dsimp only at hSw); go_simp; (try with_reducible rfl)
  try simp only [Act.put, List.setIfInBounds_toArray, List.set_cons_zero, List.set_cons_succ]
  refine' wpAnyH_take (i := 5) (oi := _) (v := .slice ga dn gc) rfl (by kernel_rfl) (by kernel_rfl) (by kernel_rfl) (fun _ _ _ h => h) (Or.inl ⟨?_, ?_⟩) (by assumption) ?_
  all_goals (try simp only [List.getElem_toArray, List.getElem_cons_succ, List.getElem_cons_zero])
  · rfl
  · intro W hSw; (try dsimp only at hSw); go_simp; (first | done | exact sl1 W)
  try simp only [Act.put, List.setIfInBounds_toArray, List.set_cons_zero, List.set_cons_succ]
  refine' wpAnyH_take (i := 6) (oi := _) (v := _) rfl (by kernel_rfl) (by kernel_rfl) (by kernel_rfl) (fun _ _ _ h => h) (Or.inl ⟨?_, ?_⟩) (by assumption) ?_
  rotate_left
  all_goals (try simp only [List.getElem_toArray, List.getElem_cons_succ, List.getElem_cons_zero])
  · rfl
  · intro W hSw; (try dsimp only at hSw); go_simp; (try with_reducible rfl)
  try simp only [Act.put, List.setIfInBounds_toArray, List.set_cons_zero, List.set_cons_succ]
  refine' wpAnyH_take (i := 7) (oi := _) (v := _) rfl (by kernel_rfl) (by kernel_rfl) (by kernel_rfl) (fun _ _ _ h => h) (Or.inl ⟨?_, ?_⟩) (by assumption) ?_
  rotate_left
  all_goals (try simp only [List.getElem_toArray, List.getElem_cons_succ, List.getElem_cons_zero])
  · rfl
  · intro W hSw; (try dsimp only at hSw); go_simp; (try with_reducible rfl)
  try simp only [Act.put, List.setIfInBounds_toArray, List.set_cons_zero, List.set_cons_succ]
  refine' wpAnyH_take (i := 8) (oi := _) (v := _) rfl (by kernel_rfl) (by kernel_rfl) (by kernel_rfl) (fun _ _ _ h => h) (Or.inl ⟨?_, ?_⟩) (by assumption) ?_
  rotate_left
  all_goals (try simp only [List.getElem_toArray, List.getElem_cons_succ, List.getElem_cons_zero])
  · rfl
  · intro W hSw; (try dsimp only at hSw); go_simp; (try with_reducible rfl)
  try simp only [Act.put, List.setIfInBounds_toArray, List.set_cons_zero, List.set_cons_succ]
  refine' wpAnyH_take (i := 9) (oi := _) (v := _) rfl (by kernel_rfl) (by kernel_rfl) (by kernel_rfl) (fun _ _ _ h => h) (Or.inl ⟨?_, ?_⟩) (by assumption) ?_
  rotate_left
  all_goals (try simp only [List.getElem_toArray, List.getElem_cons_succ, List.getElem_cons_zero])
  · rfl
  · intro W hSw; (try dsimp only at hSw); go_simp; (try with_reducible rfl)
  try simp only [Act.put, List.setIfInBounds_toArray, List.set_cons_zero, List.set_cons_succ]
  refine' wpAnyH_take (i := 10) (oi := _) (v := .slice ta sn tc) rfl (by kernel_rfl) (by kernel_rfl) (by kernel_rfl) (fun _ _ _ h => h) (Or.inl ⟨?_, ?_⟩) (by assumption) ?_
  all_goals (try simp only [List.getElem_toArray, List.getElem_cons_succ, List.getElem_cons_zero])
  · rfl
  · intro W hSw; (try dsimp only at hSw); go_simp; (first | done | exact sl2 W)
  try simp only [Act.put, List.setIfInBounds_toArray, List.set_cons_zero, List.set_cons_succ]
  refine' wpAnyH_take (i := 11) (oi := _) (v := _) rfl (by kernel_rfl) (by kernel_rfl) (by kernel_rfl) (fun _ _ _ h => h) (Or.inl ⟨?_, ?_⟩) (by assumption) ?_
  rotate_left
  all_goals (try simp only [List.getElem_toArray, List.getElem_cons_succ, List.getElem_cons_zero])
  · rfl
  · intro W hSw; (try dsimp only at hSw); go_simp; (try with_reducible rfl)
  try simp only [Act.put, List.setIfInBounds_toArray, List.set_cons_zero, List.set_cons_succ]
  refine' wpAnyH_take (i := 12) (oi := _) (v := _) rfl (by kernel_rfl) (by kernel_rfl) (by kernel_rfl) (fun _ _ _ h => h) (Or.inl ⟨?_, ?_⟩) (by assumption) ?_
  rotate_left
  all_goals (try simp only [List.getElem_toArray, List.getElem_cons_succ, List.getElem_cons_zero])
  · rfl
  · intro W hSw; (try dsimp only at hSw); go_simp; (try with_reducible rfl)
  try simp only [Act.put, List.setIfInBounds_toArray, List.set_cons_zero, List.set_cons_succ]
  refine wpAnyH_ready (rs := [13]) (by kernel_rfl) (by simp) ?_
  refine AllReadyH.cons (o := _) rfl (fun K hK => ?_) AllReadyH.nil
  try simp only [List.getElem_toArray, List.getElem_cons_succ, List.getElem_cons_zero]
  go_simp
  refine (CE.out ga dn gc ta sn tc _ (HK.out.below HH.out) (HGd.out.below HH.out) (HTd.out.below HH.out)).mono ?_; rintro e w9 ⟨⟨aa, an, ac, rfl, ho⟩, hb⟩; have HA := Lib.hid ho; have h89 : w8.heap.size ≤ w9.heap.size := hb.size; replace HH := Lib.hid (HH.out.trans (hb.mono HH.out.size)); clear hb ho
  go_wp2_with fail
  refine hK.out _ _ (ask_cells (HQ.out _ HH.out)) (fun hHeld => ?_)
  clear hK K
  try simp only [Act.put, List.setIfInBounds_toArray, List.set_cons_zero, List.set_cons_succ]
  refine' wpAnyH_take (i := 14) (oi := _) (v := _) rfl (by kernel_rfl) (by kernel_rfl) (by kernel_rfl) (fun _ _ _ h => h) (Or.inl ⟨?_, ?_⟩) (by assumption) ?_
  rotate_left
  all_goals (try simp only [List.getElem_toArray, List.getElem_cons_succ, List.getElem_cons_zero])
  · rfl
  · intro W hSw; (try dsimp only at hSw); go_simp; (try with_reducible rfl)
  try simp only [Act.put, List.setIfInBounds_toArray, List.set_cons_zero, List.set_cons_succ]
  refine' wpAnyH_take (i := 15) (oi := _) (v := _) rfl (by kernel_rfl) (by kernel_rfl) (by kernel_rfl) (fun _ _ _ h => h) (Or.inl ⟨?_, ?_⟩) (by assumption) ?_
  rotate_left
  all_goals (try simp only [List.getElem_toArray, List.getElem_cons_succ, List.getElem_cons_zero])
  · rfl
  · intro W hSw; (try dsimp only at hSw); go_simp; (try with_reducible rfl)
  try simp only [Act.put, List.setIfInBounds_toArray, List.set_cons_zero, List.set_cons_succ]
  refine' wpAnyH_take (i := 16) (oi := _) (v := _) rfl (by kernel_rfl) (by kernel_rfl) (by kernel_rfl) (fun _ _ _ h => h) (Or.inl ⟨?_, ?_⟩) (by assumption) ?_
  rotate_left
  all_goals (try simp only [List.getElem_toArray, List.getElem_cons_succ, List.getElem_cons_zero])
  · rfl
  · intro W hSw; (try dsimp only at hSw); go_simp; (try with_reducible rfl)
  try simp only [Act.put, List.setIfInBounds_toArray, List.set_cons_zero, List.set_cons_succ]
  refine' wpAnyH_take (i := 17) (oi := _) (v := _) rfl (by kernel_rfl) (by kernel_rfl) (by kernel_rfl) (fun _ _ _ h => h) (Or.inl ⟨?_, ?_⟩) (by assumption) ?_
  rotate_left
  all_goals (try simp only [List.getElem_toArray, List.getElem_cons_succ, List.getElem_cons_zero])
  · rfl
  · intro W hSw; (try dsimp only at hSw); go_simp; (try with_reducible rfl)
  try simp only [Act.put, List.setIfInBounds_toArray, List.set_cons_zero, List.set_cons_succ]
  refine' wpAnyH_take (i := 18) (oi := _) (v := _) rfl (by kernel_rfl) (by kernel_rfl) (by kernel_rfl) (fun _ _ _ h => h) (Or.inl ⟨?_, ?_⟩) (by assumption) ?_
  rotate_left
  all_goals (try simp only [List.getElem_toArray, List.getElem_cons_succ, List.getElem_cons_zero])
  · rfl
  · intro W hSw; (try dsimp only at hSw); go_simp; (try with_reducible rfl)
  try simp only [Act.put, List.setIfInBounds_toArray, List.set_cons_zero, List.set_cons_succ]
  refine wpAnyH_done (by kernel_rfl) ?_ _
  have BLa := Lib.hid (show ∀ g, (Value.slice aa an ac).ownBlock = some g → w8.heap.size ≤ g ∧ g < w9.heap.size from fun g e => World.ownsRow.lt HA.out g e)
  simp only [Exit.then]
  clear hHeld
  obtain ⟨k0, k1, k2, k3, k4, k5⟩ := ask_cells (HQ.out _ HH.out)
  go_wp2_with fail
  refine (CRE.out da dn dc sa sn sc _ (HDr.out.below HH.out) (HSr.out.below HH.out)).mono ?_
  rintro e w10 ⟨⟨pa, pn, pc, rfl, ho⟩, hb⟩
  have HP := Lib.hid ho
  have h910 : w9.heap.size ≤ w10.heap.size := hb.size
  replace HA := Lib.hid (HA.out.below hb); replace HH := Lib.hid (HH.out.trans (hb.mono HH.out.size))
  clear hb ho k0 k1 k2 k3 k4 k5
  go_wp2_with fail
  refine wp_region_held_drew (S := fun X => X.cell? ⟨P, 0, none⟩ = some (.int .i64 h) ∧ X.cell? ⟨P, 1, none⟩ = some (.slice da dn dc) ∧ X.cell? ⟨P, 2, none⟩ = some (.slice sa sn sc) ∧ X.cell? ⟨P, 3, none⟩ = some (.slice ba bn bc) ∧ X.cell? ⟨P, 4, none⟩ = some (.int .i64 S) ∧ X.cell? ⟨P, 5, none⟩ = some (.int .i64 n)) (by kernel_rfl) (ask_cells (HQ.out _ HH.out.drew)) (fun hHeld => ?_)
  replace HA := Lib.hid (HA.out.below (Below.refl _ _).drew)
  replace HP := Lib.hid (HP.out.below (Below.refl _ _).drew)
  replace HH := Lib.hid HH.out.drew
  have hd_w11 : w10.heap.size ≤ w10.drew.heap.size := (Below.refl w10.heap.size w10).drew.size
  generalize w10.drew = w11 at *
  have h1011 : w9.heap.size ≤ w11.heap.size := Nat.le_trans h910 hd_w11
  refine' wpAnyH_take (i := 0) (oi := _) (v := _) rfl (by kernel_rfl) (by kernel_rfl) (by kernel_rfl) (fun _ _ _ h => h) (Or.inl ⟨?_, ?_⟩) (by assumption) ?_
  rotate_left
  all_goals (try simp only [List.getElem_toArray, List.getElem_cons_succ, List.getElem_cons_zero])
  · rfl
  · intro W hSw; (try dsimp only at hSw); go_simp; (try with_reducible rfl)
  try simp only [Act.put, List.setIfInBounds_toArray, List.set_cons_zero, List.set_cons_succ]
  refine' wpAnyH_take (i := 1) (oi := _) (v := _) rfl (by kernel_rfl) (by kernel_rfl) (by kernel_rfl) (fun _ _ _ h => h) (Or.inl ⟨?_, ?_⟩) (by assumption) ?_
  rotate_left
  all_goals (try simp only [List.getElem_toArray, List.getElem_cons_succ, List.getElem_cons_zero])
  · rfl
  · intro W hSw; (try dsimp only at hSw); go_simp; (try with_reducible rfl)
  try simp only [Act.put, List.setIfInBounds_toArray, List.set_cons_zero, List.set_cons_succ]
  refine' wpAnyH_take (i := 2) (oi := _) (v := _) rfl (by kernel_rfl) (by kernel_rfl) (by kernel_rfl) (fun _ _ _ h => h) (Or.inl ⟨?_, ?_⟩) (by assumption) ?_
  rotate_left
  all_goals (try simp only [List.getElem_toArray, List.getElem_cons_succ, List.getElem_cons_zero])
  · rfl
  · intro W hSw; (try dsimp only at hSw); go_simp; (try with_reducible rfl)
  try simp only [Act.put, List.setIfInBounds_toArray, List.set_cons_zero, List.set_cons_succ]
  refine' wpAnyH_take (i := 3) (oi := _) (v := _) rfl (by kernel_rfl) (by kernel_rfl) (by kernel_rfl) (fun _ _ _ h => h) (Or.inl ⟨?_, ?_⟩) (by assumption) ?_
  rotate_left
  all_goals (try simp only [List.getElem_toArray, List.getElem_cons_succ, List.getElem_cons_zero])
  · rfl
  · intro W hSw; (try dsimp only at hSw); go_simp; (try with_reducible rfl)
  try simp only [Act.put, List.setIfInBounds_toArray, List.set_cons_zero, List.set_cons_succ]
  refine' wpAnyH_take (i := 4) (oi := _) (v := _) rfl (by kernel_rfl) (by kernel_rfl) (by kernel_rfl) (fun _ _ _ h => h) (Or.inl ⟨?_, ?_⟩) (by assumption) ?_
  rotate_left
  all_goals (try simp only [List.getElem_toArray, List.getElem_cons_succ, List.getElem_cons_zero])
  · rfl
  · intro W hSw; (try dsimp only at hSw); go_simp; (try with_reducible rfl)
  try simp only [Act.put, List.setIfInBounds_toArray, List.set_cons_zero, List.set_cons_succ]
  refine' wpAnyH_take (i := 5) (oi := _) (v := .slice oa bn oc) rfl (by kernel_rfl) (by kernel_rfl) (by kernel_rfl) (fun _ _ _ h => h) (Or.inl ⟨?_, ?_⟩) (by assumption) ?_
  all_goals (try simp only [List.getElem_toArray, List.getElem_cons_succ, List.getElem_cons_zero])
  · rfl
  · intro W hSw; (try dsimp only at hSw); go_simp; (first | done | exact sl3 W)
  try simp only [Act.put, List.setIfInBounds_toArray, List.set_cons_zero, List.set_cons_succ]
  refine' wpAnyH_take (i := 6) (oi := _) (v := _) rfl (by kernel_rfl) (by kernel_rfl) (by kernel_rfl) (fun _ _ _ h => h) (Or.inl ⟨?_, ?_⟩) (by assumption) ?_
  rotate_left
  all_goals (try simp only [List.getElem_toArray, List.getElem_cons_succ, List.getElem_cons_zero])
  · rfl
  · intro W hSw; (try dsimp only at hSw); go_simp; (try with_reducible rfl)
  try simp only [Act.put, List.setIfInBounds_toArray, List.set_cons_zero, List.set_cons_succ]
  refine' wpAnyH_take (i := 7) (oi := _) (v := _) rfl (by kernel_rfl) (by kernel_rfl) (by kernel_rfl) (fun _ _ _ h => h) (Or.inl ⟨?_, ?_⟩) (by assumption) ?_
  rotate_left
  all_goals (try simp only [List.getElem_toArray, List.getElem_cons_succ, List.getElem_cons_zero])
  · rfl
  · intro W hSw; (try dsimp only at hSw); go_simp; (try with_reducible rfl)
  try simp only [Act.put, List.setIfInBounds_toArray, List.set_cons_zero, List.set_cons_succ]
  refine' wpAnyH_take (i := 8) (oi := _) (v := _) rfl (by kernel_rfl) (by kernel_rfl) (by kernel_rfl) (fun _ _ _ h => h) (Or.inl ⟨?_, ?_⟩) (by assumption) ?_
  rotate_left
  all_goals (try simp only [List.getElem_toArray, List.getElem_cons_succ, List.getElem_cons_zero])
  · rfl
  · intro W hSw; (try dsimp only at hSw); go_simp; (try with_reducible rfl)
  try simp only [Act.put, List.setIfInBounds_toArray, List.set_cons_zero, List.set_cons_succ]
  refine' wpAnyH_take (i := 9) (oi := _) (v := _) rfl (by kernel_rfl) (by kernel_rfl) (by kernel_rfl) (fun _ _ _ h => h) (Or.inl ⟨?_, ?_⟩) (by assumption) ?_
  rotate_left
  all_goals (try simp only [List.getElem_toArray, List.getElem_cons_succ, List.getElem_cons_zero])
  · rfl
  · intro W hSw; (try dsimp only at hSw); go_simp; (try with_reducible rfl)
  try simp only [Act.put, List.setIfInBounds_toArray, List.set_cons_zero, List.set_cons_succ]
  refine wpAnyH_ready (rs := [10]) (by kernel_rfl) (by simp) ?_
  refine AllReadyH.cons (o := _) rfl (fun K hK => ?_) AllReadyH.nil
  try simp only [List.getElem_toArray, List.getElem_cons_succ, List.getElem_cons_zero]
  go_simp
  refine (CS.out oa bn oc _ (HK.out.below HH.out) (HOd.out.below HH.out)).mono ?_; rintro e w12 ⟨⟨ca, cn, cc, rfl, ho⟩, hb⟩; have HCc := Lib.hid ho; have h1112 : w11.heap.size ≤ w12.heap.size := hb.size; replace HA := Lib.hid (HA.out.below hb); replace HP := Lib.hid (HP.out.below hb); replace HH := Lib.hid (HH.out.trans (hb.mono HH.out.size)); clear hb ho
  go_wp2_with fail
  refine hK.out _ _ (ask_cells (HQ.out _ HH.out)) (fun hHeld => ?_)
  clear hK K
  try simp only [Act.put, List.setIfInBounds_toArray, List.set_cons_zero, List.set_cons_succ]
  refine' wpAnyH_take (i := 11) (oi := _) (v := _) rfl (by kernel_rfl) (by kernel_rfl) (by kernel_rfl) (fun _ _ _ h => h) (Or.inl ⟨?_, ?_⟩) (by assumption) ?_
  rotate_left
  all_goals (try simp only [List.getElem_toArray, List.getElem_cons_succ, List.getElem_cons_zero])
  · rfl
  · intro W hSw; (try dsimp only at hSw); go_simp; (try with_reducible rfl)
  try simp only [Act.put, List.setIfInBounds_toArray, List.set_cons_zero, List.set_cons_succ]
  refine' wpAnyH_take (i := 12) (oi := _) (v := _) rfl (by kernel_rfl) (by kernel_rfl) (by kernel_rfl) (fun _ _ _ h => h) (Or.inl ⟨?_, ?_⟩) (by assumption) ?_
  rotate_left
  all_goals (try simp only [List.getElem_toArray, List.getElem_cons_succ, List.getElem_cons_zero])
  · rfl
  · intro W hSw; (try dsimp only at hSw); go_simp; (try with_reducible rfl)
  try simp only [Act.put, List.setIfInBounds_toArray, List.set_cons_zero, List.set_cons_succ]
  refine' wpAnyH_take (i := 13) (oi := _) (v := _) rfl (by kernel_rfl) (by kernel_rfl) (by kernel_rfl) (fun _ _ _ h => h) (Or.inl ⟨?_, ?_⟩) (by assumption) ?_
  rotate_left
  all_goals (try simp only [List.getElem_toArray, List.getElem_cons_succ, List.getElem_cons_zero])
  · rfl
  · intro W hSw; (try dsimp only at hSw); go_simp; (try with_reducible rfl)
  try simp only [Act.put, List.setIfInBounds_toArray, List.set_cons_zero, List.set_cons_succ]
  refine' wpAnyH_take (i := 14) (oi := _) (v := _) rfl (by kernel_rfl) (by kernel_rfl) (by kernel_rfl) (fun _ _ _ h => h) (Or.inl ⟨?_, ?_⟩) (by assumption) ?_
  rotate_left
  all_goals (try simp only [List.getElem_toArray, List.getElem_cons_succ, List.getElem_cons_zero])
  · rfl
  · intro W hSw; (try dsimp only at hSw); go_simp; (try with_reducible rfl)
  try simp only [Act.put, List.setIfInBounds_toArray, List.set_cons_zero, List.set_cons_succ]
  refine' wpAnyH_take (i := 15) (oi := _) (v := _) rfl (by kernel_rfl) (by kernel_rfl) (by kernel_rfl) (fun _ _ _ h => h) (Or.inl ⟨?_, ?_⟩) (by assumption) ?_
  rotate_left
  all_goals (try simp only [List.getElem_toArray, List.getElem_cons_succ, List.getElem_cons_zero])
  · rfl
  · intro W hSw; (try dsimp only at hSw); go_simp; (try with_reducible rfl)
  try simp only [Act.put, List.setIfInBounds_toArray, List.set_cons_zero, List.set_cons_succ]
  refine wpAnyH_done (by kernel_rfl) ?_ _
  have BLc := Lib.hid (show ∀ g, (Value.slice ca cn cc).ownBlock = some g → w11.heap.size ≤ g ∧ g < w12.heap.size from fun g e => World.ownsRow.lt HCc.out g e)
  simp only [Exit.then]
  clear hHeld
  obtain ⟨k0, k1, k2, k3, k4, k5⟩ := ask_cells (HQ.out _ HH.out)
  go_wp2_with fail
  refine (CRS.out ba bn bc _ (HBr.out.below HH.out)).mono ?_
  rintro e w13 ⟨⟨ra, rn, rc, rfl, ho⟩, hb⟩
  have HR := Lib.hid ho
  replace HA := Lib.hid (HA.out.below hb); replace HP := Lib.hid (HP.out.below hb); replace HCc := Lib.hid (HCc.out.below hb); replace HH := Lib.hid (HH.out.trans (hb.mono HH.out.size))
  clear hb ho k0 k1 k2 k3 k4 k5
  go_wp2_with fail
  refine wp_region_held_drew (S := fun X => X.cell? ⟨P, 0, none⟩ = some (.int .i64 h) ∧ X.cell? ⟨P, 1, none⟩ = some (.slice da dn dc) ∧ X.cell? ⟨P, 2, none⟩ = some (.slice sa sn sc) ∧ X.cell? ⟨P, 3, none⟩ = some (.slice ba bn bc) ∧ X.cell? ⟨P, 4, none⟩ = some (.int .i64 S) ∧ X.cell? ⟨P, 5, none⟩ = some (.int .i64 n)) (by kernel_rfl) (ask_cells (HQ.out _ HH.out.drew)) (fun hHeld => ?_)
  replace HA := Lib.hid (HA.out.below (Below.refl _ _).drew)
  replace HP := Lib.hid (HP.out.below (Below.refl _ _).drew)
  replace HCc := Lib.hid (HCc.out.below (Below.refl _ _).drew)
  replace HR := Lib.hid (HR.out.below (Below.refl _ _).drew)
  replace HH := Lib.hid HH.out.drew
  have hd_w14 : w13.heap.size ≤ w13.drew.heap.size := (Below.refl w13.heap.size w13).drew.size
  generalize w13.drew = w14 at *
  refine' wpAnyH_take (i := 0) (oi := _) (v := _) rfl (by kernel_rfl) (by kernel_rfl) (by kernel_rfl) (fun _ _ _ h => h) (Or.inl ⟨?_, ?_⟩) (by assumption) ?_
  rotate_left
  all_goals (try simp only [List.getElem_toArray, List.getElem_cons_succ, List.getElem_cons_zero])
  · rfl
  · intro W hSw; (try dsimp only at hSw); go_simp; (try with_reducible rfl)
  try simp only [Act.put, List.setIfInBounds_toArray, List.set_cons_zero, List.set_cons_succ]
  refine' wpAnyH_take (i := 1) (oi := _) (v := _) rfl (by kernel_rfl) (by kernel_rfl) (by kernel_rfl) (fun _ _ _ h => h) (Or.inl ⟨?_, ?_⟩) (by assumption) ?_
  rotate_left
  all_goals (try simp only [List.getElem_toArray, List.getElem_cons_succ, List.getElem_cons_zero])
  · rfl
  · intro W hSw; (try dsimp only at hSw); go_simp; (try with_reducible rfl)
  try simp only [Act.put, List.setIfInBounds_toArray, List.set_cons_zero, List.set_cons_succ]
  refine' wpAnyH_take (i := 2) (oi := _) (v := _) rfl (by kernel_rfl) (by kernel_rfl) (by kernel_rfl) (fun _ _ _ h => h) (Or.inl ⟨?_, ?_⟩) (by assumption) ?_
  rotate_left
  all_goals (try simp only [List.getElem_toArray, List.getElem_cons_succ, List.getElem_cons_zero])
  · rfl
  · intro W hSw; (try dsimp only at hSw); go_simp; (try with_reducible rfl)
  try simp only [Act.put, List.setIfInBounds_toArray, List.set_cons_zero, List.set_cons_succ]
  refine' wpAnyH_take (i := 3) (oi := _) (v := _) rfl (by kernel_rfl) (by kernel_rfl) (by kernel_rfl) (fun _ _ _ h => h) (Or.inl ⟨?_, ?_⟩) (by assumption) ?_
  rotate_left
  all_goals (try simp only [List.getElem_toArray, List.getElem_cons_succ, List.getElem_cons_zero])
  · rfl
  · intro W hSw; (try dsimp only at hSw); go_simp; (try with_reducible rfl)
  try simp only [Act.put, List.setIfInBounds_toArray, List.set_cons_zero, List.set_cons_succ]
  refine' wpAnyH_take (i := 4) (oi := _) (v := _) rfl (by kernel_rfl) (by kernel_rfl) (by kernel_rfl) (fun _ _ _ h => h) (Or.inl ⟨?_, ?_⟩) (by assumption) ?_
  rotate_left
  all_goals (try simp only [List.getElem_toArray, List.getElem_cons_succ, List.getElem_cons_zero])
  · rfl
  · intro W hSw; (try dsimp only at hSw); go_simp; (try with_reducible rfl)
  try simp only [Act.put, List.setIfInBounds_toArray, List.set_cons_zero, List.set_cons_succ]
  refine' wpAnyH_take (i := 5) (oi := _) (v := .slice ga dn gc) rfl (by kernel_rfl) (by kernel_rfl) (by kernel_rfl) (fun _ _ _ h => h) (Or.inl ⟨?_, ?_⟩) (by assumption) ?_
  all_goals (try simp only [List.getElem_toArray, List.getElem_cons_succ, List.getElem_cons_zero])
  · rfl
  · intro W hSw; (try dsimp only at hSw); go_simp; (first | done | exact sl1 W)
  try simp only [Act.put, List.setIfInBounds_toArray, List.set_cons_zero, List.set_cons_succ]
  refine' wpAnyH_take (i := 6) (oi := _) (v := _) rfl (by kernel_rfl) (by kernel_rfl) (by kernel_rfl) (fun _ _ _ h => h) (Or.inl ⟨?_, ?_⟩) (by assumption) ?_
  rotate_left
  all_goals (try simp only [List.getElem_toArray, List.getElem_cons_succ, List.getElem_cons_zero])
  · rfl
  · intro W hSw; (try dsimp only at hSw); go_simp; (try with_reducible rfl)
  try simp only [Act.put, List.setIfInBounds_toArray, List.set_cons_zero, List.set_cons_succ]
  refine' wpAnyH_take (i := 7) (oi := _) (v := _) rfl (by kernel_rfl) (by kernel_rfl) (by kernel_rfl) (fun _ _ _ h => h) (Or.inl ⟨?_, ?_⟩) (by assumption) ?_
  rotate_left
  all_goals (try simp only [List.getElem_toArray, List.getElem_cons_succ, List.getElem_cons_zero])
  · rfl
  · intro W hSw; (try dsimp only at hSw); go_simp; (try with_reducible rfl)
  try simp only [Act.put, List.setIfInBounds_toArray, List.set_cons_zero, List.set_cons_succ]
  refine' wpAnyH_take (i := 8) (oi := _) (v := _) rfl (by kernel_rfl) (by kernel_rfl) (by kernel_rfl) (fun _ _ _ h => h) (Or.inl ⟨?_, ?_⟩) (by assumption) ?_
  rotate_left
  all_goals (try simp only [List.getElem_toArray, List.getElem_cons_succ, List.getElem_cons_zero])
  · rfl
  · intro W hSw; (try dsimp only at hSw); go_simp; (try with_reducible rfl)
  try simp only [Act.put, List.setIfInBounds_toArray, List.set_cons_zero, List.set_cons_succ]
  refine' wpAnyH_take (i := 9) (oi := _) (v := _) rfl (by kernel_rfl) (by kernel_rfl) (by kernel_rfl) (fun _ _ _ h => h) (Or.inl ⟨?_, ?_⟩) (by assumption) ?_
  rotate_left
  all_goals (try simp only [List.getElem_toArray, List.getElem_cons_succ, List.getElem_cons_zero])
  · rfl
  · intro W hSw; (try dsimp only at hSw); go_simp; (try with_reducible rfl)
  try simp only [Act.put, List.setIfInBounds_toArray, List.set_cons_zero, List.set_cons_succ]
  refine' wpAnyH_take (i := 10) (oi := _) (v := .slice oa bn oc) rfl (by kernel_rfl) (by kernel_rfl) (by kernel_rfl) (fun _ _ _ h => h) (Or.inl ⟨?_, ?_⟩) (by assumption) ?_
  all_goals (try simp only [List.getElem_toArray, List.getElem_cons_succ, List.getElem_cons_zero])
  · rfl
  · intro W hSw; (try dsimp only at hSw); go_simp; (first | done | exact sl3 W)
  try simp only [Act.put, List.setIfInBounds_toArray, List.set_cons_zero, List.set_cons_succ]
  refine' wpAnyH_take (i := 11) (oi := _) (v := _) rfl (by kernel_rfl) (by kernel_rfl) (by kernel_rfl) (fun _ _ _ h => h) (Or.inl ⟨?_, ?_⟩) (by assumption) ?_
  rotate_left
  all_goals (try simp only [List.getElem_toArray, List.getElem_cons_succ, List.getElem_cons_zero])
  · rfl
  · intro W hSw; (try dsimp only at hSw); go_simp; (try with_reducible rfl)
  try simp only [Act.put, List.setIfInBounds_toArray, List.set_cons_zero, List.set_cons_succ]
  refine' wpAnyH_take (i := 12) (oi := _) (v := _) rfl (by kernel_rfl) (by kernel_rfl) (by kernel_rfl) (fun _ _ _ h => h) (Or.inl ⟨?_, ?_⟩) (by assumption) ?_
  rotate_left
  all_goals (try simp only [List.getElem_toArray, List.getElem_cons_succ, List.getElem_cons_zero])
  · rfl
  · intro W hSw; (try dsimp only at hSw); go_simp; (try with_reducible rfl)
  try simp only [Act.put, List.setIfInBounds_toArray, List.set_cons_zero, List.set_cons_succ]
  refine' wpAnyH_take (i := 13) (oi := _) (v := _) rfl (by kernel_rfl) (by kernel_rfl) (by kernel_rfl) (fun _ _ _ h => h) (Or.inl ⟨?_, ?_⟩) (by assumption) ?_
  rotate_left
  all_goals (try simp only [List.getElem_toArray, List.getElem_cons_succ, List.getElem_cons_zero])
  · rfl
  · intro W hSw; (try dsimp only at hSw); go_simp; (try with_reducible rfl)
  try simp only [Act.put, List.setIfInBounds_toArray, List.set_cons_zero, List.set_cons_succ]
  refine' wpAnyH_take (i := 14) (oi := _) (v := _) rfl (by kernel_rfl) (by kernel_rfl) (by kernel_rfl) (fun _ _ _ h => h) (Or.inl ⟨?_, ?_⟩) (by assumption) ?_
  rotate_left
  all_goals (try simp only [List.getElem_toArray, List.getElem_cons_succ, List.getElem_cons_zero])
  · rfl
  · intro W hSw; (try dsimp only at hSw); go_simp; (try with_reducible rfl)
  try simp only [Act.put, List.setIfInBounds_toArray, List.set_cons_zero, List.set_cons_succ]
  refine wpAnyH_ready (rs := [15]) (by kernel_rfl) (by simp) ?_
  refine AllReadyH.cons (o := _) rfl (fun K hK => ?_) AllReadyH.nil
  try simp only [List.getElem_toArray, List.getElem_cons_succ, List.getElem_cons_zero]
  go_simp
  refine (CV.out ga dn gc oa bn oc _ (HK.out.below HH.out) (HGd.out.below HH.out) (HOd.out.below HH.out)).mono ?_; rintro e w15 ⟨rfl, hb⟩; replace HA := Lib.hid (HA.out.below hb); replace HP := Lib.hid (HP.out.below hb); replace HCc := Lib.hid (HCc.out.below hb); replace HR := Lib.hid (HR.out.below hb); replace HH := Lib.hid (HH.out.trans (hb.mono HH.out.size)); clear hb
  go_wp2_with fail
  refine hK.out _ _ (ask_cells (HQ.out _ HH.out)) (fun hHeld => ?_)
  clear hK K
  try simp only [Act.put, List.setIfInBounds_toArray, List.set_cons_zero, List.set_cons_succ]
  refine' wpAnyH_take (i := 16) (oi := _) (v := _) rfl (by kernel_rfl) (by kernel_rfl) (by kernel_rfl) (fun _ _ _ h => h) (Or.inl ⟨?_, ?_⟩) (by assumption) ?_
  rotate_left
  all_goals (try simp only [List.getElem_toArray, List.getElem_cons_succ, List.getElem_cons_zero])
  · rfl
  · intro W hSw; (try dsimp only at hSw); go_simp; (try with_reducible rfl)
  try simp only [Act.put, List.setIfInBounds_toArray, List.set_cons_zero, List.set_cons_succ]
  refine wpAnyH_done (by kernel_rfl) ?_ _
  simp only [Exit.then]
  clear hHeld sl1 sl2 sl3
  go_wp2_with fail
  refine wp_region_held_drew (S := fun X => X.cell? ⟨P, 0, none⟩ = some (.int .i64 h) ∧ X.cell? ⟨P, 1, none⟩ = some (.slice da dn dc) ∧ X.cell? ⟨P, 2, none⟩ = some (.slice sa sn sc) ∧ X.cell? ⟨P, 3, none⟩ = some (.slice ba bn bc) ∧ X.cell? ⟨P, 4, none⟩ = some (.int .i64 S) ∧ X.cell? ⟨P, 5, none⟩ = some (.int .i64 n) ∧ (convert 22 9 (.slice aa an ac)).run Tryd.prog X = .ok (.string (strOf (u8s F))) X ∧ (convert 22 9 (.slice pa pn pc)).run Tryd.prog X = .ok (.string (strOf (u8s F))) X ∧ (convert 22 9 (.slice ca cn cc)).run Tryd.prog X = .ok (.string (strOf (u8s G))) X ∧ (convert 22 9 (.slice ra rn rc)).run Tryd.prog X = .ok (.string (strOf (u8s G))) X) (by kernel_rfl) ⟨(ask_cells (HQ.out _ HH.out.drew)).1, (ask_cells (HQ.out _ HH.out.drew)).2.1, (ask_cells (HQ.out _ HH.out.drew)).2.2.1, (ask_cells (HQ.out _ HH.out.drew)).2.2.2.1, (ask_cells (HQ.out _ HH.out.drew)).2.2.2.2.1, (ask_cells (HQ.out _ HH.out.drew)).2.2.2.2.2, convB ((HA.out.below (Below.refl _ _).drew).reads.bts BF.out), convB ((HP.out.below (Below.refl _ _).drew).reads.bts BF.out), convB ((HCc.out.below (Below.refl _ _).drew).reads.bts BG.out), convB ((HR.out.below (Below.refl _ _).drew).reads.bts BG.out)⟩ (fun hHeld => ?_)
  replace HA := Lib.hid (HA.out.below (Below.refl _ _).drew)
  replace HP := Lib.hid (HP.out.below (Below.refl _ _).drew)
  replace HCc := Lib.hid (HCc.out.below (Below.refl _ _).drew)
  replace HR := Lib.hid (HR.out.below (Below.refl _ _).drew)
  replace HH := Lib.hid HH.out.drew
  generalize w15.drew = w16 at *
  refine' wpAnyH_take (i := 0) (oi := _) (v := _) rfl (by kernel_rfl) (by kernel_rfl) (by kernel_rfl) (fun _ _ _ h => h) (Or.inl ⟨?_, ?_⟩) (by assumption) ?_
  rotate_left
  all_goals (try simp only [List.getElem_toArray, List.getElem_cons_succ, List.getElem_cons_zero])
  · rfl
  · intro W hSw; (try dsimp only at hSw); go_simp; (try with_reducible rfl)
  try simp only [Act.put, List.setIfInBounds_toArray, List.set_cons_zero, List.set_cons_succ]
  refine' wpAnyH_take (i := 1) (oi := _) (v := _) rfl (by kernel_rfl) (by kernel_rfl) (by kernel_rfl) (fun _ _ _ h => h) (Or.inl ⟨?_, ?_⟩) (by assumption) ?_
  rotate_left
  all_goals (try simp only [List.getElem_toArray, List.getElem_cons_succ, List.getElem_cons_zero])
  · rfl
  · intro W hSw; (try dsimp only at hSw); go_simp; (try with_reducible rfl)
  try simp only [Act.put, List.setIfInBounds_toArray, List.set_cons_zero, List.set_cons_succ]
  refine' wpAnyH_take (i := 2) (oi := _) (v := _) rfl (by kernel_rfl) (by kernel_rfl) (by kernel_rfl) (fun _ _ _ h => h) (Or.inl ⟨?_, ?_⟩) (by assumption) ?_
  rotate_left
  all_goals (try simp only [List.getElem_toArray, List.getElem_cons_succ, List.getElem_cons_zero])
  · rfl
  · intro W hSw; (try dsimp only at hSw); go_simp; (try with_reducible rfl)
  try simp only [Act.put, List.setIfInBounds_toArray, List.set_cons_zero, List.set_cons_succ]
  refine' wpAnyH_take (i := 3) (oi := _) (v := _) rfl (by kernel_rfl) (by kernel_rfl) (by kernel_rfl) (fun _ _ _ h => h) (Or.inl ⟨?_, ?_⟩) (by assumption) ?_
  rotate_left
  all_goals (try simp only [List.getElem_toArray, List.getElem_cons_succ, List.getElem_cons_zero])
  · rfl
  · intro W hSw; (try dsimp only at hSw); go_simp; (try with_reducible rfl)
  try simp only [Act.put, List.setIfInBounds_toArray, List.set_cons_zero, List.set_cons_succ]
  refine' wpAnyH_take (i := 4) (oi := _) (v := _) rfl (by kernel_rfl) (by kernel_rfl) (by kernel_rfl) (fun _ _ _ h => h) (Or.inl ⟨?_, ?_⟩) (by assumption) ?_
  rotate_left
  all_goals (try simp only [List.getElem_toArray, List.getElem_cons_succ, List.getElem_cons_zero])
  · rfl
  · intro W hSw; (try dsimp only at hSw); go_simp; (try with_reducible rfl)
  try simp only [Act.put, List.setIfInBounds_toArray, List.set_cons_zero, List.set_cons_succ]
  refine' wpAnyH_take (i := 5) (oi := _) (v := _) rfl (by kernel_rfl) (by kernel_rfl) (by kernel_rfl) (fun _ _ _ h => h) (Or.inl ⟨?_, ?_⟩) (by assumption) ?_
  rotate_left
  all_goals (try simp only [List.getElem_toArray, List.getElem_cons_succ, List.getElem_cons_zero])
  · rfl
  · intro W hSw; (try dsimp only at hSw); go_simp; (try with_reducible rfl)
  try simp only [Act.put, List.setIfInBounds_toArray, List.set_cons_zero, List.set_cons_succ]
  refine' wpAnyH_take (i := 6) (oi := _) (v := _) rfl (by kernel_rfl) (by kernel_rfl) (by kernel_rfl) (fun _ _ _ h => h) (Or.inl ⟨?_, ?_⟩) (by assumption) ?_
  rotate_left
  all_goals (try simp only [List.getElem_toArray, List.getElem_cons_succ, List.getElem_cons_zero])
  · rfl
  · intro W hSw; (try dsimp only at hSw); go_simp; (try with_reducible rfl)
  try simp only [Act.put, List.setIfInBounds_toArray, List.set_cons_zero, List.set_cons_succ]
  refine' wpAnyH_take (i := 7) (oi := _) (v := _) rfl (by kernel_rfl) (by kernel_rfl) (by kernel_rfl) (fun _ _ _ h => h) (Or.inl ⟨?_, ?_⟩) (by assumption) ?_
  rotate_left
  all_goals (try simp only [List.getElem_toArray, List.getElem_cons_succ, List.getElem_cons_zero])
  · rfl
  · intro W hSw; (try dsimp only at hSw); go_simp; (try with_reducible rfl)
  try simp only [Act.put, List.setIfInBounds_toArray, List.set_cons_zero, List.set_cons_succ]
  refine' wpAnyH_take (i := 8) (oi := _) (v := _) rfl (by kernel_rfl) (by kernel_rfl) (by kernel_rfl) (fun _ _ _ h => h) (Or.inl ⟨?_, ?_⟩) (by assumption) ?_
  rotate_left
  all_goals (try simp only [List.getElem_toArray, List.getElem_cons_succ, List.getElem_cons_zero])
  · rfl
  · intro W hSw; (try dsimp only at hSw); go_simp; (try with_reducible rfl)
  try simp only [Act.put, List.setIfInBounds_toArray, List.set_cons_zero, List.set_cons_succ]
  refine' wpAnyH_take (i := 9) (oi := _) (v := _) rfl (by kernel_rfl) (by kernel_rfl) (by kernel_rfl) (fun _ _ _ h => h) (Or.inl ⟨?_, ?_⟩) (by assumption) ?_
  rotate_left
  all_goals (try simp only [List.getElem_toArray, List.getElem_cons_succ, List.getElem_cons_zero])
  · rfl
  · intro W hSw; (try dsimp only at hSw); go_simp; (try with_reducible rfl)
  try simp only [Act.put, List.setIfInBounds_toArray, List.set_cons_zero, List.set_cons_succ]
  refine' wpAnyH_take (i := 10) (oi := _) (v := _) rfl (by kernel_rfl) (by kernel_rfl) (by kernel_rfl) (fun _ _ _ h => h) (Or.inl ⟨?_, ?_⟩) (by assumption) ?_
  rotate_left
  all_goals (try simp only [List.getElem_toArray, List.getElem_cons_succ, List.getElem_cons_zero])
  · rfl
  · intro W hSw; (try dsimp only at hSw); go_simp; (try with_reducible rfl)
  try simp only [Act.put, List.setIfInBounds_toArray, List.set_cons_zero, List.set_cons_succ]
  refine' wpAnyH_take (i := 11) (oi := _) (v := _) rfl (by kernel_rfl) (by kernel_rfl) (by kernel_rfl) (fun _ _ _ h => h) (Or.inl ⟨?_, ?_⟩) (by assumption) ?_
  rotate_left
  all_goals (try simp only [List.getElem_toArray, List.getElem_cons_succ, List.getElem_cons_zero])
  · rfl
  · intro W hSw; (try dsimp only at hSw); go_simp; (try with_reducible rfl)
  try simp only [Act.put, List.setIfInBounds_toArray, List.set_cons_zero, List.set_cons_succ]
  refine' wpAnyH_take (i := 12) (oi := _) (v := _) rfl (by kernel_rfl) (by kernel_rfl) (by kernel_rfl) (fun _ _ _ h => h) (Or.inl ⟨?_, ?_⟩) (by assumption) ?_
  rotate_left
  all_goals (try simp only [List.getElem_toArray, List.getElem_cons_succ, List.getElem_cons_zero])
  · rfl
  · intro W hSw; (try dsimp only at hSw); go_simp; (try with_reducible rfl)
  try simp only [Act.put, List.setIfInBounds_toArray, List.set_cons_zero, List.set_cons_succ]
  refine' wpAnyH_take (i := 13) (oi := _) (v := _) rfl (by kernel_rfl) (by kernel_rfl) (by kernel_rfl) (fun _ _ _ h => h) (Or.inl ⟨?_, ?_⟩) (by assumption) ?_
  rotate_left
  all_goals (try simp only [List.getElem_toArray, List.getElem_cons_succ, List.getElem_cons_zero])
  · rfl
  · intro W hSw; (try dsimp only at hSw); go_simp; (try with_reducible rfl)
  try simp only [Act.put, List.setIfInBounds_toArray, List.set_cons_zero, List.set_cons_succ]
  refine' wpAnyH_take (i := 14) (oi := _) (v := _) rfl (by kernel_rfl) (by kernel_rfl) (by kernel_rfl) (fun _ _ _ h => h) (Or.inl ⟨?_, ?_⟩) (by assumption) ?_
  rotate_left
  all_goals (try simp only [List.getElem_toArray, List.getElem_cons_succ, List.getElem_cons_zero])
  · rfl
  · intro W hSw; (try dsimp only at hSw); go_simp; (try with_reducible rfl)
  try simp only [Act.put, List.setIfInBounds_toArray, List.set_cons_zero, List.set_cons_succ]
  refine' wpAnyH_take (i := 15) (oi := _) (v := _) rfl (by kernel_rfl) (by kernel_rfl) (by kernel_rfl) (fun _ _ _ h => h) (Or.inl ⟨?_, ?_⟩) (by assumption) ?_
  rotate_left
  all_goals (try simp only [List.getElem_toArray, List.getElem_cons_succ, List.getElem_cons_zero])
  · rfl
  · intro W hSw; (try dsimp only at hSw); go_simp; (try with_reducible rfl)
  try simp only [Act.put, List.setIfInBounds_toArray, List.set_cons_zero, List.set_cons_succ]
  refine' wpAnyH_take (i := 16) (oi := _) (v := _) rfl (by kernel_rfl) (by kernel_rfl) (by kernel_rfl) (fun _ _ _ h => h) (Or.inl ⟨?_, ?_⟩) (by assumption) ?_
  rotate_left
  all_goals (try simp only [List.getElem_toArray, List.getElem_cons_succ, List.getElem_cons_zero])
  · rfl
  · intro W hSw; (try dsimp only at hSw); go_simp; (try with_reducible rfl)
  try simp only [Act.put, List.setIfInBounds_toArray, List.set_cons_zero, List.set_cons_succ]
  refine' wpAnyH_take (i := 17) (oi := _) (v := _) rfl (by kernel_rfl) (by kernel_rfl) (by kernel_rfl) (fun _ _ _ h => h) (Or.inl ⟨?_, ?_⟩) (by assumption) ?_
  rotate_left
  all_goals (try simp only [List.getElem_toArray, List.getElem_cons_succ, List.getElem_cons_zero])
  · rfl
  · intro W hSw; (try dsimp only at hSw); go_simp; (try with_reducible rfl)
  try simp only [Act.put, List.setIfInBounds_toArray, List.set_cons_zero, List.set_cons_succ]
  refine' wpAnyH_take (i := 18) (oi := _) (v := _) rfl (by kernel_rfl) (by kernel_rfl) (by kernel_rfl) (fun _ _ _ h => h) (Or.inl ⟨?_, ?_⟩) (by assumption) ?_
  rotate_left
  all_goals (try simp only [List.getElem_toArray, List.getElem_cons_succ, List.getElem_cons_zero])
  · rfl
  · intro W hSw; (try dsimp only at hSw); go_simp; (try with_reducible rfl)
  try simp only [Act.put, List.setIfInBounds_toArray, List.set_cons_zero, List.set_cons_succ]
  refine' wpAnyH_take (i := 19) (oi := _) (v := _) rfl (by kernel_rfl) (by kernel_rfl) (by kernel_rfl) (fun _ _ _ h => h) (Or.inl ⟨?_, ?_⟩) (by assumption) ?_
  rotate_left
  all_goals (try simp only [List.getElem_toArray, List.getElem_cons_succ, List.getElem_cons_zero])
  · rfl
  · intro W hSw; (try dsimp only at hSw); go_simp; (try with_reducible rfl)
  try simp only [Act.put, List.setIfInBounds_toArray, List.set_cons_zero, List.set_cons_succ]
  refine' wpAnyH_take (i := 20) (oi := _) (v := _) rfl (by kernel_rfl) (by kernel_rfl) (by kernel_rfl) (fun _ _ _ h => h) (Or.inl ⟨?_, ?_⟩) (by assumption) ?_
  rotate_left
  all_goals (try simp only [List.getElem_toArray, List.getElem_cons_succ, List.getElem_cons_zero])
  · rfl
  · intro W hSw; (try dsimp only at hSw); go_simp; (try with_reducible rfl)
  try simp only [Act.put, List.setIfInBounds_toArray, List.set_cons_zero, List.set_cons_succ]
  refine' wpAnyH_take (i := 21) (oi := _) (v := _) rfl (by kernel_rfl) (by kernel_rfl) (by kernel_rfl) (fun _ _ _ h => h) (Or.inl ⟨?_, ?_⟩) (by assumption) ?_
  rotate_left
  all_goals (try simp only [List.getElem_toArray, List.getElem_cons_succ, List.getElem_cons_zero])
  · rfl
  · intro W hSw; (try dsimp only at hSw); go_simp; (try with_reducible rfl)
  try simp only [Act.put, List.setIfInBounds_toArray, List.set_cons_zero, List.set_cons_succ]
  refine' wpAnyH_take (i := 22) (oi := _) (v := _) rfl (by kernel_rfl) (by kernel_rfl) (by kernel_rfl) (fun _ _ _ h => h) (Or.inl ⟨?_, ?_⟩) (by assumption) ?_
  rotate_left
  all_goals (try simp only [List.getElem_toArray, List.getElem_cons_succ, List.getElem_cons_zero])
  · rfl
  · intro W hSw; (try dsimp only at hSw); go_simp; (try with_reducible rfl)
  try simp only [Act.put, List.setIfInBounds_toArray, List.set_cons_zero, List.set_cons_succ]
  refine' wpAnyH_take (i := 23) (oi := _) (v := _) rfl (by kernel_rfl) (by kernel_rfl) (by kernel_rfl) (fun _ _ _ h => h) (Or.inl ⟨?_, ?_⟩) (by assumption) ?_
  rotate_left
  all_goals (try simp only [List.getElem_toArray, List.getElem_cons_succ, List.getElem_cons_zero])
  · rfl
  · intro W hSw; (try dsimp only at hSw); go_simp; (try with_reducible rfl)
  try simp only [Act.put, List.setIfInBounds_toArray, List.set_cons_zero, List.set_cons_succ]
  refine' wpAnyH_take (i := 24) (oi := _) (v := _) rfl (by kernel_rfl) (by kernel_rfl) (by kernel_rfl) (fun _ _ _ h => h) (Or.inl ⟨?_, ?_⟩) (by assumption) ?_
  rotate_left
  all_goals (try simp only [List.getElem_toArray, List.getElem_cons_succ, List.getElem_cons_zero])
  · rfl
  · intro W hSw; (try dsimp only at hSw); go_simp; (try with_reducible rfl)
  try simp only [Act.put, List.setIfInBounds_toArray, List.set_cons_zero, List.set_cons_succ]
  refine' wpAnyH_take (i := 25) (oi := _) (v := _) rfl (by kernel_rfl) (by kernel_rfl) (by kernel_rfl) (fun _ _ _ h => h) (Or.inl ⟨?_, ?_⟩) (by assumption) ?_
  rotate_left
  all_goals (try simp only [List.getElem_toArray, List.getElem_cons_succ, List.getElem_cons_zero])
  · rfl
  · intro W hSw; (try dsimp only at hSw); go_simp; (try with_reducible rfl)
  try simp only [Act.put, List.setIfInBounds_toArray, List.set_cons_zero, List.set_cons_succ]
  refine' wpAnyH_take (i := 26) (oi := _) (v := _) rfl (by kernel_rfl) (by kernel_rfl) (by kernel_rfl) (fun _ _ _ h => h) (Or.inl ⟨?_, ?_⟩) (by assumption) ?_
  rotate_left
  all_goals (try simp only [List.getElem_toArray, List.getElem_cons_succ, List.getElem_cons_zero])
  · rfl
  · intro W hSw; (try dsimp only at hSw); go_simp; (try with_reducible rfl)
  try simp only [Act.put, List.setIfInBounds_toArray, List.set_cons_zero, List.set_cons_succ]
  refine' wpAnyH_take (i := 27) (oi := _) (v := _) rfl (by kernel_rfl) (by kernel_rfl) (by kernel_rfl) (fun _ _ _ h => h) (Or.inl ⟨?_, ?_⟩) (by assumption) ?_
  rotate_left
  all_goals (try simp only [List.getElem_toArray, List.getElem_cons_succ, List.getElem_cons_zero])
  · rfl
  · intro W hSw; (try dsimp only at hSw); go_simp; (try with_reducible rfl)
  try simp only [Act.put, List.setIfInBounds_toArray, List.set_cons_zero, List.set_cons_succ]
  refine' wpAnyH_take (i := 28) (oi := _) (v := _) rfl (by kernel_rfl) (by kernel_rfl) (by kernel_rfl) (fun _ _ _ h => h) (Or.inl ⟨?_, ?_⟩) (by assumption) ?_
  rotate_left
  all_goals (try simp only [List.getElem_toArray, List.getElem_cons_succ, List.getElem_cons_zero])
  · rfl
  · intro W hSw; (try dsimp only at hSw); go_simp; (try with_reducible rfl)
  try simp only [Act.put, List.setIfInBounds_toArray, List.set_cons_zero, List.set_cons_succ]
  refine' wpAnyH_take (i := 29) (oi := _) (v := _) rfl (by kernel_rfl) (by kernel_rfl) (by kernel_rfl) (fun _ _ _ h => h) (Or.inl ⟨?_, ?_⟩) (by assumption) ?_
  rotate_left
  all_goals (try simp only [List.getElem_toArray, List.getElem_cons_succ, List.getElem_cons_zero])
  · rfl
  · intro W hSw; (try dsimp only at hSw); go_simp; (try with_reducible rfl)
  try simp only [Act.put, List.setIfInBounds_toArray, List.set_cons_zero, List.set_cons_succ]
  refine' wpAnyH_take (i := 30) (oi := _) (v := _) rfl (by kernel_rfl) (by kernel_rfl) (by kernel_rfl) (fun _ _ _ h => h) (Or.inl ⟨?_, ?_⟩) (by assumption) ?_
  rotate_left
  all_goals (try simp only [List.getElem_toArray, List.getElem_cons_succ, List.getElem_cons_zero])
  · rfl
  · intro W hSw; (try dsimp only at hSw); go_simp; (try with_reducible rfl)
  try simp only [Act.put, List.setIfInBounds_toArray, List.set_cons_zero, List.set_cons_succ]
  refine' wpAnyH_take (i := 31) (oi := _) (v := _) rfl (by kernel_rfl) (by kernel_rfl) (by kernel_rfl) (fun _ _ _ h => h) (Or.inl ⟨?_, ?_⟩) (by assumption) ?_
  rotate_left
  all_goals (try simp only [List.getElem_toArray, List.getElem_cons_succ, List.getElem_cons_zero])
  · rfl
  · intro W hSw; (try dsimp only at hSw); go_simp; (try with_reducible rfl)
  try simp only [Act.put, List.setIfInBounds_toArray, List.set_cons_zero, List.set_cons_succ]
  refine' wpAnyH_take (i := 32) (oi := _) (v := _) rfl (by kernel_rfl) (by kernel_rfl) (by kernel_rfl) (fun _ _ _ h => h) (Or.inl ⟨?_, ?_⟩) (by assumption) ?_
  rotate_left
  all_goals (try simp only [List.getElem_toArray, List.getElem_cons_succ, List.getElem_cons_zero])
  · rfl
  · intro W hSw; (try dsimp only at hSw); go_simp; (try with_reducible rfl)
  try simp only [Act.put, List.setIfInBounds_toArray, List.set_cons_zero, List.set_cons_succ]
  refine' wpAnyH_take (i := 33) (oi := _) (v := _) rfl (by kernel_rfl) (by kernel_rfl) (by kernel_rfl) (fun _ _ _ h => h) (Or.inl ⟨?_, ?_⟩) (by assumption) ?_
  rotate_left
  all_goals (try simp only [List.getElem_toArray, List.getElem_cons_succ, List.getElem_cons_zero])
  · rfl
  · intro W hSw; (try dsimp only at hSw); go_simp; (try with_reducible rfl)
  try simp only [Act.put, List.setIfInBounds_toArray, List.set_cons_zero, List.set_cons_succ]
  refine wpAnyH_ready (rs := [34]) (by kernel_rfl) (by simp) ?_
  refine AllReadyH.cons (o := _) rfl (fun K hK => ?_) AllReadyH.nil
  try simp only [List.getElem_toArray, List.getElem_cons_succ, List.getElem_cons_zero]
  go_simp
  refine (CRV.out da dn dc ba bn bc _ (HDr.out.below HH.out) (HBr.out.below HH.out)).mono ?_; rintro e w17 ⟨rfl, hb⟩; replace HA := Lib.hid (HA.out.below hb); replace HP := Lib.hid (HP.out.below hb); replace HCc := Lib.hid (HCc.out.below hb); replace HR := Lib.hid (HR.out.below hb); replace HH := Lib.hid (HH.out.trans (hb.mono HH.out.size)); clear hb
  go_wp2_with fail
  refine hK.out _ _ ⟨(ask_cells (HQ.out _ HH.out)).1, (ask_cells (HQ.out _ HH.out)).2.1, (ask_cells (HQ.out _ HH.out)).2.2.1, (ask_cells (HQ.out _ HH.out)).2.2.2.1, (ask_cells (HQ.out _ HH.out)).2.2.2.2.1, (ask_cells (HQ.out _ HH.out)).2.2.2.2.2, convB ((HA.out).reads.bts BF.out), convB ((HP.out).reads.bts BF.out), convB ((HCc.out).reads.bts BG.out), convB ((HR.out).reads.bts BG.out)⟩ (fun hHeld => ?_)
  clear hK K
  try simp only [Act.put, List.setIfInBounds_toArray, List.set_cons_zero, List.set_cons_succ]
  refine' wpAnyH_take (i := 35) (oi := _) (v := _) rfl (by kernel_rfl) (by kernel_rfl) (by kernel_rfl) (fun _ _ _ h => h) (Or.inl ⟨?_, ?_⟩) (by assumption) ?_
  rotate_left
  all_goals (try simp only [List.getElem_toArray, List.getElem_cons_succ, List.getElem_cons_zero])
  · rfl
  · intro W hSw; (try dsimp only at hSw); go_simp; (try with_reducible rfl)
  try simp only [Act.put, List.setIfInBounds_toArray, List.set_cons_zero, List.set_cons_succ]
  refine' wpAnyH_take (i := 36) (oi := _) (v := _) rfl (by kernel_rfl) (by kernel_rfl) (by kernel_rfl) (fun _ _ _ h => h) (Or.inl ⟨?_, ?_⟩) (by assumption) ?_
  rotate_left
  all_goals (try simp only [List.getElem_toArray, List.getElem_cons_succ, List.getElem_cons_zero])
  · rfl
  · intro W hSw; (try dsimp only at hSw); go_simp; (try with_reducible rfl)
  try simp only [Act.put, List.setIfInBounds_toArray, List.set_cons_zero, List.set_cons_succ]
  refine' wpAnyH_take (i := 37) (oi := _) (v := _) rfl (by kernel_rfl) (by kernel_rfl) (by kernel_rfl) (fun _ _ _ h => h) (Or.inl ⟨?_, ?_⟩) (by assumption) ?_
  rotate_left
  all_goals (try simp only [List.getElem_toArray, List.getElem_cons_succ, List.getElem_cons_zero])
  · rfl
  · intro W hSw; (try dsimp only at hSw); go_simp; (try with_reducible rfl)
  try simp only [Act.put, List.setIfInBounds_toArray, List.set_cons_zero, List.set_cons_succ]
  refine' wpAnyH_take (i := 38) (oi := _) (v := _) rfl (by kernel_rfl) (by kernel_rfl) (by kernel_rfl) (fun _ _ _ h => h) (Or.inl ⟨?_, ?_⟩) (by assumption) ?_
  rotate_left
  all_goals (try simp only [List.getElem_toArray, List.getElem_cons_succ, List.getElem_cons_zero])
  · rfl
  · intro W hSw; (try dsimp only at hSw); go_simp; (try with_reducible rfl)
  try simp only [Act.put, List.setIfInBounds_toArray, List.set_cons_zero, List.set_cons_succ]
  refine' wpAnyH_take (i := 39) (oi := _) (v := _) rfl (by kernel_rfl) (by kernel_rfl) (by kernel_rfl) (fun _ _ _ h => h) (Or.inl ⟨?_, ?_⟩) (by assumption) ?_
  rotate_left
  all_goals (try simp only [List.getElem_toArray, List.getElem_cons_succ, List.getElem_cons_zero])
  · rfl
  · intro W hSw; (try dsimp only at hSw); go_simp; (try with_reducible rfl)
  try simp only [Act.put, List.setIfInBounds_toArray, List.set_cons_zero, List.set_cons_succ]
  refine' wpAnyH_take (i := 40) (oi := _) (v := _) rfl (by kernel_rfl) (by kernel_rfl) (by kernel_rfl) (fun _ _ _ h => h) (Or.inl ⟨?_, ?_⟩) (by assumption) ?_
  rotate_left
  all_goals (try simp only [List.getElem_toArray, List.getElem_cons_succ, List.getElem_cons_zero])
  · rfl
  · intro W hSw; (try dsimp only at hSw); go_simp; (try with_reducible rfl)
  try simp only [Act.put, List.setIfInBounds_toArray, List.set_cons_zero, List.set_cons_succ]
  refine' wpAnyH_take (i := 41) (oi := _) (v := _) rfl (by kernel_rfl) (by kernel_rfl) (by kernel_rfl) (fun _ _ _ h => h) (Or.inl ⟨?_, ?_⟩) (by assumption) ?_
  rotate_left
  all_goals (try simp only [List.getElem_toArray, List.getElem_cons_succ, List.getElem_cons_zero])
  · rfl
  · intro W hSw; (try dsimp only at hSw); go_simp; (try with_reducible rfl)
  try simp only [Act.put, List.setIfInBounds_toArray, List.set_cons_zero, List.set_cons_succ]
  refine' wpAnyH_take (i := 42) (oi := _) (v := _) rfl (by kernel_rfl) (by kernel_rfl) (by kernel_rfl) (fun _ _ _ h => h) (Or.inl ⟨?_, ?_⟩) (by assumption) ?_
  rotate_left
  all_goals (try simp only [List.getElem_toArray, List.getElem_cons_succ, List.getElem_cons_zero])
  · rfl
  · intro W hSw; (try dsimp only at hSw); go_simp; (try with_reducible rfl)
  try simp only [Act.put, List.setIfInBounds_toArray, List.set_cons_zero, List.set_cons_succ]
  refine' wpAnyH_take (i := 44) (oi := _) (v := _) rfl (by kernel_rfl) (by kernel_rfl) (by kernel_rfl) (fun _ _ _ h => h) (Or.inl ⟨?_, ?_⟩) (by assumption) ?_
  rotate_left
  all_goals (try simp only [List.getElem_toArray, List.getElem_cons_succ, List.getElem_cons_zero])
  · rfl
  · intro W hSw; (try dsimp only at hSw); go_simp; (try with_reducible rfl)
  try simp only [Act.put, List.setIfInBounds_toArray, List.set_cons_zero, List.set_cons_succ]
  refine' wpAnyH_take (i := 45) (oi := _) (v := _) rfl (by kernel_rfl) (by kernel_rfl) (by kernel_rfl) (fun _ _ _ h => h) (Or.inl ⟨?_, ?_⟩) (by assumption) ?_
  rotate_left
  all_goals (try simp only [List.getElem_toArray, List.getElem_cons_succ, List.getElem_cons_zero])
  · rfl
  · intro W hSw; (try dsimp only at hSw); go_simp; (try with_reducible rfl)
  try simp only [Act.put, List.setIfInBounds_toArray, List.set_cons_zero, List.set_cons_succ]
  refine' wpAnyH_take (i := 46) (oi := _) (v := _) rfl (by kernel_rfl) (by kernel_rfl) (by kernel_rfl) (fun _ _ _ h => h) (Or.inl ⟨?_, ?_⟩) (by assumption) ?_
  rotate_left
  all_goals (try simp only [List.getElem_toArray, List.getElem_cons_succ, List.getElem_cons_zero])
  · rfl
  · intro W hSw; (try dsimp only at hSw); go_simp; (try with_reducible rfl)
  try simp only [Act.put, List.setIfInBounds_toArray, List.set_cons_zero, List.set_cons_succ]
  refine' wpAnyH_take (i := 47) (oi := _) (v := _) rfl (by kernel_rfl) (by kernel_rfl) (by kernel_rfl) (fun _ _ _ h => h) (Or.inl ⟨?_, ?_⟩) (by assumption) ?_
  rotate_left
  all_goals (try simp only [List.getElem_toArray, List.getElem_cons_succ, List.getElem_cons_zero])
  · rfl
  · intro W hSw; (try dsimp only at hSw); go_simp; (try with_reducible rfl)
  try simp only [Act.put, List.setIfInBounds_toArray, List.set_cons_zero, List.set_cons_succ]
  refine' wpAnyH_take (i := 48) (oi := _) (v := _) rfl (by kernel_rfl) (by kernel_rfl) (by kernel_rfl) (fun _ _ _ h => h) (Or.inl ⟨?_, ?_⟩) (by assumption) ?_
  rotate_left
  all_goals (try simp only [List.getElem_toArray, List.getElem_cons_succ, List.getElem_cons_zero])
  · rfl
  · intro W hSw; (try dsimp only at hSw); go_simp; (try with_reducible rfl)
  try simp only [Act.put, List.setIfInBounds_toArray, List.set_cons_zero, List.set_cons_succ]
  refine' wpAnyH_take (i := 49) (oi := _) (v := _) rfl (by kernel_rfl) (by kernel_rfl) (by kernel_rfl) (fun _ _ _ h => h) (Or.inl ⟨?_, ?_⟩) (by assumption) ?_
  rotate_left
  all_goals (try simp only [List.getElem_toArray, List.getElem_cons_succ, List.getElem_cons_zero])
  · rfl
  · intro W hSw; (try dsimp only at hSw); go_simp; (try with_reducible rfl)
  try simp only [Act.put, List.setIfInBounds_toArray, List.set_cons_zero, List.set_cons_succ]
  refine wpAnyH_ready (rs := [43]) (by kernel_rfl) (by simp) ?_
  refine AllReadyH.cons (o := _) rfl (fun K hK => ?_) AllReadyH.nil
  try simp only [List.getElem_toArray, List.getElem_cons_succ, List.getElem_cons_zero]
  go_simp
  refine (CP.out _ (HK.out.below HH.out)).mono ?_; rintro e w18 ⟨rfl, hb⟩; replace HA := Lib.hid (HA.out.below hb); replace HP := Lib.hid (HP.out.below hb); replace HCc := Lib.hid (HCc.out.below hb); replace HR := Lib.hid (HR.out.below hb); replace HH := Lib.hid (HH.out.trans (hb.mono HH.out.size)); clear hb
  go_wp2_with fail
  refine hK.out _ _ ⟨(ask_cells (HQ.out _ HH.out)).1, (ask_cells (HQ.out _ HH.out)).2.1, (ask_cells (HQ.out _ HH.out)).2.2.1, (ask_cells (HQ.out _ HH.out)).2.2.2.1, (ask_cells (HQ.out _ HH.out)).2.2.2.2.1, (ask_cells (HQ.out _ HH.out)).2.2.2.2.2, convB ((HA.out).reads.bts BF.out), convB ((HP.out).reads.bts BF.out), convB ((HCc.out).reads.bts BG.out), convB ((HR.out).reads.bts BG.out)⟩ (fun hHeld => ?_)
  clear hK K
  try simp only [Act.put, List.setIfInBounds_toArray, List.set_cons_zero, List.set_cons_succ]
  refine wpAnyH_ready (rs := [50]) (by kernel_rfl) (by simp) ?_
  refine AllReadyH.cons (o := _) rfl (fun K hK => ?_) AllReadyH.nil
  try simp only [List.getElem_toArray, List.getElem_cons_succ, List.getElem_cons_zero]
  go_simp
  refine (CRP.out _).mono ?_; rintro e w19 ⟨rfl, rfl⟩
  go_wp2_with fail
  refine hK.out _ _ ⟨(ask_cells (HQ.out _ HH.out)).1, (ask_cells (HQ.out _ HH.out)).2.1, (ask_cells (HQ.out _ HH.out)).2.2.1, (ask_cells (HQ.out _ HH.out)).2.2.2.1, (ask_cells (HQ.out _ HH.out)).2.2.2.2.1, (ask_cells (HQ.out _ HH.out)).2.2.2.2.2, convB ((HA.out).reads.bts BF.out), convB ((HP.out).reads.bts BF.out), convB ((HCc.out).reads.bts BG.out), convB ((HR.out).reads.bts BG.out)⟩ (fun hHeld => ?_)
  clear hK K
  try simp only [Act.put, List.setIfInBounds_toArray, List.set_cons_zero, List.set_cons_succ]
  refine' wpAnyH_take (i := 51) (oi := _) (v := _) rfl (by kernel_rfl) (by kernel_rfl) (by kernel_rfl) (fun _ _ _ h => h) (Or.inl ⟨?_, ?_⟩) (by assumption) ?_
  rotate_left
  all_goals (try simp only [List.getElem_toArray, List.getElem_cons_succ, List.getElem_cons_zero])
  · rfl
  · intro W hSw; (try dsimp only at hSw); go_simp; (try with_reducible rfl)
  try simp only [Act.put, List.setIfInBounds_toArray, List.set_cons_zero, List.set_cons_succ]
  refine' wpAnyH_take (i := 52) (oi := _) (v := _) rfl (by kernel_rfl) (by kernel_rfl) (by kernel_rfl) (fun _ _ _ h => h) (Or.inl ⟨?_, ?_⟩) (by assumption) ?_
  rotate_left
  all_goals (try simp only [List.getElem_toArray, List.getElem_cons_succ, List.getElem_cons_zero])
  · rfl
  · intro W hSw; (try dsimp only at hSw); go_simp; (try with_reducible rfl)
  try simp only [Act.put, List.setIfInBounds_toArray, List.set_cons_zero, List.set_cons_succ]
  refine wpAnyH_done (by kernel_rfl) ?_ _
  simp only [Exit.then]
  clear hHeld
  have HFL := Lib.hid (show F.length = an from HA.out.cap.1.symm)
  have HGL := Lib.hid (show G.length = cn from HCc.out.cap.1.symm)
  have han : an ≤ 3000 := by have := HFL.out; omega
  have hcn : cn ≤ 3000 := by have := HGL.out; omega
  clear HP HR CE CRE CS CRS CV CRV CP CRP HGd HTd HOd lF lG
  go_wp2_with fail
  go_loopw [167] (fun qv wq => ∃ q : Nat, qv = .int .i64 (q : Int) ∧ q ≤ an ∧ Hid (∃ l', OwnQ .u8 5 w8.heap.size wq (.slice aa an ac) l' ∧ Byt l' ∧ l'.length = an ∧ KpV (fun k => (Value.slice aa an ac).ownBlock = some k) w18 wq ∧ Below w8.heap.size w18 wq)) (fun qv _ => an - (intOf qv).toNat)
  case atStart => exact ⟨0, rfl, Nat.zero_le _, _, HA.out, BF.out, HFL.out, KpV.refl _ _, (Below.refl _ _)⟩
  case round =>
    obtain ⟨q, rfl, hq, hI⟩ := hrel
    obtain ⟨l', hI⟩ := hI.out
    have HI := Lib.hid hI
    clear hI
    by_cases hltq : q < an
    · have tq : decide (q < an) = true := by simp; omega
      obtain ⟨ob, rfl⟩ : ∃ ob, aa = some ⟨ob, 0, none⟩ := by
        obtain ⟨ob, oc', hov⟩ := HI.out.1.succ (by intro e; have := HI.out.2.2.1; rw [e] at this; simp at this; omega)
        injection hov with h1
        exact ⟨ob, h1⟩
      have cq := HI.out.1.cellAt HI.out.2.2.1.symm q (by omega)
      have fq := HI.out.1.frozenAt HI.out.2.2.1.symm q
      have lx := byt_get HI.out.2.1 q
      generalize l'[q]?.getD 0 = x at *
      obtain ⟨y, hy⟩ : ∃ y, y = (x + 1) % 256 := ⟨_, rfl⟩
      have hyi : ((x : Int) + 1) % 256 = (y : Int) := by omega
      have hyb : y < 256 := by omega
      have hyw : IntKind.u8.wrap ((x : Int) + 1) = (y : Int) := by simp [IntKind.wrap, IntKind.bits, IntKind.signed]; omega
      have HST := Lib.hid (HI.out.1.stored HI.out.2.2.1.symm q y (y : Int) rfl)
      have HBY := Lib.hid (byt_setT HI.out.2.1 q y hyb)
      have HKP := Lib.hid (HI.out.2.2.2.1.trans (KpV.grown (E := fun k => (Value.slice (some ⟨ob, 0, none⟩) an ac).ownBlock = some k) (grown_cellT wr ⟨ob, q, none⟩ (.int .u8 (y : Int))) (fun r e => by simp [Value.ownBlock]; cases e; rfl)))
      clear hy
      go_wp2
      go_roundw
      case rel => exact ⟨q + 1, by go_num, by omega, _, HST.out.1, HBY.out, by rw [List.length_set]; exact HI.out.2.2.1, HKP.out, HST.out.2 _ HI.out.2.2.2.2⟩
      case measure => simp [intOf] <;> omega
    · obtain rfl : q = an := by omega
      have tq : decide (q < q) = false := by simp
      have HCc := Lib.hid (HCc.out.kpT HI.out.2.2.2.1 (fun g e1 e2 => by have h1 := BLc.out g e1; have h2 := BLa.out g e2; omega))
      have HH := Lib.hid (HH.out.trans (HI.out.2.2.2.2.mono h78))
      obtain ⟨w20, hw20⟩ : ∃ x, x = wr := ⟨_, rfl⟩
      subst hw20
      clear HI HA HFL
      go_wp2_with fail
      go_loopw [179] (fun qv wq => ∃ q2 : Nat, qv = .int .i64 (q2 : Int) ∧ q2 ≤ cn ∧ Hid (∃ l', OwnQ .u8 5 w11.heap.size wq (.slice ca cn cc) l' ∧ Byt l' ∧ l'.length = cn ∧ KpV (fun k => (Value.slice ca cn cc).ownBlock = some k) w20 wq ∧ Below w11.heap.size w20 wq)) (fun qv _ => cn - (intOf qv).toNat)
      case atStart => exact ⟨0, rfl, Nat.zero_le _, _, HCc.out, BG.out, HGL.out, KpV.refl _ _, (Below.refl _ _)⟩
      case round =>
        obtain ⟨q2, rfl, hq, hI⟩ := hrel
        obtain ⟨l', hI⟩ := hI.out
        have HI := Lib.hid hI
        clear hI
        by_cases hltq2 : q2 < cn
        · have tq : decide (q2 < cn) = true := by simp; omega
          obtain ⟨ob, rfl⟩ : ∃ ob, ca = some ⟨ob, 0, none⟩ := by
            obtain ⟨ob, oc', hov⟩ := HI.out.1.succ (by intro e; have := HI.out.2.2.1; rw [e] at this; simp at this; omega)
            injection hov with h1
            exact ⟨ob, h1⟩
          have cq := HI.out.1.cellAt HI.out.2.2.1.symm q2 (by omega)
          have fq := HI.out.1.frozenAt HI.out.2.2.1.symm q2
          have lx := byt_get HI.out.2.1 q2
          generalize l'[q2]?.getD 0 = x at *
          obtain ⟨y, hy⟩ : ∃ y, y = (x + 1) % 256 := ⟨_, rfl⟩
          have hyi : ((x : Int) + 1) % 256 = (y : Int) := by omega
          have hyb : y < 256 := by omega
          have hyw : IntKind.u8.wrap ((x : Int) + 1) = (y : Int) := by simp [IntKind.wrap, IntKind.bits, IntKind.signed]; omega
          have HST := Lib.hid (HI.out.1.stored HI.out.2.2.1.symm q2 y (y : Int) rfl)
          have HBY := Lib.hid (byt_setT HI.out.2.1 q2 y hyb)
          have HKP := Lib.hid (HI.out.2.2.2.1.trans (KpV.grown (E := fun k => (Value.slice (some ⟨ob, 0, none⟩) cn cc).ownBlock = some k) (grown_cellT wr ⟨ob, q2, none⟩ (.int .u8 (y : Int))) (fun r e => by simp [Value.ownBlock]; cases e; rfl)))
          clear hy
          go_wp2
          go_roundw
          case rel => exact ⟨q2 + 1, by go_num, by omega, _, HST.out.1, HBY.out, by rw [List.length_set]; exact HI.out.2.2.1, HKP.out, HST.out.2 _ HI.out.2.2.2.2⟩
          case measure => simp [intOf] <;> omega
        · obtain rfl : q2 = cn := by omega
          have tq2 : decide (q2 < q2) = false := by simp
          have HH := Lib.hid (HH.out.trans (HI.out.2.2.2.2.mono (by omega)))
          obtain ⟨w21, hw21⟩ : ∃ x, x = wr := ⟨_, rfl⟩
          subst hw21
          clear HI HCc HGL
          have cv1 := convB ((HG.out.below HH.out).reads.bts (byt_appC HDB.out (by decide)))
          have cv2 := convB ((HT.out.below HH.out).reads.bts (byt_appC HSB.out (by decide)))
          have cv3 := convB ((HO.out.below HH.out).reads.bts (byt_appC HBB.out (by decide)))
          have cv4 := convB ((HDr.out.below HH.out).bts HDB.out)
          have cv5 := convB ((HSr.out.below HH.out).bts HSB.out)
          have cv6 := convB ((HBr.out.below HH.out).bts HBB.out)
          have e7 : strOf (u8s D) ++ ⟨#[7]⟩ = strOf (u8s (D ++ [7])) := strOf_appC D 7
          have e8 : strOf (u8s SS) ++ ⟨#[8]⟩ = strOf (u8s (SS ++ [8])) := strOf_appC SS 8
          have e9 : strOf (u8s B) ++ ⟨#[9]⟩ = strOf (u8s (B ++ [9])) := strOf_appC B 9
          have z7 : (strOf (u8s D)).size = dn := by rw [strOf_size3]; simp [u8s]; exact HDL.out
          have z8 : (strOf (u8s SS)).size = sn := by rw [strOf_size3]; simp [u8s]; exact HSL.out
          have z9 : (strOf (u8s B)).size = bn := by rw [strOf_size3]; simp [u8s]; exact HBL.out
          obtain ⟨k0, k1, k2, k3, k4, k5⟩ := ask_cells (HQ.out _ HH.out)
          go_wp2
          go_ret
          exact ⟨by simp, HBW.out.trans (HH.out.mono HBW.out.size)⟩
end Go.Proofs.YtcdglhmapijebaaDoor
