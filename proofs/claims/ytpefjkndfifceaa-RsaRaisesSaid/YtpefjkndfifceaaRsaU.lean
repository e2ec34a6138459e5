/-
  RSA: RsaRaises. (Written by wip/gen_rsaU.py.)
-/
import Derived.Test.YtpefjkndfifceaaPk1
import Derived.Test.YtpefjkndfifceaaPk2
import Derived.Test.YtpefjkndfifceaaPk3
import Derived.Test.YtpefjkndfifceaaPk4
import Derived.Test.YtpefjkndfifceaaPk5
import Derived.Test.YtpefjkndfifceaaPk6
import Derived.Test.YtpefjkndfifceaaPk7
import Derived.Test.YtpefjkndfifceaaPk8
import Derived.Test.YtpefjkndfifceaaPk9
import Derived.OrdersHeld
import Derived.Deep.RegionHeld
set_option linter.unusedVariables false
set_option linter.unusedSimpArgs false
namespace Go.Proofs.Ytpefjkndfifceaa
open Go.RowKit
set_option maxRecDepth 100000

theorem keyK_frozen {X : World} {P : Nat} {c0 c1 c2 : Value} {t : TypeId} (h : X.heap[P]? = some (.cells #[c0, c1, c2] t)) (i : Nat) : X.frozen? ⟨P, i, none⟩ = false := by
  simp [World.frozen?, h]
theorem infoRu : (Try.prog.info? 5).map (fun i => (i.zero, i.size, i.bytes)) = some (some (.int .u8 0), 1, 1) := by kernel_rfl
theorem twin_k (a : Option Addr) (n c : Nat) (l : List Nat) (w : World) (h : Reads .u8 w a n c l) (hn : n ≤ 1000000) :
    Calls Try.prog 5 #[.slice a n c] w fun e w' => (∃ a' c', e = .returned (.slice a' n c') ∧ OwnQ .u8 5 w.heap.size w' (.slice a' n c') l) ∧ Below w.heap.size w w' := by
  obtain ⟨i0, hi0, hz0, hz1, hz2⟩ := info_parts infoRu
  have HR := Lib.hid h
  have hl := h.length
  have HL := Lib.hid hl
  clear h hl
  go_enter Try.func5, Try.ntmps5
  go_wp2_with (at_builtin; refine wpList_append_q .u8 _ rfl _ _ 22 rfl w.heap.size 5 1 i0 Try.underlying22 hi0 hz0 hz1 hz2 (by decide) _ [] rfl (OwnQ.empty .u8 w _ _ (Nat.le_refl _)) a n c l rfl (HR.out.below ((Below.refl _ _).alloc (Nat.le_refl _) _)) (by simp; omega) (by simp) ?_; intro vx w1 hown hgrow; rw [List.nil_append] at hown; have HBX := Lib.hid (hgrow w ((Below.refl _ _).alloc (Nat.le_refl _) _)); obtain ⟨xa, xn, xc, rfl, hxn, ho⟩ := hown.slice; rw [HL.out] at hxn; subst hxn; have HX := Lib.hid ho; clear hown hgrow ho)
  go_ret
  exact ⟨⟨xa, xc, rfl, HX.out⟩, HBX.out⟩
theorem three_cells (W : World) (B : Nat) (v0 v1 v2 u0 u1 u2 : Value) (t : TypeId) (h : W.heap[B]? = some (.cells #[u0, u1, u2] t)) : (((W.setCell ⟨B, 0, none⟩ v0).setCell ⟨B, 1, none⟩ v1).setCell ⟨B, 2, none⟩ v2).cell? ⟨B, 0, none⟩ = some v0 ∧ (((W.setCell ⟨B, 0, none⟩ v0).setCell ⟨B, 1, none⟩ v1).setCell ⟨B, 2, none⟩ v2).cell? ⟨B, 1, none⟩ = some v1 ∧ (((W.setCell ⟨B, 0, none⟩ v0).setCell ⟨B, 1, none⟩ v1).setCell ⟨B, 2, none⟩ v2).cell? ⟨B, 2, none⟩ = some v2 := by
  have c0 : W.cell? ⟨B, 0, none⟩ = some u0 := by simp [World.cell?, h]
  have c1 : W.cell? ⟨B, 1, none⟩ = some u1 := by simp [World.cell?, h]
  have c2 : W.cell? ⟨B, 2, none⟩ = some u2 := by simp [World.cell?, h]
  clear h
  refine ⟨?_, ?_, ?_⟩ <;> go_simp
theorem three_keeps (W : World) (B : Nat) (v0 v1 v2 : Value) : W.heap.size ≤ (((W.setCell ⟨B, 0, none⟩ v0).setCell ⟨B, 1, none⟩ v1).setCell ⟨B, 2, none⟩ v2).heap.size ∧ ∀ k, k ≠ B → (((W.setCell ⟨B, 0, none⟩ v0).setCell ⟨B, 1, none⟩ v1).setCell ⟨B, 2, none⟩ v2).heap[k]? = W.heap[k]? := by
  refine ⟨Nat.le_trans (KeepsWalks.setCell _ _ _).size (Nat.le_trans (KeepsWalks.setCell _ _ _).size (KeepsWalks.setCell _ _ _).size), fun k hk => ?_⟩
  rw [Below.heap_setCell _ _ _ k (fun e => hk e), Below.heap_setCell _ _ _ k (fun e => hk e), Below.heap_setCell _ _ _ k (fun e => hk e)]
theorem three_below (W : World) (B : Nat) (v0 v1 v2 : Value) (w : World) (k : Nat) (h : Below k w W) (hB : k ≤ B) : Below k w (((W.setCell ⟨B, 0, none⟩ v0).setCell ⟨B, 1, none⟩ v1).setCell ⟨B, 2, none⟩ v2) :=
  ((h.setCell (p := ⟨B, 0, none⟩) hB _).setCell (p := ⟨B, 1, none⟩) hB _).setCell (p := ⟨B, 2, none⟩) hB _
theorem apartC {w X : World} {a : Option Addr} {n c P : Nat} {l : List Nat} {t : TypeId} {a0 a1 a2 : Option Addr} {n0 n1 n2 c0 c1 c2 : Nat} (h : Reads .u8 w a n c l) (hP : w.heap[P]? = some (.cells #[.slice a0 n0 c0, .slice a1 n1 c1, .slice a2 n2 c2] t)) (hs : w.heap.size ≤ X.heap.size) (hk : ∀ k, k ≠ P → X.heap[k]? = w.heap[k]?) : Reads .u8 X a n c l :=
  ⟨h.length, h.le, h.max, h.nil, fun hp => by
    obtain ⟨b, off, rfl, hlt, hc⟩ := h.cells hp
    have hne : b ≠ P := by
      rintro rfl
      have h1 := hc 0 hp
      simp only [World.cell?, hP, Nat.add_zero] at h1
      rcases off with _ | _ | _ | off <;> simp at h1
    exact ⟨b, off, rfl, Nat.lt_of_lt_of_le hlt hs, fun i hi => by
      have h1 := hc i hi
      have h2 := hk b hne
      unfold World.cell? at h1 ⊢
      dsimp only at h1 ⊢
      rw [h2]
      exact h1⟩⟩
theorem u8_byt (U : List UInt8) : Byt (U.map fun c => c.toNat) := fun x hx => by
  obtain ⟨c, -, rfl⟩ := List.mem_map.1 hx
  have := c.toNat_lt
  omega
theorem own_nat {E B : Nat} {w : World} {v : Value} {U : List UInt8} (h : Own8 E B w v U) : OwnQ .u8 E B w v (U.map fun c => c.toNat) := by
  unfold OwnQ
  rw [List.length_map, List.map_map]
  exact h
theorem byt_get {l : List Nat} (h : Byt l) (j : Nat) : l[j]?.getD 0 < 256 := by
  by_cases hj : j < l.length
  · rw [List.getElem?_eq_getElem hj]; exact h _ (List.getElem_mem hj)
  · rw [List.getElem?_eq_none (by omega)]; decide
theorem byt_setT {l : List Nat} (h : Byt l) (j x : Nat) (hx : x < 256) : Byt (l.set j x) := fun y hy => by
  rcases List.mem_or_eq_of_mem_set hy with h1 | h1
  · exact h y h1
  · rw [h1]; exact hx

set_option maxHeartbeats 16000000 in
theorem raises_walk (na : Option Addr) (nn nc : Nat) (N : List Nat) (ea : Option Addr) (en ec : Nat) (E : List Nat) (da : Option Addr) (dn dc : Nat) (D : List Nat) (ba : Option Addr) (bn bc : Nat) (B : List Nat) (w : World) (hN : Reads .u8 w na nn nc N) (bN : Byt N) (hE : Reads .u8 w ea en ec E) (bE : Byt E) (hD : Reads .u8 w da dn dc D) (bD : Byt D) (xn : nn ≤ 140737488351232) (xe : en ≤ 140737488351232) (xd : dn ≤ 140737488351232) (hB : Reads .u8 w ba bn bc B) (bB : Byt B) (xb : bn ≤ 140737488351232) :
    Calls Try.prog 3 #[.agg #[.slice na nn nc, .slice ea en ec, .slice da dn dc], .slice ba bn bc] w fun e w' => e = .returned (.bool true) ∧ Below w.heap.size w w' := by
  have HRN0 := Lib.hid hN
  have HRE0 := Lib.hid hE
  have HRD0 := Lib.hid hD
  have HRB0 := Lib.hid hB
  have HBN := Lib.hid bN
  have HBE := Lib.hid bE
  have HBD := Lib.hid bD
  have HBB := Lib.hid bB
  have HNL := Lib.hid hN.length
  have hba := (Below.refl w.heap.size w).alloc (Nat.le_refl _) (.cells #[.slice na nn nc, .slice ea en ec, .slice da dn dc] 24)
  have hq0 : (w.alloc (.cells #[.slice na nn nc, .slice ea en ec, .slice da dn dc] 24)).heap[w.heap.size]? = some (.cells #[.slice na nn nc, .slice ea en ec, .slice da dn dc] 24) := World.alloc_heap_new w _
  have HQ0 := Lib.hid hq0
  have HB := Lib.hid hba
  clear hN bN hE bE hD bD hB bB hba hq0
  go_enter Try.func3, Try.ntmps3
  go_upto_region 1 with fail
  generalize w.alloc (.cells #[.slice na nn nc, .slice ea en ec, .slice da dn dc] 24) = w0 at *
  obtain ⟨P, hP⟩ : ∃ P, w.heap.size = P := ⟨_, rfl⟩
  rw [hP] at HQ0 ⊢
  have HPW := Lib.hid hP
  have HQ : Hid (∀ X, Below w0.heap.size w0 X → X.heap[P]? = some (.cells #[.slice na nn nc, .slice ea en ec, .slice da dn dc] 24)) := Lib.hid fun X hX => (hX.block P (Array.getElem?_eq_some_iff.1 HQ0.out).1).trans HQ0.out
  have HRN := Lib.hid (fun (X : World) (hX : Below w0.heap.size w0 X) => (HRN0.out.below HB.out).below hX)
  have HRE := Lib.hid (fun (X : World) (hX : Below w0.heap.size w0 X) => (HRE0.out.below HB.out).below hX)
  have HRD := Lib.hid (fun (X : World) (hX : Below w0.heap.size w0 X) => (HRD0.out.below HB.out).below hX)
  have HRB := Lib.hid (fun (X : World) (hX : Below w0.heap.size w0 X) => (HRB0.out.below HB.out).below hX)
  have HP0 := Lib.hid (Array.getElem?_eq_some_iff.1 HQ0.out).1
  clear hP HQ0 HRN0 HRE0 HRD0 HRB0
  have HC := Lib.hid (Below.refl w0.heap.size w0)
  obtain ⟨k0, k1, k2⟩ := key_cells (HQ.out _ HC.out)
  go_wp2_with fail
  refine (great_k na nn nc N ea en ec E da dn dc _ (HRN.out _ HC.out) HBN.out (HRE.out _ HC.out) HBE.out xn xe xd).mono ?_
  rintro e wg ⟨rfl | ⟨rfl, g1, g2, g3, g4⟩, hb⟩
  · replace HC := Lib.hid (HC.out.trans (hb.mono HC.out.size))
    clear hb k0 k1 k2
    go_wp2
    go_ret
    exact ⟨rfl, HPW.out ▸ (HB.out.trans (HC.out.mono HB.out.size))⟩
  replace HC := Lib.hid (HC.out.trans (hb.mono HC.out.size))
  clear hb k0 k1 k2 g4
  have HKey : Hid (∀ X, Below w0.heap.size w0 X → KeyAt X (.agg #[.slice na nn nc, .slice ea en ec, .slice da dn dc]) N E D) := Lib.hid fun X hX => ⟨na, nn, nc, ea, en, ec, da, dn, dc, rfl, ⟨HRN.out X hX, HBN.out, g1⟩, ⟨HRE.out X hX, HBE.out, g2⟩, HRD.out X hX, HBD.out, g3⟩
  have HSM := Lib.hid (HKey.out _ (Below.refl _ _)).small
  by_cases hl : 1000 < bn
  · have t1 : decide ((1000 : Int) < (bn : Int)) = true := decide_eq_true (by omega)
    clear hl
    go_wp2
    go_ret
    exact ⟨rfl, HPW.out ▸ (HB.out.trans (HC.out.mono HB.out.size))⟩
  have ub : decide ((1000 : Int) < (bn : Int)) = false := decide_eq_false (by omega)
  have lb : bn ≤ 1000 := by omega
  clear hl
  go_upto_region 3 with fail
  clear ub
  go_cut [5, 6] from 26 to 37 (fun s5 s6 wx => ∃ (oa : Option Addr) (oc : Nat) (G : Nat) (pa : Option Addr) (pc : Nat) (qa : Option Addr) (qc : Nat) (ra : Option Addr) (rc : Nat), s5 = .slice oa bn oc ∧ s6 = .pointer (some ⟨G, 0, none⟩) ∧ Hid (Below wg.heap.size wg wx ∧ Reads .u8 wx oa bn oc B ∧ (wx.cell? ⟨G, 0, none⟩ = some (.slice pa nn pc) ∧ wx.cell? ⟨G, 1, none⟩ = some (.slice qa en qc) ∧ wx.cell? ⟨G, 2, none⟩ = some (.slice ra dn rc)) ∧ G < wx.heap.size ∧ Reads .u8 wx pa nn pc N ∧ Reads .u8 wx qa en qc E ∧ Reads .u8 wx ra dn rc D))
  case first =>
    have HX := Lib.hid (Below.refl wg.heap.size wg)
    obtain ⟨k0, k1, k2⟩ := key_cells (HQ.out _ HC.out)
    refine wp_region_held_drew (S := fun X => X.cell? ⟨P, 0, none⟩ = some (.slice na nn nc) ∧ X.cell? ⟨P, 1, none⟩ = some (.slice ea en ec) ∧ X.cell? ⟨P, 2, none⟩ = some (.slice da dn dc)) (by kernel_rfl) (key_cells (HQ.out _ (HC.out.trans (HX.out.drew.mono HC.out.size)))) (fun hHeld => ?_)
    replace HX := Lib.hid HX.out.drew
    clear k0 k1 k2
    generalize World.drew _ = wd at *
    refine' wpAnyH_take (i := 0) (oi := _) (v := _) rfl (by kernel_rfl) (by kernel_rfl) (by kernel_rfl) (fun _ _ _ h => h) (Or.inl ⟨?_, ?_⟩) (by assumption) ?_
    rotate_left
    all_goals (try simp only [List.getElem_toArray, List.getElem_cons_succ, List.getElem_cons_zero])
    · rfl
    · intro W hSw; (try dsimp only at hSw); go_simp; (try with_reducible rfl)
    try simp only [Act.put, List.setIfInBounds_toArray, List.set_cons_zero, List.set_cons_succ]
    refine' wpAnyH_take (i := 2) (oi := _) (v := _) rfl (by kernel_rfl) (by kernel_rfl) (by kernel_rfl) (fun _ _ _ h => h) (Or.inl ⟨?_, ?_⟩) (by assumption) ?_
    rotate_left
    all_goals (try simp only [List.getElem_toArray, List.getElem_cons_succ, List.getElem_cons_zero])
    · rfl
    · intro W hSw; (try dsimp only at hSw); go_simp; (try with_reducible rfl)
    try simp only [Act.put, List.setIfInBounds_toArray, List.set_cons_zero, List.set_cons_succ]
    refine' wpAnyH_take (i := 3) (oi := _) (v := _) rfl (by kernel_rfl) (by kernel_rfl) (by kernel_rfl) (fun _ _ _ h => h) (Or.inl ⟨?_, ?_⟩) (by assumption) ?_
    rotate_left
    all_goals (try simp only [List.getElem_toArray, List.getElem_cons_succ, List.getElem_cons_zero])
    · rfl
    · intro W hSw; (try dsimp only at hSw); go_simp; (try with_reducible rfl)
    try simp only [Act.put, List.setIfInBounds_toArray, List.set_cons_zero, List.set_cons_succ]
    refine' wpAnyH_take (i := 5) (oi := _) (v := _) rfl (by kernel_rfl) (by kernel_rfl) (by kernel_rfl) (fun _ _ _ h => h) (Or.inl ⟨?_, ?_⟩) (by assumption) ?_
    rotate_left
    all_goals (try simp only [List.getElem_toArray, List.getElem_cons_succ, List.getElem_cons_zero])
    · rfl
    · intro W hSw; (try dsimp only at hSw); go_simp; (try with_reducible rfl)
    try simp only [Act.put, List.setIfInBounds_toArray, List.set_cons_zero, List.set_cons_succ]
    refine' wpAnyH_take (i := 6) (oi := _) (v := _) rfl (by kernel_rfl) (by kernel_rfl) (by kernel_rfl) (fun _ _ _ h => h) (Or.inl ⟨?_, ?_⟩) (by assumption) ?_
    rotate_left
    all_goals (try simp only [List.getElem_toArray, List.getElem_cons_succ, List.getElem_cons_zero])
    · rfl
    · intro W hSw; (try dsimp only at hSw); go_simp; (try with_reducible rfl)
    try simp only [Act.put, List.setIfInBounds_toArray, List.set_cons_zero, List.set_cons_succ]
    refine' wpAnyH_take (i := 8) (oi := _) (v := _) rfl (by kernel_rfl) (by kernel_rfl) (by kernel_rfl) (fun _ _ _ h => h) (Or.inl ⟨?_, ?_⟩) (by assumption) ?_
    rotate_left
    all_goals (try simp only [List.getElem_toArray, List.getElem_cons_succ, List.getElem_cons_zero])
    · rfl
    · intro W hSw; (try dsimp only at hSw); go_simp; (try with_reducible rfl)
    try simp only [Act.put, List.setIfInBounds_toArray, List.set_cons_zero, List.set_cons_succ]
    refine' wpAnyH_take (i := 9) (oi := _) (v := _) rfl (by kernel_rfl) (by kernel_rfl) (by kernel_rfl) (fun _ _ _ h => h) (Or.inl ⟨?_, ?_⟩) (by assumption) ?_
    rotate_left
    all_goals (try simp only [List.getElem_toArray, List.getElem_cons_succ, List.getElem_cons_zero])
    · rfl
    · intro W hSw; (try dsimp only at hSw); go_simp; (try with_reducible rfl)
    try simp only [Act.put, List.setIfInBounds_toArray, List.set_cons_zero, List.set_cons_succ]
    refine wpAnyH_ready (rs := [1, 12]) (by kernel_rfl) (by simp) ?_
    refine AllReadyH.cons (o := _) rfl (fun K hK => ?_) (AllReadyH.cons (o := _) rfl (fun K hK => ?_) AllReadyH.nil)
    · try simp only [List.getElem_toArray, List.getElem_cons_succ, List.getElem_cons_zero]
      go_simp
      refine (twin_k ba bn bc B _ (HRB.out _ (HC.out.trans (HX.out.mono HC.out.size))) (by omega)).mono ?_; rintro e wto ⟨⟨oa, oc, rfl, ho⟩, hb⟩; have HTo := Lib.hid ho.reads; replace HX := Lib.hid (HX.out.trans (hb.mono HX.out.size)); clear hb ho
      go_wp2_with fail
      refine hK.out _ _ (key_cells (HQ.out _ (HC.out.trans (HX.out.mono HC.out.size)))) (fun hHeld => ?_)
      clear hK K
      try simp only [Act.put, List.setIfInBounds_toArray, List.set_cons_zero, List.set_cons_succ]
      refine wpAnyH_ready (rs := [4, 12]) (by kernel_rfl) (by simp) ?_
      refine AllReadyH.cons (o := _) rfl (fun K hK => ?_) (AllReadyH.cons (o := _) rfl (fun K hK => ?_) AllReadyH.nil)
      · try simp only [List.getElem_toArray, List.getElem_cons_succ, List.getElem_cons_zero]
        go_simp
        refine (twin_k na nn nc N _ (HRN.out _ (HC.out.trans (HX.out.mono HC.out.size))) (by omega)).mono ?_; rintro e wtp ⟨⟨pa, pc, rfl, ho⟩, hb⟩; have HTp := Lib.hid ho.reads; replace HTo := Lib.hid (HTo.out.below hb); replace HX := Lib.hid (HX.out.trans (hb.mono HX.out.size)); clear hb ho
        go_wp2_with fail
        refine hK.out _ _ (key_cells (HQ.out _ (HC.out.trans (HX.out.mono HC.out.size)))) (fun hHeld => ?_)
        clear hK K
        try simp only [Act.put, List.setIfInBounds_toArray, List.set_cons_zero, List.set_cons_succ]
        refine wpAnyH_ready (rs := [7, 12]) (by kernel_rfl) (by simp) ?_
        refine AllReadyH.cons (o := _) rfl (fun K hK => ?_) (AllReadyH.cons (o := _) rfl (fun K hK => ?_) AllReadyH.nil)
        · try simp only [List.getElem_toArray, List.getElem_cons_succ, List.getElem_cons_zero]
          go_simp
          refine (twin_k ea en ec E _ (HRE.out _ (HC.out.trans (HX.out.mono HC.out.size))) (by omega)).mono ?_; rintro e wtq ⟨⟨qa, qc, rfl, ho⟩, hb⟩; have HTq := Lib.hid ho.reads; replace HTo := Lib.hid (HTo.out.below hb); replace HTp := Lib.hid (HTp.out.below hb); replace HX := Lib.hid (HX.out.trans (hb.mono HX.out.size)); clear hb ho
          go_wp2_with fail
          refine hK.out _ _ (key_cells (HQ.out _ (HC.out.trans (HX.out.mono HC.out.size)))) (fun hHeld => ?_)
          clear hK K
          try simp only [Act.put, List.setIfInBounds_toArray, List.set_cons_zero, List.set_cons_succ]
          refine wpAnyH_ready (rs := [10, 12]) (by kernel_rfl) (by simp) ?_
          refine AllReadyH.cons (o := _) rfl (fun K hK => ?_) (AllReadyH.cons (o := _) rfl (fun K hK => ?_) AllReadyH.nil)
          · try simp only [List.getElem_toArray, List.getElem_cons_succ, List.getElem_cons_zero]
            go_simp
            refine (twin_k da dn dc D _ (HRD.out _ (HC.out.trans (HX.out.mono HC.out.size))) (by omega)).mono ?_; rintro e wtr ⟨⟨ra, rc, rfl, ho⟩, hb⟩; have HTr := Lib.hid ho.reads; replace HTo := Lib.hid (HTo.out.below hb); replace HTp := Lib.hid (HTp.out.below hb); replace HTq := Lib.hid (HTq.out.below hb); replace HX := Lib.hid (HX.out.trans (hb.mono HX.out.size)); clear hb ho
            go_wp2_with fail
            refine hK.out _ _ (key_cells (HQ.out _ (HC.out.trans (HX.out.mono HC.out.size)))) (fun hHeld => ?_)
            clear hK K
            try simp only [Act.put, List.setIfInBounds_toArray, List.set_cons_zero, List.set_cons_succ]
            refine' wpAnyH_take (i := 11) (oi := _) (v := _) rfl (by kernel_rfl) (by kernel_rfl) (by kernel_rfl) (fun _ _ _ h => h) (Or.inl ⟨?_, ?_⟩) (by assumption) ?_
            rotate_left
            all_goals (try simp only [List.getElem_toArray, List.getElem_cons_succ, List.getElem_cons_zero])
            · rfl
            · intro W hSw; (try dsimp only at hSw); go_simp; (try with_reducible rfl)
            try simp only [Act.put, List.setIfInBounds_toArray, List.set_cons_zero, List.set_cons_succ]
            refine wpAnyH_ready (rs := [12]) (by kernel_rfl) (by simp) ?_
            refine AllReadyH.cons (o := _) rfl (fun K hK => ?_) AllReadyH.nil
            try simp only [List.getElem_toArray, List.getElem_cons_succ, List.getElem_cons_zero]
            go_simp
            refine hK.out _ _ (key_cells (HQ.out _ (HC.out.trans ((HX.out.alloc HX.out.size _).mono HC.out.size)))) (fun hHeld => ?_)
            clear hK K
            try simp only [Act.put, List.setIfInBounds_toArray, List.set_cons_zero, List.set_cons_succ]
            have hb := (Below.refl wtr.heap.size wtr).alloc (Nat.le_refl _) (.cells #[.slice none 0 0, .slice none 0 0, .slice none 0 0] 24)
            have HK0 : (wtr.alloc (.cells #[.slice none 0 0, .slice none 0 0, .slice none 0 0] 24)).heap[wtr.heap.size]? = some (.cells #[.slice none 0 0, .slice none 0 0, .slice none 0 0] 24) := World.alloc_heap_new wtr _
            have HKge0 : wg.heap.size ≤ wtr.heap.size := HX.out.size
            replace HTo := Lib.hid (HTo.out.below hb)
            replace HTp := Lib.hid (HTp.out.below hb)
            replace HTq := Lib.hid (HTq.out.below hb)
            replace HTr := Lib.hid (HTr.out.below hb)
            replace HX := Lib.hid (HX.out.trans (hb.mono HX.out.size))
            clear hb
            obtain ⟨G, hKK⟩ : ∃ k, wtr.heap.size = k := ⟨_, rfl⟩
            rw [hKK] at HK0 HKge0
            simp only [hKK]
            clear hKK
            generalize wtr.alloc (.cells #[.slice none 0 0, .slice none 0 0, .slice none 0 0] 24) = wtra at *
            have HK := Lib.hid HK0
            have HKge := Lib.hid HKge0
            clear HK0 HKge0
            refine' wpAnyH_take (i := 13) (oi := _) (v := _) rfl (by kernel_rfl) (by kernel_rfl) (by kernel_rfl) (fun _ _ _ h => h) (Or.inl ⟨?_, ?_⟩) (by assumption) ?_
            rotate_left
            all_goals (try simp only [List.getElem_toArray, List.getElem_cons_succ, List.getElem_cons_zero])
            · rfl
            · intro W hSw; (try dsimp only at hSw); go_simp; (try with_reducible rfl)
            try simp only [Act.put, List.setIfInBounds_toArray, List.set_cons_zero, List.set_cons_succ]
            obtain ⟨n0, n1, n2⟩ := key_cells HK.out
            have f0 := keyK_frozen HK.out 0
            have f1 := keyK_frozen HK.out 1
            have f2 := keyK_frozen HK.out 2
            refine wpAnyH_ready (rs := [14]) (by kernel_rfl) (by simp) ?_
            refine AllReadyH.cons (o := _) rfl (fun K hK => ?_) AllReadyH.nil
            try simp only [List.getElem_toArray, List.getElem_cons_succ, List.getElem_cons_zero]
            go_simp
            refine hK.out _ _ (key_cells (((three_keeps _ _ _ _ _).2 P (by have h1 := HP0.out; have h2 := HC.out.size; have h3 := HKge.out; omega)).trans (HQ.out _ (HC.out.trans (HX.out.mono HC.out.size))))) (fun hHeld => ?_)
            clear hK K
            try simp only [Act.put, List.setIfInBounds_toArray, List.set_cons_zero, List.set_cons_succ]
            refine wpAnyH_done (by kernel_rfl) ?_ _
            clear hHeld n0 n1 n2 f0 f1 f2
            go_wp2_with fail
            go_meet
            exact ⟨oa, oc, G, pa, pc, qa, qc, ra, rc, rfl, rfl, Lib.hid ⟨three_below wtra G _ _ _ wg wg.heap.size HX.out HKge.out, (apartC HTo.out HK.out (three_keeps wtra G (.slice pa nn pc) (.slice qa en qc) (.slice ra dn rc)).1 (three_keeps wtra G (.slice pa nn pc) (.slice qa en qc) (.slice ra dn rc)).2), three_cells wtra G _ _ _ _ _ _ _ HK.out, Nat.lt_of_lt_of_le (Array.getElem?_eq_some_iff.1 HK.out).1 (three_keeps wtra G (.slice pa nn pc) (.slice qa en qc) (.slice ra dn rc)).1, (apartC HTp.out HK.out (three_keeps wtra G (.slice pa nn pc) (.slice qa en qc) (.slice ra dn rc)).1 (three_keeps wtra G (.slice pa nn pc) (.slice qa en qc) (.slice ra dn rc)).2), (apartC HTq.out HK.out (three_keeps wtra G (.slice pa nn pc) (.slice qa en qc) (.slice ra dn rc)).1 (three_keeps wtra G (.slice pa nn pc) (.slice qa en qc) (.slice ra dn rc)).2), (apartC HTr.out HK.out (three_keeps wtra G (.slice pa nn pc) (.slice qa en qc) (.slice ra dn rc)).1 (three_keeps wtra G (.slice pa nn pc) (.slice qa en qc) (.slice ra dn rc)).2)⟩⟩


          · try simp only [List.getElem_toArray, List.getElem_cons_succ, List.getElem_cons_zero]
            go_simp
            refine hK.out _ _ (key_cells (HQ.out _ (HC.out.trans ((HX.out.alloc HX.out.size _).mono HC.out.size)))) (fun hHeld => ?_)
            clear hK K
            try simp only [Act.put, List.setIfInBounds_toArray, List.set_cons_zero, List.set_cons_succ]
            have hb := (Below.refl wtq.heap.size wtq).alloc (Nat.le_refl _) (.cells #[.slice none 0 0, .slice none 0 0, .slice none 0 0] 24)
            have HK0 : (wtq.alloc (.cells #[.slice none 0 0, .slice none 0 0, .slice none 0 0] 24)).heap[wtq.heap.size]? = some (.cells #[.slice none 0 0, .slice none 0 0, .slice none 0 0] 24) := World.alloc_heap_new wtq _
            have HKge0 : wg.heap.size ≤ wtq.heap.size := HX.out.size
            replace HTo := Lib.hid (HTo.out.below hb)
            replace HTp := Lib.hid (HTp.out.below hb)
            replace HTq := Lib.hid (HTq.out.below hb)
            replace HX := Lib.hid (HX.out.trans (hb.mono HX.out.size))
            clear hb
            obtain ⟨G, hKK⟩ : ∃ k, wtq.heap.size = k := ⟨_, rfl⟩
            rw [hKK] at HK0 HKge0
            simp only [hKK]
            clear hKK
            generalize wtq.alloc (.cells #[.slice none 0 0, .slice none 0 0, .slice none 0 0] 24) = wtqa at *
            have HK := Lib.hid HK0
            have HKge := Lib.hid HKge0
            clear HK0 HKge0
            refine wpAnyH_ready (rs := [10]) (by kernel_rfl) (by simp) ?_
            refine AllReadyH.cons (o := _) rfl (fun K hK => ?_) AllReadyH.nil
            try simp only [List.getElem_toArray, List.getElem_cons_succ, List.getElem_cons_zero]
            go_simp
            refine (twin_k da dn dc D _ (HRD.out _ (HC.out.trans (HX.out.mono HC.out.size))) (by omega)).mono ?_; rintro e wtr ⟨⟨ra, rc, rfl, ho⟩, hb⟩; have HTr := Lib.hid ho.reads; replace HTo := Lib.hid (HTo.out.below hb); replace HTp := Lib.hid (HTp.out.below hb); replace HTq := Lib.hid (HTq.out.below hb); replace HK := Lib.hid ((hb.block _ (Array.getElem?_eq_some_iff.1 HK.out).1).trans HK.out); replace HX := Lib.hid (HX.out.trans (hb.mono HX.out.size)); clear hb ho
            go_wp2_with fail
            refine hK.out _ _ (key_cells (HQ.out _ (HC.out.trans (HX.out.mono HC.out.size)))) (fun hHeld => ?_)
            clear hK K
            try simp only [Act.put, List.setIfInBounds_toArray, List.set_cons_zero, List.set_cons_succ]
            refine' wpAnyH_take (i := 11) (oi := _) (v := _) rfl (by kernel_rfl) (by kernel_rfl) (by kernel_rfl) (fun _ _ _ h => h) (Or.inl ⟨?_, ?_⟩) (by assumption) ?_
            rotate_left
            all_goals (try simp only [List.getElem_toArray, List.getElem_cons_succ, List.getElem_cons_zero])
            · rfl
            · intro W hSw; (try dsimp only at hSw); go_simp; (try with_reducible rfl)
            try simp only [Act.put, List.setIfInBounds_toArray, List.set_cons_zero, List.set_cons_succ]
            refine' wpAnyH_take (i := 13) (oi := _) (v := _) rfl (by kernel_rfl) (by kernel_rfl) (by kernel_rfl) (fun _ _ _ h => h) (Or.inl ⟨?_, ?_⟩) (by assumption) ?_
            rotate_left
            all_goals (try simp only [List.getElem_toArray, List.getElem_cons_succ, List.getElem_cons_zero])
            · rfl
            · intro W hSw; (try dsimp only at hSw); go_simp; (try with_reducible rfl)
            try simp only [Act.put, List.setIfInBounds_toArray, List.set_cons_zero, List.set_cons_succ]
            obtain ⟨n0, n1, n2⟩ := key_cells HK.out
            have f0 := keyK_frozen HK.out 0
            have f1 := keyK_frozen HK.out 1
            have f2 := keyK_frozen HK.out 2
            refine wpAnyH_ready (rs := [14]) (by kernel_rfl) (by simp) ?_
            refine AllReadyH.cons (o := _) rfl (fun K hK => ?_) AllReadyH.nil
            try simp only [List.getElem_toArray, List.getElem_cons_succ, List.getElem_cons_zero]
            go_simp
            refine hK.out _ _ (key_cells (((three_keeps _ _ _ _ _).2 P (by have h1 := HP0.out; have h2 := HC.out.size; have h3 := HKge.out; omega)).trans (HQ.out _ (HC.out.trans (HX.out.mono HC.out.size))))) (fun hHeld => ?_)
            clear hK K
            try simp only [Act.put, List.setIfInBounds_toArray, List.set_cons_zero, List.set_cons_succ]
            refine wpAnyH_done (by kernel_rfl) ?_ _
            clear hHeld n0 n1 n2 f0 f1 f2
            go_wp2_with fail
            go_meet
            exact ⟨oa, oc, G, pa, pc, qa, qc, ra, rc, rfl, rfl, Lib.hid ⟨three_below wtr G _ _ _ wg wg.heap.size HX.out HKge.out, (apartC HTo.out HK.out (three_keeps wtr G (.slice pa nn pc) (.slice qa en qc) (.slice ra dn rc)).1 (three_keeps wtr G (.slice pa nn pc) (.slice qa en qc) (.slice ra dn rc)).2), three_cells wtr G _ _ _ _ _ _ _ HK.out, Nat.lt_of_lt_of_le (Array.getElem?_eq_some_iff.1 HK.out).1 (three_keeps wtr G (.slice pa nn pc) (.slice qa en qc) (.slice ra dn rc)).1, (apartC HTp.out HK.out (three_keeps wtr G (.slice pa nn pc) (.slice qa en qc) (.slice ra dn rc)).1 (three_keeps wtr G (.slice pa nn pc) (.slice qa en qc) (.slice ra dn rc)).2), (apartC HTq.out HK.out (three_keeps wtr G (.slice pa nn pc) (.slice qa en qc) (.slice ra dn rc)).1 (three_keeps wtr G (.slice pa nn pc) (.slice qa en qc) (.slice ra dn rc)).2), (apartC HTr.out HK.out (three_keeps wtr G (.slice pa nn pc) (.slice qa en qc) (.slice ra dn rc)).1 (three_keeps wtr G (.slice pa nn pc) (.slice qa en qc) (.slice ra dn rc)).2)⟩⟩



        · try simp only [List.getElem_toArray, List.getElem_cons_succ, List.getElem_cons_zero]
          go_simp
          refine hK.out _ _ (key_cells (HQ.out _ (HC.out.trans ((HX.out.alloc HX.out.size _).mono HC.out.size)))) (fun hHeld => ?_)
          clear hK K
          try simp only [Act.put, List.setIfInBounds_toArray, List.set_cons_zero, List.set_cons_succ]
          have hb := (Below.refl wtp.heap.size wtp).alloc (Nat.le_refl _) (.cells #[.slice none 0 0, .slice none 0 0, .slice none 0 0] 24)
          have HK0 : (wtp.alloc (.cells #[.slice none 0 0, .slice none 0 0, .slice none 0 0] 24)).heap[wtp.heap.size]? = some (.cells #[.slice none 0 0, .slice none 0 0, .slice none 0 0] 24) := World.alloc_heap_new wtp _
          have HKge0 : wg.heap.size ≤ wtp.heap.size := HX.out.size
          replace HTo := Lib.hid (HTo.out.below hb)
          replace HTp := Lib.hid (HTp.out.below hb)
          replace HX := Lib.hid (HX.out.trans (hb.mono HX.out.size))
          clear hb
          obtain ⟨G, hKK⟩ : ∃ k, wtp.heap.size = k := ⟨_, rfl⟩
          rw [hKK] at HK0 HKge0
          simp only [hKK]
          clear hKK
          generalize wtp.alloc (.cells #[.slice none 0 0, .slice none 0 0, .slice none 0 0] 24) = wtpa at *
          have HK := Lib.hid HK0
          have HKge := Lib.hid HKge0
          clear HK0 HKge0
          refine wpAnyH_ready (rs := [7]) (by kernel_rfl) (by simp) ?_
          refine AllReadyH.cons (o := _) rfl (fun K hK => ?_) AllReadyH.nil
          try simp only [List.getElem_toArray, List.getElem_cons_succ, List.getElem_cons_zero]
          go_simp
          refine (twin_k ea en ec E _ (HRE.out _ (HC.out.trans (HX.out.mono HC.out.size))) (by omega)).mono ?_; rintro e wtq ⟨⟨qa, qc, rfl, ho⟩, hb⟩; have HTq := Lib.hid ho.reads; replace HTo := Lib.hid (HTo.out.below hb); replace HTp := Lib.hid (HTp.out.below hb); replace HK := Lib.hid ((hb.block _ (Array.getElem?_eq_some_iff.1 HK.out).1).trans HK.out); replace HX := Lib.hid (HX.out.trans (hb.mono HX.out.size)); clear hb ho
          go_wp2_with fail
          refine hK.out _ _ (key_cells (HQ.out _ (HC.out.trans (HX.out.mono HC.out.size)))) (fun hHeld => ?_)
          clear hK K
          try simp only [Act.put, List.setIfInBounds_toArray, List.set_cons_zero, List.set_cons_succ]
          refine wpAnyH_ready (rs := [10]) (by kernel_rfl) (by simp) ?_
          refine AllReadyH.cons (o := _) rfl (fun K hK => ?_) AllReadyH.nil
          try simp only [List.getElem_toArray, List.getElem_cons_succ, List.getElem_cons_zero]
          go_simp
          refine (twin_k da dn dc D _ (HRD.out _ (HC.out.trans (HX.out.mono HC.out.size))) (by omega)).mono ?_; rintro e wtr ⟨⟨ra, rc, rfl, ho⟩, hb⟩; have HTr := Lib.hid ho.reads; replace HTo := Lib.hid (HTo.out.below hb); replace HTp := Lib.hid (HTp.out.below hb); replace HTq := Lib.hid (HTq.out.below hb); replace HK := Lib.hid ((hb.block _ (Array.getElem?_eq_some_iff.1 HK.out).1).trans HK.out); replace HX := Lib.hid (HX.out.trans (hb.mono HX.out.size)); clear hb ho
          go_wp2_with fail
          refine hK.out _ _ (key_cells (HQ.out _ (HC.out.trans (HX.out.mono HC.out.size)))) (fun hHeld => ?_)
          clear hK K
          try simp only [Act.put, List.setIfInBounds_toArray, List.set_cons_zero, List.set_cons_succ]
          refine' wpAnyH_take (i := 11) (oi := _) (v := _) rfl (by kernel_rfl) (by kernel_rfl) (by kernel_rfl) (fun _ _ _ h => h) (Or.inl ⟨?_, ?_⟩) (by assumption) ?_
          rotate_left
          all_goals (try simp only [List.getElem_toArray, List.getElem_cons_succ, List.getElem_cons_zero])
          · rfl
          · intro W hSw; (try dsimp only at hSw); go_simp; (try with_reducible rfl)
          try simp only [Act.put, List.setIfInBounds_toArray, List.set_cons_zero, List.set_cons_succ]
          refine' wpAnyH_take (i := 13) (oi := _) (v := _) rfl (by kernel_rfl) (by kernel_rfl) (by kernel_rfl) (fun _ _ _ h => h) (Or.inl ⟨?_, ?_⟩) (by assumption) ?_
          rotate_left
          all_goals (try simp only [List.getElem_toArray, List.getElem_cons_succ, List.getElem_cons_zero])
          · rfl
          · intro W hSw; (try dsimp only at hSw); go_simp; (try with_reducible rfl)
          try simp only [Act.put, List.setIfInBounds_toArray, List.set_cons_zero, List.set_cons_succ]
          obtain ⟨n0, n1, n2⟩ := key_cells HK.out
          have f0 := keyK_frozen HK.out 0
          have f1 := keyK_frozen HK.out 1
          have f2 := keyK_frozen HK.out 2
          refine wpAnyH_ready (rs := [14]) (by kernel_rfl) (by simp) ?_
          refine AllReadyH.cons (o := _) rfl (fun K hK => ?_) AllReadyH.nil
          try simp only [List.getElem_toArray, List.getElem_cons_succ, List.getElem_cons_zero]
          go_simp
          refine hK.out _ _ (key_cells (((three_keeps _ _ _ _ _).2 P (by have h1 := HP0.out; have h2 := HC.out.size; have h3 := HKge.out; omega)).trans (HQ.out _ (HC.out.trans (HX.out.mono HC.out.size))))) (fun hHeld => ?_)
          clear hK K
          try simp only [Act.put, List.setIfInBounds_toArray, List.set_cons_zero, List.set_cons_succ]
          refine wpAnyH_done (by kernel_rfl) ?_ _
          clear hHeld n0 n1 n2 f0 f1 f2
          go_wp2_with fail
          go_meet
          exact ⟨oa, oc, G, pa, pc, qa, qc, ra, rc, rfl, rfl, Lib.hid ⟨three_below wtr G _ _ _ wg wg.heap.size HX.out HKge.out, (apartC HTo.out HK.out (three_keeps wtr G (.slice pa nn pc) (.slice qa en qc) (.slice ra dn rc)).1 (three_keeps wtr G (.slice pa nn pc) (.slice qa en qc) (.slice ra dn rc)).2), three_cells wtr G _ _ _ _ _ _ _ HK.out, Nat.lt_of_lt_of_le (Array.getElem?_eq_some_iff.1 HK.out).1 (three_keeps wtr G (.slice pa nn pc) (.slice qa en qc) (.slice ra dn rc)).1, (apartC HTp.out HK.out (three_keeps wtr G (.slice pa nn pc) (.slice qa en qc) (.slice ra dn rc)).1 (three_keeps wtr G (.slice pa nn pc) (.slice qa en qc) (.slice ra dn rc)).2), (apartC HTq.out HK.out (three_keeps wtr G (.slice pa nn pc) (.slice qa en qc) (.slice ra dn rc)).1 (three_keeps wtr G (.slice pa nn pc) (.slice qa en qc) (.slice ra dn rc)).2), (apartC HTr.out HK.out (three_keeps wtr G (.slice pa nn pc) (.slice qa en qc) (.slice ra dn rc)).1 (three_keeps wtr G (.slice pa nn pc) (.slice qa en qc) (.slice ra dn rc)).2)⟩⟩




      · try simp only [List.getElem_toArray, List.getElem_cons_succ, List.getElem_cons_zero]
        go_simp
        refine hK.out _ _ (key_cells (HQ.out _ (HC.out.trans ((HX.out.alloc HX.out.size _).mono HC.out.size)))) (fun hHeld => ?_)
        clear hK K
        try simp only [Act.put, List.setIfInBounds_toArray, List.set_cons_zero, List.set_cons_succ]
        have hb := (Below.refl wto.heap.size wto).alloc (Nat.le_refl _) (.cells #[.slice none 0 0, .slice none 0 0, .slice none 0 0] 24)
        have HK0 : (wto.alloc (.cells #[.slice none 0 0, .slice none 0 0, .slice none 0 0] 24)).heap[wto.heap.size]? = some (.cells #[.slice none 0 0, .slice none 0 0, .slice none 0 0] 24) := World.alloc_heap_new wto _
        have HKge0 : wg.heap.size ≤ wto.heap.size := HX.out.size
        replace HTo := Lib.hid (HTo.out.below hb)
        replace HX := Lib.hid (HX.out.trans (hb.mono HX.out.size))
        clear hb
        obtain ⟨G, hKK⟩ : ∃ k, wto.heap.size = k := ⟨_, rfl⟩
        rw [hKK] at HK0 HKge0
        simp only [hKK]
        clear hKK
        generalize wto.alloc (.cells #[.slice none 0 0, .slice none 0 0, .slice none 0 0] 24) = wtoa at *
        have HK := Lib.hid HK0
        have HKge := Lib.hid HKge0
        clear HK0 HKge0
        refine wpAnyH_ready (rs := [4]) (by kernel_rfl) (by simp) ?_
        refine AllReadyH.cons (o := _) rfl (fun K hK => ?_) AllReadyH.nil
        try simp only [List.getElem_toArray, List.getElem_cons_succ, List.getElem_cons_zero]
        go_simp
        refine (twin_k na nn nc N _ (HRN.out _ (HC.out.trans (HX.out.mono HC.out.size))) (by omega)).mono ?_; rintro e wtp ⟨⟨pa, pc, rfl, ho⟩, hb⟩; have HTp := Lib.hid ho.reads; replace HTo := Lib.hid (HTo.out.below hb); replace HK := Lib.hid ((hb.block _ (Array.getElem?_eq_some_iff.1 HK.out).1).trans HK.out); replace HX := Lib.hid (HX.out.trans (hb.mono HX.out.size)); clear hb ho
        go_wp2_with fail
        refine hK.out _ _ (key_cells (HQ.out _ (HC.out.trans (HX.out.mono HC.out.size)))) (fun hHeld => ?_)
        clear hK K
        try simp only [Act.put, List.setIfInBounds_toArray, List.set_cons_zero, List.set_cons_succ]
        refine wpAnyH_ready (rs := [7]) (by kernel_rfl) (by simp) ?_
        refine AllReadyH.cons (o := _) rfl (fun K hK => ?_) AllReadyH.nil
        try simp only [List.getElem_toArray, List.getElem_cons_succ, List.getElem_cons_zero]
        go_simp
        refine (twin_k ea en ec E _ (HRE.out _ (HC.out.trans (HX.out.mono HC.out.size))) (by omega)).mono ?_; rintro e wtq ⟨⟨qa, qc, rfl, ho⟩, hb⟩; have HTq := Lib.hid ho.reads; replace HTo := Lib.hid (HTo.out.below hb); replace HTp := Lib.hid (HTp.out.below hb); replace HK := Lib.hid ((hb.block _ (Array.getElem?_eq_some_iff.1 HK.out).1).trans HK.out); replace HX := Lib.hid (HX.out.trans (hb.mono HX.out.size)); clear hb ho
        go_wp2_with fail
        refine hK.out _ _ (key_cells (HQ.out _ (HC.out.trans (HX.out.mono HC.out.size)))) (fun hHeld => ?_)
        clear hK K
        try simp only [Act.put, List.setIfInBounds_toArray, List.set_cons_zero, List.set_cons_succ]
        refine wpAnyH_ready (rs := [10]) (by kernel_rfl) (by simp) ?_
        refine AllReadyH.cons (o := _) rfl (fun K hK => ?_) AllReadyH.nil
        try simp only [List.getElem_toArray, List.getElem_cons_succ, List.getElem_cons_zero]
        go_simp
        refine (twin_k da dn dc D _ (HRD.out _ (HC.out.trans (HX.out.mono HC.out.size))) (by omega)).mono ?_; rintro e wtr ⟨⟨ra, rc, rfl, ho⟩, hb⟩; have HTr := Lib.hid ho.reads; replace HTo := Lib.hid (HTo.out.below hb); replace HTp := Lib.hid (HTp.out.below hb); replace HTq := Lib.hid (HTq.out.below hb); replace HK := Lib.hid ((hb.block _ (Array.getElem?_eq_some_iff.1 HK.out).1).trans HK.out); replace HX := Lib.hid (HX.out.trans (hb.mono HX.out.size)); clear hb ho
        go_wp2_with fail
        refine hK.out _ _ (key_cells (HQ.out _ (HC.out.trans (HX.out.mono HC.out.size)))) (fun hHeld => ?_)
        clear hK K
        try simp only [Act.put, List.setIfInBounds_toArray, List.set_cons_zero, List.set_cons_succ]
        refine' wpAnyH_take (i := 11) (oi := _) (v := _) rfl (by kernel_rfl) (by kernel_rfl) (by kernel_rfl) (fun _ _ _ h => h) (Or.inl ⟨?_, ?_⟩) (by assumption) ?_
        rotate_left
        all_goals (try simp only [List.getElem_toArray, List.getElem_cons_succ, List.getElem_cons_zero])
        · rfl
        · intro W hSw; (try dsimp only at hSw); go_simp; (try with_reducible rfl)
        try simp only [Act.put, List.setIfInBounds_toArray, List.set_cons_zero, List.set_cons_succ]
        refine' wpAnyH_take (i := 13) (oi := _) (v := _) rfl (by kernel_rfl) (by kernel_rfl) (by kernel_rfl) (fun _ _ _ h => h) (Or.inl ⟨?_, ?_⟩) (by assumption) ?_
        rotate_left
        all_goals (try simp only [List.getElem_toArray, List.getElem_cons_succ, List.getElem_cons_zero])
        · rfl
        · intro W hSw; (try dsimp only at hSw); go_simp; (try with_reducible rfl)
        try simp only [Act.put, List.setIfInBounds_toArray, List.set_cons_zero, List.set_cons_succ]
        obtain ⟨n0, n1, n2⟩ := key_cells HK.out
        have f0 := keyK_frozen HK.out 0
        have f1 := keyK_frozen HK.out 1
        have f2 := keyK_frozen HK.out 2
        refine wpAnyH_ready (rs := [14]) (by kernel_rfl) (by simp) ?_
        refine AllReadyH.cons (o := _) rfl (fun K hK => ?_) AllReadyH.nil
        try simp only [List.getElem_toArray, List.getElem_cons_succ, List.getElem_cons_zero]
        go_simp
        refine hK.out _ _ (key_cells (((three_keeps _ _ _ _ _).2 P (by have h1 := HP0.out; have h2 := HC.out.size; have h3 := HKge.out; omega)).trans (HQ.out _ (HC.out.trans (HX.out.mono HC.out.size))))) (fun hHeld => ?_)
        clear hK K
        try simp only [Act.put, List.setIfInBounds_toArray, List.set_cons_zero, List.set_cons_succ]
        refine wpAnyH_done (by kernel_rfl) ?_ _
        clear hHeld n0 n1 n2 f0 f1 f2
        go_wp2_with fail
        go_meet
        exact ⟨oa, oc, G, pa, pc, qa, qc, ra, rc, rfl, rfl, Lib.hid ⟨three_below wtr G _ _ _ wg wg.heap.size HX.out HKge.out, (apartC HTo.out HK.out (three_keeps wtr G (.slice pa nn pc) (.slice qa en qc) (.slice ra dn rc)).1 (three_keeps wtr G (.slice pa nn pc) (.slice qa en qc) (.slice ra dn rc)).2), three_cells wtr G _ _ _ _ _ _ _ HK.out, Nat.lt_of_lt_of_le (Array.getElem?_eq_some_iff.1 HK.out).1 (three_keeps wtr G (.slice pa nn pc) (.slice qa en qc) (.slice ra dn rc)).1, (apartC HTp.out HK.out (three_keeps wtr G (.slice pa nn pc) (.slice qa en qc) (.slice ra dn rc)).1 (three_keeps wtr G (.slice pa nn pc) (.slice qa en qc) (.slice ra dn rc)).2), (apartC HTq.out HK.out (three_keeps wtr G (.slice pa nn pc) (.slice qa en qc) (.slice ra dn rc)).1 (three_keeps wtr G (.slice pa nn pc) (.slice qa en qc) (.slice ra dn rc)).2), (apartC HTr.out HK.out (three_keeps wtr G (.slice pa nn pc) (.slice qa en qc) (.slice ra dn rc)).1 (three_keeps wtr G (.slice pa nn pc) (.slice qa en qc) (.slice ra dn rc)).2)⟩⟩





    · try simp only [List.getElem_toArray, List.getElem_cons_succ, List.getElem_cons_zero]
      go_simp
      refine hK.out _ _ (key_cells (HQ.out _ (HC.out.trans ((HX.out.alloc HX.out.size _).mono HC.out.size)))) (fun hHeld => ?_)
      clear hK K
      try simp only [Act.put, List.setIfInBounds_toArray, List.set_cons_zero, List.set_cons_succ]
      have hb := (Below.refl wd.heap.size wd).alloc (Nat.le_refl _) (.cells #[.slice none 0 0, .slice none 0 0, .slice none 0 0] 24)
      have HK0 : (wd.alloc (.cells #[.slice none 0 0, .slice none 0 0, .slice none 0 0] 24)).heap[wd.heap.size]? = some (.cells #[.slice none 0 0, .slice none 0 0, .slice none 0 0] 24) := World.alloc_heap_new wd _
      have HKge0 : wg.heap.size ≤ wd.heap.size := HX.out.size
      replace HX := Lib.hid (HX.out.trans (hb.mono HX.out.size))
      clear hb
      obtain ⟨G, hKK⟩ : ∃ k, wd.heap.size = k := ⟨_, rfl⟩
      rw [hKK] at HK0 HKge0
      simp only [hKK]
      clear hKK
      generalize wd.alloc (.cells #[.slice none 0 0, .slice none 0 0, .slice none 0 0] 24) = wda at *
      have HK := Lib.hid HK0
      have HKge := Lib.hid HKge0
      clear HK0 HKge0
      refine wpAnyH_ready (rs := [1]) (by kernel_rfl) (by simp) ?_
      refine AllReadyH.cons (o := _) rfl (fun K hK => ?_) AllReadyH.nil
      try simp only [List.getElem_toArray, List.getElem_cons_succ, List.getElem_cons_zero]
      go_simp
      refine (twin_k ba bn bc B _ (HRB.out _ (HC.out.trans (HX.out.mono HC.out.size))) (by omega)).mono ?_; rintro e wto ⟨⟨oa, oc, rfl, ho⟩, hb⟩; have HTo := Lib.hid ho.reads; replace HK := Lib.hid ((hb.block _ (Array.getElem?_eq_some_iff.1 HK.out).1).trans HK.out); replace HX := Lib.hid (HX.out.trans (hb.mono HX.out.size)); clear hb ho
      go_wp2_with fail
      refine hK.out _ _ (key_cells (HQ.out _ (HC.out.trans (HX.out.mono HC.out.size)))) (fun hHeld => ?_)
      clear hK K
      try simp only [Act.put, List.setIfInBounds_toArray, List.set_cons_zero, List.set_cons_succ]
      refine wpAnyH_ready (rs := [4]) (by kernel_rfl) (by simp) ?_
      refine AllReadyH.cons (o := _) rfl (fun K hK => ?_) AllReadyH.nil
      try simp only [List.getElem_toArray, List.getElem_cons_succ, List.getElem_cons_zero]
      go_simp
      refine (twin_k na nn nc N _ (HRN.out _ (HC.out.trans (HX.out.mono HC.out.size))) (by omega)).mono ?_; rintro e wtp ⟨⟨pa, pc, rfl, ho⟩, hb⟩; have HTp := Lib.hid ho.reads; replace HTo := Lib.hid (HTo.out.below hb); replace HK := Lib.hid ((hb.block _ (Array.getElem?_eq_some_iff.1 HK.out).1).trans HK.out); replace HX := Lib.hid (HX.out.trans (hb.mono HX.out.size)); clear hb ho
      go_wp2_with fail
      refine hK.out _ _ (key_cells (HQ.out _ (HC.out.trans (HX.out.mono HC.out.size)))) (fun hHeld => ?_)
      clear hK K
      try simp only [Act.put, List.setIfInBounds_toArray, List.set_cons_zero, List.set_cons_succ]
      refine wpAnyH_ready (rs := [7]) (by kernel_rfl) (by simp) ?_
      refine AllReadyH.cons (o := _) rfl (fun K hK => ?_) AllReadyH.nil
      try simp only [List.getElem_toArray, List.getElem_cons_succ, List.getElem_cons_zero]
      go_simp
      refine (twin_k ea en ec E _ (HRE.out _ (HC.out.trans (HX.out.mono HC.out.size))) (by omega)).mono ?_; rintro e wtq ⟨⟨qa, qc, rfl, ho⟩, hb⟩; have HTq := Lib.hid ho.reads; replace HTo := Lib.hid (HTo.out.below hb); replace HTp := Lib.hid (HTp.out.below hb); replace HK := Lib.hid ((hb.block _ (Array.getElem?_eq_some_iff.1 HK.out).1).trans HK.out); replace HX := Lib.hid (HX.out.trans (hb.mono HX.out.size)); clear hb ho
      go_wp2_with fail
      refine hK.out _ _ (key_cells (HQ.out _ (HC.out.trans (HX.out.mono HC.out.size)))) (fun hHeld => ?_)
      clear hK K
      try simp only [Act.put, List.setIfInBounds_toArray, List.set_cons_zero, List.set_cons_succ]
      refine wpAnyH_ready (rs := [10]) (by kernel_rfl) (by simp) ?_
      refine AllReadyH.cons (o := _) rfl (fun K hK => ?_) AllReadyH.nil
      try simp only [List.getElem_toArray, List.getElem_cons_succ, List.getElem_cons_zero]
      go_simp
      refine (twin_k da dn dc D _ (HRD.out _ (HC.out.trans (HX.out.mono HC.out.size))) (by omega)).mono ?_; rintro e wtr ⟨⟨ra, rc, rfl, ho⟩, hb⟩; have HTr := Lib.hid ho.reads; replace HTo := Lib.hid (HTo.out.below hb); replace HTp := Lib.hid (HTp.out.below hb); replace HTq := Lib.hid (HTq.out.below hb); replace HK := Lib.hid ((hb.block _ (Array.getElem?_eq_some_iff.1 HK.out).1).trans HK.out); replace HX := Lib.hid (HX.out.trans (hb.mono HX.out.size)); clear hb ho
      go_wp2_with fail
      refine hK.out _ _ (key_cells (HQ.out _ (HC.out.trans (HX.out.mono HC.out.size)))) (fun hHeld => ?_)
      clear hK K
      try simp only [Act.put, List.setIfInBounds_toArray, List.set_cons_zero, List.set_cons_succ]
      refine' wpAnyH_take (i := 11) (oi := _) (v := _) rfl (by kernel_rfl) (by kernel_rfl) (by kernel_rfl) (fun _ _ _ h => h) (Or.inl ⟨?_, ?_⟩) (by assumption) ?_
      rotate_left
      all_goals (try simp only [List.getElem_toArray, List.getElem_cons_succ, List.getElem_cons_zero])
      · rfl
      · intro W hSw; (try dsimp only at hSw); go_simp; (try with_reducible rfl)
      try simp only [Act.put, List.setIfInBounds_toArray, List.set_cons_zero, List.set_cons_succ]
      refine' wpAnyH_take (i := 13) (oi := _) (v := _) rfl (by kernel_rfl) (by kernel_rfl) (by kernel_rfl) (fun _ _ _ h => h) (Or.inl ⟨?_, ?_⟩) (by assumption) ?_
      rotate_left
      all_goals (try simp only [List.getElem_toArray, List.getElem_cons_succ, List.getElem_cons_zero])
      · rfl
      · intro W hSw; (try dsimp only at hSw); go_simp; (try with_reducible rfl)
      try simp only [Act.put, List.setIfInBounds_toArray, List.set_cons_zero, List.set_cons_succ]
      obtain ⟨n0, n1, n2⟩ := key_cells HK.out
      have f0 := keyK_frozen HK.out 0
      have f1 := keyK_frozen HK.out 1
      have f2 := keyK_frozen HK.out 2
      refine wpAnyH_ready (rs := [14]) (by kernel_rfl) (by simp) ?_
      refine AllReadyH.cons (o := _) rfl (fun K hK => ?_) AllReadyH.nil
      try simp only [List.getElem_toArray, List.getElem_cons_succ, List.getElem_cons_zero]
      go_simp
      refine hK.out _ _ (key_cells (((three_keeps _ _ _ _ _).2 P (by have h1 := HP0.out; have h2 := HC.out.size; have h3 := HKge.out; omega)).trans (HQ.out _ (HC.out.trans (HX.out.mono HC.out.size))))) (fun hHeld => ?_)
      clear hK K
      try simp only [Act.put, List.setIfInBounds_toArray, List.set_cons_zero, List.set_cons_succ]
      refine wpAnyH_done (by kernel_rfl) ?_ _
      clear hHeld n0 n1 n2 f0 f1 f2
      go_wp2_with fail
      go_meet
      exact ⟨oa, oc, G, pa, pc, qa, qc, ra, rc, rfl, rfl, Lib.hid ⟨three_below wtr G _ _ _ wg wg.heap.size HX.out HKge.out, (apartC HTo.out HK.out (three_keeps wtr G (.slice pa nn pc) (.slice qa en qc) (.slice ra dn rc)).1 (three_keeps wtr G (.slice pa nn pc) (.slice qa en qc) (.slice ra dn rc)).2), three_cells wtr G _ _ _ _ _ _ _ HK.out, Nat.lt_of_lt_of_le (Array.getElem?_eq_some_iff.1 HK.out).1 (three_keeps wtr G (.slice pa nn pc) (.slice qa en qc) (.slice ra dn rc)).1, (apartC HTp.out HK.out (three_keeps wtr G (.slice pa nn pc) (.slice qa en qc) (.slice ra dn rc)).1 (three_keeps wtr G (.slice pa nn pc) (.slice qa en qc) (.slice ra dn rc)).2), (apartC HTq.out HK.out (three_keeps wtr G (.slice pa nn pc) (.slice qa en qc) (.slice ra dn rc)).1 (three_keeps wtr G (.slice pa nn pc) (.slice qa en qc) (.slice ra dn rc)).2), (apartC HTr.out HK.out (three_keeps wtr G (.slice pa nn pc) (.slice qa en qc) (.slice ra dn rc)).1 (three_keeps wtr G (.slice pa nn pc) (.slice qa en qc) (.slice ra dn rc)).2)⟩⟩






  case rest =>
    obtain ⟨oa, oc, G, pa, pc, qa, qc, ra, rc, rfl, rfl, hI⟩ := hcut
    obtain ⟨hx, ho, hg, hgl, hp, hq, hr⟩ := hI.out
    have HGc : Hid (∀ X, Below wc.heap.size wc X → X.cell? ⟨G, 0, none⟩ = some (.slice pa nn pc) ∧ X.cell? ⟨G, 1, none⟩ = some (.slice qa en qc) ∧ X.cell? ⟨G, 2, none⟩ = some (.slice ra dn rc)) := Lib.hid fun X hX => ⟨(hX.cell (p := ⟨G, 0, none⟩) hgl).trans hg.1, (hX.cell (p := ⟨G, 1, none⟩) hgl).trans hg.2.1, (hX.cell (p := ⟨G, 2, none⟩) hgl).trans hg.2.2⟩
    have HTp := Lib.hid (fun (X : World) (hX : Below wc.heap.size wc X) => hp.below hX)
    have HTq := Lib.hid (fun (X : World) (hX : Below wc.heap.size wc X) => hq.below hX)
    have HTr := Lib.hid (fun (X : World) (hX : Below wc.heap.size wc X) => hr.below hX)
    have HTK : Hid (∀ X, Below wc.heap.size wc X → KeyAt X (.agg #[.slice pa nn pc, .slice qa en qc, .slice ra dn rc]) N E D) := Lib.hid fun X hX => ⟨pa, nn, pc, qa, en, qc, ra, dn, rc, rfl, ⟨hp.below hX, HBN.out, g1⟩, ⟨hq.below hX, HBE.out, g2⟩, hr.below hX, HBD.out, g3⟩
    have HOo : Hid (∀ X, Below wc.heap.size wc X → Reads .u8 X oa bn oc B) := Lib.hid fun X hX => ho.below hX
    replace HC := Lib.hid (HC.out.trans (hx.mono HC.out.size))
    have HW := Lib.hid (Below.refl wc.heap.size wc)
    have HWC : Hid (w0.heap.size ≤ wc.heap.size) := Lib.hid HC.out.size
    clear hI hx ho hg hgl hp hq hr
    obtain ⟨R, hR⟩ : ∃ r, rRaise N E B = r := ⟨_, rfl⟩
    have HR1 := Lib.hid hR
    clear hR
    obtain ⟨S, hS⟩ : ∃ r, rLower N E D B = r := ⟨_, rfl⟩
    have HS1 := Lib.hid hS
    clear hS
    obtain ⟨k0, k1, k2⟩ := key_cells (HQ.out _ HC.out)
    obtain ⟨z0, z1, z2⟩ := HGc.out _ HW.out
    go_wp2_with fail
    refine (kraise _ N E D oa bn oc B _ (HTK.out _ HW.out) (HOo.out _ HW.out) HBB.out lb).mono ?_
    rintro e w1 ⟨hq, hb⟩
    rw [HR1.out] at hq
    obtain ⟨v1, rfl, hv⟩ := hq
    obtain ⟨xa, xn, xc, rfl, hxn, ho⟩ := (own_nat hv).slice
    have HXo := Lib.hid ho
    have HXoL := Lib.hid hxn.symm
    have lxn : xn ≤ 9223372036854775807 := by
      have h1 := ho.cap.2
      unfold maxLen at h1
      omega
    clear hv ho hxn
    replace HC := Lib.hid (HC.out.trans (hb.mono HC.out.size))
    replace HW := Lib.hid (HW.out.trans (hb.mono HW.out.size))
    clear hb
    clear k0 k1 k2 z0 z1 z2
    obtain ⟨k0, k1, k2⟩ := key_cells (HQ.out _ HC.out)
    obtain ⟨z0, z1, z2⟩ := HGc.out _ HW.out
    go_wp2_with fail
    refine (krraise _ N E D ba bn bc B _ (HKey.out _ HC.out) (HRB.out _ HC.out) HBB.out lb).mono ?_
    rintro e w2 ⟨hq, hb⟩
    rw [HR1.out] at hq
    obtain ⟨v1, rfl, hv⟩ := hq
    obtain ⟨ya, yn, yc, rfl, hyn, ho⟩ := (own_nat hv).slice
    have HYo := Lib.hid ho
    have HYoL := Lib.hid hyn.symm
    have lyn : yn ≤ 9223372036854775807 := by
      have h1 := ho.cap.2
      unfold maxLen at h1
      omega
    clear hv ho hyn
    replace HXo := Lib.hid (HXo.out.below hb)
    replace HC := Lib.hid (HC.out.trans (hb.mono HC.out.size))
    replace HW := Lib.hid (HW.out.trans (hb.mono HW.out.size))
    clear hb
    clear k0 k1 k2 z0 z1 z2
    have cvx := conv8 HXo.out.reads (u8_byt _)
    have cvy := conv8 HYo.out.reads (u8_byt _)
    obtain ⟨k0, k1, k2⟩ := key_cells (HQ.out _ HC.out)
    obtain ⟨z0, z1, z2⟩ := HGc.out _ HW.out
    go_wp2_with fail
    refine (dear_k na nn nc N ea en ec da dn dc D _ (HRN.out _ HC.out) HBN.out (HRD.out _ HC.out) HBD.out g1 g3).mono ?_
    rintro e w3 ⟨rfl, hb⟩
    clear cvx cvy HYo HYoL lyn
    replace HXo := Lib.hid (HXo.out.below hb)
    replace HC := Lib.hid (HC.out.trans (hb.mono HC.out.size))
    replace HW := Lib.hid (HW.out.trans (hb.mono HW.out.size))
    clear hb
    clear k0 k1 k2 z0 z1 z2
    generalize decide (131072 < bitsN (nV N) * bitsN (nV D)) = dd
    cases dd
    rotate_left
    · go_wp2_with fail
      go_loopw [104] (fun qv wq => ∃ q : Nat, qv = .int .i64 (q : Int) ∧ q ≤ xn ∧ Hid (∃ l', OwnQ .u8 5 wc.heap.size wq (.slice xa xn xc) l' ∧ Byt l' ∧ l'.length = xn ∧ Below wc.heap.size w3 wq)) (fun qv _ => xn - (intOf qv).toNat)
      case atStart => exact ⟨0, rfl, Nat.zero_le _, _, HXo.out, u8_byt _, HXoL.out, Below.refl _ _⟩
      case round =>
        obtain ⟨q, rfl, hq, hI⟩ := hrel
        obtain ⟨l', hI⟩ := hI.out
        have HI := Lib.hid hI
        clear hI
        by_cases hltq : q < xn
        · have tq : decide (q < xn) = true := by simp; omega
          obtain ⟨ob, rfl⟩ : ∃ ob, xa = some ⟨ob, 0, none⟩ := by
            obtain ⟨ob, oc', hov⟩ := HI.out.1.succ (by intro e; have := HI.out.2.2.1; rw [e] at this; simp at this; omega)
            injection hov with h1
            exact ⟨ob, h1⟩
          have cq := HI.out.1.cellAt HI.out.2.2.1.symm q (by omega)
          have fq := HI.out.1.frozenAt HI.out.2.2.1.symm q
          have lx := byt_get HI.out.2.1 q
          generalize l'[q]?.getD 0 = x at *
          obtain ⟨y, hy⟩ : ∃ y, y = (x + 1) % 256 := ⟨_, rfl⟩
          have hyi : ((x : Int) + 1) % 256 = (y : Int) := by omega
          have hyb : y < 256 := by omega
          have hyw : IntKind.u8.wrap ((x : Int) + 1) = (y : Int) := by simp [IntKind.wrap, IntKind.bits, IntKind.signed]; omega
          have HST := Lib.hid (HI.out.1.stored HI.out.2.2.1.symm q y (y : Int) rfl)
          have HBY := Lib.hid (byt_setT HI.out.2.1 q y hyb)
          clear hy
          go_wp2
          go_roundw
          case rel => exact ⟨q + 1, by go_num, by omega, _, HST.out.1, HBY.out, by rw [List.length_set]; exact HI.out.2.2.1, HST.out.2 _ HI.out.2.2.2⟩
          case measure => simp [intOf] <;> omega
        · obtain rfl : q = xn := by omega
          have tq : decide (q < q) = false := by simp
          have hb := HI.out.2.2.2
          replace HC := Lib.hid (HC.out.trans (hb.mono HWC.out))
          replace HW := Lib.hid (HW.out.trans hb)
          clear hb HI HXo HXoL
          obtain ⟨ww, hww⟩ : ∃ x, x = wr := ⟨_, rfl⟩
          subst hww
          have cv1 := conv8 (HOo.out _ HW.out) HBB.out
          have cv2 := conv8 (HRB.out _ HC.out) HBB.out
          have cv3 := conv8 (HTp.out _ HW.out) HBN.out
          have cv4 := conv8 (HRN.out _ HC.out) HBN.out
          have cv5 := conv8 (HTq.out _ HW.out) HBE.out
          have cv6 := conv8 (HRE.out _ HC.out) HBE.out
          have cv7 := conv8 (HTr.out _ HW.out) HBD.out
          have cv8 := conv8 (HRD.out _ HC.out) HBD.out
          obtain ⟨k0, k1, k2⟩ := key_cells (HQ.out _ HC.out)
          obtain ⟨z0, z1, z2⟩ := HGc.out _ HW.out
          go_wp2
          go_ret
          exact ⟨by first | rfl | (simp; done) | (simp; rfl), HPW.out ▸ (HB.out.trans (HC.out.mono HB.out.size))⟩
    · have HXl := HXo
      have HWl := Lib.hid (Below.refl w3.heap.size w3)
      have HWw : Hid (wc.heap.size ≤ w3.heap.size) := Lib.hid HW.out.size
      obtain ⟨k0, k1, k2⟩ := key_cells (HQ.out _ HC.out)
      obtain ⟨z0, z1, z2⟩ := HGc.out _ HW.out
      go_wp2_with fail
      refine (klower _ N E D oa bn oc B _ (HTK.out _ HW.out) (HOo.out _ HW.out) HBB.out lb).mono ?_
      rintro e w4 ⟨hq, hb⟩
      rw [HS1.out] at hq
      obtain ⟨v1, rfl, hv⟩ := hq
      obtain ⟨ca, cn, cc, rfl, hcn, ho⟩ := (own_nat hv).slice
      have HCo := Lib.hid ho
      have HCoL := Lib.hid hcn.symm
      have lcn : cn ≤ 9223372036854775807 := by
        have h1 := ho.cap.2
        unfold maxLen at h1
        omega
      clear hv ho hcn
      replace HWl := Lib.hid (HWl.out.trans (hb.mono HWl.out.size))
      replace HC := Lib.hid (HC.out.trans (hb.mono HC.out.size))
      replace HW := Lib.hid (HW.out.trans (hb.mono HW.out.size))
      clear hb HXo
      clear k0 k1 k2 z0 z1 z2
      obtain ⟨k0, k1, k2⟩ := key_cells (HQ.out _ HC.out)
      obtain ⟨z0, z1, z2⟩ := HGc.out _ HW.out
      go_wp2_with fail
      refine (krlower _ N E D ba bn bc B _ (HKey.out _ HC.out) (HRB.out _ HC.out) HBB.out lb).mono ?_
      rintro e w5 ⟨hq, hb⟩
      rw [HS1.out] at hq
      obtain ⟨v1, rfl, hv⟩ := hq
      obtain ⟨ya, yn, yc, rfl, hyn, ho⟩ := (own_nat hv).slice
      have HDo := Lib.hid ho
      have HDoL := Lib.hid hyn.symm
      have lyn : yn ≤ 9223372036854775807 := by
        have h1 := ho.cap.2
        unfold maxLen at h1
        omega
      clear hv ho hyn
      replace HCo := Lib.hid (HCo.out.below hb)
      replace HWl := Lib.hid (HWl.out.trans (hb.mono HWl.out.size))
      replace HC := Lib.hid (HC.out.trans (hb.mono HC.out.size))
      replace HW := Lib.hid (HW.out.trans (hb.mono HW.out.size))
      clear hb
      clear k0 k1 k2 z0 z1 z2
      have cvx := conv8 HCo.out.reads (u8_byt _)
      have cvy := conv8 HDo.out.reads (u8_byt _)
      go_wp2_with fail
      clear cvx cvy HDo HDoL lyn
      go_loopw [90] (fun qv wq => ∃ q : Nat, qv = .int .i64 (q : Int) ∧ q ≤ cn ∧ Hid (∃ l', OwnQ .u8 5 w3.heap.size wq (.slice ca cn cc) l' ∧ Byt l' ∧ l'.length = cn ∧ Below w3.heap.size w5 wq)) (fun qv _ => cn - (intOf qv).toNat)
      case atStart => exact ⟨0, rfl, Nat.zero_le _, _, HCo.out, u8_byt _, HCoL.out, Below.refl _ _⟩
      case round =>
        obtain ⟨q, rfl, hq, hI⟩ := hrel
        obtain ⟨l', hI⟩ := hI.out
        have HI := Lib.hid hI
        clear hI
        by_cases hltq : q < cn
        · have tq : decide (q < cn) = true := by simp; omega
          obtain ⟨ob, rfl⟩ : ∃ ob, ca = some ⟨ob, 0, none⟩ := by
            obtain ⟨ob, oc', hov⟩ := HI.out.1.succ (by intro e; have := HI.out.2.2.1; rw [e] at this; simp at this; omega)
            injection hov with h1
            exact ⟨ob, h1⟩
          have cq := HI.out.1.cellAt HI.out.2.2.1.symm q (by omega)
          have fq := HI.out.1.frozenAt HI.out.2.2.1.symm q
          have lx := byt_get HI.out.2.1 q
          generalize l'[q]?.getD 0 = x at *
          obtain ⟨y, hy⟩ : ∃ y, y = (x + 1) % 256 := ⟨_, rfl⟩
          have hyi : ((x : Int) + 1) % 256 = (y : Int) := by omega
          have hyb : y < 256 := by omega
          have hyw : IntKind.u8.wrap ((x : Int) + 1) = (y : Int) := by simp [IntKind.wrap, IntKind.bits, IntKind.signed]; omega
          have HST := Lib.hid (HI.out.1.stored HI.out.2.2.1.symm q y (y : Int) rfl)
          have HBY := Lib.hid (byt_setT HI.out.2.1 q y hyb)
          clear hy
          go_wp2
          go_roundw
          case rel => exact ⟨q + 1, by go_num, by omega, _, HST.out.1, HBY.out, by rw [List.length_set]; exact HI.out.2.2.1, HST.out.2 _ HI.out.2.2.2⟩
          case measure => simp [intOf] <;> omega
        · obtain rfl : q = cn := by omega
          have tq : decide (q < q) = false := by simp
          have hb := HI.out.2.2.2
          replace HC := Lib.hid (HC.out.trans (hb.mono (Nat.le_trans HWC.out HWw.out)))
          replace HW := Lib.hid (HW.out.trans (hb.mono HWw.out))
          have HXo := Lib.hid (HXl.out.below (HWl.out.trans hb))
          clear hb HI HXl HWl HCo HCoL lcn
          obtain ⟨wy, hwy⟩ : ∃ x, x = wr := ⟨_, rfl⟩
          subst hwy
          go_wp2_with fail
          go_loopw [104] (fun qv wq => ∃ q2 : Nat, qv = .int .i64 (q2 : Int) ∧ q2 ≤ xn ∧ Hid (∃ l', OwnQ .u8 5 wc.heap.size wq (.slice xa xn xc) l' ∧ Byt l' ∧ l'.length = xn ∧ Below wc.heap.size wy wq)) (fun qv _ => xn - (intOf qv).toNat)
          case atStart => exact ⟨0, rfl, Nat.zero_le _, _, HXo.out, u8_byt _, HXoL.out, Below.refl _ _⟩
          case round =>
            obtain ⟨q2, rfl, hq, hI⟩ := hrel
            obtain ⟨l', hI⟩ := hI.out
            have HI := Lib.hid hI
            clear hI
            by_cases hltq2 : q2 < xn
            · have tq : decide (q2 < xn) = true := by simp; omega
              obtain ⟨ob, rfl⟩ : ∃ ob, xa = some ⟨ob, 0, none⟩ := by
                obtain ⟨ob, oc', hov⟩ := HI.out.1.succ (by intro e; have := HI.out.2.2.1; rw [e] at this; simp at this; omega)
                injection hov with h1
                exact ⟨ob, h1⟩
              have cq := HI.out.1.cellAt HI.out.2.2.1.symm q2 (by omega)
              have fq := HI.out.1.frozenAt HI.out.2.2.1.symm q2
              have lx := byt_get HI.out.2.1 q2
              generalize l'[q2]?.getD 0 = x at *
              obtain ⟨y, hy⟩ : ∃ y, y = (x + 1) % 256 := ⟨_, rfl⟩
              have hyi : ((x : Int) + 1) % 256 = (y : Int) := by omega
              have hyb : y < 256 := by omega
              have hyw : IntKind.u8.wrap ((x : Int) + 1) = (y : Int) := by simp [IntKind.wrap, IntKind.bits, IntKind.signed]; omega
              have HST := Lib.hid (HI.out.1.stored HI.out.2.2.1.symm q2 y (y : Int) rfl)
              have HBY := Lib.hid (byt_setT HI.out.2.1 q2 y hyb)
              clear hy
              go_wp2
              go_roundw
              case rel => exact ⟨q2 + 1, by go_num, by omega, _, HST.out.1, HBY.out, by rw [List.length_set]; exact HI.out.2.2.1, HST.out.2 _ HI.out.2.2.2⟩
              case measure => simp [intOf] <;> omega
            · obtain rfl : q2 = xn := by omega
              have tq : decide (q2 < q2) = false := by simp
              have hb := HI.out.2.2.2
              replace HC := Lib.hid (HC.out.trans (hb.mono HWC.out))
              replace HW := Lib.hid (HW.out.trans hb)
              clear hb HI HXo HXoL
              obtain ⟨ww, hww⟩ : ∃ x, x = wr := ⟨_, rfl⟩
              subst hww
              have cv1 := conv8 (HOo.out _ HW.out) HBB.out
              have cv2 := conv8 (HRB.out _ HC.out) HBB.out
              have cv3 := conv8 (HTp.out _ HW.out) HBN.out
              have cv4 := conv8 (HRN.out _ HC.out) HBN.out
              have cv5 := conv8 (HTq.out _ HW.out) HBE.out
              have cv6 := conv8 (HRE.out _ HC.out) HBE.out
              have cv7 := conv8 (HTr.out _ HW.out) HBD.out
              have cv8 := conv8 (HRD.out _ HC.out) HBD.out
              obtain ⟨k0, k1, k2⟩ := key_cells (HQ.out _ HC.out)
              obtain ⟨z0, z1, z2⟩ := HGc.out _ HW.out
              go_wp2
              go_ret
              exact ⟨by first | rfl | (simp; done) | (simp; rfl), HPW.out ▸ (HB.out.trans (HC.out.mono HB.out.size))⟩

end Go.Proofs.Ytpefjkndfifceaa
