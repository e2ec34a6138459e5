/-
  SHA-256: pieces, an iterator. (Written by wip/gen_shaG.py.)
-/
import Derived.RangeFuncNested
import Derived.RangeFuncBound
import Derived.RangeFuncCalls
import Derived.RangeFuncLeaves
import Derived.RangeFuncBox
import Derived.Shelf.Abstract
import Derived.Shelf.RegionOpen
import Derived.WalkKit
import Derived.OwnWalkIn
import Derived.TacticsInMore
import Derived.LoopNIn
import Derived.LoopIn
import Derived.Lib.OthersKept
import Derived.Test.YtmfjhgjplmpecaaDoorSeqR
import Derived.Test.YtmfjhgjplmpecaaDoorShaF
namespace Go.Proofs.YtmfjhgjplmpecaaDoor
open Go.RowKit Go.Shelf
attribute [local go_sem] Oper.semAt_some

/-- Where piece number j begins. -/
def stP (n r : Nat) : Nat → Nat
  | 0 => 0
  | j + 1 => min n (r + 64 * j)
/-- How much room there is ahead of it. -/
def rmP (r : Nat) : Nat → Nat
  | 0 => r
  | _ + 1 => 64
theorem stP_le (n r : Nat) : ∀ j, stP n r j ≤ n
  | 0 => Nat.zero_le _
  | _ + 1 => Nat.min_le_left _ _
theorem stP_next (n r : Nat) : ∀ j, stP n r j < n → stP n r (j + 1) = stP n r j + min (rmP r j) (n - stP n r j)
  | 0, _ => by simp [stP, rmP]; omega
  | j + 1, h => by simp only [stP, rmP] at h ⊢; omega
/-- The first pieces. -/
def pcs (n r m : Nat) : List (Nat × Nat) := (List.range m).map fun j => (stP n r j, stP n r (j + 1) - stP n r j)
theorem pcs_succ (n r m : Nat) : pcs n r (m + 1) = pcs n r m ++ [(stP n r m, stP n r (m + 1) - stP n r m)] := by
  unfold pcs
  rw [List.range_succ, List.map_append]
  rfl
/-- What one round is handed: where its piece begins, and how long it is. -/
abbrev Pc (C : Nat × Nat → Prop) := { p : Nat × Nat // C p }
abbrev encP (blk off cap : Nat) {C : Nat × Nat → Prop} (x : Pc C) : Array Value := #[.slice (some ⟨blk, off + x.1.1, none⟩) x.1.2 (cap - x.1.1)]
def sliceLen : Option Value → Nat
  | some (.slice _ m _) => m
  | _ => 0

set_option maxRecDepth 100000 in
set_option maxHeartbeats 4000000 in
theorem pieces_come (fn : Nat) (hfn : 1 ≤ fn) (C : Nat × Nat → Prop) (bb br blk off n cap r : Nat) (a0 : Option Addr) (w : World) (hb : Boxed w bb 23 (.slice a0 n cap)) (hr : Boxed w br 3 (.int .i64 (r : Int))) (hne : bb ≠ br)
    (ha : 0 < n → a0 = some ⟨blk, off, none⟩) (hnc : n ≤ cap) (hcm : cap ≤ maxLen) (hr1 : 1 ≤ r) (hr2 : r ≤ 64) (hC : ∀ j, stP n r j < n → C (stP n r j, stP n r (j + 1) - stP n r j)) :
    SeqR (fun k => k = bb ∨ k = br) Fence.wide fn Tryd.prog 64 #[.pointer (some ⟨bb, 0, none⟩), .pointer (some ⟨br, 0, none⟩)] (encP blk off cap (C := C)) (fun xs => ∃ m, xs.map (·.1) = pcs n r m ∧ stP n r m = n) (fun pre => ∃ m, pre.map (·.1) = pcs n r (m + 1) ∧ stP n r m < n) w := fun lp J Jx W hW hJ hJx hY h0 => by
  have bB : Boxed W bb 23 (.slice a0 n cap) := (hW.block bb hb.lt).trans hb
  have bR : Boxed W br 3 (.int .i64 (r : Int)) := (hW.block br hr.lt).trans hr
  unfold maxLen at hcm
  have HJ := Lib.hid hJ
  have HA := Lib.hid ha
  have BB := Lib.hid bB
  have BR := Lib.hid bR
  have HC := Lib.hid hC
  clear hb hr hW hJ hJx ha bB bR hC
  refine callsIn_of_wp Tryd.func64 rfl trivial ?_ rfl
  simp only [Tryd.ntmps64, List.size_toArray, List.length_cons, List.length_nil, Nat.reduceAdd, Nat.reduceSub, Array.replicate_succ, Array.replicate_zero, List.push_toArray, List.append_toArray, List.nil_append, List.cons_append]
  gi_wp2
  gi_loopw [] (fun wr => ∃ (j m c ro : Nat) (a : Option Addr), Hid (Boxed wr bb 23 (.slice a m c) ∧ Boxed wr br 3 (.int .i64 (ro : Int)) ∧ m = n - stP n r j ∧ c = cap - stP n r j ∧ ro = rmP r j ∧ (0 < m → a = some ⟨blk, off + stP n r j, none⟩) ∧ ∃ pre : List (Pc C), pre.map (·.1) = pcs n r j ∧ J pre wr)) (fun wr => sliceLen (wr.cell? ⟨bb, 0, none⟩))
  case atStart => exact ⟨0, n, cap, r, a0, BB.out, BR.out, rfl, rfl, rfl, fun h => HA.out h, [], rfl, h0⟩
  case round =>
    obtain ⟨j, m, c, ro, a, hI⟩ := hrel
    obtain ⟨b1, b2, hm, hc, hro, had, pre, hpre, hj⟩ := hI.out
    clear hI
    have cb := b1.cell
    have cr := b2.cell
    have fb := b1.frozen
    have fr := b2.frozen
    have B1 := Lib.hid b1
    have B2 := Lib.hid b2
    have HRO := Lib.hid hro
    have HPRE := Lib.hid hpre
    have HJ1 := Lib.hid hj
    have hstn := stP_le n r j
    rcases Nat.eq_zero_or_pos m with h0m | hpos
    · subst h0m
      have HF := Lib.hid (show stP n r j = n by omega)
      clear hm hc hro had hpre hj
      gi_wp2
      go_end0
      exact ⟨⟨_, rfl⟩, .inl ⟨pre, ⟨j, HPRE.out, HF.out⟩, HJ1.out⟩⟩
    · obtain rfl := had hpos
      have hlt : stP n r j < n := by omega
      have hnx := stP_next n r j hlt
      rw [← hro, ← hm] at hnx
      have hro1 : 1 ≤ ro := by rw [hro]; cases j with | zero => exact hr1 | succ j => show 1 ≤ 64; decide
      have hmc : m ≤ c := by omega
      have hcm2 : c ≤ 9223372036854775807 := by omega
      have hro64 : ro ≤ 64 := by rw [hro]; cases j with | zero => exact hr2 | succ j => show 64 ≤ 64; decide
      obtain ⟨s, hs⟩ : ∃ s, s = stP n r j := ⟨_, rfl⟩
      rcases Nat.lt_or_ge m ro with hrm | hrm
      · have hz : min ro m = m := by omega
        rw [hz] at hnx
        have hz1 : 1 ≤ m := by omega
        have hCx : C (s, m) := by
          have := HC.out j hlt
          rw [hnx, Nat.add_sub_cancel_left, ← hs] at this
          exact this
        obtain ⟨fn1, tmps, assign, body, hy, hR⟩ := hY pre ⟨(s, m), hCx⟩ wr hj
        simp only [encP] at hy
        rw [← hs] at hnx hc hm cb hstn B1
        rw [← hc] at hy
        have HR := Lib.hid hR
        have HS := Lib.hid hs
        have HP1 := Lib.hid (show (pre ++ [(⟨(s, m), hCx⟩ : Pc C)]).map (·.1) = pcs n r (j + 1) by rw [List.map_append, pcs_succ, HPRE.out, hnx, ← hs, Nat.add_sub_cancel_left]; rfl)
        have HNX := Lib.hid hnx
        have HM := Lib.hid hm
        have HCC := Lib.hid hc
        clear hm hc hro hpre hj hnx hz hs had hR
        gi_wp2_with fail
        refine HR.out.mono ?_
        rintro e W3 (⟨rfl, hJ3, hk3⟩ | ⟨rfl, hx3⟩)
        · have b3 : Boxed W3 bb 23 (.slice (some ⟨blk, off + s, none⟩) m c) := (hk3.2 bb (.inl rfl)).trans B1.out
          have b4 : Boxed W3 br 3 (.int .i64 (ro : Int)) := (hk3.2 br (.inr rfl)).trans B2.out
          have c3 := b3.cell
          have f3 := b3.frozen
          have f4 := b4.frozen
          have c4 := b4.cell
          have hne2 := Ne.symm hne
          have B3 := Lib.hid b3
          have B4 := Lib.hid b4
          have J3 := Lib.hid hJ3
          clear hJ3 hk3 cb cr fb fr b3 b4 b1 b2
          have fin := Lib.hid (show ∀ (a' : Option Addr) (m' c' : Nat), m' = n - stP n r (j + 1) → c' = cap - stP n r (j + 1) → (0 < m' → a' = some ⟨blk, off + stP n r (j + 1), none⟩) → m' < m → (∃ (j m c ro : Nat) (a : Option Addr), Hid (Boxed ((W3.setCell ⟨bb, 0, none⟩ (.slice a' m' c')).setCell ⟨br, 0, none⟩ (.int .i64 64)) bb 23 (.slice a m c) ∧ Boxed ((W3.setCell ⟨bb, 0, none⟩ (.slice a' m' c')).setCell ⟨br, 0, none⟩ (.int .i64 64)) br 3 (.int .i64 (ro : Int)) ∧ m = n - stP n r j ∧ c = cap - stP n r j ∧ ro = rmP r j ∧ (0 < m → a = some ⟨blk, off + stP n r j, none⟩) ∧ ∃ pre : List (Pc C), pre.map (·.1) = pcs n r j ∧ J pre ((W3.setCell ⟨bb, 0, none⟩ (.slice a' m' c')).setCell ⟨br, 0, none⟩ (.int .i64 64)))) ∧ sliceLen (((W3.setCell ⟨bb, 0, none⟩ (.slice a' m' c')).setCell ⟨br, 0, none⟩ (.int .i64 64)).cell? ⟨bb, 0, none⟩) < sliceLen (wr.cell? ⟨bb, 0, none⟩) from fun a' m' c' h1 h2 h3 h4 => by
            have k1 : Boxed ((W3.setCell ⟨bb, 0, none⟩ (.slice a' m' c')).setCell ⟨br, 0, none⟩ (.int .i64 64)) bb 23 (.slice a' m' c') := (B3.out.set _).other hne _
            refine ⟨⟨j + 1, m', c', 64, a', k1, (B4.out.other hne2 _).set _, h1, h2, rfl, h3, _, HP1.out, ?_⟩, ?_⟩
            · exact HJ.out _ _ _ (some br) (HJ.out _ _ _ (some bb) J3.out (grownBy_setCell' W3 bb _) (fun r e => by cases e; exact .inl rfl)) (grownBy_setCell' _ br _) (fun r e => by cases e; exact .inr rfl)
            · rw [k1.cell, B1.out.cell]
              exact h4)
          by_cases hcz : c = m
          · have hmz : m = m := by omega
            have HZ := Lib.hid (show m = n - s ∧ m = cap - s by have h1 := HM.out; have h2 := HCC.out; omega)
            clear hmz
            subst hcz
            gi_wp2_with fail
            exact fin.out _ _ _ (by have e1 := HNX.out; have e2 := HM.out; have e3 := HCC.out; have e4 := HS.out; omega) (by have e1 := HNX.out; have e2 := HM.out; have e3 := HCC.out; have e4 := HS.out; omega) (fun h => by first | omega | (rw [HNX.out, Nat.add_assoc])) (by omega)
          · gi_wp2_with fail
            exact fin.out _ _ _ (by have e1 := HNX.out; have e2 := HM.out; have e3 := HCC.out; have e4 := HS.out; omega) (by have e1 := HNX.out; have e2 := HM.out; have e3 := HCC.out; have e4 := HS.out; omega) (fun h => by first | omega | (rw [HNX.out, Nat.add_assoc])) (by omega)
        · have HX3 := Lib.hid hx3
          clear hx3
          gi_wp2
          refine bodyPost_ret (results_none rfl _ _ _) rfl ?_
          exact ⟨⟨_, rfl⟩, .inr ⟨_, ⟨j, HP1.out, by rw [← HS.out]; have := HM.out; omega⟩, HX3.out⟩⟩
      · have hz : min ro m = ro := by omega
        rw [hz] at hnx
        have hz1 : 1 ≤ ro := by omega
        have hCx : C (s, ro) := by
          have := HC.out j hlt
          rw [hnx, Nat.add_sub_cancel_left, ← hs] at this
          exact this
        obtain ⟨fn1, tmps, assign, body, hy, hR⟩ := hY pre ⟨(s, ro), hCx⟩ wr hj
        simp only [encP] at hy
        rw [← hs] at hnx hc hm cb hstn B1
        rw [← hc] at hy
        have HR := Lib.hid hR
        have HS := Lib.hid hs
        have HP1 := Lib.hid (show (pre ++ [(⟨(s, ro), hCx⟩ : Pc C)]).map (·.1) = pcs n r (j + 1) by rw [List.map_append, pcs_succ, HPRE.out, hnx, ← hs, Nat.add_sub_cancel_left]; rfl)
        have HNX := Lib.hid hnx
        have HM := Lib.hid hm
        have HCC := Lib.hid hc
        clear hm hc hro hpre hj hnx hz hs had hR
        gi_wp2_with fail
        refine HR.out.mono ?_
        rintro e W3 (⟨rfl, hJ3, hk3⟩ | ⟨rfl, hx3⟩)
        · have b3 : Boxed W3 bb 23 (.slice (some ⟨blk, off + s, none⟩) m c) := (hk3.2 bb (.inl rfl)).trans B1.out
          have b4 : Boxed W3 br 3 (.int .i64 (ro : Int)) := (hk3.2 br (.inr rfl)).trans B2.out
          have c3 := b3.cell
          have f3 := b3.frozen
          have f4 := b4.frozen
          have c4 := b4.cell
          have hne2 := Ne.symm hne
          have B3 := Lib.hid b3
          have B4 := Lib.hid b4
          have J3 := Lib.hid hJ3
          clear hJ3 hk3 cb cr fb fr b3 b4 b1 b2
          have fin := Lib.hid (show ∀ (a' : Option Addr) (m' c' : Nat), m' = n - stP n r (j + 1) → c' = cap - stP n r (j + 1) → (0 < m' → a' = some ⟨blk, off + stP n r (j + 1), none⟩) → m' < m → (∃ (j m c ro : Nat) (a : Option Addr), Hid (Boxed ((W3.setCell ⟨bb, 0, none⟩ (.slice a' m' c')).setCell ⟨br, 0, none⟩ (.int .i64 64)) bb 23 (.slice a m c) ∧ Boxed ((W3.setCell ⟨bb, 0, none⟩ (.slice a' m' c')).setCell ⟨br, 0, none⟩ (.int .i64 64)) br 3 (.int .i64 (ro : Int)) ∧ m = n - stP n r j ∧ c = cap - stP n r j ∧ ro = rmP r j ∧ (0 < m → a = some ⟨blk, off + stP n r j, none⟩) ∧ ∃ pre : List (Pc C), pre.map (·.1) = pcs n r j ∧ J pre ((W3.setCell ⟨bb, 0, none⟩ (.slice a' m' c')).setCell ⟨br, 0, none⟩ (.int .i64 64)))) ∧ sliceLen (((W3.setCell ⟨bb, 0, none⟩ (.slice a' m' c')).setCell ⟨br, 0, none⟩ (.int .i64 64)).cell? ⟨bb, 0, none⟩) < sliceLen (wr.cell? ⟨bb, 0, none⟩) from fun a' m' c' h1 h2 h3 h4 => by
            have k1 : Boxed ((W3.setCell ⟨bb, 0, none⟩ (.slice a' m' c')).setCell ⟨br, 0, none⟩ (.int .i64 64)) bb 23 (.slice a' m' c') := (B3.out.set _).other hne _
            refine ⟨⟨j + 1, m', c', 64, a', k1, (B4.out.other hne2 _).set _, h1, h2, rfl, h3, _, HP1.out, ?_⟩, ?_⟩
            · exact HJ.out _ _ _ (some br) (HJ.out _ _ _ (some bb) J3.out (grownBy_setCell' W3 bb _) (fun r e => by cases e; exact .inl rfl)) (grownBy_setCell' _ br _) (fun r e => by cases e; exact .inr rfl)
            · rw [k1.cell, B1.out.cell]
              exact h4)
          by_cases hcz : c = ro
          · have hmz : m = ro := by omega
            have HZ := Lib.hid (show ro = n - s ∧ ro = cap - s by have h1 := HM.out; have h2 := HCC.out; omega)
            subst hmz
            subst hcz
            gi_wp2_with fail
            exact fin.out _ _ _ (by have e1 := HNX.out; have e2 := HM.out; have e3 := HCC.out; have e4 := HS.out; omega) (by have e1 := HNX.out; have e2 := HM.out; have e3 := HCC.out; have e4 := HS.out; omega) (fun h => by first | omega | (rw [HNX.out, Nat.add_assoc])) (by omega)
          · gi_wp2_with fail
            exact fin.out _ _ _ (by have e1 := HNX.out; have e2 := HM.out; have e3 := HCC.out; have e4 := HS.out; omega) (by have e1 := HNX.out; have e2 := HM.out; have e3 := HCC.out; have e4 := HS.out; omega) (fun h => by first | omega | (rw [HNX.out, Nat.add_assoc])) (by omega)
        · have HX3 := Lib.hid hx3
          clear hx3
          gi_wp2
          refine bodyPost_ret (results_none rfl _ _ _) rfl ?_
          exact ⟨⟨_, rfl⟩, .inr ⟨_, ⟨j, HP1.out, by rw [← HS.out]; have := HM.out; omega⟩, HX3.out⟩⟩

end Go.Proofs.YtmfjhgjplmpecaaDoor
