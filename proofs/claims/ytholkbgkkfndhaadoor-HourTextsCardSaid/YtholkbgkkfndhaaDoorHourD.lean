/-
  HOUR: THE ITERATOR OF A TEXT's FIELDS.
-/
import Derived.RangeFuncNested
import Derived.RangeFuncBound
import Derived.RangeFuncCalls
import Derived.RangeFuncLeaves
import Derived.RangeFuncBox
import Derived.Shelf.Abstract
import Derived.Shelf.RegionOpen
import Derived.WalkKit
import Derived.OwnWalkIn
import Derived.TacticsInMore
import Derived.LoopNIn
import Derived.LoopIn
import Derived.Lib.OthersKept
import Derived.Test.YtholkbgkkfndhaaDoorSeqW
import Derived.Test.YtholkbgkkfndhaaDoorHourC
namespace Go.Proofs.YtholkbgkkfndhaaDoor
open Go.RowKit Go.Shelf
attribute [local go_sem] Oper.semAt_some
set_option maxRecDepth 100000

/-- What a round is handed. -/
abbrev encF (x : Int × Bool) : Array Value := #[.int .i64 x.1, .bool x.2]

/-- All that the iterator tells, so many rounds. -/
def seqF : Nat → Nat → List UInt8 → List (Int × Bool)
  | 0, _, _ => []
  | k + 1, size, s => if s.length < size then [(0, false)] else atoiR (s.take size) :: seqF k 2 (s.drop size)

theorem seqF_length : ∀ k size s, (seqF k size s).length ≤ k
  | 0, _, _ => Nat.le_refl _
  | k + 1, size, s => by
    unfold seqF
    split
    · simp
    · rw [List.length_cons]
      have := seqF_length k 2 (s.drop size)
      omega
theorem seqF_pre {pre r : List (Int × Bool)} {x : Int × Bool} {yd : Nat} {s : List UInt8} (h : pre ++ [x] ++ r = seqF 6 yd s) : pre.length < 6 := by
  have h1 := seqF_length 6 yd s
  rw [← h] at h1
  simp only [List.length_append, List.length_singleton] at h1
  omega

theorem str_to (l : List UInt8) (k : Nat) : (⟨l.toArray⟩ : ByteArray).extract 0 k = ⟨(l.take k).toArray⟩ := by
  apply ByteArray.ext
  rw [ByteArray.data_extract]
  simp only [List.extract_toArray, List.extract_eq_take_drop]
  rfl

theorem Libs.same {w w' : World} (h : Libs w) (h1 : w'.heap[0]? = w.heap[0]?) (h2 : w'.heap[4]? = w.heap[4]?) (h3 : w'.heap[5]? = w.heap[5]?) : Libs w' := by
  refine ⟨?_, ?_, ?_⟩
  · have h := h.tab
    unfold Tab Lib.TabIs World.var? at h ⊢
    rw [tab_name] at h ⊢
    simp only [Option.bind_some] at h ⊢
    rw [h1]
    exact h
  · obtain ⟨v, hv, hk⟩ := h.syn
    exact ⟨v, (World.cell?_of_block (a := ⟨_, 0, .none⟩) h2).trans hv, hk⟩
  · obtain ⟨v, hv, hk⟩ := h.rng
    exact ⟨v, (World.cell?_of_block (a := ⟨_, 0, .none⟩) h3).trans hv, hk⟩

theorem Libs.set {w : World} {b : Nat} {v : Value} (h : Libs w) (h1 : 0 ≠ b) (h2 : 4 ≠ b) (h3 : 5 ≠ b) : Libs (w.setCell ⟨b, 0, none⟩ v) :=
  h.same (Below.heap_setCell _ _ _ _ h1) (Below.heap_setCell _ _ _ _ h2) (Below.heap_setCell _ _ _ _ h3)

theorem grown_below {x y : World} (h : Below x.heap.size x y) (r : Option Nat) : x.grownBy y r := ⟨h.os, h.tape, h.output, h.size, fun i hi _ => h.block i hi⟩

theorem hz3s {B : Nat} (W : World) (b : Nat) (v : Value) (h : B ≤ W.heap.size) : B ≤ (W.setCell ⟨b, 0, none⟩ v).heap.size := Nat.le_trans h (grownBy_setCell' W b v).size

set_option maxHeartbeats 4000000 in
theorem fields_come (n : Nat) (hn : 1 ≤ n) (s : List UInt8) (yd : Nat) (hy1 : 1 ≤ yd) (hyd : yd ≤ 10) (hs : s.length ≤ 1000) (B bY bs : Nat) (w : World) (hL : Libs w) (hg1 : 0 < B) (hg2 : 4 < B) (hg3 : 5 < B)
    (hbY : Boxed w bY 3 (.int .i64 (yd : Int))) (hbs : Boxed w bs 9 (.string ⟨s.toArray⟩)) (hne : bY ≠ bs) (hBs : B ≤ bs) (hBw : B ≤ w.heap.size) :
    SeqW (fun k => k < B ∨ k = bY ∨ k = bs) (fun k => k = bs) Fence.wide n Tryd.prog 55 #[.pointer (some ⟨bY, 0, none⟩), .pointer (some ⟨bs, 0, none⟩)] encF (fun xs => xs = seqF 6 yd s) (fun pre => ∃ r, pre ++ r = seqF 6 yd s) 6 w := fun lp J Jx W hW hJ hJx hY h0 => by
  have BY := Lib.hid (show Boxed W bY 3 (.int .i64 (yd : Int)) from (hW.block bY hbY.lt).trans hbY)
  have BS := Lib.hid (show Boxed W bs 9 (.string ⟨s.toArray⟩) from (hW.block bs hbs.lt).trans hbs)
  have HL := Lib.hid (hL.below hW)
  have HJ := Lib.hid hJ
  have HY := Lib.hid hY
  have HJ0 := Lib.hid h0
  have hBW : B ≤ W.heap.size := Nat.le_trans hBw hW.size
  have cy0 := BY.out.cell
  clear hJ hJx hY h0 hW hL hbY hbs hBw
  refine callsIn_of_wp Tryd.func55 rfl trivial ?_ rfl
  simp only [Tryd.ntmps55, List.size_toArray, List.length_cons, List.length_nil, Nat.reduceAdd, Nat.reduceSub, Array.replicate_succ, Array.replicate_zero, List.push_toArray, List.append_toArray, List.nil_append, List.cons_append]
  gi_wp2_with fail
  clear cy0
  gi_loopw [4, 8] (fun sv iv wr => ∃ (i size : Nat) (rest : List UInt8), iv = .int .i64 (i : Int) ∧ sv = .int .i64 (size : Int) ∧ i ≤ 6 ∧ size ≤ 10 ∧ rest.length ≤ 1000 ∧ Hid (Boxed wr bs 9 (.string ⟨rest.toArray⟩) ∧ Boxed wr bY 3 (.int .i64 (yd : Int)) ∧ Libs wr ∧ B ≤ wr.heap.size ∧ ∃ pre, pre ++ seqF (6 - i) size rest = seqF 6 yd s ∧ J pre wr)) (fun _ iv _ => 6 - (intOf iv).toNat)
  case atStart => exact ⟨0, yd, s, rfl, rfl, by omega, by omega, hs, BS.out, BY.out, HL.out, hBW, [], rfl, HJ0.out⟩
  case round =>
    obtain ⟨i, size, rest, rfl, rfl, hi6, hsz, hrl, hI⟩ := hrel
    obtain ⟨b1, b2, hlb, hz, pre, hpre, hj⟩ := hI.out
    have c1 := b1.cell
    have B1 := Lib.hid b1
    have B2 := Lib.hid b2
    have HLR := Lib.hid hlb
    have HSEQ := Lib.hid hpre
    have HJ1 := Lib.hid hj
    clear hI b1 b2 hlb hpre hj
    by_cases hi : i = 6
    · have HSQ := Lib.hid (show pre = seqF 6 yd s by rw [← HSEQ.out, hi]; show pre = pre ++ []; rw [List.append_nil])
      subst hi
      gi_wp2
      go_end0
      exact ⟨⟨_, rfl⟩, .inl ⟨pre, HSQ.out, HJ1.out⟩⟩
    · have hi5 : i < 6 := by omega
      clear hi
      by_cases hsh : rest.length < size
      · have HSQ := Lib.hid (show pre ++ [((0 : Int), false)] = seqF 6 yd s by
          rw [← HSEQ.out, show 6 - i = (5 - i) + 1 by omega, seqF, if_pos hsh])
        obtain ⟨fn1, tmps, assign, body, hy, hR⟩ := HY.out pre (0, false) wr (seqF_pre (r := []) (by rw [List.append_nil]; exact HSQ.out)) HJ1.out
        simp only [encF] at hy
        have HR := Lib.hid hR
        clear hR
        gi_wp2_with fail
        refine HR.out.mono ?_
        rintro e W3 (⟨rfl, hJ3, hk3⟩ | ⟨rfl, hx3⟩)
        · have J3 := Lib.hid hJ3
          clear hJ3 hk3
          gi_wp2
          refine bodyPost_ret (results_none rfl _ _ _) rfl ?_
          exact ⟨⟨_, rfl⟩, .inl ⟨_, HSQ.out, J3.out⟩⟩
        · have HX3 := Lib.hid hx3
          clear hx3
          gi_wp2
          refine bodyPost_ret (results_none rfl _ _ _) rfl ?_
          exact ⟨⟨_, rfl⟩, .inr ⟨_, ⟨[], by rw [List.append_nil]; exact HSQ.out⟩, HX3.out⟩⟩
      · have HNX := Lib.hid (show seqF (6 - i) size rest = atoiR (rest.take size) :: seqF (6 - (i + 1)) 2 (rest.drop size) by
          rw [show 6 - i = (6 - (i + 1)) + 1 by omega, seqF, if_neg hsh])
        have hge : size ≤ rest.length := by omega
        have HLT := Lib.hid (show pre.length < 6 from seqF_pre (x := atoiR (rest.take size)) (r := seqF (6 - (i + 1)) 2 (rest.drop size)) (by rw [List.append_assoc, ← HSEQ.out, HNX.out]; rfl))
        clear hsh
        gi_wp2_with fail
        refine ⟨trivial, ?_⟩
        rw [str_to]
        refine (callsIn_wide.2 (atoi_any (rest.take size) (by rw [List.length_take]; omega) _ HLR.out)).mono ?_
        rintro e w1 ⟨hr, hb⟩
        have C1 := Lib.hid (show Boxed w1 bs 9 (.string ⟨rest.toArray⟩) from (hb.block bs B1.out.lt).trans B1.out)
        have C2 := Lib.hid (show Boxed w1 bY 3 (.int .i64 (yd : Int)) from (hb.block bY B2.out.lt).trans B2.out)
        have L1 := Lib.hid (HLR.out.below hb)
        have J1 := HJ.out _ _ _ none HJ1.out (grown_below hb none) (fun r e => by cases e)
        have hz1 : B ≤ w1.heap.size := Nat.le_trans hz hb.size
        unfold RetsAtoi at hr
        clear hb c1 HJ1
        generalize atoiR (rest.take size) = vb at hr HNX
        obtain ⟨v, b⟩ := vb
        dsimp only at hr
        rcases hr with ⟨rfl, rfl⟩ | ⟨rfl, et, N, rfl⟩
        · skip
          obtain ⟨fn1, tmps, assign, body, hy, hR⟩ := HY.out pre (v, true) w1 (HLT.out) J1
          simp only [encF] at hy
          have HR := Lib.hid hR
          clear hR
          gi_wp2_with fail
          refine HR.out.mono ?_
          rintro e W3 (⟨rfl, hJ3, hk3⟩ | ⟨rfl, hx3⟩)
          · have b3 : Boxed W3 bs 9 (.string ⟨rest.toArray⟩) := (hk3.2 bs (.inr (.inr rfl))).trans C1.out
            have b4 : Boxed W3 bY 3 (.int .i64 (yd : Int)) := (hk3.2 bY (.inr (.inl rfl))).trans C2.out
            have HL3 := Lib.hid (Libs.same L1.out (hk3.2 _ (.inl hg1)) (hk3.2 _ (.inl hg2)) (hk3.2 _ (.inl hg3)))
            have hz3 : B ≤ W3.heap.size := Nat.le_trans hz1 hk3.1
            have c3 := b3.cell
            have f3 := b3.frozen
            have B3 := Lib.hid b3
            have B4 := Lib.hid b4
            have J3 := Lib.hid hJ3
            clear hJ3 hk3 b3 b4
            gi_wp2
            go_roundw
            case rel =>
              refine ⟨i + 1, 2, rest.drop size, by go_num, by go_num, by omega, by omega, by rw [List.length_drop]; omega, ?_⟩
              refine ⟨?_, B4.out.other hne _, ?_, ?_, pre ++ [(v, true)], ?_, ?_⟩
              · rw [str_from]
                exact B3.out.set _
              · exact HL3.out.set (by omega) (by omega) (by omega)
              · exact hz3s W3 bs _ hz3
              · rw [List.append_assoc, ← HSEQ.out, HNX.out]
                rfl
              · exact HJ.out _ _ _ (some bs) J3.out (grownBy_setCell' W3 bs _) (fun r e => by cases e; rfl)
            case measure => simp [intOf]; omega
          · have HX3 := Lib.hid hx3
            clear hx3
            gi_wp2
            refine bodyPost_ret (results_none rfl _ _ _) rfl ?_
            refine ⟨⟨_, rfl⟩, .inr ⟨_, ⟨seqF (6 - (i + 1)) 2 (rest.drop size), ?_⟩, HX3.out⟩⟩
            rw [List.append_assoc, ← HSEQ.out, HNX.out]
            rfl
        · skip
          obtain ⟨fn1, tmps, assign, body, hy, hR⟩ := HY.out pre (v, false) w1 (HLT.out) J1
          simp only [encF] at hy
          have HR := Lib.hid hR
          clear hR
          gi_wp2_with fail
          refine HR.out.mono ?_
          rintro e W3 (⟨rfl, hJ3, hk3⟩ | ⟨rfl, hx3⟩)
          · have b3 : Boxed W3 bs 9 (.string ⟨rest.toArray⟩) := (hk3.2 bs (.inr (.inr rfl))).trans C1.out
            have b4 : Boxed W3 bY 3 (.int .i64 (yd : Int)) := (hk3.2 bY (.inr (.inl rfl))).trans C2.out
            have HL3 := Lib.hid (Libs.same L1.out (hk3.2 _ (.inl hg1)) (hk3.2 _ (.inl hg2)) (hk3.2 _ (.inl hg3)))
            have hz3 : B ≤ W3.heap.size := Nat.le_trans hz1 hk3.1
            have c3 := b3.cell
            have f3 := b3.frozen
            have B3 := Lib.hid b3
            have B4 := Lib.hid b4
            have J3 := Lib.hid hJ3
            clear hJ3 hk3 b3 b4
            gi_wp2
            go_roundw
            case rel =>
              refine ⟨i + 1, 2, rest.drop size, by go_num, by go_num, by omega, by omega, by rw [List.length_drop]; omega, ?_⟩
              refine ⟨?_, B4.out.other hne _, ?_, ?_, pre ++ [(v, false)], ?_, ?_⟩
              · rw [str_from]
                exact B3.out.set _
              · exact HL3.out.set (by omega) (by omega) (by omega)
              · exact hz3s W3 bs _ hz3
              · rw [List.append_assoc, ← HSEQ.out, HNX.out]
                rfl
              · exact HJ.out _ _ _ (some bs) J3.out (grownBy_setCell' W3 bs _) (fun r e => by cases e; rfl)
            case measure => simp [intOf]; omega
          · have HX3 := Lib.hid hx3
            clear hx3
            gi_wp2
            refine bodyPost_ret (results_none rfl _ _ _) rfl ?_
            refine ⟨⟨_, rfl⟩, .inr ⟨_, ⟨seqF (6 - (i + 1)) 2 (rest.drop size), ?_⟩, HX3.out⟩⟩
            rw [List.append_assoc, ← HSEQ.out, HNX.out]
            rfl

end Go.Proofs.YtholkbgkkfndhaaDoor
