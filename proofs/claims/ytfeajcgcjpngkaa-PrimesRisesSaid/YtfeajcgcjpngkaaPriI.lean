/-
  THE ITERATOR OF THE PRIMES: its contract.
-/
import Derived.RangeFuncNested
import Derived.RangeFuncBound
import Derived.RangeFuncCalls
import Derived.RangeFuncLeaves
import Derived.RangeFuncBox
import Derived.Shelf.Abstract
import Derived.Shelf.RegionOpen
import Derived.WalkKit
import Derived.OwnWalkIn
import Derived.TacticsInMore
import Derived.LoopNIn
import Derived.LoopIn
import Derived.Lib.OthersKept
import Derived.Test.YtfeajcgcjpngkaaPriG
namespace Go.Proofs.Ytfeajcgcjpngkaa
open Go.RowKit Go.Shelf
attribute [local go_sem] Oper.semAt_some

theorem HpO.kp {B b g n c : Nat} {w w' : World} {L : List (Nat × Nat)} (h : HpO B w b g n c L) (k : KpT TMk w w') : HpO B w' b g n c L := by
  obtain ⟨⟨h1, ⟨-, h3, h4, h5, h6⟩, h7, h8⟩, h9⟩ := h
  have b2 : Boxed w' b 82 (.slice (some ⟨g, 0, none⟩) n c) := k.2 _ _ _ _ (.inr rfl) h1
  refine ⟨⟨b2, ⟨b2.cell, ?_, h4, h5, h6⟩, h7, Nat.le_trans h8 k.1⟩, h9⟩
  refine ⟨h3.1, ?_⟩
  rcases h3.2 with ⟨k1, -⟩ | ⟨g', cap, cur, k1, k2, k3, k4⟩
  · cases k1
  · cases k1
    exact .inr ⟨g, _, cur, rfl, k2, k.2 _ _ _ _ (.inl rfl) k3, k4⟩
theorem HpO.start (w : World) : HpO w.heap.size ((w.alloc (.cells #[] 88)).alloc (.cells #[.slice (some ⟨w.heap.size, 0, none⟩) 0 0] 82)) (w.heap.size + 1) w.heap.size 0 0 [] ∧ WayT w.heap.size w ((w.alloc (.cells #[] 88)).alloc (.cells #[.slice (some ⟨w.heap.size, 0, none⟩) 0 0] 82)) := by
  have hb := Boxed.new (w.alloc (.cells #[] 88)) 82 (.slice (some ⟨w.heap.size, 0, none⟩) 0 0)
  rw [World.size_alloc] at hb
  have hm : MkQ w.heap.size (w.alloc (.cells #[] 88)) (.slice (some ⟨w.heap.size, 0, none⟩) 0 0) [] := World.ownsRow_lit w #[] 0 (Nat.le_refl _) (by unfold maxLen; omega) rfl
  refine ⟨⟨⟨hb, ⟨hb.cell, World.ownsRow.alloc hm _, rfl, Nat.le_refl _, by omega⟩, by omega, by simp; omega⟩, fun k _ hk => by simp at hk⟩, ((WayT.refl _ w).alloc _).alloc _⟩
theorem marks_start : MarksOk 2 [] := ⟨(fun _ h => by cases h), fun p hp hlt => by have := hp.1; omega⟩
theorem marks_hit {k : Nat} {L : List (Nat × Nat)} (h : Moved k L) (hp : isPrime k = false) : MarksOk (k + 1) L := by
  refine ⟨h.1, fun p hp1 hp2 => h.2 p hp1 ?_⟩
  rcases Nat.lt_or_ge p k with h | h
  · exact h
  · obtain rfl : p = k := by omega
    rw [(isPrime_iff p).2 hp1] at hp
    cases hp
theorem marks_new {k s : Nat} {L L' : List (Nat × Nat)} (h : Moved k L) (hp : isPrime k = true) (hs : s = k * k) (hq : L'.Perm (L ++ [(s, k)])) : MarksOk (k + 1) L' := by
  subst hs
  refine ⟨fun z hz => ?_, fun p hp1 hp2 => ?_⟩
  · rcases List.mem_append.1 (hq.mem_iff.1 hz) with hz | hz
    · exact h.1 z hz
    · obtain rfl := List.mem_singleton.1 hz
      exact MarkOk.new ((isPrime_iff k).1 hp)
  · rcases Nat.lt_or_ge p k with hlt | hge
    · obtain ⟨a, ha⟩ := h.2 p hp1 hlt
      exact ⟨a, hq.mem_iff.2 (List.mem_append_left _ ha)⟩
    · obtain rfl : p = k := by omega
      exact ⟨p * p, hq.mem_iff.2 (by simp)⟩
theorem few_primes {k N : Nat} (h : (primesTo k).length < N) (hN : N ≤ 1000) : k < 7920 := by
  rcases Nat.lt_or_ge k 7920 with h1 | h1
  · exact h1
  · have := primesTo_len h1
    rw [thousand] at this
    omega

set_option maxRecDepth 100000 in
set_option maxHeartbeats 4000000 in
theorem rising_comes (n : Nat) (hn : 1 ≤ n) (N : Nat) (hN : N ≤ 1000) (w : World) :
    SeqT TMk Fence.wide n Try.prog 52 #[] (fun p : Nat => #[.int .i64 (p : Int)]) (fun pre => ∃ k, pre = primesTo k) N w := fun lp J Jx W _ hJ hJx hJN hY h0 => by
  have HS := Lib.hid (HpO.start W)
  have hJ0 := Lib.hid (HS.out.2 (J []) (fun X X' row h1 h2 h3 => hJ _ X X' row h1 h2 h3) h0)
  have HJ := Lib.hid hJ
  have HJN := Lib.hid hJN
  clear hJ hJN
  refine callsIn_of_wp Try.func52 rfl trivial ?_ rfl
  simp only [Try.ntmps52, List.size_toArray, List.length_cons, List.length_nil, Nat.reduceAdd, Nat.reduceSub, Array.replicate_succ, Array.replicate_zero, List.push_toArray, List.append_toArray, List.nil_append, List.cons_append]
  refine wpIn_wide.2 (wp_scope_straight ((wpIn_wide (n := n)).1 ?_))
  gi_wp2_with fail
  refine wpIn_label ?_
  gi_wp2_with fail
  generalize (W.alloc (.cells #[] 88)).alloc (.cells #[.slice (some ⟨W.heap.size, 0, none⟩) 0 0] 82) = W0 at *
  generalize W.heap.size = B at *
  gi_loopw [3] (fun nv wr => ∃ k : Nat, nv = .int .i64 (k : Int) ∧ 2 ≤ k ∧ Hid (∃ g c L, HpO B wr (B + 1) g (primesTo k).length c L ∧ MarksOk k L ∧ J (primesTo k) wr)) (fun nv _ => 8000 - (intOf nv).toNat)
  case atStart => exact ⟨2, rfl, Nat.le_refl _, _, _, _, HS.out.1, marks_start, hJ0.out⟩
  case round =>
    obtain ⟨k, rfl, hk2, hI⟩ := hrel
    obtain ⟨g, c, L, hO, hM, hj⟩ := hI.out
    have hk := few_primes (HJN.out _ _ hj) hN
    have HO := Lib.hid hO
    have HM := Lib.hid hM
    have HJ1 := Lib.hid hj
    have hlN := HJN.out _ _ hj
    clear hO hM hj hI
    cases hp : isPrime k with
    | false =>
      have HP := Lib.hid hp
      clear hp
      have HE := Lib.hid (show primesTo (k + 1) = primesTo k by rw [primesTo_succ, if_neg (by rw [HP.out]; decide)])
      gi_wp2_with fail
      refine ⟨trivial, ?_⟩
      refine (callsIn_wide.2 (crossed_any B (B + 1) g _ c k L wr HO.out HM.out hk2 (by omega) (by omega) true (by rw [HP.out]; rfl))).mono ?_
      rintro e w1 ⟨rfl, ⟨g1, c1, L1, h1, hm1⟩, hy1⟩
      have H1 := Lib.hid h1
      have M1 := Lib.hid (marks_hit hm1 HP.out)
      have J1 := Lib.hid (hy1 (J (primesTo k)) (fun X X' row a b c => HJ.out _ X X' row a b c) HJ1.out)
      clear h1 hm1 hy1
      gi_wp2
      go_roundw
      case rel => exact ⟨k + 1, by go_num, by omega, g1, c1, L1, HE.out.symm ▸ H1.out, M1.out, HE.out.symm ▸ J1.out⟩
      case measure => simp [intOf]; omega
    | true =>
      have HP := Lib.hid hp
      clear hp
      have HE := Lib.hid (show primesTo (k + 1) = primesTo k ++ [k] by rw [primesTo_succ, if_pos HP.out])
      obtain ⟨s, hs⟩ : ∃ s, s = k * k := ⟨_, rfl⟩
      have hcast : (k : Int) * (k : Int) = (s : Int) := by rw [hs, Int.natCast_mul]
      have hsb : s < 100000000 := by
        rw [hs]
        exact Nat.lt_of_le_of_lt (Nat.mul_le_mul (Nat.le_of_lt hk) (Nat.le_of_lt hk)) (by decide)
      have HSS := Lib.hid hs
      clear hs
      gi_wp2_with fail
      refine ⟨trivial, ?_⟩
      refine (callsIn_wide.2 (crossed_any B (B + 1) g _ c k L wr HO.out HM.out hk2 (by omega) (by omega) false (by rw [HP.out]; rfl))).mono ?_
      rintro e w1 ⟨rfl, ⟨g1, c1, L1, h1, hm1⟩, hy1⟩
      have H1 := Lib.hid h1
      have M1 := Lib.hid hm1
      have J1 := hy1 (J (primesTo k)) (fun X X' row a b c => HJ.out _ X X' row a b c) HJ1.out
      obtain ⟨fn, tmps, assign, body, hy, hR⟩ := hY (primesTo k) k w1 J1
      have HR := Lib.hid hR
      clear h1 hm1 hy1 J1 hR
      gi_wp2_with fail
      refine HR.out.mono ?_
      rintro e W3 (⟨rfl, hJ3, hk3⟩ | ⟨rfl, hx3⟩)
      · have H3 := Lib.hid (H1.out.kp hk3)
        have J3 := Lib.hid hJ3
        clear hJ3 hk3
        gi_wp2_with fail
        refine ⟨trivial, ?_⟩
        refine (callsIn_wide.2 (hpush_any B (B + 1) g1 _ c1 L1 s k W3 H3.out (by omega))).mono ?_
        rintro e w4 ⟨rfl, ⟨g4, c4, L4, h4, hp4⟩, hy4⟩
        have H4 := Lib.hid h4
        have M4 := Lib.hid (marks_new M1.out HP.out HSS.out hp4)
        have J4 := Lib.hid (hy4 (J (primesTo k ++ [k])) (fun X X' row a b c => HJ.out _ X X' row a b c) J3.out)
        have HLn := Lib.hid (show (primesTo (k + 1)).length = (primesTo k).length + 1 by rw [HE.out]; simp)
        clear h4 hp4 hy4
        gi_wp2
        go_roundw
        case rel => exact ⟨k + 1, by go_num, by omega, g4, c4, L4, HLn.out.symm ▸ H4.out, M4.out, HE.out.symm ▸ J4.out⟩
        case measure => simp [intOf]; omega
      · have HX3 := Lib.hid hx3
        clear hx3
        gi_wp2
        rw [Exit.noGoto_ret]
        refine bodyPost_ret (results_none rfl _ _ _) rfl ?_
        exact ⟨⟨_, rfl⟩, _, ⟨k + 1, HE.out.symm⟩, HX3.out⟩

theorem rising_any (w : World) : Calls Try.prog 28 #[] w fun e w' => e = .returned (.func (.func 52) #[] #[]) ∧ w = w' := by
  go_enter Try.func28, Try.ntmps28
  go_wp2
  go_ret
  exact ⟨rfl, rfl⟩

end Go.Proofs.Ytfeajcgcjpngkaa
