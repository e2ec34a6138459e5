/-
  OID: THE ITERATOR OF A NUMBER'S GROUPS.
-/
import Derived.RangeFuncNested
import Derived.RangeFuncBound
import Derived.RangeFuncCalls
import Derived.RangeFuncLeaves
import Derived.RangeFuncBox
import Derived.Shelf.Abstract
import Derived.Shelf.RegionOpen
import Derived.WalkKit
import Derived.OwnWalkIn
import Derived.TacticsInMore
import Derived.LoopNIn
import Derived.LoopIn
import Derived.Lib.OthersKept
import Derived.WalkMore
import Derived.Maps.OwnIn
import Derived.OneCell
import Derived.Test.YtojphfkiblhhiaaDoorSeqW
import Derived.Test.YtojphfkiblhhiaaDoorOid2
namespace Go.Proofs.YtojphfkiblhhiaaDoor
open Go.RowKit Go.Shelf
attribute [local go_sem] Oper.semAt_some
set_option maxRecDepth 100000

abbrev encO (x : Nat × Fin 128) : Array Value := #[.int .i64 (x.1 : Int), .int .u8 (x.2.val : Int)]
/-- What was told, as numbers. -/
def plO (l : List (Nat × Fin 128)) : List (Nat × Nat) := l.map fun x => (x.1, x.2.val)
theorem plO_snoc (l : List (Nat × Fin 128)) (x : Nat × Fin 128) : plO (l ++ [x]) = plO l ++ [(x.1, x.2.val)] := by simp [plO]
theorem plO_length (l : List (Nat × Fin 128)) : (plO l).length = l.length := by simp [plO]

theorem sevens_any (m : Nat) (w : World) : Calls Tryd.prog 44 #[.int .u64 (m : Int)] w fun e w' => e = .returned (.func (.func 60) #[] #[.pointer (some ⟨w.heap.size, 0, none⟩)]) ∧ w' = w.alloc (.cells #[.int .u64 (m : Int)] 36) := by
  go_enter Tryd.func44, Tryd.ntmps44
  go_wp2
  go_ret
  exact ⟨rfl, rfl⟩

theorem sev_len {pre : List (Nat × Fin 128)} {r : List (Nat × Nat)} {x : Nat × Nat} {m : Nat} (h : plO pre ++ [x] ++ r = sevL m) : pre.length < 9 := by
  have h1 := sevF_length m 8
  unfold sevL at h
  rw [← h] at h1
  simp only [List.length_append, List.length_singleton, plO_length] at h1
  omega

theorem and127 (x : Nat) (hx : x < 256) : bits BinOp.and IntKind.u8 (x : Int) 127 = (x : Int) % 128 := by
  have : ∀ x : Fin 256, bits BinOp.and IntKind.u8 (x.val : Int) 127 = (x.val : Int) % 128 := by decide +kernel
  exact this ⟨x, hx⟩
theorem or128 (x : Nat) (hx : x < 128) : bits BinOp.or IntKind.u8 (x : Int) 128 = ((x + 128 : Nat) : Int) := by
  have : ∀ x : Fin 128, bits BinOp.or IntKind.u8 (x.val : Int) 128 = ((x.val + 128 : Nat) : Int) := by decide +kernel
  exact this ⟨x, hx⟩
theorem sev_group (m k : Nat) : bits BinOp.and IntKind.u8 ((m : Int) / 2 ^ (7 * k) % 256) 127 = ((m / 128 ^ k % 128 : Nat) : Int) := by
  have h1 : (m : Int) / 2 ^ (7 * k) = ((m / 128 ^ k : Nat) : Int) := by
    rw [show (128 : Nat) = 2 ^ 7 from rfl, ← Nat.pow_mul]
    norm_cast
  rw [h1]
  generalize m / 128 ^ k = q
  rw [show (q : Int) % 256 = ((q % 256 : Nat) : Int) by omega, and127 _ (Nat.mod_lt _ (by decide))]
  omega

set_option maxHeartbeats 2000000 in
theorem sevens_come (n : Nat) (hn : 1 ≤ n) (m : Nat) (hm : m < 9223372036854775808) (bn : Nat) (w : World) (hbn : Boxed w bn 36 (.int .u64 (m : Int))) :
    SeqW (fun k => k = bn) (fun _ => False) Fence.wide n Tryd.prog 60 #[.pointer (some ⟨bn, 0, none⟩)] encO (fun xs => plO xs = sevL m) (fun pre => ∃ r, plO pre ++ r = sevL m) 9 w := fun lp J Jx W hW hJ hJx hY h0 => by
  have BN := Lib.hid (show Boxed W bn 36 (.int .u64 (m : Int)) from (hW.block bn hbn.lt).trans hbn)
  have HJ := Lib.hid hJ
  have HY := Lib.hid hY
  have HJ0 := Lib.hid h0
  clear hJ hJx hY h0 hW hbn
  refine callsIn_of_wp Tryd.func60 rfl trivial ?_ rfl
  simp only [Tryd.ntmps60, List.size_toArray, List.length_cons, List.length_nil, Nat.reduceAdd, Nat.reduceSub, Array.replicate_succ, Array.replicate_zero, List.push_toArray, List.append_toArray, List.nil_append, List.cons_append]
  gi_wp2_with fail
  gi_loopw [3] (fun iv wr => ∃ i : Nat, iv = .int .i64 ((i : Int) - 1) ∧ i ≤ 9 ∧ Hid (Boxed wr bn 36 (.int .u64 (m : Int)) ∧ ∃ pre, plO pre ++ (if i = 0 then [] else sevF m (i - 1)) = sevL m ∧ J pre wr)) (fun iv _ => ((intOf iv) + 1).toNat)
  case atStart => exact ⟨9, by go_num, by omega, BN.out, [], rfl, HJ0.out⟩
  case round =>
    obtain ⟨i, rfl, hi9, hI⟩ := hrel
    obtain ⟨b1, pre, hpre, hj⟩ := hI.out
    have c1 := b1.cell
    have B1 := Lib.hid b1
    have HSEQ := Lib.hid hpre
    have HJ1 := Lib.hid hj
    clear hI b1 hpre hj
    by_cases hi : i = 0
    · have HSQ := Lib.hid (show plO pre = sevL m by rw [← HSEQ.out, if_pos hi, List.append_nil])
      subst hi
      gi_wp2
      go_end0
      exact ⟨⟨_, rfl⟩, .inl ⟨pre, HSQ.out, HJ1.out⟩⟩
    · obtain ⟨k, rfl⟩ : ∃ k, i = k + 1 := ⟨i - 1, by omega⟩
      have hk : ((k + 1 : Nat) : Int) - 1 = (k : Int) := by omega
      rw [hk]
      clear hi
      obtain ⟨x, hx⟩ : ∃ x, m / 128 ^ k % 128 = x := ⟨_, rfl⟩
      have hgr : bits BinOp.and IntKind.u8 ((m : Int) / 2 ^ (7 * k) % 256) 127 = (x : Int) := by rw [sev_group, hx]
      have HSQ := Lib.hid (show plO pre ++ [(k, x)] ++ (if k = 0 then [] else sevF m (k - 1)) = sevL m by
        rw [← HSEQ.out, if_neg (show ¬ k + 1 = 0 by omega), show k + 1 - 1 = k by omega, List.append_assoc]
        congr 1
        subst hx
        cases k with
        | zero => simp [sevF]
        | succ j => simp [sevF])
      have hx8 : x < 128 := by rw [← hx]; exact Nat.mod_lt _ (by decide)
      clear hx
      obtain ⟨fn1, tmps, assign, body, hy, hR⟩ := HY.out pre (k, ⟨x, hx8⟩) wr (sev_len HSQ.out) HJ1.out
      simp only [encO] at hy
      have HR := Lib.hid hR
      clear hR
      gi_wp2_with fail
      refine HR.out.mono ?_
      rintro e W3 (⟨rfl, hJ3, hk3⟩ | ⟨rfl, hx3⟩)
      · have B3 := Lib.hid (show Boxed W3 bn 36 (.int .u64 (m : Int)) from (hk3.2 bn rfl).trans B1.out)
        have J3 := Lib.hid hJ3
        clear hJ3 hk3
        gi_wp2
        go_roundw
        case rel => exact ⟨k, by go_num, by omega, B3.out, pre ++ [(k, ⟨x, hx8⟩)], by rw [plO_snoc]; exact HSQ.out, J3.out⟩
        case measure => simp [intOf]
      · have HX3 := Lib.hid hx3
        clear hx3
        gi_wp2
        refine bodyPost_ret (results_none rfl _ _ _) rfl ?_
        exact ⟨⟨_, rfl⟩, .inr ⟨_, ⟨if k = 0 then [] else sevF m (k - 1), by rw [plO_snoc]; exact HSQ.out⟩, HX3.out⟩⟩

end Go.Proofs.YtojphfkiblhhiaaDoor
