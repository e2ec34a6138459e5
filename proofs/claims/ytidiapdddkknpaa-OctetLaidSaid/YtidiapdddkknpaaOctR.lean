/-
  THE ITERATOR worths: of each rune what it counts, and whether it is a digit: ITS CONTRACT.
-/
import Derived.RangeFuncNested
import Derived.RangeFuncBound
import Derived.RangeFuncCalls
import Derived.RangeFuncLeaves
import Derived.RangeFuncBox
import Derived.Shelf.Abstract
import Derived.Shelf.RegionOpen
import Derived.WalkKit
import Derived.OwnWalkIn
import Derived.TacticsInMore
import Derived.LoopNIn
import Derived.LoopIn
import Derived.Lib.OthersKept
import Derived.Test.YtidiapdddkknpaaOctA
namespace Go.Proofs.Ytidiapdddkknpaa
open Go.RowKit Go.Shelf
attribute [local go_sem] Oper.semAt_some

/-- What one round is handed. -/
abbrev Wd := { p : Nat × Bool // p.1 < 16 }
abbrev encW (x : Wd) : Array Value := #[.int .u8 (x.1.1 : Int), .bool x.1.2]

def wd (r : Nat) : Wd := ⟨(if isDig r then digV r else 0, isDig r), by
  by_cases h : isDig r = true
  · simp only [h, if_true]; exact digV_lt r h
  · simp [h]⟩

def BadL (l : List UInt8) : Prop := ∃ k, k < l.length ∧ isDig (l[k]?.getD 0).toNat = false
def wds (l : List UInt8) : List Wd := l.map fun c => wd c.toNat

theorem wds_step (l : List UInt8) (k : Nat) (hk : k < l.length) : wds (l.take (k + 1)) = wds (l.take k) ++ [wd (l[k]?.getD 0).toNat] := by
  rw [take_snoc8 l k hk, wds, List.map_append]; rfl

theorem bad_of_wds {l : List UInt8} {k : Nat} (h : ∃ x ∈ wds (l.take k), x.1.2 = false) : BadL l := by
  obtain ⟨x, hx, hf⟩ := h
  obtain ⟨c, hc, rfl⟩ := List.mem_map.1 hx
  obtain ⟨i, hi, rfl⟩ := List.getElem_of_mem (List.mem_of_mem_take hc)
  exact ⟨i, hi, by rw [List.getElem?_eq_getElem hi]; exact hf⟩

theorem isDig_high (r : Nat) (h : 128 ≤ r) : isDig r = false := by simp [isDig]; omega

theorem iterAt_grownBy (w : World) (k : Nat) (s : ByteArray) (p : Nat) : w.grownBy (w.iterAt k s p) (some k) :=
  ⟨rfl, rfl, rfl, by rw [Lib.iterAt_size]; exact Nat.le_refl _, fun j _ hj => Lib.iterAt_other w k j s p (fun e => hj (by rw [e]))⟩

set_option maxRecDepth 100000 in
set_option maxHeartbeats 2000000 in
theorem worths_stops (n : Nat) (hn : 1 ≤ n) (l : List UInt8) (B : Nat) (w : World) (hB : w.cell? ⟨B, 0, none⟩ = some (.string (strOf l))) (hBl : B < w.heap.size) :
    SeqStopsK Fence.wide n Try.prog 40 #[.pointer (some ⟨B, 0, none⟩)] encW KeepsWalks (fun xs => (∀ x ∈ xs, x.1.2 = true) → xs = wds l) (fun pre => (∃ x ∈ pre, x.1.2 = false) → BadL l) l.length w := fun lp J Jx W hW hJ hJx hY h0 => by
  have hBW : W.cell? ⟨B, 0, none⟩ = some (.string (strOf l)) := (hW.cell (p := ⟨B, 0, none⟩) hBl).trans hB
  have hBl2 : B < W.heap.size := Nat.lt_of_lt_of_le hBl hW.size
  have hs := strOf_size' l
  generalize hS : strOf l = s at *
  have HS := Lib.hid hS
  clear hS
  refine callsIn_of_wp Try.func40 rfl trivial ?_ rfl
  simp only [Try.ntmps40, List.size_toArray, List.length_cons, List.length_nil, Nat.reduceAdd, Nat.reduceSub, Array.replicate_succ, Array.replicate_zero, List.push_toArray, List.append_toArray, List.nil_append, List.cons_append]
  gi_wp2
  gi_loopw [] (fun wr => ∃ (pos : Nat) (pre : List Wd), wr.heap[W.heap.size]? = some (.stringIter s pos) ∧ Hid (J pre wr) ∧ pre.length ≤ pos ∧ W.heap.size ≤ wr.heap.size ∧ Hid (pre = wds (l.take pos) ∨ (BadL l ∧ ∃ x ∈ pre, x.1.2 = false))) (fun wr => s.size - wr.iterPos W.heap.size)
  case atStart => exact ⟨0, [], World.iter_heap W s 0, hJ _ _ _ none h0 (World.grownBy_alloc W _ none) (fun r e => by cases e), Nat.le_refl _, (KeepsWalks.alloc W _).size, .inl rfl⟩
  case round =>
    obtain ⟨pos, pre, hit, hJs, hpl, hsz, hst⟩ := hrel
    by_cases hps : pos < s.size
    · have hnx : ∀ ty, (Instr.next (.pointer (some ⟨W.heap.size, 0, none⟩)) true ty).run Try.prog wr = _ := fun ty => Lib.run_next_any_at wr W.heap.size s pos ty hit hps
      have hwd : 1 ≤ (Utf8.decode s pos).2 := by
        by_cases ha : (s[pos]'hps).toNat < 128
        · rw [decode_ascii s pos hps ha]; exact Nat.le_refl _
        · exact (decode_high s pos hps (by omega)).2
      have hd1 := decode_le s pos
      obtain ⟨r, hR⟩ : ∃ r, (Utf8.decode s pos).1 = r := ⟨_, rfl⟩
      obtain ⟨K, hK⟩ : ∃ K, (Utf8.decode s pos).2 = K := ⟨_, rfl⟩
      have hnew : Hid (pre ++ [wd r] = wds (l.take (pos + K)) ∨ (BadL l ∧ ∃ x ∈ pre ++ [wd r], x.1.2 = false)) := by
        have hpl2 : pos < l.length := by omega
        by_cases ha : (s[pos]'hps).toNat < 128
        · have hda := decode_ascii s pos hps ha
          have hb : (s[pos]'hps).toNat = (l[pos]?.getD 0).toNat := by
            have := HS.out
            subst this
            exact strOf_get l pos hps
          rw [hda] at hR hK
          simp only at hR hK
          subst hK
          rw [hb] at hR
          rcases hst.out with h1 | ⟨h1, x, hx, h2⟩
          · exact .inl (by rw [h1, wds_step l pos hpl2, hR])
          · exact .inr ⟨h1, x, by simp [hx], h2⟩
        · have hda := (decode_high s pos hps (by omega)).1
          rw [hR] at hda
          have hb : (s[pos]'hps).toNat = (l[pos]?.getD 0).toNat := by
            have := HS.out
            subst this
            exact strOf_get l pos hps
          exact .inr ⟨⟨pos, hpl2, isDig_high _ (by omega)⟩, wd r, by simp, by simp [wd, isDig_high r hda]⟩
      rw [hR, hK] at hnx
      rw [hR] at hd1
      rw [hK] at hwd
      have hit2 := Lib.iterAt_heap wr W.heap.size s pos (pos + K) hit
      have hsz2 : W.heap.size ≤ (wr.iterAt W.heap.size s (pos + K)).heap.size := by rw [Lib.iterAt_size]; exact hsz
      have hJ2 : Hid (J pre (wr.iterAt W.heap.size s (pos + K))) := hJ _ _ _ (some W.heap.size) hJs.out (iterAt_grownBy _ _ _ _) (fun r e => by cases e; exact ⟨Nat.le_refl _, _, hit, rfl⟩)
      obtain ⟨W2, hW2⟩ : ∃ W2, wr.iterAt W.heap.size s (pos + K) = W2 := ⟨_, rfl⟩
      rw [hW2] at hnx hit2 hsz2 hJ2
      obtain ⟨f1, t1, a1, b1, hy1, hR1⟩ := hY pre (wd r) W2 hJ2.out (by omega)
      dsimp only [encW] at hy1
      have hwr := worth_any r (by omega) W2
      have e1 : (if isDig r then digV r else 0) = (wd r).1.1 := rfl
      have e2 : isDig r = (wd r).1.2 := rfl
      rw [e1, e2] at hwr
      clear e1 e2
      generalize wd r = x at *
      have HWR := Lib.hid hwr
      clear hwr
      gi_wp2_with (refine ⟨trivial, ?_⟩; gi_at_call 41; refine (callsIn_wide.2 HWR.out).mono ?_; rintro e w' ⟨rfl, rfl⟩)
      refine hR1.mono ?_
      rintro e W3 (⟨rfl, hJ1, hk⟩ | ⟨rfl, hx1⟩)
      · have hit3 := hk.same _ _ hit2 rfl
        have hsz3 := Nat.le_trans hsz2 hk.size
        have HJ1 := Lib.hid hJ1
        clear hJ1
        gi_wp2
        go_roundw
        case rel => exact ⟨pos + K, pre ++ [x], hit3, HJ1.out, by simp; omega, hsz3, hnew⟩
        case measure =>
          rw [iterPos_of hit3, iterPos_of hit]
          omega
      · have HX1 := Lib.hid hx1
        clear hx1
        gi_wp2
        refine bodyPost_ret (results_none rfl _ _ _) rfl ?_
        refine ⟨⟨_, rfl⟩, .inr ⟨pre ++ [x], fun hf => ?_, HX1.out⟩⟩
        rcases hnew.out with h1 | ⟨h1, _⟩
        · rw [h1] at hf
          exact bad_of_wds hf
        · exact h1
    · have hnx : ∀ ty, (Instr.next (.pointer (some ⟨W.heap.size, 0, none⟩)) true ty).run Try.prog wr = _ := fun ty => Lib.run_next_end_at wr W.heap.size s pos ty hit hps
      gi_wp2
      go_end0
      refine ⟨⟨_, rfl⟩, .inl ⟨pre, fun hall => ?_, hJs.out⟩⟩
      rcases hst.out with h1 | ⟨_, x, hx, h2⟩
      · rw [h1, List.take_of_length_le (by omega)]
      · rw [hall x hx] at h2; cases h2

end Go.Proofs.Ytidiapdddkknpaa
