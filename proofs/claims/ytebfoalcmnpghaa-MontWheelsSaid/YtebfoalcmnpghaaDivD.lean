/-
  RATIO's ITERATOR falling: ITS CONTRACT.
-/
import Derived.Test.YtebfoalcmnpghaaDivC
import Derived.Test.YtebfoalcmnpghaaNatA
namespace Go.Proofs.Ytebfoalcmnpghaa
open Go.RowKit Go.Shelf
attribute [local go_sem] Oper.semAt_some

/-- A place below m. -/
abbrev Place (m : Nat) := { x : Nat // x < m }
abbrev encF {m : Nat} (x : Place m) : Array Value := #[.int .i64 (x.1 : Int)]
def falls (m k : Nat) : List Nat := (List.range k).map fun j => m - 1 - j
theorem falls_succ (m k j : Nat) (h : j = m - 1 - k) : falls m (k + 1) = falls m k ++ [j] := by
  subst h
  rw [falls, List.range_succ, List.map_append]; rfl
theorem falls_length (m k : Nat) : (falls m k).length = k := by simp [falls]

set_option maxRecDepth 100000 in
set_option maxHeartbeats 2000000 in
theorem falls_stops (n : Nat) (hn : 2 ≤ n) (Kp : World → World → Prop) (b m : Nat) (w : World) (hb : Boxed w b 3 (.int .i64 (m : Int))) (hm : m ≤ 1000) :
    SeqStopsK Fence.wide n Try.prog 89 #[.pointer (some ⟨b, 0, none⟩)] (encF (m := m)) Kp (fun xs => xs.map (·.1) = falls m m) (fun _ => True) m w := fun lp J Jx W hW hJ hJx hY h0 => by
  have bX : Boxed W b 3 (.int .i64 (m : Int)) := (hW.block b hb.lt).trans hb
  clear hb
  have cX := bX.cell
  clear bX
  refine callsIn_of_wp Try.func89 rfl trivial ?_ rfl
  simp only [Try.ntmps89, List.size_toArray, List.length_cons, List.length_nil, Nat.reduceAdd, Nat.reduceSub, Array.replicate_succ, Array.replicate_zero, List.push_toArray, List.append_toArray, List.nil_append, List.cons_append]
  gi_wp2
  gi_loopw [3] (fun i wr => ∃ k : Nat, ((∃ j : Nat, i = .int .i64 j ∧ j + k + 1 = m) ∨ (i = .int .i64 (-1) ∧ k = m)) ∧ ∃ pre : List (Place m), Hid (pre.map (·.1) = falls m k ∧ J pre wr)) (fun i _ => (intOf i + 1).toNat)
  case atStart => exact ⟨0, down_start m, [], rfl, h0⟩
  case round =>
    obtain ⟨k, hi, pre, hJs⟩ := hrel
    rcases hi with ⟨j, rfl, hjk⟩ | ⟨rfl, hkm⟩
    · have HJK := Lib.hid hjk
      have hjm : j < m := by omega
      have hpl := Lib.hid (show pre.length = k by have := congrArg List.length hJs.out.1; simpa [falls_length] using this)
      obtain ⟨fn, tmps, assign, body, hy, hR⟩ := hY pre ⟨j, hjm⟩ wr hJs.out.2 (by rw [hpl.out]; omega)
      simp only [encF] at hy
      have hpm := Lib.hid (show (pre ++ [(⟨j, hjm⟩ : Place m)]).map (·.1) = falls m (k + 1) by rw [falls_succ m k j (by omega), List.map_append, hJs.out.1]; rfl)
      clear hjk
      gi_wp2_with fail
      refine ⟨fun _ => by omega, ?_⟩
      refine hR.mono ?_
      rintro e W3 (⟨rfl, hJ1, hk3⟩ | ⟨rfl, hx1⟩)
      · have HJ1 := Lib.hid hJ1
        clear hJ1 hk3
        gi_wp2
        go_roundw
        case rel => exact ⟨k + 1, down_next HJK.out, _, hpm.out, HJ1.out⟩
        case measure => simp [intOf] <;> omega
      · have HX1 := Lib.hid hx1
        clear hx1
        gi_wp2
        refine bodyPost_ret (results_none rfl _ _ _) rfl ?_
        exact ⟨⟨_, rfl⟩, .inr ⟨_, trivial, HX1.out⟩⟩
    · have HKM := Lib.hid hkm
      clear hkm
      gi_wp2
      go_end0
      exact ⟨⟨_, rfl⟩, .inl ⟨pre, HKM.out ▸ hJs.out.1, hJs.out.2⟩⟩

theorem falling_any (w : World) (m : Int) : Calls Try.prog 87 #[.int .i64 m] w fun e w' => e = .returned (.func (.func 89) #[] #[.pointer (some ⟨w.heap.size, 0, none⟩)]) ∧ w' = w.alloc (.cells #[.int .i64 m] 3) := by
  go_enter Try.func87, Try.ntmps87
  go_wp2
  go_ret
  exact ⟨rfl, rfl⟩

end Go.Proofs.Ytebfoalcmnpghaa
