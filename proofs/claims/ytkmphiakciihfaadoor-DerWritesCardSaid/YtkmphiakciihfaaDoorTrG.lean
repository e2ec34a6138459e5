/-
  THE ITERATOR all OF A TREE's NODES: its contract.
-/
import Derived.Test.YtkmphiakciihfaaDoorTrF
namespace Go.Proofs.YtkmphiakciihfaaDoor
open Go.RowKit Go.Shelf
attribute [local go_sem] Oper.semAt_some

theorem all_any (b off : Nat) (w : World) : Calls Tryd.prog 62 #[.pointer (some ⟨b, off, none⟩)] w fun e w' => e = .returned (.func (.func 70) #[] #[.pointer (some ⟨w.heap.size, 0, none⟩)]) ∧ w' = w.alloc (.cells #[.pointer (some ⟨b, off, none⟩)] 59) := by
  go_enter Tryd.func62, Tryd.ntmps62
  go_wp2
  go_ret
  exact ⟨rfl, rfl⟩

set_option maxRecDepth 100000 in
set_option maxHeartbeats 2000000 in
theorem all_comes (n : Nat) (w0 : World) (P : Tr → Prop) (E : Nat → Prop) {V : NV} {T : Tr} (hn : NodeAt w0 V T) (b off : Nat) (hc : CellsAt w0 b off V) (hP : ∀ p ∈ T.nodes 1, P p.2) (hd : T.dep ≤ 999999999) (w : World) (bt : Nat) (hbt : w.cell? ⟨bt, 0, none⟩ = some (.pointer (some ⟨b, off, none⟩)))
    (hE : ∀ k, E k → w0.heap.size ≤ k ∧ k < w.heap.size ∧ k ≠ bt) (hW : ∀ k, k < w0.heap.size → w.heap[k]? = w0.heap[k]?) (hWs : w0.heap.size ≤ w.heap.size) :
    SeqX T.cnt (fun _ => False) E Fence.wide n Tryd.prog 70 #[.pointer (some ⟨bt, 0, none⟩)] (encS (w0 := w0) (P := P)) (fun _ => True) (fun xs => xs.map Spot.at = T.nodes 1) (fun xs => xs ≠ [] ∧ xs.map Spot.at <+: T.nodes 1) (fun _ => True) w := by
  intro l J Jx W hl hlW hB hJ hJx hY h0
  have hbl := World.block_lt_of_cell? w _ hbt
  have hbW : W.cell? ⟨bt, 0, none⟩ = some (.pointer (some ⟨b, off, none⟩)) := (hB.cell (p := ⟨bt, 0, none⟩) hbl).trans hbt
  have HT := Lib.hid (tell_comes n w0 P T.cnt l E (fun k h => (hE k h).1) (by omega) J Jx (fun s X X' h hg => hJ s X X' none h hg (fun r e => by cases e)) hY hn b off 1 [] W hc hP (by omega) (by simp)
    (fun k hk => (hB.block k (by omega)).trans (hW k hk)) (by have := hB.size; omega) hlW (fun k hk => by have := (hE k hk).2.1; have := hB.size; omega) h0)
  clear hP hY hJ hJx h0 hB hE hW hWs hl hlW hd hc hn hbt
  refine callsIn_of_wp Tryd.func70 rfl trivial ?_ rfl
  simp only [Tryd.ntmps70, List.size_toArray, List.length_cons, List.length_nil, Nat.reduceAdd, Nat.reduceSub, Array.replicate_succ, Array.replicate_zero, List.push_toArray, List.append_toArray, List.nil_append, List.cons_append]
  gi_wp2_with fail
  refine ⟨trivial, fun h => by simp [Fence.wide] at h, ?_⟩
  have HT2 := HT.out
  rw [show ((1 : Nat) : Int) = 1 from rfl] at HT2
  replace HT2 := Lib.hid HT2
  refine (callsIn_wide.2 (callsIn_wide.1 HT2.out)).mono ?_
  rintro e X (⟨rfl, xs, hxs, hJ, -⟩ | ⟨rfl, xs, hne, hxs, hJ, -⟩)
  · have HX := Lib.hid (And.intro hxs hJ)
    clear hxs hJ
    gi_wp2_with fail
    go_end0
    exact ⟨⟨_, rfl⟩, .inl ⟨xs, HX.out.1, HX.out.2, trivial⟩⟩
  · have HX := Lib.hid (And.intro hne (And.intro hxs hJ))
    clear hne hxs hJ
    gi_wp2_with fail
    go_end0
    exact ⟨⟨_, rfl⟩, .inr ⟨xs, ⟨HX.out.1, HX.out.2.1⟩, HX.out.2.2⟩⟩

end Go.Proofs.YtkmphiakciihfaaDoor
