/-
  A NODE THAT CAME IN: what reads as data is a tree in memory. Nothing of the program stands here but the types.
-/
import Derived.Test.YtkmphiakciihfaaDoorRows
import Derived.Test.YtkmphiakciihfaaDoorTrA
import Derived.OpenShut
import Derived.ChangeSlices
import Derived.Carry
namespace Go.Proofs.YtkmphiakciihfaaDoor
open Go.RowKit

theorem reads_of_bytesT {w : World} {a : Option Addr} {len cap : Nat} {zs : List Int}
    (h : (a = .none ∧ len = 0 ∧ cap = 0 ∧ zs = []) ∨ ∃ x, a = some x ∧ len ≤ cap ∧ cap ≤ maxLen ∧ zs.length = cap ∧ (∀ i, i < zs.length → w.cell? (x.add i) = some (.int .u8 (zs.getD i 0))) ∧ ∀ n ∈ zs, (Lit.int .u8 n).wf = true) :
    ∃ l : List Nat, Reads .u8 w a len cap l ∧ ∀ x ∈ l, x < 256 := by
  rcases h with ⟨rfl, rfl, rfl, rfl⟩ | ⟨x, rfl, hl, hm, hz, hc, hw⟩
  · exact ⟨[], Reads.none _ w, fun _ h => by cases h⟩
  · have hbd : ∀ n ∈ zs, 0 ≤ n ∧ n < 256 := fun n hn => by
      have := hw n hn
      simp [Lit.wf, IntKind.min, IntKind.max, IntKind.signed, IntKind.bits] at this
      omega
    refine ⟨(zs.take len).map fun n => n.toNat, ⟨by simp; omega, hl, hm, (fun h => by cases h), fun hp => ?_⟩, fun y hy => ?_⟩
    · obtain ⟨b, off, spot⟩ := x
      have h0 := hc 0 (by omega)
      have hs : spot = .none := by simpa [Addr.add] using World.cell?_spot h0
      subst hs
      refine ⟨b, off, rfl, World.block_lt_of_cell? w _ (by simpa [Addr.add] using h0), fun i hi => ?_⟩
      have hci := hc i (by omega)
      have e : (⟨b, off, .none⟩ : Addr).add i = ⟨b, off + i, .none⟩ := by unfold Addr.add; split <;> simp_all
      rw [e] at hci
      rw [hci]
      have hlt : i < zs.length := by omega
      have hb := hbd zs[i] (List.getElem_mem _)
      have h1 : zs.getD i 0 = zs[i] := by simp [List.getD, hlt]
      rw [h1]
      simp [hi, hlt]
      omega
    · obtain ⟨n, hn, rfl⟩ := List.mem_map.1 hy
      have := hbd n (List.mem_of_mem_take hn)
      omega


theorem bytes_of_trod {H : Type} {enc : TypeId × Value → H} {w : World} {n : Nat} {cs : List Value} {x : DataW H × List MemPlace} (h : DataW.trod enc Tryd.prog w 0 (fun _ => true) true n 22 cs = some x) :
    ∃ a len cap l, cs = [.slice a len cap] ∧ Reads .u8 w a len cap l ∧ ∀ y ∈ l, y < 256 := by
  rcases Go.ChangeShapes.open_ints Tryd.underlying22 Tryd.underlying5 (by kernel_rfl) h with ⟨rfl, _⟩ | ⟨a, len, cap, zs, rfl, hb, hl, hm, hz, _, hc, hw⟩
  · exact ⟨none, 0, 0, [], rfl, Reads.none _ w, fun _ h => by cases h⟩
  · obtain ⟨l, h1, h2⟩ := reads_of_bytesT (a := some a) (.inr ⟨a, rfl, hl, hm, by simpa using hz, hc, hw⟩)
    exact ⟨_, _, _, l, rfl, h1, h2⟩

theorem cells_of {w : World} {a : Addr} {V : NV} (h : w.cells? 0 a 5 = some V.cells) : ∃ b off, a = ⟨b, off, none⟩ ∧ CellsAt w b off V := by
  unfold World.cells? at h
  rw [if_pos (Nat.zero_le _)] at h
  have g : ∀ i, i < 5 → w.cell? (a.add i) = V.cells[i]? := fun i hi => mapM_some_get h i i (by simp [hi])
  have g0 := g 0 (by decide)
  have g1 := g 1 (by decide)
  have g2 := g 2 (by decide)
  have g3 := g 3 (by decide)
  have g4 := g 4 (by decide)
  simp only [NV.cells, List.getElem?_cons_zero, List.getElem?_cons_succ] at g0 g1 g2 g3 g4
  obtain ⟨b, off, spot⟩ := a
  have hs : spot = .none := by simpa [Addr.add] using World.cell?_spot g0
  subst hs
  have e : ∀ i, (⟨b, off, .none⟩ : Addr).add i = ⟨b, off + i, .none⟩ := fun i => by unfold Addr.add; split <;> simp_all
  rw [e] at g0 g1 g2 g3 g4
  exact ⟨b, off, rfl, g0, g1, g2, g3, g4⟩

set_option maxRecDepth 100000 in
theorem open_node {H : Type} {enc : TypeId × Value → H} {w : World} (n : Nat) : ∀ (cs : List Value) (x : DataW H × List MemPlace), DataW.trod enc Tryd.prog w 0 (fun _ => true) true n 25 cs = some x → ∃ (V : NV) (T : Tr), cs = V.cells ∧ NodeAt w V T ∧ T.ok := by
  induction n using Nat.strongRecOn with
  | _ n ih =>
    intro cs x h
    obtain ⟨xs, m, rfl, -, hl, hlen, hf⟩ := DataW.trod_struct Tryd.underlying25 h
    have h5 : cs.length = 5 := hl.trans (by kernel_rfl)
    obtain ⟨c0, c1, c2, c3, c4, rfl⟩ : ∃ c0 c1 c2 c3 c4, cs = [c0, c1, c2, c3, c4] := by
      match cs, h5 with
      | [a, b, c, d, e], _ => exact ⟨a, b, c, d, e, rfl⟩
    match xs, hlen with
    | [y0, y1, y2, y3, y4], _ =>
    have z3 : Tryd.prog.cellsOf 3 = 1 := by kernel_rfl
    have z4 : Tryd.prog.cellsOf 4 = 1 := by kernel_rfl
    have z22 : Tryd.prog.cellsOf 22 = 1 := by kernel_rfl
    have z23 : Tryd.prog.cellsOf 23 = 1 := by kernel_rfl
    have z25 : Tryd.prog.cellsOf 25 = 5 := by kernel_rfl
    have g0 := hf 0 _ rfl
    have g1 := hf 1 _ rfl
    have g2 := hf 2 _ rfl
    have g3 := hf 3 _ rfl
    have g4 := hf 4 _ rfl
    simp [z3, z4, z22, z23] at g0 g1 g2 g3 g4
    obtain ⟨n0, e0, -, w0⟩ := DataW.trod_int Tryd.underlying3 g0
    obtain ⟨n1, e1, -, w1⟩ := DataW.trod_int Tryd.underlying3 g1
    obtain ⟨b2, e2, -⟩ := DataW.trod_bool Tryd.underlying4 g2
    obtain ⟨a3, l3, k3, l, e3, hr, hx⟩ := bytes_of_trod g3
    simp only [List.cons.injEq, and_true] at e0 e1 e2 e3
    subst e0 e1 e2 e3
    have bd0 := bounds_i64 w0
    have bd1 := bounds_i64 w1
    rcases DataW.trod_slice Tryd.underlying23 g4 with ⟨e4, -⟩ | ⟨a, len, cap, elems, rest, m', hm', e4, -, -, hle, hmax, hel, hget, -, -⟩
    · simp only [List.cons.injEq, and_true] at e4
      subst e4
      exact ⟨⟨n0, n1, b2, a3, l3, k3, none, 0, 0⟩, .mk n0 n1 b2 l [], rfl, .mk ⟨n0, n1, b2, a3, l3, k3, none, 0, 0⟩ l [] (fun _ => default) hr hx rfl (Nat.le_refl _) (Nat.zero_le _) (fun _ => rfl) (fun h => absurd h (by simp)) (fun i h => absurd h (by simp)), ⟨bd0.1, bd0.2, bd1.1, bd1.2⟩, trivial⟩
    · simp only [List.cons.injEq, and_true] at e4
      subst e4
      rw [z25] at hget
      have key : ∀ i, ∃ p : NV × Tr, i < len → (∃ b off, a.add (i * 5) = ⟨b, off, none⟩ ∧ CellsAt w b off p.1) ∧ NodeAt w p.1 p.2 ∧ p.2.ok := fun i => by
        by_cases hi : i < len
        · have hg := hget i hi
          rw [List.getElem?_eq_getElem (by omega)] at hg
          obtain ⟨cs', h1, h2⟩ := Option.bind_eq_some_iff.1 hg
          obtain ⟨V, T, rfl, hn, ho⟩ := ih m' (by omega) cs' _ h2
          exact ⟨(V, T), fun _ => ⟨cells_of h1, hn, ho⟩⟩
        · exact ⟨default, fun h => absurd h hi⟩
      obtain ⟨f, hf'⟩ := Classical.axiomOfChoice key
      have hks : ((List.range len).map fun i => (f i).2).length = len := by simp
      refine ⟨⟨n0, n1, b2, a3, l3, k3, some a, len, cap⟩, .mk n0 n1 b2 l ((List.range len).map fun i => (f i).2), rfl, .mk ⟨n0, n1, b2, a3, l3, k3, some a, len, cap⟩ l _ (fun i => (f i).1) hr hx hks hle hmax (fun h => by cases h) (fun hp => ?_) (fun i h => ?_), ⟨bd0.1, bd0.2, bd1.1, bd1.2⟩, (okL_iff _).2 fun t ht => ?_⟩
      · obtain ⟨⟨b, off, hb, hc⟩, -⟩ := hf' 0 hp
        obtain ⟨ab, ao, asp⟩ := a
        have hsp : asp = .none := by
          have := congrArg Addr.spot hb
          simpa [Addr.add] using this
        subst hsp
        have e : ∀ i, (⟨ab, ao, .none⟩ : Addr).add i = ⟨ab, ao + i, .none⟩ := fun i => by unfold Addr.add; split <;> simp_all
        refine ⟨ab, ao, rfl, ?_, fun i hi => ?_⟩
        · rw [e] at hb
          cases hb
          exact hc.lt
        · obtain ⟨⟨b', off', hb', hc'⟩, -⟩ := hf' i hi
          rw [e] at hb'
          cases hb'
          exact hc'
      · have hi : i < len := by rw [hks] at h; exact h
        simp only [List.getElem_map, List.getElem_range]
        exact (hf' i hi).2.1
      · obtain ⟨i, hi, rfl⟩ := List.mem_map.1 ht
        exact (hf' i (List.mem_range.1 hi)).2.2

end Go.Proofs.YtkmphiakciihfaaDoor
