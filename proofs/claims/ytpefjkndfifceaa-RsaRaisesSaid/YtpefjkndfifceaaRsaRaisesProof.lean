/-
  RsaRaises: for every input the law answers true, and each argument reads behind the call as it read before. No further condition.
-/
import Derived.Test.YtpefjkndfifceaaRows
import Derived.Test.YtpefjkndfifceaaRsaU
import Derived.WalkKit
import Derived.ProofKit
import Derived.OpenShut
import Derived.ShutString
import Derived.ChangeOld
import Derived.Below
import Derived.ChangeArms
import Derived.SizedLaws
namespace Go.Proofs.Ytpefjkndfifceaa.rsaRaises
open Go.ChangeShapes Go.WideShapes Go.ChangeAt Go.RowKit
set_option linter.unusedVariables false
set_option linter.unusedSimpArgs false
set_option maxRecDepth 100000

theorem own : ownKnob Try.prog.godebug = none := by kernel_rfl
theorem laidOut : laidOutB Try.prog = true := by kernel_rfl

theorem keyCells : Try.prog.cellTypes Try.prog.depth 24 = some [22, 22, 22] := by kernel_rfl
theorem keySize : Try.prog.cellsOf 24 = 3 := by kernel_rfl
theorem keyStruct : ∃ fs, Try.prog.underlying 24 = some (.struct fs) := ⟨_, Try.underlying24⟩
theorem cellOne : Try.prog.cellsOf 22 = 1 ∧ Try.prog.bytesOf 5 = 1 := ⟨by kernel_rfl, by kernel_rfl⟩
theorem slice_cell {W : World} {base : Nat} {v : Value} (h : Cell.okWide Try.prog W .any base 22 v) : ∃ (a : Option Addr) (len cap : Nat), v = .slice a len cap := by
  have h2 : Value.okWide Try.prog W .any base 22 v := by
    unfold Value.okWide
    rw [Try.underlying22]
    exact h
  exact okWide_slice Try.underlying22 h2

/-- A slice of integers that came in. -/
def IsRow (k : IntKind) (w : World) (a : Option Addr) (len cap : Nat) (zs : List Int) : Prop :=
  (a = none ∧ len = 0 ∧ cap = 0 ∧ zs = []) ∨
  ∃ x, a = some x ∧ len ≤ cap ∧ cap ≤ maxLen ∧ zs.length = cap ∧ (∀ i, i < zs.length → w.cell? (x.add i) = some (.int k (zs.getD i 0))) ∧ ∀ n ∈ zs, (Lit.int k n).wf = true

theorem row_of {H : Type} {enc : TypeId × Value → H} {W : World} {fuel : Nat} {a : Option Addr} {len cap : Nat} {x : DataW H × List MemPlace} (hf : DataW.trod enc Try.prog W 0 (fun _ => true) true fuel 22 [.slice a len cap] = some x) :
    ∃ zs, IsRow .u8 W a len cap zs ∧ (x.1 = .nil ∧ cap = 0 ∨ ∃ es sp : List (DataW H), x.1 = .slice es sp ∧ es.length + sp.length = cap) := by
  rcases open_ints Try.underlying22 Try.underlying5 (by kernel_rfl) hf with ⟨hcs, rfl⟩ | ⟨ad, l, c, zs, hcs, _, hl, hm, hz, hx, hcell, hwz⟩
  · simp at hcs
    obtain ⟨rfl, rfl, rfl⟩ := hcs
    exact ⟨[], .inl ⟨rfl, rfl, rfl, rfl⟩, .inl ⟨rfl, rfl⟩⟩
  · simp at hcs
    obtain ⟨rfl, rfl, rfl⟩ := hcs
    have hzl : zs.length = cap := by simpa using hz
    refine ⟨zs, .inr ⟨_, rfl, hl, hm, hzl, hcell, hwz⟩, .inr ⟨_, _, congrArg Prod.fst hx, ?_⟩⟩
    simp [lits, List.length_take, List.length_drop]
    omega
theorem row_of' {H : Type} {enc : TypeId × Value → H} {W : World} {a : Option Addr} {len cap : Nat} {d : DataW H} {p : List MemPlace} (hf : ∃ fuel, DataW.trod enc Try.prog W 0 (fun _ => true) true fuel 22 (Value.slice a len cap).cells.toList = some (d, p)) :
    ∃ zs, IsRow .u8 W a len cap zs ∧ (d = .nil ∧ cap = 0 ∨ ∃ es sp : List (DataW H), d = .slice es sp ∧ es.length + sp.length = cap) := by
  obtain ⟨fuel, hf⟩ := hf
  exact row_of (x := (d, p)) (by simpa [Value.cells] using hf)
theorem cap_of {H : Type} {x : DataW H} {c : Nat} (h1 : x = .nil ∧ c = 0 ∨ ∃ es sp : List (DataW H), x = .slice es sp ∧ es.length + sp.length = c) (h2 : ∀ es sp, x = .slice es sp → es.length + sp.length ≤ reachBytes) : c ≤ 140737488351232 := by
  rcases h1 with ⟨_, rfl⟩ | ⟨es, sp, e, rfl⟩
  · decide
  · have := h2 es sp e
    unfold reachBytes at this
    omega
theorem sized_row {H : Type} {ts : List TypeId} {ds : List (DataW H)} (hsz : (DataW.weightsEach Try.prog ts ds).all (· ≤ reachBytes) = true) (j : Nat) (d : DataW H) (ht : ts[j]? = some 22) (hd : ds[j]? = some d) (es sp : List (DataW H)) (e : d = .slice es sp) : es.length + sp.length ≤ reachBytes := by
  subst e
  have hb := cellOne.2
  have := List.all_eq_true.1 hsz (es.length + sp.length) (DataW.weights_mem_each (j := j) ht hd _ (by simp [DataW.weights, DataW.weightsEach, Try.underlying22, hb]))
  simpa using this
theorem sized_field {H : Type} {ts : List TypeId} {ds : List (DataW H)} {d : DataW H} (x0 x1 x2 : DataW H) (hd : d = .agg [x0, x1, x2]) (hsz : (DataW.weightsEach Try.prog ts ds).all (· ≤ reachBytes) = true) (h1 : ts[0]? = some 24) (h2 : ds[0]? = some d) :
    (∀ es sp, x0 = .slice es sp → es.length + sp.length ≤ reachBytes) ∧ (∀ es sp, x1 = .slice es sp → es.length + sp.length ≤ reachBytes) ∧ (∀ es sp, x2 = .slice es sp → es.length + sp.length ≤ reachBytes) := by
  subst hd
  have hb := cellOne.2
  have key : ∀ k, k ∈ (DataW.agg [x0, x1, x2]).weights Try.prog 24 → k ≤ reachBytes := fun k hk => by
    have := List.all_eq_true.1 hsz k (DataW.weights_mem_each (j := 0) h1 h2 k hk)
    simpa using this
  refine ⟨?_, ?_, ?_⟩
  · rintro es sp rfl
    exact key _ (by simp [DataW.weights, DataW.weightsEach, Try.underlying24, Try.underlying22, hb])
  · rintro es sp rfl
    exact key _ (by simp [DataW.weights, DataW.weightsEach, Try.underlying24, Try.underlying22, hb])
  · rintro es sp rfl
    exact key _ (by simp [DataW.weights, DataW.weightsEach, Try.underlying24, Try.underlying22, hb])

theorem key_of {H : Type} {enc : TypeId × Value → H} {W : World} {base : Nat} {v : Value} {d : DataW H} {p : List MemPlace} {ts : List TypeId} {ds : List (DataW H)} (h : Value.okWide Try.prog W .any base 24 v) (hf : ∃ fuel, DataW.trod enc Try.prog W 0 (fun _ => true) true fuel 24 v.cells.toList = some (d, p))
    (hsz : (DataW.weightsEach Try.prog ts ds).all (· ≤ reachBytes) = true) (t0 : ts[0]? = some 24) (t1 : ds[0]? = some d) :
    ∃ (a1 : Option Addr) (n1 c1 : Nat) (a2 : Option Addr) (n2 c2 : Nat) (a3 : Option Addr) (n3 c3 : Nat) (z1 z2 z3 : List Int),
      v = .agg #[.slice a1 n1 c1, .slice a2 n2 c2, .slice a3 n3 c3] ∧ IsRow .u8 W a1 n1 c1 z1 ∧ IsRow .u8 W a2 n2 c2 z2 ∧ IsRow .u8 W a3 n3 c3 z3 ∧ c1 ≤ 140737488351232 ∧ c2 ≤ 140737488351232 ∧ c3 ≤ 140737488351232 := by
  obtain ⟨fs, hu⟩ := keyStruct
  obtain rfl : fs = _ := by
    have := hu.symm.trans Try.underlying24
    simpa using this
  unfold Value.okWide at h
  rw [hu] at h
  obtain ⟨cs, rfl, h2, us, hts, _, hc⟩ := h
  rw [keySize] at h2
  rw [keyCells] at hts
  cases hts
  obtain ⟨l⟩ := cs
  match l, h2 with
  | [c0, c1, c2], _ =>
    obtain ⟨u0, e0, o0⟩ := hc 0 c0 rfl
    obtain ⟨u1, e1, o1⟩ := hc 1 c1 rfl
    obtain ⟨u2, e2, o2⟩ := hc 2 c2 rfl
    cases e0
    cases e1
    cases e2
    obtain ⟨a1, n1, k1, rfl⟩ := slice_cell o0
    obtain ⟨a2, n2, k2, rfl⟩ := slice_cell o1
    obtain ⟨a3, n3, k3, rfl⟩ := slice_cell o2
    obtain ⟨fuel, hf⟩ := hf
    obtain ⟨xs, n, _, hx, _, hxl, hfl⟩ := DataW.trod_struct hu hf
    have hone := cellOne
    have g0 := hfl 0 _ rfl
    have g1 := hfl 1 _ rfl
    have g2 := hfl 2 _ rfl
    match xs, hxl with
    | [x0, x1, x2], _ =>
      simp [Value.cells, hone.1] at g0 g1 g2
      obtain ⟨z1, r1, q1⟩ := row_of g0
      obtain ⟨z2, r2, q2⟩ := row_of g1
      obtain ⟨z3, r3, q3⟩ := row_of g2
      obtain ⟨w1, w2, w3⟩ := sized_field _ _ _ (congrArg Prod.fst hx) hsz t0 t1
      exact ⟨a1, n1, k1, a2, n2, k2, a3, n3, k3, z1, z2, z3, rfl, r1, r2, r3, cap_of q1 w1, cap_of q2 w2, cap_of q3 w3⟩

theorem reads_of_bytesM {w : World} {a : Option Addr} {len cap : Nat} {zs : List Int}
    (h : (a = .none ∧ len = 0 ∧ cap = 0 ∧ zs = []) ∨ ∃ x, a = some x ∧ len ≤ cap ∧ cap ≤ maxLen ∧ zs.length = cap ∧ (∀ i, i < zs.length → w.cell? (x.add i) = some (.int .u8 (zs.getD i 0))) ∧ ∀ n ∈ zs, (Lit.int .u8 n).wf = true) :
    ∃ l : List Nat, Reads .u8 w a len cap l ∧ ∀ x ∈ l, x < 256 := by
  rcases h with ⟨rfl, rfl, rfl, rfl⟩ | ⟨x, rfl, hl, hm, hz, hc, hw⟩
  · exact ⟨[], Reads.none _ w, fun _ h => by cases h⟩
  · have hbd : ∀ n ∈ zs, 0 ≤ n ∧ n < 256 := fun n hn => by
      have := hw n hn
      simp [Lit.wf, IntKind.min, IntKind.max, IntKind.signed, IntKind.bits] at this
      omega
    refine ⟨(zs.take len).map fun n => n.toNat, ⟨by simp; omega, hl, hm, (fun h => by cases h), fun hp => ?_⟩, fun y hy => ?_⟩
    · obtain ⟨b, off, spot⟩ := x
      have h0 := hc 0 (by omega)
      have hs : spot = .none := by simpa [Addr.add] using World.cell?_spot h0
      subst hs
      refine ⟨b, off, rfl, World.block_lt_of_cell? w _ (by simpa [Addr.add] using h0), fun i hi => ?_⟩
      have hci := hc i (by omega)
      have e : (⟨b, off, .none⟩ : Addr).add i = ⟨b, off + i, .none⟩ := by unfold Addr.add; split <;> simp_all
      rw [e] at hci
      rw [hci]
      have hlt : i < zs.length := by omega
      have hb := hbd zs[i] (List.getElem_mem _)
      have h1 : zs.getD i 0 = zs[i] := by simp [List.getD, hlt]
      rw [h1]
      simp [hi, hlt]
      omega
    · obtain ⟨n, hn, rfl⟩ := List.mem_map.1 hy
      have := hbd n (List.mem_of_mem_take hn)
      omega


theorem walk (a1 : Option Addr) (n1 c1 : Nat) (z1 : List Int) (a2 : Option Addr) (n2 c2 : Nat) (z2 : List Int) (a3 : Option Addr) (n3 c3 : Nat) (z3 : List Int) (a4 : Option Addr) (n4 c4 : Nat) (z4 : List Int) (w : World) (w1 : IsRow .u8 w a1 n1 c1 z1) (w2 : IsRow .u8 w a2 n2 c2 z2) (w3 : IsRow .u8 w a3 n3 c3 z3) (k1 : c1 ≤ 140737488351232) (k2 : c2 ≤ 140737488351232) (k3 : c3 ≤ 140737488351232) (w4 : IsRow .u8 w a4 n4 c4 z4) (k4 : c4 ≤ 140737488351232) :
    Calls Try.prog 3 #[.agg #[.slice a1 n1 c1, .slice a2 n2 c2, .slice a3 n3 c3], .slice a4 n4 c4] w fun e w' => e = .returned (.bool true) ∧ Below w.heap.size w w' := by
  obtain ⟨N, hN, bN⟩ := reads_of_bytesM w1
  obtain ⟨E, hE, bE⟩ := reads_of_bytesM w2
  obtain ⟨D, hD, bD⟩ := reads_of_bytesM w3
  obtain ⟨B, hB, bB⟩ := reads_of_bytesM w4
  exact raises_walk a1 n1 c1 N a2 n2 c2 E a3 n3 c3 D a4 n4 c4 B w hN bN hE bE hD bD (Nat.le_trans hN.le k1) (Nat.le_trans hE.le k2) (Nat.le_trans hD.le k3) hB bB (Nat.le_trans hB.le k4)

set_option maxRecDepth 100000 in
theorem lifted (os : Os) (started : os.Started) (H : Type) (enc : TypeId × Value → H) :
    ReturnsInHanded {} Try.checked os 3 .any (Rows.rsaRaisesSpec.pre6 enc Try.prog Try.f3 Rows.rsaRaisesRow.domain false) (Rows.rsaRaisesSpec.post enc Try.prog Try.f3 false true false false) := by
  refine returnsInHanded_of_change_sized (C := Try.checked) own started (by kernel_rfl) Try.func3
    (ChangeSpec.witness6 (enc := enc) (C := Try.checked) false ⟨#[], #[.agg #[.slice none 0 0, .slice none 0 0, .slice none 0 0], .slice none 0 0], []⟩ 8 (by kernel_rfl) (by kernel_rfl) (by kernel_rfl) (by kernel_rfl)) ?_
  intro W base args ds gs before hval0 hW _ hsz _
  have hval : ∀ (j : Nat) t v, Try.f3.params[j]? = some t → args[j]? = some v → Value.okWide Try.prog W .any base t v := hval0
  have hW' := hW
  obtain ⟨p, q, hA0, hV, rfl, hfz, hnd⟩ := hW
  have hA : DataW.TrodAll enc Try.prog W 0 (fun _ => true) true Try.f3.params.toList args.toList ds p := hA0
  rw [Try.params3] at hA hval
  obtain ⟨v0, vs0, d0, ds0, p0, q0, hargs, rfl, rfl, h0, r0⟩ := trodAll_cons hA
  obtain ⟨v1, vs1, d1, ds1, p1, q1, rfl, rfl, rfl, h1, r1⟩ := trodAll_cons r0
  obtain ⟨rfl, rfl, rfl⟩ := trodAll_nil r1
  obtain rfl : args = #[v0, v1] := by cases args; simp_all
  obtain ⟨rfl, rfl⟩ := trodVars_none hV
  obtain ⟨a1, n1, c1, a2, n2, c2, a3, n3, c3, z1, z2, z3, rfl, w1, w2, w3, k1, k2, k3⟩ := key_of (ts := [24, 22]) (ds := [d0, d1]) (hval 0 24 v0 rfl rfl) h0 hsz rfl rfl
  have b0 := h0
  have lt0 : ∀ x ∈ p0, x.block < W.heap.size := by obtain ⟨m, hm⟩ := b0; exact DataW.trod_lt m _ _ _ hm
  obtain ⟨a4, n4, c4, rfl⟩ := okWide_slice Try.underlying22 (hval 1 22 v1 rfl rfl)
  have b1 := h1
  have lt1 : ∀ x ∈ p1, x.block < W.heap.size := by obtain ⟨m, hm⟩ := b1; exact DataW.trod_lt m _ _ _ hm
  obtain ⟨z4, w4, y4⟩ := row_of' h1
  have k4 : c4 ≤ 140737488351232 := cap_of y4 (fun es sp e => sized_row (ts := [24, 22]) hsz 1 _ rfl rfl es sp e)
  clear hA0 hval0
  refine (walk a1 n1 c1 z1 a2 n2 c2 z2 a3 n3 c3 z3 a4 n4 c4 z4 W w1 w2 w3 k1 k2 k3 w4 k4).mono fun e W' ⟨he, bel⟩ => ?_
  subst he
  exact ⟨_, rfl, _, _, _, [], _, [], hW', trodAll_mk1 (shut_bool Try.underlying4 _), (trodAll_cons_mk (Below.trod laidOut (by kernel_rfl) (of_decide_eq_true (by kernel_rfl)) b0 bel lt0) (trodAll_cons_mk (Below.trod laidOut (by kernel_rfl) (of_decide_eq_true (by kernel_rfl)) b1 bel lt1) trodAll_mk0)), rfl, bel.frame _, fun h => by cases h⟩

theorem over : Rows.rsaRaisesRow.holds Try.pinned (OpenSpec.ofChange Rows.rsaRaisesSpec) :=
  OpenClaim.holds_of_wide 3 Try.f3 rfl rfl rfl rfl rfl rfl rfl ⟨rfl, rfl, rfl, rfl, rfl⟩ rfl rfl rfl rfl rfl (by kernel_rfl) Try.func3 (by kernel_rfl)
    (of_decide_eq_true (by kernel_rfl)) (by unfold Func.isWrapper; first | (rw [if_pos (by decide +kernel)]; kernel_rfl) | (rw [if_neg (by decide +kernel)]; exact ⟨rfl, rfl⟩))
    (fun os started H enc _ => lifted os started H enc)

theorem proved : Rows.RsaRaisesSaid := over
#print axioms proved
end Go.Proofs.Ytpefjkndfifceaa.rsaRaises
