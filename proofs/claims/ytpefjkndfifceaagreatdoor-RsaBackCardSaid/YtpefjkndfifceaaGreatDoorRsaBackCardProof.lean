/-
  RsaBack: for every input the law answers true, and each argument reads behind the call as it read before, where the package-level table holds what its own text lays. No further condition.
-/
import Derived.Test.YtpefjkndfifceaaGreatDoorRows
import Derived.Test.YtpefjkndfifceaaGreatDoorCards
import Derived.Test.YtpefjkndfifceaaGreatDoorTie
import Derived.Test.YtpefjkndfifceaaGreatDoorRsaO
import Derived.Deep.DeepHandedRow
import Derived.LaidLaws
import Derived.SizedLaws
import Derived.WalkKit
import Derived.ProofKit
import Derived.OpenShut
import Derived.ShutString
import Derived.ChangeOld
import Derived.Below
import Derived.ChangeArms
namespace Go.Proofs.YtpefjkndfifceaaGreatDoor.rsaBack
open Go.ChangeShapes Go.WideShapes Go.ChangeAt Go.RowKit
set_option linter.unusedVariables false
set_option linter.unusedSimpArgs false
set_option maxRecDepth 100000

theorem own : ownKnob Tryz.prog.godebug = none := by kernel_rfl
theorem laidOut : laidOutB Tryz.prog = true := by kernel_rfl

theorem keyCells : Tryz.prog.cellTypes Tryz.prog.depth 24 = some [22, 22, 22] := by kernel_rfl
theorem keySize : Tryz.prog.cellsOf 24 = 3 := by kernel_rfl
theorem keyStruct : ∃ fs, Tryz.prog.underlying 24 = some (.struct fs) := ⟨_, Tryz.underlying24⟩
theorem cellOne : Tryz.prog.cellsOf 22 = 1 ∧ Tryz.prog.bytesOf 5 = 1 := ⟨by kernel_rfl, by kernel_rfl⟩
theorem slice_cell {W : World} {base : Nat} {v : Value} (h : Cell.okWide Tryz.prog W .any base 22 v) : ∃ (a : Option Addr) (len cap : Nat), v = .slice a len cap := by
  have h2 : Value.okWide Tryz.prog W .any base 22 v := by
    unfold Value.okWide
    rw [Tryz.underlying22]
    exact h
  exact okWide_slice Tryz.underlying22 h2

/-- A slice of integers that came in. -/
def IsRow (k : IntKind) (w : World) (a : Option Addr) (len cap : Nat) (zs : List Int) : Prop :=
  (a = none ∧ len = 0 ∧ cap = 0 ∧ zs = []) ∨
  ∃ x, a = some x ∧ len ≤ cap ∧ cap ≤ maxLen ∧ zs.length = cap ∧ (∀ i, i < zs.length → w.cell? (x.add i) = some (.int k (zs.getD i 0))) ∧ ∀ n ∈ zs, (Lit.int k n).wf = true

theorem row_of {H : Type} {enc : TypeId × Value → H} {W : World} {fuel : Nat} {a : Option Addr} {len cap : Nat} {x : DataW H × List MemPlace} (hf : DataW.trod enc Tryz.prog W 0 (fun _ => true) true fuel 22 [.slice a len cap] = some x) :
    ∃ zs, IsRow .u8 W a len cap zs ∧ (x.1 = .nil ∧ cap = 0 ∨ ∃ es sp : List (DataW H), x.1 = .slice es sp ∧ es.length + sp.length = cap) := by
  rcases open_ints Tryz.underlying22 Tryz.underlying5 (by kernel_rfl) hf with ⟨hcs, rfl⟩ | ⟨ad, l, c, zs, hcs, _, hl, hm, hz, hx, hcell, hwz⟩
  · simp at hcs
    obtain ⟨rfl, rfl, rfl⟩ := hcs
    exact ⟨[], .inl ⟨rfl, rfl, rfl, rfl⟩, .inl ⟨rfl, rfl⟩⟩
  · simp at hcs
    obtain ⟨rfl, rfl, rfl⟩ := hcs
    have hzl : zs.length = cap := by simpa using hz
    refine ⟨zs, .inr ⟨_, rfl, hl, hm, hzl, hcell, hwz⟩, .inr ⟨_, _, congrArg Prod.fst hx, ?_⟩⟩
    simp [lits, List.length_take, List.length_drop]
    omega
theorem row_of' {H : Type} {enc : TypeId × Value → H} {W : World} {a : Option Addr} {len cap : Nat} {d : DataW H} {p : List MemPlace} (hf : ∃ fuel, DataW.trod enc Tryz.prog W 0 (fun _ => true) true fuel 22 (Value.slice a len cap).cells.toList = some (d, p)) :
    ∃ zs, IsRow .u8 W a len cap zs ∧ (d = .nil ∧ cap = 0 ∨ ∃ es sp : List (DataW H), d = .slice es sp ∧ es.length + sp.length = cap) := by
  obtain ⟨fuel, hf⟩ := hf
  exact row_of (x := (d, p)) (by simpa [Value.cells] using hf)
theorem cap_of {H : Type} {x : DataW H} {c : Nat} (h1 : x = .nil ∧ c = 0 ∨ ∃ es sp : List (DataW H), x = .slice es sp ∧ es.length + sp.length = c) (h2 : ∀ es sp, x = .slice es sp → es.length + sp.length ≤ reachBytes) : c ≤ 140737488351232 := by
  rcases h1 with ⟨_, rfl⟩ | ⟨es, sp, e, rfl⟩
  · decide
  · have := h2 es sp e
    unfold reachBytes at this
    omega
theorem sized_row {H : Type} {ts : List TypeId} {ds : List (DataW H)} (hsz : (DataW.weightsEach Tryz.prog ts ds).all (· ≤ reachBytes) = true) (j : Nat) (d : DataW H) (ht : ts[j]? = some 22) (hd : ds[j]? = some d) (es sp : List (DataW H)) (e : d = .slice es sp) : es.length + sp.length ≤ reachBytes := by
  subst e
  have hb := cellOne.2
  have := List.all_eq_true.1 hsz (es.length + sp.length) (DataW.weights_mem_each (j := j) ht hd _ (by simp [DataW.weights, DataW.weightsEach, Tryz.underlying22, hb]))
  simpa using this
theorem sized_field {H : Type} {ts : List TypeId} {ds : List (DataW H)} {d : DataW H} (x0 x1 x2 : DataW H) (hd : d = .agg [x0, x1, x2]) (hsz : (DataW.weightsEach Tryz.prog ts ds).all (· ≤ reachBytes) = true) (h1 : ts[0]? = some 24) (h2 : ds[0]? = some d) :
    (∀ es sp, x0 = .slice es sp → es.length + sp.length ≤ reachBytes) ∧ (∀ es sp, x1 = .slice es sp → es.length + sp.length ≤ reachBytes) ∧ (∀ es sp, x2 = .slice es sp → es.length + sp.length ≤ reachBytes) := by
  subst hd
  have hb := cellOne.2
  have key : ∀ k, k ∈ (DataW.agg [x0, x1, x2]).weights Tryz.prog 24 → k ≤ reachBytes := fun k hk => by
    have := List.all_eq_true.1 hsz k (DataW.weights_mem_each (j := 0) h1 h2 k hk)
    simpa using this
  refine ⟨?_, ?_, ?_⟩
  · rintro es sp rfl
    exact key _ (by simp [DataW.weights, DataW.weightsEach, Tryz.underlying24, Tryz.underlying22, hb])
  · rintro es sp rfl
    exact key _ (by simp [DataW.weights, DataW.weightsEach, Tryz.underlying24, Tryz.underlying22, hb])
  · rintro es sp rfl
    exact key _ (by simp [DataW.weights, DataW.weightsEach, Tryz.underlying24, Tryz.underlying22, hb])

theorem key_of {H : Type} {enc : TypeId × Value → H} {W : World} {base : Nat} {v : Value} {d : DataW H} {p : List MemPlace} {ts : List TypeId} {ds : List (DataW H)} (h : Value.okWide Tryz.prog W .any base 24 v) (hf : ∃ fuel, DataW.trod enc Tryz.prog W 0 (fun _ => true) true fuel 24 v.cells.toList = some (d, p))
    (hsz : (DataW.weightsEach Tryz.prog ts ds).all (· ≤ reachBytes) = true) (t0 : ts[0]? = some 24) (t1 : ds[0]? = some d) :
    ∃ (a1 : Option Addr) (n1 c1 : Nat) (a2 : Option Addr) (n2 c2 : Nat) (a3 : Option Addr) (n3 c3 : Nat) (z1 z2 z3 : List Int),
      v = .agg #[.slice a1 n1 c1, .slice a2 n2 c2, .slice a3 n3 c3] ∧ IsRow .u8 W a1 n1 c1 z1 ∧ IsRow .u8 W a2 n2 c2 z2 ∧ IsRow .u8 W a3 n3 c3 z3 ∧ c1 ≤ 140737488351232 ∧ c2 ≤ 140737488351232 ∧ c3 ≤ 140737488351232 := by
  obtain ⟨fs, hu⟩ := keyStruct
  obtain rfl : fs = _ := by
    have := hu.symm.trans Tryz.underlying24
    simpa using this
  unfold Value.okWide at h
  rw [hu] at h
  obtain ⟨cs, rfl, h2, us, hts, _, hc⟩ := h
  rw [keySize] at h2
  rw [keyCells] at hts
  cases hts
  obtain ⟨l⟩ := cs
  match l, h2 with
  | [c0, c1, c2], _ =>
    obtain ⟨u0, e0, o0⟩ := hc 0 c0 rfl
    obtain ⟨u1, e1, o1⟩ := hc 1 c1 rfl
    obtain ⟨u2, e2, o2⟩ := hc 2 c2 rfl
    cases e0
    cases e1
    cases e2
    obtain ⟨a1, n1, k1, rfl⟩ := slice_cell o0
    obtain ⟨a2, n2, k2, rfl⟩ := slice_cell o1
    obtain ⟨a3, n3, k3, rfl⟩ := slice_cell o2
    obtain ⟨fuel, hf⟩ := hf
    obtain ⟨xs, n, _, hx, _, hxl, hfl⟩ := DataW.trod_struct hu hf
    have hone := cellOne
    have g0 := hfl 0 _ rfl
    have g1 := hfl 1 _ rfl
    have g2 := hfl 2 _ rfl
    match xs, hxl with
    | [x0, x1, x2], _ =>
      simp [Value.cells, hone.1] at g0 g1 g2
      obtain ⟨z1, r1, q1⟩ := row_of g0
      obtain ⟨z2, r2, q2⟩ := row_of g1
      obtain ⟨z3, r3, q3⟩ := row_of g2
      obtain ⟨w1, w2, w3⟩ := sized_field _ _ _ (congrArg Prod.fst hx) hsz t0 t1
      exact ⟨a1, n1, k1, a2, n2, k2, a3, n3, k3, z1, z2, z3, rfl, r1, r2, r3, cap_of q1 w1, cap_of q2 w2, cap_of q3 w3⟩

theorem walk (a1 : Option Addr) (n1 c1 : Nat) (z1 : List Int) (a2 : Option Addr) (n2 c2 : Nat) (z2 : List Int) (a3 : Option Addr) (n3 c3 : Nat) (z3 : List Int) (i4 : Int) (i5 : Int) (a6 : Option Addr) (n6 c6 : Nat) (z6 : List Int) (a7 : Option Addr) (n7 c7 : Nat) (z7 : List Int) (a8 : Option Addr) (n8 c8 : Nat) (z8 : List Int) (w : World) (hk : Kinds w) (w1 : IsRow .u8 w a1 n1 c1 z1) (w2 : IsRow .u8 w a2 n2 c2 z2) (w3 : IsRow .u8 w a3 n3 c3 z3) (k1 : c1 ≤ 140737488351232) (k2 : c2 ≤ 140737488351232) (k3 : c3 ≤ 140737488351232) (v4 : (Lit.int .i64 i4).wf = true) (v5 : (Lit.int .i64 i5).wf = true) (w6 : IsRow .u8 w a6 n6 c6 z6) (k6 : c6 ≤ 140737488351232) (w7 : IsRow .u8 w a7 n7 c7 z7) (k7 : c7 ≤ 140737488351232) (w8 : IsRow .u8 w a8 n8 c8 z8) (k8 : c8 ≤ 140737488351232) :
    Calls Tryz.prog 7 #[.agg #[.slice a1 n1 c1, .slice a2 n2 c2, .slice a3 n3 c3], .int .i64 i4, .int .i64 i5, .slice a6 n6 c6, .slice a7 n7 c7, .slice a8 n8 c8] w fun e w' => e = .returned (.bool true) ∧ Below w.heap.size w w' := by
  obtain ⟨N, hN, bN⟩ := reads_of_bytesM w1
  obtain ⟨E, hE, bE⟩ := reads_of_bytesM w2
  obtain ⟨D, hD, bD⟩ := reads_of_bytesM w3
  obtain ⟨G, hG, bG⟩ := reads_of_bytesM w6
  obtain ⟨O, hO, bO⟩ := reads_of_bytesM w7
  obtain ⟨T, hT, bT⟩ := reads_of_bytesM w8
  exact back_walk a1 n1 c1 N a2 n2 c2 E a3 n3 c3 D i4 i5 a6 n6 c6 G a7 n7 c7 O a8 n8 c8 T w hk hN bN hE bE hD bD (Nat.le_trans hN.le k1) (Nat.le_trans hE.le k2) (Nat.le_trans hD.le k3) hG bG (Nat.le_trans hG.le k6) hO bO (Nat.le_trans hO.le k7) hT bT (Nat.le_trans hT.le k8)

/-- A world for the witness: the settled one, each listed table holding what its initialiser lays. -/
noncomputable def laidWorld (os : Os) : World :=
  { World.holding Tryz.prog os ⟨#[], #[], []⟩ with heap := ((World.holding Tryz.prog os ⟨#[], #[], []⟩).heap.modify 0 fun
      | .cells _ t frozen => .cells #[.string ⟨#[115, 104, 97, 50, 50, 52]⟩, .int .i64 28, .int .u8 4, .string ⟨#[115, 104, 97, 50, 53, 54]⟩, .int .i64 32, .int .u8 1, .string ⟨#[115, 104, 97, 51, 56, 52]⟩, .int .i64 48, .int .u8 2, .string ⟨#[115, 104, 97, 53, 49, 50]⟩, .int .i64 64, .int .u8 3] t frozen
      | o => o) }
theorem laid_met (os : Os) : laidMet Tryz.prog Rows.rsaBackRow.laid ((laidWorld os).forCall (fun _ _ => 0) ⟨#[], #[.agg #[.slice none 0 0, .slice none 0 0, .slice none 0 0], .int .i64 0, .int .i64 0, .slice none 0 0, .slice none 0 0, .slice none 0 0], []⟩).memory :=
  laidMet_of_run' 8 (by kernel_rfl) (by kernel_rfl)
theorem reads (os : Os) {H : Type} (enc : TypeId × Value → H) : ∃ places, DataW.whole enc Tryz.prog ((laidWorld os).forCall (fun _ _ => 0) ⟨#[], #[.agg #[.slice none 0 0, .slice none 0 0, .slice none 0 0], .int .i64 0, .int .i64 0, .slice none 0 0, .slice none 0 0, .slice none 0 0], []⟩).memory Tryz.f7.params.toList Rows.rsaBackSpec.vars false (#[.agg #[.slice none 0 0, .slice none 0 0, .slice none 0 0], .int .i64 0, .int .i64 0, .slice none 0 0, .slice none 0 0, .slice none 0 0] : Array Value).toList 8 = some ([.agg [.nil, .nil, .nil], .lit (.int .i64 0), .lit (.int .i64 0), .nil, .nil, .nil], [], places) :=
  ⟨[], by kernel_rfl⟩

set_option maxRecDepth 100000 in
theorem lifted (os : Os) (started : os.Started) (H : Type) (enc : TypeId × Value → H) (F : Stop.Interp) :
    ReturnsInHanded {} Tryz.checked os 7 .any ((OpenSpec.ofChange Rows.rsaBackSpec).preRow enc Tryz.prog Tryz.f7 Rows.rsaBackRow.domain false Rows.rsaBackRow.laid) (((OpenSpec.ofChange Rows.rsaBackSpec).at F).post enc Tryz.prog Tryz.f7 false true false false) := by
  obtain ⟨places, hx⟩ := reads os enc
  refine returnsInHanded_of_row (C := Tryz.checked) (s := OpenSpec.ofChange Rows.rsaBackSpec) own started (by kernel_rfl) Tryz.func7
    (witness_row_at (enc := enc) (C := Tryz.checked) false (laidWorld os) #[.agg #[.slice none 0 0, .slice none 0 0, .slice none 0 0], .int .i64 0, .int .i64 0, .slice none 0 0, .slice none 0 0, .slice none 0 0] rfl (by kernel_rfl) (by kernel_rfl) (by kernel_rfl)
      (OpenSpec.preRow_of_cond 8 hx (by kernel_rfl) (fun k hk => by cases hk) (by kernel_rfl) (laid_met os))) ?_
  intro W base args ds gs before hval0 hW _ _ hsz hL _ _
  have hval : ∀ (j : Nat) t v, Tryz.f7.params[j]? = some t → args[j]? = some v → Value.okWide Tryz.prog W .any base t v := hval0
  have hW' := hW
  obtain ⟨p, q, hA0, hV, rfl, hfz, hnd⟩ := hW
  have hA : DataW.TrodAll enc Tryz.prog W 0 (fun _ => true) true Tryz.f7.params.toList args.toList ds p := hA0
  rw [Tryz.params7] at hA hval
  obtain ⟨v0, vs0, d0, ds0, p0, q0, hargs, rfl, rfl, h0, r0⟩ := trodAll_cons hA
  obtain ⟨v1, vs1, d1, ds1, p1, q1, rfl, rfl, rfl, h1, r1⟩ := trodAll_cons r0
  obtain ⟨v2, vs2, d2, ds2, p2, q2, rfl, rfl, rfl, h2, r2⟩ := trodAll_cons r1
  obtain ⟨v3, vs3, d3, ds3, p3, q3, rfl, rfl, rfl, h3, r3⟩ := trodAll_cons r2
  obtain ⟨v4, vs4, d4, ds4, p4, q4, rfl, rfl, rfl, h4, r4⟩ := trodAll_cons r3
  obtain ⟨v5, vs5, d5, ds5, p5, q5, rfl, rfl, rfl, h5, r5⟩ := trodAll_cons r4
  obtain ⟨rfl, rfl, rfl⟩ := trodAll_nil r5
  obtain rfl : args = #[v0, v1, v2, v3, v4, v5] := by cases args; simp_all
  obtain ⟨rfl, rfl⟩ := trodVars_none hV
  obtain ⟨a1, n1, c1, a2, n2, c2, a3, n3, c3, z1, z2, z3, rfl, w1, w2, w3, k1, k2, k3⟩ := key_of (ts := [24, 25, 26, 22, 22, 22]) (ds := [d0, d1, d2, d3, d4, d5]) (hval 0 24 v0 rfl rfl) h0 hsz rfl rfl
  have b0 := h0
  have lt0 : ∀ x ∈ p0, x.block < W.heap.size := by obtain ⟨m, hm⟩ := b0; exact DataW.trod_lt m _ _ _ hm
  obtain ⟨i4, rfl, rfl, rfl, u4⟩ := open_int Tryz.underlying25 (hval 1 25 v1 rfl rfl) h1
  obtain ⟨i5, rfl, rfl, rfl, u5⟩ := open_int Tryz.underlying26 (hval 2 26 v2 rfl rfl) h2
  obtain ⟨a6, n6, c6, rfl⟩ := okWide_slice Tryz.underlying22 (hval 3 22 v3 rfl rfl)
  have b3 := h3
  have lt3 : ∀ x ∈ p3, x.block < W.heap.size := by obtain ⟨m, hm⟩ := b3; exact DataW.trod_lt m _ _ _ hm
  obtain ⟨z6, w6, y6⟩ := row_of' h3
  have k6 : c6 ≤ 140737488351232 := cap_of y6 (fun es sp e => sized_row (ts := [24, 25, 26, 22, 22, 22]) hsz 3 _ rfl rfl es sp e)
  obtain ⟨a7, n7, c7, rfl⟩ := okWide_slice Tryz.underlying22 (hval 4 22 v4 rfl rfl)
  have b4 := h4
  have lt4 : ∀ x ∈ p4, x.block < W.heap.size := by obtain ⟨m, hm⟩ := b4; exact DataW.trod_lt m _ _ _ hm
  obtain ⟨z7, w7, y7⟩ := row_of' h4
  have k7 : c7 ≤ 140737488351232 := cap_of y7 (fun es sp e => sized_row (ts := [24, 25, 26, 22, 22, 22]) hsz 4 _ rfl rfl es sp e)
  obtain ⟨a8, n8, c8, rfl⟩ := okWide_slice Tryz.underlying22 (hval 5 22 v5 rfl rfl)
  have b5 := h5
  have lt5 : ∀ x ∈ p5, x.block < W.heap.size := by obtain ⟨m, hm⟩ := b5; exact DataW.trod_lt m _ _ _ hm
  obtain ⟨z8, w8, y8⟩ := row_of' h5
  have k8 : c8 ≤ 140737488351232 := cap_of y8 (fun es sp e => sized_row (ts := [24, 25, 26, 22, 22, 22]) hsz 5 _ rfl rfl es sp e)
  clear hA0 hval0
  refine (walk a1 n1 c1 z1 a2 n2 c2 z2 a3 n3 c3 z3 i4 i5 a6 n6 c6 z6 a7 n7 c7 z7 a8 n8 c8 z8 W (kinds_of_laid hL) w1 w2 w3 k1 k2 k3 u4 u5 w6 k6 w7 k7 w8 k8).mono fun e W' ⟨he, bel⟩ => ?_
  subst he
  exact ⟨_, rfl, _, _, _, [], _, [], hW', trodAll_mk1 (shut_bool Tryz.underlying4 _), (trodAll_cons_mk (Below.trod laidOut (by kernel_rfl) (of_decide_eq_true (by kernel_rfl)) b0 bel lt0) (trodAll_cons_mk (shut_int Tryz.underlying25 u4) (trodAll_cons_mk (shut_int Tryz.underlying26 u5) (trodAll_cons_mk (Below.trod laidOut (by kernel_rfl) (of_decide_eq_true (by kernel_rfl)) b3 bel lt3) (trodAll_cons_mk (Below.trod laidOut (by kernel_rfl) (of_decide_eq_true (by kernel_rfl)) b4 bel lt4) (trodAll_cons_mk (Below.trod laidOut (by kernel_rfl) (of_decide_eq_true (by kernel_rfl)) b5 bel lt5) trodAll_mk0)))))), rfl, bel.frame _, fun h => by cases h⟩

theorem said : Rows.RsaBackSaid :=
  OpenClaim.holds_of_cond 7 Tryz.f7 rfl rfl rfl rfl rfl rfl rfl ⟨rfl, rfl, rfl, rfl, rfl⟩ rfl rfl rfl rfl rfl (by kernel_rfl) Tryz.func7 (by kernel_rfl)
    (of_decide_eq_true (by kernel_rfl)) (by unfold Func.isWrapper; first | (rw [if_pos (by decide +kernel)]; kernel_rfl) | (rw [if_neg (by decide +kernel)]; exact ⟨rfl, rfl⟩))
    (fun os started H enc _ F => by rw [OpenClaim.pre_eq_preRow]; exact lifted os started H enc F)
/-- No parameter wants a stand-in. -/
theorem plain (f : FuncId) (fn : Func) (hf : Tryz.pinned.checked.prog.funcNamed "postmark/postmarklaw10.RsaBack" = some f) (hfn : Tryz.pinned.checked.prog.funcs[f]? = some fn) :
    false = Tryz.pinned.checked.prog.looks [] ∧ ∀ (j : Nat) t, fn.params[j]? = some t → Tryz.pinned.checked.prog.wantsStandIn t = false := by
  obtain rfl : f = 7 := Option.some.inj ((show Tryz.prog.funcNamed "postmark/postmarklaw10.RsaBack" = some 7 by kernel_rfl).symm.trans hf) |>.symm
  obtain rfl : fn = Tryz.f7 := (Option.some.inj (Tryz.func7.symm.trans hfn)).symm
  refine ⟨by kernel_rfl, fun j t ht => ?_⟩
  have hall : ∀ x ∈ Tryz.f7.params.toList, Tryz.prog.wantsStandIn x = false := fun x hx => by
    have h := (show (Tryz.f7.params.toList.all fun x => !Tryz.prog.wantsStandIn x) = true by kernel_rfl)
    have h2 := List.all_eq_true.1 h x hx
    simpa using h2
  exact hall t (by
    have := Array.mem_of_getElem? ht
    exact Array.mem_toList_iff.2 this)
theorem proved : Rows.RsaBackCardSaid :=
  Claim7.holds_tied_plain_at .later [] _ _ _ _ said (fun _ h => by cases h) (by kernel_rfl) (fun _ h => by cases h) rsaBack_row_tie rfl ⟨rfl, rfl⟩ (by kernel_rfl) rfl plain (by kernel_rfl)
#print axioms proved
end Go.Proofs.YtpefjkndfifceaaGreatDoor.rsaBack
