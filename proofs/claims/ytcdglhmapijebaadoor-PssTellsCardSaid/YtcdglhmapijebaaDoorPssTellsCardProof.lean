/-
  PssTells: for every input the law answers true, and each argument reads behind the call as it read before, where the package-level table holds what its own text lays. No further condition.
-/
import Derived.Test.YtcdglhmapijebaaDoorRows
import Derived.Test.YtcdglhmapijebaaDoorCards
import Derived.Test.YtcdglhmapijebaaDoorTie
import Derived.Test.YtcdglhmapijebaaDoorRp5
import Derived.Deep.DeepHandedRow
import Derived.LaidLaws
import Derived.SizedLaws
import Derived.WalkKit
import Derived.ProofKit
import Derived.OpenShut
import Derived.ShutString
import Derived.ChangeOld
import Derived.Below
import Derived.ChangeArms
namespace Go.Proofs.YtcdglhmapijebaaDoor.pssTells
open Go.ChangeShapes Go.WideShapes Go.ChangeAt Go.RowKit
set_option linter.unusedVariables false
set_option maxRecDepth 100000

theorem own : ownKnob Tryd.prog.godebug = none := by kernel_rfl
theorem laidOut : laidOutB Tryd.prog = true := by kernel_rfl

theorem askCells : Tryd.prog.cellTypes Tryd.prog.depth 24 = some [3, 22, 22, 22, 3, 3] := by kernel_rfl
theorem askSize : Tryd.prog.cellsOf 24 = 6 := by kernel_rfl
theorem askStruct : ∃ fs, Tryd.prog.underlying 24 = some (.struct fs) := ⟨_, Tryd.underlying24⟩
theorem cellOne : Tryd.prog.cellsOf 22 = 1 ∧ Tryd.prog.cellsOf 3 = 1 ∧ Tryd.prog.bytesOf 5 = 1 := ⟨by kernel_rfl, by kernel_rfl, by kernel_rfl⟩

theorem int_cell {W : World} {base : Nat} {v : Value} (h : Cell.okWide Tryd.prog W .any base 3 v) : ∃ n : Int, v = .int .i64 n := by
  have h2 : Value.okWide Tryd.prog W .any base 3 v := by
    unfold Value.okWide
    rw [Tryd.underlying3]
    exact h
  obtain ⟨n, rfl, _⟩ := okWide_int Tryd.underlying3 h2
  exact ⟨n, rfl⟩
theorem slice_cell {W : World} {base : Nat} {v : Value} (h : Cell.okWide Tryd.prog W .any base 22 v) : ∃ (a : Option Addr) (len cap : Nat), v = .slice a len cap := by
  have h2 : Value.okWide Tryd.prog W .any base 22 v := by
    unfold Value.okWide
    rw [Tryd.underlying22]
    exact h
  exact okWide_slice Tryd.underlying22 h2

/-- A slice of integers that came in. -/
def IsRow (k : IntKind) (w : World) (a : Option Addr) (len cap : Nat) (zs : List Int) : Prop :=
  (a = none ∧ len = 0 ∧ cap = 0 ∧ zs = []) ∨
  ∃ x, a = some x ∧ len ≤ cap ∧ cap ≤ maxLen ∧ zs.length = cap ∧ (∀ i, i < zs.length → w.cell? (x.add i) = some (.int k (zs.getD i 0))) ∧ ∀ n ∈ zs, (Lit.int k n).wf = true

theorem row_of {H : Type} {enc : TypeId × Value → H} {W : World} {fuel : Nat} {a : Option Addr} {len cap : Nat} {x : DataW H × List MemPlace} (hf : DataW.trod enc Tryd.prog W 0 (fun _ => true) true fuel 22 [.slice a len cap] = some x) :
    ∃ zs, IsRow .u8 W a len cap zs ∧ (x.1 = .nil ∧ cap = 0 ∨ ∃ es sp : List (DataW H), x.1 = .slice es sp ∧ es.length + sp.length = cap) := by
  rcases open_ints Tryd.underlying22 Tryd.underlying5 (by kernel_rfl) hf with ⟨hcs, rfl⟩ | ⟨ad, l, c, zs, hcs, _, hl, hm, hz, hx, hcell, hwz⟩
  · simp at hcs
    obtain ⟨rfl, rfl, rfl⟩ := hcs
    exact ⟨[], .inl ⟨rfl, rfl, rfl, rfl⟩, .inl ⟨rfl, rfl⟩⟩
  · simp at hcs
    obtain ⟨rfl, rfl, rfl⟩ := hcs
    have hzl : zs.length = cap := by simpa using hz
    refine ⟨zs, .inr ⟨_, rfl, hl, hm, hzl, hcell, hwz⟩, .inr ⟨_, _, congrArg Prod.fst hx, ?_⟩⟩
    simp [lits, List.length_take, List.length_drop]
    omega
theorem int_of {H : Type} {enc : TypeId × Value → H} {W : World} {fuel : Nat} {n : Int} {x : DataW H × List MemPlace} (hf : DataW.trod enc Tryd.prog W 0 (fun _ => true) true fuel 3 [.int .i64 n] = some x) : (Lit.int .i64 n).wf = true := by
  cases fuel with
  | zero => simp [DataW.trod] at hf
  | succ k =>
    unfold DataW.trod at hf
    simp only [DataW.trodStep, Tryd.underlying3] at hf
    split at hf
    · rename_i hc; exact hc.2
    · cases hf

theorem sized_field {H : Type} {d : DataW H} (x0 x1 x2 x3 x4 x5 : DataW H) (hd : d = .agg [x0, x1, x2, x3, x4, x5]) (hsz : (DataW.weightsEach Tryd.prog [24] [d]).all (· ≤ reachBytes) = true) :
    (∀ es sp, x1 = .slice es sp → es.length + sp.length ≤ reachBytes) ∧ (∀ es sp, x2 = .slice es sp → es.length + sp.length ≤ reachBytes) ∧ (∀ es sp, x3 = .slice es sp → es.length + sp.length ≤ reachBytes) := by
  subst hd
  have hb := cellOne.2.2
  have key : ∀ k, k ∈ (DataW.agg [x0, x1, x2, x3, x4, x5]).weights Tryd.prog 24 → k ≤ reachBytes := fun k hk => by
    have := List.all_eq_true.1 hsz k (DataW.weights_mem_each (ts := [24]) (ds := [.agg [x0, x1, x2, x3, x4, x5]]) (j := 0) rfl rfl k hk)
    simpa using this
  refine ⟨?_, ?_, ?_⟩
  · rintro es sp rfl
    exact key _ (by simp [DataW.weights, DataW.weightsEach, Tryd.underlying24, Tryd.underlying22, hb])
  · rintro es sp rfl
    exact key _ (by simp [DataW.weights, DataW.weightsEach, Tryd.underlying24, Tryd.underlying22, hb])
  · rintro es sp rfl
    exact key _ (by simp [DataW.weights, DataW.weightsEach, Tryd.underlying24, Tryd.underlying22, hb])

theorem ask_of {H : Type} {enc : TypeId × Value → H} {W : World} {base : Nat} {v : Value} {d : DataW H} {p : List MemPlace} (h : Value.okWide Tryd.prog W .any base 24 v) (hf : ∃ fuel, DataW.trod enc Tryd.prog W 0 (fun _ => true) true fuel 24 v.cells.toList = some (d, p))
    (hsz : (DataW.weightsEach Tryd.prog [24] [d]).all (· ≤ reachBytes) = true) :
    ∃ (h0 : Int) (a1 : Option Addr) (n1 c1 : Nat) (a2 : Option Addr) (n2 c2 : Nat) (a3 : Option Addr) (n3 c3 : Nat) (s b : Int) (z1 z2 z3 : List Int),
      v = .agg #[.int .i64 h0, .slice a1 n1 c1, .slice a2 n2 c2, .slice a3 n3 c3, .int .i64 s, .int .i64 b] ∧ IsRow .u8 W a1 n1 c1 z1 ∧ IsRow .u8 W a2 n2 c2 z2 ∧ IsRow .u8 W a3 n3 c3 z3 ∧ c1 ≤ 140737488351232 ∧ c2 ≤ 140737488351232 ∧ c3 ≤ 140737488351232 ∧ (Lit.int .i64 s).wf = true ∧ (Lit.int .i64 b).wf = true := by
  obtain ⟨fs, hu⟩ := askStruct
  obtain rfl : fs = _ := by
    have := hu.symm.trans Tryd.underlying24
    simpa using this
  unfold Value.okWide at h
  rw [hu] at h
  obtain ⟨cs, rfl, h2, ts, hts, _, hc⟩ := h
  rw [askSize] at h2
  rw [askCells] at hts
  cases hts
  obtain ⟨l⟩ := cs
  match l, h2 with
  | [c0, c1, c2, c3, c4, c5], _ =>
    obtain ⟨u0, e0, o0⟩ := hc 0 c0 rfl
    obtain ⟨u1, e1, o1⟩ := hc 1 c1 rfl
    obtain ⟨u2, e2, o2⟩ := hc 2 c2 rfl
    obtain ⟨u3, e3, o3⟩ := hc 3 c3 rfl
    obtain ⟨u4, e4, o4⟩ := hc 4 c4 rfl
    obtain ⟨u5, e5, o5⟩ := hc 5 c5 rfl
    cases e0
    cases e1
    cases e2
    cases e3
    cases e4
    cases e5
    obtain ⟨h0, rfl⟩ := int_cell o0
    obtain ⟨a1, n1, k1, rfl⟩ := slice_cell o1
    obtain ⟨a2, n2, k2, rfl⟩ := slice_cell o2
    obtain ⟨a3, n3, k3, rfl⟩ := slice_cell o3
    obtain ⟨s, rfl⟩ := int_cell o4
    obtain ⟨b, rfl⟩ := int_cell o5
    obtain ⟨fuel, hf⟩ := hf
    obtain ⟨xs, n, _, hx, _, hxl, hfl⟩ := DataW.trod_struct hu hf
    have hone := cellOne
    have g1 := hfl 1 _ rfl
    have g2 := hfl 2 _ rfl
    have g3 := hfl 3 _ rfl
    have g4 := hfl 4 _ rfl
    have g5 := hfl 5 _ rfl
    match xs, hxl with
    | [x0, x1, x2, x3, x4, x5], _ =>
      simp [Value.cells, hone.1, hone.2.1] at g1 g2 g3 g4 g5
      obtain ⟨z1, r1, q1⟩ := row_of g1
      obtain ⟨z2, r2, q2⟩ := row_of g2
      obtain ⟨z3, r3, q3⟩ := row_of g3
      obtain ⟨w1, w2, w3⟩ := sized_field _ _ _ _ _ _ (congrArg Prod.fst hx) hsz
      have cap : ∀ {x : DataW H} {c : Nat}, (x = .nil ∧ c = 0 ∨ ∃ es sp : List (DataW H), x = .slice es sp ∧ es.length + sp.length = c) → (∀ es sp, x = .slice es sp → es.length + sp.length ≤ reachBytes) → c ≤ 140737488351232 := fun h1 h2 => by
        rcases h1 with ⟨_, rfl⟩ | ⟨es, sp, e, rfl⟩
        · decide
        · have := h2 es sp e
          unfold reachBytes at this
          omega
      exact ⟨h0, a1, n1, k1, a2, n2, k2, a3, n3, k3, s, b, z1, z2, z3, rfl, r1, r2, r3, cap q1 w1, cap q2 w2, cap q3 w3, int_of g4, int_of g5⟩

theorem walk (h0 : Int) (a1 : Option Addr) (n1 c1 : Nat) (z1 : List Int) (a2 : Option Addr) (n2 c2 : Nat) (z2 : List Int) (a3 : Option Addr) (n3 c3 : Nat) (z3 : List Int) (s b : Int) (w : World) (hk : Kinds w) (w1 : IsRow .u8 w a1 n1 c1 z1) (w2 : IsRow .u8 w a2 n2 c2 z2) (w3 : IsRow .u8 w a3 n3 c3 z3) (k1 : c1 ≤ 140737488351232) (k2 : c2 ≤ 140737488351232) (k3 : c3 ≤ 140737488351232) (ws : (Lit.int .i64 s).wf = true) (wb : (Lit.int .i64 b).wf = true) :
    Calls Tryd.prog 3 #[.agg #[.int .i64 h0, .slice a1 n1 c1, .slice a2 n2 c2, .slice a3 n3 c3, .int .i64 s, .int .i64 b]] w fun e w' => e = .returned (.bool true) ∧ Below w.heap.size w w' := by
  obtain ⟨D, hD, bD⟩ := reads_of_bytesM w1
  obtain ⟨SS, hS, bS⟩ := reads_of_bytesM w2
  obtain ⟨B, hB, bB⟩ := reads_of_bytesM w3
  exact tells_walk h0 a1 n1 c1 D a2 n2 c2 SS a3 n3 c3 B s b (Nat.le_trans hD.le k1) (Nat.le_trans hS.le k2) (Nat.le_trans hB.le k3) (bounds_i64 ws).1 (bounds_i64 ws).2 (bounds_i64 wb).1 (bounds_i64 wb).2 w hk hD bD hS bS hB bB

/-- A world for the witness: the settled one, each listed table holding what its initialiser lays. -/
noncomputable def laidWorld (os : Os) : World :=
  { World.holding Tryd.prog os ⟨#[], #[], []⟩ with heap := ((World.holding Tryd.prog os ⟨#[], #[], []⟩).heap.modify 0 fun
      | .cells _ t frozen => .cells #[.string ⟨#[115, 104, 97, 50, 50, 52]⟩, .int .i64 28, .int .u8 4, .string ⟨#[115, 104, 97, 50, 53, 54]⟩, .int .i64 32, .int .u8 1, .string ⟨#[115, 104, 97, 51, 56, 52]⟩, .int .i64 48, .int .u8 2, .string ⟨#[115, 104, 97, 53, 49, 50]⟩, .int .i64 64, .int .u8 3] t frozen
      | o => o) }
theorem laid_met (os : Os) : laidMet Tryd.prog Rows.pssTellsRow.laid ((laidWorld os).forCall (fun _ _ => 0) ⟨#[], #[.agg #[.int .i64 0, .slice none 0 0, .slice none 0 0, .slice none 0 0, .int .i64 0, .int .i64 0]], []⟩).memory :=
  laidMet_of_run' 8 (by kernel_rfl) (by kernel_rfl)
theorem reads (os : Os) {H : Type} (enc : TypeId × Value → H) : ∃ places, DataW.whole enc Tryd.prog ((laidWorld os).forCall (fun _ _ => 0) ⟨#[], #[.agg #[.int .i64 0, .slice none 0 0, .slice none 0 0, .slice none 0 0, .int .i64 0, .int .i64 0]], []⟩).memory Tryd.f3.params.toList Rows.pssTellsSpec.vars false (#[.agg #[.int .i64 0, .slice none 0 0, .slice none 0 0, .slice none 0 0, .int .i64 0, .int .i64 0]] : Array Value).toList 8 = some ([.agg [.lit (.int .i64 0), .nil, .nil, .nil, .lit (.int .i64 0), .lit (.int .i64 0)]], [], places) :=
  ⟨[], by kernel_rfl⟩

set_option maxRecDepth 100000 in
theorem lifted (os : Os) (started : os.Started) (H : Type) (enc : TypeId × Value → H) (F : Stop.Interp) :
    ReturnsInHanded {} Tryd.checked os 3 .any ((OpenSpec.ofChange Rows.pssTellsSpec).preRow enc Tryd.prog Tryd.f3 Rows.pssTellsRow.domain false Rows.pssTellsRow.laid) (((OpenSpec.ofChange Rows.pssTellsSpec).at F).post enc Tryd.prog Tryd.f3 false true false false) := by
  obtain ⟨places, hx⟩ := reads os enc
  refine returnsInHanded_of_row (C := Tryd.checked) (s := OpenSpec.ofChange Rows.pssTellsSpec) own started (by kernel_rfl) Tryd.func3
    (witness_row_at (enc := enc) (C := Tryd.checked) false (laidWorld os) #[.agg #[.int .i64 0, .slice none 0 0, .slice none 0 0, .slice none 0 0, .int .i64 0, .int .i64 0]] rfl (by kernel_rfl) (by kernel_rfl) (by kernel_rfl)
      (OpenSpec.preRow_of_cond 8 hx (by kernel_rfl) (fun k hk => by cases hk) (by kernel_rfl) (laid_met os))) ?_
  intro W base args ds gs before hval0 hW _ _ hsz hL _ _
  have hval : ∀ (j : Nat) t v, Tryd.f3.params[j]? = some t → args[j]? = some v → Value.okWide Tryd.prog W .any base t v := hval0
  have hW' := hW
  obtain ⟨p, q, hA0, hV, rfl, hfz, hnd⟩ := hW
  have hA : DataW.TrodAll enc Tryd.prog W 0 (fun _ => true) true Tryd.f3.params.toList args.toList ds p := hA0
  rw [Tryd.params3] at hA hval
  obtain ⟨v0, vs0, d0, ds0, p0, q0, hargs, rfl, rfl, h0, r0⟩ := trodAll_cons hA
  obtain ⟨rfl, rfl, rfl⟩ := trodAll_nil r0
  obtain rfl : args = #[v0] := by cases args; simp_all
  obtain ⟨rfl, rfl⟩ := trodVars_none hV
  obtain ⟨i0, a1, n1, c1, a2, n2, c2, a3, n3, c3, s, b, z1, z2, z3, rfl, w1, w2, w3, k1, k2, k3, ws, wb⟩ := ask_of (hval 0 24 v0 rfl rfl) h0 hsz
  have k0 := h0
  have lt0 : ∀ x ∈ p0, x.block < W.heap.size := by obtain ⟨m, hm⟩ := k0; exact DataW.trod_lt m _ _ _ hm
  clear hA0 hval0
  refine (walk i0 a1 n1 c1 z1 a2 n2 c2 z2 a3 n3 c3 z3 s b W (kinds_of_laid hL) w1 w2 w3 k1 k2 k3 ws wb).mono fun e W' ⟨he, bel⟩ => ?_
  subst he
  exact ⟨_, rfl, _, _, _, [], _, [], hW', trodAll_mk1 (shut_bool Tryd.underlying4 _), (trodAll_cons_mk (Below.trod laidOut (by kernel_rfl) (of_decide_eq_true (by kernel_rfl)) k0 bel lt0) (trodAll_mk0)), rfl, bel.frame _, fun h => by cases h⟩

theorem said : Rows.PssTellsSaid :=
  OpenClaim.holds_of_cond 3 Tryd.f3 rfl rfl rfl rfl rfl rfl rfl ⟨rfl, rfl, rfl, rfl, rfl⟩ rfl rfl rfl rfl rfl (by kernel_rfl) Tryd.func3 (by kernel_rfl)
    (of_decide_eq_true (by kernel_rfl)) (by unfold Func.isWrapper; first | (rw [if_pos (by decide +kernel)]; kernel_rfl) | (rw [if_neg (by decide +kernel)]; exact ⟨rfl, rfl⟩))
    (fun os started H enc _ F => by rw [OpenClaim.pre_eq_preRow]; exact lifted os started H enc F)
/-- No parameter wants a stand-in. -/
theorem plain (f : FuncId) (fn : Func) (hf : Tryd.pinned.checked.prog.funcNamed "postmark/postmarklaw09.PssTells" = some f) (hfn : Tryd.pinned.checked.prog.funcs[f]? = some fn) :
    false = Tryd.pinned.checked.prog.looks [] ∧ ∀ (j : Nat) t, fn.params[j]? = some t → Tryd.pinned.checked.prog.wantsStandIn t = false := by
  obtain rfl : f = 3 := Option.some.inj ((show Tryd.prog.funcNamed "postmark/postmarklaw09.PssTells" = some 3 by kernel_rfl).symm.trans hf) |>.symm
  obtain rfl : fn = Tryd.f3 := (Option.some.inj (Tryd.func3.symm.trans hfn)).symm
  refine ⟨by kernel_rfl, fun j t ht => ?_⟩
  have hall : ∀ x ∈ Tryd.f3.params.toList, Tryd.prog.wantsStandIn x = false := fun x hx => by
    have h := (show (Tryd.f3.params.toList.all fun x => !Tryd.prog.wantsStandIn x) = true by kernel_rfl)
    have h2 := List.all_eq_true.1 h x hx
    simpa using h2
  exact hall t (by
    have := Array.mem_of_getElem? ht
    exact Array.mem_toList_iff.2 this)
theorem proved : Rows.PssTellsCardSaid :=
  Claim7.holds_tied_plain_at .later [] _ _ _ _ said (fun _ h => by cases h) (by kernel_rfl) (fun _ h => by cases h) pssTells_row_tie rfl ⟨rfl, rfl⟩ (by kernel_rfl) rfl plain (by kernel_rfl)
#print axioms proved
end Go.Proofs.YtcdglhmapijebaaDoor.pssTells
