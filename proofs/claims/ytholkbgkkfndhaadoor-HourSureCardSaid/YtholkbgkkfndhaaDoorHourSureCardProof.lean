/-
  HourSure: for every input the law answers true, and each argument reads behind the call as it read before, where the package-level table holds what its own text lays. No further condition.
-/
import Derived.Test.YtholkbgkkfndhaaDoorRows
import Derived.Test.YtholkbgkkfndhaaDoorCards
import Derived.Test.YtholkbgkkfndhaaDoorTie
import Derived.Test.YtholkbgkkfndhaaDoorHourS5
import Derived.Deep.DeepHandedRow
import Derived.LaidLaws
import Derived.WalkKit
import Derived.ProofKit
import Derived.OpenShut
import Derived.ShutString
import Derived.ChangeOld
import Derived.Below
namespace Go.Proofs.YtholkbgkkfndhaaDoor.hourSure
open Go.ChangeShapes Go.WideShapes Go.ChangeAt Go.RowKit
set_option linter.unusedVariables false
set_option maxRecDepth 100000

theorem own : ownKnob Tryd.prog.godebug = none := by kernel_rfl
theorem laidOut : laidOutB Tryd.prog = true := by kernel_rfl

theorem timesCells : Tryd.prog.cellTypes Tryd.prog.depth 46 = some [2, 2, 2] := by kernel_rfl
theorem timesSize : Tryd.prog.cellsOf 46 = 3 := by kernel_rfl
theorem timesArray : ∃ n e, Tryd.prog.underlying 46 = some (.array n e) := ⟨_, _, Tryd.underlying46⟩
theorem accsCells : Tryd.prog.cellTypes Tryd.prog.depth 47 = some [3, 3, 3, 3, 3, 3, 3, 3, 3] := by kernel_rfl
theorem accsSize : Tryd.prog.cellsOf 47 = 9 := by kernel_rfl
theorem accsArray : ∃ n e, Tryd.prog.underlying 47 = some (.array n e) := ⟨_, _, Tryd.underlying47⟩

theorem int_cell {W : World} {base : Nat} {v : Value} (h : Cell.okWide Tryd.prog W .any base 3 v) : ∃ n : Int, v = .int .i64 n := by
  have h2 : Value.okWide Tryd.prog W .any base 3 v := by
    unfold Value.okWide
    rw [Tryd.underlying3]
    exact h
  obtain ⟨n, rfl, _⟩ := okWide_int Tryd.underlying3 h2
  exact ⟨n, rfl⟩
theorem long_cell {W : World} {base : Nat} {v : Value} (h : Cell.okWide Tryd.prog W .any base 2 v) : ∃ n : Int, v = .int .i64 n := by
  have h2 : Value.okWide Tryd.prog W .any base 2 v := by
    unfold Value.okWide
    rw [Tryd.underlying2]
    exact h
  obtain ⟨n, rfl, _⟩ := okWide_int Tryd.underlying2 h2
  exact ⟨n, rfl⟩

theorem times_of {W : World} {base : Nat} {v : Value} (h : Value.okWide Tryd.prog W .any base 46 v) : ∃ a b c : Int, v = .agg #[.int .i64 a, .int .i64 b, .int .i64 c] := by
  obtain ⟨n, e, hu⟩ := timesArray
  unfold Value.okWide at h
  rw [hu] at h
  obtain ⟨cs, rfl, h2, ts, hts, _, hc⟩ := h
  rw [timesSize] at h2
  rw [timesCells] at hts
  cases hts
  obtain ⟨l⟩ := cs
  match l, h2 with
  | [c0, c1, c2], _ =>
    obtain ⟨u0, e0, o0⟩ := hc 0 c0 rfl
    obtain ⟨u1, e1, o1⟩ := hc 1 c1 rfl
    obtain ⟨u2, e2, o2⟩ := hc 2 c2 rfl
    cases e0
    cases e1
    cases e2
    obtain ⟨s, rfl⟩ := long_cell o0
    obtain ⟨m, rfl⟩ := long_cell o1
    obtain ⟨u, rfl⟩ := long_cell o2
    exact ⟨s, m, u, rfl⟩

theorem accs_of {W : World} {base : Nat} {v : Value} (h : Value.okWide Tryd.prog W .any base 47 v) : ∃ s0 m0 u0 s1 m1 u1 s2 m2 u2 : Int, v = .agg #[.int .i64 s0, .int .i64 m0, .int .i64 u0, .int .i64 s1, .int .i64 m1, .int .i64 u1, .int .i64 s2, .int .i64 m2, .int .i64 u2] := by
  obtain ⟨n, e, hu⟩ := accsArray
  unfold Value.okWide at h
  rw [hu] at h
  obtain ⟨cs, rfl, h2, ts, hts, _, hc⟩ := h
  rw [accsSize] at h2
  rw [accsCells] at hts
  cases hts
  obtain ⟨l⟩ := cs
  match l, h2 with
  | [c0, c1, c2, c3, c4, c5, c6, c7, c8], _ =>
    obtain ⟨u0, e0, o0⟩ := hc 0 c0 rfl
    obtain ⟨u1, e1, o1⟩ := hc 1 c1 rfl
    obtain ⟨u2, e2, o2⟩ := hc 2 c2 rfl
    obtain ⟨u3, e3, o3⟩ := hc 3 c3 rfl
    obtain ⟨u4, e4, o4⟩ := hc 4 c4 rfl
    obtain ⟨u5, e5, o5⟩ := hc 5 c5 rfl
    obtain ⟨u6, e6, o6⟩ := hc 6 c6 rfl
    obtain ⟨u7, e7, o7⟩ := hc 7 c7 rfl
    obtain ⟨u8, e8, o8⟩ := hc 8 c8 rfl
    cases e0
    cases e1
    cases e2
    cases e3
    cases e4
    cases e5
    cases e6
    cases e7
    cases e8
    obtain ⟨n0, rfl⟩ := int_cell o0
    obtain ⟨n1, rfl⟩ := int_cell o1
    obtain ⟨n2, rfl⟩ := int_cell o2
    obtain ⟨n3, rfl⟩ := int_cell o3
    obtain ⟨n4, rfl⟩ := int_cell o4
    obtain ⟨n5, rfl⟩ := int_cell o5
    obtain ⟨n6, rfl⟩ := int_cell o6
    obtain ⟨n7, rfl⟩ := int_cell o7
    obtain ⟨n8, rfl⟩ := int_cell o8
    exact ⟨n0, n1, n2, n3, n4, n5, n6, n7, n8, rfl⟩

theorem walk (t0 t1 t2 s0 m0 u0 s1 m1 u1 s2 m2 u2 : Int) (w : World) (hk : Libs w) :
    Calls Tryd.prog 8 #[.agg #[.int .i64 t0, .int .i64 t1, .int .i64 t2], .agg #[.int .i64 s0, .int .i64 m0, .int .i64 u0, .int .i64 s1, .int .i64 m1, .int .i64 u1, .int .i64 s2, .int .i64 m2, .int .i64 u2]] w fun e w' => e = .returned (.bool true) ∧ Below w.heap.size w w' := by
  exact sure_walk t0 t1 t2 s0 m0 u0 s1 m1 u1 s2 m2 u2 w hk

/-- A world for the witness: the settled one, each listed table holding what its initialiser lays. -/
noncomputable def laidWorld (os : Os) : World :=
  { World.holding Tryd.prog os ⟨#[], #[], []⟩ with heap := ((((((((((World.holding Tryd.prog os ⟨#[], #[], []⟩).heap.modify 0 fun
      | .cells _ t frozen => .cells #[.int .u64 1, .int .u64 10, .int .u64 100, .int .u64 1000, .int .u64 10000, .int .u64 100000, .int .u64 1000000, .int .u64 10000000, .int .u64 100000000, .int .u64 1000000000, .int .u64 10000000000, .int .u64 100000000000, .int .u64 1000000000000, .int .u64 10000000000000, .int .u64 100000000000000, .int .u64 1000000000000000, .int .u64 10000000000000000, .int .u64 100000000000000000, .int .u64 1000000000000000000, .int .u64 10000000000000000000] t frozen
      | o => o).modify 2 fun
      | .cells _ t frozen => .cells (Go.Pinned.utf8FirstZ.map fun n : Nat => Value.int .u8 (n : Int)).toArray t frozen
      | o => o).modify 3 fun
      | .cells _ t frozen => .cells #[.int .u8 128, .int .u8 191, .int .u8 160, .int .u8 191, .int .u8 128, .int .u8 159, .int .u8 144, .int .u8 191, .int .u8 128, .int .u8 143, .int .u8 0, .int .u8 0, .int .u8 0, .int .u8 0, .int .u8 0, .int .u8 0, .int .u8 0, .int .u8 0, .int .u8 0, .int .u8 0, .int .u8 0, .int .u8 0, .int .u8 0, .int .u8 0, .int .u8 0, .int .u8 0, .int .u8 0, .int .u8 0, .int .u8 0, .int .u8 0, .int .u8 0, .int .u8 0] t frozen
      | o => o).modify 4 fun
      | .cells _ t frozen => .cells #[.iface 142 (.pointer (some ⟨13, 0, none⟩))] t frozen
      | o => o).modify 5 fun
      | .cells _ t frozen => .cells #[.iface 142 (.pointer (some ⟨13 + 1, 0, none⟩))] t frozen
      | o => o).modify 6 fun
      | .cells _ t frozen => .cells #[.int .u8 0, .int .u8 1, .int .u8 28, .int .u8 2, .int .u8 29, .int .u8 14, .int .u8 24, .int .u8 3, .int .u8 30, .int .u8 22, .int .u8 20, .int .u8 15, .int .u8 25, .int .u8 17, .int .u8 4, .int .u8 8, .int .u8 31, .int .u8 27, .int .u8 13, .int .u8 23, .int .u8 21, .int .u8 19, .int .u8 16, .int .u8 7, .int .u8 26, .int .u8 12, .int .u8 18, .int .u8 6, .int .u8 11, .int .u8 5, .int .u8 10, .int .u8 9] t frozen
      | o => o).modify 7 fun
      | .cells _ t frozen => .cells #[.int .u8 0, .int .u8 1, .int .u8 56, .int .u8 2, .int .u8 57, .int .u8 49, .int .u8 28, .int .u8 3, .int .u8 61, .int .u8 58, .int .u8 42, .int .u8 50, .int .u8 38, .int .u8 29, .int .u8 17, .int .u8 4, .int .u8 62, .int .u8 47, .int .u8 59, .int .u8 36, .int .u8 45, .int .u8 43, .int .u8 51, .int .u8 22, .int .u8 53, .int .u8 39, .int .u8 33, .int .u8 30, .int .u8 24, .int .u8 18, .int .u8 12, .int .u8 5, .int .u8 63, .int .u8 55, .int .u8 48, .int .u8 27, .int .u8 60, .int .u8 41, .int .u8 37, .int .u8 16, .int .u8 46, .int .u8 35, .int .u8 44, .int .u8 21, .int .u8 52, .int .u8 32, .int .u8 23, .int .u8 11, .int .u8 54, .int .u8 26, .int .u8 40, .int .u8 15, .int .u8 34, .int .u8 20, .int .u8 31, .int .u8 10, .int .u8 25, .int .u8 14, .int .u8 19, .int .u8 9, .int .u8 13, .int .u8 8, .int .u8 7, .int .u8 6] t frozen
      | o => o).push (.cells #[.string ⟨#[105, 110, 118, 97, 108, 105, 100, 32, 115, 121, 110, 116, 97, 120]⟩] 144)).push (.cells #[.string ⟨#[118, 97, 108, 117, 101, 32, 111, 117, 116, 32, 111, 102, 32, 114, 97, 110, 103, 101]⟩] 144)) }
theorem laid_met (os : Os) : laidMet Tryd.prog Rows.hourSureRow.laid ((laidWorld os).forCall (fun _ _ => 0) ⟨#[], #[.agg #[.int .i64 0, .int .i64 0, .int .i64 0], .agg #[.int .i64 0, .int .i64 0, .int .i64 0, .int .i64 0, .int .i64 0, .int .i64 0, .int .i64 0, .int .i64 0, .int .i64 0]], []⟩).memory :=
  laidMet_of_run' 8 (by kernel_rfl) (by kernel_rfl)
theorem reads (os : Os) {H : Type} (enc : TypeId × Value → H) : ∃ places, DataW.whole enc Tryd.prog ((laidWorld os).forCall (fun _ _ => 0) ⟨#[], #[.agg #[.int .i64 0, .int .i64 0, .int .i64 0], .agg #[.int .i64 0, .int .i64 0, .int .i64 0, .int .i64 0, .int .i64 0, .int .i64 0, .int .i64 0, .int .i64 0, .int .i64 0]], []⟩).memory Tryd.f8.params.toList Rows.hourSureSpec.vars false (#[.agg #[.int .i64 0, .int .i64 0, .int .i64 0], .agg #[.int .i64 0, .int .i64 0, .int .i64 0, .int .i64 0, .int .i64 0, .int .i64 0, .int .i64 0, .int .i64 0, .int .i64 0]] : Array Value).toList 8 = some ([.agg [.lit (.int .i64 0), .lit (.int .i64 0), .lit (.int .i64 0)], .agg [.agg [.lit (.int .i64 0), .lit (.int .i64 0), .lit (.int .i64 0)], .agg [.lit (.int .i64 0), .lit (.int .i64 0), .lit (.int .i64 0)], .agg [.lit (.int .i64 0), .lit (.int .i64 0), .lit (.int .i64 0)]]], [], places) :=
  ⟨[], by kernel_rfl⟩

set_option maxRecDepth 100000 in
theorem lifted (os : Os) (started : os.Started) (H : Type) (enc : TypeId × Value → H) (F : Stop.Interp) :
    ReturnsInHanded {} Tryd.checked os 8 .any ((OpenSpec.ofChange Rows.hourSureSpec).preRow enc Tryd.prog Tryd.f8 Rows.hourSureRow.domain false Rows.hourSureRow.laid) (((OpenSpec.ofChange Rows.hourSureSpec).at F).post enc Tryd.prog Tryd.f8 false true false false) := by
  obtain ⟨places, hx⟩ := reads os enc
  refine returnsInHanded_of_row (C := Tryd.checked) (s := OpenSpec.ofChange Rows.hourSureSpec) own started (by kernel_rfl) Tryd.func8
    (witness_row_at (enc := enc) (C := Tryd.checked) false (laidWorld os) #[.agg #[.int .i64 0, .int .i64 0, .int .i64 0], .agg #[.int .i64 0, .int .i64 0, .int .i64 0, .int .i64 0, .int .i64 0, .int .i64 0, .int .i64 0, .int .i64 0, .int .i64 0]] rfl (by kernel_rfl) (by kernel_rfl) (by kernel_rfl)
      (OpenSpec.preRow_of_cond 8 hx (by kernel_rfl) (fun k hk => by cases hk) (by kernel_rfl) (laid_met os))) ?_
  intro W base args ds gs before hval0 hW _ _ _ hL _ _
  have hval : ∀ (j : Nat) t v, Tryd.f8.params[j]? = some t → args[j]? = some v → Value.okWide Tryd.prog W .any base t v := hval0
  have hW' := hW
  obtain ⟨p, q, hA0, hV, rfl, hfz, hnd⟩ := hW
  have hA : DataW.TrodAll enc Tryd.prog W 0 (fun _ => true) true Tryd.f8.params.toList args.toList ds p := hA0
  rw [Tryd.params8] at hA hval
  obtain ⟨v0, vs0, d0, ds0, p0, q0, hargs, rfl, rfl, h0, r0⟩ := trodAll_cons hA
  obtain ⟨v1, vs1, d1, ds1, p1, q1, rfl, rfl, rfl, h1, r1⟩ := trodAll_cons r0
  obtain ⟨rfl, rfl, rfl⟩ := trodAll_nil r1
  obtain rfl : args = #[v0, v1] := by cases args; simp_all
  obtain ⟨rfl, rfl⟩ := trodVars_none hV
  obtain ⟨t0, t1, t2, rfl⟩ := times_of (hval 0 46 v0 rfl rfl)
  obtain ⟨s0, m0, u0, s1, m1, u1, s2, m2, u2, rfl⟩ := accs_of (hval 1 47 v1 rfl rfl)
  have k0 := h0
  have lt0 : ∀ x ∈ p0, x.block < W.heap.size := by obtain ⟨m, hm⟩ := k0; exact DataW.trod_lt m _ _ _ hm
  have k1 := h1
  have lt1 : ∀ x ∈ p1, x.block < W.heap.size := by obtain ⟨m, hm⟩ := k1; exact DataW.trod_lt m _ _ _ hm
  clear hA0 hval0
  refine (walk t0 t1 t2 s0 m0 u0 s1 m1 u1 s2 m2 u2 W (libs_of_laid hL)).mono fun e W' ⟨he, bel⟩ => ?_
  subst he
  exact ⟨_, rfl, _, _, _, [], _, [], hW', trodAll_mk1 (shut_bool Tryd.underlying4 _), (trodAll_cons_mk (Below.trod laidOut (by kernel_rfl) (of_decide_eq_true (by kernel_rfl)) k0 bel lt0) (trodAll_cons_mk (Below.trod laidOut (by kernel_rfl) (of_decide_eq_true (by kernel_rfl)) k1 bel lt1) trodAll_mk0)), rfl, bel.frame _, fun h => by cases h⟩

theorem said : Rows.HourSureSaid :=
  OpenClaim.holds_of_cond 8 Tryd.f8 rfl rfl rfl rfl rfl rfl rfl ⟨rfl, rfl, rfl, rfl, rfl⟩ rfl rfl rfl rfl rfl (by kernel_rfl) Tryd.func8 (by kernel_rfl)
    (of_decide_eq_true (by kernel_rfl)) (by unfold Func.isWrapper; first | (rw [if_pos (by decide +kernel)]; kernel_rfl) | (rw [if_neg (by decide +kernel)]; exact ⟨rfl, rfl⟩))
    (fun os started H enc _ F => by rw [OpenClaim.pre_eq_preRow]; exact lifted os started H enc F)
/-- No parameter wants a stand-in. -/
theorem plain (f : FuncId) (fn : Func) (hf : Tryd.pinned.checked.prog.funcNamed "postmark/postmarklaw15.HourSure" = some f) (hfn : Tryd.pinned.checked.prog.funcs[f]? = some fn) :
    true = Tryd.pinned.checked.prog.looks [] ∧ ∀ (j : Nat) t, fn.params[j]? = some t → Tryd.pinned.checked.prog.wantsStandIn t = false := by
  obtain rfl : f = 8 := Option.some.inj ((show Tryd.prog.funcNamed "postmark/postmarklaw15.HourSure" = some 8 by kernel_rfl).symm.trans hf) |>.symm
  obtain rfl : fn = Tryd.f8 := (Option.some.inj (Tryd.func8.symm.trans hfn)).symm
  refine ⟨by kernel_rfl, fun j t ht => ?_⟩
  have hall : ∀ x ∈ Tryd.f8.params.toList, Tryd.prog.wantsStandIn x = false := fun x hx => by
    have h := (show (Tryd.f8.params.toList.all fun x => !Tryd.prog.wantsStandIn x) = true by kernel_rfl)
    have h2 := List.all_eq_true.1 h x hx
    simpa using h2
  exact hall t (by
    have := Array.mem_of_getElem? ht
    exact Array.mem_toList_iff.2 this)
theorem proved : Rows.HourSureCardSaid :=
  Claim7.holds_tied_plain_at .later [] _ _ _ _ said (fun _ h => by cases h) (by kernel_rfl) (fun _ h => by cases h) hourSure_row_tie rfl ⟨rfl, rfl⟩ (by kernel_rfl) rfl plain (by kernel_rfl)
#print axioms proved
end Go.Proofs.YtholkbgkkfndhaaDoor.hourSure
