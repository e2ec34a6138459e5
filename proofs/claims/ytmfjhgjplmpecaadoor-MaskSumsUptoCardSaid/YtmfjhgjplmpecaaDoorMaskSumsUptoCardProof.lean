/-
  MaskSums: for every input of bulk at most 1048576 the law answers true, and each argument reads behind the call as it read before, where the package-level table holds what its own text lays. No further condition.
-/
import Derived.Test.YtmfjhgjplmpecaaDoorRows
import Derived.Test.YtmfjhgjplmpecaaDoorCards
import Derived.Test.YtmfjhgjplmpecaaDoorTie
import Derived.Test.YtmfjhgjplmpecaaDoorRm4
import Derived.Deep.DeepHandedRow
import Derived.LaidLaws
import Derived.WalkKit
import Derived.ProofKit
import Derived.OpenShut
import Derived.ShutString
import Derived.ChangeOld
import Derived.Below
import Derived.JoinedCond
import Derived.Deep.Matrix
namespace Go.Proofs.YtmfjhgjplmpecaaDoor.maskSums
open Go.ChangeShapes Go.WideShapes Go.ChangeAt Go.RowKit Go.Deep
open Go.ChangeMaps (open_string shut_string)
set_option linter.unusedVariables false
set_option linter.unusedSimpArgs false

theorem own : ownKnob Tryd.prog.godebug = none := by kernel_rfl
theorem laidOut : laidOutB Tryd.prog = true := by kernel_rfl

theorem one_bulk {H : Type} (d : DataW H) : 1 ≤ Rows.uptoBulk d := by
  cases d with
  | lit x => cases x <;> simp [Rows.uptoBulk]
  | _ => simp [Rows.uptoBulk]
theorem part_bulk {H : Type} {d : DataW H} : ∀ {l : List (DataW H)}, d ∈ l → Rows.uptoBulk d ≤ Rows.uptoBulkAll l
  | [], h => by cases h
  | x :: r, h => by
    simp only [Rows.uptoBulkAll]
    rcases List.mem_cons.1 h with rfl | h
    · omega
    · have := part_bulk h
      omega
theorem length_bulk {H : Type} : ∀ (l : List (DataW H)), l.length ≤ Rows.uptoBulkAll l
  | [] => by simp [Rows.uptoBulkAll]
  | x :: r => by
    have h1 := one_bulk x
    have h2 := length_bulk r
    simp only [Rows.uptoBulkAll, List.length_cons]
    omega
theorem row_bulk {H : Type} (k : IntKind) (A : Option Addr) (n : Nat) (zs : List Int) (hn : n ≤ zs.length) (hA : A = none → n = 0) : n ≤ Rows.uptoBulk (intRow (H := H) k A n zs) := by
  cases A with
  | none => rw [hA rfl]; exact Nat.zero_le _
  | some a =>
    have h := length_bulk (lits (H := H) k (zs.take n))
    simp only [intRow, Rows.uptoBulk]
    have e : (lits (H := H) k (zs.take n)).length = n := by simp [lits, hn]
    omega

set_option maxRecDepth 100000 in
theorem contract (H : Type) (enc : TypeId × Value → H) (W : World) (base : Nat) (args : Array Value) (ds gs : List (DataW H)) (before : List MemPlace)
    (hval : ∀ (j : Nat) t v, Tryd.f3.params[j]? = some t → args[j]? = some v → Value.okWide Tryd.prog W .any base t v)
    (hW : DataW.Whole enc Tryd.prog Tryd.f3.params.toList Rows.maskSumsSpec.vars false W args.toList ds gs before) (hk : Rows.uptoSmall H (ds ++ gs) = true) (hL : laidMetH Tryd.prog Rows.maskSumsUptoRow.laid W) :
    Calls Tryd.prog 3 args W fun e W' => ∃ v, e = .returned v ∧ Rows.maskSumsSpec.post enc Tryd.prog Tryd.f3 false true false false W args v W' := by
  have hW' := hW
  obtain ⟨p, q, hA0, hV, rfl, hfz, hnd⟩ := hW
  have hA : DataW.TrodAll enc Tryd.prog W 0 (fun _ => true) true Tryd.f3.params.toList args.toList ds p := hA0
  rw [Tryd.params3] at hA hval
  obtain ⟨v0, vs0, d0, ds0, p0, q0, hargs, rfl, rfl, h0, r0⟩ := trodAll_cons hA
  obtain ⟨v1, vs1, d1, ds1, p1, q1, rfl, rfl, rfl, h1, r1⟩ := trodAll_cons r0
  obtain ⟨v2, vs2, d2, ds2, p2, q2, rfl, rfl, rfl, h2, r2⟩ := trodAll_cons r1
  obtain ⟨v3, vs3, d3, ds3, p3, q3, rfl, rfl, rfl, h3, r3⟩ := trodAll_cons r2
  obtain ⟨rfl, rfl, rfl⟩ := trodAll_nil r3
  obtain rfl : args = #[v0, v1, v2, v3] := by cases args; simp_all
  obtain ⟨rfl, rfl⟩ := trodVars_none hV
  obtain ⟨a0, rfl, rfl, rfl, w0⟩ := open_int Tryd.underlying3 (hval 0 3 v0 rfl rfl) h0
  obtain ⟨a1, rfl⟩ := okWide_string Tryd.underlying9 (hval 1 9 v1 rfl rfl)
  have k1 := h1
  have lt1 : ∀ x ∈ p1, x.block < W.heap.size := by obtain ⟨m, hm⟩ := k1; exact DataW.trod_lt m _ _ _ hm
  obtain ⟨a2, len2, cap2, rfl⟩ := okWide_slice Tryd.underlying22 (hval 2 22 v2 rfl rfl)
  have k2 := h2
  have lt2 : ∀ x ∈ p2, x.block < W.heap.size := by obtain ⟨m, hm⟩ := k2; exact DataW.trod_lt m _ _ _ hm
  obtain ⟨a3, rfl, rfl, rfl, w3⟩ := open_int Tryd.underlying3 (hval 3 3 v3 rfl rfl) h3
  have hb0 : Rows.uptoBulk d2 ≤ 1048576 := by
    have hk2 : Rows.uptoSmall H [DataW.lit (H := H) (.int .i64 a0), d1, d2, DataW.lit (H := H) (.int .i64 a3)] = true := by simpa using hk
    have h : Rows.uptoBulkAll [DataW.lit (H := H) (.int .i64 a0), d1, d2, DataW.lit (H := H) (.int .i64 a3)] ≤ 1048576 := of_decide_eq_true hk2
    simp only [Rows.uptoBulkAll] at h
    omega
  obtain ⟨R, hR⟩ : ∃ R, RowsM W a2 len2 R := by
    obtain ⟨fuel, hf⟩ := h2
    rcases open_int_rows Tryd.underlying22 Tryd.underlying23 Tryd.underlying5 (by kernel_rfl) (by kernel_rfl) hf with ⟨hcs, _⟩ | ⟨x, n, c, A, Ln, C, Z, hcs, _, hl, hm, hx, hrow⟩
    · simp [Value.cells] at hcs
      obtain ⟨rfl, rfl, rfl⟩ := hcs
      exact ⟨fun _ => (none, 0, 0, []), fun i hi => by omega, fun hi => by omega⟩
    · simp [Value.cells] at hcs
      obtain ⟨rfl, rfl, rfl⟩ := hcs
      have hd : d2 = .slice ((List.range len2).map fun r => intRow .u8 (A r) (Ln r) (Z r)) ((List.range (cap2 - len2)).map fun j => intRow .u8 (A (len2 + j)) (Ln (len2 + j)) (Z (len2 + j))) := congrArg Prod.fst hx
      have hex : ∀ r, ∃ l : List Nat, r < len2 → Reads .u8 W (A r) (Ln r) (C r) l ∧ ∀ x ∈ l, x < 256 := fun r => by
        by_cases hr : r < len2
        · obtain ⟨-, r1, r2, r3, r4, r5, r6⟩ := hrow r (by omega)
          obtain ⟨l, h1, h2⟩ := reads_of_bytesM (w := W) (a := A r) (len := Ln r) (cap := C r) (zs := Z r) (by
            cases hA : A r with
            | none =>
              have hc0 := r5 hA
              exact .inl ⟨rfl, by omega, hc0, List.eq_nil_of_length_eq_zero (by omega)⟩
            | some y => exact .inr ⟨y, rfl, r1, r2, r3, fun i hi => (r6 y hA).2 i (by omega), r4⟩)
          exact ⟨l, fun _ => ⟨h1, h2⟩⟩
        · exact ⟨[], fun h => absurd h hr⟩
      refine ⟨fun r => (A r, Ln r, C r, Classical.choose (hex r)), fun i hi => ?_, fun hp => ?_⟩
      · have hs := Classical.choose_spec (hex i) hi
        obtain ⟨-, r1, r2, r3, r4, r5, r6⟩ := hrow i (by omega)
        refine ⟨hs.1, hs.2, ?_⟩
        have h1 := row_bulk (H := H) .u8 (A i) (Ln i) (Z i) (by omega) (fun h => by have := r5 h; omega)
        have h2 := part_bulk (H := H) (List.mem_map.2 ⟨i, List.mem_range.2 hi, rfl⟩ : intRow (H := H) .u8 (A i) (Ln i) (Z i) ∈ (List.range len2).map fun r => intRow .u8 (A r) (Ln r) (Z r))
        rw [hd] at hb0
        simp only [Rows.uptoBulk] at hb0
        show Ln i ≤ 1048576
        omega
      · obtain ⟨b, off, spot⟩ := x
        have h0 := (hrow 0 (by omega)).1
        have hs : spot = .none := by simpa [Addr.add] using World.cell?_spot h0
        subst hs
        refine ⟨b, off, rfl, World.block_lt_of_cell? W _ (by simpa [Addr.add] using h0), fun i hi => ?_⟩
        have hci := (hrow i (by omega)).1
        have e : (⟨b, off, .none⟩ : Addr).add i = ⟨b, off + i, .none⟩ := by unfold Addr.add; split <;> simp_all
        rw [e] at hci
        exact hci
  clear hA0 hk
  refine (msums_walk a0 a1 a2 len2 cap2 R a3 W (kinds_of_laid hL) hR).mono fun e W' ⟨he, bel⟩ => ?_
  subst he
  exact ⟨_, rfl, _, _, _, [], _, [], hW', trodAll_mk1 (shut_bool Tryd.underlying4 _), (trodAll_cons_mk (shut_int Tryd.underlying3 w0) (trodAll_cons_mk (Below.trod laidOut (by kernel_rfl) (of_decide_eq_true (by kernel_rfl)) k1 bel lt1) (trodAll_cons_mk (Below.trod laidOut (by kernel_rfl) (of_decide_eq_true (by kernel_rfl)) k2 bel lt2) (trodAll_cons_mk (shut_int Tryd.underlying3 w3) trodAll_mk0)))), rfl, bel.frame _, fun h => by cases h⟩

/-- A world for the witness: the settled one, the listed table holding what its initialiser lays. -/
noncomputable def laidWorld (os : Os) : World :=
  { World.holding Tryd.prog os ⟨#[], #[], []⟩ with heap := (World.holding Tryd.prog os ⟨#[], #[], []⟩).heap.modify 0 fun
      | .cells _ t frozen => .cells #[.string ⟨#[115, 104, 97, 50, 50, 52]⟩, .int .i64 28, .int .u8 4, .string ⟨#[115, 104, 97, 50, 53, 54]⟩, .int .i64 32, .int .u8 1, .string ⟨#[115, 104, 97, 51, 56, 52]⟩, .int .i64 48, .int .u8 2, .string ⟨#[115, 104, 97, 53, 49, 50]⟩, .int .i64 64, .int .u8 3] t frozen
      | o => o }
theorem laid_met (os : Os) : laidMet Tryd.prog Rows.maskSumsUptoRow.laid ((laidWorld os).forCall (fun _ _ => 0) ⟨#[], #[.int .i64 0, .string ⟨#[]⟩, .slice none 0 0, .int .i64 0], []⟩).memory :=
  laidMet_of_run' 8 (by kernel_rfl) (by kernel_rfl)
theorem reads (os : Os) {H : Type} (enc : TypeId × Value → H) : ∃ places, DataW.whole enc Tryd.prog ((laidWorld os).forCall (fun _ _ => 0) ⟨#[], #[.int .i64 0, .string ⟨#[]⟩, .slice none 0 0, .int .i64 0], []⟩).memory Tryd.f3.params.toList Rows.maskSumsSpec.vars false (#[.int .i64 0, .string ⟨#[]⟩, .slice none 0 0, .int .i64 0] : Array Value).toList 8 = some ([.lit (.int .i64 0), .lit (.string []), .nil, .lit (.int .i64 0)], [], places) :=
  ⟨[], by kernel_rfl⟩

set_option maxRecDepth 100000 in
theorem lifted (os : Os) (started : os.Started) (H : Type) (enc : TypeId × Value → H) (F : Stop.Interp) :
    ReturnsInHanded {} Tryd.checked os 3 .any ((Rows.OpenSpec.upto Rows.maskSumsSpec).preRow enc Tryd.prog Tryd.f3 Rows.maskSumsUptoRow.domain false Rows.maskSumsUptoRow.laid) (((Rows.OpenSpec.upto Rows.maskSumsSpec).at F).post enc Tryd.prog Tryd.f3 false true false false) := by
  obtain ⟨places, hx⟩ := reads os enc
  refine returnsInHanded_of_row (C := Tryd.checked) (s := Rows.OpenSpec.upto Rows.maskSumsSpec) own started (by kernel_rfl) Tryd.func3
    (witness_row_at (enc := enc) (C := Tryd.checked) false (laidWorld os) #[.int .i64 0, .string ⟨#[]⟩, .slice none 0 0, .int .i64 0] rfl (by kernel_rfl) (by kernel_rfl) (by kernel_rfl)
      (OpenSpec.preRow_of_cond 8 hx (by kernel_rfl) (fun k hk => by cases hk; kernel_rfl) (by kernel_rfl) (laid_met os))) ?_
  intro W base args ds gs before hval hW _ hk _ hL _ _
  exact contract H enc W base args ds gs before hval hW (hk _ rfl) hL

theorem said : Rows.MaskSumsUptoSaid :=
  OpenClaim.holds_of_cond 3 Tryd.f3 rfl rfl rfl rfl rfl rfl rfl ⟨rfl, rfl, rfl, rfl, rfl⟩ rfl rfl rfl rfl rfl (by kernel_rfl) Tryd.func3 (by kernel_rfl)
    (of_decide_eq_true (by kernel_rfl)) (by unfold Func.isWrapper; first | (rw [if_pos (by decide +kernel)]; kernel_rfl) | (rw [if_neg (by decide +kernel)]; exact ⟨rfl, rfl⟩))
    (fun os started H enc _ F => by rw [OpenClaim.pre_eq_preRow]; exact lifted os started H enc F)
/-- No parameter wants a stand-in. -/
theorem plain (f : FuncId) (fn : Func) (hf : Tryd.pinned.checked.prog.funcNamed "postmark/postmarklaw08.MaskSums" = some f) (hfn : Tryd.pinned.checked.prog.funcs[f]? = some fn) :
    false = Tryd.pinned.checked.prog.looks [] ∧ ∀ (j : Nat) t, fn.params[j]? = some t → Tryd.pinned.checked.prog.wantsStandIn t = false := by
  obtain rfl : f = 3 := Option.some.inj ((show Tryd.prog.funcNamed "postmark/postmarklaw08.MaskSums" = some 3 by kernel_rfl).symm.trans hf) |>.symm
  obtain rfl : fn = Tryd.f3 := (Option.some.inj (Tryd.func3.symm.trans hfn)).symm
  refine ⟨by kernel_rfl, fun j t ht => ?_⟩
  have hall : ∀ x ∈ Tryd.f3.params.toList, Tryd.prog.wantsStandIn x = false := fun x hx => by
    have h := (show (Tryd.f3.params.toList.all fun x => !Tryd.prog.wantsStandIn x) = true by kernel_rfl)
    have h2 := List.all_eq_true.1 h x hx
    simpa using h2
  exact hall t (by
    have := Array.mem_of_getElem? ht
    exact Array.mem_toList_iff.2 this)
theorem proved : Rows.MaskSumsUptoCardSaid :=
  Claim7.holds_tied_plain_at .later [] _ _ _ _ said (fun _ h => by cases h) (by kernel_rfl) (fun _ h => by cases h) maskSumsUpto_row_tie rfl ⟨rfl, rfl⟩ (by kernel_rfl) rfl plain (by kernel_rfl)
#print axioms proved
end Go.Proofs.YtmfjhgjplmpecaaDoor.maskSums
