/-
  Sha512Sums: for every input of bulk at most 1048576 the law answers true, and each argument reads behind the call as it read before. No further condition.
-/
import Derived.Test.YtpfdehjllnhllaaRows
import Derived.Test.YtpfdehjllnhllaaSk3
import Derived.WalkKit
import Derived.ProofKit
import Derived.OpenShut
import Derived.ShutString
import Derived.ChangeOld
import Derived.Below
import Derived.JoinedCond
import Derived.Deep.Matrix
namespace Go.Proofs.Ytpfdehjllnhllaa.sha512Sums
open Go.ChangeShapes Go.WideShapes Go.ChangeAt Go.RowKit Go.Deep
set_option linter.unusedVariables false

theorem own : ownKnob Try.prog.godebug = none := by kernel_rfl
theorem laidOut : laidOutB Try.prog = true := by kernel_rfl

theorem one_bulk {H : Type} (d : DataW H) : 1 ≤ Rows.uptoBulk d := by
  cases d with
  | lit x => cases x <;> simp [Rows.uptoBulk]
  | _ => simp [Rows.uptoBulk]
theorem part_bulk {H : Type} {d : DataW H} : ∀ {l : List (DataW H)}, d ∈ l → Rows.uptoBulk d ≤ Rows.uptoBulkAll l
  | [], h => by cases h
  | x :: r, h => by
    simp only [Rows.uptoBulkAll]
    rcases List.mem_cons.1 h with rfl | h
    · omega
    · have := part_bulk h
      omega
theorem length_bulk {H : Type} : ∀ (l : List (DataW H)), l.length ≤ Rows.uptoBulkAll l
  | [] => by simp [Rows.uptoBulkAll]
  | x :: r => by
    have h1 := one_bulk x
    have h2 := length_bulk r
    simp only [Rows.uptoBulkAll, List.length_cons]
    omega
theorem row_bulk {H : Type} (k : IntKind) (A : Option Addr) (n : Nat) (zs : List Int) (hn : n ≤ zs.length) (hA : A = none → n = 0) : n ≤ Rows.uptoBulk (intRow (H := H) k A n zs) := by
  cases A with
  | none => rw [hA rfl]; exact Nat.zero_le _
  | some a =>
    have h := length_bulk (lits (H := H) k (zs.take n))
    simp only [intRow, Rows.uptoBulk]
    have e : (lits (H := H) k (zs.take n)).length = n := by simp [lits, hn]
    omega

set_option maxRecDepth 100000 in
theorem contract (H : Type) (enc : TypeId × Value → H) (W : World) (base : Nat) (args : Array Value) (ds gs : List (DataW H)) (before : List MemPlace)
    (hval : ∀ (j : Nat) t v, Try.f3.params[j]? = some t → args[j]? = some v → Value.okWide Try.prog W .any base t v)
    (hW : DataW.Whole enc Try.prog Try.f3.params.toList Rows.sha512SumsSpec.vars false W args.toList ds gs before) (hk : Rows.uptoSmall H (ds ++ gs) = true) :
    Calls Try.prog 3 args W fun e W' => ∃ v, e = .returned v ∧ Rows.sha512SumsSpec.post enc Try.prog Try.f3 false true false false W args v W' := by
  have hW' := hW
  obtain ⟨p, q, hA0, hV, rfl, hfz, hnd⟩ := hW
  have hA : DataW.TrodAll enc Try.prog W 0 (fun _ => true) true Try.f3.params.toList args.toList ds p := hA0
  rw [Try.params3] at hA hval
  obtain ⟨v0, vs0, d0, ds0, p0, q0, hargs, rfl, rfl, h0, r0⟩ := trodAll_cons hA
  obtain ⟨v1, vs1, d1, ds1, p1, q1, rfl, rfl, rfl, h1, r1⟩ := trodAll_cons r0
  obtain ⟨rfl, rfl, rfl⟩ := trodAll_nil r1
  obtain rfl : args = #[v0, v1] := by cases args; simp_all
  obtain ⟨rfl, rfl⟩ := trodVars_none hV
  obtain ⟨a0, rfl, rfl, rfl, w0⟩ := open_int Try.underlying3 (hval 0 3 v0 rfl rfl) h0
  obtain ⟨a1, len1, cap1, rfl⟩ := okWide_slice Try.underlying22 (hval 1 22 v1 rfl rfl)
  have k1 := h1
  have lt1 : ∀ x ∈ p1, x.block < W.heap.size := by obtain ⟨m, hm⟩ := k1; exact DataW.trod_lt m _ _ _ hm
  have hb0 : Rows.uptoBulk d1 ≤ 1048576 := by
    have hk2 : Rows.uptoSmall H [DataW.lit (H := H) (.int .i64 a0), d1] = true := by simpa using hk
    have h : Rows.uptoBulkAll [DataW.lit (H := H) (.int .i64 a0), d1] ≤ 1048576 := of_decide_eq_true hk2
    simp only [Rows.uptoBulkAll] at h
    omega
  obtain ⟨R, hR⟩ : ∃ R, RowsIn W a1 len1 cap1 R := by
    obtain ⟨fuel, hf⟩ := h1
    rcases open_int_rows Try.underlying22 Try.underlying23 Try.underlying5 (by kernel_rfl) (by kernel_rfl) hf with ⟨hcs, _⟩ | ⟨x, n, c, A, Ln, C, Z, hcs, _, hl, hm, hx, hrow⟩
    · simp [Value.cells] at hcs
      obtain ⟨rfl, rfl, rfl⟩ := hcs
      exact ⟨fun _ => (none, 0, 0, []), Nat.le_refl _, Nat.zero_le _, fun i hi => by omega, fun hi => by omega⟩
    · simp [Value.cells] at hcs
      obtain ⟨rfl, rfl, rfl⟩ := hcs
      have hd : d1 = .slice ((List.range len1).map fun r => intRow .u8 (A r) (Ln r) (Z r)) ((List.range (cap1 - len1)).map fun j => intRow .u8 (A (len1 + j)) (Ln (len1 + j)) (Z (len1 + j))) := congrArg Prod.fst hx
      have hex : ∀ r, ∃ l : List Nat, r < len1 → Reads .u8 W (A r) (Ln r) (C r) l ∧ ∀ x ∈ l, x < 256 := fun r => by
        by_cases hr : r < len1
        · obtain ⟨-, r1, r2, r3, r4, r5, r6⟩ := hrow r (by omega)
          obtain ⟨l, h1, h2⟩ := reads_of_bytes (w := W) (a := A r) (len := Ln r) (cap := C r) (zs := Z r) (by
            cases hA : A r with
            | none =>
              have hc0 := r5 hA
              exact .inl ⟨rfl, by omega, hc0, List.eq_nil_of_length_eq_zero (by omega)⟩
            | some y => exact .inr ⟨y, rfl, r1, r2, r3, fun i hi => (r6 y hA).2 i (by omega), r4⟩)
          exact ⟨l, fun _ => ⟨h1, h2⟩⟩
        · exact ⟨[], fun h => absurd h hr⟩
      refine ⟨fun r => (A r, Ln r, C r, Classical.choose (hex r)), hl, hm, fun i hi => ?_, fun hp => ?_⟩
      · have hs := Classical.choose_spec (hex i) hi
        obtain ⟨-, r1, r2, r3, r4, r5, r6⟩ := hrow i (by omega)
        refine ⟨hs.1, hs.2, ?_⟩
        have h1 := row_bulk (H := H) .u8 (A i) (Ln i) (Z i) (by omega) (fun h => by have := r5 h; omega)
        have h2 := part_bulk (H := H) (List.mem_map.2 ⟨i, List.mem_range.2 hi, rfl⟩ : intRow (H := H) .u8 (A i) (Ln i) (Z i) ∈ (List.range len1).map fun r => intRow .u8 (A r) (Ln r) (Z r))
        rw [hd] at hb0
        simp only [Rows.uptoBulk] at hb0
        show Ln i ≤ 1048576
        omega
      · obtain ⟨b, off, spot⟩ := x
        have h0 := (hrow 0 (by omega)).1
        have hs : spot = .none := by simpa [Addr.add] using World.cell?_spot h0
        subst hs
        refine ⟨b, off, rfl, World.block_lt_of_cell? W _ (by simpa [Addr.add] using h0), fun i hi => ?_⟩
        have hci := (hrow i (by omega)).1
        have e : (⟨b, off, .none⟩ : Addr).add i = ⟨b, off + i, .none⟩ := by unfold Addr.add; split <;> simp_all
        rw [e] at hci
        exact hci
  clear hA0 hk
  refine (sums_walk a0 a1 len1 cap1 R W hR).mono fun e W' ⟨he, bel⟩ => ?_
  subst he
  exact ⟨_, rfl, _, _, _, [], _, [], hW', trodAll_mk1 (shut_bool Try.underlying4 _), (trodAll_cons_mk (shut_int Try.underlying3 w0) (trodAll_cons_mk (Below.trod laidOut (by kernel_rfl) (of_decide_eq_true (by kernel_rfl)) k1 bel lt1) trodAll_mk0)), rfl, bel.frame _, fun h => by cases h⟩

set_option maxRecDepth 100000 in
theorem lifted (os : Os) (started : os.Started) (H : Type) (enc : TypeId × Value → H) (F : Stop.Interp) :
    ReturnsInHanded {} Try.checked os 3 .any ((Rows.OpenSpec.upto Rows.sha512SumsSpec).pre6 enc Try.prog Try.f3 Rows.sha512SumsUptoRow.domain false) (((Rows.OpenSpec.upto Rows.sha512SumsSpec).at F).post enc Try.prog Try.f3 false true false false) := by
  refine returnsInHanded_of_cond (C := Try.checked) (s := Rows.OpenSpec.upto Rows.sha512SumsSpec) (k := Rows.uptoSmall) rfl own started (by kernel_rfl) Try.func3
    (OpenSpec.witness (enc := enc) (C := Try.checked) (s := Rows.OpenSpec.upto Rows.sha512SumsSpec) (k := Rows.uptoSmall) rfl false ⟨#[], #[.int .i64 0, .slice none 0 0], []⟩ 8 (by kernel_rfl) (by kernel_rfl) (by kernel_rfl)
      (x := ([.lit (.int .i64 0), .nil], [], [])) (by kernel_rfl) rfl (by kernel_rfl)) ?_
  intro W base args ds gs before hval hW _ hk _
  exact contract H enc W base args ds gs before hval hW hk

theorem proved : Rows.Sha512SumsUptoSaid :=
  OpenClaim.holds_of_cond 3 Try.f3 rfl rfl rfl rfl rfl rfl rfl ⟨rfl, rfl, rfl, rfl, rfl⟩ rfl rfl rfl rfl rfl (by kernel_rfl) Try.func3 (by kernel_rfl)
    (of_decide_eq_true (by kernel_rfl)) (by unfold Func.isWrapper; first | (rw [if_pos (by decide +kernel)]; kernel_rfl) | (rw [if_neg (by decide +kernel)]; exact ⟨rfl, rfl⟩))
    (fun os started H enc _ F => lifted os started H enc F)
#print axioms proved
end Go.Proofs.Ytpfdehjllnhllaa.sha512Sums
