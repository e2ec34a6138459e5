/-
  WHICH FUNCTION SAYS WHAT THE BYTES OF A TAG HAVE TO BE; what one node breaks by itself.
-/
import Derived.Test.YtkmphiakciihfaaDoorTrC
import Derived.Test.YtkmphiakciihfaaDoorSeqF
import Derived.RangeFuncBox
import Derived.Shelf.Abstract
namespace Go.Proofs.YtkmphiakciihfaaDoor
open Go.RowKit Go.Shelf

theorem run_eql_func_nil {P : Program} (w : World) (t : TypeId) {ps : Array TypeId} {rs : Array TypeId} {vd : Bool} (h : P.underlying t = some (.func ps rs vd)) : (binOp .eql t .nilFunc .nilFunc).run P w = .ok (.bool true) w := by
  have h1 : ∀ d : Nat, (Op.equalIn (d + 1) t .nilFunc .nilFunc).run P w = .ok true w := fun d => by simp [Op.equalIn, run_underlying h]
  simp only [binOp]
  simp [Op.equal, Op.maxDepth, h1 9999]
theorem run_eql_func_some {P : Program} (w : World) (t : TypeId) {ps : Array TypeId} {rs : Array TypeId} {vd : Bool} (h : P.underlying t = some (.func ps rs vd)) (fn : Fn) (fi ca : Array Value) : (binOp .eql t (.func fn fi ca) .nilFunc).run P w = .ok (.bool false) w := by
  have h1 : ∀ d : Nat, (Op.equalIn (d + 1) t (.func fn fi ca) .nilFunc).run P w = .ok false w := fun d => by simp [Op.equalIn, run_underlying h]
  simp only [binOp]
  simp [Op.equal, Op.maxDepth, h1 9999]

/-- Tags with bytes. -/
def hasB (t : Int) : Bool := decide (t = 1 ∨ t = 2 ∨ t = 3 ∨ t = 4 ∨ t = 5 ∨ t = 6 ∨ t = 10 ∨ t = 12 ∨ t = 19 ∨ t = 22 ∨ t = 23 ∨ t = 24)

/-- A function value that answers so of any bytes. -/
structure Asks (w : World) (fv : Value) (q : List Nat → Bool) : Prop where
  is : ∃ f lb, fv = .func (.func f) #[] lb ∧ (∀ args W, (callFunc f args).run Tryd.prog W = .ok (.enter f args) W) ∧
    ∀ (W : World) (a : Option Addr) (len cap : Nat) (l : List Nat), Below w.heap.size w W → Reads .u8 W a len cap l → (∀ x ∈ l, x < 256) → Calls Tryd.prog f (#[.slice a len cap] ++ lb) W fun e W' => e = .returned (.bool (q l)) ∧ Below W.heap.size W W'

/-- What 'wanted' answers of a tag. -/
def WantedOk (L : World → Prop) (q : Int → List Nat → Bool) (tag : Int) : Prop := ∀ w, L w → Calls Tryd.prog 72 #[.int .i64 tag] w fun e w' =>
  (hasB tag = false ∧ e = .returned .nilFunc ∧ Below w.heap.size w w') ∨ (hasB tag = true ∧ ∃ fv, e = .returned fv ∧ Asks w' fv (q tag) ∧ Below w.heap.size w w')

theorem asks_plain {w : World} {f : Nat} {fn : Func} {q : List Nat → Bool} (hf : Tryd.prog.funcs[f]? = some fn) (hE : ∀ args W, (callFunc f args).run Tryd.prog W = .ok (.enter f args) W)
    (h : ∀ (W : World) (a : Option Addr) (len cap : Nat) (l : List Nat), Reads .u8 W a len cap l → (∀ x ∈ l, x < 256) → Calls Tryd.prog f #[.slice a len cap] W fun e W' => e = .returned (.bool (q l)) ∧ Below W.heap.size W W') :
    Asks w (.func (.func f) #[] #[]) q := ⟨f, #[], rfl, hE, fun W a len cap l _ hr hx => by simpa using h W a len cap l hr hx⟩

theorem wanted_none (L : World → Prop) (q : Int → List Nat → Bool) (t : Int) (ht : hasB t = false) : WantedOk L q t := fun w _ => by
  have h : ¬ (t = 1 ∨ t = 2 ∨ t = 3 ∨ t = 4 ∨ t = 5 ∨ t = 6 ∨ t = 10 ∨ t = 12 ∨ t = 19 ∨ t = 22 ∨ t = 23 ∨ t = 24) := by simpa [hasB] using ht
  have HT := Lib.hid ht
  have e1 : (t == 1) = false := by simp; omega
  have e2 : (t == 2) = false := by simp; omega
  have e3 : (t == 3) = false := by simp; omega
  have e4 : (t == 4) = false := by simp; omega
  have e5 : (t == 5) = false := by simp; omega
  have e6 : (t == 6) = false := by simp; omega
  have e7 : (t == 10) = false := by simp; omega
  have e8 : (t == 12) = false := by simp; omega
  have e9 : (t == 19) = false := by simp; omega
  have e10 : (t == 22) = false := by simp; omega
  have e11 : (t == 23) = false := by simp; omega
  have e12 : (t == 24) = false := by simp; omega
  clear ht h
  go_enter Tryd.func72, Tryd.ntmps72
  go_wp2
  go_ret
  exact .inl ⟨HT.out, rfl, Below.refl _ _⟩

/-- One tag's answer. -/
theorem wanted_int (t : Int) (ht : t = 2 ∨ t = 10) (w : World) : Calls Tryd.prog 72 #[.int .i64 t] w fun e w' => e = .returned (.func (.func 48) #[] #[]) ∧ Below w.heap.size w w' := by
  rcases ht with rfl | rfl
  all_goals
    go_enter Tryd.func72, Tryd.ntmps72
    go_wp2
    go_ret
    exact ⟨rfl, Below.refl _ _⟩

theorem wanted_bool (w : World) : Calls Tryd.prog 72 #[.int .i64 1] w fun e w' => e = .returned (.func (.func 75) #[] #[]) ∧ Below w.heap.size w w' := by
  go_enter Tryd.func72, Tryd.ntmps72
  go_wp2
  go_ret
  exact ⟨rfl, Below.refl _ _⟩
theorem wanted_bytes (w : World) : Calls Tryd.prog 72 #[.int .i64 4] w fun e w' => e = .returned (.func (.func 77) #[] #[]) ∧ Below w.heap.size w w' := by
  go_enter Tryd.func72, Tryd.ntmps72
  go_wp2
  go_ret
  exact ⟨rfl, Below.refl _ _⟩
theorem wanted_null (w : World) : Calls Tryd.prog 72 #[.int .i64 5] w fun e w' => e = .returned (.func (.func 78) #[] #[]) ∧ Below w.heap.size w w' := by
  go_enter Tryd.func72, Tryd.ntmps72
  go_wp2
  go_ret
  exact ⟨rfl, Below.refl _ _⟩

theorem below_of_drewN {w w' : World} (h : ∃ n, w' = w.drewN n) : Below w.heap.size w w' := by
  obtain ⟨n, rfl⟩ := h
  exact ⟨rfl, rfl, rfl, Nat.le_refl _, fun _ _ => rfl⟩

theorem asks_int (w : World) : Asks w (.func (.func 48) #[] #[]) intB :=
  asks_plain Tryd.func48 (enters_of Tryd.func48 (by kernel_rfl) rfl) fun W a len cap l hr hx => (isInt_any a len cap l W hr hx).mono fun _ _ ⟨he, hw⟩ => ⟨he, below_of_drewN hw⟩
theorem asks_bool (w : World) : Asks w (.func (.func 75) #[] #[]) boolB :=
  asks_plain Tryd.func75 (enters_of Tryd.func75 (by kernel_rfl) rfl) fun W a len cap l hr hx => (bool_any a len cap l W hr hx).mono fun _ _ ⟨he, hw⟩ => ⟨he, hw ▸ Below.refl _ _⟩
theorem asks_bytes (w : World) : Asks w (.func (.func 77) #[] #[]) (fun _ => true) :=
  asks_plain Tryd.func77 (enters_of Tryd.func77 (by kernel_rfl) rfl) fun W a len cap l _ _ => (bytes_any_t (.slice a len cap) W).mono fun _ _ ⟨he, hw⟩ => ⟨he, hw ▸ Below.refl _ _⟩
theorem asks_null (w : World) : Asks w (.func (.func 78) #[] #[]) (fun l => decide (l.length = 0)) :=
  asks_plain Tryd.func78 (enters_of Tryd.func78 (by kernel_rfl) rfl) fun W a len cap l hr _ => (null_any a len cap l W hr).mono fun _ _ ⟨he, hw⟩ => ⟨he, hw ▸ Below.refl _ _⟩

/-- The least rule that a node breaks by itself; q: what the bytes of a tag have to be. -/
def brokenN (q : Int → List Nat → Bool) (t : Tr) : Int :=
  if t.cls < 0 ∨ 3 < t.cls ∨ t.tag < 0 ∨ 30 < t.tag then 1
  else if (t.cons = true ∧ t.b ≠ []) ∨ (t.cons = false ∧ t.kids ≠ []) then 2
  else if t.cls ≠ 0 then 0
  else if t.tag = 16 ∨ t.tag = 17 then (if t.cons then 0 else 3)
  else if t.cons = true ∨ hasB t.tag = false then 3
  else if q t.tag t.b then 0 else 4

end Go.Proofs.YtkmphiakciihfaaDoor
