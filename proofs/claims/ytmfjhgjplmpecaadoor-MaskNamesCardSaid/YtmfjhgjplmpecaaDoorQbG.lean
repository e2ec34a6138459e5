/-
  SHA-512: worlds that grew; eight words.
-/
import Derived.Test.YtmfjhgjplmpecaaDoorQbE
namespace Go.Proofs.YtmfjhgjplmpecaaDoor.L5
open Go.RowKit

theorem grown_trans {x y z : World} {r : Option Nat} (h : x.grownBy y r) (k : y.grownBy z r) : x.grownBy z r :=
  ⟨k.os.trans h.os, k.tape.trans h.tape, k.output.trans h.output, Nat.le_trans h.size k.size, fun i hi hr => (k.block i (Nat.lt_of_lt_of_le hi h.size) hr).trans (h.block i hi hr)⟩
theorem grown_below {x y : World} (h : Below x.heap.size x y) (r : Option Nat) : x.grownBy y r := ⟨h.os, h.tape, h.output, h.size, fun i hi _ => h.block i hi⟩
theorem grown_drewN {x y : World} {r : Option Nat} (h : x.grownBy y r) (n : Nat) : x.grownBy (y.drewN n) r := ⟨h.os, h.tape, h.output, h.size, h.block⟩
theorem grown_drew {x y : World} {r : Option Nat} (h : x.grownBy y r) : x.grownBy y.drew r := ⟨h.os, h.tape, h.output, h.size, h.block⟩
theorem grown_set {x y : World} {g : Nat} (h : x.grownBy y (some g)) (i : Nat) (v : Value) : x.grownBy (y.setCell ⟨g, i, none⟩ v) (some g) :=
  ⟨h.os, h.tape, h.output, by simpa using h.size, fun k hk hr => (heap_setCell_other y ⟨g, i, none⟩ k v (fun e => hr (by rw [e]))).trans (h.block k hk hr)⟩

theorem kept2 (w W2 : World) (c d : Array Value) {T E : TypeId} (h : (w.alloc (.cells c T)).alloc (.cells d E) = W2) : Below w.heap.size w W2 ∧ W2.heap[w.heap.size + 1]? = some (.cells d E (0, 0)) ∧ W2.heap.size = w.heap.size + 2 := by
  subst h
  refine ⟨((Below.refl _ _).alloc (Nat.le_refl _) _).alloc (by simp) _, ?_, by simp⟩
  have := Go.heap_alloc_new (w.alloc (.cells c T)) (.cells d E)
  rwa [World.size_alloc] at this
theorem arrC_eight : ∀ (ws : List Nat), ws.length = 8 → #[Value.int .u64 ((g0 ws 0 : Nat) : Int), .int .u64 ((g0 ws 1 : Nat) : Int), .int .u64 ((g0 ws 2 : Nat) : Int), .int .u64 ((g0 ws 3 : Nat) : Int), .int .u64 ((g0 ws 4 : Nat) : Int), .int .u64 ((g0 ws 5 : Nat) : Int), .int .u64 ((g0 ws 6 : Nat) : Int), .int .u64 ((g0 ws 7 : Nat) : Int)] = arrC .u64 ws
  | [_, _, _, _, _, _, _, _], _ => rfl
theorem not_cast (e : Nat) (h : e < 18446744073709551616) : bits BinOp.xor IntKind.u64 (if IntKind.u64.signed = true then -1 else IntKind.u64.max) (e : Int) = ((18446744073709551615 - e : Nat) : Int) := by
  have e1 : (if IntKind.u64.signed = true then (-1 : Int) else IntKind.u64.max) = ((18446744073709551615 : Nat) : Int) := rfl
  have e2 : (18446744073709551615 ^^^ e : Nat) = 18446744073709551615 - e := by
    have h1 := congrArg BitVec.toNat (BitVec.allOnes_xor (x := BitVec.ofNat 64 e))
    rw [BitVec.toNat_xor, BitVec.toNat_allOnes, BitVec.toNat_not, BitVec.toNat_ofNat, Nat.mod_eq_of_lt (by simpa using h)] at h1
    exact h1
  rw [e1, u64_xor_nat _ _ (by decide) h, e2]
theorem set8 : ∀ {l : List Nat}, l.length = 8 → ∀ (a b c d e f g h : Nat), (((((((l.set 0 a).set 1 b).set 2 c).set 3 d).set 4 e).set 5 f).set 6 g).set 7 h = [a, b, c, d, e, f, g, h]
  | [_, _, _, _, _, _, _, _], _, _, _, _, _, _, _, _, _ => rfl
theorem idx8 (l : List Nat) (i : Nat) (hi : i < 8) (hl : l.length = 8) (w : World) : (Instr.index 80 (.agg (arrC .u64 l)) (.int .i64 (i : Int))).run Tryd.prog w = .ok (.int .u64 ((l[i]?.getD 0 : Nat) : Int)) w := by
  have hu : ∀ w, (underlying 80).run Tryd.prog w = .ok (.array 8 75) w := fun _ => by kernel_rfl
  have hs : ∀ w, (sizeOf 75).run Tryd.prog w = .ok 1 w := fun _ => by kernel_rfl
  have ha : ∀ w, (isAgg 75).run Tryd.prog w = .ok false w := fun _ => by kernel_rfl
  have hg := arrC_get .u64 l i (by omega)
  have h1 : 0 ≤ (i : Int) ∧ (i : Int) < ((8 : Nat) : Int) := by omega
  unfold Instr.index
  simp only [asIntOf, Sem.run_bind, Sem.run_pure, Result.andThen_ok, hu, if_pos h1, hs, Int.toNat_natCast, Nat.mul_one, part, ha]
  rw [hg]
  rfl
theorem StateAt.drew' {w : World} {g bits : Nat} {ws tail : List Nat} {taken : Nat} (h : StateAt w g bits ws tail taken) : StateAt w.drew g bits ws tail taken := h.block rfl
theorem rdsN_zero (ws sc : List Nat) : rdsN ws sc 0 = ws := rfl

end Go.Proofs.YtmfjhgjplmpecaaDoor.L5
