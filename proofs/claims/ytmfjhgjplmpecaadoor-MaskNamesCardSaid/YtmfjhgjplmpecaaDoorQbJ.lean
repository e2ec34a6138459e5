/-
  SHA-512: slices of the tail; worlds that grew.
-/
import Derived.Test.YtmfjhgjplmpecaaDoorQbI
import Derived.Test.YtmfjhgjplmpecaaDoorQbG
namespace Go.Proofs.YtmfjhgjplmpecaaDoor.L5
open Go.RowKit Go.Shelf
set_option maxRecDepth 100000

theorem _root_.Go.Proofs.YtmfjhgjplmpecaaDoor.Reads.grownNe5 {q : IntKind} {w w' : World} {row : Option Nat} {a : Option Addr} {len cap : Nat} {l : List Nat} (h : Reads q w a len cap l) (hg : w.grownBy w' row) (hr : 0 < len → ∀ ad, a = some ad → some ad.block ≠ row) : Reads q w' a len cap l :=
  ⟨h.length, h.le, h.max, h.nil, fun hp => by
    obtain ⟨b, off, rfl, hb, hc⟩ := h.cells hp
    refine ⟨b, off, rfl, Nat.lt_of_lt_of_le hb hg.size, fun i hi => ?_⟩
    exact (World.cell?_of_block (hg.block b hb (hr hp _ rfl))).trans (hc i hi)⟩
theorem slice_whole (g : Nat) (W : World) : (Instr.sliceAt 95 (.pointer (some ⟨g, 9, none⟩)) none none none).run Tryd.prog W = .ok (.slice (some ⟨g, 9, none⟩) 128 128) W := by
  have hl : Tryd.prog.arrayLen 95 = 128 := by kernel_rfl
  have hs : ∀ w, (sizeOf (Tryd.prog.elem 95)).run Tryd.prog w = .ok 1 w := fun _ => by kernel_rfl
  rw [run_sliceAt_array_all W 95 ⟨g, 9, none⟩ (by kernel_rfl), hs]
  show Result.ok (slicedAt ⟨g, 9, none⟩ 0 (Tryd.prog.arrayLen 95) (Tryd.prog.arrayLen 95) 1) W = _
  rw [hl]
  rfl
theorem grown_setRow {x y : World} {g : Nat} (h : x.grownBy y (some g)) (cs : Array Value) : x.grownBy (y.setRow g cs) (some g) :=
  ⟨h.os, h.tape, h.output, by simpa using h.size, fun k hk hr => (setRow_other y g k cs (fun e => hr (by rw [e]))).trans (h.block k hk hr)⟩
theorem cell_grown {x y : World} {g b i : Nat} {v : Value} (h : x.grownBy y (some g)) (hb : b ≠ g) (hl : b < x.heap.size) (hc : x.cell? ⟨b, i, none⟩ = some v) : y.cell? ⟨b, i, none⟩ = some v :=
  (World.cell?_of_block (h.block b hl (fun e => hb (by cases e; rfl)))).trans hc
theorem slice_tail (g at' : Nat) (h : at' < 128) (W : World) : (Instr.sliceAt 95 (.pointer (some ⟨g, 9, none⟩)) (some (.int .i64 (at' : Int))) none none).run Tryd.prog W = .ok (.slice (some ⟨g, 9 + at', none⟩) (128 - at') (128 - at')) W := by
  have hl : Tryd.prog.arrayLen 95 = 128 := by kernel_rfl
  have hs : ∀ w, (sizeOf (Tryd.prog.elem 95)).run Tryd.prog w = .ok 1 w := fun _ => by kernel_rfl
  rw [run_sliceAt_array_l W 95 ⟨g, 9, none⟩ (by kernel_rfl) .i64 (at' : Int) (by omega) (by rw [hl]; omega), hs]
  show Result.ok (slicedAt ⟨g, 9, none⟩ (at' : Int).toNat (Tryd.prog.arrayLen 95) (Tryd.prog.arrayLen 95) 1) W = _
  rw [hl]
  unfold slicedAt
  rw [Int.toNat_natCast, if_neg (by omega), Nat.mul_one]
  congr 3
  unfold Addr.add
  split <;> simp_all

end Go.Proofs.YtmfjhgjplmpecaaDoor.L5
