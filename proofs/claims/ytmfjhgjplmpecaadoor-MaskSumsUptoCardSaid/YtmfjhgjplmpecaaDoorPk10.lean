/-
  Texts of ours, one behind the other: Qk0
-/
import Derived.Test.YtmfjhgjplmpecaaDoorPk9
import Derived.BigQuiet
import Derived.Deep.QuietTactic
import Derived.StillTailTactics
import Derived.BigRegion
import Derived.RegionTactic
import Derived.Deep.RegionHeld3
import Derived.ArgAppend
set_option linter.unusedVariables false
set_option linter.unusedSimpArgs false

namespace Go.Proofs.YtmfjhgjplmpecaaDoor.L5
open Go.RowKit Go.Shelf

def zR : List Nat := List.replicate 80 0
def z8 : List Nat := List.replicate 8 0
theorem of_start (w W : World) (gp cp : Nat) (H : List Nat) (HP : Reads .i64 W (some ⟨gp, 0, none⟩) 80 cp primesL) (hB : Below w.heap.size w W) (hgp : gp < W.heap.size) :
    OfP w ((W.alloc (.cells (arrC .u64 zR) 79)).alloc (.cells (arrC .u64 z8) 80)) gp cp W.heap.size (W.heap.size + 1) (fillT kL 80 0) (fillT H 8 0) := by
  have h1 : Arr .u64 79 (W.alloc (.cells (arrC .u64 zR) 79)) W.heap.size zR := Go.heap_alloc_new W _
  have hb := ((Below.refl W.heap.size W).alloc (Nat.le_refl _) (.cells (arrC .u64 zR) 79))
  have s1 : (W.alloc (.cells (arrC .u64 zR) 79)).heap.size = W.heap.size + 1 := World.size_alloc _ _
  generalize W.alloc (.cells (arrC .u64 zR) 79) = w1 at *
  have hb2 := hb.alloc (by omega) (.cells (arrC .u64 z8) 80)
  have h2 : Arr .u64 80 (w1.alloc (.cells (arrC .u64 z8) 80)) (W.heap.size + 1) z8 := by rw [← s1]; exact Go.heap_alloc_new w1 _
  refine ⟨HP.below hb2, ?_, ?_, hB.trans (hb2.mono hB.size), by omega, by omega, by omega, hB.size, by have := hB.size; omega⟩
  · rw [show fillT kL 80 0 = zR from rfl]
    exact h1.alloc _
  · rw [show fillT H 8 0 = z8 by unfold fillT; rfl]
    exact h2

theorem wpList_load8 {ops : Array Oper} {rest : List Oper} {o : Oper} {a : Act} {w : World} {Q : Exit → Act → World → Prop} (hgd : o.guard = none) (x : Operand) (ho : o.op = .load 80 x)
    (g : Nat) (l : List Nat) (hx : a.eval x = .pointer (some ⟨g, 0, none⟩)) (hA : Arr .u64 80 w g l) (h8 : l.length = 8)
    (h : wpList Tryd.prog ops Q rest (a.put o.dst (.agg (arrC .u64 l))) w) : wpList Tryd.prog ops Q (o :: rest) a w :=
  wpList_load_row hgd _ x ho g hx _ (arrC .u64 l) _ _ hA Tryd.underlying80 rfl (by rw [arrC_size, h8]; kernel_rfl) h
theorem wpList_store8 {ops : Array Oper} {rest : List Oper} {o : Oper} {a : Act} {w : World} {Q : Exit → Act → World → Prop} (hgd : o.guard = none) (x y : Operand) (ho : o.op = .store 80 x y)
    (g : Nat) (l m : List Nat) (hx : a.eval x = .pointer (some ⟨g, 0, none⟩)) (hy : a.eval y = .agg (arrC .u64 m)) (hA : Arr .u64 80 w g l) (hl8 : l.length = 8) (h8 : m.length = 8)
    (h : wpList Tryd.prog ops Q rest (a.put o.dst undef) (w.setRow g (arrC .u64 m))) : wpList Tryd.prog ops Q (o :: rest) a w :=
  wpList_store_row hgd _ _ _ ho g (arrC .u64 m) hx hy 80 _ hA (by rw [arrC_size, h8]; kernel_rfl) (by rw [arrC_size, arrC_size, h8, hl8]) (arrC_one _ _) h
theorem step_append_q {P : Program} (q : IntKind) (w : World) {o : Oper} {a : Act} {K : Act → World → Prop} {Q : Exit → Act → World → Prop} (s x : Operand) (t : TypeId)
    (ho : o.op = .call { callee := .builtin .append, args := #[s, x], argTypes := #[t, t] })
    (B E by' : Nat) (i : TypeInfo) (ht : P.underlying t = some (.slice E)) (hi : P.info? E = some i) (hz : i.zero = some (.int q 0)) (hsize : i.size = 1) (hby : i.bytes = by') (hby8 : by' ≤ 8)
    (v : Value) (l : List Nat) (hs : a.eval s = v) (hown : OwnQ q E B w v l) (ad : Addr) (m c : Nat) (l2 : List Nat) (hx : a.eval x = .slice (some ad) m c) (hb : Reads q w (some ad) m c l2)
    (hsum : l.length + m ≤ 17592186044416) (hbase : B ≤ w.heap.size)
    (h : ∀ v' w', OwnQ q E B w' v' (l ++ l2) → (∀ w0, Below B w0 w → Below B w0 w') → K (a.put o.dst v') w') : o.wp P a w K Q := by
  have hlen := hb.length
  have hbb : (l.length + m) * by' ≤ 140737488355328 := Nat.le_trans (Nat.mul_le_mul hsum hby8) (by decide)
  refine wp_append_own w s x t ho B E i (.int q 0) 1 by' ht hi hz hsize hby rfl (by decide) v l.length (l.map (num q)) hs hown ad m c (l2.map (num q)) hx (by simpa using hlen) hb.news (nums_oneCell _ _) (by unfold maxLen; omega) hbb hbase ?_
  intro v' w' ho' hg _
  refine h v' w' ?_ (fun w0 h0 => h0.grown hg hbase (fun k hk => (hown.lt k hk).1))
  unfold OwnQ
  rw [List.map_append, List.length_append, hlen]
  exact ho'
theorem right_s (x n r : Nat) (k : Int) (hn : n ≤ 63) (hk : k = n) (hx : x < 18446744073709551616) (hr : r = rotr x n) (w : World) :
    Calls Tryd.prog 42 #[.int .u64 (x : Int), .int .i64 k] w fun e w' => e = .returned (.int .u64 (r : Int)) ∧ w' = w :=
  (right_any x n x k w rfl hk hx hn).mono fun e w' ⟨h1, h2⟩ => ⟨by rw [h1, hr, halfs_rot x n hx hn]; rfl, h2.symm⟩
theorem down_s (x n r : Nat) (k : Int) (hn : n ≤ 63) (hk : k = n) (hx : x < 18446744073709551616) (hr : r = x / 2 ^ n) (w : World) :
    Calls Tryd.prog 43 #[.int .u64 (x : Int), .int .i64 k] w fun e w' => e = .returned (.int .u64 (r : Int)) ∧ w' = w :=
  (down_any x n x k w rfl hk hx hn).mono fun e w' ⟨h1, h2⟩ => ⟨by rw [h1, hr], h2.symm⟩

end Go.Proofs.YtmfjhgjplmpecaaDoor.L5
