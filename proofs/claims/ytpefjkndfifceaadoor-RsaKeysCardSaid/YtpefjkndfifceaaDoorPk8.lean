/-
  Texts of ours, one behind the other: Mk4 SeqM MkS MkU Ps1 Oc5 Oc6 Oc7 Oc8 Ps2 Ps3 Ps4 Ps5 Ps6
-/
import Derived.Test.YtpefjkndfifceaaDoorPk2
import Derived.Test.YtpefjkndfifceaaDoorPk3
import Derived.Test.YtpefjkndfifceaaDoorPk4
import Derived.Test.YtpefjkndfifceaaDoorPk7
import Derived.Lib.SmallJoins
import Derived.Maps.OwnIn
import Derived.Lib.Bytealg
import Derived.Laws.Externs
import Derived.WalkSmall
import Derived.Lib.OwnKind
import Derived.StillTactics
import Derived.StillTailTactics
import Derived.Stop.RegionWithIn
import Derived.BigRegionIn
set_option linter.unusedVariables false
set_option linter.unusedSimpArgs false

namespace Go.Proofs.YtpefjkndfifceaaDoor
open Go.RowKit Go.Shelf
set_option maxRecDepth 100000

def eqS (h : Nat) (s : ByteArray) : Bool := (strOf (mName h)).toList == s.toList
def mNamed (s : ByteArray) : Int := if eqS 1 s = true then 1 else if eqS 2 s = true then 2 else if eqS 3 s = true then 3 else if eqS 4 s = true then 4 else 0

theorem idxK0 (w : World) : (Instr.index 73 (.agg #[.string (strOf [115, 104, 97, 50, 50, 52]), .int .i64 28, .int .u8 4, .string (strOf [115, 104, 97, 50, 53, 54]), .int .i64 32, .int .u8 1, .string (strOf [115, 104, 97, 51, 56, 52]), .int .i64 48, .int .u8 2, .string (strOf [115, 104, 97, 53, 49, 50]), .int .i64 64, .int .u8 3]) (.int .i64 0)).run Tryd.prog w = .ok (.agg #[.string (strOf [115, 104, 97, 50, 50, 52]), .int .i64 28, .int .u8 4]) w := by kernel_rfl
theorem idxK1 (w : World) : (Instr.index 73 (.agg #[.string (strOf [115, 104, 97, 50, 50, 52]), .int .i64 28, .int .u8 4, .string (strOf [115, 104, 97, 50, 53, 54]), .int .i64 32, .int .u8 1, .string (strOf [115, 104, 97, 51, 56, 52]), .int .i64 48, .int .u8 2, .string (strOf [115, 104, 97, 53, 49, 50]), .int .i64 64, .int .u8 3]) (.int .i64 1)).run Tryd.prog w = .ok (.agg #[.string (strOf [115, 104, 97, 50, 53, 54]), .int .i64 32, .int .u8 1]) w := by kernel_rfl
theorem idxK2 (w : World) : (Instr.index 73 (.agg #[.string (strOf [115, 104, 97, 50, 50, 52]), .int .i64 28, .int .u8 4, .string (strOf [115, 104, 97, 50, 53, 54]), .int .i64 32, .int .u8 1, .string (strOf [115, 104, 97, 51, 56, 52]), .int .i64 48, .int .u8 2, .string (strOf [115, 104, 97, 53, 49, 50]), .int .i64 64, .int .u8 3]) (.int .i64 2)).run Tryd.prog w = .ok (.agg #[.string (strOf [115, 104, 97, 51, 56, 52]), .int .i64 48, .int .u8 2]) w := by kernel_rfl
theorem idxK3 (w : World) : (Instr.index 73 (.agg #[.string (strOf [115, 104, 97, 50, 50, 52]), .int .i64 28, .int .u8 4, .string (strOf [115, 104, 97, 50, 53, 54]), .int .i64 32, .int .u8 1, .string (strOf [115, 104, 97, 51, 56, 52]), .int .i64 48, .int .u8 2, .string (strOf [115, 104, 97, 53, 49, 50]), .int .i64 64, .int .u8 3]) (.int .i64 3)).run Tryd.prog w = .ok (.agg #[.string (strOf [115, 104, 97, 53, 49, 50]), .int .i64 64, .int .u8 3]) w := by kernel_rfl
end Go.Proofs.YtpefjkndfifceaaDoor
namespace Go.Proofs.YtpefjkndfifceaaDoor
open Go.RowKit Go.Shelf
theorem cellM {W : World} {g i : Nat} {cs : Array Value} {E : TypeId} {fz : Nat × Nat} (h : W.heap[g]? = some (.cells cs E fz)) : W.cell? ⟨g, i, none⟩ = cs[i]? := by
  simp [World.cell?, h]
theorem readsM {W : World} {g : Nat} {l : List Nat} {cs : Array Value} {E : TypeId} {fz : Nat × Nat} {n : Nat} (h : W.heap[g]? = some (.cells cs E fz)) (hc : cs = (l.map (num .u8)).toArray) (hn : n = l.length) (hm : n ≤ 1000) : Reads .u8 W (some ⟨g, 0, none⟩) n n l := by
  subst hn
  refine ⟨rfl, Nat.le_refl _, (by unfold maxLen; omega), (fun h => by cases h), fun _ => ⟨g, 0, rfl, (Array.getElem?_eq_some_iff.1 h).1, fun i hi => ?_⟩⟩
  rw [Nat.zero_add, cellM h, hc]
  simp [num, hi]
theorem heap_alloc_two (w : World) (o p : Obj) : ((w.alloc o).alloc p).heap[w.heap.size]? = some o := by
  rw [Below.heap_alloc _ _ _ (by simp)]
  exact World.alloc_heap_new w o
theorem heap_alloc_three (w : World) (o p q : Obj) : (((w.alloc o).alloc p).alloc q).heap[w.heap.size]? = some o := by
  rw [Below.heap_alloc _ _ _ (by simp; omega)]
  exact heap_alloc_two w o p
theorem heap_alloc_mid (w : World) (o p q : Obj) : (((w.alloc o).alloc p).alloc q).heap[w.heap.size + 1]? = some p := by
  have h := heap_alloc_two (w.alloc o) p q
  rwa [World.size_alloc] at h
theorem heap_alloc_last (w : World) (o p q : Obj) : (((w.alloc o).alloc p).alloc q).heap[w.heap.size + 2]? = some q := by
  have h := World.alloc_heap_new ((w.alloc o).alloc p) q
  rwa [World.size_alloc, World.size_alloc] at h

def abcR (s : Nat) : Nat → Option Addr × Nat × Nat × List Nat
  | 0 => (some ⟨s, 0, none⟩, 1, 1, [97])
  | 1 => (none, 0, 0, [])
  | _ => (some ⟨s + 1, 0, none⟩, 2, 2, [98, 99])
theorem abc_rows (w : World) : RowsM (((w.alloc (.cells #[.int .u8 97] 5 (1, 2))).alloc (.cells #[.int .u8 98, .int .u8 99] 5 (2, 3))).alloc (.cells #[.slice (some ⟨w.heap.size, 0, none⟩) 1 1, .slice none 0 0, .slice (some ⟨w.heap.size + 1, 0, none⟩) 2 2] 22)) (some ⟨w.heap.size + 2, 0, none⟩) 3 (abcR w.heap.size) := by
  refine ⟨fun i hi => ?_, fun _ => ⟨_, 0, rfl, by simp, fun i hi => ?_⟩⟩
  · rcases (show i = 0 ∨ i = 1 ∨ i = 2 by omega) with rfl | rfl | rfl
    · exact ⟨readsM (heap_alloc_three w _ _ _) rfl rfl (show 1 ≤ 1000 by decide), (by decide : Byt [97]), (by decide : 1 ≤ 1048576)⟩
    · exact ⟨Reads.none _ _, (by decide : Byt []), (by decide : 0 ≤ 1048576)⟩
    · exact ⟨readsM (heap_alloc_mid w _ _ _) rfl rfl (show 2 ≤ 1000 by decide), (by decide : Byt [98, 99]), (by decide : 2 ≤ 1048576)⟩
  · rw [Nat.zero_add, cellM (heap_alloc_last w _ _ _)]
    rcases (show i = 0 ∨ i = 1 ∨ i = 2 by omega) with rfl | rfl | rfl <;> rfl

theorem abc_hex : hexL (u8s (mHash 2 [97, 98, 99])) = [98, 97, 55, 56, 49, 54, 98, 102, 56, 102, 48, 49, 99, 102, 101, 97, 52, 49, 52, 49, 52, 48, 100, 101, 53, 100, 97, 101, 50, 50, 50, 51, 98, 48, 48, 51, 54, 49, 97, 51, 57, 54, 49, 55, 55, 97, 57, 99, 98, 52, 49, 48, 102, 102, 54, 49, 102, 50, 48, 48, 49, 53, 97, 100] := by kernel_rfl
end Go.Proofs.YtpefjkndfifceaaDoor
namespace Go.Proofs.YtpefjkndfifceaaDoor
open Go.RowKit Go.Shelf
theorem wpList_append_noughtsM {P : Program} (w : World) {ops : Array Oper} {rest : List Oper} {o : Oper} {a : Act} {Q : Exit → Act → World → Prop} (hgd : o.guard = .none) (s x : Operand) (t tn : TypeId)
    (ho : o.op = .call { callee := .builtin .append, args := #[s, x], argTypes := #[t, tn] })
    (B E : Nat) (i : TypeInfo) (ht : P.underlying t = some (.slice E)) (htn : P.underlying tn = some (.int .i64)) (hi : P.info? E = some i) (hz : i.zero = some (.int .u8 0)) (hsize : i.size = 1) (hby : i.bytes = 1)
    (v : Value) (l : List Nat) (hs : a.eval s = v) (hown : OwnQ .u8 E B w v l) (k : Nat) (hk0 : 0 < k) (hx : a.eval x = .int .i64 (k : Int)) (hb : l.length + k ≤ 140737488355328) (hk6 : k ≤ 1000000) (hbase : B ≤ w.heap.size)
    (h : ∀ v' w', OwnQ .u8 E B w' v' (l ++ List.replicate k 0) → (∀ w0, Below B w0 w → Below B w0 w') → wpList P ops Q rest (a.put o.dst v') w') : wpList P ops Q (o :: rest) a w := by
  rcases hown.form with ⟨ao, c, rfl, -, -⟩
  cases ao with
  | none =>
    have hl0 : l = [] := by
      rcases hown.2 with ⟨_, h0⟩ | ⟨g, _, _, e, _⟩
      · exact List.eq_nil_of_length_eq_zero h0
      · simp at e
    subst hl0
    have hc0 : c = 0 := by
      rcases hown.2 with ⟨e, _⟩ | ⟨g, _, _, e, _⟩
      · simpa using e
      · simp at e
    subst hc0
    have hold : (Builtin.firstCells i.size 0 (.slice none 0 0)).run P w.drew = .ok ([] : List Value).toArray w.drew := by simp [Builtin.firstCells]
    have hb' : k ≤ 140737488355328 := by simpa using hb
    have hfit : Builtin.nextslicecap (0 + k) 0 * i.bytes ≤ 281474976710656 := growslice_fits (by omega) (by rw [hby]; omega)
    have hrun := Lib.run_append_grow_zeros (P := P) w t tn o.type E i (.int .u8 0) .i64 .i64 ht htn hi hz none 0 0 [] hold k hk0 (by omega) (by omega) (by omega) (by rw [hby]; omega) hfit
    have hge := grownCap_ge w (0 + k) 0 E
    have hcm := grownCap_le_maxLen w (0 + k) 0 E (by unfold maxLen; omega)
    refine wpList_plain hgd fun K hK' => ?_
    unfold Oper.wp
    simp only [execOp, ho, resolve, invoke, builtin, Sem.run_bind, Sem.run_pure, Result.andThen_ok, List.map_toArray, List.map_cons, List.map_nil, hs, hx, List.length_nil, hrun]
    refine hK' _ _ (h _ _ ⟨by simp, .inr ⟨w.heap.size, _, _, ?_, hbase, heap_alloc_new w.drew _, ?_, hcm, ?_, ?_⟩⟩ (fun w0 hB => hB.drew.alloc (by simpa using hbase) _))
    · simp
    · simpa using hge
    · have hge2 := hge
      simp only [Nat.zero_add] at hge2
      simp only [Array.size_append, List.size_toArray, size_zeroCells, List.length_nil]
      simp [Value.cells]
      omega
    · rw [Array.toList_append, Array.toList_append, show (Value.int .u8 0).cells = #[Value.int .u8 0] from rfl, noughtCells]
      simp [num, List.take_append]
  | some ad =>
    obtain ⟨g, rfl⟩ : ∃ g, ad = ⟨g, 0, .none⟩ := by
      rcases hown.2 with ⟨e, _⟩ | ⟨g, _, _, e, _⟩
      · simp at e
      · simp only [Value.slice.injEq, Option.some.injEq] at e
        exact ⟨g, e.1⟩
    have hcap := hown.cap
    rcases Nat.lt_or_ge c (l.length + k) with hgr | hroom
    · have hold := run_firstCells_some (P := P) w.drew i.size l.length ⟨g, 0, .none⟩ l.length c (l.map (num .u8)) (by rw [hsize]; simp) (by
        intro j u hu
        have := hown.reads.news j u hu
        simpa using this)
      have hfit : Builtin.nextslicecap (l.length + k) c * i.bytes ≤ 281474976710656 := growslice_fits (by omega) (by rw [hby]; omega)
      have hrun := Lib.run_append_grow_zeros (P := P) w t tn o.type E i (.int .u8 0) .i64 .i64 ht htn hi hz (some ⟨g, 0, .none⟩) l.length c (l.map (num .u8)) hold k (by omega) (by omega) hgr (by omega) (by rw [hby]; omega) hfit
      have hge := grownCap_ge w (l.length + k) c E
      have hcm := grownCap_le_maxLen w (l.length + k) c E (by unfold maxLen; omega)
      refine wpList_plain hgd fun K hK' => ?_
      unfold Oper.wp
      simp only [execOp, ho, resolve, invoke, builtin, Sem.run_bind, Sem.run_pure, Result.andThen_ok, List.map_toArray, List.map_cons, List.map_nil, hs, hx, hrun]
      refine hK' _ _ (h _ _ ⟨by simp, .inr ⟨w.heap.size, _, _, ?_, hbase, heap_alloc_new w.drew _, ?_, hcm, ?_, ?_⟩⟩ (fun w0 hB => hB.drew.alloc (by simpa using hbase) _))
      · simp
      · simpa using hge
      · simp only [Array.size_append, List.size_toArray, size_zeroCells, List.length_map]
        simp [Value.cells]
        omega
      · rw [Array.toList_append, Array.toList_append, show (Value.int .u8 0).cells = #[Value.int .u8 0] from rfl, noughtCells]
        simp [num, List.take_append]
        exact List.take_of_length_le (by simp)
    · rcases hown.2 with ⟨h1, _⟩ | ⟨g', cap', cur, h1, hbg, hg, hnc, hcm, hcs, htake⟩
      · simp at h1
      · simp only [Value.slice.injEq, Option.some.injEq, Addr.mk.injEq, and_true, true_and] at h1
        obtain ⟨rfl, rfl⟩ := h1
        have hrun := run_append_room_zeros (P := P) w t tn o.type E i (.int .u8 0) .i64 .i64 ht htn hi hz rfl rfl hsize hby g l.length c cur hg k hroom (by omega) (by omega)
        refine wpList_plain hgd fun K hK' => ?_
        unfold Oper.wp
        simp only [execOp, ho, resolve, invoke, builtin, Sem.run_bind, Sem.run_pure, Result.andThen_ok, List.map_toArray, List.map_cons, List.map_nil, hs, hx, hrun]
        have hgrow : w.grownBy (w.setRow g (cur.toList.take l.length ++ List.replicate k (Value.int .u8 0) ++ cur.toList.drop (l.length + k)).toArray) (some g) := ⟨rfl, rfl, rfl, by simp, fun k' _ hk => setRow_other w g k' _ (fun e => hk (by simp [e]))⟩
        refine hK' _ _ (h _ _ ⟨by simp, .inr ⟨g, c, _, by simp, hbg, setRow_heap w g cur _ E _ hg, by simpa using hroom, hcm, ?_, ?_⟩⟩ (fun w0 hB => hB.grown hgrow hbase (fun r e => by cases e; exact hbg)))
        · simp
          omega
        · have : cur.toList.take l.length = l.map (num .u8) := by simpa using htake
          rw [this]
          simp [num, List.take_append]
          exact List.take_of_length_le (by simp)

theorem wpList_append_q1 {P : Program} (q : IntKind) (w : World) {ops : Array Oper} {rest : List Oper} {o : Oper} {a : Act} {Q : Exit → Act → World → Prop} (hgd : o.guard = .none) (s x : Operand) (t : TypeId)
    (ho : o.op = .call { callee := .builtin .append, args := #[s, x], argTypes := #[t, t] })
    (B E : Nat) (i : TypeInfo) (ht : P.underlying t = some (.slice E)) (hi : P.info? E = some i) (hz : i.zero = some (.int q 0)) (hsize : i.size = 1) (hby : i.bytes = 1)
    (v : Value) (l : List Nat) (hs : a.eval s = v) (hown : OwnQ q E B w v l) (ao : Option Addr) (m c : Nat) (l2 : List Nat) (hx : a.eval x = .slice ao m c) (hb : Reads q w ao m c l2)
    (hsum : l.length + m ≤ 140737488355328) (hbase : B ≤ w.heap.size)
    (h : ∀ v' w', OwnQ q E B w' v' (l ++ l2) → (∀ w0, Below B w0 w → Below B w0 w') → wpList P ops Q rest (a.put o.dst v') w') : wpList P ops Q (o :: rest) a w := by
  have hlen := hb.length
  have hbb : (l.length + m) * 1 ≤ 140737488355328 := by omega
  cases ao with
  | some ad =>
    refine wpList_append_own w hgd s x t ho B E i (.int q 0) 1 1 ht hi hz hsize hby rfl (by decide) v l.length (l.map (num q)) hs hown ad m c (l2.map (num q)) hx (by simpa using hlen) hb.news (nums_oneCell _ _) (by unfold maxLen; omega) hbb hbase ?_
    intro v' w' ho' hg _
    refine h v' w' ?_ (fun w0 h0 => h0.grown hg hbase (fun k hk => (hown.lt k hk).1))
    unfold OwnQ
    rw [List.map_append, List.length_append, hlen]
    exact ho'
  | none =>
    have hc := hb.nil rfl
    have hle := hb.le
    obtain rfl : m = 0 := by omega
    obtain rfl : l2 = [] := List.eq_nil_of_length_eq_zero hlen
    subst hc
    refine wpList_plain hgd fun K hK' => ?_
    have hrun := run_append_owned_none (P := P) w B t o.type E i 1 ht hi v l.length (l.map (num q)) hown
    unfold Oper.wp
    simp [execOp, ho, resolve, invoke, builtin, hs, hx, hrun, Result.andThen]
    exact hK' _ _ (by simpa using h v w (by simpa using hown) (fun _ h0 => h0))

theorem rows_alloc (W0 W : World) (cs : Array Value) (n : Nat) (R : Nat → Option Addr × Nat × Nat × List Nat) {E : TypeId} (hb : Below W0.heap.size W0 W) (hr : ∀ i, i < n → Reads .u8 W0 (R i).1 (R i).2.1 (R i).2.2.1 (R i).2.2.2 ∧ Byt (R i).2.2.2 ∧ (R i).2.1 ≤ 1048576)
    (hc : ∀ i, i < n → cs[i]? = some (.slice (R i).1 (R i).2.1 (R i).2.2.1)) : RowsM (W.alloc (.cells cs E)) (some ⟨W.heap.size, 0, none⟩) n R :=
  ⟨fun i hi => ⟨((hr i hi).1.below hb).below ((Below.refl _ _).alloc (Nat.le_refl _) _), (hr i hi).2⟩, fun _ => ⟨_, 0, rfl, by simp, fun i hi => by
    rw [Nat.zero_add, cellM (World.alloc_heap_new W _)]
    exact hc i hi⟩⟩
theorem isHash_m (n : Nat) : IsHash (1 + n % 4) := by unfold IsHash; omega

end Go.Proofs.YtpefjkndfifceaaDoor

namespace Go.Proofs.YtpefjkndfifceaaDoor
open Go.RowKit

/-- The contract of such an iterator, which goes on while the caller lets fewer than N come. -/
def SeqM {α : Type} (R : Nat → Prop) (F : Fence) (n : Nat) (P : Program) (g : Nat) (lb : Array Value) (encs : α → Array Value) (Gd : List α → α → World → Prop) (N : Nat) (w : World) : Prop :=
  ∀ (l : Nat) (J Jx : List α → World → Prop) (W : World), Below w.heap.size w W → (∀ s X X', J s X → X.grownBy X' none → J s X') →
    (∀ s X X', Jx s X → X.grownBy X' none → Jx s X') → (∀ pre X, J pre X → pre.length < N) →
    (∀ pre x X, J pre X → Gd pre x X → YieldAt F (n - 1) P l (encs x) X fun e X' => (e = .returned (.bool true) ∧ J (pre ++ [x]) X' ∧ KpR R X X') ∨ (e = .returned (.bool false) ∧ Jx (pre ++ [x]) X')) →
    J [] W → CallsIn F n P g (#[.func (.yield l) #[] #[]] ++ lb) W fun e X => (∃ v, e = .returned v) ∧ ∃ pre, Jx pre X
/-- What goes on whatever the loop's own book-keeping writes from B on. -/
def StaysW {β : Type} (B : Nat) (J : β → World → Prop) : Prop := ∀ s W W' row, J s W → W.grownBy W' row → (∀ r, row = some r → B ≤ r ∧ ∃ o : Obj, W.heap[r]? = some o ∧ o.isCells = false) → J s W'

set_option maxHeartbeats 1000000 in
/-- The caller's law. -/
theorem wpIn_rangeM {α : Type} {F : Fence} {n : Nat} {P : Program} {R : Nat → Prop} {g : Operand} {ps : Array Tmp} {assign body : Code} {Q : Exit → Act → World → Prop} {a : Act} {w : World}
    (hro : F.round = none) (h1 : 1 ≤ n) {gf : Nat} {lb : Array Value} (hg : a.eval g = .func (.func gf) #[] lb) (hFg : F.fn gf) (eg : ∀ args w, (callFunc gf args).run P w = .ok (.enter gf args) w)
    {encs : α → Array Value} {Gd : List α → α → World → Prop} {N : Nat} {w0 : World} (hseq : SeqM R F (n - 1) P gf lb encs Gd N w0) (hRl : ∀ k, R k → k < w.heap.size) (hb0 : Below w0.heap.size w0 w) (hps : ∀ x, (encs x).size = ps.size)
    (I : List α → World → Prop) (Ix : Code → List α → World → Prop) (hI : StaysW w.heap.size I) (hIx : ∀ c, StaysW w.heap.size (Ix c)) (hGd : StaysW w.heap.size (fun (s : List α × α) W => Gd s.1 s.2 W)) (hN : ∀ pre W, I pre W → pre.length < N) (h0 : I [] w) (a₁ : α → Act)
    (hassign : ∀ (l : Nat) (x : α) (W : World) (K : Act → World → Prop), K (a₁ x) W →
      assign.wpIn (F.inRound l) (n - 1 - 1) P (Exit.then K (fun _ _ _ => False)) { tmps := (ps.zip (encs x)).foldl (fun t (p, v) => t.setIfInBounds p v) a.tmps, defers := [] } W)
    (hbody : ∀ (l : Nat) (pre : List α) (x : α) (W : World), I pre W → Gd pre x W → body.wpIn (F.inRound l) (n - 1 - 1) P (ownPostG w.heap.size (KpR R) I Ix (pre ++ [x]) W) (a₁ x) W)
    (hstop : ∀ (D : Nat) (c : Code) (pre : List α) (W : World), w.heap.size ≤ D → Ix c pre W → W.heap[D]? = some (.deferred (some [])) → c.wpIn F n P Q { a with defers := { target := .collected D, args := #[] } :: a.defers } W) :
    (Code.rangeFunc g ps assign body).wpIn F n P Q a w := by
  refine wpIn_rangeFunc fun fn hfn => ?_
  rw [hro]
  generalize hB : w.heap.size = B at *
  obtain ⟨rc, hrc⟩ : ∃ rc : LoopState → Option Code → Loop, rc = fun st pe => { state := st, pending := pe, fn, tmps := a.tmps, params := ps, assign, body, defers := B } := ⟨_, rfl⟩
  obtain ⟨W1, hW1⟩ : ∃ W1, (w.alloc (.deferred (some []))).alloc (.loop (rc .ready none)) = W1 := ⟨_, rfl⟩
  have bel1 : Below B w W1 := by rw [← hW1]; exact ((Below.refl _ w).alloc (Nat.le_of_eq hB.symm) _).alloc (by simp; omega) _
  have hD1 : W1.heap[B]? = some (.deferred (some [])) := by
    rw [← hW1]
    refine (Below.heap_alloc _ _ _ (by simp; omega)).trans ?_
    have := World.alloc_heap_new w (.deferred (some []))
    rwa [hB] at this
  have hL1 : W1.heap[B + 1]? = some (.loop (rc .ready none)) := by
    have := World.alloc_heap_new (w.alloc (.deferred (some []))) (.loop (rc .ready none))
    rwa [World.size_alloc, hB, hW1] at this
  have hz1 : W1.heap.size = B + 2 := by rw [← hW1]; simp; omega
  have hi1 : I [] W1 := by
    rw [← hW1]
    exact hI _ _ _ none (hI _ _ _ none h0 (World.grownBy_alloc w _ none) (fun r e => by cases e)) (World.grownBy_alloc _ _ none) (fun r e => by cases e)
  have put : ∀ {β : Type} {G : β → World → Prop} (_ : StaysW B G) {s : β} {W : World} {r : Loop} (o : Obj), G s W → W.heap[B + 1]? = some (.loop r) → G s (W.putObj (B + 1) o) := fun hG s W r o hs hl =>
    hG s W _ (some (B + 1)) hs (grownBy_putObj' W (B + 1) o) (fun k e => by cases e; exact ⟨by omega, _, hl, rfl⟩)
  refine ⟨B + 1, [{ target := .collected B, args := #[] }], W1, { target := .fn (.func gf) lb, args := #[.func (.yield (B + 1)) #[] #[]] }, W1, gf, #[.func (.yield (B + 1)) #[] #[]] ++ lb, W1, ?_, by simp only [resolve, hg]; simp [go_sem], ?_, by simp [invoke, go_sem, eg], fun _ => h1, ?_⟩
  · rw [← hW1, hrc, ← hB]
    exact run_enterLoop_outer _ _ _ _ _
  · intro f' hf'
    simp [Target.leads] at hf'
    subst hf'
    exact hFg
  have stay : ∀ {G : List α → World → Prop} (_ : StaysW B G) (ro : Loop) (s : List α) (X X' : World), (G s X ∧ X.heap[B + 1]? = some (.loop ro) ∧ X.heap[B]? = some (.deferred (some []))) → X.grownBy X' none → G s X' ∧ X'.heap[B + 1]? = some (.loop ro) ∧ X'.heap[B]? = some (.deferred (some [])) := fun hG ro s X X' h hgr =>
    ⟨hG s X X' none h.1 hgr (fun r e => by cases e), (hgr.block _ (Array.getElem?_eq_some_iff.1 h.2.1).1 (fun e => by cases e)).trans h.2.1, (hgr.block _ (Array.getElem?_eq_some_iff.1 h.2.2).1 (fun e => by cases e)).trans h.2.2⟩
  refine (hseq (B + 1) (fun s X => I s X ∧ X.heap[B + 1]? = some (.loop (rc .ready none)) ∧ X.heap[B]? = some (.deferred (some [])))
    (fun s X => ∃ c, Ix c s X ∧ X.heap[B + 1]? = some (.loop (rc .done (some c))) ∧ X.heap[B]? = some (.deferred (some []))) W1 (hb0.trans (bel1.mono (by rw [← hB]; exact hb0.size)))
    (fun s X X' h hgr => stay hI _ s X X' h hgr) (fun s X X' ⟨c, h⟩ hgr => ⟨c, stay (hIx c) _ s X X' h hgr⟩) (fun pre X h => hN pre X h.1) ?_ ⟨hi1, hL1, hD1⟩).mono ?_
  · rintro pre x X ⟨hi, hl, hd⟩ hgd
    have hlt : B + 1 < X.heap.size := (Array.getElem?_eq_some_iff.1 hl).1
    have hy := run_yield (P := P) (args := encs x) hl (by rw [hrc]; exact hps x)
    rw [hrc] at hy
    refine ⟨fn, _, assign, body, hy, roundIn_of_wpIn hfn (hassign _ x X _ ⟨_, run_beginRound hl (by rw [hrc]), wpIn_mono (hbody _ pre x _ (put hI _ hi hl) (put hGd (s := (pre, x)) _ hgd hl)) ?_⟩)⟩
    obtain ⟨X2, hX2⟩ : ∃ X2, X.putObj (B + 1) (.loop { rc .ready none with state := .busy }) = X2 := ⟨_, rfl⟩
    rw [hX2]
    have hl2 : X2.heap[B + 1]? = some (.loop { rc .ready none with state := .busy }) := by rw [← hX2]; exact World.putObj_heap_same hlt
    have hd2 : X2.heap[B]? = some (.deferred (some [])) := by rw [← hX2]; exact (World.putObj_heap_other (by omega)).trans hd
    have kp2 : KpR R X X2 := by rw [← hX2]; exact KpR.put X _ _ (fun h => by have := hRl _ h; omega)
    have last : ∀ (j : Option Code) (X3 : World), KeepsFrom B X2 X3 → (Instr.endRound (B + 1) j).run P X3 = .ok (.bool j.isNone) (X3.putObj (B + 1) (.loop (rc (if j.isNone then .ready else .done) j))) ∧ X3.heap[B + 1]? = some (.loop { rc .ready none with state := .busy }) ∧ (X3.putObj (B + 1) (.loop (rc (if j.isNone then .ready else .done) j))).heap[B + 1]? = some (.loop (rc (if j.isNone then .ready else .done) j)) ∧ (X3.putObj (B + 1) (.loop (rc (if j.isNone then .ready else .done) j))).heap[B]? = some (.deferred (some [])) := fun j X3 hk => by
      have hl3 := hk.same _ _ (by omega) hl2 rfl
      have hr := run_endRound (P := P) j hl3
      rw [hrc] at hr hl3 ⊢
      exact ⟨hr, hl3, World.putObj_heap_same (Array.getElem?_eq_some_iff.1 hl3).1, (World.putObj_heap_other (by omega)).trans (hk.same _ _ (Nat.le_refl _) hd2 rfl)⟩
    rintro e a3 X3 hp
    cases e with
    | normal =>
      obtain ⟨hk, kp3, hi3⟩ := hp
      obtain ⟨hr, hl3, hl4, hd4⟩ := last none X3 hk
      exact ⟨_, _, hr, .inl ⟨rfl, ⟨put hI _ hi3 hl3, hl4, hd4⟩, (kp2.trans kp3).trans (KpR.put X3 _ _ (fun h => by have := hRl _ h; omega))⟩⟩
    | ret =>
      obtain ⟨hr, hl3, hl4, hd4⟩ := last (some .ret) X3 hp.1
      exact ⟨_, _, hr, .inr ⟨rfl, .ret, put (hIx _) _ hp.2 hl3, hl4, hd4⟩⟩
    | exit id =>
      obtain ⟨hr, hl3, hl4, hd4⟩ := last (some (.exit id)) X3 hp.1
      exact ⟨_, _, hr, .inr ⟨rfl, .exit id, put (hIx _) _ hp.2 hl3, hl4, hd4⟩⟩
    | goto t =>
      obtain ⟨hr, hl3, hl4, hd4⟩ := last (some (.goto t)) X3 hp.1
      exact ⟨_, _, hr, .inr ⟨rfl, .goto t, put (hIx _) _ hp.2 hl3, hl4, hd4⟩⟩
    | panic ch => exact hp.elim
    | outgrown => exact hp.elim
  · rintro e X2 ⟨⟨v, rfl⟩, pre, c, hi, hl, hd⟩
    refine ⟨some c, X2.putObj (B + 1) (.loop { rc .done (some c) with state := .exhausted }), ?_, hstop _ c pre _ (Nat.le_refl _) (put (hIx c) _ hi hl) ((World.putObj_heap_other (by omega)).trans hd)⟩
    have := run_endLoop (P := P) hl (by rw [hrc]; simp)
    rw [hrc] at this ⊢
    exact this

end Go.Proofs.YtpefjkndfifceaaDoor

namespace Go.Proofs.YtpefjkndfifceaaDoor
open Go.RowKit Go.Shelf
set_option maxRecDepth 100000

/-- A number's four bytes (below 65536). -/
def be4 (k : Nat) : List Nat := [0, 0, k / 256, k % 256]
theorem be4_byt {k : Nat} (h : k < 65536) : Byt (be4 k) := fun x hx => by
  simp only [be4, List.mem_cons, List.not_mem_nil, or_false] at hx
  omega
def pieceN (h : Nat) (seed : List Nat) (k : Nat) : List Nat := mHash h (seed ++ be4 k)
theorem Reads.same {q : IntKind} {w w' : World} {B : Nat} {a : Option Addr} {n c : Nat} {l : List Nat} (h : Reads q w a n c l) (hb : ∀ k, k < B → w'.heap[k]? = w.heap[k]?) (hs : w.heap.size ≤ w'.heap.size) (ha : 0 < n → ∀ x, a = some x → x.block < B) : Reads q w' a n c l :=
  ⟨h.length, h.le, h.max, h.nil, fun hp => by
    obtain ⟨b, off, rfl, hlt, hc⟩ := h.cells hp
    exact ⟨b, off, rfl, Nat.lt_of_lt_of_le hlt hs, fun i hi => (World.cell?_of_block (a := ⟨b, off + i, .none⟩) (hb b (ha hp _ rfl))).trans (hc i hi)⟩⟩
theorem Kinds.same {w w' : World} (h : Kinds w) (hb : w'.heap[0]? = w.heap[0]?) : Kinds w' := fun i hi => (World.cell?_of_block (a := ⟨0, i, none⟩) hb).trans (h i hi)

theorem pieces_m (w : World) (h : Int) (a : Option Addr) (n c : Nat) : Calls Tryd.prog 58 #[.int .i64 h, .slice a n c] w fun e w' => e = .returned (.func (.func 65) #[] #[.pointer (some ⟨w.heap.size, 0, none⟩), .pointer (some ⟨w.heap.size + 1, 0, none⟩)]) ∧ w' = (w.alloc (.cells #[.int .i64 h] 26)).alloc (.cells #[.slice a n c] 22) := by
  go_enter Tryd.func58, Tryd.ntmps58
  go_wp2
  go_ret
  exact ⟨rfl, rfl⟩

def sdR (a : Option Addr) (ls cs : Nat) (seed : List Nat) (s k : Nat) : Nat → Option Addr × Nat × Nat × List Nat
  | 0 => (a, ls, cs, seed)
  | _ => (some ⟨s, 0, none⟩, 4, 4, be4 k)
def GdP (h : Nat) (seed : List Nat) (pre : List (Addr × Nat)) (x : Addr × Nat) (X : World) : Prop := Reads .u8 X (some x.1) (mSize h) x.2 (pieceN h seed pre.length)
set_option maxHeartbeats 4000000 in
theorem pieces_come_m (n : Nat) (hn : 1 ≤ n) (h : Nat) (hh : IsHash h) (a : Option Addr) (ls cs : Nat) (seed : List Nat) (N B bh bs : Nat) (hN : N ≤ 60000) (w : World) (hk : Kinds w) (hGB : 0 < B) (hr : Reads .u8 w a ls cs seed) (hsb : Byt seed) (hls : ls ≤ 1048000) (hab : 0 < ls → ∀ x, a = some x → x.block < B)
    (hbh : Boxed w bh 26 (.int .i64 (h : Int))) (hbs : Boxed w bs 22 (.slice a ls cs)) (hBw : B ≤ w.heap.size) :
    SeqM (fun k => k < B ∨ k = bh ∨ k = bs) Fence.wide n Tryd.prog 65 #[.pointer (some ⟨bh, 0, none⟩), .pointer (some ⟨bs, 0, none⟩)] (fun x : Addr × Nat => #[.slice (some x.1) (mSize h) x.2]) (GdP h seed) N w := fun lp J Jx W hbel hJ hJx hJN hY h0 => by
  have HJ := Lib.hid hJ
  have HJN := Lib.hid hJN
  have HH := Lib.hid hh
  have HY := Lib.hid hY
  have HJ0 := Lib.hid h0
  have HKW := Lib.hid (hk.below hbel)
  have HRW := Lib.hid (hr.below hbel)
  have HBH := Lib.hid (show Boxed W bh 26 (.int .i64 (h : Int)) from (hbel.block bh hbh.lt).trans hbh)
  have HBS := Lib.hid (show Boxed W bs 22 (.slice a ls cs) from (hbel.block bs hbs.lt).trans hbs)
  have HSB := Lib.hid hsb
  have HAB := Lib.hid hab
  have hBW : B ≤ W.heap.size := Nat.le_trans hBw hbel.size
  have hhW : bh < W.heap.size := HBH.out.lt
  have hsW : bs < W.heap.size := HBS.out.lt
  have hh4 := isHash_lt hh
  have HKP := Lib.hid (KpR.refl (fun k => k < B ∨ k = bh ∨ k = bs) W)
  clear hJ hJN hh hY h0 hk hr hbh hbs hsb hab hbel
  refine callsIn_of_wp Tryd.func65 rfl trivial ?_ rfl
  simp only [Tryd.ntmps65, List.size_toArray, List.length_cons, List.length_nil, Nat.reduceAdd, Nat.reduceSub, Array.replicate_succ, Array.replicate_zero, List.push_toArray, List.append_toArray, List.nil_append, List.cons_append]
  gi_wp2_with fail
  gi_loopw [4] (fun nv wr => ∃ k : Nat, nv = .int .u32 (k : Int) ∧ Hid (∃ pre, pre.length = k ∧ J pre wr ∧ KpR (fun k => k < B ∨ k = bh ∨ k = bs) W wr)) (fun nv _ => N - (intOf nv).toNat)
  case atStart => exact ⟨0, rfl, [], rfl, HJ0.out, HKP.out⟩
  case round =>
    obtain ⟨k, rfl, hI⟩ := hrel
    obtain ⟨pre, hpl, hj, hkp⟩ := hI.out
    have hkN : k < N := by rw [← hpl]; exact HJN.out _ _ hj
    have HJ1 := Lib.hid hj
    have HP1 := Lib.hid hkp
    have HPL := Lib.hid hpl
    have BH := (show Boxed wr bh 26 (.int .i64 (h : Int)) from (hkp.2 bh (.inr (.inl rfl))).trans HBH.out)
    have BS := (show Boxed wr bs 22 (.slice a ls cs) from (hkp.2 bs (.inr (.inr rfl))).trans HBS.out)
    have HKR := Lib.hid (HKW.out.same (hkp.2 _ (.inl hGB)))
    have HRR := Lib.hid (HRW.out.same (B := B) (fun z hz => hkp.2 z (.inl hz)) hkp.1 HAB.out)
    have cH := BH.cell
    have cS := BS.cell
    have s24 : (k : Int) / 16777216 = 0 := by omega
    have s16 : (k : Int) / 65536 = 0 := by omega
    obtain ⟨q, hq⟩ : ∃ q, q = k / 256 := ⟨_, rfl⟩
    obtain ⟨r, hr⟩ : ∃ r, r = k % 256 := ⟨_, rfl⟩
    have s8 : (k : Int) / 256 = (q : Int) := by omega
    have hq256 : q < 256 := by omega
    have w8 : IntKind.u8.wrap (q : Int) = (q : Int) := by rw [IntKind.wrap_u8]; omega
    have w0 : IntKind.u8.wrap (k : Int) = (r : Int) := by rw [IntKind.wrap_u8]; omega
    have HBE := Lib.hid (show be4 k = [0, 0, q, r] by rw [hq, hr]; rfl)
    clear hI hpl hj hkp BH BS hq hr
    have hN2 : k < 65536 := by omega
    have HRW2 := Lib.hid (show ∀ z, z < 2 → Reads .u8 (wr.alloc (.cells #[.int .u8 0, .int .u8 0, .int .u8 (q : Int), .int .u8 (r : Int)] 5)) (sdR a ls cs seed wr.heap.size k z).1 (sdR a ls cs seed wr.heap.size k z).2.1 (sdR a ls cs seed wr.heap.size k z).2.2.1 (sdR a ls cs seed wr.heap.size k z).2.2.2 ∧ Byt (sdR a ls cs seed wr.heap.size k z).2.2.2 ∧ (sdR a ls cs seed wr.heap.size k z).2.1 ≤ 1048576 from fun z hz => by
      rcases (show z = 0 ∨ z = 1 by omega) with rfl | rfl
      · exact ⟨HRR.out.below ((Below.refl _ _).alloc (Nat.le_refl _) _), HSB.out, by show ls ≤ 1048576; omega⟩
      · refine ⟨Reads.litM .u8 wr 5 (be4 k) _ 4 (by rw [HBE.out]; simp [num]) rfl (by rw [HBE.out]; unfold maxLen; simp), be4_byt hN2, (by decide : 4 ≤ 1048576)⟩)
    gi_wp2_with fail
    refine ⟨trivial, ?_⟩
    have hrows := rows_alloc (E := 22) (wr.alloc (.cells #[.int .u8 0, .int .u8 0, .int .u8 (q : Int), .int .u8 (r : Int)] 5)) (wr.alloc (.cells #[.int .u8 0, .int .u8 0, .int .u8 (q : Int), .int .u8 (r : Int)] 5)) #[.slice a ls cs, .slice (some ⟨wr.heap.size, 0, none⟩) 4 4] 2 (sdR a ls cs seed wr.heap.size k) (Below.refl _ _) HRW2.out (fun z hz => by rcases (show z = 0 ∨ z = 1 by omega) with rfl | rfl <;> rfl)
    rw [World.size_alloc] at hrows
    refine (callsIn_wide.2 (sum_yes h HH.out (some ⟨wr.heap.size + 1, 0, none⟩) 2 2 (sdR a ls cs seed wr.heap.size k) _ (HKR.out.below (((Below.refl _ _).alloc (Nat.le_refl _) _).alloc (by simp) _)) hrows (by decide))).mono ?_
    rintro e w1 ⟨⟨ad, c, rfl, h1, h2⟩, h3⟩
    have hb1 : Below wr.heap.size wr w1 := (((Below.refl wr.heap.size wr).alloc (Nat.le_refl _) _).alloc (by simp) _).trans (h3.mono (by simp; omega))
    have J1 := HJ.out _ _ _ HJ1.out (grown_below hb1 none)
    have hgd : GdP h seed pre (ad, c) w1 := by
      show Reads .u8 w1 (some ad) (mSize h) c (mHash h (seed ++ be4 pre.length))
      rw [HPL.out]
      exact h1
    have HP2 := Lib.hid (HP1.out.trans (KpR.grown (R := fun k => k < B ∨ k = bh ∨ k = bs) (grown_below hb1 none) (fun z hz => by have := HP1.out.1; rcases hz with hz | rfl | rfl <;> omega) (fun r e => by cases e)))
    obtain ⟨fn, tmps, assign, body, hy, hR⟩ := HY.out pre (ad, c) w1 J1 hgd
    have HR := Lib.hid hR
    clear hrows h1 h2 h3 hb1 J1 hgd hR cH cS
    gi_wp2_with fail
    refine HR.out.mono ?_
    rintro e W3 (⟨rfl, hJ3, hk3⟩ | ⟨rfl, hx3⟩)
    · have J3 := Lib.hid hJ3
      have HP3 := Lib.hid (HP2.out.trans hk3)
      clear hJ3 hk3
      gi_wp2
      go_roundw
      case rel => exact ⟨k + 1, by go_num, pre ++ [(ad, c)], by rw [List.length_append, HPL.out]; rfl, J3.out, HP3.out⟩
      case measure => simp [intOf]; omega
    · have HX3 := Lib.hid hx3
      clear hx3
      gi_wp2
      refine bodyPost_ret (results_none rfl _ _ _) rfl ?_
      exact ⟨⟨_, rfl⟩, _, HX3.out⟩

end Go.Proofs.YtpefjkndfifceaaDoor

namespace Go.Proofs.YtpefjkndfifceaaDoor
open Go.RowKit Go.Shelf
set_option maxRecDepth 100000
attribute [local go_sem] Oper.semAt_some

/-- The first pieces; a mask. -/
def maskAll (h : Nat) (seed : List Nat) : Nat → List Nat
  | 0 => []
  | k + 1 => maskAll h seed k ++ pieceN h seed k
def maskN (h : Nat) (seed : List Nat) (size : Nat) : List Nat := (maskAll h seed size).take size
theorem mHash_len {h : Nat} (hh : IsHash h) (m : List Nat) : (mHash h m).length = mSize h := by
  rcases hh with rfl | rfl | rfl | rfl
  · exact hashN_len m (.inl rfl)
  · exact hashN_len m (.inr rfl)
  · exact L5.hashN_len m (.inl rfl)
  · exact L5.hashN_len m (.inr rfl)
theorem maskAll_len {h : Nat} (hh : IsHash h) (seed : List Nat) (k : Nat) : (maskAll h seed k).length = k * mSize h := by
  induction k with
  | zero => simp [maskAll]
  | succ k ih => rw [maskAll, List.length_append, ih, pieceN, mHash_len hh, Nat.succ_mul]
theorem maskAll_byt {h : Nat} (hh : IsHash h) (seed : List Nat) (k : Nat) : Byt (maskAll h seed k) := by
  induction k with
  | zero => intro x hx; cases hx
  | succ k ih => exact fun x hx => (List.mem_append.1 hx).elim (ih x) (mHash_byt hh _ x)
theorem maskAll_pre (h : Nat) (seed : List Nat) {k m : Nat} (hkm : k ≤ m) : ∃ t, maskAll h seed m = maskAll h seed k ++ t := by
  induction m with
  | zero => exact ⟨[], by rw [show k = 0 by omega, List.append_nil]⟩
  | succ m ih =>
    rcases Nat.lt_or_ge m k with hlt | hge
    · exact ⟨[], by rw [show k = m + 1 by omega, List.append_nil]⟩
    · obtain ⟨t, ht⟩ := ih hge
      exact ⟨t ++ pieceN h seed m, by rw [maskAll, ht, List.append_assoc]⟩
theorem maskAll_take {h : Nat} (hh : IsHash h) (seed : List Nat) {k m s : Nat} (hk : s ≤ k * mSize h) (hm : s ≤ m * mSize h) : (maskAll h seed k).take s = (maskAll h seed m).take s := by
  rcases Nat.le_total k m with h1 | h1
  · obtain ⟨t, ht⟩ := maskAll_pre h seed h1
    rw [ht, List.take_append_of_le_length (by rw [maskAll_len hh]; exact hk)]
  · obtain ⟨t, ht⟩ := maskAll_pre h seed h1
    rw [ht, List.take_append_of_le_length (by rw [maskAll_len hh]; exact hm)]
/-- The last piece fills the mask up. -/
theorem mask_fill {h : Nat} (hh : IsHash h) (seed : List Nat) {k s : Nat} (hk : k * mSize h ≤ s) (hs : s ≤ k * mSize h + mSize h) : maskAll h seed k ++ (pieceN h seed k).take (s - k * mSize h) = maskN h seed s := by
  have h28 := (mSize_le hh).1
  have e : maskN h seed s = (maskAll h seed (k + 1)).take s := by
    refine maskAll_take hh seed ?_ (by rw [Nat.succ_mul]; omega)
    exact Nat.le_mul_of_pos_right s (by omega)
  rw [e, maskAll, List.take_append, maskAll_len hh]
  congr 1
  exact (List.take_of_length_le (by rw [maskAll_len hh]; exact hk)).symm

theorem OwnQ.keptW {q : IntKind} {E : TypeId} {B : Nat} {W W' : World} {v : Value} {l : List Nat} {row : Option Nat} (h : OwnQ q E B W v l) (hg : W.grownBy W' row) (hr : ∀ r, row = some r → ∃ o : Obj, W.heap[r]? = some o ∧ o.isCells = false) : OwnQ q E B W' v l := by
  obtain ⟨h1, h2⟩ := h
  refine ⟨h1, ?_⟩
  rcases h2 with h2 | ⟨g', cap', cur, e, hB, hh, r⟩
  · exact .inl h2
  · exact .inr ⟨g', cap', cur, e, hB, (hg.block g' (Array.getElem?_eq_some_iff.1 hh).1 (fun hc => by
      obtain ⟨o, ho, hoc⟩ := hr g' hc.symm
      rw [hh] at ho
      cases ho
      cases hoc)).trans hh, r⟩
theorem Reads.keptW {q : IntKind} {W W' : World} {a : Option Addr} {n c : Nat} {l : List Nat} {row : Option Nat} (h : Reads q W a n c l) (hg : W.grownBy W' row) (hr : ∀ r, row = some r → ∃ o : Obj, W.heap[r]? = some o ∧ o.isCells = false) : Reads q W' a n c l :=
  ⟨h.length, h.le, h.max, h.nil, fun hp => by
    obtain ⟨b, off, rfl, hlt, hc⟩ := h.cells hp
    refine ⟨b, off, rfl, Nat.lt_of_lt_of_le hlt hg.size, fun i hi => (World.cell?_of_block (a := ⟨b, off + i, .none⟩) (hg.block b hlt (fun e => ?_))).trans (hc i hi)⟩
    obtain ⟨o, ho, hoc⟩ := hr b e.symm
    have h0 := hc 0 hp
    cases o with
    | cells _ _ _ => cases hoc
    | _ => simp [World.cell?, show W.heap[b]? = _ from ho] at h0⟩
theorem appendedM {q : IntKind} {E n₀ : Nat} {W w1 : World} {v : Value} {l : List Nat} (hrow : OwnQ q E n₀ W v l) (hn₀ : n₀ ≤ W.heap.size) (hgrow : W.grownBy w1 v.ownBlock) :
    KeepsOthers W w1 ∧ (∀ w0, Below n₀ w0 W → Below n₀ w0 w1) ∧ (∀ b t u, Boxed W b t u → v.ownBlock ≠ some b → Boxed w1 b t u) := by
  refine ⟨?_, ?_, fun b t u hb hne => hb.kept hgrow (fun e => hne e.symm)⟩
  · refine KeepsOthers.of_grownBy hgrow fun j o ej hj => ?_
    rcases hrow.2 with ⟨rfl, _⟩ | ⟨g, cap, cur, rfl, _, hgb, _⟩
    · simp [Value.ownBlock] at ej
    · obtain rfl : g = j := by simpa [Value.ownBlock] using ej
      rw [hgb] at hj; cases hj; rfl
  · intro w0 h0
    refine h0.grown hgrow hn₀ fun j ej => ?_
    rcases hrow.2 with ⟨rfl, _⟩ | ⟨g, cap, cur, rfl, hb, _, _⟩
    · simp [Value.ownBlock] at ej
    · obtain rfl : g = j := by simpa [Value.ownBlock] using ej
      exact hb
theorem ownBase {q : IntKind} {E B : Nat} {W : World} {v : Value} {l : List Nat} (h : OwnQ q E B W v l) {b : Nat} (hb : v.ownBlock = some b) : B ≤ b ∧ b < W.heap.size := by
  rcases h.2 with ⟨rfl, _⟩ | ⟨g, cap, cur, rfl, hB, hgb, _⟩
  · simp [Value.ownBlock] at hb
  · obtain rfl : g = b := by simpa [Value.ownBlock] using hb
    exact ⟨hB, (Array.getElem?_eq_some_iff.1 hgb).1⟩
theorem own_sets {q : IntKind} {E B b i : Nat} {W : World} {v u : Value} {l : List Nat} (h : OwnQ q E B W v l) (hne : v.ownBlock ≠ some b) : OwnQ q E B (W.setCell ⟨b, i, none⟩ u) v l := by
  obtain ⟨h1, h2⟩ := h
  refine ⟨h1, ?_⟩
  rcases h2 with h2 | ⟨g', cap', cur, rfl, hB, hh, r⟩
  · exact .inl h2
  · exact .inr ⟨g', cap', cur, rfl, hB, (Below.heap_setCell W ⟨b, i, none⟩ u g' (fun e => hne (by rw [show g' = b from e]; rfl))).trans hh, r⟩

theorem own_ne_box {q : IntKind} {E B b t : Nat} {W : World} {v u : Value} {l : List Nat} (h : OwnQ q E B W v l) (hb : Boxed W b t u) (hne : t ≠ E) : v.ownBlock ≠ some b := by
  rcases h.2 with ⟨rfl, _⟩ | ⟨g, cap, cur, rfl, _, hgb, _⟩
  · simp [Value.ownBlock]
  · intro e
    obtain rfl : g = b := by simpa [Value.ownBlock] using e
    rw [show W.heap[g]? = _ from hb] at hgb
    simp only [Option.some.injEq, Obj.cells.injEq] at hgb
    exact hne hgb.2.1
theorem step_append_M {P : Program} (q : IntKind) (w : World) {o : Oper} {a : Act} {K : Act → World → Prop} {Q : Exit → Act → World → Prop} (s x : Operand) (t : TypeId)
    (ho : o.op = .call { callee := .builtin .append, args := #[s, x], argTypes := #[t, t] })
    (B E by' : Nat) (i : TypeInfo) (ht : P.underlying t = some (.slice E)) (hi : P.info? E = some i) (hz : i.zero = some (.int q 0)) (hsize : i.size = 1) (hby : i.bytes = by') (hby8 : by' ≤ 8)
    (v : Value) (l : List Nat) (hs : a.eval s = v) (hown : OwnQ q E B w v l) (ad : Addr) (m c : Nat) (l2 : List Nat) (hx : a.eval x = .slice (some ad) m c) (hb : Reads q w (some ad) m c l2)
    (hsum : l.length + m ≤ 17592186044416) (hbase : B ≤ w.heap.size)
    (h : ∀ v' w', OwnQ q E B w' v' (l ++ l2) → w.grownBy w' v.ownBlock → K (a.put o.dst v') w') : o.wp P a w K Q := by
  have hlen := hb.length
  have hbb : (l.length + m) * by' ≤ 140737488355328 := Nat.le_trans (Nat.mul_le_mul hsum hby8) (by decide)
  refine wp_append_own w s x t ho B E i (.int q 0) 1 by' ht hi hz hsize hby rfl (by decide) v l.length (l.map (num q)) hs hown ad m c (l2.map (num q)) hx (by simpa using hlen) hb.news (nums_oneCell _ _) (by unfold maxLen; omega) hbb hbase ?_
  intro v' w' ho' hg _
  refine h v' w' ?_ hg
  unfold OwnQ
  rw [List.map_append, List.length_append, hlen]
  exact ho'

/-- Between two pieces; where Mask stops. -/
def MkI (h : Nat) (seed : List Nat) (size bz bM bH : Nat) (w : World) (pre : List (Addr × Nat)) (W : World) : Prop := ∃ v, Boxed W bM 22 v ∧ OwnQ .u8 5 bz W v (maskAll h seed pre.length) ∧ Boxed W bz 3 (.int .i64 (size : Int)) ∧ pre.length * mSize h ≤ size ∧ Below bz w W ∧ (v.ownBlock ≠ some bM ∧ v.ownBlock ≠ some bH ∧ v.ownBlock ≠ some (bH + 1) ∧ v.ownBlock ≠ some bz) ∧ bH + 2 ≤ W.heap.size
def MkX (h : Nat) (seed : List Nat) (size bz bM : Nat) (w : World) (W : World) : Prop := ∃ v, Boxed W bM 22 v ∧ OwnQ .u8 5 bz W v (maskN h seed size) ∧ Below bz w W

set_option maxHeartbeats 4000000 in
theorem mask_yes (h : Nat) (hh : IsHash h) (a : Option Addr) (ls cs : Nat) (seed : List Nat) (size : Nat) (w : World) (hk : Kinds w) (hr : Reads .u8 w a ls cs seed) (hsb : Byt seed) (hls : ls ≤ 1048000) (hs : size ≤ 50000) :
    Calls Tryd.prog 54 #[.int .i64 (h : Int), .slice a ls cs, .int .i64 (size : Int)] w fun e w' => (∃ v, e = .returned (.tuple #[v, .int .i64 0]) ∧ OwnQ .u8 5 w.heap.size w' v (maskN h seed size)) ∧ Below w.heap.size w w' := by
  obtain ⟨i0, hi, hz0, hz1, hz2⟩ := info_parts infoMk
  have HR := Lib.hid hr
  have HSB := Lib.hid hsb
  have HK := Lib.hid hk
  have HH := Lib.hid hh
  have hh4 := isHash_lt hh
  have h0w := hk.lt
  have hab := Lib.hid (show 0 < ls → ∀ x, a = some x → x.block < w.heap.size from fun hp x e => by
    obtain ⟨b, off, e2, hlt, -⟩ := hr.cells hp
    rw [e2] at e
    cases e
    exact hlt)
  have d1 : decide ((size : Int) < 0) = false := by simp
  have d2 : decide ((65536 : Int) < (size : Int)) = false := by simp; omega
  have BZ0 := Lib.hid (Boxed.new w 3 (.int .i64 (size : Int)))
  have HB0 := Lib.hid ((Below.refl w.heap.size w).alloc (Nat.le_refl _) (.cells #[.int .i64 (size : Int)] 3))
  have cZ0 := BZ0.out.cell
  clear hr hsb hk hh
  refine (callsIn_wide (n := 3)).1 ?_
  refine callsIn_of_wp_marks Tryd.func54 rfl trivial ?_ rfl
  simp only [Tryd.ntmps54, List.size_toArray, List.length_cons, List.length_nil, Nat.reduceAdd, Nat.reduceSub, Array.replicate_succ, Array.replicate_zero, List.push_toArray, List.append_toArray, List.nil_append, List.cons_append]
  refine wpIn_wide.2 ?_
  go_wp2_with fail
  refine wp_scope_straight ?_
  go_wp2_with fail
  generalize w.alloc (.cells #[.int .i64 (size : Int)] 3) = w0 at *
  obtain ⟨bz, hbz⟩ : ∃ b, b = w.heap.size := ⟨_, rfl⟩
  rw [← hbz] at BZ0 HB0 h0w hab ⊢
  have HBS := Lib.hid hbz.symm
  clear hbz
  refine (known_yesM h HH.out w0 (HK.out.below (by rw [HBS.out]; exact HB0.out))).mono ?_
  rintro e w1 ⟨rfl, h1⟩
  have BZ1 := Lib.hid (show Boxed w1 bz 3 (.int .i64 (size : Int)) from (h1.block bz BZ0.out.lt).trans BZ0.out)
  have HB1 := Lib.hid (HB0.out.trans (h1.mono (by have := HB0.out.size; rw [HBS.out] at this; exact this)))
  have BZ2 := Lib.hid (BZ1.out.alloc (.cells #[.string (strOf (mName h)), .int .i64 (mSize h : Int), .int .u8 (mMark h : Int)] 56))
  have cZ2 := BZ2.out.cell
  have hz1w : bz ≤ w1.heap.size := by have := HB1.out.size; rw [HBS.out] at this; exact this
  unfold kindV
  clear h1 cZ0
  go_wp2_with (at_make; refine wpList_make_lcM .u8 _ rfl _ _ 22 rfl bz 5 i0 Tryd.underlying22 hi hz0 hz1 _ _ _ _ 0 size rfl rfl rfl rfl (Nat.zero_le _) (by rw [hz2]; omega) (by unfold maxLen; omega) (by simp; omega) ?_; intro w2 hown hgrow; rw [World.size_alloc] at hown; have HO2 := Lib.hid hown; have hgl := (World.ownsRow.lt hown (w1.heap.size + 1) rfl).2; have HB2 := Lib.hid ((HB1.out.alloc hz1w _).grown hgrow (by simp; omega) (fun r e => by cases e)); have BZ3 := Lib.hid (Boxed.kept BZ2.out hgrow (fun e => by cases e)); clear hown hgrow)
  have hbz1 : bz < w1.heap.size := BZ1.out.lt
  have BM3 := Lib.hid (Boxed.new w2 22 (.slice (some ⟨w1.heap.size + 1, 0, none⟩) 0 size))
  have HO3 := Lib.hid (HO2.out.alloc (.cells #[.slice (some ⟨w1.heap.size + 1, 0, none⟩) 0 size] 22))
  have BZ4 := Lib.hid (BZ3.out.alloc (.cells #[.slice (some ⟨w1.heap.size + 1, 0, none⟩) 0 size] 22))
  have HB3 := Lib.hid (HB2.out.alloc (by omega) (.cells #[.slice (some ⟨w1.heap.size + 1, 0, none⟩) 0 size] 22))
  have hz3 : (w2.alloc (.cells #[.slice (some ⟨w1.heap.size + 1, 0, none⟩) 0 size] 22)).heap.size = w2.heap.size + 1 := by simp
  clear cZ2
  generalize w2.alloc (.cells #[.slice (some ⟨w1.heap.size + 1, 0, none⟩) 0 size] 22) = w3 at *
  obtain ⟨gm, hgm⟩ : ∃ g, g = w1.heap.size + 1 := ⟨_, rfl⟩
  obtain ⟨bM, hbM⟩ : ∃ b, b = w2.heap.size := ⟨_, rfl⟩
  rw [← hgm] at BM3 HO3 hgl ⊢
  rw [← hbM] at BM3 hz3 hgl ⊢
  have HZ3 := Lib.hid hz3
  have HGM := Lib.hid hgm
  have HBMq := Lib.hid hbM
  have hz3b : bz ≤ w3.heap.size := by omega
  clear hz3 hgm hbM
  refine (wpIn_wide (n := 3)).1 ?_
  refine wpIn_label ?_
  go_wp2_with fail
  refine (pieces_m w3 h a ls cs).mono ?_
  rintro e w4 ⟨rfl, rfl⟩
  go_wp2_with fail
  refine (wpIn_wide (n := 3)).1 ?_
  have BM5 := (BM3.out.alloc (.cells #[.int .i64 (h : Int)] 26)).alloc (.cells #[.slice a ls cs] 22)
  have BZ5 := (BZ4.out.alloc (.cells #[.int .i64 (h : Int)] 26)).alloc (.cells #[.slice a ls cs] 22)
  have HO5 := (HO3.out.alloc (.cells #[.int .i64 (h : Int)] 26)).alloc (.cells #[.slice a ls cs] 22)
  have HB5 := (HB3.out.alloc hz3b (.cells #[.int .i64 (h : Int)] 26)).alloc (by simp; omega) (.cells #[.slice a ls cs] 22)
  have bH5 := (Boxed.new w3 26 (.int .i64 (h : Int))).alloc (.cells #[.slice a ls cs] 22)
  have bS5 := Boxed.new (w3.alloc (.cells #[.int .i64 (h : Int)] 26)) 22 (.slice a ls cs)
  rw [World.size_alloc] at bS5
  have hz5 : ((w3.alloc (.cells #[.int .i64 (h : Int)] 26)).alloc (.cells #[.slice a ls cs] 22)).heap.size = w3.heap.size + 2 := by simp
  generalize (w3.alloc (.cells #[.int .i64 (h : Int)] 26)).alloc (.cells #[.slice a ls cs] 22) = w5 at *
  obtain ⟨bH, hbH⟩ : ∃ b, b = w3.heap.size := ⟨_, rfl⟩
  have hz3 := HZ3.out
  rw [← hbH] at bH5 bS5 hz5 ⊢
  have hgm := HGM.out
  have hbM := HBMq.out
  have hord : Hid (bz < gm ∧ gm < bM ∧ bM < bH ∧ w5.heap.size = bH + 2) := ⟨by omega, by omega, by omega, by omega⟩
  have hz5b : bz ≤ w5.heap.size := by omega
  have hz5c : bH + 2 ≤ w5.heap.size := by omega
  clear hgm hbM hbH hz3 hz5
  have K5 := Lib.hid (HK.out.below (by rw [HBS.out]; exact HB5))
  have R5 := Lib.hid (HR.out.below (by rw [HBS.out]; exact HB5))
  refine wpIn_rangeM (F := Fence.wide) (R := fun k => k < bz ∨ k = bH ∨ k = bH + 1) rfl (show 1 ≤ 3 by decide) (gf := 65) (lb := #[.pointer (some ⟨bH, 0, none⟩), .pointer (some ⟨bH + 1, 0, none⟩)]) rfl trivial (enters_of Tryd.func65 (by kernel_rfl) rfl)
    (pieces_come_m (3 - 1) (by decide) h HH.out a ls cs seed (size + 1) bz bH (bH + 1) (by omega) w5 K5.out h0w R5.out HSB.out hls hab.out bH5 bS5 hz5b) (fun k hk => by have := hord.out; rcases hk with hk | rfl | rfl <;> omega) (Below.refl _ _) (fun _ => rfl)
    (fun pre W => MkI h seed size bz bM bH w pre W)
    (fun cc pre W => cc = .exit 0 ∧ MkX h seed size bz bM w W)
    ?_ ?_ ?_ ?_ ⟨_, BM5, HO5, BZ5, by simp, HB5, ⟨by simp [Value.ownBlock]; have := hord.out; omega, by simp [Value.ownBlock]; have := hord.out; omega, by simp [Value.ownBlock]; have := hord.out; omega, by simp [Value.ownBlock]; have := hord.out; omega⟩, hz5c⟩ ?_ ?_ ?_ ?_
  rotate_left 5
  · intro lp x W K hK
    gi_wp2
    exact hK
  · rintro lp pre x W ⟨v, hbM', hown, hbZ, hle, hB, ⟨n1, n2, n3, n4⟩, hsz⟩ hG
    obtain ⟨va, vn, vc, rfl, hvn, hown⟩ := own_slM hown
    rw [maskAll_len HH.out] at hvn
    have HVN := Lib.hid (show vn = (maskAll h seed pre.length).length by rw [maskAll_len HH.out]; exact hvn)
    have HVK := Lib.hid hvn
    have cM := hbM'.cell
    have fM := hbM'.frozen
    have cZ := hbZ.cell
    have HBM := Lib.hid hbM'
    have HBZ := Lib.hid hbZ
    have HOW := Lib.hid hown
    have HBW := Lib.hid hB
    have HNE := Lib.hid (show (Value.slice va vn vc).ownBlock ≠ some bM ∧ (Value.slice va vn vc).ownBlock ≠ some bH ∧ (Value.slice va vn vc).ownBlock ≠ some (bH + 1) ∧ (Value.slice va vn vc).ownBlock ≠ some bz from ⟨n1, n2, n3, n4⟩)
    have HG := Lib.hid hG
    have hbW : bz ≤ W.heap.size := by have := hord.out; omega
    have hszb := mSize_le HH.out
    obtain ⟨sz, hsze⟩ : ∃ s, s = mSize h := ⟨_, rfl⟩
    rw [← hsze] at hszb hle hvn ⊢
    have HSZ := Lib.hid hsze
    have HLE := Lib.hid hle
    have hvs : vn ≤ size := by omega
    obtain ⟨L, hL⟩ : ∃ L, L = size - vn := ⟨_, rfl⟩
    have hLi : (size : Int) - (vn : Int) = (L : Int) := by omega
    have HL := Lib.hid hL
    have hLs : L ≤ size := by omega
    clear hbM' hown hbZ hle hB n1 n2 n3 n4 hG hvn hL hsze
    have HPC := Lib.hid (mHash_len HH.out (seed ++ be4 pre.length))
    by_cases hc : sz < L
    · have t1 : decide ((sz : Int) < (L : Int)) = true := by simp; omega
      have HC := Lib.hid hc
      clear hc
      gi_wp2_with (gi_at_builtin; go_loud (refine wpListIn_append_own_at _ rfl _ _ 22 rfl bz 5 i0 (.int .u8 0) 1 1 Tryd.underlying22 hi hz0 hz1 hz2 rfl (by decide) (.slice va vn vc) vn ((maskAll h seed pre.length).map (num .u8)) rfl (by have h1 := HOW.out; unfold OwnQ at h1; rwa [← HVN.out] at h1) x.1 sz x.2 ((pieceN h seed pre.length).map (num .u8)) rfl (by rw [List.length_map, show (pieceN h seed pre.length).length = mSize h from HPC.out, ← HSZ.out, Nat.mul_one]) (by have h1 := HG.out; unfold GdP at h1; rw [← HSZ.out] at h1; exact h1.news) (nums_oneCell _ _) (by unfold maxLen; omega) (by omega) hbW ?_); intro v' w' ho' hgrow _ hblk; obtain ⟨a', n', c', rfl, -, ho2⟩ := own_slM (q := .u8) (E := 5) (B := bz) (w := w') (v := v') (l := maskAll h seed pre.length ++ pieceN h seed pre.length) (by unfold OwnQ; rw [List.map_append, List.length_append, ← HVN.out, show (pieceN h seed pre.length).length = mSize h from HPC.out, ← HSZ.out]; exact ho'); have HO2 := Lib.hid ho2; have HA := Lib.hid (appendedM HOW.out hbW hgrow); have HBM' := Lib.hid (HA.out.2.2 bM _ _ HBM.out HNE.out.1); have cM' := (HA.out.2.2 _ _ _ HBM.out HNE.out.1).cell; have fM' := (HA.out.2.2 _ _ _ HBM.out HNE.out.1).frozen; have HGR := Lib.hid hgrow; have HBL := Lib.hid hblk; clear ho' hgrow hblk ho2)
      have hne' := own_ne_box HO2.out HBM'.out (by decide)
      have hKO : KeepsOthers W (w'.setCell ⟨bM, 0, none⟩ (.slice a' n' c')) := HA.out.1.trans (KeepsOthers.setCell _ _ _)
      have hbm := hord.out
      have hnew : ∀ b, b < W.heap.size → (Value.slice va vn vc).ownBlock ≠ some b → (Value.slice a' n' c').ownBlock ≠ some b := fun b hb h1 e => by
        rcases HBL.out with h2 | h2
        · rw [h2] at e; exact h1 e
        · rw [h2] at e; have := Option.some.inj e; omega
      refine ⟨hKO.from _, ⟨hKO.size, fun k hk => ?_⟩, ⟨_, HBM'.out.set _, ?_, ?_, ?_, ?_, ⟨hne', hnew bH (by omega) HNE.out.2.1, hnew (bH + 1) (by omega) HNE.out.2.2.1, hnew bz (by omega) HNE.out.2.2.2⟩, Nat.le_trans hsz hKO.size⟩⟩
      · have hkW : k < W.heap.size := by rcases hk with hk | rfl | rfl <;> omega
        have hkM : k ≠ bM := by rcases hk with hk | rfl | rfl <;> omega
        have hko : (Value.slice va vn vc).ownBlock ≠ some k := by
          rcases hk with hk | rfl | rfl
          · intro e
            have := (ownBase HOW.out e).1
            omega
          · exact HNE.out.2.1
          · exact HNE.out.2.2.1
        exact (Below.heap_setCell w' ⟨bM, 0, none⟩ _ k hkM).trans (HGR.out.block k hkW (fun e => hko e.symm))
      · rw [List.length_append]
        exact own_sets (i := 0) (u := .slice a' n' c') HO2.out hne'
      · exact (HA.out.2.2 bz _ _ HBZ.out HNE.out.2.2.2).other' (g := bM) (i := 0) (by omega) _
      · have e1 := HVK.out
        have e2 := HL.out
        have e3 := HC.out
        rw [← HSZ.out] at e1 ⊢
        rw [List.length_append, List.length_singleton, Nat.succ_mul]
        omega
      · exact (HA.out.2.1 w HBW.out).setCell (p := ⟨bM, 0, none⟩) (by show bz ≤ bM; omega) _
    · have t1 : decide ((sz : Int) < (L : Int)) = false := by simp; omega
      have HC := Lib.hid hc
      have hLz : L ≤ sz := by omega
      clear hc
      have hs1 : ∀ w, (sizeOf (Tryd.prog.elem 22)).run Tryd.prog w = .ok 1 w := fun _ => by kernel_rfl
      have hxc : sz ≤ x.2 := by have h1 := HG.out.le; rw [← HSZ.out] at h1; exact h1
      have sl : ∀ W, (Instr.sliceAt 22 (.slice (some x.1) sz x.2) none (some (.int .i64 (L : Int))) none).run Tryd.prog W = .ok (.slice (some x.1) L x.2) W := fun W => by
        rw [run_sliceAt_slice W _ _ _ _ _ (by kernel_rfl), run_slice_h W _ (some x.1) sz x.2 (by kernel_rfl) .i64 (L : Int) (by omega) (by omega), hs1]
        simp [sliced, Result.andThen, Addr.add]
      have HGL := Lib.hid (show Reads .u8 W (some x.1) L x.2 ((pieceN h seed pre.length).take L) by have h1 := HG.out; unfold GdP at h1; rw [← HSZ.out] at h1; exact h1.upto L hLz)
      clear hs1
      gi_wp2_with fail
      refine wpIn_region_held_drew (S := fun _ => True) (by kernel_rfl) (plain_of (by kernel_rfl)) ?_ trivial (fun hHeld => ?_)
      · rintro ⟨a, w, h⟩
        exact h
      refine' wpAnyH_take (i := 1) (oi := _) (v := _) rfl (by kernel_rfl) (by kernel_rfl) (by kernel_rfl) (fun _ _ _ h => h) (Or.inl ⟨?_, ?_⟩) (by assumption) ?_
      rotate_left
      all_goals (try simp only [List.getElem_toArray, List.getElem_cons_succ, List.getElem_cons_zero])
      · rfl
      · intro W hSw; (try dsimp only at hSw); go_simp; (try with_reducible rfl)
      try simp only [Act.put, List.setIfInBounds_toArray, List.set_cons_zero, List.set_cons_succ]
      refine' wpAnyH_take (i := 2) (oi := _) (v := _) rfl (by kernel_rfl) (by kernel_rfl) (by kernel_rfl) (fun _ _ _ h => h) (Or.inl ⟨?_, ?_⟩) (by assumption) ?_
      rotate_left
      all_goals (try simp only [List.getElem_toArray, List.getElem_cons_succ, List.getElem_cons_zero])
      · rfl
      · intro W hSw; (try dsimp only at hSw); go_simp; (try with_reducible rfl)
      try simp only [Act.put, List.setIfInBounds_toArray, List.set_cons_zero, List.set_cons_succ]
      refine' wpAnyH_take (i := 3) (oi := _) (v := .slice (some x.1) L x.2) rfl (by kernel_rfl) (by kernel_rfl) (by kernel_rfl) (fun _ _ _ h => h) (Or.inl ⟨?_, ?_⟩) (by assumption) ?_
      all_goals (try simp only [List.getElem_toArray, List.getElem_cons_succ, List.getElem_cons_zero])
      · rfl
      · intro W hSw; (try dsimp only at hSw); go_simp; (first | done | exact sl W)
      try simp only [Act.put, List.setIfInBounds_toArray, List.set_cons_zero, List.set_cons_succ]
      refine wpAnyH_ready (rs := [0]) (by kernel_rfl) (by simp) ?_
      refine AllReadyH.cons (o := _) rfl (fun K hK => ?_) AllReadyH.nil
      try simp only [List.getElem_toArray, List.getElem_cons_succ, List.getElem_cons_zero]
      go_simp
      refine hK.out _ _ trivial (fun hHeld => ?_)
      clear hK K
      try simp only [Act.put, List.setIfInBounds_toArray, List.set_cons_zero, List.set_cons_succ]
      refine wpAnyH_ready (rs := [4]) (by kernel_rfl) (by simp) ?_
      refine AllReadyH.cons (o := _) rfl (fun K hK => ?_) AllReadyH.nil
      try simp only [List.getElem_toArray, List.getElem_cons_succ, List.getElem_cons_zero]
      rw [if_pos (by rfl)]
      refine step_append_M .u8 _ (.tmp 36) (.tmp 39) 22 rfl bz 5 1 i0 Tryd.underlying22 hi hz0 hz1 hz2 (by decide) _ (maskAll h seed pre.length) rfl HOW.out.drew x.1 L x.2 ((pieceN h seed pre.length).take L) rfl (HGL.out.below (Below.refl _ _).drew) (by rw [← HVN.out]; omega) hbW ?_
      intro v' w' ho' hgrow
      obtain ⟨a', n', c', rfl, -, ho'⟩ := own_slM ho'
      have HA := Lib.hid (appendedM HOW.out.drew hbW hgrow)
      have HBM' := Lib.hid (HA.out.2.2 bM _ _ HBM.out HNE.out.1)
      have cM' := HBM'.out.cell
      have fM' := HBM'.out.frozen
      have HO' := Lib.hid ho'
      clear ho' hgrow
      refine hK.out _ _ trivial (fun hHeld => ?_)
      clear hK K
      try simp only [Act.put, List.setIfInBounds_toArray, List.set_cons_zero, List.set_cons_succ]
      refine wpAnyH_ready (rs := [5]) (by kernel_rfl) (by simp) ?_
      refine AllReadyH.cons (o := _) rfl (fun K hK => ?_) AllReadyH.nil
      try simp only [List.getElem_toArray, List.getElem_cons_succ, List.getElem_cons_zero]
      go_simp
      refine hK.out _ _ trivial (fun hHeld => ?_)
      clear hK K
      try simp only [Act.put, List.setIfInBounds_toArray, List.set_cons_zero, List.set_cons_succ]
      refine wpAnyH_done (by kernel_rfl) ?_ _
      simp only [Exit.then]
      gi_wp2_with fail
      have hne' := own_ne_box HO'.out HBM'.out (by decide)
      have hKO : KeepsOthers W (w'.setCell ⟨bM, 0, none⟩ (.slice a' n' c')) := (KeepsOthers.drew W).trans (HA.out.1.trans (KeepsOthers.setCell _ _ _))
      refine ⟨hKO.from _, rfl, _, HBM'.out.set _, ?_, ?_⟩
      · have h1 := own_sets (i := 0) (u := .slice a' n' c') HO'.out hne'
        have h2 := mask_fill HH.out seed (k := pre.length) (s := size) (by rw [← HSZ.out]; exact HLE.out) (by have e1 := HVK.out; have e2 := HL.out; rw [← HSZ.out] at e1 ⊢; omega)
        rw [← h2, ← HVK.out, ← HL.out]
        exact h1
      · exact (HA.out.2.1 w (HBW.out.drew)).setCell (p := ⟨bM, 0, none⟩) (by have := hord.out; show bz ≤ bM; omega) _
  · rintro D cc pre W hD ⟨rfl, v, hbM', hown, hB⟩ hK
    obtain ⟨va, vn, vc, rfl, -, hown⟩ := own_slM hown
    have cM := hbM'.cell
    have HO := Lib.hid hown
    have HBW := Lib.hid hB
    have HDb := Lib.hid (show bz ≤ D by omega)
    clear hown hB
    gi_wp2_with fail
    go_wp2
    rw [Exit.noGoto_ret]
    refine ⟨by simp, .inl ⟨_, _, rfl, run_takeDeferred hK, ?_⟩⟩
    have hgr := grownBy_putObj' W D (.deferred none)
    refine ⟨_, results_tmp2 rfl _ _ _, ⟨_, rfl, ?_⟩, ?_⟩
    · rw [HBS.out]
      exact HO.out.keptW hgr (fun r e => by cases e; exact ⟨_, hK, rfl⟩)
    · rw [HBS.out]
      exact HBW.out.grown hgr (Nat.le_trans HDb.out (Nat.le_of_lt (Array.getElem?_eq_some_iff.1 hK).1)) (fun r e => by cases e; exact HDb.out)
  · rintro pre W W' row ⟨v, h1, h2, h3, h4, h5, h6, h7⟩ hg hr
    have hne : ∀ b, b < w5.heap.size → some b ≠ row := fun b hb e => by have := (hr b e.symm).1; omega
    have hbm := hord.out
    exact ⟨v, h1.kept hg (hne bM (by omega)), h2.keptW hg (fun r e => (hr r e).2), h3.kept hg (hne bz (by omega)), h4, h5.grown hg (by omega) (fun r e => by have := (hr r e).1; omega), h6, Nat.le_trans h7 hg.size⟩
  · rintro cc pre W W' row ⟨h0, v, h1, h2, h3⟩ hg hr
    have hne : ∀ b, b < w5.heap.size → some b ≠ row := fun b hb e => by have := (hr b e.symm).1; omega
    have hbm := hord.out
    exact ⟨h0, v, h1.kept hg (hne bM (by omega)), h2.keptW hg (fun r e => (hr r e).2), h3.grown hg (by have := h1.lt; omega) (fun r e => by have := (hr r e).1; omega)⟩
  · rintro s W W' row h1 hg hr
    exact Reads.keptW h1 hg (fun r e => (hr r e).2)
  · rintro pre W ⟨v, h1, h2, h3, h4, h5, h6, h7⟩
    have := (mSize_le HH.out).1
    have h8 : pre.length * 1 ≤ pre.length * mSize h := Nat.mul_le_mul_left _ (by omega)
    omega

end Go.Proofs.YtpefjkndfifceaaDoor

namespace Go.Proofs.YtpefjkndfifceaaDoor
open Go.RowKit
set_option maxRecDepth 100000

def lenP (bits : Nat) : Nat := (bits + 7) / 8
/-- The bits that the first byte may have. -/
def lowP (bits : Nat) : Nat := 255 / 2 ^ (8 * lenP bits - bits)
/-- Is there room? -/
def RoomP (h : Int) (s bits : Int) : Prop := IsHash h.toNat ∧ 0 ≤ s ∧ 0 ≤ bits ∧ bits ≤ 524288 ∧ s + (mSize h.toNat : Int) + 2 ≤ (lenP bits.toNat : Int)
instance isHashDecP (h : Nat) : Decidable (IsHash h) := by unfold IsHash; infer_instance
instance (h s bits : Int) : Decidable (RoomP h s bits) := by unfold RoomP; infer_instance
theorem lenP_bits (n : Nat) : 8 * lenP n - n < 8 ∧ n ≤ 8 * lenP n := by unfold lenP; omega
theorem lowP_lt (n : Nat) : lowP n < 256 := Nat.lt_of_le_of_lt (Nat.div_le_self _ _) (by decide)

def xorN (a b : List Nat) : List Nat := List.zipWith (· ^^^ ·) a b
theorem xorN_len (a b : List Nat) (h : a.length = b.length) : (xorN a b).length = a.length := by simp [xorN, h]
theorem xor_byte {x y : Nat} (hx : x < 256) (hy : y < 256) : x ^^^ y < 256 := Nat.xor_lt_two_pow (n := 8) hx hy
theorem xorN_byt : ∀ {a b : List Nat}, (∀ x ∈ a, x < 256) → (∀ x ∈ b, x < 256) → ∀ x ∈ xorN a b, x < 256
  | [], _, _, _, x, hx => by simp [xorN] at hx
  | _ :: _, [], _, _, x, hx => by simp [xorN] at hx
  | u :: a, v :: b, ha, hb, x, hx => by
    rw [xorN, List.zipWith_cons_cons, List.mem_cons] at hx
    rcases hx with rfl | hx
    · exact xor_byte (ha u List.mem_cons_self) (hb v List.mem_cons_self)
    · exact xorN_byt (fun z hz => ha z (List.mem_cons_of_mem _ hz)) (fun z hz => hb z (List.mem_cons_of_mem _ hz)) x hx
theorem xorN_back : ∀ (a b : List Nat), a.length = b.length → xorN (xorN a b) b = a
  | [], [], _ => rfl
  | [], _ :: _, h => by simp at h
  | _ :: _, [], h => by simp at h
  | u :: a, v :: b, h => by
    have ih := xorN_back a b (by simpa using h)
    unfold xorN at ih ⊢
    rw [List.zipWith_cons_cons, List.zipWith_cons_cons, ih, Nat.xor_assoc, Nat.xor_self, Nat.xor_zero]

/-- The first byte has no more bits than these. -/
def headA (m : Nat) : List Nat → List Nat
  | [] => []
  | x :: r => (x &&& m) :: r
theorem headA_len (m : Nat) (l : List Nat) : (headA m l).length = l.length := by cases l <;> rfl
theorem headA_byt {m : Nat} {l : List Nat} (h : ∀ x ∈ l, x < 256) : ∀ x ∈ headA m l, x < 256 := by
  cases l with
  | nil => exact h
  | cons y r =>
    intro x hx
    rw [headA, List.mem_cons] at hx
    rcases hx with rfl | hx
    · exact Nat.lt_of_le_of_lt Nat.and_le_left (h y List.mem_cons_self)
    · exact h x (List.mem_cons_of_mem _ hx)
theorem headA_set (m : Nat) (l : List Nat) (h : 0 < l.length) : headA m l = l.set 0 ((l[0]?.getD 0) &&& m) := by
  cases l with
  | nil => simp at h
  | cons x r => simp [headA]
/-- No bits above. -/
def FitsP (m : Nat) (l : List Nat) : Prop := (l[0]?.getD 0) &&& m = l[0]?.getD 0
theorem and_twice (x m : Nat) : x &&& m &&& m = x &&& m := by rw [Nat.and_assoc, Nat.and_self]
theorem headA_fits (m : Nat) (l : List Nat) : FitsP m (headA m l) := by
  cases l with
  | nil => simp [FitsP, headA]
  | cons x r => simp [FitsP, headA, and_twice]
theorem headA_of {m : Nat} {l : List Nat} (h : FitsP m l) : headA m l = l := by
  cases l with
  | nil => rfl
  | cons x r =>
    have : x &&& m = x := by simpa [FitsP] using h
    rw [headA, this]

/-- A block with the mask laid over. -/
def maskedP (h : Nat) (block inner : List Nat) (bits : Nat) : List Nat := headA (lowP bits) (xorN block (maskN h inner block.length))
theorem maskN_len {h : Nat} (hh : IsHash h) (seed : List Nat) (n : Nat) : (maskN h seed n).length = n := by
  unfold maskN
  rw [List.length_take, maskAll_len hh]
  have := (mSize_le hh).1
  refine Nat.min_eq_left ?_
  calc n = n * 1 := (Nat.mul_one n).symm
    _ ≤ n * mSize h := Nat.mul_le_mul_left n (by omega)
theorem maskN_byt {h : Nat} (hh : IsHash h) (seed : List Nat) (n : Nat) : ∀ x ∈ maskN h seed n, x < 256 := fun x hx => maskAll_byt hh seed n x (List.mem_of_mem_take hx)
theorem masked_len {h : Nat} (hh : IsHash h) (block inner : List Nat) (bits : Nat) : (maskedP h block inner bits).length = block.length := by
  unfold maskedP
  rw [headA_len, xorN_len _ _ (maskN_len hh _ _).symm]
theorem masked_byt {h : Nat} (hh : IsHash h) {block : List Nat} (inner : List Nat) (bits : Nat) (hb : ∀ x ∈ block, x < 256) : ∀ x ∈ maskedP h block inner bits, x < 256 := headA_byt (xorN_byt hb (maskN_byt hh inner _))
theorem masked_fits (h : Nat) (block inner : List Nat) (bits : Nat) : FitsP (lowP bits) (maskedP h block inner bits) := headA_fits _ _
theorem and_xor_and (x y m : Nat) : ((x ^^^ y) &&& m) ^^^ (y &&& m) = x &&& m := by
  rw [← Nat.and_xor_distrib_right, Nat.xor_assoc, Nat.xor_self, Nat.xor_zero]
/-- Laid over twice, a block is as it was. -/
theorem masked_back {h : Nat} (hh : IsHash h) (block inner : List Nat) (bits : Nat) (hf : FitsP (lowP bits) block) : maskedP h (maskedP h block inner bits) inner bits = block := by
  have hl := masked_len hh block inner bits
  have e : maskedP h (maskedP h block inner bits) inner bits = headA (lowP bits) (xorN (maskedP h block inner bits) (maskN h inner block.length)) := by
    show headA (lowP bits) (xorN (maskedP h block inner bits) (maskN h inner (maskedP h block inner bits).length)) = _
    rw [hl]
  rw [e]
  have hm := maskN_len hh inner block.length
  unfold maskedP
  generalize maskN h inner block.length = M at *
  generalize lowP bits = m at *
  cases block with
  | nil => simp [xorN, headA]
  | cons x r =>
    cases M with
    | nil => simp at hm
    | cons y s =>
      have hx : x &&& m = x := by simpa [FitsP] using hf
      have ih := xorN_back r s (by simpa using hm.symm)
      unfold xorN at ih ⊢
      rw [List.zipWith_cons_cons, headA, List.zipWith_cons_cons, headA, ih]
      congr 1
      rw [Nat.and_xor_distrib_right, and_twice, ← Nat.and_xor_distrib_right, Nat.xor_assoc, Nat.xor_self, Nat.xor_zero, hx]

def innerP (h : Nat) (d s : List Nat) : List Nat := mHash h (List.replicate 8 0 ++ d ++ s)
/-- What lies below the mask. -/
def blockP (n : Nat) (s : List Nat) : List Nat := List.replicate (n - s.length - 1) 0 ++ [1] ++ s
/-- A digest's encoding with a salt. -/
def emsP (h : Nat) (d s : List Nat) (bits : Nat) : List Nat := maskedP h (blockP (lenP bits - mSize h - 1) s) (innerP h d s) bits ++ innerP h d s ++ [188]
theorem innerP_len {h : Nat} (hh : IsHash h) (d s : List Nat) : (innerP h d s).length = mSize h := mHash_len hh _
theorem blockP_len {n : Nat} {s : List Nat} (h : s.length + 1 ≤ n) : (blockP n s).length = n := by
  unfold blockP
  simp
  omega
end Go.Proofs.YtpefjkndfifceaaDoor

namespace Go.Proofs.YtpefjkndfifceaaDoor.Oc
open Go.RowKit

/-- A row that may be written over: empty, or in a block from B on that is not block lb. -/
def LiveRow (B lb : Nat) (w : World) (x : Row2) : Prop :=
  x.2.1 = 0 ∨ ∃ g, x.1 = some ⟨g, 0, none⟩ ∧ B ≤ g ∧ g ≠ lb ∧ x.2.1 ≤ maxLen ∧ ∀ i, i < x.2.1 → ∃ n : Nat, n < 256 ∧ w.cell? ⟨g, i, none⟩ = some (.int .u8 (n : Int)) ∧ w.frozen? ⟨g, i, none⟩ = false

structure Spoils (B : Nat) (w : World) (lb n : Nat) (L : List Row2) : Prop where
  length : L.length = n
  max : n ≤ maxLen
  cells : ∀ i, i < n → w.cell? ⟨lb, i, none⟩ = some (.slice (L[i]?.getD (none, 0, 0, [])).1 (L[i]?.getD (none, 0, 0, [])).2.1 (L[i]?.getD (none, 0, 0, [])).2.2.1)
  live : ∀ i, i < n → LiveRow B lb w (L[i]?.getD (none, 0, 0, []))

theorem cell_after (w : World) (g i g' i' : Nat) (n m : Nat) (hn : n < 256) (hm : m < 256) (h : w.cell? ⟨g', i', none⟩ = some (.int .u8 (n : Int))) :
    ∃ k : Nat, k < 256 ∧ (w.setCell ⟨g, i, none⟩ (.int .u8 (m : Int))).cell? ⟨g', i', none⟩ = some (.int .u8 (k : Int)) := by
  by_cases e : (⟨g', i', none⟩ : Addr) = ⟨g, i, none⟩
  · rw [← e]
    exact ⟨m, hm, World.cell?_setCell_same _ _ _ h⟩
  · exact ⟨n, hn, (World.cell?_setCell_other _ _ _ _ (fun h' => e h'.symm)).trans h⟩

theorem LiveRow.set {B lb : Nat} {w : World} {x : Row2} (h : LiveRow B lb w x) (g i m : Nat) (hm : m < 256) : LiveRow B lb (w.setCell ⟨g, i, none⟩ (.int .u8 (m : Int))) x := by
  rcases h with h | ⟨g', h1, h2, h3, h4, h5⟩
  · exact .inl h
  · refine .inr ⟨g', h1, h2, h3, h4, fun j hj => ?_⟩
    obtain ⟨n, hn, hc, hf⟩ := h5 j hj
    obtain ⟨k, hk, hc'⟩ := cell_after w g i g' j n m hn hm hc
    exact ⟨k, hk, hc', (World.frozen?_setCell _ _ _ _).trans hf⟩

theorem Spoils.set {B : Nat} {w : World} {lb n : Nat} {L : List Row2} (h : Spoils B w lb n L) (g i m : Nat) (hm : m < 256) (hg : g ≠ lb) : Spoils B (w.setCell ⟨g, i, none⟩ (.int .u8 (m : Int))) lb n L :=
  ⟨h.length, h.max, fun j hj => (World.cell?_setCell_other _ _ _ _ (by intro e; cases e; exact hg rfl)).trans (h.cells j hj), fun j hj => (h.live j hj).set g i m hm⟩

theorem Spoils.drew {B : Nat} {w : World} {lb n : Nat} {L : List Row2} (h : Spoils B w lb n L) : Spoils B w.drew lb n L := ⟨h.length, h.max, h.cells, h.live⟩

theorem LiveRow.of_own {E B lb : Nat} {w w' : World} {a : Option Addr} {n cap : Nat} {l : List UInt8} (h : Own8 E B w (.slice a n cap) l) (hb : Below w.heap.size w w') (hlb : w.heap.size ≤ lb) : LiveRow B lb w' (a, n, cap, l) := by
  by_cases h0 : n = 0
  · exact .inl h0
  · obtain ⟨hn, hc, hm⟩ := h.cap
    obtain ⟨g, cap', he⟩ := h.succ (by intro e; subst e; simp at hn; exact h0 hn)
    cases he
    obtain ⟨_, _, _, _, hlt⟩ := h.form
    have hg := World.ownsRow.lt h g rfl
    have h' := h.below hb
    refine .inr ⟨g, rfl, hg.1, by omega, Nat.le_trans hc hm, fun i hi => ⟨_, UInt8.toNat_lt _, h'.cellAt hn i hi, h'.frozenAt hn i⟩⟩

theorem cells3 (w : World) (T : TypeId) (x0 x1 x2 : Row2) : ∀ i, i < 3 → (w.alloc (.cells #[.slice x0.1 x0.2.1 x0.2.2.1, .slice x1.1 x1.2.1 x1.2.2.1, .slice x2.1 x2.2.1 x2.2.2.1] T)).cell? ⟨w.heap.size, i, none⟩ = some (.slice ([x0, x1, x2][i]?.getD (none, 0, 0, [])).1 ([x0, x1, x2][i]?.getD (none, 0, 0, [])).2.1 ([x0, x1, x2][i]?.getD (none, 0, 0, [])).2.2.1) := by
  intro i hi
  rw [World.cell?_alloc_at _ _ _ _ rfl]
  match i, hi with
  | 0, _ => rfl
  | 1, _ => rfl
  | 2, _ => rfl

theorem conv8 {w : World} {a : Option Addr} {len cap : Nat} {l : List UInt8} (h : Bts w a len cap l) :
    (convert 22 9 (.slice a len cap)).run Tryd.prog w = .ok (.string (strOf l)) w :=
  h.convert (P := Tryd.prog) _ _ _ Tryd.underlying22 Tryd.underlying5 Tryd.underlying9

theorem RetsOwn2.form {B : Nat} {w : World} {r : List UInt8 × Int} {e : Ending} (h : RetsOwn2 B w r e) : ∃ a cap, e = .returned (.tuple #[.slice a r.1.length cap, .int .i64 r.2]) ∧ Own8 5 B w (.slice a r.1.length cap) r.1 := by
  obtain ⟨v, rfl, ho⟩ := h
  obtain ⟨a, cap, rfl, _, _⟩ := ho.form
  exact ⟨a, cap, rfl, ho⟩

theorem RetsOwn.form {B : Nat} {w : World} {l : List UInt8} {e : Ending} (h : RetsOwn B w l e) : ∃ a cap, e = .returned (.slice a l.length cap) ∧ Own8 5 B w (.slice a l.length cap) l := by
  obtain ⟨v, rfl, ho⟩ := h
  obtain ⟨a, cap, rfl, _, _⟩ := ho.form
  exact ⟨a, cap, rfl, ho⟩

end Go.Proofs.YtpefjkndfifceaaDoor.Oc

namespace Go.Proofs.YtpefjkndfifceaaDoor.Oc
open Go.RowKit

theorem run_loadBytes {P : Program} {w : World} (b off len cap : Nat) (l : List UInt8) (h : Bts w (some ⟨b, off, none⟩) len cap l) :
    ∀ (n k : Nat) (acc : ByteArray), k + n = len → (Extern.Bytes.loadBytes ⟨b, off + k, none⟩ n acc).run P w = .ok ⟨acc.data ++ (l.drop k).toArray⟩ w
  | 0, k, acc, hk => by
    rw [List.drop_eq_nil_of_le (by have := h.length; omega)]
    simp [Extern.Bytes.loadBytes, Sem.run_pure]
  | n + 1, k, acc, hk => by
    obtain ⟨b', off', he, hlt, hc⟩ := h.cells (by omega)
    cases he
    have hck := hc k (by omega)
    have hl : k < l.length := by have := h.length; omega
    have e : (⟨b, off + k, none⟩ : Addr).add 1 = ⟨b, off + (k + 1), none⟩ := by unfold Addr.add; split <;> simp_all <;> omega
    have ih := run_loadBytes (P := P) b off len cap l h n (k + 1) (acc.push l[k]) (by omega)
    have hb : ((l[k].toNat : Int)).toNat.toUInt8 = l[k] := by simp
    simp only [Extern.Bytes.loadBytes, Sem.run_bind]
    rw [List.getElem?_eq_getElem hl] at hck
    simp only [Option.getD_some] at hck
    have hrun : (load ⟨b, off + k, none⟩).run P w = .ok (.int .u8 (l[k].toNat : Int)) w := by simp [go_sem, hck]
    rw [hrun]
    simp only [Result.andThen, e, hb, ih]
    rw [List.drop_eq_getElem_cons hl]
    simp [ByteArray.push]

theorem run_bytesOf {P : Program} {w : World} {a : Option Addr} {len cap : Nat} {l : List UInt8} (h : Bts w a len cap l) : (Extern.Bytes.bytesOf (.slice a len cap)).run P w = .ok (strOf l) w := by
  by_cases hp : 0 < len
  · obtain ⟨b, off, rfl, _, _⟩ := h.cells hp
    have := run_loadBytes (P := P) b off len cap l h len 0 .empty (by omega)
    simpa [Extern.Bytes.bytesOf, strOf] using this
  · obtain rfl : len = 0 := by omega
    obtain rfl : l = [] := List.eq_nil_of_length_eq_zero h.length
    cases a with
    | none => rfl
    | some a => rfl

theorem run_compare {P : Program} {w : World} {a1 a2 : Option Addr} {n1 c1 n2 c2 : Nat} {l1 l2 : List UInt8} (h1 : Bts w a1 n1 c1 l1) (h2 : Bts w a2 n2 c2 l2) :
    (Extern.BytealgCompare.compare #[.slice a1 n1 c1, .slice a2 n2 c2]).run P w = .ok (.int .i64 (Lib.compareBytes l1 l2)) w := by
  change Sem.run P (do pure (goInt (Extern.BytealgCompare.cmp (← Extern.Bytes.bytesOf (.slice a1 n1 c1)) (← Extern.Bytes.bytesOf (.slice a2 n2 c2))))) w = _
  simp only [Sem.run_bind, run_bytesOf h1, run_bytesOf h2, Sem.run_pure, Result.andThen, Lib.cmp_eq]
  rfl

theorem compare_step : ∀ (k : Nat) (a b : List UInt8), k < a.length → k < b.length → a.take k = b.take k → Lib.compareBytes a b = if (a[k]?.getD 0).toNat < (b[k]?.getD 0).toNat then -1 else if (b[k]?.getD 0).toNat < (a[k]?.getD 0).toNat then 1 else Lib.compareBytes a b
  | 0, x :: a, y :: b, _, _, _ => by
    simp only [List.getElem?_cons_zero, Option.getD_some, Lib.compareBytes, UInt8.lt_iff_toNat_lt]
    split <;> simp_all
  | k + 1, x :: a, y :: b, ha, hb, he => by
    simp only [List.take_succ_cons, List.cons.injEq] at he
    obtain ⟨rfl, he⟩ := he
    have := compare_step k a b (by simpa using ha) (by simpa using hb) he
    simp only [List.getElem?_cons_succ, Lib.compareBytes, UInt8.lt_irrefl, if_false]
    exact this
  | _, [], _, ha, _, _ => by simp at ha
  | _, _ :: _, [], _, hb, _ => by simp at hb

theorem compare_end : ∀ (a b : List UInt8), a.take (min a.length b.length) = b.take (min a.length b.length) → Lib.compareBytes a b = if a.length < b.length then -1 else if b.length < a.length then 1 else 0
  | [], [], _ => rfl
  | [], _ :: _, _ => by simp [Lib.compareBytes]
  | _ :: _, [], _ => by simp [Lib.compareBytes]
  | x :: a, y :: b, h => by
    simp only [List.length_cons, Nat.succ_min_succ, List.take_succ_cons, List.cons.injEq] at h
    obtain ⟨rfl, h⟩ := h
    have := compare_end a b h
    simp only [Lib.compareBytes, UInt8.lt_irrefl, if_false, List.length_cons, Nat.succ_lt_succ_iff]
    exact this

/-- Bytes laid over others. -/
def xorL (a b : List UInt8) : List UInt8 := List.zipWith (· ^^^ ·) a b
def xorR (a b : List UInt8) : List UInt8 × Int := if a.length = b.length then (xorL a b, 0) else ([], 2)

theorem xorL_step (a b : List UInt8) (k : Nat) (ha : k < a.length) (hb : k < b.length) : xorL (a.take (k + 1)) (b.take (k + 1)) = xorL (a.take k) (b.take k) ++ [a[k]?.getD 0 ^^^ b[k]?.getD 0] := by
  rw [take_snoc8 a k ha, take_snoc8 b k hb]
  unfold xorL
  rw [List.zipWith_append (by simp; omega)]
  rfl

theorem xor8 (x y : UInt8) : bits BinOp.xor IntKind.u8 (x.toNat : Int) (y.toNat : Int) = ((x ^^^ y).toNat : Int) := by
  rw [u8_xor_nat _ _ (UInt8.toNat_lt x) (UInt8.toNat_lt y), UInt8.toNat_xor]

theorem xor_fill (a b : List UInt8) (n k : Nat) (hk : k < n) (ha : a.length = n) (hb : b.length = n) :
    (xorL (a.take k) (b.take k) ++ List.replicate (n - k) 0).set k (a[k]?.getD 0 ^^^ b[k]?.getD 0) = xorL (a.take (k + 1)) (b.take (k + 1)) ++ List.replicate (n - (k + 1)) 0 := by
  have hl : (xorL (a.take k) (b.take k)).length = k := by simp [xorL]; omega
  rw [xorL_step a b k (by omega) (by omega), List.set_append_right _ _ (by omega), hl, Nat.sub_self, show n - k = n - (k + 1) + 1 from by omega, List.replicate_succ]
  simp

set_option maxHeartbeats 800000 in
theorem xor_any (a1 a2 : Option Addr) (n1 c1 n2 c2 : Nat) (l1 l2 : List UInt8) (w : World) (h1 : Bts w a1 n1 c1 l1) (h2 : Bts w a2 n2 c2 l2) (hm : n1 ≤ 140737488355328) :
    Calls Tryd.prog 55 #[.slice a1 n1 c1, .slice a2 n2 c2] w fun e w' => RetsOwn2 w.heap.size w' (xorR l1 l2) e ∧ Below w.heap.size w w' := by
  obtain ⟨i0, hi, hz0, hz1, hz2⟩ := info_parts Tryd.info8
  have H1 := Lib.hid h1
  have H2 := Lib.hid h2
  have L1 := Lib.hid h1.length
  have L2 := Lib.hid h2.length
  have hm2 := h2.len_le
  unfold maxLen at hm2
  clear h1 h2
  by_cases hn : n1 = n2
  · subst hn
    have hR := Lib.hid (show xorR l1 l2 = (xorL l1 l2, 0) by rw [xorR, if_pos (by rw [L1.out, L2.out])])
    go_enter Tryd.func55, Tryd.ntmps55
    go_wp2_with (at_make; refine wpList_make_full _ rfl _ _ 22 rfl w.heap.size 5 i0 (.int .u8 0) 1 Tryd.underlying22 hi hz0 hz1 _ _ _ _ n1 rfl rfl rfl rfl (by rw [hz2]; omega) (by unfold maxLen; omega) (Nat.le_refl _) ?_; intro w1 hown hgrow)
    have hown1 : Own8 5 w.heap.size w1 (.slice (some ⟨w.heap.size, 0, none⟩) n1 n1) (List.replicate n1 0) := by
      unfold Own8
      rw [← zeros_byt]
      simpa using hown
    have hb1 : Below w.heap.size w w1 := (Below.refl _ _).grown hgrow (Nat.le_refl _) (fun _ h => by cases h)
    clear hown hgrow
    go_loopw [18] (fun i wr => ∃ k : Nat, k ≤ n1 ∧ i = .int .i64 k ∧ Own8 5 w.heap.size wr (.slice (some ⟨w.heap.size, 0, none⟩) n1 n1) (xorL (l1.take k) (l2.take k) ++ List.replicate (n1 - k) 0) ∧ Below w.heap.size w wr) (fun i _ => n1 - (intOf i).toNat)
    case atStart => exact ⟨0, Nat.zero_le _, rfl, by simpa [xorL] using hown1, hb1⟩
    case round =>
      obtain ⟨k, hk, rfl, hown, hb⟩ := hrel
      have HO := Lib.hid hown
      by_cases hlt : k < n1
      · obtain ⟨b1, o1, rfl, _, hc1⟩ := (H1.out.below hb).cells (by omega)
        obtain ⟨b2, o2, rfl, _, hc2⟩ := (H2.out.below hb).cells (by omega)
        have hx := hc1 k hlt
        have hy := hc2 k hlt
        have hlen : n1 = (xorL (l1.take k) (l2.take k) ++ List.replicate (n1 - k) 0).length := by
          have := L1.out; have := L2.out; simp [xorL]; omega
        have hcell := hown.cellAt hlen k hlt
        have hfr := hown.frozenAt hlen k
        have HX := Lib.hid (xor8 (l1[k]?.getD 0) (l2[k]?.getD 0))
        have HF := Lib.hid (xor_fill l1 l2 n1 k hlt L1.out L2.out)
        have HL := Lib.hid hlen
        clear hc1 hc2 hown hlen hown1 hb1
        generalize l1[k]?.getD 0 = x at *
        generalize l2[k]?.getD 0 = y at *
        go_wp2
        go_region
        go_wp2
        rw [HX.out]
        have hst := HO.out.stored HL.out k (x ^^^ y) _ rfl
        rw [HF.out] at hst
        go_roundw
        case rel => exact ⟨k + 1, by omega, by go_num, hst.1, (hst.2 _ hb).drew⟩
        case measure => simp [intOf] <;> omega
      · obtain rfl : k = n1 := by omega
        go_wp2
        go_ret2
        rw [hR.out]
        rw [List.take_of_length_le (by rw [L1.out]; omega), List.take_of_length_le (by rw [L2.out]; omega), Nat.sub_self] at hown
        exact ⟨⟨_, rfl, by simpa using hown⟩, hb⟩
  · have hR := Lib.hid (show xorR l1 l2 = ([], 2) by rw [xorR, if_neg (by rw [L1.out, L2.out]; exact hn)])
    have hne : ((n1 : Int) != (n2 : Int)) = true := by simp; omega
    go_enter Tryd.func55, Tryd.ntmps55
    go_wp2
    go_ret2
    rw [hR.out]
    exact ⟨⟨_, rfl, Own8.nil _ _ _⟩, Below.refl _ _⟩

theorem xor_bit (x y k : Nat) : (x ^^^ y) % 2 ^ (k + 1) = (x ^^^ y) % 2 ^ k + if x / 2 ^ k % 2 = y / 2 ^ k % 2 then 0 else 2 ^ k := by
  rw [Nat.mod_pow_succ]
  have h := Nat.testBit_xor x y k
  simp only [Nat.testBit_eq_decide_div_mod_eq] at h
  have hx := Nat.mod_lt (x / 2 ^ k) (show 0 < 2 by decide)
  have hy := Nat.mod_lt (y / 2 ^ k) (show 0 < 2 by decide)
  have hz := Nat.mod_lt ((x ^^^ y) / 2 ^ k) (show 0 < 2 by decide)
  congr 1
  generalize x / 2 ^ k % 2 = p at *
  generalize y / 2 ^ k % 2 = q at *
  generalize (x ^^^ y) / 2 ^ k % 2 = r at *
  have hp : p = 0 ∨ p = 1 := by omega
  have hq : q = 0 ∨ q = 1 := by omega
  have hr : r = 0 ∨ r = 1 := by omega
  rcases hp with rfl | rfl <;> rcases hq with rfl | rfl <;> rcases hr with rfl | rfl <;> simp at h ⊢

theorem bit_test (x y p : Nat) (hx : x < 256) (hy : y < 256) : ((wrap64 ((x : Int) / (p : Int))).tmod 2 != (wrap64 ((y : Int) / (p : Int))).tmod 2) = decide (¬ x / p % 2 = y / p % 2) := by
  have e : ∀ z : Nat, z < 256 → (wrap64 ((z : Int) / (p : Int))).tmod 2 = ((z / p % 2 : Nat) : Int) := fun z hz => by
    have hd := Nat.div_le_self z p
    rw [show (z : Int) / (p : Int) = ((z / p : Nat) : Int) from by simp]
    generalize z / p = q at *
    rw [IntWalk.wrap64_in _ (by omega)]
    rw [Int.tmod_eq_emod_of_nonneg (by omega)]
    simp
  rw [e x hx, e y hy, Bool.eq_iff_iff, bne_iff_ne, decide_eq_true_iff]
  omega

end Go.Proofs.YtpefjkndfifceaaDoor.Oc

namespace Go.Proofs.YtpefjkndfifceaaDoor.Oc
open Go.RowKit

/-- The slice (a, len, cap) reads, in w, as the numbers z. -/
structure Nums (w : World) (a : Option Addr) (len cap : Nat) (z : List Int) : Prop where
  length : z.length = len
  le : len ≤ cap
  max : cap ≤ maxLen
  cells : 0 < len → ∃ b off, a = some ⟨b, off, none⟩ ∧ b < w.heap.size ∧ ∀ i, i < len → w.cell? ⟨b, off + i, none⟩ = some (.int .i64 (z[i]?.getD 0))

theorem Nums.below {w w' : World} {a : Option Addr} {len cap : Nat} {z : List Int} (h : Nums w a len cap z) (hb : Below w.heap.size w w') : Nums w' a len cap z :=
  ⟨h.length, h.le, h.max, fun hp => by
    obtain ⟨b, off, rfl, hlt, hc⟩ := h.cells hp
    exact ⟨b, off, rfl, Nat.lt_of_lt_of_le hlt hb.size, fun i hi => (hb.cell (p := ⟨b, off + i, none⟩) hlt).trans (hc i hi)⟩⟩

theorem _root_.Go.Proofs.YtpefjkndfifceaaDoor.Bts.sub {w : World} {a : Option Addr} {len cap : Nat} {l : List UInt8} (h : Bts w a len cap l) (k m : Nat) (hkm : k ≤ m) (hm : m ≤ len) : Bts w (if cap = k then a else a.map (·.add k)) (m - k) (cap - k) ((l.take m).drop k) := by
  have hl := h.length
  have hle := h.le
  have hmax := h.max
  refine ⟨by rw [List.length_drop, List.length_take]; omega, by omega, by omega, fun hn => ?_, fun hp => ?_⟩
  · by_cases hc : cap = k
    · omega
    · rw [if_neg hc] at hn
      have := h.nil (by simpa using hn)
      omega
  · obtain ⟨b, off, rfl, hlt, hc⟩ := h.cells (by omega)
    refine ⟨b, off + k, ?_, hlt, fun i hi => ?_⟩
    · rw [if_neg (by omega)]
      simp only [Option.map_some]
      congr 1
      unfold Addr.add
      split <;> simp_all
    · rw [show off + k + i = off + (k + i) from by omega, hc (k + i) (by omega), List.getElem?_drop, List.getElem?_take, if_pos (by omega)]

theorem _root_.Go.Proofs.YtpefjkndfifceaaDoor.Bts.upto {w : World} {a : Option Addr} {len cap : Nat} {l : List UInt8} (h : Bts w a len cap l) (m : Nat) (hm : m ≤ len) : Bts w a m cap (l.take m) := by
  refine ⟨by rw [List.length_take, h.length]; omega, by have := h.le; omega, h.max, h.nil, fun hp => ?_⟩
  obtain ⟨b, off, rfl, hlt, hc⟩ := h.cells (by omega)
  refine ⟨b, off, rfl, hlt, fun i hi => ?_⟩
  rw [hc i (by omega), List.getElem?_take, if_pos hi]

theorem _root_.Go.Proofs.YtpefjkndfifceaaDoor.Bts.from {w : World} {a : Option Addr} {len cap : Nat} {l : List UInt8} (h : Bts w a len cap l) (k : Nat) (hk : k ≤ len) : Bts w (if cap = k then a else a.map (·.add k)) (len - k) (cap - k) (l.drop k) := by
  have := h.sub k len hk (Nat.le_refl _)
  rwa [List.take_of_length_le (by rw [h.length]; omega)] at this

def restL (l : List UInt8) : List Int → List UInt8
  | [] => l
  | s :: ss => restL (l.drop s.toNat) ss

def partsL (l : List UInt8) : List Int → List (List UInt8)
  | [] => []
  | s :: ss => l.take s.toNat :: partsL (l.drop s.toNat) ss

def cutOk (l : List UInt8) : List Int → Bool
  | [] => l.isEmpty
  | s :: ss => decide (0 ≤ s ∧ s ≤ l.length) && cutOk (l.drop s.toNat) ss

theorem restL_snoc : ∀ (xs : List Int) (l : List UInt8) (s : Int), restL l (xs ++ [s]) = (restL l xs).drop s.toNat
  | [], _, _ => rfl
  | _ :: xs, _, s => restL_snoc xs _ s

theorem partsL_snoc : ∀ (xs : List Int) (l : List UInt8) (s : Int), partsL l (xs ++ [s]) = partsL l xs ++ [(restL l xs).take s.toNat]
  | [], _, _ => rfl
  | x :: xs, l, s => by
    have := partsL_snoc xs (l.drop x.toNat) s
    simp [partsL, restL, this]

theorem take_snocI (z : List Int) (k : Nat) (hk : k < z.length) : z.take (k + 1) = z.take k ++ [z[k]?.getD 0] := by
  rw [List.take_add_one, List.getElem?_eq_getElem hk]; rfl

theorem restL_step (l : List UInt8) (z : List Int) (k : Nat) (hk : k < z.length) : restL l (z.take (k + 1)) = (restL l (z.take k)).drop (z[k]?.getD 0).toNat := by rw [take_snocI z k hk, restL_snoc]
theorem partsL_step (l : List UInt8) (z : List Int) (k : Nat) (hk : k < z.length) : partsL l (z.take (k + 1)) = partsL l (z.take k) ++ [(restL l (z.take k)).take (z[k]?.getD 0).toNat] := by rw [take_snocI z k hk, partsL_snoc]

theorem cutOk_step (l : List UInt8) (z : List Int) (k : Nat) (hk : k < z.length) :
    cutOk l (z.drop k) = (decide (0 ≤ z[k]?.getD 0 ∧ z[k]?.getD 0 ≤ l.length) && cutOk (l.drop (z[k]?.getD 0).toNat) (z.drop (k + 1))) := by
  rw [List.drop_eq_getElem_cons hk, List.getElem?_eq_getElem hk]
  rfl

theorem cutOk_at : ∀ (z : List Int) (l : List UInt8), cutOk l z = true → (∀ k, k < z.length → 0 ≤ z[k]?.getD 0 ∧ z[k]?.getD 0 ≤ (restL l (z.take k)).length) ∧ restL l z = []
  | [], l, h => ⟨fun k hk => by simp at hk, by simpa [cutOk, restL] using h⟩
  | s :: ss, l, h => by
    simp only [cutOk, Bool.and_eq_true, decide_eq_true_eq] at h
    have := cutOk_at ss (l.drop s.toNat) h.2
    refine ⟨fun k hk => ?_, this.2⟩
    cases k with
    | zero => simpa [restL] using h.1
    | succ k => simpa [restL] using this.1 k (by simpa using hk)

def cutR (l : List UInt8) (z : List Int) : List (List UInt8) × Int := if cutOk l z = true then (partsL l z, 0) else ([], 2)
theorem cutR_yes {l : List UInt8} {z : List Int} (h : cutOk l z = true) : cutR l z = (partsL l z, 0) := by rw [cutR, if_pos h]
theorem cutR_no {l : List UInt8} {z : List Int} (h : cutOk l z = false) : cutR l z = ([], 2) := by rw [cutR, if_neg (by simp [h])]

abbrev slc (x : Row2) : Value := .slice x.1 x.2.1 x.2.2.1

/-- A list of slices of bytes, all of it the call's own. -/
structure OwnL (E U B : Nat) (w : World) (v : Value) (X : List Row2) : Prop where
  row : w.ownsRow B E 1 v X.length (X.map slc)
  each : ∀ x ∈ X, Own8 U B w (slc x) x.2.2.2

theorem OwnL.nil (E U B : Nat) (w : World) : OwnL E U B w (.slice .none 0 0) [] := ⟨World.ownsRow_nil _ _ _ _, fun _ h => by cases h⟩

theorem OwnL.below {E U B : Nat} {w w' : World} {v : Value} {X : List Row2} (h : OwnL E U B w v X) (hb : Below w.heap.size w w') : OwnL E U B w' v X := by
  refine ⟨?_, fun x hx => (h.each x hx).below hb⟩
  obtain ⟨h1, h2⟩ := h.row
  refine ⟨h1, ?_⟩
  rcases h2 with h2 | ⟨g, cap, cur, rfl, hB, hg, rest⟩
  · exact .inl h2
  · exact .inr ⟨g, cap, cur, rfl, hB, by rw [hb.block g (Array.getElem?_eq_some_iff.1 hg).1]; exact hg, rest⟩

theorem OwnL.mono {E U B B' : Nat} {w : World} {v : Value} {X : List Row2} (h : OwnL E U B w v X) (hB : B' ≤ B) : OwnL E U B' w v X := by
  refine ⟨?_, fun x hx => (h.each x hx).mono hB⟩
  obtain ⟨h1, h2⟩ := h.row
  refine ⟨h1, ?_⟩
  rcases h2 with h2 | ⟨g, cap, cur, rfl, hb, rest⟩
  · exact .inl h2
  · exact .inr ⟨g, cap, cur, rfl, Nat.le_trans hB hb, rest⟩

theorem OwnL.form {E U B : Nat} {w : World} {v : Value} {X : List Row2} (h : OwnL E U B w v X) : (v = .slice .none 0 0 ∧ X = []) ∨ ∃ g cap, v = .slice (some ⟨g, 0, .none⟩) X.length cap ∧ X.length ≤ cap ∧ cap ≤ maxLen ∧ B ≤ g ∧ g < w.heap.size := by
  obtain ⟨h1, h2⟩ := h.row
  rcases h2 with ⟨h2, h0⟩ | ⟨g, cap, cur, rfl, hb, hg, hn, hc, hs, ht⟩
  · exact .inl ⟨h2, List.eq_nil_of_length_eq_zero h0⟩
  · exact .inr ⟨g, cap, rfl, hn, hc, hb, (Array.getElem?_eq_some_iff.1 hg).1⟩

theorem OwnL.apart {E U B : Nat} {w : World} {v : Value} {X : List Row2} (h : OwnL E U B w v X) (hEU : U ≠ E) : ∀ x ∈ X, (slc x).ownBlock = .none ∨ (slc x).ownBlock ≠ v.ownBlock := by
  intro x hx
  cases hv : (slc x).ownBlock with
  | none => exact .inl rfl
  | some g =>
    refine .inr fun e => ?_
    obtain ⟨c, fz, h1⟩ := Lib.ownsRow_kind (h.each x hx) g hv
    obtain ⟨c', fz', h2⟩ := Lib.ownsRow_kind h.row g e.symm
    rw [h1] at h2
    simp at h2
    exact hEU h2.2.1

theorem slcs_oneCell (X : List Row2) : ∀ u ∈ X.map slc, u.oneCell' = true := by
  intro u hu
  obtain ⟨_, _, rfl⟩ := List.mem_map.1 hu
  rfl

/-- 'append(l, x)': one slice of bytes of the call's own more. -/
theorem wpList_append_row {P : Program} (w : World) {ops : Array Oper} {rest : List Oper} {o : Oper} {a : Act} {Q : Exit → Act → World → Prop} (hgd : o.guard = .none) (s x : Operand) (t : TypeId)
    (ho : o.op = .call { callee := .builtin .append, args := #[s, x], argTypes := #[t, t] })
    (B E U : Nat) (hEU : U ≠ E) (i : TypeInfo) (ht : P.underlying t = some (.slice E)) (hi : P.info? E = some i) (hz : i.zero = some (.slice .none 0 0)) (hsize : i.size = 1) (hby : i.bytes = 24)
    (v : Value) (X : List Row2) (hs : a.eval s = v) (hown : OwnL E U B w v X) (ad : Addr) (y : Row2) (hx : a.eval x = .slice (some ad) 1 1) (hcell : w.cell? ad = some (slc y)) (hy : Own8 U B w (slc y) y.2.2.2)
    (hsum : X.length ≤ 100000) (hbase : B ≤ w.heap.size)
    (h : ∀ v' w', OwnL E U B w' v' (X ++ [y]) → (∀ w0, Below B w0 w → Below B w0 w') → wpList P ops Q rest (a.put o.dst v') w') : wpList P ops Q (o :: rest) a w := by
  refine wpList_append_own w hgd s x t ho B E i (.slice .none 0 0) 1 24 ht hi hz hsize hby rfl (by decide) v X.length (X.map slc) hs hown.row ad 1 1 [slc y] hx rfl (fun j u hu => ?_) (by simp [Value.oneCell']) (by unfold maxLen; omega) (by omega) hbase ?_
  · cases j with
    | zero =>
      simp at hu
      subst hu
      rw [show ad.add 0 = ad from by cases ad; unfold Addr.add; split <;> simp_all]
      exact hcell
    | succ j => simp at hu
  · intro v' w' ho' hg _
    have hap := hown.apart hEU
    have hyo : (slc y).ownBlock = .none ∨ (slc y).ownBlock ≠ v.ownBlock := by
      cases hv : (slc y).ownBlock with
      | none => exact .inl rfl
      | some g =>
        refine .inr fun e => ?_
        obtain ⟨c, fz, h1⟩ := Lib.ownsRow_kind hy g hv
        obtain ⟨c', fz', h2⟩ := Lib.ownsRow_kind hown.row g e.symm
        rw [h1] at h2
        simp at h2
        exact hEU h2.2.1
    refine h v' w' ⟨by simpa using ho', fun u hu => ?_⟩ (fun w0 h0 => h0.grown hg hbase (fun k hk => (hown.row.lt k hk).1))
    rcases List.mem_append.1 hu with hu | hu
    · exact World.ownsRow.kept (hown.each u hu) hg (hap u hu)
    · obtain rfl := List.mem_singleton.1 hu
      exact World.ownsRow.kept hy hg hyo

def RetsCut (B : Nat) (w' : World) (r : List (List UInt8) × Int) (e : Ending) : Prop := ∃ v X, e = .returned (.tuple #[v, .int .i64 r.2]) ∧ OwnL 22 5 B w' v X ∧ X.map (·.2.2.2) = r.1

theorem RetsCut.no {B : Nat} {w' : World} {r : List (List UInt8) × Int} (h : r = ([], 2)) : RetsCut B w' r (.returned (.tuple #[.slice none 0 0, .int .i64 2])) := by
  subst h
  exact ⟨_, [], rfl, OwnL.nil _ _ _ _, rfl⟩

end Go.Proofs.YtpefjkndfifceaaDoor.Oc

namespace Go.Proofs.YtpefjkndfifceaaDoor.Oc
open Go.RowKit

theorem Tryd.infoS : (Tryd.prog.info? 22).map (fun i => (i.zero, i.size, i.bytes)) = some (some (.slice none 0 0), 1, 24) := by kernel_rfl

end Go.Proofs.YtpefjkndfifceaaDoor.Oc

namespace Go.Proofs.YtpefjkndfifceaaDoor
open Go.RowKit
set_option maxRecDepth 100000

theorem length_p (n : Nat) (hn : n ≤ 1000000000) (w : World) : Calls Tryd.prog 46 #[.int .i64 (n : Int)] w fun e w' => e = .returned (.int .i64 (lenP n : Int)) ∧ w = w' := by
  obtain ⟨q, hq⟩ : ∃ q, lenP n = q := ⟨_, rfl⟩
  have e1 : ((n : Int) + 7) / 8 = (q : Int) := by rw [← hq]; unfold lenP; omega
  rw [hq]
  clear hq
  go_enter Tryd.func46, Tryd.ntmps46
  go_wp2
  go_ret
  exact ⟨by show Ending.returned (.int .i64 (((n : Int) + 7) / 8)) = _; rw [e1], rfl⟩
theorem length_neg (b : Int) (h0 : -9223372036854775808 ≤ b) (h1 : b < 0) (w : World) : Calls Tryd.prog 46 #[.int .i64 b] w fun e w' => (∃ q : Int, e = .returned (.int .i64 q) ∧ -9223372036854775000 ≤ q ∧ q ≤ 0) ∧ w = w' := by
  obtain ⟨q, hq⟩ : ∃ q, Int.tdiv (b + 7) 8 = q := ⟨_, rfl⟩
  have hb : -9223372036854775000 ≤ q ∧ q ≤ 0 := by
    rw [← hq]
    by_cases h : 0 ≤ b + 7
    · rw [Int.tdiv_eq_ediv_of_nonneg h]; omega
    · obtain ⟨m, hm⟩ : ∃ m : Nat, b + 7 = -(m : Int) := ⟨(-(b + 7)).toNat, by omega⟩
      rw [hm, Int.neg_tdiv, Int.tdiv_eq_ediv_of_nonneg (by omega)]
      omega
  have hw : wrap64 q = q := by unfold wrap64; omega
  have HB := Lib.hid hb
  clear hb
  go_enter Tryd.func46, Tryd.ntmps46
  go_wp2
  go_ret
  exact ⟨⟨q, by show Ending.returned (.int .i64 (wrap64 q)) = _; rw [hw], HB.out.1, HB.out.2⟩, rfl⟩
theorem low_p (n : Nat) (hn : n ≤ 1000000000) (w : World) : Calls Tryd.prog 56 #[.int .i64 (n : Int)] w fun e w' => e = .returned (.int .u8 (lowP n : Int)) ∧ w = w' := by
  have hb := lenP_bits n
  have hl : lenP n ≤ 1000000000 := by unfold lenP; omega
  obtain ⟨k, hk⟩ : ∃ k, 8 * lenP n - n = k := ⟨_, rfl⟩
  have HK := Lib.hid (show lowP n = 255 / 2 ^ k by unfold lowP; rw [hk])
  have e1 : 8 * (lenP n : Int) - (n : Int) = (k : Int) := by omega
  have hk8 : k < 8 := by omega
  clear hk hb
  rw [HK.out]
  rcases (show k = 0 ∨ k = 1 ∨ k = 2 ∨ k = 3 ∨ k = 4 ∨ k = 5 ∨ k = 6 ∨ k = 7 by omega) with rfl | rfl | rfl | rfl | rfl | rfl | rfl | rfl
  all_goals (go_enter Tryd.func56, Tryd.ntmps56; go_wp2_with fail; refine (length_p n hn _).mono ?_; rintro e w1 ⟨rfl, rfl⟩; generalize lenP n = q at *; clear HK hk8; go_wp2; go_ret; exact ⟨by first | rfl | simp, rfl⟩)
set_option maxHeartbeats 1000000 in
theorem room_p (h s b : Int) (hs0 : -9223372036854775808 ≤ s) (hs1 : s ≤ 9223372036854775807) (hb0 : -9223372036854775808 ≤ b) (hb1 : b ≤ 9223372036854775807) (w : World) (hk : Kinds w) :
    Calls Tryd.prog 44 #[.int .i64 h, .int .i64 s, .int .i64 b] w fun e w' => e = .returned (.bool (decide (RoomP h s b))) ∧ Below w.heap.size w w' := by
  have HK := Lib.hid hk
  clear hk
  by_cases hh : IsHash h.toNat
  rotate_left
  · have HR := Lib.hid (show decide (RoomP h s b) = false from decide_eq_false fun k => hh k.1)
    have HN := Lib.hid (show h < 1 ∨ 4 < h from by unfold IsHash at hh; omega)
    clear hh
    go_enter Tryd.func44, Tryd.ntmps44
    go_wp2_with fail
    refine (size_no h HN.out _).mono ?_
    rintro e w1 ⟨rfl, hb⟩
    have HB := Lib.hid hb
    clear hb
    go_wp2
    go_ret
    exact ⟨by rw [HR.out]; rfl, HB.out⟩
  obtain ⟨n, rfl⟩ : ∃ n : Nat, h = (n : Int) := ⟨h.toNat, by unfold IsHash at hh; omega⟩
  rw [Int.toNat_natCast] at hh
  have hS := mSize_le hh
  have HRO := Lib.hid (show RoomP (n : Int) s b ↔ (0 ≤ s ∧ 0 ≤ b ∧ b ≤ 524288 ∧ s + (mSize n : Int) + 2 ≤ (lenP b.toNat : Int)) from ⟨fun k => k.2, fun k => ⟨hh, k⟩⟩)
  have HH := Lib.hid hh
  clear hh
  by_cases c1 : s < 0
  · have HR := Lib.hid (show decide (RoomP (n : Int) s b) = false from decide_eq_false fun k => by have := HRO.out.1 k; omega)
    have g1 : decide ((0 : Int) ≤ s) = false := decide_eq_false (by omega)
    go_enter Tryd.func44, Tryd.ntmps44
    go_wp2_with fail
    refine (size_yes n HH.out _ HK.out).mono ?_
    rintro e w1 ⟨rfl, hb⟩
    have HB := Lib.hid hb
    clear hb
    generalize mSize n = S at *
    have g0 : decide ((0 : Int) < (S : Int)) = true := decide_eq_true (by omega)
    go_wp2
    go_ret
    exact ⟨by rw [HR.out]; rfl, HB.out⟩
  have g1 : decide ((0 : Int) ≤ s) = true := decide_eq_true (by omega)
  by_cases c2 : 524288 < b
  · have HR := Lib.hid (show decide (RoomP (n : Int) s b) = false from decide_eq_false fun k => by have := HRO.out.1 k; omega)
    have g2 : decide (b ≤ (524288 : Int)) = false := decide_eq_false (by omega)
    go_enter Tryd.func44, Tryd.ntmps44
    go_wp2_with fail
    refine (size_yes n HH.out _ HK.out).mono ?_
    rintro e w1 ⟨rfl, hb⟩
    have HB := Lib.hid hb
    clear hb
    generalize mSize n = S at *
    have g0 : decide ((0 : Int) < (S : Int)) = true := decide_eq_true (by omega)
    go_wp2
    go_ret
    exact ⟨by rw [HR.out]; rfl, HB.out⟩
  have g2 : decide (b ≤ (524288 : Int)) = true := decide_eq_true (by omega)
  by_cases c3 : b < 0
  · have HR := Lib.hid (show decide (RoomP (n : Int) s b) = false from decide_eq_false fun k => by have := HRO.out.1 k; omega)
    skip
    go_enter Tryd.func44, Tryd.ntmps44
    go_wp2_with fail
    refine (size_yes n HH.out _ HK.out).mono ?_
    rintro e w1 ⟨rfl, hb⟩
    have HB := Lib.hid hb
    clear hb
    generalize mSize n = S at *
    have g0 : decide ((0 : Int) < (S : Int)) = true := decide_eq_true (by omega)
    go_wp2_with fail
    refine (length_neg b hb0 c3 _).mono ?_
    rintro e w2 ⟨⟨q, rfl, q1, q2⟩, rfl⟩
    have g3 : decide (s ≤ q - (S : Int) - 2) = false := decide_eq_false (by omega)
    go_wp2
    go_ret
    exact ⟨by rw [HR.out]; rfl, HB.out⟩
  obtain ⟨m, rfl⟩ : ∃ m : Nat, b = (m : Int) := ⟨b.toNat, by omega⟩
  rw [Int.toNat_natCast] at HRO
  have hm : m ≤ 524288 := by omega
  have hlm : lenP m ≤ 65536 := by unfold lenP; omega
  go_enter Tryd.func44, Tryd.ntmps44
  go_wp2_with fail
  refine (size_yes n HH.out _ HK.out).mono ?_
  rintro e w1 ⟨rfl, hb⟩
  have HB := Lib.hid hb
  clear hb
  generalize mSize n = S at *
  have g0 : decide ((0 : Int) < (S : Int)) = true := decide_eq_true (by omega)
  go_wp2_with fail
  refine (length_p m (by omega) _).mono ?_
  rintro e w2 ⟨rfl, rfl⟩
  generalize lenP m = q at *
  by_cases c4 : s + (S : Int) + 2 ≤ (q : Int)
  · have HR := Lib.hid (show decide (RoomP (n : Int) s (m : Int)) = true from decide_eq_true (HRO.out.2 ⟨by omega, by omega, by omega, c4⟩))
    have g3 : decide (s ≤ (q : Int) - (S : Int) - 2) = true := decide_eq_true (by omega)
    clear c4
    go_wp2
    go_ret
    exact ⟨by rw [HR.out]; rfl, HB.out⟩
  · have HR := Lib.hid (show decide (RoomP (n : Int) s (m : Int)) = false from decide_eq_false fun k => c4 (HRO.out.1 k).2.2.2)
    have g3 : decide (s ≤ (q : Int) - (S : Int) - 2) = false := decide_eq_false (by omega)
    clear c4
    go_wp2
    go_ret
    exact ⟨by rw [HR.out]; rfl, HB.out⟩
/-- The three rows that the inner hash is of. -/
def inRp (g : Nat) (da : Option Addr) (dn dc : Nat) (d : List Nat) (sa : Option Addr) (sn sc : Nat) (s : List Nat) : Nat → Option Addr × Nat × Nat × List Nat
  | 0 => (some ⟨g, 0, none⟩, 8, 8, List.replicate 8 0)
  | 1 => (da, dn, dc, d)
  | _ => (sa, sn, sc, s)

set_option maxHeartbeats 1000000 in
theorem inner_p (h : Nat) (hh : IsHash h) (da : Option Addr) (dn dc : Nat) (d : List Nat) (sa : Option Addr) (sn sc : Nat) (s : List Nat) (w : World) (hk : Kinds w) (hd : Reads .u8 w da dn dc d) (hs : Reads .u8 w sa sn sc s) (bd : Byt d) (bs : Byt s) (ld : dn ≤ 1048576) (ls : sn ≤ 1048576) :
    Calls Tryd.prog 45 #[.int .i64 (h : Int), .slice da dn dc, .slice sa sn sc] w fun e w' => (∃ ad c, e = .returned (.slice (some ad) (mSize h) c) ∧ Reads .u8 w' (some ad) (mSize h) c (innerP h d s) ∧ w.heap.size ≤ ad.block) ∧ Below w.heap.size w w' := by
  obtain ⟨i0, hi, hz0, hz1, hz2⟩ := info_parts infoMk
  have HK := Lib.hid hk
  have HD := Lib.hid hd
  have HS := Lib.hid hs
  have HBD := Lib.hid (And.intro bd bs)
  clear hk hd hs bd bs
  go_enter Tryd.func45, Tryd.ntmps45
  go_wp2_with (at_make; refine wpList_make_full _ rfl _ _ 22 rfl w.heap.size 5 i0 (.int .u8 0) 1 Tryd.underlying22 hi hz0 hz1 _ _ _ _ 8 rfl rfl rfl rfl (by rw [hz2]; omega) (by unfold maxLen; omega) (Nat.le_refl _) ?_; intro w1 hown hgrow; have HO := Lib.hid (OwnQ.madeM hown rfl); have HB1 := Lib.hid (Below.grown (Below.refl w.heap.size w) hgrow (Nat.le_refl _) (fun _ e => by cases e)); clear hown hgrow)
  have HR := Lib.hid (show RowsM (w1.alloc (.cells #[.slice (some ⟨w.heap.size, 0, none⟩) 8 8, .slice da dn dc, .slice sa sn sc] 22)) (some ⟨w1.heap.size, 0, none⟩) 3 (inRp w.heap.size da dn dc d sa sn sc s) from by
    have hba := (Below.refl w1.heap.size w1).alloc (Nat.le_refl _) (.cells #[.slice (some ⟨w.heap.size, 0, none⟩) 8 8, .slice da dn dc, .slice sa sn sc] 22)
    refine ⟨fun i hi => ?_, fun _ => ⟨_, 0, rfl, by simp, fun i hi => ?_⟩⟩
    · rcases (show i = 0 ∨ i = 1 ∨ i = 2 by omega) with rfl | rfl | rfl
      · exact ⟨HO.out.reads.below hba, (by decide : Byt (List.replicate 8 0)), (by decide : 8 ≤ 1048576)⟩
      · exact ⟨(HD.out.below HB1.out).below hba, HBD.out.1, ld⟩
      · exact ⟨(HS.out.below HB1.out).below hba, HBD.out.2, ls⟩
    · rw [Nat.zero_add, World.cell?_alloc_new]
      rcases (show i = 0 ∨ i = 1 ∨ i = 2 by omega) with rfl | rfl | rfl <;> rfl)
  have HB2 := Lib.hid (HB1.out.alloc HB1.out.size (.cells #[.slice (some ⟨w.heap.size, 0, none⟩) 8 8, .slice da dn dc, .slice sa sn sc] 22))
  have HF := Lib.hid (show flatM (inRp w.heap.size da dn dc d sa sn sc s) 3 = List.replicate 8 0 ++ d ++ s from rfl)
  go_wp2_with fail
  refine (sum_yes h hh _ 3 3 _ _ (HK.out.below HB2.out) HR.out (by decide)).mono ?_
  rintro e w3 ⟨⟨ad, c, rfl, h1, h2⟩, hb⟩
  rw [HF.out] at h1
  have H1 := Lib.hid h1
  have HB3 := Lib.hid (HB2.out.trans (hb.mono HB2.out.size))
  have HAD := Lib.hid (show w.heap.size ≤ ad.block from Nat.le_trans HB2.out.size h2)
  clear h1 h2 hb
  go_wp2
  go_ret
  exact ⟨⟨ad, c, rfl, H1.out, HAD.out⟩, HB3.out⟩
theorem own_of8 {E B : Nat} {w : World} {v : Value} {l : List UInt8} {m : List Nat} (h : Own8 E B w v l) (he : l.map byt = m.map (num .u8)) : OwnQ .u8 E B w v m := by
  unfold OwnQ
  unfold Own8 at h
  have hl : l.length = m.length := by simpa using congrArg List.length he
  rw [← hl, ← he]
  exact h
theorem xor_map : ∀ {a b : List Nat}, Byt a → Byt b → (Oc.xorL (u8s a) (u8s b)).map byt = (xorN a b).map (num .u8)
  | [], _, _, _ => rfl
  | _ :: _, [], _, _ => rfl
  | x :: a, y :: b, ha, hb => by
    have ih := xor_map (a := a) (b := b) (fun z hz => ha z (List.mem_cons_of_mem _ hz)) (fun z hz => hb z (List.mem_cons_of_mem _ hz))
    unfold Oc.xorL xorN u8s at ih ⊢
    rw [List.map_cons, List.map_cons, List.zipWith_cons_cons, List.zipWith_cons_cons, List.map_cons, List.map_cons, ih]
    congr 1
    have hx := ha x List.mem_cons_self
    have hy := hb y List.mem_cons_self
    unfold byt num
    rw [UInt8.toNat_xor, UInt8.toNat_ofNat', UInt8.toNat_ofNat', Nat.mod_eq_of_lt (show x < 2 ^ 8 from hx), Nat.mod_eq_of_lt (show y < 2 ^ 8 from hy)]

set_option maxHeartbeats 1000000 in
theorem masked_p (h : Nat) (hh : IsHash h) (ba : Option Addr) (bn bc : Nat) (B : List Nat) (ia : Option Addr) (iN ic : Nat) (I : List Nat) (n : Nat) (w : World) (hk : Kinds w) (hb : Reads .u8 w ba bn bc B) (hi : Reads .u8 w ia iN ic I) (bB : Byt B) (bI : Byt I) (h1 : 1 ≤ bn) (hn : bn ≤ 50000) (hin : iN ≤ 1048000) (hbits : n ≤ 1000000000) :
    Calls Tryd.prog 47 #[.int .i64 (h : Int), .slice ba bn bc, .slice ia iN ic, .int .i64 (n : Int)] w fun e w' => (∃ g c, e = .returned (.slice (some ⟨g, 0, none⟩) bn c) ∧ OwnQ .u8 5 w.heap.size w' (.slice (some ⟨g, 0, none⟩) bn c) (maskedP h B I n)) ∧ Below w.heap.size w w' := by
  have HK := Lib.hid hk
  have HBR := Lib.hid hb
  have HBN := Lib.hid hb.length
  have HI := Lib.hid hi
  have HBB := Lib.hid (And.intro bB bI)
  have HMM := Lib.hid (maskN_len hh I bn)
  have HMB := Lib.hid (maskN_byt hh I bn)
  have HH := Lib.hid hh
  have HMP := Lib.hid (show maskedP h B I n = headA (lowP n) (xorN B (maskN h I bn)) by unfold maskedP; rw [HBN.out])
  clear hk hb hi bB bI hh
  go_enter Tryd.func47, Tryd.ntmps47
  go_wp2_with fail
  refine (mask_yes h HH.out ia iN ic I bn _ HK.out HI.out HBB.out.2 hin hn).mono ?_
  rintro e w1 ⟨⟨v, rfl, hv⟩, hb⟩
  obtain ⟨ma, mn, mc, rfl, hmn, hv⟩ := own_slM hv
  have HM := Lib.hid hv
  have HB1 := Lib.hid hb
  have hmn2 : mn = bn := by rw [hmn, HMM.out]
  subst hmn2
  clear hv hb hmn
  generalize maskN h I mn = M at *
  go_wp2_with fail
  refine (Oc.xor_any ba ma mn bc mn mc (u8s B) (u8s M) _ ((HBR.out.below HB1.out).bts HBB.out.1) (HM.out.reads.bts HMB.out) (by omega)).mono ?_
  rintro e w2 ⟨⟨v, rfl, hv⟩, hb⟩
  have hx : Oc.xorR (u8s B) (u8s M) = (Oc.xorL (u8s B) (u8s M), 0) := if_pos (by rw [u8s, u8s, List.length_map, List.length_map, HBN.out, HMM.out])
  rw [hx] at hv ⊢
  dsimp only at hv ⊢
  have hv2 := own_of8 hv (xor_map HBB.out.1 HMB.out)
  have hxl : (xorN B M).length = mn := by rw [xorN_len _ _ (by rw [HBN.out, HMM.out]), HBN.out]
  have hxb := xorN_byt HBB.out.1 HMB.out
  obtain ⟨g, c, hg⟩ := hv2.succ (by intro e; rw [e] at hxl; simp at hxl; omega)
  rw [hxl] at hg
  subst hg
  have HX := Lib.hid (hv2.mono HB1.out.size)
  have HXL := Lib.hid hxl
  have HB2 := Lib.hid (HB1.out.trans (hb.mono HB1.out.size))
  obtain ⟨x, hx0⟩ : ∃ x, (xorN B M)[0]?.getD 0 = x := ⟨_, rfl⟩
  have hx256 : x < 256 := by
    rw [← hx0, List.getElem?_eq_getElem (by omega)]
    exact hxb _ (List.getElem_mem _)
  have c0 : w2.cell? ⟨g, 0, none⟩ = some (.int .u8 (x : Int)) := by
    rw [← hx0]
    exact HX.out.cellAt hxl.symm 0 (by omega)
  have f0 : w2.frozen? ⟨g, 0, none⟩ = false := HX.out.frozenAt hxl.symm 0
  have HST := Lib.hid (show headA (lowP n) (xorN B M) = (xorN B M).set 0 (x &&& lowP n) by rw [headA_set _ _ (by omega), hx0])
  have hlow := lowP_lt n
  obtain ⟨m, hm⟩ : ∃ m, lowP n = m := ⟨_, rfl⟩
  obtain ⟨y, hy⟩ : ∃ y, x &&& m = y := ⟨_, rfl⟩
  have hand : bits BinOp.and IntKind.u8 (x : Int) (m : Int) = (y : Int) := by
    rw [← hy]
    exact u8_and_nat x m hx256 (by omega)
  have hy256 : y < 256 := by rw [← hy]; exact Nat.lt_of_le_of_lt Nat.and_le_left hx256
  have HLW := Lib.hid (fun (W : World) => (low_p n hbits W).mono fun e w' h => And.intro h.1 h.2.symm)
  rw [hm] at HST HLW
  have HMM2 := Lib.hid hm
  rw [hy] at HST
  clear hv hv2 hb hx hxl hxb hx0 hm hy hlow
  have hmp : 0 < mn := h1
  go_wp2_with fail
  go_still_tail 7, (by kernel_rfl)
  repeat still_step
  still_call (HLW.out _)
  repeat still_step
  refine wpStill_nil ?_
  change wpList _ _ _ _ _ w2.drew
  have c0 : w2.drew.cell? ⟨g, 0, none⟩ = some (.int .u8 (x : Int)) := c0
  have f0 : w2.drew.frozen? ⟨g, 0, none⟩ = false := f0
  go_wp2
  go_ret
  refine ⟨⟨g, c, rfl, ?_⟩, ?_⟩
  · rw [HMP.out, HMM2.out, HST.out]
    exact ((OwnQ.stored HX.out HXL.out.symm 0 y _ rfl).1).drew
  · exact ((OwnQ.stored HX.out HXL.out.symm 0 y _ rfl).2 _ HB2.out).drew
end Go.Proofs.YtpefjkndfifceaaDoor

namespace Go.Proofs.YtpefjkndfifceaaDoor
open Go.RowKit
set_option maxRecDepth 100000

/-- 'copy' into a row of one's own, from some place on. -/
theorem run_copy_at {P : Program} (q : IntKind) (E : TypeId) (B : Nat) (w : World) (dT sT ty elem : TypeId) (hu : P.underlying dT = some (.slice elem)) (hsz : (P.info? elem).map (·.size) = some 1)
    (g n o dLen dCap : Nat) (sp : Option Addr) (sLen sCap : Nat) (L l : List Nat) (hO : OwnQ q E B w (.slice (some ⟨g, 0, none⟩) n n) L) (hr : Reads q w sp sLen sCap l) (hle : sLen ≤ dLen) (hfit : o + dLen ≤ n) :
    ∃ w', (Builtin.copy_ #[dT, sT] ty #[.slice (some ⟨g, o, none⟩) dLen dCap, .slice sp sLen sCap]).run P w = .ok (goInt sLen) w' ∧ OwnQ q E B w' (.slice (some ⟨g, 0, none⟩) n n) (L.take o ++ l ++ L.drop (o + sLen)) ∧ ∀ w0, Below B w0 w → Below B w0 w' := by
  have hl := hr.length
  rcases Nat.eq_zero_or_pos sLen with rfl | hp
  · obtain rfl : l = [] := List.eq_nil_of_length_eq_zero hl
    exact ⟨w, run_copy_none (P := P) w dT sT ty elem _ sp dLen dCap 0 sCap hu hsz (by simp), by simpa using hO, fun _ h => h⟩
  · have hn := hO.cap.1
    have hmax := hO.cap.2.2
    obtain ⟨-, h2⟩ := hO
    rcases h2 with ⟨h2, -⟩ | ⟨g', cap, cur, he, hBg, hg, hnc, hcm, hcs, hct⟩
    · cases h2
    · obtain ⟨rfl, e2, e3⟩ : g' = g ∧ L.length = n ∧ cap = n := by
        injection he with e1 e2 e3
        injection e1 with e1
        injection e1 with e1
        exact ⟨e1.symm, by omega, by omega⟩
      subst e3
      have hcur : cur.toList = L.map (num q) := by
        rw [← hct, List.take_of_length_le (by simp; omega)]
      have hcl : cur.size = cap := by
        have := congrArg List.length hcur
        simp at this
        omega
      obtain ⟨ad, rfl⟩ : ∃ ad, sp = some ad := by
        cases sp with
        | none =>
          have h0 := hr.nil rfl
          have h1 := hr.le
          omega
        | some ad => exact ⟨ad, rfl⟩
      have hrun := run_copy_row (P := P) w dT sT ty elem g' o dLen dCap ad sLen sCap cur E (l.map (num q)) hu hsz hg (by rw [List.length_map, hl]; exact (Nat.min_eq_left hle).symm) hr.news (by rw [List.length_map, hl, hcl]; omega) (nums_oneCell q l)
      rw [List.length_map, hl] at hrun
      refine ⟨_, hrun, ?_, fun w0 hb => below_setRow hb hBg _⟩
      have hlen : (L.take o ++ l ++ L.drop (o + sLen)).length = cap := by simp; omega
      show World.ownsRow _ _ _ _ _ _ _
      rw [hlen]
      refine ⟨by rw [List.length_map, hlen, Nat.mul_one], .inr ⟨g', cap, _, rfl, hBg, setRow_heap w g' _ _ E _ hg, Nat.le_refl _, hmax, ?_, ?_⟩⟩
      · simp; omega
      · rw [List.take_of_length_le (by simp; omega), hcur, List.map_append, List.map_append, List.map_take, List.map_drop]

/-! ### the lists on the way -/
theorem em_one : ∀ (a b : Nat), (List.replicate (a + 1 + b) 0).set a 1 = List.replicate a 0 ++ [1] ++ List.replicate b 0
  | 0, b => by rw [Nat.zero_add, Nat.add_comm, List.replicate_succ]; rfl
  | a + 1, b => by
    rw [show a + 1 + 1 + b = (a + 1 + b) + 1 by omega, List.replicate_succ, List.set_cons_succ, em_one a b, List.replicate_succ]
    rfl
theorem em_two (a b c : Nat) (s : List Nat) (hs : s.length = b) : (List.replicate a 0 ++ [1] ++ List.replicate (b + c) 0).take (a + 1) ++ s ++ (List.replicate a 0 ++ [1] ++ List.replicate (b + c) 0).drop (a + 1 + b) = List.replicate a 0 ++ [1] ++ s ++ List.replicate c 0 := by
  have h1 : (List.replicate a 0 ++ [1] : List Nat).length = a + 1 := by simp
  rw [List.take_left' h1, List.drop_append, h1, List.drop_eq_nil_of_le (by rw [h1]; omega), List.drop_replicate, show b + c - (a + 1 + b - (a + 1)) = c by omega]
  simp
theorem em_three (X M : List Nat) (k c : Nat) (hX : X.length = k) (hM : M.length = k) : (X ++ List.replicate c 0).take 0 ++ M ++ (X ++ List.replicate c 0).drop (0 + k) = M ++ List.replicate c 0 := by
  rw [Nat.zero_add, List.drop_left' hX]
  simp
theorem em_four (M I : List Nat) (k c : Nat) (hM : M.length = k) (hI : I.length = c) : (M ++ List.replicate (c + 1) 0).take k ++ I ++ (M ++ List.replicate (c + 1) 0).drop (k + c) = M ++ I ++ [0] := by
  rw [List.take_left' hM, List.drop_append, hM, List.drop_eq_nil_of_le (by omega), List.drop_replicate, show c + 1 - (k + c - k) = 1 by omega]
  rfl
theorem em_five (M I : List Nat) (k : Nat) (hk : (M ++ I).length = k) : (M ++ I ++ [0]).set k 188 = M ++ I ++ [188] := by
  rw [List.set_append_right _ _ (by omega), hk, Nat.sub_self]
  rfl

set_option maxHeartbeats 4000000 in
theorem encode_p (h : Nat) (hh : IsHash h) (da : Option Addr) (dn dc : Nat) (d : List Nat) (sa : Option Addr) (sn sc : Nat) (s : List Nat) (n : Nat) (w : World) (hk : Kinds w) (hd : Reads .u8 w da dn dc d) (hs : Reads .u8 w sa sn sc s) (bd : Byt d) (bs : Byt s) (hr : RoomP (h : Int) (sn : Int) (n : Int)) (hdn : dn = mSize h) (hn : n ≤ 100000) :
    Calls Tryd.prog 34 #[.int .i64 (h : Int), .slice da dn dc, .slice sa sn sc, .int .i64 (n : Int)] w fun e w' => (∃ g, e = .returned (.tuple #[.slice (some ⟨g, 0, none⟩) (lenP n) (lenP n), .int .i64 0]) ∧ OwnQ .u8 5 w.heap.size w' (.slice (some ⟨g, 0, none⟩) (lenP n) (lenP n)) (emsP h d s n)) ∧ Below w.heap.size w w' := by
  obtain ⟨i0, hi, hz0, hz1, hz2⟩ := info_parts infoMk
  have HK := Lib.hid hk
  have HD := Lib.hid hd
  have HS := Lib.hid hs
  have HSL := Lib.hid hs.length
  have HBD := Lib.hid (And.intro bd bs)
  have HH := Lib.hid hh
  have hS := mSize_le hh
  have HRD := Lib.hid (show decide (RoomP (h : Int) (sn : Int) (n : Int)) = true from decide_eq_true hr)
  obtain ⟨-, -, -, -, hfit⟩ := hr
  rw [Int.toNat_natCast, Int.toNat_natCast] at hfit
  obtain ⟨N, hN⟩ : ∃ N, lenP n = N := ⟨_, rfl⟩
  obtain ⟨S, hSS⟩ : ∃ S, mSize h = S := ⟨_, rfl⟩
  have hN2 : N ≤ 20000 := by rw [← hN]; unfold lenP; omega
  have hIL := innerP_len hh d s
  rw [hN, hSS] at hfit
  rw [hSS] at hdn hS hIL
  obtain ⟨K, hK⟩ : ∃ K, N = K + S + 1 := ⟨N - S - 1, by omega⟩
  obtain ⟨a, ha⟩ : ∃ a, K = a + 1 + sn := ⟨K - sn - 1, by omega⟩
  have HE := Lib.hid (show emsP h d s n = maskedP h (List.replicate a 0 ++ [1] ++ s) (innerP h d s) n ++ innerP h d s ++ [188] by
    unfold emsP blockP
    rw [hN, hSS, HSL.out, show N - S - 1 - sn - 1 = a by omega])
  have HML := Lib.hid (masked_len hh (List.replicate a 0 ++ [1] ++ s) (innerP h d s) n)
  have HMB := Lib.hid (masked_byt hh (block := List.replicate a 0 ++ [1] ++ s) (innerP h d s) n)
  have HBK := Lib.hid (show Byt (List.replicate a 0 ++ [1] ++ s) from fun x hx => by
    rcases List.mem_append.1 hx with hx | hx
    · rcases List.mem_append.1 hx with hx | hx
      · rw [(List.mem_replicate.1 hx).2]; decide
      · rw [List.mem_singleton.1 hx]; decide
    · exact bs x hx)
  have HBL := Lib.hid (show (List.replicate a 0 ++ [1] ++ s).length = K by simp [HSL.out]; omega)
  have HIB := Lib.hid (show Byt (innerP h d s) from mHash_byt hh _)
  have HNN := Lib.hid hN
  have HSS := Lib.hid hSS
  have HLP := Lib.hid (fun (W : World) => length_p n (by omega) W)
  rw [hN] at HLP
  subst hdn
  obtain ⟨tt, htt⟩ : ∃ tt, tt = a + 1 := ⟨_, rfl⟩
  obtain ⟨N1, hN1⟩ : ∃ N1, N1 = K + dn := ⟨_, rfl⟩
  have e1 : (N : Int) - (dn : Int) - 1 = (K : Int) := by omega
  have e2 : (K : Int) - (sn : Int) = (tt : Int) := by omega
  have e3 : (tt : Int) - 1 = (a : Int) := by omega
  have e4 : (N : Int) - 1 = (N1 : Int) := by omega
  have b1 : K < N := by omega
  have b2 : tt ≤ K := by omega
  have b3 : a < K := by omega
  have b4 : N1 < N := by omega
  have b5 : tt < N := by omega
  have b6 : tt + (K - tt) ≤ N := by omega
  have b7 : sn ≤ K - tt := by omega
  have b8 : dn ≤ N - K := by omega
  have hNpos : 0 < N := by omega
  have HQ := Lib.hid (show N = K + dn + 1 ∧ K = a + 1 + sn ∧ tt = a + 1 ∧ N1 = K + dn from ⟨hK, ha, htt, hN1⟩)
  clear hk hd hs bd bs hh hN hSS hK ha htt hN1 hfit
  go_enter Tryd.func34, Tryd.ntmps34
  go_wp2_with fail
  refine (room_p (h : Int) (sn : Int) (n : Int) (by omega) (by omega) (by omega) (by omega) _ HK.out).mono ?_
  rintro e w1 ⟨rfl, hb⟩
  rw [HRD.out]
  have HB := Lib.hid hb
  clear hb
  go_wp2_with fail
  refine (size_yes h HH.out _ (HK.out.below HB.out)).mono ?_
  rintro e w2 ⟨rfl, hb⟩
  rw [HSS.out]
  have HB := Lib.hid (HB.out.trans (hb.mono HB.out.size))
  clear hb
  go_wp2_with fail
  refine (inner_p h HH.out da dn dc d sa sn sc s _ (HK.out.below HB.out) (HD.out.below HB.out) (HS.out.below HB.out) HBD.out.1 HBD.out.2 (by omega) (by omega)).mono ?_
  rintro e w3 ⟨⟨ad, ic, rfl, hv, hab⟩, hb⟩
  rw [HSS.out] at hv ⊢
  have HI := Lib.hid hv
  have HB := Lib.hid (HB.out.trans (hb.mono HB.out.size))
  clear hv hab hb
  generalize innerP h d s = I at *
  go_wp2_with fail
  refine (HLP.out _).mono ?_
  rintro e w4 ⟨rfl, rfl⟩
  go_wp2_with (at_make; refine wpList_make_full _ rfl _ _ 22 rfl w3.heap.size 5 i0 (.int .u8 0) 1 Tryd.underlying22 hi hz0 hz1 _ _ _ _ N rfl rfl rfl rfl (by rw [hz2]; omega) (by unfold maxLen; omega) (Nat.le_refl _) ?_; intro w5 hown hgrow; have HO := Lib.hid (OwnQ.madeM hown rfl); have HW5 := Lib.hid (Below.grown (Below.refl w3.heap.size w3) hgrow (Nat.le_refl _) (fun _ e => by cases e)); have hc := HO.out.cellAt (by simp) a (by omega); rw [List.getElem?_replicate, if_pos (by omega)] at hc; have c0 : w5.cell? ⟨w3.heap.size, a, none⟩ = some (.int .u8 0) := hc; have f0 : w5.frozen? ⟨w3.heap.size, a, none⟩ = false := HO.out.frozenAt (by simp) a; have HO1 := Lib.hid (OwnQ.stored HO.out (by simp) a 1 1 rfl); clear hown hgrow hc)
  have HW6 := Lib.hid (HO1.out.2 w3 HW5.out)
  have HO6 := Lib.hid HO1.out.1
  clear c0 f0 HO HO1 HW5
  generalize w5.setCell ⟨w3.heap.size, a, none⟩ (.int .u8 1) = w6 at *
  have HL1 := Lib.hid (show (List.replicate N 0).set a 1 = List.replicate a 0 ++ [1] ++ List.replicate (sn + (dn + 1)) 0 by
    rw [← em_one, show N = a + 1 + (sn + (dn + 1)) by have := HQ.out; omega])
  rw [HL1.out] at HO6
  have HS6 := Lib.hid ((HS.out.below HB.out).below HW6.out)
  obtain ⟨w7, hrun, hO7, hB7⟩ := run_copy_at (P := Tryd.prog) .u8 5 w3.heap.size w6 22 22 3 5 Tryd.underlying22 (by kernel_rfl) _ _ tt (K - tt) (N - tt) sa sn sc _ s HO6.out HS6.out b7 b6
  rw [show tt = a + 1 from HQ.out.2.2.1, em_two a sn (dn + 1) s HSL.out] at hO7
  have HO7 := Lib.hid hO7
  have HW7 := Lib.hid (hB7 w3 HW6.out)
  rw [hrun]
  clear hrun hO7 hB7 HO6 HS6 HW6 HL1
  have HBL7 := Lib.hid (show Reads .u8 w7 (some ⟨w3.heap.size, 0, none⟩) K N (List.replicate a 0 ++ [1] ++ s) from by
    have h9 := HO7.out.reads.upto K (by omega)
    rw [List.take_left' HBL.out] at h9
    exact h9)
  obtain ⟨Bk, hBk⟩ : ∃ Bk, List.replicate a 0 ++ [1] ++ s = Bk := ⟨_, rfl⟩
  rw [hBk] at HO7 HBL7 HBK HBL HML HMB HE
  clear hBk
  have HMB2 := Lib.hid (HMB.out HBK.out)
  have HML2 := Lib.hid (show (maskedP h Bk I n).length = K by rw [HML.out, HBL.out])
  go_wp2_with fail
  refine (masked_p h HH.out _ K N Bk (some ad) dn ic I n _ ((HK.out.below HB.out).below HW7.out) HBL7.out (HI.out.below HW7.out) HBK.out HIB.out (by omega) (by omega) (by omega) (by omega)).mono ?_
  rintro e w8 ⟨⟨mg, mc, rfl, hv⟩, hb⟩
  have HM := Lib.hid hv
  have HO8 := Lib.hid (HO7.out.below hb)
  have HW8 := Lib.hid (HW7.out.trans (hb.mono HW7.out.size))
  clear hv hb HBL7 HO7 HW7 HML HMB
  generalize maskedP h Bk I n = M at *
  go_wp2_with fail
  obtain ⟨w9, hrun, hO9, hB9⟩ := run_copy_at (P := Tryd.prog) .u8 5 w3.heap.size w8 22 22 3 5 Tryd.underlying22 (by kernel_rfl) _ _ 0 K N _ K mc _ M HO8.out HM.out.reads (Nat.le_refl _) (by omega)
  rw [em_three Bk M K (dn + 1) HBL.out HML2.out] at hO9
  have HO9 := Lib.hid hO9
  have HW9 := Lib.hid (hB9 w3 HW8.out)
  have HI9 := Lib.hid (HI.out.below HW9.out)
  rw [hrun]
  clear hrun hO9 hB9 HO8 HM HW8
  go_wp2_with fail
  obtain ⟨wa, hrun, hOa, hBa⟩ := run_copy_at (P := Tryd.prog) .u8 5 w3.heap.size w9 22 22 3 5 Tryd.underlying22 (by kernel_rfl) _ _ K (N - K) (N - K) _ dn ic _ I HO9.out HI9.out b8 (by omega)
  rw [em_four M I K dn HML2.out hIL] at hOa
  have HOa := Lib.hid hOa
  have HWa := Lib.hid (hBa w3 HW9.out)
  rw [hrun]
  clear hrun hOa hBa HO9 HI9 HW9
  have hMI := Lib.hid (show (M ++ I).length = N1 by rw [List.length_append, HML2.out, hIL]; have := HQ.out; omega)
  have hc := HOa.out.cellAt HOa.out.cap.1 N1 b4
  have c0 : wa.cell? ⟨w3.heap.size, N1, none⟩ = some (.int .u8 0) := by
    rw [hc]
    congr 2
    rw [List.getElem?_append_right (by rw [hMI.out]; exact Nat.le_refl _), hMI.out, Nat.sub_self]
    rfl
  have f0 : wa.frozen? ⟨w3.heap.size, N1, none⟩ = false := HOa.out.frozenAt HOa.out.cap.1 N1
  have HOb := Lib.hid (OwnQ.stored HOa.out HOa.out.cap.1 N1 188 188 rfl)
  rw [em_five M I N1 hMI.out] at HOb
  have HNX := Lib.hid HNN.out
  clear hc
  go_wp2
  go_ret2
  refine ⟨⟨w3.heap.size, by rw [HNX.out]; rfl, ?_⟩, HB.out.trans ((HOb.out.2 w3 HWa.out).mono HB.out.size)⟩
  rw [HE.out, HNX.out]
  exact HOb.out.1.mono HB.out.size
end Go.Proofs.YtpefjkndfifceaaDoor

namespace Go.Proofs.YtpefjkndfifceaaDoor
open Go.RowKit
set_option maxRecDepth 100000

theorem u8s_num {x : List Nat} (h : Byt x) : (u8s x).map byt = x.map (num .u8) := by
  unfold u8s
  rw [List.map_map]
  refine List.map_congr_left fun n hn => ?_
  have := h n hn
  show byt (UInt8.ofNat n) = num .u8 n
  unfold byt num
  rw [UInt8.toNat_ofNat', Nat.mod_eq_of_lt (show n < 2 ^ 8 from this)]

/-- Three pieces of bytes, all of it the call's own. -/
structure ThreeP (B : Nat) (w : World) (v : Value) (x y z : List Nat) : Prop where
  list : ∃ X : List Oc.Row2, Oc.OwnL 22 5 B w v X ∧ X.map (·.2.2.2) = [u8s x, u8s y, u8s z]
  byts : Byt x ∧ Byt y ∧ Byt z
theorem ThreeP.same {B : Nat} {w w' : World} {v : Value} {x y z : List Nat} (h : ThreeP B w v x y z) (hs : ∀ g, B ≤ g → g < w.heap.size → w'.heap[g]? = w.heap[g]?) : ThreeP B w' v x y z := by
  obtain ⟨⟨X, h, hX⟩, hb⟩ := h
  refine ⟨⟨X, ⟨?_, fun u hu => ?_⟩, hX⟩, hb⟩
  · obtain ⟨h1, h2⟩ := h.row
    refine ⟨h1, ?_⟩
    rcases h2 with h2 | ⟨g, cap, cur, rfl, hB, hg, rest⟩
    · exact .inl h2
    · exact .inr ⟨g, cap, cur, rfl, hB, by rw [hs g hB (Array.getElem?_eq_some_iff.1 hg).1]; exact hg, rest⟩
  · obtain ⟨h1, h2⟩ := h.each u hu
    refine ⟨h1, ?_⟩
    rcases h2 with h2 | ⟨g, cap, cur, hv, hB, hg, rest⟩
    · exact .inl h2
    · exact .inr ⟨g, cap, cur, hv, hB, by rw [hs g hB (Array.getElem?_eq_some_iff.1 hg).1]; exact hg, rest⟩
theorem ThreeP.open {B : Nat} {w : World} {v : Value} {x y z : List Nat} (h : ThreeP B w v x y z) :
    ∃ g c xa xc ya yc za zc, v = .slice (some ⟨g, 0, none⟩) 3 c ∧ B ≤ g ∧ g < w.heap.size ∧ 3 ≤ c ∧ w.cell? ⟨g, 0, none⟩ = some (.slice xa x.length xc) ∧ w.cell? ⟨g, 1, none⟩ = some (.slice ya y.length yc) ∧ w.cell? ⟨g, 2, none⟩ = some (.slice za z.length zc) ∧
      OwnQ .u8 5 B w (.slice xa x.length xc) x ∧ OwnQ .u8 5 B w (.slice ya y.length yc) y ∧ OwnQ .u8 5 B w (.slice za z.length zc) z := by
  obtain ⟨⟨X, h, hX⟩, b0, b1, b2⟩ := h
  match X, hX with
  | [(a0, n0, c0, l0), (a1, n1, c1, l1), (a2, n2, c2, l2)], hX =>
    simp only [List.map_cons, List.map_nil, List.cons.injEq, and_true] at hX
    obtain ⟨rfl, rfl, rfl⟩ := hX
    have o0 := h.each _ (List.mem_cons_self ..)
    have o1 := h.each _ (List.mem_cons_of_mem _ (List.mem_cons_self ..))
    have o2 := h.each _ (List.mem_cons_of_mem _ (List.mem_cons_of_mem _ (List.mem_cons_self ..)))
    have e0 := own_of8 o0 (u8s_num b0)
    have e1 := own_of8 o1 (u8s_num b1)
    have e2 := own_of8 o2 (u8s_num b2)
    have h0 := e0.cap.1
    have h1 := e1.cap.1
    have h2 := e2.cap.1
    subst h0 h1 h2
    rcases h.form with ⟨-, hn⟩ | ⟨g, c, rfl, hc1, -, hg, hgl⟩
    · cases hn
    · exact ⟨g, c, a0, c0, a1, c1, a2, c2, rfl, hg, hgl, hc1, World.ownsRow.cellAt h.row 0 (by simp), World.ownsRow.cellAt h.row 1 (by simp), World.ownsRow.cellAt h.row 2 (by simp), e0, e1, e2⟩

theorem u8s_take (l : List Nat) (n : Nat) : (u8s l).take n = u8s (l.take n) := by unfold u8s; rw [List.map_take]
theorem u8s_drop (l : List Nat) (n : Nat) : (u8s l).drop n = u8s (l.drop n) := by unfold u8s; rw [List.map_drop]
theorem byt_take {l : List Nat} (h : Byt l) (n : Nat) : Byt (l.take n) := fun x hx => h x (List.mem_of_mem_take hx)
theorem byt_drop {l : List Nat} (h : Byt l) (n : Nat) : Byt (l.drop n) := fun x hx => h x (List.mem_of_mem_drop hx)

theorem nums_lit (w : World) (E : TypeId) (z : List Int) (cs : Array Value) (h : cs = (z.map fun n => Value.int .i64 n).toArray) (hm : z.length ≤ maxLen) : Oc.Nums (w.alloc (.cells cs E)) (some ⟨w.heap.size, 0, .none⟩) z.length z.length z := by
  subst h
  refine ⟨rfl, Nat.le_refl _, hm, fun _ => ⟨w.heap.size, 0, rfl, by simp, fun i hi => ?_⟩⟩
  rw [World.cell?_alloc_at _ _ _ _ (by simp)]
  simp [hi]

end Go.Proofs.YtpefjkndfifceaaDoor

namespace Go.Proofs.YtpefjkndfifceaaDoor
open Go.RowKit
set_option maxRecDepth 100000

/-- What is told of bytes. -/
def testsP (h sn : Nat) (b : List Nat) (n : Nat) : List Bool :=
  let S := mSize h
  let K := lenP n - S - 1
  let M := maskedP h (b.take K) ((b.drop K).take S) n
  let a := K - sn - 1
  [true, (b.drop (K + S))[0]?.getD 0 == 188, (b.take K)[0]?.getD 0 &&& (255 ^^^ lowP n) == 0, true, (Oc.bareL (u8s (M.take a))).length == 0, (((M.drop a).take 1)[0]?.getD 0) == 1]

/-- The parts that were read. -/
def PartsAt (bp : Nat) (I s : List Nat) (W : World) : Prop := ∃ ia ic sa sc B, bp < B ∧ W.cell? ⟨bp, 0, none⟩ = some (.slice ia I.length ic) ∧ W.cell? ⟨bp, 1, none⟩ = some (.slice sa s.length sc) ∧ OwnQ .u8 5 B W (.slice ia I.length ic) I ∧ OwnQ .u8 5 B W (.slice sa s.length sc) s

theorem int_beq (a b : Nat) : ((a : Int) == (b : Int)) = (a == b) := by
  by_cases h : a = b
  · subst h; simp
  · have h2 : ¬ (a : Int) = (b : Int) := by omega
    rw [beq_eq_false_iff_ne.2 h, beq_eq_false_iff_ne.2 h2]

theorem OwnQ.kp {q : IntKind} {E B : Nat} {w X : World} {v : Value} {l : List Nat} {Ex : Nat → Prop} (h : OwnQ q E B w v l) (hk : KpV Ex w X) (hn : ∀ k, B ≤ k → ¬ Ex k) : OwnQ q E B X v l := by
  obtain ⟨h1, h2⟩ := h
  refine ⟨h1, ?_⟩
  rcases h2 with h2 | ⟨g, cap, cur, rfl, hB, hg, rest⟩
  · exact .inl h2
  · exact .inr ⟨g, cap, cur, rfl, hB, by rw [hk.2 g (Array.getElem?_eq_some_iff.1 hg).1 (hn g hB)]; exact hg, rest⟩

theorem OwnQ.blk {q : IntKind} {E B : Nat} {w : World} {g n c : Nat} {l : List Nat} (h : OwnQ q E B w (.slice (some ⟨g, 0, none⟩) n c) l) : B ≤ g := by
  rcases h.2 with ⟨h, -⟩ | ⟨_, _, _, h, hb, -⟩
  · cases h
  · cases h; exact hb

theorem grown_cellP (W : World) (a : Addr) (v : Value) : W.grownBy (W.setCell a v) (some a.block) :=
  ⟨rfl, rfl, rfl, (KeepsWalks.setCell W _ v).size, fun k _ hk => Below.heap_setCell _ _ _ k (fun e => hk (by rw [e]))⟩
theorem grown_drewP (w : World) : w.grownBy w.drew none := ⟨rfl, rfl, rfl, Nat.le_refl _, fun _ _ _ => rfl⟩

theorem cut_prop {X Y : Prop} (f : Hid X → Y) (x : X) : Y := f (Lib.hid x)

theorem u8_xor_nat (x y : Nat) (hx : x < 256) (hy : y < 256) : bits BinOp.xor IntKind.u8 (x : Int) (y : Int) = ((x ^^^ y : Nat) : Int) := by
  have := Oc.xor8 (UInt8.ofNat x) (UInt8.ofNat y)
  rw [UInt8.toNat_xor, UInt8.toNat_ofNat', UInt8.toNat_ofNat', Nat.mod_eq_of_lt (show x < 2 ^ 8 from hx), Nat.mod_eq_of_lt (show y < 2 ^ 8 from hy)] at this
  exact this

def encBp (x : Bool) : Array Value := #[.bool x]

theorem KpV.below {E : Nat → Prop} {W X : World} (h : Below W.heap.size W X) : KpV E W X := ⟨h.size, fun k hk _ => h.block k hk⟩
theorem KpV.cellP {E : Nat → Prop} {W X : World} (h : KpV E W X) {a : Addr} {v : Value} (hv : W.cell? a = some v) (hn : ¬ E a.block) : X.cell? a = some v := (World.cell?_of_block (h.2 a.block (World.block_lt_of_cell? W a hv) hn)).trans hv
theorem KpV.drewR {E : Nat → Prop} {W X : World} (h : KpV E W X) : KpV E W X.drew := h

end Go.Proofs.YtpefjkndfifceaaDoor

namespace Go.Proofs.YtpefjkndfifceaaDoor
open Go.RowKit
set_option maxRecDepth 100000

end Go.Proofs.YtpefjkndfifceaaDoor
