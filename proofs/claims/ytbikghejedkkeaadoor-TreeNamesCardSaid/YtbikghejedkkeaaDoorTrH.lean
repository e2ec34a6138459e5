/-
  HOW MANY NODES A TREE HAS, AND HOW DEEP IT IS: tree.Count.
-/
import Derived.Test.YtbikghejedkkeaaDoorTrG
import Derived.Laws.ResultCell
import Derived.RangeFuncNested
import Derived.WalkMore
namespace Go.Proofs.YtbikghejedkkeaaDoor
open Go.RowKit Go.Shelf
attribute [local go_sem] Oper.semAt_some

theorem results_cell_cell {fn : Func} {p q : Tmp} {ty ty' : TypeId} (h : fn.results = #[.cell p ty, .cell q ty']) (tmps : Array Value) (P : Program) (w : World) :
    (results fn tmps).run P w =
      ((asAddr (tmps.getD p undef)).run P w).andThen fun a w₁ => ((loadVar ty a).run P w₁).andThen fun v w₂ => ((asAddr (tmps.getD q undef)).run P w₂).andThen fun a' w₃ => ((loadVar ty' a').run P w₃).andThen fun v' w₄ => .ok (.tuple #[v, v']) w₄ := by
  simp only [results, h]
  simp [Sem.run_bind, Result.andThen]

theorem boxed_oth {W : World} {B : Nat} {t : TypeId} {v : Value} (h : Boxed W B t v) (p : Addr) (u : Value) (hp : B ≠ p.block) : Boxed (W.setCell p u) B t v := (Below.heap_setCell W p u B hp).trans h
theorem KpV.setCell {E : Nat → Prop} (W : World) (p : Addr) (v : Value) (h : E p.block) : KpV E W (W.setCell p v) :=
  ⟨by simp, fun k _ he => Below.heap_setCell W p v k (fun e => he (e ▸ h))⟩

/-- The loop's variable: a place in a block of its own. -/
def PlaceAt {w0 : World} {P : Tr → Prop} (T : TypeId) (B : Nat) (x : Spot w0 P) (q : Nat) (W : World) : Prop := B ≤ q ∧ W.heap[q]? = some (.cells #[.pointer (some ⟨x.b, x.off, none⟩), .int .i64 (x.d : Int)] T (0, 0))
theorem PlaceAt.st {w0 : World} {P : Tr → Prop} {T : TypeId} {B : Nat} {x : Spot w0 P} {q : Nat} {W W' : World} {row : Option Nat} (h : PlaceAt T B x q W) (hg : W.grownBy W' row) (hr : ∀ r, row = some r → ∃ o : Obj, W.heap[r]? = some o ∧ o.isCells = false) : PlaceAt T B x q W' :=
  ⟨h.1, (hg.block q (Array.getElem?_eq_some_iff.1 h.2).1 (fun e => by obtain ⟨o, ho, hc⟩ := hr q e.symm; rw [h.2] at ho; cases ho; cases hc)).trans h.2⟩
theorem PlaceAt.c0 {w0 : World} {P : Tr → Prop} {T : TypeId} {B : Nat} {x : Spot w0 P} {q : Nat} {W : World} (h : PlaceAt T B x q W) : W.cell? ⟨q, 0, none⟩ = some (.pointer (some ⟨x.b, x.off, none⟩)) := by
  rw [cell_of_row W q 0 _ T (0, 0) h.2]; rfl
theorem PlaceAt.c1 {w0 : World} {P : Tr → Prop} {T : TypeId} {B : Nat} {x : Spot w0 P} {q : Nat} {W : World} (h : PlaceAt T B x q W) : W.cell? ⟨q, 1, none⟩ = some (.int .i64 (x.d : Int)) := by
  rw [cell_of_row W q 1 _ T (0, 0) h.2]; rfl

theorem wpIn_cutX {F : Fence} {n : Nat} {P : Program} {c : Code} {Q : Exit → Act → World → Prop} {a : Act} {w : World} (R : World → Prop) (h : ∃ ac : Act, c.wpIn F n P (fun ex a' w' => ex = .normal ∧ a' = ac ∧ R w') a w ∧ ∀ w', R w' → Q .normal ac w') : c.wpIn F n P Q a w := by
  obtain ⟨ac, h, h2⟩ := h
  exact wpIn_mono h fun e a' w' ⟨h1, h3, h4⟩ => by subst h1; subst h3; exact h2 w' h4

/-- Two results' cells, stored again. -/
structure TwoCells (w : World) (A D : Nat) (x y : Int) (W : World) : Prop where
  c : W.cell? ⟨A + 1, 0, none⟩ = some (.int .i64 x)
  d : W.cell? ⟨A + 2, 0, none⟩ = some (.int .i64 y)
  below : Below w.heap.size w W
  def' : W.heap[D]? = some (.deferred (some []))
theorem TwoCells.mk' {w W : World} {A D : Nat} {x y : Int} (hA : w.heap.size = A) (hD : A + 4 ≤ D) (c : W.cell? ⟨A + 1, 0, none⟩ = some (.int .i64 x)) (d : W.cell? ⟨A + 2, 0, none⟩ = some (.int .i64 y)) (hb : Below w.heap.size w W) (hK : W.heap[D]? = some (.deferred (some []))) :
    TwoCells w A D x y ((W.setCell ⟨A + 1, 0, none⟩ (.int .i64 x)).setCell ⟨A + 1 + 1, 0, none⟩ (.int .i64 y)).drew := by
  refine ⟨?_, ?_, ((hb.setCell (p := ⟨A + 1, 0, none⟩) (by show w.heap.size ≤ A + 1; omega) _).setCell (p := ⟨A + 1 + 1, 0, none⟩) (by show w.heap.size ≤ A + 1 + 1; omega) _).drew, ?_⟩
  · show ((W.setCell ⟨A + 1, 0, none⟩ (.int .i64 x)).setCell ⟨A + 1 + 1, 0, none⟩ (.int .i64 y)).cell? ⟨A + 1, 0, none⟩ = _
    rw [World.cell?_setCell_far _ _ _ _ (by show A + 1 + 1 ≠ A + 1; omega)]
    exact World.cell?_setCell_same _ _ _ c
  · show ((W.setCell ⟨A + 1, 0, none⟩ (.int .i64 x)).setCell ⟨A + 1 + 1, 0, none⟩ (.int .i64 y)).cell? ⟨A + 1 + 1, 0, none⟩ = _
    refine World.cell?_setCell_same _ _ _ (u := .int .i64 y) ?_
    rw [World.cell?_setCell_far _ _ _ _ (by show A + 1 ≠ A + 1 + 1; omega)]
    exact d
  · show ((W.setCell ⟨A + 1, 0, none⟩ (.int .i64 x)).setCell ⟨A + 1 + 1, 0, none⟩ (.int .i64 y)).heap[D]? = _
    rw [Below.heap_setCell _ _ _ _ (by show D ≠ A + 1 + 1; omega), Below.heap_setCell _ _ _ _ (by show D ≠ A + 1; omega)]
    exact hK

/-- What the rounds of Count keep. -/
structure CntI {w0 : World} {P : Tr → Prop} (w : World) (A : Nat) (pre : List (Spot w0 P)) (W : World) : Prop where
  n : Boxed W (A + 1) 3 (.int .i64 (pre.length : Nat))
  d : Boxed W (A + 2) 3 (.int .i64 (maxD (pre.map Spot.at) : Nat))
  lt : A + 4 ≤ W.heap.size
  below : Below w.heap.size w W

theorem CntI.st {w0 w : World} {P : Tr → Prop} {A : Nat} (hA : w.heap.size = A) {pre : List (Spot w0 P)} {W W' : World} {row : Option Nat} (h : CntI w A pre W) (hg : W.grownBy W' row) (hr : ∀ r, row = some r → A + 4 ≤ r) : CntI w A pre W' :=
  ⟨h.n.kept hg fun e => by (have := hr _ e.symm; omega), h.d.kept hg fun e => by (have := hr _ e.symm; omega), Nat.le_trans h.lt hg.size, h.below.grown hg h.below.size fun r e => by have := hr r e; omega⟩

theorem CntI.step {w0 w : World} {P : Tr → Prop} {A : Nat} (hA : w.heap.size = A) {pre : List (Spot w0 P)} {W : World} (h : CntI w A pre W) (x : Spot w0 P) (n v : Int) (hn : n = ((pre.length + 1 : Nat) : Int)) (hv : v = ((maxD ((pre ++ [x]).map Spot.at) : Nat) : Int)) :
    CntI w A (pre ++ [x]) ((W.setCell ⟨A + 1, 0, none⟩ (.int .i64 n)).setCell ⟨A + 1 + 1, 0, none⟩ (.int .i64 v)) := by
  subst hn hv
  refine ⟨?_, ?_, by simpa using h.lt, (h.below.setCell (p := ⟨A + 1, 0, none⟩) (by show w.heap.size ≤ A + 1; omega) _).setCell (p := ⟨A + 1 + 1, 0, none⟩) (by show w.heap.size ≤ A + 1 + 1; omega) _⟩
  · rw [List.length_append]
    exact boxed_oth (h.n.set _) _ _ (by show A + 1 ≠ A + 1 + 1; omega)
  · exact (boxed_oth h.d _ _ (by show A + 2 ≠ A + 1; omega)).set _

theorem maxD_snoc (l : List (Nat × Tr)) (x : Nat × Tr) : maxD (l ++ [x]) = max (maxD l) x.1 := by
  rw [maxD_append]
  simp [maxD]

theorem int_max (a b : Nat) : (if (a : Int) < (b : Int) then (b : Int) else (a : Int)) = ((max a b : Nat) : Int) := by split <;> omega

set_option maxRecDepth 100000 in
set_option maxHeartbeats 4000000 in
theorem count_any (V : NV) (T : Tr) (w : World) (hn : NodeAt w V T) (hN : T.cnt ≤ 1000000) (hd : T.dep ≤ 1000000) :
    Calls Tryd.prog 13 #[V.agg] w fun e w' => e = .returned (.tuple #[.int .i64 (T.cnt : Nat), .int .i64 (T.dep : Nat)]) ∧ Below w.heap.size w w' := by
  obtain ⟨c, t, k, ba, bl, bc, ka, kl, kc⟩ := V
  obtain ⟨w0, hw0⟩ : ∃ w0, w.alloc (.cells #[.int .i64 c, .int .i64 t, .bool k, .slice ba bl bc, .slice ka kl kc] 25) = w0 := ⟨_, rfl⟩
  have hz0 : w0.heap.size = w.heap.size + 1 := by rw [← hw0]; simp
  have hb0 : Below w.heap.size w w0 := by rw [← hw0]; exact (Below.refl _ _).alloc (Nat.le_refl _) _
  have hn0 := hn.under hb0
  have hc0 : CellsAt w0 w.heap.size 0 ⟨c, t, k, ba, bl, bc, ka, kl, kc⟩ := by
    rw [← hw0]
    constructor <;> simp
  have HN0 := Lib.hid hn0
  have HC0 := Lib.hid hc0
  have HB0 := Lib.hid hb0
  have HZ0 := Lib.hid hz0
  have HB1 := Lib.hid (((hb0.alloc (by omega) (.cells #[.int .i64 0] 3)).alloc (by simp; omega) (.cells #[.int .i64 0] 3)).alloc (by simp; omega) (.cells #[.pointer (some ⟨w.heap.size, 0, none⟩)] 48))
  have x1 := Lib.hid (((Boxed.new w0 3 (.int .i64 0)).alloc (.cells #[.int .i64 0] 3)).alloc (.cells #[.pointer (some ⟨w.heap.size, 0, none⟩)] 48))
  have x2 := Lib.hid ((Boxed.new (w0.alloc (.cells #[.int .i64 0] 3)) 3 (.int .i64 0)).alloc (.cells #[.pointer (some ⟨w.heap.size, 0, none⟩)] 48))
  have x3 := Lib.hid (Boxed.new ((w0.alloc (.cells #[.int .i64 0] 3)).alloc (.cells #[.int .i64 0] 3)) 48 (.pointer (some ⟨w.heap.size, 0, none⟩)))
  have HND := Lib.hid (And.intro hN hd)
  clear hn hn0 hc0 hb0 hz0 hN hd
  unfold NV.agg
  dsimp only
  refine (callsIn_wide (n := 3)).1 ?_
  refine callsIn_of_wp_marks Tryd.func13 rfl trivial ?_ rfl
  simp only [Tryd.ntmps13, List.size_toArray, List.length_cons, List.length_nil, Nat.reduceAdd, Nat.reduceSub, Array.replicate_succ, Array.replicate_zero, List.push_toArray, List.append_toArray, List.nil_append, List.cons_append]
  gi_wp2_with fail
  refine ⟨trivial, ?_⟩
  refine (callsIn_wide.2 (all_any _ _ _)).mono ?_
  rintro e w' ⟨rfl, rfl⟩
  clear hw0
  gi_wp2_with fail
  simp only [World.size_alloc, HZ0.out] at x1 x2 x3 HB1 ⊢
  obtain ⟨W0, hW0⟩ : ∃ W0, (((w0.alloc (.cells #[.int .i64 0] 3)).alloc (.cells #[.int .i64 0] 3)).alloc (.cells #[.pointer (some ⟨w.heap.size, 0, none⟩)] 48)) = W0 := ⟨_, rfl⟩
  have hzW : W0.heap.size = w.heap.size + 4 := by rw [← hW0]; simp [HZ0.out]
  have hWk : Hid (∀ k, k < w0.heap.size → W0.heap[k]? = w0.heap[k]?) := fun k hk => by
    rw [← hW0]
    exact ((((Below.refl _ w0).alloc (Nat.le_refl _) _).alloc (by simp) _).alloc (by simp; omega) _).block k hk
  rw [hW0] at x1 x2 x3 HB1 ⊢
  have HZW := Lib.hid hzW
  clear hW0 hzW
  generalize hA : w.heap.size = A at *
  have HA := Lib.hid hA
  have h1 : 1 ≤ 3 := by decide
  refine wpIn_rangeX (F := Fence.wide) rfl h1 (gf := 40) (lb := #[.pointer (some ⟨A + 1 + 1 + 1, 0, none⟩)]) rfl trivial (enters_of Tryd.func40 (by kernel_rfl) rfl)
    (all_comes (3 - 1) w0 (fun _ => True) (fun k => k = A + 1 ∨ k = A + 2) HN0.out A 0 HC0.out (fun _ _ => trivial) (by have := HND.out; omega) W0 (A + 3) x3.out.cell (fun k hk => by have := HZ0.out; have := HZW.out; omega) hWk.out (by have := HZ0.out; have := HZW.out; omega))
    (fun k hk => hk.elim) (Below.refl _ _) (fun _ => rfl)
    (fun pre W => CntI w A pre W) (fun c pre W => False)
    (fun s X X' row h hg hr => h.st HA.out hg (fun r e => by have := HZW.out; rcases hr r e with h | ⟨h, h2⟩ <;> first | exact h.elim | omega))
    (fun c s X X' row h hg hr => h)
    (fun pre x X h => trivial) (fun s X X' row h hg hr => trivial)
    ⟨x1.out, x2.out, by have := HZW.out; omega, by have := HA.out; subst this; exact HB1.out⟩
    (fun x a' W => ∃ q, PlaceAt 57 (A + 4) x q W ∧ a' = { tmps := #[.agg #[.int .i64 c, .int .i64 t, .bool k, .slice ba bl bc, .slice ka kl kc], .pointer (some ⟨A, 0, none⟩), .pointer (some ⟨A + 1, 0, none⟩), .pointer (some ⟨A + 1 + 1, 0, none⟩), .pointer (some ⟨q, 0, none⟩), .func (.func 40) #[] #[.pointer (some ⟨A + 1 + 1 + 1, 0, none⟩)], .agg #[.pointer (some ⟨x.b, x.off, none⟩), .int .i64 (x.d : Int)], undef, undef, undef, undef, undef, undef, undef, undef], defers := [] })
    (fun x a' _ X X' row h hg hr => by
      obtain ⟨q, hq, ha⟩ := h
      exact ⟨q, hq.st hg (fun r e => by rcases hr r e with h | ⟨h, h2⟩ <;> first | exact h.elim | exact h2), ha⟩) ?_ ?_ ?_ ?_
  · intro lp x W K hs hK
    dsimp only [encS]
    have HK := Lib.hid hK
    clear hK
    gi_wp2
    exact HK.out _ _ (World.grownBy_alloc W _ none) ⟨W.heap.size, ⟨by have := HZW.out; omega, World.alloc_heap_new W _⟩, rfl⟩
  · rintro lp pre x a' W hlt hI ⟨q, hq, rfl⟩
    have cn := hI.n.cell
    have fn := hI.n.frozen
    have cd := hI.d.cell
    have fd := hI.d.frozen
    have q1 := hq.c1
    have HI := Lib.hid hI
    have HQ := Lib.hid hq
    have hpl : pre.length ≤ 1000000 := by have := HND.out; omega
    have HLT := Lib.hid hlt
    have HMX := Lib.hid (maxD_snoc (pre.map Spot.at) x.at)
    have HXD := Lib.hid (show x.at.1 = x.d from rfl)
    have hne : q ≠ A + 1 := by have := hq.1; omega
    clear hI hq hlt
    generalize hm : maxD (pre.map Spot.at) = m at *
    generalize hpn : pre.length = pn at *
    have HPN := Lib.hid (And.intro hpn hm)
    clear hpn hm
    have kp : ∀ n v : Int, KeepsFrom W0.heap.size W ((W.setCell ⟨A + 1, 0, none⟩ (.int .i64 n)).setCell ⟨A + 1 + 1, 0, none⟩ (.int .i64 v)) ∧ KpV (fun k => k = A + 1 ∨ k = A + 2) W ((W.setCell ⟨A + 1, 0, none⟩ (.int .i64 n)).setCell ⟨A + 1 + 1, 0, none⟩ (.int .i64 v)) :=
      fun n v => ⟨((KeepsOthers.setCell _ _ _).trans (KeepsOthers.setCell _ _ _)).from _, (KpV.setCell _ _ _ (.inl rfl)).trans (KpV.setCell _ _ _ (.inr rfl))⟩
    have KP := Lib.hid kp
    clear kp
    gi_wp2
    all_goals
      have hlast : maxD ((pre ++ [x]).map Spot.at) = max m x.d := by
        rw [List.map_append, List.map_cons, List.map_nil, HMX.out, HXD.out]
      refine ⟨(KP.out _ _).1, (KP.out _ _).2, HI.out.step HA.out x _ _ (by rw [HPN.out.1]; omega) (by rw [hlast]; omega)⟩
  · rintro D xs W hD hxs hI - hK
    have cn := hI.n.cell
    have fn := hI.n.frozen
    have cd := hI.d.cell
    have fd := hI.d.frozen
    have hl : xs.length = T.cnt := by rw [← Tr.nodes_length 1 T, ← hxs, List.length_map]
    have hm : maxD (xs.map Spot.at) = T.dep := by rw [hxs]; exact (Tr.maxD_nodes 0 T).trans (Nat.zero_add _)
    rw [hl] at cn
    rw [hm] at cd
    have HI := Lib.hid hI
    have HK := Lib.hid hK
    clear hI hxs hl hm hK
    gi_wp2_with fail
    refine wpIn_cutX (TwoCells w A D T.cnt T.dep) ?_
    apply Exists.intro
    apply And.intro
    case left =>
      refine wpIn_wide.2 ?_
      go_region
      exact ⟨rfl, rfl, TwoCells.mk' HA.out (by have := HZW.out; omega) cn cd HI.out.below HK.out⟩
    case right =>
      rintro V2 ⟨c2, d2, hb2, hk2⟩
      have HB2 := Lib.hid hb2
      have HK2 := Lib.hid hk2
      have e1 : (V2.putObj D (.deferred none)).cell? ⟨A + 1, 0, none⟩ = some (.int .i64 (T.cnt : Int)) := (World.cell?_of_block (a := ⟨A + 1, 0, none⟩) (World.putObj_heap_other (by have := HZW.out; show A + 1 ≠ D; omega))).trans c2
      have e2 : (V2.putObj D (.deferred none)).cell? ⟨A + 2, 0, none⟩ = some (.int .i64 (T.dep : Int)) := (World.cell?_of_block (a := ⟨A + 2, 0, none⟩) (World.putObj_heap_other (by have := HZW.out; show A + 2 ≠ D; omega))).trans d2
      clear hb2 hk2
      gi_wp2_with fail
      refine ⟨by simp, .inl ⟨_, _, rfl, run_takeDeferred HK2.out, ?_⟩⟩
      refine ⟨.tuple #[.int .i64 (T.cnt : Int), .int .i64 (T.dep : Int)], ?_, rfl, ?_⟩
      · rw [results_cell_cell rfl]
        go_simp
      · rw [← HA.out]
        exact HB2.out.grown (grownBy_putObj' V2 D _) HB2.out.size (fun r e => by have := HZW.out; have := HA.out; cases e; omega)
  · rintro D c' pre W hD - hF hK
    exact hF.elim

end Go.Proofs.YtbikghejedkkeaaDoor
