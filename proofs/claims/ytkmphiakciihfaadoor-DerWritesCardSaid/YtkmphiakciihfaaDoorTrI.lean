/-
  THE FIRST RULE THAT A TREE BREAKS, AND BY WHICH NODE: tree.Wrong; tree.Check.
-/
import Derived.Test.YtkmphiakciihfaaDoorTrE
import Derived.Test.YtkmphiakciihfaaDoorTrH
namespace Go.Proofs.YtkmphiakciihfaaDoor
open Go.RowKit Go.Shelf
attribute [local go_sem] Oper.semAt_some

/-- One node more. -/
def wstep (q : Int → List Nat → Bool) (s : Int × Int × Nat) (p : Nat × Tr) : Int × Int × Nat :=
  if s.2.2 = 4000 then (6, 0, s.2.2 + 1)
  else if s.1 = 0 then (if brokenN q p.2 = 0 then (0, s.2.1, s.2.2 + 1) else (brokenN q p.2, (s.2.2 : Int), s.2.2 + 1))
  else (s.1, s.2.1, s.2.2 + 1)

def wfold (q : Int → List Nat → Bool) (l : List (Nat × Tr)) : Int × Int × Nat := l.foldl (wstep q) (0, -1, 0)

theorem wstep_count (q : Int → List Nat → Bool) (s : Int × Int × Nat) (p : Nat × Tr) : (wstep q s p).2.2 = s.2.2 + 1 := by
  unfold wstep
  split
  · rfl
  · split
    · split <;> rfl
    · rfl

theorem wfold_snoc (q : Int → List Nat → Bool) (l : List (Nat × Tr)) (x : Nat × Tr) : wfold q (l ++ [x]) = wstep q (wfold q l) x := by
  unfold wfold
  rw [List.foldl_append]
  rfl

theorem wfold_count (q : Int → List Nat → Bool) (l : List (Nat × Tr)) : (wfold q l).2.2 = l.length := by
  have h : ∀ (l : List (Nat × Tr)) (s : Int × Int × Nat), (l.foldl (wstep q) s).2.2 = s.2.2 + l.length := fun l => by
    induction l with
    | nil => intro s; rfl
    | cons x xs ih => intro s; rw [List.foldl_cons, ih, wstep_count, List.length_cons]; omega
  have := h l (0, -1, 0)
  simpa [wfold] using this

def deepB (l : List (Nat × Tr)) : Bool := l.any fun p => decide (24 < p.1)

/-- What Wrong answers. -/
def wrongR (q : Int → List Nat → Bool) (T : Tr) : Int × Int :=
  if deepB (T.nodes 1) then (5, 0) else ((wfold q (T.nodes 1)).1, (wfold q (T.nodes 1)).2.1)

/-- What the rounds of Wrong keep. -/
structure WrI (q : Int → List Nat → Bool) {w0 : World} {P : Tr → Prop} (A : Nat) (pre : List (Spot w0 P)) (W : World) : Prop where
  r : Boxed W (A + 1) 3 (.int .i64 (wfold q (pre.map Spot.at)).1)
  a : Boxed W (A + 2) 3 (.int .i64 (wfold q (pre.map Spot.at)).2.1)
  n : Boxed W (A + 3) 3 (.int .i64 (pre.length : Nat))
  flat : deepB (pre.map Spot.at) = false
  lt : A + 5 ≤ W.heap.size
  below : Below w0.heap.size w0 W

theorem WrI.st {q : Int → List Nat → Bool} {w0 : World} {P : Tr → Prop} {A : Nat} (hA : w0.heap.size = A + 1) {pre : List (Spot w0 P)} {W W' : World} {row : Option Nat} (h : WrI q A pre W) (hg : W.grownBy W' row) (hr : ∀ r, row = some r → A + 5 ≤ r) : WrI q A pre W' :=
  ⟨h.r.kept hg fun e => by (have := hr _ e.symm; omega), h.a.kept hg fun e => by (have := hr _ e.symm; omega), h.n.kept hg fun e => by (have := hr _ e.symm; omega), h.flat, Nat.le_trans h.lt hg.size, h.below.grown hg h.below.size fun r e => by have := hr r e; omega⟩

/-- .. and where they break off. -/
structure WrX {w0 : World} {P : Tr → Prop} (A : Nat) (c : Code) (pre : List (Spot w0 P)) (W : World) : Prop where
  c : c = .exit 0
  r : Boxed W (A + 1) 3 (.int .i64 5)
  a : Boxed W (A + 2) 3 (.int .i64 0)
  deep : deepB (pre.map Spot.at) = true
  lt : A + 5 ≤ W.heap.size
  below : Below w0.heap.size w0 W

theorem WrX.st {w0 : World} {P : Tr → Prop} {A : Nat} (hA : w0.heap.size = A + 1) {c : Code} {pre : List (Spot w0 P)} {W W' : World} {row : Option Nat} (h : WrX A c pre W) (hg : W.grownBy W' row) (hr : ∀ r, row = some r → A + 5 ≤ r) : WrX A c pre W' :=
  ⟨h.c, h.r.kept hg fun e => by (have := hr _ e.symm; omega), h.a.kept hg fun e => by (have := hr _ e.symm; omega), h.deep, Nat.le_trans h.lt hg.size, h.below.grown hg h.below.size fun r e => by have := hr r e; omega⟩

/-- What a round keeps. -/
def Kp2 (B : Nat) (E : Nat → Prop) (W W' : World) : Prop := KeepsFrom B W W' ∧ KpV E W W'
theorem Kp2.below {B : Nat} {E : Nat → Prop} {W W' : World} (h : Below W.heap.size W W') : Kp2 B E W W' :=
  ⟨⟨h.size, fun k o _ hk _ => (h.block k (Array.getElem?_eq_some_iff.1 hk).1).trans hk⟩, h.size, fun k hk _ => h.block k hk⟩
theorem Kp2.set {B : Nat} {E : Nat → Prop} {W W' : World} (h : Kp2 B E W W') (p : Addr) (v : Value) (hp : E p.block) : Kp2 B E W (W'.setCell p v) :=
  ⟨h.1.trans ((KeepsOthers.setCell _ _ _).from _), h.2.trans (KpV.setCell _ _ _ hp)⟩

abbrev WrE (A k : Nat) : Prop := k = A + 1 ∨ k = A + 2 ∨ k = A + 3

/-- One round's stores: of the count alone; of the rule as well; of all three. -/
theorem WrI.step1 {q : Int → List Nat → Bool} {w0 : World} {P : Tr → Prop} {A : Nat} (hA : w0.heap.size = A + 1) {pre : List (Spot w0 P)} {W W2 : World} (h : WrI q A pre W) (hb : Below W.heap.size W W2) (x : Spot w0 P) (n : Int) (hn : n = ((pre.length + 1 : Nat) : Int)) (hd : ¬ 24 < x.d)
    (hs : (wfold q ((pre ++ [x]).map Spot.at)).1 = (wfold q (pre.map Spot.at)).1 ∧ (wfold q ((pre ++ [x]).map Spot.at)).2.1 = (wfold q (pre.map Spot.at)).2.1) :
    WrI q A (pre ++ [x]) (W2.setCell ⟨A + 1 + 1 + 1, 0, none⟩ (.int .i64 n)) := by
  subst hn
  have hlt := h.lt
  have bx : ∀ {k : Nat} {v : Value}, Boxed W k 3 v → Boxed W2 k 3 v := fun hb' => (hb.block _ hb'.lt).trans hb'
  refine ⟨?_, ?_, ?_, ?_, by have := hb.size; simp; omega, (h.below.trans (hb.mono h.below.size)).setCell (p := ⟨A + 1 + 1 + 1, 0, none⟩) (by show w0.heap.size ≤ A + 1 + 1 + 1; omega) _⟩
  · rw [hs.1]; exact boxed_oth (bx h.r) _ _ (by show A + 1 ≠ A + 1 + 1 + 1; omega)
  · rw [hs.2]; exact boxed_oth (bx h.a) _ _ (by show A + 2 ≠ A + 1 + 1 + 1; omega)
  · rw [List.length_append]; exact (bx h.n).set _
  · have := h.flat
    simp only [deepB, List.map_append, List.any_append, List.map_cons, List.map_nil, List.any_cons, List.any_nil, Bool.or_false] at this ⊢
    rw [this, Bool.false_or, decide_eq_false_iff_not]
    exact hd

theorem WrI.pre2 {q : Int → List Nat → Bool} {w0 : World} {P : Tr → Prop} {A : Nat} (hA : w0.heap.size = A + 1) {pre : List (Spot w0 P)} {W W2 : World} (h : WrI q A pre W) (hb : Below W.heap.size W W2) (x : Spot w0 P) (r n : Int) (hn : n = ((pre.length + 1 : Nat) : Int)) (hd : ¬ 24 < x.d)
    (hs : (wfold q ((pre ++ [x]).map Spot.at)).1 = r ∧ (wfold q ((pre ++ [x]).map Spot.at)).2.1 = (wfold q (pre.map Spot.at)).2.1) :
    WrI q A (pre ++ [x]) ((W2.setCell ⟨A + 1, 0, none⟩ (.int .i64 r)).setCell ⟨A + 1 + 1 + 1, 0, none⟩ (.int .i64 n)) := by
  subst hn
  have hlt := h.lt
  have bx : ∀ {k : Nat} {v : Value}, Boxed W k 3 v → Boxed W2 k 3 v := fun hb' => (hb.block _ hb'.lt).trans hb'
  refine ⟨?_, ?_, ?_, ?_, by have := hb.size; simp; omega, ((h.below.trans (hb.mono h.below.size)).setCell (p := ⟨A + 1, 0, none⟩) (by show w0.heap.size ≤ A + 1; omega) _).setCell (p := ⟨A + 1 + 1 + 1, 0, none⟩) (by show w0.heap.size ≤ A + 1 + 1 + 1; omega) _⟩
  · rw [hs.1]; exact boxed_oth ((bx h.r).set _) _ _ (by show A + 1 ≠ A + 1 + 1 + 1; omega)
  · rw [hs.2]; exact boxed_oth (boxed_oth (bx h.a) _ _ (by show A + 2 ≠ A + 1; omega)) _ _ (by show A + 2 ≠ A + 1 + 1 + 1; omega)
  · rw [List.length_append]; exact (boxed_oth (bx h.n) _ _ (by show A + 3 ≠ A + 1; omega)).set _
  · have := h.flat
    simp only [deepB, List.map_append, List.any_append, List.map_cons, List.map_nil, List.any_cons, List.any_nil, Bool.or_false] at this ⊢
    rw [this, Bool.false_or, decide_eq_false_iff_not]
    exact hd

theorem WrI.step3 {q : Int → List Nat → Bool} {w0 : World} {P : Tr → Prop} {A : Nat} (hA : w0.heap.size = A + 1) {pre : List (Spot w0 P)} {W W2 : World} (h : WrI q A pre W) (hb : Below W.heap.size W W2) (x : Spot w0 P) (r a n : Int) (hn : n = ((pre.length + 1 : Nat) : Int)) (hd : ¬ 24 < x.d)
    (hs : (wfold q ((pre ++ [x]).map Spot.at)).1 = r ∧ (wfold q ((pre ++ [x]).map Spot.at)).2.1 = a) :
    WrI q A (pre ++ [x]) (((W2.setCell ⟨A + 1, 0, none⟩ (.int .i64 r)).setCell ⟨A + 1 + 1, 0, none⟩ (.int .i64 a)).setCell ⟨A + 1 + 1 + 1, 0, none⟩ (.int .i64 n)) := by
  subst hn
  have hlt := h.lt
  have bx : ∀ {k : Nat} {v : Value}, Boxed W k 3 v → Boxed W2 k 3 v := fun hb' => (hb.block _ hb'.lt).trans hb'
  refine ⟨?_, ?_, ?_, ?_, by have := hb.size; simp; omega, (((h.below.trans (hb.mono h.below.size)).setCell (p := ⟨A + 1, 0, none⟩) (by show w0.heap.size ≤ A + 1; omega) _).setCell (p := ⟨A + 1 + 1, 0, none⟩) (by show w0.heap.size ≤ A + 1 + 1; omega) _).setCell (p := ⟨A + 1 + 1 + 1, 0, none⟩) (by show w0.heap.size ≤ A + 1 + 1 + 1; omega) _⟩
  · rw [hs.1]; exact boxed_oth (boxed_oth ((bx h.r).set _) _ _ (by show A + 1 ≠ A + 1 + 1; omega)) _ _ (by show A + 1 ≠ A + 1 + 1 + 1; omega)
  · rw [hs.2]; exact boxed_oth ((boxed_oth (bx h.a) _ _ (by show A + 2 ≠ A + 1; omega)).set _) _ _ (by show A + 2 ≠ A + 1 + 1 + 1; omega)
  · rw [List.length_append]; exact (boxed_oth (boxed_oth (bx h.n) _ _ (by show A + 3 ≠ A + 1; omega)) _ _ (by show A + 3 ≠ A + 1 + 1; omega)).set _
  · have := h.flat
    simp only [deepB, List.map_append, List.any_append, List.map_cons, List.map_nil, List.any_cons, List.any_nil, Bool.or_false] at this ⊢
    rw [this, Bool.false_or, decide_eq_false_iff_not]
    exact hd

set_option maxRecDepth 100000 in
set_option maxHeartbeats 4000000 in
theorem wrong_any (L : World → Prop) (hL : ∀ W W', L W → Below W.heap.size W W' → L W') (q : Int → List Nat → Bool) (V : NV) (T : Tr) (w : World) (hn : NodeAt w V T) (hN : T.cnt ≤ 1000000) (hd : T.dep ≤ 1000000) (hl : L w) (hq : ∀ p ∈ T.nodes 1, WantedOk L q p.2.tag) :
    Calls Tryd.prog 54 #[V.agg] w fun e w' => e = .returned (.tuple #[.int .i64 (wrongR q T).1, .int .i64 (wrongR q T).2]) ∧ Below w.heap.size w w' := by
  obtain ⟨c, t, k, ba, bl, bc, ka, kl, kc⟩ := V
  obtain ⟨w0, hw0⟩ : ∃ w0, w.alloc (.cells #[.int .i64 c, .int .i64 t, .bool k, .slice ba bl bc, .slice ka kl kc] 25) = w0 := ⟨_, rfl⟩
  have hz0 : w0.heap.size = w.heap.size + 1 := by rw [← hw0]; simp
  have hb0 : Below w.heap.size w w0 := by rw [← hw0]; exact (Below.refl _ _).alloc (Nat.le_refl _) _
  have hn0 := hn.under hb0
  have hc0 : CellsAt w0 w.heap.size 0 ⟨c, t, k, ba, bl, bc, ka, kl, kc⟩ := by
    rw [← hw0]
    constructor <;> simp
  have hl0 := hL _ _ hl hb0
  have HL := Lib.hid (fun W (h : Below w0.heap.size w0 W) => hL w0 W hl0 h)
  have HQ := Lib.hid hq
  have HN0 := Lib.hid hn0
  have HC0 := Lib.hid hc0
  have HB0 := Lib.hid hb0
  have HZ0 := Lib.hid hz0
  have HB1 := Lib.hid (((((Below.refl w0.heap.size w0).alloc (Nat.le_refl _) (.cells #[.int .i64 0] 3)).alloc (by simp) (.cells #[.int .i64 (-1)] 3)).alloc (by simp; omega) (.cells #[.int .i64 0] 3)).alloc (by simp; omega) (.cells #[.pointer (some ⟨w.heap.size, 0, none⟩)] 59))
  have x1 := Lib.hid ((((Boxed.new w0 3 (.int .i64 0)).alloc (.cells #[.int .i64 (-1)] 3)).alloc (.cells #[.int .i64 0] 3)).alloc (.cells #[.pointer (some ⟨w.heap.size, 0, none⟩)] 59))
  have x2 := Lib.hid (((Boxed.new (w0.alloc (.cells #[.int .i64 0] 3)) 3 (.int .i64 (-1))).alloc (.cells #[.int .i64 0] 3)).alloc (.cells #[.pointer (some ⟨w.heap.size, 0, none⟩)] 59))
  have x3 := Lib.hid ((Boxed.new ((w0.alloc (.cells #[.int .i64 0] 3)).alloc (.cells #[.int .i64 (-1)] 3)) 3 (.int .i64 0)).alloc (.cells #[.pointer (some ⟨w.heap.size, 0, none⟩)] 59))
  have x4 := Lib.hid (Boxed.new (((w0.alloc (.cells #[.int .i64 0] 3)).alloc (.cells #[.int .i64 (-1)] 3)).alloc (.cells #[.int .i64 0] 3)) 59 (.pointer (some ⟨w.heap.size, 0, none⟩)))
  have HND := Lib.hid (And.intro hN hd)
  clear hn hn0 hc0 hb0 hz0 hN hd hl hl0 hL hq
  unfold NV.agg
  dsimp only
  refine (callsIn_wide (n := 3)).1 ?_
  refine callsIn_of_wp_marks Tryd.func54 rfl trivial ?_ rfl
  simp only [Tryd.ntmps54, List.size_toArray, List.length_cons, List.length_nil, Nat.reduceAdd, Nat.reduceSub, Array.replicate_succ, Array.replicate_zero, List.push_toArray, List.append_toArray, List.nil_append, List.cons_append]
  gi_wp2_with fail
  refine wpIn_wide.2 (wp_scope_straight ((wpIn_wide (n := 3)).1 ?_))
  gi_wp2_with fail
  clear hw0
  refine wpIn_label ?_
  gi_wp2_with fail
  refine ⟨trivial, ?_⟩
  refine (callsIn_wide.2 (all_any _ _ _)).mono ?_
  rintro e w' ⟨rfl, rfl⟩
  gi_wp2_with fail
  simp only [World.size_alloc, HZ0.out] at x1 x2 x3 x4 HB1 ⊢
  obtain ⟨W0, hW0⟩ : ∃ W0, ((((w0.alloc (.cells #[.int .i64 0] 3)).alloc (.cells #[.int .i64 (-1)] 3)).alloc (.cells #[.int .i64 0] 3)).alloc (.cells #[.pointer (some ⟨w.heap.size, 0, none⟩)] 59)) = W0 := ⟨_, rfl⟩
  have hzW : W0.heap.size = w.heap.size + 5 := by rw [← hW0]; simp [HZ0.out]
  rw [hW0] at x1 x2 x3 x4 HB1 ⊢
  have HZW := Lib.hid hzW
  clear hW0 hzW
  generalize hA : w.heap.size = A at *
  have HA := Lib.hid hA
  have h1 : 1 ≤ 3 := by decide
  have hB1 : Below w0.heap.size w0 W0 := by rw [HZ0.out]; exact HB1.out
  refine wpIn_rangeX (F := Fence.wide) rfl h1 (gf := 70) (lb := #[.pointer (some ⟨A + 1 + 1 + 1 + 1, 0, none⟩)]) rfl trivial (enters_of Tryd.func70 (by kernel_rfl) rfl)
    (all_comes (3 - 1) w0 (fun T => WantedOk L q T.tag) (WrE A) HN0.out A 0 HC0.out HQ.out (by have := HND.out; omega) W0 (A + 4) x4.out.cell (fun k hk => by have := HZ0.out; have := HZW.out; unfold WrE at hk; omega) (fun k hk => hB1.block k hk) hB1.size)
    (fun k hk => hk.elim) (Below.refl _ _) (fun _ => rfl)
    (fun pre W => WrI q A pre W) (fun c pre W => WrX A c pre W)
    (fun s X X' row h hg hr => h.st HZ0.out hg (fun r e => by have := HZW.out; rcases hr r e with h | ⟨h, h2⟩ <;> first | exact h.elim | omega))
    (fun c s X X' row h hg hr => h.st HZ0.out hg (fun r e => by have := HZW.out; rcases hr r e with h | ⟨h, h2⟩ <;> first | exact h.elim | omega))
    (fun pre x X h => trivial) (fun s X X' row h hg hr => trivial)
    ⟨x1.out, x2.out, x3.out, rfl, by have := HZW.out; omega, hB1⟩
    (fun x a' W => ∃ qb, PlaceAt 91 (A + 5) x qb W ∧ a' = { tmps := #[.agg #[.int .i64 c, .int .i64 t, .bool k, .slice ba bl bc, .slice ka kl kc], .pointer (some ⟨A, 0, none⟩), .pointer (some ⟨A + 1, 0, none⟩), .pointer (some ⟨A + 1 + 1, 0, none⟩), .pointer (some ⟨A + 1 + 1 + 1, 0, none⟩), .pointer (some ⟨qb, 0, none⟩), .func (.func 70) #[] #[.pointer (some ⟨A + 1 + 1 + 1 + 1, 0, none⟩)], .agg #[.pointer (some ⟨x.b, x.off, none⟩), .int .i64 (x.d : Int)], undef, undef, undef, undef, undef, undef, undef, undef, undef, undef, undef, undef, undef, undef, undef, undef, undef, undef, undef, undef], defers := [] })
    (fun x a' _ X X' row h hg hr => by
      obtain ⟨q, hq, ha⟩ := h
      exact ⟨q, hq.st hg (fun r e => by rcases hr r e with h | ⟨h, h2⟩ <;> first | exact h.elim | exact h2), ha⟩) ?_ ?_ ?_ ?_
  · intro lp x W K hs hK
    dsimp only [encS]
    have HK := Lib.hid hK
    clear hK hB1
    gi_wp2
    exact HK.out _ _ (World.grownBy_alloc W _ none) ⟨W.heap.size, ⟨by have := HZW.out; omega, World.alloc_heap_new W _⟩, rfl⟩
  · rintro lp pre x a' W hlt hI ⟨qb, hqb, rfl⟩
    have cr := hI.r.cell
    have fr := hI.r.frozen
    have ca := hI.a.cell
    have fa := hI.a.frozen
    have cn := hI.n.cell
    have fn := hI.n.frozen
    have q0 := hqb.c0
    have q1 := hqb.c1
    have hpl : pre.length ≤ 1000000 := by have := HND.out; omega
    have HI := Lib.hid hI
    have HS := Lib.hid (show wfold q ((pre ++ [x]).map Spot.at) = wstep q (wfold q (pre.map Spot.at)) (x.d, x.T) by rw [List.map_append, List.map_cons, List.map_nil, wfold_snoc]; rfl)
    have HC := Lib.hid (show (wfold q (pre.map Spot.at)).2.2 = pre.length by rw [wfold_count, List.length_map])
    have hne1 : qb ≠ A + 1 := by have := hqb.1; omega
    have hne2 : qb ≠ A + 2 := by have := hqb.1; omega
    have HQB := Lib.hid hqb
    clear hI hlt hqb hB1
    obtain ⟨⟨r, a, n⟩, hs⟩ : ∃ s, wfold q (pre.map Spot.at) = s := ⟨_, rfl⟩
    rw [hs] at cr ca HS HC
    have HW := Lib.hid hs
    have HPL := Lib.hid HC.out.symm
    dsimp only at cr ca HC
    rw [HPL.out] at cn hpl
    clear hs
    dsimp only at cn hpl
    by_cases hd : 24 < x.d
    · have HD := Lib.hid hd
      have hd2 : decide (24 < (x.d : Int)) = true := by simp; omega
      gi_wp2_with fail
      refine ⟨(((Kp2.below (B := W0.heap.size) (E := WrE A) (Below.refl _ W)).set ⟨A + 1, 0, none⟩ _ (.inl rfl)).set ⟨A + 1 + 1, 0, none⟩ _ (.inr (.inl rfl))).1, (((Kp2.below (B := W0.heap.size) (E := WrE A) (Below.refl _ W)).set ⟨A + 1, 0, none⟩ _ (.inl rfl)).set ⟨A + 1 + 1, 0, none⟩ _ (.inr (.inl rfl))).2, rfl, ?_, ?_, ?_, by have := HI.out.lt; simpa using this, (HI.out.below.setCell (p := ⟨A + 1, 0, none⟩) (by have := HZ0.out; show w0.heap.size ≤ A + 1; omega) _).setCell (p := ⟨A + 1 + 1, 0, none⟩) (by have := HZ0.out; show w0.heap.size ≤ A + 1 + 1; omega) _⟩
      · exact boxed_oth (HI.out.r.set _) _ _ (by show A + 1 ≠ A + 1 + 1; omega)
      · exact (boxed_oth HI.out.a _ _ (by show A + 2 ≠ A + 1; omega)).set _
      · simp only [deepB, List.map_append, List.any_append, List.map_cons, List.map_nil, List.any_cons, List.any_nil, Bool.or_false]
        rw [show decide (24 < (Spot.at x).1) = true from decide_eq_true HD.out, Bool.or_true]
    · have HD := Lib.hid hd
      have hd2 : decide (24 < (x.d : Int)) = false := by simp; omega
      clear hd
      by_cases h4 : n = 4000
      · subst h4
        gi_wp2_with fail
        refine ⟨((((Kp2.below (B := W0.heap.size) (E := WrE A) (Below.refl _ W)).set ⟨A + 1, 0, none⟩ _ (.inl rfl)).set ⟨A + 1 + 1, 0, none⟩ _ (.inr (.inl rfl))).set ⟨A + 1 + 1 + 1, 0, none⟩ _ (.inr (.inr rfl))).1, ((((Kp2.below (B := W0.heap.size) (E := WrE A) (Below.refl _ W)).set ⟨A + 1, 0, none⟩ _ (.inl rfl)).set ⟨A + 1 + 1, 0, none⟩ _ (.inr (.inl rfl))).set ⟨A + 1 + 1 + 1, 0, none⟩ _ (.inr (.inr rfl))).2, HI.out.step3 HZ0.out (Below.refl _ W) x _ _ _ (by rw [HPL.out]; rfl) HD.out ?_⟩
        rw [HS.out]
        exact ⟨by simp [wstep], by simp [wstep]⟩
      · have h42 : ((n : Int) == 4000) = false := by simp; omega
        have H4 := Lib.hid h4
        clear h4
        by_cases hr : r = 0
        · subst hr
          have hbr := broken_any L q x.b x.off x.V x.T W (cells_of_heap x.cells (fun k hk => HI.out.below.block k hk)) (x.node.under HI.out.below) (HL.out W HI.out.below) x.ok
          generalize hrn : brokenN q x.T = rn at *
          have HBR := Lib.hid hbr
          have HRN := Lib.hid hrn
          clear hbr hrn
          by_cases hz : rn = 0
          · subst hz
            gi_wp2_with fail
            refine ⟨trivial, ?_⟩
            refine (callsIn_wide.2 HBR.out).mono ?_
            rintro e W2 ⟨rfl, hb⟩
            have hx : ∀ {k : Nat} {v : Value}, Boxed W k 3 v → Boxed W2 k 3 v := fun hb' => (hb.block _ hb'.lt).trans hb'
            have dr := (hx HI.out.r).cell
            have dfr := (hx HI.out.r).frozen
            have dn := (hx HI.out.n).cell
            have dfn := (hx HI.out.n).frozen
            rw [HW.out] at dr
            rw [HPL.out] at dn
            have HB := Lib.hid hb
            clear hb hx cr fr ca fa cn fn q0 q1
            gi_wp2_with fail
            refine ⟨(((Kp2.below (B := W0.heap.size) (E := WrE A) HB.out).set ⟨A + 1, 0, none⟩ _ (.inl rfl)).set ⟨A + 1 + 1 + 1, 0, none⟩ _ (.inr (.inr rfl))).1, (((Kp2.below (B := W0.heap.size) (E := WrE A) HB.out).set ⟨A + 1, 0, none⟩ _ (.inl rfl)).set ⟨A + 1 + 1 + 1, 0, none⟩ _ (.inr (.inr rfl))).2, HI.out.pre2 HZ0.out HB.out x _ _ (by rw [HPL.out]; rfl) HD.out ?_⟩
            rw [HS.out, HW.out]
            exact ⟨by simp [wstep, H4.out, HRN.out], by simp [wstep, H4.out, HRN.out]⟩
          · have hz2 : (rn != 0) = true := by simp; omega
            gi_wp2_with fail
            refine ⟨trivial, ?_⟩
            refine (callsIn_wide.2 HBR.out).mono ?_
            rintro e W2 ⟨rfl, hb⟩
            have hx : ∀ {k : Nat} {v : Value}, Boxed W k 3 v → Boxed W2 k 3 v := fun hb' => (hb.block _ hb'.lt).trans hb'
            have dr := (hx HI.out.r).cell
            have dfr := (hx HI.out.r).frozen
            have da := (hx HI.out.a).cell
            have dfa := (hx HI.out.a).frozen
            have dn := (hx HI.out.n).cell
            have dfn := (hx HI.out.n).frozen
            rw [HW.out] at dr da
            rw [HPL.out] at dn
            have HB := Lib.hid hb
            have HZ := Lib.hid hz
            clear hb hx hz cr fr ca fa cn fn q0 q1
            gi_wp2_with fail
            refine ⟨((((Kp2.below (B := W0.heap.size) (E := WrE A) HB.out).set ⟨A + 1, 0, none⟩ _ (.inl rfl)).set ⟨A + 1 + 1, 0, none⟩ _ (.inr (.inl rfl))).set ⟨A + 1 + 1 + 1, 0, none⟩ _ (.inr (.inr rfl))).1, ((((Kp2.below (B := W0.heap.size) (E := WrE A) HB.out).set ⟨A + 1, 0, none⟩ _ (.inl rfl)).set ⟨A + 1 + 1, 0, none⟩ _ (.inr (.inl rfl))).set ⟨A + 1 + 1 + 1, 0, none⟩ _ (.inr (.inr rfl))).2, HI.out.step3 HZ0.out HB.out x _ _ _ (by rw [HPL.out]; rfl) HD.out ?_⟩
            rw [HS.out]
            exact ⟨by simp [wstep, H4.out, HRN.out, HZ.out], by simp [wstep, H4.out, HRN.out, HZ.out]⟩
        · have hr2 : (r == 0) = false := by simp; omega
          have HR := Lib.hid hr
          clear hr
          gi_wp2_with fail
          refine ⟨((Kp2.below (B := W0.heap.size) (E := WrE A) (Below.refl _ W)).set ⟨A + 1 + 1 + 1, 0, none⟩ _ (.inr (.inr rfl))).1, ((Kp2.below (B := W0.heap.size) (E := WrE A) (Below.refl _ W)).set ⟨A + 1 + 1 + 1, 0, none⟩ _ (.inr (.inr rfl))).2, HI.out.step1 HZ0.out (Below.refl _ W) x _ (by rw [HPL.out]; rfl) HD.out ?_⟩
          rw [HS.out, HW.out]
          exact ⟨by simp [wstep, H4.out, HR.out], by simp [wstep, H4.out, HR.out]⟩
  · rintro D xs W hD hxs hI - hK
    have cn := hI.r.cell
    have fn := hI.r.frozen
    have cd := hI.a.cell
    have fd := hI.a.frozen
    have hflat := hI.flat
    rw [hxs] at cn cd hflat
    have hR : wrongR q T = ((wfold q (T.nodes 1)).1, (wfold q (T.nodes 1)).2.1) := by unfold wrongR; rw [hflat]; rfl
    have HR := Lib.hid hR
    have HI := Lib.hid hI
    have HK := Lib.hid hK
    have HBW := Lib.hid (show Below A w W from HB0.out.trans (HI.out.below.mono (by have := HZ0.out; omega)))
    generalize (wfold q (T.nodes 1)).1 = rr at *
    generalize (wfold q (T.nodes 1)).2.1 = aa at *
    clear hI hxs hR hK hflat hB1
    gi_wp2_with fail
    refine wpIn_cutX (TwoCells w A D rr aa) ?_
    apply Exists.intro
    apply And.intro
    case left =>
      refine wpIn_wide.2 ?_
      go_region
      exact ⟨rfl, rfl, TwoCells.mk' HA.out (by have := HZW.out; omega) cn cd (by rw [HA.out]; exact HBW.out) HK.out⟩
    case right =>
      rintro V2 ⟨c2, d2, hb2, hk2⟩
      have HB2 := Lib.hid hb2
      have HK2 := Lib.hid hk2
      have e1 : (V2.putObj D (.deferred none)).cell? ⟨A + 1, 0, none⟩ = some (.int .i64 rr) := (World.cell?_of_block (a := ⟨A + 1, 0, none⟩) (World.putObj_heap_other (by have := HZW.out; show A + 1 ≠ D; omega))).trans c2
      have e2 : (V2.putObj D (.deferred none)).cell? ⟨A + 2, 0, none⟩ = some (.int .i64 aa) := (World.cell?_of_block (a := ⟨A + 2, 0, none⟩) (World.putObj_heap_other (by have := HZW.out; show A + 2 ≠ D; omega))).trans d2
      clear hb2 hk2
      gi_wp2_with fail
      rw [Exit.noGoto_ret]
      refine ⟨by simp, .inl ⟨_, _, rfl, run_takeDeferred HK2.out, ?_⟩⟩
      refine ⟨.tuple #[.int .i64 rr, .int .i64 aa], ?_, by rw [HR.out], ?_⟩
      · rw [results_cell_cell rfl]
        go_simp
      · rw [← HA.out]
        exact HB2.out.grown (grownBy_putObj' V2 D _) HB2.out.size (fun r e => by have := HZW.out; have := HA.out; cases e; omega)
  · rintro D c' pre W hD hSp hX hK
    obtain ⟨rfl, xr, xa, hdeep, hlt2, hb⟩ := hX
    have cn := xr.cell
    have fn := xr.frozen
    have cd := xa.cell
    have fd := xa.frozen
    have hR : wrongR q T = (5, 0) := by
      unfold wrongR
      rw [if_pos]
      have := List.any_eq_true.1 hdeep
      obtain ⟨p, hp, h24⟩ := this
      exact List.any_eq_true.2 ⟨p, hSp.2.subset hp, h24⟩
    have HR := Lib.hid hR
    have HK := Lib.hid hK
    have HBW := Lib.hid (show Below A w W from HB0.out.trans (hb.mono (by have := HZ0.out; omega)))
    clear hR hK hdeep hb hSp xr xa hB1
    gi_wp2_with fail
    refine wpIn_cutX (TwoCells w A D 5 0) ?_
    apply Exists.intro
    apply And.intro
    case left =>
      refine wpIn_wide.2 ?_
      go_region
      exact ⟨rfl, rfl, TwoCells.mk' HA.out (by have := HZW.out; omega) cn cd (by rw [HA.out]; exact HBW.out) HK.out⟩
    case right =>
      rintro V2 ⟨c2, d2, hb2, hk2⟩
      have HB2 := Lib.hid hb2
      have HK2 := Lib.hid hk2
      have e1 : (V2.putObj D (.deferred none)).cell? ⟨A + 1, 0, none⟩ = some (.int .i64 5) := (World.cell?_of_block (a := ⟨A + 1, 0, none⟩) (World.putObj_heap_other (by have := HZW.out; show A + 1 ≠ D; omega))).trans c2
      have e2 : (V2.putObj D (.deferred none)).cell? ⟨A + 2, 0, none⟩ = some (.int .i64 0) := (World.cell?_of_block (a := ⟨A + 2, 0, none⟩) (World.putObj_heap_other (by have := HZW.out; show A + 2 ≠ D; omega))).trans d2
      clear hb2 hk2
      gi_wp2_with fail
      rw [Exit.noGoto_ret]
      refine ⟨by simp, .inl ⟨_, _, rfl, run_takeDeferred HK2.out, ?_⟩⟩
      refine ⟨.tuple #[.int .i64 5, .int .i64 0], ?_, by rw [HR.out], ?_⟩
      · rw [results_cell_cell rfl]
        go_simp
      · rw [← HA.out]
        exact HB2.out.grown (grownBy_putObj' V2 D _) HB2.out.size (fun r e => by have := HZW.out; have := HA.out; cases e; omega)

theorem check_any (L : World → Prop) (hL : ∀ W W', L W → Below W.heap.size W W' → L W') (q : Int → List Nat → Bool) (V : NV) (T : Tr) (w : World) (hn : NodeAt w V T) (hN : T.cnt ≤ 1000000) (hd : T.dep ≤ 1000000) (hl : L w) (hq : ∀ p ∈ T.nodes 1, WantedOk L q p.2.tag) :
    Calls Tryd.prog 34 #[V.agg] w fun e w' => e = .returned (.int .i64 (if (wrongR q T).1 = 0 then 0 else 110)) ∧ Below w.heap.size w w' := by
  have hb0 : Below w.heap.size w (w.alloc (.cells #[.int .i64 V.cls, .int .i64 V.tag, .bool V.cons, .slice V.ba V.bl V.bc, .slice V.ka V.kl V.kc] 25)) := (Below.refl _ _).alloc (Nat.le_refl _) _
  have HW := Lib.hid (wrong_any L hL q V T _ (hn.under hb0) hN hd (hL _ _ hl hb0) hq)
  have HB0 := Lib.hid hb0
  clear hn hb0 hL hl hq
  obtain ⟨⟨r, a⟩, hra⟩ : ∃ s, wrongR q T = s := ⟨_, rfl⟩
  rw [hra] at HW
  rw [hra]
  clear hra
  unfold NV.agg at HW ⊢
  dsimp only at HW ⊢
  by_cases hr : r = 0
  · subst hr
    go_enter Tryd.func34, Tryd.ntmps34
    go_wp2_with fail
    refine HW.out.mono ?_
    rintro e w2 ⟨rfl, hb⟩
    have HB := Lib.hid hb
    clear hb
    go_wp2_with fail
    go_ret
    exact ⟨rfl, HB0.out.trans (HB.out.mono (by simp))⟩
  · have hr2 : (r != 0) = true := by simp; omega
    rw [if_neg hr]
    have HR := Lib.hid hr
    clear hr
    go_enter Tryd.func34, Tryd.ntmps34
    go_wp2_with fail
    refine HW.out.mono ?_
    rintro e w2 ⟨rfl, hb⟩
    have HB := Lib.hid hb
    clear hb
    go_wp2_with fail
    go_ret
    exact ⟨rfl, HB0.out.trans (HB.out.mono (by simp))⟩

end Go.Proofs.YtkmphiakciihfaaDoor
