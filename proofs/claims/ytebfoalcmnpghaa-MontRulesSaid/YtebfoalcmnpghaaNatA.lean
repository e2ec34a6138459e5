/-
  THE WALK OF NAT's Add: a range over up.
-/
import Derived.Test.YtebfoalcmnpghaaNat9
import Derived.Maps.OwnIn
import Derived.Maps.AppendAt
namespace Go.Proofs.Ytebfoalcmnpghaa
open Go.RowKit Go.Shelf
attribute [local go_sem] Oper.semAt_some

theorem OwnQ.keptCells {q : IntKind} {E B : Nat} {W W' : World} {row : Option Nat} {v : Value} {l : List Nat} (h : OwnQ q E B W v l) (hg : W.grownBy W' row) (hr : ∀ r, row = some r → ∃ o : Obj, W.heap[r]? = some o ∧ o.isCells = false) : OwnQ q E B W' v l := by
  refine World.ownsRow.kept h hg ?_
  rcases h.2 with ⟨rfl, _⟩ | ⟨g, cap, cur, rfl, _, hgb, _⟩
  · exact .inl rfl
  · refine .inr fun e' => ?_
    obtain ⟨o, ho, hc⟩ := hr g (by simpa [Value.ownBlock] using e'.symm)
    rw [hgb] at ho; cases ho; cases hc

theorem OwnQ.setOther {q : IntKind} {E B : Nat} {W : World} {v : Value} {l : List Nat} (h : OwnQ q E B W v l) {b : Nat} (hne : v.ownBlock ≠ some b) (u : Value) : OwnQ q E B (W.setCell ⟨b, 0, none⟩ u) v l := ownsRow_setCell_other (a := ⟨b, 0, none⟩) h hne u

theorem OwnQ.ownLt {q : IntKind} {E B : Nat} {W : World} {v : Value} {l : List Nat} (h : OwnQ q E B W v l) {b : Nat} (hb : W.heap.size ≤ b) : v.ownBlock ≠ some b := by
  rcases h.2 with ⟨rfl, _⟩ | ⟨g, cap, cur, rfl, _, hgb, _⟩
  · simp [Value.ownBlock]
  · have := (Array.getElem?_eq_some_iff.1 hgb).1
    simp only [Value.ownBlock, ne_eq, Option.some.injEq]
    omega

/-- What an append of one number, laid in a block of its own, leaves. -/
theorem appended {q : IntKind} {E n₀ : Nat} {W w1 : World} {v : Value} {l : List Nat} {tmp : Obj} (hrow : OwnQ q E n₀ W v l) (hn₀ : n₀ ≤ W.heap.size) (hgrow : (W.alloc tmp).grownBy w1 v.ownBlock) :
    KeepsOthers W w1 ∧ (∀ w0, Below n₀ w0 W → Below n₀ w0 w1) ∧ (∀ b t u, Boxed W b t u → v.ownBlock ≠ some b → Boxed w1 b t u) := by
  refine ⟨?_, ?_, fun b t u hb hne => (hb.alloc tmp).kept hgrow (fun e => hne e.symm)⟩
  · refine (KeepsOthers.alloc W tmp).trans (KeepsOthers.of_grownBy hgrow fun j o ej hj => ?_)
    rcases (World.ownsRow.alloc hrow tmp).2 with ⟨rfl, _⟩ | ⟨g, cap, cur, rfl, _, hgb, _⟩
    · simp [Value.ownBlock] at ej
    · obtain rfl : g = j := by simpa [Value.ownBlock] using ej
      rw [hgb] at hj; cases hj; rfl
  · intro w0 h0
    refine (h0.alloc hn₀ tmp).grown hgrow (by simp; omega) fun j ej => ?_
    rcases hrow.2 with ⟨rfl, _⟩ | ⟨g, cap, cur, rfl, hb, _, _⟩
    · simp [Value.ownBlock] at ej
    · obtain rfl : g = j := by simpa [Value.ownBlock] using ej
      exact hb

theorem cell_one_at (w : World) (x : Value) (t : TypeId) (n : Nat) (h : n = w.heap.size) : ∀ j u, [x][j]? = some u → (w.alloc (.cells #[x] t)).cell? ((⟨n, 0, none⟩ : Addr).add j) = some u := by subst h; exact cell_one_new w x t

/-- A sum's limbs so far, and what is carried. -/
def AddInv (pre : List Two) (O : List Nat) (c : Nat) : Prop := O.length = pre.length ∧ Lim O ∧ c ≤ 1 ∧ val32 O + 4294967296 ^ pre.length * c = val32 (pre.map (·.1.1)) + val32 (pre.map (·.1.2))

theorem addInv_nil : AddInv [] [] 0 := ⟨rfl, fun _ h => (by cases h), by omega, rfl⟩
theorem addInv_step {pre : List Two} {O : List Nat} {c : Nat} (h : AddInv pre O c) (x : Two) : AddInv (pre ++ [x]) (O ++ [(c + (x.1.1 + x.1.2)) % 4294967296]) ((c + (x.1.1 + x.1.2)) / 4294967296) := by
  obtain ⟨h1, h2, h3, h4⟩ := h
  have hx := x.2
  refine ⟨by simp [h1], ?_, by omega, ?_⟩
  · intro y hy
    rcases List.mem_append.1 hy with hy | hy
    · exact h2 y hy
    · obtain rfl := List.mem_singleton.1 hy; omega
  · simp only [val32, List.map_append, List.map_cons, List.map_nil, valB_snoc, List.length_map, h1, List.length_append, List.length_cons, List.length_nil, Nat.zero_add] at h4 ⊢
    obtain ⟨s, hs⟩ : ∃ s, c + (x.1.1 + x.1.2) = s := ⟨_, rfl⟩
    rw [hs]
    have e : 4294967296 ^ (pre.length + 1) * (s / 4294967296) = 4294967296 ^ pre.length * (4294967296 * (s / 4294967296)) := by rw [Nat.pow_succ, Nat.mul_assoc]
    have e2 : 4294967296 ^ pre.length * (s % 4294967296) + 4294967296 ^ pre.length * (4294967296 * (s / 4294967296)) = 4294967296 ^ pre.length * s := by rw [← Nat.mul_add, Nat.mod_add_div]
    have e3 : 4294967296 ^ pre.length * s = 4294967296 ^ pre.length * c + (4294967296 ^ pre.length * x.1.1 + 4294967296 ^ pre.length * x.1.2) := by rw [← hs, Nat.mul_add, Nat.mul_add]
    rw [e]
    omega

theorem upTo_fst (lx ly : List Nat) (hx : Lim lx) (hy : Lim ly) (m : Nat) (h : lx.length ≤ m) : val32 ((upTo lx ly hx hy m).map (·.1.1)) = val32 lx := by
  conv => rhs; rw [val32, ← padN_val _ lx m h]
  simp only [upTo, List.map_map, padN]
  rfl
theorem upTo_snd (lx ly : List Nat) (hx : Lim lx) (hy : Lim ly) (m : Nat) (h : ly.length ≤ m) : val32 ((upTo lx ly hx hy m).map (·.1.2)) = val32 ly := by
  conv => rhs; rw [val32, ← padN_val _ ly m h]
  simp only [upTo, List.map_map, padN]
  rfl
theorem upTo_length (lx ly : List Nat) (hx : Lim lx) (hy : Lim ly) (m : Nat) : (upTo lx ly hx hy m).length = m := by simp [upTo]

/-- Between two rounds of Add. -/
def AddI (n₀ A : Nat) (x y : Value) (pre : List Two) (W : World) : Prop :=
  ∃ (v : Value) (O : List Nat) (c : Nat), Boxed W A 23 v ∧ Boxed W (A + 1) 45 (.int .u64 (c : Int)) ∧ Boxed W (A + 1 + 1) 23 x ∧ Boxed W (A + 1 + 1 + 1) 23 y ∧ OwnQ .u32 41 n₀ W v O ∧ Hid (AddInv pre O c) ∧ Hid (∀ b, A ≤ b → b ≤ A + 1 + 1 + 1 → v.ownBlock ≠ some b)

theorem addI_own (n₀ A : Nat) (x y : Value) : Own (AddI n₀ A x y) := fun s X Y row hs hg hr => by
  obtain ⟨v, O, c, h1, h2, h3, h4, h5, h6, h7⟩ := hs
  exact ⟨v, O, c, Boxed.keptCells h1 hg hr, Boxed.keptCells h2 hg hr, Boxed.keptCells h3 hg hr, Boxed.keptCells h4 hg hr, h5.keptCells hg hr, h6, h7⟩

end Go.Proofs.Ytebfoalcmnpghaa