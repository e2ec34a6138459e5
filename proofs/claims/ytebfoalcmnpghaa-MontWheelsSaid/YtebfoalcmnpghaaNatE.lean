/-
  THE WALK OF NAT's Sub: a range over up.
-/
import Derived.Test.YtebfoalcmnpghaaNatA
import Derived.Test.YtebfoalcmnpghaaNatB
namespace Go.Proofs.Ytebfoalcmnpghaa
open Go.RowKit Go.Shelf
attribute [local go_sem] Oper.semAt_some

def subR (x y : Nat) : List Nat × Int := if x < topN ∧ y < topN ∧ y ≤ x then (nat32 (x - y), 0) else ([], 20)
theorem subR_yes {x y : Nat} (h : x < topN ∧ y < topN ∧ y ≤ x) : subR x y = (nat32 (x - y), 0) := if_pos h
theorem subR_no {x y : Nat} (h : ¬ (x < topN ∧ y < topN ∧ y ≤ x)) : subR x y = ([], 20) := if_neg h

/-- A difference's limbs so far, and what is borrowed. -/
def SubInv (pre : List Two) (O : List Nat) (c : Nat) : Prop := O.length = pre.length ∧ Lim O ∧ c ≤ 1 ∧ val32 O + val32 (pre.map (·.1.2)) = val32 (pre.map (·.1.1)) + 4294967296 ^ pre.length * c

theorem subInv_nil : SubInv [] [] 0 := ⟨rfl, fun _ h => (by cases h), by omega, rfl⟩
theorem subInv_step {pre : List Two} {O : List Nat} {c : Nat} (h : SubInv pre O c) (x : Two) : SubInv (pre ++ [x]) (O ++ [subD x.1.1 x.1.2 c]) (subB x.1.1 x.1.2 c) := by
  obtain ⟨h1, h2, h3, h4⟩ := h
  have hx := x.2
  have hd : subD x.1.1 x.1.2 c + x.1.2 + c = x.1.1 + 4294967296 * subB x.1.1 x.1.2 c := by unfold subD subB; split <;> omega
  have hd2 : subD x.1.1 x.1.2 c < 4294967296 := by unfold subD; split <;> omega
  have hb2 : subB x.1.1 x.1.2 c ≤ 1 := by unfold subB; split <;> omega
  generalize subD x.1.1 x.1.2 c = d at *
  generalize subB x.1.1 x.1.2 c = b at *
  refine ⟨by simp [h1], ?_, hb2, ?_⟩
  · intro y hy
    rcases List.mem_append.1 hy with hy | hy
    · exact h2 y hy
    · obtain rfl := List.mem_singleton.1 hy; exact hd2
  · simp only [val32, List.map_append, List.map_cons, List.map_nil, valB_snoc, List.length_map, h1, List.length_append, List.length_cons, List.length_nil, Nat.zero_add] at h4 ⊢
    have e : 4294967296 ^ (pre.length + 1) * b = 4294967296 ^ pre.length * (4294967296 * b) := by rw [Nat.pow_succ, Nat.mul_assoc]
    have e2 : 4294967296 ^ pre.length * (d + x.1.2 + c) = 4294967296 ^ pre.length * (x.1.1 + 4294967296 * b) := by rw [hd]
    rw [Nat.mul_add, Nat.mul_add, Nat.mul_add] at e2
    rw [e]
    omega

/-- Between two rounds of Sub. -/
def SubI (n₀ A : Nat) (x y : Value) (pre : List Two) (W : World) : Prop :=
  ∃ (v : Value) (O : List Nat) (c : Nat), Boxed W A 23 v ∧ Boxed W (A + 1) 41 (.int .u32 (c : Int)) ∧ Boxed W (A + 1 + 1) 23 x ∧ Boxed W (A + 1 + 1 + 1) 23 y ∧ OwnQ .u32 41 n₀ W v O ∧ Hid (SubInv pre O c) ∧ Hid (∀ b, A ≤ b → b ≤ A + 1 + 1 + 1 → v.ownBlock ≠ some b)

theorem subI_own (n₀ A : Nat) (x y : Value) : Own (SubI n₀ A x y) := fun s X Y row hs hg hr => by
  obtain ⟨v, O, c, h1, h2, h3, h4, h5, h6, h7⟩ := hs
  exact ⟨v, O, c, Boxed.keptCells h1 hg hr, Boxed.keptCells h2 hg hr, Boxed.keptCells h3 hg hr, Boxed.keptCells h4 hg hr, h5.keptCells hg hr, h6, h7⟩

end Go.Proofs.Ytebfoalcmnpghaa