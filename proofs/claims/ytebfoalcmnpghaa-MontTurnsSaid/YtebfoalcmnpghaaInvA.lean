/-
  RATIO's Inverse.
-/
import Derived.Test.YtebfoalcmnpghaaGcdB
import Derived.Test.YtebfoalcmnpghaaInvM
namespace Go.Proofs.Ytebfoalcmnpghaa
open Go.RowKit

theorem natAt_uniq {w : World} {v : Value} {n m : Nat} (h : NatAt w v n) (k : NatAt w v m) : n = m := by
  obtain ⟨a, len, cap, l, rfl, hr, hl, rfl⟩ := h
  obtain ⟨a', len', cap', l', he, hr', hl', rfl⟩ := k
  cases he
  have e : l = l' := by
    apply List.ext_getElem
    · rw [hr.length, hr'.length]
    · intro i h1 h2
      have hi : i < len := by rw [← hr.length]; exact h1
      obtain ⟨b, off, ha, _, hc⟩ := hr.cells (by omega)
      obtain ⟨b', off', ha', _, hc'⟩ := hr'.cells (by omega)
      rw [ha] at ha'
      cases ha'
      have e := (hc i hi).symm.trans (hc' i hi)
      rw [List.getElem?_eq_getElem h1, List.getElem?_eq_getElem h2] at e
      simp at e
      omega
  rw [e]
theorem eps_at {w : World} {v : Value} {n : Nat} (h : NatAt w v n) : @Classical.epsilon Nat ⟨0⟩ (fun m => NatAt w v m) = n := natAt_uniq (@Classical.epsilon_spec_aux Nat ⟨0⟩ _ ⟨n, h⟩) h

/-- A slice that is not longer than memory is. -/
def Small (v : Value) : Prop := ∀ a len cap, v = .slice a len cap → len ≤ 288230376151711743
theorem small_own {E B : Nat} {w : World} {v : Value} {n : Nat} (h : OwnQ .u32 E B w v (nat32 n)) (hn : n < topN) : Small v := fun a len cap e => by
  subst e
  have := (own_short (k := 256) h).2 hn
  omega

def invR (x m : Nat) : List Nat × Int := if m < topM ∧ x < topN then (if 2 ≤ m ∧ Nat.gcd m x = 1 then (nat32 (invN x m), 0) else ([], 61)) else ([], 20)
theorem invR_no {x m : Nat} (h : ¬ (m < topM ∧ x < topN)) : invR x m = ([], 20) := if_neg h
theorem invR_none {x m : Nat} (h : m < topM) (k : x < topN) (hn : ¬ (2 ≤ m ∧ Nat.gcd m x = 1)) : invR x m = ([], 61) := by unfold invR; rw [if_pos ⟨h, k⟩, if_neg hn]
theorem invR_yes {x m : Nat} (h : m < topM) (k : x < topN) (h2 : 2 ≤ m) (hg : Nat.gcd m x = 1) : invR x m = (nat32 (invN x m), 0) := by unfold invR; rw [if_pos ⟨h, k⟩, if_pos ⟨h2, hg⟩]

theorem bitsN_pos {n : Nat} : 0 < bitsN n ↔ 0 < n := by
  have := bitsN_le n 0
  omega

theorem of_own (n : Int) (k : Nat) (hk : n = k) (w : World) (hn : k < 18446744073709551616) : Calls Try.prog 30 #[.int .u64 n] w fun e w' => (∃ v, e = .returned v ∧ OwnQ .u32 41 w.heap.size w' v (nat32 k)) ∧ Below w.heap.size w w' := of_any n k hk w hn

/-- Between two rounds of Inverse. -/
def InvW (n₀ : Nat) (w5 : World) (M X : Nat) (ev rv fv tv pv : Value) (wr : World) : Prop :=
  ∃ (E R F T : Nat) (s : Int), InvI M X E R F T s ∧ E < topN ∧ R < topN ∧ Small rv ∧ NatAt wr ev E ∧ NatAt wr rv R ∧ OwnQ .u32 41 n₀ wr fv (nat32 F) ∧ OwnQ .u32 41 n₀ wr tv (nat32 T) ∧ pv = .bool (decide (s = 1)) ∧ (s = 1 ∨ s = -1) ∧ Below w5.heap.size w5 wr

end Go.Proofs.Ytebfoalcmnpghaa