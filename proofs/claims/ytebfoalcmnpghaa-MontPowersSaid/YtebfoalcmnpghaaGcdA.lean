/-
  RATIO's Gcd, modulus AND MulMod.
-/
import Derived.Test.YtebfoalcmnpghaaDivG
namespace Go.Proofs.Ytebfoalcmnpghaa
open Go.RowKit

theorem natC_uniq {w : World} {v : Value} {n m : Nat} (h : NatC w v n) (k : NatC w v m) : n = m := by
  obtain ⟨a, len, cap, rfl, hr⟩ := h
  obtain ⟨a', len', cap', he, hr'⟩ := k
  cases he
  have hl : nat32 n = nat32 m := by
    apply List.ext_getElem
    · rw [hr.length, hr'.length]
    · intro i h1 h2
      have hi : i < len := by rw [← hr.length]; exact h1
      obtain ⟨b, off, ha, _, hc⟩ := hr.cells (by omega)
      obtain ⟨b', off', ha', _, hc'⟩ := hr'.cells (by omega)
      rw [ha] at ha'
      cases ha'
      have e := (hc i hi).symm.trans (hc' i hi)
      rw [List.getElem?_eq_getElem h1, List.getElem?_eq_getElem h2] at e
      simp at e
      omega
  rw [← val_nat n, ← val_nat m, hl]
theorem eps_nat {w : World} {v : Value} {n : Nat} (h : NatC w v n) : @Classical.epsilon Nat ⟨0⟩ (fun m => NatC w v m) = n := natC_uniq (@Classical.epsilon_spec_aux Nat ⟨0⟩ _ ⟨n, h⟩) h

theorem own_len {E B : Nat} {w : World} {a : Option Addr} {len cap n : Nat} (h : OwnQ .u32 E B w (.slice a len cap) (nat32 n)) : len = (nat32 n).length := h.cap.1
theorem own_zero {E B : Nat} {w : World} {a : Option Addr} {len cap n : Nat} (h : OwnQ .u32 E B w (.slice a len cap) (nat32 n)) : len = 0 ↔ n = 0 := by
  rw [own_len h]
  constructor
  · intro e
    exact (natB_nil (b := 4294967296) (by decide)).1 (List.eq_nil_of_length_eq_zero e)
  · rintro rfl
    rw [show nat32 0 = [] from natB_zero _]; rfl
theorem own_short {E B k : Nat} {w : World} {a : Option Addr} {len cap n : Nat} (h : OwnQ .u32 E B w (.slice a len cap) (nat32 n)) : len ≤ k ↔ n < 4294967296 ^ k := by
  rw [own_len h]
  exact natB_length (by decide) n k

def gcdR (x y : Nat) : List Nat × Int := if x < topN ∧ y < topN then (nat32 (Nat.gcd x y), 0) else ([], 20)
theorem gcdR_yes {x y : Nat} (h : x < topN) (k : y < topN) : gcdR x y = (nat32 (Nat.gcd x y), 0) := if_pos ⟨h, k⟩
theorem gcdR_no {x y : Nat} (h : ¬ (x < topN ∧ y < topN)) : gcdR x y = ([], 20) := if_neg h

end Go.Proofs.Ytebfoalcmnpghaa