/-
  RATIO's Inverse OF ANY TWO; THE LAW's is AND alive.
-/
import Derived.Test.YtebfoalcmnpghaaInvA
import Derived.Test.YtebfoalcmnpghaaNatG
namespace Go.Proofs.Ytebfoalcmnpghaa
open Go.RowKit

theorem of_nat (n : Int) (k : Nat) (hk : n = k) (w : World) (hn : k < 18446744073709551616) : Calls Try.prog 30 #[.int .u64 n] w fun e w' => (∃ v, e = .returned v ∧ NatC w' v k) ∧ Below w.heap.size w w' :=
  (of_any n k hk w hn).mono fun e w' ⟨⟨v, he, ho⟩, hb⟩ => ⟨⟨v, he, NatC.of ho⟩, hb⟩
theorem natC_slice {w : World} {v : Value} {n : Nat} (h : NatC w v n) : ∃ a cap, v = .slice a (nat32 n).length cap ∧ NatC w (.slice a (nat32 n).length cap) n := by
  obtain ⟨a, len, cap, rfl, hr⟩ := h
  obtain rfl : (nat32 n).length = len := hr.length
  exact ⟨a, cap, rfl, ⟨a, _, cap, rfl, hr⟩⟩
theorem natC_small {w : World} {v : Value} {n : Nat} (h : NatC w v n) (hn : n < topN) : Small v := fun a len cap e => by
  obtain ⟨a', len', cap', rfl, hr⟩ := h
  cases e
  have := (natB_length (b := 4294967296) (by decide) n 256).2 hn
  rw [← hr.length]
  exact Nat.le_trans this (by decide)
theorem lt_topM {n : Nat} (h : n < 4294967296 ^ 2) : n < topM := Nat.lt_of_lt_of_le h (by unfold topM; exact Nat.pow_le_pow_right (by decide) (by decide))

end Go.Proofs.Ytebfoalcmnpghaa