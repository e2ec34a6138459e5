/-
  SHA-512: the reference's arithmetic, in numbers: roots by bits; rotations by halves; 'or' for 'xor'. No walk stands here.
-/
import Derived.KernelRfl
namespace Go.Proofs.Ytpfdehjllnhllaa

/-- Numbers compared by computation. -/
def eqM : List Nat → List Nat → Bool
  | [], [] => true
  | x :: l, y :: m => Nat.beq x y && eqM l m
  | _, _ => false
theorem eq_of_eqM : ∀ {l m : List Nat}, eqM l m = true → l = m
  | [], [], _ => rfl
  | [], _ :: _, h => by cases h
  | _ :: _, [], h => by cases h
  | x :: l, y :: m, h => by
    simp only [eqM, Bool.and_eq_true] at h
    rw [Nat.eq_of_beq_eq_true h.1, eq_of_eqM h.2]

/-- Rotated right by halves. -/
def halfs (x : Nat) : Nat → Nat
  | 0 => x
  | n + 1 => halfs x n / 2 + halfs x n % 2 * 9223372036854775808
theorem halfs_eq (x : Nat) (hx : x < 18446744073709551616) : ∀ n, n ≤ 63 → halfs x n = x % 2 ^ n * 2 ^ (64 - n) + x / 2 ^ n
  | 0, _ => by simp [halfs, Nat.mod_one]
  | n + 1, h => by
    have ih := halfs_eq x hx n (by omega)
    have e1 : 64 - n = (63 - n) + 1 := by omega
    have e2 : 64 - (n + 1) = 63 - n := by omega
    rw [halfs, ih, e1, e2]
    obtain ⟨q, hq⟩ : ∃ q, q = x / 2 ^ n := ⟨_, rfl⟩
    obtain ⟨m, hm⟩ : ∃ m, m = x % 2 ^ n := ⟨_, rfl⟩
    have hd : x / 2 ^ (n + 1) = q / 2 := by rw [hq, Nat.pow_succ, Nat.div_div_eq_div_mul]
    have hmod : x % 2 ^ (n + 1) = m + 2 ^ n * (q % 2) := by rw [hm, hq, Nat.pow_succ, Nat.mod_mul]
    rw [hd, hmod, ← hq, ← hm]
    have hp : 2 ^ n * 2 ^ (63 - n) = 9223372036854775808 := by rw [← Nat.pow_add, show n + (63 - n) = 63 by omega]
    obtain ⟨t, ht⟩ : ∃ t, t = m * 2 ^ (63 - n) := ⟨_, rfl⟩
    have e3 : m * 2 ^ (63 - n + 1) = 2 * t := by rw [ht, Nat.pow_succ, ← Nat.mul_assoc, Nat.mul_comm]
    have e4 : (m + 2 ^ n * (q % 2)) * 2 ^ (63 - n) = t + 9223372036854775808 * (q % 2) := by
      rw [Nat.add_mul, ← ht, Nat.mul_right_comm, hp]
    rw [e3, e4]
    omega
theorem halfs_rot (x a : Nat) (hx : x < 18446744073709551616) (ha : a ≤ 63) : halfs x a = (x * 2 ^ (64 - a) % 18446744073709551616 ||| x / 2 ^ a) := by
  rw [halfs_eq x hx a ha]
  have hp : (18446744073709551616 : Nat) = 2 ^ a * 2 ^ (64 - a) := by rw [← Nat.pow_add, show a + (64 - a) = 64 by omega]
  have e1 : x * 2 ^ (64 - a) % 18446744073709551616 = x % 2 ^ a * 2 ^ (64 - a) := by rw [hp, Nat.mul_mod_mul_right]
  have hlt : x / 2 ^ a < 2 ^ (64 - a) := by
    rw [Nat.div_lt_iff_lt_mul (Nat.two_pow_pos a), Nat.mul_comm, ← hp]
    exact hx
  rw [e1, Nat.mul_comm, ← Nat.two_pow_add_eq_or_of_lt hlt]
/-- 'or' where the program has 'xor'. -/
theorem ch_eq (e f g : Nat) (he : e < 18446744073709551616) : ((e &&& f) ||| ((18446744073709551615 - e) &&& g)) = ((e &&& f) ^^^ ((18446744073709551615 - e) &&& g)) := by
  apply Nat.eq_of_testBit_eq
  intro i
  have h : (18446744073709551615 - e).testBit i = (decide (i < 64) && !e.testBit i) := by
    have := Nat.testBit_two_pow_sub_succ (n := 64) (x := e) he i
    simpa using this
  simp only [Nat.testBit_or, Nat.testBit_xor, Nat.testBit_and, h]
  cases e.testBit i <;> cases f.testBit i <;> cases g.testBit i <;> cases decide (i < 64) <;> rfl
theorem maj_eq (a b c : Nat) : ((a &&& b) ||| (a &&& c) ||| (b &&& c)) = ((a &&& b) ^^^ (a &&& c) ^^^ (b &&& c)) := by
  apply Nat.eq_of_testBit_eq
  intro i
  simp only [Nat.testBit_or, Nat.testBit_xor, Nat.testBit_and]
  cases a.testBit i <;> cases b.testBit i <;> cases c.testBit i <;> rfl

end Go.Proofs.Ytpfdehjllnhllaa
