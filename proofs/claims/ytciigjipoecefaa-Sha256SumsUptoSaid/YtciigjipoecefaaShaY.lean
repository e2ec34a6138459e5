/-
  SHA-256: the reference's arithmetic, in numbers: roots by bits; rotations by halves; 'or' for 'xor'. No walk stands here.
-/
import Derived.KernelRfl
namespace Go.Proofs.Ytciigjipoecefaa

/-- Numbers compared by computation. -/
def eqM : List Nat → List Nat → Bool
  | [], [] => true
  | x :: l, y :: m => Nat.beq x y && eqM l m
  | _, _ => false
theorem eq_of_eqM : ∀ {l m : List Nat}, eqM l m = true → l = m
  | [], [], _ => rfl
  | [], _ :: _, h => by cases h
  | _ :: _, [], h => by cases h
  | x :: l, y :: m, h => by
    simp only [eqM, Bool.and_eq_true] at h
    rw [Nat.eq_of_beq_eq_true h.1, eq_of_eqM h.2]

/-- A root's bits, the highest one first: i bits are still to be tried. -/
def rootB (x k : Nat) : Nat → Nat → Nat
  | 0, r => r
  | i + 1, r => rootB x k i (if Nat.ble ((r + 2 ^ i) ^ k) x then r + 2 ^ i else r)
/-- The bits behind the point of the k-th root. -/
def fracB (n k bits : Nat) : Nat := rootB (n * 2 ^ (k * bits)) k (bits + 6) 0 % 2 ^ bits
def primes64 : List Nat := [2,3,5,7,11,13,17,19,23,29,31,37,41,43,47,53,59,61,67,71,73,79,83,89,97,101,103,107,109,113,127,131,137,139,149,151,157,163,167,173,179,181,191,193,197,199,211,223,227,229,233,239,241,251,257,263,269,271,277,281,283,293,307,311]
theorem fracs3 : primes64.map (fun p => fracB p 3 32) = [1116352408, 1899447441, 3049323471, 3921009573, 961987163, 1508970993, 2453635748, 2870763221, 3624381080, 310598401, 607225278, 1426881987, 1925078388, 2162078206, 2614888103, 3248222580, 3835390401, 4022224774, 264347078, 604807628, 770255983, 1249150122, 1555081692, 1996064986, 2554220882, 2821834349, 2952996808, 3210313671, 3336571891, 3584528711, 113926993, 338241895, 666307205, 773529912, 1294757372, 1396182291, 1695183700, 1986661051, 2177026350, 2456956037, 2730485921, 2820302411, 3259730800, 3345764771, 3516065817, 3600352804, 4094571909, 275423344, 430227734, 506948616, 659060556, 883997877, 958139571, 1322822218, 1537002063, 1747873779, 1955562222, 2024104815, 2227730452, 2361852424, 2428436474, 2756734187, 3204031479, 3329325298] := eq_of_eqM (by kernel_rfl)
theorem fracs2 : (primes64.take 8).map (fun p => fracB p 2 32) = [1779033703, 3144134277, 1013904242, 2773480762, 1359893119, 2600822924, 528734635, 1541459225] := eq_of_eqM (by kernel_rfl)
theorem fracs2b : ((primes64.drop 8).take 8).map (fun p => fracB p 2 64 % 4294967296) = [3238371032, 914150663, 812702999, 4144912697, 4290775857, 1750603025, 1694076839, 3204075428] := eq_of_eqM (by kernel_rfl)

/-- Rotated right by halves. -/
def halfs (x : Nat) : Nat → Nat
  | 0 => x
  | n + 1 => halfs x n / 2 + halfs x n % 2 * 2147483648
theorem halfs_eq (x : Nat) (hx : x < 4294967296) : ∀ n, n ≤ 31 → halfs x n = x % 2 ^ n * 2 ^ (32 - n) + x / 2 ^ n
  | 0, _ => by simp [halfs, Nat.mod_one]
  | n + 1, h => by
    have ih := halfs_eq x hx n (by omega)
    have e1 : 32 - n = (31 - n) + 1 := by omega
    have e2 : 32 - (n + 1) = 31 - n := by omega
    rw [halfs, ih, e1, e2]
    obtain ⟨q, hq⟩ : ∃ q, q = x / 2 ^ n := ⟨_, rfl⟩
    obtain ⟨m, hm⟩ : ∃ m, m = x % 2 ^ n := ⟨_, rfl⟩
    have hd : x / 2 ^ (n + 1) = q / 2 := by rw [hq, Nat.pow_succ, Nat.div_div_eq_div_mul]
    have hmod : x % 2 ^ (n + 1) = m + 2 ^ n * (q % 2) := by rw [hm, hq, Nat.pow_succ, Nat.mod_mul]
    rw [hd, hmod, ← hq, ← hm]
    have hp : 2 ^ n * 2 ^ (31 - n) = 2147483648 := by rw [← Nat.pow_add, show n + (31 - n) = 31 by omega]
    obtain ⟨t, ht⟩ : ∃ t, t = m * 2 ^ (31 - n) := ⟨_, rfl⟩
    have e3 : m * 2 ^ (31 - n + 1) = 2 * t := by rw [ht, Nat.pow_succ, ← Nat.mul_assoc, Nat.mul_comm]
    have e4 : (m + 2 ^ n * (q % 2)) * 2 ^ (31 - n) = t + 2147483648 * (q % 2) := by
      rw [Nat.add_mul, ← ht, Nat.mul_right_comm, hp]
    rw [e3, e4]
    omega
theorem halfs_rot (x a : Nat) (hx : x < 4294967296) (ha : a ≤ 31) : halfs x a = (x * 2 ^ (32 - a) % 4294967296 ||| x / 2 ^ a) := by
  rw [halfs_eq x hx a ha]
  have hp : (4294967296 : Nat) = 2 ^ a * 2 ^ (32 - a) := by rw [← Nat.pow_add, show a + (32 - a) = 32 by omega]
  have e1 : x * 2 ^ (32 - a) % 4294967296 = x % 2 ^ a * 2 ^ (32 - a) := by rw [hp, Nat.mul_mod_mul_right]
  have hlt : x / 2 ^ a < 2 ^ (32 - a) := by
    rw [Nat.div_lt_iff_lt_mul (Nat.two_pow_pos a), Nat.mul_comm, ← hp]
    exact hx
  rw [e1, Nat.mul_comm, ← Nat.two_pow_add_eq_or_of_lt hlt]
/-- 'or' where the program has 'xor'. -/
theorem ch_eq (e f g : Nat) (he : e < 4294967296) : ((e &&& f) ||| ((4294967295 - e) &&& g)) = ((e &&& f) ^^^ ((4294967295 - e) &&& g)) := by
  apply Nat.eq_of_testBit_eq
  intro i
  have h : (4294967295 - e).testBit i = (decide (i < 32) && !e.testBit i) := by
    have := Nat.testBit_two_pow_sub_succ (n := 32) (x := e) he i
    simpa using this
  simp only [Nat.testBit_or, Nat.testBit_xor, Nat.testBit_and, h]
  cases e.testBit i <;> cases f.testBit i <;> cases g.testBit i <;> cases decide (i < 32) <;> rfl
theorem maj_eq (a b c : Nat) : ((a &&& b) ||| (a &&& c) ||| (b &&& c)) = ((a &&& b) ^^^ (a &&& c) ^^^ (b &&& c)) := by
  apply Nat.eq_of_testBit_eq
  intro i
  simp only [Nat.testBit_or, Nat.testBit_xor, Nat.testBit_and]
  cases a.testBit i <;> cases b.testBit i <;> cases c.testBit i <;> rfl

end Go.Proofs.Ytciigjipoecefaa
