/-
  math/bits.Sub32, math/bits.Len32, AND NAT's Bits AND Bit.
-/
import Derived.Test.YtfeajcgcjpngkaaNat2
import Derived.Test.YtfeajcgcjpngkaaShelf
import Derived.Lib.ItoaNum
namespace Go.Proofs.Ytfeajcgcjpngkaa
open Go.RowKit

/-- What is taken off, and what is borrowed. -/
def subD (x y b : Nat) : Nat := if x < y + b then x + 4294967296 - y - b else x - y - b
def subB (x y b : Nat) : Nat := if x < y + b then 1 else 0

theorem bit_cases (X Y D : Nat) (hX : X ≤ 1) (hY : Y ≤ 1) (hD : D ≤ 1) : ((1 ^^^ X) &&& Y) ||| ((1 ^^^ (X ^^^ Y)) &&& D) = if X = Y then D else Y := by
  have h1 : X = 0 ∨ X = 1 := by omega
  have h2 : Y = 0 ∨ Y = 1 := by omega
  have h3 : D = 0 ∨ D = 1 := by omega
  rcases h1 with rfl | rfl <;> rcases h2 with rfl | rfl <;> rcases h3 with rfl | rfl <;> rfl

theorem borrow_eq (x y b d : Nat) (hx : x < 4294967296) (hy : y < 4294967296) (hb : b ≤ 1) (hd : d = subD x y b) : (((4294967295 ^^^ x) &&& y) ||| ((4294967295 ^^^ (x ^^^ y)) &&& d)) / 2147483648 = subB x y b := by
  have hd2 : d < 4294967296 := by rw [hd]; unfold subD; split <;> omega
  have e : ∀ n : Nat, n / 2147483648 = n >>> 31 := fun n => by rw [Nat.shiftRight_eq_div_pow]
  rw [e, Nat.shiftRight_or_distrib, Nat.shiftRight_and_distrib, Nat.shiftRight_and_distrib, Nat.shiftRight_xor_distrib, Nat.shiftRight_xor_distrib, Nat.shiftRight_xor_distrib, show 4294967295 >>> 31 = 1 from rfl, ← e, ← e, ← e]
  rw [bit_cases _ _ _ (by omega) (by omega) (by omega)]
  subst hd
  unfold subD subB at *
  split <;> split <;> simp_all <;> omega

set_option maxHeartbeats 400000 in
theorem sub32_any (x y b : Nat) (w : World) (hx : x < 4294967296) (hy : y < 4294967296) (hb : b ≤ 1) :
    Calls Try.prog 63 #[.int .u32 (x : Int), .int .u32 (y : Int), .int .u32 (b : Int)] w fun e w' => e = .returned (.tuple #[.int .u32 (subD x y b : Nat), .int .u32 (subB x y b : Nat)]) ∧ w = w' := by
  have hd : (((x : Int) - (y : Int) - (b : Int)) % 4294967296) = ((subD x y b : Nat) : Int) := by unfold subD; split <;> omega
  have hd2 : subD x y b < 4294967296 := by unfold subD; split <;> omega
  have h2 := Lib.hid (borrow_eq x y b _ hx hy hb rfl)
  have hm : IntKind.u32.max = ((4294967295 : Nat) : Int) := rfl
  have n1 : 4294967295 ^^^ x < 4294967296 := Nat.xor_lt_two_pow (n := 32) (by decide) hx
  have n2 : x ^^^ y < 4294967296 := Nat.xor_lt_two_pow (n := 32) hx hy
  have n3 : 4294967295 ^^^ (x ^^^ y) < 4294967296 := Nat.xor_lt_two_pow (n := 32) (by decide) n2
  have h3 := Lib.hid (show bits BinOp.or IntKind.u32 (bits BinOp.and IntKind.u32 (bits BinOp.xor IntKind.u32 IntKind.u32.max (x : Int)) (y : Int)) (bits BinOp.and IntKind.u32 (bits BinOp.xor IntKind.u32 IntKind.u32.max (bits BinOp.xor IntKind.u32 (x : Int) (y : Int))) (((x : Int) - (y : Int) - (b : Int)) % 4294967296)) / 2147483648 = ((subB x y b : Nat) : Int) by
    rw [hd, hm, u32_xor_nat _ _ (by decide) hx, u32_and_nat _ _ n1 hy, u32_xor_nat _ _ hx hy, u32_xor_nat _ _ (by decide) n2, u32_and_nat _ _ n3 hd2, u32_or_nat _ _ (Nat.lt_of_le_of_lt Nat.and_le_left n1) (Nat.lt_of_le_of_lt Nat.and_le_left n3)]
    have := h2.out
    omega)
  have HD := Lib.hid hd
  clear hd hd2 hm n1 n2 n3
  go_enter Try.func63, Try.ntmps63
  go_wp2
  go_ret2
  exact ⟨by rw [← HD.out, ← h3.out]; rfl, rfl⟩

/-- How many bits a number has. -/
def bitsN (n : Nat) : Nat := if n = 0 then 0 else Nat.log2 n + 1

theorem bitsN_le (n k : Nat) : bitsN n ≤ k ↔ n < 2 ^ k := by
  unfold bitsN
  by_cases h : n = 0
  · simp [h, Nat.pow_pos]
  · rw [if_neg h, ← Nat.log2_lt h]; omega

theorem bitsN_uniq {n m : Nat} (h : ∀ k, m ≤ k ↔ n < 2 ^ k) : bitsN n = m := by
  have h1 := (bitsN_le n m).2 ((h m).1 (Nat.le_refl _))
  have h2 := (h (bitsN n)).2 ((bitsN_le n _).1 (Nat.le_refl _))
  omega

theorem bitLen_bitsN (x : Nat) (hx : x < 4294967296) : Lib.bitLen x = bitsN x := by
  by_cases h : x = 0
  · subst h; rfl
  · obtain ⟨h1, h2, h3⟩ := Lib.bitLenAux_bounds 64 x (Nat.lt_of_lt_of_le hx (by decide)) h
    symm
    apply bitsN_uniq
    intro k
    show Lib.bitLenAux 64 x ≤ k ↔ _
    constructor
    · intro h4; exact Nat.lt_of_lt_of_le h3 (Nat.pow_le_pow_right (by decide) h4)
    · intro h4
      apply Decidable.byContradiction
      intro h5
      have : 2 ^ k ≤ 2 ^ (Lib.bitLenAux 64 x - 1) := Nat.pow_le_pow_right (by decide) (by omega)
      omega

theorem bitsN_top (v d n : Nat) (hd : 0 < d) (hv : v < 2 ^ n) : bitsN (v + 2 ^ n * d) = n + bitsN d := by
  apply bitsN_uniq
  intro k
  by_cases hk : n ≤ k
  · obtain ⟨j, rfl⟩ : ∃ j, k = n + j := ⟨k - n, by omega⟩
    rw [Nat.add_le_add_iff_left, bitsN_le, Nat.pow_add]
    constructor
    · intro h
      have : 2 ^ n * (d + 1) ≤ 2 ^ n * 2 ^ j := Nat.mul_le_mul_left _ h
      rw [Nat.mul_add] at this
      omega
    · intro h
      have h2 : 2 ^ n * d < 2 ^ n * 2 ^ j := by omega
      exact Nat.lt_of_mul_lt_mul_left h2
  · constructor
    · omega
    · intro h
      have h1 : 2 ^ k ≤ 2 ^ n := Nat.pow_le_pow_right (by decide) (by omega)
      have h2 : 2 ^ n * 1 ≤ 2 ^ n * d := Nat.mul_le_mul_left _ hd
      omega

theorem bareN_bareN (l : List Nat) : bareN (bareN l) = bareN l := by
  induction l with
  | nil => rfl
  | cons d t ih =>
    rw [bareN]
    split
    · rfl
    · next hz =>
      rw [bareN, ih, if_neg hz]

theorem bare_top (l : List Nat) (k : Nat) (h : (bareN l).length = k + 1) : 0 < (bareN l)[k]?.getD 0 := by
  have h2 := bareN_bareN l
  generalize bareN l = m at *
  apply Nat.pos_of_ne_zero
  intro e
  have h3 : m = m.take k ++ [m[k]?.getD 0] := by rw [← take_snocN m k (by omega), List.take_of_length_le (by omega)]
  rw [e] at h3
  have h4 : (bareN m).length ≤ k := by
    rw [h3, bareN_snoc_zero]
    have := bareN_le (m.take k)
    rw [List.length_take] at this
    omega
  rw [h2] at h4
  omega

theorem bits_val {l : List Nat} (hL : Lim l) (k : Nat) (h : (bareN l).length = k + 1) : bitsN (val32 l) = 32 * k + bitsN ((bareN l)[k]?.getD 0) := by
  have h1 := bare_top l k h
  have hb := bareN_val 4294967296 l
  have hLm : Lim (bareN l) := fun x hx => hL x (bareN_mem hx)
  generalize bareN l = m at *
  have h3 : m = m.take k ++ [m[k]?.getD 0] := by rw [← take_snocN m k (by omega), List.take_of_length_le (by omega)]
  have h4 := valB_lt (b := 4294967296) (by decide) (l := m.take k) (fun x hx => hLm x (List.mem_of_mem_take hx))
  rw [List.length_take, Nat.min_eq_left (by omega)] at h4
  have h5 : (4294967296 : Nat) ^ k = 2 ^ (32 * k) := by rw [Nat.pow_mul]
  have h6 : valB 4294967296 m = valB 4294967296 (m.take k) + 4294967296 ^ k * (m[k]?.getD 0) := by
    conv => lhs; rw [h3, valB_snoc, List.length_take, Nat.min_eq_left (show k ≤ m.length by omega)]
  rw [h5] at h4 h6
  rw [← bitsN_top _ _ _ h1 h4, ← h6, hb]

theorem len32_any (d : Nat) (w : World) (hd : d < 4294967296) : Calls Try.prog 56 #[.int .u32 (d : Int)] w fun e w' => e = .returned (.int .i64 (bitsN d : Nat)) ∧ w = w' :=
  (Try.bits_Len32 d w (by omega) (by omega)).mono fun e w' ⟨he, hw⟩ => ⟨by rw [he, Int.toNat_natCast, bitLen_bitsN d hd], hw.symm⟩

set_option maxHeartbeats 400000 in
theorem bits_any (a : Option Addr) (len cap : Nat) (l : List Nat) (w : World) (h : Reads .u32 w a len cap l) (hL : Lim l) (hm : len ≤ 288230376151711743) :
    Calls Try.prog 32 #[.slice a len cap] w fun e w' => e = .returned (.int .i64 (bitsN (val32 l) : Nat)) ∧ w = w' := by
  have hb := h.bare
  have hbl := bareN_le l
  rw [h.length] at hbl
  have HB := Lib.hid (bare32_any a len cap l w h)
  have hbv := bits_val hL
  have hz : (bareN l).length = 0 → val32 l = 0 := fun e => by
    have e1 : bareN l = [] := List.eq_nil_of_length_eq_zero e
    rw [bareN_nat hL] at e1
    exact (natB_nil (by decide)).1 e1
  have hLm : Lim (bareN l) := fun x hx => hL x (bareN_mem hx)
  clear h
  generalize bareN l = m at *
  have HM := Lib.hid hb
  clear hb
  cases hk : m.length with
  | zero =>
    have hr := Lib.hid (show bitsN (val32 l) = 0 by rw [hz hk]; rfl)
    clear hz hbv
    rw [hk] at HB
    clear hk
    go_enter Try.func32, Try.ntmps32
    go_wp2_with fail
    refine HB.out.mono ?_
    rintro e w1 ⟨rfl, rfl⟩
    go_wp2
    go_ret
    exact ⟨by rw [hr.out]; rfl, rfl⟩
  | succ k =>
    have hr := Lib.hid (hbv k hk)
    rw [hk] at HB HM hbl
    clear hz hbv hk
    have hd := lim_get hLm k
    obtain ⟨b, off, rfl, hbk, hc⟩ := HM.out.cells (by omega)
    have hck := hc k (by omega)
    clear hc hLm
    generalize m[k]?.getD 0 = d at *
    have hb32 := (bitsN_le d 32).2 hd
    go_enter Try.func32, Try.ntmps32
    go_wp2_with fail
    refine HB.out.mono ?_
    rintro e w1 ⟨rfl, rfl⟩
    go_wp2_with (go_at_call 56; refine (len32_any d _ hd).mono ?_; rintro e w' ⟨rfl, rfl⟩)
    go_ret
    exact ⟨by rw [hr.out]; simp, rfl⟩

end Go.Proofs.Ytfeajcgcjpngkaa
