/-
  SHA-512, the reference: right, down, more.
-/
import Derived.Test.YtpfdehjllnhllaaSiY
import Derived.Test.YtpfdehjllnhllaaShb7
import Derived.BigQuiet
namespace Go.Proofs.Ytpfdehjllnhllaa
open Go.RowKit Go.Shelf

theorem halfs_lt (x : Nat) (hx : x < 18446744073709551616) : ∀ n, halfs x n < 18446744073709551616
  | 0 => hx
  | n + 1 => by
    have := halfs_lt x hx n
    show halfs x n / 2 + halfs x n % 2 * 9223372036854775808 < _
    omega
theorem right_any (x n : Nat) (y k : Int) (w : World) (hy : y = x) (hk : k = n) (hx : x < 18446744073709551616) (hn : n ≤ 63) :
    Calls Try.prog 21 #[.int .u64 y, .int .i64 k] w fun e w' => e = .returned (.int .u64 (halfs x n : Nat)) ∧ w = w' := by
  subst hy hk
  go_enter Try.func21, Try.ntmps21
  go_wp2_with fail
  go_loopw [0, 5] (fun xv iv wq => ∃ i v : Nat, iv = .int .i64 (i : Int) ∧ xv = .int .u64 (v : Int) ∧ i ≤ n ∧ v < 18446744073709551616 ∧ Hid (v = halfs x i) ∧ w = wq) (fun _ iv _ => n - (intOf iv).toNat)
  case atStart => exact ⟨0, x, rfl, rfl, Nat.zero_le _, hx, rfl, rfl⟩
  case round =>
    obtain ⟨i, v, rfl, rfl, hi, hv, hI, rfl⟩ := hrel
    by_cases hlt : i < n
    · go_wp2
      go_roundw
      case rel => exact ⟨i + 1, v / 2 + v % 2 * 9223372036854775808, by go_num, by go_num, by omega, by omega, by rw [hI.out]; rfl, trivial⟩
      case measure => simp [intOf] <;> omega
    · obtain rfl : i = n := by omega
      go_wp2
      go_ret
      exact ⟨by rw [← hI.out]; rfl, rfl⟩
def downN (x : Nat) : Nat → Nat
  | 0 => x
  | n + 1 => downN x n / 2
theorem downN_eq (x : Nat) : ∀ n, downN x n = x / 2 ^ n
  | 0 => by simp [downN]
  | n + 1 => by rw [downN, downN_eq x n, Nat.pow_succ, Nat.div_div_eq_div_mul]
theorem down_any (x n : Nat) (y k : Int) (w : World) (hy : y = x) (hk : k = n) (hx : x < 18446744073709551616) (hn : n ≤ 63) :
    Calls Try.prog 22 #[.int .u64 y, .int .i64 k] w fun e w' => e = .returned (.int .u64 (x / 2 ^ n : Nat)) ∧ w = w' := by
  rw [← downN_eq]
  subst hy hk
  go_enter Try.func22, Try.ntmps22
  go_wp2_with fail
  go_loopw [0, 5] (fun xv iv wq => ∃ i v : Nat, iv = .int .i64 (i : Int) ∧ xv = .int .u64 (v : Int) ∧ i ≤ n ∧ v < 18446744073709551616 ∧ Hid (v = downN x i) ∧ w = wq) (fun _ iv _ => n - (intOf iv).toNat)
  case atStart => exact ⟨0, x, rfl, rfl, Nat.zero_le _, hx, rfl, rfl⟩
  case round =>
    obtain ⟨i, v, rfl, rfl, hi, hv, hI, rfl⟩ := hrel
    by_cases hlt : i < n
    · go_wp2
      go_roundw
      case rel => exact ⟨i + 1, v / 2, by go_num, by go_num, by omega, by omega, by rw [hI.out]; rfl, trivial⟩
      case measure => simp [intOf] <;> omega
    · obtain rfl : i = n := by omega
      go_wp2
      go_ret
      exact ⟨by rw [← hI.out]; rfl, rfl⟩

end Go.Proofs.Ytpfdehjllnhllaa
