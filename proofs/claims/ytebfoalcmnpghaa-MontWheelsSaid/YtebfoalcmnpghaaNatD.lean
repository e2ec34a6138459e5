/-
  NAT's Shr.
-/
import Derived.Test.YtebfoalcmnpghaaNatC
import Derived.Test.YtebfoalcmnpghaaNat8
namespace Go.Proofs.Ytebfoalcmnpghaa
open Go.RowKit

theorem below_drewN {B : Nat} {a w : World} (h : Below B a w) (n : Nat) : Below B a (w.drewN n) := h.trans ⟨rfl, rfl, rfl, Nat.le_refl _, fun _ _ => rfl⟩

theorem shr_digit (v q r t : Nat) (hr : r < 32) : ((v / 4294967296 ^ (q + t + 1) % 4294967296 * 4294967296 + v / 4294967296 ^ (q + t) % 4294967296) / 2 ^ r) % 4294967296 = v / 2 ^ (32 * q + r) / 4294967296 ^ t % 4294967296 := by
  have e1 : v / 4294967296 ^ (q + t + 1) = v / 4294967296 ^ (q + t) / 4294967296 := by rw [Nat.pow_succ, Nat.div_div_eq_div_mul]
  have e3 : v / 2 ^ (32 * q + r) / 4294967296 ^ t = v / 4294967296 ^ (q + t) / 2 ^ r := by
    rw [Nat.div_div_eq_div_mul, Nat.div_div_eq_div_mul, Nat.pow_add, Nat.pow_mul, Nat.pow_add]
    congr 1
    rw [show (2 : Nat) ^ 32 = 4294967296 from rfl]
    rw [Nat.mul_assoc, Nat.mul_assoc, Nat.mul_comm (2 ^ r)]
  rw [e1, e3]
  generalize v / 4294967296 ^ (q + t) = y
  have e2 : y / 4294967296 % 4294967296 * 4294967296 + y % 4294967296 = y % (2 ^ r * 2 ^ (64 - r)) := by
    rw [← Nat.pow_add, show r + (64 - r) = 64 from by omega, show (2 : Nat) ^ 64 = 4294967296 * 4294967296 from rfl, Nat.mod_mul]
    omega
  rw [e2, Nat.mod_mul_right_div_self]
  exact Nat.mod_mod_of_dvd _ ⟨2 ^ (32 - r), by rw [show (4294967296 : Nat) = 2 ^ 32 from rfl, ← Nat.pow_add]; congr 1; omega⟩

theorem shr_end (v q r M f : Nat) (hv : v < 4294967296 ^ M) (hf : f = min q M) : bareN (padN (nat32 (v / 2 ^ (32 * q + r))) (M - f)) = nat32 (v / 2 ^ (32 * q + r)) := by
  have hlt : v / 2 ^ (32 * q + r) < 4294967296 ^ (M - f) := by
    rw [Nat.div_lt_iff_lt_mul (Nat.pow_pos (by decide)), Nat.pow_add, Nat.pow_mul, show (2 : Nat) ^ 32 = 4294967296 from rfl, ← Nat.mul_assoc, ← Nat.pow_add]
    refine Nat.lt_of_lt_of_le hv ?_
    refine Nat.le_trans (Nat.pow_le_pow_right (by decide) (show M ≤ M - f + q by omega)) (Nat.le_mul_of_pos_right _ (Nat.pow_pos (by decide)))
  have hle := (natB_length (b := 4294967296) (by decide) (v / 2 ^ (32 * q + r)) (M - f)).2 hlt
  rw [bareN_nat (fun x hx => by
    obtain ⟨k, _, rfl⟩ := List.mem_map.1 hx
    exact lim_get (natB_digit (by decide) _) k)]
  rw [show val32 (padN (nat32 (v / 2 ^ (32 * q + r))) (M - f)) = val32 (nat32 (v / 2 ^ (32 * q + r))) from padN_val _ _ _ hle, show val32 (nat32 (v / 2 ^ (32 * q + r))) = _ from natB_val (by decide) _]

theorem or_lo (x y : Nat) (hx : x < 4294967296) (hy : y < 4294967296) : bits BinOp.or IntKind.u64 ((x : Int) * 4294967296) (y : Int) = ((x * 4294967296 + y : Nat) : Int) := by
  rw [or32 x y hx hy]; congr 1; omega

end Go.Proofs.Ytebfoalcmnpghaa