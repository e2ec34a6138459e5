/-
  THE LAW PrimesFewer, but for alive, which is asked of a hypothesis. (Written by wip/gen_priX.py.)
-/
import Derived.Test.YtfeajcgcjpngkaaPriW
namespace Go.Proofs.Ytfeajcgcjpngkaa
open Go.RowKit

theorem frac_at2 {n : Int} (A u : Nat) (a : Int) (w : World) (hn : n = u) (ha : a = A) (hA : A < 18446744073709551616) (h1 : 1 ≤ u) (h2 : u ≤ 64) (v : Nat) (hv : v = rootN 2 (A * 2 ^ (2 * u)) % 2 ^ u) : Calls Try.prog 18 #[.int .u64 a, .int .i64 2, .int .i64 n] w fun e w' => e = .returned (.tuple #[.int .u64 (v : Int), .int .i64 0]) ∧ Below w.heap.size w w' := by
  subst hn hv
  exact frac_ok2 A u a w ha hA h1 h2 _ rfl
theorem frac_at3 {n : Int} (A u : Nat) (a : Int) (w : World) (hn : n = u) (ha : a = A) (hA : A < 18446744073709551616) (h1 : 1 ≤ u) (h2 : u ≤ 64) (v : Nat) (hv : v = rootN 3 (A * 2 ^ (3 * u)) % 2 ^ u) : Calls Try.prog 18 #[.int .u64 a, .int .i64 3, .int .i64 n] w fun e w' => e = .returned (.tuple #[.int .u64 (v : Int), .int .i64 0]) ∧ Below w.heap.size w w' := by
  subst hn hv
  exact frac_ok3 A u a w ha hA h1 h2 _ rfl

set_option maxRecDepth 100000 in
set_option maxHeartbeats 2000000 in
theorem fewer2le (hal : AliveP) (A p q : Nat) (w : World) (hA : A < 18446744073709551616) (hp : p < 256) (hq : q < 256) (hpq : p % 64 ≤ q % 64) :
    Calls Try.prog 8 #[.int .u64 (A : Int), .bool false, .int .u8 (p : Int), .int .u8 (q : Int)] w fun e w' => e = .returned (.bool true) ∧ Below w.heap.size w w' := by
  have HAL := Lib.hid (hal w)
  have HA := Lib.hid hA
  obtain ⟨u, hu⟩ : ∃ u, u = 1 + p % 64 := ⟨_, rfl⟩
  obtain ⟨d, hd⟩ : ∃ d, d = q % 64 - p % 64 := ⟨_, rfl⟩
  obtain ⟨m, hm⟩ : ∃ m, m = A % 1048576 := ⟨_, rfl⟩
  obtain ⟨x, hx⟩ : ∃ x, x = rootN 2 (A * 2 ^ (2 * u)) % 2 ^ u := ⟨_, rfl⟩
  obtain ⟨y, hy⟩ : ∃ y, y = rootN 2 (A * 2 ^ (2 * (u + d))) % 2 ^ (u + d) := ⟨_, rfl⟩
  have HXY := Lib.hid (show y / 2 ^ d = x by rw [hy, hx]; exact frac_few A u d (by decide))
  have HZ := Lib.hid (show 0 = rootN 2 (m ^ 2 * 2 ^ (2 * (u + d))) % 2 ^ (u + d) from (frac_whole m (u + d) (by decide)).symm)
  have HU := Lib.hid (show (1 : Int) + min ((p : Int) % 64) ((q : Int) % 64) = (u : Int) by rw [Int.min_def]; split <;> omega)
  have HV := Lib.hid (show (1 : Int) + max ((p : Int) % 64) ((q : Int) % 64) = ((u + d : Nat) : Int) by rw [Int.max_def]; split <;> omega)
  have hand : bits BinOp.and IntKind.u64 (A : Int) 1048575 = (m : Int) := by
    rw [show (1048575 : Int) = ((1048575 : Nat) : Int) from rfl, u64_and_nat _ _ hA (by decide), show (1048575 : Nat) = 2 ^ 20 - 1 from rfl, Nat.and_two_pow_sub_one_eq_mod, hm]
  obtain ⟨m2, hm2⟩ : ∃ m2, m2 = m ^ 2 := ⟨_, rfl⟩
  obtain ⟨m3, hm3⟩ : ∃ m3, m3 = m ^ 3 := ⟨_, rfl⟩
  have hmm : (m : Int) * (m : Int) = (m2 : Int) := by rw [hm2, Nat.pow_two, Int.natCast_mul]
  have hmm3 : (m2 : Int) * (m : Int) = (m3 : Int) := by rw [hm3, hm2, Nat.pow_succ m 2, Int.natCast_mul]
  have hb2 : m2 < 1099511627776 := by
    rw [hm2]
    exact Nat.pow_lt_pow_left (show m < 1048576 by omega) (by decide)
  have hb3 : m3 < 1152921504606846976 := by
    rw [hm3]
    exact Nat.pow_lt_pow_left (show m < 1048576 by omega) (by decide)
  have hu1 : 1 ≤ u ∧ u + d ≤ 64 := by omega
  have HX := Lib.hid hx
  have HY := Lib.hid hy
  have hm20 : m < 1048576 := by omega
  have HM := Lib.hid hm
  replace HZ := Lib.hid (show 0 = rootN 2 (m2 * 2 ^ (2 * (u + d))) % 2 ^ (u + d) by rw [hm2]; exact HZ.out)
  clear hx hy hA hu hd hm hm2 hm3
  go_enter Try.func8, Try.ntmps8
  go_wp2_with fail
  refine HAL.out.mono ?_
  rintro e w1 ⟨rfl, hb⟩
  have F := Lib.hid hb
  clear hb
  go_wp2_with fail
  refine (frac_at2 A u _ _ HU.out rfl HA.out hu1.1 (by omega) x HX.out).mono ?_
  rintro e w2 ⟨rfl, hb⟩
  replace F := Lib.hid (F.out.trans (hb.mono F.out.size))
  clear hb
  go_wp2_with fail
  refine (frac_at2 A (u + d) _ _ HV.out rfl HA.out (by omega) hu1.2 y HY.out).mono ?_
  rintro e w3 ⟨rfl, hb⟩
  replace F := Lib.hid (F.out.trans (hb.mono F.out.size))
  clear hb
  go_wp2_with fail
  refine (frac_at2 m2 (u + d) _ _ HV.out rfl (by omega) (by omega) hu1.2 0 HZ.out).mono ?_
  rintro e w4 ⟨rfl, hb⟩
  replace F := Lib.hid (F.out.trans (hb.mono F.out.size))
  clear hb
  have hsh : (y : Int) / 2 ^ (1 + max ((p : Int) % 64) ((q : Int) % 64) - (1 + min ((p : Int) % 64) ((q : Int) % 64))).toNat = (x : Int) := by
    rw [HV.out, HU.out, show (((u + d : Nat) : Int) - (u : Int)).toNat = d by omega, ← HXY.out, Int.natCast_ediv, Int.natCast_pow]
    rfl
  go_wp2
  go_ret
  exact ⟨rfl, F.out⟩

set_option maxRecDepth 100000 in
set_option maxHeartbeats 2000000 in
theorem fewer2gt (hal : AliveP) (A p q : Nat) (w : World) (hA : A < 18446744073709551616) (hp : p < 256) (hq : q < 256) (hpq : q % 64 < p % 64) :
    Calls Try.prog 8 #[.int .u64 (A : Int), .bool false, .int .u8 (p : Int), .int .u8 (q : Int)] w fun e w' => e = .returned (.bool true) ∧ Below w.heap.size w w' := by
  have HAL := Lib.hid (hal w)
  have HA := Lib.hid hA
  obtain ⟨u, hu⟩ : ∃ u, u = 1 + q % 64 := ⟨_, rfl⟩
  obtain ⟨d, hd⟩ : ∃ d, d = p % 64 - q % 64 := ⟨_, rfl⟩
  obtain ⟨m, hm⟩ : ∃ m, m = A % 1048576 := ⟨_, rfl⟩
  obtain ⟨x, hx⟩ : ∃ x, x = rootN 2 (A * 2 ^ (2 * u)) % 2 ^ u := ⟨_, rfl⟩
  obtain ⟨y, hy⟩ : ∃ y, y = rootN 2 (A * 2 ^ (2 * (u + d))) % 2 ^ (u + d) := ⟨_, rfl⟩
  have HXY := Lib.hid (show y / 2 ^ d = x by rw [hy, hx]; exact frac_few A u d (by decide))
  have HZ := Lib.hid (show 0 = rootN 2 (m ^ 2 * 2 ^ (2 * (u + d))) % 2 ^ (u + d) from (frac_whole m (u + d) (by decide)).symm)
  have HU := Lib.hid (show (1 : Int) + min ((p : Int) % 64) ((q : Int) % 64) = (u : Int) by rw [Int.min_def]; split <;> omega)
  have HV := Lib.hid (show (1 : Int) + max ((p : Int) % 64) ((q : Int) % 64) = ((u + d : Nat) : Int) by rw [Int.max_def]; split <;> omega)
  have hand : bits BinOp.and IntKind.u64 (A : Int) 1048575 = (m : Int) := by
    rw [show (1048575 : Int) = ((1048575 : Nat) : Int) from rfl, u64_and_nat _ _ hA (by decide), show (1048575 : Nat) = 2 ^ 20 - 1 from rfl, Nat.and_two_pow_sub_one_eq_mod, hm]
  obtain ⟨m2, hm2⟩ : ∃ m2, m2 = m ^ 2 := ⟨_, rfl⟩
  obtain ⟨m3, hm3⟩ : ∃ m3, m3 = m ^ 3 := ⟨_, rfl⟩
  have hmm : (m : Int) * (m : Int) = (m2 : Int) := by rw [hm2, Nat.pow_two, Int.natCast_mul]
  have hmm3 : (m2 : Int) * (m : Int) = (m3 : Int) := by rw [hm3, hm2, Nat.pow_succ m 2, Int.natCast_mul]
  have hb2 : m2 < 1099511627776 := by
    rw [hm2]
    exact Nat.pow_lt_pow_left (show m < 1048576 by omega) (by decide)
  have hb3 : m3 < 1152921504606846976 := by
    rw [hm3]
    exact Nat.pow_lt_pow_left (show m < 1048576 by omega) (by decide)
  have hu1 : 1 ≤ u ∧ u + d ≤ 64 := by omega
  have HX := Lib.hid hx
  have HY := Lib.hid hy
  have hm20 : m < 1048576 := by omega
  have HM := Lib.hid hm
  replace HZ := Lib.hid (show 0 = rootN 2 (m2 * 2 ^ (2 * (u + d))) % 2 ^ (u + d) by rw [hm2]; exact HZ.out)
  clear hx hy hA hu hd hm hm2 hm3
  go_enter Try.func8, Try.ntmps8
  go_wp2_with fail
  refine HAL.out.mono ?_
  rintro e w1 ⟨rfl, hb⟩
  have F := Lib.hid hb
  clear hb
  go_wp2_with fail
  refine (frac_at2 A u _ _ HU.out rfl HA.out hu1.1 (by omega) x HX.out).mono ?_
  rintro e w2 ⟨rfl, hb⟩
  replace F := Lib.hid (F.out.trans (hb.mono F.out.size))
  clear hb
  go_wp2_with fail
  refine (frac_at2 A (u + d) _ _ HV.out rfl HA.out (by omega) hu1.2 y HY.out).mono ?_
  rintro e w3 ⟨rfl, hb⟩
  replace F := Lib.hid (F.out.trans (hb.mono F.out.size))
  clear hb
  go_wp2_with fail
  refine (frac_at2 m2 (u + d) _ _ HV.out rfl (by omega) (by omega) hu1.2 0 HZ.out).mono ?_
  rintro e w4 ⟨rfl, hb⟩
  replace F := Lib.hid (F.out.trans (hb.mono F.out.size))
  clear hb
  have hsh : (y : Int) / 2 ^ (1 + max ((p : Int) % 64) ((q : Int) % 64) - (1 + min ((p : Int) % 64) ((q : Int) % 64))).toNat = (x : Int) := by
    rw [HV.out, HU.out, show (((u + d : Nat) : Int) - (u : Int)).toNat = d by omega, ← HXY.out, Int.natCast_ediv, Int.natCast_pow]
    rfl
  go_wp2
  go_ret
  exact ⟨rfl, F.out⟩

set_option maxRecDepth 100000 in
set_option maxHeartbeats 2000000 in
theorem fewer3le (hal : AliveP) (A p q : Nat) (w : World) (hA : A < 18446744073709551616) (hp : p < 256) (hq : q < 256) (hpq : p % 64 ≤ q % 64) :
    Calls Try.prog 8 #[.int .u64 (A : Int), .bool true, .int .u8 (p : Int), .int .u8 (q : Int)] w fun e w' => e = .returned (.bool true) ∧ Below w.heap.size w w' := by
  have HAL := Lib.hid (hal w)
  have HA := Lib.hid hA
  obtain ⟨u, hu⟩ : ∃ u, u = 1 + p % 64 := ⟨_, rfl⟩
  obtain ⟨d, hd⟩ : ∃ d, d = q % 64 - p % 64 := ⟨_, rfl⟩
  obtain ⟨m, hm⟩ : ∃ m, m = A % 1048576 := ⟨_, rfl⟩
  obtain ⟨x, hx⟩ : ∃ x, x = rootN 3 (A * 2 ^ (3 * u)) % 2 ^ u := ⟨_, rfl⟩
  obtain ⟨y, hy⟩ : ∃ y, y = rootN 3 (A * 2 ^ (3 * (u + d))) % 2 ^ (u + d) := ⟨_, rfl⟩
  have HXY := Lib.hid (show y / 2 ^ d = x by rw [hy, hx]; exact frac_few A u d (by decide))
  have HZ := Lib.hid (show 0 = rootN 3 (m ^ 3 * 2 ^ (3 * (u + d))) % 2 ^ (u + d) from (frac_whole m (u + d) (by decide)).symm)
  have HU := Lib.hid (show (1 : Int) + min ((p : Int) % 64) ((q : Int) % 64) = (u : Int) by rw [Int.min_def]; split <;> omega)
  have HV := Lib.hid (show (1 : Int) + max ((p : Int) % 64) ((q : Int) % 64) = ((u + d : Nat) : Int) by rw [Int.max_def]; split <;> omega)
  have hand : bits BinOp.and IntKind.u64 (A : Int) 1048575 = (m : Int) := by
    rw [show (1048575 : Int) = ((1048575 : Nat) : Int) from rfl, u64_and_nat _ _ hA (by decide), show (1048575 : Nat) = 2 ^ 20 - 1 from rfl, Nat.and_two_pow_sub_one_eq_mod, hm]
  obtain ⟨m2, hm2⟩ : ∃ m2, m2 = m ^ 2 := ⟨_, rfl⟩
  obtain ⟨m3, hm3⟩ : ∃ m3, m3 = m ^ 3 := ⟨_, rfl⟩
  have hmm : (m : Int) * (m : Int) = (m2 : Int) := by rw [hm2, Nat.pow_two, Int.natCast_mul]
  have hmm3 : (m2 : Int) * (m : Int) = (m3 : Int) := by rw [hm3, hm2, Nat.pow_succ m 2, Int.natCast_mul]
  have hb2 : m2 < 1099511627776 := by
    rw [hm2]
    exact Nat.pow_lt_pow_left (show m < 1048576 by omega) (by decide)
  have hb3 : m3 < 1152921504606846976 := by
    rw [hm3]
    exact Nat.pow_lt_pow_left (show m < 1048576 by omega) (by decide)
  have hu1 : 1 ≤ u ∧ u + d ≤ 64 := by omega
  have HX := Lib.hid hx
  have HY := Lib.hid hy
  have hm20 : m < 1048576 := by omega
  have HM := Lib.hid hm
  replace HZ := Lib.hid (show 0 = rootN 3 (m3 * 2 ^ (3 * (u + d))) % 2 ^ (u + d) by rw [hm3]; exact HZ.out)
  clear hx hy hA hu hd hm hm2 hm3
  go_enter Try.func8, Try.ntmps8
  go_wp2_with fail
  refine HAL.out.mono ?_
  rintro e w1 ⟨rfl, hb⟩
  have F := Lib.hid hb
  clear hb
  go_wp2_with fail
  refine (frac_at3 A u _ _ HU.out rfl HA.out hu1.1 (by omega) x HX.out).mono ?_
  rintro e w2 ⟨rfl, hb⟩
  replace F := Lib.hid (F.out.trans (hb.mono F.out.size))
  clear hb
  go_wp2_with fail
  refine (frac_at3 A (u + d) _ _ HV.out rfl HA.out (by omega) hu1.2 y HY.out).mono ?_
  rintro e w3 ⟨rfl, hb⟩
  replace F := Lib.hid (F.out.trans (hb.mono F.out.size))
  clear hb
  go_wp2_with fail
  refine (frac_at3 m3 (u + d) _ _ HV.out rfl (by omega) (by omega) hu1.2 0 HZ.out).mono ?_
  rintro e w4 ⟨rfl, hb⟩
  replace F := Lib.hid (F.out.trans (hb.mono F.out.size))
  clear hb
  have hsh : (y : Int) / 2 ^ (1 + max ((p : Int) % 64) ((q : Int) % 64) - (1 + min ((p : Int) % 64) ((q : Int) % 64))).toNat = (x : Int) := by
    rw [HV.out, HU.out, show (((u + d : Nat) : Int) - (u : Int)).toNat = d by omega, ← HXY.out, Int.natCast_ediv, Int.natCast_pow]
    rfl
  go_wp2
  go_ret
  exact ⟨rfl, F.out⟩

set_option maxRecDepth 100000 in
set_option maxHeartbeats 2000000 in
theorem fewer3gt (hal : AliveP) (A p q : Nat) (w : World) (hA : A < 18446744073709551616) (hp : p < 256) (hq : q < 256) (hpq : q % 64 < p % 64) :
    Calls Try.prog 8 #[.int .u64 (A : Int), .bool true, .int .u8 (p : Int), .int .u8 (q : Int)] w fun e w' => e = .returned (.bool true) ∧ Below w.heap.size w w' := by
  have HAL := Lib.hid (hal w)
  have HA := Lib.hid hA
  obtain ⟨u, hu⟩ : ∃ u, u = 1 + q % 64 := ⟨_, rfl⟩
  obtain ⟨d, hd⟩ : ∃ d, d = p % 64 - q % 64 := ⟨_, rfl⟩
  obtain ⟨m, hm⟩ : ∃ m, m = A % 1048576 := ⟨_, rfl⟩
  obtain ⟨x, hx⟩ : ∃ x, x = rootN 3 (A * 2 ^ (3 * u)) % 2 ^ u := ⟨_, rfl⟩
  obtain ⟨y, hy⟩ : ∃ y, y = rootN 3 (A * 2 ^ (3 * (u + d))) % 2 ^ (u + d) := ⟨_, rfl⟩
  have HXY := Lib.hid (show y / 2 ^ d = x by rw [hy, hx]; exact frac_few A u d (by decide))
  have HZ := Lib.hid (show 0 = rootN 3 (m ^ 3 * 2 ^ (3 * (u + d))) % 2 ^ (u + d) from (frac_whole m (u + d) (by decide)).symm)
  have HU := Lib.hid (show (1 : Int) + min ((p : Int) % 64) ((q : Int) % 64) = (u : Int) by rw [Int.min_def]; split <;> omega)
  have HV := Lib.hid (show (1 : Int) + max ((p : Int) % 64) ((q : Int) % 64) = ((u + d : Nat) : Int) by rw [Int.max_def]; split <;> omega)
  have hand : bits BinOp.and IntKind.u64 (A : Int) 1048575 = (m : Int) := by
    rw [show (1048575 : Int) = ((1048575 : Nat) : Int) from rfl, u64_and_nat _ _ hA (by decide), show (1048575 : Nat) = 2 ^ 20 - 1 from rfl, Nat.and_two_pow_sub_one_eq_mod, hm]
  obtain ⟨m2, hm2⟩ : ∃ m2, m2 = m ^ 2 := ⟨_, rfl⟩
  obtain ⟨m3, hm3⟩ : ∃ m3, m3 = m ^ 3 := ⟨_, rfl⟩
  have hmm : (m : Int) * (m : Int) = (m2 : Int) := by rw [hm2, Nat.pow_two, Int.natCast_mul]
  have hmm3 : (m2 : Int) * (m : Int) = (m3 : Int) := by rw [hm3, hm2, Nat.pow_succ m 2, Int.natCast_mul]
  have hb2 : m2 < 1099511627776 := by
    rw [hm2]
    exact Nat.pow_lt_pow_left (show m < 1048576 by omega) (by decide)
  have hb3 : m3 < 1152921504606846976 := by
    rw [hm3]
    exact Nat.pow_lt_pow_left (show m < 1048576 by omega) (by decide)
  have hu1 : 1 ≤ u ∧ u + d ≤ 64 := by omega
  have HX := Lib.hid hx
  have HY := Lib.hid hy
  have hm20 : m < 1048576 := by omega
  have HM := Lib.hid hm
  replace HZ := Lib.hid (show 0 = rootN 3 (m3 * 2 ^ (3 * (u + d))) % 2 ^ (u + d) by rw [hm3]; exact HZ.out)
  clear hx hy hA hu hd hm hm2 hm3
  go_enter Try.func8, Try.ntmps8
  go_wp2_with fail
  refine HAL.out.mono ?_
  rintro e w1 ⟨rfl, hb⟩
  have F := Lib.hid hb
  clear hb
  go_wp2_with fail
  refine (frac_at3 A u _ _ HU.out rfl HA.out hu1.1 (by omega) x HX.out).mono ?_
  rintro e w2 ⟨rfl, hb⟩
  replace F := Lib.hid (F.out.trans (hb.mono F.out.size))
  clear hb
  go_wp2_with fail
  refine (frac_at3 A (u + d) _ _ HV.out rfl HA.out (by omega) hu1.2 y HY.out).mono ?_
  rintro e w3 ⟨rfl, hb⟩
  replace F := Lib.hid (F.out.trans (hb.mono F.out.size))
  clear hb
  go_wp2_with fail
  refine (frac_at3 m3 (u + d) _ _ HV.out rfl (by omega) (by omega) hu1.2 0 HZ.out).mono ?_
  rintro e w4 ⟨rfl, hb⟩
  replace F := Lib.hid (F.out.trans (hb.mono F.out.size))
  clear hb
  have hsh : (y : Int) / 2 ^ (1 + max ((p : Int) % 64) ((q : Int) % 64) - (1 + min ((p : Int) % 64) ((q : Int) % 64))).toNat = (x : Int) := by
    rw [HV.out, HU.out, show (((u + d : Nat) : Int) - (u : Int)).toNat = d by omega, ← HXY.out, Int.natCast_ediv, Int.natCast_pow]
    rfl
  go_wp2
  go_ret
  exact ⟨rfl, F.out⟩

theorem fewer_walk (hal : AliveP) (f : Int) (A : Nat) (b : Bool) (i j : Int) (p q : Nat) (w : World) (hf : f = A) (hA : A < 18446744073709551616) (hi : i = p) (hj : j = q) (hp : p < 256) (hq : q < 256) :
    Calls Try.prog 8 #[.int .u64 f, .bool b, .int .u8 i, .int .u8 j] w fun e w' => e = .returned (.bool true) ∧ Below w.heap.size w w' := by
  subst hf hi hj
  rcases Nat.lt_or_ge (q % 64) (p % 64) with h | h
  · cases b with
    | false => exact fewer2gt hal A p q w hA hp hq h
    | true => exact fewer3gt hal A p q w hA hp hq h
  · cases b with
    | false => exact fewer2le hal A p q w hA hp hq h
    | true => exact fewer3le hal A p q w hA hp hq h

end Go.Proofs.Ytfeajcgcjpngkaa
