/-
  SHA-512: far, near.
-/
import Derived.Test.YtmfjhgjplmpecaaDoorQbA
namespace Go.Proofs.YtmfjhgjplmpecaaDoor.L5
open Go.RowKit

def farN (x : Nat) : Nat := rotr x 1 ^^^ rotr x 8 ^^^ x / 128
theorem farN_lt {x : Nat} (h : x < 18446744073709551616) : farN x < 18446744073709551616 := Nat.xor_lt_two_pow (n := 64) (Nat.xor_lt_two_pow (n := 64) (rotr_lt h) (rotr_lt h)) (by omega)
set_option maxHeartbeats 1000000 in
theorem far_any (x : Nat) (w : World) (hx : x < 18446744073709551616) (r : Nat) (hr : r = farN x) :
    Calls Tryd.prog 71 #[.int .u64 (x : Int)] w fun e w' => e = .returned (.int .u64 (r : Int)) ∧ w = w' := by
  obtain ⟨p, hp⟩ : ∃ p, p = rotr x 1 := ⟨_, rfl⟩
  obtain ⟨q, hq⟩ : ∃ q, q = rotr x 8 := ⟨_, rfl⟩
  have hp2 : p < 18446744073709551616 := hp ▸ rotr_lt hx
  have hq2 : q < 18446744073709551616 := hq ▸ rotr_lt hx
  have hpq : p ^^^ q < 18446744073709551616 := Nat.xor_lt_two_pow (n := 64) hp2 hq2
  obtain ⟨m, hm⟩ : ∃ m, m = p ^^^ q := ⟨_, rfl⟩
  rw [← hm] at hpq
  have HR := Lib.hid (show r = m ^^^ (x / 128) by rw [hr, hm, hp, hq]; rfl)
  have HP := Lib.hid hp
  have HQ := Lib.hid hq
  have hx1 : bits BinOp.xor IntKind.u64 (p : Int) (q : Int) = (m : Int) := by rw [u64_xor_nat _ _ hp2 hq2, hm]
  have hx2 : bits BinOp.xor IntKind.u64 (m : Int) ((x : Int) / 128) = (r : Int) := by rw [show (x : Int) / 128 = ((x / 128 : Nat) : Int) by omega, u64_xor_nat _ _ hpq (by omega), HR.out]
  clear hr hp hq hm
  go_enter Tryd.func71, Tryd.ntmps71
  go_wp2_with fail
  refine (rot_any x 1 _ _ rfl (by decide) (by decide) hx p HP.out).mono ?_
  rintro e w1 ⟨rfl, rfl⟩
  go_wp2_with fail
  refine (rot_any x 8 _ _ rfl (by decide) (by decide) hx q HQ.out).mono ?_
  rintro e w1 ⟨rfl, rfl⟩
  go_wp2
  go_ret
  exact ⟨by first | rfl | simp [hx2], rfl⟩

def nearN (x : Nat) : Nat := rotr x 19 ^^^ rotr x 61 ^^^ x / 64
theorem nearN_lt {x : Nat} (h : x < 18446744073709551616) : nearN x < 18446744073709551616 := Nat.xor_lt_two_pow (n := 64) (Nat.xor_lt_two_pow (n := 64) (rotr_lt h) (rotr_lt h)) (by omega)
set_option maxHeartbeats 1000000 in
theorem near_any (x : Nat) (w : World) (hx : x < 18446744073709551616) (r : Nat) (hr : r = nearN x) :
    Calls Tryd.prog 72 #[.int .u64 (x : Int)] w fun e w' => e = .returned (.int .u64 (r : Int)) ∧ w = w' := by
  obtain ⟨p, hp⟩ : ∃ p, p = rotr x 19 := ⟨_, rfl⟩
  obtain ⟨q, hq⟩ : ∃ q, q = rotr x 61 := ⟨_, rfl⟩
  have hp2 : p < 18446744073709551616 := hp ▸ rotr_lt hx
  have hq2 : q < 18446744073709551616 := hq ▸ rotr_lt hx
  have hpq : p ^^^ q < 18446744073709551616 := Nat.xor_lt_two_pow (n := 64) hp2 hq2
  obtain ⟨m, hm⟩ : ∃ m, m = p ^^^ q := ⟨_, rfl⟩
  rw [← hm] at hpq
  have HR := Lib.hid (show r = m ^^^ (x / 64) by rw [hr, hm, hp, hq]; rfl)
  have HP := Lib.hid hp
  have HQ := Lib.hid hq
  have hx1 : bits BinOp.xor IntKind.u64 (p : Int) (q : Int) = (m : Int) := by rw [u64_xor_nat _ _ hp2 hq2, hm]
  have hx2 : bits BinOp.xor IntKind.u64 (m : Int) ((x : Int) / 64) = (r : Int) := by rw [show (x : Int) / 64 = ((x / 64 : Nat) : Int) by omega, u64_xor_nat _ _ hpq (by omega), HR.out]
  clear hr hp hq hm
  go_enter Tryd.func72, Tryd.ntmps72
  go_wp2_with fail
  refine (rot_any x 19 _ _ rfl (by decide) (by decide) hx p HP.out).mono ?_
  rintro e w1 ⟨rfl, rfl⟩
  go_wp2_with fail
  refine (rot_any x 61 _ _ rfl (by decide) (by decide) hx q HQ.out).mono ?_
  rintro e w1 ⟨rfl, rfl⟩
  go_wp2
  go_ret
  exact ⟨by first | rfl | simp [hx2], rfl⟩

end Go.Proofs.YtmfjhgjplmpecaaDoor.L5
