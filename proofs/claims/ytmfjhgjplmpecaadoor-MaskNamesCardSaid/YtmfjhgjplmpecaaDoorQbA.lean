/-
  SHA-512: RotateLeft64, laid. (Written by wip/gen_shbA.py.)
-/
import Derived.Test.YtmfjhgjplmpecaaDoorQbM
import Derived.Test.YtmfjhgjplmpecaaDoorChecked
import Derived.Laws.BitsAllLaws
namespace Go.Proofs.YtmfjhgjplmpecaaDoor.L5
open Go.RowKit

theorem wrap_neg (a : Nat) (h1 : 1 ≤ a) (h2 : a < 64) (s : Nat) (hs : s = 64 - a) : bits BinOp.and IntKind.u64 (IntKind.u64.wrap (-(a : Int))) 63 = (s : Int) := by
  have e : IntKind.u64.wrap (-(a : Int)) = ((18446744073709551616 - a : Nat) : Int) := by
    simp only [IntKind.wrap, IntKind.bits, IntKind.signed]
    simp
    omega
  rw [e, show (63 : Int) = ((63 : Nat) : Int) from rfl, u64_and_nat _ _ (by omega) (by decide), show (63 : Nat) = 2 ^ 6 - 1 from rfl, Nat.and_two_pow_sub_one_eq_mod]
  omega

theorem rot_cast (x s : Nat) (hx : x < 18446744073709551616) (hs : s < 64) : bits BinOp.or IntKind.u64 (IntKind.u64.wrap ((x : Int) * 2 ^ s)) ((x : Int) / 2 ^ (64 - s)) = ((x * 2 ^ s % 18446744073709551616 ||| x / 2 ^ (64 - s) : Nat) : Int) := by
  have e1 : IntKind.u64.wrap ((x : Int) * 2 ^ s) = ((x * 2 ^ s % 18446744073709551616 : Nat) : Int) := by
    have e0 : IntKind.u64.wrap ((x : Int) * 2 ^ s) = (x : Int) * 2 ^ s % 18446744073709551616 := by simp [IntKind.wrap, IntKind.bits, IntKind.signed]
    rw [e0, Int.natCast_emod, Int.natCast_mul, Int.natCast_pow]; rfl
  have e2 : (x : Int) / 2 ^ (64 - s) = ((x / 2 ^ (64 - s) : Nat) : Int) := by rw [Int.natCast_ediv, Int.natCast_pow]; rfl
  rw [e1, e2, u64_or_nat _ _ (Nat.mod_lt _ (by decide)) (Nat.lt_of_le_of_lt (Nat.div_le_self _ _) hx)]

set_option maxHeartbeats 1000000 in
theorem rot_any (x a : Nat) (k : Int) (w : World) (hk : k = -(a : Int)) (h1 : 1 ≤ a) (h2 : a < 64) (hx : x < 18446744073709551616) (r : Nat) (hr : r = rotr x a) :
    Calls Tryd.prog 73 #[.int .u64 (x : Int), .int .i64 k] w fun e w' => e = .returned (.int .u64 (r : Int)) ∧ w = w' := by
  subst hk
  obtain ⟨s, hs⟩ : ∃ s, s = 64 - a := ⟨_, rfl⟩
  have hw := wrap_neg a h1 h2 s hs
  have hsb : s < 64 := by omega
  have hsb2 : 1 ≤ s := by omega
  have HS := Lib.hid (show 64 - s = a by omega)
  have HR := Lib.hid hr
  clear hs hr
  go_enter Tryd.func73, Tryd.ntmps73
  go_wp2
  go_ret
  exact ⟨by rw [rot_cast x s hx hsb, HS.out, HR.out]; unfold rotr; rw [show 64 - a = s by have := HS.out; omega]; rfl, rfl⟩

set_option maxHeartbeats 1000000 in
theorem laid_any (x a b c : Nat) (ka kb kc : Int) (w : World) (ha : ka = a) (hb : kb = b) (hc : kc = c) (h1 : 1 ≤ a ∧ a < 64) (h2 : 1 ≤ b ∧ b < 64) (h3 : 1 ≤ c ∧ c < 64) (hx : x < 18446744073709551616) (r : Nat) (hr : r = laidN x a b c) :
    Calls Tryd.prog 68 #[.int .u64 (x : Int), .int .i64 ka, .int .i64 kb, .int .i64 kc] w fun e w' => e = .returned (.int .u64 (r : Int)) ∧ w = w' := by
  subst ha hb hc
  obtain ⟨p, hp⟩ : ∃ p, p = rotr x a := ⟨_, rfl⟩
  obtain ⟨q, hq⟩ : ∃ q, q = rotr x b := ⟨_, rfl⟩
  obtain ⟨o, ho⟩ : ∃ o, o = rotr x c := ⟨_, rfl⟩
  have hp2 : p < 18446744073709551616 := hp ▸ rotr_lt hx
  have hq2 : q < 18446744073709551616 := hq ▸ rotr_lt hx
  have ho2 : o < 18446744073709551616 := ho ▸ rotr_lt hx
  have hpq : p ^^^ q < 18446744073709551616 := Nat.xor_lt_two_pow (n := 64) hp2 hq2
  obtain ⟨m, hm⟩ : ∃ m, m = p ^^^ q := ⟨_, rfl⟩
  rw [← hm] at hpq
  have HR := Lib.hid (show r = m ^^^ o by rw [hr, hm, hp, hq, ho]; rfl)
  have HP := Lib.hid hp
  have HQ := Lib.hid hq
  have HO := Lib.hid ho
  have hx1 : bits BinOp.xor IntKind.u64 (p : Int) (q : Int) = (m : Int) := by rw [u64_xor_nat _ _ hp2 hq2, hm]
  have hx2 : bits BinOp.xor IntKind.u64 (m : Int) (o : Int) = (r : Int) := by rw [u64_xor_nat _ _ hpq ho2, HR.out]
  obtain ⟨h11, h12⟩ := h1
  obtain ⟨h21, h22⟩ := h2
  obtain ⟨h31, h32⟩ := h3
  clear hr hp hq ho hm
  go_enter Tryd.func68, Tryd.ntmps68
  go_wp2_with fail
  refine (rot_any x a _ _ rfl h11 h12 hx p HP.out).mono ?_
  rintro e w1 ⟨rfl, rfl⟩
  go_wp2_with fail
  refine (rot_any x b _ _ rfl h21 h22 hx q HQ.out).mono ?_
  rintro e w1 ⟨rfl, rfl⟩
  go_wp2_with fail
  refine (rot_any x c _ _ rfl h31 h32 hx o HO.out).mono ?_
  rintro e w1 ⟨rfl, rfl⟩
  go_wp2
  go_ret
  exact ⟨rfl, rfl⟩

end Go.Proofs.YtmfjhgjplmpecaaDoor.L5
