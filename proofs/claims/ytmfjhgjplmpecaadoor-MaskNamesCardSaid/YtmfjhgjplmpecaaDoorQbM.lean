/-
  SHA-512 IN NUMBERS. No walk stands here. (Written by wip/gen_shbA.py.)
-/
import Derived.Test.YtmfjhgjplmpecaaDoorNum
namespace Go.Proofs.YtmfjhgjplmpecaaDoor.L5
open Go.RowKit

/-- Rotated right, as the library's call has it. -/
def rotr (x a : Nat) : Nat := x * 2 ^ (64 - a) % 18446744073709551616 ||| x / 2 ^ a
theorem rotr_lt {x a : Nat} (h : x < 18446744073709551616) : rotr x a < 18446744073709551616 := Nat.or_lt_two_pow (n := 64) (Nat.mod_lt _ (by decide)) (Nat.lt_of_le_of_lt (Nat.div_le_self _ _) h)
def laidN (x a b c : Nat) : Nat := rotr x a ^^^ rotr x b ^^^ rotr x c
theorem laidN_lt {x a b c : Nat} (h : x < 18446744073709551616) : laidN x a b c < 18446744073709551616 := Nat.xor_lt_two_pow (n := 64) (Nat.xor_lt_two_pow (n := 64) (rotr_lt h) (rotr_lt h)) (rotr_lt h)

end Go.Proofs.YtmfjhgjplmpecaaDoor.L5
