/-
  SHA-256 IN NUMBERS. No walk stands here. (Written by wip/gen_shaA.py.)
-/
import Derived.Test.YtmfjhgjplmpecaaDoorNum
namespace Go.Proofs.YtmfjhgjplmpecaaDoor
open Go.RowKit

/-- Rotated right, as the library's call has it. -/
def rotr (x a : Nat) : Nat := x * 2 ^ (32 - a) % 4294967296 ||| x / 2 ^ a
theorem rotr_lt {x a : Nat} (h : x < 4294967296) : rotr x a < 4294967296 := Nat.or_lt_two_pow (n := 32) (Nat.mod_lt _ (by decide)) (Nat.lt_of_le_of_lt (Nat.div_le_self _ _) h)
def laidN (x a b c : Nat) : Nat := rotr x a ^^^ rotr x b ^^^ rotr x c
theorem laidN_lt {x a b c : Nat} (h : x < 4294967296) : laidN x a b c < 4294967296 := Nat.xor_lt_two_pow (n := 32) (Nat.xor_lt_two_pow (n := 32) (rotr_lt h) (rotr_lt h)) (rotr_lt h)

end Go.Proofs.YtmfjhgjplmpecaaDoor
