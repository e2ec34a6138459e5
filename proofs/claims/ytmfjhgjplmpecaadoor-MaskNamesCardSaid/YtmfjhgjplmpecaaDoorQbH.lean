/-
  SHA-512: what a state took.
-/
import Derived.Test.YtmfjhgjplmpecaaDoorQbF
import Derived.Shelf.Abstract
namespace Go.Proofs.YtmfjhgjplmpecaaDoor.L5
open Go.RowKit
set_option maxRecDepth 100000

/-- The first state's words. -/
def startN (bt : Nat) : List Nat := if bt = 512 then startL.take 8 else startL.drop 8
/-- The words behind so many blocks of a message. -/
def wsK (bt : Nat) (m : List Nat) : Nat → List Nat
  | 0 => startN bt
  | k + 1 => turnN (wsK bt m k) ((m.drop (128 * k)).take 128)
theorem wsK_ext {bt : Nat} {m m' : List Nat} : ∀ k, m.take (128 * k) = m'.take (128 * k) → wsK bt m k = wsK bt m' k
  | 0, _ => rfl
  | k + 1, h => by
    have h1 : m.take (128 * k) = m'.take (128 * k) := by
      have := congrArg (List.take (128 * k)) h
      rwa [List.take_take, List.take_take, Nat.min_eq_left (by omega)] at this
    have h2 : (m.drop (128 * k)).take 128 = (m'.drop (128 * k)).take 128 := by
      have := congrArg (List.drop (128 * k)) h
      rwa [List.drop_take, List.drop_take, show 128 * (k + 1) - 128 * k = 128 by omega] at this
    show turnN _ _ = turnN _ _
    rw [wsK_ext k h1, h2]
theorem startN_len (bt : Nat) : (startN bt).length = 8 := by unfold startN; split <;> rfl
theorem startN_lt (bt : Nat) : ∀ x ∈ startN bt, x < 18446744073709551616 := by
  unfold startN
  split
  · exact fun x hx => startL_lt x (List.mem_of_mem_take hx)
  · exact fun x hx => startL_lt x (List.mem_of_mem_drop hx)
theorem wsK_len (bt : Nat) (m : List Nat) : ∀ k, (wsK bt m k).length = 8
  | 0 => startN_len bt
  | k + 1 => turnN_len (wsK_len bt m k)
theorem wsK_lt (bt : Nat) (m : List Nat) : ∀ k, ∀ x ∈ wsK bt m k, x < 18446744073709551616
  | 0 => startN_lt bt
  | k + 1 => turnN_lt (wsK_lt bt m k)

/-- Words and tail are those of all that the message has: its whole blocks, and what is behind. -/
def FinP (bt : Nat) (m ws tail : List Nat) : Prop := ws = wsK bt m (m.length / 128) ∧ tail.take (m.length % 128) = m.drop (128 * (m.length / 128))
/-- A state that took a message. -/
def StateOf (w : World) (g bt : Nat) (m : List Nat) : Prop := ∃ ws tail, StateAt w g bt ws tail m.length ∧ FinP bt m ws tail ∧ m.length < 1152921504606846976 ∧ ∀ x ∈ m, x < 256

end Go.Proofs.YtmfjhgjplmpecaaDoor.L5
