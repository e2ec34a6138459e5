/-
  A NODE's NUMBER: tree.AsInt.
-/
import Derived.Test.YtkmphiakciihfaaDoorTrN
import Derived.Test.YtkmphiakciihfaaDoorTrE
namespace Go.Proofs.YtkmphiakciihfaaDoor
open Go.RowKit

theorem or_i64 (a : Int) (x : Nat) (h1 : -36028797018963968 ≤ a) (h2 : a < 36028797018963968) (hx : x < 256) : bits BinOp.or IntKind.i64 (a * 256) (x : Int) = a * 256 + (x : Int) := by
  obtain ⟨m, hm⟩ : ∃ m : Nat, ((a * 256) % 18446744073709551616).toNat = m * 256 := ⟨(a % 72057594037927936).toNat, by omega⟩
  have hm2 : (a * 256) % 18446744073709551616 = (m : Int) * 256 := by omega
  have hm3 : m < 72057594037927936 := by omega
  show IntKind.i64.wrap ((BitVec.ofInt 64 (a * 256) ||| BitVec.ofInt 64 (x : Int)).toNat : Int) = _
  rw [BitVec.toNat_or, BitVec.toNat_ofInt, BitVec.toNat_ofInt]
  rw [show ((a * 256) % ((2 ^ 64 : Nat) : Int)).toNat = m * 256 from hm, show ((x : Int) % ((2 ^ 64 : Nat) : Int)).toNat = x by show ((x : Int) % 18446744073709551616).toNat = x; omega]
  rw [nat_join 8 _ _ (by omega) (by omega), IntKind.wrap_i64]
  omega

def accI (n : Int) (b : Nat) : Int := n * 256 + (b : Int)

/-- The number that bytes are, in two's complement. -/
def valI (l : List Nat) : Int := (l.drop 1).foldl accI (if gN l 0 < 128 then (gN l 0 : Int) else (gN l 0 : Int) - 256)

/-- What AsInt answers. -/
def asIntR (T : Tr) : Int × Int :=
  if T.cls = 0 ∧ (T.tag = 2 ∨ T.tag = 10) ∧ T.b.length ≤ 8 ∧ T.cons = false ∧ T.kids = [] ∧ intB T.b = true then (valI T.b, 0) else (0, 110)

def qI : Int → List Nat → Bool := fun _ => intB
theorem wantedI (t : Int) (h : t = 2 ∨ t = 10) : WantedOk (fun _ => True) qI t := fun w _ => (wanted_int t h w).mono fun e w' ⟨he, hb⟩ => .inr ⟨by rcases h with rfl | rfl <;> rfl, _, he, asks_int w', hb⟩

theorem brokenI {T : Tr} (h0 : T.cls = 0) (ht : T.tag = 2 ∨ T.tag = 10) : brokenN qI T = 0 ↔ T.cons = false ∧ T.kids = [] ∧ intB T.b = true := by
  have hh : hasB T.tag = true := by rcases ht with h | h <;> rw [h] <;> rfl
  unfold brokenN
  rw [if_neg (by omega)]
  cases hc : T.cons with
  | true =>
    by_cases hb : T.b = []
    · rw [if_neg (by simp [hb]), if_neg (by omega), if_neg (by omega), if_pos (.inl rfl)]
      simp
    · rw [if_pos (.inl ⟨rfl, hb⟩)]
      simp
  | false =>
    by_cases hk : T.kids = []
    · rw [if_neg (by simp [hk]), if_neg (by omega), if_neg (by omega), if_neg (by simp [hh])]
      show (if intB T.b = true then (0 : Int) else 4) = 0 ↔ _
      cases hi : intB T.b <;> simp [hk]
    · rw [if_pos (.inr ⟨rfl, hk⟩)]
      simp [hk]

def AsI (w : World) (l : List Nat) (k : Nat) (n : Int) (wr : World) : Prop := n = (((l.drop 1).take k).foldl accI (if gN l 0 < 128 then (gN l 0 : Int) else (gN l 0 : Int) - 256)) ∧ Below w.heap.size w wr

theorem fold_bound (l : List Nat) (n : Int) (j : Nat) (hx : ∀ x ∈ l, x < 256) (hl : l.length + j ≤ 7) (hn : -(128 * 256 ^ j) ≤ n ∧ n < 128 * 256 ^ j) :
    -(128 * 256 ^ (j + l.length)) ≤ l.foldl accI n ∧ l.foldl accI n < 128 * 256 ^ (j + l.length) := by
  induction l generalizing n j with
  | nil => exact hn
  | cons x xs ih =>
    rw [List.foldl_cons, List.length_cons, show j + (xs.length + 1) = (j + 1) + xs.length from by omega]
    have hx0 := hx x (by simp)
    refine ih _ (j + 1) (fun y hy => hx y (List.mem_cons_of_mem _ hy)) (by simp at hl; omega) ?_
    rw [Int.pow_succ]
    obtain ⟨p, hp⟩ : ∃ p : Int, 256 ^ j = p := ⟨_, rfl⟩
    rw [hp] at hn ⊢
    unfold accI
    omega

theorem first_bound (u : Nat) (hu : u < 256) : -(128 * 256 ^ 0) ≤ (if u < 128 then (u : Int) else (u : Int) - 256) ∧ (if u < 128 then (u : Int) else (u : Int) - 256) < 128 * 256 ^ 0 := by
  split <;> omega

theorem i8_first (u : Nat) (hu : u < 256) : IntKind.i8.wrap (u : Int) = if u < 128 then (u : Int) else (u : Int) - 256 := by
  have e : IntKind.i8.wrap (u : Int) = if 128 ≤ (u : Int) % 256 then (u : Int) % 256 - 256 else (u : Int) % 256 := by
    unfold IntKind.wrap
    simp [IntKind.bits, IntKind.signed]
  rw [e]
  split <;> split <;> omega

theorem pow_le6 (k : Nat) (h : k ≤ 6) : (256 : Int) ^ k ≤ 281474976710656 := by
  rcases (show k = 0 ∨ k = 1 ∨ k = 2 ∨ k = 3 ∨ k = 4 ∨ k = 5 ∨ k = 6 by omega) with rfl | rfl | rfl | rfl | rfl | rfl | rfl <;> decide

theorem step_val (v : Int) (x k : Nat) (hk : k ≤ 6) (hx : x < 256) (hv : -(128 * 256 ^ k) ≤ v ∧ v < 128 * 256 ^ k) : IntKind.i64.wrap (v * 256) = v * 256 ∧ bits BinOp.or IntKind.i64 (v * 256) (x : Int) = accI v x := by
  have h6 := pow_le6 k hk
  obtain ⟨p, hp⟩ : ∃ p : Int, 256 ^ k = p := ⟨_, rfl⟩
  rw [hp] at hv h6
  refine ⟨?_, or_i64 v x (by omega) (by omega) hx⟩
  rw [IntKind.wrap_i64]
  omega

theorem is_lit (V : NV) (c t : Int) (w : World) (b : Bool) (h : (decide (V.cls = c) && decide (V.tag = t)) = b) : Calls Tryd.prog 50 #[V.agg, .int .i64 c, .int .i64 t] w fun e w' => e = .returned (.bool b) ∧ Below w.heap.size w w' :=
  (is_any V c t w).mono fun _ _ ⟨he, hb⟩ => ⟨by rw [he, h], hb⟩

end Go.Proofs.YtkmphiakciihfaaDoor