/-
  NAT's Bit, Shl, Shr.
-/
import Derived.Test.YtcnpgebjjknheaaNatB
import Derived.Test.YtcnpgebjjknheaaNat5
namespace Go.Proofs.Ytcnpgebjjknheaa
open Go.RowKit

theorem bit_eq (v d q r k : Nat) (hd : d = v / 4294967296 ^ q % 4294967296) (hr : r < 32) (hk : k = 32 * q + r) : (bits BinOp.and IntKind.u32 ((d : Int) / 2 ^ r) 1 == 1) = v.testBit k := by
  have hlt : d < 4294967296 := by rw [hd]; exact Nat.mod_lt _ (by decide)
  have e1 : ((d : Int) / 2 ^ r) = ((d / 2 ^ r : Nat) : Int) := by rw [Int.natCast_ediv]; simp
  have e2 : d / 2 ^ r < 4294967296 := Nat.lt_of_le_of_lt (Nat.div_le_self _ _) hlt
  rw [e1, show (1 : Int) = ((1 : Nat) : Int) from rfl, u32_and_nat _ 1 e2 (by decide), Nat.and_one_is_mod]
  have e3 : v.testBit k = d.testBit r := by
    rw [hd, show (4294967296 : Nat) ^ q = 2 ^ (32 * q) by rw [Nat.pow_mul], show (4294967296 : Nat) = 2 ^ 32 from rfl, Nat.testBit_mod_two_pow, Nat.testBit_div_two_pow, hk]
    simp [hr, Nat.add_comm]
  rw [e3, Nat.testBit_eq_decide_div_mod_eq]
  rw [Bool.eq_iff_iff]
  simp
  omega

/-- 'make' with room beyond its length. -/
theorem wpList_make_lc {P : Program} (q : IntKind) (w : World) {ops : Array Oper} {rest : List Oper} {o : Oper} {a : Act} {Q : Exit → Act → World → Prop}
    (hg : o.guard = none) (l c : Operand) (t : TypeId) (hop : o.op = Op.makeSlice t l c)
    (base : Nat) (e : TypeId) (i : TypeInfo) (h1 : P.underlying t = some (.slice e)) (h2 : P.info? e = some i) (h3 : i.zero = some (.int q 0)) (h4 : i.size = 1)
    (kl kc : IntKind) (L C : Int) (m n : Nat) (hl : a.eval l = .int kl L) (hc : a.eval c = .int kc C) (hL : L = (m : Int)) (hC : C = (n : Int)) (hmn : m ≤ n) (b2 : i.bytes * n ≤ 281474976710656) (b3 : n ≤ maxLen) (b4 : base ≤ w.heap.size)
    (hK : ∀ w', OwnQ q e base w' (.slice (some ⟨w.heap.size, 0, none⟩) m n) (List.replicate m 0) → w.grownBy w' none → wpList P ops Q rest (a.put o.dst (.slice (some ⟨w.heap.size, 0, none⟩) m n)) w') :
    wpList P ops Q (o :: rest) a w := by
  refine wpList_plain hg fun K hK' => ?_
  subst hL
  subst hC
  have h63' : (n : Int) ≤ 9223372036854775807 := by
    have h := b3
    simp [maxLen] at h
    omega
  have hb' : (i.bytes : Int) * (n : Int) ≤ 281474976710656 := by
    have h : ((i.bytes * n : Nat) : Int) ≤ 281474976710656 := by omega
    rwa [Int.natCast_mul] at h
  have hr := run_make (P := P) w t e i (.int q 0) h1 h2 h3 kl kc m n (by omega) (by omega) hb' h63'
  simp only [Int.toNat_natCast] at hr
  have hown : OwnQ q e base (w.alloc (.cells (madeCells (Value.int q 0).cells (n * i.size)) e)) (.slice (some ⟨w.heap.size, 0, none⟩) n n) (List.replicate n 0) := by
    rw [h4]
    exact OwnQ.made (World.ownsRow_lit w _ n b4 b3 (size_madeCells _ _)) rfl
  have hup := hown.upto m hmn
  rw [List.take_replicate, Nat.min_eq_left hmn] at hup
  unfold Oper.wp
  simp [execOp, hop, hl, hc, hr, Result.andThen]
  exact hK' _ _ (hK _ hup (World.grownBy_alloc w _ none))

def shlR (v : Nat) (n : Int) : List Nat × Int := if n < 0 then ([], 2) else cutR32 (v * 2 ^ n.toNat)
def shrR (v : Nat) (n : Int) : List Nat × Int := if n < 0 then ([], 2) else if v < topN then (nat32 (v / 2 ^ n.toNat), 0) else ([], 20)

theorem topN_pos : 0 < topN := by unfold topN; exact Nat.pow_pos (by decide)
theorem topN_two : topN = 2 ^ 8192 := by
  have h : ∀ a b c d e : Nat, a = b ^ c → e = c * d → a ^ d = b ^ e := by
    rintro a b c d e rfl rfl
    exact (Nat.pow_mul b c d).symm
  exact h 4294967296 2 32 256 8192 (by decide) (by decide)

theorem shl_small {v n : Nat} (hv : 0 < v) : v * 2 ^ n < topN ↔ n + bitsN v ≤ 8192 := by
  rw [topN_two]
  have h := bitsN_top 0 v n hv (Nat.pow_pos (by decide))
  rw [Nat.zero_add, Nat.mul_comm] at h
  rw [← h, bitsN_le]

theorem shl_step (v low x r : Nat) (B : Nat) : v + B * ((low + x * 2 ^ r) % 4294967296) + B * 4294967296 * ((low + x * 2 ^ r) / 4294967296) = v + B * low + B * x * 2 ^ r := by
  have h := Nat.mod_add_div (low + x * 2 ^ r) 4294967296
  have h2 : B * ((low + x * 2 ^ r) % 4294967296 + 4294967296 * ((low + x * 2 ^ r) / 4294967296)) = B * (low + x * 2 ^ r) := by rw [h]
  rw [Nat.mul_add, Nat.mul_add] at h2
  rw [Nat.mul_assoc B x, Nat.mul_assoc B 4294967296]
  omega

theorem or64 (low x r : Nat) (hr : r < 32) (hl : low < 2 ^ r) (hx : x < 4294967296) : bits BinOp.or IntKind.u64 (low : Int) (IntKind.u64.wrap ((x : Int) * 2 ^ r)) = ((low + x * 2 ^ r : Nat) : Int) := by
  have h1 : 2 ^ r ≤ 2 ^ 31 := Nat.pow_le_pow_right (by decide) (by omega)
  have h2 : x * 2 ^ r ≤ 4294967295 * 2 ^ 31 := Nat.mul_le_mul (by omega) h1
  have e : ((x : Int) * 2 ^ r) = ((x * 2 ^ r : Nat) : Int) := by simp
  have e2 : IntKind.u64.wrap ((x * 2 ^ r : Nat) : Int) = ((x * 2 ^ r : Nat) : Int) := by
    generalize x * 2 ^ r = y at *
    simp only [IntKind.wrap, IntKind.bits, IntKind.signed]
    simp
    omega
  rw [e, e2, u64_or_nat _ _ (by omega) (by omega), shl_or low x r _ rfl hl, Nat.mul_comm]

end Go.Proofs.Ytcnpgebjjknheaa