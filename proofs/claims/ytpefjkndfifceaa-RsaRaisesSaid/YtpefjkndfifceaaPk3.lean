/- Part of the proofs: what the functions that the law calls do. -/
import Derived.Test.YtpefjkndfifceaaPk1
import Derived.Test.YtpefjkndfifceaaPk2
import Derived.Shelf.Small.Bits
import Derived.Test.YtpefjkndfifceaaProg
import Derived.Lib.ItoaNum
import Derived.Maps.OwnIn
import Derived.Maps.AppendAt
set_option linter.unusedVariables false
set_option linter.unusedSimpArgs false
namespace Go.Proofs
open Go.Shelf
def Try.lays128_ren : Go.Shelf.Ren := ⟨fun | 128 => 78 | n => n, fun | 51 => 64 | 3 => 3 | 4 => 4 | 46 => 75 | 5 => 5 | 9 => 9 | n => n, fun | n => n⟩
theorem Try.lays128 : Go.Proofs.Lays.n128 Try.prog Try.lays128_ren := {
  mixed := by kernel_rfl
  f128 := Try.func78.trans (congrArg some (by kernel_rfl))
  t3 := Try.underlying3
  a3 := Try.isAgg3
  z3 := Try.sizeOf3
  v3 := Try.zeroValue3
  t4 := Try.underlying4
  a4 := Try.isAgg4
  z4 := Try.sizeOf4
  v4 := Try.zeroValue4
  t5 := Try.underlying5
  a5 := Try.isAgg5
  z5 := Try.sizeOf5
  v5 := Try.zeroValue5
  t9 := Try.underlying9
  a9 := Try.isAgg9
  z9 := Try.sizeOf9
  v9 := Try.zeroValue9
  t46 := Try.underlying75
  a46 := Try.isAgg75
  z46 := Try.sizeOf75
  v46 := Try.zeroValue75
  t51 := Try.underlying64
  a51 := Try.isAgg64
  z51 := Try.sizeOf64
  v51 := Try.zeroValue64 }
theorem Try.bits_Len32 (x : Int) (w : World) (h0 : 0 ≤ x) (h1 : x ≤ 4294967295) :
    Calls Try.prog 78 #[.int .u32 x] w fun e w' => e = .returned (.int .i64 (Lib.bitLen x.toNat)) ∧ w' = w := Any.bits_Len32 Try.lays128 x w h0 h1
def Try.lays133_ren : Go.Shelf.Ren := ⟨fun | 133 => 90 | 128 => 78 | n => n, fun | 51 => 64 | 3 => 3 | 4 => 4 | 46 => 75 | 5 => 5 | 9 => 9 | n => n, fun | n => n⟩
end Go.Proofs
namespace Go.Proofs.Ytpefjkndfifceaa
open Go.RowKit
def subD (x y b : Nat) : Nat := if x < y + b then x + 4294967296 - y - b else x - y - b
def subB (x y b : Nat) : Nat := if x < y + b then 1 else 0
theorem bit_cases (X Y D : Nat) (hX : X ≤ 1) (hY : Y ≤ 1) (hD : D ≤ 1) : ((1 ^^^ X) &&& Y) ||| ((1 ^^^ (X ^^^ Y)) &&& D) = if X = Y then D else Y := by
  have h1 : X = 0 ∨ X = 1 := by omega
  have h2 : Y = 0 ∨ Y = 1 := by omega
  have h3 : D = 0 ∨ D = 1 := by omega
  rcases h1 with rfl | rfl <;> rcases h2 with rfl | rfl <;> rcases h3 with rfl | rfl <;> rfl
theorem borrow_eq (x y b d : Nat) (hx : x < 4294967296) (hy : y < 4294967296) (hb : b ≤ 1) (hd : d = subD x y b) : (((4294967295 ^^^ x) &&& y) ||| ((4294967295 ^^^ (x ^^^ y)) &&& d)) / 2147483648 = subB x y b := by
  have hd2 : d < 4294967296 := by rw [hd]; unfold subD; split <;> omega
  have e : ∀ n : Nat, n / 2147483648 = n >>> 31 := fun n => by rw [Nat.shiftRight_eq_div_pow]
  rw [e, Nat.shiftRight_or_distrib, Nat.shiftRight_and_distrib, Nat.shiftRight_and_distrib, Nat.shiftRight_xor_distrib, Nat.shiftRight_xor_distrib, Nat.shiftRight_xor_distrib, show 4294967295 >>> 31 = 1 from rfl, ← e, ← e, ← e]
  rw [bit_cases _ _ _ (by omega) (by omega) (by omega)]
  subst hd
  unfold subD subB at *
  split <;> split <;> simp_all <;> omega
set_option maxHeartbeats 400000 in
theorem sub32_any (x y b : Nat) (w : World) (hx : x < 4294967296) (hy : y < 4294967296) (hb : b ≤ 1) :
    Calls Try.prog 96 #[.int .u32 (x : Int), .int .u32 (y : Int), .int .u32 (b : Int)] w fun e w' => e = .returned (.tuple #[.int .u32 (subD x y b : Nat), .int .u32 (subB x y b : Nat)]) ∧ w = w' := by
  have hd : (((x : Int) - (y : Int) - (b : Int)) % 4294967296) = ((subD x y b : Nat) : Int) := by unfold subD; split <;> omega
  have hd2 : subD x y b < 4294967296 := by unfold subD; split <;> omega
  have h2 := Lib.hid (borrow_eq x y b _ hx hy hb rfl)
  have hm : IntKind.u32.max = ((4294967295 : Nat) : Int) := rfl
  have n1 : 4294967295 ^^^ x < 4294967296 := Nat.xor_lt_two_pow (n := 32) (by decide) hx
  have n2 : x ^^^ y < 4294967296 := Nat.xor_lt_two_pow (n := 32) hx hy
  have n3 : 4294967295 ^^^ (x ^^^ y) < 4294967296 := Nat.xor_lt_two_pow (n := 32) (by decide) n2
  have h3 := Lib.hid (show bits BinOp.or IntKind.u32 (bits BinOp.and IntKind.u32 (bits BinOp.xor IntKind.u32 IntKind.u32.max (x : Int)) (y : Int)) (bits BinOp.and IntKind.u32 (bits BinOp.xor IntKind.u32 IntKind.u32.max (bits BinOp.xor IntKind.u32 (x : Int) (y : Int))) (((x : Int) - (y : Int) - (b : Int)) % 4294967296)) / 2147483648 = ((subB x y b : Nat) : Int) by
    rw [hd, hm, u32_xor_nat _ _ (by decide) hx, u32_and_nat _ _ n1 hy, u32_xor_nat _ _ hx hy, u32_xor_nat _ _ (by decide) n2, u32_and_nat _ _ n3 hd2, u32_or_nat _ _ (Nat.lt_of_le_of_lt Nat.and_le_left n1) (Nat.lt_of_le_of_lt Nat.and_le_left n3)]
    have := h2.out
    omega)
  have HD := Lib.hid hd
  clear hd hd2 hm n1 n2 n3
  go_enter Try.func96, Try.ntmps96
  go_wp2
  go_ret2
  exact ⟨by rw [← HD.out, ← h3.out]; rfl, rfl⟩
def bitsN (n : Nat) : Nat := if n = 0 then 0 else Nat.log2 n + 1
theorem bitsN_le (n k : Nat) : bitsN n ≤ k ↔ n < 2 ^ k := by
  unfold bitsN
  by_cases h : n = 0
  · simp [h, Nat.pow_pos]
  · rw [if_neg h, ← Nat.log2_lt h]; omega
theorem bitsN_uniq {n m : Nat} (h : ∀ k, m ≤ k ↔ n < 2 ^ k) : bitsN n = m := by
  have h1 := (bitsN_le n m).2 ((h m).1 (Nat.le_refl _))
  have h2 := (h (bitsN n)).2 ((bitsN_le n _).1 (Nat.le_refl _))
  omega
theorem bitLen_bitsN (x : Nat) (hx : x < 4294967296) : Lib.bitLen x = bitsN x := by
  by_cases h : x = 0
  · subst h; rfl
  · obtain ⟨h1, h2, h3⟩ := Lib.bitLenAux_bounds 64 x (Nat.lt_of_lt_of_le hx (by decide)) h
    symm
    apply bitsN_uniq
    intro k
    show Lib.bitLenAux 64 x ≤ k ↔ _
    constructor
    · intro h4; exact Nat.lt_of_lt_of_le h3 (Nat.pow_le_pow_right (by decide) h4)
    · intro h4
      apply Decidable.byContradiction
      intro h5
      have : 2 ^ k ≤ 2 ^ (Lib.bitLenAux 64 x - 1) := Nat.pow_le_pow_right (by decide) (by omega)
      omega
theorem bitsN_top (v d n : Nat) (hd : 0 < d) (hv : v < 2 ^ n) : bitsN (v + 2 ^ n * d) = n + bitsN d := by
  apply bitsN_uniq
  intro k
  by_cases hk : n ≤ k
  · obtain ⟨j, rfl⟩ : ∃ j, k = n + j := ⟨k - n, by omega⟩
    rw [Nat.add_le_add_iff_left, bitsN_le, Nat.pow_add]
    constructor
    · intro h
      have : 2 ^ n * (d + 1) ≤ 2 ^ n * 2 ^ j := Nat.mul_le_mul_left _ h
      rw [Nat.mul_add] at this
      omega
    · intro h
      have h2 : 2 ^ n * d < 2 ^ n * 2 ^ j := by omega
      exact Nat.lt_of_mul_lt_mul_left h2
  · constructor
    · omega
    · intro h
      have h1 : 2 ^ k ≤ 2 ^ n := Nat.pow_le_pow_right (by decide) (by omega)
      have h2 : 2 ^ n * 1 ≤ 2 ^ n * d := Nat.mul_le_mul_left _ hd
      omega
theorem bareN_bareN (l : List Nat) : bareN (bareN l) = bareN l := by
  induction l with
  | nil => rfl
  | cons d t ih =>
    rw [bareN]
    split
    · rfl
    · next hz =>
      rw [bareN, ih, if_neg hz]
theorem bare_top (l : List Nat) (k : Nat) (h : (bareN l).length = k + 1) : 0 < (bareN l)[k]?.getD 0 := by
  have h2 := bareN_bareN l
  generalize bareN l = m at *
  apply Nat.pos_of_ne_zero
  intro e
  have h3 : m = m.take k ++ [m[k]?.getD 0] := by rw [← take_snocN m k (by omega), List.take_of_length_le (by omega)]
  rw [e] at h3
  have h4 : (bareN m).length ≤ k := by
    rw [h3, bareN_snoc_zero]
    have := bareN_le (m.take k)
    rw [List.length_take] at this
    omega
  rw [h2] at h4
  omega
theorem bits_val {l : List Nat} (hL : Lim l) (k : Nat) (h : (bareN l).length = k + 1) : bitsN (val32 l) = 32 * k + bitsN ((bareN l)[k]?.getD 0) := by
  have h1 := bare_top l k h
  have hb := bareN_val 4294967296 l
  have hLm : Lim (bareN l) := fun x hx => hL x (bareN_mem hx)
  generalize bareN l = m at *
  have h3 : m = m.take k ++ [m[k]?.getD 0] := by rw [← take_snocN m k (by omega), List.take_of_length_le (by omega)]
  have h4 := valB_lt (b := 4294967296) (by decide) (l := m.take k) (fun x hx => hLm x (List.mem_of_mem_take hx))
  rw [List.length_take, Nat.min_eq_left (by omega)] at h4
  have h5 : (4294967296 : Nat) ^ k = 2 ^ (32 * k) := by rw [Nat.pow_mul]
  have h6 : valB 4294967296 m = valB 4294967296 (m.take k) + 4294967296 ^ k * (m[k]?.getD 0) := by
    conv => lhs; rw [h3, valB_snoc, List.length_take, Nat.min_eq_left (show k ≤ m.length by omega)]
  rw [h5] at h4 h6
  rw [← bitsN_top _ _ _ h1 h4, ← h6, hb]
theorem len32_any (d : Nat) (w : World) (hd : d < 4294967296) : Calls Try.prog 78 #[.int .u32 (d : Int)] w fun e w' => e = .returned (.int .i64 (bitsN d : Nat)) ∧ w = w' :=
  (Try.bits_Len32 d w (by omega) (by omega)).mono fun e w' ⟨he, hw⟩ => ⟨by rw [he, Int.toNat_natCast, bitLen_bitsN d hd], hw.symm⟩
set_option maxHeartbeats 400000 in
theorem bits_any (a : Option Addr) (len cap : Nat) (l : List Nat) (w : World) (h : Reads .u32 w a len cap l) (hL : Lim l) (hm : len ≤ 288230376151711743) :
    Calls Try.prog 57 #[.slice a len cap] w fun e w' => e = .returned (.int .i64 (bitsN (val32 l) : Nat)) ∧ w = w' := by
  have hb := h.bare
  have hbl := bareN_le l
  rw [h.length] at hbl
  have HB := Lib.hid (bare32_any a len cap l w h)
  have hbv := bits_val hL
  have hz : (bareN l).length = 0 → val32 l = 0 := fun e => by
    have e1 : bareN l = [] := List.eq_nil_of_length_eq_zero e
    rw [bareN_nat hL] at e1
    exact (natB_nil (by decide)).1 e1
  have hLm : Lim (bareN l) := fun x hx => hL x (bareN_mem hx)
  clear h
  generalize bareN l = m at *
  have HM := Lib.hid hb
  clear hb
  cases hk : m.length with
  | zero =>
    have hr := Lib.hid (show bitsN (val32 l) = 0 by rw [hz hk]; rfl)
    clear hz hbv
    rw [hk] at HB
    clear hk
    go_enter Try.func57, Try.ntmps57
    go_wp2_with fail
    refine HB.out.mono ?_
    rintro e w1 ⟨rfl, rfl⟩
    go_wp2
    go_ret
    exact ⟨by rw [hr.out]; rfl, rfl⟩
  | succ k =>
    have hr := Lib.hid (hbv k hk)
    rw [hk] at HB HM hbl
    clear hz hbv hk
    have hd := lim_get hLm k
    obtain ⟨b, off, rfl, hbk, hc⟩ := HM.out.cells (by omega)
    have hck := hc k (by omega)
    clear hc hLm
    generalize m[k]?.getD 0 = d at *
    have hb32 := (bitsN_le d 32).2 hd
    go_enter Try.func57, Try.ntmps57
    go_wp2_with fail
    refine HB.out.mono ?_
    rintro e w1 ⟨rfl, rfl⟩
    go_wp2_with (go_at_call 78; refine (len32_any d _ hd).mono ?_; rintro e w' ⟨rfl, rfl⟩)
    go_ret
    exact ⟨by rw [hr.out]; simp, rfl⟩
end Go.Proofs.Ytpefjkndfifceaa
namespace Go.Proofs.Ytpefjkndfifceaa
open Go.RowKit
theorem bit_eq (v d q r k : Nat) (hd : d = v / 4294967296 ^ q % 4294967296) (hr : r < 32) (hk : k = 32 * q + r) : (bits BinOp.and IntKind.u32 ((d : Int) / 2 ^ r) 1 == 1) = v.testBit k := by
  have hlt : d < 4294967296 := by rw [hd]; exact Nat.mod_lt _ (by decide)
  have e1 : ((d : Int) / 2 ^ r) = ((d / 2 ^ r : Nat) : Int) := by rw [Int.natCast_ediv]; simp
  have e2 : d / 2 ^ r < 4294967296 := Nat.lt_of_le_of_lt (Nat.div_le_self _ _) hlt
  rw [e1, show (1 : Int) = ((1 : Nat) : Int) from rfl, u32_and_nat _ 1 e2 (by decide), Nat.and_one_is_mod]
  have e3 : v.testBit k = d.testBit r := by
    rw [hd, show (4294967296 : Nat) ^ q = 2 ^ (32 * q) by rw [Nat.pow_mul], show (4294967296 : Nat) = 2 ^ 32 from rfl, Nat.testBit_mod_two_pow, Nat.testBit_div_two_pow, hk]
    simp [hr, Nat.add_comm]
  rw [e3, Nat.testBit_eq_decide_div_mod_eq]
  rw [Bool.eq_iff_iff]
  simp
  omega
set_option maxHeartbeats 400000 in
theorem bit_any (a : Option Addr) (len cap : Nat) (l : List Nat) (w : World) (h : Reads .u32 w a len cap l) (hL : Lim l) (i : Int) (hi : i ≤ 9223372036854775807) :
    Calls Try.prog 58 #[.slice a len cap, .int .i64 i] w fun e w' => e = .returned (.bool (decide (0 ≤ i) && (val32 l).testBit i.toNat)) ∧ w = w' := by
  by_cases h0 : i < 0
  · have e := Lib.hid (show (decide (0 ≤ i) && (val32 l).testBit i.toNat) = false by simp; omega)
    go_enter Try.func58, Try.ntmps58
    go_wp2
    go_ret
    exact ⟨by rw [e.out]; rfl, rfl⟩
  · obtain ⟨k, rfl⟩ := Int.eq_ofNat_of_zero_le (show 0 ≤ i by omega)
    have hq : (k : Int) / 32 = ((k / 32 : Nat) : Int) := by omega
    have hr : (k : Int) % 32 = ((k % 32 : Nat) : Int) := by omega
    have hr2 : k % 32 < 32 := by omega
    have hbe := fun d hd => bit_eq (val32 l) d (k / 32) (k % 32) k hd (by omega) (by omega)
    have hg := valB_get (b := 4294967296) (by decide) hL (k / 32)
    have HB := Lib.hid (hbe _ hg)
    clear hbe hg
    generalize k / 32 = q at *
    generalize k % 32 = r at *
    go_enter Try.func58, Try.ntmps58
    go_wp2_with fail
    refine (limb_any a len cap l _ h q q rfl).mono ?_
    rintro e w1 ⟨rfl, rfl⟩
    have hd := lim_get hL q
    generalize l[q]?.getD 0 = d at *
    go_wp2
    go_ret
    exact ⟨by have := HB.out; simp only [show decide (0 ≤ (k : Int)) = true from decide_eq_true (by omega), Bool.true_and, Int.toNat_natCast]; rw [← this]; rfl, rfl⟩
theorem wpList_make_lc {P : Program} (q : IntKind) (w : World) {ops : Array Oper} {rest : List Oper} {o : Oper} {a : Act} {Q : Exit → Act → World → Prop}
    (hg : o.guard = none) (l c : Operand) (t : TypeId) (hop : o.op = Op.makeSlice t l c)
    (base : Nat) (e : TypeId) (i : TypeInfo) (h1 : P.underlying t = some (.slice e)) (h2 : P.info? e = some i) (h3 : i.zero = some (.int q 0)) (h4 : i.size = 1)
    (kl kc : IntKind) (L C : Int) (m n : Nat) (hl : a.eval l = .int kl L) (hc : a.eval c = .int kc C) (hL : L = (m : Int)) (hC : C = (n : Int)) (hmn : m ≤ n) (b2 : i.bytes * n ≤ 281474976710656) (b3 : n ≤ maxLen) (b4 : base ≤ w.heap.size)
    (hK : ∀ w', OwnQ q e base w' (.slice (some ⟨w.heap.size, 0, none⟩) m n) (List.replicate m 0) → w.grownBy w' none → wpList P ops Q rest (a.put o.dst (.slice (some ⟨w.heap.size, 0, none⟩) m n)) w') :
    wpList P ops Q (o :: rest) a w := by
  refine wpList_plain hg fun K hK' => ?_
  subst hL
  subst hC
  have h63' : (n : Int) ≤ 9223372036854775807 := by
    have h := b3
    simp [maxLen] at h
    omega
  have hb' : (i.bytes : Int) * (n : Int) ≤ 281474976710656 := by
    have h : ((i.bytes * n : Nat) : Int) ≤ 281474976710656 := by omega
    rwa [Int.natCast_mul] at h
  have hr := run_make (P := P) w t e i (.int q 0) h1 h2 h3 kl kc m n (by omega) (by omega) hb' h63'
  simp only [Int.toNat_natCast] at hr
  have hown : OwnQ q e base (w.alloc (.cells (madeCells (Value.int q 0).cells (n * i.size)) e)) (.slice (some ⟨w.heap.size, 0, none⟩) n n) (List.replicate n 0) := by
    rw [h4]
    exact OwnQ.made (World.ownsRow_lit w _ n b4 b3 (size_madeCells _ _)) rfl
  have hup := hown.upto m hmn
  rw [List.take_replicate, Nat.min_eq_left hmn] at hup
  unfold Oper.wp
  simp [execOp, hop, hl, hc, hr, Result.andThen]
  exact hK' _ _ (hK _ hup (World.grownBy_alloc w _ none))
def shlR (v : Nat) (n : Int) : List Nat × Int := if n < 0 then ([], 2) else cutR32 (v * 2 ^ n.toNat)
def shrR (v : Nat) (n : Int) : List Nat × Int := if n < 0 then ([], 2) else if v < topN then (nat32 (v / 2 ^ n.toNat), 0) else ([], 20)
theorem topN_pos : 0 < topN := by unfold topN; exact Nat.pow_pos (by decide)
theorem topN_two : topN = 2 ^ 8192 := by
  have h : ∀ a b c d e : Nat, a = b ^ c → e = c * d → a ^ d = b ^ e := by
    rintro a b c d e rfl rfl
    exact (Nat.pow_mul b c d).symm
  exact h 4294967296 2 32 256 8192 (by decide) (by decide)
theorem shl_small {v n : Nat} (hv : 0 < v) : v * 2 ^ n < topN ↔ n + bitsN v ≤ 8192 := by
  rw [topN_two]
  have h := bitsN_top 0 v n hv (Nat.pow_pos (by decide))
  rw [Nat.zero_add, Nat.mul_comm] at h
  rw [← h, bitsN_le]
theorem shl_step (v low x r : Nat) (B : Nat) : v + B * ((low + x * 2 ^ r) % 4294967296) + B * 4294967296 * ((low + x * 2 ^ r) / 4294967296) = v + B * low + B * x * 2 ^ r := by
  have h := Nat.mod_add_div (low + x * 2 ^ r) 4294967296
  have h2 : B * ((low + x * 2 ^ r) % 4294967296 + 4294967296 * ((low + x * 2 ^ r) / 4294967296)) = B * (low + x * 2 ^ r) := by rw [h]
  rw [Nat.mul_add, Nat.mul_add] at h2
  rw [Nat.mul_assoc B x, Nat.mul_assoc B 4294967296]
  omega
theorem or64 (low x r : Nat) (hr : r < 32) (hl : low < 2 ^ r) (hx : x < 4294967296) : bits BinOp.or IntKind.u64 (low : Int) (IntKind.u64.wrap ((x : Int) * 2 ^ r)) = ((low + x * 2 ^ r : Nat) : Int) := by
  have h1 : 2 ^ r ≤ 2 ^ 31 := Nat.pow_le_pow_right (by decide) (by omega)
  have h2 : x * 2 ^ r ≤ 4294967295 * 2 ^ 31 := Nat.mul_le_mul (by omega) h1
  have e : ((x : Int) * 2 ^ r) = ((x * 2 ^ r : Nat) : Int) := by simp
  have e2 : IntKind.u64.wrap ((x * 2 ^ r : Nat) : Int) = ((x * 2 ^ r : Nat) : Int) := by
    generalize x * 2 ^ r = y at *
    simp only [IntKind.wrap, IntKind.bits, IntKind.signed]
    simp
    omega
  rw [e, e2, u64_or_nat _ _ (by omega) (by omega), shl_or low x r _ rfl hl, Nat.mul_comm]
set_option maxRecDepth 100000 in
set_option maxHeartbeats 1000000 in
theorem shl_any (a : Option Addr) (len cap : Nat) (l : List Nat) (w : World) (h : Reads .u32 w a len cap l) (hL : Lim l) (n : Int) (hn : n ≤ 9223372036854775807) :
    Calls Try.prog 63 #[.slice a len cap, .int .i64 n] w fun e w' => RetsQ2 .u32 64 w.heap.size w' (shlR (val32 l) n) e ∧ Below w.heap.size w w' := by
  obtain ⟨i0, hi, hz0, hz1, hz2⟩ := info_parts Try.info32
  by_cases h0 : n < 0
  · have hr := Lib.hid (show shlR (val32 l) n = ([], 2) from if_pos h0)
    go_enter Try.func63, Try.ntmps63
    go_wp2
    go_ret2
    refine ⟨⟨_, by rw [hr.out]; rfl, ?_⟩, Below.refl _ _⟩
    rw [hr.out]; exact OwnQ.nil _ _ _ _
  obtain ⟨k, rfl⟩ := Int.eq_ofNat_of_zero_le (show 0 ≤ n by omega)
  have hR := Lib.hid (show shlR (val32 l) (k : Int) = cutR32 (val32 l * 2 ^ k) by unfold shlR; rw [if_neg (by omega), Int.toNat_natCast])
  clear h0
  have hb := h.bare
  have hbl := bareN_le l
  have hmx := h.len_le
  unfold maxLen at hmx
  rw [h.length] at hbl
  have HB := Lib.hid (bare32_any a len cap l w h)
  have hci := cut_iff l hL
  have hbn := bareN_nat hL
  have HV := Lib.hid (bareN_val 4294967296 l)
  have hLm : Lim (bareN l) := fun x hx => hL x (bareN_mem hx)
  clear h
  generalize bareN l = m at *
  have HM := Lib.hid hb
  have HLm := Lib.hid hLm
  clear hb hLm
  have HBN := Lib.hid hbn
  clear hbn
  generalize hMM : m.length = M at *
  have HMM := Lib.hid hMM
  clear hMM
  by_cases hc : M ≤ 256
  · have hvt := hci.1 hc
    have HVT := Lib.hid hvt
    clear hci hvt
    go_enter Try.func63, Try.ntmps63
    go_wp2_with fail
    refine HB.out.mono ?_
    rintro e w1 ⟨rfl, rfl⟩
    go_wp2_with fail
    refine (may1_any w.heap.size a M cap _ (World.cell?_alloc_at _ _ _ _ rfl) true (by simp [hc]) (by omega)).mono ?_
    rintro e w1 ⟨rfl, rfl⟩
    rcases Nat.eq_zero_or_pos M with rfl | hp
    · have hz := Lib.hid (show cutR32 (val32 l * 2 ^ k) = ([], 0) by
        have e : val32 l = 0 := by
          have h1 := HBN.out
          rw [List.eq_nil_of_length_eq_zero HMM.out] at h1
          exact (natB_nil (by decide)).1 h1.symm
        rw [e, Nat.zero_mul, cutR_small topN_pos]
        rw [show nat32 0 = [] from natB_zero _])
      go_wp2
      go_ret2
      refine ⟨⟨_, by rw [hR.out, hz.out]; rfl, ?_⟩, (Below.refl _ _).alloc (Nat.le_refl _) _⟩
      rw [hR.out, hz.out]; exact OwnQ.nil _ _ _ _
    · have hvp : 0 < val32 l := by
        apply Nat.pos_of_ne_zero
        intro e
        have h1 := HBN.out
        rw [e, show nat32 0 = [] from natB_zero _] at h1
        have := HMM.out
        rw [h1] at this
        simp at this
        omega
      have hsm := shl_small (n := k) hvp
      have hmz : ((M : Int) == 0) = false := by simp; omega
      have HB8 := Lib.hid (bits_any a M cap m _ (HM.out.below ((Below.refl w.heap.size w).alloc (Nat.le_refl _) (.cells #[.slice a M cap] 41))) HLm.out (by omega))
      rw [show val32 m = val32 l from HV.out] at HB8
      have hbits := (bitsN_le (val32 l) 8192).2 (by rw [← topN_two]; exact HVT.out)
      generalize bitsN (val32 l) = bn at *
      clear hvp
      by_cases hk : k + bn ≤ 8192
      · have HV2 := Lib.hid (hsm.2 hk)
        clear hsm
        have hdec : decide ((8192 : Int) - (bn : Int) < (k : Int)) = false := by simp; omega
        have hkq : (k : Int) / 32 = ((k / 32 : Nat) : Int) := by omega
        have hkr : (k : Int) % 32 = ((k % 32 : Nat) : Int) := by omega
        have hr32 : k % 32 < 32 := by omega
        have HK := Lib.hid (show k = 32 * (k / 32) + k % 32 by omega)
        have hq8 : k / 32 ≤ 256 := by omega
        generalize k / 32 = q at *
        generalize k % 32 = r at *
        go_wp2_with (first | (go_at_call 57; refine HB8.out.mono ?_; rintro e w' ⟨rfl, rfl⟩) | (at_make; refine wpList_make_lc .u32 _ rfl _ _ 41 rfl w.heap.size 64 i0 Try.underlying41 hi hz0 hz1 _ _ _ _ q (q + M + 1) rfl rfl (by omega) (by omega) (by omega) (by rw [hz2]; omega) (by unfold maxLen; omega) (by simp) ?_; intro w1 hown hgrow))
        have hb1 : Below w.heap.size w w1 := ((Below.refl _ _).alloc (Nat.le_refl _) _).grown hgrow (by simp) (fun _ h => by cases h)
        simp only [World.size_alloc] at hown
        have HO := Lib.hid hown
        have HB1 := Lib.hid hb1
        clear hown hgrow hb1
        have h2r := Lib.hid (Nat.pow_le_pow_right (show 0 < 2 by decide) (show r ≤ 31 by omega))
        go_loopw [6, 7, 40] (fun v lo i wr => ∃ (j : Nat) (O : List Nat) (low : Nat), i = .int .i64 j ∧ lo = .int .u64 (low : Int) ∧ j ≤ M ∧ OwnQ .u32 64 w.heap.size wr v O ∧ Hid (O.length = q + j ∧ Lim O ∧ low < 2 ^ r ∧ val32 O + 4294967296 ^ (q + j) * low = val32 (m.take j) * 2 ^ k) ∧ Hid (Below w.heap.size w wr)) (fun _ _ i _ => M - (intOf i).toNat)
        case atStart => exact ⟨0, _, 0, rfl, rfl, Nat.zero_le _, HO.out, ⟨by simp, fun x hx => by rw [List.eq_of_mem_replicate hx]; decide, Nat.pow_pos (by decide), by rw [List.take_zero]; simp [val32, valB_zeros, valB]⟩, HB1.out⟩
        case round =>
          obtain ⟨j, O, low, rfl, rfl, hj, hown, hinv, hbel⟩ := hrel
          obtain ⟨ov, on, oc, rfl, -, hown⟩ := hown.slice
          by_cases hlt : j < M
          · obtain ⟨b, off, rfl, hbk, hc2⟩ := (HM.out.below hbel.out).cells (by omega)
            have hck := hc2 j hlt
            have hx := lim_get HLm.out j
            have hst := Lib.hid (valB_succ (b := 4294967296) m j)
            clear hc2
            obtain ⟨i1, i2, i3, i4⟩ := hinv.out
            have I1 := Lib.hid i1
            have I2 := Lib.hid i2
            have I4 := Lib.hid i4
            clear i1 i2 i4
            generalize m[j]?.getD 0 = x at *
            have hor := or64 low x r hr32 i3 hx
            have hlow : low < 2147483648 := by have := h2r.out; omega
            have I3 := Lib.hid i3
            clear i3
            have hx2 : x * 2 ^ r ≤ 4294967295 * 2147483648 := Nat.mul_le_mul (by omega) h2r.out
            have hss := Lib.hid (shl_step (val32 O) low x r (4294967296 ^ (q + j)))
            have hlo2 : (low + x * 2 ^ r) / 4294967296 < 2 ^ r := by
              have e1 : x * 2 ^ r + 2 ^ r ≤ 4294967296 * 2 ^ r := by rw [← Nat.succ_mul]; exact Nat.mul_le_mul_right _ (by omega)
              have e2 := I3.out
              rw [Nat.div_lt_iff_lt_mul (by decide)]
              omega
            have HL2 := Lib.hid hlo2
            clear hlo2
            generalize hsg : low + x * 2 ^ r = s at *
            have HS := Lib.hid hsg
            have hs63 : s < 9223372036854775808 := by omega
            clear hsg hx2 hlow
            have hbs := hbel.out.size
            have HO1 := Lib.hid hown
            have hlen : O.length ≤ 1000 := by have := I1.out; omega
            clear hown
            go_wp2_with (at_builtin; refine wpList_append_q .u32 _ rfl _ _ 41 rfl w.heap.size 64 4 i0 Try.underlying41 hi hz0 hz1 hz2 (by decide) _ O rfl (HO1.out.alloc _) _ _ _ [s % 4294967296] rfl (Reads.one .u32 _ _ _ _ (by omega)) (by omega) (by simp; omega) ?_; intro v' w2 hown2 hgrow)
            go_roundw
            case rel =>
              refine ⟨j + 1, O ++ [s % 4294967296], s / 4294967296, by go_num, by go_num, by omega, hown2, ⟨by simp [I1.out]; omega, ?_, HL2.out, ?_⟩, hgrow _ (hbel.out.alloc hbs _)⟩
              · intro y hy
                rcases List.mem_append.1 hy with h | h
                · exact I2.out y h
                · obtain rfl := List.mem_singleton.1 h; exact Nat.mod_lt _ (by decide)
              · have e1 := I4.out
                have e2 := hss.out
                have e3 := hst.out
                have e4 : 2 ^ k = 4294967296 ^ q * 2 ^ r := by rw [HK.out, Nat.pow_add, Nat.pow_mul]
                have e5 : 4294967296 ^ j * x * 2 ^ k = 4294967296 ^ (q + j) * x * 2 ^ r := by
                  rw [e4, Nat.pow_add]
                  simp only [Nat.mul_assoc, Nat.mul_comm, Nat.mul_left_comm]
                simp only [val32, valB_snoc, I1.out] at e1 e2 ⊢
                rw [e3, Nat.add_mul, e5, ← e1]
                have e6 : 4294967296 ^ (q + (j + 1)) = 4294967296 ^ (q + j) * 4294967296 := by rw [← Nat.pow_succ]; rfl
                rw [e6, e2]
            case measure => simp [intOf] <;> omega
          · obtain rfl : j = M := by omega
            obtain ⟨i1, i2, i3, i4⟩ := hinv.out
            rw [List.take_of_length_le (by rw [HMM.out]; exact Nat.le_refl _)] at i4
            have hlow : low < 4294967296 := by have := h2r.out; omega
            have hfin := Lib.hid (show bareN (O ++ [low]) = nat32 (val32 l * 2 ^ k) by
              rw [bareN_nat (fun y hy => by
                rcases List.mem_append.1 hy with h | h
                · exact i2 y h
                · obtain rfl := List.mem_singleton.1 h; exact hlow)]
              have e := HV.out
              simp only [val32, valB_snoc, i1] at i4 ⊢
              rw [i4, e])
            have I1 := Lib.hid i1
            clear i1 i2 i3 i4
            have hbs := hbel.out.size
            have HO1 := Lib.hid hown
            have hlen : O.length ≤ 1000 := by have := I1.out; omega
            clear hown
            go_wp2_with (first | (at_builtin; refine wpList_append_q .u32 _ rfl _ _ 41 rfl w.heap.size 64 4 i0 Try.underlying41 hi hz0 hz1 hz2 (by decide) _ O rfl (HO1.out.alloc _) _ _ _ [low] rfl (Reads.one .u32 _ _ _ _ rfl) (by omega) (by simp; omega) ?_; intro v' w2 hown2 hgrow; obtain ⟨av, an, ac, rfl, hl2, hown2⟩ := hown2.slice; have HO2 := Lib.hid hown2; have HL2 := Lib.hid hl2; clear hown2 hl2) | (go_at_call 47; refine (bare32_any _ _ _ _ _ HO2.out.reads).mono ?_; rintro e w3 ⟨rfl, rfl⟩))
            go_ret2
            have hu := HO2.out.upto (bareN (O ++ [low])).length (by rw [HL2.out]; exact bareN_le _)
            rw [← bareN_prefix] at hu
            refine ⟨⟨_, by rw [hR.out, cutR_small HV2.out]; rfl, ?_⟩, hgrow _ (hbel.out.alloc hbs _)⟩
            rw [hR.out, cutR_small HV2.out]
            rw [hfin.out] at hu ⊢
            exact hu
      · have hr := Lib.hid (show cutR32 (val32 l * 2 ^ k) = ([], 20) from cutR_large (fun h => hk (hsm.1 h)))
        have hdec : decide ((8192 : Int) - (bn : Int) < (k : Int)) = true := by simp; omega
        clear hsm
        go_wp2_with (go_at_call 57; refine HB8.out.mono ?_; rintro e w' ⟨rfl, rfl⟩)
        go_ret2
        refine ⟨⟨_, by rw [hR.out, hr.out]; rfl, ?_⟩, (Below.refl _ _).alloc (Nat.le_refl _) _⟩
        rw [hR.out, hr.out]; exact OwnQ.nil _ _ _ _
  · have hr := Lib.hid (show cutR32 (val32 l * 2 ^ k) = ([], 20) from cutR_large (fun h => hc (hci.2 (Nat.lt_of_le_of_lt (Nat.le_mul_of_pos_right _ (Nat.pow_pos (by decide))) h))))
    clear hci
    go_enter Try.func63, Try.ntmps63
    go_wp2_with fail
    refine HB.out.mono ?_
    rintro e w1 ⟨rfl, rfl⟩
    go_wp2_with fail
    refine (may1_any w.heap.size a M cap _ (World.cell?_alloc_at _ _ _ _ rfl) false (by simp; omega) (by omega)).mono ?_
    rintro e w1 ⟨rfl, rfl⟩
    go_wp2
    go_ret2
    refine ⟨⟨_, by rw [hR.out, hr.out]; rfl, ?_⟩, (Below.refl _ _).alloc (Nat.le_refl _) _⟩
    rw [hR.out, hr.out]; exact OwnQ.nil _ _ _ _
end Go.Proofs.Ytpefjkndfifceaa
namespace Go.Proofs.Ytpefjkndfifceaa
open Go.RowKit
theorem below_drewN {B : Nat} {a w : World} (h : Below B a w) (n : Nat) : Below B a (w.drewN n) := h.trans ⟨rfl, rfl, rfl, Nat.le_refl _, fun _ _ => rfl⟩
theorem or_lo (x y : Nat) (hx : x < 4294967296) (hy : y < 4294967296) : bits BinOp.or IntKind.u64 ((x : Int) * 4294967296) (y : Int) = ((x * 4294967296 + y : Nat) : Int) := by
  rw [or32 x y hx hy]; congr 1; omega
end Go.Proofs.Ytpefjkndfifceaa
namespace Go.Proofs.Ytpefjkndfifceaa
open Go.RowKit Go.Shelf
attribute [local go_sem] Oper.semAt_some
theorem boxed_other {W : World} {B : Nat} {t : TypeId} {v : Value} (h : Boxed W B t v) (p : Addr) (u : Value) (hp : B ≠ p.block) : Boxed (W.setCell p u) B t v := (Below.heap_setCell W p u B hp).trans h
theorem Boxed.keptCells {W W' : World} {row : Option Nat} {B : Nat} {t : TypeId} {v : Value} (h : Boxed W B t v) (hg : W.grownBy W' row) (hr : ∀ r, row = some r → ∃ o : Obj, W.heap[r]? = some o ∧ o.isCells = false) : Boxed W' B t v :=
  Boxed.kept h hg fun e' => by obtain ⟨o, ho, hc⟩ := hr B e'.symm; rw [show W.heap[B]? = _ from h] at ho; cases ho; cases hc
set_option maxRecDepth 100000 in
set_option maxHeartbeats 2000000 in
theorem cmp_any (a a' : Option Addr) (nx cx ny cy : Nat) (lx ly : List Nat) (w : World) (hx : Reads .u32 w a nx cx lx) (hy : Reads .u32 w a' ny cy ly) (hLx : Lim lx) (hLy : Lim ly) :
    Calls Try.prog 25 #[.slice a nx cx, .slice a' ny cy] w fun e w' => e = .returned (.int .i64 (ordN (val32 lx) (val32 ly))) ∧ Below w.heap.size w w' := by
  have HX := Lib.hid hx
  have HY := Lib.hid hy
  clear hx hy
  refine (callsIn_wide (n := 3)).1 ?_
  refine callsIn_of_wp_marks Try.func25 rfl trivial ?_ rfl
  simp only [Try.ntmps25, List.size_toArray, List.length_cons, List.length_nil, Nat.reduceAdd, Nat.reduceSub, Array.replicate_succ, Array.replicate_zero, List.push_toArray, List.append_toArray, List.nil_append, List.cons_append]
  gi_wp2
  refine wpIn_wide.2 (wp_scope_straight ((wpIn_wide (n := 3)).1 ?_))
  gi_wp2
  refine wpIn_label ?_
  gi_wp2_with (refine ⟨trivial, ?_⟩; gi_at_call 41; refine (callsIn_wide.2 (down_any _ _ _ _ _ _ _)).mono ?_; rintro e w' ⟨rfl, rfl⟩)
  have bA := ((Boxed.new w 3 (.int .i64 0)).alloc (.cells #[.slice a nx cx] 41)).alloc (.cells #[.slice a' ny cy] 41)
  have bX := (Boxed.new (w.alloc (.cells #[.int .i64 0] 3)) 41 (.slice a nx cx)).alloc (.cells #[.slice a' ny cy] 41)
  have bY := Boxed.new ((w.alloc (.cells #[.int .i64 0] 3)).alloc (.cells #[.slice a nx cx] 41)) 41 (.slice a' ny cy)
  have hBW := (((Below.refl w.heap.size w).alloc (Nat.le_refl _) (.cells #[.int .i64 0] 3)).alloc (by simp only [World.size_alloc]; omega) (.cells #[.slice a nx cx] 41)).alloc (by simp only [World.size_alloc]; omega) (.cells #[.slice a' ny cy] 41)
  simp only [World.size_alloc] at bX bY
  obtain ⟨W0, hW0⟩ : ∃ W0, ((w.alloc (.cells #[.int .i64 0] 3)).alloc (.cells #[.slice a nx cx] 41)).alloc (.cells #[.slice a' ny cy] 41) = W0 := ⟨_, rfl⟩
  have hsz1 : W0.heap.size = w.heap.size + 3 := by rw [← hW0]; simp
  rw [hW0] at bA bX bY hBW ⊢
  clear hW0
  have h1 : 1 ≤ 3 := by decide
  obtain ⟨m, hm⟩ : ∃ m, m = max nx ny := ⟨_, rfl⟩
  refine wpIn_rangeFunc_ownF (F := Fence.wide) rfl h1 (gf := 60) (lb := #[.pointer (some ⟨w.heap.size + 1, 0, none⟩), .pointer (some ⟨w.heap.size + 1 + 1, 0, none⟩)]) rfl trivial (enters_of Try.func60 (by kernel_rfl) rfl)
    (down_stops (3 - 1) (by decide) w.heap.size (w.heap.size + 1) (w.heap.size + 1 + 1) a a' nx cx ny cy lx ly hLx hLy W0 bX bY (HX.out.below hBW) (HY.out.below hBW) HX.out.block HY.out.block (by omega) m hm) kpUp_t (kpUp_b (by omega)) (Below.refl _ _) (fun _ => rfl)
    (fun pre W => (Boxed W w.heap.size 3 (.int .i64 0) ∧ Boxed W (w.heap.size + 1) 41 (.slice a nx cx) ∧ Boxed W (w.heap.size + 1 + 1) 41 (.slice a' ny cy) ∧ Hid (∀ p ∈ pre, p.1.1 = p.1.2)) ∧ Below w.heap.size w W)
    (fun c pre W => (c = .exit 0 ∧ ∃ r : Int, Boxed W w.heap.size 3 (.int .i64 r) ∧ Hid (Broke pre r)) ∧ Below w.heap.size w W)
    (OwnFrom.and (fun s X Y row hs hg hr => ⟨Boxed.keptCells hs.1 hg (fun r e => (hr r e).2), Boxed.keptCells hs.2.1 hg (fun r e => (hr r e).2), Boxed.keptCells hs.2.2.1 hg (fun r e => (hr r e).2), hs.2.2.2⟩) (ownFrom_below (Nat.le_refl _) (by omega)))
    (fun c => OwnFrom.and (fun s X Y row hs hg hr => ⟨hs.1, hs.2.elim fun r hr2 => ⟨r, Boxed.keptCells hr2.1 hg (fun r e => (hr r e).2), hr2.2⟩⟩) (ownFrom_below (Nat.le_refl _) (by omega)))
    ⟨⟨bA, bX, bY, fun _ h => by cases h⟩, hBW⟩
    (fun x => { tmps := #[.slice a nx cx, .slice a' ny cy, undef, undef, .int .i64 0, .pointer (some ⟨w.heap.size, 0, none⟩), .int .u32 (x.1.1 : Int), .int .u32 (x.1.2 : Int), .slice a nx cx, .slice a' ny cy, .func (.func 60) #[] #[.pointer (some ⟨w.heap.size + 1, 0, none⟩), .pointer (some ⟨w.heap.size + 1 + 1, 0, none⟩)], .int .u32 (x.1.1 : Int), .int .u32 (x.1.2 : Int), undef, undef, undef, undef, undef, undef, undef, undef, undef], defers := [] }) ?assign ?body ?done ?stop
  case assign =>
    intro lp x W K hK
    gi_wp2
    exact hK
  case body =>
    rintro lp pre x W ⟨⟨bA, bX, bY, hok⟩, hB⟩ hlt
    have cA := bA.cell
    have fA := bA.frozen
    have BA := Lib.hid bA
    have BX := Lib.hid bX
    have BY := Lib.hid bY
    clear bA bX bY
    rcases Nat.lt_trichotomy x.1.1 x.1.2 with hc | hc | hc
    · have HC := Lib.hid hc
      gi_wp2
      exact ⟨KeepsOthers.setCell _ _ _, ⟨rfl, _, BA.out.set _, ⟨pre, x, rfl, hok.out, .inl ⟨HC.out, rfl⟩⟩⟩, hB.setCell (p := ⟨w.heap.size, 0, none⟩) (Nat.le_refl _) _⟩
    · have HC := Lib.hid hc
      have t1 : decide (x.1.1 < x.1.2) = false := by simp; omega
      have t2 : decide (x.1.2 < x.1.1) = false := by simp; omega
      clear hc
      gi_wp2
      exact ⟨KeepsOthers.refl _, ⟨Below.refl _ _, fun _ _ h => h, fun _ _ h => h⟩, ⟨BA.out, BX.out, BY.out, fun p hp => by
        rcases List.mem_append.1 hp with h | h
        · exact hok.out p h
        · obtain rfl := List.mem_singleton.1 h; exact HC.out⟩, hB⟩
    · have HC := Lib.hid hc
      have t1 : decide (x.1.1 < x.1.2) = false := by simp; omega
      gi_wp2
      exact ⟨KeepsOthers.setCell _ _ _, ⟨rfl, _, BA.out.set _, ⟨pre, x, rfl, hok.out, .inr ⟨HC.out, rfl⟩⟩⟩, hB.setCell (p := ⟨w.heap.size, 0, none⟩) (Nat.le_refl _) _⟩
  case done =>
    rintro D xs W hD rfl ⟨⟨bA, bX, bY, hok⟩, hB⟩ hK
    have cA := bA.cell
    have he := Lib.hid (show (0 : Int) = ordN (val32 lx) (val32 ly) from (ordN_eq (valB_ext _ _ _ fun i => down_eq (Nat.le_refl m) (by rw [HX.out.length]; omega) (by rw [HY.out.length]; omega) hok.out i (by omega))).symm)
    clear bA bX bY
    gi_wp2
    rw [Exit.noGoto_ret]
    refine ⟨by simp, .inl ⟨_, _, rfl, run_takeDeferred hK, ?_⟩⟩
    exact ⟨_, results_tmp rfl _ _ _, by rw [← he.out]; rfl, hB.trans (belowK_b (w := w) (Nat.le_refl _) W D _ _ (by omega) hK rfl rfl)⟩
  case stop =>
    rintro D c pre W hD ⟨k, hk, rfl⟩ ⟨⟨rfl, r, bA, hbr⟩, hB⟩ hK
    have cA := bA.cell
    have he := Lib.hid (broke_ord hk (by rw [HX.out.length]; omega) (by rw [HY.out.length]; omega) hbr.out)
    clear bA
    gi_wp2
    rw [Exit.noGoto_ret]
    refine ⟨by simp, .inl ⟨_, _, rfl, run_takeDeferred hK, ?_⟩⟩
    exact ⟨_, results_tmp rfl _ _ _, by rw [← he.out]; rfl, hB.trans (belowK_b (w := w) (Nat.le_refl _) W D _ _ (by omega) hK rfl rfl)⟩
end Go.Proofs.Ytpefjkndfifceaa
namespace Go.Proofs.Ytpefjkndfifceaa
open Go.RowKit Go.Shelf
attribute [local go_sem] Oper.semAt_some
theorem OwnQ.keptCells {q : IntKind} {E B : Nat} {W W' : World} {row : Option Nat} {v : Value} {l : List Nat} (h : OwnQ q E B W v l) (hg : W.grownBy W' row) (hr : ∀ r, row = some r → ∃ o : Obj, W.heap[r]? = some o ∧ o.isCells = false) : OwnQ q E B W' v l := by
  refine World.ownsRow.kept h hg ?_
  rcases h.2 with ⟨rfl, _⟩ | ⟨g, cap, cur, rfl, _, hgb, _⟩
  · exact .inl rfl
  · refine .inr fun e' => ?_
    obtain ⟨o, ho, hc⟩ := hr g (by simpa [Value.ownBlock] using e'.symm)
    rw [hgb] at ho; cases ho; cases hc
theorem OwnQ.setOther {q : IntKind} {E B : Nat} {W : World} {v : Value} {l : List Nat} (h : OwnQ q E B W v l) {b : Nat} (hne : v.ownBlock ≠ some b) (u : Value) : OwnQ q E B (W.setCell ⟨b, 0, none⟩ u) v l := ownsRow_setCell_other (a := ⟨b, 0, none⟩) h hne u
def AddInv (pre : List Two) (O : List Nat) (c : Nat) : Prop := O.length = pre.length ∧ Lim O ∧ c ≤ 1 ∧ val32 O + 4294967296 ^ pre.length * c = val32 (pre.map (·.1.1)) + val32 (pre.map (·.1.2))
def AddI (n₀ A : Nat) (x y : Value) (pre : List Two) (W : World) : Prop :=
  ∃ (v : Value) (O : List Nat) (c : Nat), Boxed W A 41 v ∧ Boxed W (A + 1) 83 (.int .u64 (c : Int)) ∧ Boxed W (A + 1 + 1) 41 x ∧ Boxed W (A + 1 + 1 + 1) 41 y ∧ OwnQ .u32 64 n₀ W v O ∧ Hid (AddInv pre O c) ∧ Hid (∀ b, A ≤ b → b ≤ A + 1 + 1 + 1 → v.ownBlock ≠ some b)
end Go.Proofs.Ytpefjkndfifceaa
namespace Go.Proofs.Ytpefjkndfifceaa
open Go.RowKit Go.Shelf
attribute [local go_sem] Oper.semAt_some
def subR (x y : Nat) : List Nat × Int := if x < topN ∧ y < topN ∧ y ≤ x then (nat32 (x - y), 0) else ([], 20)
def SubInv (pre : List Two) (O : List Nat) (c : Nat) : Prop := O.length = pre.length ∧ Lim O ∧ c ≤ 1 ∧ val32 O + val32 (pre.map (·.1.2)) = val32 (pre.map (·.1.1)) + 4294967296 ^ pre.length * c
def SubI (n₀ A : Nat) (x y : Value) (pre : List Two) (W : World) : Prop :=
  ∃ (v : Value) (O : List Nat) (c : Nat), Boxed W A 41 v ∧ Boxed W (A + 1) 64 (.int .u32 (c : Int)) ∧ Boxed W (A + 1 + 1) 41 x ∧ Boxed W (A + 1 + 1 + 1) 41 y ∧ OwnQ .u32 64 n₀ W v O ∧ Hid (SubInv pre O c) ∧ Hid (∀ b, A ≤ b → b ≤ A + 1 + 1 + 1 → v.ownBlock ≠ some b)
end Go.Proofs.Ytpefjkndfifceaa
namespace Go.Proofs.Ytpefjkndfifceaa
open Go.RowKit
def mulR (x y : Nat) : List Nat × Int := if x < topN ∧ y < topN then cutR32 (x * y) else ([], 20)
theorem mulR_yes {x y : Nat} (h : x < topN) (k : y < topN) : mulR x y = cutR32 (x * y) := if_pos ⟨h, k⟩
theorem mulR_no {x y : Nat} (h : ¬ (x < topN ∧ y < topN)) : mulR x y = ([], 20) := if_neg h
def MulOut (x y P : List Nat) (i : Nat) : Prop := P.length = x.length + y.length ∧ Lim P ∧ val32 P = val32 (x.take i) * val32 y ∧ (∀ t, i + y.length ≤ t → P[t]?.getD 0 = 0)
def MulIn (x y P : List Nat) (i j c : Nat) : Prop := P.length = x.length + y.length ∧ Lim P ∧ c < 4294967296 ∧ val32 P + 4294967296 ^ (i + j) * c = val32 (x.take i) * val32 y + 4294967296 ^ i * (x[i]?.getD 0) * val32 (y.take j) ∧ (∀ t, i + y.length ≤ t → P[t]?.getD 0 = 0)
theorem mulOut_start (x y : List Nat) : MulOut x y (List.replicate (x.length + y.length) 0) 0 :=
  ⟨by simp, fun t ht => by rw [List.eq_of_mem_replicate ht]; decide, by rw [List.take_zero, val32, valB_zeros]; simp [val32, valB], fun t _ => by
    by_cases h : t < x.length + y.length
    · simp [h]
    · simp [h]⟩
theorem mulIn_start {x y P : List Nat} {i : Nat} (h : MulOut x y P i) : MulIn x y P i 0 0 := by
  obtain ⟨h1, h2, h3, h4⟩ := h
  exact ⟨h1, h2, by decide, by rw [List.take_zero, h3]; simp [val32, valB], h4⟩
theorem getD_set (P : List Nat) (t d s : Nat) (h : t < P.length) : (P.set t d)[s]?.getD 0 = if t = s then d else P[s]?.getD 0 := by
  rw [List.getElem?_set]
  by_cases e : t = s
  · subst e; simp [h]
  · simp [e]
theorem val_set {P : List Nat} (t d : Nat) (h : t < P.length) : val32 (P.set t d) + 4294967296 ^ t * (P[t]?.getD 0) = val32 P + 4294967296 ^ t * d := valB_set _ P t d h
theorem mul_bound (a b p c : Nat) (ha : a < 4294967296) (hb : b < 4294967296) (hp : p < 4294967296) (hc : c < 4294967296) : c + (a * b + p) < 18446744073709551616 := by
  have h : a * b ≤ 4294967295 * 4294967295 := Nat.mul_le_mul (by omega) (by omega)
  omega
theorem mulIn_step {x y P : List Nat} {i j c : Nat} (h : MulIn x y P i j c) (hx : Lim x) (hy : Lim y) (hi : i < x.length) (hj : j < y.length) :
    MulIn x y (P.set (i + j) ((c + ((x[i]?.getD 0) * (y[j]?.getD 0) + P[i + j]?.getD 0)) % 4294967296)) i (j + 1) ((c + ((x[i]?.getD 0) * (y[j]?.getD 0) + P[i + j]?.getD 0)) / 4294967296) := by
  obtain ⟨h1, h2, h3, h4, h5⟩ := h
  have hb := mul_bound _ _ _ c (lim_get hx i) (lim_get hy j) (lim_get h2 (i + j)) h3
  have hv := val_set (i + j) ((c + ((x[i]?.getD 0) * (y[j]?.getD 0) + P[i + j]?.getD 0)) % 4294967296) (show i + j < P.length by omega)
  have hs := valB_succ (b := 4294967296) y j
  refine ⟨by simp [h1], mem_set h2 (Nat.mod_lt _ (by decide)), by omega, ?_, fun t ht => by rw [getD_set _ _ _ _ (by omega), if_neg (by omega)]; exact h5 t ht⟩
  generalize hS : c + ((x[i]?.getD 0) * (y[j]?.getD 0) + P[i + j]?.getD 0) = S at *
  have e1 : 4294967296 ^ (i + (j + 1)) * (S / 4294967296) = 4294967296 ^ (i + j) * (4294967296 * (S / 4294967296)) := by rw [← Nat.add_assoc, Nat.pow_succ, Nat.mul_assoc]
  have e2 : 4294967296 ^ (i + j) * (S % 4294967296) + 4294967296 ^ (i + j) * (4294967296 * (S / 4294967296)) = 4294967296 ^ (i + j) * S := by rw [← Nat.mul_add, Nat.mod_add_div]
  have e3 : 4294967296 ^ (i + j) * S = 4294967296 ^ (i + j) * c + (4294967296 ^ (i + j) * ((x[i]?.getD 0) * (y[j]?.getD 0)) + 4294967296 ^ (i + j) * (P[i + j]?.getD 0)) := by rw [← hS, Nat.mul_add, Nat.mul_add]
  have e4 : 4294967296 ^ i * (x[i]?.getD 0) * (4294967296 ^ j * (y[j]?.getD 0)) = 4294967296 ^ (i + j) * ((x[i]?.getD 0) * (y[j]?.getD 0)) := by
    rw [Nat.pow_add]
    simp only [Nat.mul_assoc, Nat.mul_left_comm]
  simp only [val32] at *
  rw [hs, Nat.mul_add, e4, e1]
  omega
theorem mulIn_end {x y P : List Nat} {i c : Nat} (h : MulIn x y P i y.length c) (hi : i < x.length) : MulOut x y (P.set (i + y.length) c) (i + 1) := by
  obtain ⟨h1, h2, h3, h4, h5⟩ := h
  have hv := val_set (i + y.length) c (show i + y.length < P.length by omega)
  rw [h5 _ (Nat.le_refl _)] at hv
  have hs := valB_succ (b := 4294967296) x i
  refine ⟨by simp [h1], mem_set h2 h3, ?_, fun t ht => by rw [getD_set _ _ _ _ (by omega), if_neg (by omega)]; exact h5 t (by omega)⟩
  rw [List.take_length] at h4
  simp only [val32] at *
  rw [hs, Nat.add_mul]
  omega
set_option maxHeartbeats 2000000 in
theorem mul_any (a a' : Option Addr) (nx cx ny cy : Nat) (lx ly : List Nat) (w : World) (hx : Reads .u32 w a nx cx lx) (hy : Reads .u32 w a' ny cy ly) (hLx : Lim lx) (hLy : Lim ly) :
    Calls Try.prog 83 #[.slice a nx cx, .slice a' ny cy] w fun e w' => RetsQ2 .u32 64 w.heap.size w' (mulR (val32 lx) (val32 ly)) e ∧ Below w.heap.size w w' := by
  obtain ⟨i0, hi, hz0, hz1, hz2⟩ := info_parts Try.info32
  have HX := Lib.hid hx.bare
  have HY := Lib.hid hy.bare
  have CX := Lib.hid (bare32_any a nx cx lx w hx)
  have CY := Lib.hid (bare32_any a' ny cy ly w hy)
  have hcx := cut_iff lx hLx
  have hcy := cut_iff ly hLy
  have VX := Lib.hid (bareN_val 4294967296 lx)
  have VY := Lib.hid (bareN_val 4294967296 ly)
  have hBx : Lim (bareN lx) := fun x h => hLx x (bareN_mem h)
  have hBy : Lim (bareN ly) := fun x h => hLy x (bareN_mem h)
  have hlx := bareN_le lx
  have hly := bareN_le ly
  have hmx := hx.len_le
  have hmy := hy.len_le
  rw [hx.length] at hlx
  rw [hy.length] at hly
  unfold maxLen at hmx hmy
  clear hx hy
  generalize bareN lx = p at *
  generalize bareN ly = q at *
  generalize hnp : p.length = np at *
  generalize hnq : q.length = nq at *
  have NP := Lib.hid hnp
  have NQ := Lib.hid hnq
  have BX := Lib.hid hBx
  have BY := Lib.hid hBy
  clear hnp hnq hBx hBy
  by_cases hc : np ≤ 256 ∧ nq ≤ 256
  · have hdec := Lib.hid (show true = decide (np ≤ 256 ∧ nq ≤ 256) by simp [hc])
    obtain ⟨hcp, hcq⟩ := hc
    have hR := Lib.hid (show mulR (val32 lx) (val32 ly) = cutR32 (val32 lx * val32 ly) from mulR_yes (hcx.1 hcp) (hcy.1 hcq))
    clear hcx hcy
    go_enter Try.func83, Try.ntmps83
    go_wp2_with (go_at_call 47; first | ((with_reducible refine CX.out.mono ?_); rintro e w1 ⟨rfl, rfl⟩) | ((with_reducible refine CY.out.mono ?_); rintro e w1 ⟨rfl, rfl⟩))
    refine (may2_any w.heap.size a a' np cx nq cy _ (World.cell?_alloc_at _ _ _ _ rfl) (World.cell?_alloc_at _ _ _ _ rfl) true hdec.out (by omega) (by omega)).mono ?_
    rintro e w1 ⟨rfl, rfl⟩
    go_wp2_with (at_make; refine wpList_make_lc .u32 _ rfl _ _ 41 rfl w.heap.size 64 i0 Try.underlying41 hi hz0 hz1 _ _ _ _ (np + nq) (np + nq) rfl rfl (by omega) (by omega) (Nat.le_refl _) (by rw [hz2]; omega) (by unfold maxLen; omega) (by simp) ?_; intro w1 hown hgrow)
    have hb1 : Below w.heap.size w w1 := ((Below.refl _ _).alloc (Nat.le_refl _) _).grown hgrow (by simp) (fun _ h => by cases h)
    simp only [World.size_alloc] at hown
    have HO := Lib.hid hown
    have HB1 := Lib.hid hb1
    clear hown hgrow hb1
    go_loopw [29] (fun i wr => ∃ (k : Nat) (P : List Nat), i = .int .i64 k ∧ k ≤ np ∧ Hid (MulOut p q P k) ∧ OwnQ .u32 64 w.heap.size wr (.slice (some ⟨w.heap.size + 1, 0, none⟩) (np + nq) (np + nq)) P ∧ Hid (Below w.heap.size w wr)) (fun i _ => np - (intOf i).toNat)
    case atStart => exact ⟨0, _, rfl, Nat.zero_le _, (by have := mulOut_start p q; rwa [NP.out, NQ.out] at this), HO.out, HB1.out⟩
    case round =>
      obtain ⟨k, P, rfl, hk, hinv, hown, hbel⟩ := hrel
      obtain ⟨wo, rfl⟩ : ∃ wo : World, wo = wr := ⟨_, rfl⟩
      by_cases hlt : k < np
      · obtain ⟨b, off, rfl, hbk, hc2⟩ := (HX.out.below hbel.out).cells (by omega)
        have hck := hc2 k hlt
        have hx := lim_get BX.out k
        have hin0 := Lib.hid (mulIn_start hinv.out)
        have HO1 := Lib.hid hown
        clear hc2 hown
        generalize hxx : p[k]?.getD 0 = x at *
        have HXX := Lib.hid hxx
        clear hxx
        go_wp2
        go_loopw [9, 36] (fun c j wr => ∃ (t cc : Nat) (P : List Nat), j = .int .i64 t ∧ c = .int .u64 (cc : Int) ∧ t ≤ nq ∧ Hid (MulIn p q P k t cc) ∧ OwnQ .u32 64 w.heap.size wr (.slice (some ⟨w.heap.size + 1, 0, none⟩) (np + nq) (np + nq)) P ∧ Hid (Below w.heap.size w wr)) (fun _ j _ => nq - (intOf j).toNat)
        case atStart => exact ⟨0, 0, P, rfl, rfl, Nat.zero_le _, hin0.out, HO1.out, hbel.out⟩
        case round =>
          obtain ⟨t, c, P2, rfl, rfl, ht, hin, hown, hbel2⟩ := hrel
          by_cases hlt2 : t < nq
          · obtain ⟨b2, off2, rfl, hbk2, hc2⟩ := (HY.out.below hbel2.out).cells (by omega)
            have hck2 := hc2 t hlt2
            have hy := lim_get BY.out t
            have hst := Lib.hid (mulIn_step hin.out BX.out BY.out (by rw [NP.out]; exact hlt) (by rw [NQ.out]; exact hlt2))
            obtain ⟨i1, i2, i3, -, -⟩ := hin.out
            rw [NP.out, NQ.out] at i1
            have I1 := Lib.hid i1
            have hcell := hown.cellAt I1.out.symm (k + t) (by omega)
            have hfr := hown.frozenAt I1.out.symm (k + t)
            have hp := lim_get i2 (k + t)
            rw [HXX.out] at hst
            have HO2 := Lib.hid hown
            clear hc2 hown i1 i2
            generalize q[t]?.getD 0 = y at *
            generalize P2[k + t]?.getD 0 = z at *
            have hbd := mul_bound x y z c hx hy hp i3
            have hxy : x * y ≤ 4294967295 * 4294967295 := Nat.mul_le_mul (by omega) (by omega)
            generalize hs : c + (x * y + z) = s at *
            have HS := Lib.hid hs
            have hmul : Hid ((x : Int) * (y : Int) = ((x * y : Nat) : Int)) := by unfold Hid; simp
            clear hs
            go_wp2
            go_roundw
            case rel =>
              have hS : ((c : Int) + ((x : Int) * (y : Int) + (z : Int))) = (s : Int) := by rw [← HS.out]; simp
              rw [hS]
              have s1 := HO2.out.stored I1.out.symm (k + t) (s % 4294967296) ((s : Int) % 4294967296) (by omega)
              exact ⟨t + 1, s / 4294967296, P2.set (k + t) (s % 4294967296), by go_num, by go_num, by omega, hst.out, s1.1, s1.2 _ hbel2.out⟩
            case measure => simp [intOf] <;> omega
          · obtain rfl : t = nq := by omega
            obtain ⟨i1, i2, i3, -, -⟩ := hin.out
            rw [NP.out, NQ.out] at i1
            have I1 := Lib.hid i1
            have hend := Lib.hid (show MulOut p q (P2.set (k + t) c) (k + 1) by
              have h1 := hin.out
              rw [← NQ.out] at h1
              have h2 := mulIn_end h1 (by rw [NP.out]; exact hlt)
              rwa [NQ.out] at h2)
            have hcell := hown.cellAt I1.out.symm (k + t) (by omega)
            have hfr := hown.frozenAt I1.out.symm (k + t)
            have hp := lim_get i2 (k + t)
            have HO2 := Lib.hid hown
            clear hown i1 i2
            generalize P2[k + t]?.getD 0 = z at *
            go_wp2
            go_roundw
            case rel =>
              have s1 := HO2.out.stored I1.out.symm (k + t) c (c : Int) rfl
              exact ⟨k + 1, P2.set (k + t) c, by go_num, by omega, hend.out, s1.1, s1.2 _ hbel2.out⟩
            case measure => simp [intOf] <;> omega
      · obtain rfl : k = np := by omega
        obtain ⟨i1, i2, i3, -⟩ := hinv.out
        rw [List.take_of_length_le (by rw [NP.out]; exact Nat.le_refl _)] at i3
        have hv := Lib.hid (show val32 P = val32 lx * val32 ly by
          have e1 := VX.out
          have e2 := VY.out
          simp only [val32] at *
          rw [i3, e1, e2])
        have hbs := hbel.out.size
        have HT := Lib.hid (trim_any _ _ _ _ _ hown.reads i2)
        rw [hv.out] at HT
        clear hown i1 i2 i3
        go_wp2_with (go_at_call 62; refine HT.out.mono ?_; rintro e w2 ⟨⟨v2, rfl, ho2⟩, hb2⟩)
        go_ret2
        exact ⟨⟨_, by rw [hR.out]; rfl, by rw [hR.out]; exact ho2.mono hbs⟩, hbel.out.trans (hb2.mono hbs)⟩
  · have hdec := Lib.hid (show false = decide (np ≤ 256 ∧ nq ≤ 256) by simp; omega)
    have hr := Lib.hid (show mulR (val32 lx) (val32 ly) = ([], 20) from mulR_no (fun h => hc ⟨hcx.2 h.1, hcy.2 h.2⟩))
    clear hcx hcy
    go_enter Try.func83, Try.ntmps83
    go_wp2_with (go_at_call 47; first | ((with_reducible refine CX.out.mono ?_); rintro e w1 ⟨rfl, rfl⟩) | ((with_reducible refine CY.out.mono ?_); rintro e w1 ⟨rfl, rfl⟩))
    refine (may2_any w.heap.size a a' np cx nq cy _ (World.cell?_alloc_at _ _ _ _ rfl) (World.cell?_alloc_at _ _ _ _ rfl) false hdec.out (by omega) (by omega)).mono ?_
    rintro e w1 ⟨rfl, rfl⟩
    go_wp2
    go_ret2
    refine ⟨⟨_, by rw [hr.out]; rfl, ?_⟩, (Below.refl _ _).alloc (Nat.le_refl _) _⟩
    rw [hr.out]; exact OwnQ.nil _ _ _ _
end Go.Proofs.Ytpefjkndfifceaa
namespace Go.Proofs.Ytpefjkndfifceaa
open Go.RowKit
theorem nat32_lit (l : List Nat) (v : Nat) (h : Lim l) (hb : bareN l = l) (hv : val32 l = v) : nat32 v = l := by rw [← hv, ← bareN_nat h, hb]
theorem conv8 {w : World} {a : Option Addr} {n c : Nat} {l : List Nat} (h : Reads .u8 w a n c l) (hB : Byt l) :
    (convert 22 9 (.slice a n c)).run Try.prog w = .ok (.string (strOf (u8s l))) w :=
  (h.bts hB).convert (P := Try.prog) _ _ _ Try.underlying22 Try.underlying5 Try.underlying9
theorem OwnQ.one (q : IntKind) (w : World) (E : TypeId) (B : Nat) (hB : B ≤ w.heap.size) (x : Int) (c : Nat) (hx : x = c) : OwnQ q E B (w.alloc (.cells #[.int q x] E)) (.slice (some ⟨w.heap.size, 0, .none⟩) 1 1) [c] := by
  subst hx
  exact World.ownsRow_lit w #[.int q c] 1 hB (by unfold maxLen; omega) rfl
end Go.Proofs.Ytpefjkndfifceaa
namespace Go.Proofs.Ytpefjkndfifceaa
open Go.RowKit
def NatAt (w : World) (v : Value) (n : Nat) : Prop := ∃ a len cap l, v = .slice a len cap ∧ Reads .u32 w a len cap l ∧ Lim l ∧ val32 l = n
def NatC (w : World) (v : Value) (n : Nat) : Prop := ∃ a len cap, v = .slice a len cap ∧ Reads .u32 w a len cap (nat32 n)
theorem val_nat (n : Nat) : val32 (nat32 n) = n := natB_val (by decide) n
theorem lim_nat (n : Nat) : Lim (nat32 n) := natB_digit (by decide) n
theorem NatC.at {w : World} {v : Value} {n : Nat} (h : NatC w v n) : NatAt w v n := by
  obtain ⟨a, len, cap, rfl, hr⟩ := h
  exact ⟨a, len, cap, _, rfl, hr, lim_nat n, val_nat n⟩
theorem NatAt.below {w w' : World} {v : Value} {n : Nat} (h : NatAt w v n) (hb : Below w.heap.size w w') : NatAt w' v n := by
  obtain ⟨a, len, cap, l, rfl, hr, hl, hv⟩ := h
  exact ⟨a, len, cap, l, rfl, hr.below hb, hl, hv⟩
theorem NatC.below {w w' : World} {v : Value} {n : Nat} (h : NatC w v n) (hb : Below w.heap.size w w') : NatC w' v n := by
  obtain ⟨a, len, cap, rfl, hr⟩ := h
  exact ⟨a, len, cap, rfl, hr.below hb⟩
theorem NatC.of {E : TypeId} {B : Nat} {w : World} {v : Value} {n : Nat} (h : OwnQ .u32 E B w v (nat32 n)) : NatC w v n := by
  obtain ⟨a, len, cap, rfl, _, ho⟩ := h.slice
  exact ⟨a, len, cap, rfl, ho.reads⟩
theorem NatAt.lt {w : World} {a : Option Addr} {len cap n k : Nat} (h : NatAt w (.slice a len cap) n) (hk : len ≤ k) : n < 4294967296 ^ k := by
  obtain ⟨a', len', cap', l, he, hr, hl, rfl⟩ := h
  cases he
  exact Nat.lt_of_lt_of_le (valB_lt (by decide) hl) (Nat.pow_le_pow_right (by decide) (by rw [hr.length]; exact hk))
def RetN (w' : World) (n : Nat) (e : Ending) : Prop := ∃ v, e = .returned (.tuple #[v, .int .i64 0]) ∧ NatC w' v n
def RetErr (c : Int) (e : Ending) : Prop := ∃ v, e = .returned (.tuple #[v, .int .i64 c])
theorem RetsQ2.num {B : Nat} {w : World} {n : Nat} {e : Ending} (h : RetsQ2 .u32 64 B w (nat32 n, 0) e) : RetN w n e := by
  obtain ⟨v, rfl, ho⟩ := h
  exact ⟨v, rfl, NatC.of ho⟩
theorem mul_nat {x y : Value} {n m : Nat} {w : World} (hx : NatAt w x n) (hy : NatAt w y m) (hn : n < topN) (hm : m < topN) (h : n * m < topN) : Calls Try.prog 83 #[x, y] w fun e w' => RetN w' (n * m) e ∧ Below w.heap.size w w' := by
  obtain ⟨a, len, cap, l, rfl, hr, hl, rfl⟩ := hx
  obtain ⟨a', len', cap', l', rfl, hr', hl', rfl⟩ := hy
  refine (mul_any _ _ _ _ _ _ _ _ w hr hr' hl hl').mono fun e w' ⟨he, hb⟩ => ⟨?_, hb⟩
  rw [mulR_yes hn hm, cutR_small h] at he
  exact he.num
theorem shl_nat {x : Value} {n : Nat} {w : World} (hx : NatAt w x n) (k : Int) (j : Nat) (hk : k = j) (hk2 : k ≤ 9223372036854775807) (h : n * 2 ^ j < topN) : Calls Try.prog 63 #[x, .int .i64 k] w fun e w' => RetN w' (n * 2 ^ j) e ∧ Below w.heap.size w w' := by
  obtain ⟨a, len, cap, l, rfl, hr, hl, rfl⟩ := hx
  subst hk
  refine (shl_any _ _ _ _ w hr hl _ hk2).mono fun e w' ⟨he, hb⟩ => ⟨?_, hb⟩
  rw [show shlR (val32 l) (j : Int) = (nat32 (val32 l * 2 ^ j), 0) by unfold shlR; rw [if_neg (by omega), Int.toNat_natCast, cutR_small h]] at he
  exact he.num
theorem cmp_nat {x y : Value} {n m : Nat} {w : World} (hx : NatAt w x n) (hy : NatAt w y m) (o : Int) (ho : o = ordN n m) : Calls Try.prog 25 #[x, y] w fun e w' => e = .returned (.int .i64 o) ∧ Below w.heap.size w w' := by
  obtain ⟨a, len, cap, l, rfl, hr, hl, rfl⟩ := hx
  obtain ⟨a', len', cap', l', rfl, hr', hl', rfl⟩ := hy
  subst ho
  exact cmp_any _ _ _ _ _ _ _ _ w hr hr' hl hl'
theorem bits_nat {x : Value} {n : Nat} {w : World} (hx : NatAt w x n) (hlen : ∀ a len cap, x = .slice a len cap → len ≤ 288230376151711743) (b : Nat) (hb : b = bitsN n) : Calls Try.prog 57 #[x] w fun e w' => e = .returned (.int .i64 (b : Int)) ∧ w = w' := by
  obtain ⟨a, len, cap, l, rfl, hr, hl, rfl⟩ := hx
  subst hb
  exact bits_any _ _ _ _ w hr hl (hlen _ _ _ rfl)
theorem bit_nat {x : Value} {n : Nat} {w : World} (hx : NatAt w x n) (i : Int) (hi : i ≤ 9223372036854775807) (b : Bool) (hb : b = (decide (0 ≤ i) && n.testBit i.toNat)) : Calls Try.prog 58 #[x, .int .i64 i] w fun e w' => e = .returned (.bool b) ∧ w = w' := by
  obtain ⟨a, len, cap, l, rfl, hr, hl, rfl⟩ := hx
  subst hb
  exact bit_any _ _ _ _ w hr hl i hi
def Short (v : Value) (k : Nat) : Prop := ∃ a len cap, v = .slice a len cap ∧ len ≤ k
theorem boxed_below {w w' : World} {B : Nat} {t : TypeId} {v : Value} (h : Boxed w B t v) (hb : Below w.heap.size w w') : Boxed w' B t v := (hb.block B h.lt).trans h
end Go.Proofs.Ytpefjkndfifceaa
