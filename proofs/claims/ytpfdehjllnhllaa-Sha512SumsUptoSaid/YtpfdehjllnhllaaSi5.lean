/-
  SHA-512, the reference: wide numbers' products and orders, in numbers; roots by computation. No walk stands here.
-/
import Derived.Test.YtpfdehjllnhllaaSi4
import Derived.Test.YtpfdehjllnhllaaNatMath
import Derived.KernelRfl
namespace Go.Proofs.Ytpfdehjllnhllaa
open Go.RowKit

theorem valB_setW (b : Nat) : ∀ (l : List Nat) (t d : Nat), t < l.length → valB b (l.set t d) + b ^ t * (l[t]?.getD 0) = valB b l + b ^ t * d
  | [], t, d, h => by simp at h
  | c :: l, 0, d, _ => by simp [valB]; omega
  | c :: l, t + 1, d, h => by
    have := valB_setW b l t d (by simpa using h)
    simp only [List.set_cons_succ, valB, List.getElem?_cons_succ, Nat.pow_succ]
    have e1 : b ^ t * b * (l[t]?.getD 0) = b * (b ^ t * (l[t]?.getD 0)) := by rw [Nat.mul_comm (b ^ t) b, Nat.mul_assoc]
    have e2 : b ^ t * b * d = b * (b ^ t * d) := by rw [Nat.mul_comm (b ^ t) b, Nat.mul_assoc]
    have e3 : b * (valB b (l.set t d) + b ^ t * (l[t]?.getD 0)) = b * (valB b l + b ^ t * d) := by rw [this]
    rw [Nat.mul_add, Nat.mul_add] at e3
    omega

theorem val_take_succ {l : List Nat} (k : Nat) (hk : k < l.length) : valB 4294967296 (l.take (k + 1)) = valB 4294967296 (l.take k) + 4294967296 ^ k * g0 l k := by
  rw [take_snocN l k hk, valB_snoc, List.length_take, Nat.min_eq_left (by omega)]
  rfl
theorem in_step {V W z s P x y c : Nat} (h : W + P * z = V + P * (s % 4294967296)) (hs : s = z + x * y + c) : W + s / 4294967296 * (P * 4294967296) = V + P * c + P * (x * y) := by
  have h1 : P * s = P * (s % 4294967296) + s / 4294967296 * (P * 4294967296) := by
    have := Nat.div_add_mod s 4294967296
    rw [← Nat.mul_assoc, Nat.mul_comm (s / 4294967296) P, Nat.mul_assoc, ← Nat.mul_add]
    congr 1
    omega
  have h2 : P * s = P * z + P * (x * y) + P * c := by rw [hs, Nat.mul_add, Nat.mul_add]
  omega
theorem inN_val {a b : List Nat} {i : Nat} {out : List Nat} (ha : Eight a) (hb : Eight b) (ho : Eight out) : ∀ k, i + k ≤ 8 →
    valB 4294967296 (inN a b i out k).1 + (inN a b i out k).2 * 4294967296 ^ (i + k) = valB 4294967296 out + g0 a i * valB 4294967296 (b.take k) * 4294967296 ^ i
  | 0, _ => by simp [inN, valB]
  | k + 1, h => by
    have ih := inN_val ha hb ho (i := i) k (by omega)
    have hok := (inN_ok (i := i) ha hb ho k).1.1
    have hset := valB_setW 4294967296 (inN a b i out k).1 (i + k) ((g0 (inN a b i out k).1 (i + k) + g0 a i * g0 b k + (inN a b i out k).2) % 4294967296) (by omega)
    have hst := in_step hset rfl
    show valB 4294967296 ((inN a b i out k).1.set (i + k) _) + (g0 (inN a b i out k).1 (i + k) + g0 a i * g0 b k + (inN a b i out k).2) / 4294967296 * 4294967296 ^ (i + k + 1) = _
    rw [Nat.pow_succ, hst, val_take_succ k (by rw [hb.1]; omega), Nat.mul_comm (4294967296 ^ (i + k)) (inN a b i out k).2, ih, Nat.mul_add, Nat.add_mul, Nat.pow_add]
    generalize 4294967296 ^ i = Q
    generalize 4294967296 ^ k = R
    rw [Nat.add_assoc]
    congr 2
    ac_rfl
theorem outN_val {a b : List Nat} (ha : Eight a) (hb : Eight b) : ∀ i, i ≤ 8 → ∃ m, valB 4294967296 (outN a b i) + m * 4294967296 ^ 8 = valB 4294967296 (a.take i) * valB 4294967296 b
  | 0, _ => ⟨0, by simp [outN, valB]⟩
  | i + 1, h => by
    obtain ⟨m, hm⟩ := outN_val ha hb i (by omega)
    have hin := inN_val ha hb (outN_ok ha hb i) (i := i) (8 - i) (by omega)
    have hb2 := valB_append 4294967296 (b.take (8 - i)) (b.drop (8 - i))
    rw [List.take_append_drop, List.length_take, hb.1, Nat.min_eq_left (by omega)] at hb2
    have hP : 4294967296 ^ 8 = 4294967296 ^ (8 - i) * 4294967296 ^ i := by rw [← Nat.pow_add]; congr 1; omega
    rw [show i + (8 - i) = 8 by omega] at hin
    refine ⟨(inN a b i (outN a b i) (8 - i)).2 + m + g0 a i * valB 4294967296 (b.drop (8 - i)), ?_⟩
    show valB 4294967296 (inN a b i (outN a b i) (8 - i)).1 + _ = _
    have e0 : (valB 4294967296 (a.take i) + 4294967296 ^ i * g0 a i) * valB 4294967296 b = valB 4294967296 (a.take i) * valB 4294967296 b + 4294967296 ^ i * g0 a i * valB 4294967296 b := Nat.add_mul _ _ _
    have e1 : ((inN a b i (outN a b i) (8 - i)).2 + m + g0 a i * valB 4294967296 (b.drop (8 - i))) * 4294967296 ^ 8 = (inN a b i (outN a b i) (8 - i)).2 * 4294967296 ^ 8 + m * 4294967296 ^ 8 + g0 a i * valB 4294967296 (b.drop (8 - i)) * 4294967296 ^ 8 := by rw [Nat.add_mul, Nat.add_mul]
    rw [val_take_succ (l := a) i (by rw [ha.1]; omega), e0, ← hm, e1]
    have e : 4294967296 ^ i * g0 a i * valB 4294967296 b = g0 a i * valB 4294967296 (b.take (8 - i)) * 4294967296 ^ i + g0 a i * valB 4294967296 (b.drop (8 - i)) * 4294967296 ^ 8 := by
      rw [hP]
      generalize 4294967296 ^ (8 - i) = R at *
      generalize 4294967296 ^ i = Q at *
      rw [hb2, Nat.mul_add]
      congr 1 <;> ac_rfl
    rw [e]
    generalize 4294967296 ^ 8 = M at *
    omega
theorem eight_lt {l : List Nat} (h : Eight l) : valB 4294967296 l < 4294967296 ^ 8 := by
  have := valB_lt (b := 4294967296) (by decide) h.2
  rwa [h.1] at this
theorem productN_val {a b : List Nat} (ha : Eight a) (hb : Eight b) : valB 4294967296 (productN a b) = valB 4294967296 a * valB 4294967296 b % 4294967296 ^ 8 := by
  obtain ⟨m, hm⟩ := outN_val ha hb 8 (Nat.le_refl _)
  rw [List.take_of_length_le (by rw [ha.1]; exact Nat.le_refl _)] at hm
  rw [← hm, Nat.add_mul_mod_self_right]
  exact (Nat.mod_eq_of_lt (eight_lt (productN_ok ha hb))).symm
theorem blt_dec (x y : Nat) : Nat.blt x y = decide (x < y) := by
  rw [Bool.eq_iff_iff, Nat.blt_eq, decide_eq_true_iff]
theorem moreN_val {a b : List Nat} (ha : Eight a) (hb : Eight b) : ∀ j, j ≤ 8 → moreN a b j = Nat.blt (valB 4294967296 (b.take j)) (valB 4294967296 (a.take j))
  | 0, _ => by show false = Nat.blt 0 0; rfl
  | j + 1, h => by
    have ih := moreN_val ha hb j (by omega)
    have la := valB_lt (b := 4294967296) (by decide) (l := a.take j) (fun x hx => ha.2 x (List.mem_of_mem_take hx))
    have lb := valB_lt (b := 4294967296) (by decide) (l := b.take j) (fun x hx => hb.2 x (List.mem_of_mem_take hx))
    rw [List.length_take, ha.1, Nat.min_eq_left (by omega)] at la
    rw [List.length_take, hb.1, Nat.min_eq_left (by omega)] at lb
    rw [val_take_succ (l := a) j (by rw [ha.1]; omega), val_take_succ (l := b) j (by rw [hb.1]; omega), moreN]
    generalize 4294967296 ^ j = P at *
    generalize g0 a j = x at *
    generalize g0 b j = y at *
    split
    · next e =>
      rw [ih, e]
      rw [blt_dec, blt_dec, decide_eq_decide]
      omega
    · next e =>
      rw [blt_dec, decide_eq_decide]
      rcases Nat.lt_or_ge y x with hlt | hge
      · have : P * (y + 1) ≤ P * x := Nat.mul_le_mul_left _ hlt
        rw [Nat.mul_succ] at this
        omega
      · have : P * (x + 1) ≤ P * y := Nat.mul_le_mul_left _ (by omega)
        rw [Nat.mul_succ] at this
        omega
theorem more_val {a b : List Nat} (ha : Eight a) (hb : Eight b) : moreN a b 8 = Nat.blt (valB 4294967296 b) (valB 4294967296 a) := by
  rw [moreN_val ha hb 8 (Nat.le_refl _), List.take_of_length_le (l := a) (by rw [ha.1]; exact Nat.le_refl _), List.take_of_length_le (l := b) (by rw [hb.1]; exact Nat.le_refl _)]
/-- Eight limbs, by computation. -/
def eightB (l : List Nat) : Bool := Nat.beq l.length 8 && l.all fun x => Nat.blt x 4294967296
theorem eight_of_B {l : List Nat} (h : eightB l = true) : Eight l := by
  simp only [eightB, Bool.and_eq_true, List.all_eq_true] at h
  exact ⟨Nat.eq_of_beq_eq_true h.1, fun x hx => by have := h.2 x hx; rw [Nat.blt_eq] at this; exact this⟩
/-- The number's bits, laid so far up. -/
def xV (s : Nat) : Nat → Nat → List Nat → Option (List Nat)
  | 0, _, x => some x
  | f + 1, n, x => bif Nat.beq (n % 2) 1 then (bif eightB (withN x (s + (8 - f))) then xV s f (n / 2) (withN x (s + (8 - f))) else none) else xV s f (n / 2) x
/-- A root's bits, the highest one first. -/
def rV (k X : Nat) : Nat → List Nat → Option (List Nat)
  | 0, r => some r
  | i + 1, r => bif eightB (withN r i) then rV k X i (bif Nat.blt X ((valB 4294967296 (withN r i)) ^ k % 4294967296 ^ 8) then r else withN r i) else none
def fracV (n k bits : Nat) : Option Nat :=
  match xV (k * bits) 9 n (List.replicate 8 0) with
  | none => none
  | some x => match rV k (valB 4294967296 x) (bits + 6) (List.replicate 8 0) with
    | none => none
    | some r => some (bif Nat.beq bits 32 then g0 r 0 else g0 r 0 + 4294967296 * g0 r 1)
def fracsB (k bits m : Nat) : List Nat → List Nat → Bool
  | [], [] => true
  | p :: l, x :: t => (match fracV p k bits with
    | none => false
    | some v => Nat.beq (v % m) x) && fracsB k bits m l t
  | _, _ => false
theorem fracs_at {k bits m : Nat} : ∀ {l t : List Nat}, fracsB k bits m l t = true → ∀ i, i < l.length → ∃ v, fracV (g0 l i) k bits = some v ∧ v % m = g0 t i
  | [], _, _, i, hi => by simp at hi
  | _ :: _, [], h, _, _ => by simp [fracsB] at h
  | p :: l, x :: t, h, 0, _ => by
    simp only [fracsB, Bool.and_eq_true] at h
    show ∃ v, fracV p k bits = some v ∧ v % m = x
    cases e : fracV p k bits with
    | none => rw [e] at h; cases h.1
    | some v => rw [e] at h; exact ⟨v, rfl, Nat.eq_of_beq_eq_true h.1⟩
  | p :: l, x :: t, h, i + 1, hi => by
    simp only [fracsB, Bool.and_eq_true] at h
    exact fracs_at h.2 i (by simpa using hi)

end Go.Proofs.Ytpfdehjllnhllaa
