/-
  NUMBERS BY THEIR DIGITS, THE LOWEST ONE FIRST. No walk stands here.
-/
import Derived.Test.YtpfdehjllnhllaaNum
namespace Go.Proofs.Ytpfdehjllnhllaa
open Go.RowKit

/-- The number that digits to base b are. -/
def valB (b : Nat) : List Nat → Nat
  | [] => 0
  | d :: t => d + b * valB b t

/-- Digits without noughts at the end. -/
def bareN : List Nat → List Nat
  | [] => []
  | d :: t => if bareN t = [] ∧ d = 0 then [] else d :: bareN t

/-- A number's digits. -/
def natB (b n : Nat) : List Nat := if _h : n = 0 ∨ b < 2 then [] else n % b :: natB b (n / b)
termination_by n
decreasing_by exact Nat.div_lt_self (by omega) (by omega)

theorem natB_zero (b : Nat) : natB b 0 = [] := by unfold natB; simp
theorem natB_pos {b n : Nat} (hb : 2 ≤ b) (hn : 0 < n) : natB b n = n % b :: natB b (n / b) := by
  rw [natB]; rw [dif_neg (by omega)]

theorem valB_append (b : Nat) : ∀ l m : List Nat, valB b (l ++ m) = valB b l + b ^ l.length * valB b m
  | [], m => by simp [valB]
  | d :: t, m => by
    simp only [List.cons_append, valB, valB_append b t m, List.length_cons]
    rw [Nat.pow_succ, Nat.mul_add, Nat.add_assoc, ← Nat.mul_assoc, Nat.mul_comm b (b ^ t.length)]

theorem valB_snoc (b : Nat) (l : List Nat) (d : Nat) : valB b (l ++ [d]) = valB b l + b ^ l.length * d := by rw [valB_append]; simp [valB]

theorem valB_lt {b : Nat} (hb : 2 ≤ b) : ∀ {l : List Nat}, (∀ x ∈ l, x < b) → valB b l < b ^ l.length
  | [], _ => by simp [valB]
  | d :: t, h => by
    have h1 := valB_lt hb (l := t) (fun x hx => h x (List.mem_cons_of_mem _ hx))
    have h2 := h d List.mem_cons_self
    simp only [valB, List.length_cons, Nat.pow_succ]
    have h3 : b * (valB b t + 1) ≤ b * b ^ t.length := Nat.mul_le_mul_left _ h1
    rw [Nat.mul_comm (b ^ t.length) b]
    rw [Nat.mul_add] at h3
    omega

theorem natB_val {b : Nat} (hb : 2 ≤ b) (n : Nat) : valB b (natB b n) = n := by
  induction n using Nat.strongRecOn with
  | _ n ih =>
    by_cases hn : n = 0
    · subst hn; rw [natB_zero]; rfl
    · rw [natB_pos hb (by omega), valB, ih _ (Nat.div_lt_self (by omega) (by omega))]
      have := Nat.mod_add_div n b
      omega

theorem natB_digit {b : Nat} (hb : 2 ≤ b) (n : Nat) : ∀ x ∈ natB b n, x < b := by
  induction n using Nat.strongRecOn with
  | _ n ih =>
    by_cases hn : n = 0
    · subst hn; rw [natB_zero]; intro x hx; cases hx
    · rw [natB_pos hb (by omega)]
      intro x hx
      rcases List.mem_cons.1 hx with rfl | hx
      · exact Nat.mod_lt _ (by omega)
      · exact ih _ (Nat.div_lt_self (by omega) (by omega)) x hx

theorem natB_nil {b n : Nat} (hb : 2 ≤ b) : natB b n = [] ↔ n = 0 := by
  constructor
  · intro h
    have := natB_val hb n
    rw [h] at this
    exact this.symm
  · rintro rfl; exact natB_zero b

/-- Digits without noughts at the end are their number's. -/
theorem bareN_eq {b : Nat} (hb : 2 ≤ b) : ∀ {l : List Nat}, (∀ x ∈ l, x < b) → bareN l = natB b (valB b l)
  | [], _ => by rw [valB, natB_zero]; rfl
  | d :: t, h => by
    have h1 := bareN_eq hb (l := t) (fun x hx => h x (List.mem_cons_of_mem _ hx))
    have h2 := h d List.mem_cons_self
    unfold bareN
    by_cases hz : bareN t = [] ∧ d = 0
    · rw [if_pos hz]
      have : valB b t = 0 := by rw [h1] at hz; exact (natB_nil hb).1 hz.1
      rw [valB, this, hz.2]
      simp [natB_zero]
    · rw [if_neg hz]
      have hp : 0 < d + b * valB b t := by
        rcases Nat.eq_zero_or_pos d with rfl | h3
        · have : valB b t ≠ 0 := fun e => hz ⟨by rw [h1, e, natB_zero], rfl⟩
          have := Nat.mul_pos (show 0 < b by omega) (Nat.pos_of_ne_zero this)
          omega
        · omega
      rw [valB, natB_pos hb hp, Nat.add_mul_mod_self_left, Nat.mod_eq_of_lt h2, Nat.add_mul_div_left _ _ (by omega), Nat.div_eq_of_lt h2, Nat.zero_add, h1]

theorem bareN_val (b : Nat) : ∀ l : List Nat, valB b (bareN l) = valB b l
  | [] => rfl
  | d :: t => by
    have h1 := bareN_val b t
    unfold bareN
    by_cases hz : bareN t = [] ∧ d = 0
    · rw [if_pos hz]
      rw [hz.1] at h1
      simp only [valB] at h1 ⊢
      rw [← h1, hz.2]
      simp
    · rw [if_neg hz, valB, valB, h1]

theorem bareN_snoc_zero : ∀ l : List Nat, bareN (l ++ [0]) = bareN l
  | [] => by simp [bareN]
  | d :: t => by simp only [List.cons_append, bareN, bareN_snoc_zero t]

theorem bareN_snoc (l : List Nat) (x : Nat) (hx : x ≠ 0) : bareN (l ++ [x]) = l ++ [x] := by
  induction l with
  | nil => simp [bareN, hx]
  | cons d t ih => simp only [List.cons_append, bareN, ih]; simp

theorem take_snocN (l : List Nat) (k : Nat) (hk : k < l.length) : l.take (k + 1) = l.take k ++ [l[k]?.getD 0] := by
  rw [List.take_add_one, List.getElem?_eq_getElem hk]; rfl

theorem bareN_step (l : List Nat) (k : Nat) (hk : k < l.length) : bareN (l.take (k + 1)) = if l[k]?.getD 0 = 0 then bareN (l.take k) else l.take (k + 1) := by
  rw [take_snocN l k hk]
  split
  · next h => rw [h, bareN_snoc_zero]
  · next h => rw [bareN_snoc _ _ h]

theorem bareN_le (l : List Nat) : (bareN l).length ≤ l.length := by
  induction l with
  | nil => simp [bareN]
  | cons d t ih => unfold bareN; split <;> simp <;> omega

theorem bareN_mem {l : List Nat} {x : Nat} (h : x ∈ bareN l) : x ∈ l := by
  induction l with
  | nil => exact h
  | cons d t ih =>
    unfold bareN at h
    split at h
    · cases h
    · rcases List.mem_cons.1 h with rfl | h
      · exact List.mem_cons_self
      · exact List.mem_cons_of_mem _ (ih h)

theorem bareN_prefix (l : List Nat) : bareN l = l.take (bareN l).length := by
  induction l with
  | nil => rfl
  | cons d t ih =>
    rw [bareN]
    split
    · rfl
    · simp only [List.length_cons, List.take_succ_cons]
      rw [← ih]

/-- How many digits a number has. -/
theorem natB_length {b : Nat} (hb : 2 ≤ b) (n k : Nat) : (natB b n).length ≤ k ↔ n < b ^ k := by
  induction k generalizing n with
  | zero =>
    rw [Nat.pow_zero, Nat.le_zero, List.length_eq_zero_iff, natB_nil hb]
    omega
  | succ k ih =>
    rcases Nat.eq_zero_or_pos n with rfl | hn
    · rw [natB_zero]
      have : 0 < b ^ (k + 1) := Nat.pow_pos (by omega)
      simp [this]
    · rw [natB_pos hb hn, List.length_cons, Nat.add_le_add_iff_right, ih, Nat.pow_succ, Nat.div_lt_iff_lt_mul (by omega)]

theorem natB_len_lt {b : Nat} (hb : 2 ≤ b) (n k : Nat) : k < (natB b n).length ↔ b ^ k ≤ n := by
  have := natB_length hb n k
  omega

/-- A digit of a number. -/
theorem natB_get {b : Nat} (hb : 2 ≤ b) (n k : Nat) : (natB b n)[k]?.getD 0 = n / b ^ k % b := by
  induction k generalizing n with
  | zero =>
    rcases Nat.eq_zero_or_pos n with rfl | hn
    · rw [natB_zero]; simp
    · rw [natB_pos hb hn]; simp
  | succ k ih =>
    rcases Nat.eq_zero_or_pos n with rfl | hn
    · rw [natB_zero]; simp
    · rw [natB_pos hb hn, List.getElem?_cons_succ, ih, Nat.pow_succ, Nat.div_div_eq_div_mul, Nat.mul_comm b]

theorem valB_get {b : Nat} (hb : 2 ≤ b) {l : List Nat} (h : ∀ x ∈ l, x < b) (k : Nat) : l[k]?.getD 0 = valB b l / b ^ k % b := by
  induction l generalizing k with
  | nil => simp [valB]
  | cons d t ih =>
    have h2 := h d List.mem_cons_self
    cases k with
    | zero => simp [valB, Nat.mod_eq_of_lt h2]
    | succ k =>
      rw [List.getElem?_cons_succ, ih (fun x hx => h x (List.mem_cons_of_mem _ hx)), valB, Nat.pow_succ, Nat.mul_comm (b ^ k) b, ← Nat.div_div_eq_div_mul, Nat.add_mul_div_left _ _ (by omega), Nat.div_eq_of_lt h2, Nat.zero_add]

theorem valB_take {b : Nat} (hb : 2 ≤ b) {l : List Nat} (h : ∀ x ∈ l, x < b) (k : Nat) : valB b (l.take k) = valB b l % b ^ k := by
  by_cases hk : k ≤ l.length
  · have h1 := valB_append b (l.take k) (l.drop k)
    rw [List.take_append_drop] at h1
    have h2 := valB_lt hb (l := l.take k) (fun x hx => h x (List.mem_of_mem_take hx))
    rw [List.length_take, Nat.min_eq_left hk] at h1 h2
    rw [h1, Nat.add_mul_mod_self_left, Nat.mod_eq_of_lt h2]
  · have h2 := valB_lt hb h
    rw [List.take_of_length_le (by omega), Nat.mod_eq_of_lt]
    exact Nat.lt_of_lt_of_le h2 (Nat.pow_le_pow_right (by omega) (by omega))

theorem valB_drop {b : Nat} (hb : 2 ≤ b) {l : List Nat} (h : ∀ x ∈ l, x < b) (k : Nat) : valB b (l.drop k) = valB b l / b ^ k := by
  by_cases hk : k ≤ l.length
  · have h1 := valB_append b (l.take k) (l.drop k)
    rw [List.take_append_drop] at h1
    have h2 := valB_lt hb (l := l.take k) (fun x hx => h x (List.mem_of_mem_take hx))
    rw [List.length_take, Nat.min_eq_left hk] at h1 h2
    rw [h1, Nat.add_mul_div_left _ _ (Nat.pow_pos (by omega)), Nat.div_eq_of_lt h2, Nat.zero_add]
  · have h2 := valB_lt hb h
    rw [List.drop_eq_nil_of_le (by omega), Nat.div_eq_of_lt]
    · rfl
    · exact Nat.lt_of_lt_of_le h2 (Nat.pow_le_pow_right (by omega) (by omega))

theorem valB_zeros (b k : Nat) : valB b (List.replicate k 0) = 0 := by
  induction k with
  | zero => rfl
  | succ k ih => rw [List.replicate_succ, valB, ih]; rfl

theorem valB_inj {b : Nat} (hb : 2 ≤ b) {l m : List Nat} (hl : ∀ x ∈ l, x < b) (hm : ∀ x ∈ m, x < b) (h : valB b l = valB b m) : bareN l = bareN m := by
  rw [bareN_eq hb hl, bareN_eq hb hm, h]

/-- A natural's number. -/
abbrev val32 (l : List Nat) : Nat := valB 4294967296 l
abbrev nat32 (n : Nat) : List Nat := natB 4294967296 n
abbrev Lim (l : List Nat) : Prop := ∀ x ∈ l, x < 4294967296
/-- The least number that is too great. -/
def topN : Nat := 4294967296 ^ 256
theorem topN_256 : topN = 256 ^ 1024 := by
  have h : ∀ a b c d e : Nat, a = b ^ c → e = c * d → a ^ d = b ^ e := by
    rintro a b c d e rfl rfl
    exact (Nat.pow_mul b c d).symm
  exact h 4294967296 256 4 256 1024 (by decide) (by decide)

/-- A natural, or the error. -/
def cutR32 (n : Nat) : List Nat × Int := if n < topN then (nat32 n, 0) else ([], 20)
theorem cutR_small {n : Nat} (h : n < topN) : cutR32 n = (nat32 n, 0) := if_pos h
theorem cutR_large {n : Nat} (h : ¬ n < topN) : cutR32 n = ([], 20) := if_neg h

theorem cut_iff (l : List Nat) (h : Lim l) : (bareN l).length ≤ 256 ↔ val32 l < topN := by
  rw [bareN_eq (by decide) h, natB_length (by decide)]
  exact Iff.rfl

theorem cut_iff8 (l : List Nat) (h : ∀ x ∈ l, x < 256) : (bareN l).length ≤ 1024 ↔ valB 256 l < topN := by
  rw [bareN_eq (by decide) h, natB_length (by decide), topN_256]

end Go.Proofs.Ytpfdehjllnhllaa
