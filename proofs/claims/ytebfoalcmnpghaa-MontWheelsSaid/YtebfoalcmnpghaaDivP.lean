/-
  THE GUESS OF A LIMB: ITS STATES, BY THE WINDOW AND THE DIVISOR. No walk stands here.
-/
import Derived.Test.YtebfoalcmnpghaaDivO
namespace Go.Proofs.Ytebfoalcmnpghaa
open Go.RowKit

theorem val_cut1 (l : List Nat) (k : Nat) (h : l.length = k + 1) : val32 l = val32 (l.take k) + 4294967296 ^ k * (l[k]?.getD 0) := by
  have := valB_succ (b := 4294967296) l k
  rwa [List.take_of_length_le (by omega)] at this
theorem val_cut2 (l : List Nat) (k : Nat) (h : l.length = k + 2) : val32 l = val32 (l.take k) + 4294967296 ^ k * (l[k + 1]?.getD 0 * 4294967296 + l[k]?.getD 0) := by
  have h1 := val_cut1 l (k + 1) (by omega)
  have h2 := valB_succ (b := 4294967296) l k
  rw [h1]
  simp only [val32] at *
  rw [h2, Nat.pow_succ, Nat.mul_add, Nat.mul_assoc (4294967296 ^ k) 4294967296, Nat.mul_comm 4294967296 (l[k + 1]?.getD 0)]
  omega
theorem val_cut3 (l : List Nat) (k : Nat) (h : l.length = k + 1 + 2) : val32 l = val32 (l.take k) + 4294967296 ^ k * ((l[k + 1 + 1]?.getD 0 * 4294967296 + l[k + 1]?.getD 0) * 4294967296 + l[k]?.getD 0) := by
  have h1 := val_cut2 l (k + 1) h
  have h2 := valB_succ (b := 4294967296) l k
  rw [h1]
  simp only [val32] at *
  rw [h2, Nat.pow_succ, Nat.mul_add (4294967296 ^ k), Nat.mul_assoc (4294967296 ^ k) 4294967296, Nat.mul_comm 4294967296 (l[k + 1 + 1]?.getD 0 * 4294967296 + l[k + 1]?.getD 0)]
  omega
theorem val_low {l : List Nat} (h : Lim l) (k : Nat) : val32 (l.take k) < 4294967296 ^ k := by
  have h1 := valB_lt (b := 4294967296) (by decide) (l := l.take k) (fun x hx => h x (List.mem_of_mem_take hx))
  exact Nat.lt_of_lt_of_le h1 (Nat.pow_le_pow_right (by decide) (List.length_take_le _ _))
theorem cut_bounds {P t x v : Nat} (hv : v = x + P * t) (hx : x < P) : t * P ≤ v ∧ v < (t + 1) * P := by
  subst hv
  rw [Nat.add_mul, Nat.mul_comm t P]
  omega

theorem nx_lt {d h r x v B : Nat} (hd : r * B + x < d * v) : (d * h + r) * B + x < d * (h * B + v) := by
  rw [Nat.mul_add, ← Nat.mul_assoc, Nat.add_mul]; omega
theorem nx_le {d h r x v B : Nat} (hd : d * v ≤ r * B + x) : d * (h * B + v) ≤ (d * h + r) * B + x := by
  rw [Nat.mul_add, ← Nat.mul_assoc, Nat.add_mul]; omega

/-- What a guess speaks of. -/
structure Guessed (V W : List Nat) (k : Nat) : Prop where
  vlim : Lim V
  wlim : Lim W
  vlen : V.length = k + 1
  wlen : W.length = k + 2
  high : 4294967296 ≤ 2 * (V[k]?.getD 0)
  less : val32 W < 4294967296 * val32 V

/-- The same, of any window. -/
structure GuessW (V W : List Nat) (k : Nat) : Prop where
  vlim : Lim V
  wlim : Lim W
  vlen : V.length = k + 1
  wlen : W.length = k + 2
  high : 4294967296 ≤ 2 * (V[k]?.getD 0)
def LessW (V W : List Nat) : Prop := val32 W < 4294967296 * val32 V
theorem GuessW.with {V W : List Nat} {k : Nat} (h : GuessW V W k) (hl : LessW V W) : Guessed V W k := ⟨h.vlim, h.wlim, h.vlen, h.wlen, h.high, hl⟩
theorem GuessW.pos {V W : List Nat} {k : Nat} (h : GuessW V W k) : 0 < val32 V := by
  have h1 := val_cut1 V k h.vlen
  have h2 := h.high
  have h3 : 4294967296 ^ k * 1 ≤ 4294967296 ^ k * (V[k]?.getD 0) := Nat.mul_le_mul_left _ (by omega)
  have h4 : 0 < 4294967296 ^ k := Nat.pow_pos (by decide)
  omega

def GuessAt (V W : List Nat) (k d r : Nat) : Prop := Guess 4294967296 (W[k + 1]?.getD 0 * 4294967296 + W[k]?.getD 0) (V[k]?.getD 0) (val32 W / val32 V) d r

theorem Guessed.pos {V W : List Nat} {k : Nat} (h : Guessed V W k) : 0 < val32 V := by
  have := h.less
  apply Nat.pos_of_ne_zero
  intro e
  rw [e] at this
  omega
theorem Guessed.quot {V W : List Nat} {k : Nat} (h : Guessed V W k) : val32 W / val32 V * val32 V ≤ val32 W ∧ val32 W < (val32 W / val32 V + 1) * val32 V ∧ val32 W / val32 V < 4294967296 := by
  have h1 := Nat.mod_add_div (val32 W) (val32 V)
  have h2 := Nat.mod_lt (val32 W) h.pos
  rw [Nat.add_mul, Nat.mul_comm (val32 W / val32 V)]
  refine ⟨by omega, by omega, Nat.div_lt_of_lt_mul (by rw [Nat.mul_comm]; exact h.less)⟩
theorem hi_lt {t w B v g P : Nat} (hB : 0 < B) (h1 : t * P ≤ w) (h2 : v < g * P) (h3 : w < B * v) : t < B * g := by
  have h4 : B * v < B * (g * P) := Nat.mul_lt_mul_of_pos_left h2 hB
  rw [← Nat.mul_assoc] at h4
  exact Nat.lt_of_mul_lt_mul_right (Nat.lt_of_le_of_lt h1 (Nat.lt_trans h3 h4))
theorem Guessed.hi {V W : List Nat} {k : Nat} (h : Guessed V W k) : W[k + 1]?.getD 0 ≤ V[k]?.getD 0 := by
  have h1 := (cut_bounds (val_cut2 W k h.wlen) (val_low h.wlim k)).1
  have h2 := (cut_bounds (val_cut1 V k h.vlen) (val_low h.vlim k)).2
  have h3 := h.less
  have h5 := hi_lt (by decide) h1 h2 h3
  omega

theorem guessAt_start {V W : List Nat} {k : Nat} (h : Guessed V W k) : GuessAt V W k ((W[k + 1]?.getD 0 * 4294967296 + W[k]?.getD 0) / (V[k]?.getD 0)) ((W[k + 1]?.getD 0 * 4294967296 + W[k]?.getD 0) % (V[k]?.getD 0)) := by
  have h1 := h.high
  have h2 := lim_get h.vlim k
  refine guess_start (by decide) rfl (lim_get h.wlim k) h.hi h1 h2 ?_
  exact guess_first h.quot.1 (cut_bounds (val_cut2 W k h.wlen) (val_low h.wlim k)).2 (cut_bounds (val_cut1 V k h.vlen) (val_low h.vlim k)).1 (by omega)

theorem GuessAt.step_big {V W : List Nat} {k d r : Nat} (g : GuessAt V W k d r) (h : Guessed V W k) (hr : r < 4294967296) (hd : 4294967296 ≤ d) : GuessAt V W k (d - 1) (r + V[k]?.getD 0) ∧ 0 < d :=
  guess_step g rfl (lim_get h.wlim k) h.hi h.high hr (Nat.lt_of_lt_of_le h.quot.2.2 hd)

theorem GuessAt.step_next {V W : List Nat} {j d r : Nat} (g : GuessAt V W (j + 1) d r) (h : Guessed V W (j + 1)) (hr : r < 4294967296) (hd : r * 4294967296 + W[j]?.getD 0 < d * (V[j]?.getD 0)) : GuessAt V W (j + 1) (d - 1) (r + V[j + 1]?.getD 0) ∧ 0 < d := by
  have e := Guess.eq g
  refine guess_step g rfl (lim_get h.wlim _) h.hi h.high hr ?_
  have c1 := (cut_bounds (val_cut3 W j h.wlen) (val_low h.wlim j)).2
  have c2 := (cut_bounds (val_cut2 V j h.vlen) (val_low h.vlim j)).1
  have c3 := h.quot.1
  generalize 4294967296 ^ j = P at *
  refine guess_less c3 c1 c2 ?_
  rw [← e]
  exact nx_lt hd

/-- The guess is the quotient's limb, or one more. -/
def GuessIs (V W : List Nat) (d : Nat) : Prop := val32 W / val32 V ≤ d ∧ d ≤ val32 W / val32 V + 1 ∧ d < 4294967296

theorem GuessAt.end_one {V W : List Nat} {d r : Nat} (g : GuessAt V W 0 d r) (h : Guessed V W 0) (hd : d < 4294967296) : GuessIs V W d := by
  have e := Guess.eq g
  refine ⟨g.ge, ?_, hd⟩
  have h1 := (cut_bounds (val_cut2 W 0 h.wlen) (val_low h.wlim 0)).1
  have h2 := val_cut1 V 0 h.vlen
  rw [Nat.pow_zero, Nat.mul_one] at h1
  rw [Nat.pow_zero, Nat.one_mul, List.take_zero] at h2
  have h3 : val32 V = V[0]?.getD 0 := by rw [h2]; simp [val32, valB]
  have h4 : d ≤ val32 W / val32 V := (Nat.le_div_iff_mul_le h.pos).2 (by rw [h3]; omega)
  omega

theorem GuessAt.end_more {V W : List Nat} {j d r : Nat} (g : GuessAt V W (j + 1) d r) (h : Guessed V W (j + 1)) (hd : d < 4294967296) (hn : d * (V[j]?.getD 0) ≤ r * 4294967296 + W[j]?.getD 0) : GuessIs V W d := by
  have e := Guess.eq g
  refine ⟨g.ge, ?_, hd⟩
  have c1 := (cut_bounds (val_cut3 W j h.wlen) (val_low h.wlim j)).1
  have c2 := (cut_bounds (val_cut2 V j h.vlen) (val_low h.vlim j)).2
  have c3 := h.quot.2.1
  generalize 4294967296 ^ j = P at *
  refine guess_near c3 c1 c2 ?_ ?_
  · rw [← e]
    exact nx_le hn
  · have := h.high
    have h5 : V[j + 1]?.getD 0 * 4294967296 ≥ 4294967296 := Nat.le_mul_of_pos_left _ (by omega)
    omega

theorem GuessAt.end_rest {V W : List Nat} {k d r : Nat} (g : GuessAt V W k d r) (h : Guessed V W k) (hr : 4294967296 ≤ r) : GuessIs V W d := by
  have hd := guess_big g (by decide) hr
  cases k with
  | zero => exact g.end_one h (by omega)
  | succ j =>
    refine g.end_more h (by omega) ?_
    have h1 := lim_get h.vlim j
    have h2 : d * (V[j]?.getD 0) ≤ (4294967296 - 1) * 4294967296 := Nat.mul_le_mul hd (by omega)
    have h3 : 4294967296 * 4294967296 ≤ r * 4294967296 := Nat.mul_le_mul_right _ hr
    have h4 : (4294967296 - 1) * 4294967296 ≤ 4294967296 * 4294967296 := by decide
    omega

end Go.Proofs.Ytebfoalcmnpghaa
