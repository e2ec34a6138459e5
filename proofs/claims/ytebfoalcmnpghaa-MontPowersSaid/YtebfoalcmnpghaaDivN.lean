/-
  LONG DIVISION BY LIMBS: THE STATES OF ITS LOOPS. No walk stands here.
-/
import Derived.Test.YtebfoalcmnpghaaDivM
import Derived.Test.YtebfoalcmnpghaaNatF
namespace Go.Proofs.Ytebfoalcmnpghaa
open Go.RowKit

theorem subD_eq {x y b : Nat} (hx : x < 4294967296) (hy : y < 4294967296) (hb : b ≤ 1) : subD x y b + y + b = x + 4294967296 * subB x y b ∧ subD x y b < 4294967296 ∧ subB x y b ≤ 1 := by
  unfold subD subB at *
  split <;> omega

/-- Take off so many times: behind i limbs of the divisor. -/
structure Taken (V W W' : List Nat) (d i carry borrow : Nat) : Prop where
  len : W'.length = W.length
  lim : Lim W'
  val : val32 (W'.take i) + d * val32 (V.take i) = val32 (W.take i) + 4294967296 ^ i * (carry + borrow)
  rest : ∀ j, i ≤ j → W'[j]?.getD 0 = W[j]?.getD 0
  carry : carry < 4294967296
  borrow : borrow ≤ 1

theorem taken_start {V W : List Nat} {d : Nat} (hW : Lim W) : Taken V W W d 0 0 0 := ⟨rfl, hW, by simp [val32, valB], fun _ _ => rfl, by decide, by decide⟩

theorem take_set_succ (W : List Nat) (i x : Nat) (hi : i < W.length) : (W.set i x).take (i + 1) = W.take i ++ [x] := by
  rw [take_snocN _ _ (by simpa using hi)]
  rw [List.take_set_of_le (Nat.le_refl _)]
  simp [hi]

theorem carry_bound {c d x : Nat} (hc : c < 4294967296) (hd : d < 4294967296) (hx : x < 4294967296) : c + d * x < 4294967296 * 4294967296 ∧ (c + d * x) / 4294967296 < 4294967296 := by
  have h : d * x ≤ (4294967296 - 1) * (4294967296 - 1) := Nat.mul_le_mul (by omega) (by omega)
  have h2 : c + d * x < 4294967296 * 4294967296 := by omega
  exact ⟨h2, Nat.div_lt_of_lt_mul h2⟩

theorem taken_step {V W W' : List Nat} {d i c b : Nat} (h : Taken V W W' d i c b) (hV : Lim V) (hW : Lim W) (hd : d < 4294967296) (hi : i < V.length) (hl : W.length = V.length + 1) :
    Taken V W (W'.set i (subD (W'[i]?.getD 0) ((c + d * (V[i]?.getD 0)) % 4294967296) b)) d (i + 1) ((c + d * (V[i]?.getD 0)) / 4294967296) (subB (W'[i]?.getD 0) ((c + d * (V[i]?.getD 0)) % 4294967296) b) := by
  obtain ⟨h1, h2, h3, h4, h5, h6⟩ := h
  have hwi := h4 i (Nat.le_refl _)
  have hw := lim_get h2 i
  have hv := lim_get hV i
  have hbd := carry_bound h5 hd hv
  have hs := subD_eq (x := W'[i]?.getD 0) (y := (c + d * (V[i]?.getD 0)) % 4294967296) (b := b) hw (Nat.mod_lt _ (by decide)) h6
  have hm := Nat.mod_add_div (c + d * (V[i]?.getD 0)) 4294967296
  refine ⟨by simp [h1], mem_set h2 hs.2.1, ?_, fun j hj => by rw [getD_set _ _ _ _ (by omega), if_neg (by omega)]; exact h4 j (by omega), hbd.2, hs.2.2⟩
  have hval := valB_succ (b := 4294967296) V i
  have hval2 := valB_succ (b := 4294967296) W i
  rw [take_set_succ _ _ _ (by omega)]
  simp only [val32] at *
  rw [valB_snoc, List.length_take, Nat.min_eq_left (by omega), hval, hval2]
  generalize hC : c + d * (V[i]?.getD 0) = C at *
  rw [hwi] at hs ⊢
  generalize hS : subD (W[i]?.getD 0) (C % 4294967296) b = S at *
  generalize hT : subB (W[i]?.getD 0) (C % 4294967296) b = T at *
  generalize hP : 4294967296 ^ i = P at *
  rw [Nat.pow_succ, hP, Nat.mul_add]
  have e1 : d * (P * (V[i]?.getD 0)) = P * (d * (V[i]?.getD 0)) := by rw [Nat.mul_left_comm]
  have e2 : P * c + P * (d * (V[i]?.getD 0)) = P * C := by rw [← Nat.mul_add, hC]
  have e3 : P * S + P * (C % 4294967296) + P * b = P * (W[i]?.getD 0) + P * 4294967296 * T := by
    rw [Nat.mul_assoc, ← Nat.mul_add, ← Nat.mul_add, ← Nat.mul_add, hs.1]
  have e4 : P * (C % 4294967296) + P * 4294967296 * (C / 4294967296) = P * C := by rw [Nat.mul_assoc, ← Nat.mul_add, hm]
  have e5 := h3
  rw [Nat.mul_add] at e5
  rw [Nat.mul_add (P * 4294967296), e1]
  omega

/-- The limb behind the divisor's last. -/
theorem taken_end {V W W' : List Nat} {d c b : Nat} (h : Taken V W W' d V.length c b) (hW : Lim W) (hl : W.length = V.length + 1) :
    let x := W'[V.length]?.getD 0
    val32 (W'.set V.length (subD x c b)) + d * val32 V = val32 W + 4294967296 ^ (V.length + 1) * subB x c b ∧ (W'.set V.length (subD x c b)).length = W.length ∧ Lim (W'.set V.length (subD x c b)) ∧ subB x c b ≤ 1 := by
  intro x
  obtain ⟨h1, h2, h3, h4, h5, h6⟩ := h
  have hwi := h4 V.length (Nat.le_refl _)
  have hw := lim_get h2 V.length
  have hs := subD_eq (x := x) (y := c) (b := b) hw h5 h6
  refine ⟨?_, by simp [h1], mem_set h2 hs.2.1, hs.2.2⟩
  have ha : W'.set V.length (subD x c b) = W'.take V.length ++ [subD x c b] := by
    rw [← take_set_succ _ _ _ (by omega), List.take_of_length_le (by simp; omega)]
  have hb : W = W.take V.length ++ [W[V.length]?.getD 0] := by
    rw [← take_snocN _ _ (by omega), List.take_of_length_le (by omega)]
  have hc : val32 W = val32 (W.take V.length) + 4294967296 ^ V.length * (W[V.length]?.getD 0) := by
    conv => lhs; rw [hb]
    simp only [val32]
    rw [valB_snoc, List.length_take, Nat.min_eq_left (by omega)]
  rw [ha, hc]
  rw [List.take_length] at h3
  simp only [val32] at *
  rw [valB_snoc, List.length_take, Nat.min_eq_left (by omega), Nat.pow_succ]
  have hx : x = W[V.length]?.getD 0 := hwi
  rw [← hx]
  generalize hP : 4294967296 ^ V.length = P at *
  have e3 : P * subD x c b + P * c + P * b = P * x + P * 4294967296 * subB x c b := by
    rw [Nat.mul_assoc, ← Nat.mul_add, ← Nat.mul_add, ← Nat.mul_add, hs.1]
  rw [Nat.mul_add] at h3
  omega

/-- Give back: behind i limbs. -/
structure Back (V W W' : List Nat) (i over : Nat) : Prop where
  len : W'.length = W.length
  lim : Lim W'
  val : val32 (W'.take i) + 4294967296 ^ i * over = val32 (W.take i) + val32 (V.take i)
  rest : ∀ j, i ≤ j → W'[j]?.getD 0 = W[j]?.getD 0
  over : over ≤ 1

theorem back_start {V W : List Nat} (hW : Lim W) : Back V W W 0 0 := ⟨rfl, hW, by simp [val32, valB], fun _ _ => rfl, by decide⟩

theorem back_step {V W W' : List Nat} {i o : Nat} (h : Back V W W' i o) (hV : Lim V) (hi : i < V.length) (hl : W.length = V.length + 1) :
    Back V W (W'.set i ((W'[i]?.getD 0 + V[i]?.getD 0 + o) % 4294967296)) (i + 1) ((W'[i]?.getD 0 + V[i]?.getD 0 + o) / 4294967296) := by
  obtain ⟨h1, h2, h3, h4, h5⟩ := h
  have hwi := h4 i (Nat.le_refl _)
  have hw := lim_get h2 i
  have hv := lim_get hV i
  refine ⟨by simp [h1], mem_set h2 (Nat.mod_lt _ (by decide)), ?_, fun j hj => by rw [getD_set _ _ _ _ (by omega), if_neg (by omega)]; exact h4 j (by omega), by omega⟩
  have hval := valB_succ (b := 4294967296) V i
  have hval2 := valB_succ (b := 4294967296) W i
  rw [take_set_succ _ _ _ (by omega)]
  simp only [val32] at *
  rw [valB_snoc, List.length_take, Nat.min_eq_left (by omega), hval, hval2, hwi]
  have hm := Nat.mod_add_div (W[i]?.getD 0 + V[i]?.getD 0 + o) 4294967296
  generalize hC : W[i]?.getD 0 + V[i]?.getD 0 + o = C at *
  generalize hP : 4294967296 ^ i = P at *
  rw [Nat.pow_succ, hP]
  have e1 : P * (C % 4294967296) + P * 4294967296 * (C / 4294967296) = P * C := by rw [Nat.mul_assoc, ← Nat.mul_add, hm]
  have e2 : P * C = P * (W[i]?.getD 0) + P * (V[i]?.getD 0) + P * o := by rw [← hC, Nat.mul_add, Nat.mul_add]
  omega

/-- The invariant of the places: k of them are left. -/
structure Places (X v q m : Nat) (L Q : List Nat) (k : Nat) : Prop where
  llen : L.length = m + q
  qlen : Q.length = m
  le : k ≤ m
  llim : Lim L
  qlim : Lim Q
  all : X = val32 (L.take (k + q)) + 4294967296 ^ k * (v * val32 (Q.drop k))
  less : val32 ((L.drop k).take q) < v
  zeros : ∀ j, j < k → Q[j]?.getD 0 = 0

/-- A window of the dividend. -/
structure Window (L A W Z : List Nat) (t q : Nat) : Prop where
  eq : L = A ++ (W ++ Z)
  alen : A.length = t
  wlen : W.length = q + 1

theorem window_of {L : List Nat} {t q : Nat} (h : t + q + 1 ≤ L.length) : Window L (L.take t) ((L.drop t).take (q + 1)) (L.drop (t + (q + 1))) t q :=
  ⟨by rw [← List.drop_drop, List.take_append_drop, List.take_append_drop], by simp; omega, by simp; omega⟩

theorem Window.lim {L A W Z : List Nat} {t q : Nat} (h : Window L A W Z t q) (hL : Lim L) : Lim A ∧ Lim W ∧ Lim Z := by
  rw [h.eq] at hL
  exact ⟨fun x hx => hL x (by simp [hx]), fun x hx => hL x (by simp [hx]), fun x hx => hL x (by simp [hx])⟩

theorem Window.get {L A W Z : List Nat} {t q : Nat} (h : Window L A W Z t q) (j : Nat) (hj : j ≤ q) : L[t + j]?.getD 0 = W[j]?.getD 0 := by
  rw [h.eq, List.getElem?_append_right (by rw [h.alen]; omega), h.alen, Nat.add_sub_cancel_left, List.getElem?_append_left (by rw [h.wlen]; omega)]

theorem Window.set {L A W Z : List Nat} {t q : Nat} (h : Window L A W Z t q) (j x : Nat) (hj : j ≤ q) : Window (L.set (t + j) x) A (W.set j x) Z t q :=
  ⟨by rw [h.eq, List.set_append_right _ _ (by rw [h.alen]; omega), h.alen, Nat.add_sub_cancel_left, List.set_append_left _ _ (by rw [h.wlen]; omega)], h.alen, by rw [List.length_set, h.wlen]⟩

theorem Window.of_eq {A W Z : List Nat} {t q : Nat} (ha : A.length = t) (hw : W.length = q + 1) : Window (A ++ (W ++ Z)) A W Z t q := ⟨rfl, ha, hw⟩

theorem Window.take {L A W Z : List Nat} {t q : Nat} (h : Window L A W Z t q) (j : Nat) (hj : j ≤ q + 1) : L.take (t + j) = A ++ W.take j ∧ (L.drop t).take j = W.take j := by
  have hw := h.wlen
  have ha := h.alen
  constructor
  · rw [h.eq, List.take_append, ha, Nat.add_sub_cancel_left, List.take_of_length_le (by omega), List.take_append_of_le_length (by omega)]
  · rw [h.eq, List.drop_append, ha, Nat.sub_self, List.drop_of_length_le (by omega), List.nil_append, List.drop_zero, List.take_append_of_le_length (by omega)]

theorem Places.window {X v q m : Nat} {L Q A W Z : List Nat} {t : Nat} (h : Places X v q m L Q (t + 1)) (hw : Window L A W Z t q) : val32 W < 4294967296 * v := by
  have hL := hw.lim h.llim
  have h1 := h.less
  have h2 : (L.drop (t + 1)).take q = W.drop 1 := by
    have := (hw.take (q + 1) (Nat.le_refl _)).2
    rw [List.take_of_length_le (l := W) (by rw [hw.wlen]; omega)] at this
    rw [← this, List.drop_take, List.drop_drop, Nat.add_sub_cancel]
  rw [h2] at h1
  have hl := hw.wlen
  cases W with
  | nil => simp at hl
  | cons d t' =>
    have hd := hL.2.1 d List.mem_cons_self
    simp only [List.drop_succ_cons, List.drop_zero] at h1
    show d + 4294967296 * valB 4294967296 t' < 4294967296 * v
    have h3 : 4294967296 * (valB 4294967296 t' + 1) ≤ 4294967296 * v := Nat.mul_le_mul_left _ h1
    rw [Nat.mul_add] at h3
    omega

/-- One place more. -/
theorem Places.step {X v q m : Nat} {L Q A W W' Z : List Nat} {t : Nat} (h : Places X v q m L Q (t + 1)) (hw : Window L A W Z t q) (hl : W'.length = q + 1) (hlim : Lim W') (hv : 0 < v) (hval : val32 (W'.take q) = val32 W % v) :
    Places X v q m (A ++ (W' ++ Z)) (Q.set t (val32 W / v)) t := by
  have hlt := h.window hw
  have hL := hw.lim h.llim
  have hw' := Window.of_eq (Z := Z) hw.alen hl
  obtain ⟨h1, h2, h3, h4, h5, h6, h7, h8⟩ := h
  have hz := hw.alen
  have hwl := hw.wlen
  have hq : val32 W / v < 4294967296 := Nat.div_lt_of_lt_mul (by rw [Nat.mul_comm]; exact hlt)
  refine ⟨?_, by simp [h2], by omega, ?_, mem_set h5 hq, ?_, ?_, ?_⟩
  · rw [hw.eq] at h1
    simp only [List.length_append] at h1 ⊢
    omega
  · intro x hx
    simp only [List.mem_append] at hx
    rcases hx with hx | hx | hx
    · exact hL.1 x hx
    · exact hlim x hx
    · exact hL.2.2 x hx
  · rw [(hw'.take q (by omega)).1]
    have e0 : L.take (t + 1 + q) = A ++ W := by
      rw [show t + 1 + q = t + (q + 1) by omega, (hw.take (q + 1) (Nat.le_refl _)).1, List.take_of_length_le (by omega)]
    rw [e0] at h6
    have e1 : (Q.set t (val32 W / v)).drop t = val32 W / v :: Q.drop (t + 1) := by
      rw [List.drop_set, if_neg (by omega), Nat.sub_self, List.drop_eq_getElem_cons (by omega), List.set_cons_zero]
    rw [e1]
    simp only [val32] at *
    rw [valB_append, hz] at h6 ⊢
    rw [hval, h6]
    show _ = _ + 4294967296 ^ t * (v * (valB 4294967296 W / v + 4294967296 * valB 4294967296 (Q.drop (t + 1))))
    have e2 := Nat.mod_add_div (valB 4294967296 W) v
    rw [Nat.pow_succ, Nat.mul_add v, Nat.mul_add (4294967296 ^ t)]
    have e3 : 4294967296 ^ t * 4294967296 * (v * valB 4294967296 (Q.drop (t + 1))) = 4294967296 ^ t * (v * (4294967296 * valB 4294967296 (Q.drop (t + 1)))) := by
      rw [Nat.mul_assoc, Nat.mul_left_comm 4294967296 v]
    have e4 : 4294967296 ^ t * valB 4294967296 W = 4294967296 ^ t * (valB 4294967296 W % v) + 4294967296 ^ t * (v * (valB 4294967296 W / v)) := by rw [← Nat.mul_add, e2]
    rw [e3, e4]
    omega
  · rw [(hw'.take q (by omega)).2, hval]
    exact Nat.mod_lt _ hv
  · intro j hj
    rw [getD_set _ _ _ _ (by omega), if_neg (by omega)]
    exact h8 j (by omega)

theorem Places.fin {X v q m : Nat} {L Q : List Nat} (h : Places X v q m L Q 0) : val32 Q = X / v ∧ val32 (L.take q) = X % v := by
  have h1 := h.all
  have h2 := h.less
  rw [Nat.zero_add, Nat.pow_zero, Nat.one_mul, List.drop_zero] at h1
  rw [List.drop_zero] at h2
  have hv : 0 < v := by omega
  subst h1
  constructor
  · rw [Nat.add_mul_div_left _ _ hv, Nat.div_eq_of_lt h2, Nat.zero_add]
  · rw [Nat.add_mul_mod_self_left, Nat.mod_eq_of_lt h2]

theorem places_start {X v q m : Nat} {L : List Nat} (hL : Lim L) (hl : L.length = m + q) (hX : val32 L = X) (hlt : X < 4294967296 ^ m * v) : Places X v q m L (List.replicate m 0) m := by
  refine ⟨hl, by simp, Nat.le_refl _, hL, fun x hx => by rw [List.eq_of_mem_replicate hx]; decide, ?_, ?_, fun j hj => by simp [hj]⟩
  · rw [List.drop_of_length_le (by simp), List.take_of_length_le (by omega), hX]
    simp [val32, valB]
  · rw [List.take_of_length_le (by simp; omega)]
    simp only [val32] at *
    rw [valB_drop (by decide) hL, hX]
    exact Nat.div_lt_of_lt_mul hlt

/-- What is taken, and maybe given back, leaves the rest. -/
theorem taken_fits {V W W2 : List Nat} {d Q : Nat} (hd : val32 W2 + d * val32 V = val32 W) (hQ : Q = val32 W / val32 V) (hge : Q ≤ d) (hv : 0 < val32 V) : d = Q ∧ val32 W2 = val32 W % val32 V := by
  have h1 : d * val32 V ≤ val32 W := by omega
  have h2 : d ≤ val32 W / val32 V := (Nat.le_div_iff_mul_le hv).2 h1
  obtain rfl : d = Q := by omega
  refine ⟨rfl, ?_⟩
  have h3 := Nat.mod_add_div (val32 W) (val32 V)
  rw [← hQ, Nat.mul_comm] at h3
  omega

theorem taken_over {V W W2 W3 : List Nat} {d Q o q : Nat} (hd : val32 W2 + d * val32 V = val32 W + 4294967296 ^ (q + 1)) (hQ : Q = val32 W / val32 V) (hle : d ≤ Q + 1) (hv : 0 < val32 V) (hW2 : Lim W2) (hl2 : W2.length = q + 1) (hW3 : Lim W3) (hVl : val32 V < 4294967296 ^ q) (hl3 : W3.length = q + 1)
    (hb : val32 (W3.take q) + 4294967296 ^ q * o = val32 (W2.take q) + val32 V) : d = Q + 1 ∧ val32 (W3.take q) = val32 W % val32 V := by
  have h1 := valB_lt (b := 4294967296) (by decide) hW2
  rw [hl2] at h1
  have h2 : val32 W / val32 V < d := by
    rw [Nat.div_lt_iff_lt_mul hv]
    simp only [val32] at *
    omega
  have h3 : d = Q + 1 := by omega
  refine ⟨h3, ?_⟩
  have h4 := Nat.mod_add_div (val32 W) (val32 V)
  have h5 : d * val32 V = val32 V * (val32 W / val32 V) + val32 V := by rw [h3, hQ, Nat.add_mul, Nat.mul_comm]; omega
  have h6 : val32 W2 = val32 (W2.take q) + 4294967296 ^ q * (W2[q]?.getD 0) := by
    have := valB_succ (b := 4294967296) W2 q
    rwa [List.take_of_length_le (by omega)] at this
  have h7 : val32 (W3.take q) + 4294967296 ^ q * (o + W2[q]?.getD 0) = val32 W % val32 V + 4294967296 ^ q * 4294967296 := by
    rw [Nat.pow_succ] at hd
    rw [Nat.mul_add]
    omega
  have h8 : (val32 (W3.take q) + 4294967296 ^ q * (o + W2[q]?.getD 0)) % 4294967296 ^ q = (val32 W % val32 V + 4294967296 ^ q * 4294967296) % 4294967296 ^ q := by rw [h7]
  rw [Nat.add_mul_mod_self_left, Nat.add_mul_mod_self_left] at h8
  have h9 := valB_lt (b := 4294967296) (by decide) (l := W3.take q) (fun x hx => hW3 x (List.mem_of_mem_take hx))
  rw [List.length_take, Nat.min_eq_left (by omega)] at h9
  have h10 := Nat.mod_lt (val32 W) hv
  rwa [Nat.mod_eq_of_lt h9, Nat.mod_eq_of_lt (by omega)] at h8

theorem low_window {W : List Nat} {q v : Nat} (hW : Lim W) (hl : W.length = q + 1) (hv : v < 4294967296 ^ q) (hx : val32 W < v) : val32 (W.take q) = val32 W % v := by
  simp only [val32] at *
  rw [valB_take (by decide) hW, Nat.mod_eq_of_lt (by omega), Nat.mod_eq_of_lt hx]

end Go.Proofs.Ytebfoalcmnpghaa
