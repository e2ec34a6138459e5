/-
  THE REFERENCE's Mul.
-/
import Derived.Test.YtanimenpkinapaaRef5
namespace Go.Proofs.Ytanimenpkinapaa
open Go.RowKit
namespace rf

theorem OwnQ.made {q : IntKind} {E : TypeId} {B : Nat} {w : World} {g n : Nat} {z : List Value} (h : w.ownsRow B E 1 (.slice (some ⟨g, 0, none⟩) n n) n z) (hz : z = (madeCells (Value.int q 0).cells (n * 1)).toList) : OwnQ q E B w (.slice (some ⟨g, 0, none⟩) n n) (List.replicate n 0) := by
  unfold OwnQ
  rw [← zeros_q, ← hz]
  simpa using h

theorem wpList_make_lc {P : Program} (q : IntKind) (w : World) {ops : Array Oper} {rest : List Oper} {o : Oper} {a : Act} {Q : Exit → Act → World → Prop}
    (hg : o.guard = none) (l c : Operand) (t : TypeId) (hop : o.op = Op.makeSlice t l c)
    (base : Nat) (e : TypeId) (i : TypeInfo) (h1 : P.underlying t = some (.slice e)) (h2 : P.info? e = some i) (h3 : i.zero = some (.int q 0)) (h4 : i.size = 1)
    (kl kc : IntKind) (L C : Int) (m n : Nat) (hl : a.eval l = .int kl L) (hc : a.eval c = .int kc C) (hL : L = (m : Int)) (hC : C = (n : Int)) (hmn : m ≤ n) (b2 : i.bytes * n ≤ 281474976710656) (b3 : n ≤ maxLen) (b4 : base ≤ w.heap.size)
    (hK : ∀ w', OwnQ q e base w' (.slice (some ⟨w.heap.size, 0, none⟩) m n) (List.replicate m 0) → w.grownBy w' none → wpList P ops Q rest (a.put o.dst (.slice (some ⟨w.heap.size, 0, none⟩) m n)) w') :
    wpList P ops Q (o :: rest) a w := by
  refine wpList_plain hg fun K hK' => ?_
  subst hL
  subst hC
  have h63' : (n : Int) ≤ 9223372036854775807 := by
    have h := b3
    simp [maxLen] at h
    omega
  have hb' : (i.bytes : Int) * (n : Int) ≤ 281474976710656 := by
    have h : ((i.bytes * n : Nat) : Int) ≤ 281474976710656 := by omega
    rwa [Int.natCast_mul] at h
  have hr := run_make (P := P) w t e i (.int q 0) h1 h2 h3 kl kc m n (by omega) (by omega) hb' h63'
  simp only [Int.toNat_natCast] at hr
  have hown : OwnQ q e base (w.alloc (.cells (madeCells (Value.int q 0).cells (n * i.size)) e)) (.slice (some ⟨w.heap.size, 0, none⟩) n n) (List.replicate n 0) := by
    rw [h4]
    exact OwnQ.made (World.ownsRow_lit w _ n b4 b3 (size_madeCells _ _)) rfl
  have hup := hown.upto m hmn
  rw [List.take_replicate, Nat.min_eq_left hmn] at hup
  unfold Oper.wp
  simp [execOp, hop, hl, hc, hr, Result.andThen]
  exact hK' _ _ (hK _ hup (World.grownBy_alloc w _ none))

theorem valB_set (b : Nat) : ∀ (l : List Nat) (t d : Nat), t < l.length → valB b (l.set t d) + b ^ t * (l[t]?.getD 0) = valB b l + b ^ t * d
  | [], t, d, h => by simp at h
  | c :: l, 0, d, _ => by simp [valB]; omega
  | c :: l, t + 1, d, h => by
    have := valB_set b l t d (by simpa using h)
    simp only [List.set_cons_succ, valB, List.getElem?_cons_succ, Nat.pow_succ]
    have e1 : b ^ t * b * (l[t]?.getD 0) = b * (b ^ t * (l[t]?.getD 0)) := by rw [Nat.mul_comm (b ^ t) b, Nat.mul_assoc]
    have e2 : b ^ t * b * d = b * (b ^ t * d) := by rw [Nat.mul_comm (b ^ t) b, Nat.mul_assoc]
    have e3 : b * (valB b (l.set t d) + b ^ t * (l[t]?.getD 0)) = b * (valB b l + b ^ t * d) := by rw [this]
    rw [Nat.mul_add, Nat.mul_add] at e3
    omega

theorem getD_set (P : List Nat) (t d s : Nat) (h : t < P.length) : (P.set t d)[s]?.getD 0 = if t = s then d else P[s]?.getD 0 := by
  rw [List.getElem?_set]
  by_cases e : t = s
  · subst e; simp [h]
  · simp [e]

def mulR (x y : Nat) : List Nat × Int := if x < topN ∧ y < topN then cutR32 (x * y) else ([], 20)
theorem mulR_yes {x y : Nat} (h : x < topN ∧ y < topN) : mulR x y = cutR32 (x * y) := if_pos h
theorem mulR_no {x y : Nat} (h : ¬ (x < topN ∧ y < topN)) : mulR x y = ([], 20) := if_neg h

/-- `i` whole rows are in, and of the next one `j` digits. -/
def MulI (A B P : List Nat) (N i j : Nat) : Prop := P.length = N ∧ (∀ t : Nat, P[t]?.getD 0 ≤ 65025 * i + 65025) ∧ (∀ t : Nat, i + j ≤ t → P[t]?.getD 0 ≤ 65025 * i) ∧ valB 256 P = valB 256 (A.take i) * valB 256 B + 256 ^ i * (A[i]?.getD 0) * valB 256 (B.take j)
def MulO (A B P : List Nat) (N i : Nat) : Prop := P.length = N ∧ (∀ t : Nat, P[t]?.getD 0 ≤ 65025 * i) ∧ valB 256 P = valB 256 (A.take i) * valB 256 B

theorem mulO_start (A B : List Nat) (N : Nat) : MulO A B (List.replicate N 0) N 0 := ⟨by simp, fun t => by
  have h : (List.replicate N 0)[t]?.getD 0 = 0 := by
    rw [List.getElem?_replicate]; split <;> rfl
  omega, by rw [valB_zeros, List.take_zero]; simp [valB]⟩
theorem mulI_start {A B P : List Nat} {N i : Nat} (h : MulO A B P N i) : MulI A B P N i 0 := by
  obtain ⟨h1, h2, h3⟩ := h
  refine ⟨h1, fun t => by have := h2 t; omega, fun t _ => h2 t, ?_⟩
  rw [List.take_zero, show valB 256 [] = 0 from rfl, Nat.mul_zero, Nat.add_zero]; exact h3
theorem mulI_end {A B P : List Nat} {N i j : Nat} (h : MulI A B P N i j) (hj : B.length ≤ j) : MulO A B P N (i + 1) := by
  obtain ⟨h1, h2, -, h4⟩ := h
  refine ⟨h1, fun t => by have := h2 t; omega, ?_⟩
  rw [List.take_of_length_le hj] at h4
  rw [h4, valB_succ, Nat.add_mul]
theorem mulI_step {A B P : List Nat} {N i j : Nat} (hA : Byt A) (hB : Byt B) (h : MulI A B P N i j) (hN : i + j < N) (s : Nat) (hs : s = P[i + j]?.getD 0 + A[i]?.getD 0 * B[j]?.getD 0) : MulI A B (P.set (i + j) s) N i (j + 1) := by
  obtain ⟨h1, h2, h3, h4⟩ := h
  have ha := get_lt (by decide) hA i
  have hb := get_lt (by decide) hB j
  have hab : A[i]?.getD 0 * B[j]?.getD 0 ≤ 255 * 255 := Nat.mul_le_mul (by omega) (by omega)
  have hz := h3 (i + j) (Nat.le_refl _)
  have hv := valB_set 256 P (i + j) s (by omega)
  refine ⟨by rw [List.length_set]; exact h1, fun t => ?_, fun t ht => ?_, ?_⟩
  · rw [getD_set _ _ _ _ (by omega)]
    split
    · omega
    · exact h2 t
  · rw [getD_set _ _ _ _ (by omega), if_neg (by omega)]
    exact h3 t (by omega)
  · rw [valB_succ]
    rw [hs, Nat.mul_add] at hv
    rw [Nat.mul_add, ← Nat.add_assoc, ← h4]
    have e : 256 ^ i * (A[i]?.getD 0) * (256 ^ j * (B[j]?.getD 0)) = 256 ^ (i + j) * (A[i]?.getD 0 * (B[j]?.getD 0)) := by
      rw [Nat.pow_add]
      simp only [Nat.mul_assoc, Nat.mul_left_comm]
    rw [e]
    rw [hs]
    omega

/-- Carried up to `k`. -/
def CarI (P : List Nat) (N v M k : Nat) : Prop := P.length = N ∧ valB 256 P = v ∧ (∀ t : Nat, t < k → P[t]?.getD 0 < 256) ∧ (∀ t : Nat, k < t → P[t]?.getD 0 ≤ M) ∧ P[k]?.getD 0 ≤ 2 * M

theorem carI_start {A B P : List Nat} {N i : Nat} (h : MulO A B P N i) (hi : A.length ≤ i) (M : Nat) (hM : 65025 * i ≤ M) : CarI P N (valB 256 A * valB 256 B) M 0 := by
  obtain ⟨h1, h2, h3⟩ := h
  rw [List.take_of_length_le hi] at h3
  exact ⟨h1, h3, fun t ht => by omega, fun t _ => by have := h2 t; omega, by have := h2 0; omega⟩

theorem carI_step {P : List Nat} {N v M k : Nat} (h : CarI P N v M k) (hk : k + 1 < N) (s u : Nat) (hs : s = P[k + 1]?.getD 0 + P[k]?.getD 0 / 256) (hu : u = P[k]?.getD 0 % 256) : CarI ((P.set (k + 1) s).set k u) N v M (k + 1) := by
  obtain ⟨h1, h2, h3, h4, h5⟩ := h
  have hz := h4 (k + 1) (by omega)
  have v1 := valB_set 256 P (k + 1) s (by omega)
  have v2 := valB_set 256 (P.set (k + 1) s) k u (by rw [List.length_set]; omega)
  rw [getD_set _ _ _ _ (by omega), if_neg (by omega)] at v2
  have hget : ∀ t : Nat, ((P.set (k + 1) s).set k u)[t]?.getD 0 = if k = t then u else if k + 1 = t then s else P[t]?.getD 0 := fun t => by
    rw [getD_set _ _ _ _ (by rw [List.length_set]; omega), getD_set _ _ _ _ (by omega)]
  refine ⟨by simp [h1], ?_, fun t ht => ?_, fun t ht => ?_, ?_⟩
  · rw [← h2]
    rw [Nat.pow_succ] at v1
    generalize 256 ^ k = p at *
    generalize P[k]?.getD 0 = a at *
    generalize P[k + 1]?.getD 0 = b at *
    have e1 : p * 256 * s = p * 256 * b + p * 256 * (a / 256) := by rw [hs, Nat.mul_add]
    have e2 : p * a = p * 256 * (a / 256) + p * u := by rw [hu, Nat.mul_assoc, ← Nat.mul_add]; congr 1; omega
    omega
  · rw [hget]
    by_cases e : k = t
    · rw [if_pos e, hu]; exact Nat.mod_lt _ (by decide)
    · rw [if_neg e, if_neg (by omega)]; exact h3 t (by omega)
  · rw [hget, if_neg (by omega), if_neg (by omega)]; exact h4 t (by omega)
  · rw [hget, if_neg (by omega), if_pos rfl, hs]; omega

theorem carI_end {P : List Nat} {N v M k : Nat} (h : CarI P N v M k) (hk : k + 1 = N) (hv : v < 256 ^ k) : Byt P := by
  obtain ⟨h1, h2, h3, -, -⟩ := h
  intro x hx
  obtain ⟨t, ht, rfl⟩ := List.getElem_of_mem hx
  have e : P[t]?.getD 0 = P[t] := by rw [List.getElem?_eq_getElem ht]; rfl
  rw [← e]
  rcases Nat.lt_or_ge t k with h | h
  · exact h3 t h
  · obtain rfl : t = k := by omega
    have hs := valB_succ (b := 256) P t
    rw [List.take_of_length_le (by omega), h2] at hs
    rcases Nat.eq_zero_or_pos (P[t]?.getD 0) with h0 | h0
    · omega
    · have := Nat.mul_le_mul_left (256 ^ t) h0
      omega

theorem fun_below {B : Nat} {w wr w' : World} (h : Below B w wr) (g : ∀ w0, Below B w0 wr → Below B w0 w') : Below B w w'.drew := (g w h).drew

theorem mul_small {x y a b : Nat} (hx : x < 256 ^ a) (hy : y < 256 ^ b) (c : Nat) : x * y < 256 ^ (a + b + c) := by
  rw [Nat.pow_add, Nat.pow_add]
  have h1 : x * y < 256 ^ a * 256 ^ b := Nat.mul_lt_mul'' hx hy
  exact Nat.lt_of_lt_of_le h1 (Nat.le_mul_of_pos_right _ (Nat.pow_pos (by decide)))

end rf

end Go.Proofs.Ytanimenpkinapaa
