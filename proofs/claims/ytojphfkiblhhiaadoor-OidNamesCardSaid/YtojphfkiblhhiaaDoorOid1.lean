/-
  OID: NUMBERS' BYTES AS LISTS: a number's form, and how bytes are read. Nothing of the program stands here.
-/
import Derived.Test.YtojphfkiblhhiaaDoorNum
namespace Go.Proofs.YtojphfkiblhhiaaDoor

/-- Which numbers may be. -/
def OidOk (l : List Nat) : Prop := 2 ≤ l.length ∧ l.length ≤ 20 ∧ (∀ x ∈ l, x < 9223372036854775808) ∧ l.getD 0 0 ≤ 2 ∧ (l.getD 0 0 < 2 → l.getD 1 0 < 40) ∧ 40 * l.getD 0 0 + l.getD 1 0 < 9223372036854775808
instance (l : List Nat) : Decidable (OidOk l) := by unfold OidOk; infer_instance

/-- The bytes behind which a number goes on. -/
def bigF : Nat → Nat → List Nat
  | 0, _ => []
  | k + 1, n => if n = 0 then [] else bigF k (n / 128) ++ [n % 128 + 128]
theorem bigF_more : ∀ (k n : Nat), n < 128 ^ k → bigF (k + 1) n = bigF k n
  | 0, n, h => by
    have : n = 0 := by simpa using h
    subst this
    rfl
  | k + 1, n, h => by
    by_cases h0 : n = 0
    · subst h0; rfl
    · rw [bigF, if_neg h0, bigF_more k (n / 128) (by rw [Nat.pow_succ] at h; omega), bigF, if_neg h0]
theorem bigF_zero : ∀ k, bigF k 0 = []
  | 0 => rfl
  | _ + 1 => rfl
theorem bigF_step (k n : Nat) (h0 : n ≠ 0) (h : n < 128 ^ k) : bigF k n = bigF k (n / 128) ++ [n % 128 + 128] := by
  cases k with
  | zero => exact absurd (by simpa using h) h0
  | succ k =>
    rw [bigF_more k (n / 128) (by rw [Nat.pow_succ] at h; omega)]
    exact if_neg h0
abbrev bigO (n : Nat) : List Nat := bigF 9 n
/-- A number's bytes. -/
def formO (n : Nat) : List Nat := bigO (n / 128) ++ [n % 128]

theorem bigF_le : ∀ (k n : Nat), (bigF k n).length ≤ k ∧ ∀ x ∈ bigF k n, 128 ≤ x ∧ x < 256
  | 0, _ => ⟨Nat.le_refl _, fun x hx => by cases hx⟩
  | k + 1, n => by
    unfold bigF
    split
    · exact ⟨by simp, fun x hx => by cases hx⟩
    · obtain ⟨h1, h2⟩ := bigF_le k (n / 128)
      refine ⟨by rw [List.length_append]; simp; exact h1, fun x hx => ?_⟩
      rcases List.mem_append.1 hx with h | h
      · exact h2 x h
      · have := List.mem_singleton.1 h
        omega
theorem formO_len (n : Nat) : 1 ≤ (formO n).length ∧ (formO n).length ≤ 10 := by
  have h : (bigO (n / 128)).length ≤ 9 := (bigF_le 9 (n / 128)).1
  rw [formO, List.length_append]
  simp only [List.length_singleton]
  omega
theorem formO_byt (n : Nat) : ∀ x ∈ formO n, x < 256 := by
  intro x hx
  rcases List.mem_append.1 hx with h | h
  · exact ((bigF_le 9 (n / 128)).2 x h).2
  · have := List.mem_singleton.1 h
    omega

/-! WHAT THE ITERATOR TELLS, AND WHAT IS LAID BEHIND. -/

/-- The groups from place k on, the highest ones first. -/
def sevF (n : Nat) : Nat → List (Nat × Nat)
  | 0 => [(0, n % 128)]
  | k + 1 => (k + 1, n / 128 ^ (k + 1) % 128) :: sevF n k
def sevL (n : Nat) : List (Nat × Nat) := sevF n 8
theorem sevF_length (n : Nat) : ∀ k, (sevF n k).length = k + 1
  | 0 => rfl
  | k + 1 => by rw [sevF, List.length_cons, sevF_length n k]
theorem sevF_small (n : Nat) : ∀ k, ∀ x ∈ sevF n k, x.1 ≤ k ∧ x.2 < 128
  | 0, x, hx => by
    obtain rfl := List.mem_singleton.1 hx
    exact ⟨Nat.le_refl _, Nat.mod_lt _ (by decide)⟩
  | k + 1, x, hx => by
    rcases List.mem_cons.1 hx with rfl | hx
    · exact ⟨Nat.le_refl _, Nat.mod_lt _ (by decide)⟩
    · have := sevF_small n k x hx
      exact ⟨by omega, this.2⟩

def stepO (s : List Nat × Bool) (x : Nat × Nat) : List Nat × Bool :=
  if x.1 = 0 then (s.1 ++ [x.2], s.2) else if s.2 = true ∨ x.2 ≠ 0 then (s.1 ++ [x.2 + 128], true) else (s.1, false)
def runO (pre : List (Nat × Nat)) : List Nat × Bool := pre.foldl stepO ([], false)
theorem runO_snoc (pre : List (Nat × Nat)) (x : Nat × Nat) : runO (pre ++ [x]) = stepO (runO pre) x := by
  unfold runO
  rw [List.foldl_append]
  rfl

theorem fold_sev (n : Nat) (hn : n < 9223372036854775808) : ∀ k, k ≤ 8 → (sevF n k).foldl stepO (bigO (n / 128 ^ (k + 1)), decide (n / 128 ^ (k + 1) ≠ 0)) = (formO n, decide (n / 128 ≠ 0))
  | 0, _ => by
    simp only [sevF, List.foldl_cons, List.foldl_nil, stepO, if_true, Nat.zero_add, Nat.pow_one]
    rfl
  | k + 1, hk => by
    rw [sevF, List.foldl_cons]
    have ih := fold_sev n hn k (by omega)
    rw [← ih]
    congr 1
    have hq : n / 128 ^ (k + 1 + 1) = n / 128 ^ (k + 1) / 128 := by rw [Nat.pow_succ, Nat.div_div_eq_div_mul]
    have hlt : n / 128 ^ (k + 1) < 128 ^ 9 := Nat.lt_of_le_of_lt (Nat.div_le_self _ _) (Nat.lt_of_lt_of_le hn (by decide))
    rw [hq]
    generalize n / 128 ^ (k + 1) = q at *
    unfold stepO
    rw [if_neg (show ¬ k + 1 = 0 by omega)]
    simp only
    by_cases h0 : q = 0
    · subst h0
      simp [bigF_zero]
    · have hc : (decide (q / 128 ≠ 0) = true ∨ q % 128 ≠ 0) := by
        rw [decide_eq_true_eq]
        omega
      rw [if_pos hc, decide_eq_true h0, show bigO q = bigO (q / 128) ++ [q % 128 + 128] from bigF_step 9 q h0 hlt]
theorem runO_sev (n : Nat) (hn : n < 9223372036854775808) : (runO (sevL n)).1 = formO n := by
  have h := fold_sev n hn 8 (Nat.le_refl _)
  have h0 : n / 128 ^ (8 + 1) = 0 := Nat.div_eq_of_lt (Nat.lt_of_lt_of_le hn (by decide))
  have e : ((bigO 0, decide ((0 : Nat) ≠ 0)) : List Nat × Bool) = ([], false) := rfl
  rw [h0, e] at h
  exact congrArg Prod.fst h

theorem runO_len : ∀ (pre : List (Nat × Nat)), (runO pre).1.length ≤ pre.length := by
  have key : ∀ (pre : List (Nat × Nat)) (s : List Nat × Bool), (pre.foldl stepO s).1.length ≤ s.1.length + pre.length := by
    intro pre
    induction pre with
    | nil => intro s; simp
    | cons x r ih =>
      intro s
      rw [List.foldl_cons, List.length_cons]
      refine Nat.le_trans (ih _) ?_
      have : (stepO s x).1.length ≤ s.1.length + 1 := by
        unfold stepO
        split
        · simp
        · split
          · simp
          · simp
      omega
  intro pre
  have := key pre ([], false)
  unfold runO
  simpa using this

/-! BYTES OF NUMBERS, AND HOW THEY ARE READ. -/

def bytesO (l : List Nat) : List Nat := formO (40 * l.getD 0 0 + l.getD 1 0) ++ (l.drop 2).flatMap formO
def pushO (l : List Nat) (n : Nat) : List Nat := if l = [] then [min (n / 40) 2, n - 40 * min (n / 40) 2] else l ++ [n]
def accO (n x : Nat) : Nat := (n * 128 + x % 128) % 18446744073709551616
def stepR (s : List Nat × Nat) (x : Nat) : List Nat × Nat := if 128 ≤ x then (s.1, accO s.2 x) else (pushO s.1 (accO s.2 x), 0)
def runR (b : List Nat) : List Nat × Nat := b.foldl stepR ([], 0)
theorem runR_snoc (b : List Nat) (x : Nat) : runR (b ++ [x]) = stepR (runR b) x := by
  unfold runR
  rw [List.foldl_append]
  rfl

theorem fold_big : ∀ (k n : Nat) (s : List Nat), n < 128 ^ k → n < 144115188075855872 → (bigF k n).foldl stepR (s, 0) = (s, n)
  | 0, n, s, h, _ => by
    have : n = 0 := by simpa using h
    subst this
    rfl
  | k + 1, n, s, h, h2 => by
    unfold bigF
    by_cases h0 : n = 0
    · subst h0; rfl
    · rw [if_neg h0, List.foldl_append, fold_big k (n / 128) s (by rw [Nat.pow_succ] at h; omega) (by omega)]
      simp only [List.foldl_cons, List.foldl_nil, stepR]
      rw [if_pos (by omega), accO, Nat.add_mod_right]
      congr 1
      omega
theorem fold_form (n : Nat) (s : List Nat) (hn : n < 9223372036854775808) : (formO n).foldl stepR (s, 0) = (pushO s n, 0) := by
  unfold formO
  rw [List.foldl_append, fold_big 9 (n / 128) s (Nat.lt_of_lt_of_le (show n / 128 < 144115188075855872 by omega) (by decide)) (by omega)]
  simp only [List.foldl_cons, List.foldl_nil, stepR]
  rw [if_neg (by omega), accO]
  congr 2
  omega
theorem fold_forms : ∀ (m s : List Nat), s ≠ [] → (∀ x ∈ m, x < 9223372036854775808) → (m.flatMap formO).foldl stepR (s, 0) = (s ++ m, 0)
  | [], s, _, _ => by simp
  | x :: r, s, hs, h => by
    rw [List.flatMap_cons, List.foldl_append, fold_form x s (h x List.mem_cons_self), pushO, if_neg hs, fold_forms r (s ++ [x]) (by simp) (fun y hy => h y (List.mem_cons_of_mem _ hy))]
    simp
theorem two_up {l : List Nat} (h : 2 ≤ l.length) : l = l.getD 0 0 :: l.getD 1 0 :: l.drop 2 := by
  match l, h with
  | a :: b :: r, _ => rfl
/-- What may be is read as it was. -/
theorem runR_bytes {l : List Nat} (h : OidOk l) : runR (bytesO l) = (l, 0) := by
  obtain ⟨h1, h2, h3, h4, h5, h6⟩ := h
  unfold runR bytesO
  rw [List.foldl_append, fold_form _ _ h6, pushO, if_pos rfl]
  have hm : min ((40 * l.getD 0 0 + l.getD 1 0) / 40) 2 = l.getD 0 0 := by
    rcases (show l.getD 0 0 < 2 ∨ l.getD 0 0 = 2 by omega) with h | h
    · have := h5 h
      omega
    · omega
  rw [hm, fold_forms _ _ (by simp) (fun x hx => h3 x (List.mem_of_mem_drop hx))]
  have hl := two_up h1
  have hs : 40 * l.getD 0 0 + l.getD 1 0 - 40 * l.getD 0 0 = l.getD 1 0 := by omega
  rw [hs]
  congr 1
  exact hl.symm
theorem bytesO_inj {l m : List Nat} (h : OidOk l) (g : OidOk m) (e : bytesO l = bytesO m) : l = m := by
  have h1 := runR_bytes h
  rw [e, runR_bytes g] at h1
  exact (congrArg Prod.fst h1).symm

/-- How Read ends. -/
def readO (b : List Nat) : List Nat × Int := if OidOk (runR b).1 ∧ bytesO (runR b).1 = b then ((runR b).1, 0) else ([], 140)
theorem readO_yes {l : List Nat} (h : OidOk l) : readO (bytesO l) = (l, 0) := by
  unfold readO
  rw [runR_bytes h]
  exact if_pos ⟨h, rfl⟩
theorem readO_cases (b : List Nat) : (∃ l, OidOk l ∧ b = bytesO l ∧ readO b = (l, 0)) ∨ ((∀ l, OidOk l → b ≠ bytesO l) ∧ readO b = ([], 140)) := by
  by_cases h : OidOk (runR b).1 ∧ bytesO (runR b).1 = b
  · exact .inl ⟨_, h.1, h.2.symm, if_pos h⟩
  · refine .inr ⟨fun l hl e => h ?_, if_neg h⟩
    subst e
    rw [runR_bytes hl]
    exact ⟨hl, rfl⟩

/-! MORE: what is laid behind, and what comes ahead. -/

theorem bytesO_snoc {l : List Nat} (h : 2 ≤ l.length) (x : Nat) : bytesO (l ++ [x]) = bytesO l ++ formO x := by
  match l, h with
  | a :: b :: r, _ => simp [bytesO]
theorem bytesO_take {l : List Nat} {k : Nat} (h : 2 ≤ k) : bytesO l = bytesO (l.take k) ++ (l.drop k).flatMap formO := by
  match l, k, h with
  | [], _, _ => simp [bytesO]
  | [a], k + 2, _ => simp [bytesO]
  | a :: b :: r, k + 2, _ =>
    simp only [bytesO, List.take_succ_cons, List.drop_succ_cons, List.drop_zero, List.getD_cons_zero, List.getD_cons_succ, List.append_assoc]
    rw [← List.flatMap_append, List.take_append_drop]
theorem flat_len (l : List Nat) : l.length ≤ (l.flatMap formO).length ∧ (l.flatMap formO).length ≤ 10 * l.length := by
  induction l with
  | nil => simp
  | cons x r ih =>
    rw [List.flatMap_cons, List.length_append, List.length_cons]
    have := formO_len x
    omega
theorem bytesO_len (l : List Nat) : 1 ≤ (bytesO l).length ∧ (bytesO l).length ≤ 10 * l.length + 10 := by
  unfold bytesO
  rw [List.length_append]
  have h1 := formO_len (40 * l.getD 0 0 + l.getD 1 0)
  have h2 := flat_len (l.drop 2)
  rw [List.length_drop] at h2
  omega
theorem bytesO_byt (l : List Nat) : ∀ x ∈ bytesO l, x < 256 := by
  intro x hx
  rcases List.mem_append.1 hx with h | h
  · exact formO_byt _ x h
  · obtain ⟨y, _, hy⟩ := List.mem_flatMap.1 h
    exact formO_byt y x hy
theorem OidOk.take {l : List Nat} (h : OidOk l) {k : Nat} (h2 : 2 ≤ k) : OidOk (l.take k) := by
  obtain ⟨a1, a2, a3, a4, a5, a6⟩ := h
  match l, k, a1, h2 with
  | a :: b :: r, k + 2, _, _ =>
    refine ⟨by simp, ?_, fun x hx => a3 x (List.mem_of_mem_take hx), a4, a5, a6⟩
    rw [List.length_take]
    omega
theorem OidOk.snoc {l : List Nat} (h : OidOk l) (h2 : l.length < 20) {x : Nat} (hx : x < 9223372036854775808) : OidOk (l ++ [x]) := by
  obtain ⟨a1, a2, a3, a4, a5, a6⟩ := h
  match l, a1 with
  | a :: b :: r, _ =>
    refine ⟨by simp, by rw [List.length_append]; simp only [List.length_singleton]; omega, fun y hy => ?_, a4, a5, a6⟩
    rcases List.mem_append.1 hy with h | h
    · exact a3 y h
    · obtain rfl := List.mem_singleton.1 h; exact hx

/-- What was read stays ahead. -/
theorem fold_grows : ∀ (b s : List Nat) (n : Nat), s ≠ [] → ∃ r, (b.foldl stepR (s, n)).1 = s ++ r
  | [], s, n, _ => ⟨[], by simp⟩
  | x :: b, s, n, h => by
    rw [List.foldl_cons]
    by_cases hx : 128 ≤ x
    · have e : stepR (s, n) x = (s, accO n x) := if_pos hx
      rw [e]
      exact fold_grows b s _ h
    · have e : stepR (s, n) x = (s ++ [accO n x], 0) := by rw [stepR, if_neg hx]; simp only; rw [pushO, if_neg h]
      rw [e]
      obtain ⟨r, hr⟩ := fold_grows b (s ++ [accO n x]) 0 (by simp)
      exact ⟨accO n x :: r, by rw [hr]; simp⟩
/-- What one begins with, as bytes, it begins with as numbers. -/
theorem bytesO_pre {l m : List Nat} (h : OidOk l) (g : OidOk m) {r : List Nat} (e : bytesO l = bytesO m ++ r) : m = l.take m.length ∧ m.length ≤ l.length := by
  have h1 := runR_bytes h
  have h2 := runR_bytes g
  unfold runR at h1 h2
  rw [e, List.foldl_append, h2] at h1
  obtain ⟨q, hq⟩ := fold_grows r m 0 (by intro e; rw [e] at g; have := g.1; simp at this)
  rw [h1] at hq
  simp only at hq
  subst hq
  exact ⟨by rw [List.take_left], by rw [List.length_append]; omega⟩

/-! WHAT OidBytes GOES THROUGH. -/

def stepB (s : Bool × Bool) (x : Nat) : Bool × Bool := (decide (x < 128), s.2 && (!s.1 || x != 128))
theorem foldB_big : ∀ (k n : Nat), n < 128 ^ k → (bigF k n).foldl stepB (true, true) = (decide (n = 0), true)
  | 0, n, h => by
    have : n = 0 := by simpa using h
    subst this
    rfl
  | k + 1, n, h => by
    unfold bigF
    by_cases h0 : n = 0
    · subst h0; rfl
    · rw [if_neg h0, List.foldl_append, foldB_big k (n / 128) (by rw [Nat.pow_succ] at h; omega)]
      simp only [List.foldl_cons, List.foldl_nil, stepB, Prod.mk.injEq]
      refine ⟨by simp [h0], ?_⟩
      by_cases h1 : n / 128 = 0
      · have : ¬ n % 128 = 0 := by omega
        simp [h1, this]
      · simp [h1]
theorem foldB_form (n : Nat) (hn : n < 9223372036854775808) : (formO n).foldl stepB (true, true) = (true, true) := by
  unfold formO
  rw [List.foldl_append, foldB_big 9 (n / 128) (Nat.lt_of_lt_of_le (show n / 128 < 144115188075855872 by omega) (by decide))]
  have h1 : n % 128 < 128 := Nat.mod_lt _ (by decide)
  have h2 : n % 128 ≠ 128 := by omega
  simp [stepB, h1, h2]
theorem foldB_bytes {l : List Nat} (h : OidOk l) : (bytesO l).foldl stepB (true, true) = (true, true) := by
  unfold bytesO
  rw [List.foldl_append, foldB_form _ h.2.2.2.2.2]
  have : ∀ m : List Nat, (∀ x ∈ m, x < 9223372036854775808) → (m.flatMap formO).foldl stepB (true, true) = (true, true) := by
    intro m
    induction m with
    | nil => intro _; rfl
    | cons x r ih =>
      intro hm
      rw [List.flatMap_cons, List.foldl_append, foldB_form x (hm x List.mem_cons_self)]
      exact ih fun y hy => hm y (List.mem_cons_of_mem _ hy)
  exact this _ fun x hx => h.2.2.1 x (List.mem_of_mem_drop hx)

end Go.Proofs.YtojphfkiblhhiaaDoor
