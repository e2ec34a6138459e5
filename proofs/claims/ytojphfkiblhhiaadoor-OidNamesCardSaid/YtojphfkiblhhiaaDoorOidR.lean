/-
  OID: BYTES BY GROUPS, as the reference reads them (pure).
-/
import Derived.Test.YtojphfkiblhhiaaDoorOidT
namespace Go.Proofs.YtojphfkiblhhiaaDoor
open Go.RowKit
set_option maxRecDepth 100000

def stepT (s : List (List Nat) × List Nat) (x : Nat) : List (List Nat) × List Nat := if 128 ≤ x then (s.1, s.2 ++ [x]) else (s.1 ++ [s.2 ++ [x]], [])
def runT (b : List Nat) : List (List Nat) × List Nat := b.foldl stepT ([], [])
theorem runT_snoc (b : List Nat) (x : Nat) : runT (b ++ [x]) = stepT (runT b) x := by
  unfold runT
  rw [List.foldl_append]
  rfl
theorem foldT_big : ∀ (X : List Nat) (G : List (List Nat)) (Y : List Nat), (∀ x ∈ X, 128 ≤ x) → X.foldl stepT (G, Y) = (G, Y ++ X)
  | [], G, Y, _ => by simp
  | x :: X, G, Y, h => by
    rw [List.foldl_cons, stepT, if_pos (h x List.mem_cons_self), foldT_big X G _ fun z hz => h z (List.mem_cons_of_mem _ hz)]
    simp
theorem foldT_form (n : Nat) (G : List (List Nat)) : (formO n).foldl stepT (G, []) = (G ++ [formO n], []) := by
  unfold formO
  rw [List.foldl_append, foldT_big _ _ _ fun x hx => ((bigF_le 9 (n / 128)).2 x hx).1]
  have : ¬ 128 ≤ n % 128 := by omega
  simp [stepT, this]
theorem foldT_forms : ∀ (M : List Nat) (G : List (List Nat)), (M.flatMap formO).foldl stepT (G, []) = (G ++ M.map formO, [])
  | [], G => by simp
  | m :: M, G => by
    rw [List.flatMap_cons, List.foldl_append, foldT_form, foldT_forms M]
    simp
theorem runT_forms (M : List Nat) : runT (M.flatMap formO) = (M.map formO, []) := by
  unfold runT
  rw [foldT_forms]
  simp
theorem foldT_grows : ∀ (b : List Nat) (s : List (List Nat) × List Nat), ∃ r, (b.foldl stepT s).1 = s.1 ++ r
  | [], s => ⟨[], by simp⟩
  | x :: b, s => by
    obtain ⟨r, hr⟩ := foldT_grows b (stepT s x)
    rw [List.foldl_cons, hr]
    unfold stepT
    split
    · exact ⟨r, rfl⟩
    · exact ⟨[s.2 ++ [x]] ++ r, by simp⟩
theorem runT_grows (b c : List Nat) : ∃ r, (runT (b ++ c)).1 = (runT b).1 ++ r := by
  unfold runT
  rw [List.foldl_append]
  exact foldT_grows c _

theorem bigF_head : ∀ (k n : Nat), n < 128 ^ k → n ≠ 0 → ∃ c r, bigF k n = c :: r ∧ c ≠ 128
  | 0, n, h, h0 => absurd (by simpa using h) h0
  | k + 1, n, h, h0 => by
    rw [bigF, if_neg h0]
    by_cases h1 : n / 128 = 0
    · rw [h1, bigF_zero]
      exact ⟨n % 128 + 128, [], rfl, by omega⟩
    · obtain ⟨c, r, e, hc⟩ := bigF_head k (n / 128) (by rw [Nat.pow_succ] at h; omega) h1
      exact ⟨c, r ++ [n % 128 + 128], by rw [e]; rfl, hc⟩
/-- What a form is like. -/
theorem form_like {n : Nat} (hn : n < 9223372036854775808) : (formO n).length ≤ 9 ∧ ∃ c r, formO n = c :: r ∧ c ≠ 128 := by
  have h8 : n / 128 < 128 ^ 8 := by
    rw [show (128 : Nat) ^ 8 = 72057594037927936 from rfl]; omega
  have e : formO n = bigF 8 (n / 128) ++ [n % 128] := by
    show bigF 9 (n / 128) ++ [n % 128] = _
    rw [bigF_more 8 _ h8]
  rw [e]
  refine ⟨by have := (bigF_le 8 (n / 128)).1; rw [List.length_append]; simp; omega, ?_⟩
  by_cases h0 : n / 128 = 0
  · rw [h0, bigF_zero]
    exact ⟨n % 128, [], rfl, by omega⟩
  · obtain ⟨c, r, hb, hc⟩ := bigF_head 8 _ h8 h0
    exact ⟨c, r ++ [n % 128], by rw [hb]; rfl, hc⟩

def valG (g : List Nat) : Nat := g.foldl (fun n x => 128 * n + x % 128) 0
theorem valG_snoc (g : List Nat) (x : Nat) : valG (g ++ [x]) = 128 * valG g + x % 128 := by
  unfold valG
  rw [List.foldl_append]
  rfl
theorem valG_rev : ∀ (r : List Nat), valG r.reverse < 128 ^ r.length
  | [] => by decide
  | x :: r => by
    have ih := valG_rev r
    rw [List.reverse_cons, valG_snoc, List.length_cons, Nat.pow_succ]
    omega
theorem valG_lt (g : List Nat) : valG g < 128 ^ g.length := by
  have := valG_rev g.reverse
  rwa [List.reverse_reverse, List.length_reverse] at this
theorem big_val_rev : ∀ (r : List Nat) (k : Nat), r.length ≤ k → (∀ x ∈ r, 128 ≤ x ∧ x < 256) → r.reverse.head? ≠ some 128 → bigF k (valG r.reverse) = r.reverse ∧ (r ≠ [] → valG r.reverse ≠ 0)
  | [], k, _, _, _ => ⟨bigF_zero k, fun h => absurd rfl h⟩
  | x :: r, 0, h, _, _ => by simp at h
  | x :: r, k + 1, h, hx, hh => by
    have hx0 := hx x List.mem_cons_self
    rw [List.reverse_cons, valG_snoc]
    by_cases h0 : r = []
    · subst h0
      have : x ≠ 128 := fun e => hh (by rw [e]; rfl)
      have hv : valG ([] : List Nat).reverse = 0 := rfl
      rw [hv]
      refine ⟨?_, fun _ => by omega⟩
      rw [bigF, if_neg (by omega), show (128 * 0 + x % 128) / 128 = 0 by omega, bigF_zero]
      show [(128 * 0 + x % 128) % 128 + 128] = [x]
      congr 1
      omega
    · have hr : r.reverse ≠ [] := by simpa using h0
      obtain ⟨c, t, hc⟩ : ∃ c t, r.reverse = c :: t := by
        cases hq : r.reverse with
        | nil => exact absurd hq hr
        | cons c t => exact ⟨c, t, rfl⟩
      obtain ⟨h1, h2⟩ := big_val_rev r k (by simpa using h) (fun z hz => hx z (List.mem_cons_of_mem _ hz)) (by
        rw [List.reverse_cons, hc] at hh
        rw [hc]
        exact hh)
      have h3 := h2 h0
      refine ⟨?_, fun _ => by omega⟩
      rw [bigF, if_neg (by omega), show (128 * valG r.reverse + x % 128) / 128 = valG r.reverse by omega, h1]
      congr 2
      omega
/-- A group that is as it must be is its number's form. -/
theorem group_form {X : List Nat} {c : Nat} (h8 : X.length ≤ 8) (hx : ∀ x ∈ X, 128 ≤ x ∧ x < 256) (hc : c < 128) (hh : (X ++ [c]).head? ≠ some 128) : formO (valG (X ++ [c])) = X ++ [c] ∧ valG (X ++ [c]) < 9223372036854775808 := by
  have h1 := big_val_rev X.reverse 9 (by rw [List.length_reverse]; omega) (fun x hm => hx x (by simpa using hm)) (by
    rw [List.reverse_reverse]
    intro e
    cases X with
    | nil => simp at e
    | cons y Y => exact hh (by simpa using e))
  rw [List.reverse_reverse] at h1
  have hl := valG_lt (X ++ [c])
  refine ⟨?_, Nat.lt_of_lt_of_le hl (Nat.le_trans (Nat.pow_le_pow_right (by decide) (show (X ++ [c]).length ≤ 9 by rw [List.length_append]; simp; omega)) (by decide))⟩
  rw [valG_snoc]
  unfold formO
  rw [show (128 * valG X + c % 128) / 128 = valG X by omega, show (128 * valG X + c % 128) % 128 = c by omega]
  exact congrArg (· ++ [c]) h1.1

theorem form_inj {m n : Nat} (hm : m < 9223372036854775808) (hn : n < 9223372036854775808) (h : formO m = formO n) : m = n := by
  have h1 := fold_form m [0] hm
  rw [h, fold_form n [0] hn] at h1
  have h2 := congrArg Prod.fst h1
  unfold pushO at h2
  simp at h2
  exact h2.symm
theorem forms_inj : ∀ (L M : List Nat), (∀ x ∈ L, x < 9223372036854775808) → (∀ x ∈ M, x < 9223372036854775808) → L.map formO = M.map formO → L = M
  | [], [], _, _, _ => rfl
  | [], _ :: _, _, _, h => by simp at h
  | _ :: _, [], _, _, h => by simp at h
  | x :: L, y :: M, hl, hm, h => by
    rw [List.map_cons, List.map_cons, List.cons.injEq] at h
    rw [form_inj (hl x List.mem_cons_self) (hm y List.mem_cons_self) h.1, forms_inj L M (fun z hz => hl z (List.mem_cons_of_mem _ hz)) (fun z hz => hm z (List.mem_cons_of_mem _ hz)) h.2]

/-- The numbers whose forms an identifier's bytes are. -/
def allO (l : List Nat) : List Nat := (40 * l.getD 0 0 + l.getD 1 0) :: l.drop 2
theorem bytes_all (l : List Nat) : bytesO l = (allO l).flatMap formO := by
  unfold bytesO allO
  rw [List.flatMap_cons]
theorem all_small {l : List Nat} (h : OidOk l) : ∀ x ∈ allO l, x < 9223372036854775808 := by
  intro x hx
  unfold allO at hx
  rw [List.mem_cons] at hx
  rcases hx with rfl | hx
  · exact h.2.2.2.2.2
  · exact h.2.2.1 x (List.mem_of_mem_drop hx)
/-- A first number, parted. -/
def outO (A : List Nat) : List Nat := [min (A.getD 0 0 / 40) 2, A.getD 0 0 - 40 * min (A.getD 0 0 / 40) 2] ++ A.drop 1
theorem out_all {l : List Nat} (h : OidOk l) : outO (allO l) = l := by
  obtain ⟨h1, h2, h3, h4, h5, h6⟩ := h
  unfold outO allO
  conv => rhs; rw [two_up h1]
  generalize l.getD 0 0 = a at *
  generalize l.getD 1 0 = c at *
  simp only [List.getD_cons_zero, List.drop_succ_cons, List.drop_zero, List.cons_append, List.nil_append]
  have : min ((40 * a + c) / 40) 2 = a := by omega
  rw [this]
  congr 2
  omega
theorem all_out {A : List Nat} (h : A ≠ []) : allO (outO A) = A := by
  cases A with
  | nil => exact absurd rfl h
  | cons x A =>
    unfold outO allO
    simp only [List.getD_cons_zero, List.getD_cons_succ, List.drop_succ_cons, List.drop_zero, List.cons_append, List.nil_append]
    congr 1
    omega

/-- What the reference's Read ends with. -/
theorem read_told {b A : List Nat} (hb : runT b = (A.map formO, [])) (he : b = A.flatMap formO) (hs : ∀ x ∈ A, x < 9223372036854775808) (h0 : A ≠ []) : (OidOk (outO A) → readO b = (outO A, 0)) ∧ (¬ OidOk (outO A) → readO b = ([], 140)) := by
  constructor
  · intro h
    have : b = bytesO (outO A) := by rw [bytes_all, all_out h0, he]
    rw [this]
    exact readO_yes h
  · intro h
    rcases readO_cases b with ⟨l, hl, e, -⟩ | ⟨-, e⟩
    · exfalso
      rw [bytes_all] at e
      rw [e, runT_forms] at hb
      have h1 := forms_inj _ _ (all_small hl) hs (congrArg Prod.fst hb)
      rw [← h1, out_all hl] at h
      exact h hl
    · exact e
theorem read_no {b : List Nat} (h : ∀ M : List Nat, (∀ x ∈ M, x < 9223372036854775808) → M ≠ [] → b ≠ M.flatMap formO) : readO b = ([], 140) := by
  rcases readO_cases b with ⟨l, hl, e, -⟩ | ⟨-, e⟩
  · exact absurd (by rw [e, bytes_all]) (h (allO l) (all_small hl) (by unfold allO; simp))
  · exact e
/-- A group that no form is. -/
theorem read_bad {b : List Nat} {i : Nat} {G : List (List Nat)} {g : List Nat} {Y : List Nat} (h : runT (b.take i) = (G ++ [g], Y)) (hg : 9 < g.length ∨ g.head? = some 128) : readO b = ([], 140) := by
  refine read_no fun M hM _ e => ?_
  obtain ⟨r, hr⟩ := runT_grows (b.take i) (b.drop i)
  rw [List.take_append_drop, h, e, runT_forms] at hr
  have hm : g ∈ M.map formO := by
    rw [show M.map formO = G ++ [g] ++ r from hr]; simp
  obtain ⟨m, hm1, rfl⟩ := List.mem_map.1 hm
  obtain ⟨h1, c, t, h2, h3⟩ := form_like (hM m hm1)
  rcases hg with hg | hg
  · omega
  · rw [h2] at hg
    simp at hg
    exact h3 hg
theorem read_left {b : List Nat} {G : List (List Nat)} {Y : List Nat} (h : runT b = (G, Y)) (hy : Y ≠ []) : readO b = ([], 140) := by
  refine read_no fun M _ _ e => ?_
  rw [e, runT_forms] at h
  exact hy (congrArg Prod.snd h).symm
theorem read_empty {b : List Nat} (h : b = []) : readO b = ([], 140) := by
  refine read_no fun M _ hM e => ?_
  rw [h] at e
  have := flat_pos hM
  rw [← e] at this
  simp at this
end Go.Proofs.YtojphfkiblhhiaaDoor
