/-
  OID: A TEXT'S PIECES, AND NUMERALS (pure).
-/
import Derived.Test.YtojphfkiblhhiaaDoorOidC
import Derived.Lib.SplitLaws
import Derived.Lib.ParseIntB
namespace Go.Proofs.YtojphfkiblhhiaaDoor
open Go.RowKit
set_option maxRecDepth 100000

/-! ### pieces -/
def headS (b : UInt8) : List (List UInt8) → List (List UInt8)
  | [] => [[b]]
  | p :: q => (b :: p) :: q
def splitS : List UInt8 → List (List UInt8)
  | [] => [[]]
  | b :: r => if b = 46 then [] :: splitS r else headS b (splitS r)

theorem index_dot (b : UInt8) (l : List UInt8) : Lib.index (b :: l) [46] = if b = 46 then 0 else if Lib.index l [46] == -1 then -1 else Lib.index l [46] + 1 := by
  unfold Lib.index
  by_cases h : b = 46
  · subst h; simp [List.isPrefixOf]
  · rw [if_neg (by simp [List.isPrefixOf, Ne.symm h]), if_neg h]
    cases l <;> simp [Lib.index]

theorem splitK_ne (b : UInt8) (hb : b ≠ 46) : ∀ (k : Nat) (l : List UInt8), Lib.splitK [46] 0 k (b :: l) = headS b (Lib.splitK [46] 0 k l)
  | 0, l => rfl
  | k + 1, l => by
    unfold Lib.splitK
    rw [index_dot, if_neg hb]
    by_cases h : Lib.index l [46] = -1
    · simp [h, headS]
    · have hge := Lib.index_ge l [46]
      obtain ⟨j, hj⟩ : ∃ j : Nat, Lib.index l [46] = j := ⟨(Lib.index l [46]).toNat, by omega⟩
      have h1 : ¬ ((j : Int) == -1) = true := by simp
      have h2 : ¬ (((j : Int) + 1) == -1) = true := by simp <;> omega
      rw [hj, if_neg h1, if_neg h2, if_neg h1]
      have e1 : (((j : Int) + 1).toNat) = j + 1 := by omega
      simp [e1, headS]

theorem splitK_dot (k : Nat) (l : List UInt8) : Lib.splitK [46] 0 (k + 1) (46 :: l) = [] :: Lib.splitK [46] 0 k l := by
  show (if Lib.index (46 :: l) [46] == -1 then _ else _) = _
  rw [index_dot, if_pos rfl]
  simp

theorem splitK_all : ∀ (l : List UInt8), Lib.splitK [46] 0 (l.count 46) l = splitS l
  | [] => rfl
  | b :: l => by
    unfold splitS
    by_cases h : b = 46
    · subst h
      rw [if_pos rfl, List.count_cons_self, splitK_dot, splitK_all l]
    · rw [if_neg h, List.count_cons_of_ne (by simpa using h), splitK_ne b h, splitK_all l]

theorem splitS_clean : ∀ (x : List UInt8), (∀ c ∈ x, c ≠ 46) → splitS x = [x]
  | [], _ => rfl
  | b :: r, h => by
    rw [splitS, if_neg (h b List.mem_cons_self), splitS_clean r fun c hc => h c (List.mem_cons_of_mem _ hc)]
    rfl
theorem splitS_append : ∀ (x t : List UInt8), (∀ c ∈ x, c ≠ 46) → splitS (x ++ 46 :: t) = x :: splitS t
  | [], t, _ => by rw [List.nil_append, splitS, if_pos rfl]
  | b :: r, t, h => by
    rw [List.cons_append, splitS, if_neg (h b List.mem_cons_self), splitS_append r t fun c hc => h c (List.mem_cons_of_mem _ hc)]
    rfl

theorem join_two (x y : List UInt8) (r : List (List UInt8)) : Lib.join (x :: y :: r) [46] = x ++ 46 :: Lib.join (y :: r) [46] := by
  rw [Lib.join_cons, Lib.join_cons]
  simp [Lib.joinTail]

theorem splitS_join : ∀ (x : List UInt8) (r : List (List UInt8)), (∀ p ∈ x :: r, ∀ c ∈ p, c ≠ 46) → splitS (Lib.join (x :: r) [46]) = x :: r
  | x, [], h => by rw [Lib.join_one]; exact splitS_clean x (h x List.mem_cons_self)
  | x, y :: r, h => by
    rw [join_two, splitS_append x _ (h x List.mem_cons_self), splitS_join y r fun p hp => h p (List.mem_cons_of_mem _ hp)]

theorem splitS_some : ∀ (s : List UInt8), splitS s ≠ []
  | [] => by simp [splitS]
  | b :: r => by
    rw [splitS]
    split
    · simp
    · cases h : splitS r <;> simp [headS]

theorem join_head (b : UInt8) (p : List UInt8) (q : List (List UInt8)) : Lib.join ((b :: p) :: q) [46] = b :: Lib.join (p :: q) [46] := by
  rw [Lib.join_cons, Lib.join_cons]
  rfl
theorem join_splitS : ∀ (s : List UInt8), Lib.join (splitS s) [46] = s
  | [] => by rw [splitS, Lib.join_one]
  | b :: r => by
    have ih := join_splitS r
    rw [splitS]
    obtain ⟨p, q, hpq⟩ : ∃ p q, splitS r = p :: q := by
      cases h : splitS r with
      | nil => exact absurd h (splitS_some r)
      | cons p q => exact ⟨p, q, rfl⟩
    rw [hpq] at ih ⊢
    split
    · rename_i hb
      rw [join_two, ih, hb]
      rfl
    · rw [headS, join_head, ih]

/-! ### numerals -/
theorem byte_digit (d : Nat) (h : d < 10) : (UInt8.ofNat (48 + d)).toNat = 48 + d := by
  show (48 + d) % 256 = 48 + d
  omega
theorem dec_step (n : Nat) (h : 10 ≤ n) : Lib.decDigits n = Lib.decDigits (n / 10) ++ [UInt8.ofNat (48 + n % 10)] := by
  conv => lhs; unfold Lib.decDigits
  rw [dif_neg (by omega)]
theorem dec_short (n : Nat) (h : n < 10) : Lib.decDigits n = [UInt8.ofNat (48 + n)] := by
  unfold Lib.decDigits
  rw [dif_pos h]
theorem dec_range (n : Nat) : ∀ c ∈ Lib.decDigits n, 48 ≤ c.toNat ∧ c.toNat ≤ 57 := by
  induction n using Nat.strongRecOn with
  | ind n ih =>
    intro c hc
    by_cases h : n < 10
    · rw [dec_short n h, List.mem_singleton] at hc
      rw [hc, byte_digit n h]
      omega
    · rw [dec_step n (by omega), List.mem_append, List.mem_singleton] at hc
      rcases hc with hc | hc
      · exact ih (n / 10) (by omega) c hc
      · rw [hc, byte_digit _ (by omega)]
        omega
theorem dec_no_dot (n : Nat) : ∀ c ∈ Lib.decDigits n, c ≠ 46 := fun c hc e => by
  have := (dec_range n c hc).1
  rw [e] at this
  exact absurd this (by decide)
theorem dec_some (n : Nat) : Lib.decDigits n ≠ [] := by
  by_cases h : n < 10
  · rw [dec_short n h]; simp
  · rw [dec_step n (by omega)]; simp

theorem parse_append (M : Nat) (c : UInt8) : ∀ (l : List UInt8) (acc a : Nat), Lib.parseUintM M acc l = .ok a → Lib.parseUintM M acc (l ++ [c]) = Lib.parseUintM M a [c]
  | [], acc, a, h => by
    simp only [Lib.parseUintM, Lib.NumEnd.ok.injEq] at h
    rw [h]; rfl
  | b :: l, acc, a, h => by
    rw [List.cons_append, Lib.parseUintM]
    rw [Lib.parseUintM] at h
    split at h
    · rename_i h1
      rw [if_pos h1]
      split at h
      · cases h
      · rename_i h2
        rw [if_neg h2]
        split at h
        · cases h
        · rename_i h3
          rw [if_neg h3]
          exact parse_append M c l _ a h
    · cases h

theorem parse_dec (n : Nat) (h : n < 18446744073709551616) : Lib.parseUintM 18446744073709551615 0 (Lib.decDigits n) = .ok n := by
  induction n using Nat.strongRecOn with
  | ind n ih =>
    by_cases h1 : n < 10
    · rw [dec_short n h1]
      simp only [Lib.parseUintM, byte_digit n h1]
      rw [if_pos (by omega), if_neg (by omega), if_neg (by omega)]
      congr 1
      omega
    · rw [dec_step n (by omega), parse_append _ _ _ _ _ (ih (n / 10) (by omega) (by omega))]
      simp only [Lib.parseUintM, byte_digit (n % 10) (by omega)]
      rw [if_pos (by omega), if_neg (by omega), if_neg (by omega)]
      congr 1
      omega

theorem parse64_dec (n : Nat) (h : n < 18446744073709551616) : Lib.parseUintB 64 (Lib.decDigits n) = .ok n := by
  unfold Lib.parseUintB
  rw [if_neg (dec_some n)]
  exact parse_dec n h

theorem dec_inj {m n : Nat} (hm : m < 18446744073709551616) (hn : n < 18446744073709551616) (h : Lib.decDigits m = Lib.decDigits n) : m = n := by
  have := parse_dec m hm
  rw [h, parse_dec n hn] at this
  cases this
  rfl

theorem map_dec_inj : ∀ (l m : List Nat), (∀ x ∈ l, x < 18446744073709551616) → (∀ x ∈ m, x < 18446744073709551616) → l.map Lib.decDigits = m.map Lib.decDigits → l = m
  | [], [], _, _, _ => rfl
  | [], _ :: _, _, _, h => by simp at h
  | _ :: _, [], _, _, h => by simp at h
  | x :: l, y :: m, hl, hm, h => by
    rw [List.map_cons, List.map_cons, List.cons.injEq] at h
    rw [dec_inj (hl x List.mem_cons_self) (hm y List.mem_cons_self) h.1, map_dec_inj l m (fun z hz => hl z (List.mem_cons_of_mem _ hz)) (fun z hz => hm z (List.mem_cons_of_mem _ hz)) h.2]

/-- A text's pieces are its numerals. -/
theorem split_text (l : List Nat) (h : l ≠ []) : splitS (textO l) = l.map Lib.decDigits := by
  obtain ⟨x, r, rfl⟩ : ∃ x r, l = x :: r := by
    cases l with
    | nil => exact absurd rfl h
    | cons x r => exact ⟨x, r, rfl⟩
  unfold textO
  rw [List.map_cons]
  refine splitS_join _ _ fun p hp => ?_
  rw [← List.map_cons] at hp
  obtain ⟨n, _, rfl⟩ := List.mem_map.1 hp
  exact dec_no_dot n

/-- s is the text of l. -/
def IsTextO (l : List Nat) (s : List UInt8) : Prop := OidOk l ∧ textO l = s
theorem OidOk.some {l : List Nat} (h : OidOk l) : l ≠ [] := fun e => by
  have := h.1
  rw [e] at this
  exact absurd this (by decide)
theorem OidOk.lt {l : List Nat} (h : OidOk l) : ∀ x ∈ l, x < 18446744073709551616 := fun x hx => Nat.lt_trans (h.2.2.1 x hx) (by decide)
theorem IsTextO.unique {l m : List Nat} {s : List UInt8} (h : IsTextO l s) (k : IsTextO m s) : l = m := by
  have h1 := split_text l h.1.some
  have h2 := split_text m k.1.some
  rw [h.2, ← k.2, h2] at h1
  exact (map_dec_inj m l k.1.lt h.1.lt h1).symm

open Classical in
/-- A text's numbers. -/
noncomputable def parseR (s : List UInt8) : List Nat × Int := if h : ∃ l, IsTextO l s then (Classical.choose h, 0) else ([], 140)
theorem parseR_yes {l : List Nat} {s : List UInt8} (h : IsTextO l s) : parseR s = (l, 0) := by
  have hx : ∃ l, IsTextO l s := ⟨l, h⟩
  unfold parseR
  rw [dif_pos hx, (Classical.choose_spec hx).unique h]
theorem parseR_no {s : List UInt8} (h : ∀ l, ¬ IsTextO l s) : parseR s = ([], 140) := by
  unfold parseR
  rw [dif_neg fun ⟨l, k⟩ => h l k]
end Go.Proofs.YtojphfkiblhhiaaDoor
