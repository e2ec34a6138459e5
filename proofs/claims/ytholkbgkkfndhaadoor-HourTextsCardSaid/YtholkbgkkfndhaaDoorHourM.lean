/-
  HOUR: WHAT read TELLS OF A TEXT, AS A FUNCTION OF BYTES; a time's texts are read as that time.
-/
import Derived.Test.YtholkbgkkfndhaaDoorHourE
namespace Go.Proofs.YtholkbgkkfndhaaDoor
open Go.RowKit
set_option maxRecDepth 100000

theorem dig_toNat (n : Nat) : (UInt8.ofNat (48 + n % 10)).toNat = 48 + n % 10 := by
  rw [UInt8.toNat_ofNat']
  omega

theorem pu_pd : ∀ (k n acc : Nat) (rest : List UInt8), (acc + 1) * 10 ^ k ≤ 1000000000000000 → Lib.parseUint10 acc (pdN k n ++ rest) = Lib.parseUint10 (acc * 10 ^ k + n % 10 ^ k) rest
  | 0, n, acc, rest, _ => by simp [pdN, Nat.mod_one]
  | k + 1, n, acc, rest, h => by
    have h1 : (acc + 1) * 10 ^ k * 10 ≤ 1000000000000000 := by
      rw [Nat.mul_assoc, ← Nat.pow_succ]; exact h
    rw [pdN, List.append_assoc, pu_pd k (n / 10) acc _ (by omega)]
    have hm : n / 10 % 10 ^ k < 10 ^ k := Nat.mod_lt _ (Nat.pow_pos (by decide))
    have hx : acc * 10 ^ k + n / 10 % 10 ^ k < (acc + 1) * 10 ^ k := by rw [Nat.add_mul, Nat.one_mul]; omega
    have he : (acc * 10 ^ k + n / 10 % 10 ^ k) * 10 + n % 10 = acc * 10 ^ (k + 1) + n % 10 ^ (k + 1) := by
      rw [Nat.pow_succ, Nat.mul_comm (10 ^ k) 10, Nat.mod_mul, Nat.add_mul, Nat.mul_comm 10 (10 ^ k), ← Nat.mul_assoc]
      omega
    rw [← he]
    generalize acc * 10 ^ k + n / 10 % 10 ^ k = x at *
    show Lib.parseUint10 x (UInt8.ofNat (48 + n % 10) :: rest) = _
    rw [Lib.parseUint10, dig_toNat, if_pos (by omega), if_neg (by omega), if_neg (by omega), show 48 + n % 10 - 48 = n % 10 by omega]

theorem pd_head : ∀ (k n : Nat), ∃ c r, pdN (k + 1) n = c :: r ∧ 48 ≤ c.toNat ∧ c.toNat ≤ 57
  | 0, n => ⟨_, [], rfl, by rw [dig_toNat]; omega⟩
  | k + 1, n => by
    obtain ⟨c, r, h, hc⟩ := pd_head k (n / 10)
    exact ⟨c, _, by rw [pdN, h]; rfl, hc⟩

theorem atoi_pd (k n : Nat) (hk : k < 10) (h : n < 10 ^ (k + 1)) : atoiR (pdN (k + 1) n) = ((n : Int), true) := by
  obtain ⟨c, r, hl, h1, h2⟩ := pd_head k n
  have hp : Lib.parseUint10 0 (pdN (k + 1) n) = .ok n := by
    have := pu_pd (k + 1) n 0 [] (by
      rw [Nat.zero_add, Nat.one_mul]
      exact Nat.le_trans (Nat.pow_le_pow_right (by decide) (show k + 1 ≤ 10 by omega)) (by decide))
    rw [List.append_nil, Nat.zero_mul, Nat.zero_add, Nat.mod_eq_of_lt h] at this
    rw [this, Lib.parseUint10]
  have hn : n < 10000000000 := Nat.lt_of_lt_of_le h (Nat.pow_le_pow_right (by decide) (show k + 1 ≤ 10 by omega))
  have hall : Lib.atoiAll (pdN (k + 1) n) = .ok (n : Int) := by
    rw [hl] at hp ⊢
    unfold Lib.atoiAll
    simp only
    rw [if_neg (by omega), Lib.parseMag, if_neg (by simp), hp]
    simp only
    rw [if_neg (by omega), if_neg (by omega), if_neg (by omega)]
  unfold atoiR
  rw [hall]

/-- A year of two digits. -/
def yearR (yd : Nat) (y : Int) : Int := if yd = 2 then (if y < 50 then y + 2000 else y + 1900) else y
def timeV (yd : Nat) (s : List UInt8) : List Int → Int × Bool
  | [y, m, d, h, mi, c] => ((daysR (yearR yd y) m d).1 * 86400000 + h * 3600000 + mi * 60000 + c * 1000 + partsR (s.drop (yd + 10)), decide ((daysR (yearR yd y) m d).2 = 0))
  | _ => (0, false)
/-- What read tells. -/
def readR (yd : Nat) (s : List UInt8) : Int × Bool := if (seqF 6 yd s).all (·.2) then timeV yd s ((seqF 6 yd s).map (·.1)) else (0, false)

theorem seqF_step (k size : Nat) (A B : List UInt8) (h : A.length = size) : seqF (k + 1) size (A ++ B) = atoiR A :: seqF k 2 B := by
  rw [seqF, if_neg (by rw [List.length_append]; omega), List.take_left' h, List.drop_left' h]

theorem parts_frac (r : Nat) (h : r < 1000) : partsR (fracN r ++ [90]) = (r : Int) := by
  have h1 : ((List.range 1000).all fun r => partsR (fracN r ++ [90]) == (r : Int)) = true := by kernel_rfl
  have h2 := List.all_eq_true.1 h1 r (List.mem_range.2 h)
  simpa using h2

/-- The parts of a time. -/
structure Clock (t y m d h mi s r : Nat) : Prop where
  date : IsDate ((t / 86400000 : Nat) : Int) (y : Int) (m : Int) (d : Int)
  eq : t = t / 86400000 * 86400000 + h * 3600000 + mi * 60000 + s * 1000 + r
  bh : h < 24
  bm : mi < 60
  bs : s < 60
  br : r < 1000
  top : t ≤ 253402300799999

theorem clock_of {t : Nat} {l : List UInt8} (h : IsText t l) (ht : t ≤ 253402300799999) : ∃ y m d : Nat, Clock t y m d (t % 86400000 / 3600000) (t % 3600000 / 60000) (t % 60000 / 1000) (t % 1000) ∧ l = textN y m d (t % 86400000 / 3600000) (t % 3600000 / 60000) (t % 60000 / 1000) (t % 1000) := by
  obtain ⟨y, m, d, hd, hl⟩ := h
  exact ⟨y, m, d, ⟨hd, by omega, by omega, by omega, by omega, by omega, ht⟩, hl⟩

theorem Clock.year {t y m d h mi s r : Nat} (c : Clock t y m d h mi s r) : 1970 ≤ y ∧ y ≤ 9999 := by
  obtain ⟨h1, h2, h3, h4, h5, h6⟩ := c.date
  refine ⟨by omega, ?_⟩
  rcases Nat.lt_or_ge y 10000 with h | h
  · omega
  · have a := num_top (y : Int) (by omega)
    have b := (in_year c.date).1
    have := c.top
    omega
theorem Clock.ok {t y m d h mi s r : Nat} (c : Clock t y m d h mi s r) : DateOk (y : Int) (m : Int) (d : Int) := by
  obtain ⟨h1, h2, h3, h4, h5, h6⟩ := c.date
  have := c.year
  exact ⟨h1, by omega, h2, h3, h4, h5⟩
theorem Clock.days {t y m d h mi s r : Nat} (c : Clock t y m d h mi s r) : daysR (y : Int) (m : Int) (d : Int) = (((t / 86400000 : Nat) : Int), 0) := by
  rw [daysR_yes c.ok, c.date.2.2.2.2.2]

theorem Clock.small {t y m d h mi s r : Nat} (c : Clock t y m d h mi s r) : m ≤ 12 ∧ d ≤ 31 := by
  obtain ⟨h1, h2, h3, h4, h5, h6⟩ := c.date
  have := (longN_ge (y : Int) (m : Int)).2
  exact ⟨by omega, by omega⟩

/-- What stands behind the year. -/
def tailN (m d h mi s r : Nat) : List UInt8 := pdN 2 m ++ (pdN 2 d ++ (pdN 2 h ++ (pdN 2 mi ++ (pdN 2 s ++ (fracN r ++ [90])))))
theorem textN_eq (y m d h mi s r : Nat) : textN y m d h mi s r = pdN 4 y ++ tailN m d h mi s r := by
  simp only [textN, tailN, List.append_assoc]
theorem pd_split (y : Nat) : pdN 4 y = pdN 2 (y / 100) ++ pdN 2 y := by
  simp only [pdN, List.nil_append, List.append_assoc, Nat.div_div_eq_div_mul]
theorem pd_mod (y : Nat) : pdN 2 y = pdN 2 (y % 100) := by
  simp only [pdN]
  rw [show y % 100 % 10 = y % 10 by omega, show y % 100 / 10 % 10 = y / 10 % 10 by omega]
theorem text_drop (y m d h mi s r : Nat) : (textN y m d h mi s r).drop 2 = pdN 2 y ++ tailN m d h mi s r := by
  rw [textN_eq, pd_split, List.append_assoc, List.drop_left' (pdN_length 2 _)]

theorem tail_drop (yd y m d h mi s r : Nat) : (pdN yd y ++ tailN m d h mi s r).drop (yd + 10) = fracN r ++ [90] := by
  rw [← List.drop_drop, List.drop_left' (pdN_length _ _)]
  simp only [tailN]
  rw [show 10 = 2 + (2 + (2 + (2 + 2))) from rfl]
  simp only [← List.drop_drop, List.drop_left' (pdN_length 2 _)]

theorem read_tail (yd y t m d h mi s r : Nat) (h1 : 1 ≤ yd) (h2 : yd ≤ 4) (hy : y < 10 ^ yd) {Y : Nat} (c : Clock t Y m d h mi s r) (hY : yearR yd (y : Int) = (Y : Int)) :
    readR yd (pdN yd y ++ tailN m d h mi s r) = ((t : Int), true) := by
  have hs : seqF 6 yd (pdN yd y ++ tailN m d h mi s r) = [((y : Int), true), ((m : Int), true), ((d : Int), true), ((h : Int), true), ((mi : Int), true), ((s : Int), true)] := by
    obtain ⟨k, rfl⟩ : ∃ k, yd = k + 1 := ⟨yd - 1, by omega⟩
    have := c.small
    have := c.bh
    have := c.bm
    have := c.bs
    rw [seqF_step 5 (k + 1) _ _ (pdN_length _ _), atoi_pd k y (by omega) hy]
    simp only [tailN]
    rw [seqF_step 4 2 _ _ (pdN_length _ _), atoi_pd 1 m (by decide) (by omega), seqF_step 3 2 _ _ (pdN_length _ _), atoi_pd 1 d (by decide) (by omega),
      seqF_step 2 2 _ _ (pdN_length _ _), atoi_pd 1 h (by decide) (by omega), seqF_step 1 2 _ _ (pdN_length _ _), atoi_pd 1 mi (by decide) (by omega),
      seqF_step 0 2 _ _ (pdN_length _ _), atoi_pd 1 s (by decide) (by omega)]
    rfl
  unfold readR
  rw [hs]
  simp only [List.all_cons, List.all_nil, Bool.and_self, if_true, List.map_cons, List.map_nil, timeV]
  rw [hY, c.days, tail_drop, parts_frac r c.br]
  have := c.eq
  simp only [decide_true, Prod.mk.injEq, and_true]
  omega

/-- A time's general text is read as it. -/
theorem read_text {t : Nat} {l : List UInt8} (h : IsText t l) (ht : t ≤ 253402300799999) : readR 4 l = ((t : Int), true) := by
  obtain ⟨y, m, d, c, rfl⟩ := clock_of h ht
  rw [textN_eq]
  have := c.year
  exact read_tail 4 y t m d _ _ _ _ (by decide) (by decide) (by omega) c rfl

/-- A time's short text is read as it. -/
theorem read_short {t : Nat} {l : List UInt8} (h : IsText t l) (ht : ShortOk (t : Int)) : readR 2 (l.drop 2) = ((t : Int), true) := by
  obtain ⟨n, Y, M, D, hn, h1, h2, hd, hy⟩ := ht
  obtain rfl : t = n := by omega
  obtain ⟨y, m, d, c, rfl⟩ := clock_of h h1
  obtain ⟨rfl, _, _⟩ := date_unique hd c.date
  have := c.year
  rw [text_drop, pd_mod]
  refine read_tail 2 (y % 100) t m d _ _ _ _ (by decide) (by decide) (by omega) c ?_
  unfold yearR
  rw [if_pos rfl]
  split <;> omega

end Go.Proofs.YtholkbgkkfndhaaDoor
