/-
  HOUR: THE REFERENCE's number AND Short.
-/
import Derived.Test.YtholkbgkkfndhaaDoorHourT3
import Derived.Test.YtholkbgkkfndhaaDoorHourJ
import Derived.Laws.Cover1
namespace Go.Proofs.YtholkbgkkfndhaaDoor
open Go.RowKit
set_option maxRecDepth 100000

theorem run_strH (l : List UInt8) (i : Int) (k : Nat) (c : UInt8) (hi : i = (k : Int)) (h : l[k]? = some c) (W : World) : (Instr.index 9 (.string ⟨l.toArray⟩) (.int .i64 i)).run Tryd.prog W = .ok (.int .u8 (c.toNat : Int)) W := by
  subst hi
  obtain ⟨hlt, hc⟩ := List.getElem?_eq_some_iff.1 h
  have hz : (⟨l.toArray⟩ : ByteArray).size = l.length := by show l.toArray.size = _; rw [List.size_toArray]
  rw [run_index_string _ _ _ _ _ Tryd.underlying9, dif_pos ⟨by omega, by rw [hz]; omega⟩]
  subst hc
  rfl
theorem extractH (s : List UInt8) (i j : Nat) (p : List UInt8) (hp : (s.take j).drop i = p) : (⟨s.toArray⟩ : ByteArray).extract i j = ⟨p.toArray⟩ := by
  subst hp
  have : ((⟨s.toArray⟩ : ByteArray).extract i j).data = ((s.take j).drop i).toArray := by
    rw [ByteArray.data_extract, List.extract_toArray, List.extract_eq_take_drop, List.drop_take]
  cases h : (⟨s.toArray⟩ : ByteArray).extract i j with
  | mk d => rw [h] at this; exact congrArg ByteArray.mk this
theorem run_cutH (s : List UInt8) (i j : Nat) (p : List UInt8) (x y : Int) (hx : x = (i : Int)) (hy : y = (j : Int)) (hij : i ≤ j) (hj : j ≤ s.length) (hp : (s.take j).drop i = p) (W : World) : (Instr.slice 9 (.string ⟨s.toArray⟩) (some (.int .i64 x)) (some (.int .i64 y)) none).run Tryd.prog W = .ok (.string ⟨p.toArray⟩) W := by
  subst hx hy
  have hz : (⟨s.toArray⟩ : ByteArray).size = s.length := by show s.toArray.size = _; rw [List.size_toArray]
  rw [run_slice_string_if (h := Tryd.underlying9), hz, if_pos ⟨by omega, by omega⟩, if_pos ⟨by omega, by omega⟩, Int.toNat_natCast, Int.toNat_natCast, extractH s i j p hp]
theorem run_toH (s : List UInt8) (j : Nat) (p : List UInt8) (y : Int) (hy : y = (j : Int)) (hj : j ≤ s.length) (hp : s.take j = p) (W : World) : (Instr.slice 9 (.string ⟨s.toArray⟩) none (some (.int .i64 y)) none).run Tryd.prog W = .ok (.string ⟨p.toArray⟩) W := by
  subst hy
  have hz : (⟨s.toArray⟩ : ByteArray).size = s.length := by show s.toArray.size = _; rw [List.size_toArray]
  rw [run_slice_string_to_if (h := Tryd.underlying9), hz, if_pos ⟨by omega, by omega⟩, Int.toNat_natCast, extractH s 0 j p (by rw [List.drop_zero]; exact hp)]
theorem run_fromH (s : List UInt8) (i : Nat) (p : List UInt8) (x : Int) (hx : x = (i : Int)) (hi : i ≤ s.length) (hp : s.drop i = p) (W : World) : (Instr.slice 9 (.string ⟨s.toArray⟩) (some (.int .i64 x)) none none).run Tryd.prog W = .ok (.string ⟨p.toArray⟩) W := by
  subst hx
  have hz : (⟨s.toArray⟩ : ByteArray).size = s.length := by show s.toArray.size = _; rw [List.size_toArray]
  rw [run_slice_string_from_if (h := Tryd.underlying9), hz, if_pos ⟨by omega, by omega⟩, Int.toNat_natCast, extractH s i s.length p (by rw [List.take_length]; exact hp)]

/-- How number ends. -/
def RetsNH (s : List UInt8) (e : Ending) : Prop := (DigH s ∧ e = .returned (.int .i64 (valH s : Int))) ∨ (¬ DigH s ∧ e = .returned (.int .i64 (-1)))

set_option maxHeartbeats 1000000 in
theorem refnumber_any (s : List UInt8) (hs : s.length ≤ 14) (w : World) :
    Calls Tryd.prog 29 #[.string ⟨s.toArray⟩] w fun e w' => RetsNH s e ∧ Below w.heap.size w w' := by
  go_enter Tryd.func29, Tryd.ntmps29
  go_wp2_with fail
  go_loopw [3, 4] (fun nv iv wr => ∃ (i m : Nat), iv = .int .i64 (i : Int) ∧ i ≤ s.length ∧ nv = .int .i64 (m : Int) ∧ m < 100000000000000 ∧ Hid (m = valH (s.take i)) ∧ Hid (DigH (s.take i)) ∧ Hid (Below w.heap.size w wr)) (fun _ iv _ => s.length + 1 - (intOf iv).toNat)
  case atStart => exact ⟨0, 0, rfl, by omega, rfl, by omega, Lib.hid rfl, Lib.hid (fun c h => by simp at h), Lib.hid (Below.refl _ _)⟩
  case round =>
    obtain ⟨i, m, rfl, hi, rfl, hm, HM, HD, HB⟩ := hrel
    by_cases hlt : i < s.length
    · obtain ⟨c, hc⟩ : ∃ c, s[i]? = some c := ⟨_, List.getElem?_eq_getElem hlt⟩
      have hx := run_strH s (i : Int) i c rfl hc
      have HC := Lib.hid hc
      clear hc
      have hno : ¬ (48 ≤ c.toNat ∧ c.toNat ≤ 57) → ¬ DigH s := fun h k => h (k c (List.mem_of_getElem? HC.out))
      have hc8 := c.toNat_lt
      rcases (show c.toNat < 48 ∨ (48 ≤ c.toNat ∧ 57 < c.toNat) ∨ (48 ≤ c.toNat ∧ c.toNat ≤ 57) by omega) with h | ⟨h, h'⟩ | ⟨h, h'⟩
      · have HN := Lib.hid (hno (by omega))
        have f1 : decide ((c.toNat : Int) < 48) = true := decide_eq_true (by omega)
        have f2 : decide (c.toNat < 48) = true := decide_eq_true h
        clear hno
        go_wp2
        go_ret
        exact ⟨.inr ⟨HN.out, rfl⟩, HB.out⟩
      · have HN := Lib.hid (hno (by omega))
        have f1 : decide ((c.toNat : Int) < 48) = false := decide_eq_false (by omega)
        have f2 : decide (c.toNat < 48) = false := decide_eq_false (by omega)
        have f3 : decide ((57 : Int) < (c.toNat : Int)) = true := decide_eq_true (by omega)
        have f4 : decide (57 < c.toNat) = true := decide_eq_true h'
        clear hno
        go_wp2
        go_ret
        exact ⟨.inr ⟨HN.out, rfl⟩, HB.out⟩
      · have f1 : decide ((c.toNat : Int) < 48) = false := decide_eq_false (by omega)
        have f2 : decide (c.toNat < 48) = false := decide_eq_false (by omega)
        have f3 : decide ((57 : Int) < (c.toNat : Int)) = false := decide_eq_false (by omega)
        have f4 : decide (57 < c.toNat) = false := decide_eq_false (by omega)
        have hm13 : m < 10000000000000 := by
          have h7 := valH_lt _ HD.out
          rw [← HM.out, List.length_take, Nat.min_eq_left (by omega)] at h7
          exact Nat.lt_of_lt_of_le h7 (Nat.le_trans (Nat.pow_le_pow_right (by decide) (show i ≤ 13 by omega)) (by decide))
        have HT := Lib.hid (show s.take (i + 1) = s.take i ++ [c] by rw [List.take_add_one, HC.out]; rfl)
        have HM2 := Lib.hid (show 10 * m + (c.toNat - 48) = valH (s.take (i + 1)) by rw [HT.out, valH_snoc, ← HM.out])
        have HD2 := Lib.hid (show DigH (s.take (i + 1)) from fun x hx => by
          rw [HT.out, List.mem_append, List.mem_singleton] at hx
          rcases hx with hx | rfl
          · exact HD.out x hx
          · exact ⟨h, h'⟩)
        clear hno
        go_wp2
        go_roundw
        case rel => exact ⟨i + 1, 10 * m + (c.toNat - 48), by go_num, by omega, by congr 1; omega, by omega, HM2, HD2, HB⟩
        case measure => simp [intOf]; omega
    · have hT := Lib.hid (show s.take i = s from List.take_of_length_le (by omega))
      have hM := HM.out
      have hD := HD.out
      rw [hT.out] at hM hD
      have HV := Lib.hid hM
      have HDD := Lib.hid hD
      clear hM hD
      go_wp2
      go_ret
      exact ⟨.inl ⟨HDD.out, by rw [← HV.out]; rfl⟩, HB.out⟩

theorem short_year {n y m d h mi s r : Nat} (c : Clock n y m d h mi s r) (h0 : r = 0) : Op.bytesLess ((textN y m d h mi s r).take 4) [50, 48, 53, 48] = decide (y < 2050) := by
  have hy := c.year
  have e : (textN y m d h mi s r).take 4 = pdN 4 y := by
    rw [textN_eq, List.take_left' (pdN_length 4 y)]
  rw [e, show ([50, 48, 53, 48] : List UInt8) = pdN 4 2050 from rfl]
  exact less_pd 4 y 2050 (by omega) (by decide)

set_option maxHeartbeats 1000000 in
theorem refshort_any (t : Int) (w : World) : Calls Tryd.prog 12 #[.int .i64 t] w fun e w' => RetsShort t e ∧ Below w.heap.size w w' := by
  by_cases ht : 0 ≤ t ∧ t ≤ 253402300799999
  rotate_left
  · have HN := Lib.hid (show ¬ ShortOk t from fun ⟨n, _, _, _, h1, h2, _⟩ => ht ⟨by omega, by omega⟩)
    have HT := Lib.hid ht
    clear ht
    go_enter Tryd.func12, Tryd.ntmps12
    go_wp2_with fail
    refine (refgeneral_no t _ HT.out).mono ?_
    rintro e w1 ⟨rfl, hb⟩
    have HB := Lib.hid hb
    clear hb
    go_wp2
    go_ret2
    exact ⟨.inr ⟨HN.out, rfl⟩, HB.out⟩
  obtain ⟨n, rfl⟩ : ∃ n : Nat, t = (n : Int) := ⟨t.toNat, by omega⟩
  have hn : n ≤ 253402300799999 := by omega
  obtain ⟨r, hr⟩ : ∃ q, n % 1000 = q := ⟨_, rfl⟩
  have e1 : Int.tmod (n : Int) 1000 = (r : Int) := by rw [Int.tmod_eq_emod_of_nonneg (by omega)]; omega
  have HR := Lib.hid hr
  clear hr ht
  by_cases h0 : r = 0
  rotate_left
  · have hbr : ((r : Int) != 0) = true := by simp; omega
    have hbr2 : (r != 0) = true := by simp; omega
    have HN := Lib.hid (show ¬ ShortOk (n : Int) from fun ⟨k, _, _, _, h1, h2, h3, _⟩ => h0 (by
      obtain rfl : n = k := by omega
      rw [← HR.out]; exact h3))
    clear h0
    go_enter Tryd.func12, Tryd.ntmps12
    go_wp2_with fail
    refine (refgeneral_yes n hn _).mono ?_
    rintro e w1 ⟨l, rfl, hl, hb⟩
    have HB := Lib.hid hb
    clear hb hl
    go_wp2
    go_ret2
    exact ⟨.inr ⟨HN.out, rfl⟩, HB.out⟩
  have hbr : ((r : Int) != 0) = false := by simp; omega
  have hbr2 : (r != 0) = false := by simp; omega
  have H0 := Lib.hid (show n % 1000 = 0 by rw [HR.out]; exact h0)
  clear h0
  go_enter Tryd.func12, Tryd.ntmps12
  go_wp2_with fail
  refine (refgeneral_yes n hn _).mono ?_
  rintro e w1 ⟨l, rfl, hl, hb⟩
  have HB := Lib.hid hb
  have HL := Lib.hid hl
  have hlen := (text_length hl).1
  have hc4 := run_toH l 4 _ 4 rfl (by omega) rfl
  have hc2 := run_fromH l 2 _ 2 rfl (by omega) rfl
  obtain ⟨y, m, d, c, hle⟩ := clock_of hl hn
  have hY := short_year c H0.out
  rw [← hle] at hY
  have HD := Lib.hid c.date
  clear hb hl hle c
  generalize hl4 : l.take 4 = l4 at *
  have l4l : l4.length = 4 := by rw [← hl4, List.length_take]; omega
  clear hl4
  by_cases hy : y < 2050
  · have HS := Lib.hid (show ShortOk (n : Int) from ⟨n, y, m, d, rfl, hn, H0.out, HD.out, by omega⟩)
    rw [decide_eq_true hy] at hY
    have hne : (l4 == [50, 48, 53, 48]) = false := beq_eq_false_iff_ne.2 fun e => by rw [e] at hY; exact absurd hY (by decide)
    clear hy
    go_wp2
    go_ret2
    exact ⟨.inl ⟨n, l, rfl, HS.out, HL.out, rfl⟩, HB.out⟩
  · have HN := Lib.hid (show ¬ ShortOk (n : Int) from fun ⟨k, y', m', d', h1, h2, h3, h4, h5⟩ => hy (by
      obtain rfl : n = k := by omega
      have := (date_unique h4 HD.out).1
      omega))
    rw [decide_eq_false hy] at hY
    clear hy
    go_wp2
    go_ret2
    exact ⟨.inr ⟨HN.out, rfl⟩, HB.out⟩
end Go.Proofs.YtholkbgkkfndhaaDoor
