/-
  OID: THE REFERENCE's number.
-/
import Derived.Test.YtojphfkiblhhiaaDoorOidK
namespace Go.Proofs.YtojphfkiblhhiaaDoor
open Go.RowKit
set_option maxRecDepth 100000

theorem run_strO (l : List UInt8) (i : Int) (k : Nat) (c : UInt8) (hi : i = (k : Int)) (h : l[k]? = some c) (W : World) : (Instr.index 9 (.string ⟨l.toArray⟩) (.int .i64 i)).run Tryd.prog W = .ok (.int .u8 (c.toNat : Int)) W := by
  subst hi
  obtain ⟨hlt, hc⟩ := List.getElem?_eq_some_iff.1 h
  have hz : (⟨l.toArray⟩ : ByteArray).size = l.length := by show l.toArray.size = _; rw [List.size_toArray]
  rw [run_index_string _ _ _ _ _ Tryd.underlying9, dif_pos ⟨by omega, by rw [hz]; omega⟩]
  subst hc
  rfl

/-- How number ends. -/
def RetsN (w : List UInt8) (e : Ending) : Prop := ∃ (v : Nat) (t : Bool), e = .returned (.tuple #[.int .u64 (v : Int), .bool t]) ∧ ((t = true ∧ SpelD w v) ∨ (t = false ∧ ∀ n, ¬ SpelD w n))

theorem retsN_no {w : List UInt8} (h : ¬ (w ≠ [] ∧ w.length ≤ 19 ∧ (1 < w.length → w[0]? ≠ some 48) ∧ DigD w ∧ valD w < 9223372036854775808)) : ∀ n, ¬ SpelD w n := fun n hn => h ((spelD_iff w).1 ⟨n, hn⟩)

theorem valD_lt : ∀ (r : List UInt8), DigD r.reverse → valD r.reverse < 10 ^ r.length
  | [], _ => by decide
  | c :: r, h => by
    have hc := h c (by simp)
    have ih := valD_lt r fun x hx => h x (by rw [List.reverse_cons]; exact List.mem_append_left _ hx)
    rw [List.reverse_cons, valD_snoc, List.length_cons, Nat.pow_succ]
    omega
theorem valD_lt' (w : List UInt8) (h : DigD w) : valD w < 10 ^ w.length := by
  have := valD_lt w.reverse (by rwa [List.reverse_reverse])
  rwa [List.reverse_reverse, List.length_reverse] at this

set_option maxHeartbeats 1000000 in
theorem number_any (s : List UInt8) (hs : s.length ≤ 1000000) (w : World) :
    Calls Tryd.prog 31 #[.string ⟨s.toArray⟩] w fun e w' => RetsN s e ∧ Below w.heap.size w w' := by
  by_cases h0 : s.length = 0
  · have hno := Lib.hid (retsN_no (w := s) fun k => k.1 (List.eq_nil_of_length_eq_zero h0))
    have hnil := List.eq_nil_of_length_eq_zero h0
    rw [hnil]
    rw [hnil] at hno
    go_enter Tryd.func31, Tryd.ntmps31
    go_wp2
    go_ret2
    exact ⟨⟨0, false, rfl, .inr ⟨rfl, hno.out⟩⟩, Below.refl _ _⟩
  have hne : s ≠ [] := fun e => h0 (by rw [e]; rfl)
  have d0 : ((s.length : Int) == 0) = false := beq_eq_false_iff_ne.2 (by omega)
  have d1 : (s.length == 0) = false := beq_eq_false_iff_ne.2 (by omega)
  by_cases h19 : 19 < s.length
  · have hno := Lib.hid (retsN_no (w := s) fun k => by have := k.2.1; omega)
    have d2 : decide ((19 : Int) < (s.length : Int)) = true := decide_eq_true (by omega)
    have d3 : decide (19 < s.length) = true := decide_eq_true h19
    go_enter Tryd.func31, Tryd.ntmps31
    go_wp2
    go_ret2
    exact ⟨⟨0, false, rfl, .inr ⟨rfl, hno.out⟩⟩, Below.refl _ _⟩
  have d2 : decide ((19 : Int) < (s.length : Int)) = false := decide_eq_false (by omega)
  have d3 : decide (19 < s.length) = false := decide_eq_false h19
  obtain ⟨c0, hc0⟩ : ∃ c, s[0]? = some c := ⟨_, List.getElem?_eq_getElem (by omega)⟩
  have hx0 := run_strO s 0 0 c0 rfl hc0
  by_cases hlead : 1 < s.length ∧ c0.toNat = 48
  · have hno := Lib.hid (retsN_no (w := s) fun k => k.2.2.1 hlead.1 (by rw [hc0]; exact congrArg some (UInt8.toNat_inj.1 hlead.2)))
    have d4 : decide ((1 : Int) < (s.length : Int)) = true := decide_eq_true (by omega)
    have d5 : decide (1 < s.length) = true := decide_eq_true hlead.1
    have d6 : ((c0.toNat : Int) == 48) = true := beq_iff_eq.2 (by omega)
    have d7 : (c0.toNat == 48) = true := beq_iff_eq.2 hlead.2
    clear hlead
    go_enter Tryd.func31, Tryd.ntmps31
    go_wp2
    go_ret2
    exact ⟨⟨0, false, rfl, .inr ⟨rfl, hno.out⟩⟩, Below.refl _ _⟩
  have HLD := Lib.hid (show 1 < s.length → s[0]? ≠ some 48 from fun h e => hlead ⟨h, by rw [hc0] at e; rw [Option.some.inj e]; rfl⟩)
  have HNE := Lib.hid hne
  clear hne hc0
  rcases (show ¬ 1 < s.length ∨ (1 < s.length ∧ c0.toNat ≠ 48) by omega) with h1 | ⟨h1, h2⟩
  · skip
    have d4 : decide ((1 : Int) < (s.length : Int)) = false := decide_eq_false (by omega)
    have d5 : decide (1 < s.length) = false := decide_eq_false h1
    clear hlead
    go_enter Tryd.func31, Tryd.ntmps31
    go_wp2_with fail
    clear hx0
    go_loopw [4, 5] (fun nv iv wr => ∃ (i m : Nat), iv = .int .i64 (i : Int) ∧ i ≤ s.length ∧ nv = .int .u64 (m : Int) ∧ m < 18446744073709551616 ∧ Hid (m = valD (s.take i)) ∧ Hid (DigD (s.take i)) ∧ Hid (Below w.heap.size w wr)) (fun _ iv _ => s.length + 1 - (intOf iv).toNat)
    case atStart => exact ⟨0, 0, rfl, by omega, rfl, by omega, Lib.hid rfl, Lib.hid (fun c h => by simp at h), Lib.hid (Below.refl _ _)⟩
    case round =>
      obtain ⟨i, m, rfl, hi, rfl, hm, HM, HD, HB⟩ := hrel
      by_cases hlt : i < s.length
      · obtain ⟨c, hc⟩ : ∃ c, s[i]? = some c := ⟨_, List.getElem?_eq_getElem hlt⟩
        have hx := run_strO s (i : Int) i c rfl hc
        have HC := Lib.hid hc
        clear hc
        have hno : ¬ (48 ≤ c.toNat ∧ c.toNat ≤ 57) → ∀ n, ¬ SpelD s n := fun h => retsN_no fun k => h (k.2.2.2.1 c (List.mem_of_getElem? HC.out))
        have hc8 := c.toNat_lt
        rcases (show c.toNat < 48 ∨ (48 ≤ c.toNat ∧ 57 < c.toNat) ∨ (48 ≤ c.toNat ∧ c.toNat ≤ 57) by omega) with h | ⟨h, h'⟩ | ⟨h, h'⟩
        · have HN := Lib.hid (hno (by omega))
          have f1 : decide ((c.toNat : Int) < 48) = true := decide_eq_true (by omega)
          have f2 : decide (c.toNat < 48) = true := decide_eq_true h
          clear hno
          go_wp2
          go_ret2
          exact ⟨⟨0, false, rfl, .inr ⟨rfl, HN.out⟩⟩, HB.out⟩
        · have HN := Lib.hid (hno (by omega))
          have f1 : decide ((c.toNat : Int) < 48) = false := decide_eq_false (by omega)
          have f2 : decide (c.toNat < 48) = false := decide_eq_false (by omega)
          have f3 : decide ((57 : Int) < (c.toNat : Int)) = true := decide_eq_true (by omega)
          have f4 : decide (57 < c.toNat) = true := decide_eq_true h'
          clear hno
          go_wp2
          go_ret2
          exact ⟨⟨0, false, rfl, .inr ⟨rfl, HN.out⟩⟩, HB.out⟩
        · have f1 : decide ((c.toNat : Int) < 48) = false := decide_eq_false (by omega)
          have f2 : decide (c.toNat < 48) = false := decide_eq_false (by omega)
          have f3 : decide ((57 : Int) < (c.toNat : Int)) = false := decide_eq_false (by omega)
          have f4 : decide (57 < c.toNat) = false := decide_eq_false (by omega)
          have hm18 : m < 1000000000000000000 := by
            have h7 := valD_lt' _ HD.out
            rw [← HM.out, List.length_take, Nat.min_eq_left (by omega)] at h7
            exact Nat.lt_of_lt_of_le h7 (Nat.le_trans (Nat.pow_le_pow_right (by decide) (show i ≤ 18 by omega)) (by decide))
          have HT := Lib.hid (show s.take (i + 1) = s.take i ++ [c] by rw [List.take_add_one, HC.out]; rfl)
          have HM2 := Lib.hid (show 10 * m + (c.toNat - 48) = valD (s.take (i + 1)) by rw [HT.out, valD_snoc, ← HM.out])
          have HD2 := Lib.hid (show DigD (s.take (i + 1)) from fun x hx => by
            rw [HT.out, List.mem_append, List.mem_singleton] at hx
            rcases hx with hx | rfl
            · exact HD.out x hx
            · exact ⟨h, h'⟩)
          clear hno
          go_wp2
          go_roundw
          case rel => exact ⟨i + 1, 10 * m + (c.toNat - 48), by go_num, by omega, by congr 1; omega, by omega, HM2, HD2, HB⟩
          case measure => simp [intOf]; omega
      · have hT := Lib.hid (show s.take i = s from List.take_of_length_le (by omega))
        have hM := HM.out
        have hD := HD.out
        rw [hT.out] at hM hD
        have HV := Lib.hid (show (m < 9223372036854775808 → SpelD s m) ∧ (¬ m < 9223372036854775808 → ∀ n, ¬ SpelD s n) from by
          subst hM
          exact ⟨fun h9 => ⟨h9, (dec_val s HNE.out hD HLD.out).symm⟩, fun h9 => retsN_no fun k => h9 k.2.2.2.2⟩)
        clear hM hD
        by_cases h63 : m < 9223372036854775808
        · have HS := Lib.hid (HV.out.1 h63)
          have g1 : decide ((m : Int) < 9223372036854775808) = true := decide_eq_true (by omega)
          have g2 : decide (m < 9223372036854775808) = true := decide_eq_true h63
          go_wp2
          go_ret2
          exact ⟨⟨m, true, rfl, .inl ⟨rfl, HS.out⟩⟩, HB.out⟩
        · have HS := Lib.hid (HV.out.2 h63)
          have g1 : decide ((m : Int) < 9223372036854775808) = false := decide_eq_false (by omega)
          have g2 : decide (m < 9223372036854775808) = false := decide_eq_false h63
          go_wp2
          go_ret2
          exact ⟨⟨m, false, rfl, .inr ⟨rfl, HS.out⟩⟩, HB.out⟩
  · skip
    have d4 : decide ((1 : Int) < (s.length : Int)) = true := decide_eq_true (by omega)
    have d5 : decide (1 < s.length) = true := decide_eq_true h1
    have d6 : ((c0.toNat : Int) == 48) = false := beq_eq_false_iff_ne.2 (by omega)
    have d7 : (c0.toNat == 48) = false := beq_eq_false_iff_ne.2 h2
    clear hlead
    go_enter Tryd.func31, Tryd.ntmps31
    go_wp2_with fail
    clear hx0
    go_loopw [4, 5] (fun nv iv wr => ∃ (i m : Nat), iv = .int .i64 (i : Int) ∧ i ≤ s.length ∧ nv = .int .u64 (m : Int) ∧ m < 18446744073709551616 ∧ Hid (m = valD (s.take i)) ∧ Hid (DigD (s.take i)) ∧ Hid (Below w.heap.size w wr)) (fun _ iv _ => s.length + 1 - (intOf iv).toNat)
    case atStart => exact ⟨0, 0, rfl, by omega, rfl, by omega, Lib.hid rfl, Lib.hid (fun c h => by simp at h), Lib.hid (Below.refl _ _)⟩
    case round =>
      obtain ⟨i, m, rfl, hi, rfl, hm, HM, HD, HB⟩ := hrel
      by_cases hlt : i < s.length
      · obtain ⟨c, hc⟩ : ∃ c, s[i]? = some c := ⟨_, List.getElem?_eq_getElem hlt⟩
        have hx := run_strO s (i : Int) i c rfl hc
        have HC := Lib.hid hc
        clear hc
        have hno : ¬ (48 ≤ c.toNat ∧ c.toNat ≤ 57) → ∀ n, ¬ SpelD s n := fun h => retsN_no fun k => h (k.2.2.2.1 c (List.mem_of_getElem? HC.out))
        have hc8 := c.toNat_lt
        rcases (show c.toNat < 48 ∨ (48 ≤ c.toNat ∧ 57 < c.toNat) ∨ (48 ≤ c.toNat ∧ c.toNat ≤ 57) by omega) with h | ⟨h, h'⟩ | ⟨h, h'⟩
        · have HN := Lib.hid (hno (by omega))
          have f1 : decide ((c.toNat : Int) < 48) = true := decide_eq_true (by omega)
          have f2 : decide (c.toNat < 48) = true := decide_eq_true h
          clear hno
          go_wp2
          go_ret2
          exact ⟨⟨0, false, rfl, .inr ⟨rfl, HN.out⟩⟩, HB.out⟩
        · have HN := Lib.hid (hno (by omega))
          have f1 : decide ((c.toNat : Int) < 48) = false := decide_eq_false (by omega)
          have f2 : decide (c.toNat < 48) = false := decide_eq_false (by omega)
          have f3 : decide ((57 : Int) < (c.toNat : Int)) = true := decide_eq_true (by omega)
          have f4 : decide (57 < c.toNat) = true := decide_eq_true h'
          clear hno
          go_wp2
          go_ret2
          exact ⟨⟨0, false, rfl, .inr ⟨rfl, HN.out⟩⟩, HB.out⟩
        · have f1 : decide ((c.toNat : Int) < 48) = false := decide_eq_false (by omega)
          have f2 : decide (c.toNat < 48) = false := decide_eq_false (by omega)
          have f3 : decide ((57 : Int) < (c.toNat : Int)) = false := decide_eq_false (by omega)
          have f4 : decide (57 < c.toNat) = false := decide_eq_false (by omega)
          have hm18 : m < 1000000000000000000 := by
            have h7 := valD_lt' _ HD.out
            rw [← HM.out, List.length_take, Nat.min_eq_left (by omega)] at h7
            exact Nat.lt_of_lt_of_le h7 (Nat.le_trans (Nat.pow_le_pow_right (by decide) (show i ≤ 18 by omega)) (by decide))
          have HT := Lib.hid (show s.take (i + 1) = s.take i ++ [c] by rw [List.take_add_one, HC.out]; rfl)
          have HM2 := Lib.hid (show 10 * m + (c.toNat - 48) = valD (s.take (i + 1)) by rw [HT.out, valD_snoc, ← HM.out])
          have HD2 := Lib.hid (show DigD (s.take (i + 1)) from fun x hx => by
            rw [HT.out, List.mem_append, List.mem_singleton] at hx
            rcases hx with hx | rfl
            · exact HD.out x hx
            · exact ⟨h, h'⟩)
          clear hno
          go_wp2
          go_roundw
          case rel => exact ⟨i + 1, 10 * m + (c.toNat - 48), by go_num, by omega, by congr 1; omega, by omega, HM2, HD2, HB⟩
          case measure => simp [intOf]; omega
      · have hT := Lib.hid (show s.take i = s from List.take_of_length_le (by omega))
        have hM := HM.out
        have hD := HD.out
        rw [hT.out] at hM hD
        have HV := Lib.hid (show (m < 9223372036854775808 → SpelD s m) ∧ (¬ m < 9223372036854775808 → ∀ n, ¬ SpelD s n) from by
          subst hM
          exact ⟨fun h9 => ⟨h9, (dec_val s HNE.out hD HLD.out).symm⟩, fun h9 => retsN_no fun k => h9 k.2.2.2.2⟩)
        clear hM hD
        by_cases h63 : m < 9223372036854775808
        · have HS := Lib.hid (HV.out.1 h63)
          have g1 : decide ((m : Int) < 9223372036854775808) = true := decide_eq_true (by omega)
          have g2 : decide (m < 9223372036854775808) = true := decide_eq_true h63
          go_wp2
          go_ret2
          exact ⟨⟨m, true, rfl, .inl ⟨rfl, HS.out⟩⟩, HB.out⟩
        · have HS := Lib.hid (HV.out.2 h63)
          have g1 : decide ((m : Int) < 9223372036854775808) = false := decide_eq_false (by omega)
          have g2 : decide (m < 9223372036854775808) = false := decide_eq_false h63
          go_wp2
          go_ret2
          exact ⟨⟨m, false, rfl, .inr ⟨rfl, HS.out⟩⟩, HB.out⟩
end Go.Proofs.YtojphfkiblhhiaaDoor
