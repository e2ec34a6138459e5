/-
  HOUR: General AND Short AT EVERY TIME.
-/
import Derived.Test.YtholkbgkkfndhaaDoorHourA
namespace Go.Proofs.YtholkbgkkfndhaaDoor
open Go.RowKit
set_option maxRecDepth 100000

/-- A number has one general text. -/
theorem text_unique {t : Nat} {l l' : List UInt8} (h : IsText t l) (g : IsText t l') : l = l' := by
  obtain ⟨y, m, d, hi, rfl⟩ := h
  obtain ⟨y', m', d', hi', rfl⟩ := g
  obtain ⟨e1, e2, e3⟩ := date_unique hi hi'
  have e1 := Int.ofNat.inj e1
  have e2 := Int.ofNat.inj e2
  have e3 := Int.ofNat.inj e3
  rw [e1, e2, e3]

theorem text_length {t : Nat} {l : List UInt8} (h : IsText t l) : 15 ≤ l.length ∧ l.length ≤ 19 := by
  obtain ⟨y, m, d, hi, rfl⟩ := h
  have := fracN_length (t % 1000)
  simp only [textN, List.length_append, pdN_length, List.length_singleton]
  omega

theorem general_no (t : Int) (w : World) (h : ¬ (0 ≤ t ∧ t ≤ 253402300799999)) :
    Calls Tryd.prog 9 #[.int .i64 t] w fun e w' => e = .returned (.tuple #[.string ⟨([] : List UInt8).toArray⟩, .int .i64 150]) ∧ w' = w := by
  have HH := Lib.hid h
  clear h
  go_enter Tryd.func9, Tryd.ntmps9
  go_wp2_with fail
  refine (istime_no t _ HH.out).mono ?_
  rintro e w' ⟨rfl, rfl⟩
  go_wp2
  go_ret2
  exact ⟨rfl, rfl⟩

/-- How General ends. -/
def RetsGen (t : Int) (e : Ending) : Prop :=
  (∃ (n : Nat) (l : List UInt8), t = (n : Int) ∧ n ≤ 253402300799999 ∧ IsText n l ∧ e = .returned (.tuple #[.string ⟨l.toArray⟩, .int .i64 0])) ∨
    (¬ (0 ≤ t ∧ t ≤ 253402300799999) ∧ e = .returned (.tuple #[.string ⟨([] : List UInt8).toArray⟩, .int .i64 150]))

theorem general_any (t : Int) (w : World) (hT : Tab w) : Calls Tryd.prog 9 #[.int .i64 t] w fun e w' => RetsGen t e ∧ Below w.heap.size w w' := by
  by_cases h : 0 ≤ t ∧ t ≤ 253402300799999
  · obtain ⟨n, rfl⟩ : ∃ n : Nat, t = (n : Int) := ⟨t.toNat, by omega⟩
    refine (general_yes n (by omega) w hT).mono fun e w' ⟨l, he, hl, hb⟩ => ⟨Or.inl ⟨n, l, rfl, by omega, hl, he⟩, hb⟩
  · exact (general_no t w h).mono fun e w' ⟨he, hw⟩ => ⟨Or.inr ⟨h, he⟩, hw ▸ Below.refl _ _⟩

/-- Which times have a short text. -/
def ShortOk (t : Int) : Prop := ∃ (n : Nat) (y m d : Int), t = (n : Int) ∧ n ≤ 253402300799999 ∧ n % 1000 = 0 ∧ IsDate ((n / 86400000 : Nat) : Int) y m d ∧ y < 2050

theorem str_from (l : List UInt8) (k : Nat) : (⟨l.toArray⟩ : ByteArray).extract k l.length = ⟨(l.drop k).toArray⟩ := by
  apply ByteArray.ext
  rw [ByteArray.data_extract]
  simp only [List.extract_toArray, List.extract_eq_take_drop]
  rw [List.take_of_length_le (by rw [List.length_drop]; exact Nat.le_refl _)]

theorem acc_year (y m d : Int) (w : World) : (Instr.field 51 (acc y m d) 0).run Tryd.prog w = .ok (.int .i64 y) w := by kernel_rfl

theorem short_yes (n : Nat) (l : List UInt8) (w : World) (hT : Tab w) (hl : IsText n l) (h1 : n ≤ 253402300799999) (h2 : n % 1000 = 0) (y m d : Int) (hd : IsDate ((n / 86400000 : Nat) : Int) y m d) (hy : y < 2050) :
    Calls Tryd.prog 11 #[.int .i64 (n : Int)] w fun e w' => e = .returned (.tuple #[.string ⟨(l.drop 2).toArray⟩, .int .i64 0]) ∧ Below w.heap.size w w' := by
  have hlen := text_length hl
  have HL := Lib.hid hl
  have HT := Lib.hid hT
  have e1 : Int.tmod (n : Int) 1000 = 0 := by rw [Int.tmod_eq_emod_of_nonneg (by omega)]; omega
  obtain ⟨T, hTT⟩ : ∃ T, n / 86400000 = T := ⟨_, rfl⟩
  have e2 : (n : Int) / 86400000 = (T : Int) := by omega
  have e3 : T ≤ 2932896 := by omega
  rw [hTT] at hd
  have HD := Lib.hid hd
  clear hl hT hd hTT h2
  go_enter Tryd.func11, Tryd.ntmps11
  go_wp2_with fail
  refine (general_yes n h1 _ HT.out).mono ?_
  rintro e w1 ⟨l', rfl, hl', hb⟩
  obtain rfl := text_unique HL.out hl'
  have H1 := Lib.hid hb
  clear hb hl'
  go_wp2_with fail
  refine (dateof_any (T : Int) _ (by omega) (by omega)).mono ?_
  rintro e w2 ⟨y', m', d', rfl, hI, hy9, hb⟩
  obtain ⟨rfl, rfl, rfl⟩ := date_unique HD.out hI
  have H2 := Lib.hid (H1.out.trans (hb.mono H1.out.size))
  have hy2 : ¬ (2050 ≤ y) := by omega
  clear hb hI hy9
  have hfld := acc_year y m d
  go_wp2
  go_ret2
  exact ⟨by rw [← str_from]; rfl, H2.out⟩

/-- A time without a short text. -/
theorem short_no (t : Int) (w : World) (hT : Tab w) (h : ¬ ShortOk t) :
    Calls Tryd.prog 11 #[.int .i64 t] w fun e w' => e = .returned (.tuple #[.string ⟨([] : List UInt8).toArray⟩, .int .i64 150]) ∧ Below w.heap.size w w' := by
  have HT := Lib.hid hT
  clear hT
  by_cases ht : 0 ≤ t ∧ t ≤ 253402300799999
  · obtain ⟨n, rfl⟩ : ∃ n : Nat, t = (n : Int) := ⟨t.toNat, by omega⟩
    by_cases h2 : n % 1000 = 0
    · have e1 : Int.tmod (n : Int) 1000 = 0 := by rw [Int.tmod_eq_emod_of_nonneg (by omega)]; omega
      obtain ⟨T, hTT⟩ : ∃ T, n / 86400000 = T := ⟨_, rfl⟩
      have e2 : (n : Int) / 86400000 = (T : Int) := by omega
      have e3 : T ≤ 2932896 := by omega
      have h1 : n ≤ 253402300799999 := by omega
      have HH : Hid (∀ y m d : Int, IsDate (T : Int) y m d → 2050 ≤ y) := Lib.hid fun y m d hd => by
        by_cases hy : 2050 ≤ y
        · exact hy
        · exact absurd ⟨n, y, m, d, rfl, h1, h2, by rw [hTT]; exact hd, by omega⟩ h
      clear h h2 ht hTT
      go_enter Tryd.func11, Tryd.ntmps11
      go_wp2_with fail
      refine (general_yes n h1 _ HT.out).mono ?_
      rintro e w1 ⟨l, rfl, hl', hb⟩
      have H1 := Lib.hid hb
      clear hb hl'
      go_wp2_with fail
      refine (dateof_any (T : Int) _ (by omega) (by omega)).mono ?_
      rintro e w2 ⟨y, m, d, rfl, hI, hy9, hb⟩
      have H2 := Lib.hid (H1.out.trans (hb.mono H1.out.size))
      have hy2 := HH.out y m d hI
      clear hb hI hy9
      have hfld := acc_year y m d
      go_wp2
      go_ret2
      exact ⟨rfl, H2.out⟩
    · obtain ⟨r, hr⟩ : ∃ q, n % 1000 = q := ⟨_, rfl⟩
      have e1 : Int.tmod (n : Int) 1000 = (r : Int) := by rw [Int.tmod_eq_emod_of_nonneg (by omega)]; omega
      have hbr : ((r : Int) != 0) = true := by simp; omega
      have h1 : n ≤ 253402300799999 := by omega
      clear h h2 ht hr
      go_enter Tryd.func11, Tryd.ntmps11
      go_wp2_with fail
      refine (general_yes n h1 _ HT.out).mono ?_
      rintro e w1 ⟨l, rfl, hl', hb⟩
      have H1 := Lib.hid hb
      clear hb hl'
      go_wp2
      go_ret2
      exact ⟨rfl, H1.out⟩
  · have HH := Lib.hid ht
    clear h ht
    go_enter Tryd.func11, Tryd.ntmps11
    go_wp2_with fail
    refine (general_no t _ HH.out).mono ?_
    rintro e w1 ⟨rfl, rfl⟩
    go_wp2
    go_ret2
    exact ⟨rfl, Below.refl _ _⟩

end Go.Proofs.YtholkbgkkfndhaaDoor
