/-
  HOUR: THE REFERENCE's ReadShort. (Written by wip/gen_hourT6.py.)
-/
import Derived.Test.YtholkbgkkfndhaaDoorHourT5
namespace Go.Proofs.YtholkbgkkfndhaaDoor
open Go.RowKit
set_option maxRecDepth 100000

theorem short_reads {n : Nat} {l : List UInt8} (hs : ShortOk (n : Int)) (hl : IsText n l) : (l.drop 2).length = 13 ∧ DigH ((l.drop 2).take 2) ∧ ((valH ((l.drop 2).take 2) < 50 ∧ l = 50 :: 48 :: l.drop 2) ∨ (70 ≤ valH ((l.drop 2).take 2) ∧ l = 49 :: 57 :: l.drop 2)) := by
  obtain ⟨k, Y, M, D, hk, h1, h2, hd, hy⟩ := hs
  obtain rfl : n = k := by omega
  have h15 := whole_len hl h1 h2
  obtain ⟨y, m, d, c, rfl⟩ := clock_of hl h1
  obtain ⟨rfl, _, _⟩ := date_unique hd c.date
  have hyy := c.year
  have e : (pdN 2 y ++ tailN m d (n % 86400000 / 3600000) (n % 3600000 / 60000) (n % 60000 / 1000) (n % 1000)).take 2 = pdN 2 y := List.take_left' (pdN_length 2 y)
  refine ⟨by rw [List.length_drop, h15], ?_, ?_⟩
  · rw [text_drop, e]
    exact dig_pd _ _
  · rw [text_drop, e, val_pd, textN_eq, pd_split, List.append_assoc]
    rcases (show y / 100 = 19 ∨ y / 100 = 20 by omega) with h | h
    · right; rw [h]; exact ⟨by omega, rfl⟩
    · left; rw [h]; exact ⟨by omega, rfl⟩

theorem short_made {n q : Nat} {s : List UInt8} (h : IsText n (pdN 2 q ++ s)) (hn : n ≤ 253402300799999) (hl : s.length = 13) (hq : q < 100) (hv : q * 100 + valH (s.take 2) < 2050) : ShortOk (n : Int) := by
  have l2 := pdN_length 2 q
  have h0 : n % 1000 = 0 := by
    obtain ⟨-, -, -, r, g, hn', hc⟩ := text_reads h hn
    rw [List.length_append, l2, hl] at hc
    rcases hc with ⟨-, rfl⟩ | ⟨-, k, m, ⟨hp, -⟩, hk, -⟩
    · rw [hn']; unfold timeH; omega
    · omega
  obtain ⟨y, m, d, c, e⟩ := clock_of h hn
  have hy := c.year
  refine ⟨n, y, m, d, rfl, hn, h0, c.date, ?_⟩
  have e1 := congrArg (List.take 2) e
  rw [List.take_left' l2, textN_eq, pd_split, List.append_assoc, List.take_left' (pdN_length 2 _)] at e1
  have e2 := congrArg valH e1
  rw [val_pd, val_pd] at e2
  have e3 := congrArg (List.take 2) (congrArg (List.drop 2) e)
  rw [List.drop_left' l2, text_drop, List.take_left' (pdN_length 2 _)] at e3
  have e4 := congrArg valH e3
  rw [val_pd] at e4
  omega

set_option maxHeartbeats 1000000 in
theorem refreadshort_any (s : List UInt8) (hs : s.length ≤ 900) (w : World) :
    Calls Tryd.prog 16 #[.string ⟨s.toArray⟩] w fun e w' => RetsReadS s e ∧ Below w.heap.size w w' := by
  by_cases h13 : s.length = 13
  rotate_left
  · have d1 : ((s.length : Int) != 13) = true := bne_iff_ne.2 (by omega)
    have d1n : (s.length != 13) = true := bne_iff_ne.2 h13
    have HNO := Lib.hid (show ∀ (n : Nat) (l : List UInt8), ShortOk (n : Int) → IsText n l → s ≠ l.drop 2 from fun n l h1 h2 e => h13 (by rw [e]; exact (short_reads h1 h2).1))
    clear h13
    go_enter Tryd.func16, Tryd.ntmps16
    go_wp2
    go_ret2
    exact ⟨.inr ⟨HNO.out, rfl⟩, Below.refl _ _⟩
  have d1 : ((s.length : Int) != 13) = false := by rw [h13]; rfl
  have d1n : (s.length != 13) = false := by rw [h13]; rfl
  obtain ⟨B, hB⟩ : ∃ B, s.take 2 = B := ⟨_, rfl⟩
  have hct := run_toH s 2 B 2 rfl (by omega) hB
  have lB : B.length = 2 := by rw [← hB, List.length_take]; omega
  have HR := Lib.hid (show ∀ (n : Nat) (l : List UInt8), ShortOk (n : Int) → IsText n l → s = l.drop 2 → DigH B ∧ ((valH B < 50 ∧ l = 50 :: 48 :: s) ∨ (70 ≤ valH B ∧ l = 49 :: 57 :: s)) from fun n l h1 h2 e => by
    have h9 := (short_reads h1 h2).2
    rw [← e, hB] at h9
    exact h9)
  have HM := Lib.hid (show ∀ (n q : Nat), IsText n (pdN 2 q ++ s) → n ≤ 253402300799999 → q < 100 → q * 100 + valH B < 2050 → ShortOk (n : Int) from fun n q h1 h2 h3 h4 => short_made h1 h2 h13 h3 (by rw [hB]; exact h4))
  have HS20 := Lib.hid (show (⟨#[50, 48]⟩ : ByteArray) ++ ⟨s.toArray⟩ = ⟨(50 :: 48 :: s).toArray⟩ from str_add [50, 48] s)
  have HS19 := Lib.hid (show (⟨#[49, 57]⟩ : ByteArray) ++ ⟨s.toArray⟩ = ⟨(49 :: 57 :: s).toArray⟩ from str_add [49, 57] s)
  have hsl : s.length ≤ 13 := by omega
  clear hB h13
  go_enter Tryd.func16, Tryd.ntmps16
  go_wp2_with fail
  refine (refnumber_any B (by omega) _).mono ?_
  rintro e w1 ⟨hv, hb⟩
  have HB := Lib.hid hb
  clear hb hct
  rcases hv with ⟨hdig, rfl⟩ | ⟨hdig, rfl⟩
  rotate_left
  · have HNO := Lib.hid (show ∀ (n : Nat) (l : List UInt8), ShortOk (n : Int) → IsText n l → s ≠ l.drop 2 from fun n l h1 h2 e => hdig (HR.out n l h1 h2 e).1)
    clear hdig
    go_wp2
    go_ret2
    exact ⟨.inr ⟨HNO.out, rfl⟩, HB.out⟩
  have hv3 := valH_lt _ hdig
  rw [lB] at hv3
  clear hdig
  obtain ⟨v, hv⟩ : ∃ v, valH B = v := ⟨_, rfl⟩
  rw [hv] at hv3 HR HM ⊢
  replace hv3 : v < 100 := hv3
  clear hv
  have n0 : decide ((v : Int) < 0) = false := decide_eq_false (by omega)
  by_cases h50 : v < 50
  · have n1 : decide ((50 : Int) ≤ (v : Int)) = false := decide_eq_false (by omega)
    have n2 : decide ((v : Int) < 50) = true := decide_eq_true (by omega)
    have n1n : decide (50 ≤ v) = false := decide_eq_false (by omega)
    go_wp2_with fail
    rw [HS20.out]
    refine (refreadgeneral_any (50 :: 48 :: s) (by simp; omega) _).mono ?_
    rintro e w2 ⟨hv, hb⟩
    have HB := Lib.hid (HB.out.trans (hb.mono HB.out.size))
    clear hb
    rcases hv with ⟨n, hn, ht, rfl⟩ | ⟨hno, rfl⟩
    · have HT := Lib.hid ht
      have HSH := Lib.hid (HM.out n 20 ht hn (by decide) (by omega))
      clear ht
      go_wp2
      go_ret2
      exact ⟨.inl ⟨n, 50 :: 48 :: s, HSH.out, HT.out, rfl, rfl⟩, HB.out⟩
    · have HNO := Lib.hid (show ∀ (n : Nat) (l : List UInt8), ShortOk (n : Int) → IsText n l → s ≠ l.drop 2 from fun n l h1 h2 e => by
        obtain ⟨-, h9⟩ := HR.out n l h1 h2 e
        rcases h9 with ⟨h8, h9⟩ | ⟨h8, h9⟩
        · obtain ⟨k, _, _, _, hk, hk1, _⟩ := h1
          obtain rfl : n = k := by omega
          exact hno n hk1 (by rw [← h9]; exact h2)
        · omega)
      clear hno
      go_wp2
      go_ret2
      exact ⟨.inr ⟨HNO.out, rfl⟩, HB.out⟩
  have n1 : decide ((50 : Int) ≤ (v : Int)) = true := decide_eq_true (by omega)
  have n1n : decide (50 ≤ v) = true := decide_eq_true (by omega)
  have n2 : decide ((v : Int) < 50) = false := decide_eq_false (by omega)
  by_cases h70 : v < 70
  · have n3 : decide ((v : Int) < 70) = true := decide_eq_true (by omega)
    have HNO := Lib.hid (show ∀ (n : Nat) (l : List UInt8), ShortOk (n : Int) → IsText n l → s ≠ l.drop 2 from fun n l h1 h2 e => by
      obtain ⟨-, h9⟩ := HR.out n l h1 h2 e
      omega)
    go_wp2
    go_ret2
    exact ⟨.inr ⟨HNO.out, rfl⟩, HB.out⟩
  have n3 : decide ((v : Int) < 70) = false := decide_eq_false (by omega)
  go_wp2_with fail
  rw [HS19.out]
  refine (refreadgeneral_any (49 :: 57 :: s) (by simp; omega) _).mono ?_
  rintro e w2 ⟨hv, hb⟩
  have HB := Lib.hid (HB.out.trans (hb.mono HB.out.size))
  clear hb
  rcases hv with ⟨n, hn, ht, rfl⟩ | ⟨hno, rfl⟩
  · have HT := Lib.hid ht
    have HSH := Lib.hid (HM.out n 19 ht hn (by decide) (by omega))
    clear ht
    go_wp2
    go_ret2
    exact ⟨.inl ⟨n, 49 :: 57 :: s, HSH.out, HT.out, rfl, rfl⟩, HB.out⟩
  · have HNO := Lib.hid (show ∀ (n : Nat) (l : List UInt8), ShortOk (n : Int) → IsText n l → s ≠ l.drop 2 from fun n l h1 h2 e => by
      obtain ⟨-, h9⟩ := HR.out n l h1 h2 e
      rcases h9 with ⟨h8, h9⟩ | ⟨h8, h9⟩
      · omega
      · obtain ⟨k, _, _, _, hk, hk1, _⟩ := h1
        obtain rfl : n = k := by omega
        exact hno n hk1 (by rw [← h9]; exact h2))
    clear hno
    go_wp2
    go_ret2
    exact ⟨.inr ⟨HNO.out, rfl⟩, HB.out⟩
end Go.Proofs.YtholkbgkkfndhaaDoor
