/-
  HOUR: ReadGeneral, Short, ReadShort, AND alive.
-/
import Derived.Test.YtholkbgkkfndhaaDoorHourG
namespace Go.Proofs.YtholkbgkkfndhaaDoor
open Go.RowKit
set_option maxRecDepth 100000

theorem str_ne {l s : List UInt8} (h : l ≠ s) : (l == s) = false := beq_eq_false_iff_ne.2 h

def RetsRead (s : List UInt8) (e : Ending) : Prop :=
  (∃ n : Nat, n ≤ 253402300799999 ∧ IsText n s ∧ e = .returned (.tuple #[.int .i64 (n : Int), .int .i64 0])) ∨
    ((∀ n : Nat, n ≤ 253402300799999 → ¬ IsText n s) ∧ e = .returned (.tuple #[.int .i64 0, .int .i64 150]))

theorem readgeneral_any (s : List UInt8) (hs : s.length ≤ 1000) (w : World) (hL : Libs w) :
    Calls Tryd.prog 13 #[.string ⟨s.toArray⟩] w fun e w' => RetsRead s e ∧ Below w.heap.size w w' := by
  obtain ⟨t, fine, hrd⟩ : ∃ t f, readR 4 s = (t, f) := ⟨_, _, rfl⟩
  have HR := Lib.hid hrd
  have HL := Lib.hid hL
  have HT : Hid (∀ n : Nat, n ≤ 253402300799999 → IsText n s → t = (n : Int) ∧ fine = true) := Lib.hid fun n h1 h2 => by
    have := read_text h2 h1
    rw [hrd] at this
    exact ⟨congrArg Prod.fst this, congrArg Prod.snd this⟩
  clear hL hrd
  go_enter Tryd.func13, Tryd.ntmps13
  go_wp2_with fail
  refine (read_any 4 (by decide) (by decide) s hs _ HL.out).mono ?_
  rintro e w1 ⟨rfl, hb⟩
  rw [HR.out]
  dsimp only
  have HB := Lib.hid hb
  clear hb
  go_wp2_with fail
  refine (general_any t _ (HL.out.below HB.out).tab).mono ?_
  rintro e w2 ⟨hg, hb⟩
  have HB := Lib.hid (HB.out.trans (hb.mono HB.out.size))
  clear hb
  rcases hg with ⟨n, l, rfl, hn, hl, rfl⟩ | ⟨hno, rfl⟩
  · have HLX := Lib.hid hl
    clear hl
    cases fine with
    | false =>
      have hbad := Lib.hid (show ∀ k : Nat, k ≤ 253402300799999 → ¬ IsText k s from fun k h1 h2 => by cases (HT.out k h1 h2).2)
      go_wp2
      go_ret2
      exact ⟨Or.inr ⟨hbad.out, rfl⟩, HB.out⟩
    | true =>
      by_cases hls : l = s
      · subst hls
        go_wp2
        go_ret2
        exact ⟨Or.inl ⟨n, hn, HLX.out, rfl⟩, HB.out⟩
      · have hbad := Lib.hid (show ∀ k : Nat, k ≤ 253402300799999 → ¬ IsText k s from fun k h1 h2 => by
          have h3 := (HT.out k h1 h2).1
          obtain rfl : n = k := by omega
          exact hls (text_unique HLX.out h2))
        have hne := str_ne hls
        clear hls
        go_wp2
        go_ret2
        exact ⟨Or.inr ⟨hbad.out, rfl⟩, HB.out⟩
  · have hbad := Lib.hid (show ∀ k : Nat, k ≤ 253402300799999 → ¬ IsText k s from fun k h1 h2 => by
      have h3 := (HT.out k h1 h2).1
      omega)
    clear hno
    cases fine with
    | false =>
      go_wp2
      go_ret2
      exact ⟨Or.inr ⟨hbad.out, rfl⟩, HB.out⟩
    | true =>
      go_wp2
      go_ret2
      exact ⟨Or.inr ⟨hbad.out, rfl⟩, HB.out⟩

/-- How Short ends. -/
def RetsShort (t : Int) (e : Ending) : Prop :=
  (∃ (n : Nat) (l : List UInt8), t = (n : Int) ∧ ShortOk (n : Int) ∧ IsText n l ∧ e = .returned (.tuple #[.string ⟨(l.drop 2).toArray⟩, .int .i64 0])) ∨
    (¬ ShortOk t ∧ e = .returned (.tuple #[.string ⟨([] : List UInt8).toArray⟩, .int .i64 150]))

theorem text_there (n : Nat) (h : n ≤ 253402300799999) : ∃ l, IsText n l := by
  obtain ⟨y, m, d, hd, hy⟩ := date_exists (n / 86400000) (by omega)
  obtain ⟨h1, h2, h3, h4, h5, h6⟩ := hd
  have hd : IsDate ((n / 86400000 : Nat) : Int) y m d := ⟨h1, h2, h3, h4, h5, h6⟩
  obtain ⟨y', rfl⟩ : ∃ k : Nat, y = (k : Int) := ⟨y.toNat, by omega⟩
  obtain ⟨m', rfl⟩ : ∃ k : Nat, m = (k : Int) := ⟨m.toNat, by omega⟩
  obtain ⟨d', rfl⟩ : ∃ k : Nat, d = (k : Int) := ⟨d.toNat, by omega⟩
  exact ⟨_, y', m', d', hd, rfl⟩

theorem short_any (t : Int) (w : World) (hL : Libs w) : Calls Tryd.prog 11 #[.int .i64 t] w fun e w' => RetsShort t e ∧ Below w.heap.size w w' := by
  by_cases h : ShortOk t
  · have h0 := h
    obtain ⟨n, y, m, d, rfl, h1, h2, hd, hy⟩ := h
    obtain ⟨l, hl⟩ := text_there n h1
    exact (short_yes n l w hL.tab hl h1 h2 y m d hd hy).mono fun e w' ⟨he, hb⟩ => ⟨Or.inl ⟨n, l, rfl, h0, hl, he⟩, hb⟩
  · exact (short_no t w hL.tab h).mono fun e w' ⟨he, hb⟩ => ⟨Or.inr ⟨h, he⟩, hb⟩

def RetsReadS (s : List UInt8) (e : Ending) : Prop :=
  (∃ (n : Nat) (l : List UInt8), ShortOk (n : Int) ∧ IsText n l ∧ s = l.drop 2 ∧ e = .returned (.tuple #[.int .i64 (n : Int), .int .i64 0])) ∨
    ((∀ (n : Nat) (l : List UInt8), ShortOk (n : Int) → IsText n l → s ≠ l.drop 2) ∧ e = .returned (.tuple #[.int .i64 0, .int .i64 150]))

theorem readshort_any (s : List UInt8) (hs : s.length ≤ 1000) (w : World) (hL : Libs w) :
    Calls Tryd.prog 15 #[.string ⟨s.toArray⟩] w fun e w' => RetsReadS s e ∧ Below w.heap.size w w' := by
  obtain ⟨t, fine, hrd⟩ : ∃ t f, readR 2 s = (t, f) := ⟨_, _, rfl⟩
  have HR := Lib.hid hrd
  have HL := Lib.hid hL
  have HT : Hid (∀ (n : Nat) (l : List UInt8), ShortOk (n : Int) → IsText n l → s = l.drop 2 → t = (n : Int) ∧ fine = true) := Lib.hid fun n l h1 h2 h3 => by
    have := read_short h2 h1
    rw [← h3, hrd] at this
    exact ⟨congrArg Prod.fst this, congrArg Prod.snd this⟩
  clear hL hrd
  go_enter Tryd.func15, Tryd.ntmps15
  go_wp2_with fail
  refine (read_any 2 (by decide) (by decide) s hs _ HL.out).mono ?_
  rintro e w1 ⟨rfl, hb⟩
  rw [HR.out]
  dsimp only
  have HB := Lib.hid hb
  clear hb
  go_wp2_with fail
  refine (short_any t _ (HL.out.below HB.out)).mono ?_
  rintro e w2 ⟨hg, hb⟩
  have HB := Lib.hid (HB.out.trans (hb.mono HB.out.size))
  clear hb
  rcases hg with ⟨n, l, rfl, hn, hl, rfl⟩ | ⟨hno, rfl⟩
  · have HLX := Lib.hid hl
    have HN := Lib.hid hn
    clear hl hn
    cases fine with
    | false =>
      have hbad := Lib.hid (show ∀ (k : Nat) (l : List UInt8), ShortOk (k : Int) → IsText k l → s ≠ l.drop 2 from fun k l h1 h2 h3 => by cases (HT.out k l h1 h2 h3).2)
      go_wp2
      go_ret2
      exact ⟨Or.inr ⟨hbad.out, rfl⟩, HB.out⟩
    | true =>
      by_cases hls : l.drop 2 = s
      · have HS := Lib.hid hls.symm
        rw [hls]
        clear hls
        go_wp2
        go_ret2
        exact ⟨Or.inl ⟨n, l, HN.out, HLX.out, HS.out, rfl⟩, HB.out⟩
      · have hbad := Lib.hid (show ∀ (k : Nat) (l : List UInt8), ShortOk (k : Int) → IsText k l → s ≠ l.drop 2 from fun k l' h1 h2 h3 => by
          have h4 := (HT.out k l' h1 h2 h3).1
          obtain rfl : n = k := by omega
          exact hls (by rw [text_unique HLX.out h2]; exact h3.symm))
        have hne := str_ne hls
        clear hls
        go_wp2
        go_ret2
        exact ⟨Or.inr ⟨hbad.out, rfl⟩, HB.out⟩
  · have hbad := Lib.hid (show ∀ (k : Nat) (l : List UInt8), ShortOk (k : Int) → IsText k l → s ≠ l.drop 2 from fun k l' h1 h2 h3 => by
      have h4 := (HT.out k l' h1 h2 h3).1
      exact hno (h4 ▸ h1))
    clear hno
    cases fine with
    | false =>
      go_wp2
      go_ret2
      exact ⟨Or.inr ⟨hbad.out, rfl⟩, HB.out⟩
    | true =>
      go_wp2
      go_ret2
      exact ⟨Or.inr ⟨hbad.out, rfl⟩, HB.out⟩

theorem told_yes (n : Nat) (l : List UInt8) (hn : n ≤ 253402300799999) (hl : IsText n l) (w : World) (hL : Libs w) :
    Calls Tryd.prog 33 #[.int .i64 (n : Int), .string ⟨l.toArray⟩] w fun e w' => e = .returned (.bool true) ∧ Below w.heap.size w w' := by
  have HX := Lib.hid hl
  have HL := Lib.hid hL
  have hlen := (text_length hl).2
  clear hl hL
  go_enter Tryd.func33, Tryd.ntmps33
  go_wp2_with fail
  refine (general_yes n hn _ HL.out.tab).mono ?_
  rintro e w1 ⟨l', rfl, hl', hb⟩
  obtain rfl := text_unique HX.out hl'
  have HB := Lib.hid hb
  clear hb hl'
  go_wp2_with fail
  refine (readgeneral_any l (by omega) _ (HL.out.below HB.out)).mono ?_
  rintro e w2 ⟨hg, hb⟩
  have HB := Lib.hid (HB.out.trans (hb.mono HB.out.size))
  clear hb
  rcases hg with ⟨k, hk, hkt, rfl⟩ | ⟨hno, _⟩
  · have hnk : n = k := by
      have h1 := read_text HX.out hn
      have h2 := read_text hkt hk
      rw [h1] at h2
      have := congrArg Prod.fst h2
      dsimp only at this
      omega
    subst hnk
    clear hkt
    go_wp2
    go_ret
    exact ⟨rfl, HB.out⟩
  · exact absurd HX.out (hno n hn)

theorem text_a : IsText 0 [49, 57, 55, 48, 48, 49, 48, 49, 48, 48, 48, 48, 48, 48, 90] :=
  ⟨1970, 1, 1, ⟨by decide, by decide, by decide, by decide, by decide, by decide⟩, by kernel_rfl⟩
theorem text_b : IsText 951782400500 [50, 48, 48, 48, 48, 50, 50, 57, 48, 48, 48, 48, 48, 48, 46, 53, 90] :=
  ⟨2000, 2, 29, ⟨by decide, by decide, by decide, by decide, by decide, by decide⟩, by kernel_rfl⟩
theorem text_c : IsText 253402300799999 [57, 57, 57, 57, 49, 50, 51, 49, 50, 51, 53, 57, 53, 57, 46, 57, 57, 57, 90] :=
  ⟨9999, 12, 31, ⟨by decide, by decide, by decide, by decide, by decide, by decide⟩, by kernel_rfl⟩

theorem alive_h (w : World) (hL : Libs w) : Calls Tryd.prog 21 #[] w fun e w' => e = .returned (.bool true) ∧ Below w.heap.size w w' := by
  have HL := Lib.hid hL
  clear hL
  go_enter Tryd.func21, Tryd.ntmps21
  go_wp2_with fail
  refine (told_yes 0 _ (by decide) text_a _ HL.out).mono ?_
  rintro e w1 ⟨rfl, hb⟩
  have HB := Lib.hid hb
  clear hb
  go_wp2_with fail
  refine (told_yes 951782400500 _ (by decide) text_b _ (HL.out.below HB.out)).mono ?_
  rintro e w2 ⟨rfl, hb⟩
  have HB := Lib.hid (HB.out.trans (hb.mono HB.out.size))
  clear hb
  go_wp2_with fail
  refine (told_yes 253402300799999 _ (by decide) text_c _ (HL.out.below HB.out)).mono ?_
  rintro e w3 ⟨rfl, hb⟩
  have HB := Lib.hid (HB.out.trans (hb.mono HB.out.size))
  clear hb
  go_wp2
  go_ret
  exact ⟨rfl, HB.out⟩

end Go.Proofs.YtholkbgkkfndhaaDoor
