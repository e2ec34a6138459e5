/-
  OID: THE REFERENCE's Parse.
-/
import Derived.Test.YtojphfkiblhhiaaDoorOidL
namespace Go.Proofs.YtojphfkiblhhiaaDoor
open Go.RowKit
set_option maxRecDepth 100000

theorem extractO (s : List UInt8) (i j : Nat) (p : List UInt8) (hp : (s.take j).drop i = p) : (⟨s.toArray⟩ : ByteArray).extract i j = ⟨p.toArray⟩ := by
  subst hp
  have : ((⟨s.toArray⟩ : ByteArray).extract i j).data = ((s.take j).drop i).toArray := by
    rw [ByteArray.data_extract, List.extract_toArray, List.extract_eq_take_drop, List.drop_take]
  cases h : (⟨s.toArray⟩ : ByteArray).extract i j with
  | mk d => rw [h] at this; exact congrArg ByteArray.mk this

theorem run_cutO (s : List UInt8) (i j : Nat) (p : List UInt8) (hij : i ≤ j) (hj : j ≤ s.length) (hp : (s.take j).drop i = p) (W : World) : (Instr.slice 9 (.string ⟨s.toArray⟩) (some (.int .i64 (i : Int))) (some (.int .i64 (j : Int))) none).run Tryd.prog W = .ok (.string ⟨p.toArray⟩) W := by
  have hz : (⟨s.toArray⟩ : ByteArray).size = s.length := by show s.toArray.size = _; rw [List.size_toArray]
  rw [run_slice_string_if (h := Tryd.underlying9), hz, if_pos ⟨by omega, by omega⟩, if_pos ⟨by omega, by omega⟩, Int.toNat_natCast, Int.toNat_natCast, extractO s i j p hp]

theorem no_word {s : List UInt8} {p : List UInt8} (hp : p ∈ splitS s) (h : ∀ n, ¬ SpelD p n) : parseR s = ([], 140) := by
  refine parseR_no fun l hl => ?_
  have hs := split_text l hl.1.some
  rw [hl.2] at hs
  rw [hs, List.mem_map] at hp
  obtain ⟨n, hn, rfl⟩ := hp
  exact h n ⟨hl.1.2.2.1 n hn, rfl⟩

theorem told_all {s : List UInt8} {L : List Nat} (h : splitS s = L.map Lib.decDigits) (hb : ∀ x ∈ L, x < 9223372036854775808) : (OidOk L → parseR s = (L, 0)) ∧ (¬ OidOk L → parseR s = ([], 140)) := by
  have hj := join_splitS s
  rw [h] at hj
  refine ⟨fun k => parseR_yes ⟨k, hj⟩, fun k => parseR_no fun l hl => k ?_⟩
  have hs := split_text l hl.1.some
  rw [hl.2, h] at hs
  rw [map_dec_inj L l (fun x hx => Nat.lt_trans (hb x hx) (by decide)) hl.1.lt hs]
  exact hl.1

/-- How far the reference's Parse is: numbers told, and where the next word begins. -/
structure FarO (s : List UInt8) (L : List Nat) (start i : Nat) : Prop where
  le : start ≤ i
  clean : ∀ c ∈ (s.take i).drop start, c ≠ 46
  so : splitS s = L.map Lib.decDigits ++ splitS (s.drop start)
  small : ∀ x ∈ L, x < 9223372036854775808

theorem FarO.next {s : List UInt8} {L : List Nat} {start i : Nat} (h : FarO s L start i) {c : UInt8} (hc : s[i]? = some c) (hd : c ≠ 46) : FarO s L start (i + 1) := by
  refine ⟨Nat.le_succ_of_le h.le, fun x hx => ?_, h.so, h.small⟩
  rw [List.take_add_one, hc, Option.toList_some, List.drop_append_of_le_length (by
    have := (List.getElem?_eq_some_iff.1 hc).1
    rw [List.length_take]
    have := h.le
    omega), List.mem_append, List.mem_singleton] at hx
  rcases hx with hx | rfl
  · exact h.clean x hx
  · exact hd

theorem FarO.word {s : List UInt8} {L : List Nat} {start i : Nat} (h : FarO s L start i) {c : UInt8} (hc : s[i]? = some c) (hd : c = 46) : splitS s = L.map Lib.decDigits ++ (s.take i).drop start :: splitS (s.drop (i + 1)) := by
  have hi := (List.getElem?_eq_some_iff.1 hc).1
  have e : s.drop start = (s.take i).drop start ++ 46 :: s.drop (i + 1) := by
    conv => lhs; rw [← List.take_append_drop i s]
    rw [List.drop_append_of_le_length (by rw [List.length_take]; have := h.le; omega), List.drop_eq_getElem_cons hi]
    congr 2
    rw [← hd]
    have := (List.getElem?_eq_some_iff.1 hc).2
    exact this
  rw [h.so, e, splitS_append _ _ h.clean]

theorem FarO.last {s : List UInt8} {L : List Nat} {start : Nat} (h : FarO s L start s.length) : splitS s = L.map Lib.decDigits ++ [(s.take s.length).drop start] := by
  have e := splitS_clean _ h.clean
  rw [h.so]
  congr 1
  rw [List.take_length] at e ⊢
  exact e

theorem FarO.told {s : List UInt8} {L : List Nat} {start i : Nat} (h : FarO s L start i) {c : UInt8} (hc : s[i]? = some c) (hd : c = 46) {n : Nat} (hn : SpelD ((s.take i).drop start) n) : FarO s (L ++ [n]) (i + 1) (i + 1) := by
  refine ⟨Nat.le_refl _, fun x hx => ?_, ?_, fun x hx => ?_⟩
  · rw [List.drop_eq_nil_of_le (by rw [List.length_take]; omega)] at hx
    cases hx
  · rw [h.word hc hd, hn.2, List.map_append, List.append_assoc]
    rfl
  · rw [List.mem_append, List.mem_singleton] at hx
    rcases hx with hx | rfl
    · exact h.small x hx
    · exact hn.1

/-- All of it: the end, or on the way. -/
def WayO (s : List UInt8) (L : List Nat) (start i : Nat) : Prop := (i ≤ s.length ∧ FarO s L start i) ∨ (i = s.length + 1 ∧ splitS s = L.map Lib.decDigits ∧ ∀ x ∈ L, x < 9223372036854775808)

theorem FarO.ends {s : List UInt8} {L : List Nat} {start : Nat} (h : FarO s L start s.length) {n : Nat} (hn : SpelD ((s.take s.length).drop start) n) : WayO s (L ++ [n]) (s.length + 1) (s.length + 1) := by
  refine .inr ⟨rfl, ?_, fun x hx => ?_⟩
  · rw [h.last, hn.2, List.map_append]
    rfl
  · rw [List.mem_append, List.mem_singleton] at hx
    rcases hx with hx | rfl
    · exact h.small x hx
    · exact hn.1
end Go.Proofs.YtojphfkiblhhiaaDoor
