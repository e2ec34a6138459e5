/-
  OID: WHAT OidNames KNOWS OF TEXTS AND BYTES (pure). (Written by wip/gen_oidN.py.)
-/
import Derived.Test.YtojphfkiblhhiaaDoorOidX
namespace Go.Proofs.YtojphfkiblhhiaaDoor
open Go.RowKit
set_option maxRecDepth 100000

def goodP (p : List UInt8) : Bool := !p.isEmpty && p.all (fun c => Nat.ble 48 c.toNat && Nat.ble c.toNat 57) && (Nat.ble p.length 1 || !(p.headD 0 == 48))
theorem goodP_dec {p : List UInt8} (h : goodP p = true) : Lib.decDigits (valD p) = p := by
  unfold goodP at h
  simp only [Bool.and_eq_true, Bool.or_eq_true, List.all_eq_true, Nat.ble_eq, Bool.not_eq_true', beq_eq_false_iff_ne] at h
  obtain ⟨⟨h1, h2⟩, h3⟩ := h
  refine dec_val p (fun e => by rw [e] at h1; exact absurd h1 (by decide)) (fun c hc => h2 c hc) (fun hl e => ?_)
  rcases h3 with h3 | h3
  · omega
  · cases p with
    | nil => simp at e
    | cons c r => simp at e h3; exact h3 e
theorem goodP_of (n : Nat) : goodP (Lib.decDigits n) = true := by
  have h1 := dec_some n
  have h2 := dec_range n
  unfold goodP
  simp only [Bool.and_eq_true, Bool.or_eq_true, List.all_eq_true, Nat.ble_eq, Bool.not_eq_true', beq_eq_false_iff_ne]
  refine ⟨⟨by cases h : Lib.decDigits n with
    | nil => exact absurd h h1
    | cons _ _ => rfl, fun c hc => h2 c hc⟩, ?_⟩
  by_cases h10 : n < 10
  · left; rw [dec_short n h10]; simp
  · right
    have h3 := dec_head n (by omega)
    cases h : Lib.decDigits n with
    | nil => exact absurd h h1
    | cons c r =>
      rw [h] at h3
      simp at h3 ⊢
      exact h3
theorem text_good {s : List UInt8} (h : (splitS s).all goodP = true) : textO (numsT s) = s := by
  have e : (numsT s).map Lib.decDigits = splitS s := by
    unfold numsT
    rw [List.map_map]
    conv => rhs; rw [← List.map_id (splitS s)]
    exact List.map_congr_left fun p hp => goodP_dec (List.all_eq_true.1 h p hp)
  show Lib.join ((numsT s).map Lib.decDigits) [46] = s
  rw [e, join_splitS]
theorem parse_no {s : List UInt8} (h : ((splitS s).all goodP && decide (OidOk (numsT s))) = false) : parseR s = ([], 140) := by
  refine parseR_no fun l hl => ?_
  have hs := split_text l hl.1.some
  rw [hl.2] at hs
  have h1 : (splitS s).all goodP = true := by
    rw [hs, List.all_eq_true]
    intro p hp
    obtain ⟨n, _, rfl⟩ := List.mem_map.1 hp
    exact goodP_of n
  have h2 : numsT s = l := by
    unfold numsT
    rw [hs, List.map_map]
    conv => rhs; rw [← List.map_id l]
    exact List.map_congr_left fun n _ => val_dec n
  rw [h1, h2, decide_eq_true hl.1] at h
  cases h
theorem parse_yes {s : List UInt8} (h : ((splitS s).all goodP && decide (OidOk (numsT s))) = true) : parseR s = (numsT s, 0) := by
  rw [Bool.and_eq_true] at h
  exact parseR_yes ⟨of_decide_eq_true h.2, text_good h.1⟩

abbrev textsN : Array Value := #[.string ⟨#[]⟩, .string ⟨#[49]⟩, .string ⟨#[51, 46, 49]⟩, .string ⟨#[48, 46, 52, 48]⟩, .string ⟨#[49, 46, 52, 48]⟩, .string ⟨#[49, 46, 48, 50]⟩, .string ⟨#[49, 46, 46, 50]⟩, .string ⟨#[46, 49, 46, 50]⟩, .string ⟨#[49, 46, 50, 46]⟩, .string ⟨#[49, 46, 45, 50]⟩, .string ⟨#[43, 49, 46, 50]⟩, .string ⟨#[49, 46, 57, 50, 50, 51, 51, 55, 50, 48, 51, 54, 56, 53, 52, 55, 55, 53, 56, 48, 56]⟩, .string ⟨#[50, 46, 57, 50, 50, 51, 51, 55, 50, 48, 51, 54, 56, 53, 52, 55, 55, 53, 56, 48, 55]⟩, .string ⟨#[49, 46, 50, 32]⟩, .string ⟨#[49, 46, 50, 46, 51, 46, 52, 46, 53, 46, 54, 46, 55, 46, 56, 46, 57, 46, 49, 48, 46, 49, 49, 46, 49, 50, 46, 49, 51, 46, 49, 52, 46, 49, 53, 46, 49, 54, 46, 49, 55, 46, 49, 56, 46, 49, 57, 46, 50, 48, 46, 50, 49]⟩]
theorem texts_n (i : Nat) (h : i < 15) : ∃ s : List UInt8, textsN.toList[i]? = some (.string ⟨s.toArray⟩) ∧ s.length ≤ 100 ∧ parseR s = ([], 140) := by
  match i, h with
  | 0, _ => exact ⟨[], rfl, by decide, parse_no (by kernel_rfl)⟩
  | 1, _ => exact ⟨[49], rfl, by decide, parse_no (by kernel_rfl)⟩
  | 2, _ => exact ⟨[51, 46, 49], rfl, by decide, parse_no (by kernel_rfl)⟩
  | 3, _ => exact ⟨[48, 46, 52, 48], rfl, by decide, parse_no (by kernel_rfl)⟩
  | 4, _ => exact ⟨[49, 46, 52, 48], rfl, by decide, parse_no (by kernel_rfl)⟩
  | 5, _ => exact ⟨[49, 46, 48, 50], rfl, by decide, parse_no (by kernel_rfl)⟩
  | 6, _ => exact ⟨[49, 46, 46, 50], rfl, by decide, parse_no (by kernel_rfl)⟩
  | 7, _ => exact ⟨[46, 49, 46, 50], rfl, by decide, parse_no (by kernel_rfl)⟩
  | 8, _ => exact ⟨[49, 46, 50, 46], rfl, by decide, parse_no (by kernel_rfl)⟩
  | 9, _ => exact ⟨[49, 46, 45, 50], rfl, by decide, parse_no (by kernel_rfl)⟩
  | 10, _ => exact ⟨[43, 49, 46, 50], rfl, by decide, parse_no (by kernel_rfl)⟩
  | 11, _ => exact ⟨[49, 46, 57, 50, 50, 51, 51, 55, 50, 48, 51, 54, 56, 53, 52, 55, 55, 53, 56, 48, 56], rfl, by decide, parse_no (by kernel_rfl)⟩
  | 12, _ => exact ⟨[50, 46, 57, 50, 50, 51, 51, 55, 50, 48, 51, 54, 56, 53, 52, 55, 55, 53, 56, 48, 55], rfl, by decide, parse_no (by kernel_rfl)⟩
  | 13, _ => exact ⟨[49, 46, 50, 32], rfl, by decide, parse_no (by kernel_rfl)⟩
  | 14, _ => exact ⟨[49, 46, 50, 46, 51, 46, 52, 46, 53, 46, 54, 46, 55, 46, 56, 46, 57, 46, 49, 48, 46, 49, 49, 46, 49, 50, 46, 49, 51, 46, 49, 52, 46, 49, 53, 46, 49, 54, 46, 49, 55, 46, 49, 56, 46, 49, 57, 46, 50, 48, 46, 50, 49], rfl, by decide, parse_no (by kernel_rfl)⟩
  | n + 15, h => exact absurd h (by omega)
abbrev bytesN : Array Value := #[.string ⟨#[]⟩, .string ⟨#[42, 128, 1]⟩, .string ⟨#[42, 134]⟩, .string ⟨#[128]⟩, .string ⟨#[42, 129, 128, 128, 128, 128, 128, 128, 128, 128, 0]⟩]
theorem bytes_n (i : Nat) (h : i < 5) : ∃ l : List Nat, bytesN.toList[i]? = some (.string ⟨(u8s l).toArray⟩) ∧ l.length ≤ 100 ∧ Byt l ∧ readO l = ([], 140) := by
  match i, h with
  | 0, _ => exact ⟨[], rfl, by decide, by decide, by kernel_rfl⟩
  | 1, _ => exact ⟨[42, 128, 1], rfl, by decide, by decide, by kernel_rfl⟩
  | 2, _ => exact ⟨[42, 134], rfl, by decide, by decide, by kernel_rfl⟩
  | 3, _ => exact ⟨[128], rfl, by decide, by decide, by kernel_rfl⟩
  | 4, _ => exact ⟨[42, 129, 128, 128, 128, 128, 128, 128, 128, 128, 0], rfl, by decide, by decide, by kernel_rfl⟩
  | n + 5, h => exact absurd h (by omega)

theorem known_texted : (knownT.all fun x => match knownT.find? (fun y => y.2 == x.2) with
  | some y => y.1 == x.1
  | none => false) = true := by kernel_rfl
theorem nameR_of {x : List UInt8 × List UInt8} (h : x ∈ knownT) : nameR (bytesO (numsT x.2)) = x.1 := by
  have ht := known_text h
  have := List.all_eq_true.1 known_texted x h
  unfold nameR
  rw [readO_yes ht.1]
  dsimp only
  rw [if_pos rfl, ht.2]
  cases hf : knownT.find? (fun y => y.2 == x.2) with
  | none => rw [hf] at this; cases this
  | some y =>
    rw [hf] at this
    dsimp only at this ⊢
    exact eq_of_beq this
theorem known_long : (knownT.all fun x => Nat.ble 3 (bytesO (numsT x.2)).length && Nat.ble (bytesO (numsT x.2)).length 100) = true := by kernel_rfl
theorem long_of {x : List UInt8 × List UInt8} (h : x ∈ knownT) : 3 ≤ (bytesO (numsT x.2)).length ∧ (bytesO (numsT x.2)).length ≤ 100 := by
  have := List.all_eq_true.1 known_long x h
  simpa using this
abbrev bigS : List UInt8 := [50, 46, 57, 50, 50, 51, 51, 55, 50, 48, 51, 54, 56, 53, 52, 55, 55, 53, 55, 50, 55]
theorem big_parse : parseR bigS = (numsT bigS, 0) := parse_yes (by kernel_rfl)
theorem big_bytes : bytesR (numsT bigS) = ([255, 255, 255, 255, 255, 255, 255, 255, 127], 0) := by kernel_rfl
theorem named_data : namedR [100, 97, 116, 97] = [42, 134, 72, 134, 247, 13, 1, 7, 1] := by kernel_rfl
theorem named_none : namedR [110, 111, 110, 101] = [] := by kernel_rfl
theorem name_nil : nameR [] = [] := by
  unfold nameR
  rw [show readO [] = ([], 140) by kernel_rfl]
  rfl
theorem name_stamp : nameR [43, 6, 1, 5, 5, 7, 3, 8] = [116, 105, 109, 101, 83, 116, 97, 109, 112, 105, 110, 103] := nameR_of (x := ([116, 105, 109, 101, 83, 116, 97, 109, 112, 105, 110, 103], [49, 46, 51, 46, 54, 46, 49, 46, 53, 46, 53, 46, 55, 46, 51, 46, 56])) (by simp [knownT])
end Go.Proofs.YtojphfkiblhhiaaDoor
