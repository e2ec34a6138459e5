/-
  HOUR: what is no time's text. (Written by wip/gen_hourN.py.)
-/
import Derived.Test.YtholkbgkkfndhaaDoorHourJ
namespace Go.Proofs.YtholkbgkkfndhaaDoor
open Go.RowKit
set_option maxRecDepth 100000

def NoText (s : List UInt8) : Prop := ∀ n : Nat, n ≤ 253402300799999 → ¬ IsText n s
theorem no_text_f {s : List UInt8} (h : (readR 4 s).2 = false) : NoText s := fun n hn hs => by rw [read_text hs hn] at h; cases h
theorem no_text_l {s : List UInt8} (h : s.length < 15) : NoText s := fun n _ hs => by have := (text_length hs).1; omega
theorem no_text_b {s l : List UInt8} {m : Nat} (h : (readR 4 s).1 = (m : Int)) (hl : IsText m l) (hne : l ≠ s) : NoText s := fun n hn hs => by
  rw [read_text hs hn] at h
  dsimp only at h
  obtain rfl : n = m := by omega
  exact hne (text_unique hl hs)
theorem rets_read_no {s : List UInt8} {e : Ending} (h : RetsRead s e) (hn : NoText s) : e = .returned (.tuple #[.int .i64 0, .int .i64 150]) := by
  rcases h with ⟨n, h1, h2, _⟩ | ⟨_, rfl⟩
  · exact absurd h2 (hn n h1)
  · rfl
theorem rets_reads_no {s : List UInt8} {e : Ending} (h : RetsReadS s e) (hn : (readR 2 s).2 = false ∨ (readR 2 s).1 % 1000 ≠ 0) : e = .returned (.tuple #[.int .i64 0, .int .i64 150]) := by
  rcases h with ⟨n, l, h1, h2, rfl, _⟩ | ⟨_, rfl⟩
  · exfalso
    rw [read_short h2 h1] at hn
    obtain ⟨k, _, _, _, hk, _, h3, _⟩ := h1
    dsimp only at hn
    rcases hn with h | h
    · cases h
    · omega
  · rfl
def listsN : List (List UInt8) := [[], [50, 48, 48, 48, 48, 50, 50, 57, 48, 48, 48, 48, 48, 48, 46, 53, 48, 90], [50, 48, 48, 49, 48, 50, 50, 57, 48, 48, 48, 48, 48, 48, 90], [50, 48, 48, 48, 48, 49, 48, 49, 50, 52, 48, 48, 48, 48, 90], [50, 48, 48, 48, 48, 49, 48, 49, 48, 48, 54, 48, 48, 48, 90], [50, 48, 48, 48, 48, 49, 48, 49, 48, 48, 48, 48, 54, 48, 90], [50, 48, 48, 48, 48, 49, 48, 49, 48, 48, 48, 48, 48, 48], [50, 48, 48, 48, 48, 49, 48, 49, 48, 48, 48, 48, 48, 48, 46, 90], [50, 48, 48, 48, 48, 49, 48, 49, 48, 48, 48, 48, 48, 48, 46, 49, 50, 51, 52, 90], [50, 48, 48, 48, 48, 49, 48, 49, 48, 48, 48, 48, 48, 48, 122], [49, 57, 54, 57, 49, 50, 51, 49, 50, 51, 53, 57, 53, 57, 90], [48, 48, 48, 48, 48, 49, 48, 49, 48, 48, 48, 48, 48, 48, 90], [50, 48, 48, 48, 48, 49, 48, 49, 48, 48, 48, 48, 48, 90], [43, 48, 48, 48, 48, 49, 48, 49, 48, 48, 48, 48, 48, 48, 90], [50, 48, 48, 48, 48, 49, 48, 49, 48, 48, 48, 48, 48, 48, 46, 53], [50, 48, 48, 48, 48, 49, 48, 49, 48, 48, 48, 48, 48, 48, 90, 32]]

theorem none0 : NoText [] := no_text_l (by decide)

theorem none1 : NoText [50, 48, 48, 48, 48, 50, 50, 57, 48, 48, 48, 48, 48, 48, 46, 53, 48, 90] :=
  no_text_b (m := 951782400500) (l := [50, 48, 48, 48, 48, 50, 50, 57, 48, 48, 48, 48, 48, 48, 46, 53, 90]) (by kernel_rfl) ⟨2000, 2, 29, ⟨by decide, by decide, by decide, by decide, by decide, by decide⟩, by kernel_rfl⟩ (by decide)

theorem none2 : NoText [50, 48, 48, 49, 48, 50, 50, 57, 48, 48, 48, 48, 48, 48, 90] := no_text_f (by kernel_rfl)

theorem none3 : NoText [50, 48, 48, 48, 48, 49, 48, 49, 50, 52, 48, 48, 48, 48, 90] :=
  no_text_b (m := 946771200000) (l := [50, 48, 48, 48, 48, 49, 48, 50, 48, 48, 48, 48, 48, 48, 90]) (by kernel_rfl) ⟨2000, 1, 2, ⟨by decide, by decide, by decide, by decide, by decide, by decide⟩, by kernel_rfl⟩ (by decide)

theorem none4 : NoText [50, 48, 48, 48, 48, 49, 48, 49, 48, 48, 54, 48, 48, 48, 90] :=
  no_text_b (m := 946688400000) (l := [50, 48, 48, 48, 48, 49, 48, 49, 48, 49, 48, 48, 48, 48, 90]) (by kernel_rfl) ⟨2000, 1, 1, ⟨by decide, by decide, by decide, by decide, by decide, by decide⟩, by kernel_rfl⟩ (by decide)

theorem none5 : NoText [50, 48, 48, 48, 48, 49, 48, 49, 48, 48, 48, 48, 54, 48, 90] :=
  no_text_b (m := 946684860000) (l := [50, 48, 48, 48, 48, 49, 48, 49, 48, 48, 48, 49, 48, 48, 90]) (by kernel_rfl) ⟨2000, 1, 1, ⟨by decide, by decide, by decide, by decide, by decide, by decide⟩, by kernel_rfl⟩ (by decide)

theorem none6 : NoText [50, 48, 48, 48, 48, 49, 48, 49, 48, 48, 48, 48, 48, 48] := no_text_l (by decide)

theorem none7 : NoText [50, 48, 48, 48, 48, 49, 48, 49, 48, 48, 48, 48, 48, 48, 46, 90] :=
  no_text_b (m := 946684800000) (l := [50, 48, 48, 48, 48, 49, 48, 49, 48, 48, 48, 48, 48, 48, 90]) (by kernel_rfl) ⟨2000, 1, 1, ⟨by decide, by decide, by decide, by decide, by decide, by decide⟩, by kernel_rfl⟩ (by decide)

theorem none8 : NoText [50, 48, 48, 48, 48, 49, 48, 49, 48, 48, 48, 48, 48, 48, 46, 49, 50, 51, 52, 90] :=
  no_text_b (m := 946684800000) (l := [50, 48, 48, 48, 48, 49, 48, 49, 48, 48, 48, 48, 48, 48, 90]) (by kernel_rfl) ⟨2000, 1, 1, ⟨by decide, by decide, by decide, by decide, by decide, by decide⟩, by kernel_rfl⟩ (by decide)

theorem none9 : NoText [50, 48, 48, 48, 48, 49, 48, 49, 48, 48, 48, 48, 48, 48, 122] :=
  no_text_b (m := 946684800000) (l := [50, 48, 48, 48, 48, 49, 48, 49, 48, 48, 48, 48, 48, 48, 90]) (by kernel_rfl) ⟨2000, 1, 1, ⟨by decide, by decide, by decide, by decide, by decide, by decide⟩, by kernel_rfl⟩ (by decide)

theorem none10 : NoText [49, 57, 54, 57, 49, 50, 51, 49, 50, 51, 53, 57, 53, 57, 90] := no_text_f (by kernel_rfl)

theorem none11 : NoText [48, 48, 48, 48, 48, 49, 48, 49, 48, 48, 48, 48, 48, 48, 90] := no_text_f (by kernel_rfl)

theorem none12 : NoText [50, 48, 48, 48, 48, 49, 48, 49, 48, 48, 48, 48, 48, 90] := no_text_l (by decide)

theorem none13 : NoText [43, 48, 48, 48, 48, 49, 48, 49, 48, 48, 48, 48, 48, 48, 90] := no_text_f (by kernel_rfl)

theorem none14 : NoText [50, 48, 48, 48, 48, 49, 48, 49, 48, 48, 48, 48, 48, 48, 46, 53] :=
  no_text_b (m := 946684800500) (l := [50, 48, 48, 48, 48, 49, 48, 49, 48, 48, 48, 48, 48, 48, 46, 53, 90]) (by kernel_rfl) ⟨2000, 1, 1, ⟨by decide, by decide, by decide, by decide, by decide, by decide⟩, by kernel_rfl⟩ (by decide)

theorem none15 : NoText [50, 48, 48, 48, 48, 49, 48, 49, 48, 48, 48, 48, 48, 48, 90, 32] :=
  no_text_b (m := 946684800000) (l := [50, 48, 48, 48, 48, 49, 48, 49, 48, 48, 48, 48, 48, 48, 90]) (by kernel_rfl) ⟨2000, 1, 1, ⟨by decide, by decide, by decide, by decide, by decide, by decide⟩, by kernel_rfl⟩ (by decide)

abbrev cellsN : Array Value := #[.string ⟨#[]⟩, .string ⟨#[50, 48, 48, 48, 48, 50, 50, 57, 48, 48, 48, 48, 48, 48, 46, 53, 48, 90]⟩, .string ⟨#[50, 48, 48, 49, 48, 50, 50, 57, 48, 48, 48, 48, 48, 48, 90]⟩, .string ⟨#[50, 48, 48, 48, 48, 49, 48, 49, 50, 52, 48, 48, 48, 48, 90]⟩, .string ⟨#[50, 48, 48, 48, 48, 49, 48, 49, 48, 48, 54, 48, 48, 48, 90]⟩, .string ⟨#[50, 48, 48, 48, 48, 49, 48, 49, 48, 48, 48, 48, 54, 48, 90]⟩, .string ⟨#[50, 48, 48, 48, 48, 49, 48, 49, 48, 48, 48, 48, 48, 48]⟩, .string ⟨#[50, 48, 48, 48, 48, 49, 48, 49, 48, 48, 48, 48, 48, 48, 46, 90]⟩, .string ⟨#[50, 48, 48, 48, 48, 49, 48, 49, 48, 48, 48, 48, 48, 48, 46, 49, 50, 51, 52, 90]⟩, .string ⟨#[50, 48, 48, 48, 48, 49, 48, 49, 48, 48, 48, 48, 48, 48, 122]⟩, .string ⟨#[49, 57, 54, 57, 49, 50, 51, 49, 50, 51, 53, 57, 53, 57, 90]⟩, .string ⟨#[48, 48, 48, 48, 48, 49, 48, 49, 48, 48, 48, 48, 48, 48, 90]⟩, .string ⟨#[50, 48, 48, 48, 48, 49, 48, 49, 48, 48, 48, 48, 48, 90]⟩, .string ⟨#[43, 48, 48, 48, 48, 49, 48, 49, 48, 48, 48, 48, 48, 48, 90]⟩, .string ⟨#[50, 48, 48, 48, 48, 49, 48, 49, 48, 48, 48, 48, 48, 48, 46, 53]⟩, .string ⟨#[50, 48, 48, 48, 48, 49, 48, 49, 48, 48, 48, 48, 48, 48, 90, 32]⟩]
theorem cells_n (i : Nat) (h : i < 16) : ∃ s : List UInt8, cellsN.toList[i]? = some (.string ⟨s.toArray⟩) ∧ s.length ≤ 20 ∧ NoText s := by
  match i, h with
  | 0, _ => exact ⟨[], rfl, by decide, none0⟩
  | 1, _ => exact ⟨[50, 48, 48, 48, 48, 50, 50, 57, 48, 48, 48, 48, 48, 48, 46, 53, 48, 90], rfl, by decide, none1⟩
  | 2, _ => exact ⟨[50, 48, 48, 49, 48, 50, 50, 57, 48, 48, 48, 48, 48, 48, 90], rfl, by decide, none2⟩
  | 3, _ => exact ⟨[50, 48, 48, 48, 48, 49, 48, 49, 50, 52, 48, 48, 48, 48, 90], rfl, by decide, none3⟩
  | 4, _ => exact ⟨[50, 48, 48, 48, 48, 49, 48, 49, 48, 48, 54, 48, 48, 48, 90], rfl, by decide, none4⟩
  | 5, _ => exact ⟨[50, 48, 48, 48, 48, 49, 48, 49, 48, 48, 48, 48, 54, 48, 90], rfl, by decide, none5⟩
  | 6, _ => exact ⟨[50, 48, 48, 48, 48, 49, 48, 49, 48, 48, 48, 48, 48, 48], rfl, by decide, none6⟩
  | 7, _ => exact ⟨[50, 48, 48, 48, 48, 49, 48, 49, 48, 48, 48, 48, 48, 48, 46, 90], rfl, by decide, none7⟩
  | 8, _ => exact ⟨[50, 48, 48, 48, 48, 49, 48, 49, 48, 48, 48, 48, 48, 48, 46, 49, 50, 51, 52, 90], rfl, by decide, none8⟩
  | 9, _ => exact ⟨[50, 48, 48, 48, 48, 49, 48, 49, 48, 48, 48, 48, 48, 48, 122], rfl, by decide, none9⟩
  | 10, _ => exact ⟨[49, 57, 54, 57, 49, 50, 51, 49, 50, 51, 53, 57, 53, 57, 90], rfl, by decide, none10⟩
  | 11, _ => exact ⟨[48, 48, 48, 48, 48, 49, 48, 49, 48, 48, 48, 48, 48, 48, 90], rfl, by decide, none11⟩
  | 12, _ => exact ⟨[50, 48, 48, 48, 48, 49, 48, 49, 48, 48, 48, 48, 48, 90], rfl, by decide, none12⟩
  | 13, _ => exact ⟨[43, 48, 48, 48, 48, 49, 48, 49, 48, 48, 48, 48, 48, 48, 90], rfl, by decide, none13⟩
  | 14, _ => exact ⟨[50, 48, 48, 48, 48, 49, 48, 49, 48, 48, 48, 48, 48, 48, 46, 53], rfl, by decide, none14⟩
  | 15, _ => exact ⟨[50, 48, 48, 48, 48, 49, 48, 49, 48, 48, 48, 48, 48, 48, 90, 32], rfl, by decide, none15⟩
  | n + 16, h => exact absurd h (by omega)
end Go.Proofs.YtholkbgkkfndhaaDoor
