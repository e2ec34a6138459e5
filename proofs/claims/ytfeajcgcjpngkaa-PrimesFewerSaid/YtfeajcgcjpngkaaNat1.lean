/-
  WALKS OF NAT's SMALL FUNCTIONS: bare, may, limb, slices.Clone, Trim.
-/
import Derived.Test.YtfeajcgcjpngkaaRows
import Derived.Test.YtfeajcgcjpngkaaNatMath
import Derived.WalkKit
import Derived.Deep.QuietTactic
import Derived.BigQuiet
import Derived.Lib.Hide
namespace Go.Proofs.Ytfeajcgcjpngkaa
open Go.RowKit

theorem Try.info32 : (Try.prog.info? 39).map (fun i => (i.zero, i.size, i.bytes)) = some (some (.int .u32 0), 1, 4) := by kernel_rfl

def lenOf : Value → Nat
  | .slice _ n _ => n
  | _ => 0

theorem Reads.bare {q : IntKind} {w : World} {a : Option Addr} {len cap : Nat} {l : List Nat} (h : Reads q w a len cap l) : Reads q w a (bareN l).length cap (bareN l) := by
  have h1 := bareN_le l
  have h2 := h.upto (bareN l).length (by have := h.length; omega)
  rwa [← bareN_prefix] at h2

theorem bareN_len {l : List Nat} {k : Nat} (hk : k ≤ l.length) (h : bareN l = l.take k) : k = (bareN l).length := by
  rw [h, List.length_take]; omega

set_option maxHeartbeats 400000 in
theorem bare32_any (a : Option Addr) (len cap : Nat) (l : List Nat) (w : World) (h : Reads .u32 w a len cap l) :
    Calls Try.prog 47 #[.slice a len cap] w fun e w' => e = .returned (.slice a (bareN l).length cap) ∧ w = w' := by
  have hm := h.len_le
  unfold maxLen at hm
  have hcm := h.max
  unfold maxLen at hcm
  have hle := h.le
  have hl := Lib.hid h.length
  have H := Lib.hid h
  go_enter Try.func47, Try.ntmps47
  go_wp2
  go_loop [0] (fun v => ∃ k : Nat, k ≤ len ∧ v = .slice a k cap ∧ Hid (bareN l = bareN (l.take k))) (fun v => lenOf v)
  case atStart => exact ⟨len, Nat.le_refl _, rfl, by unfold Hid; rw [List.take_of_length_le (by rw [hl.out]; exact Nat.le_refl _)]⟩
  case round =>
    obtain ⟨k, hk, rfl, hrest⟩ := hrel
    rcases Nat.eq_zero_or_pos k with rfl | hp
    · go_wp2
      go_ret
      have e : (0 : Nat) = (bareN l).length := by rw [hrest.out]; rfl
      exact ⟨by rw [← e]; rfl, rfl⟩
    · obtain ⟨j, rfl⟩ : ∃ j, k = j + 1 := ⟨k - 1, by omega⟩
      clear hp
      obtain ⟨b, off, rfl, hbl, hc⟩ := H.out.cells (by omega)
      have hcj := hc j (by omega)
      have hst := Lib.hid (bareN_step l j (by have := hl.out; omega))
      clear hc
      generalize l[j]?.getD 0 = x at *
      by_cases hx0 : x = 0
      · subst hx0
        go_wp2
        go_round
        case rel => exact ⟨j, by omega, rfl, by have := hst.out; rw [if_pos rfl] at this; unfold Hid; rw [hrest.out, this]⟩
        case measure => simp [lenOf]
      · have hx1 : ((x : Int) == 0) = false := by simp; omega
        have e : j + 1 = (bareN l).length := by
          have := hst.out
          rw [if_neg hx0] at this
          exact bareN_len (by have := hl.out; omega) (by rw [hrest.out, this])
        have E := Lib.hid e
        clear e
        go_wp2
        go_ret
        exact ⟨by rw [← E.out]; rfl, rfl⟩

/-- What is handed back reads as l, in memory of the call's own. -/
def RetsQ (q : IntKind) (E : TypeId) (B : Nat) (w' : World) (l : List Nat) (e : Ending) : Prop := ∃ v, e = .returned v ∧ OwnQ q E B w' v l
def RetsQ2 (q : IntKind) (E : TypeId) (B : Nat) (w' : World) (r : List Nat × Int) (e : Ending) : Prop := ∃ v, e = .returned (.tuple #[v, .int .i64 r.2]) ∧ OwnQ q E B w' v r.1

theorem OwnQ.slice {q : IntKind} {E : TypeId} {B : Nat} {w : World} {v : Value} {l : List Nat} (h : OwnQ q E B w v l) : ∃ a n cap, v = .slice a n cap ∧ n = l.length ∧ OwnQ q E B w (.slice a n cap) l := by
  obtain ⟨a, cap, rfl, _, _⟩ := h.form
  exact ⟨a, _, cap, rfl, rfl, h⟩

set_option maxHeartbeats 400000 in
theorem clone32_any (a : Option Addr) (len cap : Nat) (l : List Nat) (w : World) (h : Reads .u32 w a len cap l) (hm : len ≤ 17592186044416) :
    Calls Try.prog 55 #[.slice a len cap] w fun e w' => RetsQ .u32 39 w.heap.size w' l e ∧ Below w.heap.size w w' := by
  have H := Lib.hid h
  have hl := Lib.hid h.length
  obtain ⟨i0, hi, hz0, hz1, hz2⟩ := info_parts Try.info32
  cases a with
  | none =>
    obtain rfl : cap = 0 := h.nil rfl
    obtain rfl : len = 0 := by have := h.le; omega
    obtain rfl : l = [] := List.eq_nil_of_length_eq_zero h.length
    have he := fun W : World => Lib.run_eql_slice_nil (P := Try.prog) W 37 39 none 0 0 0 0 Try.underlying37
    go_enter Try.func55, Try.ntmps55
    go_wp2
    go_ret
    exact ⟨⟨_, rfl, OwnQ.nil _ _ _ _⟩, Below.refl _ _⟩
  | some ad =>
    clear h
    have he := fun W : World => Lib.run_eql_slice_nil (P := Try.prog) W 37 39 (some ad) len cap 0 0 Try.underlying37
    go_enter Try.func55, Try.ntmps55
    go_wp2_with (at_builtin; refine wpList_append_q .u32 _ rfl _ _ 37 rfl w.heap.size 39 4 i0 Try.underlying37 hi hz0 hz1 hz2 (by decide) _ [] rfl (OwnQ.empty _ w _ _ (Nat.le_refl _)) _ _ _ l rfl (H.out.below ((Below.refl _ _).alloc (Nat.le_refl _) _)) (by simp; omega) (by simp) ?_; intro v' w1 hown hgrow)
    go_ret
    exact ⟨⟨_, rfl, hown⟩, hgrow _ ((Below.refl _ _).alloc (Nat.le_refl _) _)⟩

set_option maxHeartbeats 400000 in
theorem limb_any (a : Option Addr) (len cap : Nat) (l : List Nat) (w : World) (h : Reads .u32 w a len cap l) (i : Int) (k : Nat) (hk : i = k) :
    Calls Try.prog 62 #[.slice a len cap, .int .i64 i] w fun e w' => e = .returned (.int .u32 ((l[k]?.getD 0 : Nat) : Int)) ∧ w = w' := by
  have hm := h.len_le
  unfold maxLen at hm
  have hl := Lib.hid h.length
  subst hk
  by_cases hlt : k < len
  · obtain ⟨b, off, rfl, hbl, hc⟩ := h.cells (by omega)
    have hck := hc k hlt
    clear hc h
    generalize l[k]?.getD 0 = x at *
    go_enter Try.func62, Try.ntmps62
    go_wp2
    go_ret
    exact ⟨rfl, rfl⟩
  · have e := Lib.hid (show l[k]?.getD 0 = 0 by rw [List.getElem?_eq_none (by have := hl.out; omega)]; rfl)
    clear h
    go_enter Try.func62, Try.ntmps62
    go_wp2
    go_ret
    exact ⟨by rw [e.out]; rfl, rfl⟩

set_option maxHeartbeats 400000 in
theorem may1_any (b : Nat) (a : Option Addr) (n cap : Nat) (w : World) (h : w.cell? ⟨b, 0, none⟩ = some (.slice a n cap)) (r : Bool) (hr : r = decide (n ≤ 256)) (hm : n ≤ 9223372036854775807) :
    Calls Try.prog 48 #[.slice (some ⟨b, 0, none⟩) 1 1] w fun e w' => e = .returned (.bool r) ∧ w = w' := by
  go_enter Try.func48, Try.ntmps48
  go_wp2
  go_loop [7] (fun i => i = .int .i64 0 ∨ (i = .int .i64 1 ∧ n ≤ 256)) (fun i => 1 - (intOf i).toNat)
  case atStart => exact .inl rfl
  case round =>
    rcases hrel with rfl | ⟨rfl, hle⟩
    · by_cases hc : n ≤ 256
      · have hn : decide ((256 : Int) < (n : Int)) = false := by simp; omega
        go_wp2
        go_round
        case rel => exact .inr ⟨rfl, hc⟩
        case measure => simp [intOf]
      · have hn : decide ((256 : Int) < (n : Int)) = true := by simp; omega
        have HR := Lib.hid hr
        clear hr
        go_wp2
        go_ret
        exact ⟨by rw [HR.out, decide_eq_false hc]; rfl, rfl⟩
    · have HR := Lib.hid hr
      clear hr
      go_wp2
      go_ret
      exact ⟨by rw [HR.out, decide_eq_true hle]; rfl, rfl⟩

set_option maxHeartbeats 400000 in
theorem may2_any (b : Nat) (a a' : Option Addr) (n cap n' cap' : Nat) (w : World) (h : w.cell? ⟨b, 0, none⟩ = some (.slice a n cap)) (h' : w.cell? ⟨b, 1, none⟩ = some (.slice a' n' cap')) (r : Bool) (hr : r = decide (n ≤ 256 ∧ n' ≤ 256)) (hm : n ≤ 9223372036854775807) (hm' : n' ≤ 9223372036854775807) :
    Calls Try.prog 48 #[.slice (some ⟨b, 0, none⟩) 2 2] w fun e w' => e = .returned (.bool r) ∧ w = w' := by
  go_enter Try.func48, Try.ntmps48
  go_wp2
  go_loop [7] (fun i => i = .int .i64 0 ∨ (i = .int .i64 1 ∧ n ≤ 256) ∨ (i = .int .i64 2 ∧ n ≤ 256 ∧ n' ≤ 256)) (fun i => 2 - (intOf i).toNat)
  case atStart => exact .inl rfl
  case round =>
    have HR := Lib.hid hr
    clear hr
    rcases hrel with rfl | ⟨rfl, hle⟩ | ⟨rfl, hle, hle'⟩
    · by_cases hc : n ≤ 256
      · have hn : decide ((256 : Int) < (n : Int)) = false := by simp; omega
        go_wp2
        go_round
        case rel => exact .inr (.inl ⟨rfl, hc⟩)
        case measure => simp [intOf]
      · have hn : decide ((256 : Int) < (n : Int)) = true := by simp; omega
        go_wp2
        go_ret
        exact ⟨by rw [HR.out, decide_eq_false (fun h => hc h.1)]; rfl, rfl⟩
    · by_cases hc : n' ≤ 256
      · have hn : decide ((256 : Int) < (n' : Int)) = false := by simp; omega
        go_wp2
        go_round
        case rel => exact .inr (.inr ⟨rfl, hle, hc⟩)
        case measure => simp [intOf]
      · have hn : decide ((256 : Int) < (n' : Int)) = true := by simp; omega
        go_wp2
        go_ret
        exact ⟨by rw [HR.out, decide_eq_false (fun h => hc h.2)]; rfl, rfl⟩
    · go_wp2
      go_ret
      exact ⟨by rw [HR.out, decide_eq_true ⟨hle, hle'⟩]; rfl, rfl⟩

end Go.Proofs.Ytfeajcgcjpngkaa
