/-
  THE LAW's great.
-/
import Derived.Test.YtcnpgebjjknheaaRatB
namespace Go.Proofs.Ytcnpgebjjknheaa
open Go.RowKit

set_option maxHeartbeats 400000 in
theorem great_any (b k : Nat) (f : Nat → Option Addr × Nat × Nat) (most : Nat) (w : World) (h : ∀ i, i < k → w.cell? ⟨b, i, none⟩ = some (.slice (f i).1 (f i).2.1 (f i).2.2)) (hl : ∀ i, i < k → (f i).2.1 ≤ 9223372036854775807) (hk : k ≤ 100) (r : Bool) (hr : r = decide (∃ i, i < k ∧ most < (f i).2.1)) :
    Calls Try.prog 11 #[.int .i64 (most : Int), .slice (some ⟨b, 0, none⟩) k k] w fun e w' => e = .returned (.bool r) ∧ w = w' := by
  have HC := Lib.hid h
  have HL := Lib.hid hl
  have HR := Lib.hid hr
  clear h hl hr
  go_enter Try.func11, Try.ntmps11
  go_wp2
  go_loop [8] (fun i => ∃ j : Nat, i = .int .i64 j ∧ j ≤ k ∧ Hid (∀ t, t < j → (f t).2.1 ≤ most)) (fun i => k - (intOf i).toNat)
  case atStart => exact ⟨0, rfl, Nat.zero_le _, fun t ht => by omega⟩
  case round =>
    obtain ⟨j, rfl, hj, hall⟩ := hrel
    by_cases hlt : j < k
    · have hc := HC.out j hlt
      have hln := HL.out j hlt
      have hst := Lib.hid (show (f j).2.1 ≤ most → ∀ t, t < j + 1 → (f t).2.1 ≤ most from fun e t ht => by
        by_cases h : t < j
        · exact hall.out t h
        · obtain rfl : t = j := by omega
          exact e)
      have hyes := Lib.hid (show most < (f j).2.1 → r = true from fun e => by rw [HR.out, decide_eq_true ⟨j, hlt, e⟩])
      generalize (f j).1 = av at *
      generalize (f j).2.1 = n at *
      generalize (f j).2.2 = c at *
      by_cases hm : most < n
      · have hrt := Lib.hid (hyes.out hm)
        have hd : decide ((most : Int) < (n : Int)) = true := by simp; omega
        go_wp2
        go_ret
        exact ⟨by rw [hrt.out]; rfl, rfl⟩
      · have hd : decide ((most : Int) < (n : Int)) = false := by simp; omega
        have hm2 := Lib.hid (hst.out (by omega))
        go_wp2
        go_round
        case rel => exact ⟨j + 1, by go_num, by omega, hm2.out⟩
        case measure => simp [intOf] <;> omega
    · have hrf := Lib.hid (show r = false by
        rw [HR.out, decide_eq_false_iff_not]
        rintro ⟨i, hi, hm⟩
        have := hall.out i (by omega)
        omega)
      go_wp2
      go_ret
      exact ⟨by rw [hrf.out]; rfl, rfl⟩

theorem NatAt.len {w : World} {a : Option Addr} {len cap n : Nat} (h : NatAt w (.slice a len cap) n) : len ≤ 9223372036854775807 := by
  obtain ⟨a', len', cap', l, he, hr, _, _⟩ := h
  cases he
  have := hr.len_le
  unfold maxLen at this
  omega

/-- 'great(most, x, y)' -/
theorem great2 {a a' : Option Addr} {n c n' c' X Y : Nat} {w : World} (hx : NatAt w (.slice a n c) X) (hy : NatAt w (.slice a' n' c') Y) (most : Nat) (m : Int) (hm : m = most) (b : Nat) (hb : b = w.heap.size) (T : TypeId) (r : Bool) (hr : r = decide (most < n ∨ most < n')) :
    Calls Try.prog 11 #[.int .i64 m, .slice (some ⟨b, 0, none⟩) 2 2] (w.alloc (.cells #[.slice a n c, .slice a' n' c'] T)) fun e w' => e = .returned (.bool r) ∧ w.alloc (.cells #[.slice a n c, .slice a' n' c'] T) = w' := by
  subst hm hb
  refine great_any _ 2 (fun i => if i = 0 then (a, n, c) else (a', n', c')) most _ (fun i hi => ?_) (fun i hi => ?_) (by decide) r ?_
  · rcases (show i = 0 ∨ i = 1 by omega) with rfl | rfl
    · rw [World.cell?_alloc_at _ _ _ _ rfl]; rfl
    · rw [World.cell?_alloc_at _ _ _ _ rfl]; rfl
  · rcases (show i = 0 ∨ i = 1 by omega) with rfl | rfl
    · exact hx.len
    · exact hy.len
  · rw [hr, decide_eq_decide]
    constructor
    · rintro (h | h)
      · exact ⟨0, by decide, h⟩
      · exact ⟨1, by decide, h⟩
    · rintro ⟨i, hi, h⟩
      rcases (show i = 0 ∨ i = 1 by omega) with rfl | rfl
      · exact .inl h
      · exact .inr h
theorem great3 {a a' a'' : Option Addr} {n c n' c' n'' c'' X Y Z : Nat} {w : World} (hx : NatAt w (.slice a n c) X) (hy : NatAt w (.slice a' n' c') Y) (hz : NatAt w (.slice a'' n'' c'') Z) (most : Nat) (m : Int) (hm : m = most) (b : Nat) (hb : b = w.heap.size) (T : TypeId) (r : Bool) (hr : r = decide (most < n ∨ most < n' ∨ most < n'')) :
    Calls Try.prog 11 #[.int .i64 m, .slice (some ⟨b, 0, none⟩) 3 3] (w.alloc (.cells #[.slice a n c, .slice a' n' c', .slice a'' n'' c''] T)) fun e w' => e = .returned (.bool r) ∧ w.alloc (.cells #[.slice a n c, .slice a' n' c', .slice a'' n'' c''] T) = w' := by
  subst hm hb
  refine great_any _ 3 (fun i => if i = 0 then (a, n, c) else if i = 1 then (a', n', c') else (a'', n'', c'')) most _ (fun i hi => ?_) (fun i hi => ?_) (by decide) r ?_
  · rcases (show i = 0 ∨ i = 1 ∨ i = 2 by omega) with rfl | rfl | rfl
    · rw [World.cell?_alloc_at _ _ _ _ rfl]; rfl
    · rw [World.cell?_alloc_at _ _ _ _ rfl]; rfl
    · rw [World.cell?_alloc_at _ _ _ _ rfl]; rfl
  · rcases (show i = 0 ∨ i = 1 ∨ i = 2 by omega) with rfl | rfl | rfl
    · exact hx.len
    · exact hy.len
    · exact hz.len
  · rw [hr, decide_eq_decide]
    constructor
    · rintro (h | h | h)
      · exact ⟨0, by decide, h⟩
      · exact ⟨1, by decide, h⟩
      · exact ⟨2, by decide, h⟩
    · rintro ⟨i, hi, h⟩
      rcases (show i = 0 ∨ i = 1 ∨ i = 2 by omega) with rfl | rfl | rfl
      · exact .inl h
      · exact .inr (.inl h)
      · exact .inr (.inr h)
theorem small_len {a : Option Addr} {n c k : Nat} (h : n ≤ k) (hk : k ≤ 288230376151711743) : Small (.slice a n c) := fun a' n' c' e => by cases e; omega

end Go.Proofs.Ytcnpgebjjknheaa
