/-
  OID: THE REFERENCE's May AND digits.
-/
import Derived.Test.YtojphfkiblhhiaaDoorOidF
namespace Go.Proofs.YtojphfkiblhhiaaDoor
open Go.RowKit
set_option maxRecDepth 100000

set_option maxHeartbeats 2000000 in
theorem may_any (a : Option Addr) (len cap : Nat) (l : List Nat) (w : World) (h : Reads .u64 w a len cap l) :
    Calls Tryd.prog 12 #[.slice a len cap] w fun e w' => e = .returned (.bool (decide (OidOk l))) ∧ Below w.heap.size w w' := by
  have hm := h.len_le
  unfold maxLen at hm
  have hcm := h.max
  unfold maxLen at hcm
  have hle := h.le
  have hl := Lib.hid h.length
  by_cases h2 : len < 2
  · have hr := Lib.hid (show decide (OidOk l) = false from decide_eq_false fun k => by have := k.1; have := hl.out; omega)
    clear h
    go_enter Tryd.func12, Tryd.ntmps12
    go_wp2
    go_ret
    exact ⟨by rw [hr.out]; rfl, Below.refl _ _⟩
  by_cases h20 : 20 < len
  · have hr := Lib.hid (show decide (OidOk l) = false from decide_eq_false fun k => by have := k.2.1; have := hl.out; omega)
    clear h
    go_enter Tryd.func12, Tryd.ntmps12
    go_wp2
    go_ret
    exact ⟨by rw [hr.out]; rfl, Below.refl _ _⟩
  obtain ⟨b, off, rfl, hbl, hc⟩ := h.cells (by omega)
  have HC := Lib.hid hc
  clear h hc
  go_enter Tryd.func12, Tryd.ntmps12
  go_wp2_with fail
  go_loop [3] (fun v => ∃ i : Nat, i ≤ len ∧ v = .int .i64 (i : Int) ∧ Hid (∀ j, j < i → l.getD j 0 < 9223372036854775808)) (fun v => 21 - (intOf v).toNat)
  case atStart => exact ⟨0, by omega, rfl, fun j hj => by omega⟩
  case round =>
    obtain ⟨i, hi, rfl, hI⟩ := hrel
    by_cases hlt : i < len
    · have ci : w.cell? ⟨b, off + i, none⟩ = some (.int .u64 ((l.getD i 0 : Nat) : Int)) := HC.out i hlt
      obtain ⟨x, hx⟩ : ∃ x, l.getD i 0 = x := ⟨_, rfl⟩
      have HX := Lib.hid hx
      rw [hx] at ci
      clear hx
      by_cases hbig : 9223372036854775808 ≤ x
      · have hr := Lib.hid (show decide (OidOk l) = false from decide_eq_false fun k => by
          have h5 := k.2.2.1 (l.getD i 0) (by rw [List.getD_eq_getElem?_getD, List.getElem?_eq_getElem (by have := hl.out; omega)]; exact List.getElem_mem _)
          have := HX.out
          omega)
        have d4 : decide ((9223372036854775808 : Int) ≤ (x : Int)) = true := by simp; omega
        go_wp2
        go_ret
        exact ⟨by rw [hr.out]; rfl, Below.refl _ _⟩
      · have d4 : decide ((9223372036854775808 : Int) ≤ (x : Int)) = false := by simp; omega
        go_wp2
        go_round
        case rel =>
          refine ⟨i + 1, by omega, by go_num, fun j hj => ?_⟩
          rcases (show j < i ∨ j = i by omega) with h | rfl
          · exact hI.out j h
          · rw [HX.out]; omega
        case measure => simp [intOf]; omega
    · have hie : i = len := by omega
      have hall := Lib.hid (show ∀ x ∈ l, x < 9223372036854775808 from fun x hx => by
        obtain ⟨j, hj, rfl⟩ := List.getElem_of_mem hx
        have := hI.out j (by have := hl.out; omega)
        rwa [List.getD_eq_getElem?_getD, List.getElem?_eq_getElem hj] at this)
      have c0 : w.cell? ⟨b, off, none⟩ = some (.int .u64 ((l.getD 0 0 : Nat) : Int)) := HC.out 0 (by omega)
      have c1 : w.cell? ⟨b, off + 1, none⟩ = some (.int .u64 ((l.getD 1 0 : Nat) : Int)) := HC.out 1 (by omega)
      obtain ⟨x0, hx0⟩ : ∃ x, l.getD 0 0 = x := ⟨_, rfl⟩
      obtain ⟨x1, hx1⟩ : ∃ x, l.getD 1 0 = x := ⟨_, rfl⟩
      have H0 := Lib.hid hx0
      have H1 := Lib.hid hx1
      have hb0 : x0 < 9223372036854775808 := by rw [← hx0]; exact hI.out 0 (by omega)
      have hb1 : x1 < 9223372036854775808 := by rw [← hx1]; exact hI.out 1 (by omega)
      rw [hx0] at c0
      rw [hx1] at c1
      clear hx0 hx1 hI
      have d5 : decide ((i : Int) < (len : Int)) = false := by simp; omega
      have hok := Lib.hid (show OidOk l ↔ (x0 ≤ 2 ∧ (x0 < 2 → x1 < 40) ∧ 40 * x0 + x1 < 9223372036854775808) from by
        have := hl.out
        unfold OidOk
        rw [H0.out, H1.out]
        exact ⟨fun k => k.2.2.2, fun k => ⟨by omega, by omega, hall.out, k⟩⟩)
      clear hie
      rcases (show 2 < x0 ∨ (x0 < 2 ∧ 39 < x1) ∨ (x0 < 2 ∧ x1 < 40) ∨ (2 ≤ x0 ∧ x0 ≤ 2 ∧ 9223372036854775808 ≤ 40 * x0 + x1) ∨ (2 ≤ x0 ∧ x0 ≤ 2 ∧ 40 * x0 + x1 < 9223372036854775808) by omega) with k1 | ⟨k1, k2⟩ | ⟨k1, k2⟩ | ⟨k1, k3, k2⟩ | ⟨k1, k3, k2⟩
      · have hr := Lib.hid (show decide (OidOk l) = false from decide_eq_false fun k => by have := (hok.out.1 k).1; omega)
        have e1 : decide ((2 : Int) < (x0 : Int)) = true := by simp; omega
        go_wp2
        go_ret
        exact ⟨by rw [hr.out]; rfl, Below.refl _ _⟩
      · have hr := Lib.hid (show decide (OidOk l) = false from decide_eq_false fun k => by have := (hok.out.1 k).2.1 k1; omega)
        have e0 : decide ((2 : Int) < (x0 : Int)) = false := by simp; omega
        have e1 : decide ((x0 : Int) < 2) = true := by simp; omega
        have e2 : decide ((39 : Int) < (x1 : Int)) = true := by simp; omega
        go_wp2
        go_ret
        exact ⟨by rw [hr.out]; rfl, Below.refl _ _⟩
      · have hr := Lib.hid (show decide (OidOk l) = true from decide_eq_true (hok.out.2 ⟨by omega, fun _ => k2, by omega⟩))
        have e0 : decide ((2 : Int) < (x0 : Int)) = false := by simp; omega
        have e1 : decide ((x0 : Int) < 2) = true := by simp; omega
        have e2 : decide ((39 : Int) < (x1 : Int)) = false := by simp; omega
        have e3 : decide (40 * (x0 : Int) + (x1 : Int) < (9223372036854775808 : Int)) = true := by simp; omega
        go_wp2_with fail
        go_big_quiet (fail)
        go_wp2
        go_ret
        exact ⟨by rw [hr.out]; rfl, ⟨rfl, rfl, rfl, Nat.le_refl _, fun _ _ => rfl⟩⟩
      · have hr := Lib.hid (show decide (OidOk l) = false from decide_eq_false fun k => by have := (hok.out.1 k).2.2; omega)
        have e0 : decide ((2 : Int) < (x0 : Int)) = false := by simp; omega
        have e1 : decide ((x0 : Int) < 2) = false := by simp; omega
        have e3 : decide (40 * (x0 : Int) + (x1 : Int) < (9223372036854775808 : Int)) = false := by simp; omega
        go_wp2_with fail
        go_big_quiet (fail)
        go_wp2
        go_ret
        exact ⟨by rw [hr.out]; rfl, ⟨rfl, rfl, rfl, Nat.le_refl _, fun _ _ => rfl⟩⟩
      · have hr := Lib.hid (show decide (OidOk l) = true from decide_eq_true (hok.out.2 ⟨by omega, fun _ => by omega, by omega⟩))
        have e0 : decide ((2 : Int) < (x0 : Int)) = false := by simp; omega
        have e1 : decide ((x0 : Int) < 2) = false := by simp; omega
        have e3 : decide (40 * (x0 : Int) + (x1 : Int) < (9223372036854775808 : Int)) = true := by simp; omega
        go_wp2_with fail
        go_big_quiet (fail)
        go_wp2
        go_ret
        exact ⟨by rw [hr.out]; rfl, ⟨rfl, rfl, rfl, Nat.le_refl _, fun _ _ => rfl⟩⟩
end Go.Proofs.YtojphfkiblhhiaaDoor
