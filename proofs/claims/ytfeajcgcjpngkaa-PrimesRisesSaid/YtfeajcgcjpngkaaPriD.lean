/-
  THE HEAP: down. (Written by wip/gen_priD.py.)
-/
import Derived.Test.YtfeajcgcjpngkaaPriH
namespace Go.Proofs.Ytfeajcgcjpngkaa
open Go.RowKit

set_option maxRecDepth 100000 in
set_option maxHeartbeats 2000000 in
theorem heap_down (B b g n c i0 m : Nat) (L : List (Nat × Nat)) (w : World) (h : HpI B w b g n c L) (hD : DownI L m i0) (hm : m ≤ n) (hi0 : i0 ≤ m) (hn : n < 1000000) :
    Calls Try.prog 70 #[.iface 80 (.pointer (some ⟨b, 0, none⟩)), .int .i64 (i0 : Int), .int .i64 (m : Int)] w fun e w' => (∃ r, e = .returned (.bool r)) ∧ ∃ L', HpI B w' b g n c L' ∧ HeapN L' m ∧ Sunk L L' m ∧ Wrk B g w w' := by
  have HI := Lib.hid h
  have HD := Lib.hid hD
  have HLN := Lib.hid h.2.2.1
  clear h hD
  go_enter Try.func70, Try.ntmps70
  go_wp2
  go_loopw [7] (fun iv wr => ∃ (i : Nat) (M : List (Nat × Nat)), iv = .int .i64 (i : Int) ∧ i ≤ m ∧ Hid (HpI B wr b g n c M ∧ DownI M m i ∧ Sunk L M m ∧ Wrk B g w wr)) (fun iv _ => m - (intOf iv).toNat)
  case atStart => exact ⟨i0, L, rfl, hi0, HI.out, HD.out, Sunk.refl _ _, Wrk.refl _ _ _⟩
  case round =>
    obtain ⟨i, M, rfl, him, hI⟩ := hrel
    obtain ⟨j1, hj1⟩ : ∃ j1, j1 = 2 * i + 1 := ⟨_, rfl⟩
    have hc1 : 2 * (i : Int) + 1 = (j1 : Int) := by omega
    rcases Nat.lt_or_ge j1 m with hlt | hge
    · obtain ⟨j2, hj2⟩ : ∃ j2, j2 = j1 + 1 := ⟨_, rfl⟩
      have hc2 : (j1 : Int) + 1 = (j2 : Int) := by omega
      have HJ1 := Lib.hid hj1
      have HJ2 := Lib.hid hj2
      have hi_n : i < n := by omega
      have hij1 : i < j1 := by omega
      have hij2 : i < j2 := by omega
      have hj12 : j1 < j2 := by omega
      clear hj1 hj2
      rcases Nat.lt_or_ge j2 m with hl2 | hg2
      · by_cases hk : ky M j2 < ky M j1
        · have HK := Lib.hid hk
          have HR := Lib.hid (decide_eq_true hk).symm
          clear hk
          have hmn := Lib.hid (show ∀ k, 0 < k → k < m → (k - 1) / 2 = i → ky M j2 ≤ ky M k from by
            intro k k0 k1 k2
            have h1 := HJ1.out
            have h2 := HJ2.out
            have h3 := HK.out
            rcases (show k = j1 ∨ k = j2 by omega) with rfl | rfl <;> omega)
          have hms := m_less 226 b wr _ hI.out.1.1
          go_wp2_with fail
          refine (less_any g n c j2 j1 _ _ wr (by omega) (by omega) hn (hI.out.1.key (by omega)) (hI.out.1.key (by omega)) true HR.out).mono ?_
          rintro e w1 ⟨rfl, rfl⟩
          clear hms
          have hp : (j2 - 1) / 2 = i := by
            have h1 := HJ1.out
            have h2 := HJ2.out
            omega
          have HP := Lib.hid hp
          clear hp
          by_cases hk2 : ky M j2 < ky M i
          · have HK2 := Lib.hid hk2
            have HR2 := Lib.hid (decide_eq_true hk2).symm
            clear hk2
            have hms := m_less 226 b wr.drew _ hI.out.1.drew.1
            go_wp2_with fail
            refine (less_any g n c j2 i _ _ wr.drew (by omega) hi_n hn (hI.out.1.drew.key (by omega)) (hI.out.1.drew.key hi_n) true HR2.out).mono ?_
            rintro e w2 ⟨rfl, rfl⟩
            clear hms
            have hms := m_swap 226 b wr.drew.drew _ hI.out.1.drew.drew.1
            go_wp2_with fail
            refine (swap_any B g n c i j2 M wr.drew.drew hI.out.1.drew.drew.2.1 hI.out.1.drew.2.2.1 hi_n (by omega) hn).mono ?_
            rintro e w3 ⟨rfl, rfl, hq2⟩
            have HQ2 := Lib.hid hq2
            clear hq2
            go_wp2
            go_roundw
            case rel => exact ⟨j2, sw M i j2, rfl, by omega, hI.out.1.drew.drew.swap HQ2.out, hI.out.2.1.step (by rw [← hI.out.1.2.2.1]; exact hm) (by omega) (by omega) HP.out (Nat.le_of_lt HK2.out) hmn.out, hI.out.2.2.1.sw (by omega) (by omega) (by rw [← HLN.out]; exact hm), hI.out.2.2.2.drew.drew.swap hI.out.1.2.2.2.1⟩
            case measure => simp [intOf]; omega
          · have HK2 := Lib.hid (show ky M i ≤ ky M j2 by omega)
            have HR2 := Lib.hid (decide_eq_false hk2).symm
            clear hk2
            have hms := m_less 226 b wr.drew _ hI.out.1.drew.1
            go_wp2_with fail
            refine (less_any g n c j2 i _ _ wr.drew (by omega) hi_n hn (hI.out.1.drew.key (by omega)) (hI.out.1.drew.key hi_n) false HR2.out).mono ?_
            rintro e w2 ⟨rfl, rfl⟩
            clear hms
            go_wp2
            all_goals go_ret
            all_goals exact ⟨⟨_, rfl⟩, M, hI.out.1.drew.drew, hI.out.2.1.done HK2.out hmn.out, hI.out.2.2.1, hI.out.2.2.2.drew.drew⟩
        · have HK := Lib.hid hk
          have HR := Lib.hid (decide_eq_false hk).symm
          clear hk
          have hmn := Lib.hid (show ∀ k, 0 < k → k < m → (k - 1) / 2 = i → ky M j1 ≤ ky M k from by
            intro k k0 k1 k2
            have h1 := HJ1.out
            have h2 := HJ2.out
            have h3 := HK.out
            rcases (show k = j1 ∨ k = j2 by omega) with rfl | rfl <;> omega)
          have hms := m_less 226 b wr _ hI.out.1.1
          go_wp2_with fail
          refine (less_any g n c j2 j1 _ _ wr (by omega) (by omega) hn (hI.out.1.key (by omega)) (hI.out.1.key (by omega)) false HR.out).mono ?_
          rintro e w1 ⟨rfl, rfl⟩
          clear hms
          have hp : (j1 - 1) / 2 = i := by
            have h1 := HJ1.out
            have h2 := HJ2.out
            omega
          have HP := Lib.hid hp
          clear hp
          by_cases hk2 : ky M j1 < ky M i
          · have HK2 := Lib.hid hk2
            have HR2 := Lib.hid (decide_eq_true hk2).symm
            clear hk2
            have hms := m_less 226 b wr.drew _ hI.out.1.drew.1
            go_wp2_with fail
            refine (less_any g n c j1 i _ _ wr.drew (by omega) hi_n hn (hI.out.1.drew.key (by omega)) (hI.out.1.drew.key hi_n) true HR2.out).mono ?_
            rintro e w2 ⟨rfl, rfl⟩
            clear hms
            have hms := m_swap 226 b wr.drew.drew _ hI.out.1.drew.drew.1
            go_wp2_with fail
            refine (swap_any B g n c i j1 M wr.drew.drew hI.out.1.drew.drew.2.1 hI.out.1.drew.2.2.1 hi_n (by omega) hn).mono ?_
            rintro e w3 ⟨rfl, rfl, hq2⟩
            have HQ2 := Lib.hid hq2
            clear hq2
            go_wp2
            go_roundw
            case rel => exact ⟨j1, sw M i j1, rfl, by omega, hI.out.1.drew.drew.swap HQ2.out, hI.out.2.1.step (by rw [← hI.out.1.2.2.1]; exact hm) (by omega) (by omega) HP.out (Nat.le_of_lt HK2.out) hmn.out, hI.out.2.2.1.sw (by omega) (by omega) (by rw [← HLN.out]; exact hm), hI.out.2.2.2.drew.drew.swap hI.out.1.2.2.2.1⟩
            case measure => simp [intOf]; omega
          · have HK2 := Lib.hid (show ky M i ≤ ky M j1 by omega)
            have HR2 := Lib.hid (decide_eq_false hk2).symm
            clear hk2
            have hms := m_less 226 b wr.drew _ hI.out.1.drew.1
            go_wp2_with fail
            refine (less_any g n c j1 i _ _ wr.drew (by omega) hi_n hn (hI.out.1.drew.key (by omega)) (hI.out.1.drew.key hi_n) false HR2.out).mono ?_
            rintro e w2 ⟨rfl, rfl⟩
            clear hms
            go_wp2
            all_goals go_ret
            all_goals exact ⟨⟨_, rfl⟩, M, hI.out.1.drew.drew, hI.out.2.1.done HK2.out hmn.out, hI.out.2.2.1, hI.out.2.2.2.drew.drew⟩
      · have hmn := Lib.hid (show ∀ k, 0 < k → k < m → (k - 1) / 2 = i → ky M j1 ≤ ky M k from by
            intro k k0 k1 k2
            have h1 := HJ1.out
            have h2 := HJ2.out
            rcases (show k = j1 by omega) with rfl
            omega)
        have hp : (j1 - 1) / 2 = i := by
          have h1 := HJ1.out
          have h2 := HJ2.out
          omega
        have HP := Lib.hid hp
        clear hp
        by_cases hk2 : ky M j1 < ky M i
        · have HK2 := Lib.hid hk2
          have HR2 := Lib.hid (decide_eq_true hk2).symm
          clear hk2
          have hms := m_less 226 b wr _ hI.out.1.1
          go_wp2_with fail
          refine (less_any g n c j1 i _ _ wr (by omega) hi_n hn (hI.out.1.key (by omega)) (hI.out.1.key hi_n) true HR2.out).mono ?_
          rintro e w2 ⟨rfl, rfl⟩
          clear hms
          have hms := m_swap 226 b wr.drew _ hI.out.1.drew.1
          go_wp2_with fail
          refine (swap_any B g n c i j1 M wr.drew hI.out.1.drew.2.1 hI.out.1.2.2.1 hi_n (by omega) hn).mono ?_
          rintro e w3 ⟨rfl, rfl, hq2⟩
          have HQ2 := Lib.hid hq2
          clear hq2
          go_wp2
          go_roundw
          case rel => exact ⟨j1, sw M i j1, rfl, by omega, hI.out.1.drew.swap HQ2.out, hI.out.2.1.step (by rw [← hI.out.1.2.2.1]; exact hm) (by omega) (by omega) HP.out (Nat.le_of_lt HK2.out) hmn.out, hI.out.2.2.1.sw (by omega) (by omega) (by rw [← HLN.out]; exact hm), hI.out.2.2.2.drew.swap hI.out.1.2.2.2.1⟩
          case measure => simp [intOf]; omega
        · have HK2 := Lib.hid (show ky M i ≤ ky M j1 by omega)
          have HR2 := Lib.hid (decide_eq_false hk2).symm
          clear hk2
          have hms := m_less 226 b wr _ hI.out.1.1
          go_wp2_with fail
          refine (less_any g n c j1 i _ _ wr (by omega) hi_n hn (hI.out.1.key (by omega)) (hI.out.1.key hi_n) false HR2.out).mono ?_
          rintro e w2 ⟨rfl, rfl⟩
          clear hms
          go_wp2
          all_goals go_ret
          all_goals exact ⟨⟨_, rfl⟩, M, hI.out.1.drew, hI.out.2.1.done HK2.out hmn.out, hI.out.2.2.1, hI.out.2.2.2.drew⟩
    · have HLF := Lib.hid (hI.out.2.1.leaf (by omega))
      clear hj1
      go_wp2
      all_goals go_ret
      all_goals exact ⟨⟨_, rfl⟩, M, hI.out.1, HLF.out, hI.out.2.2.1, hI.out.2.2.2⟩

end Go.Proofs.Ytfeajcgcjpngkaa
