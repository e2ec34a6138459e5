/-
  SHA-512: ending.
-/
import Derived.Test.YtmfjhgjplmpecaaDoorQbF
import Derived.Laws.Tables
namespace Go.Proofs.YtmfjhgjplmpecaaDoor.L5
open Go.RowKit
set_option maxRecDepth 100000

/-- What fills a message up. -/
def endN (T : Nat) : List Nat := [128] ++ List.replicate ((239 - T % 128) % 128) 0 ++ wd 0 8 ++ wd (T * 8) 8
def dwN (t : Nat) : Nat → List Nat
  | 0 => []
  | j + 1 => dwN t j ++ wd (g0 [0, t] j) 8
theorem dwN_len (t : Nat) : ∀ j, (dwN t j).length = 8 * j
  | 0 => rfl
  | j + 1 => by rw [dwN, List.length_append, dwN_len t j, wd_len]; omega
set_option maxRecDepth 100000 in
set_option maxHeartbeats 2000000 in
theorem ending_any (T : Nat) (y : Int) (hy : y = T) (hT : T < 1152921504606846976) (w : World) :
    Calls Tryd.prog 58 #[.int .u64 y] w fun e w' => (∃ v, e = .returned v ∧ OwnQ .u8 5 w.heap.size w' v (endN T)) ∧ Below w.heap.size w w' := by
  subst hy
  obtain ⟨i0, hi, hz0, hz1, hz2⟩ := info_parts infoB
  obtain ⟨us, hus⟩ : ∃ x, x = T % 128 := ⟨_, rfl⟩
  have hatc : (T : Int) % 128 = (us : Int) := by omega
  have hus64 : us < 128 := by omega
  obtain ⟨k, hk⟩ : ∃ k, k = (239 - us) % 128 := ⟨_, rfl⟩
  have hkc : Int.tmod (239 - (us : Int)) 128 = (k : Int) := by
    rw [Int.tmod_eq_emod_of_nonneg (by omega)]
    omega
  have hk128 : k < 128 := by omega
  obtain ⟨t8, ht8⟩ : ∃ t, t = T * 8 := ⟨_, rfl⟩
  have ht8b : t8 < 18446744073709551616 := by omega
  have hs1 : (T : Int) / 2305843009213693952 = 0 := by omega
  have hs2 : IntKind.u64.wrap ((T : Int) * 8) = (t8 : Int) := by simp [IntKind.wrap, IntKind.bits, IntKind.signed]; omega
  have HU := Lib.hid hus
  have HK := Lib.hid hk
  have HT8 := Lib.hid ht8
  clear hus hk ht8
  go_enter Tryd.func58, Tryd.ntmps58
  go_wp2_with (first
    | (at_builtin; refine wpList_append_noughts _ rfl _ _ 23 3 rfl w.heap.size 5 i0 Tryd.underlying23 Tryd.underlying3 hi hz0 hz1 hz2 _ [128] rfl (World.ownsRow_lit w #[.int .u8 128] 1 (Nat.le_refl _) (by unfold maxLen; omega) rfl) (by simp) k rfl (by simp; omega) (by simp) ?_; intro v2 w2 hown2 hgrow2; have HO2 := Lib.hid hown2; have HB2 := Lib.hid (hgrow2 _ ((Below.refl _ _).alloc (Nat.le_refl _) _)); clear hown2 hgrow2))
  rw [show #[Value.int .u64 0, Value.int .u64 (t8 : Int)] = arrC .u64 [0, t8] from rfl]
  obtain ⟨R0, hR0⟩ : ∃ R, R = [128] ++ List.replicate k 0 := ⟨_, rfl⟩
  rw [← hR0] at HO2
  have hRl : R0.length ≤ 200 := by rw [hR0]; simp; omega
  have HR0 := Lib.hid hR0
  clear hR0
  go_loopw [20, 4] (fun iv sv wq => ∃ j : Nat, iv = .int .i64 (j : Int) ∧ j ≤ 2 ∧ Hid (OwnQ .u8 5 w.heap.size wq sv (R0 ++ dwN t8 j) ∧ Below w.heap.size w wq)) (fun iv _ _ => 2 - (intOf iv).toNat)
  case atStart => exact ⟨0, rfl, by decide, by rw [show dwN t8 0 = [] from rfl, List.append_nil]; exact HO2.out, HB2.out⟩
  case round =>
    obtain ⟨j, rfl, hj, hI⟩ := hrel
    by_cases hlt : j < 2
    · have ix := idx2 [0, t8] j hlt rfl
      have lx : g0 [0, t8] j < 18446744073709551616 := g0_lt (by intro x hx; simp at hx; rcases hx with rfl | rfl <;> omega) (by decide) j
      have HD := Lib.hid (show dwN t8 (j + 1) = dwN t8 j ++ wd (g0 [0, t8] j) 8 from rfl)
      unfold g0 at lx HD
      generalize [0, t8][j]?.getD 0 = x at *
      go_wp2_with fail
      refine (appended_any w.heap.size _ _ x _ wr hI.out.1 (by rw [List.length_append, dwN_len]; omega) hI.out.2.size rfl lx).mono ?_
      rintro e w5 ⟨⟨v5, rfl, h5⟩, h6⟩
      rw [List.append_assoc, ← HD.out] at h5
      have H5 := Lib.hid h5
      have H6 := Lib.hid (h6 _ hI.out.2)
      clear h5 h6
      go_wp2
      go_roundw
      case rel => exact ⟨j + 1, by go_num, by omega, H5.out, H6.out⟩
      case measure => simp [intOf] <;> omega
    · obtain rfl : j = 2 := by omega
      have hE : R0 ++ dwN t8 2 = endN T := by
        unfold endN
        rw [← HU.out, ← HK.out, ← HT8.out, ← HR0.out, List.append_assoc]
        rfl
      have ho := hI.out.1
      rw [hE] at ho
      have HOO := Lib.hid ho
      clear ho hE
      go_wp2
      go_ret
      exact ⟨⟨_, rfl, HOO.out⟩, hI.out.2⟩

end Go.Proofs.YtmfjhgjplmpecaaDoor.L5
