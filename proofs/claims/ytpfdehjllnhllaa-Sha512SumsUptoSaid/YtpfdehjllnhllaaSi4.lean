/-
  SHA-512, the reference: with.
-/
import Derived.Test.YtpfdehjllnhllaaSi3
namespace Go.Proofs.Ytpfdehjllnhllaa
open Go.RowKit Go.Shelf

def withN (a : List Nat) (bit : Nat) : List Nat := a.set (bit / 32) (g0 a (bit / 32) + 2 ^ (bit % 32))
theorem with_start (a : List Nat) (w : World) : Arr .u64 65 ((w.alloc (.cells (arrC .u64 a) 65)).alloc (.cells (arrC .u64 [0, 0, 0, 0, 0, 0, 0, 0]) 65)) w.heap.size a ∧ Arr .u64 65 ((w.alloc (.cells (arrC .u64 a) 65)).alloc (.cells (arrC .u64 [0, 0, 0, 0, 0, 0, 0, 0]) 65)) (w.heap.size + 1) (List.replicate 8 0) ∧ Below w.heap.size w ((w.alloc (.cells (arrC .u64 a) 65)).alloc (.cells (arrC .u64 [0, 0, 0, 0, 0, 0, 0, 0]) 65)) := by
  refine ⟨Arr.alloc (Go.heap_alloc_new w _) _, ?_, ((Below.refl w.heap.size w).alloc (Nat.le_refl _) _).alloc (by simp) _⟩
  have := Go.heap_alloc_new (w.alloc (.cells (arrC .u64 a) 65)) (.cells (arrC .u64 [0, 0, 0, 0, 0, 0, 0, 0]) 65)
  rwa [World.size_alloc] at this
theorem two_pow_lt (i : Nat) (h : i ≤ 31) : 2 ^ i ≤ 2147483648 := Nat.pow_le_pow_right (by decide) h
set_option maxHeartbeats 1000000 in
theorem with_any (a : List Nat) (bit : Nat) (k : Int) (ha : Eight a) (hk : k = bit) (hbit : bit < 256) (w : World) :
    Calls Try.prog 32 #[.agg (arrC .u64 a), .int .i64 k] w fun e w' => e = .returned (.agg (arrC .u64 (withN a bit))) ∧ Below w.heap.size w w' := by
  subst hk
  have hz : ∀ w, (zeroValue 65).run Try.prog w = .ok (.agg (arrC .u64 (List.replicate 8 0))) w := fun _ => by kernel_rfl
  obtain ⟨q, hq⟩ : ∃ q, q = bit / 32 := ⟨_, rfl⟩
  obtain ⟨r, hr⟩ : ∃ r, r = bit % 32 := ⟨_, rfl⟩
  have hqi : Int.tdiv (bit : Int) 32 = (q : Int) := by rw [Int.tdiv_eq_ediv_of_nonneg (by omega)]; omega
  have hri : Int.tmod (bit : Int) 32 = (r : Int) := by rw [Int.tmod_eq_emod_of_nonneg (by omega)]; omega
  have hq8 : q < 8 := by omega
  have hr32 : r < 32 := by omega
  have HQ := Lib.hid hq
  have HR := Lib.hid hr
  have HA := Lib.hid ha
  clear hq hr ha
  go_enter Try.func32, Try.ntmps32
  go_wp2_with fail
  have HP := Lib.hid (with_start a w)
  generalize (w.alloc (.cells (arrC .u64 a) 65)).alloc (.cells (arrC .u64 [0, 0, 0, 0, 0, 0, 0, 0]) 65) = W at *
  obtain ⟨h4, e4⟩ : ∃ h, h = w.heap.size + 1 := ⟨_, rfl⟩
  obtain ⟨h2, e2⟩ : ∃ h, h = w.heap.size := ⟨_, rfl⟩
  have hd : Hid (h4 ≠ h2 ∧ w.heap.size ≤ h4 ∧ w.heap.size ≤ h2) := ⟨by omega, by omega, by omega⟩
  rw [← e4] at HP ⊢
  have HP2 : Hid (Arr .u64 65 W h2 a ∧ Arr .u64 65 W h4 (List.replicate 8 0) ∧ Below w.heap.size w W) := by rw [e2]; exact HP
  rw [← e2]
  clear e4 e2 HP
  go_loopw [5, 6] (fun xv iv wq => ∃ i v : Nat, iv = .int .i64 (i : Int) ∧ xv = .int .u64 (v : Int) ∧ i ≤ r ∧ v ≤ 2147483648 ∧ Hid (v = 2 ^ i) ∧ W = wq) (fun _ iv _ => r - (intOf iv).toNat)
  case atStart => exact ⟨0, 1, rfl, rfl, Nat.zero_le _, by decide, rfl, rfl⟩
  case round =>
    obtain ⟨i, v, rfl, rfl, hi, hv, hI, rfl⟩ := hrel
    by_cases hlt : i < r
    · have hv2 := two_pow_lt (i + 1) (by omega)
      rw [Nat.pow_succ, ← hI.out] at hv2
      go_wp2
      go_roundw
      case rel => exact ⟨i + 1, 2 * v, by go_num, by go_num, by omega, by omega, by show 2 * v = 2 ^ (i + 1); rw [hI.out, Nat.pow_succ, Nat.mul_comm], trivial⟩
      case measure => simp [intOf] <;> omega
    · obtain rfl : i = r := by omega
      have cA := HP2.out.1.cell q (by rw [HA.out.1]; exact hq8)
      have fA := HP2.out.1.frozen q
      have lx : g0 a q < 4294967296 := g0_lt HA.out.2 (by decide) q
      obtain ⟨x, hx⟩ : ∃ x, x = g0 a q := ⟨_, rfl⟩
      change W.cell? _ = some (.int .u64 ((g0 a q : Nat) : Int)) at cA
      rw [← hx] at cA lx
      have HO := Lib.hid (show withN a bit = a.set q (x + v) by unfold withN; rw [← HQ.out, ← HR.out, ← hI.out, hx])
      have HS := Lib.hid (HP2.out.1.stored q (x + v) ((x : Int) + (v : Int)) (by push_cast; rfl))
      have H4 := Lib.hid (HP2.out.2.1.other ⟨h2, q, none⟩ (.int .u64 ((x : Int) + (v : Int))) hd.out.1)
      have HBW := Lib.hid (HP2.out.2.2.setCell (p := ⟨h2, q, none⟩) hd.out.2.2 (.int .u64 ((x : Int) + (v : Int))))
      have hsz : (arrC .u64 (a.set q (x + v))).size = 8 := by rw [arrC_size, List.length_set, HA.out.1]
      have HSZ := Lib.hid hsz
      clear hx hsz
      generalize a.set q (x + v) = o at *
      go_wp2_with (first | (refine wpList_load_row rfl _ _ rfl h2 rfl _ (arrC .u64 o) _ _ HS.out Try.underlying65 rfl (by rw [HSZ.out]; kernel_rfl) ?_) | (refine wpList_store_row rfl _ _ _ rfl h4 (arrC .u64 o) rfl rfl 65 _ H4.out (by rw [HSZ.out]; kernel_rfl) (by rw [HSZ.out]; kernel_rfl) (arrC_one _ _) ?_))
      have hgr := grown_setRow (x := W.setCell ⟨h2, q, none⟩ (.int .u64 ((x : Int) + (v : Int)))) (y := W.setCell ⟨h2, q, none⟩ (.int .u64 ((x : Int) + (v : Int)))) (g := h4) ⟨rfl, rfl, rfl, Nat.le_refl _, fun _ _ _ => rfl⟩ (arrC .u64 o)
      refine bodyPost_ret (v := .agg (arrC .u64 o)) (results_cell_row (ty := 65) (p := 4) (by kernel_rfl) _ _ h4 65 (arrC .u64 o) (0, 0) _ rfl (setRow_heap _ h4 _ _ _ _ H4.out) Try.underlying65 rfl (by rw [HSZ.out]; kernel_rfl)) rfl ?_
      exact ⟨by rw [HO.out], HBW.out.grown hgr HBW.out.size (fun r e => by cases e; exact hd.out.2.1)⟩

end Go.Proofs.Ytpfdehjllnhllaa
