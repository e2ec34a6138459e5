/-
  SHA-512: Sum.
-/
import Derived.Test.YtmfjhgjplmpecaaDoorQb1
import Derived.Test.YtmfjhgjplmpecaaDoorQbK
import Derived.Test.YtmfjhgjplmpecaaDoorQbL
import Derived.BigQuiet
import Derived.Deep.QuietTactic
namespace Go.Proofs.YtmfjhgjplmpecaaDoor.L5
open Go.RowKit Go.Shelf
set_option maxRecDepth 100000

/-- The words behind all. -/
def sumW (bt : Nat) (m : List Nat) : List Nat := wsK bt (m ++ endN m.length) ((m ++ endN m.length).length / 128)
def bytesW (ws : List Nat) (j : Nat) : List Nat := (List.range j).flatMap fun i => wd (g0 ws i) 8
theorem bytesW_succ (ws : List Nat) (j : Nat) : bytesW ws (j + 1) = bytesW ws j ++ wd (g0 ws j) 8 := by
  unfold bytesW
  rw [List.range_succ, List.flatMap_append]
  simp
theorem bytesW_len (ws : List Nat) : ∀ j, (bytesW ws j).length = 8 * j
  | 0 => rfl
  | j + 1 => by rw [bytesW_succ, List.length_append, bytesW_len ws j, wd_len]; omega
theorem bytesW_lt (ws : List Nat) (j : Nat) : ∀ x ∈ bytesW ws j, x < 256 := fun x hx => by
  unfold bytesW at hx
  obtain ⟨i, -, hx⟩ := List.mem_flatMap.1 hx
  exact wd_lt _ _ x hx
/-- The hash. -/
def hashN (bt : Nat) (m : List Nat) : List Nat := bytesW (sumW bt m) (bt / 64)
theorem hashN_lt (bt : Nat) (m : List Nat) : ∀ x ∈ hashN bt m, x < 256 := bytesW_lt _ _
theorem hashN_len {bt : Nat} (m : List Nat) (h : bt = 384 ∨ bt = 512) : (hashN bt m).length = bt / 8 := by
  unfold hashN
  rw [bytesW_len]
  omega
theorem endN_len (T : Nat) : (endN T).length = 1 + (239 - T % 128) % 128 + 8 + 8 := by
  unfold endN
  simp only [List.length_append, List.length_replicate, List.length_singleton, wd_len]
theorem endN_lt (T : Nat) : ∀ x ∈ endN T, x < 256 := fun x hx => by
  unfold endN at hx
  simp only [List.mem_append, List.mem_singleton] at hx
  rcases hx with ((rfl | hx) | hx) | hx
  · decide
  · have := List.eq_of_mem_replicate hx
    omega
  · exact wd_lt _ _ x hx
  · exact wd_lt _ _ x hx
theorem slice_upto (g q : Nat) (h : q ≤ 8) (W : World) : (Instr.sliceAt 80 (.pointer (some ⟨g, 1, none⟩)) none (some (.int .i64 (q : Int))) none).run Tryd.prog W = .ok (.slice (some ⟨g, 1, none⟩) q 8) W := by
  have hl : Tryd.prog.arrayLen 80 = 8 := by kernel_rfl
  have hs : ∀ w, (sizeOf (Tryd.prog.elem 80)).run Tryd.prog w = .ok 1 w := fun _ => by kernel_rfl
  rw [run_sliceAt_array_h W 80 ⟨g, 1, none⟩ (by kernel_rfl) .i64 (q : Int) (by omega) (by rw [hl]; omega), hs]
  show Result.ok (slicedAt ⟨g, 1, none⟩ 0 (q : Int).toNat (Tryd.prog.arrayLen 80) 1) W = _
  rw [hl]
  unfold slicedAt
  rw [Int.toNat_natCast]
  simp [Addr.add]

set_option maxRecDepth 100000 in
set_option maxHeartbeats 4000000 in
theorem sum_any (g bt : Nat) (m : List Nat) (w : World) (h : StateOf w g bt m) (hbt : bt = 384 ∨ bt = 512) :
    Calls Tryd.prog 36 #[.pointer (some ⟨g, 0, none⟩)] w fun e w' => (∃ ad : Addr × Nat, e = .returned (.slice (some ad.1) (bt / 8) ad.2) ∧ Reads .u8 w' (some ad.1) (bt / 8) ad.2 (hashN bt m) ∧ w.heap.size ≤ ad.1.block) ∧ Below w.heap.size w w' := by
  obtain ⟨ws, tail, hst, hfin, hmb, hm0⟩ := h
  have HM0 := Lib.hid hm0
  have HF := Lib.hid hfin
  have HS := Lib.hid hst
  have hgw := Lib.hid hst.lt
  have hbt0 : bt ≠ 0 := by omega
  have HBT := Lib.hid hbt
  have cT := hst.taken
  obtain ⟨T, hT⟩ : ∃ T, T = m.length := ⟨_, rfl⟩
  have HT := Lib.hid hT
  rw [← hT] at cT hmb
  obtain ⟨q, hq⟩ : ∃ q, q = bt / 64 := ⟨_, rfl⟩
  have hq1 : Int.tdiv (bt : Int) 64 = (q : Int) := by
    rw [Int.tdiv_eq_ediv_of_nonneg (by omega)]
    omega
  have hq8 : q ≤ 8 ∧ 6 ≤ q := by omega
  have hq9 : 8 * q = bt / 8 := by omega
  have HQ := Lib.hid hq
  have HQ9 := Lib.hid hq9
  clear hm0 hfin hst hbt hT hq hq9
  go_enter Tryd.func36, Tryd.ntmps36
  go_wp2_with fail
  refine (made_yes g bt ws tail _ w HS.out hbt0).mono ?_
  rintro e w1 ⟨rfl, rfl⟩
  go_wp2_with fail
  refine (copy_any g bt ws tail _ w HS.out hbt0).mono ?_
  rintro e w3 ⟨rfl, rfl⟩
  have hs3 := Lib.hid (show StateAt (w.alloc (.cells (stL bt ws tail m.length).toArray 97)) w.heap.size bt ws tail m.length from ⟨Go.heap_alloc_new w _, HS.out.wlen, HS.out.tlen, HS.out.wlt, HS.out.tlt⟩)
  have hb3 := Lib.hid ((Below.refl w.heap.size w).alloc (Nat.le_refl _) (.cells (stL bt ws tail m.length).toArray 97))
  have cT3 := (HS.out.below hb3.out hgw.out).taken
  have hz3 := Lib.hid (show (w.alloc (.cells (stL bt ws tail m.length).toArray 97)).heap.size = w.heap.size + 1 by simp)
  obtain ⟨f, hf⟩ : ∃ f, f = w.heap.size := ⟨_, rfl⟩
  rw [← hf] at hs3 ⊢
  have HFE := Lib.hid hf
  clear hf cT
  generalize w.alloc (.cells (stL bt ws tail m.length).toArray 97) = w3 at *
  rw [← HT.out] at cT3
  go_wp2_with fail
  refine (ending_any T _ rfl hmb w3).mono ?_
  rintro e w4 ⟨⟨v, rfl, ho4⟩, hb4⟩
  have HO4 := Lib.hid ho4
  have HB4 := Lib.hid hb4
  obtain ⟨g1, c1, rfl⟩ := ho4.succ (by intro e; have := endN_len T; rw [e] at this; simp at this)
  have hlt1 := Lib.hid (ho4.lt g1 rfl)
  have hs4 := Lib.hid (hs3.out.below hb4 hs3.out.lt)
  obtain ⟨N, hN⟩ : ∃ N, N = (endN T).length := ⟨_, rfl⟩
  have hel := endN_len T
  rw [← hN] at hel HO4 ⊢
  have HN := Lib.hid hN
  clear ho4 hb4 hN cT3
  have hNb : N ≤ 200 := by omega
  clear hel
  have HR4 : Reads .u8 w4 (some ⟨g1, 0, none⟩) N c1 (endN T) := by
    have h := HO4.out
    rw [HN.out] at h ⊢
    exact h.reads
  have HWC := Lib.hid (write_core f bt ws tail m (endN T) (some ⟨g1, 0, none⟩) N c1 w4 hs4.out HF.out hbt0 HR4 (endN_lt T) (by rw [← HT.out]; omega) (fun _ ad e => by cases e; have := hlt1.out.1; have := hs3.out.lt; show g1 ≠ f; omega))
  clear HR4
  generalize hET : endN T = ET at *
  have HET := Lib.hid hET
  clear hET
  go_wp2_with fail
  refine (HWC.out).mono ?_
  rintro e w5 ⟨rfl, ⟨ws5, tail5, hs5, hf5⟩, hg5⟩
  have HS5 := Lib.hid hs5
  have HZ := Lib.hid (show ws5 = sumW bt m by rw [hf5.1]; unfold sumW; rw [← HT.out, HET.out])
  have hfw : w.heap.size ≤ f := by rw [HFE.out]; exact Nat.le_refl _
  have HB5 := Lib.hid (show Below w.heap.size w w5 from ((hb3.out.trans (HB4.out.mono (by have := hz3.out; omega))).grown hg5 (by have := HB4.out.size; have := hz3.out; omega) (fun r e => by cases e; exact hfw)))
  have cB := (HS.out.below HB5.out hgw.out).bits
  have hsl := slice_upto f q hq8.1
  clear hs5 hf5 hg5
  go_wp2_with fail
  go_quiet (fail)
  have HS6 := Lib.hid (show StateAt (w5.drewN nq) f bt ws5 tail5 (m ++ ET).length from HS5.out.block rfl)
  have HB6 := Lib.hid (show Below w.heap.size w (w5.drewN nq) from below_drewS HB5.out nq)
  generalize w5.drewN nq = w6 at *
  clear cB hsl
  go_wp2_with fail
  go_loopw [29, 4] (fun iv sv wq => ∃ j : Nat, iv = .int .i64 (j : Int) ∧ j ≤ q ∧ Hid (OwnQ .u8 5 w6.heap.size wq sv (bytesW ws5 j) ∧ Below w6.heap.size w6 wq)) (fun iv _ _ => q - (intOf iv).toNat)
  case atStart => exact ⟨0, rfl, Nat.zero_le _, OwnQ.nil _ _ _ _, Below.refl _ _⟩
  case round =>
    obtain ⟨j, rfl, hj, hI⟩ := hrel
    by_cases hlt : j < q
    · have cw := (HS6.out.below hI.out.2 HS6.out.lt).word j (by omega)
      have lx : g0 ws5 j < 18446744073709551616 := g0_lt HS6.out.wlt (by decide) j
      have hbs := Lib.hid (bytesW_succ ws5 j)
      have hbl := Lib.hid (bytesW_len ws5 j)
      generalize g0 ws5 j = x at *
      have hjq : decide ((j : Int) < (q : Int)) = true := by simp; exact hlt
      go_wp2_with fail
      refine (appended_any w6.heap.size _ (bytesW ws5 j) x _ wr hI.out.1 (by rw [hbl.out]; omega) hI.out.2.size rfl lx).mono ?_
      rintro e w7 ⟨⟨v7, rfl, ho7⟩, hb7⟩
      rw [← hbs.out] at ho7
      have HO7 := Lib.hid ho7
      have HB7 := Lib.hid (hb7 _ hI.out.2)
      clear ho7 hb7
      go_wp2
      go_roundw
      case rel => exact ⟨j + 1, by go_num, by omega, HO7.out, HB7.out⟩
      case measure => simp [intOf] <;> omega
    · obtain rfl : j = q := by omega
      have ho := hI.out.1
      rw [show bytesW ws5 j = hashN bt m by unfold hashN; rw [← HQ.out, ← HZ.out]] at ho
      have HO := Lib.hid ho
      have HBf := Lib.hid (HB6.out.trans (hI.out.2.mono HB6.out.size))
      obtain ⟨h1, c9, hv⟩ := ho.succ (by intro e; have h8 := hashN_len m HBT.out; rw [e, List.length_nil] at h8; have := HQ9.out; omega)
      rw [hashN_len m HBT.out] at hv
      subst hv
      have hh1 := Lib.hid (ho.lt h1 rfl)
      clear ho hI
      have hjq : decide ((j : Int) < (j : Int)) = false := by simp
      go_wp2
      go_ret
      exact ⟨⟨(⟨h1, 0, none⟩, c9), rfl, HO.out.reads, by have := hh1.out.1; have := HB6.out.size; show w.heap.size ≤ h1; omega⟩, HBf.out⟩

end Go.Proofs.YtmfjhgjplmpecaaDoor.L5
