/-
  Layer 8: the law MaskPieces. (Written by wip/gen_mkR.py.)
-/
import Derived.Test.YtmfjhgjplmpecaaDoorMk4
import Derived.Deep.RegionHeld3
namespace Go.Proofs.YtmfjhgjplmpecaaDoor
open Go.RowKit Go.Shelf
set_option maxRecDepth 100000

def pcR (a : Option Addr) (la ca i k : Nat) (pi pk : Option Addr) (A : List Nat) : Nat → Option Addr × Nat × Nat × List Nat
  | 0 => (a, i, ca, A.take i)
  | 1 => (pi, k - i, ca - i, (A.take k).drop i)
  | 2 => (none, 0, 0, [])
  | _ => (pk, la - k, ca - k, (A.take la).drop k)
theorem pcR_flat (a : Option Addr) (la ca i k : Nat) (pi pk : Option Addr) (A : List Nat) (hik : i ≤ k) (hk : k ≤ la) (hA : A.length = la) : flatM (pcR a la ca i k pi pk A) 4 = A := by
  show ((([] ++ A.take i) ++ (A.take k).drop i) ++ []) ++ (A.take la).drop k = A
  rw [List.nil_append, List.append_nil, show A.take la = A from List.take_of_length_le (by omega)]
  have h1 : A.take i ++ (A.take k).drop i = A.take k := by
    have := List.take_append_drop i (A.take k)
    rwa [List.take_take, Nat.min_eq_left hik] at this
  rw [h1, List.take_append_drop]
theorem mNamed_mName {h : Nat} (hh : IsHash h) : mNamed (strOf (mName h)) = (h : Int) := by
  rcases hh with rfl | rfl | rfl | rfl <;> kernel_rfl

set_option maxHeartbeats 4000000 in
theorem mpieces_walk (n : Nat) (hn : n < 256) (a : Option Addr) (la ca : Nat) (A : List Nat) (at' tq : Nat) (hat : at' < 65536) (hto : tq < 65536) (w : World) (hk : Kinds w) (hA : Reads .u8 w a la ca A) (hAb : Byt A) :
    Calls Tryd.prog 8 #[.int .u8 (n : Int), .slice a la ca, .int .u16 (at' : Int), .int .u16 (tq : Int)] w fun e w' => e = .returned (.bool true) ∧ Below w.heap.size w w' := by
  have HA := Lib.hid hA
  have HAL := Lib.hid hA.length
  have hlc := hA.le
  have HAB := Lib.hid hAb
  have HK := Lib.hid hk
  have HHN := Lib.hid hn
  obtain ⟨h, hh⟩ : ∃ h, h = 1 + n % 4 := ⟨_, rfl⟩
  have HH := Lib.hid (hh ▸ isHash_m n)
  have HHE := Lib.hid hh
  have hh4 : 1 ≤ h ∧ h ≤ 4 := isHash_lt HH.out
  clear hA hAb hk hn hh
  by_cases hbig : 1000 < la
  · have d1 : decide ((1000 : Int) < (la : Int)) = true := by simp; omega
    go_enter Tryd.func8, Tryd.ntmps8
    go_wp2_with fail
    refine (alive_m w HK.out).mono ?_
    rintro e w1 ⟨rfl, h1⟩
    have HB1 := Lib.hid h1
    clear h1
    go_wp2
    go_ret
    exact ⟨rfl, HB1.out⟩
  have d1 : decide ((1000 : Int) < (la : Int)) = false := by simp; omega
  obtain ⟨i, hi⟩ : ∃ i, i = at' % (la + 1) := ⟨_, rfl⟩
  have hil : i ≤ la := by have := Nat.mod_lt at' (show 0 < la + 1 by omega); omega
  obtain ⟨j, hj⟩ : ∃ j, j = tq % (la - i + 1) := ⟨_, rfl⟩
  have hjl : j ≤ la - i := by have := Nat.mod_lt tq (show 0 < la - i + 1 by omega); omega
  have m1 : Int.tmod (at' : Int) ((la : Int) + 1) = (i : Int) := by
    rw [Int.tmod_eq_emod_of_nonneg (by omega), hi]
    norm_cast
  have m2 : Int.tmod (tq : Int) ((la : Int) - (i : Int) + 1) = (j : Int) := by
    rw [Int.tmod_eq_emod_of_nonneg (by omega), hj, show (la : Int) - (i : Int) + 1 = ((la - i + 1 : Nat) : Int) by omega]
    norm_cast
  have z1 : ((la : Int) + 1 == 0) = false := by simp; omega
  have z2 : ((la : Int) - (i : Int) + 1 == 0) = false := by simp; omega
  obtain ⟨k, hkj⟩ : ∃ k, k = i + j := ⟨_, rfl⟩
  have hsum : (i : Int) + (j : Int) = (k : Int) := by omega
  have hik : i ≤ k := by omega
  have hkl : k ≤ la := by omega
  have hla : la ≤ 1000 := by omega
  clear hi hj hkj hbig
  go_enter Tryd.func8, Tryd.ntmps8
  go_wp2_with fail
  refine (alive_m w HK.out).mono ?_
  rintro e w1 ⟨rfl, h1⟩
  have HB1 := Lib.hid h1
  clear h1
  go_wp2_with fail
  refine (hash_m n HHN.out w1).mono ?_
  rintro e w1' ⟨rfl, rfl⟩
  rw [← HHE.out]
  go_wp2_with fail
  refine (sum_yes h HH.out _ 1 1 (fun _ => (a, la, ca, A)) _ (HK.out.below (HB1.out.alloc HB1.out.size _)) (rows_alloc w w1 _ 1 _ HB1.out (fun z hz => ⟨HA.out, HAB.out, by dsimp only; omega⟩) (fun z hz => by obtain rfl : z = 0 := (by omega); rfl)) (by decide)).mono ?_
  rintro e w3 ⟨⟨ad1, c1, rfl, h1, h2⟩, h3⟩
  have HX := Lib.hid h1
  have HB3 := Lib.hid ((HB1.out.alloc HB1.out.size _).trans (h3.mono (by have := HB1.out.size; simp; omega)))
  have HA3 := Lib.hid (HA.out.below HB3.out)
  clear h1 h2 h3
  obtain ⟨pi, hpi⟩ : ∃ p, p = (if ca = i then a else a.map (·.add i)) := ⟨_, rfl⟩
  obtain ⟨pk, hpk⟩ : ∃ p, p = (if ca = k then a else a.map (·.add k)) := ⟨_, rfl⟩
  have hs1 : ∀ w, (sizeOf (Tryd.prog.elem 23)).run Tryd.prog w = .ok 1 w := fun _ => by kernel_rfl
  have sl1 : ∀ W, (Instr.sliceAt 23 (.slice a la ca) none (some (.int .i64 (i : Int))) none).run Tryd.prog W = .ok (.slice a i ca) W := fun W => by
    rw [run_sliceAt_slice W _ _ _ _ _ (by kernel_rfl), run_slice_h W _ a la ca (by kernel_rfl) .i64 (i : Int) (by omega) (by omega), hs1]
    simp [sliced, Result.andThen]
    cases a <;> simp [Addr.add]
  have sl2 : ∀ W, (Instr.sliceAt 23 (.slice a la ca) (some (.int .i64 (i : Int))) (some (.int .i64 (k : Int))) none).run Tryd.prog W = .ok (.slice pi (k - i) (ca - i)) W := fun W => by
    rw [run_sliceAt_slice W _ _ _ _ _ (by kernel_rfl), run_slice_lh W _ a la ca (by kernel_rfl) .i64 .i64 (i : Int) (k : Int) (by omega) (by omega) (by omega), hs1, hpi]
    simp [sliced, Result.andThen]
  have sl3 : ∀ W, (Instr.sliceAt 23 (.slice a la ca) (some (.int .i64 (k : Int))) none none).run Tryd.prog W = .ok (.slice pk (la - k) (ca - k)) W := fun W => by
    rw [run_sliceAt_slice W _ _ _ _ _ (by kernel_rfl), run_slice_l W _ a la ca (by kernel_rfl) .i64 (k : Int) (by omega) (by omega), hs1, hpk]
    simp [sliced, Result.andThen]
  have HR4 := Lib.hid (show ∀ z, z < 4 → Reads .u8 w3 (pcR a la ca i k pi pk A z).1 (pcR a la ca i k pi pk A z).2.1 (pcR a la ca i k pi pk A z).2.2.1 (pcR a la ca i k pi pk A z).2.2.2 ∧ Byt (pcR a la ca i k pi pk A z).2.2.2 ∧ (pcR a la ca i k pi pk A z).2.1 ≤ 1048576 from fun z hz => by
    rcases (show z = 0 ∨ z = 1 ∨ z = 2 ∨ z = 3 by omega) with rfl | rfl | rfl | rfl
    · exact ⟨HA3.out.upto i hil, fun x hx => HAB.out x (List.mem_of_mem_take hx), by show i ≤ 1048576; omega⟩
    · exact ⟨by have := HA3.out.sub i k hik hkl; rw [← hpi] at this; exact this, fun x hx => HAB.out x (List.mem_of_mem_take (List.mem_of_mem_drop hx)), by show k - i ≤ 1048576; omega⟩
    · exact ⟨Reads.none _ _, (by decide : Byt []), by show 0 ≤ 1048576; omega⟩
    · exact ⟨by have := HA3.out.sub k la hkl (Nat.le_refl _); rw [← hpk] at this; exact this, fun x hx => HAB.out x (List.mem_of_mem_take (List.mem_of_mem_drop hx)), by show la - k ≤ 1048576; omega⟩)
  clear hpi hpk
  go_wp2_with fail
  refine wp_region_held_drew (S := fun _ => True) (by kernel_rfl) trivial (fun hHeld => ?_)

  refine' wpAnyH_take (i := 0) (oi := _) (v := _) rfl (by kernel_rfl) (by kernel_rfl) (by kernel_rfl) (fun _ _ _ h => h) (Or.inl ⟨?_, ?_⟩) (by assumption) ?_
  rotate_left
  all_goals (try simp only [List.getElem_toArray, List.getElem_cons_succ, List.getElem_cons_zero])
  · rfl
  · intro W hSw; (try dsimp only at hSw); go_simp; (try with_reducible rfl)
  try simp only [Act.put, List.setIfInBounds_toArray, List.set_cons_zero, List.set_cons_succ]
  refine' wpAnyH_take (i := 1) (oi := _) (v := _) rfl (by kernel_rfl) (by kernel_rfl) (by kernel_rfl) (fun _ _ _ h => h) (Or.inl ⟨?_, ?_⟩) (by assumption) ?_
  rotate_left
  all_goals (try simp only [List.getElem_toArray, List.getElem_cons_succ, List.getElem_cons_zero])
  · rfl
  · intro W hSw; (try dsimp only at hSw); go_simp; (try with_reducible rfl)
  try simp only [Act.put, List.setIfInBounds_toArray, List.set_cons_zero, List.set_cons_succ]
  refine' wpAnyH_take (i := 2) (oi := _) (v := _) rfl (by kernel_rfl) (by kernel_rfl) (by kernel_rfl) (fun _ _ _ h => h) (Or.inl ⟨?_, ?_⟩) (by assumption) ?_
  rotate_left
  all_goals (try simp only [List.getElem_toArray, List.getElem_cons_succ, List.getElem_cons_zero])
  · rfl
  · intro W hSw; (try dsimp only at hSw); go_simp; (try with_reducible rfl)
  try simp only [Act.put, List.setIfInBounds_toArray, List.set_cons_zero, List.set_cons_succ]
  refine' wpAnyH_take (i := 3) (oi := _) (v := .slice a i ca) rfl (by kernel_rfl) (by kernel_rfl) (by kernel_rfl) (fun _ _ _ h => h) (Or.inl ⟨?_, ?_⟩) (by assumption) ?_
  all_goals (try simp only [List.getElem_toArray, List.getElem_cons_succ, List.getElem_cons_zero])
  · rfl
  · intro W hSw; (try dsimp only at hSw); go_simp; (first | done | exact sl1 W)
  try simp only [Act.put, List.setIfInBounds_toArray, List.set_cons_zero, List.set_cons_succ]
  refine' wpAnyH_take (i := 4) (oi := _) (v := _) rfl (by kernel_rfl) (by kernel_rfl) (by kernel_rfl) (fun _ _ _ h => h) (Or.inl ⟨?_, ?_⟩) (by assumption) ?_
  rotate_left
  all_goals (try simp only [List.getElem_toArray, List.getElem_cons_succ, List.getElem_cons_zero])
  · rfl
  · intro W hSw; (try dsimp only at hSw); go_simp; (try with_reducible rfl)
  try simp only [Act.put, List.setIfInBounds_toArray, List.set_cons_zero, List.set_cons_succ]
  refine' wpAnyH_take (i := 5) (oi := _) (v := _) rfl (by kernel_rfl) (by kernel_rfl) (by kernel_rfl) (fun _ _ _ h => h) (Or.inl ⟨?_, ?_⟩) (by assumption) ?_
  rotate_left
  all_goals (try simp only [List.getElem_toArray, List.getElem_cons_succ, List.getElem_cons_zero])
  · rfl
  · intro W hSw; (try dsimp only at hSw); go_simp; (try with_reducible rfl)
  try simp only [Act.put, List.setIfInBounds_toArray, List.set_cons_zero, List.set_cons_succ]
  refine' wpAnyH_take (i := 6) (oi := _) (v := _) rfl (by kernel_rfl) (by kernel_rfl) (by kernel_rfl) (fun _ _ _ h => h) (Or.inl ⟨?_, ?_⟩) (by assumption) ?_
  rotate_left
  all_goals (try simp only [List.getElem_toArray, List.getElem_cons_succ, List.getElem_cons_zero])
  · rfl
  · intro W hSw; (try dsimp only at hSw); go_simp; (try with_reducible rfl)
  try simp only [Act.put, List.setIfInBounds_toArray, List.set_cons_zero, List.set_cons_succ]
  refine' wpAnyH_take (i := 7) (oi := _) (v := .slice pi (k - i) (ca - i)) rfl (by kernel_rfl) (by kernel_rfl) (by kernel_rfl) (fun _ _ _ h => h) (Or.inl ⟨?_, ?_⟩) (by assumption) ?_
  all_goals (try simp only [List.getElem_toArray, List.getElem_cons_succ, List.getElem_cons_zero])
  · rfl
  · intro W hSw; (try dsimp only at hSw); go_simp; (first | done | exact sl2 W)
  try simp only [Act.put, List.setIfInBounds_toArray, List.set_cons_zero, List.set_cons_succ]
  refine' wpAnyH_take (i := 8) (oi := _) (v := _) rfl (by kernel_rfl) (by kernel_rfl) (by kernel_rfl) (fun _ _ _ h => h) (Or.inl ⟨?_, ?_⟩) (by assumption) ?_
  rotate_left
  all_goals (try simp only [List.getElem_toArray, List.getElem_cons_succ, List.getElem_cons_zero])
  · rfl
  · intro W hSw; (try dsimp only at hSw); go_simp; (try with_reducible rfl)
  try simp only [Act.put, List.setIfInBounds_toArray, List.set_cons_zero, List.set_cons_succ]
  refine' wpAnyH_take (i := 9) (oi := _) (v := _) rfl (by kernel_rfl) (by kernel_rfl) (by kernel_rfl) (fun _ _ _ h => h) (Or.inl ⟨?_, ?_⟩) (by assumption) ?_
  rotate_left
  all_goals (try simp only [List.getElem_toArray, List.getElem_cons_succ, List.getElem_cons_zero])
  · rfl
  · intro W hSw; (try dsimp only at hSw); go_simp; (try with_reducible rfl)
  try simp only [Act.put, List.setIfInBounds_toArray, List.set_cons_zero, List.set_cons_succ]
  refine' wpAnyH_take (i := 10) (oi := _) (v := .slice pk (la - k) (ca - k)) rfl (by kernel_rfl) (by kernel_rfl) (by kernel_rfl) (fun _ _ _ h => h) (Or.inl ⟨?_, ?_⟩) (by assumption) ?_
  all_goals (try simp only [List.getElem_toArray, List.getElem_cons_succ, List.getElem_cons_zero])
  · rfl
  · intro W hSw; (try dsimp only at hSw); go_simp; (first | done | exact sl3 W)
  try simp only [Act.put, List.setIfInBounds_toArray, List.set_cons_zero, List.set_cons_succ]
  refine wpAnyH_ready (rs := [11]) (by kernel_rfl) (by simp) ?_
  refine AllReadyH.cons (o := _) rfl (fun K hK => ?_) AllReadyH.nil
  try simp only [List.getElem_toArray, List.getElem_cons_succ, List.getElem_cons_zero]
  go_simp
  refine hK.out _ _ trivial (fun hHeld => ?_)
  clear hK K
  try simp only [Act.put, List.setIfInBounds_toArray, List.set_cons_zero, List.set_cons_succ]
  refine wpAnyH_ready (rs := [12]) (by kernel_rfl) (by simp) ?_
  refine AllReadyH.cons (o := _) rfl (fun K hK => ?_) AllReadyH.nil
  try simp only [List.getElem_toArray, List.getElem_cons_succ, List.getElem_cons_zero]
  go_simp
  refine (sum_yes h HH.out (some ⟨w3.drew.heap.size, 0, none⟩) 4 4 (pcR a la ca i k pi pk A) _ (HK.out.below ((HB3.out.drew).alloc HB3.out.drew.size _)) (rows_alloc w3 w3.drew _ 4 _ (Below.refl _ _).drew HR4.out (fun z hz => by rcases (show z = 0 ∨ z = 1 ∨ z = 2 ∨ z = 3 by omega) with rfl | rfl | rfl | rfl <;> rfl)) (by decide)).mono ?_
  rintro e w4 ⟨⟨ad2, c2, rfl, h1, h2⟩, h3⟩
  have H4 := Lib.hid h1
  have HB4 := Lib.hid ((HB3.out.drew.alloc HB3.out.drew.size _).trans (h3.mono (by have := HB3.out.size; simp; omega)))
  have HX4 := Lib.hid ((HX.out.below ((Below.refl w3.heap.size w3).drew.alloc (Nat.le_refl _) _)).below h3)
  clear h1 h2 h3
  go_wp2_with fail
  refine hK.out _ _ trivial (fun hHeld => ?_)
  clear hK K
  try simp only [Act.put, List.setIfInBounds_toArray, List.set_cons_zero, List.set_cons_succ]
  refine' wpAnyH_take (i := 13) (oi := _) (v := _) rfl (by kernel_rfl) (by kernel_rfl) (by kernel_rfl) (fun _ _ _ h => h) (Or.inl ⟨?_, ?_⟩) (by assumption) ?_
  rotate_left
  all_goals (try simp only [List.getElem_toArray, List.getElem_cons_succ, List.getElem_cons_zero])
  · rfl
  · intro W hSw; (try dsimp only at hSw); go_simp; (try with_reducible rfl)
  try simp only [Act.put, List.setIfInBounds_toArray, List.set_cons_zero, List.set_cons_succ]
  refine' wpAnyH_take (i := 14) (oi := _) (v := _) rfl (by kernel_rfl) (by kernel_rfl) (by kernel_rfl) (fun _ _ _ h => h) (Or.inl ⟨?_, ?_⟩) (by assumption) ?_
  rotate_left
  all_goals (try simp only [List.getElem_toArray, List.getElem_cons_succ, List.getElem_cons_zero])
  · rfl
  · intro W hSw; (try dsimp only at hSw); go_simp; (try with_reducible rfl)
  try simp only [Act.put, List.setIfInBounds_toArray, List.set_cons_zero, List.set_cons_succ]
  refine' wpAnyH_take (i := 15) (oi := _) (v := _) rfl (by kernel_rfl) (by kernel_rfl) (by kernel_rfl) (fun _ _ _ h => h) (Or.inl ⟨?_, ?_⟩) (by assumption) ?_
  rotate_left
  all_goals (try simp only [List.getElem_toArray, List.getElem_cons_succ, List.getElem_cons_zero])
  · rfl
  · intro W hSw; (try dsimp only at hSw); go_simp; (try with_reducible rfl)
  try simp only [Act.put, List.setIfInBounds_toArray, List.set_cons_zero, List.set_cons_succ]
  refine' wpAnyH_take (i := 16) (oi := _) (v := _) rfl (by kernel_rfl) (by kernel_rfl) (by kernel_rfl) (fun _ _ _ h => h) (Or.inl ⟨?_, ?_⟩) (by assumption) ?_
  rotate_left
  all_goals (try simp only [List.getElem_toArray, List.getElem_cons_succ, List.getElem_cons_zero])
  · rfl
  · intro W hSw; (try dsimp only at hSw); go_simp; (try with_reducible rfl)
  try simp only [Act.put, List.setIfInBounds_toArray, List.set_cons_zero, List.set_cons_succ]
  refine' wpAnyH_take (i := 17) (oi := _) (v := _) rfl (by kernel_rfl) (by kernel_rfl) (by kernel_rfl) (fun _ _ _ h => h) (Or.inl ⟨?_, ?_⟩) (by assumption) ?_
  rotate_left
  all_goals (try simp only [List.getElem_toArray, List.getElem_cons_succ, List.getElem_cons_zero])
  · rfl
  · intro W hSw; (try dsimp only at hSw); go_simp; (try with_reducible rfl)
  try simp only [Act.put, List.setIfInBounds_toArray, List.set_cons_zero, List.set_cons_succ]
  refine wpAnyH_done (by kernel_rfl) ?_ _
  simp only [Exit.then]
  have HX := Lib.hid (show Reads .u8 w4 (some ad1) (mSize h) c1 (mHash h A) from HX4.out)
  have HY := Lib.hid (show Reads .u8 w4 (some ad2) (mSize h) c2 (mHash h A) by have h1 := H4.out; rwa [pcR_flat a la ca i k pi pk A hik hkl HAL.out] at h1)
  have bA : ∀ m, Byt (mHash h m) := fun m => mHash_byt HH.out m
  have BA := Lib.hid bA
  clear sl1 sl2 sl3 hs1 hHeld bA HX4 H4
  go_wp2_with fail
  refine (sum_yes h HH.out none 0 0 (fun _ => (none, 0, 0, [])) w4 (HK.out.below HB4.out) ⟨fun z hz => by omega, fun hz => by omega⟩ (by decide)).mono ?_
  rintro e w5 ⟨⟨ad3, c3, rfl, h1, h2⟩, h3⟩
  have HN := Lib.hid (show Reads .u8 w5 (some ad3) (mSize h) c3 (mHash h []) from h1)
  have HX := Lib.hid (HX.out.below h3)
  have HY := Lib.hid (HY.out.below h3)
  have HB5 := Lib.hid (HB4.out.trans (h3.mono HB4.out.size))
  clear h1 h2 h3
  go_wp2_with fail
  refine (sum_yes h HH.out _ 2 2 (fun _ => (none, 0, 0, [])) _ (HK.out.below (HB5.out.alloc HB5.out.size _)) (rows_alloc w5 w5 _ 2 _ (Below.refl _ _) (fun z hz => ⟨Reads.none _ _, (by decide : Byt []), (by decide : 0 ≤ 1048576)⟩) (fun z hz => by rcases (show z = 0 ∨ z = 1 by omega) with rfl | rfl <;> rfl)) (by decide)).mono ?_
  rintro e w6 ⟨⟨ad4, c4, rfl, h1, h2⟩, h3⟩
  have h3' : Below w5.heap.size w5 w6 := ((Below.refl w5.heap.size w5).alloc (Nat.le_refl _) _).trans (h3.mono (by simp))
  have HE := Lib.hid (show Reads .u8 w6 (some ad4) (mSize h) c4 (mHash h []) from h1)
  have HX := Lib.hid (HX.out.below h3')
  have HY := Lib.hid (HY.out.below h3')
  have HN := Lib.hid (HN.out.below h3')
  have HB6 := Lib.hid (HB5.out.trans (h3'.mono HB5.out.size))
  have cvX := convB (HX.out.bts (BA.out _))
  have cvY := convB (HY.out.bts (BA.out _))
  clear h1 h2 h3 h3'
  go_wp2_with fail
  refine (size_yes h HH.out w6 (HK.out.below HB6.out)).mono ?_
  rintro e w7 ⟨rfl, h3⟩
  have HB7 := Lib.hid (HB6.out.trans (h3.mono HB6.out.size))
  have cvN := convB ((HN.out.below h3).bts (BA.out _))
  have cvE := convB ((HE.out.below h3).bts (BA.out _))
  clear h3 cvX cvY
  go_wp2_with fail
  refine (name_yes h HH.out w7 (HK.out.below HB7.out)).mono ?_
  rintro e w8 ⟨rfl, h3⟩
  have HB8 := Lib.hid (HB7.out.trans (h3.mono HB7.out.size))
  clear h3 cvN cvE
  go_wp2_with fail
  refine (named_any _ w8 (HK.out.below HB8.out)).mono ?_
  rintro e w9 ⟨rfl, h3⟩
  rw [mNamed_mName HH.out]
  have HB9 := Lib.hid (HB8.out.trans (h3.mono HB8.out.size))
  clear h3
  go_wp2
  go_ret
  exact ⟨by simp, HB9.out⟩

end Go.Proofs.YtmfjhgjplmpecaaDoor
