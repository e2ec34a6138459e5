/-
  THE LAW OctetNames: it has no input.
-/
import Derived.Test.YtidiapdddkknpaaOctE
import Derived.Test.YtidiapdddkknpaaOctLists
namespace Go.Proofs.Ytidiapdddkknpaa
open Go.RowKit

theorem Nums.lit (w : World) (E : TypeId) (z : List Int) (cs : Array Value) (h : cs = (z.map fun n => Value.int .i64 n).toArray) (hm : z.length ≤ maxLen) : Nums (w.alloc (.cells cs E)) (some ⟨w.heap.size, 0, .none⟩) z.length z.length z := by
  subst h
  refine ⟨rfl, Nat.le_refl _, hm, fun _ => ⟨w.heap.size, 0, rfl, by simp, fun i hi => ?_⟩⟩
  rw [World.cell?_alloc_at _ _ _ _ (by simp)]
  simp [hi]

theorem Bts.lit2 (w : World) (o : Obj) (E : TypeId) (l : List UInt8) (cs : Array Value) (h : cs = (l.map byt).toArray) (hm : l.length ≤ maxLen) : Bts ((w.alloc o).alloc (.cells cs E)) (some ⟨w.heap.size + 1, 0, .none⟩) l.length l.length l := by
  have := Bts.lit (w.alloc o) E l cs h hm
  rwa [World.size_alloc] at this

theorem Nums.lit2 (w : World) (o : Obj) (E : TypeId) (z : List Int) (cs : Array Value) (h : cs = (z.map fun n => Value.int .i64 n).toArray) (hm : z.length ≤ maxLen) : Nums ((w.alloc o).alloc (.cells cs E)) (some ⟨w.heap.size + 1, 0, .none⟩) z.length z.length z := by
  have := Nums.lit (w.alloc o) E z cs h hm
  rwa [World.size_alloc] at this

theorem below_a1 (w : World) (o : Obj) {w' : World} (h : Below (w.alloc o).heap.size (w.alloc o) w') : Below w.heap.size w w' := ((Below.refl _ _).alloc (Nat.le_refl _) o).trans (h.mono (by simp only [World.size_alloc]; omega))
theorem below_a2 (w : World) (o o' : Obj) {w' : World} (h : Below ((w.alloc o).alloc o').heap.size ((w.alloc o).alloc o') w') : Below w.heap.size w w' := below_a1 w o (below_a1 (w.alloc o) o' h)

theorem rows3 {B : Nat} {w : World} {v : Value} {X : List Row2} (h : OwnL 22 5 B w v X) (hX : X.map (·.2.2.2) = [[1], [], [2, 3]]) :
    ∃ a0 c0 a1 c1 a2 c2, X = [(a0, 1, c0, [1]), (a1, 0, c1, []), (a2, 2, c2, [2, 3])] := by
  match X, hX with
  | [(a0, n0, c0, l0), (a1, n1, c1, l1), (a2, n2, c2, l2)], hX =>
    simp only [List.map_cons, List.map_nil, List.cons.injEq, and_true] at hX
    obtain ⟨rfl, rfl, rfl⟩ := hX
    have h0 := (Own8.cap (h.each _ (List.mem_cons_self ..))).1
    have h1 := (Own8.cap (h.each _ (List.mem_cons_of_mem _ (List.mem_cons_self ..)))).1
    have h2 := (Own8.cap (h.each _ (List.mem_cons_of_mem _ (List.mem_cons_of_mem _ (List.mem_cons_self ..))))).1
    simp only [List.length_cons, List.length_nil] at h0 h1 h2
    subst h0 h1 h2
    exact ⟨a0, c0, a1, c1, a2, c2, rfl⟩


theorem wv_max : (wVal [0, 255, 255, 255, 255, 255, 255, 255, 255] == 18446744073709551615) = true := by decide

set_option maxRecDepth 100000 in
set_option maxHeartbeats 8000000 in
theorem names_walk (w0 : World) : Calls Try.prog 6 #[] w0 fun e w' => e = .returned (.bool true) ∧ Below w0.heap.size w0 w' := by
  go_enter Try.func6, Try.ntmps6
  have hZ := Lib.hid (Below.refl w0.heap.size w0)
  go_wp2_with fail
  refine (unhex_any [48, 48, 65, 66] _ (by decide)).mono ?_
  rintro e w1 ⟨hr, hb⟩
  rw [show unhexR [48, 48, 65, 66] = ([], 10) from by kernel_rfl] at hr
  obtain ⟨a1, c1, rfl, ho⟩ := hr.form
  dsimp only at ho ⊢
  have hs := hb
  replace hZ := Lib.hid (hZ.out.trans (hs.mono hZ.out.size))
  clear hr hb hs ho
  go_wp2_with fail
  refine (unhex_any [48] _ (by decide)).mono ?_
  rintro e w2 ⟨hr, hb⟩
  rw [show unhexR [48] = ([], 10) from by kernel_rfl] at hr
  obtain ⟨a2, c2, rfl, ho⟩ := hr.form
  dsimp only at ho ⊢
  have hs := hb
  replace hZ := Lib.hid (hZ.out.trans (hs.mono hZ.out.size))
  clear hr hb hs ho
  go_wp2_with fail
  refine (unhex_any [48, 103] _ (by decide)).mono ?_
  rintro e w3 ⟨hr, hb⟩
  rw [show unhexR [48, 103] = ([], 10) from by kernel_rfl] at hr
  obtain ⟨a3, c3, rfl, ho⟩ := hr.form
  dsimp only at ho ⊢
  have hs := hb
  replace hZ := Lib.hid (hZ.out.trans (hs.mono hZ.out.size))
  clear hr hb hs ho
  go_wp2_with fail
  refine (big_any 258 3 _ (by unfold Hid; decide)).mono ?_
  rintro e w4 ⟨hr, hb⟩
  rw [show bigR 258 3 = ([0, 1, 2], 0) from by kernel_rfl] at hr
  obtain ⟨a4, c4, rfl, ho⟩ := hr.form
  dsimp only at ho ⊢
  have hs := hb
  replace hZ := Lib.hid (hZ.out.trans (hs.mono hZ.out.size))
  have OA := Lib.hid ho
  have hA := Lib.hid (Below.refl w4.heap.size w4)
  clear hr hb hs ho
  go_wp2_with fail
  refine (big_any 258 1 _ (by unfold Hid; decide)).mono ?_
  rintro e w5 ⟨hr, hb⟩
  rw [show bigR 258 1 = ([], 10) from by kernel_rfl] at hr
  obtain ⟨a5, c5, rfl, ho⟩ := hr.form
  dsimp only at ho ⊢
  have hs := hb
  replace hZ := Lib.hid (hZ.out.trans (hs.mono hZ.out.size))
  replace hA := Lib.hid (hA.out.trans (hs.mono hA.out.size))
  clear hr hb hs ho
  go_wp2_with fail
  refine (big_any 0 (-1) _ (by unfold Hid; decide)).mono ?_
  rintro e w6 ⟨hr, hb⟩
  rw [show bigR 0 (-1) = ([], 2) from by kernel_rfl] at hr
  obtain ⟨a6, c6, rfl, ho⟩ := hr.form
  dsimp only at ho ⊢
  have hs := hb
  replace hZ := Lib.hid (hZ.out.trans (hs.mono hZ.out.size))
  replace hA := Lib.hid (hA.out.trans (hs.mono hA.out.size))
  clear hr hb hs ho
  go_wp2_with fail
  refine (big_any 0 65537 _ (by unfold Hid; decide)).mono ?_
  rintro e w7 ⟨hr, hb⟩
  rw [show bigR 0 65537 = ([], 2) from by kernel_rfl] at hr
  obtain ⟨a7, c7, rfl, ho⟩ := hr.form
  dsimp only at ho ⊢
  have hs := hb
  replace hZ := Lib.hid (hZ.out.trans (hs.mono hZ.out.size))
  replace hA := Lib.hid (hA.out.trans (hs.mono hA.out.size))
  clear hr hb hs ho
  go_wp2_with fail
  refine (big_any 0 0 _ (by unfold Hid; decide)).mono ?_
  rintro e w8 ⟨hr, hb⟩
  rw [show bigR 0 0 = ([], 0) from by kernel_rfl] at hr
  obtain ⟨a8, c8, rfl, ho⟩ := hr.form
  dsimp only at ho ⊢
  have hs := hb
  replace hZ := Lib.hid (hZ.out.trans (hs.mono hZ.out.size))
  replace hA := Lib.hid (hA.out.trans (hs.mono hA.out.size))
  clear hr hb hs ho
  go_wp2_with fail
  refine (pad_any _ _ _ [0, 0, 1, 2] 3 _ (Bts.lit w8 5 [0, 0, 1, 2] #[.int .u8 0, .int .u8 0, .int .u8 1, .int .u8 2] rfl (by decide))).mono ?_
  rintro e w9 ⟨hr, hb⟩
  rw [show padR [0, 0, 1, 2] 3 = ([0, 1, 2], 0) from by kernel_rfl] at hr
  obtain ⟨a9, c9, rfl, ho⟩ := hr.form
  dsimp only at ho ⊢
  have hs := below_a1 w8 _ hb
  replace hZ := Lib.hid (hZ.out.trans (hs.mono hZ.out.size))
  replace hA := Lib.hid (hA.out.trans (hs.mono hA.out.size))
  have OP := Lib.hid ho
  have hP := Lib.hid (Below.refl w9.heap.size w9)
  clear hr hb hs ho
  go_wp2_with fail
  refine (pad_any _ _ _ [1, 2] 1 _ (Bts.lit w9 5 [1, 2] #[.int .u8 1, .int .u8 2] rfl (by decide))).mono ?_
  rintro e w10 ⟨hr, hb⟩
  rw [show padR [1, 2] 1 = ([], 10) from by kernel_rfl] at hr
  obtain ⟨a10, c10, rfl, ho⟩ := hr.form
  dsimp only at ho ⊢
  have hs := below_a1 w9 _ hb
  replace hZ := Lib.hid (hZ.out.trans (hs.mono hZ.out.size))
  replace hA := Lib.hid (hA.out.trans (hs.mono hA.out.size))
  replace hP := Lib.hid (hP.out.trans (hs.mono hP.out.size))
  clear hr hb hs ho
  go_wp2_with fail
  refine (xor_any _ _ _ _ _ _ [5, 255] [3, 255] _ ((Bts.lit w10 5 [5, 255] #[.int .u8 5, .int .u8 255] rfl (by decide)).below ((Below.refl _ _).alloc (Nat.le_refl _) (.cells #[.int .u8 3, .int .u8 255] 5))) (Bts.lit2 w10 (.cells #[.int .u8 5, .int .u8 255] 5) 5 [3, 255] #[.int .u8 3, .int .u8 255] rfl (by decide)) (by decide)).mono ?_
  rintro e w11 ⟨hr, hb⟩
  rw [show xorR [5, 255] [3, 255] = ([6, 0], 0) from by kernel_rfl] at hr
  obtain ⟨a11, c11, rfl, ho⟩ := hr.form
  dsimp only at ho ⊢
  have hs := below_a2 w10 _ _ hb
  replace hZ := Lib.hid (hZ.out.trans (hs.mono hZ.out.size))
  replace hA := Lib.hid (hA.out.trans (hs.mono hA.out.size))
  replace hP := Lib.hid (hP.out.trans (hs.mono hP.out.size))
  have OX := Lib.hid ho
  have hX := Lib.hid (Below.refl w11.heap.size w11)
  clear hr hb hs ho
  go_wp2_with fail
  refine (xor_any _ _ _ _ _ _ [] [1] _ (Bts.none _) (Bts.lit w11 5 [1] #[.int .u8 1] rfl (by decide)) (by decide)).mono ?_
  rintro e w12 ⟨hr, hb⟩
  rw [show xorR [] [1] = ([], 2) from by kernel_rfl] at hr
  obtain ⟨a12, c12, rfl, ho⟩ := hr.form
  dsimp only at ho ⊢
  have hs := below_a1 w11 _ hb
  replace hZ := Lib.hid (hZ.out.trans (hs.mono hZ.out.size))
  replace hA := Lib.hid (hA.out.trans (hs.mono hA.out.size))
  replace hP := Lib.hid (hP.out.trans (hs.mono hP.out.size))
  replace hX := Lib.hid (hX.out.trans (hs.mono hX.out.size))
  clear hr hb hs ho
  go_wp2_with fail
  refine (cut_any _ _ _ [1, 2, 3] _ _ _ [1, 0, 2] _ ((Bts.lit w12 5 [1, 2, 3] #[.int .u8 1, .int .u8 2, .int .u8 3] rfl (by decide)).below ((Below.refl _ _).alloc (Nat.le_refl _) (.cells #[.int .i64 1, .int .i64 0, .int .i64 2] 3))) (Nums.lit2 w12 (.cells #[.int .u8 1, .int .u8 2, .int .u8 3] 5) 3 [1, 0, 2] #[.int .i64 1, .int .i64 0, .int .i64 2] rfl (by decide)) (by decide) (by decide)).mono ?_
  rintro e w13 ⟨hr, hb⟩
  rw [show cutR [1, 2, 3] [1, 0, 2] = ([[1], [], [2, 3]], 0) from by kernel_rfl] at hr
  obtain ⟨a13, c13, X13, rfl, ho, hM⟩ := hr.form
  dsimp only at ho ⊢
  have hs := below_a2 w12 _ _ hb
  replace hZ := Lib.hid (hZ.out.trans (hs.mono hZ.out.size))
  replace hA := Lib.hid (hA.out.trans (hs.mono hA.out.size))
  replace hP := Lib.hid (hP.out.trans (hs.mono hP.out.size))
  replace hX := Lib.hid (hX.out.trans (hs.mono hX.out.size))
  have OL := Lib.hid ho
  have hL := Lib.hid (Below.refl w13.heap.size w13)
  obtain ⟨r0, s0, r1, s1, r2, s2, rfl⟩ := rows3 ho hM
  clear hM
  clear hr hb hs ho
  go_wp2_with fail
  refine (cut_any _ _ _ [1, 2, 3] _ _ _ [4, -1] _ ((Bts.lit w13 5 [1, 2, 3] #[.int .u8 1, .int .u8 2, .int .u8 3] rfl (by decide)).below ((Below.refl _ _).alloc (Nat.le_refl _) (.cells #[.int .i64 4, .int .i64 (-1)] 3))) (Nums.lit2 w13 (.cells #[.int .u8 1, .int .u8 2, .int .u8 3] 5) 3 [4, (-1)] #[.int .i64 4, .int .i64 (-1)] rfl (by decide)) (by decide) (by decide)).mono ?_
  rintro e w14 ⟨hr, hb⟩
  rw [show cutR [1, 2, 3] [4, -1] = ([], 2) from by kernel_rfl] at hr
  obtain ⟨a14, c14, X14, rfl, ho, hM⟩ := hr.form
  obtain rfl : X14 = [] := by simpa using hM
  clear hM
  dsimp only at ho ⊢
  have hs := below_a2 w13 _ _ hb
  replace hZ := Lib.hid (hZ.out.trans (hs.mono hZ.out.size))
  replace hA := Lib.hid (hA.out.trans (hs.mono hA.out.size))
  replace hP := Lib.hid (hP.out.trans (hs.mono hP.out.size))
  replace hX := Lib.hid (hX.out.trans (hs.mono hX.out.size))
  replace hL := Lib.hid (hL.out.trans (hs.mono hL.out.size))
  clear hr hb hs ho
  go_wp2_with fail
  refine (cut_any _ _ _ [1, 2, 3] _ _ _ [1] _ ((Bts.lit w14 5 [1, 2, 3] #[.int .u8 1, .int .u8 2, .int .u8 3] rfl (by decide)).below ((Below.refl _ _).alloc (Nat.le_refl _) (.cells #[.int .i64 1] 3))) (Nums.lit2 w14 (.cells #[.int .u8 1, .int .u8 2, .int .u8 3] 5) 3 [1] #[.int .i64 1] rfl (by decide)) (by decide) (by decide)).mono ?_
  rintro e w15 ⟨hr, hb⟩
  rw [show cutR [1, 2, 3] [1] = ([], 2) from by kernel_rfl] at hr
  obtain ⟨a15, c15, X15, rfl, ho, hM⟩ := hr.form
  obtain rfl : X15 = [] := by simpa using hM
  clear hM
  dsimp only at ho ⊢
  have hs := below_a2 w14 _ _ hb
  replace hZ := Lib.hid (hZ.out.trans (hs.mono hZ.out.size))
  replace hA := Lib.hid (hA.out.trans (hs.mono hA.out.size))
  replace hP := Lib.hid (hP.out.trans (hs.mono hP.out.size))
  replace hX := Lib.hid (hX.out.trans (hs.mono hX.out.size))
  replace hL := Lib.hid (hL.out.trans (hs.mono hL.out.size))
  clear hr hb hs ho
  go_wp2_with fail
  refine (whole_any _ _ _ [1, 0, 0, 0, 0, 0, 0, 0, 0] _ (Bts.lit w15 5 [1, 0, 0, 0, 0, 0, 0, 0, 0] #[.int .u8 1, .int .u8 0, .int .u8 0, .int .u8 0, .int .u8 0, .int .u8 0, .int .u8 0, .int .u8 0, .int .u8 0] rfl (by decide))).mono ?_
  rintro e w' ⟨he, rfl⟩
  obtain rfl := he.form
  clear he
  have hs := (Below.refl w15.heap.size w15).alloc (Nat.le_refl _) (.cells #[.int .u8 1, .int .u8 0, .int .u8 0, .int .u8 0, .int .u8 0, .int .u8 0, .int .u8 0, .int .u8 0, .int .u8 0] 5)
  obtain ⟨w16, hw⟩ : ∃ v, w15.alloc (.cells #[.int .u8 1, .int .u8 0, .int .u8 0, .int .u8 0, .int .u8 0, .int .u8 0, .int .u8 0, .int .u8 0, .int .u8 0] 5) = v := ⟨_, rfl⟩
  rw [hw] at hs ⊢
  replace hZ := Lib.hid (hZ.out.trans (hs.mono hZ.out.size))
  replace hA := Lib.hid (hA.out.trans (hs.mono hA.out.size))
  replace hP := Lib.hid (hP.out.trans (hs.mono hP.out.size))
  replace hX := Lib.hid (hX.out.trans (hs.mono hX.out.size))
  replace hL := Lib.hid (hL.out.trans (hs.mono hL.out.size))
  clear hs hw
  rw [show wVal [1, 0, 0, 0, 0, 0, 0, 0, 0] = 0 from by decide, show wErr [1, 0, 0, 0, 0, 0, 0, 0, 0] = 10 from by decide]
  go_wp2_with fail
  refine (whole_any _ _ _ [0, 255, 255, 255, 255, 255, 255, 255, 255] _ (Bts.lit w16 5 [0, 255, 255, 255, 255, 255, 255, 255, 255] #[.int .u8 0, .int .u8 255, .int .u8 255, .int .u8 255, .int .u8 255, .int .u8 255, .int .u8 255, .int .u8 255, .int .u8 255] rfl (by decide))).mono ?_
  rintro e w' ⟨he, rfl⟩
  obtain rfl := he.form
  clear he
  have hs := (Below.refl w16.heap.size w16).alloc (Nat.le_refl _) (.cells #[.int .u8 0, .int .u8 255, .int .u8 255, .int .u8 255, .int .u8 255, .int .u8 255, .int .u8 255, .int .u8 255, .int .u8 255] 5)
  obtain ⟨w17, hw⟩ : ∃ v, w16.alloc (.cells #[.int .u8 0, .int .u8 255, .int .u8 255, .int .u8 255, .int .u8 255, .int .u8 255, .int .u8 255, .int .u8 255, .int .u8 255] 5) = v := ⟨_, rfl⟩
  rw [hw] at hs ⊢
  replace hZ := Lib.hid (hZ.out.trans (hs.mono hZ.out.size))
  replace hA := Lib.hid (hA.out.trans (hs.mono hA.out.size))
  replace hP := Lib.hid (hP.out.trans (hs.mono hP.out.size))
  replace hX := Lib.hid (hX.out.trans (hs.mono hX.out.size))
  replace hL := Lib.hid (hL.out.trans (hs.mono hL.out.size))
  clear hs hw
  have hv := wv_max
  rw [show wErr [0, 255, 255, 255, 255, 255, 255, 255, 255] = 0 from by decide]
  generalize wVal [0, 255, 255, 255, 255, 255, 255, 255, 255] = v at *
  have kA := conv8 (OA.out.bts.below hA.out)
  have kP := conv8 (OP.out.bts.below hP.out)
  have kX := conv8 (OX.out.bts.below hX.out)
  have hrow := (OL.out.below hL.out).rows
  obtain ⟨lb, lo, rfl, -, hcl⟩ := hrow.cells (by show 0 < 3; decide)
  have hc1 := hcl 1 (by show 1 < 3; decide)
  have hc2 := hcl 2 (by show 2 < 3; decide)
  have k2 := conv8 (hrow.at 2 (by show 2 < 3; decide))
  simp only [List.getElem?_cons_succ, List.getElem?_cons_zero, Option.getD_some] at hc1 hc2 k2
  clear hrow hcl
  rw [show strOf ([0, 1, 2] : List UInt8) = ⟨#[0, 1, 2]⟩ from rfl] at kA kP
  rw [show strOf ([6, 0] : List UInt8) = ⟨#[6, 0]⟩ from rfl] at kX
  rw [show strOf ([2, 3] : List UInt8) = ⟨#[2, 3]⟩ from rfl] at k2
  simp only [List.length_cons, List.length_nil] at kA kP kX
  clear OA OP OX OL hA hP hX hL
  go_wp2_with fail
  clear kA kP kX k2 hc1 hc2 hv
  refine (alive_any _).mono ?_
  rintro e w18 ⟨rfl, hb⟩
  replace hZ := Lib.hid (hZ.out.trans (hb.mono hZ.out.size))
  clear hb
  go_wp2_with fail
  refine (cmp_any _ _ _ _ _ _ [1, 2] [1, 2, 0] _ ((Bts.lit w18 5 [1, 2] #[.int .u8 1, .int .u8 2] rfl (by decide)).below ((Below.refl _ _).alloc (Nat.le_refl _) (.cells #[.int .u8 1, .int .u8 2, .int .u8 0] 5))) (Bts.lit2 w18 (.cells #[.int .u8 1, .int .u8 2] 5) 5 [1, 2, 0] #[.int .u8 1, .int .u8 2, .int .u8 0] rfl (by decide))).mono ?_
  rintro e w' ⟨rfl, rfl⟩
  rw [show Lib.compareBytes [1, 2] [1, 2, 0] = (-1) from by decide]
  have hs := below_a2 w18 (.cells #[.int .u8 1, .int .u8 2] 5) (.cells #[.int .u8 1, .int .u8 2, .int .u8 0] 5) (Below.refl _ _)
  obtain ⟨w19, hw⟩ : ∃ v, (w18.alloc (.cells #[.int .u8 1, .int .u8 2] 5)).alloc (.cells #[.int .u8 1, .int .u8 2, .int .u8 0] 5) = v := ⟨_, rfl⟩
  rw [hw] at hs ⊢
  replace hZ := Lib.hid (hZ.out.trans (hs.mono hZ.out.size))
  clear hs hw
  go_wp2_with fail
  refine (cmp_any _ _ _ _ _ _ [2] [1, 9] _ ((Bts.lit w19 5 [2] #[.int .u8 2] rfl (by decide)).below ((Below.refl _ _).alloc (Nat.le_refl _) (.cells #[.int .u8 1, .int .u8 9] 5))) (Bts.lit2 w19 (.cells #[.int .u8 2] 5) 5 [1, 9] #[.int .u8 1, .int .u8 9] rfl (by decide))).mono ?_
  rintro e w' ⟨rfl, rfl⟩
  rw [show Lib.compareBytes [2] [1, 9] = 1 from by decide]
  have hs := below_a2 w19 (.cells #[.int .u8 2] 5) (.cells #[.int .u8 1, .int .u8 9] 5) (Below.refl _ _)
  obtain ⟨w20, hw⟩ : ∃ v, (w19.alloc (.cells #[.int .u8 2] 5)).alloc (.cells #[.int .u8 1, .int .u8 9] 5) = v := ⟨_, rfl⟩
  rw [hw] at hs ⊢
  replace hZ := Lib.hid (hZ.out.trans (hs.mono hZ.out.size))
  clear hs hw
  go_wp2_with fail
  refine (cmp_any _ _ _ _ _ _ [] [] _ (Bts.none _) (Bts.none _)).mono ?_
  rintro e w' ⟨rfl, rfl⟩
  rw [show Lib.compareBytes [] [] = 0 from rfl]
  go_wp2_with fail
  go_ret
  exact ⟨rfl, hZ.out⟩

end Go.Proofs.Ytidiapdddkknpaa
