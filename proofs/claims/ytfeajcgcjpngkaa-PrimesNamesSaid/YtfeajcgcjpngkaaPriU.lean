/-
  THE LAW PrimesNames. (Written by wip/gen_priU.py.)
-/
import Derived.Test.YtfeajcgcjpngkaaPriT
namespace Go.Proofs.Ytfeajcgcjpngkaa
open Go.RowKit

theorem rep_len (k : Nat) : k = (List.replicate k 0).length := by simp
theorem rep_get (k i : Nat) : (List.replicate k 0)[i]?.getD 0 = 0 := by
  by_cases h : i < k
  · rw [List.getElem?_replicate, if_pos h]; rfl
  · rw [List.getElem?_replicate, if_neg h]; rfl
theorem lim_zeros (k : Nat) : Lim (List.replicate k 0) := fun x hx => by rw [List.eq_of_mem_replicate hx]; decide
theorem lim_long (k i : Nat) : Lim ((List.replicate k 0).set i 1) := fun x hx => by
  rcases List.mem_or_eq_of_mem_set hx with h | h
  · exact lim_zeros k x h
  · rw [h]; decide
theorem val_long (k i : Nat) (h : i < k) : val32 ((List.replicate k 0).set i 1) = 4294967296 ^ i := by
  have := valB_set 4294967296 (List.replicate k 0) i 1 (by simpa using h)
  rw [rep_get, valB_zeros, Nat.mul_zero, Nat.mul_one, Nat.zero_add, Nat.add_zero] at this
  exact this
theorem natAt_own' {E B : Nat} {w : World} {a : Option Addr} {len cap n : Nat} {l : List Nat} (h : OwnQ .u32 E B w (.slice a len cap) l) (hl : Lim l) (hv : val32 l = n) : NatAt w (.slice a len cap) n := ⟨a, len, cap, l, rfl, h.reads, hl, hv⟩
theorem natAt_zeros {E B k : Nat} {w : World} {a : Option Addr} {len cap : Nat} (h : OwnQ .u32 E B w (.slice a len cap) (List.replicate k 0)) : NatAt w (.slice a len cap) 0 := natAt_own' h (lim_zeros k) (valB_zeros _ _)
theorem rootN_zero {k : Nat} (hk : 1 ≤ k) : rootN k 0 = 0 := (rootN_eq hk ⟨by rw [Nat.zero_pow (by omega)]; exact Nat.le_refl _, by rw [Nat.zero_add, Nat.one_pow]; decide⟩).symm
theorem root_zero (x : Value) (w : World) (hx : NatAt w x 0) : Calls Try.prog 16 #[x, .int .i64 3] w fun e w' => RetsQ2 .u32 39 w.heap.size w' ([], 0) e ∧ Below w.heap.size w w' := by
  refine (root_any x 0 3 w hx).mono fun e w' ⟨h, hb⟩ => ⟨?_, hb⟩
  rw [rootP_ok (.inr rfl) (by unfold topN; exact Nat.pow_pos (by decide)), show (3 : Int).toNat = 3 from rfl, rootN_zero (by decide), nat32_lit [] 0 (fun _ h => by cases h) rfl rfl] at h
  exact h
theorem lt_top3 {n : Nat} (h : n < 4294967296 ^ 3) : n < topN := Nat.lt_of_lt_of_le h (by unfold topN; exact Nat.pow_le_pow_right (by decide) (by decide))
theorem natC_nil (w : World) : NatC w (.slice none 0 0) 0 := ⟨_, _, _, rfl, by rw [nat32_lit [] 0 (fun _ h => by cases h) rfl rfl]; exact Reads.none _ w⟩
theorem rootEq {k X r : Nat} (hk : 1 ≤ k) (h : Nat.ble (r ^ k) X = true) (h' : Nat.ble (X + 1) ((r + 1) ^ k) = true) : rootN k X = r :=
  (rootN_eq hk ⟨Nat.le_of_ble_eq_true h, Nat.le_of_ble_eq_true h'⟩).symm
theorem root_yes (x y : Value) {X : Nat} (k Y : Nat) (w : World) (hx : NatAt w x X) (hy : NatC w y Y) (hX : X < topN) (hk : k = 2 ∨ k = 3) (hY : rootN k X = Y) :
    Calls Try.prog 23 #[x, .int .i64 (k : Int), y] w fun e w' => e = .returned (.bool true) ∧ Below w.heap.size w w' := by
  obtain ⟨a, n, c, rfl, hr⟩ := hy
  have C := Lib.hid (root_ok x X k w hx hX hk)
  rw [hY] at C
  have R := Lib.hid hr
  clear hx hX hk hY hr
  go_enter Try.func23, Try.ntmps23
  go_wp2_with fail
  refine C.out.mono ?_
  rintro e w1 ⟨⟨v, rfl, ho⟩, hb⟩
  obtain ⟨a1, n1, c1, rfl, -, ho⟩ := ho.slice
  have F := Lib.hid hb
  replace R := Lib.hid (R.out.below hb)
  have R1 := Lib.hid ho.reads
  clear hb ho
  go_wp2_with fail
  refine (same_any _ _ _ _ _ _ _ _ _ R1.out R.out true (by simp)).mono ?_
  rintro e w2 ⟨rfl, hb⟩
  replace F := Lib.hid (F.out.trans (hb.mono F.out.size))
  clear hb
  go_wp2
  go_ret
  exact ⟨by simp, F.out⟩
theorem last_first : (firstP 1000)[999]?.getD 0 = 7919 := by
  have h1 : isPrime 7919 = true := by kernel_rfl
  have h2 : (primesTo 7919).length = 999 := by
    have h := thousand
    rw [primesTo_succ, if_pos h1, List.length_append, List.length_singleton] at h
    omega
  have h3 := firstP_at (N := 1000) (p := 7919) (x := (firstP 1000)[999]?.getD 0) (by decide) (by rw [h2]; decide) (by rw [h2])
  rw [h1] at h3
  exact of_decide_eq_true h3.symm
theorem three : firstP 3 = [2, 3, 5] := by
  have h : primesTo 7 = [2, 3, 5] := by kernel_rfl
  rw [← firstP_of (k := 7) (by rw [h]; rfl) (by decide), h]
theorem frac3 (p r v : Nat) (h : Nat.ble (r ^ 3) (p * 2 ^ 192) = true) (h' : Nat.ble (p * 2 ^ 192 + 1) ((r + 1) ^ 3) = true) (hv : Nat.beq v (r % 2 ^ 64) = true) : (fracP p 3 64).1 = v := by
  have e := fracP_ok (A := p) (k := 3) (n := 64) (p := 192) (.inr rfl) (by decide) (by decide) rfl
  have e2 := rootIs (k := 3) (by decide) h h' hv
  rw [show fracP p 3 64 = _ from e, e2]
theorem tab3 : tabL 3 3 64 = [4794697086780616226, 8158064640168781261, 13096744586834688815] := by
  unfold tabL
  rw [three, List.map_cons, List.map_cons, List.map_cons, List.map_nil, frac3 2 23241441160490167842 4794697086780616226 (by kernel_rfl) (by kernel_rfl) (by kernel_rfl), frac3 3 26604808713878332877 8158064640168781261 (by kernel_rfl) (by kernel_rfl) (by kernel_rfl), frac3 5 31543488660544240431 13096744586834688815 (by kernel_rfl) (by kernel_rfl) (by kernel_rfl)]

set_option maxRecDepth 100000 in
set_option maxHeartbeats 8000000 in
theorem names_walk (w : World) :
    Calls Try.prog 5 #[] w fun e w' => e = .returned (.bool true) ∧ Below w.heap.size w w' := by
  obtain ⟨i32, hj8, hj0, hj1, hj2⟩ := info_parts Try.info32
  go_enter Try.func5, Try.ntmps5
  have H0 := Lib.hid (Below.refl w.heap.size w)
  obtain ⟨q4, hq4⟩ : ∃ q : Nat, q = 400 := ⟨_, rfl⟩
  have Q4 := Lib.hid (show (400 : Int) = (q4 : Int) by omega)
  have Q4b := Lib.hid (show q4 ≤ 400 by omega)
  obtain ⟨q2, hq2⟩ : ∃ q : Nat, q = 257 := ⟨_, rfl⟩
  have Q2 := Lib.hid (show (257 : Int) = (q2 : Int) by omega)
  have Q2b := Lib.hid (show q2 ≤ 400 by omega)
  have Q2c := Lib.hid (show 256 < q2 by omega)
  clear hq4 hq2
  go_wp2_with fail
  refine (first_no 1001 w (by decide)).mono ?_
  rintro e w1 ⟨⟨v, rfl, ho⟩, hb⟩
  replace H0 := Lib.hid (H0.out.trans (hb.mono H0.out.size))
  obtain ⟨ax, nx, cx, rfl, -, -⟩ := ho.slice
  clear ho
  clear hb
  go_wp2_with fail
  refine (first_no (-1) _ (by decide)).mono ?_
  rintro e w2 ⟨⟨v, rfl, ho⟩, hb⟩
  replace H0 := Lib.hid (H0.out.trans (hb.mono H0.out.size))
  obtain ⟨ay, ny, cy, rfl, -, -⟩ := ho.slice
  clear ho
  clear hb
  go_wp2_with fail
  refine (first_zero _).mono ?_
  rintro e w3 ⟨⟨v, rfl, ho⟩, hb⟩
  replace H0 := Lib.hid (H0.out.trans (hb.mono H0.out.size))
  obtain ⟨az, cz, rfl, -, -⟩ := ho.form
  clear ho
  clear hb
  go_wp2_with fail
  refine (first_ok 1000 _ rfl (by decide)).mono ?_
  rintro e w4 ⟨⟨v, rfl, ho⟩, hb⟩
  replace H0 := Lib.hid (H0.out.trans (hb.mono H0.out.size))
  obtain ⟨a4, c4, h1, h2, -⟩ := ho.form
  rw [firstP_len (by decide)] at h1 h2
  subst h1
  clear ho
  have R4 := Lib.hid h2
  clear hb
  go_wp2_with fail
  refine (of_c 5 5 rfl _ (by decide)).mono ?_
  rintro e w5 ⟨⟨v, rfl, hv⟩, hb⟩
  replace H0 := Lib.hid (H0.out.trans (hb.mono H0.out.size))
  replace R4 := Lib.hid (R4.out.below hb)
  have N5 := Lib.hid hv
  clear hb
  go_wp2_with fail
  refine (root_bad _ 4 _ (by decide)).mono ?_
  rintro e wz ⟨rfl, rfl⟩
  clear N5
  go_wp2_with (refine wpList_make_lc .u32 _ rfl _ _ 37 rfl w5.heap.size 39 i32 Try.underlying37 hj8 hj0 hj1 _ _ _ _ q4 q4 rfl rfl Q4.out Q4.out (Nat.le_refl _) (by rw [hj2]; have := Q4b.out; omega) (by unfold maxLen; have := Q4b.out; omega) (Nat.le_refl _) ?_; intro wl hown hgrow; have OW := Lib.hid hown; have HGR := Lib.hid ((Below.refl w5.heap.size w5).grown hgrow (Nat.le_refl _) (fun _ h => by cases h)); clear hown hgrow)
  replace H0 := Lib.hid (H0.out.trans (HGR.out.mono H0.out.size))
  replace R4 := Lib.hid (R4.out.below HGR.out)
  clear OW HGR
  have hwl := Lib.hid (rfl : wl = wl)
  clear hwl
  go_wp2_with fail
  refine (root_bad _ 1 _ (by decide)).mono ?_
  rintro e wz ⟨rfl, rfl⟩
  have ZZ := 0
  clear ZZ
  go_wp2_with (refine wpList_make_lc .u32 _ rfl _ _ 37 rfl wl.heap.size 39 i32 Try.underlying37 hj8 hj0 hj1 _ _ _ _ q4 q4 rfl rfl Q4.out Q4.out (Nat.le_refl _) (by rw [hj2]; have := Q4b.out; omega) (by unfold maxLen; have := Q4b.out; omega) (Nat.le_refl _) ?_; intro wm hown hgrow; have OW := Lib.hid hown; have HGR := Lib.hid ((Below.refl wl.heap.size wl).grown hgrow (Nat.le_refl _) (fun _ h => by cases h)); clear hown hgrow)
  replace H0 := Lib.hid (H0.out.trans (HGR.out.mono H0.out.size))
  replace R4 := Lib.hid (R4.out.below HGR.out)
  have NZ := Lib.hid (natAt_zeros OW.out)
  clear OW HGR
  go_wp2_with fail
  refine (root_zero _ _ NZ.out).mono ?_
  rintro e w11 ⟨⟨v, rfl, ho⟩, hb⟩
  replace H0 := Lib.hid (H0.out.trans (hb.mono H0.out.size))
  replace R4 := Lib.hid (R4.out.below hb)
  obtain ⟨ar, cr, rfl, -, -⟩ := ho.form
  clear ho NZ
  clear hb
  go_wp2_with (refine wpList_make_lc .u32 _ rfl _ _ 37 rfl w11.heap.size 39 i32 Try.underlying37 hj8 hj0 hj1 _ _ _ _ q2 q2 rfl rfl Q2.out Q2.out (Nat.le_refl _) (by rw [hj2]; have := Q2b.out; omega) (by unfold maxLen; have := Q2b.out; omega) (Nat.le_refl _) ?_; intro wn hown hgrow; have OW := Lib.hid hown; have HGR := Lib.hid ((Below.refl w11.heap.size w11).grown hgrow (Nat.le_refl _) (fun _ h => by cases h)); have hlf := OW.out.frozenAt (rep_len _) 256; have hlc := OW.out.cellAt (rep_len _) 256 Q2c.out; have hqq := Q2c.out; clear hown hgrow)
  have hsz := Lib.hid H0.out.size
  have hst := OW.out.stored (rep_len _) 256 1 1 rfl
  have NL := Lib.hid (show NatAt _ _ topN from natAt_own' hst.1 (lim_long _ _) (val_long _ _ Q2c.out))
  have HKn := Lib.hid (hst.2 _ HGR.out)
  replace H0 := Lib.hid ((H0.out.trans (HGR.out.mono H0.out.size)).setCell (p := ⟨w11.heap.size, 256, none⟩) hsz.out (.int .u32 1))
  obtain ⟨ws, hws⟩ : ∃ ws, wn.setCell ⟨w11.heap.size, 256, none⟩ (.int .u32 1) = ws := ⟨_, rfl⟩
  rw [hws] at NL HKn H0
  simp only [hws]
  clear hst OW HGR hlf hlc hqq hws hsz
  replace R4 := Lib.hid (R4.out.below HKn.out)
  clear HKn
  go_wp2_with fail
  refine (root_big _ topN 2 _ NL.out (Nat.lt_irrefl _) (.inl rfl)).mono ?_
  rintro e w12 ⟨rfl, hb⟩
  replace H0 := Lib.hid (H0.out.trans (hb.mono H0.out.size))
  replace R4 := Lib.hid (R4.out.below hb)
  clear NL
  clear hb
  go_wp2_with fail
  refine (frac_high2 2 65 _ (by decide)).mono ?_
  rintro e wz ⟨rfl, rfl⟩
  go_wp2_with fail
  refine (frac_low2 2 0 _ (by decide)).mono ?_
  rintro e wz ⟨rfl, rfl⟩
  go_wp2_with fail
  refine (table_no 1001 2 0 _ (by decide)).mono ?_
  rintro e w13 ⟨⟨v, rfl, ho⟩, hb⟩
  replace H0 := Lib.hid (H0.out.trans (hb.mono H0.out.size))
  replace R4 := Lib.hid (R4.out.below hb)
  obtain ⟨att, ntt, ctt, rfl, -, -⟩ := ho.slice
  clear ho
  clear hb
  go_wp2_with fail
  refine (table_bad 1 5 32 _ (by decide) (by unfold FrOk; decide)).mono ?_
  rintro e w14 ⟨⟨v, rfl, ho⟩, hb⟩
  replace H0 := Lib.hid (H0.out.trans (hb.mono H0.out.size))
  replace R4 := Lib.hid (R4.out.below hb)
  obtain ⟨au, nu, cu, rfl, -, -⟩ := ho.slice
  clear ho
  clear hb
  go_wp2_with fail
  refine (table_ok 3 3 64 _ rfl (by decide) (by unfold FrOk; decide)).mono ?_
  rintro e w15 ⟨⟨v, rfl, ho⟩, hb⟩
  replace H0 := Lib.hid (H0.out.trans (hb.mono H0.out.size))
  replace R4 := Lib.hid (R4.out.below hb)
  rw [tab3] at ho
  obtain ⟨a7, c7, h1, h2, -⟩ := ho.form
  rw [show [4794697086780616226, 8158064640168781261, 13096744586834688815].length = 3 from rfl] at h1 h2
  subst h1
  clear ho
  have R7 := Lib.hid h2
  clear hb
  obtain ⟨b4, o4, rfl, hb4, hc4⟩ := R4.out.cells (by decide)
  have k4 := hc4 999 (by decide)
  rw [last_first] at k4
  obtain ⟨b7, o7, rfl, hb7, hc7⟩ := R7.out.cells (by decide)
  have k70 := hc7 0 (by decide)
  have k71 := hc7 1 (by decide)
  have k72 := hc7 2 (by decide)
  have hm4 := R4.out.max
  clear hc4 hc7
  simp only [List.getElem?_cons_zero, List.getElem?_cons_succ, Option.getD_some, Nat.add_zero] at k70 k71 k72
  clear R4 R7
  clear hb4 hb7 hm4
  go_wp2_with fail
  refine (aliveP _).mono ?_
  rintro e w16 ⟨rfl, hb⟩
  replace H0 := Lib.hid (H0.out.trans (hb.mono H0.out.size))
  clear k4 k70 k71 k72
  clear hb
  go_wp2_with fail
  refine (of_c 26 26 rfl _ (by decide)).mono ?_
  rintro e w17 ⟨⟨v, rfl, hv⟩, hb⟩
  replace H0 := Lib.hid (H0.out.trans (hb.mono H0.out.size))
  have A1 := Lib.hid hv
  clear hb
  go_wp2_with fail
  refine (of_c 2 2 rfl _ (by decide)).mono ?_
  rintro e w18 ⟨⟨v, rfl, hv⟩, hb⟩
  replace H0 := Lib.hid (H0.out.trans (hb.mono H0.out.size))
  replace A1 := Lib.hid (A1.out.below hb)
  have A2 := Lib.hid hv
  clear hb
  go_wp2_with fail
  refine (root_yes _ _ 3 2 _ A1.out.at A2.out (lt_top3 (by decide)) (.inr rfl) (rootEq (r := 2) (by decide) (by kernel_rfl) (by kernel_rfl))).mono ?_
  rintro e w19 ⟨rfl, hb⟩
  replace H0 := Lib.hid (H0.out.trans (hb.mono H0.out.size))
  replace A1 := Lib.hid (A1.out.below hb)
  replace A2 := Lib.hid (A2.out.below hb)
  clear hb
  clear A1 A2
  go_wp2_with fail
  refine (of_c 27 27 rfl _ (by decide)).mono ?_
  rintro e w20 ⟨⟨v, rfl, hv⟩, hb⟩
  replace H0 := Lib.hid (H0.out.trans (hb.mono H0.out.size))
  have A1 := Lib.hid hv
  clear hb
  go_wp2_with fail
  refine (of_c 3 3 rfl _ (by decide)).mono ?_
  rintro e w21 ⟨⟨v, rfl, hv⟩, hb⟩
  replace H0 := Lib.hid (H0.out.trans (hb.mono H0.out.size))
  replace A1 := Lib.hid (A1.out.below hb)
  have A2 := Lib.hid hv
  clear hb
  go_wp2_with fail
  refine (root_yes _ _ 3 3 _ A1.out.at A2.out (lt_top3 (by decide)) (.inr rfl) (rootEq (r := 3) (by decide) (by kernel_rfl) (by kernel_rfl))).mono ?_
  rintro e w22 ⟨rfl, hb⟩
  replace H0 := Lib.hid (H0.out.trans (hb.mono H0.out.size))
  replace A1 := Lib.hid (A1.out.below hb)
  replace A2 := Lib.hid (A2.out.below hb)
  clear hb
  clear A1 A2
  go_wp2_with fail
  have hba := (Below.refl w22.heap.size w22).alloc (Nat.le_refl _) (.cells #[.int .u32 0, .int .u32 0, .int .u32 1] 39)
  have hbb := (Below.refl (w22.alloc (.cells #[.int .u32 0, .int .u32 0, .int .u32 1] 39)).heap.size (w22.alloc (.cells #[.int .u32 0, .int .u32 0, .int .u32 1] 39))).alloc (Nat.le_refl _) (.cells #[.int .u32 0, .int .u32 1] 39)
  have A1 := Lib.hid (show NatAt ((w22.alloc (.cells #[.int .u32 0, .int .u32 0, .int .u32 1] 39)).alloc (.cells #[.int .u32 0, .int .u32 1] 39)) (.slice (some ⟨w22.heap.size, 0, none⟩) 3 3) 18446744073709551616 from NatAt.below ⟨_, _, _, [0, 0, 1], rfl, reads_litP w22 39 [0, 0, 1] _ rfl (by unfold maxLen; decide), by decide, by decide⟩ hbb)
  have hl2 := reads_litP (w22.alloc (.cells #[.int .u32 0, .int .u32 0, .int .u32 1] 39)) 39 [0, 1] #[.int .u32 0, .int .u32 1] rfl (by unfold maxLen; decide)
  rw [World.size_alloc] at hl2
  have A2 := Lib.hid (show NatC ((w22.alloc (.cells #[.int .u32 0, .int .u32 0, .int .u32 1] 39)).alloc (.cells #[.int .u32 0, .int .u32 1] 39)) (.slice (some ⟨w22.heap.size + 1, 0, none⟩) 2 2) 4294967296 from ⟨_, _, _, rfl, by rw [nat32_lit [0, 1] 4294967296 (by decide) rfl rfl]; exact hl2⟩)
  replace H0 := Lib.hid ((H0.out.trans (hba.mono H0.out.size)).trans (hbb.mono (Nat.le_trans H0.out.size hba.size)))
  clear hba hbb hl2
  refine (root_yes _ _ 2 4294967296 _ A1.out A2.out (lt_top3 (by decide)) (.inl rfl) (rootEq (r := 4294967296) (by decide) (by kernel_rfl) (by kernel_rfl))).mono ?_
  rintro e w23 ⟨rfl, hb⟩
  replace H0 := Lib.hid (H0.out.trans (hb.mono H0.out.size))
  clear hb
  clear A1 A2
  go_wp2_with fail
  refine (of_c 0 0 rfl _ (by decide)).mono ?_
  rintro e w24 ⟨⟨v, rfl, hv⟩, hb⟩
  replace H0 := Lib.hid (H0.out.trans (hb.mono H0.out.size))
  have A1 := Lib.hid hv
  clear hb
  go_wp2_with fail
  refine (root_yes _ _ 2 0 _ A1.out.at (natC_nil _) (lt_top3 (by decide)) (.inl rfl) (rootEq (r := 0) (by decide) (by kernel_rfl) (by kernel_rfl))).mono ?_
  rintro e w25 ⟨rfl, hb⟩
  replace H0 := Lib.hid (H0.out.trans (hb.mono H0.out.size))
  replace A1 := Lib.hid (A1.out.below hb)
  clear hb
  clear A1
  go_wp2_with fail
  refine (of_c 18446744073709551615 18446744073709551615 rfl _ (by decide)).mono ?_
  rintro e w26 ⟨⟨v, rfl, hv⟩, hb⟩
  replace H0 := Lib.hid (H0.out.trans (hb.mono H0.out.size))
  have A1 := Lib.hid hv
  clear hb
  go_wp2_with fail
  refine (of_c 4294967295 4294967295 rfl _ (by decide)).mono ?_
  rintro e w27 ⟨⟨v, rfl, hv⟩, hb⟩
  replace H0 := Lib.hid (H0.out.trans (hb.mono H0.out.size))
  replace A1 := Lib.hid (A1.out.below hb)
  have A2 := Lib.hid hv
  clear hb
  go_wp2_with fail
  refine (root_yes _ _ 2 4294967295 _ A1.out.at A2.out (lt_top3 (by decide)) (.inl rfl) (rootEq (r := 4294967295) (by decide) (by kernel_rfl) (by kernel_rfl))).mono ?_
  rintro e w28 ⟨rfl, hb⟩
  replace H0 := Lib.hid (H0.out.trans (hb.mono H0.out.size))
  replace A1 := Lib.hid (A1.out.below hb)
  replace A2 := Lib.hid (A2.out.below hb)
  clear hb
  clear A1 A2
  go_wp2_with fail
  refine (fraction2_ok 4 64 0 _ rfl (by decide) rfl (by decide) (by decide) rfl (rootIs (k := 2) (X := 4 * 2 ^ (2 * 64)) (r := 36893488147419103232) (V := 0) (m := 2 ^ 64) (by decide) (by kernel_rfl) (by kernel_rfl) (by kernel_rfl))).mono ?_
  rintro e w29 ⟨rfl, hb⟩
  replace H0 := Lib.hid (H0.out.trans (hb.mono H0.out.size))
  clear hb
  go_wp2_with fail
  refine (fraction3_ok 0 1 0 _ rfl (by decide) rfl (by decide) (by decide) rfl (rootIs (k := 3) (X := 0 * 2 ^ (3 * 1)) (r := 0) (V := 0) (m := 2 ^ 1) (by decide) (by kernel_rfl) (by kernel_rfl) (by kernel_rfl))).mono ?_
  rintro e w30 ⟨rfl, hb⟩
  replace H0 := Lib.hid (H0.out.trans (hb.mono H0.out.size))
  clear hb
  go_wp2
  go_ret
  exact ⟨rfl, H0.out⟩

end Go.Proofs.Ytfeajcgcjpngkaa
