/-
  Layer 8: the law MaskBegins. (Written by wip/gen_mkV.py.)
-/
import Derived.Test.YtmfjhgjplmpecaaDoorMkU
namespace Go.Proofs.YtmfjhgjplmpecaaDoor
open Go.RowKit Go.Shelf
set_option maxRecDepth 100000

theorem maskN_len {h : Nat} (hh : IsHash h) (A : List Nat) (s : Nat) : (maskN h A s).length = s := by
  have := (mSize_le hh).1
  rw [maskN, List.length_take, maskAll_len hh, Nat.min_eq_left (Nat.le_mul_of_pos_right s (by omega))]
theorem maskN_byt {h : Nat} (hh : IsHash h) (A : List Nat) (s : Nat) : Byt (maskN h A s) := fun x hx => maskAll_byt hh A s x (List.mem_of_mem_take hx)
theorem maskN_take {h : Nat} (hh : IsHash h) (A : List Nat) {f m : Nat} (hf : f ≤ m) : (maskN h A m).take f = maskN h A f := by
  have := (mSize_le hh).1
  rw [maskN, List.take_take, Nat.min_eq_left hf]
  exact maskAll_take hh A (Nat.le_trans hf (Nat.le_mul_of_pos_right m (by omega))) (Nat.le_mul_of_pos_right f (by omega))
theorem maskN_piece {h : Nat} (hh : IsHash h) (A : List Nat) {k m t : Nat} (hk : k * mSize h ≤ t) (ht : t ≤ k * mSize h + mSize h) (htm : t ≤ m) : ((maskN h A m).take t).drop (k * mSize h) = (pieceN h A k).take (t - k * mSize h) := by
  rw [maskN_take hh A htm, ← mask_fill hh A hk ht, List.drop_left' (maskAll_len hh A k)]
theorem pieceN_len {h : Nat} (hh : IsHash h) (A : List Nat) (k : Nat) : (pieceN h A k).length = mSize h := mHash_len hh _

set_option maxHeartbeats 4000000 in
theorem begins_walk (n : Nat) (hn : n < 256) (a : Option Addr) (ls cs : Nat) (A : List Nat) (p q : Nat) (hp : p < 65536) (hq : q < 65536) (w : World) (hk : Kinds w) (hA : Reads .u8 w a ls cs A) (hAb : Byt A) :
    Calls Tryd.prog 6 #[.int .u8 (n : Int), .slice a ls cs, .int .u16 (p : Int), .int .u16 (q : Int)] w fun e w' => e = .returned (.bool true) ∧ Below w.heap.size w w' := by
  obtain ⟨i0, hi, hz0, hz1, hz2⟩ := info_parts infoMk
  have HA := Lib.hid hA
  have HAL := Lib.hid hA.length
  have HAB := Lib.hid hAb
  have HK := Lib.hid hk
  have HHN := Lib.hid hn
  obtain ⟨h, hh⟩ : ∃ h, h = 1 + n % 4 := ⟨_, rfl⟩
  have HH := Lib.hid (hh ▸ isHash_m n)
  have HHE := Lib.hid hh
  have hh4 : 1 ≤ h ∧ h ≤ 4 := isHash_lt HH.out
  clear hA hAb hk hn hh
  by_cases hbig : 300 < ls
  · have d1 : decide ((300 : Int) < (ls : Int)) = true := by simp; omega
    go_enter Tryd.func6, Tryd.ntmps6
    go_wp2_with fail
    refine (alive_m w HK.out).mono ?_
    rintro e w1 ⟨rfl, h1⟩
    have HB1 := Lib.hid h1
    clear h1
    go_wp2
    go_ret
    exact ⟨rfl, HB1.out⟩
  have d1 : decide ((300 : Int) < (ls : Int)) = false := by simp; omega
  obtain ⟨p1, hp1⟩ : ∃ x, x = p % 301 := ⟨_, rfl⟩
  obtain ⟨q1, hq1⟩ : ∃ x, x = q % 301 := ⟨_, rfl⟩
  have m1 : Int.tmod (p : Int) 301 = (p1 : Int) := by
    rw [Int.tmod_eq_emod_of_nonneg (by omega)]
    omega
  have m2 : Int.tmod (q : Int) 301 = (q1 : Int) := by
    rw [Int.tmod_eq_emod_of_nonneg (by omega)]
    omega
  have hp3 : p1 < 301 := by omega
  have hq3 : q1 < 301 := by omega
  have hls : ls ≤ 300 := by omega
  obtain ⟨F, hF⟩ : ∃ x, x = min p1 q1 := ⟨_, rfl⟩
  obtain ⟨M, hM⟩ : ∃ x, x = max p1 q1 := ⟨_, rfl⟩
  have x1 : ∀ W, (Builtin.min_ #[43, 43] 43 #[.int .u16 (p1 : Int), .int .u16 (q1 : Int)]).run Tryd.prog W = .ok (.int .u16 (F : Int)) W := fun W => by
    rw [run_min_int2]
    congr 2
    split <;> omega
  have x2 : ∀ W, (Builtin.max_ #[43, 43] 43 #[.int .u16 (p1 : Int), .int .u16 (q1 : Int)]).run Tryd.prog W = .ok (.int .u16 (M : Int)) W := fun W => by
    rw [run_max_int2]
    congr 2
    split <;> omega
  have y1 : (if (q1 : Int) < (p1 : Int) then (q1 : Int) else (p1 : Int)) = (F : Int) := by split <;> omega
  have y2 : (if (p1 : Int) < (q1 : Int) then (q1 : Int) else (p1 : Int)) = (M : Int) := by split <;> omega
  have y3 : (if q1 < p1 then (q1 : Int) else (p1 : Int)) = (F : Int) := by split <;> omega
  have y4 : (if p1 < q1 then (q1 : Int) else (p1 : Int)) = (M : Int) := by split <;> omega
  have hFM : F ≤ M := by omega
  have hM3 : M < 301 := by omega
  clear hp1 hq1 hbig hF hM
  go_enter Tryd.func6, Tryd.ntmps6
  go_wp2_with fail
  refine (alive_m w HK.out).mono ?_
  rintro e w1 ⟨rfl, h1⟩
  have HB1 := Lib.hid h1
  clear h1
  go_wp2_with fail
  refine (hash_m n HHN.out w1).mono ?_
  rintro e w1' ⟨rfl, rfl⟩
  rw [← HHE.out]
  go_wp2_with fail
  refine (mask_yes h HH.out a ls cs A F w1 (HK.out.below HB1.out) (HA.out.below HB1.out) HAB.out (by omega) (by omega)).mono ?_
  rintro e w2 ⟨⟨v, rfl, ho0⟩, hb⟩
  obtain ⟨xa, xn, xc, rfl, hxn, ho⟩ := own_slM ho0
  clear ho0
  rw [maskN_len HH.out] at hxn
  rw [hxn] at ho ⊢
  have HX := Lib.hid ho
  have HB2 := Lib.hid (HB1.out.trans (hb.mono HB1.out.size))
  clear ho hb hxn x1 x2 y1 y2 y3 y4
  go_wp2_with fail
  refine (mask_yes h HH.out a ls cs A M w2 (HK.out.below HB2.out) (HA.out.below HB2.out) HAB.out (by omega) (by omega)).mono ?_
  rintro e w3 ⟨⟨v, rfl, ho0⟩, hb⟩
  obtain ⟨ya, yn, yc, rfl, hyn, ho⟩ := own_slM ho0
  clear ho0
  rw [maskN_len HH.out] at hyn
  rw [hyn] at ho ⊢
  have HY := Lib.hid ho
  have HX := Lib.hid (HX.out.below hb)
  have HB3 := Lib.hid (HB2.out.trans (hb.mono HB2.out.size))
  have hMy : M ≤ yc := ho.cap.2.1
  clear ho hb hyn
  have hs1 : ∀ w, (sizeOf (Tryd.prog.elem 23)).run Tryd.prog w = .ok 1 w := fun _ => by kernel_rfl
  have sl1 : ∀ W, (Instr.sliceAt 23 (.slice ya M yc) none (some (.int .i64 (F : Int))) none).run Tryd.prog W = .ok (.slice ya F yc) W := fun W => by
    rw [run_sliceAt_slice W _ _ _ _ _ (by kernel_rfl), run_slice_h W _ ya M yc (by kernel_rfl) .i64 (F : Int) (by omega) (by omega), hs1]
    simp [sliced, Result.andThen]
    cases ya <;> simp [Addr.add]
  have cvX := fun N => convB ((HX.out.reads.drewN N).bts (maskN_byt HH.out A F))
  have hyf := HY.out.reads.upto F hFM
  rw [maskN_take HH.out A hFM] at hyf
  have cvY := fun N => convB ((hyf.drewN N).bts (maskN_byt HH.out A F))
  clear hyf
  go_wp2_with fail
  go_big_quiet (fail)
  simp only [Exit.then]
  have HY := Lib.hid (HY.out.drewN nq)
  have HB4 := Lib.hid (show Below w.heap.size w (w3.drewN nq) from HB3.out.trans ⟨rfl, rfl, rfl, Nat.le_refl _, fun _ _ => rfl⟩)
  clear sl1 cvX cvY HX
  generalize w3.drewN nq = w4 at *
  go_wp2_with fail
  refine (size_yes h HH.out w4 (HK.out.below HB4.out)).mono ?_
  rintro e w5 ⟨rfl, h5⟩
  have HY := Lib.hid (HY.out.below h5)
  have HB5 := Lib.hid (HB4.out.trans (h5.mono HB4.out.size))
  obtain ⟨sz, hsz⟩ : ∃ s, s = mSize h := ⟨_, rfl⟩
  have hszb := mSize_le HH.out
  rw [← hsz] at hszb ⊢
  have HSZ := Lib.hid hsz
  have HB0 := Lib.hid (Below.refl w5.heap.size w5)
  clear h5 hsz
  go_wp2_with fail
  go_loopw [18] (fun kv wq => ∃ k : Nat, kv = .int .i64 (k : Int) ∧ k ≤ 301 ∧ Hid (Below w5.heap.size w5 wq)) (fun kv _ => 302 - (intOf kv).toNat)
  case atStart => exact ⟨0, rfl, by decide, HB0.out⟩
  case round =>
    obtain ⟨k, rfl, hk3, hI⟩ := hrel
    have HBQ := Lib.hid hI.out
    clear hI
    obtain ⟨ks, hks⟩ : ∃ x, x = k * sz := ⟨_, rfl⟩
    have hksi : (k : Int) * (sz : Int) = (ks : Int) := by rw [hks, Int.natCast_mul]
    have hkl : k * 28 ≤ ks := by rw [hks]; exact Nat.mul_le_mul_left _ hszb.1
    have hksb : ks ≤ 301 * 64 := by rw [hks]; exact Nat.mul_le_mul hk3 hszb.2
    have HKS := Lib.hid hks
    clear hks
    by_cases hlt : ks < M
    · have tl : decide ((ks : Int) < (M : Int)) = true := by simp; omega
      have hk11 : k < 256 := by omega
      have wk : IntKind.u8.wrap (k : Int) = (k : Int) := by rw [IntKind.wrap_u8]; omega
      have HBW := Lib.hid (HB5.out.trans (HBQ.out.mono HB5.out.size))
      have HBY := Lib.hid (show be4 k = [0, 0, 0, k] by unfold be4; rw [Nat.div_eq_of_lt hk11, Nat.mod_eq_of_lt hk11])
      go_wp2_with (at_builtin; first
        | (refine wpList_append_q .u8 _ rfl _ _ 23 rfl wr.heap.size 5 1 i0 Tryd.underlying23 hi hz0 hz1 hz2 (by decide) _ [] rfl (OwnQ.empty .u8 wr _ _ (Nat.le_refl _)) a ls cs A rfl (HA.out.below (HBW.out.alloc HBW.out.size _)) (by simp; omega) (by simp) ?_; intro v6 w6 hown hgrow; rw [List.nil_append] at hown; have HO6 := Lib.hid hown; have HB6 := Lib.hid (hgrow wr ((Below.refl _ _).alloc (Nat.le_refl _) _)); clear hown hgrow)
        | (refine wpList_append_q .u8 _ rfl _ _ 23 rfl wr.heap.size 5 1 i0 Tryd.underlying23 hi hz0 hz1 hz2 (by decide) _ A rfl (HO6.out.alloc _) _ 4 4 [0, 0, 0, k] rfl (Reads.litM .u8 w6 5 [0, 0, 0, k] _ 4 (by simp [num]) rfl (by unfold maxLen; simp)) (by rw [HAL.out]; omega) (by have := HB6.out.size; simp; omega) ?_; intro v7 w7 hown hgrow; obtain ⟨ra, rn, rc, rfl, hrn, ho7⟩ := own_slM hown; have HO7 := Lib.hid ho7; have hrn2 : rn ≤ 1000 := (by rw [hrn, List.length_append, HAL.out]; simp; omega); have HB7 := Lib.hid (hgrow wr (HB6.out.alloc HB6.out.size _)); clear hown hgrow hrn ho7))
      have HB8 := Lib.hid (HBW.out.trans (HB7.out.mono HBW.out.size))
      refine (sum_yes h HH.out _ 1 1 (fun _ => (ra, rn, rc, A ++ [0, 0, 0, k])) _ (HK.out.below (HB8.out.alloc HB8.out.size _)) (rows_alloc w7 w7 _ 1 _ (Below.refl _ _) (fun z hz => ⟨HO7.out.reads, fun x hx => (List.mem_append.1 hx).elim (HAB.out x) (fun h1 => by rw [← HBY.out] at h1; exact be4_byt (by omega) x h1), by dsimp only; omega⟩) (fun z hz => by obtain rfl : z = 0 := (by omega); rfl)) (by decide)).mono ?_
      rintro e w9 ⟨⟨ad, c, rfl, h1, h2⟩, h3⟩
      have HP := Lib.hid (show Reads .u8 w9 (some ad) (mSize h) c (pieceN h A k) by unfold pieceN; rw [HBY.out]; exact h1)
      have HB9 := Lib.hid (((HB7.out.alloc HB7.out.size _).trans (h3.mono (by have := HB7.out.size; simp; omega))))
      have HBV := Lib.hid (HBQ.out.trans (HB9.out.mono HBQ.out.size))
      have HYV := Lib.hid (HY.out.below HBV.out)
      obtain ⟨k1, hk1⟩ : ∃ x, x = ks + sz := ⟨_, rfl⟩
      have hk1b : k1 ≤ 400 := by omega
      have hk1i : ((k : Int) + 1) * (sz : Int) = (k1 : Int) := by rw [Int.add_mul, hksi]; omega
      obtain ⟨tt, hto⟩ : ∃ x, x = min M k1 := ⟨_, rfl⟩
      have y1 : (if (k1 : Int) < (M : Int) then (k1 : Int) else (M : Int)) = (tt : Int) := by split <;> omega
      have y3 : (if k1 < M then (k1 : Int) else (M : Int)) = (tt : Int) := by split <;> omega
      obtain ⟨L, hL⟩ : ∃ x, x = tt - ks := ⟨_, rfl⟩
      have hLi : (tt : Int) - (ks : Int) = (L : Int) := by omega
      have hLs : L ≤ sz := by omega
      have hkt : ks ≤ tt := by omega
      have htM : tt ≤ M := by omega
      have htk : tt ≤ ks + sz := by omega
      have HL := Lib.hid hL
      rw [← HSZ.out] at HP ⊢
      have hcs : sz ≤ c := HP.out.le
      have sl1 : ∀ W, (Instr.sliceAt 23 (.slice (some ad) sz c) none (some (.int .i64 (L : Int))) none).run Tryd.prog W = .ok (.slice (some ad) L c) W := fun W => by
        rw [run_sliceAt_slice W _ _ _ _ _ (by kernel_rfl), run_slice_h W _ (some ad) sz c (by kernel_rfl) .i64 (L : Int) (by omega) (by omega), hs1]
        simp [sliced, Result.andThen, Addr.add]
      obtain ⟨yp, hyp⟩ : ∃ x, x = (if yc = ks then ya else ya.map (·.add ks)) := ⟨_, rfl⟩
      have sl2 : ∀ W, (Instr.sliceAt 23 (.slice ya M yc) (some (.int .i64 (ks : Int))) (some (.int .i64 (tt : Int))) none).run Tryd.prog W = .ok (.slice yp L (yc - ks)) W := fun W => by
        rw [run_sliceAt_slice W _ _ _ _ _ (by kernel_rfl), run_slice_lh W _ ya M yc (by kernel_rfl) .i64 .i64 (ks : Int) (tt : Int) (by omega) (by omega) (by omega), hs1, hyp, hL]
        simp [sliced, Result.andThen]
      have hps := HP.out.upto L hLs
      have cvP := fun N => convB ((hps.drewN N).bts (fun x hx => mHash_byt HH.out _ x (List.mem_of_mem_take hx)))
      have hys := HYV.out.reads.sub ks tt hkt htM
      rw [← hyp, ← hL] at hys
      have e9 := maskN_piece HH.out A (k := k) (m := M) (t := tt) (by rw [← HSZ.out, ← HKS.out]; exact hkt) (by rw [← HSZ.out, ← HKS.out]; exact htk) htM
      rw [← HSZ.out, ← HKS.out, ← hL] at e9
      rw [e9] at hys
      have cvQ := fun N => convB ((hys.drewN N).bts (fun x hx => mHash_byt HH.out _ x (List.mem_of_mem_take hx)))
      clear h1 h2 h3 hk1 hto hL hyp hps hys e9
      go_wp2_with fail
      clear y1 y3
      go_big_quiet (fail)
      simp only [Exit.then]
      have HBN := Lib.hid (show Below w5.heap.size w5 (w9.drewN nq) from HBV.out.trans ⟨rfl, rfl, rfl, Nat.le_refl _, fun _ _ => rfl⟩)
      clear sl1 sl2 cvP cvQ
      generalize w9.drewN nq = w10 at *
      go_wp2
      go_roundw
      case rel => exact ⟨k + 1, by go_num, by omega, HBN.out⟩
      case measure => simp [intOf] <;> omega
    · have tl : decide ((ks : Int) < (M : Int)) = false := by simp; omega
      go_wp2
      go_ret
      exact ⟨rfl, HB5.out.trans (HBQ.out.mono HB5.out.size)⟩

end Go.Proofs.YtmfjhgjplmpecaaDoor
