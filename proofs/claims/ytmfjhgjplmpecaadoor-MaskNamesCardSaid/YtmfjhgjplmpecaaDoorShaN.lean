/-
  SHA-256: Sum. (Written by wip/gen_shaN.py.)
-/
import Derived.Test.YtmfjhgjplmpecaaDoorShaL
import Derived.ArgAppend
namespace Go.Proofs.YtmfjhgjplmpecaaDoor
open Go.RowKit Go.Shelf
set_option maxRecDepth 100000
attribute [local go_sem] Oper.semAt_some

theorem slice_used (g us : Nat) (h : us < 64) (W : World) : (Instr.sliceAt 84 (.pointer (some ⟨g, 9, none⟩)) none (some (.int .i64 (us : Int))) (some (.int .i64 (us : Int)))).run Tryd.prog W = .ok (.slice (some ⟨g, 9, none⟩) us us) W := by
  have hl : Tryd.prog.arrayLen 84 = 64 := by kernel_rfl
  have hs : ∀ w, (sizeOf (Tryd.prog.elem 84)).run Tryd.prog w = .ok 1 w := fun _ => by kernel_rfl
  rw [run_sliceAt_array_hm W 84 ⟨g, 9, none⟩ (by kernel_rfl) .i64 .i64 (us : Int) (us : Int) (by omega) (by omega) (by rw [hl]; omega), hs]
  show Result.ok (slicedAt ⟨g, 9, none⟩ 0 (us : Int).toNat (us : Int).toNat 1) W = _
  unfold slicedAt
  rw [Int.toNat_natCast]
  simp [Addr.add]
theorem owned_nums {q : IntKind} {E B n : Nat} {w : World} {v : Value} {l : List Nat} (h : w.ownsRow B E 1 v n (l.map (num q))) : OwnQ q E B w v l := by
  have := h.1
  rw [List.length_map, Nat.mul_one] at this
  subst this
  exact h

/-- Between two blocks. -/
def ShI (w : World) (f bt b0 N T : Nat) (tail ws R : List Nat) (pre : List (Nat × Nat)) (W : World) : Prop := ∃ wz, Boxed W b0 63 (.pointer (some ⟨f, 0, none⟩)) ∧ StateAt W f bt wz tail T ∧ (pre = pcs N 64 pre.length → wz = foldW ws R pre.length) ∧ w.grownBy W (some f) ∧ b0 + 3 ≤ W.heap.size
theorem ShI.stays {w X X' : World} {f bt b0 N T : Nat} {tail ws R : List Nat} {pre : List (Nat × Nat)} {row : Option Nat} (h : ShI w f bt b0 N T tail ws R pre X) (hg : X.grownBy X' row) (hr : ∀ r, row = some r → w.heap.size ≤ r ∧ r ≠ b0 ∧ r ≠ f) : ShI w f bt b0 N T tail ws R pre X' := by
  obtain ⟨wz, h1, h4, h5, h6, h7⟩ := h
  exact ⟨wz, h1.kept hg (fun e => (hr _ e.symm).2.1 rfl), h4.block (hg.block f h4.lt (fun e => (hr _ e.symm).2.2 rfl)), h5, grown_past h6 hg (fun r e => (hr r e).1), Nat.le_trans h7 hg.size⟩
theorem stP_64 {N : Nat} (hN : N = 64 ∨ N = 128) : ∀ j, stP N 64 j < N → stP N 64 j = 64 * j ∧ stP N 64 (j + 1) - stP N 64 j = 64
  | 0, _ => by show 0 = 64 * 0 ∧ min N (64 + 64 * 0) - 0 = 64; omega
  | j + 1, h => by simp only [stP] at h ⊢; omega
theorem stP_end {N : Nat} (hN : N = 64 ∨ N = 128) : ∀ j, stP N 64 j = N → (∀ i, i < j → stP N 64 i < N) → j = N / 64
  | 0, h, _ => by change 0 = N at h; omega
  | j + 1, h, hh => by
    have := hh j (by omega)
    have := (stP_64 hN j this).1
    simp only [stP] at h
    omega
theorem infoB : (Tryd.prog.info? 5).map (fun i => (i.zero, i.size, i.bytes)) = some (some (.int .u8 0), 1, 1) := by kernel_rfl

set_option maxRecDepth 100000 in
set_option maxHeartbeats 4000000 in
theorem sum_any (g bt : Nat) (m : List Nat) (w : World) (h : StateOf w g bt m) (hbt : bt = 224 ∨ bt = 256) :
    Calls Tryd.prog 33 #[.pointer (some ⟨g, 0, none⟩)] w fun e w' => (∃ a, e = .returned (.slice (some a) (bt / 8) (bt / 8)) ∧ Reads .u8 w' (some a) (bt / 8) (bt / 8) (hashN bt m) ∧ w.heap.size ≤ a.block) ∧ Below w.heap.size w w' := by
  obtain ⟨ws, tail, hst, hfin, hmb, hm0⟩ := h
  have HM0 := Lib.hid hm0
  have HF := Lib.hid hfin
  have hgw := Lib.hid hst.lt
  have hbt0 : bt ≠ 0 := by omega
  have HBT := Lib.hid hbt
  have HRES := Lib.hid (show Tryd.f33.results = #[.tmp 2] by kernel_rfl)
  obtain ⟨T, hT⟩ : ∃ T, T = m.length := ⟨_, rfl⟩
  rw [← hT] at hst hmb
  have HT := Lib.hid hT
  clear hm0 hfin hbt hT
  obtain ⟨us, hus⟩ : ∃ x, x = T % 64 := ⟨_, rfl⟩
  have hatc : (T : Int) % 64 = (us : Int) := by omega
  have hus64 : us < 64 := by omega
  obtain ⟨k, hk⟩ : ∃ k, k = (119 - us) % 64 := ⟨_, rfl⟩
  have hkc : Int.tmod (119 - (us : Int)) 64 = (k : Int) := by
    rw [Int.tmod_eq_emod_of_nonneg (by omega)]
    omega
  have cT := hst.taken
  have HST := Lib.hid hst
  have hsl := slice_used g us hus64
  have HUS := Lib.hid hus
  have HK := Lib.hid hk
  clear hus hk
  have htl := hst.tail.upto us (by omega)
  have HTL := Lib.hid htl
  refine (callsIn_wide (n := 3)).1 ?_
  refine callsIn_of_wp_marks Tryd.func33 rfl trivial ?_ rfl
  simp only [Tryd.ntmps33, List.size_toArray, List.length_cons, List.length_nil, Nat.reduceAdd, Nat.reduceSub, Array.replicate_succ, Array.replicate_zero, List.push_toArray, List.append_toArray, List.nil_append, List.cons_append]
  refine wpIn_wide.2 ?_
  go_wp2_with fail
  refine (made_yes g bt ws tail T w hst hbt0).mono ?_
  rintro e w1 ⟨rfl, rfl⟩
  clear hst htl
  obtain ⟨i0, hi, hz0, hz1, hz2⟩ := info_parts infoB
  have hpl : (tail.take us).length = us := HTL.out.length
  obtain ⟨p, hp⟩ : ∃ p, p = tail.take us := ⟨_, rfl⟩
  rw [← hp] at hpl HTL
  have HP := Lib.hid hp
  have HPL := Lib.hid hpl
  clear hp hpl
  go_wp2_with (at_builtin; first
    | (refine wpList_append_grows _ rfl _ _ 23 rfl 5 i0 (.int .u8 0) 1 1 Tryd.underlying23 hi hz0 hz1 hz2 rfl (by decide) (some ⟨g, 9, none⟩) us us (p.map (num .u8)) rfl (fun e => by cases e) (by rw [List.length_map, HPL.out, Nat.mul_one]) (fun b e j u hu => by cases e; exact (HTL.out.below ((Below.refl _ _).alloc (Nat.le_refl _) _)).news j u hu) _ 1 1 [.int .u8 128] rfl rfl (Reads.one .u8 w _ 128 128 rfl).news (fun u hu => by simp at hu; rw [hu]; rfl) (by omega) (by unfold maxLen; omega) (by omega) ?_; intro v1 w1 hown1 hgrow1; have HO1 := Lib.hid (owned_nums (l := p ++ [128]) (by rw [List.map_append]; exact hown1)); have HB1 := Lib.hid (((Below.refl w.heap.size w).alloc (Nat.le_refl _) (.cells #[.int .u8 128] 5)).grown hgrow1 (by simp) (fun r e => by cases e)); clear hown1 hgrow1)
    | (refine wpList_append_noughts _ rfl _ _ 23 3 rfl w.heap.size 5 i0 Tryd.underlying23 Tryd.underlying3 hi hz0 hz1 hz2 _ (p ++ [128]) rfl (HO1.out.mono (by simp)) (by simp) k rfl (by have := HPL.out; have := HK.out; simp; omega) HB1.out.size ?_; intro v2 w2 hown2 hgrow2; have HO2 := Lib.hid hown2; have HB2 := Lib.hid (hgrow2 _ HB1.out); clear hown2 hgrow2))
  obtain ⟨R0, hR0⟩ : ∃ R, R = p ++ [128] ++ List.replicate k 0 := ⟨_, rfl⟩
  rw [← hR0] at HO2
  have hRl : R0.length ≤ 120 := by
    have := HPL.out
    have := HK.out
    rw [hR0]
    simp
    omega
  have HR0 := Lib.hid hR0
  clear hR0
  go_loopw [36, 5] (fun iv sv wq => ∃ j : Nat, iv = .int .i64 (j : Int) ∧ j ≤ 8 ∧ Hid (OwnQ .u8 5 w.heap.size wq sv (R0 ++ lenB T j) ∧ Below w.heap.size w wq)) (fun iv _ _ => 8 - (intOf iv).toNat)
  case atStart => exact ⟨0, rfl, by decide, by rw [show lenB T 0 = [] from rfl, List.append_nil]; exact HO2.out, HB2.out⟩
  case round =>
    obtain ⟨j, rfl, hj, hI⟩ := hrel
    obtain ⟨ho, hb⟩ := hI.out
    have HO := Lib.hid ho
    have HB := Lib.hid hb
    clear ho hb
    have cT3 := (HST.out.below HB.out hgw.out).taken
    by_cases hlt : j < 8
    · go_wp2_with (at_builtin; refine wpList_append_q .u8 _ rfl _ _ 23 rfl w.heap.size 5 1 i0 Tryd.underlying23 hi hz0 hz1 hz2 (by decide) _ (R0 ++ lenB T j) rfl (HO.out.alloc _) _ _ _ [T * 8 / 2 ^ (8 * (7 - j)) % 256] rfl (Reads.one .u8 _ _ _ _ (by push_cast; rfl)) (by simp [lenB_len]; omega) (by have := HB.out.size; simp; omega) ?_; intro v' w3 hown3 hgrow3)
      go_roundw
      case rel => exact ⟨j + 1, by go_num, by omega, by rw [lenB_succ, ← List.append_assoc]; exact hown3, hgrow3 _ (HB.out.alloc HB.out.size _)⟩
      case measure => simp [intOf] <;> omega
    · obtain rfl : j = 8 := by omega
      have HS := Lib.hid (HST.out.below HB.out hgw.out)
      have hR : R0 ++ lenB T 8 = restN m := by
        unfold restN
        rw [← HT.out, HR0.out, HP.out, HUS.out, HK.out, HUS.out]
        have := HF.out.2
        rw [← HT.out] at this
        rw [this]
      rw [hR] at HO
      obtain ⟨g1, c1, hv⟩ := HO.out.succ (by intro e; have := restN_len m; rw [e] at this; simp at this)
      obtain ⟨N, hN⟩ : ∃ N, N = (restN m).length := ⟨_, rfl⟩
      rw [← hN] at hv
      subst hv
      have HN := Lib.hid hN
      have hN2 : N = 64 ∨ N = 128 := by rw [hN]; exact restN_len m
      clear hN hR
      go_wp2_with fail
      refine (copy_any g bt ws tail T wr HS.out hbt0).mono ?_
      rintro e w3 ⟨rfl, rfl⟩
      have hs3 := Lib.hid (show StateAt (wr.alloc (.cells (stL bt ws tail T).toArray 86)) wr.heap.size bt ws tail T from ⟨Go.heap_alloc_new wr _, HST.out.wlen, HST.out.tlen, HST.out.wlt, HST.out.tlt⟩)
      have hb3 := Lib.hid (HB.out.alloc HB.out.size (.cells (stL bt ws tail T).toArray 86))
      have ho3 := Lib.hid (HO.out.alloc (.cells (stL bt ws tail T).toArray 86))
      have hz3 := (Array.getElem?_eq_some_iff.1 (Go.heap_alloc_new wr (.cells (stL bt ws tail T).toArray 86))).1
      obtain ⟨f, hf⟩ : ∃ f, f = wr.heap.size := ⟨_, rfl⟩
      rw [← hf] at hs3 hz3 ⊢
      have hfw : w.heap.size ≤ f := by rw [hf]; exact HB.out.size
      have hgf : Hid (g1 ≠ f) := by
        have := (HO.out.lt g1 rfl).2
        show g1 ≠ f
        omega
      generalize wr.alloc (.cells (stL bt ws tail T).toArray 86) = w3 at *
      clear HO HB HS hI hf
      go_wp2_with fail
      have bF := Boxed.new w3 63 (.pointer (some ⟨f, 0, none⟩))
      have hs4 := hs3.out.below ((Below.refl _ _).alloc (Nat.le_refl _) (.cells #[.pointer (some ⟨f, 0, none⟩)] 63)) hz3
      have hb4 := hb3.out.alloc hb3.out.size (.cells #[.pointer (some ⟨f, 0, none⟩)] 63)
      have ho4 := ho3.out.alloc (.cells #[.pointer (some ⟨f, 0, none⟩)] 63)
      have hz4 := Lib.hid (show (w3.alloc (.cells #[.pointer (some ⟨f, 0, none⟩)] 63)).heap.size = w3.heap.size + 1 by simp)
      have hg4 := grown_below ((Below.refl w3.heap.size w3).alloc (Nat.le_refl _) (.cells #[.pointer (some ⟨f, 0, none⟩)] 63)) (some f)
      generalize w3.alloc (.cells #[.pointer (some ⟨f, 0, none⟩)] 63) = w4 at *
      refine (pieces_any _ _ _ _ _).mono ?_
      rintro e w5 ⟨rfl, rfl⟩
      go_wp2_with fail
      refine (wpIn_wide (n := 3)).1 ?_
      have bF5 := (bF.alloc (.cells #[.slice (some ⟨g1, 0, none⟩) N c1] 23)).alloc (.cells #[.int .i64 64] 3)
      have bB5 := (Boxed.new w4 23 (.slice (some ⟨g1, 0, none⟩) N c1)).alloc (.cells #[.int .i64 64] 3)
      have bR5 := Boxed.new (w4.alloc (.cells #[.slice (some ⟨g1, 0, none⟩) N c1] 23)) 3 (.int .i64 64)
      rw [World.size_alloc] at bR5
      have hb5 := ((Below.refl w4.heap.size w4).alloc (Nat.le_refl _) (.cells #[.slice (some ⟨g1, 0, none⟩) N c1] 23)).alloc (by simp) (.cells #[.int .i64 64] 3)
      have hs5 := hs4.below hb5 hs4.lt
      have hg5 := Lib.hid (grown_trans hg4 (grown_below hb5 (some f)))
      have hz5 := Lib.hid (show ((w4.alloc (.cells #[.slice (some ⟨g1, 0, none⟩) N c1] 23)).alloc (.cells #[.int .i64 64] 3)).heap.size = w4.heap.size + 2 by simp)
      generalize (w4.alloc (.cells #[.slice (some ⟨g1, 0, none⟩) N c1] 23)).alloc (.cells #[.int .i64 64] 3) = W0 at *
      obtain ⟨b0, hb0⟩ : ∃ b, b = w3.heap.size := ⟨_, rfl⟩
      obtain ⟨bb, hbb⟩ : ∃ b, b = w4.heap.size := ⟨_, rfl⟩
      rw [← hb0] at bF5 ⊢
      rw [← hbb] at bB5 bR5 ⊢
      have hord : Hid (b0 = w3.heap.size ∧ f < b0 ∧ bb = b0 + 1 ∧ W0.heap.size = b0 + 3 ∧ w.heap.size ≤ f) := ⟨hb0, by omega, by have := hz4.out; omega, by have := hz4.out; have := hz5.out; omega, hfw⟩
      have hrd := Lib.hid ho3.out.reads
      have hcm := hrd.out.max
      have hnc := hrd.out.le
      clear hb0 hbb hz5 hz4 hs4 hb5 hg4 bF
      refine wpIn_rangeR (F := Fence.wide) (R := fun k => k = bb ∨ k = bb + 1) rfl (show 1 ≤ 3 by decide) (gf := 64) (lb := #[.pointer (some ⟨bb, 0, none⟩), .pointer (some ⟨bb + 1, 0, none⟩)]) rfl trivial (enters_of Tryd.func64 (by kernel_rfl) rfl)
        (pieces_come (3 - 1) (by decide) (fun p => p.1 + p.2 ≤ N ∧ p.2 = 64) bb (bb + 1) g1 0 N c1 64 _ W0 bB5 bR5 (by omega) (fun _ => rfl) hnc hcm (by decide) (by decide) (fun j hj => by have := stP_le N 64 (j + 1); have := stP_64 hN2 j hj; simp only; omega)) (fun k hk => by have := hord.out; rcases hk with rfl | rfl <;> omega) (Below.refl _ _) (fun _ => rfl)
        (fun pre W => ShI w3 f bt b0 N T tail ws (restN m) (pre.map (·.1)) W)
        (fun _ _ _ => False)
        ?_ ?_ ⟨ws, bF5, hs5, fun _ => rfl, hg5.out, by have := hord.out; omega⟩ ?_ ?_ ?_ ?_ ?_
      rotate_left 3
      · intro lp x W K hK
        gi_wp2
        exact hK
      · rintro lp pre ⟨⟨s, l⟩, hC⟩ W ⟨wz, hbF, hst, hsem, hgr, hWz⟩
        obtain ⟨hC1, hC2⟩ : s + l ≤ N ∧ l = 64 := hC
        subst hC2
        have hrp0 := piece_reads (hrd.out.grownNe hgr (fun _ ad e h => hgf.out (by cases e; cases h; rfl))) (fun _ => rfl) s 64 hC1
        rw [Nat.zero_add] at hrp0
        have hrp := hrp0
        clear hrp0
        have hpb : ∀ x ∈ ((restN m).drop s).take 64, x < 256 := fun x hx => restN_lt HM0.out x (List.mem_of_mem_drop (List.mem_of_mem_take hx))
        have cF := hbF.cell
        have HSTz := Lib.hid hst
        have HRP := Lib.hid hrp
        have HPB := Lib.hid hpb
        have HSEM := Lib.hid hsem
        have HGR := Lib.hid hgr
        have HBF := Lib.hid hbF
        clear hst hrp hpb hsem hgr hbF
        gi_wp2_with fail
        refine ⟨trivial, ?_⟩
        refine (CallsIn.inRound lp (callsIn_wide.2 (turn_any f bt wz tail T _ _ _ W HSTz.out HRP.out HPB.out))).mono ?_
        rintro e w7 ⟨rfl, hst7, hg7⟩
        have HST7 := Lib.hid hst7
        have HG7 := Lib.hid hg7
        clear hst7 hg7
        gi_wp2_with fail
        have hg7 : W.grownBy w7 (some f) := ⟨HG7.out.os, HG7.out.tape, HG7.out.output, HG7.out.size, HG7.out.block⟩
        have hKO := keeps_state HSTz.out hg7
        refine ⟨hKO.from _, ?_, turnN wz (((restN m).drop s).take 64), HBF.out.kept hg7 (fun e => by have := hord.out; cases e; omega), HST7.out, ?_, grown_trans HGR.out hg7, Nat.le_trans hWz hg7.size⟩
        · exact KpR.grown hg7 (fun k hk => by have := hord.out; rcases hk with rfl | rfl <;> omega) (fun r e hk => by have := hord.out; cases e; rcases hk with h | h <;> omega)
        · intro he
          rw [List.map_append] at he ⊢
          obtain ⟨h1, h2⟩ := sem_split he
          have h3 := HSEM.out h1
          have h4 : s = stP N 64 (pre.map (·.1)).length := by have := congrArg Prod.fst h2; exact this
          have h5 := stP_64 hN2 (pre.map (·.1)).length (by rw [← h4]; omega)
          have e1 : ((pre.map (·.1)) ++ [((s, 64) : Nat × Nat)]).length = (pre.map (·.1)).length + 1 := by simp
          show turnN wz _ = foldW ws (restN m) ((pre.map (·.1)) ++ [((s, 64) : Nat × Nat)]).length
          rw [e1]
          show turnN wz _ = turnN (foldW ws (restN m) (pre.map (·.1)).length) (((restN m).drop (64 * (pre.map (·.1)).length)).take 64)
          rw [h3, h4, h5.1]
      · rintro D xs W hD ⟨mm, hmap, hst9⟩ ⟨wz, hbF, hst, hsem, hgr, hWz⟩ hK
        have hwz := hsem (by rw [hmap, pcs_len])
        rw [hmap, pcs_len] at hwz
        have hmm : mm = N / 64 := stP_end hN2 mm hst9 (fun i hi => by
          have h1 : (stP N 64 i, stP N 64 (i + 1) - stP N 64 i) ∈ xs.map (·.1) := by
            rw [hmap]
            exact List.mem_map.2 ⟨i, List.mem_range.2 hi, rfl⟩
          obtain ⟨x, -, hx⟩ := List.mem_map.1 h1
          have h2 := x.2.2
          rw [hx] at h2
          have h3 := stP_le N 64 (i + 1)
          simp only at h2
          omega)
        rw [hmm, HN.out] at hwz
        have hwz2 : wz = sumW bt m := by
          rw [hwz]
          unfold sumW
          rw [HF.out.1]
        subst hwz2
        have HGR := Lib.hid hgr
        have HST9 := Lib.hid hst
        have cF := hbF.cell
        have HBF := Lib.hid hbF
        have HK := Lib.hid hK
        have HD := Lib.hid hD
        clear hsem hgr hst hbF hK hmap hwz hst9 hmm
        have hfW := HST9.out.lt
        have hbW := hord.out
        have HBW := Lib.hid (hb3.out.grown HGR.out hb3.out.size (fun r e => by cases e; exact hbW.2.2.2.2))
        have hDW := Lib.hid (Array.getElem?_eq_some_iff.1 HK.out).1
        clear hbW
        go_wp2_with (at_make; refine wpList_make_room .u8 _ rfl _ _ 23 rfl W.heap.size 5 i0 Tryd.underlying23 hi hz0 hz1 _ _ _ _ 0 32 rfl rfl rfl rfl (by decide) (by rw [hz2]; decide) (by unfold maxLen; omega) (Nat.le_refl _) ?_; intro w8 hown8 hgrow8; have HO8 := Lib.hid hown8; have HG8 := Lib.hid hgrow8; have cF8 := (HBF.out.kept hgrow8 (fun e => by cases e)).cell; have hst8 := HST9.out.block (hgrow8.block f hfW (fun e => by cases e)); have HST8 := Lib.hid hst8; have c0 := hst8.word 0 (by decide); have c1' := hst8.word 1 (by decide); have c2 := hst8.word 2 (by decide); have c3 := hst8.word 3 (by decide); have c4 := hst8.word 4 (by decide); have c5 := hst8.word 5 (by decide); have c6 := hst8.word 6 (by decide); have c7 := hst8.word 7 (by decide); simp only [Nat.reduceAdd] at c0 c1' c2 c3 c4 c5 c6 c7; clear hown8 hgrow8 hst8 cF)
        rw [arrC_eight (sumW bt m) HST8.out.wlen]
        have hzl := Lib.hid HST8.out.wlen
        have hzb := Lib.hid HST8.out.wlt
        obtain ⟨z, hz⟩ : ∃ z, z = sumW bt m := ⟨_, rfl⟩
        rw [← hz] at hzl hzb ⊢
        have HZ := Lib.hid hz
        clear hz c0 c1' c2 c3 c4 c5 c6 c7
        have HB8 := Lib.hid ((Below.refl W.heap.size W).grown HG8.out (Nat.le_refl _) (fun r e => by cases e))
        go_loopw [66, 9] (fun iv sv wq => ∃ j : Nat, iv = .int .i64 (j : Int) ∧ j ≤ 8 ∧ Hid (OwnQ .u8 5 W.heap.size wq sv (bytesW z j) ∧ Below W.heap.size W wq)) (fun iv _ _ => 8 - (intOf iv).toNat)
        case atStart => exact ⟨0, rfl, by decide, HO8.out, HB8.out⟩
        case round =>
          obtain ⟨j, rfl, hj, hI⟩ := hrel
          obtain ⟨ho, hb⟩ := hI.out
          have HO := Lib.hid ho
          have HB := Lib.hid hb
          clear ho hb hI
          by_cases hlt : j < 8
          · have ix := idx8 z j hlt hzl.out
            have lx : g0 z j < 4294967296 := g0_lt hzb.out (by decide) j
            have hbl := bytesW_len z j
            have HBL := Lib.hid hbl
            clear hbl
            have hbs := Lib.hid (bytesW_succ z j)
            unfold g0 at lx hbs
            generalize z[j]?.getD 0 = x at *
            go_wp2_with (at_builtin; refine wpList_append_q .u8 _ rfl _ _ 23 rfl W.heap.size 5 1 i0 Tryd.underlying23 hi hz0 hz1 hz2 (by decide) _ (bytesW z j) rfl (HO.out.alloc _) _ _ _ (wordB x) rfl (reads_four .u8 _ _ _ _ _ _ _ _ _ _ (by omega) (by omega) (by omega) (by omega)) (by have := HBL.out; omega) (by have := HB.out.size; simp; omega) ?_; intro v' w9 hown9 hgrow9)
            go_roundw
            case rel => exact ⟨j + 1, by go_num, by omega, by rw [hbs.out]; exact hown9, hgrow9 _ (HB.out.alloc HB.out.size _)⟩
            case measure => simp [intOf] <;> omega
          · obtain rfl : j = 8 := by omega
            have hBw := HBW.out.trans (HB.out.mono HBW.out.size)
            have cB := (HST.out.below hBw hgw.out).bits
            obtain ⟨h1, cc, hv⟩ := HO.out.succ (by intro e; have := bytesW_len z 8; rw [e] at this; simp at this)
            rw [bytesW_len] at hv
            subst hv
            obtain ⟨-, hcap, hcm8⟩ := HO.out.cap
            unfold maxLen at hcm8
            obtain ⟨q, hq⟩ : ∃ q, q = bt / 8 := ⟨_, rfl⟩
            have hq1 : Int.tdiv (bt : Int) 8 = (q : Int) := by
              rw [Int.tdiv_eq_ediv_of_nonneg (by omega)]
              omega
            have hq2 : q ≤ 32 ∧ 1 ≤ q := by have := HBT.out; omega
            have HQ := Lib.hid hq
            clear hq
            go_wp2
            have hKr := (HB.out.block D hDW.out).trans HK.out
            refine ⟨by simp, .inl ⟨_, _, rfl, run_takeDeferred hKr, ?_⟩⟩
            have hgr := grownBy_putObj' wr D (.deferred none)
            have hh1 := HO.out.lt h1 rfl
            have hrd1 := HO.out.reads.upto q (by omega)
            have hrd2 : Reads .u8 wr (some ⟨h1, 0, none⟩) q q ((bytesW z 8).take q) := ⟨hrd1.length, Nat.le_refl _, by unfold maxLen; omega, (fun e => by cases e), hrd1.cells⟩
            have hrd3 := hrd2.grownNe hgr (fun _ ad e h => by have h' : h1 = D := (by cases e; exact Option.some.inj h); have := hDW.out; have := hh1.1; omega)
            have hor := hord.out
            have hDD := HD.out
            refine ⟨_, results_tmp HRES.out _ _ _, ⟨⟨h1, 0, none⟩, by rw [← HQ.out]; rfl, ?_, ?_⟩, hBw.grown hgr hBw.size (fun r e => by cases e; omega)⟩
            · rw [← HQ.out]
              unfold hashN
              rw [← HZ.out, ← HQ.out]
              exact hrd3
            · have := HBW.out.size
              show w.heap.size ≤ h1
              omega
      · rintro D cc pre W hD hSp h
        exact h.elim
      · exact fun s X X' row h hg hr => h.stays hg (fun r e => by
          have h2 := hord.out
          rcases hr r e with h3 | ⟨h3, -⟩
          · rcases h3 with rfl | rfl <;> omega
          · omega)
      · exact fun cc s X X' row h hg hr => h

end Go.Proofs.YtmfjhgjplmpecaaDoor
