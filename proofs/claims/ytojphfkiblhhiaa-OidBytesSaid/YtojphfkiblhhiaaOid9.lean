/-
  OID: the law OidBytes. (Written by wip/gen_oid9.py.)
-/
import Derived.Test.YtojphfkiblhhiaaOid8
namespace Go.Proofs.Ytojphfkiblhhiaa
open Go.RowKit
set_option maxRecDepth 100000

theorem reads_of_bytes {w : World} {a : Option Addr} {len cap : Nat} {zs : List Int}
    (h : (a = .none ∧ len = 0 ∧ cap = 0 ∧ zs = []) ∨ ∃ x, a = some x ∧ len ≤ cap ∧ cap ≤ maxLen ∧ zs.length = cap ∧ (∀ i, i < zs.length → w.cell? (x.add i) = some (.int .u8 (zs.getD i 0))) ∧ ∀ n ∈ zs, (Lit.int .u8 n).wf = true) :
    ∃ l : List Nat, Reads .u8 w a len cap l ∧ ∀ x ∈ l, x < 256 := by
  rcases h with ⟨rfl, rfl, rfl, rfl⟩ | ⟨x, rfl, hl, hm, hz, hc, hw⟩
  · exact ⟨[], Reads.none _ w, fun _ h => by cases h⟩
  · have hbd : ∀ n ∈ zs, 0 ≤ n ∧ n < 256 := fun n hn => by
      have := hw n hn
      simp [Lit.wf, IntKind.min, IntKind.max, IntKind.signed, IntKind.bits] at this
      omega
    refine ⟨(zs.take len).map fun n => n.toNat, ⟨by simp; omega, hl, hm, (fun h => by cases h), fun hp => ?_⟩, fun y hy => ?_⟩
    · obtain ⟨b, off, spot⟩ := x
      have h0 := hc 0 (by omega)
      have hs : spot = .none := by simpa [Addr.add] using World.cell?_spot h0
      subst hs
      refine ⟨b, off, rfl, World.block_lt_of_cell? w _ (by simpa [Addr.add] using h0), fun i hi => ?_⟩
      have hci := hc i (by omega)
      have e : (⟨b, off, .none⟩ : Addr).add i = ⟨b, off + i, .none⟩ := by unfold Addr.add; split <;> simp_all
      rw [e] at hci
      rw [hci]
      have hlt : i < zs.length := by omega
      have hb := hbd zs[i] (List.getElem_mem _)
      have h1 : zs.getD i 0 = zs[i] := by simp [List.getD, hlt]
      rw [h1]
      simp [hi, hlt]
      omega
    · obtain ⟨n, hn, rfl⟩ := List.mem_map.1 hy
      have := hbd n (List.mem_of_mem_take hn)
      omega


theorem form_zero : formO 0 = [0] := by kernel_rfl
theorem read_more {l : List Nat} (h : OidOk l) (h2 : l.length < 20) : readO (bytesO l ++ [0]) = (l ++ [0], 0) := by
  have e := bytesO_snoc h.1 0
  rw [form_zero] at e
  rw [← e]
  exact readO_yes (h.snoc h2 (by decide))
theorem read_full {l : List Nat} (h : OidOk l) (h2 : ¬ l.length < 20) : readO (bytesO l ++ [0]) = ([], 140) := by
  rcases readO_cases (bytesO l ++ [0]) with ⟨m, hm, e, _⟩ | ⟨_, e⟩
  · exfalso
    have h3 := runR_snoc (bytesO l) 0
    rw [e, runR_bytes hm, runR_bytes h] at h3
    have hl : l ≠ [] := fun e => by have := h.1; rw [e] at this; simp at this
    have h4 := congrArg Prod.fst h3
    simp only [stepR, accO, pushO, if_neg hl] at h4
    simp at h4
    have := hm.2.1
    rw [h4, List.length_append] at this
    simp at this
    omega
  · exact e

set_option maxHeartbeats 2000000 in
theorem obytes_walk (a : Option Addr) (len cap : Nat) (b : List Nat) (w : World) (h : Reads .u8 w a len cap b) (hB : Byt b) :
    Calls Try.prog 4 #[.slice a len cap] w fun e w' => e = .returned (.bool true) ∧ Below w.heap.size w w' := by
  obtain ⟨i0, hi, hz0, hz1, hz2⟩ := info_parts infoU8
  have hm := h.len_le
  unfold maxLen at hm
  have H := Lib.hid h
  have HLN := Lib.hid h.length
  have HBY := Lib.hid hB
  clear h hB
  by_cases hbig : 500 < len
  · have d1 : decide ((500 : Int) < (len : Int)) = true := by simp; omega
    go_enter Try.func4, Try.ntmps4
    go_wp2_with fail
    refine (alive_o _).mono ?_
    rintro e w1 ⟨rfl, hb⟩
    have HB := Lib.hid hb
    clear hb
    go_wp2
    go_ret
    exact ⟨rfl, HB.out⟩
  have d1 : decide ((500 : Int) < (len : Int)) = false := by simp; omega
  have hl5 : len ≤ 500 := by omega
  clear hbig
  have HB0 := Lib.hid (show Byt (b ++ [0]) from fun x hx => by
    rcases List.mem_append.1 hx with h | h
    · exact HBY.out x h
    · obtain rfl := List.mem_singleton.1 h; decide)
  go_enter Try.func4, Try.ntmps4
  go_wp2_with fail
  refine (alive_o _).mono ?_
  rintro e w1 ⟨rfl, hb⟩
  have HB := Lib.hid hb
  clear hb
  go_wp2_with fail
  refine (read_o a len cap b _ (H.out.below HB.out) HBY.out (by omega)).mono ?_
  rintro e w2 ⟨⟨xa, xn, xc, rfl, hx⟩, hb⟩
  have HX := Lib.hid hx
  have hxn := hx.cap.1
  have hxm := hx.cap.2
  unfold maxLen at hxm
  have HB := Lib.hid (HB.out.trans (hb.mono HB.out.size))
  clear hb
  obtain ⟨R, er, hR⟩ : ∃ R er, readO b = (R, er) := ⟨_, _, rfl⟩
  rw [hR] at HX hxn ⊢
  dsimp only at HX hxn ⊢
  have HXN := Lib.hid hxn
  clear hx hxn
  have HB0w := Lib.hid (Below.refl w2.heap.size w2)
  go_wp2_with fail
  go_loopw [6, 7, 27] (fun fv sv iv wr => ∃ (i : Nat) (fr sh : Bool), fv = .bool fr ∧ sv = .bool sh ∧ iv = .int .i64 (i : Int) ∧ i ≤ len ∧ Hid ((b.take i).foldl stepB (true, true) = (fr, sh)) ∧ Hid (Below w2.heap.size w2 wr)) (fun _ _ iv _ => len + 1 - (intOf iv).toNat)
  case atStart => exact ⟨0, true, true, rfl, rfl, rfl, by omega, Lib.hid rfl, HB0w⟩
  case round =>
    obtain ⟨i, fr, sh, rfl, rfl, rfl, hi1, HF, HBW⟩ := hrel
    by_cases hlt : i < len
    · have hrd := H.out.below (HB.out.trans (HBW.out.mono HB.out.size))
      obtain ⟨bb, off, rfl, hbl, hc⟩ := hrd.cells (by omega)
      have ci := hc i hlt
      have hget : b[i]? = some (b[i]?.getD 0) := by rw [List.getElem?_eq_getElem (by have := HLN.out; omega)]; rfl
      have HT := Lib.hid (show (b.take (i + 1)).foldl stepB (true, true) = (decide (b[i]?.getD 0 < 128), sh && (!fr || b[i]?.getD 0 != 128)) by
        rw [List.take_add_one, hget, Option.toList_some, List.foldl_append, HF.out]
        rfl)
      clear hc hget hrd
      generalize b[i]?.getD 0 = x at *
      obtain ⟨p, hp⟩ : ∃ p, decide (x < 128) = p := ⟨_, rfl⟩
      obtain ⟨q, hq⟩ : ∃ q, (x != 128) = q := ⟨_, rfl⟩
      have hpI : decide ((x : Int) < 128) = p := by rw [← hp]; exact decide_eq_decide.2 (by omega)
      have hqI : ((x : Int) != 128) = q := by
        rw [← hq, Bool.eq_iff_iff]
        simp
        omega
      rw [hp, hq] at HT
      clear hp hq
      cases sh <;> cases fr <;> cases p <;> cases q
      all_goals
        go_wp2
        go_roundw
        case rel => exact ⟨i + 1, _, _, rfl, rfl, by go_num, by omega, HT, HBW⟩
        case measure => simp [intOf]; omega
    · have hie : i = len := by omega
      have HFF := Lib.hid (show b.foldl stepB (true, true) = (fr, sh) by
        have := HF.out
        rwa [List.take_of_length_le (by have := HLN.out; omega)] at this)
      have HB := Lib.hid (HB.out.trans (HBW.out.mono HB.out.size))
      have HX := Lib.hid (HX.out.below HBW.out)
      have HRD := Lib.hid (H.out.below HB.out)
      clear hie HF HBW HB0w
      have hsz := HB.out.size
      rcases readO_cases b with ⟨l, hok, hbl, hrd⟩ | ⟨hno, hrd⟩
      · skip
        have hRl : (R, er) = (l, 0) := by rw [← hR, hrd]
        obtain ⟨rfl, rfl⟩ := Prod.mk.inj hRl
        have hfs : (fr, sh) = (true, true) := by rw [← HFF.out, hbl]; exact foldB_bytes hok
        obtain ⟨rfl, rfl⟩ := Prod.mk.inj hfs
        have hlen1 : 1 ≤ len := by have := (bytesO_len R).1; rw [← hbl, HLN.out] at this; exact this
        have t0 : ((len : Int) == 0) = false := by simp; omega
        have hRl20 := hok.2.1
        clear hRl hrd hfs hR
        by_cases h20 : R.length < 20
        · have HM := Lib.hid (show readO (b ++ [0]) = (R ++ [0], 0) by rw [hbl]; exact read_more hok h20)
          have hxn20 : xn < 20 := by rw [HXN.out]; exact h20
          clear hok hbl h20
          go_wp2_with (at_builtin; first | (refine wpList_append_q .u8 _ rfl _ _ 24 rfl wr.heap.size 5 1 i0 Try.underlying24 hi hz0 hz1 hz2 (by decide) _ [] rfl (OwnQ.empty _ wr _ _ (Nat.le_refl _)) _ _ _ b rfl (HRD.out.below ((Below.refl _ _).alloc (Nat.le_refl _) _)) (by simp; omega) (by simp) ?_; intro v' w4 hown2 hgrow; obtain ⟨ua, un, uc, rfl, -, hown2⟩ := hown2.slice; have HO4 := Lib.hid hown2; have Hw4 := Lib.hid (hgrow wr ((Below.refl wr.heap.size wr).alloc (Nat.le_refl _) _)); clear hown2 hgrow) | (refine wpList_append_q .u8 _ rfl _ _ 24 rfl wr.heap.size 5 1 i0 Try.underlying24 hi hz0 hz1 hz2 (by decide) _ ([] ++ b) rfl (HO4.out.alloc _) _ _ _ [0] rfl (Reads.one .u8 _ _ _ _ rfl) (by have := HLN.out; simp; omega) (by have := Hw4.out.size; simp; omega) ?_; intro v' w5 hown2 hgrow; obtain ⟨ta, tn, tc, rfl, htn, hown2⟩ := hown2.slice; have HTN := Lib.hid htn; have HO5 := Lib.hid hown2; have Hw5 := Lib.hid (hgrow wr (Hw4.out.alloc Hw4.out.size _)); clear hown2 hgrow htn))
          have HX := Lib.hid (HX.out.below Hw5.out)
          have HB := Lib.hid (HB.out.trans (Hw5.out.mono HB.out.size))
          have htl : tn ≤ 501 := by have := HTN.out; have := HLN.out; simp at *; omega
          refine (read_o ta tn tc (b ++ [0]) _ HO5.out.reads HB0.out (by omega)).mono ?_
          rintro e w6 ⟨⟨ya, yn, yc, rfl, hy⟩, hb⟩
          have HY := Lib.hid hy
          have HX := Lib.hid (HX.out.below hb)
          have HB := Lib.hid (HB.out.trans (hb.mono HB.out.size))
          clear hb
          rw [HM.out] at HY ⊢
          dsimp only at HY ⊢
          clear hy HO4 HO5
          have hyn := HY.out.cap.1
          rw [List.length_append, ← HXN.out] at hyn
          simp only [List.length_singleton] at hyn
          subst hyn
          obtain ⟨yb, hyb⟩ : ∃ yb, ya = some ⟨yb, 0, none⟩ := by
            rcases HY.out.2 with ⟨h9, _⟩ | ⟨g, c9, k9, h9, _⟩
            · simp at h9
            · simp at h9
              exact ⟨g, h9.1⟩
          subst hyb
          have cy : w6.cell? ⟨yb, xn, none⟩ = some (.int .u64 0) := by
            have := HY.out.cellAt (by rw [List.length_append, HXN.out]; rfl) xn (by omega)
            rw [this, HXN.out]
            simp
          have hxn0 : xn < xn + 1 := by omega
          go_wp2
          go_ret
          exact ⟨rfl, HB.out⟩
        · have HM := Lib.hid (show readO (b ++ [0]) = ([], 140) by rw [hbl]; exact read_full hok h20)
          have hxn20 : ¬ xn < 20 := by rw [HXN.out]; exact h20
          clear hok hbl h20
          go_wp2_with (at_builtin; first | (refine wpList_append_q .u8 _ rfl _ _ 24 rfl wr.heap.size 5 1 i0 Try.underlying24 hi hz0 hz1 hz2 (by decide) _ [] rfl (OwnQ.empty _ wr _ _ (Nat.le_refl _)) _ _ _ b rfl (HRD.out.below ((Below.refl _ _).alloc (Nat.le_refl _) _)) (by simp; omega) (by simp) ?_; intro v' w4 hown2 hgrow; obtain ⟨ua, un, uc, rfl, -, hown2⟩ := hown2.slice; have HO4 := Lib.hid hown2; have Hw4 := Lib.hid (hgrow wr ((Below.refl wr.heap.size wr).alloc (Nat.le_refl _) _)); clear hown2 hgrow) | (refine wpList_append_q .u8 _ rfl _ _ 24 rfl wr.heap.size 5 1 i0 Try.underlying24 hi hz0 hz1 hz2 (by decide) _ ([] ++ b) rfl (HO4.out.alloc _) _ _ _ [0] rfl (Reads.one .u8 _ _ _ _ rfl) (by have := HLN.out; simp; omega) (by have := Hw4.out.size; simp; omega) ?_; intro v' w5 hown2 hgrow; obtain ⟨ta, tn, tc, rfl, htn, hown2⟩ := hown2.slice; have HTN := Lib.hid htn; have HO5 := Lib.hid hown2; have Hw5 := Lib.hid (hgrow wr (Hw4.out.alloc Hw4.out.size _)); clear hown2 hgrow htn))
          have HX := Lib.hid (HX.out.below Hw5.out)
          have HB := Lib.hid (HB.out.trans (Hw5.out.mono HB.out.size))
          have htl : tn ≤ 501 := by have := HTN.out; have := HLN.out; simp at *; omega
          refine (read_o ta tn tc (b ++ [0]) _ HO5.out.reads HB0.out (by omega)).mono ?_
          rintro e w6 ⟨⟨ya, yn, yc, rfl, hy⟩, hb⟩
          have HY := Lib.hid hy
          have HX := Lib.hid (HX.out.below hb)
          have HB := Lib.hid (HB.out.trans (hb.mono HB.out.size))
          clear hb
          rw [HM.out] at HY ⊢
          dsimp only at HY ⊢
          clear hy HO4 HO5
          go_wp2
          go_ret
          exact ⟨rfl, HB.out⟩
      · skip
        have hRl : (R, er) = ([], 140) := by rw [← hR, hrd]
        obtain ⟨rfl, rfl⟩ := Prod.mk.inj hRl
        clear hRl hrd hR hno
        obtain ⟨R2, er2, hR2⟩ : ∃ R2 er2, readO (b ++ [0]) = (R2, er2) := ⟨_, _, rfl⟩
        have HM := Lib.hid hR2
        clear hR2
        go_wp2_with (at_builtin; first | (refine wpList_append_q .u8 _ rfl _ _ 24 rfl wr.heap.size 5 1 i0 Try.underlying24 hi hz0 hz1 hz2 (by decide) _ [] rfl (OwnQ.empty _ wr _ _ (Nat.le_refl _)) _ _ _ b rfl (HRD.out.below ((Below.refl _ _).alloc (Nat.le_refl _) _)) (by simp; omega) (by simp) ?_; intro v' w4 hown2 hgrow; obtain ⟨ua, un, uc, rfl, -, hown2⟩ := hown2.slice; have HO4 := Lib.hid hown2; have Hw4 := Lib.hid (hgrow wr ((Below.refl wr.heap.size wr).alloc (Nat.le_refl _) _)); clear hown2 hgrow) | (refine wpList_append_q .u8 _ rfl _ _ 24 rfl wr.heap.size 5 1 i0 Try.underlying24 hi hz0 hz1 hz2 (by decide) _ ([] ++ b) rfl (HO4.out.alloc _) _ _ _ [0] rfl (Reads.one .u8 _ _ _ _ rfl) (by have := HLN.out; simp; omega) (by have := Hw4.out.size; simp; omega) ?_; intro v' w5 hown2 hgrow; obtain ⟨ta, tn, tc, rfl, htn, hown2⟩ := hown2.slice; have HTN := Lib.hid htn; have HO5 := Lib.hid hown2; have Hw5 := Lib.hid (hgrow wr (Hw4.out.alloc Hw4.out.size _)); clear hown2 hgrow htn))
        have HX := Lib.hid (HX.out.below Hw5.out)
        have HB := Lib.hid (HB.out.trans (Hw5.out.mono HB.out.size))
        have htl : tn ≤ 501 := by have := HTN.out; have := HLN.out; simp at *; omega
        refine (read_o ta tn tc (b ++ [0]) _ HO5.out.reads HB0.out (by omega)).mono ?_
        rintro e w6 ⟨⟨ya, yn, yc, rfl, hy⟩, hb⟩
        have HY := Lib.hid hy
        have HX := Lib.hid (HX.out.below hb)
        have HB := Lib.hid (HB.out.trans (hb.mono HB.out.size))
        clear hb
        rw [HM.out] at HY ⊢
        dsimp only at HY ⊢
        clear hy HO4 HO5
        go_wp2
        go_ret
        exact ⟨rfl, HB.out⟩
end Go.Proofs.Ytojphfkiblhhiaa
