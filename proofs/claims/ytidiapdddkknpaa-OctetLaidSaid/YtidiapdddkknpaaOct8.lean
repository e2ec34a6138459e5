/-
  WALKS OF OCTET's Cut, OF THE REFERENCE's, AND OF ITS Lists.
-/
import Derived.Test.YtidiapdddkknpaaOct7
namespace Go.Proofs.Ytidiapdddkknpaa
open Go.RowKit

theorem Try.infoS : (Try.prog.info? 22).map (fun i => (i.zero, i.size, i.bytes)) = some (some (.slice none 0 0), 1, 24) := by kernel_rfl

set_option maxHeartbeats 1600000 in
theorem cut_any (a : Option Addr) (len cap : Nat) (l : List UInt8) (za : Option Addr) (zl zc : Nat) (zs : List Int) (w : World) (h : Bts w a len cap l) (hz : Nums w za zl zc zs) (hm : len ≤ 140737488355328) (hn : zl ≤ 100000) :
    Calls Try.prog 27 #[.slice a len cap, .slice za zl zc] w fun e w' => RetsCut w.heap.size w' (cutR l zs) e ∧ Below w.heap.size w w' := by
  obtain ⟨i0, hi, hz0, hz1, hz2⟩ := info_parts Try.infoS
  have H := Lib.hid h
  have HZ := Lib.hid hz
  have L := Lib.hid h.length
  have LZ := Lib.hid hz.length
  clear h hz
  go_enter Try.func27, Try.ntmps27
  go_wp2
  go_loop [6, 16] (fun left i => ∃ k : Nat, k ≤ zl ∧ i = .int .i64 k ∧ left = .int .i64 ((restL l (zs.take k)).length : Nat) ∧ Hid (cutOk l zs = cutOk (restL l (zs.take k)) (zs.drop k)) ∧ (restL l (zs.take k)).length ≤ len) (fun _ i => zl - (intOf i).toNat)
  case atStart => exact ⟨0, Nat.zero_le _, rfl, by simp [restL, L.out], by simp [Hid, restL], by simp [restL, L.out]⟩
  case round =>
    obtain ⟨k, hk, rfl, rfl, hok, hle⟩ := hrel
    by_cases hlt : k < zl
    · obtain ⟨b, off, rfl, hbl, hc⟩ := HZ.out.cells (by omega)
      have hck := hc k hlt
      have hst := Lib.hid (restL_step l zs k (by rw [LZ.out]; exact hlt))
      have hos := Lib.hid (cutOk_step (restL l (zs.take k)) zs k (by rw [LZ.out]; exact hlt))
      clear hc
      generalize zs[k]?.getD 0 = z at *
      generalize restL l (zs.take k) = R at *
      generalize hR : R.length = r at *
      have HR := Lib.hid hR
      clear hR
      by_cases h0 : z < 0
      · have hres := Lib.hid (cutR_no (l := l) (z := zs) (by rw [hok.out, hos.out, decide_eq_false (by omega), Bool.false_and]))
        go_wp2
        go_ret2
        exact ⟨RetsCut.no hres.out, Below.refl _ _⟩
      · by_cases h1 : (r : Int) < z
        · have hres := Lib.hid (cutR_no (l := l) (z := zs) (by rw [hok.out, hos.out, decide_eq_false (by omega), Bool.false_and]))
          go_wp2
          go_ret2
          exact ⟨RetsCut.no hres.out, Below.refl _ _⟩
        · obtain ⟨s, rfl⟩ := Int.eq_ofNat_of_zero_le (show 0 ≤ z by omega)
          have hrl : (restL l (zs.take (k + 1))).length = r - s := by rw [hst.out, List.length_drop, HR.out]; rfl
          have HRL := Lib.hid hrl
          clear hrl
          go_wp2
          go_round
          case rel => exact ⟨k + 1, by omega, by go_num, by rw [HRL.out]; go_num, by (unfold Hid; rw [hok.out, hos.out, decide_eq_true (by omega), Bool.true_and, hst.out]), by rw [HRL.out]; omega⟩
          case measure => simp [intOf] <;> omega
    · obtain rfl : k = zl := by omega
      have et : zs.take k = zs := List.take_of_length_le (by rw [LZ.out]; omega)
      have ed : zs.drop k = [] := List.drop_eq_nil_of_le (by rw [LZ.out]; omega)
      have hok' := Lib.hid (show cutOk l zs = (restL l zs).isEmpty by rw [hok.out, et, ed]; rfl)
      rw [et] at hle ⊢
      clear et ed hok
      by_cases hr : (restL l zs).length = 0
      · have hyes := Lib.hid (show cutOk l zs = true by rw [hok'.out]; simpa using hr)
        have hat := Lib.hid (cutOk_at zs l hyes.out)
        rw [hr]
        clear hr hok' hle
        go_wp2_with (at_make; refine wpList_make_own _ rfl _ _ 46 rfl w.heap.size 22 i0 (.slice none 0 0) 1 Try.underlying46 hi hz0 hz1 _ _ _ k rfl rfl rfl (by rw [hz2]; omega) (by unfold maxLen; omega) (Nat.le_refl _) ?_; intro w1 hown0 hgrow0)
        have hb0 : Below w.heap.size w w1 := (Below.refl _ _).grown hgrow0 (Nat.le_refl _) (fun _ h => by cases h)
        have HO : OwnL 22 5 w.heap.size w1 _ [] := ⟨hown0, fun _ h => by cases h⟩
        clear hgrow0 hown0
        go_loopw [0, 9, 38] (fun bv pv i wr => ∃ (q : Nat) (ba : Option Addr) (bl bc : Nat) (X : List Row2), q ≤ k ∧ i = .int .i64 q ∧ bv = .slice ba bl bc ∧ Hid (Bts w ba bl bc (restL l (zs.take q))) ∧ bl ≤ len ∧ OwnL 22 5 w.heap.size wr pv X ∧ Hid (X.map (·.2.2.2) = partsL l (zs.take q)) ∧ X.length = q ∧ Below w.heap.size w wr) (fun _ _ i _ => k - (intOf i).toNat)
        case atStart => exact ⟨0, a, len, cap, [], Nat.zero_le _, rfl, rfl, H.out, Nat.le_refl _, HO, rfl, rfl, hb0⟩
        case round =>
          obtain ⟨q, ba, bl, bc, X, hq, rfl, rfl, hB, hbl, hO, hX, hXl, hb⟩ := hrel
          have hsz := hb.size
          by_cases hlq : q < k
          · obtain ⟨b, off, rfl, _, hc⟩ := (HZ.out.below hb).cells (by omega)
            have hck := hc q hlq
            have hst := Lib.hid (restL_step l zs q (by rw [LZ.out]; exact hlq))
            have hps := Lib.hid (partsL_step l zs q (by rw [LZ.out]; exact hlq))
            have hzq := hat.out.1 q (by rw [LZ.out]; exact hlq)
            rw [hB.out.length] at hzq
            clear hc
            generalize zs[q]?.getD 0 = z at *
            generalize restL l (zs.take q) = R at *
            obtain ⟨s, rfl⟩ := Int.eq_ofNat_of_zero_le hzq.1
            have hsl : s ≤ bl := by omega
            have hble := hB.out.le
            have hbm := hB.out.max
            unfold maxLen at hbm
            have HT := Lib.hid ((hB.out.below hb).upto s hsl)
            have HF := Lib.hid (hB.out.from s hsl)
            have hps' := Lib.hid (show partsL l (zs.take (q + 1)) = partsL l (zs.take q) ++ [R.take s] from hps.out)
            clear hzq hps
            generalize R.take s = T at *
            go_wp2_with (first | (go_at_call 38; refine (clone_any _ _ _ _ _ HT.out (by omega)).mono ?_; rintro e w2 ⟨⟨v, rfl, ho⟩, hb2⟩; obtain ⟨ya, yc, rfl, hyb, _⟩ := ho.form; have hsz2 := hb2.size; have HOW := Lib.hid ho; have HB2 := Lib.hid hb2; clear ho hb2 hyb) | (at_builtin; (refine wpList_append_row _ rfl _ _ 46 rfl w.heap.size 22 5 (by decide) i0 Try.underlying46 hi hz0 hz1 hz2 _ X rfl ((hO.below HB2.out).below ((Below.refl _ _).alloc (Nat.le_refl _) _)) ⟨w2.heap.size, 0, none⟩ (ya, _, yc, _) rfl (by rw [World.cell?_alloc_at _ _ _ _ rfl]; rfl) ((HOW.out.mono hsz).alloc _) (by omega) (by simp; omega) ?_; intro v' w3 hown3 hgrow3; have hb3 := hgrow3 _ ((hb.trans (HB2.out.mono hsz)).alloc (by omega) _))))
            go_roundw
            case rel => exact ⟨q + 1, _, bl - s, _, X ++ [(ya, T.length, yc, T)], by omega, by go_num, rfl, by (unfold Hid; rw [hst.out]; exact HF.out), by omega, hown3, by (unfold Hid; rw [List.map_append, hX.out, hps'.out]; rfl), by simp [hXl], hb3⟩
            case measure => simp [intOf] <;> omega
          · obtain rfl : q = k := by omega
            go_wp2
            go_ret2
            refine ⟨⟨_, X, by rw [cutR_yes hyes.out]; rfl, hO, ?_⟩, hb⟩
            rw [cutR_yes hyes.out, hX.out, List.take_of_length_le (by rw [LZ.out]; omega)]
      · have hres := Lib.hid (cutR_no (l := l) (z := zs) (by rw [hok'.out]; simpa using hr))
        generalize hx : (restL l zs).length = x at *
        clear hx
        have hx1 : ((x : Int) != 0) = true := by simp; omega
        go_wp2
        go_ret2
        exact ⟨RetsCut.no hres.out, Below.refl _ _⟩

set_option maxHeartbeats 1600000 in
theorem refcut_any (a : Option Addr) (len cap : Nat) (l : List UInt8) (za : Option Addr) (zl zc : Nat) (zs : List Int) (w : World) (h : Bts w a len cap l) (hz : Nums w za zl zc zs) (hm : len ≤ 140737488355328) (hn : zl ≤ 100000) :
    Calls Try.prog 28 #[.slice a len cap, .slice za zl zc] w fun e w' => RetsCut w.heap.size w' (cutR l zs) e ∧ Below w.heap.size w w' := by
  obtain ⟨i0, hi, hz0, hz1, hz2⟩ := info_parts Try.infoS
  obtain ⟨j0, hj, hj0, hj1, hj2⟩ := info_parts Try.info8
  have H := Lib.hid h
  have HZ := Lib.hid hz
  have L := Lib.hid h.length
  have LZ := Lib.hid hz.length
  have hle := h.le
  have hmx := h.max
  unfold maxLen at hmx
  clear h hz
  go_enter Try.func28, Try.ntmps28
  go_wp2
  go_loopw [6, 7, 8] (fun at' pv i wr => ∃ (k : Nat) (p : Nat) (X : List Row2), k ≤ zl ∧ p ≤ len ∧ i = .int .i64 k ∧ at' = .int .i64 p ∧ Hid (restL l (zs.take k) = l.drop p) ∧ Hid (cutOk l zs = cutOk (l.drop p) (zs.drop k)) ∧ OwnL 22 5 w.heap.size wr pv X ∧ Hid (X.map (·.2.2.2) = partsL l (zs.take k)) ∧ X.length = k ∧ Below w.heap.size w wr) (fun _ _ i _ => zl - (intOf i).toNat)
  case atStart => exact ⟨0, 0, [], Nat.zero_le _, Nat.zero_le _, rfl, rfl, by simp [Hid, restL], by simp [Hid], OwnL.nil _ _ _ _, rfl, rfl, Below.refl _ _⟩
  case round =>
    obtain ⟨k, p, X, hk, hp, rfl, rfl, hR, hok, hO, hX, hXl, hb⟩ := hrel
    have hsz := hb.size
    by_cases hlt : k < zl
    · obtain ⟨b, off, rfl, hbl, hc⟩ := HZ.out.cells (by omega)
      have hcw := hc k hlt
      have hck := (hb.cell (p := ⟨b, off + k, none⟩) hbl).trans hcw
      have hst := Lib.hid (restL_step l zs k (by rw [LZ.out]; exact hlt))
      have hps := Lib.hid (partsL_step l zs k (by rw [LZ.out]; exact hlt))
      have hos := Lib.hid (cutOk_step (l.drop p) zs k (by rw [LZ.out]; exact hlt))
      have hdl : Hid ((l.drop p).length = len - p) := by unfold Hid; rw [List.length_drop, L.out]
      clear hc
      generalize zs[k]?.getD 0 = z at *
      by_cases h0 : z < 0
      · have hres := Lib.hid (cutR_no (l := l) (z := zs) (by rw [hok.out, hos.out, decide_eq_false (by omega), Bool.false_and]))
        go_wp2
        go_ret2
        exact ⟨RetsCut.no hres.out, hb⟩
      · by_cases h1 : (len : Int) - (p : Int) < z
        · have hres := Lib.hid (cutR_no (l := l) (z := zs) (by rw [hok.out, hos.out, decide_eq_false (by rw [hdl.out]; omega), Bool.false_and]))
          go_wp2
          go_ret2
          exact ⟨RetsCut.no hres.out, hb⟩
        · obtain ⟨s, rfl⟩ := Int.eq_ofNat_of_zero_le (show 0 ≤ z by omega)
          have hsl : p + s ≤ len := by omega
          have HT := Lib.hid ((H.out.below hb).sub p (p + s) (by omega) hsl)
          have hps' := Lib.hid (show partsL l (zs.take (k + 1)) = partsL l (zs.take k) ++ [(l.take (p + s)).drop p] by
            rw [hps.out, hR.out]
            congr 2
            rw [List.drop_take, show p + s - p = s from by omega]
            rfl)
          clear hps
          have hTl : Hid (((l.take (p + s)).drop p).length = s) := by unfold Hid; rw [List.length_drop, List.length_take, L.out]; omega
          generalize (l.take (p + s)).drop p = T at *
          go_wp2_with (first | (at_builtin; (refine wpList_append_bts _ rfl (.tmp 32) (.tmp 41) 22 rfl wr.heap.size 5 j0 Try.underlying22 hj hj0 hj1 hj2 _ [] rfl (Own8.nil _ _ _) _ _ _ T rfl HT.out (by simp; omega) (by omega) ?_; intro v2 w2 hown2 hgrow2; obtain ⟨ya, yc, rfl, hyb, _⟩ := hown2.form; have HB2 := Lib.hid (hgrow2 _ (Below.refl _ _)); have hsz2 := HB2.out.size; have HOW := Lib.hid hown2; clear hown2 hgrow2 hyb)) | (at_builtin; (refine wpList_append_row _ rfl (.tmp 43) (.tmp 45) 46 rfl w.heap.size 22 5 (by decide) i0 Try.underlying46 hi hz0 hz1 hz2 _ X rfl ((hO.below HB2.out).below ((Below.refl _ _).alloc (Nat.le_refl _) _)) ⟨w2.heap.size, 0, none⟩ (ya, _, yc, _) rfl (by rw [World.cell?_alloc_at _ _ _ _ rfl]; rfl) ((HOW.out.mono hsz).alloc _) (by omega) (by simp; omega) ?_; intro v' w3 hown3 hgrow3; have hb3 := hgrow3 _ ((hb.trans (HB2.out.mono hsz)).alloc (by omega) _); have hck3 := (hb3.cell (p := ⟨b, off + k, none⟩) hbl).trans hcw)))
          go_roundw
          case rel => exact ⟨k + 1, p + s, X ++ [(ya, T.length, yc, T)], by omega, hsl, by go_num, by go_num, by (unfold Hid; rw [hst.out, hR.out, List.drop_drop]; rfl), by (unfold Hid; rw [hok.out, hos.out, decide_eq_true (by rw [hdl.out]; omega), Bool.true_and, List.drop_drop]; rfl), hown3, by (unfold Hid; rw [List.map_append, hX.out, hps'.out]; rfl), by simp [hXl], hb3⟩
          case measure => simp [intOf] <;> omega
    · obtain rfl : k = zl := by omega
      have et : zs.take k = zs := List.take_of_length_le (by rw [LZ.out]; omega)
      have ed : zs.drop k = [] := List.drop_eq_nil_of_le (by rw [LZ.out]; omega)
      have hok' := Lib.hid (show cutOk l zs = (l.drop p).isEmpty by rw [hok.out, ed]; rfl)
      have hX' := Lib.hid (show X.map (·.2.2.2) = partsL l zs by rw [hX.out, et])
      clear et ed hok hX hR
      by_cases hr : p = len
      · subst hr
        have hyes := Lib.hid (cutR_yes (l := l) (z := zs) (by rw [hok'.out, List.drop_eq_nil_of_le (by rw [L.out]; omega)]; rfl))
        clear hok'
        go_wp2
        go_ret2
        exact ⟨⟨_, X, by rw [hyes.out]; rfl, hO, by rw [hyes.out, hX'.out]⟩, hb⟩
      · have hres := Lib.hid (cutR_no (l := l) (z := zs) (by
          rw [hok'.out]
          have h5 : (l.drop p).length ≠ 0 := by rw [List.length_drop, L.out]; omega
          cases h6 : l.drop p with
          | nil => rw [h6] at h5; simp at h5
          | cons => rfl))
        have hne : ((p : Int) != (len : Int)) = true := by simp; omega
        clear hok'
        go_wp2
        go_ret2
        exact ⟨RetsCut.no hres.out, hb⟩

end Go.Proofs.Ytidiapdddkknpaa
