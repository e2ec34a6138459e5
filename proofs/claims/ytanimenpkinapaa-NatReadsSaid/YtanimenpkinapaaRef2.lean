/-
  THE REFERENCE's Cut, May, Bytes, Bit, Bits.
-/
import Derived.Test.YtanimenpkinapaaRef1
namespace Go.Proofs.Ytanimenpkinapaa
open Go.RowKit
namespace rf

set_option maxHeartbeats 400000 in
theorem cut_any (a : Option Addr) (len cap : Nat) (l : List Nat) (w : World) (h : Reads .i64 w a len cap l) (hL : Byt l) :
    Calls Try.prog 13 #[.slice a len cap] w fun e w' => RetsQ2 .u32 54 w.heap.size w' (cutR32 (valB 256 l)) e ∧ Below w.heap.size w w' := by
  have HS := Lib.hid (short_any a len cap l w h _ rfl)
  have hmx := h.len_le
  unfold maxLen at hmx
  have hbl := bareN_le l
  rw [h.length] at hbl
  have hr := h.upto (bareN l).length (by rw [← h.length]; exact bareN_le l)
  rw [← bareN_prefix] at hr
  have hci := cut_iff8 l hL
  have HV := Lib.hid (bareN_val 256 l)
  have hBm : Byt (bareN l) := fun x hx => hL x (bareN_mem hx)
  clear h hL
  generalize bareN l = m at *
  have HR := Lib.hid hr
  clear hr
  by_cases hc : m.length ≤ 1024
  · have hres := Lib.hid (show cutR32 (valB 256 l) = (nat32 (valB 256 l), 0) from cutR_small (hci.1 hc))
    have hdec : decide ((1024 : Int) < (m.length : Int)) = false := by simp; omega
    have HB := Lib.hid (limbs_any a m.length cap m w HR.out hBm (by omega))
    rw [HV.out] at HB
    clear hci hBm
    go_enter Try.func13, Try.ntmps13
    go_wp2_with fail
    refine HS.out.mono ?_
    rintro e w1 ⟨rfl, rfl⟩
    go_wp2_with fail
    refine HB.out.mono ?_
    rintro e w2 ⟨⟨v, rfl, ho⟩, hb⟩
    go_wp2
    go_ret2
    exact ⟨⟨_, by rw [hres.out]; rfl, by rw [hres.out]; exact ho⟩, hb⟩
  · have hres := Lib.hid (show cutR32 (valB 256 l) = ([], 20) from cutR_large (fun h => hc (hci.2 h)))
    have hdec : decide ((1024 : Int) < (m.length : Int)) = true := by simp; omega
    clear hci hBm
    go_enter Try.func13, Try.ntmps13
    go_wp2_with fail
    refine HS.out.mono ?_
    rintro e w1 ⟨rfl, rfl⟩
    go_wp2
    go_ret2
    exact ⟨⟨_, by rw [hres.out]; rfl, by rw [hres.out]; exact OwnQ.nil _ _ _ _⟩, Below.refl _ _⟩

theorem nat256_le (v : Nat) : (natB 256 v).length ≤ 1024 ↔ v < topN := by rw [natB_length (by decide), topN_256]

set_option maxHeartbeats 400000 in
theorem may_any (a a' : Option Addr) (n c n' c' : Nat) (l l' : List Nat) (w : World) (h : Reads .u32 w a n c l) (h' : Reads .u32 w a' n' c' l') (hL : Lim l) (hL' : Lim l') (hm : n ≤ 1000000000000) (hm' : n' ≤ 1000000000000) (r : Bool) (hr : r = decide (val32 l < topN ∧ val32 l' < topN)) :
    Calls Try.prog 53 #[.slice a n c, .slice a' n' c'] w fun e w' => e = .returned (.bool r) ∧ Below w.heap.size w w' := by
  have HD := Lib.hid (digits_any a n c l w h hL hm)
  have HR := Lib.hid h'
  have HL := Lib.hid hL'
  have hx := nat256_le (val32 l)
  have hy := nat256_le (val32 l')
  have HRR := Lib.hid hr
  clear h h' hL hL' hr
  by_cases hc : (natB 256 (val32 l)).length ≤ 1024
  · by_cases hc' : (natB 256 (val32 l')).length ≤ 1024
    · have hrt := Lib.hid (show r = true by rw [HRR.out, decide_eq_true_iff]; exact ⟨hx.1 hc, hy.1 hc'⟩)
      clear hx hy
      go_enter Try.func53, Try.ntmps53
      go_wp2_with fail
      refine HD.out.mono ?_
      rintro e w1 ⟨⟨v, rfl, ho⟩, hb⟩
      obtain ⟨a1, n1, c1, rfl, hn1, -⟩ := own_slice ho
      rw [← hn1] at hc
      have HB := Lib.hid hb
      clear hn1 ho hb
      go_wp2_with fail
      refine (digits_any a' n' c' l' _ (HR.out.below HB.out) HL.out hm').mono ?_
      rintro e w2 ⟨⟨v, rfl, ho⟩, hb⟩
      obtain ⟨a2, n2, c2, rfl, hn2, -⟩ := own_slice ho
      rw [← hn2] at hc'
      have HB2 := Lib.hid (HB.out.trans (hb.mono HB.out.size))
      clear hn2 ho hb
      go_wp2
      go_ret
      exact ⟨by rw [hrt.out]; show Ending.returned (.bool (decide ((n2 : Int) ≤ 1024))) = _; rw [decide_eq_true (by omega)], HB2.out⟩
    · have hrt := Lib.hid (show r = false by rw [HRR.out, decide_eq_false (fun h => hc' (hy.2 h.2))])
      clear hx hy
      go_enter Try.func53, Try.ntmps53
      go_wp2_with fail
      refine HD.out.mono ?_
      rintro e w1 ⟨⟨v, rfl, ho⟩, hb⟩
      obtain ⟨a1, n1, c1, rfl, hn1, -⟩ := own_slice ho
      rw [← hn1] at hc
      have HB := Lib.hid hb
      clear hn1 ho hb
      go_wp2_with fail
      refine (digits_any a' n' c' l' _ (HR.out.below HB.out) HL.out hm').mono ?_
      rintro e w2 ⟨⟨v, rfl, ho⟩, hb⟩
      obtain ⟨a2, n2, c2, rfl, hn2, -⟩ := own_slice ho
      rw [← hn2] at hc'
      have hc2 : 1024 < n2 := by omega
      have HB2 := Lib.hid (HB.out.trans (hb.mono HB.out.size))
      clear hn2 ho hb hc'
      go_wp2
      go_ret
      exact ⟨by rw [hrt.out]; show Ending.returned (.bool (decide ((n2 : Int) ≤ 1024))) = _; rw [decide_eq_false (by omega)], HB2.out⟩
  · have hrt := Lib.hid (show r = false by rw [HRR.out, decide_eq_false (fun h => hc (hx.2 h.1))])
    clear hx hy
    go_enter Try.func53, Try.ntmps53
    go_wp2_with fail
    refine HD.out.mono ?_
    rintro e w1 ⟨⟨v, rfl, ho⟩, hb⟩
    obtain ⟨a1, n1, c1, rfl, hn1, -⟩ := own_slice ho
    rw [← hn1] at hc
    have hc2 : 1024 < n1 := by omega
    have HB := Lib.hid hb
    clear hn1 ho hb hc
    go_wp2
    go_ret
    exact ⟨by rw [hrt.out]; rfl, HB.out⟩

theorem info8 : (Try.prog.info? 5).map (fun i => (i.zero, i.size, i.bytes)) = some (some (.int .u8 0), 1, 1) := by kernel_rfl

theorem down_start (m : Nat) : (∃ j : Nat, Value.int IntKind.i64 ((m : Int) - 1) = .int .i64 j ∧ j + 0 + 1 = m) ∨ (Value.int IntKind.i64 ((m : Int) - 1) = .int .i64 (-1) ∧ 0 = m) := by
  rcases Nat.eq_zero_or_pos m with h | h
  · exact .inr ⟨by rw [h]; rfl, h.symm⟩
  · exact .inl ⟨m - 1, by congr 1; omega, by omega⟩
theorem down_next {j k m : Nat} (h : j + k + 1 = m) : (∃ i : Nat, Value.int IntKind.i64 ((j : Int) - 1) = .int .i64 i ∧ i + (k + 1) + 1 = m) ∨ (Value.int IntKind.i64 ((j : Int) - 1) = .int .i64 (-1) ∧ k + 1 = m) := by
  rcases Nat.eq_zero_or_pos j with e | e
  · exact .inr ⟨by rw [e]; rfl, by omega⟩
  · exact .inl ⟨j - 1, by congr 1; omega, by omega⟩

theorem rev_succ (l : List Nat) (j k : Nat) (h : j + k + 1 = l.length) : l.reverse.take (k + 1) = l.reverse.take k ++ [l[j]?.getD 0] := by
  rw [take_snocN _ _ (by simp; omega), List.getElem?_reverse (by omega)]
  congr 4
  omega

set_option maxRecDepth 100000 in
set_option maxHeartbeats 1000000 in
theorem bytes_any (a : Option Addr) (len cap : Nat) (l : List Nat) (w : World) (h : Reads .u32 w a len cap l) (hL : Lim l) (hm : len ≤ 1000000000000) :
    Calls Try.prog 23 #[.slice a len cap] w fun e w' => RetsQ .u8 5 w.heap.size w' (natB 256 (val32 l)).reverse e ∧ Below w.heap.size w w' := by
  obtain ⟨i0, hi, hz0, hz1, hz2⟩ := info_parts info8
  have HD := Lib.hid (digits_any a len cap l w h hL hm)
  have hlb : (natB 256 (val32 l)).length ≤ 4 * len := by
    rw [natB_length (by decide), ← pow32, ← h.length]
    exact valB_lt (by decide) hL
  have hbt : Byt (natB 256 (val32 l)) := natB_digit (by decide) _
  clear h hL
  generalize natB 256 (val32 l) = m at *
  have HBT := Lib.hid hbt
  clear hbt
  go_enter Try.func23, Try.ntmps23
  go_wp2_with fail
  refine HD.out.mono ?_
  rintro e w1 ⟨⟨v, rfl, ho⟩, hb⟩
  obtain ⟨a1, n1, c1, rfl, hn1, ho1⟩ := own_slice ho
  have HN := Lib.hid hn1
  have HRD := Lib.hid ho1.reads
  have HB := Lib.hid hb
  have hn4 : n1 ≤ 4000000000000 := by omega
  clear ho hn1 ho1 hb hlb
  go_wp2
  go_loopw [4, 5] (fun v i wr => ∃ k : Nat, ((∃ j : Nat, i = .int .i64 j ∧ j + k + 1 = n1) ∨ (i = .int .i64 (-1) ∧ k = n1)) ∧ OwnQ .u8 5 w1.heap.size wr v (m.reverse.take k) ∧ Hid (Below w1.heap.size w1 wr)) (fun _ i _ => (intOf i + 1).toNat)
  case atStart => exact ⟨0, down_start n1, by simpa using OwnQ.nil _ _ _ _, Below.refl _ _⟩
  case round =>
    obtain ⟨k, hj, hown, hbel⟩ := hrel
    obtain ⟨v2, n2, c2, rfl, -, hown⟩ := own_slice hown
    rcases hj with ⟨j, rfl, hjk⟩ | ⟨rfl, hkn⟩
    · obtain ⟨b, off, rfl, hbk, hc⟩ := (HRD.out.below hbel.out).cells (by omega)
      have hck := hc j (by omega)
      have hd := get_lt (by decide) HBT.out j
      have hrs := Lib.hid (rev_succ m j k (by rw [← HN.out]; exact hjk))
      have hsz := hbel.out.size
      have HO := Lib.hid hown
      have HJK := Lib.hid hjk
      have hjn : j < n1 := by omega
      have hlen := Lib.hid (show (m.reverse.take k).length ≤ n1 by rw [List.length_take, List.length_reverse, ← HN.out]; omega)
      clear hc hown hjk
      generalize m[j]?.getD 0 = d at *
      go_wp2_with (at_builtin; refine wpList_append_q .u8 _ rfl _ _ 24 rfl w1.heap.size 5 1 i0 Try.underlying24 hi hz0 hz1 hz2 (by decide) _ (m.reverse.take k) rfl (HO.out.alloc _) _ _ _ [d] rfl (Reads.one .u8 _ _ _ _ rfl) (by have := hlen.out; omega) (by simp; omega) ?_; intro v' w2 hown2 hgrow)
      go_roundw
      case rel => exact ⟨k + 1, down_next HJK.out, by rw [hrs.out]; exact hown2, hgrow _ (hbel.out.alloc hsz _)⟩
      case measure => simp [intOf] <;> omega
    · have hfin := Lib.hid (show m.reverse.take k = m.reverse by rw [List.take_of_length_le]; rw [List.length_reverse, ← HN.out]; omega)
      clear hkn
      go_wp2
      go_ret
      rw [hfin.out] at hown
      exact ⟨⟨_, rfl, hown.mono HB.out.size⟩, HB.out.trans (hbel.out.mono HB.out.size)⟩

end rf

end Go.Proofs.Ytanimenpkinapaa
