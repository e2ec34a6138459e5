/-
  THE REFERENCE's Short, Digits, Limbs, Cut, May.
-/
import Derived.Test.YtanimenpkinapaaRows
import Derived.Test.YtanimenpkinapaaRef0
import Derived.WalkKit
import Derived.Deep.QuietTactic
import Derived.BigQuiet
import Derived.BigRegion
import Derived.Outline
import Derived.Lib.Hide
namespace Go.Proofs.Ytanimenpkinapaa
open Go.RowKit
namespace rf

theorem info32 : (Try.prog.info? 54).map (fun i => (i.zero, i.size, i.bytes)) = some (some (.int .u32 0), 1, 4) := by kernel_rfl
theorem infoI : (Try.prog.info? 3).map (fun i => (i.zero, i.size, i.bytes)) = some (some (.int .i64 0), 1, 8) := by kernel_rfl

def RetsQ (q : IntKind) (E : TypeId) (B : Nat) (w' : World) (l : List Nat) (e : Ending) : Prop := ∃ v, e = .returned v ∧ OwnQ q E B w' v l
def RetsQ2 (q : IntKind) (E : TypeId) (B : Nat) (w' : World) (r : List Nat × Int) (e : Ending) : Prop := ∃ v, e = .returned (.tuple #[v, .int .i64 r.2]) ∧ OwnQ q E B w' v r.1

theorem own_slice {q : IntKind} {E : TypeId} {B : Nat} {w : World} {v : Value} {l : List Nat} (h : OwnQ q E B w v l) : ∃ a n cap, v = .slice a n cap ∧ n = l.length ∧ OwnQ q E B w (.slice a n cap) l := by
  obtain ⟨a, cap, rfl, _, _⟩ := h.form
  exact ⟨a, _, cap, rfl, rfl, h⟩

def lenOf : Value → Nat
  | .slice _ n _ => n
  | _ => 0

theorem bareN_len {l : List Nat} {k : Nat} (hk : k ≤ l.length) (h : bareN l = l.take k) : k = (bareN l).length := by
  rw [h, List.length_take]; omega

set_option maxHeartbeats 400000 in
theorem short_any (a : Option Addr) (len cap : Nat) (l : List Nat) (w : World) (h : Reads .i64 w a len cap l) (n : Nat) (hn : n = (bareN l).length) :
    Calls Try.prog 47 #[.slice a len cap] w fun e w' => e = .returned (.slice a n cap) ∧ w = w' := by
  have hm := h.len_le
  unfold maxLen at hm
  have hcm := h.max
  unfold maxLen at hcm
  have hle := h.le
  have hl := Lib.hid h.length
  have H := Lib.hid h
  have HN := Lib.hid hn
  clear hn h
  go_enter Try.func47, Try.ntmps47
  go_wp2
  go_loop [3] (fun v => ∃ k : Nat, k ≤ len ∧ v = .int .i64 k ∧ Hid (bareN l = bareN (l.take k))) (fun v => (intOf v).toNat)
  case atStart => exact ⟨len, Nat.le_refl _, rfl, by unfold Hid; rw [List.take_of_length_le (by rw [hl.out]; exact Nat.le_refl _)]⟩
  case round =>
    obtain ⟨k, hk, rfl, hrest⟩ := hrel
    rcases Nat.eq_zero_or_pos k with rfl | hp
    · go_wp2
      go_ret
      have e : (0 : Nat) = n := by rw [HN.out, hrest.out]; rfl
      exact ⟨by rw [← e]; rfl, rfl⟩
    · obtain ⟨j, rfl⟩ : ∃ j, k = j + 1 := ⟨k - 1, by omega⟩
      clear hp
      obtain ⟨b, off, rfl, hbl, hc⟩ := H.out.cells (by omega)
      have hcj := hc j (by omega)
      have hst := Lib.hid (bareN_step l j (by have := hl.out; omega))
      clear hc
      generalize l[j]?.getD 0 = x at *
      by_cases hx0 : x = 0
      · subst hx0
        go_wp2
        go_round
        case rel => exact ⟨j, by omega, by go_num, by have := hst.out; rw [if_pos rfl] at this; unfold Hid; rw [hrest.out, this]⟩
        case measure => simp [intOf]
      · have hx1 : ((x : Int) == 0) = false := by simp; omega
        have e : j + 1 = n := by
          have := hst.out
          rw [if_neg hx0] at this
          rw [HN.out]
          exact bareN_len (by have := hl.out; omega) (by rw [hrest.out, this])
        have E := Lib.hid e
        clear e
        go_wp2
        go_ret
        exact ⟨by rw [← E.out]; rfl, rfl⟩

set_option maxRecDepth 100000 in
set_option maxHeartbeats 1000000 in
theorem digits_any (a : Option Addr) (len cap : Nat) (l : List Nat) (w : World) (h : Reads .u32 w a len cap l) (hL : Lim l) (hm : len ≤ 1000000000000) :
    Calls Try.prog 14 #[.slice a len cap] w fun e w' => RetsQ .i64 3 w.heap.size w' (natB 256 (val32 l)) e ∧ Below w.heap.size w w' := by
  obtain ⟨i0, hi, hz0, hz1, hz2⟩ := info_parts infoI
  have HR := Lib.hid h
  have HM := Lib.hid h.length
  have HL := Lib.hid hL
  have HF := Lib.hid (fours_val hL)
  clear h hL
  go_enter Try.func14, Try.ntmps14
  go_wp2
  go_loopw [3, 4] (fun v i wr => ∃ k : Nat, k ≤ len ∧ i = .int .i64 k ∧ OwnQ .i64 3 w.heap.size wr v (fours (l.take k)) ∧ Hid (Below w.heap.size w wr)) (fun _ i _ => len - (intOf i).toNat)
  case atStart => exact ⟨0, Nat.zero_le _, rfl, OwnQ.nil _ _ _ _, Below.refl _ _⟩
  case round =>
    obtain ⟨k, hk, rfl, hown, hb⟩ := hrel
    obtain ⟨wo, rfl⟩ : ∃ wo : World, wo = wr := ⟨_, rfl⟩
    obtain ⟨v1, n1, c1, rfl, -, hown⟩ := own_slice hown
    by_cases hlt : k < len
    · obtain ⟨b, off, rfl, hbl, hc⟩ := (HR.out.below hb.out).cells (by omega)
      have hck := hc k hlt
      have hst := Lib.hid (fours_snoc l k (by rw [HM.out]; exact hlt))
      have hlen := fours_len (l.take k)
      rw [List.length_take, HM.out, Nat.min_eq_left (by omega)] at hlen
      have HLN := Lib.hid hlen
      have hd := get_lt (by decide) HL.out k
      clear hc hlen
      generalize l[k]?.getD 0 = d at *
      have HO1 := Lib.hid hown
      clear hown
      go_wp2
      go_loopw [3, 5, 6] (fun v x i wr => ∃ j y : Nat, j ≤ 4 ∧ i = .int .i64 j ∧ x = .int .i64 (y : Int) ∧ y < 4294967296 ∧ Hid (y = d / 256 ^ j) ∧ OwnQ .i64 3 w.heap.size wr v (fours (l.take k) ++ (four d).take j) ∧ Hid (Below w.heap.size w wr)) (fun _ _ i _ => 4 - (intOf i).toNat)
      case atStart => exact ⟨0, d, by omega, rfl, rfl, hd, by simp [Hid], by simpa using HO1.out, hb.out⟩
      case round =>
        obtain ⟨j, y, hj, rfl, rfl, hy, hyd, hown, hb2⟩ := hrel
        obtain ⟨v2, n2, c2, rfl, -, hown⟩ := own_slice hown
        by_cases hj4 : j < 4
        · have hsz := hb2.out.size
          have HO2 := Lib.hid hown
          have hft := Lib.hid (four_take d j hj4)
          have hlen2 := Lib.hid (show (fours (l.take k) ++ (four d).take j).length ≤ 4 * k + 4 by rw [List.length_append, HLN.out, List.length_take]; omega)
          clear hown
          go_wp2_with (at_builtin; refine wpList_append_q .i64 _ rfl _ _ 33 rfl w.heap.size 3 8 i0 Try.underlying33 hi hz0 hz1 hz2 (by decide) _ (fours (l.take k) ++ (four d).take j) rfl (HO2.out.alloc _) _ _ _ [y % 256] rfl (Reads.one .i64 _ _ _ _ (by omega)) (by have := hlen2.out; omega) (by simp; omega) ?_; intro v' w2 hown2 hgrow)
          go_roundw
          case rel =>
            refine ⟨j + 1, y / 256, by omega, by go_num, by go_num, by omega, ?_, ?_, hgrow _ (hb2.out.alloc hsz _)⟩
            · unfold Hid; rw [hyd.out, Nat.div_div_eq_div_mul, Nat.pow_succ]
            · rw [hft.out, ← List.append_assoc, ← hyd.out]; exact hown2
          case measure => simp [intOf] <;> omega
        · obtain rfl : j = 4 := by omega
          go_wp2
          go_roundw
          case rel => exact ⟨k + 1, by omega, by go_num, by rw [hst.out]; exact hown, hb2.out⟩
          case measure => simp [intOf] <;> omega
    · obtain rfl : k = len := by omega
      rw [List.take_of_length_le (by rw [HM.out]; exact Nat.le_refl _)] at hown
      have HN1 := Lib.hid (show n1 = (fours l).length from hown.cap.1)
      have hbf := bareN_le (fours l)
      have HP := Lib.hid (bareN_prefix (fours l))
      have HE := Lib.hid (bareN_eq (b := 256) (by decide) (fours_byt l))
      have HS := Lib.hid (short_any _ _ _ _ wo hown.reads _ rfl)
      have ho2 := Lib.hid (hown.upto (bareN (fours l)).length (by rw [HN1.out]; exact hbf))
      rw [← HP.out] at ho2
      clear hown hbf
      go_wp2_with fail
      refine HS.out.mono ?_
      rintro e w3 ⟨rfl, rfl⟩
      go_wp2
      go_ret
      have e : natB 256 (val32 l) = bareN (fours l) := by rw [HE.out, HF.out]
      exact ⟨⟨_, rfl, by rw [e]; exact ho2.out⟩, hb.out⟩

set_option maxRecDepth 100000 in
set_option maxHeartbeats 2000000 in
theorem limbs_any (a : Option Addr) (len cap : Nat) (l : List Nat) (w : World) (h : Reads .i64 w a len cap l) (hL : Byt l) (hm : len ≤ 1000000000000) :
    Calls Try.prog 24 #[.slice a len cap] w fun e w' => RetsQ .u32 54 w.heap.size w' (nat32 (valB 256 l)) e ∧ Below w.heap.size w w' := by
  obtain ⟨i0, hi, hz0, hz1, hz2⟩ := info_parts info32
  have HS := Lib.hid (short_any a len cap l w h _ rfl)
  have hbl := bareN_le l
  rw [h.length] at hbl
  have hr := h.upto (bareN l).length (by rw [← h.length]; exact bareN_le l)
  rw [← bareN_prefix] at hr
  have hend := limbs_end (m := bareN l) (valB 256 l) (bareN_eq (by decide) hL)
  have hBm : Byt (bareN l) := fun x hx => hL x (bareN_mem hx)
  clear h hL
  generalize bareN l = m at *
  generalize hMM : m.length = M at *
  have HM := Lib.hid hMM
  have HR := Lib.hid hr
  have HB := Lib.hid hBm
  have HE := Lib.hid hend
  clear hMM hr hBm hend
  go_enter Try.func24, Try.ntmps24
  go_wp2_with fail
  refine HS.out.mono ?_
  rintro e w1 ⟨rfl, rfl⟩
  go_wp2
  go_loopw [3, 4] (fun v i wr => ∃ t : Nat, 4 * t ≤ M + 3 ∧ i = .int .i64 (4 * (t : Int)) ∧ OwnQ .u32 54 w.heap.size wr v (limbsOf m t) ∧ Hid (Below w.heap.size w wr)) (fun _ i _ => M + 4 - (intOf i).toNat)
  case atStart => exact ⟨0, by omega, rfl, OwnQ.nil _ _ _ _, Below.refl _ _⟩
  case round =>
    obtain ⟨t, ht, rfl, hown, hb⟩ := hrel
    obtain ⟨wo, rfl⟩ : ∃ wo : World, wo = wr := ⟨_, rfl⟩
    obtain ⟨v1, n1, c1, rfl, -, hown⟩ := own_slice hown
    by_cases hlt : 4 * t < M
    · obtain ⟨b, off, rfl, hbl2, hc⟩ := (HR.out.below hb.out).cells (by omega)
      have hd0 := get_lt (by decide) HB.out (4 * t)
      have hd1 := get_lt (by decide) HB.out (4 * t + 1)
      have hd2 := get_lt (by decide) HB.out (4 * t + 2)
      have hd3 := get_lt (by decide) HB.out (4 * t + 3)
      have hla := Lib.hid (show limbAt m t = _ from rfl)
      unfold limbAt at hla
      have c0 := hc (4 * t) hlt
      have c1' : 4 * t + 1 < M → wo.cell? ⟨b, off + (4 * t + 1), none⟩ = some (.int .i64 ((m[4 * t + 1]?.getD 0 : Nat) : Int)) := fun h => hc _ h
      have c2' : 4 * t + 2 < M → wo.cell? ⟨b, off + (4 * t + 2), none⟩ = some (.int .i64 ((m[4 * t + 2]?.getD 0 : Nat) : Int)) := fun h => hc _ h
      have c3' : 4 * t + 3 < M → wo.cell? ⟨b, off + (4 * t + 3), none⟩ = some (.int .i64 ((m[4 * t + 3]?.getD 0 : Nat) : Int)) := fun h => hc _ h
      have z1 : ¬ 4 * t + 1 < M → m[4 * t + 1]?.getD 0 = 0 := fun h => by rw [List.getElem?_eq_none (by rw [HM.out]; omega)]; rfl
      have z2 : ¬ 4 * t + 2 < M → m[4 * t + 2]?.getD 0 = 0 := fun h => by rw [List.getElem?_eq_none (by rw [HM.out]; omega)]; rfl
      have z3 : ¬ 4 * t + 3 < M → m[4 * t + 3]?.getD 0 = 0 := fun h => by rw [List.getElem?_eq_none (by rw [HM.out]; omega)]; rfl
      have hls := Lib.hid (limbsOf_succ m t)
      have hll := Lib.hid (limbsOf_length m t)
      have HLA := Lib.hid (show limbAt m t = (m[4 * t]?.getD 0) + 256 * (m[4 * t + 1]?.getD 0) + 65536 * (m[4 * t + 2]?.getD 0) + 16777216 * (m[4 * t + 3]?.getD 0) from rfl)
      clear hc hla
      generalize m[4 * t]?.getD 0 = d0 at *
      generalize m[4 * t + 1]?.getD 0 = d1 at *
      generalize m[4 * t + 2]?.getD 0 = d2 at *
      generalize m[4 * t + 3]?.getD 0 = d3 at *
      have HO1 := Lib.hid hown
      have C1 := Lib.hid c1'
      have C2 := Lib.hid c2'
      have C3 := Lib.hid c3'
      have Z1 := Lib.hid z1
      have Z2 := Lib.hid z2
      have Z3 := Lib.hid z3
      clear hown c1' c2' c3' z1 z2 z3
      go_wp2
      go_loop [5, 6] (fun x k => (k = .int .i64 3 ∧ x = .int .i64 0) ∨ (k = .int .i64 2 ∧ x = .int .i64 (d3 : Int)) ∨ (k = .int .i64 1 ∧ x = .int .i64 ((256 * d3 + d2 : Nat) : Int)) ∨ (k = .int .i64 0 ∧ x = .int .i64 ((256 * (256 * d3 + d2) + d1 : Nat) : Int)) ∨ (k = .int .i64 (-1) ∧ x = .int .i64 ((256 * (256 * (256 * d3 + d2) + d1) + d0 : Nat) : Int))) (fun _ k => (intOf k + 1).toNat)
      case atStart => exact .inl ⟨rfl, rfl⟩
      case round =>
        rcases hrel with ⟨rfl, rfl⟩ | ⟨rfl, rfl⟩ | ⟨rfl, rfl⟩ | ⟨rfl, rfl⟩ | ⟨rfl, rfl⟩
        · by_cases hin : 4 * t + 3 < M
          · have hcc := C3.out hin
            go_wp2
            go_round
            case rel => exact .inr (.inl ⟨rfl, by congr 1 <;> omega⟩)
            case measure => simp [intOf]
          · have hz := Z3.out hin
            subst hz
            go_wp2
            go_round
            case rel => exact .inr (.inl ⟨rfl, by congr 1 <;> omega⟩)
            case measure => simp [intOf]
        · by_cases hin : 4 * t + 2 < M
          · have hcc := C2.out hin
            go_wp2
            go_round
            case rel => exact .inr (.inr (.inl ⟨rfl, by congr 1 <;> omega⟩))
            case measure => simp [intOf]
          · have hz := Z2.out hin
            subst hz
            go_wp2
            go_round
            case rel => exact .inr (.inr (.inl ⟨rfl, by congr 1 <;> omega⟩))
            case measure => simp [intOf]
        · by_cases hin : 4 * t + 1 < M
          · have hcc := C1.out hin
            go_wp2
            go_round
            case rel => exact .inr (.inr (.inr (.inl ⟨rfl, by congr 1 <;> omega⟩)))
            case measure => simp [intOf]
          · have hz := Z1.out hin
            subst hz
            go_wp2
            go_round
            case rel => exact .inr (.inr (.inr (.inl ⟨rfl, by congr 1 <;> omega⟩)))
            case measure => simp [intOf]
        · go_wp2
          go_round
          case rel => exact .inr (.inr (.inr (.inr ⟨rfl, by congr 1 <;> omega⟩)))
          case measure => simp [intOf]
        · go_wp2_with (at_builtin; refine wpList_append_q .u32 _ rfl _ _ 23 rfl w.heap.size 54 4 i0 Try.underlying23 hi hz0 hz1 hz2 (by decide) _ (limbsOf m t) rfl (HO1.out.alloc _) _ _ _ [256 * (256 * (256 * d3 + d2) + d1) + d0] rfl (Reads.one .u32 _ _ _ _ (by omega)) (by have := hll.out; omega) (by have := hb.out.size; simp; omega) ?_; intro v' w2 hown2 hgrow)
          go_roundw
          case rel =>
            refine ⟨t + 1, by omega, by congr 1 <;> omega, ?_, hgrow _ (hb.out.alloc hb.out.size _)⟩
            rw [hls.out, HLA.out, show d0 + 256 * d1 + 65536 * d2 + 16777216 * d3 = 256 * (256 * (256 * d3 + d2) + d1) + d0 by omega]
            exact hown2
          case measure => simp [intOf] <;> omega
    · have et : t = (M + 3) / 4 := by omega
      have ET := Lib.hid et
      clear et
      go_wp2
      go_ret
      rw [ET.out, HE.out] at hown
      exact ⟨⟨_, rfl, hown⟩, hb.out⟩

end rf

end Go.Proofs.Ytanimenpkinapaa
