/- Part of the proofs: what the functions that the law calls do. -/
import Derived.Test.YtpefjkndfifceaaGreatDoorPkb1
import Derived.Test.YtpefjkndfifceaaGreatDoorRows
import Derived.WalkKit
import Derived.Deep.QuietTactic
import Derived.BigQuiet
import Derived.BigRegion
import Derived.Outline
import Derived.Lib.Hide
import Derived.Lib.OwnKind
open Go.Lib renaming hid → zH
open List renaming set_cons_succ → zq3
set_option linter.unusedVariables false
set_option linter.unusedSimpArgs false
namespace Go.Proofs.YtpefjkndfifceaaGreatDoor
open Go.RowKit
namespace rf
abbrev Byt (l : List Nat) : Prop := ∀ x ∈ l, x < 256
theorem get_lt {b : Nat} {l : List Nat} (hb : 0 < b) (h : ∀ x ∈ l, x < b) (k : Nat) : l[k]?.getD 0 < b := by
 by_cases hk : k < l.length
 ·rw [List.getElem?_eq_getElem hk]; exact h _ (List.getElem_mem _)
 ·rw [List.getElem?_eq_none (by omega)]; exact hb
theorem valB_succ {b : Nat} (l : List Nat) (k : Nat) : valB b (l.take (k + 1)) = valB b (l.take k) + b ^ k * (l[k]?.getD 0) := by
 by_cases hk : k < l.length
 ·rw [take_snocN l k hk, valB_snoc, List.length_take, Nat.min_eq_left (by omega)]
 ·rw [List.take_of_length_le (by omega), List.take_of_length_le (by omega), List.getElem?_eq_none (by omega)]; simp
theorem pow32 (t : Nat) : (4294967296 : Nat) ^ t = 256 ^ (4 * t) := by rw [Nat.pow_mul]
theorem bare_len_eq {X : List Nat} (h : (bareN X).length = X.length) : bareN X = X := by
 have := bareN_prefix X
 rw [h, List.take_length] at this
 exact this
theorem bareN_nat {l : List Nat} (h : Lim l) : bareN l = nat32 (val32 l) := bareN_eq (by decide) h
theorem read_end (X m : List Nat) (v : Nat) (hX : Lim X) (hm : m = natB 256 v) (hL : X.length = (m.length + 3) / 4) (hv : val32 X = v) : X = nat32 v := by
 have h1 := bareN_nat hX
 rw [hv] at h1
 have h2 : ∀ k, (nat32 v).length ≤ k ↔ m.length ≤ 4 * k := fun k => by
  rw [hm, natB_length (by decide), natB_length (by decide), pow32]
 have h3 : (bareN X).length = X.length := by
  rw [h1, hL]
  have a := (h2 ((m.length + 3) / 4)).2 (by omega)
  have b := (h2 (nat32 v).length).1 (Nat.le_refl _)
  omega
 rw [← h1, bare_len_eq h3]
def four (d : Nat) : List Nat := [d % 256, d / 256 % 256, d / 65536 % 256, d / 16777216 % 256]
def fours (l : List Nat) : List Nat := l.flatMap four
theorem fours_snoc (l : List Nat) (k : Nat) (hk : k < l.length) : fours (l.take (k + 1)) = fours (l.take k) ++ four (l[k]?.getD 0) := by
 rw [take_snocN l k hk, fours, List.flatMap_append, List.flatMap_singleton]; rfl
theorem fours_val {l : List Nat} (h : Lim l) : valB 256 (fours l) = val32 l := by
 induction l with
 | nil => rfl
 | cons d t ih =>
  have h1 := ih (fun x hx => h x (List.mem_cons_of_mem _ hx))
  have h2 := h d List.mem_cons_self
  rw [fours, List.flatMap_cons, valB_append, show List.flatMap four t = fours t from rfl, h1]
  simp only [four, valB, List.length_cons, List.length_nil, val32]
  omega
theorem fours_byt (l : List Nat) : Byt (fours l) := by
 intro x hx
 obtain ⟨d, _, hd⟩ := List.mem_flatMap.1 hx
 simp only [four, List.mem_cons, List.not_mem_nil, or_false] at hd
 omega
theorem fours_len (l : List Nat) : (fours l).length = 4 * l.length := by
 induction l with
 | nil => rfl
 | cons d t ih => rw [fours, List.flatMap_cons, List.length_append, show List.flatMap four t = fours t from rfl, ih]; simp [four]; omega
theorem four_take (d j : Nat) (h : j < 4) : (four d).take (j + 1) = (four d).take j ++ [d / 256 ^ j % 256] := by
 match j, h with
 | 0, _ => simp [four]
 | 1, _ => simp [four]
 | 2, _ => simp [four]
 | 3, _ => simp [four]
def limbAt (m : List Nat) (t : Nat) : Nat := (m[4 * t]?.getD 0) + 256 * (m[4 * t + 1]?.getD 0) + 65536 * (m[4 * t + 2]?.getD 0) + 16777216 * (m[4 * t + 3]?.getD 0)
def limbsOf (m : List Nat) (k : Nat) : List Nat := (List.range k).map (limbAt m)
theorem limbsOf_succ (m : List Nat) (k : Nat) : limbsOf m (k + 1) = limbsOf m k ++ [limbAt m k] := by rw [limbsOf, List.range_succ, List.map_append]; rfl
theorem limbsOf_length (m : List Nat) (k : Nat) : (limbsOf m k).length = k := by simp [limbsOf]
theorem limbAt_lt {m : List Nat} (h : Byt m) (t : Nat) : limbAt m t < 4294967296 := by
 have h0 := get_lt (by decide) h (4 * t)
 have h1 := get_lt (by decide) h (4 * t + 1)
 have h2 := get_lt (by decide) h (4 * t + 2)
 have h3 := get_lt (by decide) h (4 * t + 3)
 unfold limbAt
 omega
theorem limbsOf_lim {m : List Nat} (h : Byt m) (k : Nat) : Lim (limbsOf m k) := fun x hx => by
 obtain ⟨t, _, rfl⟩ := List.mem_map.1 hx
 exact limbAt_lt h t
theorem limbsOf_val (m : List Nat) (k : Nat) : val32 (limbsOf m k) = valB 256 (m.take (4 * k)) := by
 induction k with
 | zero => simp [limbsOf, valB]
 | succ k ih =>
  have e := limbsOf_succ m k
  simp only [val32] at ih ⊢
  rw [e, valB_snoc, limbsOf_length, ih, show 4 * (k + 1) = 4 * k + 1 + 1 + 1 + 1 by omega, valB_succ, valB_succ, valB_succ, valB_succ, pow32]
  simp only [limbAt, Nat.pow_succ]
  generalize 256 ^ (4 * k) = B
  generalize m[4 * k]?.getD 0 = a
  generalize m[4 * k + 1]?.getD 0 = b
  generalize m[4 * k + 1 + 1]?.getD 0 = c
  generalize m[4 * k + 1 + 1 + 1]?.getD 0 = d
  simp only [Nat.mul_add, Nat.mul_assoc]
  have e1 : B * (256 * b) = B * 256 * b := by rw [Nat.mul_assoc]
  have e2 : B * (65536 * c) = B * (256 * (256 * c)) := by rw [show 65536 * c = 256 * (256 * c) by omega]
  have e3 : B * (16777216 * d) = B * (256 * (256 * (256 * d))) := by rw [show 16777216 * d = 256 * (256 * (256 * d)) by omega]
  omega
theorem limbs_end {m : List Nat} (v : Nat) (hm : m = natB 256 v) : limbsOf m ((m.length + 3) / 4) = nat32 v := by
 have hb : Byt m := by rw [hm]; exact natB_digit (by decide) v
 refine read_end _ m v (limbsOf_lim hb _) hm (limbsOf_length _ _) ?_
 rw [limbsOf_val, List.take_of_length_le (by omega), hm, natB_val (by decide)]
end rf
end Go.Proofs.YtpefjkndfifceaaGreatDoor
namespace Go.Proofs.YtpefjkndfifceaaGreatDoor
open Go.RowKit
namespace rf
theorem info32 : (Tryz.prog.info? 71).map (fun i => (i.zero, i.size, i.bytes)) = some (some (.int .u32 0), 1, 4) := by kernel_rfl
theorem infoI : (Tryz.prog.info? 3).map (fun i => (i.zero, i.size, i.bytes)) = some (some (.int .i64 0), 1, 8) := by kernel_rfl
def RetsQ (q : IntKind) (E : TypeId) (B : Nat) (w' : World) (l : List Nat) (e : Ending) : Prop := ∃ v, e = .returned v ∧ OwnQ q E B w' v l
def RetsQ2 (q : IntKind) (E : TypeId) (B : Nat) (w' : World) (r : List Nat × Int) (e : Ending) : Prop := ∃ v, e = .returned (.tuple #[v, .int .i64 r.2]) ∧ OwnQ q E B w' v r.1
theorem own_slice {q : IntKind} {E : TypeId} {B : Nat} {w : World} {v : Value} {l : List Nat} (h : OwnQ q E B w v l) : ∃ a n cap, v = .slice a n cap ∧ n = l.length ∧ OwnQ q E B w (.slice a n cap) l := by
 obtain ⟨a, cap, rfl, _, _⟩ := h.form
 exact ⟨a, _, cap, rfl, rfl, h⟩
def lenOf : Value → Nat
 | .slice _ n _ => n
 | _ => 0
theorem bareN_len {l : List Nat} {k : Nat} (hk : k ≤ l.length) (h : bareN l = l.take k) : k = (bareN l).length := by
 rw [h, List.length_take]; omega
set_option maxHeartbeats 400000 in
theorem short_any (a : Option Addr) (len cap : Nat) (l : List Nat) (w : World) (h : Reads .i64 w a len cap l) (n : Nat) (hn : n = (bareN l).length) :
  Calls Tryz.prog 130 #[.slice a len cap] w fun e w' => e = .returned (.slice a n cap) ∧ w = w' := by
 have hm := h.len_le
 unfold maxLen at hm
 have hcm := h.max
 unfold maxLen at hcm
 have hle := h.le
 have hl := zH h.length
 have H := zH h
 have HN := zH hn
 clear hn h
 go_enter Tryz.func130, Tryz.ntmps130
 go_wp2
 go_loop [3] (fun v => ∃ k : Nat, k ≤ len ∧ v = .int .i64 k ∧ Hid (bareN l = bareN (l.take k))) (fun v => (intOf v).toNat)
 case atStart => exact ⟨len, Nat.le_refl _, rfl, by unfold Hid; rw [List.take_of_length_le (by rw [hl.out]; exact Nat.le_refl _)]⟩
 case round =>
  obtain ⟨k, hk, rfl, hrest⟩ := hrel
  rcases Nat.eq_zero_or_pos k with rfl | hp
  ·go_wp2
   go_ret
   have e : (0 : Nat) = n := by rw [HN.out, hrest.out]; rfl
   exact ⟨by rw [← e]; rfl, rfl⟩
  ·obtain ⟨j, rfl⟩ : ∃ j, k = j + 1 := ⟨k - 1, by omega⟩
   clear hp
   obtain ⟨b, off, rfl, hbl, hc⟩ := H.out.cells (by omega)
   have hcj := hc j (by omega)
   have hst := zH (bareN_step l j (by have := hl.out; omega))
   clear hc
   generalize l[j]?.getD 0 = x at *
   by_cases hx0 : x = 0
   ·subst hx0
    go_wp2
    go_round
    case rel => exact ⟨j, by omega, by go_num, by have := hst.out; rw [if_pos rfl] at this; unfold Hid; rw [hrest.out, this]⟩
    case measure => simp [intOf]
   ·have hx1 : ((x : Int) == 0) = false := by simp; omega
    have e : j + 1 = n := by
     have := hst.out
     rw [if_neg hx0] at this
     rw [HN.out]
     exact bareN_len (by have := hl.out; omega) (by rw [hrest.out, this])
    have E := zH e
    clear e
    go_wp2
    go_ret
    exact ⟨by rw [← E.out]; rfl, rfl⟩
set_option maxRecDepth 100000 in
set_option maxHeartbeats 1000000 in
theorem digits_any (a : Option Addr) (len cap : Nat) (l : List Nat) (w : World) (h : Reads .u32 w a len cap l) (hL : Lim l) (hm : len ≤ 1000000000000) :
  Calls Tryz.prog 90 #[.slice a len cap] w fun e w' => RetsQ .i64 3 w.heap.size w' (natB 256 (val32 l)) e ∧ Below w.heap.size w w' := by
 obtain ⟨i0, hi, hz0, hz1, hz2⟩ := info_parts infoI
 have HR := zH h
 have HM := zH h.length
 have HL := zH hL
 have HF := zH (fours_val hL)
 clear h hL
 go_enter Tryz.func90, Tryz.ntmps90
 go_wp2
 go_loopw [3, 4] (fun v i wr => ∃ k : Nat, k ≤ len ∧ i = .int .i64 k ∧ OwnQ .i64 3 w.heap.size wr v (fours (l.take k)) ∧ Hid (Below w.heap.size w wr)) (fun _ i _ => len - (intOf i).toNat)
 case atStart => exact ⟨0, Nat.zero_le _, rfl, OwnQ.nil _ _ _ _, Below.refl _ _⟩
 case round =>
  obtain ⟨k, hk, rfl, hown, hb⟩ := hrel
  obtain ⟨wo, rfl⟩ : ∃ wo : World, wo = wr := ⟨_, rfl⟩
  obtain ⟨v1, n1, c1, rfl, -, hown⟩ := own_slice hown
  by_cases hlt : k < len
  ·obtain ⟨b, off, rfl, hbl, hc⟩ := (HR.out.below hb.out).cells (by omega)
   have hck := hc k hlt
   have hst := zH (fours_snoc l k (by rw [HM.out]; exact hlt))
   have hlen := fours_len (l.take k)
   rw [List.length_take, HM.out, Nat.min_eq_left (by omega)] at hlen
   have HLN := zH hlen
   have hd := get_lt (by decide) HL.out k
   clear hc hlen
   generalize l[k]?.getD 0 = d at *
   have HO1 := zH hown
   clear hown
   go_wp2
   go_loopw [3, 5, 6] (fun v x i wr => ∃ j y : Nat, j ≤ 4 ∧ i = .int .i64 j ∧ x = .int .i64 (y : Int) ∧ y < 4294967296 ∧ Hid (y = d / 256 ^ j) ∧ OwnQ .i64 3 w.heap.size wr v (fours (l.take k) ++ (four d).take j) ∧ Hid (Below w.heap.size w wr)) (fun _ _ i _ => 4 - (intOf i).toNat)
   case atStart => exact ⟨0, d, by omega, rfl, rfl, hd, by simp [Hid], by simpa using HO1.out, hb.out⟩
   case round =>
    obtain ⟨j, y, hj, rfl, rfl, hy, hyd, hown, hb2⟩ := hrel
    obtain ⟨v2, n2, c2, rfl, -, hown⟩ := own_slice hown
    by_cases hj4 : j < 4
    ·have hsz := hb2.out.size
     have HO2 := zH hown
     have hft := zH (four_take d j hj4)
     have hlen2 := zH (show (fours (l.take k) ++ (four d).take j).length ≤ 4 * k + 4 by rw [List.length_append, HLN.out, List.length_take]; omega)
     clear hown
     go_wp2_with (at_builtin; refine wpList_append_q .i64 _ rfl _ _ 109 rfl w.heap.size 3 8 i0 Tryz.underlying109 hi hz0 hz1 hz2 (by decide) _ (fours (l.take k) ++ (four d).take j) rfl (HO2.out.alloc _) _ _ _ [y % 256] rfl (Reads.one .i64 _ _ _ _ (by omega)) (by have := hlen2.out; omega) (by simp; omega) ?_; intro v' w2 hown2 hgrow)
     go_roundw
     case rel =>
      refine ⟨j + 1, y / 256, by omega, by go_num, by go_num, by omega, ?_, ?_, hgrow _ (hb2.out.alloc hsz _)⟩
      ·unfold Hid; rw [hyd.out, Nat.div_div_eq_div_mul, Nat.pow_succ]
      ·rw [hft.out, ← List.append_assoc, ← hyd.out]; exact hown2
     case measure => simp [intOf] <;> omega
    ·obtain rfl : j = 4 := by omega
     go_wp2
     go_roundw
     case rel => exact ⟨k + 1, by omega, by go_num, by rw [hst.out]; exact hown, hb2.out⟩
     case measure => simp [intOf] <;> omega
  ·obtain rfl : k = len := by omega
   rw [List.take_of_length_le (by rw [HM.out]; exact Nat.le_refl _)] at hown
   have HN1 := zH (show n1 = (fours l).length from hown.cap.1)
   have hbf := bareN_le (fours l)
   have HP := zH (bareN_prefix (fours l))
   have HE := zH (bareN_eq (b := 256) (by decide) (fours_byt l))
   have HS := zH (short_any _ _ _ _ wo hown.reads _ rfl)
   have ho2 := zH (hown.upto (bareN (fours l)).length (by rw [HN1.out]; exact hbf))
   rw [← HP.out] at ho2
   clear hown hbf
   go_wp2_with fail
   refine HS.out.mono ?_
   rintro e w3 ⟨rfl, rfl⟩
   go_wp2
   go_ret
   have e : natB 256 (val32 l) = bareN (fours l) := by rw [HE.out, HF.out]
   exact ⟨⟨_, rfl, by rw [e]; exact ho2.out⟩, hb.out⟩
set_option maxRecDepth 100000 in
set_option maxHeartbeats 2000000 in
theorem limbs_any (a : Option Addr) (len cap : Nat) (l : List Nat) (w : World) (h : Reads .i64 w a len cap l) (hL : Byt l) (hm : len ≤ 1000000000000) :
  Calls Tryz.prog 131 #[.slice a len cap] w fun e w' => RetsQ .u32 71 w.heap.size w' (nat32 (valB 256 l)) e ∧ Below w.heap.size w w' := by
 obtain ⟨i0, hi, hz0, hz1, hz2⟩ := info_parts info32
 have HS := zH (short_any a len cap l w h _ rfl)
 have hbl := bareN_le l
 rw [h.length] at hbl
 have hr := h.upto (bareN l).length (by rw [← h.length]; exact bareN_le l)
 rw [← bareN_prefix] at hr
 have hend := limbs_end (m := bareN l) (valB 256 l) (bareN_eq (by decide) hL)
 have hBm : Byt (bareN l) := fun x hx => hL x (bareN_mem hx)
 clear h hL
 generalize bareN l = m at *
 generalize hMM : m.length = M at *
 have HM := zH hMM
 have HR := zH hr
 have HB := zH hBm
 have HE := zH hend
 clear hMM hr hBm hend
 go_enter Tryz.func131, Tryz.ntmps131
 go_wp2_with fail
 refine HS.out.mono ?_
 rintro e w1 ⟨rfl, rfl⟩
 go_wp2
 go_loopw [3, 4] (fun v i wr => ∃ t : Nat, 4 * t ≤ M + 3 ∧ i = .int .i64 (4 * (t : Int)) ∧ OwnQ .u32 71 w.heap.size wr v (limbsOf m t) ∧ Hid (Below w.heap.size w wr)) (fun _ i _ => M + 4 - (intOf i).toNat)
 case atStart => exact ⟨0, by omega, rfl, OwnQ.nil _ _ _ _, Below.refl _ _⟩
 case round =>
  obtain ⟨t, ht, rfl, hown, hb⟩ := hrel
  obtain ⟨wo, rfl⟩ : ∃ wo : World, wo = wr := ⟨_, rfl⟩
  obtain ⟨v1, n1, c1, rfl, -, hown⟩ := own_slice hown
  by_cases hlt : 4 * t < M
  ·obtain ⟨b, off, rfl, hbl2, hc⟩ := (HR.out.below hb.out).cells (by omega)
   have hd0 := get_lt (by decide) HB.out (4 * t)
   have hd1 := get_lt (by decide) HB.out (4 * t + 1)
   have hd2 := get_lt (by decide) HB.out (4 * t + 2)
   have hd3 := get_lt (by decide) HB.out (4 * t + 3)
   have hla := zH (show limbAt m t = _ from rfl)
   unfold limbAt at hla
   have c0 := hc (4 * t) hlt
   have c1' : 4 * t + 1 < M → wo.cell? ⟨b, off + (4 * t + 1), none⟩ = some (.int .i64 ((m[4 * t + 1]?.getD 0 : Nat) : Int)) := fun h => hc _ h
   have c2' : 4 * t + 2 < M → wo.cell? ⟨b, off + (4 * t + 2), none⟩ = some (.int .i64 ((m[4 * t + 2]?.getD 0 : Nat) : Int)) := fun h => hc _ h
   have c3' : 4 * t + 3 < M → wo.cell? ⟨b, off + (4 * t + 3), none⟩ = some (.int .i64 ((m[4 * t + 3]?.getD 0 : Nat) : Int)) := fun h => hc _ h
   have z1 : ¬ 4 * t + 1 < M → m[4 * t + 1]?.getD 0 = 0 := fun h => by rw [List.getElem?_eq_none (by rw [HM.out]; omega)]; rfl
   have z2 : ¬ 4 * t + 2 < M → m[4 * t + 2]?.getD 0 = 0 := fun h => by rw [List.getElem?_eq_none (by rw [HM.out]; omega)]; rfl
   have z3 : ¬ 4 * t + 3 < M → m[4 * t + 3]?.getD 0 = 0 := fun h => by rw [List.getElem?_eq_none (by rw [HM.out]; omega)]; rfl
   have hls := zH (limbsOf_succ m t)
   have hll := zH (limbsOf_length m t)
   have HLA := zH (show limbAt m t = (m[4 * t]?.getD 0) + 256 * (m[4 * t + 1]?.getD 0) + 65536 * (m[4 * t + 2]?.getD 0) + 16777216 * (m[4 * t + 3]?.getD 0) from rfl)
   clear hc hla
   generalize m[4 * t]?.getD 0 = d0 at *
   generalize m[4 * t + 1]?.getD 0 = d1 at *
   generalize m[4 * t + 2]?.getD 0 = d2 at *
   generalize m[4 * t + 3]?.getD 0 = d3 at *
   have HO1 := zH hown
   have C1 := zH c1'
   have C2 := zH c2'
   have C3 := zH c3'
   have Z1 := zH z1
   have Z2 := zH z2
   have Z3 := zH z3
   clear hown c1' c2' c3' z1 z2 z3
   go_wp2
   go_loop [5, 6] (fun x k => (k = .int .i64 3 ∧ x = .int .i64 0) ∨ (k = .int .i64 2 ∧ x = .int .i64 (d3 : Int)) ∨ (k = .int .i64 1 ∧ x = .int .i64 ((256 * d3 + d2 : Nat) : Int)) ∨ (k = .int .i64 0 ∧ x = .int .i64 ((256 * (256 * d3 + d2) + d1 : Nat) : Int)) ∨ (k = .int .i64 (-1) ∧ x = .int .i64 ((256 * (256 * (256 * d3 + d2) + d1) + d0 : Nat) : Int))) (fun _ k => (intOf k + 1).toNat)
   case atStart => exact .inl ⟨rfl, rfl⟩
   case round =>
    rcases hrel with ⟨rfl, rfl⟩ | ⟨rfl, rfl⟩ | ⟨rfl, rfl⟩ | ⟨rfl, rfl⟩ | ⟨rfl, rfl⟩
    ·by_cases hin : 4 * t + 3 < M
     ·have hcc := C3.out hin
      go_wp2
      go_round
      case rel => exact .inr (.inl ⟨rfl, by congr 1 <;> omega⟩)
      case measure => simp [intOf]
     ·have hz := Z3.out hin
      subst hz
      go_wp2
      go_round
      case rel => exact .inr (.inl ⟨rfl, by congr 1 <;> omega⟩)
      case measure => simp [intOf]
    ·by_cases hin : 4 * t + 2 < M
     ·have hcc := C2.out hin
      go_wp2
      go_round
      case rel => exact .inr (.inr (.inl ⟨rfl, by congr 1 <;> omega⟩))
      case measure => simp [intOf]
     ·have hz := Z2.out hin
      subst hz
      go_wp2
      go_round
      case rel => exact .inr (.inr (.inl ⟨rfl, by congr 1 <;> omega⟩))
      case measure => simp [intOf]
    ·by_cases hin : 4 * t + 1 < M
     ·have hcc := C1.out hin
      go_wp2
      go_round
      case rel => exact .inr (.inr (.inr (.inl ⟨rfl, by congr 1 <;> omega⟩)))
      case measure => simp [intOf]
     ·have hz := Z1.out hin
      subst hz
      go_wp2
      go_round
      case rel => exact .inr (.inr (.inr (.inl ⟨rfl, by congr 1 <;> omega⟩)))
      case measure => simp [intOf]
    ·go_wp2
     go_round
     case rel => exact .inr (.inr (.inr (.inr ⟨rfl, by congr 1 <;> omega⟩)))
     case measure => simp [intOf]
    ·go_wp2_with (at_builtin; refine wpList_append_q .u32 _ rfl _ _ 44 rfl w.heap.size 71 4 i0 Tryz.underlying44 hi hz0 hz1 hz2 (by decide) _ (limbsOf m t) rfl (HO1.out.alloc _) _ _ _ [256 * (256 * (256 * d3 + d2) + d1) + d0] rfl (Reads.one .u32 _ _ _ _ (by omega)) (by have := hll.out; omega) (by have := hb.out.size; simp; omega) ?_; intro v' w2 hown2 hgrow)
     go_roundw
     case rel =>
      refine ⟨t + 1, by omega, by congr 1 <;> omega, ?_, hgrow _ (hb.out.alloc hb.out.size _)⟩
      rw [hls.out, HLA.out, show d0 + 256 * d1 + 65536 * d2 + 16777216 * d3 = 256 * (256 * (256 * d3 + d2) + d1) + d0 by omega]
      exact hown2
     case measure => simp [intOf] <;> omega
  ·have et : t = (M + 3) / 4 := by omega
   have ET := zH et
   clear et
   go_wp2
   go_ret
   rw [ET.out, HE.out] at hown
   exact ⟨⟨_, rfl, hown⟩, hb.out⟩
end rf
end Go.Proofs.YtpefjkndfifceaaGreatDoor
namespace Go.Proofs.YtpefjkndfifceaaGreatDoor
open Go.RowKit
namespace rf
set_option maxHeartbeats 400000 in
theorem cut_any (a : Option Addr) (len cap : Nat) (l : List Nat) (w : World) (h : Reads .i64 w a len cap l) (hL : Byt l) :
  Calls Tryz.prog 89 #[.slice a len cap] w fun e w' => RetsQ2 .u32 71 w.heap.size w' (cutR32 (valB 256 l)) e ∧ Below w.heap.size w w' := by
 have HS := zH (short_any a len cap l w h _ rfl)
 have hmx := h.len_le
 unfold maxLen at hmx
 have hbl := bareN_le l
 rw [h.length] at hbl
 have hr := h.upto (bareN l).length (by rw [← h.length]; exact bareN_le l)
 rw [← bareN_prefix] at hr
 have hci := cut_iff8 l hL
 have HV := zH (bareN_val 256 l)
 have hBm : Byt (bareN l) := fun x hx => hL x (bareN_mem hx)
 clear h hL
 generalize bareN l = m at *
 have HR := zH hr
 clear hr
 by_cases hc : m.length ≤ 1024
 ·have hres := zH (show cutR32 (valB 256 l) = (nat32 (valB 256 l), 0) from cutR_small (hci.1 hc))
  have hdec : decide ((1024 : Int) < (m.length : Int)) = false := by simp; omega
  have HB := zH (limbs_any a m.length cap m w HR.out hBm (by omega))
  rw [HV.out] at HB
  clear hci hBm
  go_enter Tryz.func89, Tryz.ntmps89
  go_wp2_with fail
  refine HS.out.mono ?_
  rintro e w1 ⟨rfl, rfl⟩
  go_wp2_with fail
  refine HB.out.mono ?_
  rintro e w2 ⟨⟨v, rfl, ho⟩, hb⟩
  go_wp2
  go_ret2
  exact ⟨⟨_, by rw [hres.out]; rfl, by rw [hres.out]; exact ho⟩, hb⟩
 ·have hres := zH (show cutR32 (valB 256 l) = ([], 20) from cutR_large (fun h => hc (hci.2 h)))
  have hdec : decide ((1024 : Int) < (m.length : Int)) = true := by simp; omega
  clear hci hBm
  go_enter Tryz.func89, Tryz.ntmps89
  go_wp2_with fail
  refine HS.out.mono ?_
  rintro e w1 ⟨rfl, rfl⟩
  go_wp2
  go_ret2
  exact ⟨⟨_, by rw [hres.out]; rfl, by rw [hres.out]; exact OwnQ.nil _ _ _ _⟩, Below.refl _ _⟩
theorem nat256_le (v : Nat) : (natB 256 v).length ≤ 1024 ↔ v < topN := by rw [natB_length (by decide), topN_256]
set_option maxHeartbeats 400000 in
theorem may_any (a a' : Option Addr) (n c n' c' : Nat) (l l' : List Nat) (w : World) (h : Reads .u32 w a n c l) (h' : Reads .u32 w a' n' c' l') (hL : Lim l) (hL' : Lim l') (hm : n ≤ 1000000000000) (hm' : n' ≤ 1000000000000) (r : Bool) (hr : r = decide (val32 l < topN ∧ val32 l' < topN)) :
  Calls Tryz.prog 93 #[.slice a n c, .slice a' n' c'] w fun e w' => e = .returned (.bool r) ∧ Below w.heap.size w w' := by
 have HD := zH (digits_any a n c l w h hL hm)
 have HR := zH h'
 have HL := zH hL'
 have hx := nat256_le (val32 l)
 have hy := nat256_le (val32 l')
 have HRR := zH hr
 clear h h' hL hL' hr
 by_cases hc : (natB 256 (val32 l)).length ≤ 1024
 ·by_cases hc' : (natB 256 (val32 l')).length ≤ 1024
  ·have hrt := zH (show r = true by rw [HRR.out, decide_eq_true_iff]; exact ⟨hx.1 hc, hy.1 hc'⟩)
   clear hx hy
   go_enter Tryz.func93, Tryz.ntmps93
   go_wp2_with fail
   refine HD.out.mono ?_
   rintro e w1 ⟨⟨v, rfl, ho⟩, hb⟩
   obtain ⟨a1, n1, c1, rfl, hn1, -⟩ := own_slice ho
   rw [← hn1] at hc
   have HB := zH hb
   clear hn1 ho hb
   go_wp2_with fail
   refine (digits_any a' n' c' l' _ (HR.out.below HB.out) HL.out hm').mono ?_
   rintro e w2 ⟨⟨v, rfl, ho⟩, hb⟩
   obtain ⟨a2, n2, c2, rfl, hn2, -⟩ := own_slice ho
   rw [← hn2] at hc'
   have HB2 := zH (HB.out.trans (hb.mono HB.out.size))
   clear hn2 ho hb
   go_wp2
   go_ret
   exact ⟨by rw [hrt.out]; show Ending.returned (.bool (decide ((n2 : Int) ≤ 1024))) = _; rw [decide_eq_true (by omega)], HB2.out⟩
  ·have hrt := zH (show r = false by rw [HRR.out, decide_eq_false (fun h => hc' (hy.2 h.2))])
   clear hx hy
   go_enter Tryz.func93, Tryz.ntmps93
   go_wp2_with fail
   refine HD.out.mono ?_
   rintro e w1 ⟨⟨v, rfl, ho⟩, hb⟩
   obtain ⟨a1, n1, c1, rfl, hn1, -⟩ := own_slice ho
   rw [← hn1] at hc
   have HB := zH hb
   clear hn1 ho hb
   go_wp2_with fail
   refine (digits_any a' n' c' l' _ (HR.out.below HB.out) HL.out hm').mono ?_
   rintro e w2 ⟨⟨v, rfl, ho⟩, hb⟩
   obtain ⟨a2, n2, c2, rfl, hn2, -⟩ := own_slice ho
   rw [← hn2] at hc'
   have hc2 : 1024 < n2 := by omega
   have HB2 := zH (HB.out.trans (hb.mono HB.out.size))
   clear hn2 ho hb hc'
   go_wp2
   go_ret
   exact ⟨by rw [hrt.out]; show Ending.returned (.bool (decide ((n2 : Int) ≤ 1024))) = _; rw [decide_eq_false (by omega)], HB2.out⟩
 ·have hrt := zH (show r = false by rw [HRR.out, decide_eq_false (fun h => hc (hx.2 h.1))])
  clear hx hy
  go_enter Tryz.func93, Tryz.ntmps93
  go_wp2_with fail
  refine HD.out.mono ?_
  rintro e w1 ⟨⟨v, rfl, ho⟩, hb⟩
  obtain ⟨a1, n1, c1, rfl, hn1, -⟩ := own_slice ho
  rw [← hn1] at hc
  have hc2 : 1024 < n1 := by omega
  have HB := zH hb
  clear hn1 ho hb hc
  go_wp2
  go_ret
  exact ⟨by rw [hrt.out]; rfl, HB.out⟩
theorem info8 : (Tryz.prog.info? 5).map (fun i => (i.zero, i.size, i.bytes)) = some (some (.int .u8 0), 1, 1) := by kernel_rfl
theorem down_start (m : Nat) : (∃ j : Nat, Value.int IntKind.i64 ((m : Int) - 1) = .int .i64 j ∧ j + 0 + 1 = m) ∨ (Value.int IntKind.i64 ((m : Int) - 1) = .int .i64 (-1) ∧ 0 = m) := by
 rcases Nat.eq_zero_or_pos m with h | h
 ·exact .inr ⟨by rw [h]; rfl, h.symm⟩
 ·exact .inl ⟨m - 1, by congr 1; omega, by omega⟩
theorem down_next {j k m : Nat} (h : j + k + 1 = m) : (∃ i : Nat, Value.int IntKind.i64 ((j : Int) - 1) = .int .i64 i ∧ i + (k + 1) + 1 = m) ∨ (Value.int IntKind.i64 ((j : Int) - 1) = .int .i64 (-1) ∧ k + 1 = m) := by
 rcases Nat.eq_zero_or_pos j with e | e
 ·exact .inr ⟨by rw [e]; rfl, by omega⟩
 ·exact .inl ⟨j - 1, by congr 1; omega, by omega⟩
theorem rev_succ (l : List Nat) (j k : Nat) (h : j + k + 1 = l.length) : l.reverse.take (k + 1) = l.reverse.take k ++ [l[j]?.getD 0] := by
 rw [take_snocN _ _ (by simp; omega), List.getElem?_reverse (by omega)]
 congr 4
 omega
set_option maxRecDepth 100000 in
set_option maxHeartbeats 1000000 in
theorem bytes_any (a : Option Addr) (len cap : Nat) (l : List Nat) (w : World) (h : Reads .u32 w a len cap l) (hL : Lim l) (hm : len ≤ 1000000000000) :
  Calls Tryz.prog 82 #[.slice a len cap] w fun e w' => RetsQ .u8 5 w.heap.size w' (natB 256 (val32 l)).reverse e ∧ Below w.heap.size w w' := by
 obtain ⟨i0, hi, hz0, hz1, hz2⟩ := info_parts info8
 have HD := zH (digits_any a len cap l w h hL hm)
 have hlb : (natB 256 (val32 l)).length ≤ 4 * len := by
  rw [natB_length (by decide), ← pow32, ← h.length]
  exact valB_lt (by decide) hL
 have hbt : Byt (natB 256 (val32 l)) := natB_digit (by decide) _
 clear h hL
 generalize natB 256 (val32 l) = m at *
 have HBT := zH hbt
 clear hbt
 go_enter Tryz.func82, Tryz.ntmps82
 go_wp2_with fail
 refine HD.out.mono ?_
 rintro e w1 ⟨⟨v, rfl, ho⟩, hb⟩
 obtain ⟨a1, n1, c1, rfl, hn1, ho1⟩ := own_slice ho
 have HN := zH hn1
 have HRD := zH ho1.reads
 have HB := zH hb
 have hn4 : n1 ≤ 4000000000000 := by omega
 clear ho hn1 ho1 hb hlb
 go_wp2
 go_loopw [4, 5] (fun v i wr => ∃ k : Nat, ((∃ j : Nat, i = .int .i64 j ∧ j + k + 1 = n1) ∨ (i = .int .i64 (-1) ∧ k = n1)) ∧ OwnQ .u8 5 w1.heap.size wr v (m.reverse.take k) ∧ Hid (Below w1.heap.size w1 wr)) (fun _ i _ => (intOf i + 1).toNat)
 case atStart => exact ⟨0, down_start n1, by simpa using OwnQ.nil _ _ _ _, Below.refl _ _⟩
 case round =>
  obtain ⟨k, hj, hown, hbel⟩ := hrel
  obtain ⟨v2, n2, c2, rfl, -, hown⟩ := own_slice hown
  rcases hj with ⟨j, rfl, hjk⟩ | ⟨rfl, hkn⟩
  ·obtain ⟨b, off, rfl, hbk, hc⟩ := (HRD.out.below hbel.out).cells (by omega)
   have hck := hc j (by omega)
   have hd := get_lt (by decide) HBT.out j
   have hrs := zH (rev_succ m j k (by rw [← HN.out]; exact hjk))
   have hsz := hbel.out.size
   have HO := zH hown
   have HJK := zH hjk
   have hjn : j < n1 := by omega
   have hlen := zH (show (m.reverse.take k).length ≤ n1 by rw [List.length_take, List.length_reverse, ← HN.out]; omega)
   clear hc hown hjk
   generalize m[j]?.getD 0 = d at *
   go_wp2_with (at_builtin; refine wpList_append_q .u8 _ rfl _ _ 22 rfl w1.heap.size 5 1 i0 Tryz.underlying22 hi hz0 hz1 hz2 (by decide) _ (m.reverse.take k) rfl (HO.out.alloc _) _ _ _ [d] rfl (Reads.one .u8 _ _ _ _ rfl) (by have := hlen.out; omega) (by simp; omega) ?_; intro v' w2 hown2 hgrow)
   go_roundw
   case rel => exact ⟨k + 1, down_next HJK.out, by rw [hrs.out]; exact hown2, hgrow _ (hbel.out.alloc hsz _)⟩
   case measure => simp [intOf] <;> omega
  ·have hfin := zH (show m.reverse.take k = m.reverse by rw [List.take_of_length_le]; rw [List.length_reverse, ← HN.out]; omega)
   clear hkn
   go_wp2
   go_ret
   rw [hfin.out] at hown
   exact ⟨⟨_, rfl, hown.mono HB.out.size⟩, HB.out.trans (hbel.out.mono HB.out.size)⟩
end rf
end Go.Proofs.YtpefjkndfifceaaGreatDoor
namespace Go.Proofs.YtpefjkndfifceaaGreatDoor
open Go.RowKit
namespace rf
theorem bit_digit (v k : Nat) : v.testBit k = decide ((natB 256 v)[k / 8]?.getD 0 / 2 ^ (k % 8) % 2 = 1) := by
 rw [natB_get (by decide), show (256 : Nat) ^ (k / 8) = 2 ^ (8 * (k / 8)) by rw [Nat.pow_mul]]
 have e : v.testBit k = (v / 2 ^ (8 * (k / 8)) % 2 ^ 8).testBit (k % 8) := by
  rw [Nat.testBit_mod_two_pow, Nat.testBit_div_two_pow, show k % 8 + 8 * (k / 8) = k by omega]
  simp [Nat.mod_lt]
 rw [e, Nat.testBit_eq_decide_div_mod_eq]
set_option maxRecDepth 100000 in
set_option maxHeartbeats 1000000 in
theorem bit_any (a : Option Addr) (len cap : Nat) (l : List Nat) (w : World) (h : Reads .u32 w a len cap l) (hL : Lim l) (hm : len ≤ 1000000000000) (i : Int) (hi : i ≤ 9223372036854775807) (r : Bool) (hr : r = (decide (0 ≤ i) && (val32 l).testBit i.toNat)) :
  Calls Tryz.prog 79 #[.slice a len cap, .int .i64 i] w fun e w' => e = .returned (.bool r) ∧ Below w.heap.size w w' := by
 have HD := zH (digits_any a len cap l w h hL hm)
 have HRR := zH hr
 have hbt : Byt (natB 256 (val32 l)) := natB_digit (by decide) _
 have hbd := fun k => bit_digit (val32 l) k
 have hlb : (natB 256 (val32 l)).length ≤ 4 * len := by
  rw [natB_length (by decide), ← pow32, ← h.length]
  exact valB_lt (by decide) hL
 clear h hL hr
 generalize natB 256 (val32 l) = m at *
 have HBT := zH hbt
 have HBD := zH hbd
 clear hbt hbd
 by_cases h0 : i < 0
 ·have hrf := zH (show r = false by rw [HRR.out, decide_eq_false (by omega)]; rfl)
  go_enter Tryz.func79, Tryz.ntmps79
  go_wp2_with fail
  refine HD.out.mono ?_
  rintro e w1 ⟨⟨v, rfl, ho⟩, hb⟩
  obtain ⟨a1, n1, c1, rfl, hn1, -⟩ := own_slice ho
  have HB := zH hb
  clear ho hn1 hb
  go_wp2
  go_ret
  exact ⟨by rw [hrf.out]; rfl, HB.out⟩
 ·obtain ⟨k, rfl⟩ := Int.eq_ofNat_of_zero_le (show 0 ≤ i by omega)
  have hrk := zH (show r = decide (m[k / 8]?.getD 0 / 2 ^ (k % 8) % 2 = 1) by rw [HRR.out, decide_eq_true (by omega), Bool.true_and, Int.toNat_natCast, HBD.out])
  have hq : (k : Int) / 8 = ((k / 8 : Nat) : Int) := by omega
  have hrm : (k : Int) % 8 = ((k % 8 : Nat) : Int) := by omega
  have hr8 : k % 8 < 8 := by omega
  clear h0
  generalize k / 8 = q at *
  generalize k % 8 = s at *
  go_enter Tryz.func79, Tryz.ntmps79
  go_wp2_with fail
  refine HD.out.mono ?_
  rintro e w1 ⟨⟨v, rfl, ho⟩, hb⟩
  obtain ⟨a1, n1, c1, rfl, hn1, ho1⟩ := own_slice ho
  have HN := zH hn1
  have HRD := zH ho1.reads
  have HB := zH hb
  have hn4 : n1 ≤ 4000000000000 := by omega
  clear ho hn1 ho1 hb hlb
  by_cases hlt : q < n1
  ·obtain ⟨b, off, rfl, hbk, hc⟩ := HRD.out.cells (by omega)
   have hck := hc q hlt
   have hd := get_lt (by decide) HBT.out q
   clear hc
   generalize m[q]?.getD 0 = d at *
   go_wp2
   go_loop [6, 7] (fun x i => ∃ j y : Nat, j ≤ s ∧ i = .int .i64 j ∧ x = .int .i64 (y : Int) ∧ y < 256 ∧ Hid (y = d / 2 ^ j)) (fun _ i => s - (intOf i).toNat)
   case atStart => exact ⟨0, d, Nat.zero_le _, rfl, rfl, hd, by simp [Hid]⟩
   case round =>
    obtain ⟨j, y, hj, rfl, rfl, hy, hyd⟩ := hrel
    by_cases hjs : j < s
    ·go_wp2
     go_round
     case rel => exact ⟨j + 1, y / 2, by omega, by go_num, by go_num, by omega, by unfold Hid; rw [hyd.out, Nat.div_div_eq_div_mul, Nat.pow_succ]⟩
     case measure => simp [intOf] <;> omega
    ·obtain rfl : j = s := by omega
     have hfin := zH (show r = decide (y % 2 = 1) by rw [hrk.out, hyd.out])
     go_wp2
     go_ret
     refine ⟨?_, HB.out⟩
     rw [hfin.out]
     show Ending.returned (.bool ((y : Int) % 2 == 1)) = _
     congr 2
     rw [Bool.eq_iff_iff]
     simp
     omega
  ·have hz := zH (show r = false by rw [hrk.out, List.getElem?_eq_none (by rw [← HN.out]; omega)]; simp)
   have hge : n1 ≤ q := by omega
   clear hlt
   go_wp2
   go_ret
   exact ⟨by rw [hz.out]; rfl, HB.out⟩
def bitsN (n : Nat) : Nat := if n = 0 then 0 else Nat.log2 n + 1
theorem bitsN_le (n k : Nat) : bitsN n ≤ k ↔ n < 2 ^ k := by
 unfold bitsN
 by_cases h : n = 0
 ·simp [h, Nat.pow_pos]
 ·rw [if_neg h, ← Nat.log2_lt h]; omega
theorem bit_step (v n : Nat) (h : v < 2 ^ (n + 1)) (hb : v.testBit n = false) : v < 2 ^ n := by
 rw [Nat.testBit_eq_decide_div_mod_eq] at hb
 rw [Nat.pow_succ] at h
 have h1 : v / 2 ^ n < 2 := by rw [Nat.div_lt_iff_lt_mul (Nat.pow_pos (by decide))]; omega
 have h3 := of_decide_eq_false hb
 have h2 : v / 2 ^ n = 0 := by
  generalize v / 2 ^ n = y at h1 h3
  omega
 exact Nat.lt_of_div_eq_zero (Nat.pow_pos (by decide)) h2
theorem bit_last (v n : Nat) (h : v < 2 ^ (n + 1)) (hb : v.testBit n = true) : bitsN v = n + 1 := by
 have h1 := (bitsN_le v (n + 1)).2 h
 have h2 : ¬ bitsN v ≤ n := fun hc => by
  have h3 := (bitsN_le v n).1 hc
  rw [Nat.testBit_eq_decide_div_mod_eq, Nat.div_eq_of_lt h3] at hb
  simp at hb
 omega
set_option maxRecDepth 100000 in
set_option maxHeartbeats 1000000 in
theorem bits_any (a : Option Addr) (len cap : Nat) (l : List Nat) (w : World) (h : Reads .u32 w a len cap l) (hL : Lim l) (hm : len ≤ 1000000000000) (b : Nat) (hb : b = bitsN (val32 l)) :
  Calls Tryz.prog 48 #[.slice a len cap] w fun e w' => e = .returned (.int .i64 (b : Int)) ∧ Below w.heap.size w w' := by
 have HD := zH (digits_any a len cap l w h hL hm)
 have HR := zH h
 have HL := zH hL
 have HBB := zH hb
 have hlb : (natB 256 (val32 l)).length ≤ 4 * len := by
  rw [natB_length (by decide), ← pow32, ← h.length]
  exact valB_lt (by decide) hL
 have hv := zH ((natB_length (b := 256) (by decide) (val32 l) _).1 (Nat.le_refl _))
 clear h hL hb
 go_enter Tryz.func48, Tryz.ntmps48
 go_wp2_with fail
 refine HD.out.mono ?_
 rintro e w1 ⟨⟨v, rfl, ho⟩, hb1⟩
 obtain ⟨a1, n1, c1, rfl, hn1, -⟩ := own_slice ho
 have HN := zH hn1
 have HB := zH hb1
 have hn4 : n1 ≤ 4000000000000 := by omega
 clear ho hn1 hb1 hlb
 go_wp2
 go_loopw [4] (fun x wr => ∃ k : Nat, k ≤ 8 * n1 ∧ x = .int .i64 (k : Int) ∧ Hid (val32 l < 2 ^ k) ∧ Hid (Below w.heap.size w wr)) (fun x _ => (intOf x).toNat)
 case atStart => exact ⟨8 * n1, Nat.le_refl _, by go_num, by unfold Hid; rw [HN.out, Nat.pow_mul]; exact hv.out, HB.out⟩
 case round =>
  obtain ⟨k, hk, rfl, hlt, hbel⟩ := hrel
  rcases Nat.eq_zero_or_pos k with rfl | hp
  ·have hz := zH (show b = 0 by rw [HBB.out]; have := hlt.out; rw [Nat.pow_zero] at this; rw [show val32 l = 0 by omega]; rfl)
   go_wp2
   go_ret
   exact ⟨by rw [hz.out]; rfl, hbel.out⟩
  ·obtain ⟨j, rfl⟩ : ∃ j, k = j + 1 := ⟨k - 1, by omega⟩
   clear hp
   cases hbit : (val32 l).testBit j with
   | true =>
    have hz := zH (show b = j + 1 by rw [HBB.out]; exact bit_last _ _ hlt.out hbit)
    have HC := zH (bit_any a len cap l wr (HR.out.below hbel.out) HL.out hm (j : Int) (by omega) true (by simp [hbit]))
    clear hbit
    go_wp2_with (go_at_call 79; refine HC.out.mono ?_; rintro e w2 ⟨rfl, hb2⟩)
    go_ret
    exact ⟨by rw [hz.out]; go_num, hbel.out.trans (hb2.mono hbel.out.size)⟩
   | false =>
    have hz := zH (bit_step _ _ hlt.out hbit)
    have HC := zH (bit_any a len cap l wr (HR.out.below hbel.out) HL.out hm (j : Int) (by omega) false (by simp [hbit]))
    clear hbit
    go_wp2_with (go_at_call 79; refine HC.out.mono ?_; rintro e w2 ⟨rfl, hb2⟩)
    go_roundw
    case rel => exact ⟨j, by omega, by go_num, hz.out, hbel.out.trans (hb2.mono hbel.out.size)⟩
    case measure => simp [intOf] <;> omega
end rf
end Go.Proofs.YtpefjkndfifceaaGreatDoor
namespace Go.Proofs.YtpefjkndfifceaaGreatDoor
open Go.RowKit
namespace rf
theorem below_drewN {B : Nat} {a w : World} (h : Below B a w) (n : Nat) : Below B a (w.drewN n) := h.trans ⟨rfl, rfl, rfl, Nat.le_refl _, fun _ _ => rfl⟩
def ordR (x y : Nat) : Int := if x < y then -1 else if y < x then 1 else 0
theorem ordR_lt {x y : Nat} (h : x < y) : ordR x y = -1 := by simp [ordR, h]
theorem ordR_gt {x y : Nat} (h : y < x) : ordR x y = 1 := by simp [ordR, h]; omega
theorem ordR_eq {x y : Nat} (h : x = y) : ordR x y = 0 := by simp [ordR, h]
theorem rev_digit (x k j : Nat) (h : k + j + 1 = (natB 256 x).length) : (natB 256 x).reverse[k]?.getD 0 = x / 256 ^ j % 256 := by
 rw [List.getElem?_reverse (by omega), show (natB 256 x).length - 1 - k = j by omega, natB_get (by decide)]
theorem digit_up {x y j : Nat} (h : x / 256 ^ (j + 1) = y / 256 ^ (j + 1)) : (x / 256 ^ j % 256 < y / 256 ^ j % 256 → x < y) ∧ (x / 256 ^ j % 256 = y / 256 ^ j % 256 → x / 256 ^ j = y / 256 ^ j) := by
 rw [Nat.pow_succ, ← Nat.div_div_eq_div_mul, ← Nat.div_div_eq_div_mul] at h
 constructor
 ·intro hl
  have : x / 256 ^ j < y / 256 ^ j := by
   generalize x / 256 ^ j = p at *
   generalize y / 256 ^ j = q at *
   omega
  exact Nat.lt_of_not_le fun hc => by
   have := Nat.div_le_div_right (c := 256 ^ j) hc
   omega
 ·intro he
  generalize x / 256 ^ j = p at *
  generalize y / 256 ^ j = q at *
  omega
theorem longer {x y : Nat} (h : (natB 256 x).length < (natB 256 y).length) : x < y := by
 have h1 := (natB_length (b := 256) (by decide) x _).1 (Nat.le_refl _)
 have h2 := (natB_len_lt (b := 256) (by decide) y _).1 h
 omega
theorem top_zero (x : Nat) : x / 256 ^ (natB 256 x).length = 0 := Nat.div_eq_of_lt ((natB_length (b := 256) (by decide) x _).1 (Nat.le_refl _))
set_option maxRecDepth 100000 in
set_option maxHeartbeats 1000000 in
theorem cmp_any (a a' : Option Addr) (n c n' c' : Nat) (l l' : List Nat) (w : World) (h : Reads .u32 w a n c l) (h' : Reads .u32 w a' n' c' l') (hL : Lim l) (hL' : Lim l') (hm : n ≤ 1000000000000) (hm' : n' ≤ 1000000000000) (r : Int) (hr : r = ordR (val32 l) (val32 l')) :
  Calls Tryz.prog 41 #[.slice a n c, .slice a' n' c'] w fun e w' => e = .returned (.int .i64 r) ∧ Below w.heap.size w w' := by
 have HD := zH (bytes_any a n c l w h hL hm)
 have HR := zH h'
 have HL := zH hL'
 have hlb : (natB 256 (val32 l)).length ≤ 4 * n := by
  rw [natB_length (by decide), ← pow32, ← h.length]
  exact valB_lt (by decide) hL
 have hlb' : (natB 256 (val32 l')).length ≤ 4 * n' := by
  rw [natB_length (by decide), ← pow32, ← h'.length]
  exact valB_lt (by decide) hL'
 clear h h' hL hL'
 go_enter Tryz.func41, Tryz.ntmps41
 go_wp2_with fail
 refine HD.out.mono ?_
 rintro e w1 ⟨⟨v, rfl, ho⟩, hb⟩
 obtain ⟨a1, n1, c1, rfl, hn1, ho1⟩ := own_slice ho
 rw [List.length_reverse] at hn1
 have HB := zH hb
 have HO1 := zH ho1.reads
 have hx1 : n1 ≤ 4000000000000 := by omega
 have HN1 := zH hn1
 clear ho ho1 hb hn1 hlb
 go_wp2_with fail
 refine (bytes_any a' n' c' l' _ (HR.out.below HB.out) HL.out hm').mono ?_
 rintro e w2 ⟨⟨v, rfl, ho⟩, hb⟩
 obtain ⟨a2, n2, c2, rfl, hn2, ho2⟩ := own_slice ho
 rw [List.length_reverse] at hn2
 have HB2 := zH (HB.out.trans (hb.mono HB.out.size))
 have R1 := zH (HO1.out.below hb)
 have R2 := zH ho2.reads
 have hx2 : n2 ≤ 4000000000000 := by omega
 have HN2 := zH hn2
 clear ho ho2 hb hn2 hlb'
 clear HO1 HB HD HR HL
 generalize val32 l = x at *
 generalize val32 l' = y at *
 have HRR := zH hr
 clear hr
 rcases Nat.lt_trichotomy n1 n2 with hc | rfl | hc
 ·have hres := zH (show r = -1 by rw [HRR.out]; exact ordR_lt (longer (by rw [← HN1.out, ← HN2.out]; exact hc)))
  have t1 : ((n1 : Int) == n2) = false := by simp; omega
  go_wp2
  go_ret
  exact ⟨by rw [hres.out]; rfl, HB2.out⟩
 ·go_wp2
  go_loopw [7] (fun i wr => ∃ k j : Nat, i = .int .i64 (k : Int) ∧ k + j = n1 ∧ Hid (x / 256 ^ j = y / 256 ^ j) ∧ Hid (Below w.heap.size w wr) ∧ Hid (Below w2.heap.size w2 wr)) (fun i _ => n1 - (intOf i).toNat)
  case atStart => exact ⟨0, n1, rfl, by omega, by unfold Hid; rw [HN1.out, top_zero, ← HN1.out, HN2.out, top_zero], HB2.out, Below.refl _ _⟩
  case round =>
   obtain ⟨k, j, rfl, hkj, hq, hbel, hbw⟩ := hrel
   rcases Nat.eq_zero_or_pos j with rfl | hp
   ·have hres := zH (show r = 0 by rw [HRR.out]; exact ordR_eq (by simpa using hq.out))
    obtain rfl : k = n1 := by omega
    go_wp2
    go_ret
    exact ⟨by rw [hres.out]; rfl, hbel.out⟩
   ·obtain ⟨i, rfl⟩ : ∃ i, j = i + 1 := ⟨j - 1, by omega⟩
    clear hp
    obtain ⟨b, off, rfl, hbk, hcl⟩ := (R1.out.below hbw.out).cells (by omega)
    obtain ⟨b', off', rfl, hbk', hcl'⟩ := (R2.out.below hbw.out).cells (by omega)
    have hck := hcl k (by omega)
    have hck' := hcl' k (by omega)
    rw [rev_digit x k i (by rw [← HN1.out]; omega)] at hck
    rw [rev_digit y k i (by rw [← HN2.out]; omega)] at hck'
    obtain ⟨hlt, heq⟩ := digit_up hq.out
    have hgt := (digit_up hq.out.symm).1
    have hd1 : x / 256 ^ i % 256 < 256 := Nat.mod_lt _ (by decide)
    have hd2 : y / 256 ^ i % 256 < 256 := Nat.mod_lt _ (by decide)
    have HLT := zH hlt
    have HEQ := zH heq
    have HGT := zH hgt
    have hkn : k < n1 := by omega
    clear hcl hcl' hlt heq hgt
    generalize x / 256 ^ i % 256 = d at *
    generalize y / 256 ^ i % 256 = d' at *
    rcases Nat.lt_trichotomy d d' with h1 | h1 | h1
    ·have hres := zH (show r = -1 by rw [HRR.out]; exact ordR_lt (HLT.out h1))
     have t1 : decide (d < d') = true := decide_eq_true h1
     clear HLT HEQ HGT
     go_wp2_with go_quiet (fail)
     go_ret
     exact ⟨by rw [hres.out]; rfl, below_drewN hbel.out _⟩
    ·have hq2 := zH (HEQ.out h1)
     subst h1
     clear HLT HEQ HGT
     go_wp2_with go_quiet (fail)
     go_roundw
     case rel => exact ⟨k + 1, i, by go_num, by omega, hq2.out, below_drewN hbel.out _, below_drewN hbw.out _⟩
     case measure => simp [intOf] <;> omega
    ·have hres := zH (show r = 1 by rw [HRR.out]; exact ordR_gt (HGT.out h1))
     have t1 : decide (d < d') = false := decide_eq_false (by omega)
     have t2 : decide (d' < d) = true := decide_eq_true h1
     clear HLT HEQ HGT
     go_wp2_with go_quiet (fail)
     go_ret
     exact ⟨by rw [hres.out]; rfl, below_drewN (below_drewN hbel.out _) _⟩
 ·have hres := zH (show r = 1 by rw [HRR.out]; exact ordR_gt (longer (by rw [← HN1.out, ← HN2.out]; exact hc)))
  have t1 : ((n1 : Int) == n2) = false := by simp; omega
  have t2 : decide ((n1 : Int) < n2) = false := by simp; omega
  go_wp2
  go_ret
  exact ⟨by rw [hres.out]; rfl, HB2.out⟩
end rf
end Go.Proofs.YtpefjkndfifceaaGreatDoor
namespace Go.Proofs.YtpefjkndfifceaaGreatDoor
open Go.RowKit
namespace rf
def AddI (A B : List Nat) (k : Nat) (O : List Nat) (c : Nat) : Prop := O.length = k ∧ Byt O ∧ c ≤ 1 ∧ valB 256 O + 256 ^ k * c = valB 256 (A.take k) + valB 256 (B.take k)
end rf
end Go.Proofs.YtpefjkndfifceaaGreatDoor
namespace Go.Proofs.YtpefjkndfifceaaGreatDoor
open Go.RowKit
namespace rf
theorem OwnQ.made {q : IntKind} {E : TypeId} {B : Nat} {w : World} {g n : Nat} {z : List Value} (h : w.ownsRow B E 1 (.slice (some ⟨g, 0, none⟩) n n) n z) (hz : z = (madeCells (Value.int q 0).cells (n * 1)).toList) : OwnQ q E B w (.slice (some ⟨g, 0, none⟩) n n) (List.replicate n 0) := by
 unfold OwnQ
 rw [← zeros_q, ← hz]
 simpa using h
theorem wpList_make_lc {P : Program} (q : IntKind) (w : World) {ops : Array Oper} {rest : List Oper} {o : Oper} {a : Act} {Q : Exit → Act → World → Prop}
  (hg : o.guard = none) (l c : Operand) (t : TypeId) (hop : o.op = Op.makeSlice t l c)
  (base : Nat) (e : TypeId) (i : TypeInfo) (h1 : P.underlying t = some (.slice e)) (h2 : P.info? e = some i) (h3 : i.zero = some (.int q 0)) (h4 : i.size = 1)
  (kl kc : IntKind) (L C : Int) (m n : Nat) (hl : a.eval l = .int kl L) (hc : a.eval c = .int kc C) (hL : L = (m : Int)) (hC : C = (n : Int)) (hmn : m ≤ n) (b2 : i.bytes * n ≤ 281474976710656) (b3 : n ≤ maxLen) (b4 : base ≤ w.heap.size)
  (hK : ∀ w', OwnQ q e base w' (.slice (some ⟨w.heap.size, 0, none⟩) m n) (List.replicate m 0) → w.grownBy w' none → wpList P ops Q rest (a.put o.dst (.slice (some ⟨w.heap.size, 0, none⟩) m n)) w') :
  wpList P ops Q (o :: rest) a w := by
 refine wpList_plain hg fun K hK' => ?_
 subst hL
 subst hC
 have h63' : (n : Int) ≤ 9223372036854775807 := by
  have h := b3
  simp [maxLen] at h
  omega
 have hb' : (i.bytes : Int) * (n : Int) ≤ 281474976710656 := by
  have h : ((i.bytes * n : Nat) : Int) ≤ 281474976710656 := by omega
  rwa [Int.natCast_mul] at h
 have hr := run_make (P := P) w t e i (.int q 0) h1 h2 h3 kl kc m n (by omega) (by omega) hb' h63'
 simp only [Int.toNat_natCast] at hr
 have hown : OwnQ q e base (w.alloc (.cells (madeCells (Value.int q 0).cells (n * i.size)) e)) (.slice (some ⟨w.heap.size, 0, none⟩) n n) (List.replicate n 0) := by
  rw [h4]
  exact OwnQ.made (World.ownsRow_lit w _ n b4 b3 (size_madeCells _ _)) rfl
 have hup := hown.upto m hmn
 rw [List.take_replicate, Nat.min_eq_left hmn] at hup
 unfold Oper.wp
 simp [execOp, hop, hl, hc, hr, Result.andThen]
 exact hK' _ _ (hK _ hup (World.grownBy_alloc w _ none))
theorem valB_set (b : Nat) : ∀ (l : List Nat) (t d : Nat), t < l.length → valB b (l.set t d) + b ^ t * (l[t]?.getD 0) = valB b l + b ^ t * d
 | [], t, d, h => by simp at h
 | c :: l, 0, d, _ => by simp [valB]; omega
 | c :: l, t + 1, d, h => by
  have := valB_set b l t d (by simpa using h)
  simp only [zq3, valB, List.getElem?_cons_succ, Nat.pow_succ]
  have e1 : b ^ t * b * (l[t]?.getD 0) = b * (b ^ t * (l[t]?.getD 0)) := by rw [Nat.mul_comm (b ^ t) b, Nat.mul_assoc]
  have e2 : b ^ t * b * d = b * (b ^ t * d) := by rw [Nat.mul_comm (b ^ t) b, Nat.mul_assoc]
  have e3 : b * (valB b (l.set t d) + b ^ t * (l[t]?.getD 0)) = b * (valB b l + b ^ t * d) := by rw [this]
  rw [Nat.mul_add, Nat.mul_add] at e3
  omega
theorem getD_set (P : List Nat) (t d s : Nat) (h : t < P.length) : (P.set t d)[s]?.getD 0 = if t = s then d else P[s]?.getD 0 := by
 rw [List.getElem?_set]
 by_cases e : t = s
 ·subst e; simp [h]
 ·simp [e]
def mulR (x y : Nat) : List Nat × Int := if x < topN ∧ y < topN then cutR32 (x * y) else ([], 20)
theorem mulR_yes {x y : Nat} (h : x < topN ∧ y < topN) : mulR x y = cutR32 (x * y) := if_pos h
theorem mulR_no {x y : Nat} (h : ¬ (x < topN ∧ y < topN)) : mulR x y = ([], 20) := if_neg h
def MulI (A B P : List Nat) (N i j : Nat) : Prop := P.length = N ∧ (∀ t : Nat, P[t]?.getD 0 ≤ 65025 * i + 65025) ∧ (∀ t : Nat, i + j ≤ t → P[t]?.getD 0 ≤ 65025 * i) ∧ valB 256 P = valB 256 (A.take i) * valB 256 B + 256 ^ i * (A[i]?.getD 0) * valB 256 (B.take j)
def MulO (A B P : List Nat) (N i : Nat) : Prop := P.length = N ∧ (∀ t : Nat, P[t]?.getD 0 ≤ 65025 * i) ∧ valB 256 P = valB 256 (A.take i) * valB 256 B
theorem mulO_start (A B : List Nat) (N : Nat) : MulO A B (List.replicate N 0) N 0 := ⟨by simp, fun t => by
 have h : (List.replicate N 0)[t]?.getD 0 = 0 := by
  rw [List.getElem?_replicate]; split <;> rfl
 omega, by rw [valB_zeros, List.take_zero]; simp [valB]⟩
theorem mulI_start {A B P : List Nat} {N i : Nat} (h : MulO A B P N i) : MulI A B P N i 0 := by
 obtain ⟨h1, h2, h3⟩ := h
 refine ⟨h1, fun t => by have := h2 t; omega, fun t _ => h2 t, ?_⟩
 rw [List.take_zero, show valB 256 [] = 0 from rfl, Nat.mul_zero, Nat.add_zero]; exact h3
theorem mulI_end {A B P : List Nat} {N i j : Nat} (h : MulI A B P N i j) (hj : B.length ≤ j) : MulO A B P N (i + 1) := by
 obtain ⟨h1, h2, -, h4⟩ := h
 refine ⟨h1, fun t => by have := h2 t; omega, ?_⟩
 rw [List.take_of_length_le hj] at h4
 rw [h4, valB_succ, Nat.add_mul]
theorem mulI_step {A B P : List Nat} {N i j : Nat} (hA : Byt A) (hB : Byt B) (h : MulI A B P N i j) (hN : i + j < N) (s : Nat) (hs : s = P[i + j]?.getD 0 + A[i]?.getD 0 * B[j]?.getD 0) : MulI A B (P.set (i + j) s) N i (j + 1) := by
 obtain ⟨h1, h2, h3, h4⟩ := h
 have ha := get_lt (by decide) hA i
 have hb := get_lt (by decide) hB j
 have hab : A[i]?.getD 0 * B[j]?.getD 0 ≤ 255 * 255 := Nat.mul_le_mul (by omega) (by omega)
 have hz := h3 (i + j) (Nat.le_refl _)
 have hv := valB_set 256 P (i + j) s (by omega)
 refine ⟨by rw [List.length_set]; exact h1, fun t => ?_, fun t ht => ?_, ?_⟩
 ·rw [getD_set _ _ _ _ (by omega)]
  split
  ·omega
  ·exact h2 t
 ·rw [getD_set _ _ _ _ (by omega), if_neg (by omega)]
  exact h3 t (by omega)
 ·rw [valB_succ]
  rw [hs, Nat.mul_add] at hv
  rw [Nat.mul_add, ← Nat.add_assoc, ← h4]
  have e : 256 ^ i * (A[i]?.getD 0) * (256 ^ j * (B[j]?.getD 0)) = 256 ^ (i + j) * (A[i]?.getD 0 * (B[j]?.getD 0)) := by
   rw [Nat.pow_add]
   simp only [Nat.mul_assoc, Nat.mul_left_comm]
  rw [e]
  rw [hs]
  omega
def CarI (P : List Nat) (N v M k : Nat) : Prop := P.length = N ∧ valB 256 P = v ∧ (∀ t : Nat, t < k → P[t]?.getD 0 < 256) ∧ (∀ t : Nat, k < t → P[t]?.getD 0 ≤ M) ∧ P[k]?.getD 0 ≤ 2 * M
theorem carI_start {A B P : List Nat} {N i : Nat} (h : MulO A B P N i) (hi : A.length ≤ i) (M : Nat) (hM : 65025 * i ≤ M) : CarI P N (valB 256 A * valB 256 B) M 0 := by
 obtain ⟨h1, h2, h3⟩ := h
 rw [List.take_of_length_le hi] at h3
 exact ⟨h1, h3, fun t ht => by omega, fun t _ => by have := h2 t; omega, by have := h2 0; omega⟩
theorem carI_step {P : List Nat} {N v M k : Nat} (h : CarI P N v M k) (hk : k + 1 < N) (s u : Nat) (hs : s = P[k + 1]?.getD 0 + P[k]?.getD 0 / 256) (hu : u = P[k]?.getD 0 % 256) : CarI ((P.set (k + 1) s).set k u) N v M (k + 1) := by
 obtain ⟨h1, h2, h3, h4, h5⟩ := h
 have hz := h4 (k + 1) (by omega)
 have v1 := valB_set 256 P (k + 1) s (by omega)
 have v2 := valB_set 256 (P.set (k + 1) s) k u (by rw [List.length_set]; omega)
 rw [getD_set _ _ _ _ (by omega), if_neg (by omega)] at v2
 have hget : ∀ t : Nat, ((P.set (k + 1) s).set k u)[t]?.getD 0 = if k = t then u else if k + 1 = t then s else P[t]?.getD 0 := fun t => by
  rw [getD_set _ _ _ _ (by rw [List.length_set]; omega), getD_set _ _ _ _ (by omega)]
 refine ⟨by simp [h1], ?_, fun t ht => ?_, fun t ht => ?_, ?_⟩
 ·rw [← h2]
  rw [Nat.pow_succ] at v1
  generalize 256 ^ k = p at *
  generalize P[k]?.getD 0 = a at *
  generalize P[k + 1]?.getD 0 = b at *
  have e1 : p * 256 * s = p * 256 * b + p * 256 * (a / 256) := by rw [hs, Nat.mul_add]
  have e2 : p * a = p * 256 * (a / 256) + p * u := by rw [hu, Nat.mul_assoc, ← Nat.mul_add]; congr 1; omega
  omega
 ·rw [hget]
  by_cases e : k = t
  ·rw [if_pos e, hu]; exact Nat.mod_lt _ (by decide)
  ·rw [if_neg e, if_neg (by omega)]; exact h3 t (by omega)
 ·rw [hget, if_neg (by omega), if_neg (by omega)]; exact h4 t (by omega)
 ·rw [hget, if_neg (by omega), if_pos rfl, hs]; omega
theorem carI_end {P : List Nat} {N v M k : Nat} (h : CarI P N v M k) (hk : k + 1 = N) (hv : v < 256 ^ k) : Byt P := by
 obtain ⟨h1, h2, h3, -, -⟩ := h
 intro x hx
 obtain ⟨t, ht, rfl⟩ := List.getElem_of_mem hx
 have e : P[t]?.getD 0 = P[t] := by rw [List.getElem?_eq_getElem ht]; rfl
 rw [← e]
 rcases Nat.lt_or_ge t k with h | h
 ·exact h3 t h
 ·obtain rfl : t = k := by omega
  have hs := valB_succ (b := 256) P t
  rw [List.take_of_length_le (by omega), h2] at hs
  rcases Nat.eq_zero_or_pos (P[t]?.getD 0) with h0 | h0
  ·omega
  ·have := Nat.mul_le_mul_left (256 ^ t) h0
   omega
theorem fun_below {B : Nat} {w wr w' : World} (h : Below B w wr) (g : ∀ w0, Below B w0 wr → Below B w0 w') : Below B w w'.drew := (g w h).drew
theorem mul_small {x y a b : Nat} (hx : x < 256 ^ a) (hy : y < 256 ^ b) (c : Nat) : x * y < 256 ^ (a + b + c) := by
 rw [Nat.pow_add, Nat.pow_add]
 have h1 : x * y < 256 ^ a * 256 ^ b := Nat.mul_lt_mul'' hx hy
 exact Nat.lt_of_lt_of_le h1 (Nat.le_mul_of_pos_right _ (Nat.pow_pos (by decide)))
end rf
end Go.Proofs.YtpefjkndfifceaaGreatDoor
namespace Go.Proofs.YtpefjkndfifceaaGreatDoor
open Go.RowKit
namespace rf
set_option maxRecDepth 100000 in
set_option maxHeartbeats 4000000 in
theorem mul_any (a a' : Option Addr) (n c n' c' : Nat) (l l' : List Nat) (w : World) (h : Reads .u32 w a n c l) (h' : Reads .u32 w a' n' c' l') (hL : Lim l) (hL' : Lim l') (hm : n ≤ 1000000000000) (hm' : n' ≤ 1000000000000) :
  Calls Tryz.prog 52 #[.slice a n c, .slice a' n' c'] w fun e w' => RetsQ2 .u32 71 w.heap.size w' (mulR (val32 l) (val32 l')) e ∧ Below w.heap.size w w' := by
 obtain ⟨i0, hi, hz0, hz1, hz2⟩ := info_parts infoI
 have HMY := zH (may_any a a' n c n' c' l l' w h h' hL hL' hm hm' _ rfl)
 by_cases hin : val32 l < topN ∧ val32 l' < topN
 ·rw [decide_eq_true hin] at HMY
  rw [mulR_yes hin]
  have HR := zH h
  have HL := zH hL
  have HR' := zH h'
  have HL' := zH hL'
  have hlb : (natB 256 (val32 l)).length ≤ 1024 := (nat256_le _).2 hin.1
  have hlb' : (natB 256 (val32 l')).length ≤ 1024 := (nat256_le _).2 hin.2
  have BA := zH (show Byt (natB 256 (val32 l)) from natB_digit (by decide) _)
  have BB := zH (show Byt (natB 256 (val32 l')) from natB_digit (by decide) _)
  have HV1 := zH (natB_val (b := 256) (by decide) (val32 l))
  have HV2 := zH (natB_val (b := 256) (by decide) (val32 l'))
  have HLT1 := zH ((natB_length (b := 256) (by decide) (val32 l) _).1 (Nat.le_refl _))
  have HLT2 := zH ((natB_length (b := 256) (by decide) (val32 l') _).1 (Nat.le_refl _))
  clear h h' hL hL' hin
  go_enter Tryz.func52, Tryz.ntmps52
  go_wp2_with fail
  refine HMY.out.mono ?_
  rintro e w0 ⟨rfl, hb0⟩
  have H0 := zH hb0
  clear hb0
  go_wp2_with fail
  refine (digits_any a n c l _ (HR.out.below H0.out) HL.out hm).mono ?_
  rintro e w1 ⟨⟨v, rfl, ho⟩, hb⟩
  obtain ⟨a1, n1, c1, rfl, hn1, ho1⟩ := own_slice ho
  have HB := zH (H0.out.trans (hb.mono H0.out.size))
  have HO1 := zH ho1.reads
  have hx1 : n1 ≤ 1024 := by omega
  have HN1 := zH hn1
  clear ho ho1 hb hn1 hlb
  go_wp2_with fail
  refine (digits_any a' n' c' l' _ (HR'.out.below HB.out) HL'.out hm').mono ?_
  rintro e w2 ⟨⟨v, rfl, ho⟩, hb⟩
  obtain ⟨a2, n2, c2, rfl, hn2, ho2⟩ := own_slice ho
  have HB2 := zH (HB.out.trans (hb.mono HB.out.size))
  have R1 := zH (HO1.out.below hb)
  have R2 := zH ho2.reads
  have hx2 : n2 ≤ 1024 := by omega
  have HN2 := zH hn2
  clear ho ho2 hb hn2 hlb'
  clear HO1 HB HMY HR HL HR' HL' H0
  rw [← HN1.out] at HLT1
  rw [← HN2.out] at HLT2
  generalize hxx : val32 l = x at *
  generalize hyy : val32 l' = y at *
  have HXX := zH hxx
  have HYY := zH hyy
  clear hxx hyy
  generalize natB 256 x = A at *
  generalize natB 256 y = B at *
  go_wp2_with (at_make; refine wpList_make_lc .i64 _ rfl _ _ 109 rfl w2.heap.size 3 i0 Tryz.underlying109 hi hz0 hz1 _ _ _ _ (n1 + n2 + 4) (n1 + n2 + 4) rfl rfl (by omega) (by omega) (Nat.le_refl _) (by rw [hz2]; omega) (by unfold maxLen; omega) (Nat.le_refl _) ?_; intro w3 hown hgrow)
  have hb3 : Below w2.heap.size w2 w3 := (Below.refl _ _).grown hgrow (Nat.le_refl _) (fun _ h => by cases h)
  have HO := zH hown
  have HB3 := zH hb3
  clear hown hgrow hb3
  obtain ⟨N, hN⟩ : ∃ N, N = n1 + n2 + 4 := ⟨_, rfl⟩
  obtain ⟨G, hG⟩ : ∃ G, G = w2.heap.size := ⟨_, rfl⟩
  rw [← hN, ← hG] at HO ⊢
  have HNN := zH hN
  have HGG := zH hG
  have hN4 : N ≤ 2052 := by omega
  clear hN hG
  go_loopw [10] (fun i wr => ∃ (k : Nat) (P : List Nat), i = .int .i64 k ∧ k ≤ n1 ∧ Hid (MulO A B P N k) ∧ OwnQ .i64 3 w2.heap.size wr (.slice (some ⟨G, 0, none⟩) N N) P ∧ Hid (Below w2.heap.size w2 wr)) (fun i _ => n1 - (intOf i).toNat)
  case atStart => exact ⟨0, _, rfl, Nat.zero_le _, mulO_start A B N, by rw [HGG.out]; rw [HGG.out] at HO; exact HO.out, HB3.out⟩
  case round =>
   obtain ⟨k, P, rfl, hk, hinv, hown, hbel⟩ := hrel
   obtain ⟨wo, rfl⟩ : ∃ wo : World, wo = wr := ⟨_, rfl⟩
   have HO4 := zH hown
   clear hown
   by_cases hlt : k < n1
   ·have hin0 := zH (mulI_start hinv.out)
    go_wp2
    go_loopw [11] (fun j wr => ∃ (t : Nat) (P : List Nat), j = .int .i64 t ∧ t ≤ n2 ∧ Hid (MulI A B P N k t) ∧ OwnQ .i64 3 w2.heap.size wr (.slice (some ⟨G, 0, none⟩) N N) P ∧ Hid (Below w2.heap.size w2 wr)) (fun j _ => n2 - (intOf j).toNat)
    case atStart => exact ⟨0, P, rfl, Nat.zero_le _, hin0.out, HO4.out, hbel.out⟩
    case round =>
     obtain ⟨t, P2, rfl, ht, hin, hown, hbel2⟩ := hrel
     by_cases hlt2 : t < n2
     ·obtain ⟨b1, o1, rfl, hbk1, hc1⟩ := (R1.out.below hbel2.out).cells (by omega)
      obtain ⟨b2, o2, rfl, hbk2, hc2⟩ := (R2.out.below hbel2.out).cells (by omega)
      have ck1 := hc1 k hlt
      have ck2 := hc2 t hlt2
      have dA := get_lt (by decide) BA.out k
      have dB := get_lt (by decide) BB.out t
      have hst := zH (mulI_step BA.out BB.out hin.out (by have := HNN.out; omega))
      obtain ⟨i1, i2, -, -⟩ := hin.out
      have I1 := zH i1
      have hcell := hown.cellAt I1.out.symm (k + t) (by have := HNN.out; omega)
      have hfr := hown.frozenAt I1.out.symm (k + t)
      have hp := i2 (k + t)
      have hktN : k + t < N := by have := HNN.out; omega
      have HO5 := zH hown
      clear hc1 hc2 hown i1 i2
      generalize A[k]?.getD 0 = x1 at *
      generalize B[t]?.getD 0 = y1 at *
      generalize P2[k + t]?.getD 0 = z at *
      have hxy : x1 * y1 ≤ 255 * 255 := Nat.mul_le_mul (by omega) (by omega)
      have hmul : Hid ((x1 : Int) * (y1 : Int) = ((x1 * y1 : Nat) : Int)) := by unfold Hid; simp
      go_wp2
      go_region
      all_goals
       go_wp2
       go_roundw
       case rel =>
        have s1 := HO5.out.stored I1.out.symm (k + t) (z + x1 * y1) ((z : Int) + (x1 : Int) * (y1 : Int)) (by rw [hmul.out]; omega)
        exact ⟨t + 1, P2.set (k + t) (z + x1 * y1), by go_num, by omega, hst.out _ rfl, s1.1.drew, fun_below hbel2.out s1.2⟩
       case measure => simp [intOf] <;> omega
     ·obtain rfl : t = n2 := by omega
      have hend := zH (mulI_end hin.out (by rw [← HN2.out]; exact Nat.le_refl _))
      go_wp2
      go_roundw
      case rel => exact ⟨k + 1, P2, by go_num, by omega, hend.out, hown, hbel2.out⟩
      case measure => simp [intOf] <;> omega
   ·obtain rfl : n1 = k := by omega
    have hcs := zH (carI_start hinv.out (by rw [← HN1.out]; exact Nat.le_refl _) 66585600 (by omega))
    clear hinv
    go_wp2
    go_loopw [12] (fun i wr => ∃ (t : Nat) (P : List Nat), i = .int .i64 t ∧ t + 1 ≤ N ∧ Hid (CarI P N (valB 256 A * valB 256 B) 66585600 t) ∧ OwnQ .i64 3 w2.heap.size wr (.slice (some ⟨G, 0, none⟩) N N) P ∧ Hid (Below w2.heap.size w2 wr)) (fun i _ => N - (intOf i).toNat)
    case atStart => exact ⟨0, P, rfl, by have := HNN.out; omega, hcs.out, HO4.out, hbel.out⟩
    case round =>
     obtain ⟨t, P2, rfl, ht, hci, hown, hbel2⟩ := hrel
     by_cases hlt2 : t + 1 < N
     ·have hst := zH (carI_step hci.out hlt2)
      obtain ⟨i1, -, -, i4, i5⟩ := hci.out
      have I1 := zH i1
      have hcell := hown.cellAt I1.out.symm t (by omega)
      have hcell1 := hown.cellAt I1.out.symm (t + 1) hlt2
      have hfr := hown.frozenAt I1.out.symm t
      have hfr1 := hown.frozenAt I1.out.symm (t + 1)
      have hp := i4 (t + 1) (by omega)
      have HO5 := zH hown
      clear hown i1 i4
      generalize P2[t]?.getD 0 = z at *
      generalize P2[t + 1]?.getD 0 = z1 at *
      go_wp2
      go_region
      all_goals
       go_wp2
       go_roundw
       case rel =>
        have s1 := HO5.out.stored I1.out.symm (t + 1) (z1 + z / 256) ((z1 : Int) + (z : Int) / 256) (by omega)
        have s2 := s1.1.stored (by rw [List.length_set]; exact I1.out.symm) t (z % 256) ((z : Int) % 256) (by omega)
        exact ⟨t + 1, _, by go_num, by omega, hst.out _ _ rfl rfl, s2.1.drew, fun_below hbel2.out (fun w0 h0 => s2.2 w0 (s1.2 w0 h0))⟩
       case measure => simp [intOf] <;> omega
     ·have htN : t + 1 = N := by omega
      have hby := zH (carI_end hci.out htN (by
       have e : t = n1 + n2 + 3 := by have := HNN.out; omega
       rw [HV1.out, HV2.out, e]; exact mul_small HLT1.out HLT2.out 3))
      have hv := zH hci.out.2.1
      have HC := zH (cut_any _ _ _ P2 _ hown.reads hby.out)
      rw [hv.out, HV1.out, HV2.out] at HC
      have hsz := hbel2.out.size
      clear hown
      go_wp2_with fail
      refine HC.out.mono ?_
      rintro e w3 ⟨⟨v3, rfl, ho3⟩, hb3⟩
      have HBZ := zH (HB2.out.trans ((hbel2.out.trans (hb3.mono hsz)).mono HB2.out.size))
      go_wp2
      go_ret2
      rw [HXX.out, HYY.out]
      exact ⟨⟨_, rfl, ho3.mono (Nat.le_trans HB2.out.size hsz)⟩, HBZ.out⟩
 ·rw [decide_eq_false hin] at HMY
  rw [mulR_no hin]
  clear hin h h' hL hL'
  go_enter Tryz.func52, Tryz.ntmps52
  go_wp2_with fail
  refine HMY.out.mono ?_
  rintro e w0 ⟨rfl, hb0⟩
  have H0 := zH hb0
  clear hb0
  go_wp2
  go_ret2
  exact ⟨⟨_, rfl, OwnQ.nil _ _ _ _⟩, H0.out⟩
end rf
end Go.Proofs.YtpefjkndfifceaaGreatDoor
namespace Go.Proofs.YtpefjkndfifceaaGreatDoor
open Go.RowKit
namespace rf
theorem topN_pos : 0 < topN := by unfold topN; exact Nat.pow_pos (by decide)
theorem topN_two : topN = 2 ^ 8192 := by
 have h : ∀ a b c d e : Nat, a = b ^ c → e = c * d → a ^ d = b ^ e := by
  rintro a b c d e rfl rfl
  exact (Nat.pow_mul b c d).symm
 exact h 4294967296 2 32 256 8192 (by decide) (by decide)
theorem two_lt_at {e n : Nat} (he : topN = 2 ^ e) (h : n < e) : 2 ^ n < topN := by
 rw [he]; exact Nat.pow_lt_pow_right (by decide) h
theorem two_lt {n : Nat} (h : n < 8192) : 2 ^ n < topN := two_lt_at topN_two h
theorem two_ge_at {e v n : Nat} (he : topN = 2 ^ e) (hv : 0 < v) (h : e ≤ n) : ¬ v * 2 ^ n < topN := by
 rw [he, Nat.not_lt]
 exact Nat.le_trans (Nat.pow_le_pow_right (by decide) h) (Nat.le_mul_of_pos_left _ hv)
theorem two_ge {v n : Nat} (hv : 0 < v) (h : 8192 ≤ n) : ¬ v * 2 ^ n < topN := two_ge_at topN_two hv h
theorem cut_zero : cutR32 0 = ([], 0) := by rw [cutR_small topN_pos, show nat32 0 = [] from natB_zero _]
theorem mul_ge {v n : Nat} (h : ¬ v < topN) : ¬ v * 2 ^ n < topN := by
 rw [Nat.not_lt] at h ⊢
 exact Nat.le_trans h (Nat.le_mul_of_pos_right _ (Nat.pow_pos (by decide)))
def shlR (v : Nat) (n : Int) : List Nat × Int := if n < 0 then ([], 2) else cutR32 (v * 2 ^ n.toNat)
theorem power_val (q r : Nat) (hr : r < 32) : val32 ((List.replicate (q + 1) 0).set q (2 ^ r)) = 2 ^ (32 * q + r) ∧ Lim ((List.replicate (q + 1) 0).set q (2 ^ r)) := by
 have h := valB_set 4294967296 (List.replicate (q + 1) 0) q (2 ^ r) (by simp)
 have e : (List.replicate (q + 1) 0)[q]?.getD 0 = 0 := by rw [List.getElem?_replicate]; split <;> rfl
 rw [e, valB_zeros, Nat.mul_zero, Nat.zero_add, Nat.add_zero] at h
 refine ⟨?_, fun x hx => ?_⟩
 ·show valB 4294967296 _ = _
  rw [h, Nat.pow_add, Nat.pow_mul]
 ·have h2 : 2 ^ r ≤ 2 ^ 31 := Nat.pow_le_pow_right (by decide) (by omega)
  rcases List.mem_or_eq_of_mem_set hx with h | h
  ·rw [List.eq_of_mem_replicate h]; decide
  ·rw [h]; omega
def PowR (B : Nat) (w' : World) (n : Nat) (e : Ending) : Prop := ∃ v, ∃ l : List Nat, e = .returned v ∧ OwnQ .u32 71 B w' v l ∧ l.length ≤ 257 ∧ Lim l ∧ val32 l = 2 ^ n
set_option maxRecDepth 100000 in
set_option maxHeartbeats 1000000 in
theorem power_any (n : Nat) (hn : n < 8192) (w : World) :
  Calls Tryz.prog 132 #[.int .i64 (n : Int)] w fun e w' => PowR w.heap.size w' n e ∧ Below w.heap.size w w' := by
 obtain ⟨i0, hi, hz0, hz1, hz2⟩ := info_parts info32
 obtain ⟨hv, hl⟩ := power_val (n / 32) (n % 32) (Nat.mod_lt _ (by decide))
 rw [show 32 * (n / 32) + n % 32 = n by omega] at hv
 have HV := zH hv
 have HL := zH hl
 have hq : (n : Int) / 32 = ((n / 32 : Nat) : Int) := by omega
 have hrm : (n : Int) % 32 = ((n % 32 : Nat) : Int) := by omega
 have hq256 : n / 32 < 256 := by omega
 have hr32 : n % 32 < 32 := Nat.mod_lt _ (by decide)
 clear hv hl
 generalize n / 32 = q at *
 generalize n % 32 = r at *
 go_enter Tryz.func132, Tryz.ntmps132
 go_wp2_with (at_make; refine wpList_make_lc .u32 _ rfl _ _ 44 rfl w.heap.size 71 i0 Tryz.underlying44 hi hz0 hz1 _ _ _ _ (q + 1) (q + 1) rfl rfl (by omega) (by omega) (Nat.le_refl _) (by rw [hz2]; omega) (by unfold maxLen; omega) (Nat.le_refl _) ?_; intro w1 hown hgrow)
 have hb1 : Below w.heap.size w w1 := (Below.refl _ _).grown hgrow (Nat.le_refl _) (fun _ h => by cases h)
 have hfr := hown.frozenAt (by simp) q
 have hcl := hown.cellAt (by simp) q (by omega)
 have HO := zH hown
 have HB1 := zH hb1
 clear hown hgrow hb1
 generalize (List.replicate (q + 1) 0)[q]?.getD 0 = z at *
 go_loop [4, 5] (fun u i => ∃ j : Nat, i = .int .i64 (j : Int) ∧ j ≤ r ∧ ∃ p : Nat, u = .int .u32 (p : Int) ∧ Hid (p = 2 ^ j)) (fun _ i => r - (intOf i).toNat)
 case atStart => exact ⟨0, rfl, Nat.zero_le _, 1, rfl, rfl⟩
 case round =>
  obtain ⟨j, rfl, hj, p, rfl, hp⟩ := hrel
  have hpl : p ≤ 2147483648 := by
   have h2 : 2 ^ j ≤ 2 ^ 31 := Nat.pow_le_pow_right (by decide) (by omega)
   rw [hp.out]; omega
  by_cases hlt : j < r
  ·have hpl2 : p ≤ 1073741824 := by
    have h2 : 2 ^ j ≤ 2 ^ 30 := Nat.pow_le_pow_right (by decide) (by omega)
    rw [hp.out]; omega
   go_wp2
   go_round
   case rel => exact ⟨j + 1, by go_num, by omega, 2 * p, by go_num, by unfold Hid; rw [hp.out, Nat.pow_succ, Nat.mul_comm]⟩
   case measure => simp [intOf] <;> omega
  ·obtain rfl : j = r := by omega
   have s1 := zH (HO.out.stored (by simp) q p (p : Int) rfl)
   go_wp2
   go_ret
   refine ⟨⟨_, _, rfl, s1.out.1, by simp; omega, ?_, ?_⟩, s1.out.2 _ HB1.out⟩
   ·rw [hp.out]; exact HL.out
   ·rw [hp.out]; exact HV.out
theorem bits_zero (v : Nat) : bitsN v = 0 ↔ v = 0 := by
 have := bitsN_le v 0
 rw [Nat.pow_zero] at this
 omega
set_option maxRecDepth 100000 in
set_option maxHeartbeats 2000000 in
theorem shl_any (a : Option Addr) (len cap : Nat) (l : List Nat) (w : World) (h : Reads .u32 w a len cap l) (hL : Lim l) (hm : len ≤ 1000000000000) (n : Int) (hn : n ≤ 9223372036854775807) :
  Calls Tryz.prog 92 #[.slice a len cap, .int .i64 n] w fun e w' => RetsQ2 .u32 71 w.heap.size w' (shlR (val32 l) n) e ∧ Below w.heap.size w w' := by
 have HMY := zH (may_any a none len cap 0 0 l [] w h (Reads.none _ _) hL (fun _ h => by cases h) hm (by decide) _ rfl)
 by_cases h0 : n < 0
 ·have hr := zH (show shlR (val32 l) n = ([], 2) from if_pos h0)
  rw [hr.out]
  clear HMY
  go_enter Tryz.func92, Tryz.ntmps92
  go_wp2
  go_ret2
  exact ⟨⟨_, rfl, OwnQ.nil _ _ _ _⟩, Below.refl _ _⟩
 ·obtain ⟨k, rfl⟩ := Int.eq_ofNat_of_zero_le (show 0 ≤ n by omega)
  have hr := zH (show shlR (val32 l) (k : Int) = cutR32 (val32 l * 2 ^ k) from by unfold shlR; rw [if_neg h0, Int.toNat_natCast])
  rw [hr.out]
  have hk63 : k ≤ 9223372036854775807 := by omega
  have HR := zH h
  have HL := zH hL
  clear h0 h hL hr hn
  have hBZ := zH (bits_zero (val32 l))
  have hb64 : bitsN (val32 l) ≤ 32 * len := by
   rw [bitsN_le, Nat.pow_mul, ← HR.out.length]; exact valB_lt (by decide) HL.out
  obtain ⟨bb, hbb⟩ : ∃ bb, bb = bitsN (val32 l) := ⟨_, rfl⟩
  rw [← hbb] at hBZ hb64
  have HBB := zH hbb
  clear hbb
  by_cases hin : val32 l < topN
  ·rw [decide_eq_true (show val32 l < topN ∧ val32 [] < topN from ⟨hin, topN_pos⟩)] at HMY
   have HIN := zH hin
   clear hin
   rcases Nat.eq_zero_or_pos bb with h0 | h0
   ·have hv := hBZ.out.1 h0
    rw [hv, Nat.zero_mul, cut_zero]
    subst h0
    clear hv
    go_enter Tryz.func92, Tryz.ntmps92
    go_wp2_with fail
    refine HMY.out.mono ?_
    rintro e w1 ⟨rfl, hb1⟩
    have H1 := zH hb1
    clear hb1
    go_wp2_with fail
    refine (bits_any a len cap l _ (HR.out.below H1.out) HL.out hm 0 HBB.out).mono ?_
    rintro e w2 ⟨rfl, hb2⟩
    have H2 := zH (H1.out.trans (hb2.mono H1.out.size))
    clear hb2
    go_wp2
    go_ret2
    exact ⟨⟨_, rfl, OwnQ.nil _ _ _ _⟩, H2.out⟩
   ·have hv : 0 < val32 l := Nat.pos_of_ne_zero fun e => by have := hBZ.out.2 e; omega
    have hbp : decide ((0 : Int) < (bb : Int)) = true := by simp; omega
    have hbz : ((bb : Int) == 0) = false := by simp; omega
    by_cases hbig : 8192 ≤ k
    ·rw [cutR_large (two_ge hv hbig)]
     have hkk : decide ((8192 : Int) ≤ (k : Int)) = true := by simp; omega
     clear hv
     go_enter Tryz.func92, Tryz.ntmps92
     go_wp2_with fail
     refine HMY.out.mono ?_
     rintro e w1 ⟨rfl, hb1⟩
     have H1 := zH hb1
     clear hb1
     go_wp2_with fail
     refine (bits_any a len cap l _ (HR.out.below H1.out) HL.out hm bb HBB.out).mono ?_
     rintro e w2 ⟨rfl, hb2⟩
     have H2 := zH (H1.out.trans (hb2.mono H1.out.size))
     clear hb2
     go_wp2
     go_ret2
     exact ⟨⟨_, rfl, OwnQ.nil _ _ _ _⟩, H2.out⟩
    ·have hmr := zH (mulR_yes (x := val32 l) (y := 2 ^ k) ⟨HIN.out, two_lt (by omega)⟩)
     have hkk : decide ((8192 : Int) ≤ (k : Int)) = false := by simp; omega
     have hk2 : k < 8192 := by omega
     rw [← hmr.out]
     clear hv
     go_enter Tryz.func92, Tryz.ntmps92
     go_wp2_with fail
     refine HMY.out.mono ?_
     rintro e w1 ⟨rfl, hb1⟩
     have H1 := zH hb1
     clear hb1
     go_wp2_with fail
     refine (bits_any a len cap l _ (HR.out.below H1.out) HL.out hm bb HBB.out).mono ?_
     rintro e w2 ⟨rfl, hb2⟩
     have H2 := zH (H1.out.trans (hb2.mono H1.out.size))
     clear hb2
     go_wp2_with fail
     refine (power_any k hk2 _).mono ?_
     rintro e w3 ⟨⟨v, m, rfl, ho, hml, hmL, hmv⟩, hb3⟩
     obtain ⟨a3, n3, c3, rfl, hn3, ho3⟩ := own_slice ho
     have H3 := zH (H2.out.trans (hb3.mono H2.out.size))
     have HC := zH (mul_any a a3 len cap n3 c3 l m _ (HR.out.below H3.out) ho3.reads HL.out hmL hm (by omega))
     rw [hmv] at HC
     clear ho ho3 hml hmL hmv hn3 hb3
     go_wp2_with fail
     refine HC.out.mono ?_
     rintro e w4 ⟨⟨v4, rfl, ho4⟩, hb4⟩
     have H4 := zH (H3.out.trans (hb4.mono H3.out.size))
     go_wp2
     go_ret2
     exact ⟨⟨_, rfl, ho4.mono H3.out.size⟩, H4.out⟩
  ·rw [decide_eq_false (fun e : val32 l < topN ∧ val32 [] < topN => hin e.1)] at HMY
   rw [cutR_large (mul_ge hin)]
   clear hin
   go_enter Tryz.func92, Tryz.ntmps92
   go_wp2_with fail
   refine HMY.out.mono ?_
   rintro e w1 ⟨rfl, hb1⟩
   have H1 := zH hb1
   clear hb1
   go_wp2_with fail
   refine (bits_any a len cap l _ (HR.out.below H1.out) HL.out hm bb HBB.out).mono ?_
   rintro e w2 ⟨rfl, hb2⟩
   have H2 := zH (H1.out.trans (hb2.mono H1.out.size))
   clear hb2
   go_wp2
   go_ret2
   exact ⟨⟨_, rfl, OwnQ.nil _ _ _ _⟩, H2.out⟩
end rf
end Go.Proofs.YtpefjkndfifceaaGreatDoor
namespace Go.Proofs.YtpefjkndfifceaaGreatDoor
open Go.RowKit
namespace rf
def shrR (v : Nat) (n : Int) : List Nat × Int := if n < 0 then ([], 2) else if v < topN then (nat32 (v / 2 ^ n.toNat), 0) else ([], 20)
def ShrG (v n b : Nat) (O : List Nat) (K s i place acc : Nat) : Prop := i = n + 8 * K + s ∧ s < 8 ∧ i < b ∧ place = 2 ^ s ∧ acc = v / 2 ^ (n + 8 * K) % 2 ^ s ∧ O.length = K ∧ Byt O ∧ valB 256 O = v / 2 ^ n % 256 ^ K
def ShrI (v n b : Nat) (O : List Nat) (i place acc : Nat) : Prop := (∃ K s, ShrG v n b O K s i place acc) ∨ (b ≤ i ∧ Byt O ∧ valB 256 O = v / 2 ^ n)
end rf
end Go.Proofs.YtpefjkndfifceaaGreatDoor
namespace Go.Proofs.YtpefjkndfifceaaGreatDoor
open Go.RowKit
namespace rf
end rf
end Go.Proofs.YtpefjkndfifceaaGreatDoor
namespace Go.Proofs.YtpefjkndfifceaaGreatDoor
open Go.RowKit
namespace rf
set_option maxRecDepth 100000 in
set_option maxHeartbeats 1000000 in
theorem read_any (a : Option Addr) (len cap : Nat) (l : List Nat) (w : World) (h : Reads .u8 w a len cap l) (hL : Byt l) (hm : len ≤ 1000000000000) :
  Calls Tryz.prog 47 #[.slice a len cap] w fun e w' => RetsQ2 .u32 71 w.heap.size w' (cutR32 (valB 256 l.reverse)) e ∧ Below w.heap.size w w' := by
 obtain ⟨i0, hi, hz0, hz1, hz2⟩ := info_parts infoI
 have HN := zH h.length
 have HRD := zH h
 have HBT := zH hL
 have HBR := zH (show Byt l.reverse from fun x hx => hL x (List.mem_reverse.1 hx))
 clear h hL
 go_enter Tryz.func47, Tryz.ntmps47
 go_wp2
 go_loopw [4, 5] (fun v i wr => ∃ k : Nat, ((∃ j : Nat, i = .int .i64 j ∧ j + k + 1 = len) ∨ (i = .int .i64 (-1) ∧ k = len)) ∧ OwnQ .i64 3 w.heap.size wr v (l.reverse.take k) ∧ Hid (Below w.heap.size w wr)) (fun _ i _ => (intOf i + 1).toNat)
 case atStart => exact ⟨0, down_start len, by simpa using OwnQ.nil _ _ _ _, Below.refl _ _⟩
 case round =>
  obtain ⟨k, hj, hown, hbel⟩ := hrel
  obtain ⟨wo, rfl⟩ : ∃ wo : World, wo = wr := ⟨_, rfl⟩
  obtain ⟨v2, n2, c2, rfl, -, hown⟩ := own_slice hown
  rcases hj with ⟨j, rfl, hjk⟩ | ⟨rfl, hkn⟩
  ·obtain ⟨b, off, rfl, hbk, hc⟩ := (HRD.out.below hbel.out).cells (by omega)
   have hck := hc j (by omega)
   have hd := get_lt (by decide) HBT.out j
   have hrs := zH (rev_succ l j k (by rw [HN.out]; exact hjk))
   have hsz := hbel.out.size
   have HO := zH hown
   have HJK := zH hjk
   have hjn : j < len := by omega
   have hlen := zH (show (l.reverse.take k).length ≤ len by rw [List.length_take, List.length_reverse, HN.out]; omega)
   clear hc hown hjk
   generalize l[j]?.getD 0 = d at *
   go_wp2_with (at_builtin; refine wpList_append_q .i64 _ rfl _ _ 109 rfl w.heap.size 3 8 i0 Tryz.underlying109 hi hz0 hz1 hz2 (by decide) _ (l.reverse.take k) rfl (HO.out.alloc _) _ _ _ [d] rfl (Reads.one .i64 _ _ _ _ (by omega)) (by have := hlen.out; omega) (by simp; omega) ?_; intro v' w2 hown2 hgrow)
   go_roundw
   case rel => exact ⟨k + 1, down_next HJK.out, by rw [hrs.out]; exact hown2, hgrow _ (hbel.out.alloc hsz _)⟩
   case measure => simp [intOf] <;> omega
  ·have hfin := zH (show l.reverse.take k = l.reverse by rw [List.take_of_length_le]; rw [List.length_reverse, HN.out]; omega)
   rw [hfin.out] at hown
   have HC := zH (cut_any _ _ _ l.reverse _ hown.reads HBR.out)
   have hsz := hbel.out.size
   clear hkn hown
   go_wp2_with fail
   refine HC.out.mono ?_
   rintro e w3 ⟨⟨v3, rfl, ho3⟩, hb3⟩
   have HBZ := zH (hbel.out.trans (hb3.mono hsz))
   go_wp2
   go_ret2
   exact ⟨⟨_, rfl, ho3.mono hsz⟩, HBZ.out⟩
end rf
end Go.Proofs.YtpefjkndfifceaaGreatDoor
namespace Go.Proofs.YtpefjkndfifceaaGreatDoor
open Go.RowKit
namespace rf
def subR (x y : Nat) : List Nat × Int := if x < topN ∧ y < topN ∧ y ≤ x then (nat32 (x - y), 0) else ([], 20)
theorem subR_yes {x y : Nat} (h : x < topN ∧ y < topN ∧ y ≤ x) : subR x y = (nat32 (x - y), 0) := if_pos h
theorem subR_no {x y : Nat} (h : ¬ (x < topN ∧ y < topN ∧ y ≤ x)) : subR x y = ([], 20) := if_neg h
def SubI (A B : List Nat) (k : Nat) (O : List Nat) (c : Nat) : Prop := O.length = k ∧ Byt O ∧ c ≤ 1 ∧ valB 256 O + valB 256 (B.take k) = valB 256 (A.take k) + 256 ^ k * c
theorem subI_nil (A B : List Nat) : SubI A B 0 [] 0 := ⟨rfl, fun _ h => (by cases h), by omega, rfl⟩
theorem subI_step {A B : List Nat} {k : Nat} {O : List Nat} {c : Nat} (h : SubI A B k O c) (s c' : Nat) (hc' : c' ≤ 1) (hs : s + c + B[k]?.getD 0 = A[k]?.getD 0 + 256 * c') (hs2 : s < 256) : SubI A B (k + 1) (O ++ [s]) c' := by
 obtain ⟨h1, h2, h3, h4⟩ := h
 refine ⟨by rw [List.length_append, h1]; rfl, ?_, hc', ?_⟩
 ·intro x hx
  rcases List.mem_append.1 hx with h | h
  ·exact h2 x h
  ·obtain rfl := List.mem_singleton.1 h; exact hs2
 ·rw [valB_snoc, valB_succ, valB_succ, h1, Nat.pow_succ]
  generalize 256 ^ k = p at *
  generalize A[k]?.getD 0 = a at *
  generalize B[k]?.getD 0 = b at *
  have e : p * (s + c + b) = p * (a + 256 * c') := by rw [hs]
  rw [Nat.mul_add, Nat.mul_add, Nat.mul_add, ← Nat.mul_assoc p 256 c'] at e
  omega
theorem subI_end {A B : List Nat} {k c : Nat} {O : List Nat} (h : SubI A B k O c) (hA : A.length ≤ k) (hB : B.length ≤ k) (hle : valB 256 B ≤ valB 256 A) : valB 256 O = valB 256 A - valB 256 B := by
 obtain ⟨h1, h2, h3, h4⟩ := h
 rw [List.take_of_length_le hA, List.take_of_length_le hB] at h4
 have hv := valB_lt (b := 256) (by decide) h2
 rw [h1] at hv
 have : c = 0 := by
  rcases Nat.eq_zero_or_pos c with h | h
  ·exact h
  ·obtain rfl : c = 1 := by omega
   omega
 subst this
 omega
set_option maxRecDepth 100000 in
set_option maxHeartbeats 4000000 in
theorem sub_any (a a' : Option Addr) (n c n' c' : Nat) (l l' : List Nat) (w : World) (h : Reads .u32 w a n c l) (h' : Reads .u32 w a' n' c' l') (hL : Lim l) (hL' : Lim l') (hm : n ≤ 1000000000000) (hm' : n' ≤ 1000000000000) :
  Calls Tryz.prog 53 #[.slice a n c, .slice a' n' c'] w fun e w' => RetsQ2 .u32 71 w.heap.size w' (subR (val32 l) (val32 l')) e ∧ Below w.heap.size w w' := by
 obtain ⟨i0, hi, hz0, hz1, hz2⟩ := info_parts infoI
 have HMY := zH (may_any a a' n c n' c' l l' w h h' hL hL' hm hm' _ rfl)
 have HCM := zH (fun (w1 : World) (hb : Below w.heap.size w w1) => cmp_any a a' n c n' c' l l' w1 (h.below hb) (h'.below hb) hL hL' hm hm' _ rfl)
 by_cases hin : val32 l < topN ∧ val32 l' < topN
 ·rw [decide_eq_true hin] at HMY
  by_cases hle : val32 l' ≤ val32 l
  ·rw [subR_yes ⟨hin.1, hin.2, hle⟩]
   have hord : 0 ≤ ordR (val32 l) (val32 l') := by unfold ordR; rw [if_neg (by omega)]; split <;> decide
   generalize ordR (val32 l) (val32 l') = o at *
   have ht1 : decide (o < 0) = false := by simp; omega
   have HIN := zH (show val32 l - val32 l' < topN from Nat.lt_of_le_of_lt (Nat.sub_le _ _) hin.1)
   have HR := zH h
   have HL := zH hL
   have HR' := zH h'
   have HL' := zH hL'
   have hlb : (natB 256 (val32 l)).length ≤ 1024 := (nat256_le _).2 hin.1
   have hlb' : (natB 256 (val32 l')).length ≤ 1024 := (nat256_le _).2 hin.2
   have hll : (natB 256 (val32 l')).length ≤ (natB 256 (val32 l)).length := Nat.le_of_not_lt fun hc => by have := longer hc; omega
   have HLE := zH hle
   have BA := zH (show Byt (natB 256 (val32 l)) from natB_digit (by decide) _)
   have BB := zH (show Byt (natB 256 (val32 l')) from natB_digit (by decide) _)
   have HV1 := zH (natB_val (b := 256) (by decide) (val32 l))
   have HV2 := zH (natB_val (b := 256) (by decide) (val32 l'))
   clear h h' hL hL' hin hord hle
   go_enter Tryz.func53, Tryz.ntmps53
   go_wp2_with fail
   refine HMY.out.mono ?_
   rintro e w0 ⟨rfl, hb0⟩
   have H0 := zH hb0
   clear hb0
   go_wp2_with fail
   refine (HCM.out _ H0.out).mono ?_
   rintro e w0' ⟨rfl, hb0⟩
   have H0' := zH (H0.out.trans (hb0.mono H0.out.size))
   clear hb0
   go_wp2_with fail
   refine (digits_any a n c l _ (HR.out.below H0'.out) HL.out hm).mono ?_
   rintro e w1 ⟨⟨v, rfl, ho⟩, hb⟩
   obtain ⟨a1, n1, c1, rfl, hn1, ho1⟩ := own_slice ho
   have HB := zH (H0'.out.trans (hb.mono H0'.out.size))
   have HO1 := zH ho1.reads
   have hx1 : n1 ≤ 1024 := by omega
   have HN1 := zH hn1
   rw [← hn1] at hll
   clear ho ho1 hb hn1 hlb
   go_wp2_with fail
   refine (digits_any a' n' c' l' _ (HR'.out.below HB.out) HL'.out hm').mono ?_
   rintro e w2 ⟨⟨v, rfl, ho⟩, hb⟩
   obtain ⟨a2, n2, c2, rfl, hn2, ho2⟩ := own_slice ho
   have HB2 := zH (HB.out.trans (hb.mono HB.out.size))
   have R1 := zH (HO1.out.below hb)
   have R2 := zH ho2.reads
   have HN2 := zH hn2
   rw [← hn2] at hll
   clear ho ho2 hb hn2 hlb'
   clear HO1 HB HMY HR HL HR' HL' H0 H0' HCM
   generalize hxx : val32 l = x at *
   generalize hyy : val32 l' = y at *
   have HXX := zH hxx
   have HYY := zH hyy
   clear hxx hyy
   generalize natB 256 x = A at *
   generalize natB 256 y = B at *
   go_wp2
   go_loopw [10, 11, 12, 13] (fun v s i _ wr => ∃ (k t : Nat) (O : List Nat), i = .int .i64 (k : Int) ∧ s = .int .i64 (t : Int) ∧ t ≤ 1 ∧ k ≤ n1 ∧ Hid (SubI A B k O t) ∧ OwnQ .i64 3 w2.heap.size wr v O ∧ Hid (Below w2.heap.size w2 wr)) (fun _ _ i _ _ => n1 - (intOf i).toNat)
   case atStart => exact ⟨0, 0, [], rfl, rfl, by omega, Nat.zero_le _, subI_nil A B, OwnQ.nil _ _ _ _, Below.refl _ _⟩
   case round =>
    obtain ⟨k, t, O, rfl, rfl, ht, hk, hinv, hown, hbel⟩ := hrel
    obtain ⟨wo, rfl⟩ : ∃ wo : World, wo = wr := ⟨_, rfl⟩
    obtain ⟨v2, n3, c3, rfl, -, hown⟩ := own_slice hown
    by_cases h1 : k < n1
    ·have HO := zH hown
     have hOl := zH hinv.out.1
     have hsz := hbel.out.size
     obtain ⟨b1, o1, rfl, -, hc1⟩ := (R1.out.below hbel.out).cells (by omega)
     have ck1 := hc1 k h1
     have hcB : k < n2 → ∃ b off, a2 = some ⟨b, off, none⟩ ∧ wo.cell? ⟨b, off + k, none⟩ = some (.int .i64 ((B[k]?.getD 0 : Nat) : Int)) := fun hk => by
      obtain ⟨b, off, e, _, hc⟩ := (R2.out.below hbel.out).cells (by omega)
      exact ⟨b, off, e, hc k hk⟩
     have zB : ¬ k < n2 → B[k]?.getD 0 = 0 := fun hk => by rw [List.getElem?_eq_none (by rw [← HN2.out]; omega)]; rfl
     have dA := get_lt (by decide) BA.out k
     have dB := get_lt (by decide) BB.out k
     have HST := zH (subI_step hinv.out)
     have CB := zH hcB
     have ZB := zH zB
     clear hown hcB zB hc1 hinv
     generalize A[k]?.getD 0 = d at *
     generalize B[k]?.getD 0 = d' at *
     by_cases h2 : k < n2
     ·obtain ⟨b2, o2, rfl, cB⟩ := CB.out h2
      by_cases hbo : d < t + d'
      ·obtain ⟨s, hs⟩ : ∃ s : Nat, (s : Int) = ((d : Int) - (t : Int) - (d' : Int)) + 256 := ⟨(((d : Int) - (t : Int) - (d' : Int)) + 256).toNat, by omega⟩
       have hst := zH (HST.out s 1 (by omega) (by omega) (by omega))
       have hs256 : s < 256 := by omega
       have htn : decide (((d : Int) - (t : Int) - (d' : Int)) < 0) = true := by simp; omega
       have HS := zH hs.symm
       clear HST CB ZB hs
       go_wp2_with (at_builtin; refine wpList_append_q .i64 _ rfl _ _ 109 rfl w2.heap.size 3 8 i0 Tryz.underlying109 hi hz0 hz1 hz2 (by decide) _ O rfl (HO.out.alloc _) _ _ _ [s] rfl (Reads.one .i64 _ _ _ _ (by have := HS.out; omega)) (by have := hOl.out; omega) (by simp; omega) ?_; intro v' w3 hown3 hgrow)
       go_roundw
       case rel => exact ⟨k + 1, 1, _, by go_num, by go_num, by omega, by omega, hst.out, hown3, hgrow _ (hbel.out.alloc hsz _)⟩
       case measure => simp [intOf] <;> omega
      ·obtain ⟨s, hs⟩ : ∃ s : Nat, (s : Int) = ((d : Int) - (t : Int) - (d' : Int)) := ⟨(((d : Int) - (t : Int) - (d' : Int))).toNat, by omega⟩
       have hst := zH (HST.out s 0 (by omega) (by omega) (by omega))
       have hs256 : s < 256 := by omega
       have htn : decide (((d : Int) - (t : Int) - (d' : Int)) < 0) = false := by simp; omega
       have HS := zH hs.symm
       clear HST CB ZB hs
       go_wp2_with (at_builtin; refine wpList_append_q .i64 _ rfl _ _ 109 rfl w2.heap.size 3 8 i0 Tryz.underlying109 hi hz0 hz1 hz2 (by decide) _ O rfl (HO.out.alloc _) _ _ _ [s] rfl (Reads.one .i64 _ _ _ _ (by have := HS.out; omega)) (by have := hOl.out; omega) (by simp; omega) ?_; intro v' w3 hown3 hgrow)
       go_roundw
       case rel => exact ⟨k + 1, 0, _, by go_num, by go_num, by omega, by omega, hst.out, hown3, hgrow _ (hbel.out.alloc hsz _)⟩
       case measure => simp [intOf] <;> omega
     ·have z2 := ZB.out h2
      subst z2
      by_cases hbo : d < t
      ·obtain ⟨s, hs⟩ : ∃ s : Nat, (s : Int) = ((d : Int) - (t : Int)) + 256 := ⟨(((d : Int) - (t : Int)) + 256).toNat, by omega⟩
       have hst := zH (HST.out s 1 (by omega) (by omega) (by omega))
       have hs256 : s < 256 := by omega
       have htn : decide (((d : Int) - (t : Int)) < 0) = true := by simp; omega
       have HS := zH hs.symm
       clear HST CB ZB hs
       go_wp2_with (at_builtin; refine wpList_append_q .i64 _ rfl _ _ 109 rfl w2.heap.size 3 8 i0 Tryz.underlying109 hi hz0 hz1 hz2 (by decide) _ O rfl (HO.out.alloc _) _ _ _ [s] rfl (Reads.one .i64 _ _ _ _ (by have := HS.out; omega)) (by have := hOl.out; omega) (by simp; omega) ?_; intro v' w3 hown3 hgrow)
       go_roundw
       case rel => exact ⟨k + 1, 1, _, by go_num, by go_num, by omega, by omega, hst.out, hown3, hgrow _ (hbel.out.alloc hsz _)⟩
       case measure => simp [intOf] <;> omega
      ·obtain ⟨s, hs⟩ : ∃ s : Nat, (s : Int) = ((d : Int) - (t : Int)) := ⟨(((d : Int) - (t : Int))).toNat, by omega⟩
       have hst := zH (HST.out s 0 (by omega) (by omega) (by omega))
       have hs256 : s < 256 := by omega
       have htn : decide (((d : Int) - (t : Int)) < 0) = false := by simp; omega
       have HS := zH hs.symm
       clear HST CB ZB hs
       go_wp2_with (at_builtin; refine wpList_append_q .i64 _ rfl _ _ 109 rfl w2.heap.size 3 8 i0 Tryz.underlying109 hi hz0 hz1 hz2 (by decide) _ O rfl (HO.out.alloc _) _ _ _ [s] rfl (Reads.one .i64 _ _ _ _ (by have := HS.out; omega)) (by have := hOl.out; omega) (by simp; omega) ?_; intro v' w3 hown3 hgrow)
       go_roundw
       case rel => exact ⟨k + 1, 0, _, by go_num, by go_num, by omega, by omega, hst.out, hown3, hgrow _ (hbel.out.alloc hsz _)⟩
       case measure => simp [intOf] <;> omega
    ·have hend := zH (subI_end hinv.out (by rw [← HN1.out]; omega) (by rw [← HN2.out]; omega) (by rw [HV1.out, HV2.out]; exact HLE.out))
     have hby := zH hinv.out.2.1
     have HC := zH (cut_any _ _ _ O _ hown.reads hby.out)
     rw [hend.out, HV1.out, HV2.out, cutR_small HIN.out] at HC
     have hsz := hbel.out.size
     clear hown hinv
     go_wp2_with fail
     refine HC.out.mono ?_
     rintro e w3 ⟨⟨v3, rfl, ho3⟩, hb3⟩
     have HBZ := zH (HB2.out.trans ((hbel.out.trans (hb3.mono hsz)).mono HB2.out.size))
     go_wp2
     go_ret2
     rw [HXX.out, HYY.out]
     exact ⟨⟨_, rfl, ho3.mono (Nat.le_trans HB2.out.size hsz)⟩, HBZ.out⟩
  ·rw [subR_no (fun e => hle e.2.2)]
   have hord : ordR (val32 l) (val32 l') = -1 := ordR_lt (by omega)
   rw [hord] at HCM
   clear hin hle hord h h' hL hL'
   go_enter Tryz.func53, Tryz.ntmps53
   go_wp2_with fail
   refine HMY.out.mono ?_
   rintro e w0 ⟨rfl, hb0⟩
   have H0 := zH hb0
   clear hb0
   go_wp2_with fail
   refine (HCM.out _ H0.out).mono ?_
   rintro e w0' ⟨rfl, hb0⟩
   have H0' := zH (H0.out.trans (hb0.mono H0.out.size))
   clear hb0
   go_wp2
   go_ret2
   exact ⟨⟨_, rfl, OwnQ.nil _ _ _ _⟩, H0'.out⟩
 ·rw [decide_eq_false hin] at HMY
  rw [subR_no (fun e => hin ⟨e.1, e.2.1⟩)]
  clear hin h h' hL hL'
  go_enter Tryz.func53, Tryz.ntmps53
  go_wp2_with fail
  refine HMY.out.mono ?_
  rintro e w0 ⟨rfl, hb0⟩
  have H0 := zH hb0
  clear hb0
  go_wp2_with fail
  refine (HCM.out _ H0.out).mono ?_
  rintro e w0' ⟨rfl, hb0⟩
  have H0' := zH (H0.out.trans (hb0.mono H0.out.size))
  clear hb0
  go_wp2
  go_ret2
  exact ⟨⟨_, rfl, OwnQ.nil _ _ _ _⟩, H0'.out⟩
end rf
end Go.Proofs.YtpefjkndfifceaaGreatDoor
namespace Go.Proofs.YtpefjkndfifceaaGreatDoor
open Go.RowKit
namespace rf
theorem natB_short (x : Nat) : bareN (natB 256 x) = natB 256 x := by
 rw [bareN_eq (by decide) (natB_digit (by decide) x), natB_val (by decide)]
theorem longer_le {x y : Nat} (h : (natB 256 x).length < (natB 256 y).length) : decide (x < y) = true := decide_eq_true (longer h)
theorem shorter_le {x y : Nat} (h : (natB 256 y).length < (natB 256 x).length) : decide (x < y) = false := decide_eq_false (by have := longer h; omega)
set_option maxRecDepth 100000 in
set_option maxHeartbeats 1000000 in
theorem less_any (a a' : Option Addr) (n c n' c' : Nat) (x y : Nat) (w : World) (h : Reads .i64 w a n c (natB 256 x)) (h' : Reads .i64 w a' n' c' (natB 256 y)) (hm : n ≤ 1000000000000) (hm' : n' ≤ 1000000000000) (r : Bool) (hr : r = decide (x < y)) :
  Calls Tryz.prog 169 #[.slice a n c, .slice a' n' c'] w fun e w' => e = .returned (.bool r) ∧ Below w.heap.size w w' := by
 have HS := zH (short_any a n c _ w h n (by rw [natB_short, h.length]))
 have HS' := zH (short_any a' n' c' _ w h' n' (by rw [natB_short, h'.length]))
 have HN1 := zH h.length.symm
 have HN2 := zH h'.length.symm
 have R1 := zH h
 have R2 := zH h'
 have HRR := zH hr
 clear hr h h'
 go_enter Tryz.func169, Tryz.ntmps169
 go_wp2_with fail
 refine HS.out.mono ?_
 rintro e w1 ⟨rfl, rfl⟩
 go_wp2_with fail
 refine HS'.out.mono ?_
 rintro e w1 ⟨rfl, rfl⟩
 clear HS HS'
 rcases Nat.lt_trichotomy n n' with hc | rfl | hc
 ·have hres := zH (show r = true by rw [HRR.out]; exact longer_le (by rw [← HN1.out, ← HN2.out]; exact hc))
  have t1 : ((n : Int) == n') = false := by simp; omega
  have t2 : decide (n < n') = true := decide_eq_true hc
  go_wp2
  go_ret
  exact ⟨by rw [hres.out]; rfl, Below.refl _ _⟩
 ·go_wp2
  go_loopw [5] (fun i wr => ∃ j : Nat, i = .int .i64 ((j : Int) - 1) ∧ j ≤ n ∧ Hid (x / 256 ^ j = y / 256 ^ j) ∧ Hid (Below w.heap.size w wr)) (fun i _ => (intOf i + 1).toNat)
  case atStart => exact ⟨n, by go_num, Nat.le_refl _, by unfold Hid; rw [HN1.out, top_zero, ← HN1.out, HN2.out, top_zero], Below.refl _ _⟩
  case round =>
   obtain ⟨j, rfl, hj, hq, hbel⟩ := hrel
   rcases Nat.eq_zero_or_pos j with rfl | hp
   ·have hres := zH (show r = false by rw [HRR.out]; exact decide_eq_false (by have := hq.out; simp at this; omega))
    go_wp2
    go_ret
    exact ⟨by rw [hres.out]; rfl, hbel.out⟩
   ·obtain ⟨k, rfl⟩ : ∃ k, j = k + 1 := ⟨j - 1, by omega⟩
    clear hp
    obtain ⟨b, off, rfl, hbk, hcl⟩ := (R1.out.below hbel.out).cells (by omega)
    obtain ⟨b', off', rfl, hbk', hcl'⟩ := (R2.out.below hbel.out).cells (by omega)
    have hck := hcl k (by omega)
    have hck' := hcl' k (by omega)
    rw [natB_get (by decide)] at hck hck'
    obtain ⟨hlt, heq⟩ := digit_up hq.out
    have hgt := (digit_up hq.out.symm).1
    have hd1 : x / 256 ^ k % 256 < 256 := Nat.mod_lt _ (by decide)
    have hd2 : y / 256 ^ k % 256 < 256 := Nat.mod_lt _ (by decide)
    have HLT := zH hlt
    have HEQ := zH heq
    have HGT := zH hgt
    have hkn : k < n := by omega
    have hki : ((k + 1 : Nat) : Int) - 1 = (k : Int) := by omega
    simp only [hki]
    clear hcl hcl' hlt heq hgt hki
    generalize x / 256 ^ k % 256 = d at *
    generalize y / 256 ^ k % 256 = d' at *
    rcases Nat.lt_trichotomy d d' with h1 | h1 | h1
    ·have hres := zH (show r = true by rw [HRR.out]; exact decide_eq_true (HLT.out h1))
     have t1 : ((d : Int) == d') = false := by simp; omega
     have t2 : decide (d < d') = true := decide_eq_true h1
     clear HLT HEQ HGT
     go_wp2_with go_quiet (fail)
     go_ret
     exact ⟨by rw [hres.out]; rfl, below_drewN (below_drewN hbel.out _) _⟩
    ·have hq2 := zH (HEQ.out h1)
     subst h1
     clear HLT HEQ HGT
     go_wp2_with go_quiet (fail)
     go_roundw
     case rel => exact ⟨k, by go_num, by omega, hq2.out, below_drewN hbel.out _⟩
     case measure => simp [intOf] <;> omega
    ·have hres := zH (show r = false by rw [HRR.out]; exact decide_eq_false (by have := HGT.out h1; omega))
     have t1 : ((d : Int) == d') = false := by simp; omega
     have t2 : decide (d < d') = false := decide_eq_false (by omega)
     clear HLT HEQ HGT
     go_wp2_with go_quiet (fail)
     go_ret
     exact ⟨by rw [hres.out]; rfl, below_drewN (below_drewN hbel.out _) _⟩
 ·have hres := zH (show r = false by rw [HRR.out]; exact shorter_le (by rw [← HN1.out, ← HN2.out]; exact hc))
  have t1 : ((n : Int) == n') = false := by simp; omega
  have t2 : decide (n < n') = false := decide_eq_false (by omega)
  go_wp2
  go_ret
  exact ⟨by rw [hres.out]; rfl, Below.refl _ _⟩
end rf
end Go.Proofs.YtpefjkndfifceaaGreatDoor
namespace Go.Proofs.YtpefjkndfifceaaGreatDoor
open Go.RowKit
namespace rf
theorem natB_of_val {l : List Nat} {v : Nat} (hb : Byt l) (hv : valB 256 l = v) : natB 256 v = l.take (bareN l).length := by
 rw [← bareN_prefix, bareN_eq (by decide) hb, hv]
set_option maxRecDepth 100000 in
set_option maxHeartbeats 1000000 in
theorem minus_any (a a' : Option Addr) (n c n' c' : Nat) (x y : Nat) (w : World) (h : Reads .i64 w a n c (natB 256 x)) (h' : Reads .i64 w a' n' c' (natB 256 y)) (hm : n ≤ 1000000000000) (hm' : n' ≤ 1000000000000) (hle : y ≤ x) :
  Calls Tryz.prog 170 #[.slice a n c, .slice a' n' c'] w fun e w' => RetsQ .i64 3 w.heap.size w' (natB 256 (x - y)) e ∧ Below w.heap.size w w' := by
 obtain ⟨i0, hi, hz0, hz1, hz2⟩ := info_parts infoI
 have BA := zH (show Byt (natB 256 x) from natB_digit (by decide) _)
 have BB := zH (show Byt (natB 256 y) from natB_digit (by decide) _)
 have HV1 := zH (natB_val (b := 256) (by decide) x)
 have HV2 := zH (natB_val (b := 256) (by decide) y)
 have HN1 := zH h.length.symm
 have HN2 := zH h'.length.symm
 have HLL := zH (show n' ≤ n by rw [← h.length, ← h'.length]; exact Nat.le_of_not_lt fun hc => by have := longer hc; omega)
 have HLE := zH hle
 have R1 := zH h
 have R2 := zH h'
 clear h h' hle
 generalize natB 256 x = A at R1 BA HV1 HN1
 generalize natB 256 y = B at R2 BB HV2 HN2
 go_enter Tryz.func170, Tryz.ntmps170
 go_wp2
 go_loopw [5, 6, 7, 8] (fun v s i _ wr => ∃ (k t : Nat) (O : List Nat), i = .int .i64 (k : Int) ∧ s = .int .i64 (t : Int) ∧ t ≤ 1 ∧ k ≤ n ∧ Hid (SubI A B k O t) ∧ OwnQ .i64 3 w.heap.size wr v O ∧ Hid (Below w.heap.size w wr)) (fun _ _ i _ _ => n - (intOf i).toNat)
 case atStart => exact ⟨0, 0, [], rfl, rfl, by omega, Nat.zero_le _, subI_nil A B, OwnQ.nil _ _ _ _, Below.refl _ _⟩
 case round =>
  obtain ⟨k, t, O, rfl, rfl, ht, hk, hinv, hown, hbel⟩ := hrel
  obtain ⟨wo, rfl⟩ : ∃ wo : World, wo = wr := ⟨_, rfl⟩
  obtain ⟨v2, n3, c3, rfl, hn3, hown⟩ := own_slice hown
  by_cases h1 : k < n
  ·clear hn3
   have HO := zH hown
   have hOl := zH hinv.out.1
   have hsz := hbel.out.size
   obtain ⟨b1, o1, rfl, -, hc1⟩ := (R1.out.below hbel.out).cells (by omega)
   have ck1 := hc1 k h1
   have hcB : k < n' → ∃ b off, a' = some ⟨b, off, none⟩ ∧ wo.cell? ⟨b, off + k, none⟩ = some (.int .i64 ((B[k]?.getD 0 : Nat) : Int)) := fun hk => by
    obtain ⟨b, off, e, _, hc⟩ := (R2.out.below hbel.out).cells (by omega)
    exact ⟨b, off, e, hc k hk⟩
   have zB : ¬ k < n' → B[k]?.getD 0 = 0 := fun hk => by rw [List.getElem?_eq_none (by rw [← HN2.out]; omega)]; rfl
   have dA := get_lt (by decide) BA.out k
   have dB := get_lt (by decide) BB.out k
   have HST := zH (subI_step hinv.out)
   have CB := zH hcB
   have ZB := zH zB
   clear hown hcB zB hc1 hinv
   generalize A[k]?.getD 0 = d at *
   generalize B[k]?.getD 0 = d' at *
   by_cases h2 : k < n'
   ·obtain ⟨b2, o2, rfl, cB⟩ := CB.out h2
    by_cases hbo : d < t + d'
    ·obtain ⟨s, hs⟩ : ∃ s : Nat, (s : Int) = ((d : Int) - (t : Int) - (d' : Int)) + 256 := ⟨(((d : Int) - (t : Int) - (d' : Int)) + 256).toNat, by omega⟩
     have hst := zH (HST.out s 1 (by omega) (by omega) (by omega))
     have hs256 : s < 256 := by omega
     have htn : decide (((d : Int) - (t : Int) - (d' : Int)) < 0) = true := by simp; omega
     have HS := zH hs.symm
     clear HST CB ZB hs
     go_wp2_with (at_builtin; refine wpList_append_q .i64 _ rfl _ _ 109 rfl w.heap.size 3 8 i0 Tryz.underlying109 hi hz0 hz1 hz2 (by decide) _ O rfl (HO.out.alloc _) _ _ _ [s] rfl (Reads.one .i64 _ _ _ _ (by have := HS.out; omega)) (by have := hOl.out; omega) (by simp; omega) ?_; intro v' w3 hown3 hgrow)
     go_roundw
     case rel => exact ⟨k + 1, 1, _, by go_num, by go_num, by omega, by omega, hst.out, hown3, hgrow _ (hbel.out.alloc hsz _)⟩
     case measure => simp [intOf] <;> omega
    ·obtain ⟨s, hs⟩ : ∃ s : Nat, (s : Int) = ((d : Int) - (t : Int) - (d' : Int)) := ⟨(((d : Int) - (t : Int) - (d' : Int))).toNat, by omega⟩
     have hst := zH (HST.out s 0 (by omega) (by omega) (by omega))
     have hs256 : s < 256 := by omega
     have htn : decide (((d : Int) - (t : Int) - (d' : Int)) < 0) = false := by simp; omega
     have HS := zH hs.symm
     clear HST CB ZB hs
     go_wp2_with (at_builtin; refine wpList_append_q .i64 _ rfl _ _ 109 rfl w.heap.size 3 8 i0 Tryz.underlying109 hi hz0 hz1 hz2 (by decide) _ O rfl (HO.out.alloc _) _ _ _ [s] rfl (Reads.one .i64 _ _ _ _ (by have := HS.out; omega)) (by have := hOl.out; omega) (by simp; omega) ?_; intro v' w3 hown3 hgrow)
     go_roundw
     case rel => exact ⟨k + 1, 0, _, by go_num, by go_num, by omega, by omega, hst.out, hown3, hgrow _ (hbel.out.alloc hsz _)⟩
     case measure => simp [intOf] <;> omega
   ·have z2 := ZB.out h2
    subst z2
    by_cases hbo : d < t
    ·obtain ⟨s, hs⟩ : ∃ s : Nat, (s : Int) = ((d : Int) - (t : Int)) + 256 := ⟨(((d : Int) - (t : Int)) + 256).toNat, by omega⟩
     have hst := zH (HST.out s 1 (by omega) (by omega) (by omega))
     have hs256 : s < 256 := by omega
     have htn : decide (((d : Int) - (t : Int)) < 0) = true := by simp; omega
     have HS := zH hs.symm
     clear HST CB ZB hs
     go_wp2_with (at_builtin; refine wpList_append_q .i64 _ rfl _ _ 109 rfl w.heap.size 3 8 i0 Tryz.underlying109 hi hz0 hz1 hz2 (by decide) _ O rfl (HO.out.alloc _) _ _ _ [s] rfl (Reads.one .i64 _ _ _ _ (by have := HS.out; omega)) (by have := hOl.out; omega) (by simp; omega) ?_; intro v' w3 hown3 hgrow)
     go_roundw
     case rel => exact ⟨k + 1, 1, _, by go_num, by go_num, by omega, by omega, hst.out, hown3, hgrow _ (hbel.out.alloc hsz _)⟩
     case measure => simp [intOf] <;> omega
    ·obtain ⟨s, hs⟩ : ∃ s : Nat, (s : Int) = ((d : Int) - (t : Int)) := ⟨(((d : Int) - (t : Int))).toNat, by omega⟩
     have hst := zH (HST.out s 0 (by omega) (by omega) (by omega))
     have hs256 : s < 256 := by omega
     have htn : decide (((d : Int) - (t : Int)) < 0) = false := by simp; omega
     have HS := zH hs.symm
     clear HST CB ZB hs
     go_wp2_with (at_builtin; refine wpList_append_q .i64 _ rfl _ _ 109 rfl w.heap.size 3 8 i0 Tryz.underlying109 hi hz0 hz1 hz2 (by decide) _ O rfl (HO.out.alloc _) _ _ _ [s] rfl (Reads.one .i64 _ _ _ _ (by have := HS.out; omega)) (by have := hOl.out; omega) (by simp; omega) ?_; intro v' w3 hown3 hgrow)
     go_roundw
     case rel => exact ⟨k + 1, 0, _, by go_num, by go_num, by omega, by omega, hst.out, hown3, hgrow _ (hbel.out.alloc hsz _)⟩
     case measure => simp [intOf] <;> omega
  ·have hend := zH (subI_end hinv.out (by rw [← HN1.out]; omega) (by rw [← HN2.out]; have := HLL.out; omega) (by rw [HV1.out, HV2.out]; exact HLE.out))
   have hby := zH hinv.out.2.1
   have hbl := bareN_le O
   have HC := zH (short_any _ _ _ O wo hown.reads _ rfl)
   have HO := zH (hown.upto (bareN O).length (by rw [hn3]; exact hbl))
   rw [← natB_of_val hby.out (hend.out.trans (by rw [HV1.out, HV2.out]))] at HO
   clear hown hinv hn3
   generalize (bareN O).length = u at *
   go_wp2_with fail
   refine HC.out.mono ?_
   rintro e w3 ⟨rfl, rfl⟩
   go_wp2
   go_ret
   exact ⟨⟨_, rfl, HO.out⟩, hbel.out⟩
def TwI (A : List Nat) (k : Nat) (O : List Nat) (c : Nat) : Prop := O.length = k ∧ Byt O ∧ c ≤ 1 ∧ valB 256 O + 256 ^ k * c = 2 * valB 256 (A.take k)
theorem twI_nil (A : List Nat) : TwI A 0 [] 0 := ⟨rfl, fun _ h => (by cases h), by omega, rfl⟩
theorem twI_step {A : List Nat} {k : Nat} {O : List Nat} {c : Nat} (hA : Byt A) (h : TwI A k O c) (s : Nat) (hs : s = c + 2 * (A[k]?.getD 0)) : TwI A (k + 1) (O ++ [s % 256]) (s / 256) := by
 obtain ⟨h1, h2, h3, h4⟩ := h
 have ha := get_lt (by decide) hA k
 refine ⟨by rw [List.length_append, h1]; rfl, ?_, by omega, ?_⟩
 ·intro x hx
  rcases List.mem_append.1 hx with h | h
  ·exact h2 x h
  ·obtain rfl := List.mem_singleton.1 h; exact Nat.mod_lt _ (by decide)
 ·rw [valB_snoc, valB_succ, h1, Nat.pow_succ]
  generalize 256 ^ k = p at *
  generalize A[k]?.getD 0 = a at *
  have e : p * (s % 256) + p * 256 * (s / 256) = p * s := by
   rw [Nat.mul_assoc, ← Nat.mul_add]; congr 1; omega
  have e2 : p * s = p * c + 2 * (p * a) := by rw [hs, Nat.mul_add, Nat.mul_left_comm]
  omega
theorem twI_end {A : List Nat} {k c : Nat} {O : List Nat} (h : TwI A k O c) (hA : A.length ≤ k) : Byt (O ++ [c]) ∧ valB 256 (O ++ [c]) = 2 * valB 256 A := by
 obtain ⟨h1, h2, h3, h4⟩ := h
 rw [List.take_of_length_le hA] at h4
 refine ⟨?_, by rw [valB_snoc, h1, h4]⟩
 intro x hx
 rcases List.mem_append.1 hx with h | h
 ·exact h2 x h
 ·obtain rfl := List.mem_singleton.1 h; omega
set_option maxRecDepth 100000 in
set_option maxHeartbeats 1000000 in
theorem twice_any (a : Option Addr) (n c : Nat) (x : Nat) (w : World) (h : Reads .i64 w a n c (natB 256 x)) (hm : n ≤ 1000000000000) :
  Calls Tryz.prog 168 #[.slice a n c] w fun e w' => RetsQ .i64 3 w.heap.size w' (natB 256 (2 * x)) e ∧ Below w.heap.size w w' := by
 obtain ⟨i0, hi, hz0, hz1, hz2⟩ := info_parts infoI
 have BA := zH (show Byt (natB 256 x) from natB_digit (by decide) _)
 have HV1 := zH (natB_val (b := 256) (by decide) x)
 have HN1 := zH h.length.symm
 have R1 := zH h
 clear h
 generalize natB 256 x = A at R1 BA HV1 HN1
 go_enter Tryz.func168, Tryz.ntmps168
 go_wp2
 go_loopw [3, 4, 5] (fun v s i wr => ∃ (k t : Nat) (O : List Nat), i = .int .i64 (k : Int) ∧ s = .int .i64 (t : Int) ∧ t ≤ 1 ∧ k ≤ n ∧ Hid (TwI A k O t) ∧ OwnQ .i64 3 w.heap.size wr v O ∧ Hid (Below w.heap.size w wr)) (fun _ _ i _ => n - (intOf i).toNat)
 case atStart => exact ⟨0, 0, [], rfl, rfl, by omega, Nat.zero_le _, twI_nil A, OwnQ.nil _ _ _ _, Below.refl _ _⟩
 case round =>
  obtain ⟨k, t, O, rfl, rfl, ht, hk, hinv, hown, hbel⟩ := hrel
  obtain ⟨wo, rfl⟩ : ∃ wo : World, wo = wr := ⟨_, rfl⟩
  obtain ⟨v2, n3, c3, rfl, hn3, hown⟩ := own_slice hown
  have HO := zH hown
  have hOl := zH hinv.out.1
  have hsz := hbel.out.size
  clear hn3
  by_cases h1 : k < n
  ·obtain ⟨b1, o1, rfl, -, hc1⟩ := (R1.out.below hbel.out).cells (by omega)
   have ck1 := hc1 k h1
   have dA := get_lt (by decide) BA.out k
   have HST := zH (twI_step BA.out hinv.out)
   clear hown hc1 hinv
   generalize A[k]?.getD 0 = d at *
   obtain ⟨s, hs⟩ : ∃ s : Nat, s = t + 2 * d := ⟨_, rfl⟩
   have hst := zH (HST.out s hs)
   have hS := zH (show (t : Int) + 2 * (d : Int) = (s : Int) by omega)
   have hs1 : s ≤ 511 := by omega
   have hm1 : (s : Int).tmod 256 = ((s % 256 : Nat) : Int) := by rw [Int.tmod_eq_emod_of_nonneg (by omega)]; omega
   have hq1 : (s : Int).tdiv 256 = ((s / 256 : Nat) : Int) := by rw [Int.tdiv_eq_ediv_of_nonneg (by omega)]; omega
   have hq2 : s / 256 ≤ 1 := by omega
   have hm2 : s % 256 < 256 := by omega
   have HM1 := zH hm1
   clear HST hs
   go_wp2_with (at_builtin; refine wpList_append_q .i64 _ rfl _ _ 109 rfl w.heap.size 3 8 i0 Tryz.underlying109 hi hz0 hz1 hz2 (by decide) _ O rfl (HO.out.alloc _) _ _ _ [s % 256] rfl (Reads.one .i64 _ _ _ _ (by have := hS.out; have := HM1.out; omega)) (by have := hOl.out; omega) (by simp; omega) ?_; intro v' w3 hown3 hgrow)
   go_roundw
   case rel => exact ⟨k + 1, s / 256, _, by go_num, by have := hS.out; go_num, by omega, by omega, hst.out, hown3, hgrow _ (hbel.out.alloc hsz _)⟩
   case measure => simp [intOf] <;> omega
  ·obtain ⟨hby, hend⟩ := twI_end hinv.out (by rw [← HN1.out]; omega)
   rw [HV1.out] at hend
   have hbl := bareN_le (O ++ [t])
   have HB := zH hby
   have HE := zH hend
   clear hown hinv hby hend
   go_wp2_with (at_builtin; refine wpList_append_q .i64 _ rfl _ _ 109 rfl w.heap.size 3 8 i0 Tryz.underlying109 hi hz0 hz1 hz2 (by decide) _ O rfl (HO.out.alloc _) _ _ _ [t] rfl (Reads.one .i64 _ _ _ _ rfl) (by have := hOl.out; omega) (by simp; omega) ?_; intro v' w3 hown3 hgrow)
   obtain ⟨v4, n4, c4, rfl, hn4, hown4⟩ := own_slice hown3
   have HC := zH (short_any _ _ _ _ w3 hown4.reads _ rfl)
   have HO4 := zH (hown4.upto (bareN (O ++ [t])).length (by rw [hn4]; exact hbl))
   rw [← natB_of_val HB.out HE.out] at HO4
   have HBB := zH (hgrow _ (hbel.out.alloc hsz _))
   clear hown3 hgrow hown4 hn4
   generalize (bareN (O ++ [t])).length = u at *
   go_wp2_with fail
   refine HC.out.mono ?_
   rintro e w5 ⟨rfl, rfl⟩
   go_wp2
   go_ret
   exact ⟨⟨_, rfl, HO4.out⟩, HBB.out⟩
end rf
end Go.Proofs.YtpefjkndfifceaaGreatDoor
namespace Go.Proofs.YtpefjkndfifceaaGreatDoor
open Go.RowKit
namespace rf
theorem valB_drop (b : Nat) (l : List Nat) (i : Nat) : valB b (l.drop i) = l[i]?.getD 0 + b * valB b (l.drop (i + 1)) := by
 by_cases h : i < l.length
 ·rw [List.drop_eq_getElem_cons h, List.getElem?_eq_getElem h]; rfl
 ·rw [List.drop_eq_nil_of_le (by omega), List.drop_eq_nil_of_le (by omega), List.getElem?_eq_none (by omega)]; simp [valB]
def PaO (x y n j : Nat) (Q : List Nat) (R : Nat) : Prop := Q.length = n ∧ (∀ t : Nat, t < j → Q[t]?.getD 0 = 0) ∧ Byt Q ∧ x / 256 ^ j = valB 256 (Q.drop j) * y + R ∧ R < y
def PaI (x y n i k : Nat) (Q : List Nat) (r : Nat) : Prop := Q.length = n ∧ (∀ t : Nat, t < i → Q[t]?.getD 0 = 0) ∧ Byt Q ∧ Q[i]?.getD 0 + 2 ^ k ≤ 256 ∧ x / 256 ^ i = valB 256 (Q.drop i) * y + r ∧ r < 2 ^ k * y
theorem paO_start (x y n : Nat) (hy : 0 < y) (hx : x < 256 ^ n) : PaO x y n n (List.replicate n 0) 0 := by
 refine ⟨by simp, fun t ht => ?_, fun u hu => ?_, ?_, hy⟩
 ·rw [List.getElem?_replicate]; split <;> rfl
 ·rw [List.eq_of_mem_replicate hu]; decide
 ·rw [List.drop_eq_nil_of_le (by simp), Nat.div_eq_of_lt hx]; simp [valB]
theorem paI_start {x y n i : Nat} {Q : List Nat} {R : Nat} (h : PaO x y n (i + 1) Q R) : PaI x y n i 8 Q (x / 256 ^ i % 256 + 256 * R) := by
 obtain ⟨h1, h2, h3, h4, h5⟩ := h
 have hz := h2 i (by omega)
 refine ⟨h1, fun t ht => h2 t (by omega), h3, by rw [hz]; decide, ?_, ?_⟩
 ·rw [valB_drop, hz, Nat.zero_add]
  rw [Nat.pow_succ, ← Nat.div_div_eq_div_mul] at h4
  generalize valB 256 (Q.drop (i + 1)) = v at *
  generalize x / 256 ^ i = u at *
  have e : 256 * v * y = 256 * (v * y) := Nat.mul_assoc _ _ _
  omega
 ·have hd : x / 256 ^ i % 256 < 256 := Nat.mod_lt _ (by decide)
  generalize x / 256 ^ i % 256 = d at *
  rw [show (2 : Nat) ^ 8 = 256 by decide]
  omega
theorem paI_less {x y n i k : Nat} {Q : List Nat} {r : Nat} (h : PaI x y n i (k + 1) Q r) (hr : r < 2 ^ k * y) : PaI x y n i k Q r := by
 obtain ⟨h1, h2, h3, h4, h5, -⟩ := h
 have : 2 ^ k ≤ 2 ^ (k + 1) := Nat.pow_le_pow_right (by decide) (by omega)
 exact ⟨h1, h2, h3, by omega, h5, hr⟩
theorem valB_drop_set (b : Nat) (l : List Nat) (i d : Nat) (h : i < l.length) : valB b ((l.set i d).drop i) = d + b * valB b (l.drop (i + 1)) := by
 rw [valB_drop, getD_set _ _ _ _ h, if_pos rfl, List.drop_set_of_lt (by omega)]
theorem paI_take {x y n i k : Nat} {Q : List Nat} {r : Nat} (h : PaI x y n i (k + 1) Q r) (hi : i < n) (hr : 2 ^ k * y ≤ r) : PaI x y n i k (Q.set i (Q[i]?.getD 0 + 2 ^ k)) (r - 2 ^ k * y) := by
 obtain ⟨h1, h2, h3, h4, h5, h6⟩ := h
 have hp : 0 < 2 ^ k := Nat.pow_pos (by decide)
 rw [Nat.pow_succ] at h4 h6
 rw [valB_drop] at h5
 refine ⟨by rw [List.length_set]; exact h1, fun t ht => ?_, fun u hu => ?_, ?_, ?_, ?_⟩
 ·rw [getD_set _ _ _ _ (by omega), if_neg (by omega)]; exact h2 t ht
 ·rcases List.mem_or_eq_of_mem_set hu with h | rfl
  ·exact h3 u h
  ·omega
 ·rw [getD_set _ _ _ _ (by omega), if_pos rfl]; omega
 ·rw [valB_drop_set _ _ _ _ (by omega), h5]
  generalize valB 256 (Q.drop (i + 1)) = v at *
  generalize Q[i]?.getD 0 = a at *
  generalize 2 ^ k = p at *
  rw [Nat.add_mul, Nat.add_mul, Nat.add_mul]
  omega
 ·generalize 2 ^ k = p at *
  have e : p * 2 * y = 2 * (p * y) := by rw [Nat.mul_comm p 2, Nat.mul_assoc]
  omega
theorem paI_end {x y n i : Nat} {Q : List Nat} {r : Nat} (h : PaI x y n i 0 Q r) : PaO x y n i Q r := by
 obtain ⟨h1, h2, h3, -, h5, h6⟩ := h
 exact ⟨h1, h2, h3, h5, by simpa using h6⟩
theorem paO_end {x y n : Nat} {Q : List Nat} {R : Nat} (h : PaO x y n 0 Q R) : Byt Q ∧ valB 256 Q = x / y ∧ R = x % y := by
 obtain ⟨h1, h2, h3, h4, h5⟩ := h
 rw [List.drop_zero, Nat.pow_zero, Nat.div_one] at h4
 subst h4
 refine ⟨h3, ?_, ?_⟩
 ·rw [Nat.mul_comm, Nat.mul_add_div (by omega), Nat.div_eq_of_lt h5, Nat.add_zero]
 ·rw [Nat.mul_comm, Nat.mul_add_mod, Nat.mod_eq_of_lt h5]
theorem natB_cons (d R : Nat) (hd : d < 256) : bareN (d :: natB 256 R) = natB 256 (d + 256 * R) := by
 rw [bareN_eq (b := 256) (by decide)]
 ·rw [show valB 256 (d :: natB 256 R) = d + 256 * valB 256 (natB 256 R) from rfl, natB_val (by decide)]
 ·intro u hu
  rcases List.mem_cons.1 hu with rfl | h
  ·exact hd
  ·exact natB_digit (by decide) _ u h
end rf
end Go.Proofs.YtpefjkndfifceaaGreatDoor
namespace Go.Proofs.YtpefjkndfifceaaGreatDoor
open Go.RowKit
namespace rf
abbrev Row3 : Type := Option Addr × Nat × Nat × List Nat
abbrev sl3 (x : Row3) : Value := .slice x.1 x.2.1 x.2.2.1
theorem infoS : (Tryz.prog.info? 109).map (fun i => (i.zero, i.size, i.bytes)) = some (some (.slice .none 0 0), 1, 24) := by kernel_rfl
def El (U B : Nat) (w : World) (x : Row3) : Prop := Reads .i64 w x.1 x.2.1 x.2.2.1 x.2.2.2 ∧ (0 < x.2.1 → ∀ ad, x.1 = some ad → ad.block < B ∨ ∃ c fz, w.heap[ad.block]? = some (.cells c U fz))
theorem El.of {U B : Nat} {w : World} {a : Option Addr} {n c : Nat} {l : List Nat} (h : Reads .i64 w a n c l) (hB : w.heap.size ≤ B) : El U B w (a, n, c, l) := by
 refine ⟨h, fun hn ad ha => ?_⟩
 obtain ⟨b, off, e, hb, -⟩ := h.cells hn
 rw [show a = some ad from ha] at e
 cases e
 exact .inl (Nat.lt_of_lt_of_le hb hB)
theorem El.own {U B B' : Nat} {w : World} {a : Option Addr} {n c : Nat} {l : List Nat} (h : OwnQ .i64 U B' w (.slice a n c) l) : El U B w (a, n, c, l) := by
 refine ⟨h.reads, fun hn ad ha => .inr ?_⟩
 obtain ⟨b, off, e, hb, -⟩ := h.reads.cells hn
 obtain rfl : a = some ad := ha
 cases e
 rcases h.2 with ⟨h3, -⟩ | ⟨g, cap, cur, h3, -⟩
 ·cases h3
 ·cases h3
  exact Lib.ownsRow_kind h _ rfl
theorem El.below {U B : Nat} {w w' : World} {x : Row3} (h : El U B w x) (hb : Below w.heap.size w w') : El U B w' x := by
 refine ⟨h.1.below hb, fun hn ad ha => ?_⟩
 rcases h.2 hn ad ha with h | ⟨c, fz, h⟩
 ·exact .inl h
 ·exact .inr ⟨c, fz, by rw [hb.block _ (Array.getElem?_eq_some_iff.1 h).1]; exact h⟩
theorem El.grown {E U B : Nat} {w w' : World} {x : Row3} {row : Option Nat} (h : El U B w x) (hg : w.grownBy w' row) (hEU : U ≠ E) (hrow : ∀ g, row = some g → B ≤ g ∧ ∃ c fz, w.heap[g]? = some (.cells c E fz)) : El U B w' x := by
 by_cases hn : 0 < x.2.1
 ·obtain ⟨b, off, e, hb, hc⟩ := h.1.cells hn
  have hk := h.2 hn _ e
  have hne : some b ≠ row := by
   intro er
   obtain ⟨h1, c, fz, h2⟩ := hrow b er.symm
   rcases hk with hk | ⟨c', fz', hk⟩
   ·exact absurd h1 (Nat.not_le.2 hk)
   ·have hk' : w.heap[b]? = some (.cells c' U fz') := hk
    rw [h2] at hk'
    simp at hk'
    exact hEU hk'.2.1.symm
  have hbl := hg.block b hb hne
  refine ⟨⟨h.1.length, h.1.le, h.1.max, h.1.nil, fun _ => ⟨b, off, e, ?_, fun i hi => ?_⟩⟩, fun _ ad ha => ?_⟩
  ·exact Nat.lt_of_lt_of_le hb hg.size
  ·rw [← hc i hi]; unfold World.cell?; rw [hbl]
  ·rw [e] at ha
   cases ha
   rcases hk with hk | ⟨c', fz', hk⟩
   ·exact .inl hk
   ·exact .inr ⟨c', fz', hbl.trans hk⟩
 ·exact ⟨⟨h.1.length, h.1.le, h.1.max, h.1.nil, fun hp => absurd hp hn⟩, fun hp => absurd hp hn⟩
structure OwnT (E U B : Nat) (w : World) (v : Value) (X : List Row3) : Prop where
 row : w.ownsRow B E 1 v X.length (X.map sl3)
 each : ∀ x ∈ X, El U B w x
theorem OwnT.below {E U B : Nat} {w w' : World} {v : Value} {X : List Row3} (h : OwnT E U B w v X) (hb : Below w.heap.size w w') : OwnT E U B w' v X := by
 refine ⟨?_, fun x hx => (h.each x hx).below hb⟩
 obtain ⟨h1, h2⟩ := h.row
 refine ⟨h1, ?_⟩
 rcases h2 with h2 | ⟨g, cap, cur, rfl, hB, hg, rest⟩
 ·exact .inl h2
 ·exact .inr ⟨g, cap, cur, rfl, hB, by rw [hb.block g (Array.getElem?_eq_some_iff.1 hg).1]; exact hg, rest⟩
theorem OwnT.one {E U B : Nat} {w : World} {x : Row3} (h : El U B w x) (hB : B ≤ w.heap.size) : OwnT E U B (w.alloc (.cells #[sl3 x] E)) (.slice (some ⟨w.heap.size, 0, .none⟩) 1 1) [x] := by
 refine ⟨World.ownsRow_lit w _ 1 hB (by unfold maxLen; omega) rfl, fun y hy => ?_⟩
 obtain rfl := List.mem_singleton.1 hy
 exact h.below ((Below.refl _ _).alloc (Nat.le_refl _) _)
theorem OwnT.form {E U B : Nat} {w : World} {v : Value} {X : List Row3} (h : OwnT E U B w v X) (hX : 0 < X.length) : ∃ g cap, v = .slice (some ⟨g, 0, .none⟩) X.length cap ∧ g < w.heap.size ∧ OwnT E U B w (.slice (some ⟨g, 0, .none⟩) X.length cap) X := by
 have h0 := h
 obtain ⟨h1, h2⟩ := h.row
 rcases h2 with ⟨h2, h0⟩ | ⟨g, cap, cur, rfl, hb, hg, hn, hc, hs, ht⟩
 ·omega
 ·exact ⟨g, cap, rfl, (Array.getElem?_eq_some_iff.1 hg).1, h0⟩
theorem OwnT.cellAt {E U B : Nat} {w : World} {g cap n : Nat} {X : List Row3} (h : OwnT E U B w (.slice (some ⟨g, 0, .none⟩) n cap) X) (hn : n = X.length) (j : Nat) (hj : j < X.length) (x : Row3) (hx : X[j]? = some x) : w.cell? ⟨g, j, .none⟩ = some (sl3 x) := by
 subst hn
 rw [World.ownsRow.cellAt h.row j (by omega), List.getElem?_map, hx]
 rfl
theorem wpList_append_t {P : Program} (w : World) {ops : Array Oper} {rest : List Oper} {o : Oper} {a : Act} {Q : Exit → Act → World → Prop} (hgd : o.guard = .none) (s x : Operand) (t : TypeId)
  (ho : o.op = .call { callee := .builtin .append, args := #[s, x], argTypes := #[t, t] })
  (B E U : Nat) (hEU : U ≠ E) (i : TypeInfo) (ht : P.underlying t = some (.slice E)) (hi : P.info? E = some i) (hz : i.zero = some (.slice .none 0 0)) (hsize : i.size = 1) (hby : i.bytes = 24)
  (v : Value) (X : List Row3) (hs : a.eval s = v) (hown : OwnT E U B w v X) (ad : Addr) (y : Row3) (hx : a.eval x = .slice (some ad) 1 1) (hcell : w.cell? ad = some (sl3 y)) (hy : El U B w y)
  (hsum : X.length ≤ 100000) (hbase : B ≤ w.heap.size)
  (h : ∀ v' w', OwnT E U B w' v' (X ++ [y]) → (∀ w0, Below B w0 w → Below B w0 w') → wpList P ops Q rest (a.put o.dst v') w') : wpList P ops Q (o :: rest) a w := by
 refine wpList_append_own w hgd s x t ho B E i (.slice .none 0 0) 1 24 ht hi hz hsize hby rfl (by decide) v X.length (X.map sl3) hs hown.row ad 1 1 [sl3 y] hx rfl (fun j u hu => ?_) (by simp [Value.oneCell']) (by unfold maxLen; omega) (by omega) hbase ?_
 ·cases j with
  | zero =>
   simp at hu
   subst hu
   rw [show ad.add 0 = ad from by cases ad; unfold Addr.add; split <;> simp_all]
   exact hcell
  | succ j => simp at hu
 ·intro v' w' ho' hg _
  have hrow : ∀ g, v.ownBlock = some g → B ≤ g ∧ ∃ c fz, w.heap[g]? = some (.cells c E fz) := fun g e => ⟨(hown.row.lt g e).1, Lib.ownsRow_kind hown.row g e⟩
  refine h v' w' ⟨by simpa using ho', fun u hu => ?_⟩ (fun w0 h0 => h0.grown hg hbase (fun k hk => (hown.row.lt k hk).1))
  rcases List.mem_append.1 hu with hu | hu
  ·exact (hown.each u hu).grown hg hEU hrow
  ·obtain rfl := List.mem_singleton.1 hu
   exact hy.grown hg hEU hrow
end rf
end Go.Proofs.YtpefjkndfifceaaGreatDoor
namespace Go.Proofs.YtpefjkndfifceaaGreatDoor
open Go.RowKit
namespace rf
theorem OwnQ.one (q : IntKind) (w : World) (E : TypeId) (B : Nat) (hB : B ≤ w.heap.size) (x : Int) (c : Nat) (hx : x = c) : OwnQ q E B (w.alloc (.cells #[.int q x] E)) (.slice (some ⟨w.heap.size, 0, .none⟩) 1 1) [c] := by
 subst hx
 exact World.ownsRow_lit w #[.int q c] 1 hB (by unfold maxLen; omega) rfl
theorem len_mult {y m k z : Nat} (hy : y < 256 ^ m) (hk : k ≤ 8) (hz : z ≤ 2 ^ k * y) : (natB 256 z).length ≤ m + 1 := by
 rw [natB_length (by decide), Nat.pow_succ]
 have h1 : 2 ^ k ≤ 2 ^ 8 := Nat.pow_le_pow_right (by decide) hk
 have h2 : 2 ^ k * y ≤ 2 ^ 8 * y := Nat.mul_le_mul_right _ h1
 rw [show (2 : Nat) ^ 8 = 256 by decide] at h2
 generalize 2 ^ k * y = u at *
 generalize 256 ^ m = p at *
 omega
theorem twice_mult (j y : Nat) : 2 * (2 ^ j * y) = 2 ^ (j + 1) * y := by
 rw [Nat.pow_succ, Nat.mul_comm (2 ^ j) 2, Nat.mul_assoc]
def Man (y k : Nat) (X : List Row3) : Prop := X.length = k ∧ ∀ j : Nat, j < k → ∃ x, X[j]? = some x ∧ x ∈ X ∧ x.2.2.2 = natB 256 (2 ^ j * y)
theorem man_one {y : Nat} {x : Row3} (h : x.2.2.2 = natB 256 y) : Man y 1 [x] := ⟨rfl, fun j hj => by
 obtain rfl : j = 0 := by omega
 exact ⟨x, rfl, List.mem_cons_self, by rw [h]; simp⟩⟩
theorem man_snoc {y k : Nat} {X : List Row3} {x : Row3} (h : Man y k X) (hx : x.2.2.2 = natB 256 (2 ^ k * y)) : Man y (k + 1) (X ++ [x]) := by
 obtain ⟨h1, h2⟩ := h
 refine ⟨by rw [List.length_append, h1]; rfl, fun j hj => ?_⟩
 by_cases e : j < k
 ·obtain ⟨z, hz, hm, hv⟩ := h2 j e
  exact ⟨z, by rw [List.getElem?_append_left (by omega)]; exact hz, List.mem_append_left _ hm, hv⟩
 ·obtain rfl : j = k := by omega
  exact ⟨x, by rw [List.getElem?_append_right (by omega), h1]; simp, List.mem_append_right _ List.mem_cons_self, hx⟩
def RetsP (B : Nat) (w' : World) (p q : Nat) (e : Ending) : Prop := ∃ v u, e = .returned (.tuple #[v, u]) ∧ OwnQ .i64 3 B w' v (natB 256 p) ∧ OwnQ .i64 3 B w' u (natB 256 q)
set_option maxRecDepth 100000 in
set_option maxHeartbeats 1600000 in
theorem parts_any (a a' : Option Addr) (n c n' c' : Nat) (x y : Nat) (w : World) (h : Reads .i64 w a n c (natB 256 x)) (h' : Reads .i64 w a' n' c' (natB 256 y)) (hm : n ≤ 1000000) (hm' : n' ≤ 1000000) (hy : 0 < y) :
  Calls Tryz.prog 133 #[.slice a n c, .slice a' n' c'] w fun e w' => RetsP w.heap.size w' (x / y) (x % y) e ∧ Below w.heap.size w w' := by
 obtain ⟨i0, hi, hz0, hz1, hz2⟩ := info_parts infoI
 obtain ⟨s0, hs, hs0, hs1, hs2⟩ := info_parts infoS
 have HS := zH (short_any a' n' c' _ w h' n' (by rw [natB_short, h'.length]))
 have HN1 := zH h.length.symm
 have hxn := zH (show x < 256 ^ n by rw [← natB_length (by decide), h.length]; exact Nat.le_refl _)
 have hyn := zH (show y < 256 ^ n' by rw [← natB_length (by decide), h'.length]; exact Nat.le_refl _)
 have R1 := zH h
 have E0 := zH (El.of (U := 3) h' (Nat.le_refl w.heap.size))
 have HY := zH hy
 clear h h' hy
 go_enter Tryz.func133, Tryz.ntmps133
 go_wp2_with fail
 refine HS.out.mono ?_
 rintro e w1 ⟨rfl, rfl⟩
 clear HS
 go_wp2
 go_loopw [6, 7] (fun v i wr => ∃ (j : Nat) (X : List Row3), i = .int .i64 ((j + 1 : Nat) : Int) ∧ j + 1 ≤ 8 ∧ Hid (Man y (j + 1) X) ∧ OwnT 109 3 w.heap.size wr v X ∧ Hid (Below w.heap.size w wr)) (fun _ i _ => 8 - (intOf i).toNat)
 case atStart => exact ⟨0, _, rfl, by omega, man_one (x := (a', n', c', natB 256 y)) rfl, OwnT.one E0.out (Nat.le_refl _), (Below.refl _ _).alloc (Nat.le_refl _) _⟩
 case round =>
  obtain ⟨j, X, rfl, hj, hman, hown, hbel⟩ := hrel
  obtain ⟨wo, rfl⟩ : ∃ wo : World, wo = wr := ⟨_, rfl⟩
  obtain ⟨g, cap, rfl, hg, hown⟩ := hown.form (by rw [hman.out.1]; omega)
  have HXL := zH hman.out.1
  have HO := zH hown
  have hxl : X.length = j + 1 := hman.out.1
  clear hown
  rw [hxl] at HO ⊢
  clear hxl
  have hsz := hbel.out.size
  by_cases h1 : j < 7
  ·obtain ⟨⟨xa, xn, xc, xl⟩, hx, hxm, hxv⟩ := hman.out.2 j (by omega)
   have hcell := HO.out.cellAt HXL.out.symm j (by rw [HXL.out]; omega) _ hx
   have HE := zH (HO.out.each _ hxm)
   have hxl : xl = natB 256 (2 ^ j * y) := hxv
   subst hxl
   have HT := zH (twice_any xa xn xc (2 ^ j * y) wo HE.out.1 (by
    have := len_mult (k := j) hyn.out (by omega) (Nat.le_refl (2 ^ j * y))
    have e : (natB 256 (2 ^ j * y)).length = xn := HE.out.1.length
    omega))
   have hsn := zH (fun (x : Row3) (hx : x.2.2.2 = natB 256 (2 ^ (j + 1) * y)) => man_snoc hman.out hx)
   clear hx hxm hxv HE hman
   go_wp2_with fail
   refine HT.out.mono ?_
   rintro e w2 ⟨⟨v, rfl, ho⟩, hb2⟩
   rw [twice_mult] at ho
   obtain ⟨ya, yn, yc, rfl, hyn2, ho⟩ := own_slice ho
   have HOY := zH ho
   have HO2 := zH (HO.out.below hb2)
   have HB2 := zH (hbel.out.trans (hb2.mono hsz))
   have hsz2 := hb2.size
   clear ho hb2 hyn2 HT HO hcell hsz
   go_wp2_with (at_builtin; go_loud (refine wpList_append_t _ rfl _ _ 198 rfl w.heap.size 109 3 (by decide) s0 Tryz.underlying198 hs hs0 hs1 hs2 _ X rfl (HO2.out.below ((Below.refl _ _).alloc (Nat.le_refl _) _)) ⟨w2.heap.size, 0, none⟩ (ya, yn, yc, natB 256 (2 ^ (j + 1) * y)) rfl (by rw [World.cell?_alloc_at _ _ _ _ rfl]; rfl) ((El.own HOY.out).below ((Below.refl _ _).alloc (Nat.le_refl _) _)) (by have := HXL.out; omega) (by have := HB2.out.size; simp; omega) ?_); intro v' w3 hown3 hgrow)
   go_roundw
   case rel => exact ⟨j + 1, _, by go_num, by omega, hsn.out _ rfl, hown3, hgrow _ (HB2.out.alloc (HB2.out.size) _)⟩
   case measure => simp [intOf] <;> omega
  ·obtain rfl : j = 7 := by omega
   have HM := zH hman.out
   clear hman h1 hj
   go_wp2_with (at_make; go_loud (refine wpList_make_lc .i64 _ rfl _ _ 109 rfl wo.heap.size 3 i0 Tryz.underlying109 hi hz0 hz1 _ _ _ _ n n rfl rfl (by omega) (by omega) (Nat.le_refl _) (by rw [hz2]; omega) (by unfold maxLen; omega) (Nat.le_refl _) ?_); intro w3 hown hgrow)
   have HB3 := zH (show Below wo.heap.size wo w3 from (Below.refl _ _).grown hgrow (Nat.le_refl _) (fun _ h => by cases h))
   have HOQ := zH hown
   clear hown hgrow
   obtain ⟨G, hG⟩ : ∃ G, G = wo.heap.size := ⟨_, rfl⟩
   rw [← hG] at HOQ ⊢
   have HGG := zH hG
   clear hG
   have HGS := zH (HOQ.out.lt G rfl).2
   go_loopw [9, 10] (fun v i wr => ∃ (t : Nat) (Q : List Nat) (R : Nat), i = .int .i64 ((t : Int) - 1) ∧ t ≤ n ∧ Hid (PaO x y n t Q R) ∧ OwnQ .i64 3 w3.heap.size wr v (natB 256 R) ∧ Hid (OwnQ .i64 3 G wr (.slice (some ⟨G, 0, none⟩) n n) Q) ∧ Hid (Below wo.heap.size wo wr) ∧ Hid (w3.heap.size ≤ wr.heap.size)) (fun _ i _ => (intOf i + 1).toNat)
   case atStart => exact ⟨n, _, 0, by go_num, Nat.le_refl _, paO_start x y n HY.out hxn.out, by rw [natB_zero]; exact OwnQ.nil _ _ _ _, HOQ.out, HB3.out, Nat.le_refl _⟩
   case round =>
    obtain ⟨t, Q, R, rfl, ht, hinv, hr, hq, hb4, hsz4⟩ := hrel
    obtain ⟨wa, rfl⟩ : ∃ wa : World, wa = wr := ⟨_, rfl⟩
    obtain ⟨ra, rn, rc, rfl, hrn, hr⟩ := own_slice hr
    have HR := zH hr
    have hrn2 := zH hrn
    clear hr hrn
    rcases Nat.eq_zero_or_pos t with rfl | hp
    ·obtain ⟨hby, hv, hR⟩ := paO_end hinv.out
     have HQR := zH hq.out.reads
     have HC := zH (short_any _ _ _ Q wa HQR.out _ rfl)
     have hbl := bareN_le Q
     have HQ2 := zH (hq.out.upto (bareN Q).length (by rw [← hinv.out.1]; exact hbl))
     rw [← natB_of_val hby hv] at HQ2
     rw [hR] at HR
     have HBB := zH (hbel.out.trans (hb4.out.mono hsz))
     clear hby hv hR hbl hinv
     generalize (bareN Q).length = u at *
     go_wp2_with fail
     refine HC.out.mono ?_
     rintro e w5 ⟨rfl, rfl⟩
     go_wp2
     go_ret2
     exact ⟨⟨_, _, rfl, HQ2.out.mono (by rw [HGG.out]; exact hsz), HR.out.mono (Nat.le_trans hsz HB3.out.size)⟩, HBB.out⟩
    ·obtain ⟨i, rfl⟩ : ∃ i, t = i + 1 := ⟨t - 1, by omega⟩
     clear hp
     have hin : i < n := by omega
     have hki : ((i + 1 : Nat) : Int) - 1 = (i : Int) := by omega
     simp only [hki]
     clear hki
     have HW := zH (show Below w.heap.size w wa from hbel.out.trans (hb4.out.mono hsz))
     obtain ⟨b, off, rfl, -, hcl⟩ := (R1.out.below HW.out).cells (by omega)
     have hck := hcl i hin
     rw [natB_get (by decide)] at hck
     have HST := zH (paI_start hinv.out)
     have hd1 : x / 256 ^ i % 256 < 256 := Nat.mod_lt _ (by decide)
     have HD := zH hd1
     have hrl : rn ≤ n' + 1 := by
      rw [hrn2.out]
      exact len_mult (k := 0) hyn.out (by omega) (by have := hinv.out.2.2.2.2; omega)
     clear hcl hinv
     generalize x / 256 ^ i % 256 = d at *
     go_wp2_with (at_builtin; go_loud (refine wpList_append_q .i64 _ rfl _ _ 109 rfl wa.heap.size 3 8 i0 Tryz.underlying109 hi hz0 hz1 hz2 (by decide) _ [d] rfl (OwnQ.one .i64 wa _ _ (Nat.le_refl _) _ _ rfl) _ _ _ (natB 256 R) rfl (HR.out.reads.below ((Below.refl _ _).alloc (Nat.le_refl _) _)) (by simp; omega) (by simp) ?_); intro v4 w4 hown4 hgrow)
     obtain ⟨va, vn, vc, rfl, hvn, hown5⟩ := own_slice hown4
     rw [List.singleton_append] at hvn hown5
     have HB5 := zH (hgrow _ ((Below.refl _ _).alloc (Nat.le_refl _) _))
     have HC := zH (short_any _ _ _ _ w4 hown5.reads _ rfl)
     have HO5 := zH (hown5.upto _ (by rw [hvn]; exact bareN_le (d :: natB 256 R)))
     have hcons : (d :: natB 256 R).take (bareN (d :: natB 256 R)).length = natB 256 (d + 256 * R) := by rw [← bareN_prefix, natB_cons d R HD.out]
     rw [hcons] at HO5
     clear hcons
     have HQ5 := zH (hq.out.below HB5.out)
     have HBB := zH (hb4.out.trans (HB5.out.mono hb4.out.size))
     have HSZ := zH (Nat.le_trans hsz4.out HB5.out.size)
     have HO6 := zH (HO5.out.mono hsz4.out)
     clear hown4 hown5 hgrow hvn HO5
     generalize (bareN (d :: natB 256 R)).length = u at *
     generalize d + 256 * R = r0 at *
     go_wp2_with fail
     refine HC.out.mono ?_
     rintro e w5 ⟨rfl, rfl⟩
     clear HC
     go_wp2
     go_loopw [9, 11, 12] (fun v s kk wr => ∃ (k : Nat) (Q : List Nat) (r : Nat), kk = .int .i64 ((k : Int) - 1) ∧ s = .int .i64 ((2 ^ k / 2 : Nat) : Int) ∧ k ≤ 8 ∧ Hid (PaI x y n i k Q r) ∧ OwnQ .i64 3 w3.heap.size wr v (natB 256 r) ∧ Hid (OwnQ .i64 3 G wr (.slice (some ⟨G, 0, none⟩) n n) Q) ∧ Hid (Below wo.heap.size wo wr) ∧ Hid (w3.heap.size ≤ wr.heap.size)) (fun _ _ kk _ => (intOf kk + 1).toNat)
     case atStart => exact ⟨8, Q, r0, rfl, rfl, Nat.le_refl _, HST.out, HO6.out, HQ5.out, HBB.out, HSZ.out⟩
     case round =>
      clear HQ5 HBB HSZ HO6 hq hb4 hsz4 HR hrn2 HB5 HST
      obtain ⟨k, Q2, r, rfl, rfl, hk, hinv, hr, hq, hb4, hsz4⟩ := hrel
      obtain ⟨wb, rfl⟩ : ∃ wb : World, wb = wr := ⟨_, rfl⟩
      obtain ⟨ra2, rn2, rc2, rfl, hrn, hr⟩ := own_slice hr
      have HR := zH hr
      have hrl2 : rn2 ≤ n' + 1 := by
       rw [hrn]
       exact len_mult (k := k) hyn.out hk (Nat.le_of_lt hinv.out.2.2.2.2.2)
      clear hr hrn
      rcases Nat.eq_zero_or_pos k with rfl | hp
      ·have hend := zH (paI_end hinv.out)
       clear hinv
       go_wp2
       go_roundw
       case rel => exact ⟨i, Q2, r, by go_num, by omega, hend.out, HR.out, hq.out, hb4.out, hsz4.out⟩
       case measure => simp [intOf] <;> omega
      ·obtain ⟨q, rfl⟩ : ∃ q, k = q + 1 := ⟨k - 1, by omega⟩
       clear hp
       have hkq : ((q + 1 : Nat) : Int) - 1 = (q : Int) := by omega
       have hpw : 2 ^ (q + 1) / 2 = 2 ^ q := by rw [Nat.pow_succ]; omega
       simp only [hkq, hpw]
       clear hkq hpw
       have HT4 := zH (HO.out.below hb4.out)
       obtain ⟨⟨xa, xn, xc, xl⟩, hx, hxm, hxv⟩ := HM.out.2 q (by omega)
       have hcell := HT4.out.cellAt HXL.out.symm q (by rw [HXL.out]; omega) _ hx
       have HE := zH (HT4.out.each _ hxm)
       obtain rfl : xl = natB 256 (2 ^ q * y) := hxv
       have hxl2 : xn ≤ n' + 1 := by
        have := len_mult (k := q) hyn.out (by omega) (Nat.le_refl (2 ^ q * y))
        have e : (natB 256 (2 ^ q * y)).length = xn := HE.out.1.length
        omega
       have HLS := zH (less_any _ xa rn2 rc2 xn xc r (2 ^ q * y) wb HR.out.reads HE.out.1 (by omega) (by omega) _ rfl)
       have hp128 : 2 ^ q ≤ 128 := by
        have := Nat.pow_le_pow_right (n := 2) (by decide) (show q ≤ 7 by omega)
        simpa using this
       have HX := zH hx
       clear hx hxm
       by_cases hlt : r < 2 ^ q * y
       ·rw [decide_eq_true hlt] at HLS
        have hst := zH (paI_less hinv.out hlt)
        clear hlt hinv
        obtain ⟨p, hp⟩ : ∃ p, p = 2 ^ q := ⟨_, rfl⟩
        have HP := zH hp
        rw [← hp] at hp128 ⊢
        clear hp
        go_wp2_with fail
        refine HLS.out.mono ?_
        rintro e w6 ⟨rfl, hb6⟩
        have hbz := hb6.mono hb4.out.size
        have HQ6 := zH (hq.out.below hb6)
        have HR6 := zH (HR.out.below hb6)
        have HB6 := zH (hb4.out.trans hbz)
        have HS6 := zH (Nat.le_trans hsz4.out hb6.size)
        clear hb6 hbz
        go_wp2
        go_roundw
        case rel => exact ⟨q, Q2, r, by go_num, by rw [← HP.out]; go_num, by omega, hst.out, HR6.out, HQ6.out, HB6.out, HS6.out⟩
        case measure => simp [intOf] <;> omega
       ·rw [decide_eq_false hlt] at HLS
        have hst := zH (paI_take hinv.out hin (by omega))
        have HMI := zH (fun (w6 : World) (hb6 : Below wb.heap.size wb w6) => minus_any _ xa rn2 rc2 xn xc r (2 ^ q * y) w6 (HR.out.reads.below hb6) (HE.out.1.below hb6) (by omega) (by omega) (by omega))
        have hQL := zH hinv.out.1
        have hQi := hinv.out.2.2.2.1
        have hQ1 : 2 ^ q ≤ 2 ^ (q + 1) := Nat.pow_le_pow_right (by decide) (by omega)
        have hQ2 : Q2[i]?.getD 0 ≤ 256 := by omega
        clear hlt hinv hQi hQ1
        obtain ⟨z, hz⟩ : ∃ z, z = Q2[i]?.getD 0 := ⟨_, rfl⟩
        have HZ := zH hz
        rw [← hz] at hQ2 hst
        clear hz
        obtain ⟨p, hp⟩ : ∃ p, p = 2 ^ q := ⟨_, rfl⟩
        have HP := zH hp
        rw [← hp] at hp128 ⊢
        clear hp
        go_wp2_with fail
        refine HLS.out.mono ?_
        rintro e w6 ⟨rfl, hb6⟩
        have HB6 := zH hb6
        have hcell6 := (HO.out.below (hb4.out.trans (hb6.mono hb4.out.size))).cellAt HXL.out.symm q (by rw [HXL.out]; omega) _ HX.out
        clear hb6
        go_wp2_with fail
        refine (HMI.out _ HB6.out).mono ?_
        rintro e w7 ⟨⟨v7, rfl, ho7⟩, hb7⟩
        have HO7 := zH (ho7.mono (Nat.le_trans hsz4.out HB6.out.size))
        have HQ7 := zH ((hq.out.below HB6.out).below hb7)
        have HB7 := zH ((hb4.out.trans (HB6.out.mono hb4.out.size)).trans (hb7.mono (Nat.le_trans hb4.out.size HB6.out.size)))
        have HS7 := zH (Nat.le_trans hsz4.out (Nat.le_trans HB6.out.size hb7.size))
        have hcq := HQ7.out.cellAt hQL.out.symm i hin
        rw [← HZ.out] at hcq
        have hfq := HQ7.out.frozenAt hQL.out.symm i
        clear ho7 hb7 hcell hcell6 HMI HLS HE HT4 HR hq hb4
        go_wp2
        go_roundw
        case rel =>
         have s1 := HQ7.out.stored hQL.out.symm i (z + p) ((z : Int) + (p : Int)) (by omega)
         refine ⟨q, Q2.set i (z + p), r - 2 ^ q * y, by go_num, by rw [← HP.out]; go_num, by omega, by rw [HP.out]; exact hst.out, ownsRow_setCell_other HO7.out (a := ⟨G, i, none⟩) (fun e => ?_) _, s1.1, by have hz := s1.2 wo (by rw [HGG.out]; exact HB7.out); rw [HGG.out] at hz ⊢; exact hz, Nat.le_trans HS7.out (s1.2 w7 (Below.refl _ _)).size⟩
         have h1 := (World.ownsRow.lt HO7.out _ e).1
         have h2 := HGS.out
         dsimp only at h1
         omega
        case measure => simp [intOf] <;> omega
end rf
end Go.Proofs.YtpefjkndfifceaaGreatDoor
namespace Go.Proofs.YtpefjkndfifceaaGreatDoor
open Go.RowKit
namespace rf
def divR (x y : Nat) : List Nat × List Nat × Int := if x < topN ∧ y < topN then (if y = 0 then ([], [], 60) else (nat32 (x / y), nat32 (x % y), 0)) else ([], [], 20)
theorem divR_no {x y : Nat} (h : ¬ (x < topN ∧ y < topN)) : divR x y = ([], [], 20) := if_neg h
theorem divR_zero {x y : Nat} (h : x < topN ∧ y < topN) (hy : y = 0) : divR x y = ([], [], 60) := by unfold divR; rw [if_pos h, if_pos hy]
theorem divR_yes {x y : Nat} (h : x < topN ∧ y < topN) (hy : y ≠ 0) : divR x y = (nat32 (x / y), nat32 (x % y), 0) := by unfold divR; rw [if_pos h, if_neg hy]
def RetsD (B : Nat) (w' : World) (r : List Nat × List Nat × Int) (e : Ending) : Prop := ∃ v u, e = .returned (.tuple #[v, u, .int .i64 r.2.2]) ∧ OwnQ .u32 71 B w' v r.1 ∧ OwnQ .u32 71 B w' u r.2.1
set_option maxRecDepth 100000 in
set_option maxHeartbeats 1000000 in
theorem div_any (a a' : Option Addr) (n c n' c' : Nat) (l l' : List Nat) (w : World) (h : Reads .u32 w a n c l) (h' : Reads .u32 w a' n' c' l') (hL : Lim l) (hL' : Lim l') (hm : n ≤ 1000000000000) (hm' : n' ≤ 1000000000000) :
  Calls Tryz.prog 95 #[.slice a n c, .slice a' n' c'] w fun e w' => RetsD w.heap.size w' (divR (val32 l) (val32 l')) e ∧ Below w.heap.size w w' := by
 have HMY := zH (may_any a a' n c n' c' l l' w h h' hL hL' hm hm' _ rfl)
 by_cases hin : val32 l < topN ∧ val32 l' < topN
 ·rw [decide_eq_true hin] at HMY
  have HR := zH h
  have HL := zH hL
  have HR' := zH h'
  have HL' := zH hL'
  have hlb : (natB 256 (val32 l)).length ≤ 1024 := (nat256_le _).2 hin.1
  have hlb' : (natB 256 (val32 l')).length ≤ 1024 := (nat256_le _).2 hin.2
  have HIN := zH hin
  clear h h' hL hL' hin
  go_enter Tryz.func95, Tryz.ntmps95
  go_wp2_with fail
  refine HMY.out.mono ?_
  rintro e w0 ⟨rfl, hb0⟩
  have H0 := zH hb0
  clear hb0 HMY
  go_wp2_with fail
  refine (digits_any a' n' c' l' _ (HR'.out.below H0.out) HL'.out hm').mono ?_
  rintro e w1 ⟨⟨v, rfl, ho⟩, hb⟩
  obtain ⟨a1, n1, c1, rfl, hn1, ho1⟩ := own_slice ho
  have HB := zH (H0.out.trans (hb.mono H0.out.size))
  have HO1 := zH ho1.reads
  have hx1 : n1 ≤ 1024 := by omega
  have HN1 := zH hn1
  clear ho ho1 hb hn1 hlb' H0
  rcases Nat.eq_zero_or_pos n1 with rfl | hp
  ·have hz := zH (show val32 l' = 0 from (natB_nil (b := 256) (by decide)).1 (List.eq_nil_of_length_eq_zero HN1.out.symm))
   have hres := zH (divR_zero HIN.out hz.out)
   go_wp2
   refine bodyPost_ret (v := .tuple #[.slice none 0 0, .slice none 0 0, .int .i64 60]) (by simp [results, Tryz.results95, go_sem]) rfl ⟨?_, HB.out⟩
   rw [hres.out]
   exact ⟨_, _, rfl, OwnQ.nil _ _ _ _, OwnQ.nil _ _ _ _⟩
  ·have hy : 0 < val32 l' := Nat.pos_of_ne_zero fun e => by
    have := (natB_nil (b := 256) (by decide)).2 e
    have h2 := HN1.out
    rw [this] at h2
    simp at h2
    omega
   have HY := zH hy
   have hres := zH (divR_yes HIN.out (show val32 l' ≠ 0 by omega))
   have ht : ((n1 : Int) == 0) = false := by simp; omega
   clear hy
   go_wp2_with fail
   refine (digits_any a n c l _ (HR.out.below HB.out) HL.out hm).mono ?_
   rintro e w2 ⟨⟨v, rfl, ho⟩, hb⟩
   obtain ⟨a2, n2, c2, rfl, hn2, ho2⟩ := own_slice ho
   have HP := zH (parts_any a2 a1 n2 c2 n1 c1 (val32 l) (val32 l') w2 ho2.reads (HO1.out.below hb) (by omega) (by omega) HY.out)
   have HB2 := zH (HB.out.trans (hb.mono HB.out.size))
   clear ho ho2 hb hn2 hlb HO1 HB HN1
   go_wp2_with fail
   refine HP.out.mono ?_
   rintro e w3 ⟨⟨v3, u3, rfl, ho3, ho4⟩, hb⟩
   obtain ⟨a3, n3, c3, rfl, hn3, ho3⟩ := own_slice ho3
   obtain ⟨a4, n4, c4, rfl, hn4, ho4⟩ := own_slice ho4
   have hq : val32 l / val32 l' < topN := Nat.lt_of_le_of_lt (Nat.div_le_self _ _) HIN.out.1
   have hr : val32 l % val32 l' < topN := Nat.lt_of_le_of_lt (Nat.mod_le _ _) HIN.out.1
   have hq2 := (nat256_le _).2 hq
   have hr2 := (nat256_le _).2 hr
   have HL3 := zH (limbs_any a3 n3 c3 _ w3 ho3.reads (natB_digit (by decide) _) (by omega))
   have HL4 := zH (fun (w4 : World) (hb4 : Below w3.heap.size w3 w4) => limbs_any a4 n4 c4 _ w4 (ho4.reads.below hb4) (natB_digit (by decide) _) (by omega))
   rw [natB_val (by decide)] at HL3
   have HV4 := zH (natB_val (b := 256) (by decide) (val32 l % val32 l'))
   have HB3 := zH (HB2.out.trans (hb.mono HB2.out.size))
   clear ho3 ho4 hn3 hn4 hq hr hq2 hr2 hb HP
   go_wp2_with fail
   refine HL3.out.mono ?_
   rintro e w4 ⟨⟨v4, rfl, ho5⟩, hb4⟩
   have HB4 := zH hb4
   have HO5 := zH ho5
   clear ho5 hb4
   go_wp2_with fail
   refine (HL4.out _ HB4.out).mono ?_
   rintro e w5 ⟨⟨v5, rfl, ho6⟩, hb5⟩
   rw [HV4.out] at ho6
   have HO6 := zH ho6
   have HB5 := zH hb5
   clear ho6 hb5
   have hs3 := HB3.out.size
   have HB6 := zH (HB3.out.trans ((HB4.out.mono hs3).trans (HB5.out.mono (Nat.le_trans hs3 HB4.out.size))))
   go_wp2
   refine bodyPost_ret (v := .tuple #[v4, v5, .int .i64 0]) (by simp [results, Tryz.results95, go_sem]) rfl ⟨?_, HB6.out⟩
   rw [hres.out]
   exact ⟨_, _, rfl, (HO5.out.below HB5.out).mono hs3, HO6.out.mono (Nat.le_trans hs3 HB4.out.size)⟩
 ·rw [decide_eq_false hin] at HMY
  rw [divR_no hin]
  clear hin h h' hL hL'
  go_enter Tryz.func95, Tryz.ntmps95
  go_wp2_with fail
  refine HMY.out.mono ?_
  rintro e w0 ⟨rfl, hb0⟩
  have H0 := zH hb0
  clear hb0
  go_wp2
  refine bodyPost_ret (v := .tuple #[.slice none 0 0, .slice none 0 0, .int .i64 20]) (by simp [results, Tryz.results95, go_sem]) rfl ⟨?_, H0.out⟩
  exact ⟨_, _, rfl, OwnQ.nil _ _ _ _, OwnQ.nil _ _ _ _⟩
theorem modulus_any (a : Option Addr) (n c : Nat) (l : List Nat) (w : World) (h : Reads .u32 w a n c l) (hL : Lim l) (hm : n ≤ 1000000000000) (m : Nat) (hm5 : m = 512) (r : Bool) (hr : r = decide (val32 l < 256 ^ m)) :
  Calls Tryz.prog 94 #[.slice a n c] w fun e w' => e = .returned (.bool r) ∧ Below w.heap.size w w' := by
 have hlb : (natB 256 (val32 l)).length ≤ 4 * n := by
  rw [natB_length (by decide), ← pow32, ← h.length]
  exact valB_lt (by decide) hL
 have HD := zH (digits_any a n c l w h hL hm)
 have hr2 : r = decide ((natB 256 (val32 l)).length ≤ 512) := by
  rw [hr, ← hm5]
  exact (decide_eq_decide.2 (natB_length (b := 256) (by decide) (val32 l) m)).symm
 clear hm5
 clear hr h hL
 have HR := zH hr2
 clear hr2
 go_enter Tryz.func94, Tryz.ntmps94
 go_wp2_with fail
 refine HD.out.mono ?_
 rintro e w1 ⟨⟨v, rfl, ho⟩, hb⟩
 obtain ⟨a1, n1, c1, rfl, hn1, ho1⟩ := own_slice ho
 have HB := zH hb
 rw [← hn1] at HR
 have hx1 : n1 ≤ 4000000000000 := by omega
 clear ho ho1 hb hn1 hlb
 go_wp2
 go_ret
 exact ⟨by rw [HR.out]; simp <;> omega, HB.out⟩
end rf
end Go.Proofs.YtpefjkndfifceaaGreatDoor
