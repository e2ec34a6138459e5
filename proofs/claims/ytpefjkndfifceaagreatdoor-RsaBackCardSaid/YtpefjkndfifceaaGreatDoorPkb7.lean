/- Part of the proofs: what the functions that the law calls do. -/
import Derived.Test.YtpefjkndfifceaaGreatDoorPkb1
import Derived.Test.YtpefjkndfifceaaGreatDoorPkb3
import Derived.Test.YtpefjkndfifceaaGreatDoorPkb6
import Derived.Test.YtpefjkndfifceaaGreatDoorRows
import Derived.Deep.QuietTactic
import Derived.BigQuiet
import Derived.Lib.Bytealg
import Derived.Laws.Externs
import Derived.WalkSmall
import Derived.Lib.OwnKind
import Derived.StillTactics
import Derived.StillTailTactics
open Go.Lib renaming hid → zH
open List renaming set_cons_succ → zq3
set_option linter.unusedVariables false
set_option linter.unusedSimpArgs false
namespace Go.Proofs.YtpefjkndfifceaaGreatDoor.Oc
open Go.RowKit
theorem Tryz.info8 : (Tryz.prog.info? 5).map (fun i => (i.zero, i.size, i.bytes)) = some (some (.int .u8 0), 1, 1) := by kernel_rfl
def bareL (l : List UInt8) : List UInt8 := l.dropWhile (· == 0)
theorem bareL_step (l : List UInt8) (k : Nat) (hk : k < l.length) : bareL (l.drop k) = if (l[k]?.getD 0).toNat = 0 then bareL (l.drop (k + 1)) else l.drop k := by
 rw [List.drop_eq_getElem_cons hk]
 simp only [bareL, List.dropWhile_cons, List.getElem?_eq_getElem hk, Option.getD_some]
 by_cases h : l[k] = 0
 ·simp [h]
 ·have : ¬ l[k].toNat = 0 := fun e => h (UInt8.toNat_inj.1 (by simpa using e))
  simp [h, this]
def RetsBts (w : World) (l : List UInt8) (e : Ending) : Prop := ∃ a cap, e = .returned (.slice a l.length cap) ∧ Bts w a l.length cap l
theorem RetsBts.mk {w : World} {l : List UInt8} {a : Option Addr} {len cap : Nat} (h : Bts w a len cap l) : RetsBts w l (.returned (.slice a len cap)) := by
 obtain rfl := h.length
 exact ⟨a, cap, rfl, h⟩
theorem sized_any (n : Int) (w : World) : Calls Tryz.prog 97 #[.int .i64 n] w fun e w' => e = .returned (.bool (decide (0 ≤ n ∧ n ≤ 65536))) ∧ w = w' := by
 by_cases h0 : 0 ≤ n
 ·by_cases h1 : n ≤ 65536
  ·go_enter Tryz.func97, Tryz.ntmps97
   go_wp2
   go_ret
   exact ⟨by simp; omega, rfl⟩
  ·go_enter Tryz.func97, Tryz.ntmps97
   go_wp2
   go_ret
   exact ⟨by simp; omega, rfl⟩
 ·go_enter Tryz.func97, Tryz.ntmps97
  go_wp2
  go_ret
  exact ⟨by simp; omega, rfl⟩
set_option maxHeartbeats 400000 in
theorem bare_any (a : Option Addr) (len cap : Nat) (l : List UInt8) (w : World) (h : Bts w a len cap l) :
  Calls Tryz.prog 68 #[.slice a len cap] w fun e w' => RetsBts w (bareL l) e ∧ w = w' := by
 have hm := h.len_le
 unfold maxLen at hm
 have hcm := h.max
 unfold maxLen at hcm
 have hle := h.le
 have hl := zH h.length
 have H := zH h
 go_enter Tryz.func68, Tryz.ntmps68
 go_wp2
 go_loop [7] (fun i => ∃ k : Nat, k ≤ len ∧ i = .int .i64 k ∧ Hid (bareL l = bareL (l.drop k))) (fun i => len - (intOf i).toNat)
 case atStart => exact ⟨0, Nat.zero_le _, rfl, by simp [Hid]⟩
 case round =>
  obtain ⟨k, hk, rfl, hrest⟩ := hrel
  by_cases hlt : k < len
  ·obtain ⟨b, off, rfl, hbl, hc⟩ := H.out.cells (by omega)
   have hck := hc k hlt
   have hst := zH (bareL_step l k (by have := hl.out; omega))
   clear hc
   generalize hx : (l[k]?.getD 0).toNat = x at *
   have Hx := zH hx
   clear hx
   by_cases hx0 : x = 0
   ·subst hx0
    go_wp2
    go_round
    case rel => exact ⟨k + 1, by omega, by go_num, by have := hst.out; rw [if_pos rfl] at this; unfold Hid; rw [hrest.out, this]⟩
    case measure => simp [intOf]; omega
   ·have hx1 : ((x : Int) != 0) = true := by simp; omega
    go_wp2
    go_ret
    have e : bareL l = l.drop k := by have := hst.out; rw [if_neg hx0] at this; rw [hrest.out, this]
    rw [e]
    exact ⟨RetsBts.mk (H.out.drop hlt), rfl⟩
  ·go_wp2
   go_ret
   have e : bareL l = [] := by rw [hrest.out, List.drop_eq_nil_of_le (by have := hl.out; omega)]; rfl
   rw [e]
   exact ⟨RetsBts.mk (Bts.none w), rfl⟩
def RetsOwn (B : Nat) (w' : World) (l : List UInt8) (e : Ending) : Prop := ∃ v, e = .returned v ∧ Own8 5 B w' v l
set_option maxHeartbeats 400000 in
theorem clone_any (a : Option Addr) (len cap : Nat) (l : List UInt8) (w : World) (h : Bts w a len cap l) (hm : len ≤ 140737488355328) :
  Calls Tryz.prog 67 #[.slice a len cap] w fun e w' => RetsOwn w.heap.size w' l e ∧ Below w.heap.size w w' := by
 have H := zH h
 have hl := zH h.length
 obtain ⟨i0, hi, hz0, hz1, hz2⟩ := info_parts Tryz.info8
 cases a with
 | none =>
  obtain rfl : cap = 0 := h.nil rfl
  obtain rfl : len = 0 := by have := h.le; omega
  obtain rfl : l = [] := List.eq_nil_of_length_eq_zero h.length
  have he := fun W : World => Lib.run_eql_slice_nil (P := Tryz.prog) W 22 5 none 0 0 0 0 Tryz.underlying22
  go_enter Tryz.func67, Tryz.ntmps67
  go_wp2
  go_ret
  exact ⟨⟨_, rfl, Own8.nil _ _ _⟩, Below.refl _ _⟩
 | some ad =>
  clear h
  have he := fun W : World => Lib.run_eql_slice_nil (P := Tryz.prog) W 22 5 (some ad) len cap 0 0 Tryz.underlying22
  go_enter Tryz.func67, Tryz.ntmps67
  go_wp2_with (at_builtin; refine wpList_append_bts _ rfl _ _ 22 rfl w.heap.size 5 i0 Tryz.underlying22 hi hz0 hz1 hz2 _ [] rfl (Own8.empty w _ _ (Nat.le_refl _)) _ _ _ l rfl (H.out.below ((Below.refl _ _).alloc (Nat.le_refl _) _)) (by simp; omega) (by simp) ?_; intro v' w1 hown hgrow)
  go_ret
  exact ⟨⟨_, rfl, hown⟩, hgrow _ ((Below.refl _ _).alloc (Nat.le_refl _) _)⟩
theorem bareL_le (l : List UInt8) : (bareL l).length ≤ l.length := (List.dropWhile_sublist _).length_le
set_option maxHeartbeats 400000 in
theorem trim_any (a : Option Addr) (len cap : Nat) (l : List UInt8) (w : World) (h : Bts w a len cap l) (hm : len ≤ 140737488355328) :
  Calls Tryz.prog 27 #[.slice a len cap] w fun e w' => RetsOwn w.heap.size w' (bareL l) e ∧ Below w.heap.size w w' := by
 have hb : (bareL l).length ≤ 140737488355328 := by have := bareL_le l; have := h.length; omega
 go_enter Tryz.func27, Tryz.ntmps27
 go_wp2_with fail
 refine (bare_any _ _ _ l _ h).mono ?_
 rintro e w1 ⟨⟨a', c', rfl, hr⟩, rfl⟩
 go_wp2_with fail
 refine (clone_any _ _ _ _ _ hr hb).mono ?_
 rintro e w1 ⟨⟨v, rfl, ho⟩, hbel⟩
 go_wp2_with fail
 go_ret
 exact ⟨⟨_, rfl, ho⟩, hbel⟩
def RetsTwin (B : Nat) (w' : World) (l : List UInt8) (e : Ending) : Prop :=
 ∃ g cap, e = .returned (.slice (some ⟨g, 0, none⟩) l.length cap) ∧ l.length + 1 ≤ cap ∧ Own8 5 B w' (.slice (some ⟨g, 0, none⟩) (l.length + 1) cap) (l ++ [7])
def wholeL (l : List UInt8) : Nat := l.foldl (fun n c => 256 * n + c.toNat) 0
theorem take_snoc8 (l : List UInt8) (k : Nat) (hk : k < l.length) : l.take (k + 1) = l.take k ++ [l[k]?.getD 0] := by
 rw [List.take_add_one, List.getElem?_eq_getElem hk]; rfl
def wVal (l : List UInt8) : Int := if 8 < (bareL l).length then 0 else wholeL l
def wErr (l : List UInt8) : Int := if 8 < (bareL l).length then 10 else 0
def WholeIs (l : List UInt8) (e : Ending) : Prop := e = .returned (.tuple #[.int .u64 (wVal l), .int .i64 (wErr l)])
end Go.Proofs.YtpefjkndfifceaaGreatDoor.Oc
namespace Go.Proofs.YtpefjkndfifceaaGreatDoor.Oc
set_option maxRecDepth 100000
open Go.RowKit
def bigL (n : Nat) : Nat → List UInt8
 | 0 => []
 | k + 1 => UInt8.ofNat (n / 256 ^ k % 256) :: bigL n k
def RetsOwn2 (B : Nat) (w' : World) (r : List UInt8 × Int) (e : Ending) : Prop := ∃ v, e = .returned (.tuple #[v, .int .i64 r.2]) ∧ Own8 5 B w' v r.1
def bigR (n : Nat) (s : Int) : List UInt8 × Int := if 0 ≤ s ∧ s ≤ 65536 then (if n < 256 ^ s.toNat then (bigL n s.toNat, 0) else ([], 10)) else ([], 2)
theorem sized_yes (n : Int) (w : World) (h : 0 ≤ n ∧ n ≤ 65536) : Calls Tryz.prog 97 #[.int .i64 n] w fun e w' => e = .returned (.bool true) ∧ w = w' :=
 (sized_any n w).mono fun e w' ⟨he, hw⟩ => ⟨by rw [he, decide_eq_true h], hw⟩
theorem sized_no (n : Int) (w : World) (h : ¬ (0 ≤ n ∧ n ≤ 65536)) : Calls Tryz.prog 97 #[.int .i64 n] w fun e w' => e = .returned (.bool false) ∧ w = w' :=
 (sized_any n w).mono fun e w' ⟨he, hw⟩ => ⟨by rw [he, decide_eq_false h], hw⟩
def padR (l : List UInt8) (s : Int) : List UInt8 × Int := if 0 ≤ s ∧ s ≤ 65536 then (if (bareL l).length ≤ s.toNat then (List.replicate (s.toNat - (bareL l).length) 0 ++ bareL l, 0) else ([], 10)) else ([], 2)
theorem padR_no {l : List UInt8} {s : Int} (h : ¬ (0 ≤ s ∧ s ≤ 65536)) : padR l s = ([], 2) := by rw [padR, if_neg h]
theorem padR_long {l : List UInt8} {m : Nat} (h : m ≤ 65536) (h2 : m < (bareL l).length) : padR l m = ([], 10) := by rw [padR, if_pos ⟨by omega, by omega⟩, if_neg (by simp; omega)]
theorem padR_yes {l : List UInt8} {m : Nat} (h : m ≤ 65536) (h2 : (bareL l).length ≤ m) : padR l m = (List.replicate (m - (bareL l).length) 0 ++ bareL l, 0) := by rw [padR, if_pos ⟨by omega, by omega⟩, if_pos (by simpa using h2)]; simp
end Go.Proofs.YtpefjkndfifceaaGreatDoor.Oc
namespace Go.Proofs.YtpefjkndfifceaaGreatDoor.Oc
open Go.RowKit
abbrev Row2 := Option Addr × Nat × Nat × List UInt8
def joined (L : List Row2) : List UInt8 := L.flatMap (·.2.2.2)
theorem joined_step (L : List Row2) (k : Nat) (hk : k < L.length) : joined (L.take (k + 1)) = joined (L.take k) ++ (L[k]?.getD (none, 0, 0, [])).2.2.2 := by
 have e : L.take (k + 1) = L.take k ++ [L[k]] := by rw [List.take_add_one, List.getElem?_eq_getElem hk]; rfl
 rw [e, List.getElem?_eq_getElem hk]
 unfold joined
 rw [List.flatMap_append, List.flatMap_singleton]
 rfl
theorem joined_le (L : List Row2) (k : Nat) : (joined (L.take k)).length ≤ (joined L).length := by
 have e : (joined L).length = (joined (L.take k ++ L.drop k)).length := by rw [List.take_append_drop]
 unfold joined at *
 rw [List.flatMap_append, List.length_append] at e
 omega
set_option maxHeartbeats 800000 in
theorem join_any (a : Option Addr) (n cap : Nat) (L : List Row2) (w : World) (h : Rows2 w a n cap L) (hm : (joined L).length ≤ 140737488355328) :
  Calls Tryz.prog 98 #[.slice a n cap] w fun e w' => RetsOwn w.heap.size w' (joined L) e ∧ Below w.heap.size w w' := by
 obtain ⟨i0, hi, hz0, hz1, hz2⟩ := info_parts Tryz.info8
 have H := zH h
 have hl := zH h.length
 have hmn := h.max
 unfold maxLen at hmn
 clear h
 go_enter Tryz.func98, Tryz.ntmps98
 go_wp2
 go_loop [3, 11] (fun s i => ∃ k : Nat, k ≤ n ∧ i = .int .i64 k ∧ s = .int .i64 ((joined (L.take k)).length : Nat)) (fun _ i => n - (intOf i).toNat)
 case atStart => exact ⟨0, Nat.zero_le _, rfl, rfl⟩
 case round =>
  obtain ⟨k, hk, rfl, rfl⟩ := hrel
  by_cases hlt : k < n
  ·obtain ⟨b, off, rfl, hbl, hc⟩ := H.out.cells (by omega)
   have hck := hc k hlt
   have hat := H.out.at k hlt
   have hst := joined_step L k (by have := hl.out; omega)
   have hst2 := zH (show (joined (L.take (k + 1))).length = (joined (L.take k)).length + (L[k]?.getD (none, 0, 0, [])).2.1 by rw [hst, List.length_append, hat.length])
   have hjl := joined_le L (k + 1)
   rw [hst2.out] at hjl
   clear hc hst hat
   generalize (L[k]?.getD (none, 0, 0, [])) = r at *
   obtain ⟨ra, rl, rc, rb⟩ := r
   simp only at hck hst2 hjl
   generalize hJ : (joined L).length = J at *
   clear hJ
   generalize (joined (L.take k)).length = jk at *
   go_wp2
   go_round
   case rel => exact ⟨k + 1, by omega, by go_num, by rw [hst2.out]; go_num⟩
   case measure => simp [intOf] <;> omega
  ·obtain rfl : k = n := by omega
   have eJ : (joined (L.take k)).length = (joined L).length := by rw [List.take_of_length_le (by have := hl.out; omega)]
   rw [eJ]
   generalize hJ : (joined L).length = J at *
   have HJ := zH hJ
   clear hJ eJ
   go_wp2_with (at_make; refine wpList_make_own _ rfl _ _ 22 rfl w.heap.size 5 i0 (.int .u8 0) 1 Tryz.underlying22 hi hz0 hz1 _ _ _ J rfl rfl rfl (by rw [hz2]; omega) (by unfold maxLen; omega) (Nat.le_refl _) ?_; intro w1 hown0 hgrow0)
   have hb0 : Below w.heap.size w w1 := (Below.refl _ _).grown hgrow0 (Nat.le_refl _) (fun _ h => by cases h)
   clear hgrow0
   have HO := zH hown0
   clear hown0
   go_loopw [6, 24] (fun v i wr => ∃ k' : Nat, k' ≤ k ∧ i = .int .i64 k' ∧ Own8 5 w.heap.size wr v (joined (L.take k')) ∧ Below w.heap.size w wr) (fun _ i _ => k - (intOf i).toNat)
   case atStart => exact ⟨0, Nat.zero_le _, rfl, HO.out, hb0⟩
   case round =>
    obtain ⟨q, hq, rfl, hown, hb⟩ := hrel
    have hsz := hb.size
    by_cases hlq : q < k
    ·obtain ⟨b, off, rfl, hbl, hc⟩ := (H.out.below hb).cells (by omega)
     have hck := hc q hlq
     have hat := (H.out.below hb).at q hlq
     have hst := zH (joined_step L q (by have := hl.out; omega))
     have hjl := joined_le L (q + 1)
     rw [hst.out, List.length_append, hat.length, HJ.out] at hjl
     clear hc
     generalize (L[q]?.getD (none, 0, 0, [])) = r at *
     obtain ⟨ra, rl, rc, rb⟩ := r
     simp only at hck hst hjl hat
     have HA := zH hat
     clear hat
     go_wp2_with (at_builtin; refine wpList_append_bts _ rfl _ _ 22 rfl w.heap.size 5 i0 Tryz.underlying22 hi hz0 hz1 hz2 _ (joined (L.take q)) rfl hown _ _ _ rb rfl HA.out (by omega) (by omega) ?_; intro v' w2 hown2 hgrow)
     go_roundw
     case rel => exact ⟨q + 1, by omega, by go_num, by rw [hst.out]; exact hown2, hgrow _ hb⟩
     case measure => simp [intOf] <;> omega
    ·obtain rfl : q = k := by omega
     go_wp2
     go_ret
     rw [List.take_of_length_le (by have := hl.out; omega)] at hown
     exact ⟨⟨_, rfl, hown⟩, hb⟩
theorem rows2_lit2 (w : World) (T : TypeId) (a1 a2 : Option Addr) (n1 c1 n2 c2 : Nat) (l1 l2 : List UInt8) (h1 : Bts w a1 n1 c1 l1) (h2 : Bts w a2 n2 c2 l2) :
  Rows2 (w.alloc (.cells #[.slice a1 n1 c1, .slice a2 n2 c2] T)) (some ⟨w.heap.size, 0, none⟩) 2 2 [(a1, n1, c1, l1), (a2, n2, c2, l2)] := by
 refine ⟨rfl, by unfold maxLen; omega, fun _ => ⟨w.heap.size, 0, rfl, by simp, fun i hi => ?_⟩, fun x hx => ?_⟩
 ·rw [World.cell?_alloc_at _ _ _ _ rfl]
  match i, hi with
  | 0, _ => rfl
  | 1, _ => rfl
 ·have hb : Below w.heap.size w (w.alloc (.cells #[.slice a1 n1 c1, .slice a2 n2 c2] T)) := (Below.refl _ _).alloc (Nat.le_refl _) _
  rcases List.mem_cons.1 hx with rfl | hx
  ·exact h1.below hb
  ·obtain rfl := List.mem_singleton.1 hx
   exact h2.below hb
set_option maxHeartbeats 800000 in
theorem pad_any (a : Option Addr) (len cap : Nat) (l : List UInt8) (s : Int) (w : World) (h : Bts w a len cap l) :
  Calls Tryz.prog 57 #[.slice a len cap, .int .i64 s] w fun e w' => RetsOwn2 w.heap.size w' (padR l s) e ∧ Below w.heap.size w w' := by
 obtain ⟨i0, hi, hz0, hz1, hz2⟩ := info_parts Tryz.info8
 have hT := bare_any a len cap l w h
 clear h
 by_cases hs : 0 ≤ s ∧ s ≤ 65536
 ·obtain ⟨m, rfl⟩ := Int.eq_ofNat_of_zero_le hs.1
  have hms : m ≤ 65536 := by omega
  have hY := fun W => sized_yes (m : Int) W hs
  clear hs
  by_cases hlong : m < (bareL l).length
  ·have e := zH (padR_long (l := l) hms hlong)
   go_enter Tryz.func57, Tryz.ntmps57
   go_wp2_with (first | (go_at_call 97; refine (hY _).mono ?_; rintro e w' ⟨rfl, rfl⟩) | (go_at_call 68; refine hT.mono ?_; rintro e w1 ⟨⟨a', c', rfl, hr⟩, rfl⟩))
   go_ret2
   exact ⟨⟨_, by rw [e.out]; rfl, by rw [e.out]; exact Own8.nil _ _ _⟩, Below.refl _ _⟩
  ·have e := zH (padR_yes (l := l) hms (by omega))
   have hle : (bareL l).length ≤ m := by omega
   generalize bareL l = t at *
   go_enter Tryz.func57, Tryz.ntmps57
   go_wp2_with (first | (go_at_call 97; refine (hY _).mono ?_; rintro e w' ⟨rfl, rfl⟩) | (go_at_call 68; refine hT.mono ?_; rintro e w1 ⟨⟨a', c', rfl, hr⟩, rfl⟩; have HR := zH hr; clear hr hT) | (at_make; refine wpList_make_full _ rfl _ _ 22 rfl w.heap.size 5 i0 (.int .u8 0) 1 Tryz.underlying22 hi hz0 hz1 _ _ _ _ (m - t.length) rfl rfl (by omega) (by omega) (by rw [hz2]; omega) (by unfold maxLen; omega) (Nat.le_refl _) ?_; intro w1 hown hgrow))
   have hown1 : Own8 5 w.heap.size w1 (.slice (some ⟨w.heap.size, 0, none⟩) (m - t.length) (m - t.length)) (List.replicate (m - t.length) 0) := by
    unfold Own8
    rw [← zeros_byt]
    simpa using hown
   have hb1 : Below w.heap.size w w1 := (Below.refl _ _).grown hgrow (Nat.le_refl _) (fun _ h => by cases h)
   refine (join_any _ _ _ [(some ⟨w.heap.size, 0, none⟩, m - t.length, m - t.length, List.replicate (m - t.length) 0), (a', t.length, c', t)] _ (rows2_lit2 w1 22 _ _ _ _ _ _ _ _ hown1.bts (HR.out.below hb1)) (by simp [joined]; omega)).mono ?_
   rintro e2 w2 ⟨⟨v, rfl, ho⟩, hb2⟩
   have hsz := hb1.size
   go_wp2
   go_ret2
   have ho2 : Own8 5 (w1.heap.size + 1) w2 v (List.replicate (m - t.length) 0 ++ t) := by simpa [joined] using ho
   exact ⟨⟨_, by rw [e.out]; rfl, by rw [e.out]; exact ho2.mono (by omega)⟩, (hb1.alloc hsz _).trans (hb2.mono (by simp; omega))⟩
 ·have e := zH (padR_no (l := l) hs)
  have hN := fun W => sized_no s W hs
  clear hs
  go_enter Tryz.func57, Tryz.ntmps57
  go_wp2_with (go_at_call 97; refine (hN _).mono ?_; rintro e w' ⟨rfl, rfl⟩)
  go_ret2
  exact ⟨⟨_, by rw [e.out]; rfl, by rw [e.out]; exact Own8.nil _ _ _⟩, Below.refl _ _⟩
def LiveRow (B lb : Nat) (w : World) (x : Row2) : Prop :=
 x.2.1 = 0 ∨ ∃ g, x.1 = some ⟨g, 0, none⟩ ∧ B ≤ g ∧ g ≠ lb ∧ x.2.1 ≤ maxLen ∧ ∀ i, i < x.2.1 → ∃ n : Nat, n < 256 ∧ w.cell? ⟨g, i, none⟩ = some (.int .u8 (n : Int)) ∧ w.frozen? ⟨g, i, none⟩ = false
structure Spoils (B : Nat) (w : World) (lb n : Nat) (L : List Row2) : Prop where
 length : L.length = n
 max : n ≤ maxLen
 cells : ∀ i, i < n → w.cell? ⟨lb, i, none⟩ = some (.slice (L[i]?.getD (none, 0, 0, [])).1 (L[i]?.getD (none, 0, 0, [])).2.1 (L[i]?.getD (none, 0, 0, [])).2.2.1)
 live : ∀ i, i < n → LiveRow B lb w (L[i]?.getD (none, 0, 0, []))
def xorL (a b : List UInt8) : List UInt8 := List.zipWith (· ^^^ ·) a b
def xorR (a b : List UInt8) : List UInt8 × Int := if a.length = b.length then (xorL a b, 0) else ([], 2)
theorem xorL_step (a b : List UInt8) (k : Nat) (ha : k < a.length) (hb : k < b.length) : xorL (a.take (k + 1)) (b.take (k + 1)) = xorL (a.take k) (b.take k) ++ [a[k]?.getD 0 ^^^ b[k]?.getD 0] := by
 rw [take_snoc8 a k ha, take_snoc8 b k hb]
 unfold xorL
 rw [List.zipWith_append (by simp; omega)]
 rfl
theorem xor8 (x y : UInt8) : bits BinOp.xor IntKind.u8 (x.toNat : Int) (y.toNat : Int) = ((x ^^^ y).toNat : Int) := by
 rw [u8_xor_nat _ _ (UInt8.toNat_lt x) (UInt8.toNat_lt y), UInt8.toNat_xor]
theorem xor_fill (a b : List UInt8) (n k : Nat) (hk : k < n) (ha : a.length = n) (hb : b.length = n) :
  (xorL (a.take k) (b.take k) ++ List.replicate (n - k) 0).set k (a[k]?.getD 0 ^^^ b[k]?.getD 0) = xorL (a.take (k + 1)) (b.take (k + 1)) ++ List.replicate (n - (k + 1)) 0 := by
 have hl : (xorL (a.take k) (b.take k)).length = k := by simp [xorL]; omega
 rw [xorL_step a b k (by omega) (by omega), List.set_append_right _ _ (by omega), hl, Nat.sub_self, show n - k = n - (k + 1) + 1 from by omega, List.replicate_succ]
 simp
set_option maxHeartbeats 800000 in
theorem xor_any (a1 a2 : Option Addr) (n1 c1 n2 c2 : Nat) (l1 l2 : List UInt8) (w : World) (h1 : Bts w a1 n1 c1 l1) (h2 : Bts w a2 n2 c2 l2) (hm : n1 ≤ 140737488355328) :
  Calls Tryz.prog 164 #[.slice a1 n1 c1, .slice a2 n2 c2] w fun e w' => RetsOwn2 w.heap.size w' (xorR l1 l2) e ∧ Below w.heap.size w w' := by
 obtain ⟨i0, hi, hz0, hz1, hz2⟩ := info_parts Tryz.info8
 have H1 := zH h1
 have H2 := zH h2
 have L1 := zH h1.length
 have L2 := zH h2.length
 have hm2 := h2.len_le
 unfold maxLen at hm2
 clear h1 h2
 by_cases hn : n1 = n2
 ·subst hn
  have hR := zH (show xorR l1 l2 = (xorL l1 l2, 0) by rw [xorR, if_pos (by rw [L1.out, L2.out])])
  go_enter Tryz.func164, Tryz.ntmps164
  go_wp2_with (at_make; refine wpList_make_full _ rfl _ _ 22 rfl w.heap.size 5 i0 (.int .u8 0) 1 Tryz.underlying22 hi hz0 hz1 _ _ _ _ n1 rfl rfl rfl rfl (by rw [hz2]; omega) (by unfold maxLen; omega) (Nat.le_refl _) ?_; intro w1 hown hgrow)
  have hown1 : Own8 5 w.heap.size w1 (.slice (some ⟨w.heap.size, 0, none⟩) n1 n1) (List.replicate n1 0) := by
   unfold Own8
   rw [← zeros_byt]
   simpa using hown
  have hb1 : Below w.heap.size w w1 := (Below.refl _ _).grown hgrow (Nat.le_refl _) (fun _ h => by cases h)
  clear hown hgrow
  go_loopw [18] (fun i wr => ∃ k : Nat, k ≤ n1 ∧ i = .int .i64 k ∧ Own8 5 w.heap.size wr (.slice (some ⟨w.heap.size, 0, none⟩) n1 n1) (xorL (l1.take k) (l2.take k) ++ List.replicate (n1 - k) 0) ∧ Below w.heap.size w wr) (fun i _ => n1 - (intOf i).toNat)
  case atStart => exact ⟨0, Nat.zero_le _, rfl, by simpa [xorL] using hown1, hb1⟩
  case round =>
   obtain ⟨k, hk, rfl, hown, hb⟩ := hrel
   have HO := zH hown
   by_cases hlt : k < n1
   ·obtain ⟨b1, o1, rfl, _, hc1⟩ := (H1.out.below hb).cells (by omega)
    obtain ⟨b2, o2, rfl, _, hc2⟩ := (H2.out.below hb).cells (by omega)
    have hx := hc1 k hlt
    have hy := hc2 k hlt
    have hlen : n1 = (xorL (l1.take k) (l2.take k) ++ List.replicate (n1 - k) 0).length := by
     have := L1.out; have := L2.out; simp [xorL]; omega
    have hcell := hown.cellAt hlen k hlt
    have hfr := hown.frozenAt hlen k
    have HX := zH (xor8 (l1[k]?.getD 0) (l2[k]?.getD 0))
    have HF := zH (xor_fill l1 l2 n1 k hlt L1.out L2.out)
    have HL := zH hlen
    clear hc1 hc2 hown hlen hown1 hb1
    generalize l1[k]?.getD 0 = x at *
    generalize l2[k]?.getD 0 = y at *
    go_wp2
    go_region
    go_wp2
    rw [HX.out]
    have hst := HO.out.stored HL.out k (x ^^^ y) _ rfl
    rw [HF.out] at hst
    go_roundw
    case rel => exact ⟨k + 1, by omega, by go_num, hst.1, (hst.2 _ hb).drew⟩
    case measure => simp [intOf] <;> omega
   ·obtain rfl : k = n1 := by omega
    go_wp2
    go_ret2
    rw [hR.out]
    rw [List.take_of_length_le (by rw [L1.out]; omega), List.take_of_length_le (by rw [L2.out]; omega), Nat.sub_self] at hown
    exact ⟨⟨_, rfl, by simpa using hown⟩, hb⟩
 ·have hR := zH (show xorR l1 l2 = ([], 2) by rw [xorR, if_neg (by rw [L1.out, L2.out]; exact hn)])
  have hne : ((n1 : Int) != (n2 : Int)) = true := by simp; omega
  go_enter Tryz.func164, Tryz.ntmps164
  go_wp2
  go_ret2
  rw [hR.out]
  exact ⟨⟨_, rfl, Own8.nil _ _ _⟩, Below.refl _ _⟩
structure Nums (w : World) (a : Option Addr) (len cap : Nat) (z : List Int) : Prop where
 length : z.length = len
 le : len ≤ cap
 max : cap ≤ maxLen
 cells : 0 < len → ∃ b off, a = some ⟨b, off, none⟩ ∧ b < w.heap.size ∧ ∀ i, i < len → w.cell? ⟨b, off + i, none⟩ = some (.int .i64 (z[i]?.getD 0))
theorem Nums.below {w w' : World} {a : Option Addr} {len cap : Nat} {z : List Int} (h : Nums w a len cap z) (hb : Below w.heap.size w w') : Nums w' a len cap z :=
 ⟨h.length, h.le, h.max, fun hp => by
  obtain ⟨b, off, rfl, hlt, hc⟩ := h.cells hp
  exact ⟨b, off, rfl, Nat.lt_of_lt_of_le hlt hb.size, fun i hi => (hb.cell (p := ⟨b, off + i, none⟩) hlt).trans (hc i hi)⟩⟩
theorem _root_.Go.Proofs.YtpefjkndfifceaaGreatDoor.Bts.sub {w : World} {a : Option Addr} {len cap : Nat} {l : List UInt8} (h : Bts w a len cap l) (k m : Nat) (hkm : k ≤ m) (hm : m ≤ len) : Bts w (if cap = k then a else a.map (·.add k)) (m - k) (cap - k) ((l.take m).drop k) := by
 have hl := h.length
 have hle := h.le
 have hmax := h.max
 refine ⟨by rw [List.length_drop, List.length_take]; omega, by omega, by omega, fun hn => ?_, fun hp => ?_⟩
 ·by_cases hc : cap = k
  ·omega
  ·rw [if_neg hc] at hn
   have := h.nil (by simpa using hn)
   omega
 ·obtain ⟨b, off, rfl, hlt, hc⟩ := h.cells (by omega)
  refine ⟨b, off + k, ?_, hlt, fun i hi => ?_⟩
  ·rw [if_neg (by omega)]
   simp only [Option.map_some]
   congr 1
   unfold Addr.add
   split <;> simp_all
  ·rw [show off + k + i = off + (k + i) from by omega, hc (k + i) (by omega), List.getElem?_drop, List.getElem?_take, if_pos (by omega)]
theorem _root_.Go.Proofs.YtpefjkndfifceaaGreatDoor.Bts.upto {w : World} {a : Option Addr} {len cap : Nat} {l : List UInt8} (h : Bts w a len cap l) (m : Nat) (hm : m ≤ len) : Bts w a m cap (l.take m) := by
 refine ⟨by rw [List.length_take, h.length]; omega, by have := h.le; omega, h.max, h.nil, fun hp => ?_⟩
 obtain ⟨b, off, rfl, hlt, hc⟩ := h.cells (by omega)
 refine ⟨b, off, rfl, hlt, fun i hi => ?_⟩
 rw [hc i (by omega), List.getElem?_take, if_pos hi]
theorem _root_.Go.Proofs.YtpefjkndfifceaaGreatDoor.Bts.from {w : World} {a : Option Addr} {len cap : Nat} {l : List UInt8} (h : Bts w a len cap l) (k : Nat) (hk : k ≤ len) : Bts w (if cap = k then a else a.map (·.add k)) (len - k) (cap - k) (l.drop k) := by
 have := h.sub k len hk (Nat.le_refl _)
 rwa [List.take_of_length_le (by rw [h.length]; omega)] at this
def restL (l : List UInt8) : List Int → List UInt8
 | [] => l
 | s :: ss => restL (l.drop s.toNat) ss
def partsL (l : List UInt8) : List Int → List (List UInt8)
 | [] => []
 | s :: ss => l.take s.toNat :: partsL (l.drop s.toNat) ss
def cutOk (l : List UInt8) : List Int → Bool
 | [] => l.isEmpty
 | s :: ss => decide (0 ≤ s ∧ s ≤ l.length) && cutOk (l.drop s.toNat) ss
theorem restL_snoc : ∀ (xs : List Int) (l : List UInt8) (s : Int), restL l (xs ++ [s]) = (restL l xs).drop s.toNat
 | [], _, _ => rfl
 | _ :: xs, _, s => restL_snoc xs _ s
theorem partsL_snoc : ∀ (xs : List Int) (l : List UInt8) (s : Int), partsL l (xs ++ [s]) = partsL l xs ++ [(restL l xs).take s.toNat]
 | [], _, _ => rfl
 | x :: xs, l, s => by
  have := partsL_snoc xs (l.drop x.toNat) s
  simp [partsL, restL, this]
theorem take_snocI (z : List Int) (k : Nat) (hk : k < z.length) : z.take (k + 1) = z.take k ++ [z[k]?.getD 0] := by
 rw [List.take_add_one, List.getElem?_eq_getElem hk]; rfl
theorem restL_step (l : List UInt8) (z : List Int) (k : Nat) (hk : k < z.length) : restL l (z.take (k + 1)) = (restL l (z.take k)).drop (z[k]?.getD 0).toNat := by rw [take_snocI z k hk, restL_snoc]
theorem partsL_step (l : List UInt8) (z : List Int) (k : Nat) (hk : k < z.length) : partsL l (z.take (k + 1)) = partsL l (z.take k) ++ [(restL l (z.take k)).take (z[k]?.getD 0).toNat] := by rw [take_snocI z k hk, partsL_snoc]
theorem cutOk_step (l : List UInt8) (z : List Int) (k : Nat) (hk : k < z.length) :
  cutOk l (z.drop k) = (decide (0 ≤ z[k]?.getD 0 ∧ z[k]?.getD 0 ≤ l.length) && cutOk (l.drop (z[k]?.getD 0).toNat) (z.drop (k + 1))) := by
 rw [List.drop_eq_getElem_cons hk, List.getElem?_eq_getElem hk]
 rfl
theorem cutOk_at : ∀ (z : List Int) (l : List UInt8), cutOk l z = true → (∀ k, k < z.length → 0 ≤ z[k]?.getD 0 ∧ z[k]?.getD 0 ≤ (restL l (z.take k)).length) ∧ restL l z = []
 | [], l, h => ⟨fun k hk => by simp at hk, by simpa [cutOk, restL] using h⟩
 | s :: ss, l, h => by
  simp only [cutOk, Bool.and_eq_true, decide_eq_true_eq] at h
  have := cutOk_at ss (l.drop s.toNat) h.2
  refine ⟨fun k hk => ?_, this.2⟩
  cases k with
  | zero => simpa [restL] using h.1
  | succ k => simpa [restL] using this.1 k (by simpa using hk)
def cutR (l : List UInt8) (z : List Int) : List (List UInt8) × Int := if cutOk l z = true then (partsL l z, 0) else ([], 2)
theorem cutR_yes {l : List UInt8} {z : List Int} (h : cutOk l z = true) : cutR l z = (partsL l z, 0) := by rw [cutR, if_pos h]
theorem cutR_no {l : List UInt8} {z : List Int} (h : cutOk l z = false) : cutR l z = ([], 2) := by rw [cutR, if_neg (by simp [h])]
abbrev slc (x : Row2) : Value := .slice x.1 x.2.1 x.2.2.1
structure OwnL (E U B : Nat) (w : World) (v : Value) (X : List Row2) : Prop where
 row : w.ownsRow B E 1 v X.length (X.map slc)
 each : ∀ x ∈ X, Own8 U B w (slc x) x.2.2.2
theorem OwnL.nil (E U B : Nat) (w : World) : OwnL E U B w (.slice .none 0 0) [] := ⟨World.ownsRow_nil _ _ _ _, fun _ h => by cases h⟩
theorem OwnL.below {E U B : Nat} {w w' : World} {v : Value} {X : List Row2} (h : OwnL E U B w v X) (hb : Below w.heap.size w w') : OwnL E U B w' v X := by
 refine ⟨?_, fun x hx => (h.each x hx).below hb⟩
 obtain ⟨h1, h2⟩ := h.row
 refine ⟨h1, ?_⟩
 rcases h2 with h2 | ⟨g, cap, cur, rfl, hB, hg, rest⟩
 ·exact .inl h2
 ·exact .inr ⟨g, cap, cur, rfl, hB, by rw [hb.block g (Array.getElem?_eq_some_iff.1 hg).1]; exact hg, rest⟩
theorem OwnL.form {E U B : Nat} {w : World} {v : Value} {X : List Row2} (h : OwnL E U B w v X) : (v = .slice .none 0 0 ∧ X = []) ∨ ∃ g cap, v = .slice (some ⟨g, 0, .none⟩) X.length cap ∧ X.length ≤ cap ∧ cap ≤ maxLen ∧ B ≤ g ∧ g < w.heap.size := by
 obtain ⟨h1, h2⟩ := h.row
 rcases h2 with ⟨h2, h0⟩ | ⟨g, cap, cur, rfl, hb, hg, hn, hc, hs, ht⟩
 ·exact .inl ⟨h2, List.eq_nil_of_length_eq_zero h0⟩
 ·exact .inr ⟨g, cap, rfl, hn, hc, hb, (Array.getElem?_eq_some_iff.1 hg).1⟩
theorem OwnL.apart {E U B : Nat} {w : World} {v : Value} {X : List Row2} (h : OwnL E U B w v X) (hEU : U ≠ E) : ∀ x ∈ X, (slc x).ownBlock = .none ∨ (slc x).ownBlock ≠ v.ownBlock := by
 intro x hx
 cases hv : (slc x).ownBlock with
 | none => exact .inl rfl
 | some g =>
  refine .inr fun e => ?_
  obtain ⟨c, fz, h1⟩ := Lib.ownsRow_kind (h.each x hx) g hv
  obtain ⟨c', fz', h2⟩ := Lib.ownsRow_kind h.row g e.symm
  rw [h1] at h2
  simp at h2
  exact hEU h2.2.1
theorem wpList_append_row {P : Program} (w : World) {ops : Array Oper} {rest : List Oper} {o : Oper} {a : Act} {Q : Exit → Act → World → Prop} (hgd : o.guard = .none) (s x : Operand) (t : TypeId)
  (ho : o.op = .call { callee := .builtin .append, args := #[s, x], argTypes := #[t, t] })
  (B E U : Nat) (hEU : U ≠ E) (i : TypeInfo) (ht : P.underlying t = some (.slice E)) (hi : P.info? E = some i) (hz : i.zero = some (.slice .none 0 0)) (hsize : i.size = 1) (hby : i.bytes = 24)
  (v : Value) (X : List Row2) (hs : a.eval s = v) (hown : OwnL E U B w v X) (ad : Addr) (y : Row2) (hx : a.eval x = .slice (some ad) 1 1) (hcell : w.cell? ad = some (slc y)) (hy : Own8 U B w (slc y) y.2.2.2)
  (hsum : X.length ≤ 100000) (hbase : B ≤ w.heap.size)
  (h : ∀ v' w', OwnL E U B w' v' (X ++ [y]) → (∀ w0, Below B w0 w → Below B w0 w') → wpList P ops Q rest (a.put o.dst v') w') : wpList P ops Q (o :: rest) a w := by
 refine wpList_append_own w hgd s x t ho B E i (.slice .none 0 0) 1 24 ht hi hz hsize hby rfl (by decide) v X.length (X.map slc) hs hown.row ad 1 1 [slc y] hx rfl (fun j u hu => ?_) (by simp [Value.oneCell']) (by unfold maxLen; omega) (by omega) hbase ?_
 ·cases j with
  | zero =>
   simp at hu
   subst hu
   rw [show ad.add 0 = ad from by cases ad; unfold Addr.add; split <;> simp_all]
   exact hcell
  | succ j => simp at hu
 ·intro v' w' ho' hg _
  have hap := hown.apart hEU
  have hyo : (slc y).ownBlock = .none ∨ (slc y).ownBlock ≠ v.ownBlock := by
   cases hv : (slc y).ownBlock with
   | none => exact .inl rfl
   | some g =>
    refine .inr fun e => ?_
    obtain ⟨c, fz, h1⟩ := Lib.ownsRow_kind hy g hv
    obtain ⟨c', fz', h2⟩ := Lib.ownsRow_kind hown.row g e.symm
    rw [h1] at h2
    simp at h2
    exact hEU h2.2.1
  refine h v' w' ⟨by simpa using ho', fun u hu => ?_⟩ (fun w0 h0 => h0.grown hg hbase (fun k hk => (hown.row.lt k hk).1))
  rcases List.mem_append.1 hu with hu | hu
  ·exact World.ownsRow.kept (hown.each u hu) hg (hap u hu)
  ·obtain rfl := List.mem_singleton.1 hu
   exact World.ownsRow.kept hy hg hyo
def RetsCut (B : Nat) (w' : World) (r : List (List UInt8) × Int) (e : Ending) : Prop := ∃ v X, e = .returned (.tuple #[v, .int .i64 r.2]) ∧ OwnL 22 5 B w' v X ∧ X.map (·.2.2.2) = r.1
theorem RetsCut.no {B : Nat} {w' : World} {r : List (List UInt8) × Int} (h : r = ([], 2)) : RetsCut B w' r (.returned (.tuple #[.slice none 0 0, .int .i64 2])) := by
 subst h
 exact ⟨_, [], rfl, OwnL.nil _ _ _ _, rfl⟩
theorem Tryz.infoS : (Tryz.prog.info? 22).map (fun i => (i.zero, i.size, i.bytes)) = some (some (.slice none 0 0), 1, 24) := by kernel_rfl
set_option maxHeartbeats 1600000 in
theorem cut_any (a : Option Addr) (len cap : Nat) (l : List UInt8) (za : Option Addr) (zl zc : Nat) (zs : List Int) (w : World) (h : Bts w a len cap l) (hz : Nums w za zl zc zs) (hm : len ≤ 140737488355328) (hn : zl ≤ 100000) :
  Calls Tryz.prog 172 #[.slice a len cap, .slice za zl zc] w fun e w' => RetsCut w.heap.size w' (cutR l zs) e ∧ Below w.heap.size w w' := by
 obtain ⟨i0, hi, hz0, hz1, hz2⟩ := info_parts Tryz.infoS
 have H := zH h
 have HZ := zH hz
 have L := zH h.length
 have LZ := zH hz.length
 clear h hz
 go_enter Tryz.func172, Tryz.ntmps172
 go_wp2
 go_loop [6, 16] (fun left i => ∃ k : Nat, k ≤ zl ∧ i = .int .i64 k ∧ left = .int .i64 ((restL l (zs.take k)).length : Nat) ∧ Hid (cutOk l zs = cutOk (restL l (zs.take k)) (zs.drop k)) ∧ (restL l (zs.take k)).length ≤ len) (fun _ i => zl - (intOf i).toNat)
 case atStart => exact ⟨0, Nat.zero_le _, rfl, by simp [restL, L.out], by simp [Hid, restL], by simp [restL, L.out]⟩
 case round =>
  obtain ⟨k, hk, rfl, rfl, hok, hle⟩ := hrel
  by_cases hlt : k < zl
  ·obtain ⟨b, off, rfl, hbl, hc⟩ := HZ.out.cells (by omega)
   have hck := hc k hlt
   have hst := zH (restL_step l zs k (by rw [LZ.out]; exact hlt))
   have hos := zH (cutOk_step (restL l (zs.take k)) zs k (by rw [LZ.out]; exact hlt))
   clear hc
   generalize zs[k]?.getD 0 = z at *
   generalize restL l (zs.take k) = R at *
   generalize hR : R.length = r at *
   have HR := zH hR
   clear hR
   by_cases h0 : z < 0
   ·have hres := zH (cutR_no (l := l) (z := zs) (by rw [hok.out, hos.out, decide_eq_false (by omega), Bool.false_and]))
    go_wp2
    go_ret2
    exact ⟨RetsCut.no hres.out, Below.refl _ _⟩
   ·by_cases h1 : (r : Int) < z
    ·have hres := zH (cutR_no (l := l) (z := zs) (by rw [hok.out, hos.out, decide_eq_false (by omega), Bool.false_and]))
     go_wp2
     go_ret2
     exact ⟨RetsCut.no hres.out, Below.refl _ _⟩
    ·obtain ⟨s, rfl⟩ := Int.eq_ofNat_of_zero_le (show 0 ≤ z by omega)
     have hrl : (restL l (zs.take (k + 1))).length = r - s := by rw [hst.out, List.length_drop, HR.out]; rfl
     have HRL := zH hrl
     clear hrl
     go_wp2
     go_round
     case rel => exact ⟨k + 1, by omega, by go_num, by rw [HRL.out]; go_num, by (unfold Hid; rw [hok.out, hos.out, decide_eq_true (by omega), Bool.true_and, hst.out]), by rw [HRL.out]; omega⟩
     case measure => simp [intOf] <;> omega
  ·obtain rfl : k = zl := by omega
   have et : zs.take k = zs := List.take_of_length_le (by rw [LZ.out]; omega)
   have ed : zs.drop k = [] := List.drop_eq_nil_of_le (by rw [LZ.out]; omega)
   have hok' := zH (show cutOk l zs = (restL l zs).isEmpty by rw [hok.out, et, ed]; rfl)
   rw [et] at hle ⊢
   clear et ed hok
   by_cases hr : (restL l zs).length = 0
   ·have hyes := zH (show cutOk l zs = true by rw [hok'.out]; simpa using hr)
    have hat := zH (cutOk_at zs l hyes.out)
    rw [hr]
    clear hr hok' hle
    go_wp2_with (at_make; refine wpList_make_own _ rfl _ _ 95 rfl w.heap.size 22 i0 (.slice none 0 0) 1 Tryz.underlying95 hi hz0 hz1 _ _ _ k rfl rfl rfl (by rw [hz2]; omega) (by unfold maxLen; omega) (Nat.le_refl _) ?_; intro w1 hown0 hgrow0)
    have hb0 : Below w.heap.size w w1 := (Below.refl _ _).grown hgrow0 (Nat.le_refl _) (fun _ h => by cases h)
    have HO : OwnL 22 5 w.heap.size w1 _ [] := ⟨hown0, fun _ h => by cases h⟩
    clear hgrow0 hown0
    go_loopw [0, 9, 38] (fun bv pv i wr => ∃ (q : Nat) (ba : Option Addr) (bl bc : Nat) (X : List Row2), q ≤ k ∧ i = .int .i64 q ∧ bv = .slice ba bl bc ∧ Hid (Bts w ba bl bc (restL l (zs.take q))) ∧ bl ≤ len ∧ OwnL 22 5 w.heap.size wr pv X ∧ Hid (X.map (·.2.2.2) = partsL l (zs.take q)) ∧ X.length = q ∧ Below w.heap.size w wr) (fun _ _ i _ => k - (intOf i).toNat)
    case atStart => exact ⟨0, a, len, cap, [], Nat.zero_le _, rfl, rfl, H.out, Nat.le_refl _, HO, rfl, rfl, hb0⟩
    case round =>
     obtain ⟨q, ba, bl, bc, X, hq, rfl, rfl, hB, hbl, hO, hX, hXl, hb⟩ := hrel
     have hsz := hb.size
     by_cases hlq : q < k
     ·obtain ⟨b, off, rfl, _, hc⟩ := (HZ.out.below hb).cells (by omega)
      have hck := hc q hlq
      have hst := zH (restL_step l zs q (by rw [LZ.out]; exact hlq))
      have hps := zH (partsL_step l zs q (by rw [LZ.out]; exact hlq))
      have hzq := hat.out.1 q (by rw [LZ.out]; exact hlq)
      rw [hB.out.length] at hzq
      clear hc
      generalize zs[q]?.getD 0 = z at *
      generalize restL l (zs.take q) = R at *
      obtain ⟨s, rfl⟩ := Int.eq_ofNat_of_zero_le hzq.1
      have hsl : s ≤ bl := by omega
      have hble := hB.out.le
      have hbm := hB.out.max
      unfold maxLen at hbm
      have HT := zH ((hB.out.below hb).upto s hsl)
      have HF := zH (hB.out.from s hsl)
      have hps' := zH (show partsL l (zs.take (q + 1)) = partsL l (zs.take q) ++ [R.take s] from hps.out)
      clear hzq hps
      generalize R.take s = T at *
      go_wp2_with (first | (go_at_call 67; refine (clone_any _ _ _ _ _ HT.out (by omega)).mono ?_; rintro e w2 ⟨⟨v, rfl, ho⟩, hb2⟩; obtain ⟨ya, yc, rfl, hyb, _⟩ := ho.form; have hsz2 := hb2.size; have HOW := zH ho; have HB2 := zH hb2; clear ho hb2 hyb) | (at_builtin; (refine wpList_append_row _ rfl _ _ 95 rfl w.heap.size 22 5 (by decide) i0 Tryz.underlying95 hi hz0 hz1 hz2 _ X rfl ((hO.below HB2.out).below ((Below.refl _ _).alloc (Nat.le_refl _) _)) ⟨w2.heap.size, 0, none⟩ (ya, _, yc, _) rfl (by rw [World.cell?_alloc_at _ _ _ _ rfl]; rfl) ((HOW.out.mono hsz).alloc _) (by omega) (by simp; omega) ?_; intro v' w3 hown3 hgrow3; have hb3 := hgrow3 _ ((hb.trans (HB2.out.mono hsz)).alloc (by omega) _))))
      go_roundw
      case rel => exact ⟨q + 1, _, bl - s, _, X ++ [(ya, T.length, yc, T)], by omega, by go_num, rfl, by (unfold Hid; rw [hst.out]; exact HF.out), by omega, hown3, by (unfold Hid; rw [List.map_append, hX.out, hps'.out]; rfl), by simp [hXl], hb3⟩
      case measure => simp [intOf] <;> omega
     ·obtain rfl : q = k := by omega
      go_wp2
      go_ret2
      refine ⟨⟨_, X, by rw [cutR_yes hyes.out]; rfl, hO, ?_⟩, hb⟩
      rw [cutR_yes hyes.out, hX.out, List.take_of_length_le (by rw [LZ.out]; omega)]
   ·have hres := zH (cutR_no (l := l) (z := zs) (by rw [hok'.out]; simpa using hr))
    generalize hx : (restL l zs).length = x at *
    clear hx
    have hx1 : ((x : Int) != 0) = true := by simp; omega
    go_wp2
    go_ret2
    exact ⟨RetsCut.no hres.out, Below.refl _ _⟩
end Go.Proofs.YtpefjkndfifceaaGreatDoor.Oc
namespace Go.Proofs.YtpefjkndfifceaaGreatDoor
open Go.RowKit
set_option maxRecDepth 100000
theorem length_p (n : Nat) (hn : n ≤ 1000000000) (w : World) : Calls Tryz.prog 125 #[.int .i64 (n : Int)] w fun e w' => e = .returned (.int .i64 (lenP n : Int)) ∧ w = w' := by
 obtain ⟨q, hq⟩ : ∃ q, lenP n = q := ⟨_, rfl⟩
 have e1 : ((n : Int) + 7) / 8 = (q : Int) := by rw [← hq]; unfold lenP; omega
 rw [hq]
 clear hq
 go_enter Tryz.func125, Tryz.ntmps125
 go_wp2
 go_ret
 exact ⟨by show Ending.returned (.int .i64 (((n : Int) + 7) / 8)) = _; rw [e1], rfl⟩
theorem length_neg (b : Int) (h0 : -9223372036854775808 ≤ b) (h1 : b < 0) (w : World) : Calls Tryz.prog 125 #[.int .i64 b] w fun e w' => (∃ q : Int, e = .returned (.int .i64 q) ∧ -9223372036854775000 ≤ q ∧ q ≤ 0) ∧ w = w' := by
 obtain ⟨q, hq⟩ : ∃ q, Int.tdiv (b + 7) 8 = q := ⟨_, rfl⟩
 have hb : -9223372036854775000 ≤ q ∧ q ≤ 0 := by
  rw [← hq]
  by_cases h : 0 ≤ b + 7
  ·rw [Int.tdiv_eq_ediv_of_nonneg h]; omega
  ·obtain ⟨m, hm⟩ : ∃ m : Nat, b + 7 = -(m : Int) := ⟨(-(b + 7)).toNat, by omega⟩
   rw [hm, Int.neg_tdiv, Int.tdiv_eq_ediv_of_nonneg (by omega)]
   omega
 have hw : wrap64 q = q := by unfold wrap64; omega
 have HB := zH hb
 clear hb
 go_enter Tryz.func125, Tryz.ntmps125
 go_wp2
 go_ret
 exact ⟨⟨q, by show Ending.returned (.int .i64 (wrap64 q)) = _; rw [hw], HB.out.1, HB.out.2⟩, rfl⟩
theorem low_p (n : Nat) (hn : n ≤ 1000000000) (w : World) : Calls Tryz.prog 165 #[.int .i64 (n : Int)] w fun e w' => e = .returned (.int .u8 (lowP n : Int)) ∧ w = w' := by
 have hb := lenP_bits n
 have hl : lenP n ≤ 1000000000 := by unfold lenP; omega
 obtain ⟨k, hk⟩ : ∃ k, 8 * lenP n - n = k := ⟨_, rfl⟩
 have HK := zH (show lowP n = 255 / 2 ^ k by unfold lowP; rw [hk])
 have e1 : 8 * (lenP n : Int) - (n : Int) = (k : Int) := by omega
 have hk8 : k < 8 := by omega
 clear hk hb
 rw [HK.out]
 rcases (show k = 0 ∨ k = 1 ∨ k = 2 ∨ k = 3 ∨ k = 4 ∨ k = 5 ∨ k = 6 ∨ k = 7 by omega) with rfl | rfl | rfl | rfl | rfl | rfl | rfl | rfl
 all_goals (go_enter Tryz.func165, Tryz.ntmps165; go_wp2_with fail; refine (length_p n hn _).mono ?_; rintro e w1 ⟨rfl, rfl⟩; generalize lenP n = q at *; clear HK hk8; go_wp2; go_ret; exact ⟨by first | rfl | simp, rfl⟩)
set_option maxHeartbeats 1000000 in
theorem room_p (h s b : Int) (hs0 : -9223372036854775808 ≤ s) (hs1 : s ≤ 9223372036854775807) (hb0 : -9223372036854775808 ≤ b) (hb1 : b ≤ 9223372036854775807) (w : World) (hk : Kinds w) :
  Calls Tryz.prog 124 #[.int .i64 h, .int .i64 s, .int .i64 b] w fun e w' => e = .returned (.bool (decide (RoomP h s b))) ∧ Below w.heap.size w w' := by
 have HK := zH hk
 clear hk
 by_cases hh : IsHash h.toNat
 rotate_left
 ·have HR := zH (show decide (RoomP h s b) = false from decide_eq_false fun k => hh k.1)
  have HN := zH (show h < 1 ∨ 4 < h from by unfold IsHash at hh; omega)
  clear hh
  go_enter Tryz.func124, Tryz.ntmps124
  go_wp2_with fail
  refine (size_no h HN.out _).mono ?_
  rintro e w1 ⟨rfl, hb⟩
  have HB := zH hb
  clear hb
  go_wp2
  go_ret
  exact ⟨by rw [HR.out]; rfl, HB.out⟩
 obtain ⟨n, rfl⟩ : ∃ n : Nat, h = (n : Int) := ⟨h.toNat, by unfold IsHash at hh; omega⟩
 rw [Int.toNat_natCast] at hh
 have hS := mSize_le hh
 have HRO := zH (show RoomP (n : Int) s b ↔ (0 ≤ s ∧ 0 ≤ b ∧ b ≤ 524288 ∧ s + (mSize n : Int) + 2 ≤ (lenP b.toNat : Int)) from ⟨fun k => k.2, fun k => ⟨hh, k⟩⟩)
 have HH := zH hh
 clear hh
 by_cases c1 : s < 0
 ·have HR := zH (show decide (RoomP (n : Int) s b) = false from decide_eq_false fun k => by have := HRO.out.1 k; omega)
  have g1 : decide ((0 : Int) ≤ s) = false := decide_eq_false (by omega)
  go_enter Tryz.func124, Tryz.ntmps124
  go_wp2_with fail
  refine (size_yes n HH.out _ HK.out).mono ?_
  rintro e w1 ⟨rfl, hb⟩
  have HB := zH hb
  clear hb
  generalize mSize n = S at *
  have g0 : decide ((0 : Int) < (S : Int)) = true := decide_eq_true (by omega)
  go_wp2
  go_ret
  exact ⟨by rw [HR.out]; rfl, HB.out⟩
 have g1 : decide ((0 : Int) ≤ s) = true := decide_eq_true (by omega)
 by_cases c2 : 524288 < b
 ·have HR := zH (show decide (RoomP (n : Int) s b) = false from decide_eq_false fun k => by have := HRO.out.1 k; omega)
  have g2 : decide (b ≤ (524288 : Int)) = false := decide_eq_false (by omega)
  go_enter Tryz.func124, Tryz.ntmps124
  go_wp2_with fail
  refine (size_yes n HH.out _ HK.out).mono ?_
  rintro e w1 ⟨rfl, hb⟩
  have HB := zH hb
  clear hb
  generalize mSize n = S at *
  have g0 : decide ((0 : Int) < (S : Int)) = true := decide_eq_true (by omega)
  go_wp2
  go_ret
  exact ⟨by rw [HR.out]; rfl, HB.out⟩
 have g2 : decide (b ≤ (524288 : Int)) = true := decide_eq_true (by omega)
 by_cases c3 : b < 0
 ·have HR := zH (show decide (RoomP (n : Int) s b) = false from decide_eq_false fun k => by have := HRO.out.1 k; omega)
  skip
  go_enter Tryz.func124, Tryz.ntmps124
  go_wp2_with fail
  refine (size_yes n HH.out _ HK.out).mono ?_
  rintro e w1 ⟨rfl, hb⟩
  have HB := zH hb
  clear hb
  generalize mSize n = S at *
  have g0 : decide ((0 : Int) < (S : Int)) = true := decide_eq_true (by omega)
  go_wp2_with fail
  refine (length_neg b hb0 c3 _).mono ?_
  rintro e w2 ⟨⟨q, rfl, q1, q2⟩, rfl⟩
  have g3 : decide (s ≤ q - (S : Int) - 2) = false := decide_eq_false (by omega)
  go_wp2
  go_ret
  exact ⟨by rw [HR.out]; rfl, HB.out⟩
 obtain ⟨m, rfl⟩ : ∃ m : Nat, b = (m : Int) := ⟨b.toNat, by omega⟩
 rw [Int.toNat_natCast] at HRO
 have hm : m ≤ 524288 := by omega
 have hlm : lenP m ≤ 65536 := by unfold lenP; omega
 go_enter Tryz.func124, Tryz.ntmps124
 go_wp2_with fail
 refine (size_yes n HH.out _ HK.out).mono ?_
 rintro e w1 ⟨rfl, hb⟩
 have HB := zH hb
 clear hb
 generalize mSize n = S at *
 have g0 : decide ((0 : Int) < (S : Int)) = true := decide_eq_true (by omega)
 go_wp2_with fail
 refine (length_p m (by omega) _).mono ?_
 rintro e w2 ⟨rfl, rfl⟩
 generalize lenP m = q at *
 by_cases c4 : s + (S : Int) + 2 ≤ (q : Int)
 ·have HR := zH (show decide (RoomP (n : Int) s (m : Int)) = true from decide_eq_true (HRO.out.2 ⟨by omega, by omega, by omega, c4⟩))
  have g3 : decide (s ≤ (q : Int) - (S : Int) - 2) = true := decide_eq_true (by omega)
  clear c4
  go_wp2
  go_ret
  exact ⟨by rw [HR.out]; rfl, HB.out⟩
 ·have HR := zH (show decide (RoomP (n : Int) s (m : Int)) = false from decide_eq_false fun k => c4 (HRO.out.1 k).2.2.2)
  have g3 : decide (s ≤ (q : Int) - (S : Int) - 2) = false := decide_eq_false (by omega)
  clear c4
  go_wp2
  go_ret
  exact ⟨by rw [HR.out]; rfl, HB.out⟩
def inRp (g : Nat) (da : Option Addr) (dn dc : Nat) (d : List Nat) (sa : Option Addr) (sn sc : Nat) (s : List Nat) : Nat → Option Addr × Nat × Nat × List Nat
 | 0 => (some ⟨g, 0, none⟩, 8, 8, List.replicate 8 0)
 | 1 => (da, dn, dc, d)
 | _ => (sa, sn, sc, s)
set_option maxHeartbeats 1000000 in
theorem inner_p (h : Nat) (hh : IsHash h) (da : Option Addr) (dn dc : Nat) (d : List Nat) (sa : Option Addr) (sn sc : Nat) (s : List Nat) (w : World) (hk : Kinds w) (hd : Reads .u8 w da dn dc d) (hs : Reads .u8 w sa sn sc s) (bd : Byt d) (bs : Byt s) (ld : dn ≤ 1048576) (ls : sn ≤ 1048576) :
  Calls Tryz.prog 100 #[.int .i64 (h : Int), .slice da dn dc, .slice sa sn sc] w fun e w' => (∃ ad c, e = .returned (.slice (some ad) (mSize h) c) ∧ Reads .u8 w' (some ad) (mSize h) c (innerP h d s) ∧ w.heap.size ≤ ad.block) ∧ Below w.heap.size w w' := by
 obtain ⟨i0, hi, hz0, hz1, hz2⟩ := info_parts infoMk
 have HK := zH hk
 have HD := zH hd
 have HS := zH hs
 have HBD := zH (And.intro bd bs)
 clear hk hd hs bd bs
 go_enter Tryz.func100, Tryz.ntmps100
 go_wp2_with (at_make; refine wpList_make_full _ rfl _ _ 22 rfl w.heap.size 5 i0 (.int .u8 0) 1 Tryz.underlying22 hi hz0 hz1 _ _ _ _ 8 rfl rfl rfl rfl (by rw [hz2]; omega) (by unfold maxLen; omega) (Nat.le_refl _) ?_; intro w1 hown hgrow; have HO := zH (OwnQ.madeM hown rfl); have HB1 := zH (Below.grown (Below.refl w.heap.size w) hgrow (Nat.le_refl _) (fun _ e => by cases e)); clear hown hgrow)
 have HR := zH (show RowsM (w1.alloc (.cells #[.slice (some ⟨w.heap.size, 0, none⟩) 8 8, .slice da dn dc, .slice sa sn sc] 22)) (some ⟨w1.heap.size, 0, none⟩) 3 (inRp w.heap.size da dn dc d sa sn sc s) from by
  have hba := (Below.refl w1.heap.size w1).alloc (Nat.le_refl _) (.cells #[.slice (some ⟨w.heap.size, 0, none⟩) 8 8, .slice da dn dc, .slice sa sn sc] 22)
  refine ⟨fun i hi => ?_, fun _ => ⟨_, 0, rfl, by simp, fun i hi => ?_⟩⟩
  ·rcases (show i = 0 ∨ i = 1 ∨ i = 2 by omega) with rfl | rfl | rfl
   ·exact ⟨HO.out.reads.below hba, (by decide : Byt (List.replicate 8 0)), (by decide : 8 ≤ 1048576)⟩
   ·exact ⟨(HD.out.below HB1.out).below hba, HBD.out.1, ld⟩
   ·exact ⟨(HS.out.below HB1.out).below hba, HBD.out.2, ls⟩
  ·rw [Nat.zero_add, World.cell?_alloc_new]
   rcases (show i = 0 ∨ i = 1 ∨ i = 2 by omega) with rfl | rfl | rfl <;> rfl)
 have HB2 := zH (HB1.out.alloc HB1.out.size (.cells #[.slice (some ⟨w.heap.size, 0, none⟩) 8 8, .slice da dn dc, .slice sa sn sc] 22))
 have HF := zH (show flatM (inRp w.heap.size da dn dc d sa sn sc s) 3 = List.replicate 8 0 ++ d ++ s from rfl)
 go_wp2_with fail
 refine (sum_yes h hh _ 3 3 _ _ (HK.out.below HB2.out) HR.out (by decide)).mono ?_
 rintro e w3 ⟨⟨ad, c, rfl, h1, h2⟩, hb⟩
 rw [HF.out] at h1
 have H1 := zH h1
 have HB3 := zH (HB2.out.trans (hb.mono HB2.out.size))
 have HAD := zH (show w.heap.size ≤ ad.block from Nat.le_trans HB2.out.size h2)
 clear h1 h2 hb
 go_wp2
 go_ret
 exact ⟨⟨ad, c, rfl, H1.out, HAD.out⟩, HB3.out⟩
theorem own_of8 {E B : Nat} {w : World} {v : Value} {l : List UInt8} {m : List Nat} (h : Own8 E B w v l) (he : l.map byt = m.map (num .u8)) : OwnQ .u8 E B w v m := by
 unfold OwnQ
 unfold Own8 at h
 have hl : l.length = m.length := by simpa using congrArg List.length he
 rw [← hl, ← he]
 exact h
theorem xor_map : ∀ {a b : List Nat}, Byt a → Byt b → (Oc.xorL (u8s a) (u8s b)).map byt = (xorN a b).map (num .u8)
 | [], _, _, _ => rfl
 | _ :: _, [], _, _ => rfl
 | x :: a, y :: b, ha, hb => by
  have ih := xor_map (a := a) (b := b) (fun z hz => ha z (List.mem_cons_of_mem _ hz)) (fun z hz => hb z (List.mem_cons_of_mem _ hz))
  unfold Oc.xorL xorN u8s at ih ⊢
  rw [List.map_cons, List.map_cons, List.zipWith_cons_cons, List.zipWith_cons_cons, List.map_cons, List.map_cons, ih]
  congr 1
  have hx := ha x List.mem_cons_self
  have hy := hb y List.mem_cons_self
  unfold byt num
  rw [UInt8.toNat_xor, UInt8.toNat_ofNat', UInt8.toNat_ofNat', Nat.mod_eq_of_lt (show x < 2 ^ 8 from hx), Nat.mod_eq_of_lt (show y < 2 ^ 8 from hy)]
set_option maxHeartbeats 1000000 in
theorem masked_p (h : Nat) (hh : IsHash h) (ba : Option Addr) (bn bc : Nat) (B : List Nat) (ia : Option Addr) (iN ic : Nat) (I : List Nat) (n : Nat) (w : World) (hk : Kinds w) (hb : Reads .u8 w ba bn bc B) (hi : Reads .u8 w ia iN ic I) (bB : Byt B) (bI : Byt I) (h1 : 1 ≤ bn) (hn : bn ≤ 50000) (hin : iN ≤ 1048000) (hbits : n ≤ 1000000000) :
  Calls Tryz.prog 126 #[.int .i64 (h : Int), .slice ba bn bc, .slice ia iN ic, .int .i64 (n : Int)] w fun e w' => (∃ g c, e = .returned (.slice (some ⟨g, 0, none⟩) bn c) ∧ OwnQ .u8 5 w.heap.size w' (.slice (some ⟨g, 0, none⟩) bn c) (maskedP h B I n)) ∧ Below w.heap.size w w' := by
 have HK := zH hk
 have HBR := zH hb
 have HBN := zH hb.length
 have HI := zH hi
 have HBB := zH (And.intro bB bI)
 have HMM := zH (maskN_len hh I bn)
 have HMB := zH (maskN_byt hh I bn)
 have HH := zH hh
 have HMP := zH (show maskedP h B I n = headA (lowP n) (xorN B (maskN h I bn)) by unfold maskedP; rw [HBN.out])
 clear hk hb hi bB bI hh
 go_enter Tryz.func126, Tryz.ntmps126
 go_wp2_with fail
 refine (mask_yes h HH.out ia iN ic I bn _ HK.out HI.out HBB.out.2 hin hn).mono ?_
 rintro e w1 ⟨⟨v, rfl, hv⟩, hb⟩
 obtain ⟨ma, mn, mc, rfl, hmn, hv⟩ := own_slM hv
 have HM := zH hv
 have HB1 := zH hb
 have hmn2 : mn = bn := by rw [hmn, HMM.out]
 subst hmn2
 clear hv hb hmn
 generalize maskN h I mn = M at *
 go_wp2_with fail
 refine (Oc.xor_any ba ma mn bc mn mc (u8s B) (u8s M) _ ((HBR.out.below HB1.out).bts HBB.out.1) (HM.out.reads.bts HMB.out) (by omega)).mono ?_
 rintro e w2 ⟨⟨v, rfl, hv⟩, hb⟩
 have hx : Oc.xorR (u8s B) (u8s M) = (Oc.xorL (u8s B) (u8s M), 0) := if_pos (by rw [u8s, u8s, List.length_map, List.length_map, HBN.out, HMM.out])
 rw [hx] at hv ⊢
 dsimp only at hv ⊢
 have hv2 := own_of8 hv (xor_map HBB.out.1 HMB.out)
 have hxl : (xorN B M).length = mn := by rw [xorN_len _ _ (by rw [HBN.out, HMM.out]), HBN.out]
 have hxb := xorN_byt HBB.out.1 HMB.out
 obtain ⟨g, c, hg⟩ := hv2.succ (by intro e; rw [e] at hxl; simp at hxl; omega)
 rw [hxl] at hg
 subst hg
 have HX := zH (hv2.mono HB1.out.size)
 have HXL := zH hxl
 have HB2 := zH (HB1.out.trans (hb.mono HB1.out.size))
 obtain ⟨x, hx0⟩ : ∃ x, (xorN B M)[0]?.getD 0 = x := ⟨_, rfl⟩
 have hx256 : x < 256 := by
  rw [← hx0, List.getElem?_eq_getElem (by omega)]
  exact hxb _ (List.getElem_mem _)
 have c0 : w2.cell? ⟨g, 0, none⟩ = some (.int .u8 (x : Int)) := by
  rw [← hx0]
  exact HX.out.cellAt hxl.symm 0 (by omega)
 have f0 : w2.frozen? ⟨g, 0, none⟩ = false := HX.out.frozenAt hxl.symm 0
 have HST := zH (show headA (lowP n) (xorN B M) = (xorN B M).set 0 (x &&& lowP n) by rw [headA_set _ _ (by omega), hx0])
 have hlow := lowP_lt n
 obtain ⟨m, hm⟩ : ∃ m, lowP n = m := ⟨_, rfl⟩
 obtain ⟨y, hy⟩ : ∃ y, x &&& m = y := ⟨_, rfl⟩
 have hand : bits BinOp.and IntKind.u8 (x : Int) (m : Int) = (y : Int) := by
  rw [← hy]
  exact u8_and_nat x m hx256 (by omega)
 have hy256 : y < 256 := by rw [← hy]; exact Nat.lt_of_le_of_lt Nat.and_le_left hx256
 have HLW := zH (fun (W : World) => (low_p n hbits W).mono fun e w' h => And.intro h.1 h.2.symm)
 rw [hm] at HST HLW
 have HMM2 := zH hm
 rw [hy] at HST
 clear hv hv2 hb hx hxl hxb hx0 hm hy hlow
 have hmp : 0 < mn := h1
 go_wp2_with fail
 go_still_tail 7, (by kernel_rfl)
 repeat still_step
 still_call (HLW.out _)
 repeat still_step
 refine wpStill_nil ?_
 change wpList _ _ _ _ _ w2.drew
 have c0 : w2.drew.cell? ⟨g, 0, none⟩ = some (.int .u8 (x : Int)) := c0
 have f0 : w2.drew.frozen? ⟨g, 0, none⟩ = false := f0
 go_wp2
 go_ret
 refine ⟨⟨g, c, rfl, ?_⟩, ?_⟩
 ·rw [HMP.out, HMM2.out, HST.out]
  exact ((OwnQ.stored HX.out HXL.out.symm 0 y _ rfl).1).drew
 ·exact ((OwnQ.stored HX.out HXL.out.symm 0 y _ rfl).2 _ HB2.out).drew
set_option maxRecDepth 100000
theorem run_copy_at {P : Program} (q : IntKind) (E : TypeId) (B : Nat) (w : World) (dT sT ty elem : TypeId) (hu : P.underlying dT = some (.slice elem)) (hsz : (P.info? elem).map (·.size) = some 1)
  (g n o dLen dCap : Nat) (sp : Option Addr) (sLen sCap : Nat) (L l : List Nat) (hO : OwnQ q E B w (.slice (some ⟨g, 0, none⟩) n n) L) (hr : Reads q w sp sLen sCap l) (hle : sLen ≤ dLen) (hfit : o + dLen ≤ n) :
  ∃ w', (Builtin.copy_ #[dT, sT] ty #[.slice (some ⟨g, o, none⟩) dLen dCap, .slice sp sLen sCap]).run P w = .ok (goInt sLen) w' ∧ OwnQ q E B w' (.slice (some ⟨g, 0, none⟩) n n) (L.take o ++ l ++ L.drop (o + sLen)) ∧ ∀ w0, Below B w0 w → Below B w0 w' := by
 have hl := hr.length
 rcases Nat.eq_zero_or_pos sLen with rfl | hp
 ·obtain rfl : l = [] := List.eq_nil_of_length_eq_zero hl
  exact ⟨w, run_copy_none (P := P) w dT sT ty elem _ sp dLen dCap 0 sCap hu hsz (by simp), by simpa using hO, fun _ h => h⟩
 ·have hn := hO.cap.1
  have hmax := hO.cap.2.2
  obtain ⟨-, h2⟩ := hO
  rcases h2 with ⟨h2, -⟩ | ⟨g', cap, cur, he, hBg, hg, hnc, hcm, hcs, hct⟩
  ·cases h2
  ·obtain ⟨rfl, e2, e3⟩ : g' = g ∧ L.length = n ∧ cap = n := by
    injection he with e1 e2 e3
    injection e1 with e1
    injection e1 with e1
    exact ⟨e1.symm, by omega, by omega⟩
   subst e3
   have hcur : cur.toList = L.map (num q) := by
    rw [← hct, List.take_of_length_le (by simp; omega)]
   have hcl : cur.size = cap := by
    have := congrArg List.length hcur
    simp at this
    omega
   obtain ⟨ad, rfl⟩ : ∃ ad, sp = some ad := by
    cases sp with
    | none =>
     have h0 := hr.nil rfl
     have h1 := hr.le
     omega
    | some ad => exact ⟨ad, rfl⟩
   have hrun := run_copy_row (P := P) w dT sT ty elem g' o dLen dCap ad sLen sCap cur E (l.map (num q)) hu hsz hg (by rw [List.length_map, hl]; exact (Nat.min_eq_left hle).symm) hr.news (by rw [List.length_map, hl, hcl]; omega) (nums_oneCell q l)
   rw [List.length_map, hl] at hrun
   refine ⟨_, hrun, ?_, fun w0 hb => below_setRow hb hBg _⟩
   have hlen : (L.take o ++ l ++ L.drop (o + sLen)).length = cap := by simp; omega
   show World.ownsRow _ _ _ _ _ _ _
   rw [hlen]
   refine ⟨by rw [List.length_map, hlen, Nat.mul_one], .inr ⟨g', cap, _, rfl, hBg, setRow_heap w g' _ _ E _ hg, Nat.le_refl _, hmax, ?_, ?_⟩⟩
   ·simp; omega
   ·rw [List.take_of_length_le (by simp; omega), hcur, List.map_append, List.map_append, List.map_take, List.map_drop]
theorem em_one : ∀ (a b : Nat), (List.replicate (a + 1 + b) 0).set a 1 = List.replicate a 0 ++ [1] ++ List.replicate b 0
 | 0, b => by rw [Nat.zero_add, Nat.add_comm, List.replicate_succ]; rfl
 | a + 1, b => by
  rw [show a + 1 + 1 + b = (a + 1 + b) + 1 by omega, List.replicate_succ, zq3, em_one a b, List.replicate_succ]
  rfl
theorem em_two (a b c : Nat) (s : List Nat) (hs : s.length = b) : (List.replicate a 0 ++ [1] ++ List.replicate (b + c) 0).take (a + 1) ++ s ++ (List.replicate a 0 ++ [1] ++ List.replicate (b + c) 0).drop (a + 1 + b) = List.replicate a 0 ++ [1] ++ s ++ List.replicate c 0 := by
 have h1 : (List.replicate a 0 ++ [1] : List Nat).length = a + 1 := by simp
 rw [List.take_left' h1, List.drop_append, h1, List.drop_eq_nil_of_le (by rw [h1]; omega), List.drop_replicate, show b + c - (a + 1 + b - (a + 1)) = c by omega]
 simp
theorem em_three (X M : List Nat) (k c : Nat) (hX : X.length = k) (hM : M.length = k) : (X ++ List.replicate c 0).take 0 ++ M ++ (X ++ List.replicate c 0).drop (0 + k) = M ++ List.replicate c 0 := by
 rw [Nat.zero_add, List.drop_left' hX]
 simp
theorem em_four (M I : List Nat) (k c : Nat) (hM : M.length = k) (hI : I.length = c) : (M ++ List.replicate (c + 1) 0).take k ++ I ++ (M ++ List.replicate (c + 1) 0).drop (k + c) = M ++ I ++ [0] := by
 rw [List.take_left' hM, List.drop_append, hM, List.drop_eq_nil_of_le (by omega), List.drop_replicate, show c + 1 - (k + c - k) = 1 by omega]
 rfl
theorem em_five (M I : List Nat) (k : Nat) (hk : (M ++ I).length = k) : (M ++ I ++ [0]).set k 188 = M ++ I ++ [188] := by
 rw [List.set_append_right _ _ (by omega), hk, Nat.sub_self]
 rfl
set_option maxHeartbeats 4000000 in
theorem encode_p (h : Nat) (hh : IsHash h) (da : Option Addr) (dn dc : Nat) (d : List Nat) (sa : Option Addr) (sn sc : Nat) (s : List Nat) (n : Nat) (w : World) (hk : Kinds w) (hd : Reads .u8 w da dn dc d) (hs : Reads .u8 w sa sn sc s) (bd : Byt d) (bs : Byt s) (hr : RoomP (h : Int) (sn : Int) (n : Int)) (hdn : dn = mSize h) (hn : n ≤ 100000) :
  Calls Tryz.prog 81 #[.int .i64 (h : Int), .slice da dn dc, .slice sa sn sc, .int .i64 (n : Int)] w fun e w' => (∃ g, e = .returned (.tuple #[.slice (some ⟨g, 0, none⟩) (lenP n) (lenP n), .int .i64 0]) ∧ OwnQ .u8 5 w.heap.size w' (.slice (some ⟨g, 0, none⟩) (lenP n) (lenP n)) (emsP h d s n)) ∧ Below w.heap.size w w' := by
 obtain ⟨i0, hi, hz0, hz1, hz2⟩ := info_parts infoMk
 have HK := zH hk
 have HD := zH hd
 have HS := zH hs
 have HSL := zH hs.length
 have HBD := zH (And.intro bd bs)
 have HH := zH hh
 have hS := mSize_le hh
 have HRD := zH (show decide (RoomP (h : Int) (sn : Int) (n : Int)) = true from decide_eq_true hr)
 obtain ⟨-, -, -, -, hfit⟩ := hr
 rw [Int.toNat_natCast, Int.toNat_natCast] at hfit
 obtain ⟨N, hN⟩ : ∃ N, lenP n = N := ⟨_, rfl⟩
 obtain ⟨S, hSS⟩ : ∃ S, mSize h = S := ⟨_, rfl⟩
 have hN2 : N ≤ 20000 := by rw [← hN]; unfold lenP; omega
 have hIL := innerP_len hh d s
 rw [hN, hSS] at hfit
 rw [hSS] at hdn hS hIL
 obtain ⟨K, hK⟩ : ∃ K, N = K + S + 1 := ⟨N - S - 1, by omega⟩
 obtain ⟨a, ha⟩ : ∃ a, K = a + 1 + sn := ⟨K - sn - 1, by omega⟩
 have HE := zH (show emsP h d s n = maskedP h (List.replicate a 0 ++ [1] ++ s) (innerP h d s) n ++ innerP h d s ++ [188] by
  unfold emsP blockP
  rw [hN, hSS, HSL.out, show N - S - 1 - sn - 1 = a by omega])
 have HML := zH (masked_len hh (List.replicate a 0 ++ [1] ++ s) (innerP h d s) n)
 have HMB := zH (masked_byt hh (block := List.replicate a 0 ++ [1] ++ s) (innerP h d s) n)
 have HBK := zH (show Byt (List.replicate a 0 ++ [1] ++ s) from fun x hx => by
  rcases List.mem_append.1 hx with hx | hx
  ·rcases List.mem_append.1 hx with hx | hx
   ·rw [(List.mem_replicate.1 hx).2]; decide
   ·rw [List.mem_singleton.1 hx]; decide
  ·exact bs x hx)
 have HBL := zH (show (List.replicate a 0 ++ [1] ++ s).length = K by simp [HSL.out]; omega)
 have HIB := zH (show Byt (innerP h d s) from mHash_byt hh _)
 have HNN := zH hN
 have HSS := zH hSS
 have HLP := zH (fun (W : World) => length_p n (by omega) W)
 rw [hN] at HLP
 subst hdn
 obtain ⟨tt, htt⟩ : ∃ tt, tt = a + 1 := ⟨_, rfl⟩
 obtain ⟨N1, hN1⟩ : ∃ N1, N1 = K + dn := ⟨_, rfl⟩
 have e1 : (N : Int) - (dn : Int) - 1 = (K : Int) := by omega
 have e2 : (K : Int) - (sn : Int) = (tt : Int) := by omega
 have e3 : (tt : Int) - 1 = (a : Int) := by omega
 have e4 : (N : Int) - 1 = (N1 : Int) := by omega
 have b1 : K < N := by omega
 have b2 : tt ≤ K := by omega
 have b3 : a < K := by omega
 have b4 : N1 < N := by omega
 have b5 : tt < N := by omega
 have b6 : tt + (K - tt) ≤ N := by omega
 have b7 : sn ≤ K - tt := by omega
 have b8 : dn ≤ N - K := by omega
 have hNpos : 0 < N := by omega
 have HQ := zH (show N = K + dn + 1 ∧ K = a + 1 + sn ∧ tt = a + 1 ∧ N1 = K + dn from ⟨hK, ha, htt, hN1⟩)
 clear hk hd hs bd bs hh hN hSS hK ha htt hN1 hfit
 go_enter Tryz.func81, Tryz.ntmps81
 go_wp2_with fail
 refine (room_p (h : Int) (sn : Int) (n : Int) (by omega) (by omega) (by omega) (by omega) _ HK.out).mono ?_
 rintro e w1 ⟨rfl, hb⟩
 rw [HRD.out]
 have HB := zH hb
 clear hb
 go_wp2_with fail
 refine (size_yes h HH.out _ (HK.out.below HB.out)).mono ?_
 rintro e w2 ⟨rfl, hb⟩
 rw [HSS.out]
 have HB := zH (HB.out.trans (hb.mono HB.out.size))
 clear hb
 go_wp2_with fail
 refine (inner_p h HH.out da dn dc d sa sn sc s _ (HK.out.below HB.out) (HD.out.below HB.out) (HS.out.below HB.out) HBD.out.1 HBD.out.2 (by omega) (by omega)).mono ?_
 rintro e w3 ⟨⟨ad, ic, rfl, hv, hab⟩, hb⟩
 rw [HSS.out] at hv ⊢
 have HI := zH hv
 have HB := zH (HB.out.trans (hb.mono HB.out.size))
 clear hv hab hb
 generalize innerP h d s = I at *
 go_wp2_with fail
 refine (HLP.out _).mono ?_
 rintro e w4 ⟨rfl, rfl⟩
 go_wp2_with (at_make; refine wpList_make_full _ rfl _ _ 22 rfl w3.heap.size 5 i0 (.int .u8 0) 1 Tryz.underlying22 hi hz0 hz1 _ _ _ _ N rfl rfl rfl rfl (by rw [hz2]; omega) (by unfold maxLen; omega) (Nat.le_refl _) ?_; intro w5 hown hgrow; have HO := zH (OwnQ.madeM hown rfl); have HW5 := zH (Below.grown (Below.refl w3.heap.size w3) hgrow (Nat.le_refl _) (fun _ e => by cases e)); have hc := HO.out.cellAt (by simp) a (by omega); rw [List.getElem?_replicate, if_pos (by omega)] at hc; have c0 : w5.cell? ⟨w3.heap.size, a, none⟩ = some (.int .u8 0) := hc; have f0 : w5.frozen? ⟨w3.heap.size, a, none⟩ = false := HO.out.frozenAt (by simp) a; have HO1 := zH (OwnQ.stored HO.out (by simp) a 1 1 rfl); clear hown hgrow hc)
 have HW6 := zH (HO1.out.2 w3 HW5.out)
 have HO6 := zH HO1.out.1
 clear c0 f0 HO HO1 HW5
 generalize w5.setCell ⟨w3.heap.size, a, none⟩ (.int .u8 1) = w6 at *
 have HL1 := zH (show (List.replicate N 0).set a 1 = List.replicate a 0 ++ [1] ++ List.replicate (sn + (dn + 1)) 0 by
  rw [← em_one, show N = a + 1 + (sn + (dn + 1)) by have := HQ.out; omega])
 rw [HL1.out] at HO6
 have HS6 := zH ((HS.out.below HB.out).below HW6.out)
 obtain ⟨w7, hrun, hO7, hB7⟩ := run_copy_at (P := Tryz.prog) .u8 5 w3.heap.size w6 22 22 3 5 Tryz.underlying22 (by kernel_rfl) _ _ tt (K - tt) (N - tt) sa sn sc _ s HO6.out HS6.out b7 b6
 rw [show tt = a + 1 from HQ.out.2.2.1, em_two a sn (dn + 1) s HSL.out] at hO7
 have HO7 := zH hO7
 have HW7 := zH (hB7 w3 HW6.out)
 rw [hrun]
 clear hrun hO7 hB7 HO6 HS6 HW6 HL1
 have HBL7 := zH (show Reads .u8 w7 (some ⟨w3.heap.size, 0, none⟩) K N (List.replicate a 0 ++ [1] ++ s) from by
  have h9 := HO7.out.reads.upto K (by omega)
  rw [List.take_left' HBL.out] at h9
  exact h9)
 obtain ⟨Bk, hBk⟩ : ∃ Bk, List.replicate a 0 ++ [1] ++ s = Bk := ⟨_, rfl⟩
 rw [hBk] at HO7 HBL7 HBK HBL HML HMB HE
 clear hBk
 have HMB2 := zH (HMB.out HBK.out)
 have HML2 := zH (show (maskedP h Bk I n).length = K by rw [HML.out, HBL.out])
 go_wp2_with fail
 refine (masked_p h HH.out _ K N Bk (some ad) dn ic I n _ ((HK.out.below HB.out).below HW7.out) HBL7.out (HI.out.below HW7.out) HBK.out HIB.out (by omega) (by omega) (by omega) (by omega)).mono ?_
 rintro e w8 ⟨⟨mg, mc, rfl, hv⟩, hb⟩
 have HM := zH hv
 have HO8 := zH (HO7.out.below hb)
 have HW8 := zH (HW7.out.trans (hb.mono HW7.out.size))
 clear hv hb HBL7 HO7 HW7 HML HMB
 generalize maskedP h Bk I n = M at *
 go_wp2_with fail
 obtain ⟨w9, hrun, hO9, hB9⟩ := run_copy_at (P := Tryz.prog) .u8 5 w3.heap.size w8 22 22 3 5 Tryz.underlying22 (by kernel_rfl) _ _ 0 K N _ K mc _ M HO8.out HM.out.reads (Nat.le_refl _) (by omega)
 rw [em_three Bk M K (dn + 1) HBL.out HML2.out] at hO9
 have HO9 := zH hO9
 have HW9 := zH (hB9 w3 HW8.out)
 have HI9 := zH (HI.out.below HW9.out)
 rw [hrun]
 clear hrun hO9 hB9 HO8 HM HW8
 go_wp2_with fail
 obtain ⟨wa, hrun, hOa, hBa⟩ := run_copy_at (P := Tryz.prog) .u8 5 w3.heap.size w9 22 22 3 5 Tryz.underlying22 (by kernel_rfl) _ _ K (N - K) (N - K) _ dn ic _ I HO9.out HI9.out b8 (by omega)
 rw [em_four M I K dn HML2.out hIL] at hOa
 have HOa := zH hOa
 have HWa := zH (hBa w3 HW9.out)
 rw [hrun]
 clear hrun hOa hBa HO9 HI9 HW9
 have hMI := zH (show (M ++ I).length = N1 by rw [List.length_append, HML2.out, hIL]; have := HQ.out; omega)
 have hc := HOa.out.cellAt HOa.out.cap.1 N1 b4
 have c0 : wa.cell? ⟨w3.heap.size, N1, none⟩ = some (.int .u8 0) := by
  rw [hc]
  congr 2
  rw [List.getElem?_append_right (by rw [hMI.out]; exact Nat.le_refl _), hMI.out, Nat.sub_self]
  rfl
 have f0 : wa.frozen? ⟨w3.heap.size, N1, none⟩ = false := HOa.out.frozenAt HOa.out.cap.1 N1
 have HOb := zH (OwnQ.stored HOa.out HOa.out.cap.1 N1 188 188 rfl)
 rw [em_five M I N1 hMI.out] at HOb
 have HNX := zH HNN.out
 clear hc
 go_wp2
 go_ret2
 refine ⟨⟨w3.heap.size, by rw [HNX.out]; rfl, ?_⟩, HB.out.trans ((HOb.out.2 w3 HWa.out).mono HB.out.size)⟩
 rw [HE.out, HNX.out]
 exact HOb.out.1.mono HB.out.size
def SeqW {α : Type} (R V : Nat → Prop) (F : Fence) (n : Nat) (P : Program) (g : Nat) (lb : Array Value) (encs : α → Array Value) (S Sp : List α → Prop) (N : Nat) (w : World) : Prop :=
 ∀ (l : Nat) (J Jx : List α → World → Prop) (W : World), Below w.heap.size w W → (∀ s X X' row, J s X → X.grownBy X' row → (∀ r, row = some r → V r) → J s X') →
  (∀ s X X' row, Jx s X → X.grownBy X' row → (∀ r, row = some r → V r) → Jx s X') →
  (∀ pre x X, pre.length < N → J pre X → YieldAt F (n - 1) P l (encs x) X fun e X' => (e = .returned (.bool true) ∧ J (pre ++ [x]) X' ∧ KpR R X X') ∨ (e = .returned (.bool false) ∧ Jx (pre ++ [x]) X')) →
  J [] W → CallsIn F n P g (#[.func (.yield l) #[] #[]] ++ lb) W fun e X => (∃ v, e = .returned v) ∧ ((∃ xs, S xs ∧ J xs X) ∨ ∃ pre, Sp pre ∧ Jx pre X)
def KpV (E : Nat → Prop) (W W' : World) : Prop := W.heap.size ≤ W'.heap.size ∧ ∀ (k : Nat), k < W.heap.size → ¬ E k → W'.heap[k]? = W.heap[k]?
theorem KpV.refl (E : Nat → Prop) (W : World) : KpV E W W := ⟨Nat.le_refl _, fun _ _ _ => rfl⟩
theorem KpV.trans {E : Nat → Prop} {X Y Z : World} (h : KpV E X Y) (k : KpV E Y Z) : KpV E X Z := ⟨Nat.le_trans h.1 k.1, fun i hi he => (k.2 i (Nat.lt_of_lt_of_le hi h.1) he).trans (h.2 i hi he)⟩
theorem KpV.mono {E E' : Nat → Prop} {X Y : World} (h : KpV E X Y) (hE : ∀ k, E k → E' k) : KpV E' X Y := ⟨h.1, fun i hi he => h.2 i hi fun k => he (hE i k)⟩
theorem KpV.grown {E : Nat → Prop} {W W' : World} {row : Option Nat} (hg : W.grownBy W' row) (hr : ∀ r, row = some r → E r) : KpV E W W' :=
 ⟨hg.size, fun k hk he => hg.block k hk fun e => he (hr k e.symm)⟩
theorem KpV.put {E : Nat → Prop} (W : World) (l : Nat) (o : Obj) (hl : E l) : KpV E W (W.putObj l o) :=
 ⟨(grownBy_putObj' W l o).size, fun k _ he => World.putObj_heap_other fun e => he (e ▸ hl)⟩
def SeqV {α : Type} (V E : Nat → Prop) (F : Fence) (n : Nat) (P : Program) (g : Nat) (lb : Array Value) (encs : α → Array Value) (G : α → Prop) (S Sp : List α → Prop) (T : World → Prop) (w : World) : Prop :=
 ∀ (l : Nat) (J Jx : List α → World → Prop) (W : World), w.heap.size ≤ l → l < W.heap.size → Below w.heap.size w W → (∀ s X X' row, J s X → X.grownBy X' row → (∀ r, row = some r → V r) → J s X') →
  (∀ s X X' row, Jx s X → X.grownBy X' row → (∀ r, row = some r → V r) → Jx s X') →
  (∀ pre x X, J pre X → YieldAt F (n - 1) P l (encs x) X fun e X' => (e = .returned (.bool true) ∧ G x ∧ J (pre ++ [x]) X' ∧ KpV (fun k => k = l ∨ E k) X X') ∨ (e = .returned (.bool false) ∧ Jx (pre ++ [x]) X')) →
  J [] W → CallsIn F n P g (#[.func (.yield l) #[] #[]] ++ lb) W fun e X => (∃ v, e = .returned v) ∧ ((∃ xs, S xs ∧ J xs X ∧ T X) ∨ ∃ pre, Sp pre ∧ Jx pre X)
set_option maxHeartbeats 1000000 in
theorem wpIn_rangeV {α : Type} {F : Fence} {n : Nat} {P : Program} {V E : Nat → Prop} {g : Operand} {ps : Array Tmp} {assign body : Code} {Q : Exit → Act → World → Prop} {a : Act} {w : World}
  (hro : F.round = none) (h1 : 1 ≤ n) {gf : Nat} {lb : Array Value} (hg : a.eval g = .func (.func gf) #[] lb) (hFg : F.fn gf) (eg : ∀ args w, (callFunc gf args).run P w = .ok (.enter gf args) w)
  {encs : α → Array Value} {G : α → Prop} {S Sp : List α → Prop} {T : World → Prop} {w0 : World} (hseq : SeqV V E F (n - 1) P gf lb encs G S Sp T w0) (hVl : ∀ k, V k → k < w.heap.size) (hb0 : Below w0.heap.size w0 w) (hps : ∀ x, (encs x).size = ps.size)
  (I : List α → World → Prop) (Ix : Code → List α → World → Prop) (hI : StaysR V w.heap.size I) (hIx : ∀ c, StaysR V w.heap.size (Ix c)) (hG : ∀ pre x X, I (pre ++ [x]) X → G x) (hT : StaysR (fun _ => False) w.heap.size (fun (_ : Unit) => T)) (h0 : I [] w) (a₁ : α → Act)
  (hassign : ∀ (l : Nat) (x : α) (W : World) (K : Act → World → Prop), K (a₁ x) W →
   assign.wpIn (F.inRound l) (n - 1 - 1) P (Exit.then K (fun _ _ _ => False)) { tmps := (ps.zip (encs x)).foldl (fun t (p, v) => t.setIfInBounds p v) a.tmps, defers := [] } W)
  (hbody : ∀ (l : Nat) (pre : List α) (x : α) (W : World), I pre W → body.wpIn (F.inRound l) (n - 1 - 1) P (ownPostG w.heap.size (KpV E) I Ix (pre ++ [x]) W) (a₁ x) W)
  (hdone : ∀ (D : Nat) (xs : List α) (W : World), w.heap.size ≤ D → S xs → I xs W → T W → W.heap[D]? = some (.deferred (some [])) → Q .normal { a with defers := { target := .collected D, args := #[] } :: a.defers } W)
  (hstop : ∀ (D : Nat) (c : Code) (pre : List α) (W : World), w.heap.size ≤ D → Sp pre → Ix c pre W → W.heap[D]? = some (.deferred (some [])) → c.wpIn F n P Q { a with defers := { target := .collected D, args := #[] } :: a.defers } W) :
  (Code.rangeFunc g ps assign body).wpIn F n P Q a w := by
 refine wpIn_rangeFunc fun fn hfn => ?_
 rw [hro]
 generalize hB : w.heap.size = B at *
 obtain ⟨rc, hrc⟩ : ∃ rc : LoopState → Option Code → Loop, rc = fun st pe => { state := st, pending := pe, fn, tmps := a.tmps, params := ps, assign, body, defers := B } := ⟨_, rfl⟩
 obtain ⟨W1, hW1⟩ : ∃ W1, (w.alloc (.deferred (some []))).alloc (.loop (rc .ready none)) = W1 := ⟨_, rfl⟩
 have bel1 : Below B w W1 := by rw [← hW1]; exact ((Below.refl _ w).alloc (Nat.le_of_eq hB.symm) _).alloc (by simp; omega) _
 have hD1 : W1.heap[B]? = some (.deferred (some [])) := by
  rw [← hW1]
  refine (Below.heap_alloc _ _ _ (by simp; omega)).trans ?_
  have := World.alloc_heap_new w (.deferred (some []))
  rwa [hB] at this
 have hL1 : W1.heap[B + 1]? = some (.loop (rc .ready none)) := by
  have := World.alloc_heap_new (w.alloc (.deferred (some []))) (.loop (rc .ready none))
  rwa [World.size_alloc, hB, hW1] at this
 have hz1 : W1.heap.size = B + 2 := by rw [← hW1]; simp; omega
 have hi1 : I [] W1 := by
  rw [← hW1]
  exact hI _ _ _ none (hI _ _ _ none h0 (World.grownBy_alloc w _ none) (fun r e => by cases e)) (World.grownBy_alloc _ _ none) (fun r e => by cases e)
 have put : ∀ {G : List α → World → Prop} (_ : StaysR V B G) {s : List α} {W : World} {r : Loop} (o : Obj), G s W → W.heap[B + 1]? = some (.loop r) → G s (W.putObj (B + 1) o) := fun hG s W r o hs hl =>
  hG s W _ (some (B + 1)) hs (grownBy_putObj' W (B + 1) o) (fun k e => by cases e; exact .inr ⟨by omega, _, hl, rfl⟩)
 refine ⟨B + 1, [{ target := .collected B, args := #[] }], W1, { target := .fn (.func gf) lb, args := #[.func (.yield (B + 1)) #[] #[]] }, W1, gf, #[.func (.yield (B + 1)) #[] #[]] ++ lb, W1, ?_, by simp only [resolve, hg]; simp [go_sem], ?_, by simp [invoke, go_sem, eg], fun _ => h1, ?_⟩
 ·rw [← hW1, hrc, ← hB]
  exact run_enterLoop_outer _ _ _ _ _
 ·intro f' hf'
  simp [Target.leads] at hf'
  subst hf'
  exact hFg
 have stay : ∀ {G : List α → World → Prop} (_ : StaysR V B G) (ro : Loop) (s : List α) (X X' : World) (row : Option Nat), (G s X ∧ X.heap[B + 1]? = some (.loop ro) ∧ X.heap[B]? = some (.deferred (some []))) → X.grownBy X' row → (∀ r, row = some r → V r) → G s X' ∧ X'.heap[B + 1]? = some (.loop ro) ∧ X'.heap[B]? = some (.deferred (some [])) := fun hG ro s X X' row h hgr hr =>
  ⟨hG s X X' row h.1 hgr (fun r e => .inl (hr r e)), (hgr.block _ (Array.getElem?_eq_some_iff.1 h.2.1).1 (fun e => by have := hVl _ (hr _ e.symm); omega)).trans h.2.1, (hgr.block _ (Array.getElem?_eq_some_iff.1 h.2.2).1 (fun e => by have := hVl _ (hr _ e.symm); omega)).trans h.2.2⟩
 refine (hseq (B + 1) (fun s X => I s X ∧ X.heap[B + 1]? = some (.loop (rc .ready none)) ∧ X.heap[B]? = some (.deferred (some [])))
  (fun s X => ∃ c, Ix c s X ∧ X.heap[B + 1]? = some (.loop (rc .done (some c))) ∧ X.heap[B]? = some (.deferred (some []))) W1 (by have := hb0.size; omega) (by omega) (hb0.trans (bel1.mono (by rw [← hB]; exact hb0.size)))
  (fun s X X' row h hgr hr => stay hI _ s X X' row h hgr hr) (fun s X X' row ⟨c, h⟩ hgr hr => ⟨c, stay (hIx c) _ s X X' row h hgr hr⟩) ?_ ⟨hi1, hL1, hD1⟩).mono ?_
 ·rintro pre x X ⟨hi, hl, hd⟩
  have hlt : B + 1 < X.heap.size := (Array.getElem?_eq_some_iff.1 hl).1
  have hy := run_yield (P := P) (args := encs x) hl (by rw [hrc]; exact hps x)
  rw [hrc] at hy
  refine ⟨fn, _, assign, body, hy, roundIn_of_wpIn hfn (hassign _ x X _ ⟨_, run_beginRound hl (by rw [hrc]), wpIn_mono (hbody _ pre x _ (put hI _ hi hl)) ?_⟩)⟩
  obtain ⟨X2, hX2⟩ : ∃ X2, X.putObj (B + 1) (.loop { rc .ready none with state := .busy }) = X2 := ⟨_, rfl⟩
  rw [hX2]
  have hl2 : X2.heap[B + 1]? = some (.loop { rc .ready none with state := .busy }) := by rw [← hX2]; exact World.putObj_heap_same hlt
  have hd2 : X2.heap[B]? = some (.deferred (some [])) := by rw [← hX2]; exact (World.putObj_heap_other (by omega)).trans hd
  have kp2 : KpV (fun k => k = B + 1 ∨ E k) X X2 := by rw [← hX2]; exact KpV.put X _ _ (.inl rfl)
  have last : ∀ (j : Option Code) (X3 : World), KeepsFrom B X2 X3 → (Instr.endRound (B + 1) j).run P X3 = .ok (.bool j.isNone) (X3.putObj (B + 1) (.loop (rc (if j.isNone then .ready else .done) j))) ∧ X3.heap[B + 1]? = some (.loop { rc .ready none with state := .busy }) ∧ (X3.putObj (B + 1) (.loop (rc (if j.isNone then .ready else .done) j))).heap[B + 1]? = some (.loop (rc (if j.isNone then .ready else .done) j)) ∧ (X3.putObj (B + 1) (.loop (rc (if j.isNone then .ready else .done) j))).heap[B]? = some (.deferred (some [])) := fun j X3 hk => by
   have hl3 := hk.same _ _ (by omega) hl2 rfl
   have hr := run_endRound (P := P) j hl3
   rw [hrc] at hr hl3 ⊢
   exact ⟨hr, hl3, World.putObj_heap_same (Array.getElem?_eq_some_iff.1 hl3).1, (World.putObj_heap_other (by omega)).trans (hk.same _ _ (Nat.le_refl _) hd2 rfl)⟩
  rintro e a3 X3 hp
  cases e with
  | normal =>
   obtain ⟨hk, kp3, hi3⟩ := hp
   obtain ⟨hr, hl3, hl4, hd4⟩ := last none X3 hk
   exact ⟨_, _, hr, .inl ⟨rfl, hG _ _ _ hi3, ⟨put hI _ hi3 hl3, hl4, hd4⟩, (kp2.trans (kp3.mono fun _ h => .inr h)).trans (KpV.put X3 _ _ (.inl rfl))⟩⟩
  | ret =>
   obtain ⟨hr, hl3, hl4, hd4⟩ := last (some .ret) X3 hp.1
   exact ⟨_, _, hr, .inr ⟨rfl, .ret, put (hIx _) _ hp.2 hl3, hl4, hd4⟩⟩
  | exit id =>
   obtain ⟨hr, hl3, hl4, hd4⟩ := last (some (.exit id)) X3 hp.1
   exact ⟨_, _, hr, .inr ⟨rfl, .exit id, put (hIx _) _ hp.2 hl3, hl4, hd4⟩⟩
  | goto t =>
   obtain ⟨hr, hl3, hl4, hd4⟩ := last (some (.goto t)) X3 hp.1
   exact ⟨_, _, hr, .inr ⟨rfl, .goto t, put (hIx _) _ hp.2 hl3, hl4, hd4⟩⟩
  | panic ch => exact hp.elim
  | outgrown => exact hp.elim
 ·rintro e X2 ⟨⟨v, rfl⟩, (⟨xs, hS, ⟨hi, hl, hd⟩, ht⟩ | ⟨pre, hSp, c, hi, hl, hd⟩)⟩
  ·refine ⟨none, X2.putObj (B + 1) (.loop { rc .ready none with state := .exhausted }), ?_, hdone _ xs _ (Nat.le_refl _) hS (put hI _ hi hl) (hT () _ _ (some (B + 1)) ht (grownBy_putObj' X2 (B + 1) _) (fun k e => by cases e; exact .inr ⟨by omega, _, hl, rfl⟩)) ((World.putObj_heap_other (by omega)).trans hd)⟩
   have := run_endLoop (P := P) hl (by rw [hrc]; simp)
   rw [hrc] at this ⊢
   exact this
  ·refine ⟨some c, X2.putObj (B + 1) (.loop { rc .done (some c) with state := .exhausted }), ?_, hstop _ c pre _ (Nat.le_refl _) hSp (put (hIx c) _ hi hl) ((World.putObj_heap_other (by omega)).trans hd)⟩
   have := run_endLoop (P := P) hl (by rw [hrc]; simp)
   rw [hrc] at this ⊢
   exact this
set_option maxRecDepth 100000
theorem u8s_num {x : List Nat} (h : Byt x) : (u8s x).map byt = x.map (num .u8) := by
 unfold u8s
 rw [List.map_map]
 refine List.map_congr_left fun n hn => ?_
 have := h n hn
 show byt (UInt8.ofNat n) = num .u8 n
 unfold byt num
 rw [UInt8.toNat_ofNat', Nat.mod_eq_of_lt (show n < 2 ^ 8 from this)]
structure ThreeP (B : Nat) (w : World) (v : Value) (x y z : List Nat) : Prop where
 list : ∃ X : List Oc.Row2, Oc.OwnL 22 5 B w v X ∧ X.map (·.2.2.2) = [u8s x, u8s y, u8s z]
 byts : Byt x ∧ Byt y ∧ Byt z
theorem ThreeP.open {B : Nat} {w : World} {v : Value} {x y z : List Nat} (h : ThreeP B w v x y z) :
  ∃ g c xa xc ya yc za zc, v = .slice (some ⟨g, 0, none⟩) 3 c ∧ B ≤ g ∧ g < w.heap.size ∧ 3 ≤ c ∧ w.cell? ⟨g, 0, none⟩ = some (.slice xa x.length xc) ∧ w.cell? ⟨g, 1, none⟩ = some (.slice ya y.length yc) ∧ w.cell? ⟨g, 2, none⟩ = some (.slice za z.length zc) ∧
   OwnQ .u8 5 B w (.slice xa x.length xc) x ∧ OwnQ .u8 5 B w (.slice ya y.length yc) y ∧ OwnQ .u8 5 B w (.slice za z.length zc) z := by
 obtain ⟨⟨X, h, hX⟩, b0, b1, b2⟩ := h
 match X, hX with
 | [(a0, n0, c0, l0), (a1, n1, c1, l1), (a2, n2, c2, l2)], hX =>
  simp only [List.map_cons, List.map_nil, List.cons.injEq, and_true] at hX
  obtain ⟨rfl, rfl, rfl⟩ := hX
  have o0 := h.each _ (List.mem_cons_self ..)
  have o1 := h.each _ (List.mem_cons_of_mem _ (List.mem_cons_self ..))
  have o2 := h.each _ (List.mem_cons_of_mem _ (List.mem_cons_of_mem _ (List.mem_cons_self ..)))
  have e0 := own_of8 o0 (u8s_num b0)
  have e1 := own_of8 o1 (u8s_num b1)
  have e2 := own_of8 o2 (u8s_num b2)
  have h0 := e0.cap.1
  have h1 := e1.cap.1
  have h2 := e2.cap.1
  subst h0 h1 h2
  rcases h.form with ⟨-, hn⟩ | ⟨g, c, rfl, hc1, -, hg, hgl⟩
  ·cases hn
  ·exact ⟨g, c, a0, c0, a1, c1, a2, c2, rfl, hg, hgl, hc1, World.ownsRow.cellAt h.row 0 (by simp), World.ownsRow.cellAt h.row 1 (by simp), World.ownsRow.cellAt h.row 2 (by simp), e0, e1, e2⟩
theorem u8s_take (l : List Nat) (n : Nat) : (u8s l).take n = u8s (l.take n) := by unfold u8s; rw [List.map_take]
theorem u8s_drop (l : List Nat) (n : Nat) : (u8s l).drop n = u8s (l.drop n) := by unfold u8s; rw [List.map_drop]
theorem byt_take {l : List Nat} (h : Byt l) (n : Nat) : Byt (l.take n) := fun x hx => h x (List.mem_of_mem_take hx)
theorem byt_drop {l : List Nat} (h : Byt l) (n : Nat) : Byt (l.drop n) := fun x hx => h x (List.mem_of_mem_drop hx)
theorem nums_lit (w : World) (E : TypeId) (z : List Int) (cs : Array Value) (h : cs = (z.map fun n => Value.int .i64 n).toArray) (hm : z.length ≤ maxLen) : Oc.Nums (w.alloc (.cells cs E)) (some ⟨w.heap.size, 0, .none⟩) z.length z.length z := by
 subst h
 refine ⟨rfl, Nat.le_refl _, hm, fun _ => ⟨w.heap.size, 0, rfl, by simp, fun i hi => ?_⟩⟩
 rw [World.cell?_alloc_at _ _ _ _ (by simp)]
 simp [hi]
theorem cut_lit (a : Option Addr) (len cap : Nat) (l : List Nat) (x y z : Nat) (w : World) (h : Reads .u8 w a len cap l) (hb : Byt l) (hl : len = x + y + z) (hm : len ≤ 1000000) :
  Calls Tryz.prog 172 #[.slice a len cap, .slice (some ⟨w.heap.size, 0, none⟩) 3 3] (w.alloc (.cells #[.int .i64 (x : Int), .int .i64 (y : Int), .int .i64 (z : Int)] 3)) fun e w' =>
   (∃ v, e = .returned (.tuple #[v, .int .i64 0]) ∧ ThreeP (w.heap.size + 1) w' v (l.take x) ((l.drop x).take y) (l.drop (x + y))) ∧ Below w.heap.size w w' := by
 have hlen := h.length
 have hul : (u8s l).length = len := by rw [u8s, List.length_map, hlen]
 have hbel : Below w.heap.size w (w.alloc (.cells #[.int .i64 (x : Int), .int .i64 (y : Int), .int .i64 (z : Int)] 3)) := (Below.refl _ _).alloc (Nat.le_refl _) _
 have hN : Oc.Nums (w.alloc (.cells #[.int .i64 (x : Int), .int .i64 (y : Int), .int .i64 (z : Int)] 3)) (some ⟨w.heap.size, 0, none⟩) 3 3 [(x : Int), (y : Int), (z : Int)] :=
  nums_lit w 3 [(x : Int), (y : Int), (z : Int)] _ rfl (by unfold maxLen; simp)
 refine (Oc.cut_any a len cap (u8s l) _ 3 3 [(x : Int), (y : Int), (z : Int)] _ ((h.below hbel).bts hb) hN (by omega) (by omega)).mono ?_
 rintro e w' ⟨hr, hb2⟩
 refine ⟨?_, hbel.trans (hb2.mono (by simp))⟩
 have hok : Oc.cutOk (u8s l) [(x : Int), (y : Int), (z : Int)] = true := by
  simp only [Oc.cutOk, Bool.and_eq_true, decide_eq_true_eq, List.length_drop, hul, Int.toNat_natCast, List.isEmpty_iff, beq_iff_eq]
  have hdd : (((u8s l).drop x).drop y).drop z = [] := by
   rw [List.drop_drop, List.drop_drop]
   exact List.drop_eq_nil_of_le (by omega)
  refine ⟨by omega, by omega, by omega, ?_⟩
  first | exact hdd | simp [hdd]
 rw [Oc.cutR_yes hok] at hr
 obtain ⟨v, X, rfl, ho, hX⟩ := hr
 rw [World.size_alloc] at ho
 refine ⟨v, rfl, ⟨X, ho, ?_⟩, byt_take hb _, byt_take (byt_drop hb _) _, byt_drop hb _⟩
 rw [hX]
 simp only [Oc.partsL, Int.toNat_natCast, u8s_take, u8s_drop, List.drop_drop]
 rw [List.take_of_length_le (show (l.drop (x + y)).length ≤ z by rw [List.length_drop]; omega)]
end Go.Proofs.YtpefjkndfifceaaGreatDoor
