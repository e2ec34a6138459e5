/-
  WALKS OF OCTET's SMALL FUNCTIONS: sized, bare, bytes.Clone, Trim, and the law's own twin.
-/
import Derived.Test.YtidiapdddkknpaaRows
import Derived.Test.YtidiapdddkknpaaLib
import Derived.Deep.QuietTactic
import Derived.BigQuiet
namespace Go.Proofs.Ytidiapdddkknpaa
open Go.RowKit

theorem Try.info8 : (Try.prog.info? 5).map (fun i => (i.zero, i.size, i.bytes)) = some (some (.int .u8 0), 1, 1) := by kernel_rfl

def bareL (l : List UInt8) : List UInt8 := l.dropWhile (· == 0)

theorem bareL_step (l : List UInt8) (k : Nat) (hk : k < l.length) : bareL (l.drop k) = if (l[k]?.getD 0).toNat = 0 then bareL (l.drop (k + 1)) else l.drop k := by
  rw [List.drop_eq_getElem_cons hk]
  simp only [bareL, List.dropWhile_cons, List.getElem?_eq_getElem hk, Option.getD_some]
  by_cases h : l[k] = 0
  · simp [h]
  · have : ¬ l[k].toNat = 0 := fun e => h (UInt8.toNat_inj.1 (by simpa using e))
    simp [h, this]

/-- What is handed back reads as l, in memory that was there. -/
def RetsBts (w : World) (l : List UInt8) (e : Ending) : Prop := ∃ a cap, e = .returned (.slice a l.length cap) ∧ Bts w a l.length cap l

theorem RetsBts.mk {w : World} {l : List UInt8} {a : Option Addr} {len cap : Nat} (h : Bts w a len cap l) : RetsBts w l (.returned (.slice a len cap)) := by
  obtain rfl := h.length
  exact ⟨a, cap, rfl, h⟩

theorem sized_any (n : Int) (w : World) : Calls Try.prog 36 #[.int .i64 n] w fun e w' => e = .returned (.bool (decide (0 ≤ n ∧ n ≤ 65536))) ∧ w = w' := by
  by_cases h0 : 0 ≤ n
  · by_cases h1 : n ≤ 65536
    · go_enter Try.func36, Try.ntmps36
      go_wp2
      go_ret
      exact ⟨by simp; omega, rfl⟩
    · go_enter Try.func36, Try.ntmps36
      go_wp2
      go_ret
      exact ⟨by simp; omega, rfl⟩
  · go_enter Try.func36, Try.ntmps36
    go_wp2
    go_ret
    exact ⟨by simp; omega, rfl⟩

set_option maxHeartbeats 400000 in
theorem bare_any (a : Option Addr) (len cap : Nat) (l : List UInt8) (w : World) (h : Bts w a len cap l) :
    Calls Try.prog 37 #[.slice a len cap] w fun e w' => RetsBts w (bareL l) e ∧ w = w' := by
  have hm := h.len_le
  unfold maxLen at hm
  have hcm := h.max
  unfold maxLen at hcm
  have hle := h.le
  have hl := Lib.hid h.length
  have H := Lib.hid h
  go_enter Try.func37, Try.ntmps37
  go_wp2
  go_loop [7] (fun i => ∃ k : Nat, k ≤ len ∧ i = .int .i64 k ∧ Hid (bareL l = bareL (l.drop k))) (fun i => len - (intOf i).toNat)
  case atStart => exact ⟨0, Nat.zero_le _, rfl, by simp [Hid]⟩
  case round =>
    obtain ⟨k, hk, rfl, hrest⟩ := hrel
    by_cases hlt : k < len
    · obtain ⟨b, off, rfl, hbl, hc⟩ := H.out.cells (by omega)
      have hck := hc k hlt
      have hst := Lib.hid (bareL_step l k (by have := hl.out; omega))
      clear hc
      generalize hx : (l[k]?.getD 0).toNat = x at *
      have Hx := Lib.hid hx
      clear hx
      by_cases hx0 : x = 0
      · subst hx0
        go_wp2
        go_round
        case rel => exact ⟨k + 1, by omega, by go_num, by have := hst.out; rw [if_pos rfl] at this; unfold Hid; rw [hrest.out, this]⟩
        case measure => simp [intOf]; omega
      · have hx1 : ((x : Int) != 0) = true := by simp; omega
        go_wp2
        go_ret
        have e : bareL l = l.drop k := by have := hst.out; rw [if_neg hx0] at this; rw [hrest.out, this]
        rw [e]
        exact ⟨RetsBts.mk (H.out.drop hlt), rfl⟩
    · go_wp2
      go_ret
      have e : bareL l = [] := by rw [hrest.out, List.drop_eq_nil_of_le (by have := hl.out; omega)]; rfl
      rw [e]
      exact ⟨RetsBts.mk (Bts.none w), rfl⟩

/-- What is handed back reads as l, in memory of the call's own. -/
def RetsOwn (B : Nat) (w' : World) (l : List UInt8) (e : Ending) : Prop := ∃ v, e = .returned v ∧ Own8 5 B w' v l

theorem RetsOwn.mono {B B' : Nat} {w' : World} {l : List UInt8} {e : Ending} (h : RetsOwn B w' l e) (hB : B' ≤ B) : RetsOwn B' w' l e := by
  obtain ⟨v, rfl, ho⟩ := h
  exact ⟨v, rfl, ho.mono hB⟩

set_option maxHeartbeats 400000 in
theorem clone_any (a : Option Addr) (len cap : Nat) (l : List UInt8) (w : World) (h : Bts w a len cap l) (hm : len ≤ 140737488355328) :
    Calls Try.prog 38 #[.slice a len cap] w fun e w' => RetsOwn w.heap.size w' l e ∧ Below w.heap.size w w' := by
  have H := Lib.hid h
  have hl := Lib.hid h.length
  obtain ⟨i0, hi, hz0, hz1, hz2⟩ := info_parts Try.info8
  cases a with
  | none =>
    obtain rfl : cap = 0 := h.nil rfl
    obtain rfl : len = 0 := by have := h.le; omega
    obtain rfl : l = [] := List.eq_nil_of_length_eq_zero h.length
    have he := fun W : World => Lib.run_eql_slice_nil (P := Try.prog) W 22 5 none 0 0 0 0 Try.underlying22
    go_enter Try.func38, Try.ntmps38
    go_wp2
    go_ret
    exact ⟨⟨_, rfl, Own8.nil _ _ _⟩, Below.refl _ _⟩
  | some ad =>
    clear h
    have he := fun W : World => Lib.run_eql_slice_nil (P := Try.prog) W 22 5 (some ad) len cap 0 0 Try.underlying22
    go_enter Try.func38, Try.ntmps38
    go_wp2_with (at_builtin; refine wpList_append_bts _ rfl _ _ 22 rfl w.heap.size 5 i0 Try.underlying22 hi hz0 hz1 hz2 _ [] rfl (Own8.empty w _ _ (Nat.le_refl _)) _ _ _ l rfl (H.out.below ((Below.refl _ _).alloc (Nat.le_refl _) _)) (by simp; omega) (by simp) ?_; intro v' w1 hown hgrow)
    go_ret
    exact ⟨⟨_, rfl, hown⟩, hgrow _ ((Below.refl _ _).alloc (Nat.le_refl _) _)⟩

theorem bareL_le (l : List UInt8) : (bareL l).length ≤ l.length := (List.dropWhile_sublist _).length_le

set_option maxHeartbeats 400000 in
theorem trim_any (a : Option Addr) (len cap : Nat) (l : List UInt8) (w : World) (h : Bts w a len cap l) (hm : len ≤ 140737488355328) :
    Calls Try.prog 22 #[.slice a len cap] w fun e w' => RetsOwn w.heap.size w' (bareL l) e ∧ Below w.heap.size w w' := by
  have hb : (bareL l).length ≤ 140737488355328 := by have := bareL_le l; have := h.length; omega
  go_enter Try.func22, Try.ntmps22
  go_wp2_with fail
  refine (bare_any _ _ _ l _ h).mono ?_
  rintro e w1 ⟨⟨a', c', rfl, hr⟩, rfl⟩
  go_wp2_with fail
  refine (clone_any _ _ _ _ _ hr hb).mono ?_
  rintro e w1 ⟨⟨v, rfl, ho⟩, hbel⟩
  go_wp2_with fail
  go_ret
  exact ⟨⟨_, rfl, ho⟩, hbel⟩

/-- 'twin': the bytes, in memory of the call's own, with a 7 behind them. -/
def RetsTwin (B : Nat) (w' : World) (l : List UInt8) (e : Ending) : Prop :=
  ∃ g cap, e = .returned (.slice (some ⟨g, 0, none⟩) l.length cap) ∧ l.length + 1 ≤ cap ∧ Own8 5 B w' (.slice (some ⟨g, 0, none⟩) (l.length + 1) cap) (l ++ [7])

set_option maxHeartbeats 400000 in
theorem twin_any (a : Option Addr) (len cap : Nat) (l : List UInt8) (w : World) (h : Bts w a len cap l) (hm : len ≤ 2000) :
    Calls Try.prog 10 #[.slice a len cap] w fun e w' => RetsTwin w.heap.size w' l e ∧ Below w.heap.size w w' := by
  have H := Lib.hid h
  have hl := Lib.hid h.length
  have hle := h.le
  have hcm := h.max
  unfold maxLen at hcm
  obtain ⟨i0, hi, hz0, hz1, hz2⟩ := info_parts Try.info8
  clear h
  go_enter Try.func10, Try.ntmps10
  have hl1 : ([] ++ l).length ≤ 2000 := by simpa [hl.out] using hm
  go_wp2_with (first | (at_builtin; refine wpList_append_bts _ rfl (.tmp 3) (.tmp 4) 22 rfl w.heap.size 5 i0 Try.underlying22 hi hz0 hz1 hz2 _ [] rfl (Own8.empty w _ _ (Nat.le_refl _)) _ _ _ l rfl (H.out.below ((Below.refl _ _).alloc (Nat.le_refl _) _)) (by simp; omega) (by simp) ?_; intro v1 w1 hown1 hgrow1; have hb1 := hgrow1 _ ((Below.refl w.heap.size w).alloc (Nat.le_refl _) _); have hs1 := hb1.size) | (at_builtin; refine wpList_append_bts _ rfl (.tmp 5) (.tmp 6) 22 rfl w.heap.size 5 i0 Try.underlying22 hi hz0 hz1 hz2 _ ([] ++ l) rfl (hown1.alloc _) _ _ _ [7] rfl (Bts.one w1 _ 7 7 rfl) (by omega) (by simp; omega) ?_; intro v2 w2 hown2 hgrow2; obtain ⟨g, cap2, rfl⟩ := hown2.succ (by simp); have hlc : len ≤ cap2 := by (have h9 := hown2.cap; have h8 := hl.out; simp at h9; omega)))
  go_ret
  have hb2 := hgrow2 _ (hb1.alloc (by omega) _)
  have e := hl.out
  subst e
  refine ⟨⟨g, cap2, rfl, ?_, by simpa using hown2⟩, hb2⟩
  have := hown2.cap
  simp at this
  omega

theorem kept_str (l : List UInt8) : strOf l ++ ⟨#[7]⟩ = strOf (l ++ [7]) := by
  simp [strOf]
  rfl

set_option maxHeartbeats 400000 in
/-- 'kept': what twin made still reads as it did. -/
theorem kept_any (g cap : Nat) (a : Option Addr) (len cap' : Nat) (l : List UInt8) (w : World) (ho : Bts w (some ⟨g, 0, none⟩) (len + 1) cap (l ++ [7])) (h : Bts w a len cap' l) (hm : len ≤ 2000) :
    Calls Try.prog 15 #[.slice (some ⟨g, 0, none⟩) len cap, .slice a len cap'] w fun e w' => e = .returned (.bool true) ∧ ∃ n, w' = w.drewN n := by
  have hle := ho.le
  have hcm := ho.max
  unfold maxLen at hcm
  have hc1 := fun W' (hW : Bts W' (some ⟨g, 0, none⟩) (len + 1) cap (l ++ [7])) => hW.convert (P := Try.prog) 22 5 9 Try.underlying22 Try.underlying5 Try.underlying9
  have hc2 := fun n => Bts.convert (P := Try.prog) (w := w.drewN n) (a := some ⟨g, 0, none⟩) (len := len + 1) (cap := cap) (l := l ++ [7]) ⟨ho.length, ho.le, ho.max, ho.nil, ho.cells⟩ 22 5 9 Try.underlying22 Try.underlying5 Try.underlying9
  have hc3 := fun n => Bts.convert (P := Try.prog) (w := w.drewN n) (a := a) (len := len) (cap := cap') (l := l) ⟨h.length, h.le, h.max, h.nil, h.cells⟩ 22 5 9 Try.underlying22 Try.underlying5 Try.underlying9
  have hsz : (strOf l).size ≤ 2000 := by have := h.length; simp [strOf, ByteArray.size]; omega
  have hks := kept_str l
  clear hc1 ho h
  go_enter Try.func15, Try.ntmps15
  go_wp2
  go_quiet (fail)
  go_wp2
  go_ret
  exact ⟨rfl, _, rfl⟩

end Go.Proofs.Ytidiapdddkknpaa
