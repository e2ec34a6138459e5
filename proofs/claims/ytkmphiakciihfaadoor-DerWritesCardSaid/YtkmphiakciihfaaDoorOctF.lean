/-
  Texts of ours, one behind the other: Oct1 Oct2 Oct3 Oct4 Oct5 Oct6
-/
import Derived.Test.YtkmphiakciihfaaDoorRows
import Derived.Test.YtkmphiakciihfaaDoorLib
import Derived.Deep.QuietTactic
import Derived.BigQuiet
import Derived.Lib.Bytealg
import Derived.Laws.Externs
import Derived.WalkSmall

namespace Go.Proofs.YtkmphiakciihfaaDoor
open Go.RowKit

theorem Tryd.info8 : (Tryd.prog.info? 5).map (fun i => (i.zero, i.size, i.bytes)) = some (some (.int .u8 0), 1, 1) := by kernel_rfl

def bareL (l : List UInt8) : List UInt8 := l.dropWhile (· == 0)

theorem bareL_step (l : List UInt8) (k : Nat) (hk : k < l.length) : bareL (l.drop k) = if (l[k]?.getD 0).toNat = 0 then bareL (l.drop (k + 1)) else l.drop k := by
  rw [List.drop_eq_getElem_cons hk]
  simp only [bareL, List.dropWhile_cons, List.getElem?_eq_getElem hk, Option.getD_some]
  by_cases h : l[k] = 0
  · simp [h]
  · have : ¬ l[k].toNat = 0 := fun e => h (UInt8.toNat_inj.1 (by simpa using e))
    simp [h, this]

/-- What is handed back reads as l, in memory that was there. -/
def RetsBts (w : World) (l : List UInt8) (e : Ending) : Prop := ∃ a cap, e = .returned (.slice a l.length cap) ∧ Bts w a l.length cap l

theorem RetsBts.mk {w : World} {l : List UInt8} {a : Option Addr} {len cap : Nat} (h : Bts w a len cap l) : RetsBts w l (.returned (.slice a len cap)) := by
  obtain rfl := h.length
  exact ⟨a, cap, rfl, h⟩

theorem sized_any (n : Int) (w : World) : Calls Tryd.prog 56 #[.int .i64 n] w fun e w' => e = .returned (.bool (decide (0 ≤ n ∧ n ≤ 65536))) ∧ w = w' := by
  by_cases h0 : 0 ≤ n
  · by_cases h1 : n ≤ 65536
    · go_enter Tryd.func56, Tryd.ntmps56
      go_wp2
      go_ret
      exact ⟨by simp; omega, rfl⟩
    · go_enter Tryd.func56, Tryd.ntmps56
      go_wp2
      go_ret
      exact ⟨by simp; omega, rfl⟩
  · go_enter Tryd.func56, Tryd.ntmps56
    go_wp2
    go_ret
    exact ⟨by simp; omega, rfl⟩

set_option maxHeartbeats 400000 in
theorem bare_any (a : Option Addr) (len cap : Nat) (l : List UInt8) (w : World) (h : Bts w a len cap l) :
    Calls Tryd.prog 57 #[.slice a len cap] w fun e w' => RetsBts w (bareL l) e ∧ w = w' := by
  have hm := h.len_le
  unfold maxLen at hm
  have hcm := h.max
  unfold maxLen at hcm
  have hle := h.le
  have hl := Lib.hid h.length
  have H := Lib.hid h
  go_enter Tryd.func57, Tryd.ntmps57
  go_wp2
  go_loop [7] (fun i => ∃ k : Nat, k ≤ len ∧ i = .int .i64 k ∧ Hid (bareL l = bareL (l.drop k))) (fun i => len - (intOf i).toNat)
  case atStart => exact ⟨0, Nat.zero_le _, rfl, by simp [Hid]⟩
  case round =>
    obtain ⟨k, hk, rfl, hrest⟩ := hrel
    by_cases hlt : k < len
    · obtain ⟨b, off, rfl, hbl, hc⟩ := H.out.cells (by omega)
      have hck := hc k hlt
      have hst := Lib.hid (bareL_step l k (by have := hl.out; omega))
      clear hc
      generalize hx : (l[k]?.getD 0).toNat = x at *
      have Hx := Lib.hid hx
      clear hx
      by_cases hx0 : x = 0
      · subst hx0
        go_wp2
        go_round
        case rel => exact ⟨k + 1, by omega, by go_num, by have := hst.out; rw [if_pos rfl] at this; unfold Hid; rw [hrest.out, this]⟩
        case measure => simp [intOf]; omega
      · have hx1 : ((x : Int) != 0) = true := by simp; omega
        go_wp2
        go_ret
        have e : bareL l = l.drop k := by have := hst.out; rw [if_neg hx0] at this; rw [hrest.out, this]
        rw [e]
        exact ⟨RetsBts.mk (H.out.drop hlt), rfl⟩
    · go_wp2
      go_ret
      have e : bareL l = [] := by rw [hrest.out, List.drop_eq_nil_of_le (by have := hl.out; omega)]; rfl
      rw [e]
      exact ⟨RetsBts.mk (Bts.none w), rfl⟩

/-- What is handed back reads as l, in memory of the call's own. -/
def RetsOwn (B : Nat) (w' : World) (l : List UInt8) (e : Ending) : Prop := ∃ v, e = .returned v ∧ Own8 5 B w' v l

theorem RetsOwn.mono {B B' : Nat} {w' : World} {l : List UInt8} {e : Ending} (h : RetsOwn B w' l e) (hB : B' ≤ B) : RetsOwn B' w' l e := by
  obtain ⟨v, rfl, ho⟩ := h
  exact ⟨v, rfl, ho.mono hB⟩

set_option maxHeartbeats 400000 in
theorem clone_any (a : Option Addr) (len cap : Nat) (l : List UInt8) (w : World) (h : Bts w a len cap l) (hm : len ≤ 140737488355328) :
    Calls Tryd.prog 49 #[.slice a len cap] w fun e w' => RetsOwn w.heap.size w' l e ∧ Below w.heap.size w w' := by
  have H := Lib.hid h
  have hl := Lib.hid h.length
  obtain ⟨i0, hi, hz0, hz1, hz2⟩ := info_parts Tryd.info8
  cases a with
  | none =>
    obtain rfl : cap = 0 := h.nil rfl
    obtain rfl : len = 0 := by have := h.le; omega
    obtain rfl : l = [] := List.eq_nil_of_length_eq_zero h.length
    have he := fun W : World => Lib.run_eql_slice_nil (P := Tryd.prog) W 22 5 none 0 0 0 0 Tryd.underlying22
    go_enter Tryd.func49, Tryd.ntmps49
    go_wp2
    go_ret
    exact ⟨⟨_, rfl, Own8.nil _ _ _⟩, Below.refl _ _⟩
  | some ad =>
    clear h
    have he := fun W : World => Lib.run_eql_slice_nil (P := Tryd.prog) W 22 5 (some ad) len cap 0 0 Tryd.underlying22
    go_enter Tryd.func49, Tryd.ntmps49
    go_wp2_with (at_builtin; refine wpList_append_bts _ rfl _ _ 22 rfl w.heap.size 5 i0 Tryd.underlying22 hi hz0 hz1 hz2 _ [] rfl (Own8.empty w _ _ (Nat.le_refl _)) _ _ _ l rfl (H.out.below ((Below.refl _ _).alloc (Nat.le_refl _) _)) (by simp; omega) (by simp) ?_; intro v' w1 hown hgrow)
    go_ret
    exact ⟨⟨_, rfl, hown⟩, hgrow _ ((Below.refl _ _).alloc (Nat.le_refl _) _)⟩

theorem bareL_le (l : List UInt8) : (bareL l).length ≤ l.length := (List.dropWhile_sublist _).length_le

set_option maxHeartbeats 400000 in
theorem trim_any (a : Option Addr) (len cap : Nat) (l : List UInt8) (w : World) (h : Bts w a len cap l) (hm : len ≤ 140737488355328) :
    Calls Tryd.prog 38 #[.slice a len cap] w fun e w' => RetsOwn w.heap.size w' (bareL l) e ∧ Below w.heap.size w w' := by
  have hb : (bareL l).length ≤ 140737488355328 := by have := bareL_le l; have := h.length; omega
  go_enter Tryd.func38, Tryd.ntmps38
  go_wp2_with fail
  refine (bare_any _ _ _ l _ h).mono ?_
  rintro e w1 ⟨⟨a', c', rfl, hr⟩, rfl⟩
  go_wp2_with fail
  refine (clone_any _ _ _ _ _ hr hb).mono ?_
  rintro e w1 ⟨⟨v, rfl, ho⟩, hbel⟩
  go_wp2_with fail
  go_ret
  exact ⟨⟨_, rfl, ho⟩, hbel⟩

/-- 'twin': the bytes, in memory of the call's own, with a 7 behind them. -/
def RetsTwin (B : Nat) (w' : World) (l : List UInt8) (e : Ending) : Prop :=
  ∃ g cap, e = .returned (.slice (some ⟨g, 0, none⟩) l.length cap) ∧ l.length + 1 ≤ cap ∧ Own8 5 B w' (.slice (some ⟨g, 0, none⟩) (l.length + 1) cap) (l ++ [7])

theorem kept_str (l : List UInt8) : strOf l ++ ⟨#[7]⟩ = strOf (l ++ [7]) := by
  simp [strOf]
  rfl

end Go.Proofs.YtkmphiakciihfaaDoor

namespace Go.Proofs.YtkmphiakciihfaaDoor
open Go.RowKit

def wholeL (l : List UInt8) : Nat := l.foldl (fun n c => 256 * n + c.toNat) 0

theorem wholeL_snoc (l : List UInt8) (c : UInt8) : wholeL (l ++ [c]) = 256 * wholeL l + c.toNat := by simp [wholeL]

theorem take_snoc8 (l : List UInt8) (k : Nat) (hk : k < l.length) : l.take (k + 1) = l.take k ++ [l[k]?.getD 0] := by
  rw [List.take_add_one, List.getElem?_eq_getElem hk]; rfl

theorem wholeL_step (l : List UInt8) (k : Nat) (hk : k < l.length) : wholeL (l.take (k + 1)) = 256 * wholeL (l.take k) + (l[k]?.getD 0).toNat := by
  rw [take_snoc8 l k hk, wholeL_snoc]

theorem wholeL_lt (l : List UInt8) : wholeL l < 256 ^ l.length := by
  suffices h : ∀ (l : List UInt8) (n k : Nat), n < 256 ^ k → l.foldl (fun n c => 256 * n + c.toNat) n < 256 ^ (k + l.length) by
    simpa [wholeL] using h l 0 0 (by decide)
  intro l
  induction l with
  | nil => intro n k h; simpa using h
  | cons c l ih =>
    intro n k h
    have hc := UInt8.toNat_lt c
    have := ih (256 * n + c.toNat) (k + 1) (by rw [Nat.pow_succ]; omega)
    simpa [Nat.add_assoc, Nat.add_comm 1] using this

theorem wholeL_append (a b : List UInt8) : wholeL (a ++ b) = wholeL a * 256 ^ b.length + wholeL b := by
  suffices h : ∀ (b : List UInt8) (n : Nat), b.foldl (fun n c => 256 * n + c.toNat) n = n * 256 ^ b.length + b.foldl (fun n c => 256 * n + c.toNat) 0 by
    rw [wholeL, List.foldl_append, h]; rfl
  intro b
  induction b with
  | nil => intro n; simp
  | cons c b ih =>
    intro n
    rw [List.foldl_cons, ih, List.foldl_cons, ih (256 * 0 + c.toNat), List.length_cons, Nat.pow_succ]
    have : (256 * n + c.toNat) * 256 ^ b.length = n * (256 ^ b.length * 256) + (256 * 0 + c.toNat) * 256 ^ b.length := by
      rw [Nat.add_mul, Nat.mul_zero, Nat.zero_add, Nat.mul_comm 256 n, Nat.mul_assoc, Nat.mul_comm 256 (256 ^ b.length)]
    omega

theorem wholeL_bare (l : List UInt8) : wholeL (bareL l) = wholeL l := by
  induction l with
  | nil => rfl
  | cons c l ih =>
    rw [bareL, List.dropWhile_cons]
    by_cases h : c = 0
    · subst h
      rw [if_pos (by rfl)]
      rw [show List.dropWhile (fun x => x == 0) l = bareL l from rfl, ih]
      simp [wholeL]
    · rw [if_neg (by simpa using h)]

theorem wholeL_ge (c : UInt8) (l : List UInt8) (hc : c ≠ 0) : 256 ^ l.length ≤ wholeL (c :: l) := by
  have h := wholeL_append [c] l
  have h1 : wholeL [c] = c.toNat := by simp [wholeL]
  have h2 : c.toNat ≠ 0 := fun e => hc (UInt8.toNat_inj.1 (by simpa using e))
  rw [h1] at h
  have h3 : 1 * 256 ^ l.length ≤ c.toNat * 256 ^ l.length := Nat.mul_le_mul_right _ (by omega)
  rw [show [c] ++ l = c :: l from rfl] at h
  omega

theorem bareL_head (l : List UInt8) (c : UInt8) (m : List UInt8) (h : bareL l = c :: m) : c ≠ 0 := by
  intro e
  have := List.head?_dropWhile_not (fun x : UInt8 => x == 0) l
  rw [show List.dropWhile (fun x : UInt8 => x == 0) l = c :: m from h] at this
  simp [e] at this

theorem big_iff (l : List UInt8) : 8 < (bareL l).length ↔ 256 ^ 8 ≤ wholeL l := by
  rw [← wholeL_bare]
  constructor
  · intro h
    cases hb : bareL l with
    | nil => rw [hb] at h; simp at h
    | cons c m =>
      rw [hb] at h
      have h1 := wholeL_ge c m (bareL_head l c m hb)
      have h2 : 256 ^ 8 ≤ 256 ^ m.length := Nat.pow_le_pow_right (by decide) (by simp at h; omega)
      omega
  · intro h
    have h1 := wholeL_lt (bareL l)
    by_cases hc : 8 < (bareL l).length
    · exact hc
    · have h2 : 256 ^ (bareL l).length ≤ 256 ^ 8 := Nat.pow_le_pow_right (by decide) (by omega)
      omega

def wVal (l : List UInt8) : Int := if 8 < (bareL l).length then 0 else wholeL l
def wErr (l : List UInt8) : Int := if 8 < (bareL l).length then 10 else 0
def WholeIs (l : List UInt8) (e : Ending) : Prop := e = .returned (.tuple #[.int .u64 (wVal l), .int .i64 (wErr l)])

theorem WholeIs.big {l : List UInt8} (h : 8 < (bareL l).length) : WholeIs l (.returned (.tuple #[.int .u64 0, .int .i64 10])) := by simp [WholeIs, wVal, wErr, h]
theorem WholeIs.fits {l : List UInt8} {n : Nat} (h : ¬ 8 < (bareL l).length) (hn : n = wholeL l) : WholeIs l (.returned (.tuple #[.int .u64 (n : Int), .int .i64 0])) := by simp [WholeIs, wVal, wErr, h, hn]

theorem or8 (v x : Nat) (hv : v ≤ 72057594037927935) (hx : x < 256) : bits BinOp.or IntKind.u64 ((v : Int) * 256) (x : Int) = ((256 * v + x : Nat) : Int) := by
  rw [show ((v : Int) * 256) = ((v * 256 : Nat) : Int) from by omega, u64_or_nat _ _ (by omega) (by omega), nat_join 8 _ _ (by omega) (by omega)]
  omega

theorem wrap8 (v x : Nat) (hv : v ≤ 72057594037927935) (hx : x < 256) : IntKind.u64.wrap (IntKind.u64.wrap (256 * (v : Int)) + (x : Int)) = ((256 * v + x : Nat) : Int) := by
  simp only [IntKind.wrap, IntKind.bits, IntKind.signed]
  simp
  omega

end Go.Proofs.YtkmphiakciihfaaDoor

namespace Go.Proofs.YtkmphiakciihfaaDoor
set_option maxRecDepth 100000
open Go.RowKit

/-- The lowest bytes of a number, so many, the highest first. -/
def bigL (n : Nat) : Nat → List UInt8
  | 0 => []
  | k + 1 => UInt8.ofNat (n / 256 ^ k % 256) :: bigL n k

theorem bigL_length (n k : Nat) : (bigL n k).length = k := by induction k <;> simp [bigL, *]

theorem set_zero_big (n m j : Nat) (hj : j < m) : (List.replicate (m - j) (0 : UInt8) ++ bigL n j).set (m - j - 1) (UInt8.ofNat (n / 256 ^ j % 256)) = List.replicate (m - (j + 1)) (0 : UInt8) ++ bigL n (j + 1) := by
  obtain ⟨d, rfl⟩ : ∃ d, m = d + j + 1 := ⟨m - j - 1, by omega⟩
  rw [show d + j + 1 - j = d + 1 from by omega, show d + 1 - 1 = d from by omega, show d + j + 1 - (j + 1) = d from by omega, List.replicate_succ', List.append_assoc]
  rw [List.set_append_right _ _ (by simp)]
  simp [bigL]

/-- What is handed back with an error's number: it reads as l, in memory of the call's own. -/
def RetsOwn2 (B : Nat) (w' : World) (r : List UInt8 × Int) (e : Ending) : Prop := ∃ v, e = .returned (.tuple #[v, .int .i64 r.2]) ∧ Own8 5 B w' v r.1

def bigR (n : Nat) (s : Int) : List UInt8 × Int := if 0 ≤ s ∧ s ≤ 65536 then (if n < 256 ^ s.toNat then (bigL n s.toNat, 0) else ([], 10)) else ([], 2)

theorem div_pow (n j : Nat) : n / 256 ^ j / 256 = n / 256 ^ (j + 1) := by rw [Nat.div_div_eq_div_mul, Nat.pow_succ]

theorem sized_yes (n : Int) (w : World) (h : 0 ≤ n ∧ n ≤ 65536) : Calls Tryd.prog 56 #[.int .i64 n] w fun e w' => e = .returned (.bool true) ∧ w = w' :=
  (sized_any n w).mono fun e w' ⟨he, hw⟩ => ⟨by rw [he, decide_eq_true h], hw⟩

theorem sized_no (n : Int) (w : World) (h : ¬ (0 ≤ n ∧ n ≤ 65536)) : Calls Tryd.prog 56 #[.int .i64 n] w fun e w' => e = .returned (.bool false) ∧ w = w' :=
  (sized_any n w).mono fun e w' ⟨he, hw⟩ => ⟨by rw [he, decide_eq_false h], hw⟩

set_option maxHeartbeats 800000 in
theorem big_any (n : Nat) (s : Int) (w : World) (hn : Hid (n < 256 ^ 8)) :
    Calls Tryd.prog 37 #[.int .u64 (n : Int), .int .i64 s] w fun e w' => RetsOwn2 w.heap.size w' (bigR n s) e ∧ Below w.heap.size w w' := by
  obtain ⟨i0, hi, hz0, hz1, hz2⟩ := info_parts Tryd.info8
  by_cases hs : 0 ≤ s ∧ s ≤ 65536
  · obtain ⟨h0, h1⟩ := hs
    obtain ⟨m, rfl⟩ := Int.eq_ofNat_of_zero_le h0
    have hm : m ≤ 65536 := by omega
    clear h0 h1
    go_enter Tryd.func37, Tryd.ntmps37
    go_wp2_with (first | (go_at_call 56; refine (sized_yes _ _ (by omega)).mono ?_; rintro e w' ⟨rfl, rfl⟩) | (at_make; refine wpList_make_full _ rfl _ _ 22 rfl w.heap.size 5 i0 (.int .u8 0) 1 Tryd.underlying22 hi hz0 hz1 _ _ _ _ m rfl rfl rfl rfl (by rw [hz2]; omega) (by unfold maxLen; omega) (Nat.le_refl _) ?_; intro w1 hown hgrow))
    have hown1 : Own8 5 w.heap.size w1 (.slice (some ⟨w.heap.size, 0, none⟩) m m) (List.replicate m 0) := by
      unfold Own8
      rw [← zeros_byt]
      simpa using hown
    have hb1 : Below w.heap.size w w1 := (Below.refl _ _).grown hgrow (Nat.le_refl _) (fun _ h => by cases h)
    clear hown hgrow
    go_loopw [0, 7] (fun v i wr => ∃ r : Nat, r ≤ m ∧ i = .int .i64 ((r : Int) - 1) ∧ v = .int .u64 ((n / 256 ^ (m - r) : Nat) : Int) ∧ Own8 5 w.heap.size wr (.slice (some ⟨w.heap.size, 0, none⟩) m m) (List.replicate r 0 ++ bigL n (m - r)) ∧ Below w.heap.size w wr) (fun _ i _ => (intOf i + 1).toNat)
    case atStart => exact ⟨m, Nat.le_refl _, rfl, by simp, by simpa [bigL] using hown1, hb1⟩
    case round =>
      obtain ⟨r, hr, rfl, rfl, hown, hb⟩ := hrel
      have HO := Lib.hid hown
      cases r with
      | zero =>
        have hsm : 0 ≤ ((m : Nat) : Int) ∧ ((m : Nat) : Int) ≤ 65536 := ⟨by omega, by omega⟩
        have hfit : n / 256 ^ (m - 0) = 0 ↔ n < 256 ^ m := by
          rw [Nat.sub_zero, Nat.div_eq_zero_iff]
          have : 0 < 256 ^ m := Nat.pow_pos (by decide)
          omega
        have Hfit := Lib.hid hfit
        clear hfit
        generalize n / 256 ^ (m - 0) = q at *
        by_cases hq : q = 0
        · subst hq
          have hR : bigR n m = (bigL n m, 0) := by rw [bigR, if_pos hsm, if_pos (by simpa using Hfit.out.1 rfl)]; simp
          have HR := Lib.hid hR
          clear hR hown hsm
          go_wp2
          go_ret2
          exact ⟨⟨_, by rw [HR.out]; rfl, by rw [HR.out]; simpa using HO.out⟩, hb⟩
        · have hR : bigR n m = ([], 10) := by rw [bigR, if_pos hsm, if_neg (fun h => hq (Hfit.out.2 (by simpa using h)))]
          have HR := Lib.hid hR
          have hq1 : ((q : Int) != 0) = true := by simp; omega
          clear hR hown hq hsm
          go_wp2
          go_ret2
          exact ⟨⟨_, by rw [HR.out]; rfl, by rw [HR.out]; exact Own8.nil _ _ _⟩, hb⟩
      | succ q =>
        have hlen : m = (List.replicate (q + 1) (0 : UInt8) ++ bigL n (m - (q + 1))).length := by simp [bigL_length]; omega
        have hcell := hown.cellAt hlen q (by omega)
        have hfr := hown.frozenAt hlen q
        have Hlen := Lib.hid hlen
        clear hlen hown
        generalize hv : n / 256 ^ (m - (q + 1)) = v at *
        have HV := Lib.hid hv
        clear hv
        rw [show (((q + 1 : Nat) : Int) - 1) = (q : Int) from by omega]
        go_wp2
        have hst := HO.out.stored Hlen.out q (UInt8.ofNat (v % 256)) ((v : Int) % 256) (by simp [UInt8.toNat_ofNat'] <;> omega)
        have hset := set_zero_big n m (m - (q + 1)) (by omega)
        rw [HV.out, show m - (m - (q + 1)) = q + 1 from by omega, show q + 1 - 1 = q from by omega, show m - (m - (q + 1) + 1) = q from by omega, show m - (q + 1) + 1 = m - q from by omega] at hset
        rw [hset] at hst
        go_roundw
        case rel => exact ⟨q, by omega, rfl, by rw [show m - q = m - (q + 1) + 1 from by omega, ← div_pow, HV.out, Int.natCast_ediv]; rfl, hst.1, hst.2 _ hb⟩
        case measure => simp [intOf] <;> omega
  · go_enter Tryd.func37, Tryd.ntmps37
    go_wp2_with (go_at_call 56; refine (sized_no _ _ hs).mono ?_; rintro e w' ⟨rfl, rfl⟩)
    go_ret2
    exact ⟨⟨_, by rw [bigR, if_neg hs]; rfl, by rw [bigR, if_neg hs]; exact Own8.nil _ _ _⟩, Below.refl _ _⟩

set_option maxHeartbeats 400000 in
theorem reftrim_any (a : Option Addr) (len cap : Nat) (l : List UInt8) (w : World) (h : Bts w a len cap l) (hm : len ≤ 140737488355328) :
    Calls Tryd.prog 41 #[.slice a len cap] w fun e w' => RetsOwn w.heap.size w' (bareL l) e ∧ Below w.heap.size w w' := by
  obtain ⟨i0, hi, hz0, hz1, hz2⟩ := info_parts Tryd.info8
  have H := Lib.hid h
  have hl := Lib.hid h.length
  have hle := h.le
  have hcm := Lib.hid h.max
  have hnl := Lib.hid h.nil
  clear h
  go_enter Tryd.func41, Tryd.ntmps41
  go_wp2
  go_loop [3] (fun i => ∃ k : Nat, k ≤ len ∧ i = .int .i64 k ∧ Hid (bareL l = bareL (l.drop k))) (fun i => len - (intOf i).toNat)
  case atStart => exact ⟨0, Nat.zero_le _, rfl, by simp [Hid]⟩
  case round =>
    obtain ⟨k, hk, rfl, hrest⟩ := hrel
    by_cases hlt : k < len
    · obtain ⟨b, off, rfl, hbl, hc⟩ := H.out.cells (by omega)
      have hck := hc k hlt
      have hst := Lib.hid (bareL_step l k (by have := hl.out; omega))
      clear hc
      generalize hx : (l[k]?.getD 0).toNat = x at *
      clear hx
      by_cases hx0 : x = 0
      · subst hx0
        go_wp2
        go_round
        case rel => exact ⟨k + 1, by omega, by go_num, by have := hst.out; rw [if_pos rfl] at this; unfold Hid; rw [hrest.out, this]⟩
        case measure => simp [intOf] <;> omega
      · have hx1 : ((x : Int) == 0) = false := by simp; omega
        have hD := Lib.hid (H.out.drop hlt)
        have hdl : (l.drop k).length ≤ 140737488355328 := by have := hl.out; simp; omega
        have e := Lib.hid (show bareL l = l.drop k by have := hst.out; rw [if_neg hx0] at this; rw [hrest.out, this])
        go_wp2_with (at_builtin; refine wpList_append_bts _ rfl _ _ 22 rfl w.heap.size 5 i0 Tryd.underlying22 hi hz0 hz1 hz2 _ [] rfl (Own8.nil w _ _) _ _ _ (l.drop k) rfl hD.out (by simp; omega) (Nat.le_refl _) ?_; intro v' w1 hown hgrow)
        go_ret
        rw [e.out]
        exact ⟨⟨_, rfl, hown⟩, hgrow _ (Below.refl _ _)⟩
    · obtain rfl : k = len := by omega
      have e := Lib.hid (show bareL l = [] by rw [hrest.out, List.drop_eq_nil_of_le (by have := hl.out; omega)]; rfl)
      have hE := Lib.hid fun a' (ha : a' = none → cap - k = 0) => Bts.empty w a' (cap - k) (by have := hcm.out; omega) ha
      go_wp2_with (at_builtin; refine wpList_append_bts _ rfl _ _ 22 rfl w.heap.size 5 i0 Tryd.underlying22 hi hz0 hz1 hz2 _ [] rfl (Own8.nil w _ _) _ _ _ [] rfl (hE.out _ ?h1) (by simp) (Nat.le_refl _) ?_; rotate_left; intro v' w1 hown hgrow)
      all_goals first | (exact fun h => by rw [hnl.out h]; omega) | (go_ret; rw [e.out]; exact ⟨⟨_, rfl, hown⟩, hgrow _ (Below.refl _ _)⟩)

def padR (l : List UInt8) (s : Int) : List UInt8 × Int := if 0 ≤ s ∧ s ≤ 65536 then (if (bareL l).length ≤ s.toNat then (List.replicate (s.toNat - (bareL l).length) 0 ++ bareL l, 0) else ([], 10)) else ([], 2)

theorem padR_no {l : List UInt8} {s : Int} (h : ¬ (0 ≤ s ∧ s ≤ 65536)) : padR l s = ([], 2) := by rw [padR, if_neg h]
theorem padR_long {l : List UInt8} {m : Nat} (h : m ≤ 65536) (h2 : m < (bareL l).length) : padR l m = ([], 10) := by rw [padR, if_pos ⟨by omega, by omega⟩, if_neg (by simp; omega)]
theorem padR_yes {l : List UInt8} {m : Nat} (h : m ≤ 65536) (h2 : (bareL l).length ≤ m) : padR l m = (List.replicate (m - (bareL l).length) 0 ++ bareL l, 0) := by rw [padR, if_pos ⟨by omega, by omega⟩, if_pos (by simpa using h2)]; simp

set_option maxHeartbeats 800000 in
theorem refpad_any (a : Option Addr) (len cap : Nat) (l : List UInt8) (s : Int) (w : World) (h : Bts w a len cap l) (hm : len ≤ 70368744177664) :
    Calls Tryd.prog 58 #[.slice a len cap, .int .i64 s] w fun e w' => RetsOwn2 w.heap.size w' (padR l s) e ∧ Below w.heap.size w w' := by
  obtain ⟨i0, hi, hz0, hz1, hz2⟩ := info_parts Tryd.info8
  have hT := reftrim_any a len cap l w h (by omega)
  have hbl : (bareL l).length ≤ 70368744177664 := by have := bareL_le l; have := h.length; omega
  by_cases hs0 : s < 0
  · have e := Lib.hid (padR_no (l := l) (s := s) (by omega))
    clear hT h
    go_enter Tryd.func58, Tryd.ntmps58
    go_wp2
    go_ret2
    exact ⟨⟨_, by rw [e.out]; rfl, by rw [e.out]; exact Own8.nil _ _ _⟩, Below.refl _ _⟩
  by_cases hs1 : 65536 < s
  · have e := Lib.hid (padR_no (l := l) (s := s) (by omega))
    clear hT h
    go_enter Tryd.func58, Tryd.ntmps58
    go_wp2
    go_ret2
    exact ⟨⟨_, by rw [e.out]; rfl, by rw [e.out]; exact Own8.nil _ _ _⟩, Below.refl _ _⟩
  obtain ⟨m, rfl⟩ := Int.eq_ofNat_of_zero_le (show 0 ≤ s by omega)
  have hms : m ≤ 65536 := by omega
  by_cases hlong : m < (bareL l).length
  · have e := Lib.hid (padR_long (l := l) hms hlong)
    clear h hs0 hs1
    go_enter Tryd.func58, Tryd.ntmps58
    go_wp2_with fail
    refine hT.mono ?_
    rintro e w1 ⟨⟨v, rfl, ho⟩, hb⟩
    obtain ⟨a1, c1, rfl, hB, hge⟩ := ho.form
    clear hT
    go_wp2
    go_ret2
    exact ⟨⟨_, by rw [e.out]; rfl, by rw [e.out]; exact Own8.nil _ _ _⟩, hb⟩
  · have e := Lib.hid (padR_yes (l := l) hms (by omega))
    clear h hs0 hs1
    go_enter Tryd.func58, Tryd.ntmps58
    go_wp2_with fail
    refine hT.mono ?_
    rintro e w1 ⟨⟨v, rfl, ho⟩, hb⟩
    obtain ⟨a1, c1, rfl, hB, hge⟩ := ho.form
    clear hT
    generalize bareL l = t at *
    have HO := Lib.hid ho
    have HB := Lib.hid hB
    clear ho hB hge
    go_wp2
    go_loopw [7, 8] (fun v i wr => ∃ k : Nat, t.length ≤ k ∧ k ≤ m ∧ i = .int .i64 k ∧ Own8 5 w1.heap.size wr v (List.replicate (k - t.length) 0) ∧ Below w1.heap.size w1 wr) (fun _ i _ => m - (intOf i).toNat)
    case atStart => exact ⟨t.length, Nat.le_refl _, by omega, rfl, by simpa using Own8.nil _ _ _, Below.refl _ _⟩
    case round =>
      obtain ⟨k, hk1, hk2, rfl, hown, hb2⟩ := hrel
      have hsz := hb2.size
      by_cases hlt : k < m
      · go_wp2_with (at_builtin; (refine wpList_append_bts _ rfl _ _ 22 rfl w1.heap.size 5 i0 Tryd.underlying22 hi hz0 hz1 hz2 _ (List.replicate (k - t.length) 0) rfl (hown.alloc _) _ _ _ [0] rfl (Bts.one wr _ 0 0 rfl) (by simp; omega) (by simp; omega) ?_; intro v' w2 hown2 hgrow))
        go_roundw
        case rel => exact ⟨k + 1, by omega, by omega, by go_num, by rw [show k + 1 - t.length = k - t.length + 1 from by omega, List.replicate_succ']; exact hown2, hgrow _ (hb2.alloc (by omega) _)⟩
        case measure => simp [intOf] <;> omega
      · obtain rfl : k = m := by omega
        go_wp2_with (at_builtin; (refine wpList_append_bts _ rfl _ _ 22 rfl w1.heap.size 5 i0 Tryd.underlying22 hi hz0 hz1 hz2 _ (List.replicate (k - t.length) 0) rfl hown _ _ _ t rfl (HB.out.below hb2) (by simp; omega) (by omega) ?_; intro v' w2 hown2 hgrow))
        go_ret2
        exact ⟨⟨_, by rw [e.out]; rfl, by rw [e.out]; exact hown2.mono hb.size⟩, hb.trans ((hgrow _ hb2).mono hb.size)⟩

end Go.Proofs.YtkmphiakciihfaaDoor

namespace Go.Proofs.YtkmphiakciihfaaDoor
open Go.RowKit

abbrev Row2 := Option Addr × Nat × Nat × List UInt8

/-- All bytes of the first k rows. -/
def joined (L : List Row2) : List UInt8 := L.flatMap (·.2.2.2)

theorem joined_step (L : List Row2) (k : Nat) (hk : k < L.length) : joined (L.take (k + 1)) = joined (L.take k) ++ (L[k]?.getD (none, 0, 0, [])).2.2.2 := by
  have e : L.take (k + 1) = L.take k ++ [L[k]] := by rw [List.take_add_one, List.getElem?_eq_getElem hk]; rfl
  rw [e, List.getElem?_eq_getElem hk]
  unfold joined
  rw [List.flatMap_append, List.flatMap_singleton]
  rfl

theorem joined_le (L : List Row2) (k : Nat) : (joined (L.take k)).length ≤ (joined L).length := by
  have e : (joined L).length = (joined (L.take k ++ L.drop k)).length := by rw [List.take_append_drop]
  unfold joined at *
  rw [List.flatMap_append, List.length_append] at e
  omega

set_option maxHeartbeats 800000 in
theorem join_any (a : Option Addr) (n cap : Nat) (L : List Row2) (w : World) (h : Rows2 w a n cap L) (hm : (joined L).length ≤ 140737488355328) :
    Calls Tryd.prog 39 #[.slice a n cap] w fun e w' => RetsOwn w.heap.size w' (joined L) e ∧ Below w.heap.size w w' := by
  obtain ⟨i0, hi, hz0, hz1, hz2⟩ := info_parts Tryd.info8
  have H := Lib.hid h
  have hl := Lib.hid h.length
  have hmn := h.max
  unfold maxLen at hmn
  clear h
  go_enter Tryd.func39, Tryd.ntmps39
  go_wp2
  go_loop [3, 11] (fun s i => ∃ k : Nat, k ≤ n ∧ i = .int .i64 k ∧ s = .int .i64 ((joined (L.take k)).length : Nat)) (fun _ i => n - (intOf i).toNat)
  case atStart => exact ⟨0, Nat.zero_le _, rfl, rfl⟩
  case round =>
    obtain ⟨k, hk, rfl, rfl⟩ := hrel
    by_cases hlt : k < n
    · obtain ⟨b, off, rfl, hbl, hc⟩ := H.out.cells (by omega)
      have hck := hc k hlt
      have hat := H.out.at k hlt
      have hst := joined_step L k (by have := hl.out; omega)
      have hst2 := Lib.hid (show (joined (L.take (k + 1))).length = (joined (L.take k)).length + (L[k]?.getD (none, 0, 0, [])).2.1 by rw [hst, List.length_append, hat.length])
      have hjl := joined_le L (k + 1)
      rw [hst2.out] at hjl
      clear hc hst hat
      generalize (L[k]?.getD (none, 0, 0, [])) = r at *
      obtain ⟨ra, rl, rc, rb⟩ := r
      simp only at hck hst2 hjl
      generalize hJ : (joined L).length = J at *
      clear hJ
      generalize (joined (L.take k)).length = jk at *
      go_wp2
      go_round
      case rel => exact ⟨k + 1, by omega, by go_num, by rw [hst2.out]; go_num⟩
      case measure => simp [intOf] <;> omega
    · obtain rfl : k = n := by omega
      have eJ : (joined (L.take k)).length = (joined L).length := by rw [List.take_of_length_le (by have := hl.out; omega)]
      rw [eJ]
      generalize hJ : (joined L).length = J at *
      have HJ := Lib.hid hJ
      clear hJ eJ
      go_wp2_with (at_make; refine wpList_make_own _ rfl _ _ 22 rfl w.heap.size 5 i0 (.int .u8 0) 1 Tryd.underlying22 hi hz0 hz1 _ _ _ J rfl rfl rfl (by rw [hz2]; omega) (by unfold maxLen; omega) (Nat.le_refl _) ?_; intro w1 hown0 hgrow0)
      have hb0 : Below w.heap.size w w1 := (Below.refl _ _).grown hgrow0 (Nat.le_refl _) (fun _ h => by cases h)
      clear hgrow0
      have HO := Lib.hid hown0
      clear hown0
      go_loopw [6, 24] (fun v i wr => ∃ k' : Nat, k' ≤ k ∧ i = .int .i64 k' ∧ Own8 5 w.heap.size wr v (joined (L.take k')) ∧ Below w.heap.size w wr) (fun _ i _ => k - (intOf i).toNat)
      case atStart => exact ⟨0, Nat.zero_le _, rfl, HO.out, hb0⟩
      case round =>
        obtain ⟨q, hq, rfl, hown, hb⟩ := hrel
        have hsz := hb.size
        by_cases hlq : q < k
        · obtain ⟨b, off, rfl, hbl, hc⟩ := (H.out.below hb).cells (by omega)
          have hck := hc q hlq
          have hat := (H.out.below hb).at q hlq
          have hst := Lib.hid (joined_step L q (by have := hl.out; omega))
          have hjl := joined_le L (q + 1)
          rw [hst.out, List.length_append, hat.length, HJ.out] at hjl
          clear hc
          generalize (L[q]?.getD (none, 0, 0, [])) = r at *
          obtain ⟨ra, rl, rc, rb⟩ := r
          simp only at hck hst hjl hat
          have HA := Lib.hid hat
          clear hat
          go_wp2_with (at_builtin; refine wpList_append_bts _ rfl _ _ 22 rfl w.heap.size 5 i0 Tryd.underlying22 hi hz0 hz1 hz2 _ (joined (L.take q)) rfl hown _ _ _ rb rfl HA.out (by omega) (by omega) ?_; intro v' w2 hown2 hgrow)
          go_roundw
          case rel => exact ⟨q + 1, by omega, by go_num, by rw [hst.out]; exact hown2, hgrow _ hb⟩
          case measure => simp [intOf] <;> omega
        · obtain rfl : q = k := by omega
          go_wp2
          go_ret
          rw [List.take_of_length_le (by have := hl.out; omega)] at hown
          exact ⟨⟨_, rfl, hown⟩, hb⟩

/-- A list of slices that has just been laid. -/
theorem rows2_lit2 (w : World) (T : TypeId) (a1 a2 : Option Addr) (n1 c1 n2 c2 : Nat) (l1 l2 : List UInt8) (h1 : Bts w a1 n1 c1 l1) (h2 : Bts w a2 n2 c2 l2) :
    Rows2 (w.alloc (.cells #[.slice a1 n1 c1, .slice a2 n2 c2] T)) (some ⟨w.heap.size, 0, none⟩) 2 2 [(a1, n1, c1, l1), (a2, n2, c2, l2)] := by
  refine ⟨rfl, by unfold maxLen; omega, fun _ => ⟨w.heap.size, 0, rfl, by simp, fun i hi => ?_⟩, fun x hx => ?_⟩
  · rw [World.cell?_alloc_at _ _ _ _ rfl]
    match i, hi with
    | 0, _ => rfl
    | 1, _ => rfl
  · have hb : Below w.heap.size w (w.alloc (.cells #[.slice a1 n1 c1, .slice a2 n2 c2] T)) := (Below.refl _ _).alloc (Nat.le_refl _) _
    rcases List.mem_cons.1 hx with rfl | hx
    · exact h1.below hb
    · obtain rfl := List.mem_singleton.1 hx
      exact h2.below hb

theorem bigL_val (n k : Nat) : wholeL (bigL n k) = n % 256 ^ k := by
  induction k with
  | zero => simp [bigL, wholeL, Nat.mod_one]
  | succ k ih =>
    have h := wholeL_append [UInt8.ofNat (n / 256 ^ k % 256)] (bigL n k)
    rw [show [UInt8.ofNat (n / 256 ^ k % 256)] ++ bigL n k = bigL n (k + 1) from rfl, bigL_length, ih] at h
    have h1 : wholeL [UInt8.ofNat (n / 256 ^ k % 256)] = n / 256 ^ k % 256 := by simp [wholeL, UInt8.toNat_ofNat']
    rw [h, h1, Nat.pow_succ, Nat.mod_mul, Nat.mul_comm]
    omega

theorem wholeL_inj : ∀ (l m : List UInt8), l.length = m.length → wholeL l = wholeL m → l = m
  | [], [], _, _ => rfl
  | [], _ :: _, h, _ => by simp at h
  | _ :: _, [], h, _ => by simp at h
  | c :: l, d :: m, h, e => by
    have hl : l.length = m.length := by simpa using h
    have h1 := wholeL_append [c] l
    have h2 := wholeL_append [d] m
    have h3 : wholeL [c] = c.toNat := by simp [wholeL]
    have h4 : wholeL [d] = d.toNat := by simp [wholeL]
    have h5 := wholeL_lt l
    have h6 := wholeL_lt m
    rw [show [c] ++ l = c :: l from rfl, h3] at h1
    rw [show [d] ++ m = d :: m from rfl, h4, ← e, h1, ← hl] at h2
    rw [← hl] at h6
    have hp : 0 < 256 ^ l.length := Nat.pow_pos (by decide)
    have hcd : c.toNat = d.toNat := by
      have a1 := congrArg (· / 256 ^ l.length) h2
      simp only [Nat.mul_comm _ (256 ^ l.length), Nat.mul_add_div hp, Nat.div_eq_of_lt h5, Nat.div_eq_of_lt h6] at a1
      omega
    obtain rfl := UInt8.toNat_inj.1 hcd
    rw [wholeL_inj l m hl (by omega)]

theorem wholeL_zeros (k : Nat) (l : List UInt8) : wholeL (List.replicate k 0 ++ l) = wholeL l := by
  have h : wholeL (List.replicate k 0) = 0 := by
    induction k with
    | zero => rfl
    | succ k ih => rw [List.replicate_succ', wholeL_snoc, ih]; rfl
  rw [wholeL_append, h]
  omega

theorem bare_len_iff (l : List UInt8) (k : Nat) : (bareL l).length ≤ k ↔ wholeL l < 256 ^ k := by
  rw [← wholeL_bare]
  constructor
  · intro h
    exact Nat.lt_of_lt_of_le (wholeL_lt _) (Nat.pow_le_pow_right (by decide) h)
  · intro h
    cases hb : bareL l with
    | nil => simp
    | cons c m =>
      rw [hb] at h
      have h1 := wholeL_ge c m (bareL_head l c m hb)
      have h2 : 256 ^ m.length < 256 ^ k := by omega
      have := (Nat.pow_lt_pow_iff_right (by decide : 1 < 256)).1 h2
      simp
      omega

/-- A number's bytes are the padded bytes of its eight. -/
theorem padR_big (n : Nat) (s : Int) (hn : n < 256 ^ 8) : padR (bigL n 8) s = bigR n s := by
  unfold padR bigR
  by_cases hs : 0 ≤ s ∧ s ≤ 65536
  · rw [if_pos hs, if_pos hs]
    have hv : wholeL (bigL n 8) = n := by rw [bigL_val, Nat.mod_eq_of_lt hn]
    have hiff := bare_len_iff (bigL n 8) s.toNat
    rw [hv] at hiff
    by_cases hf : n < 256 ^ s.toNat
    · rw [if_pos hf, if_pos (hiff.2 hf)]
      congr 1
      apply wholeL_inj
      · have := hiff.2 hf
        simp [bigL_length]
        omega
      · rw [wholeL_zeros, wholeL_bare, hv, bigL_val, Nat.mod_eq_of_lt hf]
    · rw [if_neg hf, if_neg (fun h => hf (hiff.1 h))]
  · rw [if_neg hs, if_neg hs]

theorem wrap_div (v : Nat) (h : v < 256 ^ 8) : IntKind.u64.wrap ((v : Int) / 256) = ((v / 256 : Nat) : Int) := by
  simp only [IntKind.wrap, IntKind.bits, IntKind.signed]
  simp
  omega

set_option maxRecDepth 100000 in
set_option maxHeartbeats 800000 in
theorem refbig_any (n : Nat) (s : Int) (w : World) (hn : Hid (n < 256 ^ 8)) :
    Calls Tryd.prog 40 #[.int .u64 (n : Int), .int .i64 s] w fun e w' => RetsOwn2 w.heap.size w' (bigR n s) e ∧ Below w.heap.size w w' := by
  obtain ⟨i0, hi, hz0, hz1, hz2⟩ := info_parts Tryd.info8
  have HP := Lib.hid (padR_big n s hn.out)
  go_enter Tryd.func40, Tryd.ntmps40
  go_wp2
  go_loopw [0, 6, 7] (fun v l i wr => ∃ k : Nat, k ≤ 8 ∧ i = .int .i64 k ∧ v = .int .u64 ((n / 256 ^ k : Nat) : Int) ∧ Own8 5 w.heap.size wr l (bigL n k) ∧ Below w.heap.size w wr) (fun _ _ i _ => 8 - (intOf i).toNat)
  case atStart => exact ⟨0, by omega, rfl, by simp, Own8.nil _ _ _, Below.refl _ _⟩
  case round =>
    obtain ⟨k, hk, rfl, rfl, hown, hb⟩ := hrel
    have hsz := hb.size
    obtain ⟨a1, c1, rfl, hB, hge⟩ := hown.form
    have hlen := bigL_length n k
    have hd := Lib.hid (div_pow n k)
    have hcon : Hid (∀ x : UInt8, x = UInt8.ofNat (n / 256 ^ k % 256) → [x] ++ bigL n k = bigL n (k + 1)) := fun x hx => by rw [hx]; rfl
    have HB := Lib.hid hB
    have HN := Lib.hid (Nat.lt_of_le_of_lt (Nat.div_le_self n (256 ^ k)) hn.out)
    rw [hlen] at *
    clear hge hlen hB
    by_cases hlt : k < 8
    · generalize n / 256 ^ k = v at *
      generalize bigL n k = t at *
      go_wp2_with (at_builtin; go_loud (refine wpList_append_bts _ rfl _ _ 22 rfl w.heap.size 5 i0 Tryd.underlying22 hi hz0 hz1 hz2 _ [UInt8.ofNat (v % 256)] rfl (Own8.one wr 5 _ (by omega) _ _ ?hh) _ _ _ t rfl (HB.out.below ((Below.refl _ _).alloc (Nat.le_refl _) _)) (by simp; omega) (by simp; omega) ?_; rotate_left; intro v' w2 hown2 hgrow))
      case hh => simp [UInt8.toNat_ofNat'] <;> omega
      go_roundw
      case rel => exact ⟨k + 1, by omega, by go_num, by rw [wrap_div v HN.out, hd.out], by rw [← hcon.out _ rfl]; exact hown2, hgrow _ (hb.alloc (by omega) _)⟩
      case measure => simp [intOf] <;> omega
    · obtain rfl : k = 8 := by omega
      go_wp2_with fail
      refine (refpad_any _ _ _ _ _ _ HB.out (by omega)).mono ?_
      rintro e w3 ⟨⟨v3, rfl, ho3⟩, hb3⟩
      go_wp2
      go_ret2
      rw [HP.out] at ho3
      exact ⟨⟨_, by rw [← HP.out]; rfl, ho3.mono hsz⟩, hb.trans (hb3.mono hsz)⟩

end Go.Proofs.YtkmphiakciihfaaDoor

namespace Go.Proofs.YtkmphiakciihfaaDoor
open Go.RowKit

/-- A row that may be written over: empty, or in a block from B on that is not block lb. -/
def LiveRow (B lb : Nat) (w : World) (x : Row2) : Prop :=
  x.2.1 = 0 ∨ ∃ g, x.1 = some ⟨g, 0, none⟩ ∧ B ≤ g ∧ g ≠ lb ∧ x.2.1 ≤ maxLen ∧ ∀ i, i < x.2.1 → ∃ n : Nat, n < 256 ∧ w.cell? ⟨g, i, none⟩ = some (.int .u8 (n : Int)) ∧ w.frozen? ⟨g, i, none⟩ = false

structure Spoils (B : Nat) (w : World) (lb n : Nat) (L : List Row2) : Prop where
  length : L.length = n
  max : n ≤ maxLen
  cells : ∀ i, i < n → w.cell? ⟨lb, i, none⟩ = some (.slice (L[i]?.getD (none, 0, 0, [])).1 (L[i]?.getD (none, 0, 0, [])).2.1 (L[i]?.getD (none, 0, 0, [])).2.2.1)
  live : ∀ i, i < n → LiveRow B lb w (L[i]?.getD (none, 0, 0, []))

theorem cell_after (w : World) (g i g' i' : Nat) (n m : Nat) (hn : n < 256) (hm : m < 256) (h : w.cell? ⟨g', i', none⟩ = some (.int .u8 (n : Int))) :
    ∃ k : Nat, k < 256 ∧ (w.setCell ⟨g, i, none⟩ (.int .u8 (m : Int))).cell? ⟨g', i', none⟩ = some (.int .u8 (k : Int)) := by
  by_cases e : (⟨g', i', none⟩ : Addr) = ⟨g, i, none⟩
  · rw [← e]
    exact ⟨m, hm, World.cell?_setCell_same _ _ _ h⟩
  · exact ⟨n, hn, (World.cell?_setCell_other _ _ _ _ (fun h' => e h'.symm)).trans h⟩

theorem LiveRow.set {B lb : Nat} {w : World} {x : Row2} (h : LiveRow B lb w x) (g i m : Nat) (hm : m < 256) : LiveRow B lb (w.setCell ⟨g, i, none⟩ (.int .u8 (m : Int))) x := by
  rcases h with h | ⟨g', h1, h2, h3, h4, h5⟩
  · exact .inl h
  · refine .inr ⟨g', h1, h2, h3, h4, fun j hj => ?_⟩
    obtain ⟨n, hn, hc, hf⟩ := h5 j hj
    obtain ⟨k, hk, hc'⟩ := cell_after w g i g' j n m hn hm hc
    exact ⟨k, hk, hc', (World.frozen?_setCell _ _ _ _).trans hf⟩

theorem Spoils.set {B : Nat} {w : World} {lb n : Nat} {L : List Row2} (h : Spoils B w lb n L) (g i m : Nat) (hm : m < 256) (hg : g ≠ lb) : Spoils B (w.setCell ⟨g, i, none⟩ (.int .u8 (m : Int))) lb n L :=
  ⟨h.length, h.max, fun j hj => (World.cell?_setCell_other _ _ _ _ (by intro e; cases e; exact hg rfl)).trans (h.cells j hj), fun j hj => (h.live j hj).set g i m hm⟩

theorem Spoils.drew {B : Nat} {w : World} {lb n : Nat} {L : List Row2} (h : Spoils B w lb n L) : Spoils B w.drew lb n L := ⟨h.length, h.max, h.cells, h.live⟩

theorem LiveRow.of_own {E B lb : Nat} {w w' : World} {a : Option Addr} {n cap : Nat} {l : List UInt8} (h : Own8 E B w (.slice a n cap) l) (hb : Below w.heap.size w w') (hlb : w.heap.size ≤ lb) : LiveRow B lb w' (a, n, cap, l) := by
  by_cases h0 : n = 0
  · exact .inl h0
  · obtain ⟨hn, hc, hm⟩ := h.cap
    obtain ⟨g, cap', he⟩ := h.succ (by intro e; subst e; simp at hn; exact h0 hn)
    cases he
    obtain ⟨_, _, _, _, hlt⟩ := h.form
    have hg := World.ownsRow.lt h g rfl
    have h' := h.below hb
    refine .inr ⟨g, rfl, hg.1, by omega, Nat.le_trans hc hm, fun i hi => ⟨_, UInt8.toNat_lt _, h'.cellAt hn i hi, h'.frozenAt hn i⟩⟩

theorem cells3 (w : World) (T : TypeId) (x0 x1 x2 : Row2) : ∀ i, i < 3 → (w.alloc (.cells #[.slice x0.1 x0.2.1 x0.2.2.1, .slice x1.1 x1.2.1 x1.2.2.1, .slice x2.1 x2.2.1 x2.2.2.1] T)).cell? ⟨w.heap.size, i, none⟩ = some (.slice ([x0, x1, x2][i]?.getD (none, 0, 0, [])).1 ([x0, x1, x2][i]?.getD (none, 0, 0, [])).2.1 ([x0, x1, x2][i]?.getD (none, 0, 0, [])).2.2.1) := by
  intro i hi
  rw [World.cell?_alloc_at _ _ _ _ rfl]
  match i, hi with
  | 0, _ => rfl
  | 1, _ => rfl
  | 2, _ => rfl

theorem conv8 {w : World} {a : Option Addr} {len cap : Nat} {l : List UInt8} (h : Bts w a len cap l) :
    (convert 22 9 (.slice a len cap)).run Tryd.prog w = .ok (.string (strOf l)) w :=
  h.convert (P := Tryd.prog) _ _ _ Tryd.underlying22 Tryd.underlying5 Tryd.underlying9

theorem RetsOwn2.form {B : Nat} {w : World} {r : List UInt8 × Int} {e : Ending} (h : RetsOwn2 B w r e) : ∃ a cap, e = .returned (.tuple #[.slice a r.1.length cap, .int .i64 r.2]) ∧ Own8 5 B w (.slice a r.1.length cap) r.1 := by
  obtain ⟨v, rfl, ho⟩ := h
  obtain ⟨a, cap, rfl, _, _⟩ := ho.form
  exact ⟨a, cap, rfl, ho⟩

theorem RetsOwn.form {B : Nat} {w : World} {l : List UInt8} {e : Ending} (h : RetsOwn B w l e) : ∃ a cap, e = .returned (.slice a l.length cap) ∧ Own8 5 B w (.slice a l.length cap) l := by
  obtain ⟨v, rfl, ho⟩ := h
  obtain ⟨a, cap, rfl, _, _⟩ := ho.form
  exact ⟨a, cap, rfl, ho⟩

end Go.Proofs.YtkmphiakciihfaaDoor

namespace Go.Proofs.YtkmphiakciihfaaDoor
open Go.RowKit

theorem run_loadBytes {P : Program} {w : World} (b off len cap : Nat) (l : List UInt8) (h : Bts w (some ⟨b, off, none⟩) len cap l) :
    ∀ (n k : Nat) (acc : ByteArray), k + n = len → (Extern.Bytes.loadBytes ⟨b, off + k, none⟩ n acc).run P w = .ok ⟨acc.data ++ (l.drop k).toArray⟩ w
  | 0, k, acc, hk => by
    rw [List.drop_eq_nil_of_le (by have := h.length; omega)]
    simp [Extern.Bytes.loadBytes, Sem.run_pure]
  | n + 1, k, acc, hk => by
    obtain ⟨b', off', he, hlt, hc⟩ := h.cells (by omega)
    cases he
    have hck := hc k (by omega)
    have hl : k < l.length := by have := h.length; omega
    have e : (⟨b, off + k, none⟩ : Addr).add 1 = ⟨b, off + (k + 1), none⟩ := by unfold Addr.add; split <;> simp_all <;> omega
    have ih := run_loadBytes (P := P) b off len cap l h n (k + 1) (acc.push l[k]) (by omega)
    have hb : ((l[k].toNat : Int)).toNat.toUInt8 = l[k] := by simp
    simp only [Extern.Bytes.loadBytes, Sem.run_bind]
    rw [List.getElem?_eq_getElem hl] at hck
    simp only [Option.getD_some] at hck
    have hrun : (load ⟨b, off + k, none⟩).run P w = .ok (.int .u8 (l[k].toNat : Int)) w := by simp [go_sem, hck]
    rw [hrun]
    simp only [Result.andThen, e, hb, ih]
    rw [List.drop_eq_getElem_cons hl]
    simp [ByteArray.push]

theorem run_bytesOf {P : Program} {w : World} {a : Option Addr} {len cap : Nat} {l : List UInt8} (h : Bts w a len cap l) : (Extern.Bytes.bytesOf (.slice a len cap)).run P w = .ok (strOf l) w := by
  by_cases hp : 0 < len
  · obtain ⟨b, off, rfl, _, _⟩ := h.cells hp
    have := run_loadBytes (P := P) b off len cap l h len 0 .empty (by omega)
    simpa [Extern.Bytes.bytesOf, strOf] using this
  · obtain rfl : len = 0 := by omega
    obtain rfl : l = [] := List.eq_nil_of_length_eq_zero h.length
    cases a with
    | none => rfl
    | some a => rfl

theorem run_compare {P : Program} {w : World} {a1 a2 : Option Addr} {n1 c1 n2 c2 : Nat} {l1 l2 : List UInt8} (h1 : Bts w a1 n1 c1 l1) (h2 : Bts w a2 n2 c2 l2) :
    (Extern.BytealgCompare.compare #[.slice a1 n1 c1, .slice a2 n2 c2]).run P w = .ok (.int .i64 (Lib.compareBytes l1 l2)) w := by
  change Sem.run P (do pure (goInt (Extern.BytealgCompare.cmp (← Extern.Bytes.bytesOf (.slice a1 n1 c1)) (← Extern.Bytes.bytesOf (.slice a2 n2 c2))))) w = _
  simp only [Sem.run_bind, run_bytesOf h1, run_bytesOf h2, Sem.run_pure, Result.andThen, Lib.cmp_eq]
  rfl

theorem compare_step : ∀ (k : Nat) (a b : List UInt8), k < a.length → k < b.length → a.take k = b.take k → Lib.compareBytes a b = if (a[k]?.getD 0).toNat < (b[k]?.getD 0).toNat then -1 else if (b[k]?.getD 0).toNat < (a[k]?.getD 0).toNat then 1 else Lib.compareBytes a b
  | 0, x :: a, y :: b, _, _, _ => by
    simp only [List.getElem?_cons_zero, Option.getD_some, Lib.compareBytes, UInt8.lt_iff_toNat_lt]
    split <;> simp_all
  | k + 1, x :: a, y :: b, ha, hb, he => by
    simp only [List.take_succ_cons, List.cons.injEq] at he
    obtain ⟨rfl, he⟩ := he
    have := compare_step k a b (by simpa using ha) (by simpa using hb) he
    simp only [List.getElem?_cons_succ, Lib.compareBytes, UInt8.lt_irrefl, if_false]
    exact this
  | _, [], _, ha, _, _ => by simp at ha
  | _, _ :: _, [], _, hb, _ => by simp at hb

theorem compare_end : ∀ (a b : List UInt8), a.take (min a.length b.length) = b.take (min a.length b.length) → Lib.compareBytes a b = if a.length < b.length then -1 else if b.length < a.length then 1 else 0
  | [], [], _ => rfl
  | [], _ :: _, _ => by simp [Lib.compareBytes]
  | _ :: _, [], _ => by simp [Lib.compareBytes]
  | x :: a, y :: b, h => by
    simp only [List.length_cons, Nat.succ_min_succ, List.take_succ_cons, List.cons.injEq] at h
    obtain ⟨rfl, h⟩ := h
    have := compare_end a b h
    simp only [Lib.compareBytes, UInt8.lt_irrefl, if_false, List.length_cons, Nat.succ_lt_succ_iff]
    exact this

set_option maxHeartbeats 800000 in
theorem refcmp_any (a1 a2 : Option Addr) (n1 c1 n2 c2 : Nat) (l1 l2 : List UInt8) (w : World) (h1 : Bts w a1 n1 c1 l1) (h2 : Bts w a2 n2 c2 l2) :
    Calls Tryd.prog 46 #[.slice a1 n1 c1, .slice a2 n2 c2] w fun e w' => e = .returned (.int .i64 (Lib.compareBytes l1 l2)) ∧ ∃ d, w' = w.drewN d := by
  have H1 := Lib.hid h1
  have H2 := Lib.hid h2
  have L1 := Lib.hid h1.length
  have L2 := Lib.hid h2.length
  have hm1 := h1.len_le
  have hm2 := h2.len_le
  unfold maxLen at hm1 hm2
  clear h1 h2
  go_enter Tryd.func46, Tryd.ntmps46
  go_wp2
  go_loopw [5] (fun i wr => ∃ k : Nat, k ≤ n1 ∧ k ≤ n2 ∧ i = .int .i64 k ∧ Hid (l1.take k = l2.take k) ∧ ∃ d, wr = w.drewN d) (fun i _ => n1 - (intOf i).toNat)
  case atStart => exact ⟨0, Nat.zero_le _, Nat.zero_le _, rfl, by simp [Hid], 0, rfl⟩
  case round =>
    obtain ⟨k, hk1, hk2, rfl, heq, d, rfl⟩ := hrel
    by_cases hlt : k < n1 ∧ k < n2
    · obtain ⟨hlt1, hlt2⟩ := hlt
      obtain ⟨b1, o1, rfl, _, hc1⟩ := H1.out.cells (by omega)
      obtain ⟨b2, o2, rfl, _, hc2⟩ := H2.out.cells (by omega)
      have hx := hc1 k hlt1
      have hy := hc2 k hlt2
      have hst := Lib.hid (compare_step k l1 l2 (by have := L1.out; omega) (by have := L2.out; omega) heq.out)
      have htk := Lib.hid (fun (e : (l1[k]?.getD 0).toNat = (l2[k]?.getD 0).toNat) => show l1.take (k + 1) = l2.take (k + 1) by
        rw [take_snoc8 l1 k (by have := L1.out; omega), take_snoc8 l2 k (by have := L2.out; omega), heq.out, UInt8.toNat_inj.1 e])
      clear hc1 hc2
      generalize (l1[k]?.getD 0).toNat = x at *
      generalize (l2[k]?.getD 0).toNat = y at *
      by_cases hxy : x < y
      · have hb1 : decide ((x : Int) < (y : Int)) = true := by simp; omega
        go_wp2
        go_quiet (fail)
        go_wp2
        go_ret
        exact ⟨by rw [hst.out, if_pos hxy]; rfl, _, World.drewN_drewN _ _ _⟩
      · by_cases hyx : y < x
        · have hb1 : decide ((x : Int) < (y : Int)) = false := by simp; omega
          have hb2 : decide ((y : Int) < (x : Int)) = true := by simp; omega
          go_wp2
          go_quiet (fail)
          go_wp2
          go_quiet (fail)
          go_wp2
          go_ret
          exact ⟨by rw [hst.out, if_neg hxy, if_pos hyx]; rfl, _, by rw [World.drewN_drewN, World.drewN_drewN]⟩
        · obtain rfl : x = y := by omega
          have hb1 : decide ((x : Int) < (x : Int)) = false := by simp
          go_wp2
          go_quiet (fail)
          go_wp2
          go_quiet (fail)
          go_wp2
          go_roundw
          case rel => exact ⟨k + 1, by omega, by omega, by go_num, htk.out trivial, _, rfl⟩
          case measure => simp [intOf] <;> omega
    · have hend := Lib.hid (compare_end l1 l2 (by rw [L1.out, L2.out, show min n1 n2 = k from by omega]; exact heq.out))
      rw [L1.out, L2.out] at hend
      by_cases h12 : k < n1
      · obtain rfl : k = n2 := by omega
        go_wp2
        go_ret
        exact ⟨by rw [hend.out, if_neg (by omega), if_pos (by omega)]; rfl, d, rfl⟩
      · obtain rfl : k = n1 := by omega
        by_cases h21 : k < n2
        · go_wp2
          go_ret
          exact ⟨by rw [hend.out, if_pos h21]; rfl, d, rfl⟩
        · obtain rfl : k = n2 := by omega
          go_wp2
          go_ret
          exact ⟨by rw [hend.out, if_neg (by omega), if_neg (by omega)]; rfl, d, rfl⟩

/-- Bytes laid over others. -/
def xorL (a b : List UInt8) : List UInt8 := List.zipWith (· ^^^ ·) a b
def xorR (a b : List UInt8) : List UInt8 × Int := if a.length = b.length then (xorL a b, 0) else ([], 2)

theorem xorL_step (a b : List UInt8) (k : Nat) (ha : k < a.length) (hb : k < b.length) : xorL (a.take (k + 1)) (b.take (k + 1)) = xorL (a.take k) (b.take k) ++ [a[k]?.getD 0 ^^^ b[k]?.getD 0] := by
  rw [take_snoc8 a k ha, take_snoc8 b k hb]
  unfold xorL
  rw [List.zipWith_append (by simp; omega)]
  rfl

theorem xor8 (x y : UInt8) : bits BinOp.xor IntKind.u8 (x.toNat : Int) (y.toNat : Int) = ((x ^^^ y).toNat : Int) := by
  rw [u8_xor_nat _ _ (UInt8.toNat_lt x) (UInt8.toNat_lt y), UInt8.toNat_xor]

theorem xor_fill (a b : List UInt8) (n k : Nat) (hk : k < n) (ha : a.length = n) (hb : b.length = n) :
    (xorL (a.take k) (b.take k) ++ List.replicate (n - k) 0).set k (a[k]?.getD 0 ^^^ b[k]?.getD 0) = xorL (a.take (k + 1)) (b.take (k + 1)) ++ List.replicate (n - (k + 1)) 0 := by
  have hl : (xorL (a.take k) (b.take k)).length = k := by simp [xorL]; omega
  rw [xorL_step a b k (by omega) (by omega), List.set_append_right _ _ (by omega), hl, Nat.sub_self, show n - k = n - (k + 1) + 1 from by omega, List.replicate_succ]
  simp

theorem xor_bit (x y k : Nat) : (x ^^^ y) % 2 ^ (k + 1) = (x ^^^ y) % 2 ^ k + if x / 2 ^ k % 2 = y / 2 ^ k % 2 then 0 else 2 ^ k := by
  rw [Nat.mod_pow_succ]
  have h := Nat.testBit_xor x y k
  simp only [Nat.testBit_eq_decide_div_mod_eq] at h
  have hx := Nat.mod_lt (x / 2 ^ k) (show 0 < 2 by decide)
  have hy := Nat.mod_lt (y / 2 ^ k) (show 0 < 2 by decide)
  have hz := Nat.mod_lt ((x ^^^ y) / 2 ^ k) (show 0 < 2 by decide)
  congr 1
  generalize x / 2 ^ k % 2 = p at *
  generalize y / 2 ^ k % 2 = q at *
  generalize (x ^^^ y) / 2 ^ k % 2 = r at *
  have hp : p = 0 ∨ p = 1 := by omega
  have hq : q = 0 ∨ q = 1 := by omega
  have hr : r = 0 ∨ r = 1 := by omega
  rcases hp with rfl | rfl <;> rcases hq with rfl | rfl <;> rcases hr with rfl | rfl <;> simp at h ⊢

theorem bit_test (x y p : Nat) (hx : x < 256) (hy : y < 256) : ((wrap64 ((x : Int) / (p : Int))).tmod 2 != (wrap64 ((y : Int) / (p : Int))).tmod 2) = decide (¬ x / p % 2 = y / p % 2) := by
  have e : ∀ z : Nat, z < 256 → (wrap64 ((z : Int) / (p : Int))).tmod 2 = ((z / p % 2 : Nat) : Int) := fun z hz => by
    have hd := Nat.div_le_self z p
    rw [show (z : Int) / (p : Int) = ((z / p : Nat) : Int) from by simp]
    generalize z / p = q at *
    rw [IntWalk.wrap64_in _ (by omega)]
    rw [Int.tmod_eq_emod_of_nonneg (by omega)]
    simp
  rw [e x hx, e y hy, Bool.eq_iff_iff, bne_iff_ne, decide_eq_true_iff]
  omega

end Go.Proofs.YtkmphiakciihfaaDoor
