/-
  WALKS OF OCTET's Big AND THE REFERENCE's Trim.
-/
import Derived.Test.YtidiapdddkknpaaOct2
namespace Go.Proofs.Ytidiapdddkknpaa
open Go.RowKit

/-- The lowest bytes of a number, so many, the highest first. -/
def bigL (n : Nat) : Nat → List UInt8
  | 0 => []
  | k + 1 => UInt8.ofNat (n / 256 ^ k % 256) :: bigL n k

theorem bigL_length (n k : Nat) : (bigL n k).length = k := by induction k <;> simp [bigL, *]

theorem set_zero_big (n m j : Nat) (hj : j < m) : (List.replicate (m - j) (0 : UInt8) ++ bigL n j).set (m - j - 1) (UInt8.ofNat (n / 256 ^ j % 256)) = List.replicate (m - (j + 1)) (0 : UInt8) ++ bigL n (j + 1) := by
  obtain ⟨d, rfl⟩ : ∃ d, m = d + j + 1 := ⟨m - j - 1, by omega⟩
  rw [show d + j + 1 - j = d + 1 from by omega, show d + 1 - 1 = d from by omega, show d + j + 1 - (j + 1) = d from by omega, List.replicate_succ', List.append_assoc]
  rw [List.set_append_right _ _ (by simp)]
  simp [bigL]

/-- What is handed back with an error's number: it reads as l, in memory of the call's own. -/
def RetsOwn2 (B : Nat) (w' : World) (r : List UInt8 × Int) (e : Ending) : Prop := ∃ v, e = .returned (.tuple #[v, .int .i64 r.2]) ∧ Own8 5 B w' v r.1

def bigR (n : Nat) (s : Int) : List UInt8 × Int := if 0 ≤ s ∧ s ≤ 65536 then (if n < 256 ^ s.toNat then (bigL n s.toNat, 0) else ([], 10)) else ([], 2)

theorem div_pow (n j : Nat) : n / 256 ^ j / 256 = n / 256 ^ (j + 1) := by rw [Nat.div_div_eq_div_mul, Nat.pow_succ]

theorem sized_yes (n : Int) (w : World) (h : 0 ≤ n ∧ n ≤ 65536) : Calls Try.prog 36 #[.int .i64 n] w fun e w' => e = .returned (.bool true) ∧ w = w' :=
  (sized_any n w).mono fun e w' ⟨he, hw⟩ => ⟨by rw [he, decide_eq_true h], hw⟩

theorem sized_no (n : Int) (w : World) (h : ¬ (0 ≤ n ∧ n ≤ 65536)) : Calls Try.prog 36 #[.int .i64 n] w fun e w' => e = .returned (.bool false) ∧ w = w' :=
  (sized_any n w).mono fun e w' ⟨he, hw⟩ => ⟨by rw [he, decide_eq_false h], hw⟩

set_option maxHeartbeats 800000 in
theorem big_any (n : Nat) (s : Int) (w : World) (hn : Hid (n < 256 ^ 8)) :
    Calls Try.prog 16 #[.int .u64 (n : Int), .int .i64 s] w fun e w' => RetsOwn2 w.heap.size w' (bigR n s) e ∧ Below w.heap.size w w' := by
  obtain ⟨i0, hi, hz0, hz1, hz2⟩ := info_parts Try.info8
  by_cases hs : 0 ≤ s ∧ s ≤ 65536
  · obtain ⟨h0, h1⟩ := hs
    obtain ⟨m, rfl⟩ := Int.eq_ofNat_of_zero_le h0
    have hm : m ≤ 65536 := by omega
    clear h0 h1
    go_enter Try.func16, Try.ntmps16
    go_wp2_with (first | (go_at_call 36; refine (sized_yes _ _ (by omega)).mono ?_; rintro e w' ⟨rfl, rfl⟩) | (at_make; refine wpList_make_full _ rfl _ _ 22 rfl w.heap.size 5 i0 (.int .u8 0) 1 Try.underlying22 hi hz0 hz1 _ _ _ _ m rfl rfl rfl rfl (by rw [hz2]; omega) (by unfold maxLen; omega) (Nat.le_refl _) ?_; intro w1 hown hgrow))
    have hown1 : Own8 5 w.heap.size w1 (.slice (some ⟨w.heap.size, 0, none⟩) m m) (List.replicate m 0) := by
      unfold Own8
      rw [← zeros_byt]
      simpa using hown
    have hb1 : Below w.heap.size w w1 := (Below.refl _ _).grown hgrow (Nat.le_refl _) (fun _ h => by cases h)
    clear hown hgrow
    go_loopw [0, 7] (fun v i wr => ∃ r : Nat, r ≤ m ∧ i = .int .i64 ((r : Int) - 1) ∧ v = .int .u64 ((n / 256 ^ (m - r) : Nat) : Int) ∧ Own8 5 w.heap.size wr (.slice (some ⟨w.heap.size, 0, none⟩) m m) (List.replicate r 0 ++ bigL n (m - r)) ∧ Below w.heap.size w wr) (fun _ i _ => (intOf i + 1).toNat)
    case atStart => exact ⟨m, Nat.le_refl _, rfl, by simp, by simpa [bigL] using hown1, hb1⟩
    case round =>
      obtain ⟨r, hr, rfl, rfl, hown, hb⟩ := hrel
      have HO := Lib.hid hown
      cases r with
      | zero =>
        have hsm : 0 ≤ ((m : Nat) : Int) ∧ ((m : Nat) : Int) ≤ 65536 := ⟨by omega, by omega⟩
        have hfit : n / 256 ^ (m - 0) = 0 ↔ n < 256 ^ m := by
          rw [Nat.sub_zero, Nat.div_eq_zero_iff]
          have : 0 < 256 ^ m := Nat.pow_pos (by decide)
          omega
        have Hfit := Lib.hid hfit
        clear hfit
        generalize n / 256 ^ (m - 0) = q at *
        by_cases hq : q = 0
        · subst hq
          have hR : bigR n m = (bigL n m, 0) := by rw [bigR, if_pos hsm, if_pos (by simpa using Hfit.out.1 rfl)]; simp
          have HR := Lib.hid hR
          clear hR hown hsm
          go_wp2
          go_ret2
          exact ⟨⟨_, by rw [HR.out]; rfl, by rw [HR.out]; simpa using HO.out⟩, hb⟩
        · have hR : bigR n m = ([], 10) := by rw [bigR, if_pos hsm, if_neg (fun h => hq (Hfit.out.2 (by simpa using h)))]
          have HR := Lib.hid hR
          have hq1 : ((q : Int) != 0) = true := by simp; omega
          clear hR hown hq hsm
          go_wp2
          go_ret2
          exact ⟨⟨_, by rw [HR.out]; rfl, by rw [HR.out]; exact Own8.nil _ _ _⟩, hb⟩
      | succ q =>
        have hlen : m = (List.replicate (q + 1) (0 : UInt8) ++ bigL n (m - (q + 1))).length := by simp [bigL_length]; omega
        have hcell := hown.cellAt hlen q (by omega)
        have hfr := hown.frozenAt hlen q
        have Hlen := Lib.hid hlen
        clear hlen hown
        generalize hv : n / 256 ^ (m - (q + 1)) = v at *
        have HV := Lib.hid hv
        clear hv
        rw [show (((q + 1 : Nat) : Int) - 1) = (q : Int) from by omega]
        go_wp2
        have hst := HO.out.stored Hlen.out q (UInt8.ofNat (v % 256)) ((v : Int) % 256) (by simp [UInt8.toNat_ofNat'] <;> omega)
        have hset := set_zero_big n m (m - (q + 1)) (by omega)
        rw [HV.out, show m - (m - (q + 1)) = q + 1 from by omega, show q + 1 - 1 = q from by omega, show m - (m - (q + 1) + 1) = q from by omega, show m - (q + 1) + 1 = m - q from by omega] at hset
        rw [hset] at hst
        go_roundw
        case rel => exact ⟨q, by omega, rfl, by rw [show m - q = m - (q + 1) + 1 from by omega, ← div_pow, HV.out, Int.natCast_ediv]; rfl, hst.1, hst.2 _ hb⟩
        case measure => simp [intOf] <;> omega
  · go_enter Try.func16, Try.ntmps16
    go_wp2_with (go_at_call 36; refine (sized_no _ _ hs).mono ?_; rintro e w' ⟨rfl, rfl⟩)
    go_ret2
    exact ⟨⟨_, by rw [bigR, if_neg hs]; rfl, by rw [bigR, if_neg hs]; exact Own8.nil _ _ _⟩, Below.refl _ _⟩

set_option maxHeartbeats 400000 in
theorem reftrim_any (a : Option Addr) (len cap : Nat) (l : List UInt8) (w : World) (h : Bts w a len cap l) (hm : len ≤ 140737488355328) :
    Calls Try.prog 23 #[.slice a len cap] w fun e w' => RetsOwn w.heap.size w' (bareL l) e ∧ Below w.heap.size w w' := by
  obtain ⟨i0, hi, hz0, hz1, hz2⟩ := info_parts Try.info8
  have H := Lib.hid h
  have hl := Lib.hid h.length
  have hle := h.le
  have hcm := Lib.hid h.max
  have hnl := Lib.hid h.nil
  clear h
  go_enter Try.func23, Try.ntmps23
  go_wp2
  go_loop [3] (fun i => ∃ k : Nat, k ≤ len ∧ i = .int .i64 k ∧ Hid (bareL l = bareL (l.drop k))) (fun i => len - (intOf i).toNat)
  case atStart => exact ⟨0, Nat.zero_le _, rfl, by simp [Hid]⟩
  case round =>
    obtain ⟨k, hk, rfl, hrest⟩ := hrel
    by_cases hlt : k < len
    · obtain ⟨b, off, rfl, hbl, hc⟩ := H.out.cells (by omega)
      have hck := hc k hlt
      have hst := Lib.hid (bareL_step l k (by have := hl.out; omega))
      clear hc
      generalize hx : (l[k]?.getD 0).toNat = x at *
      clear hx
      by_cases hx0 : x = 0
      · subst hx0
        go_wp2
        go_round
        case rel => exact ⟨k + 1, by omega, by go_num, by have := hst.out; rw [if_pos rfl] at this; unfold Hid; rw [hrest.out, this]⟩
        case measure => simp [intOf] <;> omega
      · have hx1 : ((x : Int) == 0) = false := by simp; omega
        have hD := Lib.hid (H.out.drop hlt)
        have hdl : (l.drop k).length ≤ 140737488355328 := by have := hl.out; simp; omega
        have e := Lib.hid (show bareL l = l.drop k by have := hst.out; rw [if_neg hx0] at this; rw [hrest.out, this])
        go_wp2_with (at_builtin; refine wpList_append_bts _ rfl _ _ 22 rfl w.heap.size 5 i0 Try.underlying22 hi hz0 hz1 hz2 _ [] rfl (Own8.nil w _ _) _ _ _ (l.drop k) rfl hD.out (by simp; omega) (Nat.le_refl _) ?_; intro v' w1 hown hgrow)
        go_ret
        rw [e.out]
        exact ⟨⟨_, rfl, hown⟩, hgrow _ (Below.refl _ _)⟩
    · obtain rfl : k = len := by omega
      have e := Lib.hid (show bareL l = [] by rw [hrest.out, List.drop_eq_nil_of_le (by have := hl.out; omega)]; rfl)
      have hE := Lib.hid fun a' (ha : a' = none → cap - k = 0) => Bts.empty w a' (cap - k) (by have := hcm.out; omega) ha
      go_wp2_with (at_builtin; refine wpList_append_bts _ rfl _ _ 22 rfl w.heap.size 5 i0 Try.underlying22 hi hz0 hz1 hz2 _ [] rfl (Own8.nil w _ _) _ _ _ [] rfl (hE.out _ ?h1) (by simp) (Nat.le_refl _) ?_; rotate_left; intro v' w1 hown hgrow)
      all_goals first | (exact fun h => by rw [hnl.out h]; omega) | (go_ret; rw [e.out]; exact ⟨⟨_, rfl, hown⟩, hgrow _ (Below.refl _ _)⟩)

def padR (l : List UInt8) (s : Int) : List UInt8 × Int := if 0 ≤ s ∧ s ≤ 65536 then (if (bareL l).length ≤ s.toNat then (List.replicate (s.toNat - (bareL l).length) 0 ++ bareL l, 0) else ([], 10)) else ([], 2)

theorem padR_no {l : List UInt8} {s : Int} (h : ¬ (0 ≤ s ∧ s ≤ 65536)) : padR l s = ([], 2) := by rw [padR, if_neg h]
theorem padR_long {l : List UInt8} {m : Nat} (h : m ≤ 65536) (h2 : m < (bareL l).length) : padR l m = ([], 10) := by rw [padR, if_pos ⟨by omega, by omega⟩, if_neg (by simp; omega)]
theorem padR_yes {l : List UInt8} {m : Nat} (h : m ≤ 65536) (h2 : (bareL l).length ≤ m) : padR l m = (List.replicate (m - (bareL l).length) 0 ++ bareL l, 0) := by rw [padR, if_pos ⟨by omega, by omega⟩, if_pos (by simpa using h2)]; simp

set_option maxHeartbeats 800000 in
theorem refpad_any (a : Option Addr) (len cap : Nat) (l : List UInt8) (s : Int) (w : World) (h : Bts w a len cap l) (hm : len ≤ 70368744177664) :
    Calls Try.prog 21 #[.slice a len cap, .int .i64 s] w fun e w' => RetsOwn2 w.heap.size w' (padR l s) e ∧ Below w.heap.size w w' := by
  obtain ⟨i0, hi, hz0, hz1, hz2⟩ := info_parts Try.info8
  have hT := reftrim_any a len cap l w h (by omega)
  have hbl : (bareL l).length ≤ 70368744177664 := by have := bareL_le l; have := h.length; omega
  by_cases hs0 : s < 0
  · have e := Lib.hid (padR_no (l := l) (s := s) (by omega))
    clear hT h
    go_enter Try.func21, Try.ntmps21
    go_wp2
    go_ret2
    exact ⟨⟨_, by rw [e.out]; rfl, by rw [e.out]; exact Own8.nil _ _ _⟩, Below.refl _ _⟩
  by_cases hs1 : 65536 < s
  · have e := Lib.hid (padR_no (l := l) (s := s) (by omega))
    clear hT h
    go_enter Try.func21, Try.ntmps21
    go_wp2
    go_ret2
    exact ⟨⟨_, by rw [e.out]; rfl, by rw [e.out]; exact Own8.nil _ _ _⟩, Below.refl _ _⟩
  obtain ⟨m, rfl⟩ := Int.eq_ofNat_of_zero_le (show 0 ≤ s by omega)
  have hms : m ≤ 65536 := by omega
  by_cases hlong : m < (bareL l).length
  · have e := Lib.hid (padR_long (l := l) hms hlong)
    clear h hs0 hs1
    go_enter Try.func21, Try.ntmps21
    go_wp2_with fail
    refine hT.mono ?_
    rintro e w1 ⟨⟨v, rfl, ho⟩, hb⟩
    obtain ⟨a1, c1, rfl, hB, hge⟩ := ho.form
    clear hT
    go_wp2
    go_ret2
    exact ⟨⟨_, by rw [e.out]; rfl, by rw [e.out]; exact Own8.nil _ _ _⟩, hb⟩
  · have e := Lib.hid (padR_yes (l := l) hms (by omega))
    clear h hs0 hs1
    go_enter Try.func21, Try.ntmps21
    go_wp2_with fail
    refine hT.mono ?_
    rintro e w1 ⟨⟨v, rfl, ho⟩, hb⟩
    obtain ⟨a1, c1, rfl, hB, hge⟩ := ho.form
    clear hT
    generalize bareL l = t at *
    have HO := Lib.hid ho
    have HB := Lib.hid hB
    clear ho hB hge
    go_wp2
    go_loopw [7, 8] (fun v i wr => ∃ k : Nat, t.length ≤ k ∧ k ≤ m ∧ i = .int .i64 k ∧ Own8 5 w1.heap.size wr v (List.replicate (k - t.length) 0) ∧ Below w1.heap.size w1 wr) (fun _ i _ => m - (intOf i).toNat)
    case atStart => exact ⟨t.length, Nat.le_refl _, by omega, rfl, by simpa using Own8.nil _ _ _, Below.refl _ _⟩
    case round =>
      obtain ⟨k, hk1, hk2, rfl, hown, hb2⟩ := hrel
      have hsz := hb2.size
      by_cases hlt : k < m
      · go_wp2_with (at_builtin; (refine wpList_append_bts _ rfl _ _ 22 rfl w1.heap.size 5 i0 Try.underlying22 hi hz0 hz1 hz2 _ (List.replicate (k - t.length) 0) rfl (hown.alloc _) _ _ _ [0] rfl (Bts.one wr _ 0 0 rfl) (by simp; omega) (by simp; omega) ?_; intro v' w2 hown2 hgrow))
        go_roundw
        case rel => exact ⟨k + 1, by omega, by omega, by go_num, by rw [show k + 1 - t.length = k - t.length + 1 from by omega, List.replicate_succ']; exact hown2, hgrow _ (hb2.alloc (by omega) _)⟩
        case measure => simp [intOf] <;> omega
      · obtain rfl : k = m := by omega
        go_wp2_with (at_builtin; (refine wpList_append_bts _ rfl _ _ 22 rfl w1.heap.size 5 i0 Try.underlying22 hi hz0 hz1 hz2 _ (List.replicate (k - t.length) 0) rfl hown _ _ _ t rfl (HB.out.below hb2) (by simp; omega) (by omega) ?_; intro v' w2 hown2 hgrow))
        go_ret2
        exact ⟨⟨_, by rw [e.out]; rfl, by rw [e.out]; exact hown2.mono hb.size⟩, hb.trans ((hgrow _ hb2).mono hb.size)⟩

end Go.Proofs.Ytidiapdddkknpaa
