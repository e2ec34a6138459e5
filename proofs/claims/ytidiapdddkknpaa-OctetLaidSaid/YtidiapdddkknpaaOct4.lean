/-
  WALKS OF OCTET's Join AND Pad, OF THE REFERENCE's Big, AND OF THE LAW's spoil.
-/
import Derived.Test.YtidiapdddkknpaaOct3
namespace Go.Proofs.Ytidiapdddkknpaa
open Go.RowKit

abbrev Row2 := Option Addr × Nat × Nat × List UInt8

/-- All bytes of the first k rows. -/
def joined (L : List Row2) : List UInt8 := L.flatMap (·.2.2.2)

theorem joined_step (L : List Row2) (k : Nat) (hk : k < L.length) : joined (L.take (k + 1)) = joined (L.take k) ++ (L[k]?.getD (none, 0, 0, [])).2.2.2 := by
  have e : L.take (k + 1) = L.take k ++ [L[k]] := by rw [List.take_add_one, List.getElem?_eq_getElem hk]; rfl
  rw [e, List.getElem?_eq_getElem hk]
  unfold joined
  rw [List.flatMap_append, List.flatMap_singleton]
  rfl

theorem joined_le (L : List Row2) (k : Nat) : (joined (L.take k)).length ≤ (joined L).length := by
  have e : (joined L).length = (joined (L.take k ++ L.drop k)).length := by rw [List.take_append_drop]
  unfold joined at *
  rw [List.flatMap_append, List.length_append] at e
  omega

set_option maxHeartbeats 800000 in
theorem join_any (a : Option Addr) (n cap : Nat) (L : List Row2) (w : World) (h : Rows2 w a n cap L) (hm : (joined L).length ≤ 140737488355328) :
    Calls Try.prog 29 #[.slice a n cap] w fun e w' => RetsOwn w.heap.size w' (joined L) e ∧ Below w.heap.size w w' := by
  obtain ⟨i0, hi, hz0, hz1, hz2⟩ := info_parts Try.info8
  have H := Lib.hid h
  have hl := Lib.hid h.length
  have hmn := h.max
  unfold maxLen at hmn
  clear h
  go_enter Try.func29, Try.ntmps29
  go_wp2
  go_loop [3, 11] (fun s i => ∃ k : Nat, k ≤ n ∧ i = .int .i64 k ∧ s = .int .i64 ((joined (L.take k)).length : Nat)) (fun _ i => n - (intOf i).toNat)
  case atStart => exact ⟨0, Nat.zero_le _, rfl, rfl⟩
  case round =>
    obtain ⟨k, hk, rfl, rfl⟩ := hrel
    by_cases hlt : k < n
    · obtain ⟨b, off, rfl, hbl, hc⟩ := H.out.cells (by omega)
      have hck := hc k hlt
      have hat := H.out.at k hlt
      have hst := joined_step L k (by have := hl.out; omega)
      have hst2 := Lib.hid (show (joined (L.take (k + 1))).length = (joined (L.take k)).length + (L[k]?.getD (none, 0, 0, [])).2.1 by rw [hst, List.length_append, hat.length])
      have hjl := joined_le L (k + 1)
      rw [hst2.out] at hjl
      clear hc hst hat
      generalize (L[k]?.getD (none, 0, 0, [])) = r at *
      obtain ⟨ra, rl, rc, rb⟩ := r
      simp only at hck hst2 hjl
      generalize hJ : (joined L).length = J at *
      clear hJ
      generalize (joined (L.take k)).length = jk at *
      go_wp2
      go_round
      case rel => exact ⟨k + 1, by omega, by go_num, by rw [hst2.out]; go_num⟩
      case measure => simp [intOf] <;> omega
    · obtain rfl : k = n := by omega
      have eJ : (joined (L.take k)).length = (joined L).length := by rw [List.take_of_length_le (by have := hl.out; omega)]
      rw [eJ]
      generalize hJ : (joined L).length = J at *
      have HJ := Lib.hid hJ
      clear hJ eJ
      go_wp2_with (at_make; refine wpList_make_own _ rfl _ _ 22 rfl w.heap.size 5 i0 (.int .u8 0) 1 Try.underlying22 hi hz0 hz1 _ _ _ J rfl rfl rfl (by rw [hz2]; omega) (by unfold maxLen; omega) (Nat.le_refl _) ?_; intro w1 hown0 hgrow0)
      have hb0 : Below w.heap.size w w1 := (Below.refl _ _).grown hgrow0 (Nat.le_refl _) (fun _ h => by cases h)
      clear hgrow0
      have HO := Lib.hid hown0
      clear hown0
      go_loopw [6, 24] (fun v i wr => ∃ k' : Nat, k' ≤ k ∧ i = .int .i64 k' ∧ Own8 5 w.heap.size wr v (joined (L.take k')) ∧ Below w.heap.size w wr) (fun _ i _ => k - (intOf i).toNat)
      case atStart => exact ⟨0, Nat.zero_le _, rfl, HO.out, hb0⟩
      case round =>
        obtain ⟨q, hq, rfl, hown, hb⟩ := hrel
        have hsz := hb.size
        by_cases hlq : q < k
        · obtain ⟨b, off, rfl, hbl, hc⟩ := (H.out.below hb).cells (by omega)
          have hck := hc q hlq
          have hat := (H.out.below hb).at q hlq
          have hst := Lib.hid (joined_step L q (by have := hl.out; omega))
          have hjl := joined_le L (q + 1)
          rw [hst.out, List.length_append, hat.length, HJ.out] at hjl
          clear hc
          generalize (L[q]?.getD (none, 0, 0, [])) = r at *
          obtain ⟨ra, rl, rc, rb⟩ := r
          simp only at hck hst hjl hat
          have HA := Lib.hid hat
          clear hat
          go_wp2_with (at_builtin; refine wpList_append_bts _ rfl _ _ 22 rfl w.heap.size 5 i0 Try.underlying22 hi hz0 hz1 hz2 _ (joined (L.take q)) rfl hown _ _ _ rb rfl HA.out (by omega) (by omega) ?_; intro v' w2 hown2 hgrow)
          go_roundw
          case rel => exact ⟨q + 1, by omega, by go_num, by rw [hst.out]; exact hown2, hgrow _ hb⟩
          case measure => simp [intOf] <;> omega
        · obtain rfl : q = k := by omega
          go_wp2
          go_ret
          rw [List.take_of_length_le (by have := hl.out; omega)] at hown
          exact ⟨⟨_, rfl, hown⟩, hb⟩

/-- A list of slices that has just been laid. -/
theorem rows2_lit2 (w : World) (T : TypeId) (a1 a2 : Option Addr) (n1 c1 n2 c2 : Nat) (l1 l2 : List UInt8) (h1 : Bts w a1 n1 c1 l1) (h2 : Bts w a2 n2 c2 l2) :
    Rows2 (w.alloc (.cells #[.slice a1 n1 c1, .slice a2 n2 c2] T)) (some ⟨w.heap.size, 0, none⟩) 2 2 [(a1, n1, c1, l1), (a2, n2, c2, l2)] := by
  refine ⟨rfl, by unfold maxLen; omega, fun _ => ⟨w.heap.size, 0, rfl, by simp, fun i hi => ?_⟩, fun x hx => ?_⟩
  · rw [World.cell?_alloc_at _ _ _ _ rfl]
    match i, hi with
    | 0, _ => rfl
    | 1, _ => rfl
  · have hb : Below w.heap.size w (w.alloc (.cells #[.slice a1 n1 c1, .slice a2 n2 c2] T)) := (Below.refl _ _).alloc (Nat.le_refl _) _
    rcases List.mem_cons.1 hx with rfl | hx
    · exact h1.below hb
    · obtain rfl := List.mem_singleton.1 hx
      exact h2.below hb

set_option maxHeartbeats 800000 in
theorem pad_any (a : Option Addr) (len cap : Nat) (l : List UInt8) (s : Int) (w : World) (h : Bts w a len cap l) :
    Calls Try.prog 20 #[.slice a len cap, .int .i64 s] w fun e w' => RetsOwn2 w.heap.size w' (padR l s) e ∧ Below w.heap.size w w' := by
  obtain ⟨i0, hi, hz0, hz1, hz2⟩ := info_parts Try.info8
  have hT := bare_any a len cap l w h
  clear h
  by_cases hs : 0 ≤ s ∧ s ≤ 65536
  · obtain ⟨m, rfl⟩ := Int.eq_ofNat_of_zero_le hs.1
    have hms : m ≤ 65536 := by omega
    have hY := fun W => sized_yes (m : Int) W hs
    clear hs
    by_cases hlong : m < (bareL l).length
    · have e := Lib.hid (padR_long (l := l) hms hlong)
      go_enter Try.func20, Try.ntmps20
      go_wp2_with (first | (go_at_call 36; refine (hY _).mono ?_; rintro e w' ⟨rfl, rfl⟩) | (go_at_call 37; refine hT.mono ?_; rintro e w1 ⟨⟨a', c', rfl, hr⟩, rfl⟩))
      go_ret2
      exact ⟨⟨_, by rw [e.out]; rfl, by rw [e.out]; exact Own8.nil _ _ _⟩, Below.refl _ _⟩
    · have e := Lib.hid (padR_yes (l := l) hms (by omega))
      have hle : (bareL l).length ≤ m := by omega
      generalize bareL l = t at *
      go_enter Try.func20, Try.ntmps20
      go_wp2_with (first | (go_at_call 36; refine (hY _).mono ?_; rintro e w' ⟨rfl, rfl⟩) | (go_at_call 37; refine hT.mono ?_; rintro e w1 ⟨⟨a', c', rfl, hr⟩, rfl⟩; have HR := Lib.hid hr; clear hr hT) | (at_make; refine wpList_make_full _ rfl _ _ 22 rfl w.heap.size 5 i0 (.int .u8 0) 1 Try.underlying22 hi hz0 hz1 _ _ _ _ (m - t.length) rfl rfl (by omega) (by omega) (by rw [hz2]; omega) (by unfold maxLen; omega) (Nat.le_refl _) ?_; intro w1 hown hgrow))
      have hown1 : Own8 5 w.heap.size w1 (.slice (some ⟨w.heap.size, 0, none⟩) (m - t.length) (m - t.length)) (List.replicate (m - t.length) 0) := by
        unfold Own8
        rw [← zeros_byt]
        simpa using hown
      have hb1 : Below w.heap.size w w1 := (Below.refl _ _).grown hgrow (Nat.le_refl _) (fun _ h => by cases h)
      refine (join_any _ _ _ [(some ⟨w.heap.size, 0, none⟩, m - t.length, m - t.length, List.replicate (m - t.length) 0), (a', t.length, c', t)] _ (rows2_lit2 w1 22 _ _ _ _ _ _ _ _ hown1.bts (HR.out.below hb1)) (by simp [joined]; omega)).mono ?_
      rintro e2 w2 ⟨⟨v, rfl, ho⟩, hb2⟩
      have hsz := hb1.size
      go_wp2
      go_ret2
      have ho2 : Own8 5 (w1.heap.size + 1) w2 v (List.replicate (m - t.length) 0 ++ t) := by simpa [joined] using ho
      exact ⟨⟨_, by rw [e.out]; rfl, by rw [e.out]; exact ho2.mono (by omega)⟩, (hb1.alloc hsz _).trans (hb2.mono (by simp; omega))⟩
  · have e := Lib.hid (padR_no (l := l) hs)
    have hN := fun W => sized_no s W hs
    clear hs
    go_enter Try.func20, Try.ntmps20
    go_wp2_with (go_at_call 36; refine (hN _).mono ?_; rintro e w' ⟨rfl, rfl⟩)
    go_ret2
    exact ⟨⟨_, by rw [e.out]; rfl, by rw [e.out]; exact Own8.nil _ _ _⟩, Below.refl _ _⟩

theorem bigL_val (n k : Nat) : wholeL (bigL n k) = n % 256 ^ k := by
  induction k with
  | zero => simp [bigL, wholeL, Nat.mod_one]
  | succ k ih =>
    have h := wholeL_append [UInt8.ofNat (n / 256 ^ k % 256)] (bigL n k)
    rw [show [UInt8.ofNat (n / 256 ^ k % 256)] ++ bigL n k = bigL n (k + 1) from rfl, bigL_length, ih] at h
    have h1 : wholeL [UInt8.ofNat (n / 256 ^ k % 256)] = n / 256 ^ k % 256 := by simp [wholeL, UInt8.toNat_ofNat']
    rw [h, h1, Nat.pow_succ, Nat.mod_mul, Nat.mul_comm]
    omega

theorem wholeL_inj : ∀ (l m : List UInt8), l.length = m.length → wholeL l = wholeL m → l = m
  | [], [], _, _ => rfl
  | [], _ :: _, h, _ => by simp at h
  | _ :: _, [], h, _ => by simp at h
  | c :: l, d :: m, h, e => by
    have hl : l.length = m.length := by simpa using h
    have h1 := wholeL_append [c] l
    have h2 := wholeL_append [d] m
    have h3 : wholeL [c] = c.toNat := by simp [wholeL]
    have h4 : wholeL [d] = d.toNat := by simp [wholeL]
    have h5 := wholeL_lt l
    have h6 := wholeL_lt m
    rw [show [c] ++ l = c :: l from rfl, h3] at h1
    rw [show [d] ++ m = d :: m from rfl, h4, ← e, h1, ← hl] at h2
    rw [← hl] at h6
    have hp : 0 < 256 ^ l.length := Nat.pow_pos (by decide)
    have hcd : c.toNat = d.toNat := by
      have a1 := congrArg (· / 256 ^ l.length) h2
      simp only [Nat.mul_comm _ (256 ^ l.length), Nat.mul_add_div hp, Nat.div_eq_of_lt h5, Nat.div_eq_of_lt h6] at a1
      omega
    obtain rfl := UInt8.toNat_inj.1 hcd
    rw [wholeL_inj l m hl (by omega)]

theorem wholeL_zeros (k : Nat) (l : List UInt8) : wholeL (List.replicate k 0 ++ l) = wholeL l := by
  have h : wholeL (List.replicate k 0) = 0 := by
    induction k with
    | zero => rfl
    | succ k ih => rw [List.replicate_succ', wholeL_snoc, ih]; rfl
  rw [wholeL_append, h]
  omega

theorem bare_len_iff (l : List UInt8) (k : Nat) : (bareL l).length ≤ k ↔ wholeL l < 256 ^ k := by
  rw [← wholeL_bare]
  constructor
  · intro h
    exact Nat.lt_of_lt_of_le (wholeL_lt _) (Nat.pow_le_pow_right (by decide) h)
  · intro h
    cases hb : bareL l with
    | nil => simp
    | cons c m =>
      rw [hb] at h
      have h1 := wholeL_ge c m (bareL_head l c m hb)
      have h2 : 256 ^ m.length < 256 ^ k := by omega
      have := (Nat.pow_lt_pow_iff_right (by decide : 1 < 256)).1 h2
      simp
      omega

/-- A number's bytes are the padded bytes of its eight. -/
theorem padR_big (n : Nat) (s : Int) (hn : n < 256 ^ 8) : padR (bigL n 8) s = bigR n s := by
  unfold padR bigR
  by_cases hs : 0 ≤ s ∧ s ≤ 65536
  · rw [if_pos hs, if_pos hs]
    have hv : wholeL (bigL n 8) = n := by rw [bigL_val, Nat.mod_eq_of_lt hn]
    have hiff := bare_len_iff (bigL n 8) s.toNat
    rw [hv] at hiff
    by_cases hf : n < 256 ^ s.toNat
    · rw [if_pos hf, if_pos (hiff.2 hf)]
      congr 1
      apply wholeL_inj
      · have := hiff.2 hf
        simp [bigL_length]
        omega
      · rw [wholeL_zeros, wholeL_bare, hv, bigL_val, Nat.mod_eq_of_lt hf]
    · rw [if_neg hf, if_neg (fun h => hf (hiff.1 h))]
  · rw [if_neg hs, if_neg hs]

theorem wrap_div (v : Nat) (h : v < 256 ^ 8) : IntKind.u64.wrap ((v : Int) / 256) = ((v / 256 : Nat) : Int) := by
  simp only [IntKind.wrap, IntKind.bits, IntKind.signed]
  simp
  omega

set_option maxRecDepth 100000 in
set_option maxHeartbeats 800000 in
theorem refbig_any (n : Nat) (s : Int) (w : World) (hn : Hid (n < 256 ^ 8)) :
    Calls Try.prog 17 #[.int .u64 (n : Int), .int .i64 s] w fun e w' => RetsOwn2 w.heap.size w' (bigR n s) e ∧ Below w.heap.size w w' := by
  obtain ⟨i0, hi, hz0, hz1, hz2⟩ := info_parts Try.info8
  have HP := Lib.hid (padR_big n s hn.out)
  go_enter Try.func17, Try.ntmps17
  go_wp2
  go_loopw [0, 6, 7] (fun v l i wr => ∃ k : Nat, k ≤ 8 ∧ i = .int .i64 k ∧ v = .int .u64 ((n / 256 ^ k : Nat) : Int) ∧ Own8 5 w.heap.size wr l (bigL n k) ∧ Below w.heap.size w wr) (fun _ _ i _ => 8 - (intOf i).toNat)
  case atStart => exact ⟨0, by omega, rfl, by simp, Own8.nil _ _ _, Below.refl _ _⟩
  case round =>
    obtain ⟨k, hk, rfl, rfl, hown, hb⟩ := hrel
    have hsz := hb.size
    obtain ⟨a1, c1, rfl, hB, hge⟩ := hown.form
    have hlen := bigL_length n k
    have hd := Lib.hid (div_pow n k)
    have hcon : Hid (∀ x : UInt8, x = UInt8.ofNat (n / 256 ^ k % 256) → [x] ++ bigL n k = bigL n (k + 1)) := fun x hx => by rw [hx]; rfl
    have HB := Lib.hid hB
    have HN := Lib.hid (Nat.lt_of_le_of_lt (Nat.div_le_self n (256 ^ k)) hn.out)
    rw [hlen] at *
    clear hge hlen hB
    by_cases hlt : k < 8
    · generalize n / 256 ^ k = v at *
      generalize bigL n k = t at *
      go_wp2_with (at_builtin; go_loud (refine wpList_append_bts _ rfl _ _ 22 rfl w.heap.size 5 i0 Try.underlying22 hi hz0 hz1 hz2 _ [UInt8.ofNat (v % 256)] rfl (Own8.one wr 5 _ (by omega) _ _ ?hh) _ _ _ t rfl (HB.out.below ((Below.refl _ _).alloc (Nat.le_refl _) _)) (by simp; omega) (by simp; omega) ?_; rotate_left; intro v' w2 hown2 hgrow))
      case hh => simp [UInt8.toNat_ofNat'] <;> omega
      go_roundw
      case rel => exact ⟨k + 1, by omega, by go_num, by rw [wrap_div v HN.out, hd.out], by rw [← hcon.out _ rfl]; exact hown2, hgrow _ (hb.alloc (by omega) _)⟩
      case measure => simp [intOf] <;> omega
    · obtain rfl : k = 8 := by omega
      go_wp2_with fail
      refine (refpad_any _ _ _ _ _ _ HB.out (by omega)).mono ?_
      rintro e w3 ⟨⟨v3, rfl, ho3⟩, hb3⟩
      go_wp2
      go_ret2
      rw [HP.out] at ho3
      exact ⟨⟨_, by rw [← HP.out]; rfl, ho3.mono hsz⟩, hb.trans (hb3.mono hsz)⟩

end Go.Proofs.Ytidiapdddkknpaa
