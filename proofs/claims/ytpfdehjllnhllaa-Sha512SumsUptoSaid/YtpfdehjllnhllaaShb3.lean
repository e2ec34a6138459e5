/-
  SHA-512: a state that took bytes in pieces. (Written by wip/gen_shb.py.)
-/
import Derived.Test.YtpfdehjllnhllaaShbQ
namespace Go.Proofs.Ytpfdehjllnhllaa
open Go.RowKit Go.Shelf

theorem StateOf.lt {w : World} {g bt : Nat} {m : List Nat} (h : StateOf w g bt m) : g < w.heap.size := by
  obtain ⟨ws, tail, h, -⟩ := h
  exact h.lt
theorem StateOf.below {w w' : World} {g bt B : Nat} {m : List Nat} (h : StateOf w g bt m) (hb : Below B w w') (hg : g < B) : StateOf w' g bt m := by
  obtain ⟨ws, tail, h, k⟩ := h
  exact ⟨ws, tail, h.below hb hg, k⟩
theorem reads_block {q : IntKind} {w : World} {a : Option Addr} {n c : Nat} {l : List Nat} (h : Reads q w a n c l) {g : Nat} (hg : w.heap.size ≤ g) : 0 < n → ∀ ad, a = some ad → ad.block ≠ g := fun hp ad e => by
  subst e
  obtain ⟨b, off, e, hlt, -⟩ := h.cells hp
  cases e
  show b ≠ g
  omega
theorem below_on {w x y : World} (h : Below w.heap.size w x) (k : Below x.heap.size x y) : Below w.heap.size w y := h.trans (k.mono h.size)
theorem byt_drop {l : List Nat} (h : Byt l) (k : Nat) : Byt (l.drop k) := fun x hx => h x (List.mem_of_mem_drop hx)
theorem byt_take {l : List Nat} (h : Byt l) (k : Nat) : Byt (l.take k) := fun x hx => h x (List.mem_of_mem_take hx)

set_option maxHeartbeats 4000000 in
theorem state384_any (ask : Bool) (a a2 : Option Addr) (n c n2 c2 : Nat) (l l2 : List Nat) (w : World) (hr : Reads .u8 w a n c l) (hl : Byt l) (hn : n ≤ 10000) (hr2 : Reads .u8 w a2 n2 c2 l2) (hl2 : Byt l2) :
    Calls Try.prog 17 #[.bool false, .slice a n c, .slice a2 n2 c2, .bool ask] w fun e w' => e = .returned (.pointer (some ⟨w.heap.size, 0, none⟩)) ∧ StateOf w' w.heap.size 384 l ∧ Below w.heap.size w w' := by
  have HR := Lib.hid hr
  have HR2 := Lib.hid hr2
  have HL := Lib.hid hl
  have HL2 := Lib.hid hl2
  have hmx := hr2.len_le
  have hnl := Lib.hid hr.length
  unfold maxLen at hmx
  clear hr hr2 hl hl2
  go_enter Try.func17, Try.ntmps17
  go_wp2_with fail
  refine (new384_any w).mono ?_
  rintro e w1 ⟨rfl, hs1, hb1⟩
  have HS1 := Lib.hid hs1
  have HB1 := Lib.hid hb1
  clear hs1 hb1
  go_wp2_with fail
  go_loopw [1, 24] (fun bv iv wq => ∃ (i s m c' : Nat) (a' : Option Addr), bv = .slice a' m c' ∧ iv = .int .i64 (i : Int) ∧ i ≤ n2 ∧ m ≤ 10000 ∧ Hid (s + m = n ∧ Reads .u8 w a' m c' (l.drop s) ∧ StateOf wq w.heap.size 384 (l.take s) ∧ Below w.heap.size w wq)) (fun _ iv _ => n2 - (intOf iv).toNat)
  case atStart => exact ⟨0, 0, n, c, a, rfl, rfl, Nat.zero_le _, hn, by omega, HR.out, HS1.out, HB1.out⟩
  case round =>
    obtain ⟨i, s, m, c', a', rfl, rfl, hi, hm, hI⟩ := hrel
    by_cases hlt : i < n2
    · obtain ⟨b2, off2, rfl, hbk2, hc2⟩ := (HR2.out.below hI.out.2.2.2).cells (by omega)
      have hck := hc2 i hlt
      have hx : g0 l2 i < 256 := g0_lt HL2.out (by decide) i
      unfold g0 at hx
      clear hc2
      generalize l2[i]?.getD 0 = x at *
      have hle := hI.out.2.1.le
      have hcx := hI.out.2.1.max
      unfold maxLen at hcx
      by_cases hmx2 : m < x
      · by_cases hck : c' = m
        · have hup := hI.out.2.1.upto m (by omega)
          have hfr := hI.out.2.1.from' m (by omega)
          have hck2 := hck.symm; clear hck; subst hck2; rw [if_pos rfl, Nat.sub_self] at hfr
          rw [List.drop_drop] at hfr
          have HUP := Lib.hid hup
          have HFR := Lib.hid hfr
          clear hup hfr
          go_wp2_with fail
          refine (write_any w.heap.size 384 (l.take s) ((l.drop s).take m) _ _ _ wr hI.out.2.2.1 (by decide) (HUP.out.below hI.out.2.2.2) (byt_take (byt_drop HL.out s) m) (by have := hI.out.1; simp; omega) (reads_block HUP.out (Nat.le_refl _))).mono ?_
          rintro e w2 ⟨rfl, hs2, hg2⟩
          rw [← List.take_add] at hs2
          have HS2 := Lib.hid hs2
          have HB2 := Lib.hid (hI.out.2.2.2.grown hg2 hI.out.2.2.2.size (fun r e => by cases e; exact Nat.le_refl _))
          clear hs2 hg2
          cases ask
          · go_wp2
            go_roundw
            case rel => exact ⟨i + 1, s + m, 0, _, _, rfl, by go_num, by omega, by omega, by have := hI.out.1; omega, HFR.out, HS2.out, HB2.out⟩
            case measure => simp [intOf] <;> omega
          · go_wp2_with fail
            refine (sum_any w.heap.size 384 _ w2 HS2.out (by decide)).mono ?_
            rintro e w3 ⟨⟨ad, rfl, -, -⟩, hb3⟩
            have HB3 := Lib.hid (below_on HB2.out hb3)
            have HS3 := Lib.hid (HS2.out.below hb3 HS2.out.lt)
            clear hb3
            go_wp2
            go_roundw
            case rel => exact ⟨i + 1, s + m, 0, _, _, rfl, by go_num, by omega, by omega, by have := hI.out.1; omega, HFR.out, HS3.out, HB3.out⟩
            case measure => simp [intOf] <;> omega
        · have hup := hI.out.2.1.upto m (by omega)
          have hfr := hI.out.2.1.from' m (by omega)
          rw [if_neg hck] at hfr; rw [Nat.sub_self] at hfr
          rw [List.drop_drop] at hfr
          have HUP := Lib.hid hup
          have HFR := Lib.hid hfr
          clear hup hfr
          go_wp2_with fail
          refine (write_any w.heap.size 384 (l.take s) ((l.drop s).take m) _ _ _ wr hI.out.2.2.1 (by decide) (HUP.out.below hI.out.2.2.2) (byt_take (byt_drop HL.out s) m) (by have := hI.out.1; simp; omega) (reads_block HUP.out (Nat.le_refl _))).mono ?_
          rintro e w2 ⟨rfl, hs2, hg2⟩
          rw [← List.take_add] at hs2
          have HS2 := Lib.hid hs2
          have HB2 := Lib.hid (hI.out.2.2.2.grown hg2 hI.out.2.2.2.size (fun r e => by cases e; exact Nat.le_refl _))
          clear hs2 hg2
          cases ask
          · go_wp2
            go_roundw
            case rel => exact ⟨i + 1, s + m, 0, _, _, rfl, by go_num, by omega, by omega, by have := hI.out.1; omega, HFR.out, HS2.out, HB2.out⟩
            case measure => simp [intOf] <;> omega
          · go_wp2_with fail
            refine (sum_any w.heap.size 384 _ w2 HS2.out (by decide)).mono ?_
            rintro e w3 ⟨⟨ad, rfl, -, -⟩, hb3⟩
            have HB3 := Lib.hid (below_on HB2.out hb3)
            have HS3 := Lib.hid (HS2.out.below hb3 HS2.out.lt)
            clear hb3
            go_wp2
            go_roundw
            case rel => exact ⟨i + 1, s + m, 0, _, _, rfl, by go_num, by omega, by omega, by have := hI.out.1; omega, HFR.out, HS3.out, HB3.out⟩
            case measure => simp [intOf] <;> omega
      · by_cases hck : c' = x
        · have hup := hI.out.2.1.upto x (by omega)
          have hfr := hI.out.2.1.from' x (by omega)
          have hck2 := hck.symm; clear hck; subst hck2; rw [if_pos rfl, Nat.sub_self, show m - x = 0 by omega] at hfr
          rw [List.drop_drop] at hfr
          have HUP := Lib.hid hup
          have HFR := Lib.hid hfr
          clear hup hfr
          go_wp2_with fail
          refine (write_any w.heap.size 384 (l.take s) ((l.drop s).take x) _ _ _ wr hI.out.2.2.1 (by decide) (HUP.out.below hI.out.2.2.2) (byt_take (byt_drop HL.out s) x) (by have := hI.out.1; simp; omega) (reads_block HUP.out (Nat.le_refl _))).mono ?_
          rintro e w2 ⟨rfl, hs2, hg2⟩
          rw [← List.take_add] at hs2
          have HS2 := Lib.hid hs2
          have HB2 := Lib.hid (hI.out.2.2.2.grown hg2 hI.out.2.2.2.size (fun r e => by cases e; exact Nat.le_refl _))
          clear hs2 hg2
          cases ask
          · go_wp2
            go_roundw
            case rel => exact ⟨i + 1, s + x, 0, _, _, rfl, by go_num, by omega, by omega, by have := hI.out.1; omega, HFR.out, HS2.out, HB2.out⟩
            case measure => simp [intOf] <;> omega
          · go_wp2_with fail
            refine (sum_any w.heap.size 384 _ w2 HS2.out (by decide)).mono ?_
            rintro e w3 ⟨⟨ad, rfl, -, -⟩, hb3⟩
            have HB3 := Lib.hid (below_on HB2.out hb3)
            have HS3 := Lib.hid (HS2.out.below hb3 HS2.out.lt)
            clear hb3
            go_wp2
            go_roundw
            case rel => exact ⟨i + 1, s + x, 0, _, _, rfl, by go_num, by omega, by omega, by have := hI.out.1; omega, HFR.out, HS3.out, HB3.out⟩
            case measure => simp [intOf] <;> omega
        · have hup := hI.out.2.1.upto x (by omega)
          have hfr := hI.out.2.1.from' x (by omega)
          rw [if_neg hck] at hfr
          rw [List.drop_drop] at hfr
          have HUP := Lib.hid hup
          have HFR := Lib.hid hfr
          clear hup hfr
          go_wp2_with fail
          refine (write_any w.heap.size 384 (l.take s) ((l.drop s).take x) _ _ _ wr hI.out.2.2.1 (by decide) (HUP.out.below hI.out.2.2.2) (byt_take (byt_drop HL.out s) x) (by have := hI.out.1; simp; omega) (reads_block HUP.out (Nat.le_refl _))).mono ?_
          rintro e w2 ⟨rfl, hs2, hg2⟩
          rw [← List.take_add] at hs2
          have HS2 := Lib.hid hs2
          have HB2 := Lib.hid (hI.out.2.2.2.grown hg2 hI.out.2.2.2.size (fun r e => by cases e; exact Nat.le_refl _))
          clear hs2 hg2
          cases ask
          · go_wp2
            go_roundw
            case rel => exact ⟨i + 1, s + x, m - x, _, _, rfl, by go_num, by omega, by omega, by have := hI.out.1; omega, HFR.out, HS2.out, HB2.out⟩
            case measure => simp [intOf] <;> omega
          · go_wp2_with fail
            refine (sum_any w.heap.size 384 _ w2 HS2.out (by decide)).mono ?_
            rintro e w3 ⟨⟨ad, rfl, -, -⟩, hb3⟩
            have HB3 := Lib.hid (below_on HB2.out hb3)
            have HS3 := Lib.hid (HS2.out.below hb3 HS2.out.lt)
            clear hb3
            go_wp2
            go_roundw
            case rel => exact ⟨i + 1, s + x, m - x, _, _, rfl, by go_num, by omega, by omega, by have := hI.out.1; omega, HFR.out, HS3.out, HB3.out⟩
            case measure => simp [intOf] <;> omega
    · obtain rfl : i = n2 := by omega
      have hup := hI.out.2.1
      go_wp2_with fail
      refine (write_any w.heap.size 384 (l.take s) (l.drop s) _ _ _ wr hI.out.2.2.1 (by decide) (hup.below hI.out.2.2.2) (byt_drop HL.out s) (by have := hI.out.1; simp; omega) (reads_block hup (Nat.le_refl _))).mono ?_
      rintro e w2 ⟨rfl, hs2, hg2⟩
      rw [List.take_append_drop] at hs2
      have HS2 := Lib.hid hs2
      have HB2 := Lib.hid (hI.out.2.2.2.grown hg2 hI.out.2.2.2.size (fun r e => by cases e; exact Nat.le_refl _))
      clear hs2 hg2
      go_wp2
      go_ret
      exact ⟨rfl, HS2.out, HB2.out⟩

set_option maxHeartbeats 4000000 in
theorem state512_any (ask : Bool) (a a2 : Option Addr) (n c n2 c2 : Nat) (l l2 : List Nat) (w : World) (hr : Reads .u8 w a n c l) (hl : Byt l) (hn : n ≤ 10000) (hr2 : Reads .u8 w a2 n2 c2 l2) (hl2 : Byt l2) :
    Calls Try.prog 17 #[.bool true, .slice a n c, .slice a2 n2 c2, .bool ask] w fun e w' => e = .returned (.pointer (some ⟨w.heap.size, 0, none⟩)) ∧ StateOf w' w.heap.size 512 l ∧ Below w.heap.size w w' := by
  have HR := Lib.hid hr
  have HR2 := Lib.hid hr2
  have HL := Lib.hid hl
  have HL2 := Lib.hid hl2
  have hmx := hr2.len_le
  have hnl := Lib.hid hr.length
  unfold maxLen at hmx
  clear hr hr2 hl hl2
  go_enter Try.func17, Try.ntmps17
  go_wp2_with fail
  refine (new512_any w).mono ?_
  rintro e w1 ⟨rfl, hs1, hb1⟩
  have HS1 := Lib.hid hs1
  have HB1 := Lib.hid hb1
  clear hs1 hb1
  go_wp2_with fail
  go_loopw [1, 24] (fun bv iv wq => ∃ (i s m c' : Nat) (a' : Option Addr), bv = .slice a' m c' ∧ iv = .int .i64 (i : Int) ∧ i ≤ n2 ∧ m ≤ 10000 ∧ Hid (s + m = n ∧ Reads .u8 w a' m c' (l.drop s) ∧ StateOf wq w.heap.size 512 (l.take s) ∧ Below w.heap.size w wq)) (fun _ iv _ => n2 - (intOf iv).toNat)
  case atStart => exact ⟨0, 0, n, c, a, rfl, rfl, Nat.zero_le _, hn, by omega, HR.out, HS1.out, HB1.out⟩
  case round =>
    obtain ⟨i, s, m, c', a', rfl, rfl, hi, hm, hI⟩ := hrel
    by_cases hlt : i < n2
    · obtain ⟨b2, off2, rfl, hbk2, hc2⟩ := (HR2.out.below hI.out.2.2.2).cells (by omega)
      have hck := hc2 i hlt
      have hx : g0 l2 i < 256 := g0_lt HL2.out (by decide) i
      unfold g0 at hx
      clear hc2
      generalize l2[i]?.getD 0 = x at *
      have hle := hI.out.2.1.le
      have hcx := hI.out.2.1.max
      unfold maxLen at hcx
      by_cases hmx2 : m < x
      · by_cases hck : c' = m
        · have hup := hI.out.2.1.upto m (by omega)
          have hfr := hI.out.2.1.from' m (by omega)
          have hck2 := hck.symm; clear hck; subst hck2; rw [if_pos rfl, Nat.sub_self] at hfr
          rw [List.drop_drop] at hfr
          have HUP := Lib.hid hup
          have HFR := Lib.hid hfr
          clear hup hfr
          go_wp2_with fail
          refine (write_any w.heap.size 512 (l.take s) ((l.drop s).take m) _ _ _ wr hI.out.2.2.1 (by decide) (HUP.out.below hI.out.2.2.2) (byt_take (byt_drop HL.out s) m) (by have := hI.out.1; simp; omega) (reads_block HUP.out (Nat.le_refl _))).mono ?_
          rintro e w2 ⟨rfl, hs2, hg2⟩
          rw [← List.take_add] at hs2
          have HS2 := Lib.hid hs2
          have HB2 := Lib.hid (hI.out.2.2.2.grown hg2 hI.out.2.2.2.size (fun r e => by cases e; exact Nat.le_refl _))
          clear hs2 hg2
          cases ask
          · go_wp2
            go_roundw
            case rel => exact ⟨i + 1, s + m, 0, _, _, rfl, by go_num, by omega, by omega, by have := hI.out.1; omega, HFR.out, HS2.out, HB2.out⟩
            case measure => simp [intOf] <;> omega
          · go_wp2_with fail
            refine (sum_any w.heap.size 512 _ w2 HS2.out (by decide)).mono ?_
            rintro e w3 ⟨⟨ad, rfl, -, -⟩, hb3⟩
            have HB3 := Lib.hid (below_on HB2.out hb3)
            have HS3 := Lib.hid (HS2.out.below hb3 HS2.out.lt)
            clear hb3
            go_wp2
            go_roundw
            case rel => exact ⟨i + 1, s + m, 0, _, _, rfl, by go_num, by omega, by omega, by have := hI.out.1; omega, HFR.out, HS3.out, HB3.out⟩
            case measure => simp [intOf] <;> omega
        · have hup := hI.out.2.1.upto m (by omega)
          have hfr := hI.out.2.1.from' m (by omega)
          rw [if_neg hck] at hfr; rw [Nat.sub_self] at hfr
          rw [List.drop_drop] at hfr
          have HUP := Lib.hid hup
          have HFR := Lib.hid hfr
          clear hup hfr
          go_wp2_with fail
          refine (write_any w.heap.size 512 (l.take s) ((l.drop s).take m) _ _ _ wr hI.out.2.2.1 (by decide) (HUP.out.below hI.out.2.2.2) (byt_take (byt_drop HL.out s) m) (by have := hI.out.1; simp; omega) (reads_block HUP.out (Nat.le_refl _))).mono ?_
          rintro e w2 ⟨rfl, hs2, hg2⟩
          rw [← List.take_add] at hs2
          have HS2 := Lib.hid hs2
          have HB2 := Lib.hid (hI.out.2.2.2.grown hg2 hI.out.2.2.2.size (fun r e => by cases e; exact Nat.le_refl _))
          clear hs2 hg2
          cases ask
          · go_wp2
            go_roundw
            case rel => exact ⟨i + 1, s + m, 0, _, _, rfl, by go_num, by omega, by omega, by have := hI.out.1; omega, HFR.out, HS2.out, HB2.out⟩
            case measure => simp [intOf] <;> omega
          · go_wp2_with fail
            refine (sum_any w.heap.size 512 _ w2 HS2.out (by decide)).mono ?_
            rintro e w3 ⟨⟨ad, rfl, -, -⟩, hb3⟩
            have HB3 := Lib.hid (below_on HB2.out hb3)
            have HS3 := Lib.hid (HS2.out.below hb3 HS2.out.lt)
            clear hb3
            go_wp2
            go_roundw
            case rel => exact ⟨i + 1, s + m, 0, _, _, rfl, by go_num, by omega, by omega, by have := hI.out.1; omega, HFR.out, HS3.out, HB3.out⟩
            case measure => simp [intOf] <;> omega
      · by_cases hck : c' = x
        · have hup := hI.out.2.1.upto x (by omega)
          have hfr := hI.out.2.1.from' x (by omega)
          have hck2 := hck.symm; clear hck; subst hck2; rw [if_pos rfl, Nat.sub_self, show m - x = 0 by omega] at hfr
          rw [List.drop_drop] at hfr
          have HUP := Lib.hid hup
          have HFR := Lib.hid hfr
          clear hup hfr
          go_wp2_with fail
          refine (write_any w.heap.size 512 (l.take s) ((l.drop s).take x) _ _ _ wr hI.out.2.2.1 (by decide) (HUP.out.below hI.out.2.2.2) (byt_take (byt_drop HL.out s) x) (by have := hI.out.1; simp; omega) (reads_block HUP.out (Nat.le_refl _))).mono ?_
          rintro e w2 ⟨rfl, hs2, hg2⟩
          rw [← List.take_add] at hs2
          have HS2 := Lib.hid hs2
          have HB2 := Lib.hid (hI.out.2.2.2.grown hg2 hI.out.2.2.2.size (fun r e => by cases e; exact Nat.le_refl _))
          clear hs2 hg2
          cases ask
          · go_wp2
            go_roundw
            case rel => exact ⟨i + 1, s + x, 0, _, _, rfl, by go_num, by omega, by omega, by have := hI.out.1; omega, HFR.out, HS2.out, HB2.out⟩
            case measure => simp [intOf] <;> omega
          · go_wp2_with fail
            refine (sum_any w.heap.size 512 _ w2 HS2.out (by decide)).mono ?_
            rintro e w3 ⟨⟨ad, rfl, -, -⟩, hb3⟩
            have HB3 := Lib.hid (below_on HB2.out hb3)
            have HS3 := Lib.hid (HS2.out.below hb3 HS2.out.lt)
            clear hb3
            go_wp2
            go_roundw
            case rel => exact ⟨i + 1, s + x, 0, _, _, rfl, by go_num, by omega, by omega, by have := hI.out.1; omega, HFR.out, HS3.out, HB3.out⟩
            case measure => simp [intOf] <;> omega
        · have hup := hI.out.2.1.upto x (by omega)
          have hfr := hI.out.2.1.from' x (by omega)
          rw [if_neg hck] at hfr
          rw [List.drop_drop] at hfr
          have HUP := Lib.hid hup
          have HFR := Lib.hid hfr
          clear hup hfr
          go_wp2_with fail
          refine (write_any w.heap.size 512 (l.take s) ((l.drop s).take x) _ _ _ wr hI.out.2.2.1 (by decide) (HUP.out.below hI.out.2.2.2) (byt_take (byt_drop HL.out s) x) (by have := hI.out.1; simp; omega) (reads_block HUP.out (Nat.le_refl _))).mono ?_
          rintro e w2 ⟨rfl, hs2, hg2⟩
          rw [← List.take_add] at hs2
          have HS2 := Lib.hid hs2
          have HB2 := Lib.hid (hI.out.2.2.2.grown hg2 hI.out.2.2.2.size (fun r e => by cases e; exact Nat.le_refl _))
          clear hs2 hg2
          cases ask
          · go_wp2
            go_roundw
            case rel => exact ⟨i + 1, s + x, m - x, _, _, rfl, by go_num, by omega, by omega, by have := hI.out.1; omega, HFR.out, HS2.out, HB2.out⟩
            case measure => simp [intOf] <;> omega
          · go_wp2_with fail
            refine (sum_any w.heap.size 512 _ w2 HS2.out (by decide)).mono ?_
            rintro e w3 ⟨⟨ad, rfl, -, -⟩, hb3⟩
            have HB3 := Lib.hid (below_on HB2.out hb3)
            have HS3 := Lib.hid (HS2.out.below hb3 HS2.out.lt)
            clear hb3
            go_wp2
            go_roundw
            case rel => exact ⟨i + 1, s + x, m - x, _, _, rfl, by go_num, by omega, by omega, by have := hI.out.1; omega, HFR.out, HS3.out, HB3.out⟩
            case measure => simp [intOf] <;> omega
    · obtain rfl : i = n2 := by omega
      have hup := hI.out.2.1
      go_wp2_with fail
      refine (write_any w.heap.size 512 (l.take s) (l.drop s) _ _ _ wr hI.out.2.2.1 (by decide) (hup.below hI.out.2.2.2) (byt_drop HL.out s) (by have := hI.out.1; simp; omega) (reads_block hup (Nat.le_refl _))).mono ?_
      rintro e w2 ⟨rfl, hs2, hg2⟩
      rw [List.take_append_drop] at hs2
      have HS2 := Lib.hid hs2
      have HB2 := Lib.hid (hI.out.2.2.2.grown hg2 hI.out.2.2.2.size (fun r e => by cases e; exact Nat.le_refl _))
      clear hs2 hg2
      go_wp2
      go_ret
      exact ⟨rfl, HS2.out, HB2.out⟩

end Go.Proofs.Ytpfdehjllnhllaa
