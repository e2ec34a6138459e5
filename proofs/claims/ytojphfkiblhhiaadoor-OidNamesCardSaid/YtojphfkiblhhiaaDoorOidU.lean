/-
  OID: THE REFERENCE's Read. (Written by wip/gen_oidU.py.)
-/
import Derived.Test.YtojphfkiblhhiaaDoorOidS
namespace Go.Proofs.YtojphfkiblhhiaaDoor
open Go.RowKit
set_option maxRecDepth 100000

/-- How far the reference's Read is. -/
structure FarG (b L : List Nat) (st i : Nat) : Prop where
  le : st ≤ i
  run : runT (b.take i) = (L.map formO, (b.take i).drop st)
  pre : b.take st = L.flatMap formO
  small : ∀ x ∈ L, x < 9223372036854775808
  big : ∀ x ∈ (b.take i).drop st, 128 ≤ x

theorem take_more {b : List Nat} {i x st : Nat} (hx : b[i]? = some x) (h : st ≤ i) : (b.take (i + 1)).drop st = (b.take i).drop st ++ [x] := by
  have := (List.getElem?_eq_some_iff.1 hx).1
  rw [List.take_add_one, hx, Option.toList_some, List.drop_append_of_le_length (by rw [List.length_take]; omega)]
theorem FarG.more {b L : List Nat} {st i x : Nat} (h : FarG b L st i) (hx : b[i]? = some x) (h8 : 128 ≤ x) : FarG b L st (i + 1) := by
  refine ⟨Nat.le_succ_of_le h.le, ?_, h.pre, h.small, fun z hz => ?_⟩
  · rw [take_more hx h.le, List.take_add_one, hx, Option.toList_some, runT_snoc, h.run, stepT, if_pos h8]
  · rw [take_more hx h.le, List.mem_append, List.mem_singleton] at hz
    rcases hz with hz | rfl
    · exact h.big z hz
    · exact h8
theorem FarG.run2 {b L : List Nat} {st i x : Nat} (h : FarG b L st i) (hx : b[i]? = some x) (h8 : x < 128) : runT (b.take (i + 1)) = (L.map formO ++ [(b.take (i + 1)).drop st], []) := by
  rw [take_more hx h.le, List.take_add_one, hx, Option.toList_some, runT_snoc, h.run, stepT, if_neg (by omega)]
theorem FarG.glen {b L : List Nat} {st i x : Nat} (h : FarG b L st i) (hx : b[i]? = some x) : ((b.take (i + 1)).drop st).length = i + 1 - st := by
  have := (List.getElem?_eq_some_iff.1 hx).1
  rw [List.length_drop, List.length_take]
  omega
theorem FarG.ghead {b L : List Nat} {st i x y : Nat} (h : FarG b L st i) (hx : b[i]? = some x) (hy : b[st]? = some y) : ((b.take (i + 1)).drop st).head? = some y := by
  rw [List.head?_drop, List.getElem?_take, if_pos (by have := h.le; omega), hy]
theorem FarG.bad {b L : List Nat} {st i x y : Nat} (h : FarG b L st i) (hx : b[i]? = some x) (h8 : x < 128) (hy : b[st]? = some y) (hb : y = 128 ∨ 8 < i - st) : readO b = ([], 140) := by
  refine read_bad (h.run2 hx h8) ?_
  rcases hb with rfl | hb
  · exact .inr (h.ghead hx hy)
  · exact .inl (by rw [h.glen hx]; omega)
theorem FarG.told {b L : List Nat} {st i x y : Nat} (h : FarG b L st i) (hB : Byt b) (hx : b[i]? = some x) (h8 : x < 128) (hy : b[st]? = some y) (hn : y ≠ 128) (hl : i - st ≤ 8) : FarG b (L ++ [valG ((b.take (i + 1)).drop st)]) (i + 1) (i + 1) ∧ valG ((b.take (i + 1)).drop st) < 9223372036854775808 := by
  have hle := h.le
  have hil := (List.getElem?_eq_some_iff.1 hx).1
  have hg := group_form (X := (b.take i).drop st) (c := x) (by rw [List.length_drop, List.length_take]; omega) (fun z hz => ⟨h.big z hz, hB z (List.mem_of_mem_take (List.mem_of_mem_drop hz))⟩) h8 (by
    rw [← take_more hx hle, h.ghead hx hy]
    exact fun e => hn (Option.some.inj e))
  rw [← take_more hx hle] at hg
  have hnil : (b.take (i + 1)).drop (i + 1) = [] := List.drop_eq_nil_of_le (by rw [List.length_take]; omega)
  refine ⟨⟨Nat.le_refl _, ?_, ?_, fun z hz => ?_, fun z hz => ?_⟩, hg.2⟩
  · rw [h.run2 hx h8, hnil, List.map_append]
    simp [hg.1]
  · rw [List.flatMap_append, ← h.pre]
    simp only [List.flatMap_cons, List.flatMap_nil, List.append_nil]
    rw [hg.1]
    conv => lhs; rw [← List.take_append_drop st (b.take (i + 1))]
    rw [List.take_take, Nat.min_eq_left (by omega)]
  · rw [List.mem_append, List.mem_singleton] at hz
    rcases hz with hz | rfl
    · exact h.small z hz
    · exact hg.2
  · rw [hnil] at hz
    cases hz
theorem FarG.left {b L : List Nat} {st : Nat} (h : FarG b L st b.length) (hs : st < b.length) : readO b = ([], 140) := by
  have := h.run
  rw [List.take_length] at this
  exact read_left this (fun e => by have := congrArg List.length e; rw [List.length_drop] at this; simp at this; omega)
theorem FarG.none {b L : List Nat} (h : FarG b L b.length b.length) (h0 : L = []) : readO b = ([], 140) := by
  have := h.pre
  rw [List.take_length, h0] at this
  exact read_empty this
theorem FarG.end {b L : List Nat} (h : FarG b L b.length b.length) (h0 : L ≠ []) : (OidOk (outO L) → readO b = (outO L, 0)) ∧ (¬ OidOk (outO L) → readO b = ([], 140)) := by
  have h1 := h.pre
  have h2 := h.run
  rw [List.take_length] at h1 h2
  rw [List.drop_length] at h2
  exact read_told h2 h1 h.small h0

set_option maxHeartbeats 4000000 in
theorem refread_any (a : Option Addr) (len cap : Nat) (b : List Nat) (w : World) (h : Reads .u8 w a len cap b) (hB : Byt b) (hlen : len ≤ 100000) :
    Calls Tryd.prog 18 #[.slice a len cap] w fun e w' => RetsO .u64 36 w.heap.size w' (readO b) e ∧ Below w.heap.size w w' := by
  obtain ⟨i0, hi0, hz0, hz1, hz2⟩ := info_parts infoU64
  have H := Lib.hid h
  have HLN := Lib.hid h.length
  have HBY := Lib.hid hB
  clear h hB
  go_enter Tryd.func18, Tryd.ntmps18
  go_wp2_with fail
  go_loopw [4, 5, 6] (fun av fv iv wr => ∃ (i st : Nat) (la : Option Addr) (ln lc : Nat) (L : List Nat), iv = .int .i64 (i : Int) ∧ i ≤ len ∧ fv = .int .i64 (st : Int) ∧ st ≤ i ∧ av = .slice la ln lc ∧ ln ≤ i ∧ Hid (OwnQ .u64 36 w.heap.size wr (.slice la ln lc) L) ∧ Hid (FarG b L st i) ∧ Hid (Below w.heap.size w wr)) (fun _ _ iv _ => len + 1 - (intOf iv).toNat)
  case atStart => exact ⟨0, 0, none, 0, 0, [], rfl, by omega, rfl, by omega, rfl, by omega, Lib.hid (OwnQ.nil _ _ _ _), Lib.hid ⟨Nat.le_refl _, rfl, rfl, fun x h => (by cases h), fun x h => by simp at h⟩, Lib.hid (Below.refl _ _)⟩
  case round =>
    obtain ⟨i, st, la, ln, lc, L, rfl, hi1, rfl, hst, rfl, hln, HO, HF, HB⟩ := hrel
    have hcap := Lib.hid HO.out.cap.1
    by_cases hlt : i < len
    · obtain ⟨bb, off, rfl, hbl, hc⟩ := H.out.cells (by omega)
      obtain ⟨x, hx⟩ : ∃ x, b[i]? = some x := ⟨_, List.getElem?_eq_getElem (by rw [HLN.out]; exact hlt)⟩
      obtain ⟨y, hy⟩ : ∃ y, b[st]? = some y := ⟨_, List.getElem?_eq_getElem (by rw [HLN.out]; omega)⟩
      have ci : wr.cell? ⟨bb, off + i, none⟩ = some (.int .u8 (x : Int)) := by
        rw [(HB.out.cell (p := ⟨bb, off + i, none⟩) hbl), hc i hlt, hx]; rfl
      have cy : wr.cell? ⟨bb, off + st, none⟩ = some (.int .u8 (y : Int)) := by
        rw [(HB.out.cell (p := ⟨bb, off + st, none⟩) hbl), hc st (by omega), hy]; rfl
      have HC := Lib.hid (show ∀ k z, k < len → b[k]? = some z → wr.cell? ⟨bb, off + k, none⟩ = some (.int .u8 (z : Int)) from fun k z hk hz => by
        rw [(HB.out.cell (p := ⟨bb, off + k, none⟩) hbl), hc k hk, hz]; rfl)
      have hx8 : x < 256 := HBY.out x (List.mem_of_getElem? hx)
      have hy8 : y < 256 := HBY.out y (List.mem_of_getElem? hy)
      have HX := Lib.hid hx
      have HY := Lib.hid hy
      clear hc hx hy
      by_cases h128 : 128 ≤ x
      · have d1 : decide ((128 : Int) ≤ (x : Int)) = true := decide_eq_true (by omega)
        have d2 : decide (128 ≤ x) = true := decide_eq_true h128
        have HF2 := Lib.hid (HF.out.more HX.out h128)
        clear cy
        go_wp2
        go_roundw
        case rel => exact ⟨i + 1, st, la, ln, lc, L, by go_num, by omega, rfl, by omega, rfl, by omega, HO, HF2, HB⟩
        case measure => simp [intOf]; omega
      have d1 : decide ((128 : Int) ≤ (x : Int)) = false := decide_eq_false (by omega)
      have d2 : decide (128 ≤ x) = false := decide_eq_false h128
      have hx128 : x < 128 := by omega
      by_cases hy128 : y = 128
      · have f1 : ((y : Int) == 128) = true := beq_iff_eq.2 (by omega)
        have f2 : (y == 128) = true := beq_iff_eq.2 hy128
        have HR := Lib.hid (HF.out.bad HX.out hx128 HY.out (.inl hy128))
        clear hy128
        go_wp2
        go_ret2
        exact ⟨⟨none, 0, 0, by rw [HR.out]; rfl, by rw [HR.out]; exact OwnQ.nil _ _ _ _⟩, HB.out⟩
      have f1 : ((y : Int) == 128) = false := beq_eq_false_iff_ne.2 (by omega)
      have f2 : (y == 128) = false := beq_eq_false_iff_ne.2 hy128
      obtain ⟨d, hd⟩ : ∃ d, i - st = d := ⟨_, rfl⟩
      have e1 : (i : Int) - (st : Int) = (d : Int) := by omega
      by_cases hd8 : 8 < d
      · have g1 : decide ((8 : Int) < (d : Int)) = true := decide_eq_true (by omega)
        have g2 : decide (8 < d) = true := decide_eq_true hd8
        have HR := Lib.hid (HF.out.bad HX.out hx128 HY.out (.inr (by omega)))
        clear hy128 hd
        go_wp2
        go_ret2
        exact ⟨⟨none, 0, 0, by rw [HR.out]; rfl, by rw [HR.out]; exact OwnQ.nil _ _ _ _⟩, HB.out⟩
      have g1 : decide ((8 : Int) < (d : Int)) = false := decide_eq_false (by omega)
      have g2 : decide (8 < d) = false := decide_eq_false hd8
      have HN := Lib.hid (HF.out.told HBY.out HX.out hx128 HY.out hy128 (by omega))
      have hd8' : i - st ≤ 8 := by omega
      clear hy128 hd
      go_wp2_with fail
      clear ci cy e1
      go_loop [7, 8] (fun nv kv => ∃ (k n : Nat), kv = .int .i64 (k : Int) ∧ st ≤ k ∧ k ≤ i + 1 ∧ nv = .int .u64 (n : Int) ∧ n < 9223372036854775808 ∧ Hid (n = valG ((b.take k).drop st))) (fun _ kv => i + 2 - (intOf kv).toNat)
      case atStart => exact ⟨st, 0, rfl, by omega, by omega, rfl, by omega, Lib.hid (by rw [List.drop_eq_nil_of_le (by rw [List.length_take]; omega)]; rfl)⟩
      case round =>
        obtain ⟨k, n, rfl, hk1, hk2, rfl, hn, HV⟩ := hrel
        by_cases hki : k ≤ i
        · obtain ⟨z, hz⟩ : ∃ z, b[k]? = some z := ⟨_, List.getElem?_eq_getElem (by rw [HLN.out]; omega)⟩
          have ck := HC.out k z (by omega) hz
          have hz8 : z < 256 := HBY.out z (List.mem_of_getElem? hz)
          have hn56 : n < 72057594037927936 := by
            have h9 := valG_lt ((b.take k).drop st)
            rw [← HV.out] at h9
            refine Nat.lt_of_lt_of_le h9 (Nat.le_trans (Nat.pow_le_pow_right (by decide) (show ((b.take k).drop st).length ≤ 8 from ?_)) (by decide))
            rw [List.length_drop, List.length_take]
            omega
          have HV2 := Lib.hid (show 128 * n + z % 128 = valG ((b.take (k + 1)).drop st) by rw [take_more hz hk1, valG_snoc, ← HV.out])
          obtain ⟨q, hq⟩ : ∃ q, z % 128 = q := ⟨_, rfl⟩
          have e2 : Int.tmod (z : Int) 128 = (q : Int) := by rw [Int.tmod_eq_emod_of_nonneg (by omega)]; omega
          have hq9 : q < 128 := by omega
          rw [hq] at HV2
          have k1 : decide ((k : Int) ≤ (i : Int)) = true := decide_eq_true (by omega)
          have k2 : decide (k ≤ i) = true := decide_eq_true hki
          clear hz hq
          go_wp2
          go_round
          case rel => exact ⟨k + 1, 128 * n + q, by go_num, by omega, by omega, by go_num, by omega, HV2⟩
          case measure => simp [intOf]; omega
        · have hke : k = i + 1 := by omega
          have HF3 := Lib.hid (show FarG b (L ++ [n]) (i + 1) (i + 1) by rw [HV.out, hke]; exact HN.out.1)
          have k1 : decide ((k : Int) ≤ (i : Int)) = false := decide_eq_false (by omega)
          have k2 : decide (k ≤ i) = false := decide_eq_false hki
          have hLb : L.length ≤ 200000 := by have := hcap.out; omega
          clear hke
          go_wp2_with (at_builtin; refine wpList_append_q .u64 _ rfl _ _ 22 rfl w.heap.size 36 8 i0 Tryd.underlying22 hi0 hz0 hz1 hz2 (by decide) _ L rfl (HO.out.alloc _) _ _ _ [n] rfl (Reads.one .u64 _ _ _ _ rfl) (by simp <;> omega) (by have := HB.out.size; simp; omega) ?_; intro v' w5 hown2 hgrow; obtain ⟨ta, tn, tc, rfl, -, hown2⟩ := hown2.slice; have HO5 := Lib.hid hown2; have Hw5 := Lib.hid (hgrow w (HB.out.alloc HB.out.size _)); clear hown2 hgrow)
          go_wp2
          go_roundw
          case rel => exact ⟨i + 1, i + 1, ta, tn, tc, L ++ [n], by go_num, by omega, by go_num, by omega, rfl, by have := HO5.out.cap.1; have := hcap.out; simp at *; omega, HO5, HF3, Hw5⟩
          case measure => simp [intOf]; omega
    · obtain rfl : i = b.length := by have := HLN.out; omega
      have hbl : b.length = len := HLN.out
      subst hbl
      have d1 : decide ((b.length : Int) < (b.length : Int)) = false := decide_eq_false (by omega)
      clear hlt hi1
      by_cases hsl : st < b.length
      · have HR := Lib.hid (HF.out.left hsl)
        have f1 : decide ((st : Int) < (b.length : Int)) = true := decide_eq_true (by omega)
        have f2 : decide (st < b.length) = true := decide_eq_true hsl
        generalize b.length = len at *
        go_wp2
        go_ret2
        exact ⟨⟨none, 0, 0, by rw [HR.out]; rfl, by rw [HR.out]; exact OwnQ.nil _ _ _ _⟩, HB.out⟩
      have hse : st = b.length := by omega
      have f1 : decide ((st : Int) < (b.length : Int)) = false := decide_eq_false (by omega)
      have f2 : decide (st < b.length) = false := decide_eq_false hsl
      have HF := Lib.hid (show FarG b L b.length b.length by have := HF.out; rw [hse] at this; exact this)
      clear hse hsl
      generalize hbl : b.length = len at *
      by_cases hl0 : ln = 0
      · have HR := Lib.hid (show readO b = ([], 140) from FarG.none (L := L) (by rw [hbl]; exact HF.out) (List.eq_nil_of_length_eq_zero (by rw [← hcap.out]; exact hl0)))
        clear hbl
        have g1 : ((ln : Int) == 0) = true := beq_iff_eq.2 (by omega)
        have g2 : (ln == 0) = true := beq_iff_eq.2 hl0
        clear hl0
        go_wp2
        go_ret2
        exact ⟨⟨none, 0, 0, by rw [HR.out]; rfl, by rw [HR.out]; exact OwnQ.nil _ _ _ _⟩, HB.out⟩
      have g1 : ((ln : Int) == 0) = false := beq_eq_false_iff_ne.2 (by omega)
      have g2 : (ln == 0) = false := beq_eq_false_iff_ne.2 hl0
      have hL0 : L ≠ [] := fun e => hl0 (by rw [hcap.out, e]; rfl)
      have HE := Lib.hid (show (OidOk (outO L) → readO b = (outO L, 0)) ∧ (¬ OidOk (outO L) → readO b = ([], 140)) from FarG.end (by rw [hbl]; exact HF.out) hL0)
      clear hbl
      obtain ⟨g, lc', he⟩ := HO.out.succ hL0
      obtain ⟨rfl, rfl⟩ : la = some ⟨g, 0, none⟩ ∧ lc = lc' := by cases he; exact ⟨rfl, rfl⟩
      have hcc := HO.out.cap.2
      unfold maxLen at hcc
      obtain ⟨x0, M, rfl⟩ : ∃ x0 M, L = x0 :: M := by
        cases L with
        | nil => exact absurd rfl hL0
        | cons x0 M => exact ⟨x0, M, rfl⟩
      have hx63 : x0 < 9223372036854775808 := HF.out.small x0 List.mem_cons_self
      have c0 : wr.cell? ⟨g, 0, none⟩ = some (.int .u64 (x0 : Int)) := by
        have := HO.out.cellAt hcap.out 0 (by omega)
        simpa using this
      obtain ⟨fst, hfst⟩ : ∃ f, min (x0 / 40) 2 = f := ⟨_, rfl⟩
      obtain ⟨snd, hsnd⟩ : ∃ r, x0 - 40 * fst = r := ⟨_, rfl⟩
      obtain ⟨f40, hf40⟩ : ∃ r, 40 * fst = r := ⟨_, rfl⟩
      obtain ⟨q, hq⟩ : ∃ q, x0 / 40 = q := ⟨_, rfl⟩
      have hout := Lib.hid (show outO (x0 :: M) = [fst, snd] ++ M by
        unfold outO
        simp only [List.getD_cons_zero, List.drop_succ_cons, List.drop_zero]
        rw [hfst, hsnd])
      rw [hout.out] at HE
      have e1 : (x0 : Int) / 40 = (q : Int) := by omega
      have m1 : 40 * (fst : Int) = (f40 : Int) := by omega
      have m2 : (x0 : Int) - (f40 : Int) = (snd : Int) := by omega
      have hsn : snd < 9223372036854775808 := by omega
      have hf4 : f40 ≤ 80 := by omega
      have HML := Lib.hid (show ln = M.length + 1 from hcap.out)
      have hln1 : 1 ≤ ln := by omega
      have hMb : M.length ≤ 100000 := by have := HML.out; omega
      clear he hsnd hf40 hl0 hL0 hcap
      rcases (show x0 < 80 ∨ 80 ≤ x0 by omega) with hx80 | hx80
      · have j1 : decide ((x0 : Int) < 80) = true := decide_eq_true (by omega)
        have j2 : decide (x0 < 80) = true := decide_eq_true (by omega)
        obtain rfl : q = fst := by omega
        have HL2 := Lib.hid (OwnQ.litO .u64 wr 36 w.heap.size HB.out.size [q, snd] #[.int .u64 (q : Int), .int .u64 (snd : Int)] 2 rfl rfl (by unfold maxLen; simp))
        have HB2 := Lib.hid (HB.out.alloc HB.out.size (.cells #[.int .u64 (q : Int), .int .u64 (snd : Int)] 36))
        have HRD := Lib.hid ((HO.out.alloc (.cells #[.int .u64 (q : Int), .int .u64 (snd : Int)] 36)).reads)
        clear hx80 hq hfst
        by_cases hlc : lc = 1
        · have hM : M = [] := List.eq_nil_of_length_eq_zero (by have := HML.out; omega)
          subst hM
          subst hlc
          obtain rfl : ln = 1 := HML.out
          go_wp2_with (at_builtin; go_loud (refine wpList_append_q .u64 _ rfl _ _ 22 rfl w.heap.size 36 8 i0 Tryd.underlying22 hi0 hz0 hz1 hz2 (by decide) _ [q, snd] rfl HL2.out _ _ _ [] rfl (Reads.empty _ _ _ (by unfold maxLen; omega) (fun h => by cases h)) (by simp <;> omega) HB2.out.size ?_); intro v' w5 hown2 hgrow; obtain ⟨ta, tn, tc, rfl, -, hown2⟩ := hown2.slice; have HO5 := Lib.hid hown2; have Hw5 := Lib.hid (hgrow w HB2.out); clear hown2 hgrow)
          go_wp2_with fail
          refine (may_any ta tn tc _ _ HO5.out.reads).mono ?_
          rintro e w6 ⟨rfl, hb⟩
          have HB6 := Lib.hid (Hw5.out.trans (hb.mono Hw5.out.size))
          have HO6 := Lib.hid (HO5.out.below hb)
          clear hb
          by_cases hok : OidOk ([q, snd] ++ [])
          · have hr := Lib.hid (HE.out.1 hok)
            rw [decide_eq_true hok]
            clear hok
            go_wp2
            go_ret2
            exact ⟨⟨ta, tn, tc, by rw [hr.out]; rfl, by rw [hr.out]; exact HO6.out⟩, HB6.out⟩
          · have hr := Lib.hid (HE.out.2 hok)
            rw [decide_eq_false hok]
            clear hok
            go_wp2
            go_ret2
            exact ⟨⟨none, 0, 0, by rw [hr.out]; rfl, by rw [hr.out]; exact OwnQ.nil _ _ _ _⟩, HB6.out⟩
        · have HRD := Lib.hid (show Reads .u64 (wr.alloc (.cells #[.int .u64 (q : Int), .int .u64 (snd : Int)] 36)) (some ⟨g, 1, none⟩) (ln - 1) (lc - 1) M from by
            have h9 := HRD.out.sub 1 ln hln1 (Nat.le_refl _)
            rw [if_neg hlc] at h9
            rw [List.take_of_length_le (by rw [List.length_cons]; have := HML.out; omega)] at h9
            exact h9)
          go_wp2_with (at_builtin; go_loud (refine wpList_append_q .u64 _ rfl _ _ 22 rfl w.heap.size 36 8 i0 Tryd.underlying22 hi0 hz0 hz1 hz2 (by decide) _ [q, snd] rfl HL2.out _ _ _ M rfl HRD.out (by simp <;> omega) HB2.out.size ?_); intro v' w5 hown2 hgrow; obtain ⟨ta, tn, tc, rfl, -, hown2⟩ := hown2.slice; have HO5 := Lib.hid hown2; have Hw5 := Lib.hid (hgrow w HB2.out); clear hown2 hgrow)
          go_wp2_with fail
          refine (may_any ta tn tc _ _ HO5.out.reads).mono ?_
          rintro e w6 ⟨rfl, hb⟩
          have HB6 := Lib.hid (Hw5.out.trans (hb.mono Hw5.out.size))
          have HO6 := Lib.hid (HO5.out.below hb)
          clear hb
          by_cases hok : OidOk ([q, snd] ++ M)
          · have hr := Lib.hid (HE.out.1 hok)
            rw [decide_eq_true hok]
            clear hok
            go_wp2
            go_ret2
            exact ⟨⟨ta, tn, tc, by rw [hr.out]; rfl, by rw [hr.out]; exact HO6.out⟩, HB6.out⟩
          · have hr := Lib.hid (HE.out.2 hok)
            rw [decide_eq_false hok]
            clear hok
            go_wp2
            go_ret2
            exact ⟨⟨none, 0, 0, by rw [hr.out]; rfl, by rw [hr.out]; exact OwnQ.nil _ _ _ _⟩, HB6.out⟩

      · have j1 : decide ((x0 : Int) < 80) = false := decide_eq_false (by omega)
        have j2 : decide (x0 < 80) = false := decide_eq_false (by omega)
        obtain rfl : fst = 2 := by omega
        have m3 : (x0 : Int) - 80 = (snd : Int) := by omega
        have HL2 := Lib.hid (OwnQ.litO .u64 wr 36 w.heap.size HB.out.size [2, snd] #[.int .u64 2, .int .u64 (snd : Int)] 2 rfl rfl (by unfold maxLen; simp))
        have HB2 := Lib.hid (HB.out.alloc HB.out.size (.cells #[.int .u64 2, .int .u64 (snd : Int)] 36))
        have HRD := Lib.hid ((HO.out.alloc (.cells #[.int .u64 2, .int .u64 (snd : Int)] 36)).reads)
        clear hx80 hq hfst m1 m2
        by_cases hlc : lc = 1
        · have hM : M = [] := List.eq_nil_of_length_eq_zero (by have := HML.out; omega)
          subst hM
          subst hlc
          obtain rfl : ln = 1 := HML.out
          go_wp2_with (at_builtin; go_loud (refine wpList_append_q .u64 _ rfl _ _ 22 rfl w.heap.size 36 8 i0 Tryd.underlying22 hi0 hz0 hz1 hz2 (by decide) _ [2, snd] rfl HL2.out _ _ _ [] rfl (Reads.empty _ _ _ (by unfold maxLen; omega) (fun h => by cases h)) (by simp <;> omega) HB2.out.size ?_); intro v' w5 hown2 hgrow; obtain ⟨ta, tn, tc, rfl, -, hown2⟩ := hown2.slice; have HO5 := Lib.hid hown2; have Hw5 := Lib.hid (hgrow w HB2.out); clear hown2 hgrow)
          go_wp2_with fail
          refine (may_any ta tn tc _ _ HO5.out.reads).mono ?_
          rintro e w6 ⟨rfl, hb⟩
          have HB6 := Lib.hid (Hw5.out.trans (hb.mono Hw5.out.size))
          have HO6 := Lib.hid (HO5.out.below hb)
          clear hb
          by_cases hok : OidOk ([2, snd] ++ [])
          · have hr := Lib.hid (HE.out.1 hok)
            rw [decide_eq_true hok]
            clear hok
            go_wp2
            go_ret2
            exact ⟨⟨ta, tn, tc, by rw [hr.out]; rfl, by rw [hr.out]; exact HO6.out⟩, HB6.out⟩
          · have hr := Lib.hid (HE.out.2 hok)
            rw [decide_eq_false hok]
            clear hok
            go_wp2
            go_ret2
            exact ⟨⟨none, 0, 0, by rw [hr.out]; rfl, by rw [hr.out]; exact OwnQ.nil _ _ _ _⟩, HB6.out⟩
        · have HRD := Lib.hid (show Reads .u64 (wr.alloc (.cells #[.int .u64 2, .int .u64 (snd : Int)] 36)) (some ⟨g, 1, none⟩) (ln - 1) (lc - 1) M from by
            have h9 := HRD.out.sub 1 ln hln1 (Nat.le_refl _)
            rw [if_neg hlc] at h9
            rw [List.take_of_length_le (by rw [List.length_cons]; have := HML.out; omega)] at h9
            exact h9)
          go_wp2_with (at_builtin; go_loud (refine wpList_append_q .u64 _ rfl _ _ 22 rfl w.heap.size 36 8 i0 Tryd.underlying22 hi0 hz0 hz1 hz2 (by decide) _ [2, snd] rfl HL2.out _ _ _ M rfl HRD.out (by simp <;> omega) HB2.out.size ?_); intro v' w5 hown2 hgrow; obtain ⟨ta, tn, tc, rfl, -, hown2⟩ := hown2.slice; have HO5 := Lib.hid hown2; have Hw5 := Lib.hid (hgrow w HB2.out); clear hown2 hgrow)
          go_wp2_with fail
          refine (may_any ta tn tc _ _ HO5.out.reads).mono ?_
          rintro e w6 ⟨rfl, hb⟩
          have HB6 := Lib.hid (Hw5.out.trans (hb.mono Hw5.out.size))
          have HO6 := Lib.hid (HO5.out.below hb)
          clear hb
          by_cases hok : OidOk ([2, snd] ++ M)
          · have hr := Lib.hid (HE.out.1 hok)
            rw [decide_eq_true hok]
            clear hok
            go_wp2
            go_ret2
            exact ⟨⟨ta, tn, tc, by rw [hr.out]; rfl, by rw [hr.out]; exact HO6.out⟩, HB6.out⟩
          · have hr := Lib.hid (HE.out.2 hok)
            rw [decide_eq_false hok]
            clear hok
            go_wp2
            go_ret2
            exact ⟨⟨none, 0, 0, by rw [hr.out]; rfl, by rw [hr.out]; exact OwnQ.nil _ _ _ _⟩, HB6.out⟩
end Go.Proofs.YtojphfkiblhhiaaDoor
