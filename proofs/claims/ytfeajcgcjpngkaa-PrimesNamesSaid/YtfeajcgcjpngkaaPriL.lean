/-
  THE LAW PrimesRoots. (Written by wip/gen_priL.py.)
-/
import Derived.Test.YtfeajcgcjpngkaaPriC
namespace Go.Proofs.Ytfeajcgcjpngkaa
open Go.RowKit

theorem natAt_ofP {w : World} {a : Option Addr} {len cap : Nat} {l : List Nat} (hr : Reads .u32 w a len cap l) (hl : Lim l) : NatAt w (.slice a len cap) (val32 l) := ⟨a, len, cap, l, rfl, hr, hl, rfl⟩
theorem apartP {q q' : IntKind} {E E' : TypeId} {B B' : Nat} {w w' : World} {v v' : Value} {l l' : List Nat} (h : OwnQ q E B w v l) (h' : OwnQ q' E' B' w' v' l') (hB : w.heap.size ≤ B') : ∀ g, v.ownBlock = some g → v'.ownBlock ≠ some g := fun g e e' => by
  have h1 := (World.ownsRow.lt h g e).2
  have h2 := (World.ownsRow.lt h' g e').1
  omega
/-- No nought at the end. -/
def TopL (l : List Nat) : Prop := ∀ j, l.length = j + 1 → l[j]?.getD 0 ≠ 0
theorem TopL.nil : TopL [] := fun j h => by simp at h
theorem TopL.nat (n : Nat) : TopL (nat32 n) := fun j h => by
  have e : bareN (nat32 n) = nat32 n := by rw [bareN_nat (natB_digit (by decide) n), val_nat]
  have := bare_top (nat32 n) j (by rw [e]; exact h)
  rw [e] at this
  omega
theorem TopL.root (X : Nat) (k : Int) : TopL (rootP X k).1 := by
  unfold rootP
  split
  · split
    · exact TopL.nat _
    · exact TopL.nil
  · exact TopL.nil
theorem OwnQ.readsP {q : IntKind} {E B : Nat} {w : World} {g n c : Nat} {l : List Nat} (h : OwnQ q E B w (.slice (some ⟨g, 0, none⟩) (n + 1) c) (l ++ [7])) (hl : l.length = n) : Reads q w (some ⟨g, 0, none⟩) n c l := by
  have := h.reads.upto n (by omega)
  rwa [List.take_left' hl] at this
theorem seven {l : List Nat} {n : Nat} (hl : l.length = n) : (l ++ [7])[n]?.getD 0 = 7 := by rw [← hl]; simp

set_option maxRecDepth 100000 in
set_option maxHeartbeats 8000000 in
theorem roots_walk (a : Option Addr) (n c : Nat) (l : List Nat) (f : Int) (A : Nat) (k m : Int) (w : World) (hx : Reads .u32 w a n c l) (hL : Lim l) (hf : f = A) (hA : A < 18446744073709551616) :
    Calls Try.prog 4 #[.slice a n c, .int .u64 f, .int .i64 k, .int .i64 m] w fun e w' => e = .returned (.bool true) ∧ Below w.heap.size w w' := by
  obtain ⟨i0, hi, hz0, hz1, hz2⟩ := info_parts Try.info32
  have hmx := hx.len_le
  unfold maxLen at hmx
  have hcm := hx.max
  unfold maxLen at hcm
  have hle := hx.le
  have HX := Lib.hid hx
  have HL := Lib.hid hL
  have HN := Lib.hid hx.length
  have HF := Lib.hid hf
  have HA := Lib.hid hA
  have HT := Lib.hid (TopL.root (val32 l) k)
  have SP := Lib.hid (fun (v : Value) (w : World) (h : NatAt w v (val32 l)) => root_any v (val32 l) k w h)
  have TP := Lib.hid (fun (v : Value) (w : World) (h : NatZ w v (val32 l)) => rf.root_any v (val32 l) k w h)
  have SF := Lib.hid (fun (w : World) => frac_any A f k m w hf hA)
  have TF := Lib.hid (fun (w : World) => rf.frac_any A f k m w hf hA)
  generalize rootP (val32 l) k = R1 at SP TP HT
  generalize fracP A k m = R2 at SF TF
  obtain ⟨O1, e1⟩ := R1
  obtain ⟨f1, e2⟩ := R2
  clear hx hL hf hA
  go_enter Try.func4, Try.ntmps4
  go_wp2
  go_loop [9] (fun v => ∃ j : Nat, j ≤ n ∧ v = .int .i64 (j : Int)) (fun v => (intOf v).toNat)
  case atStart => exact ⟨n, Nat.le_refl _, rfl⟩
  case round =>
    obtain ⟨j, hj, rfl⟩ := hrel
    rcases Nat.eq_zero_or_pos j with rfl | hp
    · skip
      rcases Nat.lt_or_ge 400 n with hgr | hgr
      · go_wp2
        all_goals go_ret
        all_goals exact ⟨rfl, Below.refl _ _⟩
      · skip
        go_wp2_with (at_builtin; first | (refine wpList_append_q .u32 _ rfl _ _ 37 rfl w.heap.size 39 4 i0 Try.underlying37 hi hz0 hz1 hz2 (by decide) _ [] rfl (OwnQ.empty _ _ _ _ (Nat.le_refl _)) _ _ _ l rfl (HX.out.below ((Below.refl _ _).alloc (Nat.le_refl _) _)) (by simp; omega) (by simp) ?_; intro v2 w2 hown2 hgrow2; rw [List.nil_append] at hown2; have HO2 := Lib.hid hown2; have HB2 := Lib.hid (hgrow2 _ ((Below.refl _ _).alloc (Nat.le_refl _) _)); clear hown2 hgrow2) | go_loud (refine wpList_append_q .u32 _ rfl _ _ 37 rfl w.heap.size 39 4 i0 Try.underlying37 hi hz0 hz1 hz2 (by decide) _ l rfl (HO2.out.alloc _) _ _ _ [7] rfl (Reads.one .u32 _ _ _ _ rfl) (by have := HN.out; omega) (by have := HB2.out.size; simp; omega) ?_; intro v' w3 hown3 hgrow3; obtain ⟨g, c3, e3⟩ := hown3.succ (by simp); have e4 : List.length (l ++ [7] : List Nat) = n + 1 := (by have := HN.out; simp; omega); rw [e4] at e3; clear e4; subst e3; obtain ⟨-, hcap, hcm3⟩ := hown3.cap; unfold maxLen at hcm3; have HO3 := Lib.hid hown3; have HB3 := Lib.hid (hgrow3 _ (HB2.out.alloc HB2.out.size _)); clear hown3 hgrow3; have hc0 : ¬ c3 = 0 := by omega))
        have ROW := Lib.hid HO3.out
        have HX3 := Lib.hid (HX.out.below HB3.out)
        have F := Lib.hid HB3.out
        clear HO3 HB3 HO2 HB2
        have sz3 := Lib.hid (Nat.le_refl w3.heap.size)
        refine (SP.out _ _ (natAt_ofP (ROW.out.readsP HN.out) HL.out)).mono ?_
        rintro e w4 ⟨⟨v1, rfl, ho⟩, hb⟩
        obtain ⟨aa, na, ca, rfl, hna, ho⟩ := OwnQ.slice (show OwnQ .u32 39 w3.heap.size w4 v1 O1 from ho)
        have OA := Lib.hid ho
        have APR := Lib.hid (apartP ROW.out ho (Nat.le_refl _))
        have F3 := Lib.hid F.out.size
        have HNA := Lib.hid hna
        clear ho hna
        replace ROW := Lib.hid (ROW.out.below hb)
        replace HX3 := Lib.hid (HX3.out.below hb)
        replace F := Lib.hid (F.out.trans (hb.mono F.out.size))
        clear hb
        go_wp2_with fail
        refine (TP.out _ _ (NatZ.lim HX3.out HL.out (by omega))).mono ?_
        rintro e w5 ⟨⟨v2, rfl, ho⟩, hb⟩
        have OB := Lib.hid (show OwnQ .u32 39 w4.heap.size w5 v2 O1 from ho)
        clear ho
        have APB := Lib.hid (apartP OA.out OB.out (Nat.le_refl _))
        replace ROW := Lib.hid (ROW.out.below hb)
        replace HX3 := Lib.hid (HX3.out.below hb)
        replace OA := Lib.hid (OA.out.below hb)
        replace F := Lib.hid (F.out.trans (hb.mono F.out.size))
        clear hb
        go_wp2_with fail
        refine (SF.out _).mono ?_
        rintro e w6 ⟨rfl, hb⟩
        replace ROW := Lib.hid (ROW.out.below hb)
        replace HX3 := Lib.hid (HX3.out.below hb)
        replace OA := Lib.hid (OA.out.below hb)
        replace OB := Lib.hid (OB.out.below hb)
        replace F := Lib.hid (F.out.trans (hb.mono F.out.size))
        clear hb
        go_wp2_with fail
        refine (TF.out _).mono ?_
        rintro e w7 ⟨rfl, hb⟩
        replace ROW := Lib.hid (ROW.out.below hb)
        replace HX3 := Lib.hid (HX3.out.below hb)
        replace OA := Lib.hid (OA.out.below hb)
        replace OB := Lib.hid (OB.out.below hb)
        replace F := Lib.hid (F.out.trans (hb.mono F.out.size))
        clear hb
        obtain ⟨ab, nb, cb, rfl, -, hob⟩ := OB.out.slice
        clear OB
        have OB := Lib.hid hob
        clear hob
        have hcb := OB.out.cap.2.2
        unfold maxLen at hcb
        have hca := OA.out.cap.2.2
        unfold maxLen at hca
        have hca1 := OA.out.cap.2.1
        go_wp2_with fail
        refine (same_any _ _ _ _ _ _ _ _ _ OA.out.reads OB.out.reads true (decide_eq_true rfl).symm).mono ?_
        rintro e w8 ⟨rfl, hb⟩
        replace ROW := Lib.hid (ROW.out.below hb)
        replace HX3 := Lib.hid (HX3.out.below hb)
        replace OA := Lib.hid (OA.out.below hb)
        replace OB := Lib.hid (OB.out.below hb)
        replace F := Lib.hid (F.out.trans (hb.mono F.out.size))
        clear hb
        go_wp2_with fail
        refine (same_any _ _ _ _ _ _ _ _ _ (ROW.out.readsP HN.out) HX3.out true (decide_eq_true rfl).symm).mono ?_
        rintro e w9 ⟨rfl, hb⟩
        replace ROW := Lib.hid (ROW.out.below hb)
        replace HX3 := Lib.hid (HX3.out.below hb)
        replace OA := Lib.hid (OA.out.below hb)
        replace OB := Lib.hid (OB.out.below hb)
        replace F := Lib.hid (F.out.trans (hb.mono F.out.size))
        clear hb
        have h7 := ROW.out.cellAt (by have := HN.out; simp; omega) n (by omega)
        rw [seven HN.out] at h7
        rcases Nat.eq_zero_or_pos na with rfl | hpa
        · skip
          go_wp2
          go_loopw [133] (fun iv wr => iv = .int .i64 0 ∧ wr = w9) (fun _ _ => 0)
          case atStart => exact ⟨rfl, rfl⟩
          case round =>
            obtain ⟨rfl, rfl⟩ := hrel
            go_wp2_with fail
            refine (SP.out _ _ (natAt_ofP (ROW.out.readsP HN.out) HL.out)).mono ?_
            rintro e wa ⟨⟨v3, rfl, ho⟩, hb⟩
            obtain ⟨ae, ne, ce, rfl, -, ho⟩ := OwnQ.slice (show OwnQ .u32 39 _ wa v3 O1 from ho)
            have OE := Lib.hid ho
            clear ho
            replace OB := Lib.hid (OB.out.below hb)
            replace F := Lib.hid (F.out.trans (hb.mono F.out.size))
            clear hb
            have hce := OE.out.cap.2.2
            unfold maxLen at hce
            go_wp2_with fail
            refine (same_any _ _ _ _ _ _ _ _ _ OE.out.reads OB.out.reads true (decide_eq_true rfl).symm).mono ?_
            rintro e wb ⟨rfl, hb⟩
            replace F := Lib.hid (F.out.trans (hb.mono F.out.size))
            clear hb
            go_wp2
            go_ret
            exact ⟨rfl, F.out⟩
        · skip
          obtain ⟨q, rfl⟩ : ∃ q, na = q + 1 := ⟨na - 1, by omega⟩
          clear hpa
          obtain ⟨ga, ca2, e5⟩ := OA.out.succ (by intro e; have := HNA.out; rw [e] at this; simp at this)
          obtain ⟨rfl, -, rfl⟩ : aa = some ⟨ga, 0, none⟩ ∧ True ∧ ca = ca2 := by injection e5 with e6 e7 e8; exact ⟨e6, trivial, e8⟩
          clear e5
          have h8 := OA.out.cellAt HNA.out q (by omega)
          have hx9 : ((O1[q]?.getD 0 : Nat) : Int) ≠ 0 := by have := HT.out q HNA.out.symm; omega
          have HX9 := Lib.hid hx9
          obtain ⟨y, hy⟩ : ∃ y : Nat, y = O1[q]?.getD 0 := ⟨_, rfl⟩
          rw [← hy] at h8 hx9
          have hx8 : ((y : Int) == 0) = false := by simp; omega
          clear hy HX9 hx9
          have NA1 := Lib.hid (show (Value.slice (some ⟨g, 0, none⟩) (n + 1) c3).ownBlock ≠ some ga from fun e => APR.out _ e rfl)
          have NA2 := Lib.hid (APB.out ga rfl)
          go_wp2
          go_loopw [133] (fun iv wr => ∃ (i : Nat) (L : List Nat), iv = .int .i64 (i : Int) ∧ i ≤ q + 1 ∧ Hid (L.length = q + 1 ∧ OwnQ .u32 39 w3.heap.size wr (.slice (some ⟨ga, 0, none⟩) (q + 1) ca) L ∧ OwnQ .u32 39 w.heap.size wr (.slice (some ⟨g, 0, none⟩) (n + 1) c3) (l ++ [7]) ∧ OwnQ .u32 39 w4.heap.size wr (.slice ab nb cb) O1 ∧ Below w.heap.size w wr)) (fun iv _ => q + 1 - (intOf iv).toNat)
          case atStart => exact ⟨0, O1, rfl, Nat.zero_le _, HNA.out.symm, OA.out, ROW.out, OB.out, F.out⟩
          case round =>
            obtain ⟨i, L, rfl, hi1, hI⟩ := hrel
            rcases Nat.lt_or_ge i (q + 1) with hlt | hge
            · skip
              have hcell := hI.out.2.1.cellAt hI.out.1.symm i (by omega)
              have hfr := hI.out.2.1.frozenAt hI.out.1.symm i
              generalize hxx : L[i]?.getD 0 = x9 at hcell
              clear hxx
              go_wp2
              go_roundw
              case rel =>
                have s1 := hI.out.2.1.stored hI.out.1.symm i ((x9 + 1) % 4294967296) (((x9 : Int) + 1) % 4294967296) (by omega)
                have hbb := (OwnQ.mono hI.out.2.1 (Nat.le_trans F3.out (Nat.le_refl _))).stored hI.out.1.symm i ((x9 + 1) % 4294967296) (((x9 : Int) + 1) % 4294967296) (by omega)
                exact ⟨i + 1, L.set i ((x9 + 1) % 4294967296), by go_num, by omega, by simp [hI.out.1], s1.1, ownsRow_setCell_other hI.out.2.2.1 NA1.out _, ownsRow_setCell_other hI.out.2.2.2.1 NA2.out _, hbb.2 _ hI.out.2.2.2.2⟩
              case measure => simp [intOf] <;> omega
            · skip
              obtain rfl : i = q + 1 := by omega
              replace ROW := Lib.hid hI.out.2.2.1
              replace OB := Lib.hid hI.out.2.2.2.1
              replace F := Lib.hid hI.out.2.2.2.2
              go_wp2_with fail
              refine (SP.out _ _ (natAt_ofP (ROW.out.readsP HN.out) HL.out)).mono ?_
              rintro e wa ⟨⟨v3, rfl, ho⟩, hb⟩
              obtain ⟨ae, ne, ce, rfl, -, ho⟩ := OwnQ.slice (show OwnQ .u32 39 _ wa v3 O1 from ho)
              have OE := Lib.hid ho
              clear ho
              replace OB := Lib.hid (OB.out.below hb)
              replace F := Lib.hid (F.out.trans (hb.mono F.out.size))
              clear hb
              have hce := OE.out.cap.2.2
              unfold maxLen at hce
              go_wp2_with fail
              refine (same_any _ _ _ _ _ _ _ _ _ OE.out.reads OB.out.reads true (decide_eq_true rfl).symm).mono ?_
              rintro e wb ⟨rfl, hb⟩
              replace F := Lib.hid (F.out.trans (hb.mono F.out.size))
              clear hb
              go_wp2
              go_ret
              exact ⟨rfl, F.out⟩
    · obtain ⟨t, rfl⟩ : ∃ t, j = t + 1 := ⟨j - 1, by omega⟩
      clear hp
      obtain ⟨b, off, rfl, hbl, hc⟩ := HX.out.cells (by omega)
      have hct := hc t (by omega)
      clear hc
      generalize l[t]?.getD 0 = x at *
      by_cases hx0 : x = 0
      · subst hx0
        go_wp2
        go_round
        case rel => exact ⟨t, by omega, by simp⟩
        case measure => simp [intOf]
      · have hx1 : ((x : Int) == 0) = false := by simp; omega
        rcases Nat.lt_or_ge 400 n with hgr | hgr
        · go_wp2
          all_goals go_ret
          all_goals exact ⟨rfl, Below.refl _ _⟩
        · rcases Nat.lt_or_ge 20 (t + 1) with hg1 | hg1
          · rcases Nat.lt_or_ge 256 (t + 1) with hg2 | hg2
            · skip
              go_wp2_with (at_builtin; first | (refine wpList_append_q .u32 _ rfl _ _ 37 rfl w.heap.size 39 4 i0 Try.underlying37 hi hz0 hz1 hz2 (by decide) _ [] rfl (OwnQ.empty _ _ _ _ (Nat.le_refl _)) _ _ _ l rfl (HX.out.below ((Below.refl _ _).alloc (Nat.le_refl _) _)) (by simp; omega) (by simp) ?_; intro v2 w2 hown2 hgrow2; rw [List.nil_append] at hown2; have HO2 := Lib.hid hown2; have HB2 := Lib.hid (hgrow2 _ ((Below.refl _ _).alloc (Nat.le_refl _) _)); clear hown2 hgrow2) | go_loud (refine wpList_append_q .u32 _ rfl _ _ 37 rfl w.heap.size 39 4 i0 Try.underlying37 hi hz0 hz1 hz2 (by decide) _ l rfl (HO2.out.alloc _) _ _ _ [7] rfl (Reads.one .u32 _ _ _ _ rfl) (by have := HN.out; omega) (by have := HB2.out.size; simp; omega) ?_; intro v' w3 hown3 hgrow3; obtain ⟨g, c3, e3⟩ := hown3.succ (by simp); have e4 : List.length (l ++ [7] : List Nat) = n + 1 := (by have := HN.out; simp; omega); rw [e4] at e3; clear e4; subst e3; obtain ⟨-, hcap, hcm3⟩ := hown3.cap; unfold maxLen at hcm3; have HO3 := Lib.hid hown3; have HB3 := Lib.hid (hgrow3 _ (HB2.out.alloc HB2.out.size _)); clear hown3 hgrow3; have hc0 : ¬ c3 = 0 := by omega))
              have ROW := Lib.hid HO3.out
              have HX3 := Lib.hid (HX.out.below HB3.out)
              have F := Lib.hid HB3.out
              clear HO3 HB3 HO2 HB2
              have sz3 := Lib.hid (Nat.le_refl w3.heap.size)
              refine (SP.out _ _ (natAt_ofP (ROW.out.readsP HN.out) HL.out)).mono ?_
              rintro e w4 ⟨⟨v1, rfl, ho⟩, hb⟩
              obtain ⟨aa, na, ca, rfl, hna, ho⟩ := OwnQ.slice (show OwnQ .u32 39 w3.heap.size w4 v1 O1 from ho)
              have OA := Lib.hid ho
              have APR := Lib.hid (apartP ROW.out ho (Nat.le_refl _))
              have F3 := Lib.hid F.out.size
              have HNA := Lib.hid hna
              clear ho hna
              replace ROW := Lib.hid (ROW.out.below hb)
              replace HX3 := Lib.hid (HX3.out.below hb)
              replace F := Lib.hid (F.out.trans (hb.mono F.out.size))
              clear hb
              go_wp2_with fail
              refine (TP.out _ _ (NatZ.lim HX3.out HL.out (by omega))).mono ?_
              rintro e w5 ⟨⟨v2, rfl, ho⟩, hb⟩
              have OB := Lib.hid (show OwnQ .u32 39 w4.heap.size w5 v2 O1 from ho)
              clear ho
              have APB := Lib.hid (apartP OA.out OB.out (Nat.le_refl _))
              replace ROW := Lib.hid (ROW.out.below hb)
              replace HX3 := Lib.hid (HX3.out.below hb)
              replace OA := Lib.hid (OA.out.below hb)
              replace F := Lib.hid (F.out.trans (hb.mono F.out.size))
              clear hb
              go_wp2_with fail
              refine (SF.out _).mono ?_
              rintro e w6 ⟨rfl, hb⟩
              replace ROW := Lib.hid (ROW.out.below hb)
              replace HX3 := Lib.hid (HX3.out.below hb)
              replace OA := Lib.hid (OA.out.below hb)
              replace OB := Lib.hid (OB.out.below hb)
              replace F := Lib.hid (F.out.trans (hb.mono F.out.size))
              clear hb
              go_wp2_with fail
              refine (TF.out _).mono ?_
              rintro e w7 ⟨rfl, hb⟩
              replace ROW := Lib.hid (ROW.out.below hb)
              replace HX3 := Lib.hid (HX3.out.below hb)
              replace OA := Lib.hid (OA.out.below hb)
              replace OB := Lib.hid (OB.out.below hb)
              replace F := Lib.hid (F.out.trans (hb.mono F.out.size))
              clear hb
              obtain ⟨ab, nb, cb, rfl, -, hob⟩ := OB.out.slice
              clear OB
              have OB := Lib.hid hob
              clear hob
              have hcb := OB.out.cap.2.2
              unfold maxLen at hcb
              have hca := OA.out.cap.2.2
              unfold maxLen at hca
              have hca1 := OA.out.cap.2.1
              go_wp2_with fail
              refine (same_any _ _ _ _ _ _ _ _ _ OA.out.reads OB.out.reads true (decide_eq_true rfl).symm).mono ?_
              rintro e w8 ⟨rfl, hb⟩
              replace ROW := Lib.hid (ROW.out.below hb)
              replace HX3 := Lib.hid (HX3.out.below hb)
              replace OA := Lib.hid (OA.out.below hb)
              replace OB := Lib.hid (OB.out.below hb)
              replace F := Lib.hid (F.out.trans (hb.mono F.out.size))
              clear hb
              go_wp2_with fail
              refine (same_any _ _ _ _ _ _ _ _ _ (ROW.out.readsP HN.out) HX3.out true (decide_eq_true rfl).symm).mono ?_
              rintro e w9 ⟨rfl, hb⟩
              replace ROW := Lib.hid (ROW.out.below hb)
              replace HX3 := Lib.hid (HX3.out.below hb)
              replace OA := Lib.hid (OA.out.below hb)
              replace OB := Lib.hid (OB.out.below hb)
              replace F := Lib.hid (F.out.trans (hb.mono F.out.size))
              clear hb
              have h7 := ROW.out.cellAt (by have := HN.out; simp; omega) n (by omega)
              rw [seven HN.out] at h7
              rcases Nat.eq_zero_or_pos na with rfl | hpa
              · skip
                go_wp2
                go_loopw [133] (fun iv wr => iv = .int .i64 0 ∧ wr = w9) (fun _ _ => 0)
                case atStart => exact ⟨rfl, rfl⟩
                case round =>
                  obtain ⟨rfl, rfl⟩ := hrel
                  go_wp2_with fail
                  refine (SP.out _ _ (natAt_ofP (ROW.out.readsP HN.out) HL.out)).mono ?_
                  rintro e wa ⟨⟨v3, rfl, ho⟩, hb⟩
                  obtain ⟨ae, ne, ce, rfl, -, ho⟩ := OwnQ.slice (show OwnQ .u32 39 _ wa v3 O1 from ho)
                  have OE := Lib.hid ho
                  clear ho
                  replace OB := Lib.hid (OB.out.below hb)
                  replace F := Lib.hid (F.out.trans (hb.mono F.out.size))
                  clear hb
                  have hce := OE.out.cap.2.2
                  unfold maxLen at hce
                  go_wp2_with fail
                  refine (same_any _ _ _ _ _ _ _ _ _ OE.out.reads OB.out.reads true (decide_eq_true rfl).symm).mono ?_
                  rintro e wb ⟨rfl, hb⟩
                  replace F := Lib.hid (F.out.trans (hb.mono F.out.size))
                  clear hb
                  go_wp2
                  go_ret
                  exact ⟨rfl, F.out⟩
              · skip
                obtain ⟨q, rfl⟩ : ∃ q, na = q + 1 := ⟨na - 1, by omega⟩
                clear hpa
                obtain ⟨ga, ca2, e5⟩ := OA.out.succ (by intro e; have := HNA.out; rw [e] at this; simp at this)
                obtain ⟨rfl, -, rfl⟩ : aa = some ⟨ga, 0, none⟩ ∧ True ∧ ca = ca2 := by injection e5 with e6 e7 e8; exact ⟨e6, trivial, e8⟩
                clear e5
                have h8 := OA.out.cellAt HNA.out q (by omega)
                have hx9 : ((O1[q]?.getD 0 : Nat) : Int) ≠ 0 := by have := HT.out q HNA.out.symm; omega
                have HX9 := Lib.hid hx9
                obtain ⟨y, hy⟩ : ∃ y : Nat, y = O1[q]?.getD 0 := ⟨_, rfl⟩
                rw [← hy] at h8 hx9
                have hx8 : ((y : Int) == 0) = false := by simp; omega
                clear hy HX9 hx9
                have NA1 := Lib.hid (show (Value.slice (some ⟨g, 0, none⟩) (n + 1) c3).ownBlock ≠ some ga from fun e => APR.out _ e rfl)
                have NA2 := Lib.hid (APB.out ga rfl)
                go_wp2
                go_loopw [133] (fun iv wr => ∃ (i : Nat) (L : List Nat), iv = .int .i64 (i : Int) ∧ i ≤ q + 1 ∧ Hid (L.length = q + 1 ∧ OwnQ .u32 39 w3.heap.size wr (.slice (some ⟨ga, 0, none⟩) (q + 1) ca) L ∧ OwnQ .u32 39 w.heap.size wr (.slice (some ⟨g, 0, none⟩) (n + 1) c3) (l ++ [7]) ∧ OwnQ .u32 39 w4.heap.size wr (.slice ab nb cb) O1 ∧ Below w.heap.size w wr)) (fun iv _ => q + 1 - (intOf iv).toNat)
                case atStart => exact ⟨0, O1, rfl, Nat.zero_le _, HNA.out.symm, OA.out, ROW.out, OB.out, F.out⟩
                case round =>
                  obtain ⟨i, L, rfl, hi1, hI⟩ := hrel
                  rcases Nat.lt_or_ge i (q + 1) with hlt | hge
                  · skip
                    have hcell := hI.out.2.1.cellAt hI.out.1.symm i (by omega)
                    have hfr := hI.out.2.1.frozenAt hI.out.1.symm i
                    generalize hxx : L[i]?.getD 0 = x9 at hcell
                    clear hxx
                    go_wp2
                    go_roundw
                    case rel =>
                      have s1 := hI.out.2.1.stored hI.out.1.symm i ((x9 + 1) % 4294967296) (((x9 : Int) + 1) % 4294967296) (by omega)
                      have hbb := (OwnQ.mono hI.out.2.1 (Nat.le_trans F3.out (Nat.le_refl _))).stored hI.out.1.symm i ((x9 + 1) % 4294967296) (((x9 : Int) + 1) % 4294967296) (by omega)
                      exact ⟨i + 1, L.set i ((x9 + 1) % 4294967296), by go_num, by omega, by simp [hI.out.1], s1.1, ownsRow_setCell_other hI.out.2.2.1 NA1.out _, ownsRow_setCell_other hI.out.2.2.2.1 NA2.out _, hbb.2 _ hI.out.2.2.2.2⟩
                    case measure => simp [intOf] <;> omega
                  · skip
                    obtain rfl : i = q + 1 := by omega
                    replace ROW := Lib.hid hI.out.2.2.1
                    replace OB := Lib.hid hI.out.2.2.2.1
                    replace F := Lib.hid hI.out.2.2.2.2
                    go_wp2_with fail
                    refine (SP.out _ _ (natAt_ofP (ROW.out.readsP HN.out) HL.out)).mono ?_
                    rintro e wa ⟨⟨v3, rfl, ho⟩, hb⟩
                    obtain ⟨ae, ne, ce, rfl, -, ho⟩ := OwnQ.slice (show OwnQ .u32 39 _ wa v3 O1 from ho)
                    have OE := Lib.hid ho
                    clear ho
                    replace OB := Lib.hid (OB.out.below hb)
                    replace F := Lib.hid (F.out.trans (hb.mono F.out.size))
                    clear hb
                    have hce := OE.out.cap.2.2
                    unfold maxLen at hce
                    go_wp2_with fail
                    refine (same_any _ _ _ _ _ _ _ _ _ OE.out.reads OB.out.reads true (decide_eq_true rfl).symm).mono ?_
                    rintro e wb ⟨rfl, hb⟩
                    replace F := Lib.hid (F.out.trans (hb.mono F.out.size))
                    clear hb
                    go_wp2
                    go_ret
                    exact ⟨rfl, F.out⟩
            · go_wp2
              all_goals go_ret
              all_goals exact ⟨rfl, Below.refl _ _⟩
          · skip
            go_wp2_with (at_builtin; first | (refine wpList_append_q .u32 _ rfl _ _ 37 rfl w.heap.size 39 4 i0 Try.underlying37 hi hz0 hz1 hz2 (by decide) _ [] rfl (OwnQ.empty _ _ _ _ (Nat.le_refl _)) _ _ _ l rfl (HX.out.below ((Below.refl _ _).alloc (Nat.le_refl _) _)) (by simp; omega) (by simp) ?_; intro v2 w2 hown2 hgrow2; rw [List.nil_append] at hown2; have HO2 := Lib.hid hown2; have HB2 := Lib.hid (hgrow2 _ ((Below.refl _ _).alloc (Nat.le_refl _) _)); clear hown2 hgrow2) | go_loud (refine wpList_append_q .u32 _ rfl _ _ 37 rfl w.heap.size 39 4 i0 Try.underlying37 hi hz0 hz1 hz2 (by decide) _ l rfl (HO2.out.alloc _) _ _ _ [7] rfl (Reads.one .u32 _ _ _ _ rfl) (by have := HN.out; omega) (by have := HB2.out.size; simp; omega) ?_; intro v' w3 hown3 hgrow3; obtain ⟨g, c3, e3⟩ := hown3.succ (by simp); have e4 : List.length (l ++ [7] : List Nat) = n + 1 := (by have := HN.out; simp; omega); rw [e4] at e3; clear e4; subst e3; obtain ⟨-, hcap, hcm3⟩ := hown3.cap; unfold maxLen at hcm3; have HO3 := Lib.hid hown3; have HB3 := Lib.hid (hgrow3 _ (HB2.out.alloc HB2.out.size _)); clear hown3 hgrow3; have hc0 : ¬ c3 = 0 := by omega))
            have ROW := Lib.hid HO3.out
            have HX3 := Lib.hid (HX.out.below HB3.out)
            have F := Lib.hid HB3.out
            clear HO3 HB3 HO2 HB2
            have sz3 := Lib.hid (Nat.le_refl w3.heap.size)
            refine (SP.out _ _ (natAt_ofP (ROW.out.readsP HN.out) HL.out)).mono ?_
            rintro e w4 ⟨⟨v1, rfl, ho⟩, hb⟩
            obtain ⟨aa, na, ca, rfl, hna, ho⟩ := OwnQ.slice (show OwnQ .u32 39 w3.heap.size w4 v1 O1 from ho)
            have OA := Lib.hid ho
            have APR := Lib.hid (apartP ROW.out ho (Nat.le_refl _))
            have F3 := Lib.hid F.out.size
            have HNA := Lib.hid hna
            clear ho hna
            replace ROW := Lib.hid (ROW.out.below hb)
            replace HX3 := Lib.hid (HX3.out.below hb)
            replace F := Lib.hid (F.out.trans (hb.mono F.out.size))
            clear hb
            go_wp2_with fail
            refine (TP.out _ _ (NatZ.lim HX3.out HL.out (by omega))).mono ?_
            rintro e w5 ⟨⟨v2, rfl, ho⟩, hb⟩
            have OB := Lib.hid (show OwnQ .u32 39 w4.heap.size w5 v2 O1 from ho)
            clear ho
            have APB := Lib.hid (apartP OA.out OB.out (Nat.le_refl _))
            replace ROW := Lib.hid (ROW.out.below hb)
            replace HX3 := Lib.hid (HX3.out.below hb)
            replace OA := Lib.hid (OA.out.below hb)
            replace F := Lib.hid (F.out.trans (hb.mono F.out.size))
            clear hb
            go_wp2_with fail
            refine (SF.out _).mono ?_
            rintro e w6 ⟨rfl, hb⟩
            replace ROW := Lib.hid (ROW.out.below hb)
            replace HX3 := Lib.hid (HX3.out.below hb)
            replace OA := Lib.hid (OA.out.below hb)
            replace OB := Lib.hid (OB.out.below hb)
            replace F := Lib.hid (F.out.trans (hb.mono F.out.size))
            clear hb
            go_wp2_with fail
            refine (TF.out _).mono ?_
            rintro e w7 ⟨rfl, hb⟩
            replace ROW := Lib.hid (ROW.out.below hb)
            replace HX3 := Lib.hid (HX3.out.below hb)
            replace OA := Lib.hid (OA.out.below hb)
            replace OB := Lib.hid (OB.out.below hb)
            replace F := Lib.hid (F.out.trans (hb.mono F.out.size))
            clear hb
            obtain ⟨ab, nb, cb, rfl, -, hob⟩ := OB.out.slice
            clear OB
            have OB := Lib.hid hob
            clear hob
            have hcb := OB.out.cap.2.2
            unfold maxLen at hcb
            have hca := OA.out.cap.2.2
            unfold maxLen at hca
            have hca1 := OA.out.cap.2.1
            go_wp2_with fail
            refine (same_any _ _ _ _ _ _ _ _ _ OA.out.reads OB.out.reads true (decide_eq_true rfl).symm).mono ?_
            rintro e w8 ⟨rfl, hb⟩
            replace ROW := Lib.hid (ROW.out.below hb)
            replace HX3 := Lib.hid (HX3.out.below hb)
            replace OA := Lib.hid (OA.out.below hb)
            replace OB := Lib.hid (OB.out.below hb)
            replace F := Lib.hid (F.out.trans (hb.mono F.out.size))
            clear hb
            go_wp2_with fail
            refine (same_any _ _ _ _ _ _ _ _ _ (ROW.out.readsP HN.out) HX3.out true (decide_eq_true rfl).symm).mono ?_
            rintro e w9 ⟨rfl, hb⟩
            replace ROW := Lib.hid (ROW.out.below hb)
            replace HX3 := Lib.hid (HX3.out.below hb)
            replace OA := Lib.hid (OA.out.below hb)
            replace OB := Lib.hid (OB.out.below hb)
            replace F := Lib.hid (F.out.trans (hb.mono F.out.size))
            clear hb
            have h7 := ROW.out.cellAt (by have := HN.out; simp; omega) n (by omega)
            rw [seven HN.out] at h7
            rcases Nat.eq_zero_or_pos na with rfl | hpa
            · skip
              go_wp2
              go_loopw [133] (fun iv wr => iv = .int .i64 0 ∧ wr = w9) (fun _ _ => 0)
              case atStart => exact ⟨rfl, rfl⟩
              case round =>
                obtain ⟨rfl, rfl⟩ := hrel
                go_wp2_with fail
                refine (SP.out _ _ (natAt_ofP (ROW.out.readsP HN.out) HL.out)).mono ?_
                rintro e wa ⟨⟨v3, rfl, ho⟩, hb⟩
                obtain ⟨ae, ne, ce, rfl, -, ho⟩ := OwnQ.slice (show OwnQ .u32 39 _ wa v3 O1 from ho)
                have OE := Lib.hid ho
                clear ho
                replace OB := Lib.hid (OB.out.below hb)
                replace F := Lib.hid (F.out.trans (hb.mono F.out.size))
                clear hb
                have hce := OE.out.cap.2.2
                unfold maxLen at hce
                go_wp2_with fail
                refine (same_any _ _ _ _ _ _ _ _ _ OE.out.reads OB.out.reads true (decide_eq_true rfl).symm).mono ?_
                rintro e wb ⟨rfl, hb⟩
                replace F := Lib.hid (F.out.trans (hb.mono F.out.size))
                clear hb
                go_wp2
                go_ret
                exact ⟨rfl, F.out⟩
            · skip
              obtain ⟨q, rfl⟩ : ∃ q, na = q + 1 := ⟨na - 1, by omega⟩
              clear hpa
              obtain ⟨ga, ca2, e5⟩ := OA.out.succ (by intro e; have := HNA.out; rw [e] at this; simp at this)
              obtain ⟨rfl, -, rfl⟩ : aa = some ⟨ga, 0, none⟩ ∧ True ∧ ca = ca2 := by injection e5 with e6 e7 e8; exact ⟨e6, trivial, e8⟩
              clear e5
              have h8 := OA.out.cellAt HNA.out q (by omega)
              have hx9 : ((O1[q]?.getD 0 : Nat) : Int) ≠ 0 := by have := HT.out q HNA.out.symm; omega
              have HX9 := Lib.hid hx9
              obtain ⟨y, hy⟩ : ∃ y : Nat, y = O1[q]?.getD 0 := ⟨_, rfl⟩
              rw [← hy] at h8 hx9
              have hx8 : ((y : Int) == 0) = false := by simp; omega
              clear hy HX9 hx9
              have NA1 := Lib.hid (show (Value.slice (some ⟨g, 0, none⟩) (n + 1) c3).ownBlock ≠ some ga from fun e => APR.out _ e rfl)
              have NA2 := Lib.hid (APB.out ga rfl)
              go_wp2
              go_loopw [133] (fun iv wr => ∃ (i : Nat) (L : List Nat), iv = .int .i64 (i : Int) ∧ i ≤ q + 1 ∧ Hid (L.length = q + 1 ∧ OwnQ .u32 39 w3.heap.size wr (.slice (some ⟨ga, 0, none⟩) (q + 1) ca) L ∧ OwnQ .u32 39 w.heap.size wr (.slice (some ⟨g, 0, none⟩) (n + 1) c3) (l ++ [7]) ∧ OwnQ .u32 39 w4.heap.size wr (.slice ab nb cb) O1 ∧ Below w.heap.size w wr)) (fun iv _ => q + 1 - (intOf iv).toNat)
              case atStart => exact ⟨0, O1, rfl, Nat.zero_le _, HNA.out.symm, OA.out, ROW.out, OB.out, F.out⟩
              case round =>
                obtain ⟨i, L, rfl, hi1, hI⟩ := hrel
                rcases Nat.lt_or_ge i (q + 1) with hlt | hge
                · skip
                  have hcell := hI.out.2.1.cellAt hI.out.1.symm i (by omega)
                  have hfr := hI.out.2.1.frozenAt hI.out.1.symm i
                  generalize hxx : L[i]?.getD 0 = x9 at hcell
                  clear hxx
                  go_wp2
                  go_roundw
                  case rel =>
                    have s1 := hI.out.2.1.stored hI.out.1.symm i ((x9 + 1) % 4294967296) (((x9 : Int) + 1) % 4294967296) (by omega)
                    have hbb := (OwnQ.mono hI.out.2.1 (Nat.le_trans F3.out (Nat.le_refl _))).stored hI.out.1.symm i ((x9 + 1) % 4294967296) (((x9 : Int) + 1) % 4294967296) (by omega)
                    exact ⟨i + 1, L.set i ((x9 + 1) % 4294967296), by go_num, by omega, by simp [hI.out.1], s1.1, ownsRow_setCell_other hI.out.2.2.1 NA1.out _, ownsRow_setCell_other hI.out.2.2.2.1 NA2.out _, hbb.2 _ hI.out.2.2.2.2⟩
                  case measure => simp [intOf] <;> omega
                · skip
                  obtain rfl : i = q + 1 := by omega
                  replace ROW := Lib.hid hI.out.2.2.1
                  replace OB := Lib.hid hI.out.2.2.2.1
                  replace F := Lib.hid hI.out.2.2.2.2
                  go_wp2_with fail
                  refine (SP.out _ _ (natAt_ofP (ROW.out.readsP HN.out) HL.out)).mono ?_
                  rintro e wa ⟨⟨v3, rfl, ho⟩, hb⟩
                  obtain ⟨ae, ne, ce, rfl, -, ho⟩ := OwnQ.slice (show OwnQ .u32 39 _ wa v3 O1 from ho)
                  have OE := Lib.hid ho
                  clear ho
                  replace OB := Lib.hid (OB.out.below hb)
                  replace F := Lib.hid (F.out.trans (hb.mono F.out.size))
                  clear hb
                  have hce := OE.out.cap.2.2
                  unfold maxLen at hce
                  go_wp2_with fail
                  refine (same_any _ _ _ _ _ _ _ _ _ OE.out.reads OB.out.reads true (decide_eq_true rfl).symm).mono ?_
                  rintro e wb ⟨rfl, hb⟩
                  replace F := Lib.hid (F.out.trans (hb.mono F.out.size))
                  clear hb
                  go_wp2
                  go_ret
                  exact ⟨rfl, F.out⟩

end Go.Proofs.Ytfeajcgcjpngkaa
