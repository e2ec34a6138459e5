/-
  Texts of ours, one behind the other: Qb2b Qk3 Rm1 Rm2 MkW Rm3 SeqW SeqV
-/
import Derived.Test.YtmfjhgjplmpecaaDoorPk1
import Derived.Test.YtmfjhgjplmpecaaDoorPk4
import Derived.Test.YtmfjhgjplmpecaaDoorPk5
import Derived.Test.YtmfjhgjplmpecaaDoorPk9
import Derived.Test.YtmfjhgjplmpecaaDoorPk11
import Derived.Test.YtmfjhgjplmpecaaDoorPk12
import Derived.Maps.AppendAt
set_option linter.unusedVariables false
set_option linter.unusedSimpArgs false

namespace Go.Proofs.YtmfjhgjplmpecaaDoor.L5
open Go.RowKit Go.Shelf

set_option maxRecDepth 100000 in
set_option maxHeartbeats 4000000 in
theorem sum_own (g bt : Nat) (m : List Nat) (w : World) (h : StateOf w g bt m) (hbt : bt = 384 ∨ bt = 512) :
    Calls Tryd.prog 36 #[.pointer (some ⟨g, 0, none⟩)] w fun e w' => (∃ h1 cc, e = .returned (.slice (some ⟨h1, 0, none⟩) (bt / 8) cc) ∧ OwnQ .u8 5 w.heap.size w' (.slice (some ⟨h1, 0, none⟩) (bt / 8) cc) (hashN bt m)) ∧ Below w.heap.size w w' := by
  obtain ⟨ws, tail, hst, hfin, hmb, hm0⟩ := h
  have HM0 := Lib.hid hm0
  have HF := Lib.hid hfin
  have HS := Lib.hid hst
  have hgw := Lib.hid hst.lt
  have hbt0 : bt ≠ 0 := by omega
  have HBT := Lib.hid hbt
  have cT := hst.taken
  obtain ⟨T, hT⟩ : ∃ T, T = m.length := ⟨_, rfl⟩
  have HT := Lib.hid hT
  rw [← hT] at cT hmb
  obtain ⟨q, hq⟩ : ∃ q, q = bt / 64 := ⟨_, rfl⟩
  have hq1 : Int.tdiv (bt : Int) 64 = (q : Int) := by
    rw [Int.tdiv_eq_ediv_of_nonneg (by omega)]
    omega
  have hq8 : q ≤ 8 ∧ 6 ≤ q := by omega
  have hq9 : 8 * q = bt / 8 := by omega
  have HQ := Lib.hid hq
  have HQ9 := Lib.hid hq9
  clear hm0 hfin hst hbt hT hq hq9
  go_enter Tryd.func36, Tryd.ntmps36
  go_wp2_with fail
  refine (made_yes g bt ws tail _ w HS.out hbt0).mono ?_
  rintro e w1 ⟨rfl, rfl⟩
  go_wp2_with fail
  refine (copy_any g bt ws tail _ w HS.out hbt0).mono ?_
  rintro e w3 ⟨rfl, rfl⟩
  have hs3 := Lib.hid (show StateAt (w.alloc (.cells (stL bt ws tail m.length).toArray 97)) w.heap.size bt ws tail m.length from ⟨Go.heap_alloc_new w _, HS.out.wlen, HS.out.tlen, HS.out.wlt, HS.out.tlt⟩)
  have hb3 := Lib.hid ((Below.refl w.heap.size w).alloc (Nat.le_refl _) (.cells (stL bt ws tail m.length).toArray 97))
  have cT3 := (HS.out.below hb3.out hgw.out).taken
  have hz3 := Lib.hid (show (w.alloc (.cells (stL bt ws tail m.length).toArray 97)).heap.size = w.heap.size + 1 by simp)
  obtain ⟨f, hf⟩ : ∃ f, f = w.heap.size := ⟨_, rfl⟩
  rw [← hf] at hs3 ⊢
  have HFE := Lib.hid hf
  clear hf cT
  generalize w.alloc (.cells (stL bt ws tail m.length).toArray 97) = w3 at *
  rw [← HT.out] at cT3
  go_wp2_with fail
  refine (ending_any T _ rfl hmb w3).mono ?_
  rintro e w4 ⟨⟨v, rfl, ho4⟩, hb4⟩
  have HO4 := Lib.hid ho4
  have HB4 := Lib.hid hb4
  obtain ⟨g1, c1, rfl⟩ := ho4.succ (by intro e; have := endN_len T; rw [e] at this; simp at this)
  have hlt1 := Lib.hid (ho4.lt g1 rfl)
  have hs4 := Lib.hid (hs3.out.below hb4 hs3.out.lt)
  obtain ⟨N, hN⟩ : ∃ N, N = (endN T).length := ⟨_, rfl⟩
  have hel := endN_len T
  rw [← hN] at hel HO4 ⊢
  have HN := Lib.hid hN
  clear ho4 hb4 hN cT3
  have hNb : N ≤ 200 := by omega
  clear hel
  have HR4 : Reads .u8 w4 (some ⟨g1, 0, none⟩) N c1 (endN T) := by
    have h := HO4.out
    rw [HN.out] at h ⊢
    exact h.reads
  have HWC := Lib.hid (write_core f bt ws tail m (endN T) (some ⟨g1, 0, none⟩) N c1 w4 hs4.out HF.out hbt0 HR4 (endN_lt T) (by rw [← HT.out]; omega) (fun _ ad e => by cases e; have := hlt1.out.1; have := hs3.out.lt; show g1 ≠ f; omega))
  clear HR4
  generalize hET : endN T = ET at *
  have HET := Lib.hid hET
  clear hET
  go_wp2_with fail
  refine (HWC.out).mono ?_
  rintro e w5 ⟨rfl, ⟨ws5, tail5, hs5, hf5⟩, hg5⟩
  have HS5 := Lib.hid hs5
  have HZ := Lib.hid (show ws5 = sumW bt m by rw [hf5.1]; unfold sumW; rw [← HT.out, HET.out])
  have hfw : w.heap.size ≤ f := by rw [HFE.out]; exact Nat.le_refl _
  have HB5 := Lib.hid (show Below w.heap.size w w5 from ((hb3.out.trans (HB4.out.mono (by have := hz3.out; omega))).grown hg5 (by have := HB4.out.size; have := hz3.out; omega) (fun r e => by cases e; exact hfw)))
  have cB := (HS.out.below HB5.out hgw.out).bits
  have hsl := slice_upto f q hq8.1
  clear hs5 hf5 hg5
  go_wp2_with fail
  go_quiet (fail)
  have HS6 := Lib.hid (show StateAt (w5.drewN nq) f bt ws5 tail5 (m ++ ET).length from HS5.out.block rfl)
  have HB6 := Lib.hid (show Below w.heap.size w (w5.drewN nq) from below_drewS HB5.out nq)
  generalize w5.drewN nq = w6 at *
  clear cB hsl
  go_wp2_with fail
  go_loopw [29, 4] (fun iv sv wq => ∃ j : Nat, iv = .int .i64 (j : Int) ∧ j ≤ q ∧ Hid (OwnQ .u8 5 w6.heap.size wq sv (bytesW ws5 j) ∧ Below w6.heap.size w6 wq)) (fun iv _ _ => q - (intOf iv).toNat)
  case atStart => exact ⟨0, rfl, Nat.zero_le _, OwnQ.nil _ _ _ _, Below.refl _ _⟩
  case round =>
    obtain ⟨j, rfl, hj, hI⟩ := hrel
    by_cases hlt : j < q
    · have cw := (HS6.out.below hI.out.2 HS6.out.lt).word j (by omega)
      have lx : g0 ws5 j < 18446744073709551616 := g0_lt HS6.out.wlt (by decide) j
      have hbs := Lib.hid (bytesW_succ ws5 j)
      have hbl := Lib.hid (bytesW_len ws5 j)
      generalize g0 ws5 j = x at *
      have hjq : decide ((j : Int) < (q : Int)) = true := by simp; exact hlt
      go_wp2_with fail
      refine (appended_any w6.heap.size _ (bytesW ws5 j) x _ wr hI.out.1 (by rw [hbl.out]; omega) hI.out.2.size rfl lx).mono ?_
      rintro e w7 ⟨⟨v7, rfl, ho7⟩, hb7⟩
      rw [← hbs.out] at ho7
      have HO7 := Lib.hid ho7
      have HB7 := Lib.hid (hb7 _ hI.out.2)
      clear ho7 hb7
      go_wp2
      go_roundw
      case rel => exact ⟨j + 1, by go_num, by omega, HO7.out, HB7.out⟩
      case measure => simp [intOf] <;> omega
    · obtain rfl : j = q := by omega
      have ho := hI.out.1
      rw [show bytesW ws5 j = hashN bt m by unfold hashN; rw [← HQ.out, ← HZ.out]] at ho
      have HO := Lib.hid ho
      have HBf := Lib.hid (HB6.out.trans (hI.out.2.mono HB6.out.size))
      obtain ⟨h1, c9, hv⟩ := ho.succ (by intro e; have h8 := hashN_len m HBT.out; rw [e, List.length_nil] at h8; have := HQ9.out; omega)
      rw [hashN_len m HBT.out] at hv
      subst hv
      have hh1 := Lib.hid (ho.lt h1 rfl)
      clear ho hI
      have hjq : decide ((j : Int) < (j : Int)) = false := by simp
      go_wp2
      go_ret
      exact ⟨⟨h1, c9, rfl, HO.out.mono HB6.out.size⟩, HBf.out⟩

end Go.Proofs.YtmfjhgjplmpecaaDoor.L5

namespace Go.Proofs.YtmfjhgjplmpecaaDoor.L5
open Go.RowKit Go.Shelf

set_option maxRecDepth 100000 in
theorem ref_no (b : Int) (h : b ≠ 384 ∧ b ≠ 512) (a : Option Addr) (n c : Nat) (w : World) : Calls Tryd.prog 28 #[.int .i64 b, .slice a n c] w fun e w' => e = .returned (.tuple #[.slice none 0 0, .int .i64 2]) ∧ w = w' := by
  have t1 : (b != 384) = true := by simp; exact h.1
  have t2 : (b != 512) = true := by simp; exact h.2
  clear h
  go_enter Tryd.func28, Tryd.ntmps28
  go_wp2
  go_ret2
  exact ⟨rfl, rfl⟩
theorem ref_hash (bt : Nat) (hbt : bt = 384 ∨ bt = 512) (a : Option Addr) (n c : Nat) (bl : List Nat) (w : World) (hr : Reads .u8 w a n c bl) (hb : ∀ x ∈ bl, x < 256) (hn : n ≤ 9000) :
    Calls Tryd.prog 28 #[.int .i64 (bt : Int), .slice a n c] w fun e w' => (∃ v, e = .returned (.tuple #[v, .int .i64 0]) ∧ OwnQ .u8 5 w.heap.size w' v (hashN bt bl)) ∧ Below w.heap.size w w' := by
  rcases hbt with rfl | rfl
  · exact ref_of384 a n c bl w hr hb hn
  · exact ref_of512 a n c bl w hr hb hn
/-- Rows that came in. -/
structure RowsIn (w : World) (a : Option Addr) (n cap : Nat) (R : Nat → Option Addr × Nat × Nat × List Nat) : Prop where
  le : n ≤ cap
  max : cap ≤ maxLen
  each : ∀ i, i < n → Reads .u8 w (R i).1 (R i).2.1 (R i).2.2.1 (R i).2.2.2 ∧ Byt (R i).2.2.2 ∧ (R i).2.1 ≤ 1048576
  cells : 0 < n → ∃ b off, a = some ⟨b, off, none⟩ ∧ b < w.heap.size ∧ ∀ i, i < n → w.cell? ⟨b, off + i, none⟩ = some (.slice (R i).1 (R i).2.1 (R i).2.2.1)
theorem _root_.Go.Proofs.YtmfjhgjplmpecaaDoor.OwnQ.keptG5 {q : IntKind} {E : TypeId} {B g n c : Nat} {w w' : World} {oa : Option Addr} {l : List Nat} (h : OwnQ q E B w (.slice oa n c) l) (hg : w.grownBy w' (some g)) (hne : ∀ x, oa = some x → x.block ≠ g) : OwnQ q E B w' (.slice oa n c) l := by
  obtain ⟨h1, h2⟩ := h
  refine ⟨h1, ?_⟩
  rcases h2 with h2 | ⟨g', cap', cur, e, hB, hh, r⟩
  · exact .inl h2
  · cases e
    exact .inr ⟨g', c, cur, rfl, hB, (hg.block g' (Array.getElem?_eq_some_iff.1 hh).1 (fun hc => hne _ rfl (Option.some.inj hc))).trans hh, r⟩
def flatN (R : Nat → Option Addr × Nat × Nat × List Nat) : Nat → List Nat
  | 0 => []
  | i + 1 => flatN R i ++ (R i).2.2.2
theorem flatN_byt {w : World} {a : Option Addr} {n cap : Nat} {R : Nat → Option Addr × Nat × Nat × List Nat} (h : RowsIn w a n cap R) : ∀ i, i ≤ n → Byt (flatN R i)
  | 0, _ => fun x hx => by cases hx
  | i + 1, hi => fun x hx => by
    rcases List.mem_append.1 hx with hx | hx
    · exact flatN_byt h i (by omega) x hx
    · exact (h.each i (by omega)).2.1 x hx
theorem flatN_le (R : Nat → Option Addr × Nat × Nat × List Nat) {i n : Nat} (h : i ≤ n) : ∃ t, flatN R n = flatN R i ++ t := by
  induction n with
  | zero => exact ⟨[], by rw [show i = 0 by omega, List.append_nil]⟩
  | succ n ih =>
    rcases Nat.lt_or_ge n i with hlt | hge
    · exact ⟨[], by rw [show i = n + 1 by omega, List.append_nil]⟩
    · obtain ⟨t, ht⟩ := ih hge
      exact ⟨t ++ (R n).2.2.2, by rw [flatN, ht, List.append_assoc]⟩

end Go.Proofs.YtmfjhgjplmpecaaDoor.L5

namespace Go.Proofs.YtmfjhgjplmpecaaDoor
open Go.RowKit
set_option maxRecDepth 100000

set_option maxHeartbeats 2000000 in
theorem rjoin_any (l : Option Addr) (n c : Nat) (R : Nat → Option Addr × Nat × Nat × List Nat) (w : World) (hR : RowsM w l n R) (hn : n ≤ 1000) :
    Calls Tryd.prog 9 #[.slice l n c] w fun e w' => (∃ v, e = .returned v ∧ OwnQ .u8 5 w.heap.size w' v (flatM R n)) ∧ Below w.heap.size w w' := by
  obtain ⟨i0, hi, hz0, hz1, hz2⟩ := info_parts infoMk
  have HR := Lib.hid hR
  clear hR
  go_enter Tryd.func9, Tryd.ntmps9
  go_wp2_with fail
  go_loopw [3, 4] (fun o i wq => ∃ k : Nat, i = .int .i64 (k : Int) ∧ k ≤ n ∧ Hid (OwnQ .u8 5 w.heap.size wq o (flatM R k) ∧ Below w.heap.size w wq)) (fun _ i _ => n - (intOf i).toNat)
  case atStart => exact ⟨0, rfl, Nat.zero_le _, OwnQ.nil _ _ _ _, Below.refl _ _⟩
  case round =>
    obtain ⟨k, rfl, hk, hI⟩ := hrel
    by_cases hlt : k < n
    · obtain ⟨b, off, rfl, hbl, hcl⟩ := HR.out.cells (by omega)
      have hRk := HR.out.each k hlt
      have hfl := flatM_len HR.out k hk
      have hcell := (hI.out.2.cell (p := ⟨b, off + k, none⟩) hbl).trans (hcl k hlt)
      have HRK := Lib.hid (hRk.1.below hI.out.2)
      have hrl := hRk.2.2
      have hsz := hI.out.2.size
      have tl : decide ((k : Int) < (n : Int)) = true := by simp; omega
      clear hRk hcl
      go_wp2_with (at_builtin; refine wpList_append_q1 .u8 _ rfl _ _ 23 rfl w.heap.size 5 i0 Tryd.underlying23 hi hz0 hz1 hz2 _ (flatM R k) rfl hI.out.1 (R k).1 (R k).2.1 (R k).2.2.1 (R k).2.2.2 rfl HRK.out (by omega) hsz ?_; intro v2 w2 hown hgrow; have HO := Lib.hid hown; have HB := Lib.hid (hgrow w hI.out.2); clear hown hgrow)
      go_roundw
      case rel => exact ⟨k + 1, by go_num, by omega, HO.out, HB.out⟩
      case measure => simp [intOf]; omega
    · obtain rfl : k = n := by omega
      have tl : decide ((k : Int) < (k : Int)) = false := by simp
      go_wp2
      go_ret
      exact ⟨⟨_, rfl, hI.out.1⟩, hI.out.2⟩

theorem rsum_yes (h : Nat) (hh : IsHash h) (a : Option Addr) (n c : Nat) (bl : List Nat) (w : World) (hr : Reads .u8 w a n c bl) (hb : Byt bl) (hn : n ≤ 9000) :
    Calls Tryd.prog 11 #[.int .i64 (h : Int), .slice a n c] w fun e w' => (∃ v, e = .returned (.tuple #[v, .int .i64 0]) ∧ OwnQ .u8 5 w.heap.size w' v (mHash h bl)) ∧ Below w.heap.size w w' := by
  have HS := Lib.hid (rSize_yes hh)
  rcases hh with rfl | rfl | rfl | rfl
  · go_enter Tryd.func11, Tryd.ntmps11
    go_wp2_with fail
    refine (rsize_any 1 w).mono ?_
    rintro e w1 ⟨rfl, rfl⟩
    rw [show rSize 1 = 28 from HS.out]
    go_wp2_with fail
    refine (ref_hash 224 (.inl rfl) a n c bl w hr hb hn).mono ?_
    rintro e w1 ⟨⟨v, rfl, ho⟩, hb⟩
    go_wp2
    go_ret2
    exact ⟨⟨v, rfl, ho⟩, hb⟩
  · go_enter Tryd.func11, Tryd.ntmps11
    go_wp2_with fail
    refine (rsize_any 2 w).mono ?_
    rintro e w1 ⟨rfl, rfl⟩
    rw [show rSize 2 = 32 from HS.out]
    go_wp2_with fail
    refine (ref_hash 256 (.inr rfl) a n c bl w hr hb hn).mono ?_
    rintro e w1 ⟨⟨v, rfl, ho⟩, hb⟩
    go_wp2
    go_ret2
    exact ⟨⟨v, rfl, ho⟩, hb⟩
  · go_enter Tryd.func11, Tryd.ntmps11
    go_wp2_with fail
    refine (rsize_any 3 w).mono ?_
    rintro e w1 ⟨rfl, rfl⟩
    rw [show rSize 3 = 48 from HS.out]
    go_wp2_with fail
    refine (L5.ref_hash 384 (.inl rfl) a n c bl w hr hb hn).mono ?_
    rintro e w1 ⟨⟨v, rfl, ho⟩, hb⟩
    go_wp2
    go_ret2
    exact ⟨⟨v, rfl, ho⟩, hb⟩
  · go_enter Tryd.func11, Tryd.ntmps11
    go_wp2_with fail
    refine (rsize_any 4 w).mono ?_
    rintro e w1 ⟨rfl, rfl⟩
    rw [show rSize 4 = 64 from HS.out]
    go_wp2_with fail
    refine (L5.ref_hash 512 (.inr rfl) a n c bl w hr hb hn).mono ?_
    rintro e w1 ⟨⟨v, rfl, ho⟩, hb⟩
    go_wp2
    go_ret2
    exact ⟨⟨v, rfl, ho⟩, hb⟩
theorem rsum_no (h : Int) (hh : ¬ IsHash h.toNat) (a : Option Addr) (n c : Nat) (w : World) : Calls Tryd.prog 11 #[.int .i64 h, .slice a n c] w fun e w' => e = .returned (.tuple #[.slice none 0 0, .int .i64 80]) ∧ w = w' := by
  have HS := Lib.hid (rSize_no hh)
  go_enter Tryd.func11, Tryd.ntmps11
  go_wp2_with fail
  refine (rsize_any h w).mono ?_
  rintro e w1 ⟨rfl, rfl⟩
  rw [HS.out]
  go_wp2
  go_ret2
  exact ⟨rfl, rfl⟩

/-- The two rows that a piece is of. -/
def rowsR (a : Option Addr) (n c : Nat) (seed : List Nat) (g : Nat) (k : Nat) : Nat → Option Addr × Nat × Nat × List Nat
  | 0 => (a, n, c, seed)
  | _ => (some ⟨g, 0, none⟩, 4, 4, [0, 0, k / 256, k % 256])

set_option maxHeartbeats 4000000 in
theorem rmask_yes (h : Nat) (hh : IsHash h) (a : Option Addr) (n c : Nat) (seed : List Nat) (size : Nat) (w : World) (hr : Reads .u8 w a n c seed) (hb : Byt seed) (hn : n ≤ 8000) (hs : size ≤ 50000) :
    Calls Tryd.prog 13 #[.int .i64 (h : Int), .slice a n c, .int .i64 (size : Int)] w fun e w' => (∃ v, e = .returned (.tuple #[v, .int .i64 0]) ∧ OwnQ .u8 5 w.heap.size w' v (maskN h seed size)) ∧ Below w.heap.size w w' := by
  obtain ⟨i0, hi, hz0, hz1, hz2⟩ := info_parts infoMk
  have HR := Lib.hid hr
  have HRL := Lib.hid hr.length
  have HBY := Lib.hid hb
  have HH := Lib.hid hh
  have hsz := mSize_le hh
  obtain ⟨S, hS⟩ : ∃ S, mSize h = S := ⟨_, rfl⟩
  have HS := Lib.hid ((rSize_yes hh).trans (by rw [hS]))
  have HSS := Lib.hid hS
  rw [hS] at hsz
  have hS0 : ((S : Int) == 0) = false := by simp; omega
  clear hr hb hh hS
  go_enter Tryd.func13, Tryd.ntmps13
  go_wp2_with fail
  refine (rsize_any h w).mono ?_
  rintro e w1 ⟨rfl, rfl⟩
  rw [HS.out]
  go_wp2_with fail
  go_loopw [8, 9] (fun o i wq => ∃ (k m c' : Nat) (a' : Option Addr), i = .int .i64 (k : Int) ∧ o = .slice a' m c' ∧ m ≤ size ∧ k ≤ 2000 ∧ Hid (k * S < size + S ∧ m = min (k * S) size ∧ OwnQ .u8 5 w.heap.size wq o ((maskAll h seed k).take size) ∧ Below w.heap.size w wq)) (fun o _ _ => size - lenM o)
  case atStart => exact ⟨0, 0, 0, none, rfl, rfl, Nat.zero_le _, by omega, by omega, by simp, (by rw [maskAll, List.take_nil]; exact OwnQ.nil _ _ _ _), Below.refl _ _⟩
  case round =>
    obtain ⟨wq, hwq⟩ : ∃ x, x = wr := ⟨_, rfl⟩
    subst hwq
    obtain ⟨k, m, c', a', rfl, rfl, hms, hk2, hI⟩ := hrel
    by_cases hlt : m < size
    · have tl : decide ((m : Int) < (size : Int)) = true := by simp; omega
      have hkS : k * S < size := by have := hI.out.2.1; omega
      have hk3 : k ≤ 1999 := by
        have h1 : k * 28 ≤ k * S := Nat.mul_le_mul_left k hsz.1
        omega
      have HMK := Lib.hid (show m = k * S by have := hI.out.2.1; omega)
      have HO := Lib.hid (show OwnQ .u8 5 w.heap.size wq (.slice a' m c') (maskAll h seed k) from by
        have h1 := hI.out.2.2.1
        rwa [List.take_of_length_le (by rw [maskAll_len HH.out, HSS.out]; omega)] at h1)
      have HBq := Lib.hid hI.out.2.2.2
      obtain ⟨k1, hk1⟩ : ∃ k1, k / 256 = k1 := ⟨_, rfl⟩
      obtain ⟨k0, hk0⟩ : ∃ k0, k % 256 = k0 := ⟨_, rfl⟩
      have d1 : Int.tdiv (k : Int) 256 = (k1 : Int) := by rw [Int.tdiv_eq_ediv_of_nonneg (by omega)]; omega
      have d0 : Int.tmod (k : Int) 256 = (k0 : Int) := by rw [Int.tmod_eq_emod_of_nonneg (by omega)]; omega
      have hk1b : k1 < 256 := by omega
      have hk0b : k0 < 256 := by omega
      have HKK := Lib.hid (And.intro hk1 hk0)
      have hRows : ∀ (W : World), Below w.heap.size w W → RowsM ((W.alloc (.cells #[.int .u8 0, .int .u8 0, .int .u8 (k1 : Int), .int .u8 (k0 : Int)] 5)).alloc (.cells #[.slice a n c, .slice (some ⟨W.heap.size, 0, none⟩) 4 4] 23)) (some ⟨W.heap.size + 1, 0, none⟩) 2 (rowsR a n c seed W.heap.size k) := fun W hbW => by
        refine ⟨fun i hi => ?_, fun _ => ⟨_, 0, rfl, by simp, fun i hi => ?_⟩⟩
        · rcases (show i = 0 ∨ i = 1 by omega) with rfl | rfl
          · exact ⟨HR.out.below ((hbW.alloc hbW.size _).alloc (by have := hbW.size; simp; omega) _), HBY.out, show n ≤ 1048576 by omega⟩
          · refine ⟨?_, fun x hx => ?_, (by decide : 4 ≤ 1048576)⟩
            · exact (OwnQ.litM .u8 W 5 W.heap.size (Nat.le_refl _) [0, 0, k / 256, k % 256] _ 4 (by simp [num, HKK.out.1, HKK.out.2]) rfl (by simp [maxLen])).reads.below ((Below.refl _ _).alloc (Nat.le_refl _) _)
            · have : x = 0 ∨ x = k / 256 ∨ x = k % 256 := by simpa [rowsR] using hx
              rcases this with rfl | rfl | rfl <;> omega
        · have hsz2 : (W.alloc (.cells #[.int .u8 0, .int .u8 0, .int .u8 (k1 : Int), .int .u8 (k0 : Int)] 5)).heap.size = W.heap.size + 1 := World.size_alloc _ _
          have hq := World.alloc_heap_new (W.alloc (.cells #[.int .u8 0, .int .u8 0, .int .u8 (k1 : Int), .int .u8 (k0 : Int)] 5)) (.cells #[.slice a n c, .slice (some ⟨W.heap.size, 0, none⟩) 4 4] 23)
          rw [hsz2] at hq
          rw [Nat.zero_add, cellM hq]
          rcases (show i = 0 ∨ i = 1 by omega) with rfl | rfl <;> rfl
      have HRows := Lib.hid (hRows wq HBq.out)
      have HBal := Lib.hid ((HBq.out.alloc HBq.out.size (.cells #[.int .u8 0, .int .u8 0, .int .u8 (k1 : Int), .int .u8 (k0 : Int)] 5)).alloc (by have := HBq.out.size; simp; omega) (.cells #[.slice a n c, .slice (some ⟨wq.heap.size, 0, none⟩) 4 4] 23))
      have HBo := Lib.hid (((Below.refl wq.heap.size wq).alloc (Nat.le_refl _) (.cells #[.int .u8 0, .int .u8 0, .int .u8 (k1 : Int), .int .u8 (k0 : Int)] 5)).alloc (by simp) (.cells #[.slice a n c, .slice (some ⟨wq.heap.size, 0, none⟩) 4 4] 23))
      have HCT := Lib.hid (And.intro (And.intro hI.out.1 hI.out.2.1) trivial)
      clear hRows hI hk1 hk0
      go_wp2_with fail
      refine (rjoin_any _ 2 2 _ _ HRows.out (by decide)).mono ?_
      rintro e w2 ⟨⟨v2, rfl, hv⟩, hb⟩
      obtain ⟨ja, jn, jc, rfl, hjn, hj⟩ := own_slM hv
      rw [show flatM (rowsR a n c seed wq.heap.size k) 2 = seed ++ be4 k from rfl] at hjn hj
      have hjn2 : jn ≤ 8004 := by rw [hjn, List.length_append, HRL.out]; show n + 4 ≤ 8004; omega
      have HJ := Lib.hid hj
      have HB2 := Lib.hid (HBal.out.trans (hb.mono HBal.out.size))
      have HBo2 := Lib.hid (HBo.out.trans (hb.mono HBo.out.size))
      have HJB := Lib.hid (show Byt (seed ++ be4 k) from fun x hx => by
        rcases List.mem_append.1 hx with hx | hx
        · exact HBY.out x hx
        · exact be4_byt (by omega) x hx)
      clear hv hj hb hjn HBal HBo HRows
      go_wp2_with fail
      refine (rsum_yes h HH.out ja jn jc (seed ++ be4 k) _ HJ.out.reads HJB.out (by omega)).mono ?_
      rintro e w3 ⟨⟨v3, rfl, hv⟩, hb⟩
      obtain ⟨pa, pn, pc, rfl, hpn, hp⟩ := own_slM hv
      rw [mHash_len HH.out, HSS.out] at hpn
      subst hpn
      obtain ⟨pg, pc', hpe⟩ := hp.succ (by intro e; have := hp.cap.1; rw [e] at this; simp at this; omega)
      obtain ⟨rfl, rfl⟩ : pa = some ⟨pg, 0, none⟩ ∧ pc = pc' := by
        have := hp.cap.1
        rw [← this] at hpe
        simpa using hpe
      have hpg : w2.heap.size ≤ pg ∧ pg < w3.heap.size := World.ownsRow.lt hp pg (by simp [Value.ownBlock])
      change OwnQ .u8 _ _ _ _ (pieceN h seed k) at hp
      have hPB : Byt (pieceN h seed k) := mHash_byt HH.out _
      have HPB := Lib.hid hPB
      have hPL : pn = (pieceN h seed k).length := hp.cap.1
      have HPL := Lib.hid hPL
      have HOw := HO.out
      have hob : ∀ g, (Value.slice a' m c').ownBlock = some g → g < wq.heap.size := fun g e => (World.ownsRow.lt HOw g e).2
      have HB3 := Lib.hid (HB2.out.trans (hb.mono HB2.out.size))
      have HO3 := Lib.hid ((HO.out.below HBo2.out).below hb)
      have HP := Lib.hid hp
      have hw23 : wq.heap.size ≤ w2.heap.size := HBo2.out.size
      have HNE := Lib.hid (show ∀ g, (Value.slice a' m c').ownBlock = some g → g ≠ pg from fun g e => by have := hob g e; omega)
      generalize hPC : pieceN h seed k = PC at *
      have HPC := Lib.hid hPC
      have HAL := Lib.hid (show (maskAll h seed k).length = k * pn by rw [maskAll_len HH.out, HSS.out])
      generalize hAll : maskAll h seed k = AL at *
      have HALL := Lib.hid hAll
      clear hPC hv hb hp hob hPB hPL hpe HO HB2 HBo2 HOw hAll hw23
      go_wp2_with fail
      go_loopw [8, 12] (fun o i wr => ∃ (j m' c2 : Nat) (a2 : Option Addr), i = .int .i64 (j : Int) ∧ o = .slice a2 m' c2 ∧ j ≤ pn ∧ m' ≤ size ∧ Hid (m' = k * pn + j ∧ OwnQ .u8 5 w.heap.size wr o (AL ++ PC.take j) ∧ OwnQ .u8 5 w2.heap.size wr (.slice (some ⟨pg, 0, none⟩) pn pc) PC ∧ Below w.heap.size w wr ∧ pg < wr.heap.size ∧ ∀ g, o.ownBlock = some g → g ≠ pg)) (fun _ i _ => pn - (intOf i).toNat)
      case atStart => exact ⟨0, m, c', a', rfl, rfl, Nat.zero_le _, hms, HMK.out, by rw [List.take_zero, List.append_nil]; exact HO3.out, HP.out, HB3.out, hpg.2, HNE.out⟩
      case round =>
        obtain ⟨j, m', c2, a2, rfl, rfl, hj, hm', hI0⟩ := hrel
        have HMJ := Lib.hid hI0.out.1
        have hI := Lib.hid hI0.out.2
        clear hI0
        by_cases hj2 : j < pn
        · have tj : decide ((j : Int) < (pn : Int)) = true := by simp; omega
          by_cases hm2 : m' < size
          · have tm : decide ((m' : Int) < (size : Int)) = true := by simp; omega
            obtain ⟨x, hx⟩ : ∃ x, PC[j]?.getD 0 = x := ⟨_, rfl⟩
            have hc := hI.out.2.1.cellAt HPL.out j hj2
            rw [hx] at hc
            have hln : m' = (AL ++ PC.take j).length := hI.out.1.cap.1
            have HLN := Lib.hid hln
            have hsz2 := hI.out.2.2.1.size
            have HX := Lib.hid hx
            clear hln hx
            go_wp2_with (at_builtin; refine wpList_append_own_at _ rfl _ _ 23 rfl w.heap.size 5 i0 (.int .u8 0) 1 1 Tryd.underlying23 hi hz0 hz1 hz2 rfl (by decide) (.slice a2 m' c2) (AL ++ PC.take j).length ((AL ++ PC.take j).map (num .u8)) rfl (hI.out.1.alloc _) ⟨wr.heap.size, 0, none⟩ 1 1 [.int .u8 (x : Int)] rfl rfl (cell_one_new _ _ _) (by simp [Value.oneCell']) (by rw [← HLN.out]; unfold maxLen; omega) (by rw [← HLN.out]; omega) (by simp; omega) ?_; intro v5 w5 hown hgrow _ hblk; have HOW := Lib.hid hown; have HGR := Lib.hid hgrow; have HBL := Lib.hid hblk; clear hown hgrow hblk)
            have hjl : j < PC.length := by rw [← HPL.out]; exact hj2
            have hte : AL ++ PC.take (j + 1) = AL ++ PC.take j ++ [x] := by
              rw [← List.take_append_getElem hjl, ← List.append_assoc]
              have := HX.out
              rw [List.getElem?_eq_getElem hjl, Option.getD_some] at this
              rw [this]
            have ho5 : OwnQ .u8 5 w.heap.size w5 v5 (AL ++ PC.take (j + 1)) := by
              rw [hte]
              unfold OwnQ
              rw [List.map_append, List.length_append]
              exact HOW.out
            obtain ⟨a5, n5, c5, rfl, hn5, ho5'⟩ := own_slM ho5
            rw [hte, List.length_append, ← HLN.out] at hn5
            have HN5 := Lib.hid (show n5 = m' + 1 from hn5)
            have hn5b : n5 ≤ size := by have := HN5.out; omega
            have HO5 := Lib.hid ho5'
            have hal := (hI.out.2.2.1).alloc hsz2 (.cells #[.int .u8 (x : Int)] 5)
            have HB5 := Lib.hid (hal.grown HGR.out hal.size (fun g hg => (World.ownsRow.lt hI.out.1 g hg).1))
            have HP5 := Lib.hid (show OwnQ .u8 5 w2.heap.size w5 (.slice (some ⟨pg, 0, none⟩) pn pc) PC from World.ownsRow.kept (hI.out.2.1.alloc _) HGR.out (.inr fun e => hI.out.2.2.2.2 pg (by rw [← e]; simp [Value.ownBlock]) rfl))
            have hpg5 : pg < w5.heap.size := Nat.lt_of_lt_of_le (Nat.lt_of_lt_of_le hI.out.2.2.2.1 (by simp)) HGR.out.size
            have HNE5 := Lib.hid (show ∀ g, (Value.slice a5 n5 c5).ownBlock = some g → g ≠ pg from fun g e => by
              rcases HBL.out with h | h
              · exact hI.out.2.2.2.2 g (by rw [← h]; exact e)
              · rw [h] at e
                have := hI.out.2.2.2.1
                simp at e
                omega)
            clear ho5 ho5' hal hte hn5
            go_roundw
            case rel => exact ⟨j + 1, n5, c5, a5, by go_num, rfl, by omega, hn5b, by (have := HMJ.out; have := HN5.out; omega), HO5.out, HP5.out, HB5.out, hpg5, HNE5.out⟩
            case measure => simp [intOf]; omega
          · have tm : decide ((m' : Int) < (size : Int)) = false := by simp; omega
            have HF := Lib.hid (show OwnQ .u8 5 w.heap.size wr (.slice a2 m' c2) ((maskAll h seed (k + 1)).take size) ∧ Below w.heap.size w wr from by
              refine ⟨?_, hI.out.2.2.1⟩
              have h1 := hI.out.1
              rwa [maskAll, HALL.out, show pieceN h seed k = PC from HPC.out, List.take_append, List.take_of_length_le (by rw [HAL.out]; omega), HAL.out, show size - k * pn = j by (have := HMJ.out; omega)])
            have HMIN := Lib.hid (show m' = min ((k + 1) * pn) size by rw [Nat.succ_mul]; have := HMJ.out; omega)
            have hks : (k + 1) * pn < size + pn := by rw [Nat.succ_mul]; omega
            clear hI
            go_wp2
            go_roundw
            case rel => exact ⟨k + 1, m', c2, a2, by go_num, rfl, hm', by omega, hks, HMIN.out, HF.out.1, HF.out.2⟩
            case measure => simp [lenM]; omega
        · have tj : decide ((j : Int) < (pn : Int)) = false := by simp; omega
          have HF := Lib.hid (show OwnQ .u8 5 w.heap.size wr (.slice a2 m' c2) ((maskAll h seed (k + 1)).take size) ∧ Below w.heap.size w wr from by
            refine ⟨?_, hI.out.2.2.1⟩
            have h1 := hI.out.1
            have hjp : j = pn := by omega
            rw [hjp, HPL.out, List.take_length] at h1
            rwa [maskAll, HALL.out, show pieceN h seed k = PC from HPC.out, List.take_of_length_le (by rw [List.length_append, HAL.out, ← HPL.out]; have := HMJ.out; omega)])
          have HMIN := Lib.hid (show m' = min ((k + 1) * pn) size by rw [Nat.succ_mul]; have := HMJ.out; omega)
          have hks : (k + 1) * pn < size + pn := by rw [Nat.succ_mul]; omega
          clear hI
          go_wp2
          go_roundw
          case rel => exact ⟨k + 1, m', c2, a2, by go_num, rfl, hm', by omega, hks, HMIN.out, HF.out.1, HF.out.2⟩
          case measure => have h1 := HMJ.out; have h2 := HMK.out; simp [lenM]; omega
    · have hms2 : m = size := by omega
      subst hms2
      have tl : decide ((m : Int) < (m : Int)) = false := by simp
      have HF := Lib.hid (show OwnQ .u8 5 w.heap.size wq (.slice a' m c') (maskN h seed m) ∧ Below w.heap.size w wq from by
        refine ⟨?_, hI.out.2.2.2⟩
        have h1 := hI.out.2.2.1
        have hkm : m ≤ k * S := by have := hI.out.2.1; omega
        unfold maskN
        rwa [maskAll_take HH.out seed (k := k) (m := m) (by rw [HSS.out]; exact hkm) (by rw [HSS.out]; exact Nat.le_mul_of_pos_right m (by omega))] at h1)
      clear hI
      go_wp2
      go_ret2
      exact ⟨⟨_, rfl, HF.out.1⟩, HF.out.2⟩
end Go.Proofs.YtmfjhgjplmpecaaDoor

namespace Go.Proofs.YtmfjhgjplmpecaaDoor
open Go.RowKit Go.Shelf
set_option maxRecDepth 100000

set_option maxHeartbeats 1000000 in
theorem sum_A_own (h bt : Nat) (hh : h = 1 ∧ bt = 224 ∨ h = 2 ∧ bt = 256) (a : Option Addr) (n cap : Nat) (R : Nat → Option Addr × Nat × Nat × List Nat) (w : World) (hk : Kinds w) (hR : RowsM w a n R) (hn : n ≤ 1000) :
    Calls Tryd.prog 10 #[.int .i64 (h : Int), .slice a n cap] w fun e w' => (∃ g2 c2 c3, e = .returned (.tuple #[.slice (some ⟨g2, 0, none⟩) (bt / 8) c2, .int .i64 0]) ∧ (bt / 8 ≤ c2 ∧ c2 ≤ maxLen) ∧ OwnQ .u8 5 w.heap.size w' (.slice (some ⟨g2, 0, none⟩) (bt / 8) c3) (hashN bt (flatM R n))) ∧ Below w.heap.size w w' := by
  have HR := Lib.hid hR
  have HH := Lib.hid hh
  have HBT := Lib.hid (show bt = 224 ∨ bt = 256 by omega)
  have hbt0 : bt ≠ 0 := by omega
  clear hR hh
  go_enter Tryd.func10, Tryd.ntmps10
  go_wp2_with fail
  refine (open_A h bt HH.out w hk).mono ?_
  rintro e w1 ⟨⟨g, rfl, hg, hs⟩, h1⟩
  have hgl := stM_lt hs
  have HB1 := Lib.hid h1
  have HGW := Lib.hid hg
  have HS1 := Lib.hid (stM_below hs ((Below.refl w1.heap.size w1).alloc (Nat.le_refl _) (.cells #[.func (.func 32) #[.pointer (some ⟨g, 0, none⟩)] #[], .func (.func 33) #[.pointer (some ⟨g, 0, none⟩)] #[]] 50)) hgl)
  have HB2 := Lib.hid (h1.alloc h1.size (.cells #[.func (.func 32) #[.pointer (some ⟨g, 0, none⟩)] #[], .func (.func 33) #[.pointer (some ⟨g, 0, none⟩)] #[]] 50))
  have cF0 : (w1.alloc (.cells #[.func (.func 32) #[.pointer (some ⟨g, 0, none⟩)] #[], .func (.func 33) #[.pointer (some ⟨g, 0, none⟩)] #[]] 50)).cell? ⟨w1.heap.size, 0, none⟩ = some (.func (.func 32) #[.pointer (some ⟨g, 0, none⟩)] #[]) := by simp
  have cF1 : (w1.alloc (.cells #[.func (.func 32) #[.pointer (some ⟨g, 0, none⟩)] #[], .func (.func 33) #[.pointer (some ⟨g, 0, none⟩)] #[]] 50)).cell? ⟨w1.heap.size, 1, none⟩ = some (.func (.func 33) #[.pointer (some ⟨g, 0, none⟩)] #[]) := by simp
  have CF0 := Lib.hid cF0
  have CF1 := Lib.hid cF1
  have hfs : w1.heap.size < (w1.alloc (.cells #[.func (.func 32) #[.pointer (some ⟨g, 0, none⟩)] #[], .func (.func 33) #[.pointer (some ⟨g, 0, none⟩)] #[]] 50)).heap.size := by simp
  clear hs h1 hg cF0 cF1 hk
  go_wp2_with fail
  generalize w1.alloc (.cells #[.func (.func 32) #[.pointer (some ⟨g, 0, none⟩)] #[], .func (.func 33) #[.pointer (some ⟨g, 0, none⟩)] #[]] 50) = w2 at *
  have hz02 := HB2.out.size
  clear HB1
  generalize w1.heap.size = fb at *
  have HG2 := Lib.hid (show w2.grownBy w2 (some g) from ⟨rfl, rfl, rfl, Nat.le_refl _, fun _ _ _ => rfl⟩)
  go_loopw [19] (fun iv wq => ∃ i : Nat, iv = .int .i64 (i : Int) ∧ i ≤ n ∧ Hid (StateOf wq g bt (flatM R i) ∧ w2.grownBy wq (some g))) (fun iv _ => n - (intOf iv).toNat)
  case atStart => exact ⟨0, rfl, Nat.zero_le _, HS1.out, HG2.out⟩
  case round =>
    obtain ⟨i, rfl, hi, hI⟩ := hrel
    have HST := Lib.hid hI.out.1
    have HG := Lib.hid hI.out.2
    have cF0 := (World.cell?_of_block (a := ⟨fb, 0, none⟩) (HG.out.block fb hfs (fun e => by have := Option.some.inj e; omega))).trans CF0.out
    have cF1 := (World.cell?_of_block (a := ⟨fb, 1, none⟩) (HG.out.block fb hfs (fun e => by have := Option.some.inj e; omega))).trans CF1.out
    clear hI
    by_cases hlt : i < n
    · have tn : decide (i < n) = true := by simp; omega
      obtain ⟨b, off, rfl, hbk, hc⟩ := HR.out.cells (by omega)
      have HBW := Lib.hid (HB2.out.grown HG.out HB2.out.size (fun r e => by cases e; exact HGW.out))
      have hci := (World.cell?_of_block (a := ⟨b, off + i, none⟩) (HBW.out.block b hbk)).trans (hc i hlt)
      have he := HR.out.each i hlt
      have HEL := Lib.hid (show flatM R (i + 1) = flatM R i ++ (R i).2.2.2 from rfl)
      have HLN := Lib.hid (flatM_len HR.out i (by omega))
      obtain ⟨⟨ra, rl, rc, l⟩, hri⟩ : ∃ r, r = R i := ⟨_, rfl⟩
      rw [← hri] at hci he HEL
      dsimp only at hci he HEL
      have HE := Lib.hid he
      have hrl := he.2.2
      clear hc he hri
      go_wp2_with fail
      refine (write_any g bt (flatM R i) l ra rl rc wr HST.out hbt0 (HE.out.1.below HBW.out) HE.out.2.1 (by have := HLN.out; omega) (fun hp ad e => by
        subst e
        obtain ⟨b', off', e, hb', -⟩ := HE.out.1.cells hp
        cases e
        have := HGW.out
        exact Nat.ne_of_lt (Nat.lt_of_lt_of_le hb' this))).mono ?_
      rintro e w6 ⟨rfl, hs6, hg6⟩
      rw [← HEL.out] at hs6
      have HS6 := Lib.hid hs6
      have HG6 := Lib.hid (grown_trans HG.out hg6)
      clear hs6 hg6 hci cF0 cF1
      go_wp2
      go_roundw
      case rel => exact ⟨i + 1, by go_num, by omega, HS6.out, HG6.out⟩
      case measure => simp [intOf] <;> omega
    · have hin : i = n := by omega
      have tn : decide (i < n) = false := by simp; omega
      have HBW := Lib.hid (HB2.out.grown HG.out HB2.out.size (fun r e => by cases e; exact HGW.out))
      subst hin
      clear hlt
      go_wp2_with fail
      refine (sum_own g bt (flatM R i) wr HST.out HBT.out).mono ?_
      rintro e w7 ⟨⟨h1, cc, rfl, h7⟩, h9⟩
      have H7 := Lib.hid (h7.mono HBW.out.size)
      have HB7 := Lib.hid (HBW.out.trans (h9.mono HBW.out.size))
      clear h7 h9 cF0 cF1
      go_wp2
      go_ret2
      exact ⟨⟨h1, _, cc, rfl, ⟨Nat.le_refl _, by have := HBT.out; unfold maxLen; omega⟩, H7.out⟩, HB7.out⟩

set_option maxHeartbeats 1000000 in
theorem sum_B_own (h bt : Nat) (hh : h = 3 ∧ bt = 384 ∨ h = 4 ∧ bt = 512) (a : Option Addr) (n cap : Nat) (R : Nat → Option Addr × Nat × Nat × List Nat) (w : World) (hk : Kinds w) (hR : RowsM w a n R) (hn : n ≤ 1000) :
    Calls Tryd.prog 10 #[.int .i64 (h : Int), .slice a n cap] w fun e w' => (∃ g2 c2 c3, e = .returned (.tuple #[.slice (some ⟨g2, 0, none⟩) (bt / 8) c2, .int .i64 0]) ∧ (bt / 8 ≤ c2 ∧ c2 ≤ maxLen) ∧ OwnQ .u8 5 w.heap.size w' (.slice (some ⟨g2, 0, none⟩) (bt / 8) c3) (L5.hashN bt (flatM R n))) ∧ Below w.heap.size w w' := by
  have HR := Lib.hid hR
  have HH := Lib.hid hh
  have HBT := Lib.hid (show bt = 384 ∨ bt = 512 by omega)
  have hbt0 : bt ≠ 0 := by omega
  clear hR hh
  go_enter Tryd.func10, Tryd.ntmps10
  go_wp2_with fail
  refine (open_B h bt HH.out w hk).mono ?_
  rintro e w1 ⟨⟨g, rfl, hg, hs⟩, h1⟩
  have hgl := L5.stM_lt hs
  have HB1 := Lib.hid h1
  have HGW := Lib.hid hg
  have HS1 := Lib.hid (L5.stM_below hs ((Below.refl w1.heap.size w1).alloc (Nat.le_refl _) (.cells #[.func (.func 35) #[.pointer (some ⟨g, 0, none⟩)] #[], .func (.func 36) #[.pointer (some ⟨g, 0, none⟩)] #[]] 50)) hgl)
  have HB2 := Lib.hid (h1.alloc h1.size (.cells #[.func (.func 35) #[.pointer (some ⟨g, 0, none⟩)] #[], .func (.func 36) #[.pointer (some ⟨g, 0, none⟩)] #[]] 50))
  have cF0 : (w1.alloc (.cells #[.func (.func 35) #[.pointer (some ⟨g, 0, none⟩)] #[], .func (.func 36) #[.pointer (some ⟨g, 0, none⟩)] #[]] 50)).cell? ⟨w1.heap.size, 0, none⟩ = some (.func (.func 35) #[.pointer (some ⟨g, 0, none⟩)] #[]) := by simp
  have cF1 : (w1.alloc (.cells #[.func (.func 35) #[.pointer (some ⟨g, 0, none⟩)] #[], .func (.func 36) #[.pointer (some ⟨g, 0, none⟩)] #[]] 50)).cell? ⟨w1.heap.size, 1, none⟩ = some (.func (.func 36) #[.pointer (some ⟨g, 0, none⟩)] #[]) := by simp
  have CF0 := Lib.hid cF0
  have CF1 := Lib.hid cF1
  have hfs : w1.heap.size < (w1.alloc (.cells #[.func (.func 35) #[.pointer (some ⟨g, 0, none⟩)] #[], .func (.func 36) #[.pointer (some ⟨g, 0, none⟩)] #[]] 50)).heap.size := by simp
  clear hs h1 hg cF0 cF1 hk
  go_wp2_with fail
  generalize w1.alloc (.cells #[.func (.func 35) #[.pointer (some ⟨g, 0, none⟩)] #[], .func (.func 36) #[.pointer (some ⟨g, 0, none⟩)] #[]] 50) = w2 at *
  have hz02 := HB2.out.size
  clear HB1
  generalize w1.heap.size = fb at *
  have HG2 := Lib.hid (show w2.grownBy w2 (some g) from ⟨rfl, rfl, rfl, Nat.le_refl _, fun _ _ _ => rfl⟩)
  go_loopw [19] (fun iv wq => ∃ i : Nat, iv = .int .i64 (i : Int) ∧ i ≤ n ∧ Hid (L5.StateOf wq g bt (flatM R i) ∧ w2.grownBy wq (some g))) (fun iv _ => n - (intOf iv).toNat)
  case atStart => exact ⟨0, rfl, Nat.zero_le _, HS1.out, HG2.out⟩
  case round =>
    obtain ⟨i, rfl, hi, hI⟩ := hrel
    have HST := Lib.hid hI.out.1
    have HG := Lib.hid hI.out.2
    have cF0 := (World.cell?_of_block (a := ⟨fb, 0, none⟩) (HG.out.block fb hfs (fun e => by have := Option.some.inj e; omega))).trans CF0.out
    have cF1 := (World.cell?_of_block (a := ⟨fb, 1, none⟩) (HG.out.block fb hfs (fun e => by have := Option.some.inj e; omega))).trans CF1.out
    clear hI
    by_cases hlt : i < n
    · have tn : decide (i < n) = true := by simp; omega
      obtain ⟨b, off, rfl, hbk, hc⟩ := HR.out.cells (by omega)
      have HBW := Lib.hid (HB2.out.grown HG.out HB2.out.size (fun r e => by cases e; exact HGW.out))
      have hci := (World.cell?_of_block (a := ⟨b, off + i, none⟩) (HBW.out.block b hbk)).trans (hc i hlt)
      have he := HR.out.each i hlt
      have HEL := Lib.hid (show flatM R (i + 1) = flatM R i ++ (R i).2.2.2 from rfl)
      have HLN := Lib.hid (flatM_len HR.out i (by omega))
      obtain ⟨⟨ra, rl, rc, l⟩, hri⟩ : ∃ r, r = R i := ⟨_, rfl⟩
      rw [← hri] at hci he HEL
      dsimp only at hci he HEL
      have HE := Lib.hid he
      have hrl := he.2.2
      clear hc he hri
      go_wp2_with fail
      refine (L5.write_any g bt (flatM R i) l ra rl rc wr HST.out hbt0 (HE.out.1.below HBW.out) HE.out.2.1 (by have := HLN.out; omega) (fun hp ad e => by
        subst e
        obtain ⟨b', off', e, hb', -⟩ := HE.out.1.cells hp
        cases e
        have := HGW.out
        exact Nat.ne_of_lt (Nat.lt_of_lt_of_le hb' this))).mono ?_
      rintro e w6 ⟨rfl, hs6, hg6⟩
      rw [← HEL.out] at hs6
      have HS6 := Lib.hid hs6
      have HG6 := Lib.hid (grown_trans HG.out hg6)
      clear hs6 hg6 hci cF0 cF1
      go_wp2
      go_roundw
      case rel => exact ⟨i + 1, by go_num, by omega, HS6.out, HG6.out⟩
      case measure => simp [intOf] <;> omega
    · have hin : i = n := by omega
      have tn : decide (i < n) = false := by simp; omega
      have HBW := Lib.hid (HB2.out.grown HG.out HB2.out.size (fun r e => by cases e; exact HGW.out))
      subst hin
      clear hlt
      go_wp2_with fail
      refine (L5.sum_own g bt (flatM R i) wr HST.out HBT.out).mono ?_
      rintro e w7 ⟨⟨h1, cc, rfl, h7⟩, h9⟩
      have H7 := Lib.hid (h7.mono HBW.out.size)
      have HB7 := Lib.hid (HBW.out.trans (h9.mono HBW.out.size))
      clear h7 h9 cF0 cF1
      go_wp2
      go_ret2
      exact ⟨⟨h1, _, cc, rfl, ⟨H7.out.cap.2.1, H7.out.cap.2.2⟩, H7.out⟩, HB7.out⟩

theorem sum_yes_own (h : Nat) (hh : IsHash h) (a : Option Addr) (n cap : Nat) (R : Nat → Option Addr × Nat × Nat × List Nat) (w : World) (hk : Kinds w) (hR : RowsM w a n R) (hn : n ≤ 1000) :
    Calls Tryd.prog 10 #[.int .i64 (h : Int), .slice a n cap] w fun e w' => (∃ g2 c2 c3, e = .returned (.tuple #[.slice (some ⟨g2, 0, none⟩) (mSize h) c2, .int .i64 0]) ∧ (mSize h ≤ c2 ∧ c2 ≤ maxLen) ∧ OwnQ .u8 5 w.heap.size w' (.slice (some ⟨g2, 0, none⟩) (mSize h) c3) (mHash h (flatM R n))) ∧ Below w.heap.size w w' := by
  rcases hh with rfl | rfl | rfl | rfl
  · exact sum_A_own 1 224 (.inl ⟨rfl, rfl⟩) a n cap R w hk hR hn
  · exact sum_A_own 2 256 (.inr ⟨rfl, rfl⟩) a n cap R w hk hR hn
  · exact sum_B_own 3 384 (.inl ⟨rfl, rfl⟩) a n cap R w hk hR hn
  · exact sum_B_own 4 512 (.inr ⟨rfl, rfl⟩) a n cap R w hk hR hn
end Go.Proofs.YtmfjhgjplmpecaaDoor

namespace Go.Proofs.YtmfjhgjplmpecaaDoor
open Go.RowKit Go.Shelf
set_option maxRecDepth 100000

theorem mask_noHash (h : Int) (hn : h < 1 ∨ 4 < h) (a : Option Addr) (n c : Nat) (size : Int) (w : World) : Calls Tryd.prog 12 #[.int .i64 h, .slice a n c, .int .i64 size] w fun e w' => e = .returned (.tuple #[.slice none 0 0, .int .i64 80]) ∧ Below w.heap.size w w' := by
  have HB0 := Lib.hid ((Below.refl w.heap.size w).alloc (Nat.le_refl _) (.cells #[.int .i64 size] 3))
  go_enter Tryd.func12, Tryd.ntmps12
  go_wp2_with fail
  refine wp_scope_straight ?_
  go_wp2_with fail
  refine (known_noM h hn _).mono ?_
  rintro e w1 ⟨rfl, h1⟩
  have H1 := Lib.hid (HB0.out.trans (h1.mono HB0.out.size))
  clear h1 hn
  go_wp2
  rw [Exit.noGoto_ret]
  go_ret2
  exact ⟨rfl, (by have h := H1.out; have hs := h.size; (repeat' (first | exact h | refine Below.drew ?_ | refine Below.alloc ?_ (by first | omega | (simp; omega)) _)))⟩
theorem mask_noSize (h : Nat) (hh : IsHash h) (a : Option Addr) (n c : Nat) (size : Int) (w : World) (hk : Kinds w) (hs : size < 0 ∨ 65536 < size) : Calls Tryd.prog 12 #[.int .i64 (h : Int), .slice a n c, .int .i64 size] w fun e w' => e = .returned (.tuple #[.slice none 0 0, .int .i64 2]) ∧ Below w.heap.size w w' := by
  have HB0 := Lib.hid ((Below.refl w.heap.size w).alloc (Nat.le_refl _) (.cells #[.int .i64 size] 3))
  have BZ0 := Lib.hid (Boxed.new w 3 (.int .i64 size))
  have HK := Lib.hid hk
  have d1 : decide (size < 0) = true ∨ decide (size < 0) = false ∧ decide (65536 < size) = true := by
    by_cases h1 : size < 0
    · exact .inl (by simpa using h1)
    · exact .inr ⟨by simpa using h1, by simp; omega⟩
  clear hs hk
  rcases d1 with d1 | ⟨d1, d2⟩
  · go_enter Tryd.func12, Tryd.ntmps12
    go_wp2_with fail
    refine wp_scope_straight ?_
    go_wp2_with fail
    refine (known_yesM h hh _ (HK.out.below HB0.out)).mono ?_
    rintro e w1 ⟨rfl, h1⟩
    have H1 := Lib.hid (HB0.out.trans (h1.mono HB0.out.size))
    have cZ := (show Boxed w1 w.heap.size 3 (.int .i64 size) from (h1.block w.heap.size BZ0.out.lt).trans BZ0.out).cell
    have hlt : w.heap.size < w1.heap.size := by have := h1.size; simp at this; omega
    unfold kindV
    clear h1
    go_wp2
    rw [Exit.noGoto_ret]
    go_ret2
    exact ⟨rfl, (by have h := H1.out; have hs := h.size; (repeat' (first | exact h | refine Below.drew ?_ | refine Below.alloc ?_ (by first | omega | (simp; omega)) _)))⟩
  · go_enter Tryd.func12, Tryd.ntmps12
    go_wp2_with fail
    refine wp_scope_straight ?_
    go_wp2_with fail
    refine (known_yesM h hh _ (HK.out.below HB0.out)).mono ?_
    rintro e w1 ⟨rfl, h1⟩
    have H1 := Lib.hid (HB0.out.trans (h1.mono HB0.out.size))
    have cZ := (show Boxed w1 w.heap.size 3 (.int .i64 size) from (h1.block w.heap.size BZ0.out.lt).trans BZ0.out).cell
    have hlt : w.heap.size < w1.heap.size := by have := h1.size; simp at this; omega
    unfold kindV
    clear h1
    go_wp2
    rw [Exit.noGoto_ret]
    go_ret2
    exact ⟨rfl, (by have h := H1.out; have hs := h.size; (repeat' (first | exact h | refine Below.drew ?_ | refine Below.alloc ?_ (by first | omega | (simp; omega)) _)))⟩

set_option maxHeartbeats 4000000 in
theorem mnames_walk (w : World) (hk : Kinds w) : Calls Tryd.prog 5 #[] w fun e w' => e = .returned (.bool true) ∧ Below w.heap.size w w' := by
  obtain ⟨i0, hi, hz0, hz1, hz2⟩ := info_parts infoMk
  have HK := Lib.hid hk
  clear hk
  go_enter Tryd.func5, Tryd.ntmps5
  go_wp2_with (at_make; refine wpList_make_lcM .u8 _ rfl _ _ 23 rfl w.heap.size 5 i0 Tryd.underlying23 hi hz0 hz1 _ _ _ _ 32 32 rfl rfl rfl rfl (Nat.le_refl _) (by rw [hz2]; decide) (by unfold maxLen; omega) (Nat.le_refl _) ?_; intro w1 hown hgrow; have HD := Lib.hid hown; have HB := Lib.hid ((Below.refl w.heap.size w).grown hgrow (Nat.le_refl _) (fun r e => by cases e)); clear hown hgrow)
  refine (encode_yes 2 (by simp [IsHash]) (some ⟨w.heap.size, 0, none⟩) 32 32 (List.replicate 32 0) 62 w1 (HK.out.below HB.out) HD.out.reads rfl (by decide) (by decide)).mono ?_
  rintro e w2 ⟨⟨v, rfl, ho0⟩, hb⟩
  have HD := Lib.hid (HD.out.below hb)
  have HB := Lib.hid (HB.out.trans (hb.mono HB.out.size))
  obtain ⟨ea, en, ec, rfl, hen, ho⟩ := own_slM ho0
  have HE := Lib.hid ho
  clear ho0 ho
  rw [show (encL 2 (List.replicate 32 0) 62).length = 62 by kernel_rfl] at hen
  rw [hen] at HE ⊢
  clear hen
  clear hb
  go_wp2_with fail
  refine (encode_noSize 2 (by simp [IsHash]) (some ⟨w.heap.size, 0, none⟩) 32 32 (List.replicate 32 0) 61 w2 (HK.out.below HB.out) HD.out.reads rfl (.inl (by decide))).mono ?_
  rintro e w3 ⟨rfl, hb⟩
  have HD := Lib.hid (HD.out.below hb)
  have HE := Lib.hid (HE.out.below hb)
  have HB := Lib.hid (HB.out.trans (hb.mono HB.out.size))
  clear hb
  go_wp2_with fail
  refine (encode_noFrame 2 (some ⟨w.heap.size, 0, none⟩) 31 32 99 w3 (HK.out.below HB.out) (fun k hk e => by obtain rfl : k = 2 := (by omega); decide)).mono ?_
  rintro e w4 ⟨rfl, hb⟩
  have HD := Lib.hid (HD.out.below hb)
  have HE := Lib.hid (HE.out.below hb)
  have HB := Lib.hid (HB.out.trans (hb.mono HB.out.size))
  clear hb
  go_wp2_with fail
  refine (mask_noSize 2 (by simp [IsHash]) none 0 0 (-1) w4 (HK.out.below HB.out) (.inl (by decide))).mono ?_
  rintro e w5 ⟨rfl, hb⟩
  have HD := Lib.hid (HD.out.below hb)
  have HE := Lib.hid (HE.out.below hb)
  have HB := Lib.hid (HB.out.trans (hb.mono HB.out.size))
  clear hb
  go_wp2_with fail
  refine (mask_noSize 4 (by simp [IsHash]) none 0 0 65537 w5 (HK.out.below HB.out) (.inr (by decide))).mono ?_
  rintro e w6 ⟨rfl, hb⟩
  have HD := Lib.hid (HD.out.below hb)
  have HE := Lib.hid (HE.out.below hb)
  have HB := Lib.hid (HB.out.trans (hb.mono HB.out.size))
  clear hb
  go_wp2_with fail
  refine (mask_noHash 0 (.inl (by decide)) none 0 0 (-1) w6).mono ?_
  rintro e w7 ⟨rfl, hb⟩
  have HD := Lib.hid (HD.out.below hb)
  have HE := Lib.hid (HE.out.below hb)
  have HB := Lib.hid (HB.out.trans (hb.mono HB.out.size))
  clear hb
  go_wp2_with fail
  refine (sum_noM 5 (.inr (by decide)) none 0 0 w7).mono ?_
  rintro e w8 ⟨rfl, hb⟩
  have HD := Lib.hid (HD.out.below hb)
  have HE := Lib.hid (HE.out.below hb)
  have HB := Lib.hid (HB.out.trans (hb.mono HB.out.size))
  clear hb
  go_wp2_with fail
  refine (sum_noM (-1) (.inl (by decide)) _ 1 1 _).mono ?_
  rintro e w9 ⟨rfl, hb0⟩
  have hb := ((Below.refl w8.heap.size w8).alloc (Nat.le_refl _) _).trans (hb0.mono (by simp))
  have HD := Lib.hid (HD.out.below hb)
  have HE := Lib.hid (HE.out.below hb)
  have HB := Lib.hid (HB.out.trans (hb.mono HB.out.size))
  clear hb0
  clear hb
  go_wp2_with fail
  refine (frame_no 0 none 0 0 w9 (HK.out.below HB.out) (fun k hk e => by obtain rfl : k = 0 := (by omega); simp [IsHash] at hk)).mono ?_
  rintro e w10 ⟨rfl, hb⟩
  have HD := Lib.hid (HD.out.below hb)
  have HE := Lib.hid (HE.out.below hb)
  have HB := Lib.hid (HB.out.trans (hb.mono HB.out.size))
  clear hb
  go_wp2_with fail
  refine (mask_yes 1 (by simp [IsHash]) none 0 0 [] 0 w10 (HK.out.below HB.out) (Reads.none _ _) (by decide) (by decide) (by decide)).mono ?_
  rintro e w11 ⟨⟨v, rfl, ho0⟩, hb⟩
  have HD := Lib.hid (HD.out.below hb)
  have HE := Lib.hid (HE.out.below hb)
  have HB := Lib.hid (HB.out.trans (hb.mono HB.out.size))
  obtain ⟨na, nn, nc, rfl, hnn, ho⟩ := own_slM ho0
  clear ho0 ho
  obtain rfl : nn = 0 := by rw [hnn]; simp [maskN]
  clear hnn
  clear hb
  go_wp2_with fail
  refine (hex_any _ _ _ _ w11 (HE.out.reads.bts (by unfold encL; exact fun x hx => (by decide : ∀ y ∈ mEncP 2 (62 - (19 + mSize 2) - 3) (List.replicate 32 0), y < 256) x hx)) (by decide)).mono ?_
  rintro e w12 ⟨rfl, hb⟩
  have HD := Lib.hid (HD.out.below hb)
  have HE := Lib.hid (HE.out.below hb)
  have HB := Lib.hid (HB.out.trans (hb.mono HB.out.size))
  rw [show hexL (u8s (encL 2 (List.replicate 32 0) 62)) = [48, 48, 48, 49, 102, 102, 102, 102, 102, 102, 102, 102, 102, 102, 102, 102, 102, 102, 102, 102, 48, 48, 51, 48, 51, 49, 51, 48, 48, 100, 48, 54, 48, 57, 54, 48, 56, 54, 52, 56, 48, 49, 54, 53, 48, 51, 48, 52, 48, 50, 48, 49, 48, 53, 48, 48, 48, 52, 50, 48, 48, 48, 48, 48, 48, 48, 48, 48, 48, 48, 48, 48, 48, 48, 48, 48, 48, 48, 48, 48, 48, 48, 48, 48, 48, 48, 48, 48, 48, 48, 48, 48, 48, 48, 48, 48, 48, 48, 48, 48, 48, 48, 48, 48, 48, 48, 48, 48, 48, 48, 48, 48, 48, 48, 48, 48, 48, 48, 48, 48, 48, 48, 48, 48] by kernel_rfl]
  clear hb
  go_wp2_with fail
  refine (hex_any _ _ _ _ w12 (HD.out.reads.bts (by decide)) (by decide)).mono ?_
  rintro e w13 ⟨rfl, hb⟩
  have HD := Lib.hid (HD.out.below hb)
  have HE := Lib.hid (HE.out.below hb)
  have HB := Lib.hid (HB.out.trans (hb.mono HB.out.size))
  rw [show hexL (u8s (List.replicate 32 0)) = [48, 48, 48, 48, 48, 48, 48, 48, 48, 48, 48, 48, 48, 48, 48, 48, 48, 48, 48, 48, 48, 48, 48, 48, 48, 48, 48, 48, 48, 48, 48, 48, 48, 48, 48, 48, 48, 48, 48, 48, 48, 48, 48, 48, 48, 48, 48, 48, 48, 48, 48, 48, 48, 48, 48, 48, 48, 48, 48, 48, 48, 48, 48, 48] by kernel_rfl]
  have cat : (⟨#[48, 48, 48, 49, 102, 102, 102, 102, 102, 102, 102, 102, 102, 102, 102, 102, 102, 102, 102, 102, 48, 48, 51, 48, 51, 49, 51, 48, 48, 100, 48, 54, 48, 57, 54, 48, 56, 54, 52, 56, 48, 49, 54, 53, 48, 51, 48, 52, 48, 50, 48, 49, 48, 53, 48, 48, 48, 52, 50, 48]⟩ : ByteArray) ++ strOf [48, 48, 48, 48, 48, 48, 48, 48, 48, 48, 48, 48, 48, 48, 48, 48, 48, 48, 48, 48, 48, 48, 48, 48, 48, 48, 48, 48, 48, 48, 48, 48, 48, 48, 48, 48, 48, 48, 48, 48, 48, 48, 48, 48, 48, 48, 48, 48, 48, 48, 48, 48, 48, 48, 48, 48, 48, 48, 48, 48, 48, 48, 48, 48] = strOf [48, 48, 48, 49, 102, 102, 102, 102, 102, 102, 102, 102, 102, 102, 102, 102, 102, 102, 102, 102, 48, 48, 51, 48, 51, 49, 51, 48, 48, 100, 48, 54, 48, 57, 54, 48, 56, 54, 52, 56, 48, 49, 54, 53, 48, 51, 48, 52, 48, 50, 48, 49, 48, 53, 48, 48, 48, 52, 50, 48, 48, 48, 48, 48, 48, 48, 48, 48, 48, 48, 48, 48, 48, 48, 48, 48, 48, 48, 48, 48, 48, 48, 48, 48, 48, 48, 48, 48, 48, 48, 48, 48, 48, 48, 48, 48, 48, 48, 48, 48, 48, 48, 48, 48, 48, 48, 48, 48, 48, 48, 48, 48, 48, 48, 48, 48, 48, 48, 48, 48, 48, 48, 48, 48] := by kernel_rfl
  have cz : (strOf [48, 48, 48, 48, 48, 48, 48, 48, 48, 48, 48, 48, 48, 48, 48, 48, 48, 48, 48, 48, 48, 48, 48, 48, 48, 48, 48, 48, 48, 48, 48, 48, 48, 48, 48, 48, 48, 48, 48, 48, 48, 48, 48, 48, 48, 48, 48, 48, 48, 48, 48, 48, 48, 48, 48, 48, 48, 48, 48, 48, 48, 48, 48, 48]).size = 64 := by kernel_rfl
  clear hb
  go_wp2_with fail
  clear cat cz
  refine (frame_yes 1 (by simp [IsHash]) (some ⟨w.heap.size, 0, none⟩) 28 32 (List.replicate 28 0) w13 (HK.out.below HB.out) (by have h1 := (HD.out.upto 28 (by decide)).reads; rwa [List.take_replicate] at h1) rfl).mono ?_
  rintro e w14 ⟨⟨v, rfl, ho0⟩, hb⟩
  have HD := Lib.hid (HD.out.below hb)
  have HE := Lib.hid (HE.out.below hb)
  have HB := Lib.hid (HB.out.trans (hb.mono HB.out.size))
  obtain ⟨fa, fn, fc, rfl, hfn, ho⟩ := own_slM ho0
  have HF := Lib.hid ho
  clear ho0 ho
  rw [show (frameL 1 (List.replicate 28 0)).length = 47 by kernel_rfl] at hfn
  rw [hfn] at HF ⊢
  have hfc : 47 ≤ fc := HF.out.cap.2.1
  clear hfn
  clear hb
  go_wp2_with (at_make; refine wpList_make_lcM .u8 _ rfl _ _ 23 rfl w14.heap.size 5 i0 Tryd.underlying23 hi hz0 hz1 _ _ _ _ 48 48 rfl rfl rfl rfl (Nat.le_refl _) (by rw [hz2]; decide) (by unfold maxLen; omega) (Nat.le_refl _) ?_; intro w15 hown hgrow; have HMG := Lib.hid hown; have hb := (Below.refl w14.heap.size w14).grown hgrow (Nat.le_refl _) (fun r e => by cases e); have HD := Lib.hid (HD.out.below hb); have HF := Lib.hid (HF.out.below hb); have HB := Lib.hid (HB.out.trans (hb.mono HB.out.size)); clear hown hgrow hb)
  refine (frame_yes 3 (by simp [IsHash]) (some ⟨w14.heap.size, 0, none⟩) 48 48 (List.replicate 48 0) w15 (HK.out.below HB.out) HMG.out.reads rfl).mono ?_
  rintro e w16 ⟨⟨v, rfl, ho0⟩, hb⟩
  have HD := Lib.hid (HD.out.below hb)
  have HF := Lib.hid (HF.out.below hb)
  have HB := Lib.hid (HB.out.trans (hb.mono HB.out.size))
  obtain ⟨Ga, Gn, Gc, rfl, hfn, ho⟩ := own_slM ho0
  have HG := Lib.hid ho
  clear ho0 ho
  rw [show (frameL 3 (List.replicate 48 0)).length = 67 by kernel_rfl] at hfn
  rw [hfn] at HG ⊢
  have hGc : 67 ≤ Gc := HG.out.cap.2.1
  clear hfn
  clear hb
  go_wp2_with (at_make; refine wpList_make_lcM .u8 _ rfl _ _ 23 rfl w16.heap.size 5 i0 Tryd.underlying23 hi hz0 hz1 _ _ _ _ 64 64 rfl rfl rfl rfl (Nat.le_refl _) (by rw [hz2]; decide) (by unfold maxLen; omega) (Nat.le_refl _) ?_; intro w17 hown hgrow; have HMH := Lib.hid hown; have hb := (Below.refl w16.heap.size w16).grown hgrow (Nat.le_refl _) (fun r e => by cases e); have HD := Lib.hid (HD.out.below hb); have HF := Lib.hid (HF.out.below hb); have HG := Lib.hid (HG.out.below hb); have HB := Lib.hid (HB.out.trans (hb.mono HB.out.size)); clear hown hgrow hb)
  refine (frame_yes 4 (by simp [IsHash]) (some ⟨w16.heap.size, 0, none⟩) 64 64 (List.replicate 64 0) w17 (HK.out.below HB.out) HMH.out.reads rfl).mono ?_
  rintro e w18 ⟨⟨v, rfl, ho0⟩, hb⟩
  have HD := Lib.hid (HD.out.below hb)
  have HF := Lib.hid (HF.out.below hb)
  have HG := Lib.hid (HG.out.below hb)
  have HB := Lib.hid (HB.out.trans (hb.mono HB.out.size))
  obtain ⟨Ha, Hn, Hc, rfl, hfn, ho⟩ := own_slM ho0
  have HH := Lib.hid ho
  clear ho0 ho
  rw [show (frameL 4 (List.replicate 64 0)).length = 83 by kernel_rfl] at hfn
  rw [hfn] at HH ⊢
  have hHc : 83 ≤ Hc := HH.out.cap.2.1
  clear hfn
  clear hb
  go_wp2_with fail
  refine (hex_any _ 19 _ (u8s (frameH 1)) w18 (by have h1 := (HF.out.upto 19 (by decide)).reads; rw [show (frameL 1 (List.replicate 28 0)).take 19 = frameH 1 by kernel_rfl] at h1; exact h1.bts (frameH_lt (by simp [IsHash]))) (by decide)).mono ?_
  rintro e w19 ⟨rfl, hb⟩
  have HD := Lib.hid (HD.out.below hb)
  have HF := Lib.hid (HF.out.below hb)
  have HG := Lib.hid (HG.out.below hb)
  have HH := Lib.hid (HH.out.below hb)
  have HB := Lib.hid (HB.out.trans (hb.mono HB.out.size))
  rw [show hexL (u8s (frameH 1)) = [51, 48, 50, 100, 51, 48, 48, 100, 48, 54, 48, 57, 54, 48, 56, 54, 52, 56, 48, 49, 54, 53, 48, 51, 48, 52, 48, 50, 48, 52, 48, 53, 48, 48, 48, 52, 49, 99] by kernel_rfl]
  have tq1 : ((strOf [51, 48, 50, 100, 51, 48, 48, 100, 48, 54, 48, 57, 54, 48, 56, 54, 52, 56, 48, 49, 54, 53, 48, 51, 48, 52, 48, 50, 48, 52, 48, 53, 48, 48, 48, 52, 49, 99]).toList == [51, 48, 50, 100, 51, 48, 48, 100, 48, 54, 48, 57, 54, 48, 56, 54, 52, 56, 48, 49, 54, 53, 48, 51, 48, 52, 48, 50, 48, 52, 48, 53, 48, 48, 48, 52, 49, 99]) = true := by simp [strOf]
  clear hb
  go_wp2_with fail
  refine (hex_any _ 19 _ (u8s (frameH 3)) w19 (by have h1 := (HG.out.upto 19 (by decide)).reads; rw [show (frameL 3 (List.replicate 48 0)).take 19 = frameH 3 by kernel_rfl] at h1; exact h1.bts (frameH_lt (by simp [IsHash]))) (by decide)).mono ?_
  rintro e w20 ⟨rfl, hb⟩
  have HD := Lib.hid (HD.out.below hb)
  have HG := Lib.hid (HG.out.below hb)
  have HH := Lib.hid (HH.out.below hb)
  have HB := Lib.hid (HB.out.trans (hb.mono HB.out.size))
  rw [show hexL (u8s (frameH 3)) = [51, 48, 52, 49, 51, 48, 48, 100, 48, 54, 48, 57, 54, 48, 56, 54, 52, 56, 48, 49, 54, 53, 48, 51, 48, 52, 48, 50, 48, 50, 48, 53, 48, 48, 48, 52, 51, 48] by kernel_rfl]
  have tq3 : ((strOf [51, 48, 52, 49, 51, 48, 48, 100, 48, 54, 48, 57, 54, 48, 56, 54, 52, 56, 48, 49, 54, 53, 48, 51, 48, 52, 48, 50, 48, 50, 48, 53, 48, 48, 48, 52, 51, 48]).toList == [51, 48, 52, 49, 51, 48, 48, 100, 48, 54, 48, 57, 54, 48, 56, 54, 52, 56, 48, 49, 54, 53, 48, 51, 48, 52, 48, 50, 48, 50, 48, 53, 48, 48, 48, 52, 51, 48]) = true := by simp [strOf]
  clear hb
  go_wp2_with fail
  refine (hex_any _ 19 _ (u8s (frameH 4)) w20 (by have h1 := (HH.out.upto 19 (by decide)).reads; rw [show (frameL 4 (List.replicate 64 0)).take 19 = frameH 4 by kernel_rfl] at h1; exact h1.bts (frameH_lt (by simp [IsHash]))) (by decide)).mono ?_
  rintro e w21 ⟨rfl, hb⟩
  have HD := Lib.hid (HD.out.below hb)
  have HH := Lib.hid (HH.out.below hb)
  have HB := Lib.hid (HB.out.trans (hb.mono HB.out.size))
  rw [show hexL (u8s (frameH 4)) = [51, 48, 53, 49, 51, 48, 48, 100, 48, 54, 48, 57, 54, 48, 56, 54, 52, 56, 48, 49, 54, 53, 48, 51, 48, 52, 48, 50, 48, 51, 48, 53, 48, 48, 48, 52, 52, 48] by kernel_rfl]
  have tq4 : ((strOf [51, 48, 53, 49, 51, 48, 48, 100, 48, 54, 48, 57, 54, 48, 56, 54, 52, 56, 48, 49, 54, 53, 48, 51, 48, 52, 48, 50, 48, 51, 48, 53, 48, 48, 48, 52, 52, 48]).toList == [51, 48, 53, 49, 51, 48, 48, 100, 48, 54, 48, 57, 54, 48, 56, 54, 52, 56, 48, 49, 54, 53, 48, 51, 48, 52, 48, 50, 48, 51, 48, 53, 48, 48, 48, 52, 52, 48]) = true := by simp [strOf]
  clear hb
  go_wp2_with fail
  refine (size_no 0 (.inl (by decide)) w21).mono ?_
  rintro e w22 ⟨rfl, hb⟩
  have HD := Lib.hid (HD.out.below hb)
  have HB := Lib.hid (HB.out.trans (hb.mono HB.out.size))
  clear hb
  go_wp2_with fail
  refine (size_no (-1) (.inl (by decide)) w22).mono ?_
  rintro e w23 ⟨rfl, hb⟩
  have HD := Lib.hid (HD.out.below hb)
  have HB := Lib.hid (HB.out.trans (hb.mono HB.out.size))
  clear hb
  go_wp2_with fail
  refine (size_yes 4 (by simp [IsHash]) w23 (HK.out.below HB.out)).mono ?_
  rintro e w24 ⟨rfl, hb⟩
  have HD := Lib.hid (HD.out.below hb)
  have HB := Lib.hid (HB.out.trans (hb.mono HB.out.size))
  rw [show mSize 4 = 64 from rfl]
  clear hb
  go_wp2_with fail
  refine (name_yes 1 (by simp [IsHash]) w24 (HK.out.below HB.out)).mono ?_
  rintro e w25 ⟨rfl, hb⟩
  have HD := Lib.hid (HD.out.below hb)
  have HB := Lib.hid (HB.out.trans (hb.mono HB.out.size))
  rw [show mName 1 = [115, 104, 97, 50, 50, 52] from rfl]
  have tn : ((strOf [115, 104, 97, 50, 50, 52]).toList == [115, 104, 97, 50, 50, 52]) = true := by simp [strOf]
  clear hb
  go_wp2_with fail
  refine (named_any _ w25 (HK.out.below HB.out)).mono ?_
  rintro e w26 ⟨rfl, hb⟩
  have HD := Lib.hid (HD.out.below hb)
  have HB := Lib.hid (HB.out.trans (hb.mono HB.out.size))
  rw [show mNamed { data := #[115, 104, 97] } = 0 by kernel_rfl]
  clear hb
  go_wp2_with fail
  refine (named_any _ w26 (HK.out.below HB.out)).mono ?_
  rintro e w27 ⟨rfl, hb⟩
  have HD := Lib.hid (HD.out.below hb)
  have HB := Lib.hid (HB.out.trans (hb.mono HB.out.size))
  rw [show mNamed { data := #[] } = 0 by kernel_rfl]
  clear hb
  go_wp2_with fail
  refine (alive_m w27 (HK.out.below HB.out)).mono ?_
  rintro e w28 ⟨rfl, hb⟩
  have HD := Lib.hid (HD.out.below hb)
  have HB := Lib.hid (HB.out.trans (hb.mono HB.out.size))
  clear hb
  go_wp2
  go_ret
  exact ⟨by simp, HB.out⟩

end Go.Proofs.YtmfjhgjplmpecaaDoor

namespace Go.Proofs.YtmfjhgjplmpecaaDoor
open Go.RowKit
set_option maxRecDepth 100000

def sumL (h : Int) (m : List Nat) : List Nat := if IsHash h.toNat then mHash h.toNat m else []
def sumE (h : Int) : Int := if IsHash h.toNat then 0 else 80
def maskL (h : Int) (m : List Nat) (size : Int) : List Nat := if IsHash h.toNat ∧ 0 ≤ size ∧ size ≤ 65536 then maskN h.toNat m size.toNat else []
def maskE (h size : Int) : Int := if IsHash h.toNat then (if size < 0 ∨ 65536 < size then 2 else 0) else 80
def nameB (h : Int) : ByteArray := if IsHash h.toNat then strOf (mName h.toNat) else ⟨#[]⟩

theorem Reads.capM {q : IntKind} {w : World} {a : Option Addr} {n c c' : Nat} {l : List Nat} (h : Reads q w a n c l) (h1 : n ≤ c') (h2 : c' ≤ maxLen) (h3 : a = Option.none → c' = 0) : Reads q w a n c' l :=
  ⟨h.length, h1, h2, h3, h.cells⟩
theorem hash_cases (h : Int) : (∃ g : Nat, h = (g : Int) ∧ IsHash g) ∨ ¬ IsHash h.toNat ∧ (h < 1 ∨ 4 < h) := by
  by_cases hh : IsHash h.toNat
  · exact .inl ⟨h.toNat, by rcases hh with e | e | e | e <;> omega, hh⟩
  · refine .inr ⟨hh, ?_⟩
    unfold IsHash at hh
    omega

theorem msize_any (h : Int) (w : World) (hk : Kinds w) : Calls Tryd.prog 15 #[.int .i64 h] w fun e w' => e = .returned (.int .i64 (rSize h)) ∧ Below w.heap.size w w' := by
  rcases hash_cases h with ⟨g, rfl, hg⟩ | ⟨hn, hr⟩
  · rw [rSize_yes hg]
    exact size_yes g hg w hk
  · rw [rSize_no hn]
    exact size_no h hr w
theorem mname_any (h : Int) (w : World) (hk : Kinds w) : Calls Tryd.prog 17 #[.int .i64 h] w fun e w' => e = .returned (.string (nameB h)) ∧ Below w.heap.size w w' := by
  rcases hash_cases h with ⟨g, rfl, hg⟩ | ⟨hn, hr⟩
  · rw [nameB, Int.toNat_natCast, if_pos hg]
    exact name_yes g hg w hk
  · rw [nameB, if_neg hn]
    exact name_no h hr w
theorem rname_any (h : Int) (w : World) : Calls Tryd.prog 14 #[.int .i64 h] w fun e w' => e = .returned (.string (nameB h)) ∧ Below w.heap.size w w' := by
  have hb := (Below.refl w.heap.size w).alloc (Nat.le_refl _) (.cells #[.string ⟨#[]⟩, .string (strOf (mName 1)), .string (strOf (mName 2)), .string (strOf (mName 3)), .string (strOf (mName 4))] 9)
  have HB := Lib.hid hb
  clear hb
  rcases hash_cases h with ⟨g, rfl, hg⟩ | ⟨hn, hr⟩
  · rw [nameB, Int.toNat_natCast, if_pos hg]
    rcases hg with rfl | rfl | rfl | rfl
    all_goals (
      go_enter Tryd.func14, Tryd.ntmps14
      go_wp2
      go_ret
      exact ⟨rfl, HB.out⟩)
  · rw [nameB, if_neg hn]
    rcases hr with hr | hr
    · have t1 : decide (h < (1 : Int)) = true := decide_eq_true hr
      clear hr hn
      go_enter Tryd.func14, Tryd.ntmps14
      go_wp2
      go_ret
      exact ⟨rfl, Below.refl _ _⟩
    · have t1 : decide (h < (1 : Int)) = false := decide_eq_false (by omega)
      have t2 : decide ((4 : Int) < h) = true := decide_eq_true hr
      clear hr hn
      go_enter Tryd.func14, Tryd.ntmps14
      go_wp2
      go_ret
      exact ⟨rfl, Below.refl _ _⟩

theorem msum_any (h : Int) (a : Option Addr) (n cap : Nat) (R : Nat → Option Addr × Nat × Nat × List Nat) (w : World) (hk : Kinds w) (hR : RowsM w a n R) (hn : n ≤ 1000) :
    Calls Tryd.prog 10 #[.int .i64 h, .slice a n cap] w fun e w' => (∃ oa m c2 c3, e = .returned (.tuple #[.slice oa m c2, .int .i64 (sumE h)]) ∧ Reads .u8 w' oa m c2 (sumL h (flatM R n)) ∧ OwnQ .u8 5 w.heap.size w' (.slice oa m c3) (sumL h (flatM R n))) ∧ Below w.heap.size w w' := by
  rcases hash_cases h with ⟨g, rfl, hg⟩ | ⟨hn0, hr⟩
  · rw [sumL, sumE, Int.toNat_natCast, if_pos hg, if_pos hg]
    refine (sum_yes_own g hg a n cap R w hk hR hn).mono ?_
    rintro e w' ⟨⟨g2, c2, c3, rfl, hc, ho⟩, hb⟩
    exact ⟨⟨_, _, c2, c3, rfl, ho.reads.capM hc.1 hc.2 (fun e => by cases e), ho⟩, hb⟩
  · rw [sumL, sumE, if_neg hn0, if_neg hn0]
    refine (sum_noM h hr a n cap w).mono ?_
    rintro e w' ⟨rfl, hb⟩
    exact ⟨⟨none, 0, 0, 0, rfl, Reads.none _ _, OwnQ.nil _ _ _ _⟩, hb⟩
theorem mrsum_any (h : Int) (a : Option Addr) (n c : Nat) (bl : List Nat) (w : World) (hr : Reads .u8 w a n c bl) (hb : Byt bl) (hn : n ≤ 9000) :
    Calls Tryd.prog 11 #[.int .i64 h, .slice a n c] w fun e w' => (∃ oa m c2, e = .returned (.tuple #[.slice oa m c2, .int .i64 (sumE h)]) ∧ OwnQ .u8 5 w.heap.size w' (.slice oa m c2) (sumL h bl)) ∧ Below w.heap.size w w' := by
  rcases hash_cases h with ⟨g, rfl, hg⟩ | ⟨hn0, -⟩
  · rw [sumL, sumE, Int.toNat_natCast, if_pos hg, if_pos hg]
    refine (rsum_yes g hg a n c bl w hr hb hn).mono ?_
    rintro e w' ⟨⟨v, rfl, ho⟩, hb⟩
    obtain ⟨oa, m, c2, rfl, -, ho⟩ := own_slM ho
    exact ⟨⟨oa, m, c2, rfl, ho⟩, hb⟩
  · rw [sumL, sumE, if_neg hn0, if_neg hn0]
    refine (rsum_no h hn0 a n c w).mono ?_
    rintro e w' ⟨rfl, rfl⟩
    exact ⟨⟨none, 0, 0, rfl, OwnQ.nil _ _ _ _⟩, Below.refl _ _⟩
theorem rmask_noHash (h : Int) (hn : ¬ IsHash h.toNat) (a : Option Addr) (n c : Nat) (size : Int) (w : World) : Calls Tryd.prog 13 #[.int .i64 h, .slice a n c, .int .i64 size] w fun e w' => e = .returned (.tuple #[.slice none 0 0, .int .i64 80]) ∧ w = w' := by
  have HS := Lib.hid (rSize_no hn)
  clear hn
  go_enter Tryd.func13, Tryd.ntmps13
  go_wp2_with fail
  refine (rsize_any h w).mono ?_
  rintro e w1 ⟨rfl, rfl⟩
  rw [HS.out]
  go_wp2
  go_ret2
  exact ⟨rfl, rfl⟩
theorem rmask_noSize (h : Nat) (hh : IsHash h) (a : Option Addr) (n c : Nat) (size : Int) (hs : size < 0 ∨ 65536 < size) (w : World) : Calls Tryd.prog 13 #[.int .i64 (h : Int), .slice a n c, .int .i64 size] w fun e w' => e = .returned (.tuple #[.slice none 0 0, .int .i64 2]) ∧ w = w' := by
  have hsz := mSize_le hh
  obtain ⟨S, hS⟩ : ∃ S, mSize h = S := ⟨_, rfl⟩
  have HS := Lib.hid ((rSize_yes hh).trans (by rw [hS]))
  rw [hS] at hsz
  have hS0 : ((S : Int) == 0) = false := by simp; omega
  clear hh hS
  by_cases h1 : size < 0
  · have t1 : decide (size < (0 : Int)) = true := decide_eq_true h1
    clear hs h1
    go_enter Tryd.func13, Tryd.ntmps13
    go_wp2_with fail
    refine (rsize_any h w).mono ?_
    rintro e w1 ⟨rfl, rfl⟩
    rw [HS.out]
    go_wp2
    go_ret2
    exact ⟨rfl, rfl⟩
  · have t1 : decide (size < (0 : Int)) = false := decide_eq_false h1
    have t2 : decide ((65536 : Int) < size) = true := decide_eq_true (by omega)
    clear hs h1
    go_enter Tryd.func13, Tryd.ntmps13
    go_wp2_with fail
    refine (rsize_any h w).mono ?_
    rintro e w1 ⟨rfl, rfl⟩
    rw [HS.out]
    go_wp2
    go_ret2
    exact ⟨rfl, rfl⟩

theorem maskL_small {g : Nat} (hg : IsHash g) (m : List Nat) (n : Nat) (hn : n ≤ 65536) : maskL (g : Int) m (n : Int) = maskN g m n ∧ maskE (g : Int) (n : Int) = 0 := by
  unfold maskL maskE
  rw [Int.toNat_natCast, if_pos ⟨hg, by omega, by omega⟩, if_pos hg, if_neg (by omega), Int.toNat_natCast]
  exact ⟨rfl, rfl⟩
theorem maskL_out {g : Nat} (hg : IsHash g) (m : List Nat) (s : Int) (hs : s < 0 ∨ 65536 < s) : maskL (g : Int) m s = [] ∧ maskE (g : Int) s = 2 := by
  unfold maskL maskE
  rw [Int.toNat_natCast, if_neg (fun h => by omega), if_pos hg, if_pos hs]
  exact ⟨rfl, rfl⟩
theorem maskL_no {h : Int} (hh : ¬ IsHash h.toNat) (m : List Nat) (s : Int) : maskL h m s = [] ∧ maskE h s = 80 := by
  unfold maskL maskE
  rw [if_neg (fun k => hh k.1), if_neg hh]
  exact ⟨rfl, rfl⟩
theorem mmask_any (h : Int) (a : Option Addr) (ls cs : Nat) (seed : List Nat) (size : Int) (w : World) (hk : Kinds w) (hr : Reads .u8 w a ls cs seed) (hsb : Byt seed) (hls : ls ≤ 8000) (hs : size ≤ 600 ∨ 65536 < size) :
    Calls Tryd.prog 12 #[.int .i64 h, .slice a ls cs, .int .i64 size] w fun e w' => (∃ oa m c2, e = .returned (.tuple #[.slice oa m c2, .int .i64 (maskE h size)]) ∧ OwnQ .u8 5 w.heap.size w' (.slice oa m c2) (maskL h seed size)) ∧ Below w.heap.size w w' := by
  rcases hash_cases h with ⟨g, rfl, hg⟩ | ⟨hn0, hr0⟩
  · by_cases h0 : 0 ≤ size ∧ size ≤ 600
    · obtain ⟨n, rfl⟩ : ∃ n : Nat, size = (n : Int) := ⟨size.toNat, by omega⟩
      rw [(maskL_small hg seed n (by omega)).1, (maskL_small hg seed n (by omega)).2]
      refine (mask_yes g hg a ls cs seed n w hk hr hsb (by omega) (by omega)).mono ?_
      rintro e w' ⟨⟨v, rfl, ho⟩, hb⟩
      obtain ⟨oa, m, c2, rfl, -, ho⟩ := own_slM ho
      exact ⟨⟨oa, m, c2, rfl, ho⟩, hb⟩
    · rw [(maskL_out hg seed size (by omega)).1, (maskL_out hg seed size (by omega)).2]
      refine (mask_noSize g hg a ls cs size w hk (by omega)).mono ?_
      rintro e w' ⟨rfl, hb⟩
      exact ⟨⟨none, 0, 0, rfl, OwnQ.nil _ _ _ _⟩, hb⟩
  · rw [(maskL_no hn0 seed size).1, (maskL_no hn0 seed size).2]
    refine (mask_noHash h hr0 a ls cs size w).mono ?_
    rintro e w' ⟨rfl, hb⟩
    exact ⟨⟨none, 0, 0, rfl, OwnQ.nil _ _ _ _⟩, hb⟩
theorem mrmask_any (h : Int) (a : Option Addr) (ls cs : Nat) (seed : List Nat) (size : Int) (w : World) (hr : Reads .u8 w a ls cs seed) (hsb : Byt seed) (hls : ls ≤ 8000) (hs : size ≤ 600 ∨ 65536 < size) :
    Calls Tryd.prog 13 #[.int .i64 h, .slice a ls cs, .int .i64 size] w fun e w' => (∃ oa m c2, e = .returned (.tuple #[.slice oa m c2, .int .i64 (maskE h size)]) ∧ OwnQ .u8 5 w.heap.size w' (.slice oa m c2) (maskL h seed size)) ∧ Below w.heap.size w w' := by
  rcases hash_cases h with ⟨g, rfl, hg⟩ | ⟨hn0, -⟩
  · by_cases h0 : 0 ≤ size ∧ size ≤ 600
    · obtain ⟨n, rfl⟩ : ∃ n : Nat, size = (n : Int) := ⟨size.toNat, by omega⟩
      rw [(maskL_small hg seed n (by omega)).1, (maskL_small hg seed n (by omega)).2]
      refine (rmask_yes g hg a ls cs seed n w hr hsb (by omega) (by omega)).mono ?_
      rintro e w' ⟨⟨v, rfl, ho⟩, hb⟩
      obtain ⟨oa, m, c2, rfl, -, ho⟩ := own_slM ho
      exact ⟨⟨oa, m, c2, rfl, ho⟩, hb⟩
    · rw [(maskL_out hg seed size (by omega)).1, (maskL_out hg seed size (by omega)).2]
      refine (rmask_noSize g hg a ls cs size (by omega) w).mono ?_
      rintro e w' ⟨rfl, rfl⟩
      exact ⟨⟨none, 0, 0, rfl, OwnQ.nil _ _ _ _⟩, Below.refl _ _⟩
  · rw [(maskL_no hn0 seed size).1, (maskL_no hn0 seed size).2]
    refine (rmask_noHash h hn0 a ls cs size w).mono ?_
    rintro e w' ⟨rfl, rfl⟩
    exact ⟨⟨none, 0, 0, rfl, OwnQ.nil _ _ _ _⟩, Below.refl _ _⟩

/-- Which of the first k - 1 hashes bears a name. -/
def nmU (s : ByteArray) : Nat → Int
  | 0 => 0
  | k + 1 => if eqS (k + 1) s = true then ((k + 1 : Nat) : Int) else nmU s k
theorem eqS_one {s : ByteArray} {i j : Nat} (hi : i = 1 ∨ i = 2 ∨ i = 3 ∨ i = 4) (hj : j = 1 ∨ j = 2 ∨ j = 3 ∨ j = 4) (h1 : eqS i s = true) (h2 : eqS j s = true) : i = j := by
  unfold eqS at h1 h2
  rw [beq_iff_eq] at h1 h2
  have h3 := h1.trans h2.symm
  rcases hi with rfl | rfl | rfl | rfl <;> rcases hj with rfl | rfl | rfl | rfl <;> first | rfl | (simp [strOf, mName] at h3)
theorem nmU_four (s : ByteArray) : nmU s 4 = mNamed s := by
  unfold mNamed
  simp only [nmU]
  by_cases h1 : eqS 1 s = true
  · have n2 : ¬ eqS 2 s = true := fun h => by have := eqS_one (i := 1) (j := 2) (by simp) (by simp) h1 h; omega
    have n3 : ¬ eqS 3 s = true := fun h => by have := eqS_one (i := 1) (j := 3) (by simp) (by simp) h1 h; omega
    have n4 : ¬ eqS 4 s = true := fun h => by have := eqS_one (i := 1) (j := 4) (by simp) (by simp) h1 h; omega
    simp [h1, n2, n3, n4]
  · by_cases h2 : eqS 2 s = true
    · have n3 : ¬ eqS 3 s = true := fun h => by have := eqS_one (i := 2) (j := 3) (by simp) (by simp) h2 h; omega
      have n4 : ¬ eqS 4 s = true := fun h => by have := eqS_one (i := 2) (j := 4) (by simp) (by simp) h2 h; omega
      simp [h1, h2, n3, n4]
    · by_cases h3 : eqS 3 s = true
      · have n4 : ¬ eqS 4 s = true := fun h => by have := eqS_one (i := 3) (j := 4) (by simp) (by simp) h3 h; omega
        simp [h1, h2, h3, n4]
      · by_cases h4 : eqS 4 s = true <;> simp [h1, h2, h3, h4]
end Go.Proofs.YtmfjhgjplmpecaaDoor

namespace Go.Proofs.YtmfjhgjplmpecaaDoor
open Go.RowKit

/-- The contract. -/
def SeqW {α : Type} (R V : Nat → Prop) (F : Fence) (n : Nat) (P : Program) (g : Nat) (lb : Array Value) (encs : α → Array Value) (S Sp : List α → Prop) (N : Nat) (w : World) : Prop :=
  ∀ (l : Nat) (J Jx : List α → World → Prop) (W : World), Below w.heap.size w W → (∀ s X X' row, J s X → X.grownBy X' row → (∀ r, row = some r → V r) → J s X') →
    (∀ s X X' row, Jx s X → X.grownBy X' row → (∀ r, row = some r → V r) → Jx s X') →
    (∀ pre x X, pre.length < N → J pre X → YieldAt F (n - 1) P l (encs x) X fun e X' => (e = .returned (.bool true) ∧ J (pre ++ [x]) X' ∧ KpR R X X') ∨ (e = .returned (.bool false) ∧ Jx (pre ++ [x]) X')) →
    J [] W → CallsIn F n P g (#[.func (.yield l) #[] #[]] ++ lb) W fun e X => (∃ v, e = .returned v) ∧ ((∃ xs, S xs ∧ J xs X) ∨ ∃ pre, Sp pre ∧ Jx pre X)
set_option maxHeartbeats 1000000 in
/-- The caller's law. -/
theorem wpIn_rangeW {α : Type} {F : Fence} {n : Nat} {P : Program} {R V : Nat → Prop} {g : Operand} {ps : Array Tmp} {assign body : Code} {Q : Exit → Act → World → Prop} {a : Act} {w : World}
    (hro : F.round = none) (h1 : 1 ≤ n) {gf : Nat} {lb : Array Value} (hg : a.eval g = .func (.func gf) #[] lb) (hFg : F.fn gf) (eg : ∀ args w, (callFunc gf args).run P w = .ok (.enter gf args) w)
    {encs : α → Array Value} {S Sp : List α → Prop} {N : Nat} {w0 : World} (hseq : SeqW R V F (n - 1) P gf lb encs S Sp N w0) (hVR : ∀ k, V k → R k) (hRl : ∀ k, R k → k < w.heap.size) (hb0 : Below w0.heap.size w0 w) (hps : ∀ x, (encs x).size = ps.size)
    (I : List α → World → Prop) (Ix : Code → List α → World → Prop) (hI : StaysR V w.heap.size I) (hIx : ∀ c, StaysR V w.heap.size (Ix c)) (h0 : I [] w) (a₁ : α → Act)
    (hassign : ∀ (l : Nat) (x : α) (W : World) (K : Act → World → Prop), K (a₁ x) W →
      assign.wpIn (F.inRound l) (n - 1 - 1) P (Exit.then K (fun _ _ _ => False)) { tmps := (ps.zip (encs x)).foldl (fun t (p, v) => t.setIfInBounds p v) a.tmps, defers := [] } W)
    (hbody : ∀ (l : Nat) (pre : List α) (x : α) (W : World), pre.length < N → I pre W → body.wpIn (F.inRound l) (n - 1 - 1) P (ownPostG w.heap.size (KpR R) I Ix (pre ++ [x]) W) (a₁ x) W)
    (hdone : ∀ (D : Nat) (xs : List α) (W : World), w.heap.size ≤ D → S xs → I xs W → W.heap[D]? = some (.deferred (some [])) → Q .normal { a with defers := { target := .collected D, args := #[] } :: a.defers } W)
    (hstop : ∀ (D : Nat) (c : Code) (pre : List α) (W : World), w.heap.size ≤ D → Sp pre → Ix c pre W → W.heap[D]? = some (.deferred (some [])) → c.wpIn F n P Q { a with defers := { target := .collected D, args := #[] } :: a.defers } W) :
    (Code.rangeFunc g ps assign body).wpIn F n P Q a w := by
  refine wpIn_rangeFunc fun fn hfn => ?_
  rw [hro]
  generalize hB : w.heap.size = B at *
  obtain ⟨rc, hrc⟩ : ∃ rc : LoopState → Option Code → Loop, rc = fun st pe => { state := st, pending := pe, fn, tmps := a.tmps, params := ps, assign, body, defers := B } := ⟨_, rfl⟩
  obtain ⟨W1, hW1⟩ : ∃ W1, (w.alloc (.deferred (some []))).alloc (.loop (rc .ready none)) = W1 := ⟨_, rfl⟩
  have bel1 : Below B w W1 := by rw [← hW1]; exact ((Below.refl _ w).alloc (Nat.le_of_eq hB.symm) _).alloc (by simp; omega) _
  have hD1 : W1.heap[B]? = some (.deferred (some [])) := by
    rw [← hW1]
    refine (Below.heap_alloc _ _ _ (by simp; omega)).trans ?_
    have := World.alloc_heap_new w (.deferred (some []))
    rwa [hB] at this
  have hL1 : W1.heap[B + 1]? = some (.loop (rc .ready none)) := by
    have := World.alloc_heap_new (w.alloc (.deferred (some []))) (.loop (rc .ready none))
    rwa [World.size_alloc, hB, hW1] at this
  have hz1 : W1.heap.size = B + 2 := by rw [← hW1]; simp; omega
  have hi1 : I [] W1 := by
    rw [← hW1]
    exact hI _ _ _ none (hI _ _ _ none h0 (World.grownBy_alloc w _ none) (fun r e => by cases e)) (World.grownBy_alloc _ _ none) (fun r e => by cases e)
  have put : ∀ {G : List α → World → Prop} (_ : StaysR V B G) {s : List α} {W : World} {r : Loop} (o : Obj), G s W → W.heap[B + 1]? = some (.loop r) → G s (W.putObj (B + 1) o) := fun hG s W r o hs hl =>
    hG s W _ (some (B + 1)) hs (grownBy_putObj' W (B + 1) o) (fun k e => by cases e; exact .inr ⟨by omega, _, hl, rfl⟩)
  refine ⟨B + 1, [{ target := .collected B, args := #[] }], W1, { target := .fn (.func gf) lb, args := #[.func (.yield (B + 1)) #[] #[]] }, W1, gf, #[.func (.yield (B + 1)) #[] #[]] ++ lb, W1, ?_, by simp only [resolve, hg]; simp [go_sem], ?_, by simp [invoke, go_sem, eg], fun _ => h1, ?_⟩
  · rw [← hW1, hrc, ← hB]
    exact run_enterLoop_outer _ _ _ _ _
  · intro f' hf'
    simp [Target.leads] at hf'
    subst hf'
    exact hFg
  have stay : ∀ {G : List α → World → Prop} (_ : StaysR V B G) (ro : Loop) (s : List α) (X X' : World) (row : Option Nat), (G s X ∧ X.heap[B + 1]? = some (.loop ro) ∧ X.heap[B]? = some (.deferred (some []))) → X.grownBy X' row → (∀ r, row = some r → V r) → G s X' ∧ X'.heap[B + 1]? = some (.loop ro) ∧ X'.heap[B]? = some (.deferred (some [])) := fun hG ro s X X' row h hgr hr =>
    ⟨hG s X X' row h.1 hgr (fun r e => .inl (hr r e)), (hgr.block _ (Array.getElem?_eq_some_iff.1 h.2.1).1 (fun e => by have := hRl _ (hVR _ (hr _ e.symm)); omega)).trans h.2.1, (hgr.block _ (Array.getElem?_eq_some_iff.1 h.2.2).1 (fun e => by have := hRl _ (hVR _ (hr _ e.symm)); omega)).trans h.2.2⟩
  refine (hseq (B + 1) (fun s X => I s X ∧ X.heap[B + 1]? = some (.loop (rc .ready none)) ∧ X.heap[B]? = some (.deferred (some [])))
    (fun s X => ∃ c, Ix c s X ∧ X.heap[B + 1]? = some (.loop (rc .done (some c))) ∧ X.heap[B]? = some (.deferred (some []))) W1 (hb0.trans (bel1.mono (by rw [← hB]; exact hb0.size)))
    (fun s X X' row h hgr hr => stay hI _ s X X' row h hgr hr) (fun s X X' row ⟨c, h⟩ hgr hr => ⟨c, stay (hIx c) _ s X X' row h hgr hr⟩) ?_ ⟨hi1, hL1, hD1⟩).mono ?_
  · rintro pre x X hN ⟨hi, hl, hd⟩
    have hlt : B + 1 < X.heap.size := (Array.getElem?_eq_some_iff.1 hl).1
    have hy := run_yield (P := P) (args := encs x) hl (by rw [hrc]; exact hps x)
    rw [hrc] at hy
    refine ⟨fn, _, assign, body, hy, roundIn_of_wpIn hfn (hassign _ x X _ ⟨_, run_beginRound hl (by rw [hrc]), wpIn_mono (hbody _ pre x _ hN (put hI _ hi hl)) ?_⟩)⟩
    obtain ⟨X2, hX2⟩ : ∃ X2, X.putObj (B + 1) (.loop { rc .ready none with state := .busy }) = X2 := ⟨_, rfl⟩
    rw [hX2]
    have hl2 : X2.heap[B + 1]? = some (.loop { rc .ready none with state := .busy }) := by rw [← hX2]; exact World.putObj_heap_same hlt
    have hd2 : X2.heap[B]? = some (.deferred (some [])) := by rw [← hX2]; exact (World.putObj_heap_other (by omega)).trans hd
    have kp2 : KpR R X X2 := by rw [← hX2]; exact KpR.put X _ _ (fun h => by have := hRl _ h; omega)
    have last : ∀ (j : Option Code) (X3 : World), KeepsFrom B X2 X3 → (Instr.endRound (B + 1) j).run P X3 = .ok (.bool j.isNone) (X3.putObj (B + 1) (.loop (rc (if j.isNone then .ready else .done) j))) ∧ X3.heap[B + 1]? = some (.loop { rc .ready none with state := .busy }) ∧ (X3.putObj (B + 1) (.loop (rc (if j.isNone then .ready else .done) j))).heap[B + 1]? = some (.loop (rc (if j.isNone then .ready else .done) j)) ∧ (X3.putObj (B + 1) (.loop (rc (if j.isNone then .ready else .done) j))).heap[B]? = some (.deferred (some [])) := fun j X3 hk => by
      have hl3 := hk.same _ _ (by omega) hl2 rfl
      have hr := run_endRound (P := P) j hl3
      rw [hrc] at hr hl3 ⊢
      exact ⟨hr, hl3, World.putObj_heap_same (Array.getElem?_eq_some_iff.1 hl3).1, (World.putObj_heap_other (by omega)).trans (hk.same _ _ (Nat.le_refl _) hd2 rfl)⟩
    rintro e a3 X3 hp
    cases e with
    | normal =>
      obtain ⟨hk, kp3, hi3⟩ := hp
      obtain ⟨hr, hl3, hl4, hd4⟩ := last none X3 hk
      exact ⟨_, _, hr, .inl ⟨rfl, ⟨put hI _ hi3 hl3, hl4, hd4⟩, (kp2.trans kp3).trans (KpR.put X3 _ _ (fun h => by have := hRl _ h; omega))⟩⟩
    | ret =>
      obtain ⟨hr, hl3, hl4, hd4⟩ := last (some .ret) X3 hp.1
      exact ⟨_, _, hr, .inr ⟨rfl, .ret, put (hIx _) _ hp.2 hl3, hl4, hd4⟩⟩
    | exit id =>
      obtain ⟨hr, hl3, hl4, hd4⟩ := last (some (.exit id)) X3 hp.1
      exact ⟨_, _, hr, .inr ⟨rfl, .exit id, put (hIx _) _ hp.2 hl3, hl4, hd4⟩⟩
    | goto t =>
      obtain ⟨hr, hl3, hl4, hd4⟩ := last (some (.goto t)) X3 hp.1
      exact ⟨_, _, hr, .inr ⟨rfl, .goto t, put (hIx _) _ hp.2 hl3, hl4, hd4⟩⟩
    | panic ch => exact hp.elim
    | outgrown => exact hp.elim
  · rintro e X2 ⟨⟨v, rfl⟩, (⟨xs, hS, hi, hl, hd⟩ | ⟨pre, hSp, c, hi, hl, hd⟩)⟩
    · refine ⟨none, X2.putObj (B + 1) (.loop { rc .ready none with state := .exhausted }), ?_, hdone _ xs _ (Nat.le_refl _) hS (put hI _ hi hl) ((World.putObj_heap_other (by omega)).trans hd)⟩
      have := run_endLoop (P := P) hl (by rw [hrc]; simp)
      rw [hrc] at this ⊢
      exact this
    · refine ⟨some c, X2.putObj (B + 1) (.loop { rc .done (some c) with state := .exhausted }), ?_, hstop _ c pre _ (Nat.le_refl _) hSp (put (hIx c) _ hi hl) ((World.putObj_heap_other (by omega)).trans hd)⟩
      have := run_endLoop (P := P) hl (by rw [hrc]; simp)
      rw [hrc] at this ⊢
      exact this

end Go.Proofs.YtmfjhgjplmpecaaDoor

namespace Go.Proofs.YtmfjhgjplmpecaaDoor
open Go.RowKit

/-- What a round keeps: all but the blocks that E names. -/
def KpV (E : Nat → Prop) (W W' : World) : Prop := W.heap.size ≤ W'.heap.size ∧ ∀ (k : Nat), k < W.heap.size → ¬ E k → W'.heap[k]? = W.heap[k]?
theorem KpV.refl (E : Nat → Prop) (W : World) : KpV E W W := ⟨Nat.le_refl _, fun _ _ _ => rfl⟩
theorem KpV.trans {E : Nat → Prop} {X Y Z : World} (h : KpV E X Y) (k : KpV E Y Z) : KpV E X Z := ⟨Nat.le_trans h.1 k.1, fun i hi he => (k.2 i (Nat.lt_of_lt_of_le hi h.1) he).trans (h.2 i hi he)⟩
theorem KpV.mono {E E' : Nat → Prop} {X Y : World} (h : KpV E X Y) (hE : ∀ k, E k → E' k) : KpV E' X Y := ⟨h.1, fun i hi he => h.2 i hi fun k => he (hE i k)⟩
theorem KpV.grown {E : Nat → Prop} {W W' : World} {row : Option Nat} (hg : W.grownBy W' row) (hr : ∀ r, row = some r → E r) : KpV E W W' :=
  ⟨hg.size, fun k hk he => hg.block k hk fun e => he (hr k e.symm)⟩
theorem KpV.put {E : Nat → Prop} (W : World) (l : Nat) (o : Obj) (hl : E l) : KpV E W (W.putObj l o) :=
  ⟨(grownBy_putObj' W l o).size, fun k _ he => World.putObj_heap_other fun e => he (e ▸ hl)⟩

/-- The contract. -/
def SeqV {α : Type} (V E : Nat → Prop) (F : Fence) (n : Nat) (P : Program) (g : Nat) (lb : Array Value) (encs : α → Array Value) (G : α → Prop) (S Sp : List α → Prop) (T : World → Prop) (w : World) : Prop :=
  ∀ (l : Nat) (J Jx : List α → World → Prop) (W : World), w.heap.size ≤ l → l < W.heap.size → Below w.heap.size w W → (∀ s X X' row, J s X → X.grownBy X' row → (∀ r, row = some r → V r) → J s X') →
    (∀ s X X' row, Jx s X → X.grownBy X' row → (∀ r, row = some r → V r) → Jx s X') →
    (∀ pre x X, J pre X → YieldAt F (n - 1) P l (encs x) X fun e X' => (e = .returned (.bool true) ∧ G x ∧ J (pre ++ [x]) X' ∧ KpV (fun k => k = l ∨ E k) X X') ∨ (e = .returned (.bool false) ∧ Jx (pre ++ [x]) X')) →
    J [] W → CallsIn F n P g (#[.func (.yield l) #[] #[]] ++ lb) W fun e X => (∃ v, e = .returned v) ∧ ((∃ xs, S xs ∧ J xs X ∧ T X) ∨ ∃ pre, Sp pre ∧ Jx pre X)
set_option maxHeartbeats 1000000 in
/-- The caller's law. -/
theorem wpIn_rangeV {α : Type} {F : Fence} {n : Nat} {P : Program} {V E : Nat → Prop} {g : Operand} {ps : Array Tmp} {assign body : Code} {Q : Exit → Act → World → Prop} {a : Act} {w : World}
    (hro : F.round = none) (h1 : 1 ≤ n) {gf : Nat} {lb : Array Value} (hg : a.eval g = .func (.func gf) #[] lb) (hFg : F.fn gf) (eg : ∀ args w, (callFunc gf args).run P w = .ok (.enter gf args) w)
    {encs : α → Array Value} {G : α → Prop} {S Sp : List α → Prop} {T : World → Prop} {w0 : World} (hseq : SeqV V E F (n - 1) P gf lb encs G S Sp T w0) (hVl : ∀ k, V k → k < w.heap.size) (hb0 : Below w0.heap.size w0 w) (hps : ∀ x, (encs x).size = ps.size)
    (I : List α → World → Prop) (Ix : Code → List α → World → Prop) (hI : StaysR V w.heap.size I) (hIx : ∀ c, StaysR V w.heap.size (Ix c)) (hG : ∀ pre x X, I (pre ++ [x]) X → G x) (hT : StaysR (fun _ => False) w.heap.size (fun (_ : Unit) => T)) (h0 : I [] w) (a₁ : α → Act)
    (hassign : ∀ (l : Nat) (x : α) (W : World) (K : Act → World → Prop), K (a₁ x) W →
      assign.wpIn (F.inRound l) (n - 1 - 1) P (Exit.then K (fun _ _ _ => False)) { tmps := (ps.zip (encs x)).foldl (fun t (p, v) => t.setIfInBounds p v) a.tmps, defers := [] } W)
    (hbody : ∀ (l : Nat) (pre : List α) (x : α) (W : World), I pre W → body.wpIn (F.inRound l) (n - 1 - 1) P (ownPostG w.heap.size (KpV E) I Ix (pre ++ [x]) W) (a₁ x) W)
    (hdone : ∀ (D : Nat) (xs : List α) (W : World), w.heap.size ≤ D → S xs → I xs W → T W → W.heap[D]? = some (.deferred (some [])) → Q .normal { a with defers := { target := .collected D, args := #[] } :: a.defers } W)
    (hstop : ∀ (D : Nat) (c : Code) (pre : List α) (W : World), w.heap.size ≤ D → Sp pre → Ix c pre W → W.heap[D]? = some (.deferred (some [])) → c.wpIn F n P Q { a with defers := { target := .collected D, args := #[] } :: a.defers } W) :
    (Code.rangeFunc g ps assign body).wpIn F n P Q a w := by
  refine wpIn_rangeFunc fun fn hfn => ?_
  rw [hro]
  generalize hB : w.heap.size = B at *
  obtain ⟨rc, hrc⟩ : ∃ rc : LoopState → Option Code → Loop, rc = fun st pe => { state := st, pending := pe, fn, tmps := a.tmps, params := ps, assign, body, defers := B } := ⟨_, rfl⟩
  obtain ⟨W1, hW1⟩ : ∃ W1, (w.alloc (.deferred (some []))).alloc (.loop (rc .ready none)) = W1 := ⟨_, rfl⟩
  have bel1 : Below B w W1 := by rw [← hW1]; exact ((Below.refl _ w).alloc (Nat.le_of_eq hB.symm) _).alloc (by simp; omega) _
  have hD1 : W1.heap[B]? = some (.deferred (some [])) := by
    rw [← hW1]
    refine (Below.heap_alloc _ _ _ (by simp; omega)).trans ?_
    have := World.alloc_heap_new w (.deferred (some []))
    rwa [hB] at this
  have hL1 : W1.heap[B + 1]? = some (.loop (rc .ready none)) := by
    have := World.alloc_heap_new (w.alloc (.deferred (some []))) (.loop (rc .ready none))
    rwa [World.size_alloc, hB, hW1] at this
  have hz1 : W1.heap.size = B + 2 := by rw [← hW1]; simp; omega
  have hi1 : I [] W1 := by
    rw [← hW1]
    exact hI _ _ _ none (hI _ _ _ none h0 (World.grownBy_alloc w _ none) (fun r e => by cases e)) (World.grownBy_alloc _ _ none) (fun r e => by cases e)
  have put : ∀ {G : List α → World → Prop} (_ : StaysR V B G) {s : List α} {W : World} {r : Loop} (o : Obj), G s W → W.heap[B + 1]? = some (.loop r) → G s (W.putObj (B + 1) o) := fun hG s W r o hs hl =>
    hG s W _ (some (B + 1)) hs (grownBy_putObj' W (B + 1) o) (fun k e => by cases e; exact .inr ⟨by omega, _, hl, rfl⟩)
  refine ⟨B + 1, [{ target := .collected B, args := #[] }], W1, { target := .fn (.func gf) lb, args := #[.func (.yield (B + 1)) #[] #[]] }, W1, gf, #[.func (.yield (B + 1)) #[] #[]] ++ lb, W1, ?_, by simp only [resolve, hg]; simp [go_sem], ?_, by simp [invoke, go_sem, eg], fun _ => h1, ?_⟩
  · rw [← hW1, hrc, ← hB]
    exact run_enterLoop_outer _ _ _ _ _
  · intro f' hf'
    simp [Target.leads] at hf'
    subst hf'
    exact hFg
  have stay : ∀ {G : List α → World → Prop} (_ : StaysR V B G) (ro : Loop) (s : List α) (X X' : World) (row : Option Nat), (G s X ∧ X.heap[B + 1]? = some (.loop ro) ∧ X.heap[B]? = some (.deferred (some []))) → X.grownBy X' row → (∀ r, row = some r → V r) → G s X' ∧ X'.heap[B + 1]? = some (.loop ro) ∧ X'.heap[B]? = some (.deferred (some [])) := fun hG ro s X X' row h hgr hr =>
    ⟨hG s X X' row h.1 hgr (fun r e => .inl (hr r e)), (hgr.block _ (Array.getElem?_eq_some_iff.1 h.2.1).1 (fun e => by have := hVl _ (hr _ e.symm); omega)).trans h.2.1, (hgr.block _ (Array.getElem?_eq_some_iff.1 h.2.2).1 (fun e => by have := hVl _ (hr _ e.symm); omega)).trans h.2.2⟩
  refine (hseq (B + 1) (fun s X => I s X ∧ X.heap[B + 1]? = some (.loop (rc .ready none)) ∧ X.heap[B]? = some (.deferred (some [])))
    (fun s X => ∃ c, Ix c s X ∧ X.heap[B + 1]? = some (.loop (rc .done (some c))) ∧ X.heap[B]? = some (.deferred (some []))) W1 (by have := hb0.size; omega) (by omega) (hb0.trans (bel1.mono (by rw [← hB]; exact hb0.size)))
    (fun s X X' row h hgr hr => stay hI _ s X X' row h hgr hr) (fun s X X' row ⟨c, h⟩ hgr hr => ⟨c, stay (hIx c) _ s X X' row h hgr hr⟩) ?_ ⟨hi1, hL1, hD1⟩).mono ?_
  · rintro pre x X ⟨hi, hl, hd⟩
    have hlt : B + 1 < X.heap.size := (Array.getElem?_eq_some_iff.1 hl).1
    have hy := run_yield (P := P) (args := encs x) hl (by rw [hrc]; exact hps x)
    rw [hrc] at hy
    refine ⟨fn, _, assign, body, hy, roundIn_of_wpIn hfn (hassign _ x X _ ⟨_, run_beginRound hl (by rw [hrc]), wpIn_mono (hbody _ pre x _ (put hI _ hi hl)) ?_⟩)⟩
    obtain ⟨X2, hX2⟩ : ∃ X2, X.putObj (B + 1) (.loop { rc .ready none with state := .busy }) = X2 := ⟨_, rfl⟩
    rw [hX2]
    have hl2 : X2.heap[B + 1]? = some (.loop { rc .ready none with state := .busy }) := by rw [← hX2]; exact World.putObj_heap_same hlt
    have hd2 : X2.heap[B]? = some (.deferred (some [])) := by rw [← hX2]; exact (World.putObj_heap_other (by omega)).trans hd
    have kp2 : KpV (fun k => k = B + 1 ∨ E k) X X2 := by rw [← hX2]; exact KpV.put X _ _ (.inl rfl)
    have last : ∀ (j : Option Code) (X3 : World), KeepsFrom B X2 X3 → (Instr.endRound (B + 1) j).run P X3 = .ok (.bool j.isNone) (X3.putObj (B + 1) (.loop (rc (if j.isNone then .ready else .done) j))) ∧ X3.heap[B + 1]? = some (.loop { rc .ready none with state := .busy }) ∧ (X3.putObj (B + 1) (.loop (rc (if j.isNone then .ready else .done) j))).heap[B + 1]? = some (.loop (rc (if j.isNone then .ready else .done) j)) ∧ (X3.putObj (B + 1) (.loop (rc (if j.isNone then .ready else .done) j))).heap[B]? = some (.deferred (some [])) := fun j X3 hk => by
      have hl3 := hk.same _ _ (by omega) hl2 rfl
      have hr := run_endRound (P := P) j hl3
      rw [hrc] at hr hl3 ⊢
      exact ⟨hr, hl3, World.putObj_heap_same (Array.getElem?_eq_some_iff.1 hl3).1, (World.putObj_heap_other (by omega)).trans (hk.same _ _ (Nat.le_refl _) hd2 rfl)⟩
    rintro e a3 X3 hp
    cases e with
    | normal =>
      obtain ⟨hk, kp3, hi3⟩ := hp
      obtain ⟨hr, hl3, hl4, hd4⟩ := last none X3 hk
      exact ⟨_, _, hr, .inl ⟨rfl, hG _ _ _ hi3, ⟨put hI _ hi3 hl3, hl4, hd4⟩, (kp2.trans (kp3.mono fun _ h => .inr h)).trans (KpV.put X3 _ _ (.inl rfl))⟩⟩
    | ret =>
      obtain ⟨hr, hl3, hl4, hd4⟩ := last (some .ret) X3 hp.1
      exact ⟨_, _, hr, .inr ⟨rfl, .ret, put (hIx _) _ hp.2 hl3, hl4, hd4⟩⟩
    | exit id =>
      obtain ⟨hr, hl3, hl4, hd4⟩ := last (some (.exit id)) X3 hp.1
      exact ⟨_, _, hr, .inr ⟨rfl, .exit id, put (hIx _) _ hp.2 hl3, hl4, hd4⟩⟩
    | goto t =>
      obtain ⟨hr, hl3, hl4, hd4⟩ := last (some (.goto t)) X3 hp.1
      exact ⟨_, _, hr, .inr ⟨rfl, .goto t, put (hIx _) _ hp.2 hl3, hl4, hd4⟩⟩
    | panic ch => exact hp.elim
    | outgrown => exact hp.elim
  · rintro e X2 ⟨⟨v, rfl⟩, (⟨xs, hS, ⟨hi, hl, hd⟩, ht⟩ | ⟨pre, hSp, c, hi, hl, hd⟩)⟩
    · refine ⟨none, X2.putObj (B + 1) (.loop { rc .ready none with state := .exhausted }), ?_, hdone _ xs _ (Nat.le_refl _) hS (put hI _ hi hl) (hT () _ _ (some (B + 1)) ht (grownBy_putObj' X2 (B + 1) _) (fun k e => by cases e; exact .inr ⟨by omega, _, hl, rfl⟩)) ((World.putObj_heap_other (by omega)).trans hd)⟩
      have := run_endLoop (P := P) hl (by rw [hrc]; simp)
      rw [hrc] at this ⊢
      exact this
    · refine ⟨some c, X2.putObj (B + 1) (.loop { rc .done (some c) with state := .exhausted }), ?_, hstop _ c pre _ (Nat.le_refl _) hSp (put (hIx c) _ hi hl) ((World.putObj_heap_other (by omega)).trans hd)⟩
      have := run_endLoop (P := P) hl (by rw [hrc]; simp)
      rw [hrc] at this ⊢
      exact this

end Go.Proofs.YtmfjhgjplmpecaaDoor
