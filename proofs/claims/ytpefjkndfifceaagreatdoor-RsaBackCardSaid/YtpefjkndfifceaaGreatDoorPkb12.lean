/- Part of the proofs: what the functions that the law calls do. -/
import Derived.Test.YtpefjkndfifceaaGreatDoorPkb1
import Derived.Test.YtpefjkndfifceaaGreatDoorPkb7
import Derived.Test.YtpefjkndfifceaaGreatDoorPkb9
import Derived.Test.YtpefjkndfifceaaGreatDoorPkb10
import Derived.Test.YtpefjkndfifceaaGreatDoorPkb11
import Derived.BigQuiet
open Go.Lib renaming hid → zH
open List renaming set_cons_zero → zq2
set_option linter.unusedVariables false
set_option linter.unusedSimpArgs false
namespace Go.Proofs.YtpefjkndfifceaaGreatDoor
open Go.RowKit
set_option maxRecDepth 100000
theorem top_of {n k j : Nat} (hj : topN = 256 ^ j) (hk : k ≤ j) (h : n < 256 ^ k) : n < topN := by
 rw [hj]
 exact Nat.lt_of_lt_of_le h (Nat.pow_le_pow_right (show 0 < 256 by decide) hk)
theorem key_small {l : List Nat} (hb : Byt l) (h : l.length ≤ 700) : valB 256 l.reverse < topN := by
 have h1 := valB_lt (b := 256) (by decide) (l := l.reverse) (fun x hx => hb x (List.mem_reverse.1 hx))
 rw [List.length_reverse] at h1
 exact top_of topN_256 (by omega) h1
def numOk (l : List Nat) : Bool := decide (l.length = 0) || decide (0 < l[0]?.getD 0)
def numV (l : List Nat) : Nat := if numOk l then valB 256 l.reverse else 0
set_option maxHeartbeats 1000000 in
theorem number_c (a : Option Addr) (n c : Nat) (l : List Nat) (w : World) (hr : Reads .u8 w a n c l) (hb : Byt l) (hn : n ≤ 700) :
  Calls Tryz.prog 96 #[.slice a n c] w fun e w' => (∃ v, e = .returned (.tuple #[v, .bool (numOk l)]) ∧ OwnQ .u32 71 w.heap.size w' v (nat32 (numV l))) ∧ Below w.heap.size w w' := by
 have HR := zH hr
 have hl := hr.length
 have HB := zH hb
 have HS := zH (key_small hb (by omega))
 by_cases h0 : n = 0
 ·have t1 : decide ((0 : Int) < (n : Int)) = false := decide_eq_false (by omega)
  have t2 : decide (0 < n) = false := decide_eq_false (by omega)
  have hok : numOk l = true := by unfold numOk; simp; left; exact List.eq_nil_of_length_eq_zero (by omega)
  have HV := zH (show numV l = valB 256 l.reverse by unfold numV; rw [hok]; rfl)
  have HO := zH hok
  clear hr hb hl hok h0
  go_enter Tryz.func96, Tryz.ntmps96
  go_wp2_with fail
  refine (read_any a n c l w HR.out HB.out (by omega)).mono ?_
  rintro e w1 ⟨⟨v, rfl, hv⟩, hbw⟩
  rw [cutR_small HS.out] at hv ⊢
  have HW := zH hv
  have HBW := zH hbw
  clear hv hbw
  go_wp2
  go_ret2
  exact ⟨⟨v, by rw [HO.out]; rfl, by rw [HV.out]; exact HW.out⟩, HBW.out⟩
 ·have t1 : decide ((0 : Int) < (n : Int)) = true := decide_eq_true (by omega)
  have t2 : decide (0 < n) = true := decide_eq_true (by omega)
  obtain ⟨bk, off, rfl, hbl, hcl⟩ := hr.cells (by omega)
  have hc0 := hcl 0 (by omega)
  rw [Nat.add_zero] at hc0
  have hpos : 0 < n := by omega
  obtain ⟨x, hx⟩ : ∃ x, l[0]?.getD 0 = x := ⟨_, rfl⟩
  rw [hx] at hc0
  have hxb : x < 256 := by
   rw [← hx, List.getElem?_eq_getElem (by omega)]
   exact hb _ (List.getElem_mem (by omega))
  by_cases hx0 : x = 0
  ·have t3 : ((x : Int) == 0) = true := by simp; omega
   have hok : numOk l = false := by unfold numOk; rw [hx, decide_eq_false (show ¬ l.length = 0 by omega), decide_eq_false (show ¬ 0 < x by omega)]; rfl
   have HV := zH (show numV l = 0 by unfold numV; rw [hok]; rfl)
   have HO := zH hok
   clear hr hb hl hok hcl hx hx0
   go_enter Tryz.func96, Tryz.ntmps96
   go_wp2
   go_ret2
   exact ⟨⟨.slice none 0 0, by rw [HO.out]; rfl, by rw [HV.out, show nat32 0 = [] from natB_zero _]; exact OwnQ.nil _ _ _ _⟩, Below.refl _ _⟩
  ·have t3 : ((x : Int) == 0) = false := by simp; omega
   have hok : numOk l = true := by unfold numOk; rw [hx, decide_eq_true (show 0 < x by omega), Bool.or_true]
   have HV := zH (show numV l = valB 256 l.reverse by unfold numV; rw [hok]; rfl)
   have HO := zH hok
   clear hr hb hl hok hcl hx hx0
   go_enter Tryz.func96, Tryz.ntmps96
   go_wp2_with fail
   refine (read_any _ n c l w HR.out HB.out (by omega)).mono ?_
   rintro e w1 ⟨⟨v, rfl, hv⟩, hbw⟩
   rw [cutR_small HS.out] at hv ⊢
   have HW := zH hv
   have HBW := zH hbw
   clear hv hbw hc0
   go_wp2
   go_ret2
   exact ⟨⟨v, by rw [HO.out]; rfl, by rw [HV.out]; exact HW.out⟩, HBW.out⟩
set_option maxHeartbeats 1000000 in
theorem number_r (a : Option Addr) (n c : Nat) (l : List Nat) (w : World) (hr : Reads .u8 w a n c l) (hb : Byt l) (hn : n ≤ 700) :
  Calls Tryz.prog 40 #[.slice a n c] w fun e w' => (∃ v, e = .returned (.tuple #[v, .bool (numOk l)]) ∧ OwnQ .u32 71 w.heap.size w' v (nat32 (valB 256 l.reverse))) ∧ Below w.heap.size w w' := by
 have HR := zH hr
 have hl := hr.length
 have HB := zH hb
 have HS := zH (key_small hb (by omega))
 go_enter Tryz.func40, Tryz.ntmps40
 go_wp2_with fail
 refine (rf.read_any a n c l w HR.out HB.out (by omega)).mono ?_
 rintro e w1 ⟨⟨v, rfl, hv⟩, hbw⟩
 rw [cutR_small HS.out] at hv ⊢
 have HW := zH hv
 have HBW := zH hbw
 have hr1 := hr.below hbw
 clear hv hbw
 by_cases h0 : n = 0
 ·have t1 : ((n : Int) == 0) = true := by simp; omega
  have hok : numOk l = true := by unfold numOk; simp; left; exact List.eq_nil_of_length_eq_zero (by omega)
  have HO := zH hok
  clear hr hb hl hok hr1 h0
  go_wp2_with fail
  go_big_quiet (fail)
  simp only [Exit.then]
  go_wp2
  go_ret2
  exact ⟨⟨v, by rw [HO.out]; rfl, HW.out.drewN _⟩, HBW.out.trans ⟨rfl, rfl, rfl, Nat.le_refl _, fun _ _ => rfl⟩⟩
 ·have t1 : ((n : Int) == 0) = false := by simp; omega
  obtain ⟨bk, off, rfl, hbl, hcl⟩ := hr1.cells (by omega)
  have hc0 := hcl 0 (by omega)
  rw [Nat.add_zero] at hc0
  have hpos : 0 < n := by omega
  obtain ⟨x, hx⟩ : ∃ x, l[0]?.getD 0 = x := ⟨_, rfl⟩
  rw [hx] at hc0
  have hxb : x < 256 := by
   rw [← hx, List.getElem?_eq_getElem (by omega)]
   exact hb _ (List.getElem_mem (by omega))
  have HO := zH (show numOk l = decide (0 < x) by unfold numOk; rw [hx, decide_eq_false (show ¬ l.length = 0 by omega), Bool.false_or])
  by_cases hx0 : 0 < x
  ·have t3 : decide ((0 : Int) < (x : Int)) = true := decide_eq_true (by omega)
   have t4 : decide (0 < x) = true := decide_eq_true hx0
   have HO2 := zH (HO.out.trans t4)
   clear hr hb hl hcl hx hr1 h0 HO
   go_wp2_with fail
   go_big_quiet (fail)
   simp only [Exit.then]
   go_wp2
   go_ret2
   exact ⟨⟨v, by rw [HO2.out]; rfl, HW.out.drewN _⟩, HBW.out.trans ⟨rfl, rfl, rfl, Nat.le_refl _, fun _ _ => rfl⟩⟩
  ·have t3 : decide ((0 : Int) < (x : Int)) = false := decide_eq_false (by omega)
   have t4 : decide (0 < x) = false := decide_eq_false hx0
   have HO2 := zH (HO.out.trans t4)
   clear hr hb hl hcl hx hr1 h0 HO
   go_wp2_with fail
   go_big_quiet (fail)
   simp only [Exit.then]
   go_wp2
   go_ret2
   exact ⟨⟨v, by rw [HO2.out]; rfl, HW.out.drewN _⟩, HBW.out.trans ⟨rfl, rfl, rfl, Nat.le_refl _, fun _ _ => rfl⟩⟩
end Go.Proofs.YtpefjkndfifceaaGreatDoor
namespace Go.Proofs.YtpefjkndfifceaaGreatDoor
open Go.RowKit
set_option maxRecDepth 100000
abbrev nV (l : List Nat) : Nat := valB 256 l.reverse
def PubP (N E : List Nat) : Prop := numOk N = true ∧ numOk E = true ∧ 256 ≤ bitsN (nV N) ∧ bitsN (nV N) ≤ 4096 ∧ 2 ≤ bitsN (nV E) ∧ bitsN (nV E) ≤ 64 ∧ (nV N).testBit 0 = true ∧ (nV E).testBit 0 = true ∧ nV E < nV N
def PrivP (N E D : List Nat) : Prop := PubP N E ∧ numOk D = true ∧ nV D ≠ 0 ∧ nV D < nV N
open Classical in
noncomputable def pubE (N E : List Nat) : Int := if PubP N E then 0 else 100
open Classical in
noncomputable def privE (N E D : List Nat) : Int := if PrivP N E D then 0 else 100
theorem nat32_len {n : Nat} (h : n < topN) : (nat32 n).length ≤ 256 := (natB_length (by decide) n 256).2 h
theorem key_cells {X : World} {P : Nat} {c0 c1 c2 : Value} {t : TypeId} (h : X.heap[P]? = some (.cells #[c0, c1, c2] t)) : X.cell? ⟨P, 0, none⟩ = some c0 ∧ X.cell? ⟨P, 1, none⟩ = some c1 ∧ X.cell? ⟨P, 2, none⟩ = some c2 := by
 simp [World.cell?, h]
theorem num_slice {B : Nat} {w : World} {v : Value} {n : Nat} (h : OwnQ .u32 71 B w v (nat32 n)) (hn : n < topN) : ∃ a m c, v = .slice a m c ∧ m ≤ 256 ∧ OwnQ .u32 71 B w (.slice a m c) (nat32 n) := by
 obtain ⟨a, m, c, rfl, hm, ho⟩ := h.slice
 exact ⟨a, m, c, rfl, by rw [hm]; exact nat32_len hn, ho⟩
set_option maxHeartbeats 4000000 in
theorem rpublic_any (na : Option Addr) (nn nc : Nat) (N : List Nat) (ea : Option Addr) (en ec : Nat) (E : List Nat) (da : Option Addr) (dn dc : Nat) (w : World) (hN : Reads .u8 w na nn nc N) (bN : Byt N) (hE : Reads .u8 w ea en ec E) (bE : Byt E) (ln : nn ≤ 700) (le : en ≤ 700) :
  Calls Tryz.prog 38 #[.agg #[.slice na nn nc, .slice ea en ec, .slice da dn dc]] w fun e w' => e = .returned (.int .i64 (pubE N E)) ∧ Below w.heap.size w w' := by
 obtain ⟨r, hr⟩ : ∃ r, pubE N E = r := ⟨_, rfl⟩
 rw [hr]
 have HRN := zH hN
 have HRE := zH hE
 have HBN := zH bN
 have HBE := zH bE
 have HSN := zH (key_small bN (by rw [hN.length]; exact ln))
 have HSE := zH (key_small bE (by rw [hE.length]; exact le))
 have hba := (Below.refl w.heap.size w).alloc (Nat.le_refl _) (.cells #[.slice na nn nc, .slice ea en ec, .slice da dn dc] 24)
 have hq0 : (w.alloc (.cells #[.slice na nn nc, .slice ea en ec, .slice da dn dc] 24)).heap[w.heap.size]? = some (.cells #[.slice na nn nc, .slice ea en ec, .slice da dn dc] 24) := World.alloc_heap_new w _
 have HQ := zH hq0
 have HB := zH hba
 have HPE := zH (show ∀ r', (r' = 0 → PubP N E) → (r' ≠ 0 → ¬ PubP N E ∧ r' = 100) → r = r' from fun r' h1 h2 => by
  rw [← hr]
  unfold pubE
  by_cases h : PubP N E
  ·rw [if_pos h]; by_cases h3 : r' = 0
   ·exact h3.symm
   ·exact absurd h (h2 h3).1
  ·rw [if_neg h]; by_cases h3 : r' = 0
   ·exact absurd (h1 h3) h
   ·exact (h2 h3).2.symm)
 clear hN bN hE bE hba hq0 hr
 go_enter Tryz.func38, Tryz.ntmps38
 go_wp2_with fail
 generalize w.alloc (.cells #[.slice na nn nc, .slice ea en ec, .slice da dn dc] 24) = w0 at *
 obtain ⟨P, hP⟩ : ∃ P, w.heap.size = P := ⟨_, rfl⟩
 rw [hP] at HQ ⊢
 have HPW := zH hP
 clear hP
 obtain ⟨k0, k1, k2⟩ := key_cells HQ.out
 go_wp2_with fail
 refine (number_r na nn nc N w0 (HRN.out.below HB.out) HBN.out ln).mono ?_
 rintro e w1 ⟨⟨v, rfl, hv⟩, hb⟩
 obtain ⟨a1, n1, c1, rfl, hn1, ho⟩ := num_slice hv HSN.out
 have HN1 := zH ho
 have HQ1 := zH ((hb.block P (Array.getElem?_eq_some_iff.1 HQ.out).1).trans HQ.out)
 have HB1 := zH (HB.out.trans (hb.mono HB.out.size))
 clear k0 k1 k2 hv ho hb HQ HB
 obtain ⟨k0, k1, k2⟩ := key_cells HQ1.out
 go_wp2_with fail
 refine (number_r ea en ec E w1 (HRE.out.below HB1.out) HBE.out le).mono ?_
 rintro e w2 ⟨⟨v, rfl, hv⟩, hb⟩
 obtain ⟨a2, n2, c2, rfl, hn2, ho⟩ := num_slice hv HSE.out
 have HN2 := zH ho.reads
 have HN1' := zH (HN1.out.below hb).reads
 have HB2 := zH (HB1.out.trans (hb.mono HB1.out.size))
 clear k0 k1 k2 hv ho hb HQ1 HB1 HN1
 obtain ⟨bn, hbn⟩ : ∃ x, x = bitsN (nV N) := ⟨_, rfl⟩
 obtain ⟨be, hbe⟩ : ∃ x, x = bitsN (nV E) := ⟨_, rfl⟩
 obtain ⟨tn, htn⟩ : ∃ x, x = (nV N).testBit 0 := ⟨_, rfl⟩
 obtain ⟨te, hte⟩ : ∃ x, x = (nV E).testBit 0 := ⟨_, rfl⟩
 obtain ⟨o, hor⟩ : ∃ x, x = rf.ordR (nV E) (nV N) := ⟨_, rfl⟩
 obtain ⟨bo, hbo⟩ : ∃ x, x = numOk N := ⟨_, rfl⟩
 obtain ⟨eo, heo⟩ : ∃ x, x = numOk E := ⟨_, rfl⟩
 rw [← hbo, ← heo]
 have hol : o = -1 ↔ nV E < nV N := by
  rw [hor]
  unfold rf.ordR
  by_cases h : nV E < nV N
  ·rw [if_pos h]; exact ⟨fun _ => h, fun _ => rfl⟩
  ·rw [if_neg h]; constructor
   ·intro k; split at k <;> omega
   ·intro k; exact absurd k h
 have ho3 : o = -1 ∨ o = 0 ∨ o = 1 := by
  rw [hor]
  unfold rf.ordR
  split
  ·exact .inl rfl
  ·split
   ·exact .inr (.inr rfl)
   ·exact .inr (.inl rfl)
 have HPP := zH (show PubP N E ↔ bo = true ∧ eo = true ∧ 256 ≤ bn ∧ bn ≤ 4096 ∧ 2 ≤ be ∧ be ≤ 64 ∧ tn = true ∧ te = true ∧ o = -1 from by
  rw [hol, hbo, heo, hbn, hbe, htn, hte]; exact Iff.rfl)
 have hb9 : bn ≤ 1000000 := by
  rw [hbn]
  have h1 := HSN.out
  rw [topN_two] at h1
  have h2 := (bitsN_le (nV N) 8192).2 h1
  omega
 have hb8 : be ≤ 1000000 := by
  rw [hbe]
  have h1 := HSE.out
  rw [topN_two] at h1
  have h2 := (bitsN_le (nV E) 8192).2 h1
  omega
 have VN := zH (show val32 (nat32 (nV N)) = nV N from val_nat _)
 have VE := zH (show val32 (nat32 (nV E)) = nV E from val_nat _)
 have HBnn := zH (show bn = bitsN (val32 (nat32 (nV N))) by rw [VN.out]; exact hbn)
 have HBee := zH (show be = bitsN (val32 (nat32 (nV E))) by rw [VE.out]; exact hbe)
 have HTn := zH (show tn = (decide ((0 : Int) ≤ 0) && (val32 (nat32 (nV N))).testBit (0 : Int).toNat) by rw [VN.out]; simpa using htn)
 have HTe := zH (show te = (decide ((0 : Int) ≤ 0) && (val32 (nat32 (nV E))).testBit (0 : Int).toNat) by rw [VE.out]; simpa using hte)
 have HOo := zH (show o = rf.ordR (val32 (nat32 (nV E))) (val32 (nat32 (nV N))) by rw [VN.out, VE.out]; exact hor)
 have HLm : Hid (∀ n, Lim (nat32 n)) := zH lim_nat
 clear hbn hbe htn hte hor hbo heo hol
 go_wp2_with fail
 refine (rf.bits_any a1 n1 c1 _ _ HN1'.out (HLm.out _) (by omega) bn HBnn.out).mono ?_
 rintro e w3 ⟨rfl, hb⟩
 have HN1' := zH (HN1'.out.below hb)
 have HN2 := zH (HN2.out.below hb)
 have HB3 := zH (HB2.out.trans (hb.mono HB2.out.size))
 clear hb
 go_wp2_with fail
 refine (rf.bits_any a2 n2 c2 _ _ HN2.out (HLm.out _) (by omega) be HBee.out).mono ?_
 rintro e w4 ⟨rfl, hb⟩
 have HN1' := zH (HN1'.out.below hb)
 have HN2 := zH (HN2.out.below hb)
 have HB4 := zH (HB3.out.trans (hb.mono HB3.out.size))
 clear hb
 go_wp2_with fail
 refine (rf.bit_any a1 n1 c1 _ _ HN1'.out (HLm.out _) (by omega) 0 (by decide) tn HTn.out).mono ?_
 rintro e w5 ⟨rfl, hb⟩
 have HN1' := zH (HN1'.out.below hb)
 have HN2 := zH (HN2.out.below hb)
 have HB5 := zH (HB4.out.trans (hb.mono HB4.out.size))
 clear hb
 go_wp2_with fail
 refine (rf.bit_any a2 n2 c2 _ _ HN2.out (HLm.out _) (by omega) 0 (by decide) te HTe.out).mono ?_
 rintro e w6 ⟨rfl, hb⟩
 have HN1' := zH (HN1'.out.below hb)
 have HN2 := zH (HN2.out.below hb)
 have HB6 := zH (HB5.out.trans (hb.mono HB5.out.size))
 clear hb
 go_wp2_with fail
 refine (rf.cmp_any a2 a1 n2 c2 n1 c1 _ _ _ HN2.out HN1'.out (HLm.out _) (HLm.out _) (by omega) (by omega) o HOo.out).mono ?_
 rintro e w7 ⟨rfl, hb⟩
 have HN1' := zH (HN1'.out.below hb)
 have HN2 := zH (HN2.out.below hb)
 have HB7 := zH (HB6.out.trans (hb.mono HB6.out.size))
 clear hb
 clear HN1' HN2
 by_cases hc0 : bo = true
 rotate_left
 ·have HF := zH (show r = 100 from HPE.out 100 (fun e => by cases e) (fun _ => ⟨fun k => hc0 (HPP.out.1 k).1, rfl⟩))
  obtain rfl : bo = false := Bool.eq_false_iff.2 hc0
  clear HPE HPP
  go_wp2
  go_ret
  exact ⟨by rw [HF.out]; rfl, HPW.out ▸ HB7.out⟩
 have HC0 := zH hc0
 obtain rfl : bo = true := hc0
 by_cases hc1 : eo = true
 rotate_left
 ·have HF := zH (show r = 100 from HPE.out 100 (fun e => by cases e) (fun _ => ⟨fun k => hc1 (HPP.out.1 k).2.1, rfl⟩))
  obtain rfl : eo = false := Bool.eq_false_iff.2 hc1
  clear HPE HPP
  go_wp2
  go_ret
  exact ⟨by rw [HF.out]; rfl, HPW.out ▸ HB7.out⟩
 have HC1 := zH hc1
 obtain rfl : eo = true := hc1
 by_cases hc2 : 256 ≤ bn
 rotate_left
 ·have HF := zH (show r = 100 from HPE.out 100 (fun e => by cases e) (fun _ => ⟨fun k => hc2 (HPP.out.1 k).2.2.1, rfl⟩))
  have t2 : decide ((bn : Int) < 256) = true := decide_eq_true (by omega)
  have u2 : decide (bn < 256) = true := decide_eq_true (by omega)
  clear HPE HPP
  go_wp2
  go_ret
  exact ⟨by rw [HF.out]; rfl, HPW.out ▸ HB7.out⟩
 have HC2 := zH hc2
 have t2 : decide ((bn : Int) < 256) = false := decide_eq_false (by omega)
 have u2 : decide (bn < 256) = false := decide_eq_false (by omega)
 by_cases hc3 : bn ≤ 4096
 rotate_left
 ·have HF := zH (show r = 100 from HPE.out 100 (fun e => by cases e) (fun _ => ⟨fun k => hc3 (HPP.out.1 k).2.2.2.1, rfl⟩))
  have t3 : decide ((4096 : Int) < (bn : Int)) = true := decide_eq_true (by omega)
  have u3 : decide (4096 < bn) = true := decide_eq_true (by omega)
  clear HPE HPP
  go_wp2
  go_ret
  exact ⟨by rw [HF.out]; rfl, HPW.out ▸ HB7.out⟩
 have HC3 := zH hc3
 have t3 : decide ((4096 : Int) < (bn : Int)) = false := decide_eq_false (by omega)
 have u3 : decide (4096 < bn) = false := decide_eq_false (by omega)
 by_cases hc4 : 2 ≤ be
 rotate_left
 ·have HF := zH (show r = 100 from HPE.out 100 (fun e => by cases e) (fun _ => ⟨fun k => hc4 (HPP.out.1 k).2.2.2.2.1, rfl⟩))
  have t4 : decide ((be : Int) < 2) = true := decide_eq_true (by omega)
  have u4 : decide (be < 2) = true := decide_eq_true (by omega)
  clear HPE HPP
  go_wp2
  go_ret
  exact ⟨by rw [HF.out]; rfl, HPW.out ▸ HB7.out⟩
 have HC4 := zH hc4
 have t4 : decide ((be : Int) < 2) = false := decide_eq_false (by omega)
 have u4 : decide (be < 2) = false := decide_eq_false (by omega)
 by_cases hc5 : be ≤ 64
 rotate_left
 ·have HF := zH (show r = 100 from HPE.out 100 (fun e => by cases e) (fun _ => ⟨fun k => hc5 (HPP.out.1 k).2.2.2.2.2.1, rfl⟩))
  have t5 : decide ((64 : Int) < (be : Int)) = true := decide_eq_true (by omega)
  have u5 : decide (64 < be) = true := decide_eq_true (by omega)
  clear HPE HPP
  go_wp2
  go_ret
  exact ⟨by rw [HF.out]; rfl, HPW.out ▸ HB7.out⟩
 have HC5 := zH hc5
 have t5 : decide ((64 : Int) < (be : Int)) = false := decide_eq_false (by omega)
 have u5 : decide (64 < be) = false := decide_eq_false (by omega)
 by_cases hc6 : tn = true
 rotate_left
 ·have HF := zH (show r = 100 from HPE.out 100 (fun e => by cases e) (fun _ => ⟨fun k => hc6 (HPP.out.1 k).2.2.2.2.2.2.1, rfl⟩))
  obtain rfl : tn = false := Bool.eq_false_iff.2 hc6
  clear HPE HPP
  go_wp2
  go_ret
  exact ⟨by rw [HF.out]; rfl, HPW.out ▸ HB7.out⟩
 have HC6 := zH hc6
 obtain rfl : tn = true := hc6
 by_cases hc7 : te = true
 rotate_left
 ·have HF := zH (show r = 100 from HPE.out 100 (fun e => by cases e) (fun _ => ⟨fun k => hc7 (HPP.out.1 k).2.2.2.2.2.2.2.1, rfl⟩))
  obtain rfl : te = false := Bool.eq_false_iff.2 hc7
  clear HPE HPP
  go_wp2
  go_ret
  exact ⟨by rw [HF.out]; rfl, HPW.out ▸ HB7.out⟩
 have HC7 := zH hc7
 obtain rfl : te = true := hc7
 by_cases hc8 : o = -1
 rotate_left
 ·have HF := zH (show r = 100 from HPE.out 100 (fun e => by cases e) (fun _ => ⟨fun k => hc8 (HPP.out.1 k).2.2.2.2.2.2.2.2, rfl⟩))
  have t8 : decide ((0 : Int) ≤ o) = true := decide_eq_true (by omega)
  clear HPE HPP
  go_wp2
  go_ret
  exact ⟨by rw [HF.out]; rfl, HPW.out ▸ HB7.out⟩
 have HC8 := zH hc8
 have t8 : decide ((0 : Int) ≤ o) = false := decide_eq_false (by omega)
 have HF := zH (show r = 0 from HPE.out 0 (fun _ => HPP.out.2 ⟨HC0.out, HC1.out, HC2.out, HC3.out, HC4.out, HC5.out, HC6.out, HC7.out, HC8.out⟩) (fun e => absurd rfl e))
 clear HPE HPP
 go_wp2
 go_ret
 exact ⟨by rw [HF.out]; rfl, HPW.out ▸ HB7.out⟩
theorem nat32_nil (n : Nat) : (nat32 n).length = 0 ↔ n = 0 := by
 have h : (nat32 n).length ≤ 0 ↔ n < 1 := natB_length (by decide) n 0
 constructor
 ·intro k
  have := h.1 (Nat.le_of_eq k)
  omega
 ·intro k
  have := h.2 (by omega)
  omega
set_option maxHeartbeats 4000000 in
theorem rprivate_any (na : Option Addr) (nn nc : Nat) (N : List Nat) (ea : Option Addr) (en ec : Nat) (E : List Nat) (da : Option Addr) (dn dc : Nat) (D : List Nat) (w : World) (hN : Reads .u8 w na nn nc N) (bN : Byt N) (hE : Reads .u8 w ea en ec E) (bE : Byt E) (hD : Reads .u8 w da dn dc D) (bD : Byt D) (ln : nn ≤ 700) (le : en ≤ 700) (ld : dn ≤ 700) :
  Calls Tryz.prog 12 #[.agg #[.slice na nn nc, .slice ea en ec, .slice da dn dc]] w fun e w' => e = .returned (.int .i64 (privE N E D)) ∧ Below w.heap.size w w' := by
 obtain ⟨r, hr⟩ : ∃ r, privE N E D = r := ⟨_, rfl⟩
 rw [hr]
 have HRN := zH hN
 have HRE := zH hE
 have HRD := zH hD
 have HBN := zH bN
 have HBE := zH bE
 have HBD := zH bD
 have HSN := zH (key_small bN (by rw [hN.length]; exact ln))
 have HSD := zH (key_small bD (by rw [hD.length]; exact ld))
 have hba := (Below.refl w.heap.size w).alloc (Nat.le_refl _) (.cells #[.slice na nn nc, .slice ea en ec, .slice da dn dc] 24)
 have hq0 : (w.alloc (.cells #[.slice na nn nc, .slice ea en ec, .slice da dn dc] 24)).heap[w.heap.size]? = some (.cells #[.slice na nn nc, .slice ea en ec, .slice da dn dc] 24) := World.alloc_heap_new w _
 have HQ := zH hq0
 have HB := zH hba
 have HYes := zH (show PrivP N E D → r = 0 from fun h => by rw [← hr]; unfold privE; rw [if_pos h])
 have HNo := zH (show ¬ PrivP N E D → r = 100 from fun h => by rw [← hr]; unfold privE; rw [if_neg h])
 clear hN bN hE bE hD bD hba hq0 hr
 go_enter Tryz.func12, Tryz.ntmps12
 go_wp2_with fail
 generalize w.alloc (.cells #[.slice na nn nc, .slice ea en ec, .slice da dn dc] 24) = w0 at *
 obtain ⟨P, hP⟩ : ∃ P, w.heap.size = P := ⟨_, rfl⟩
 rw [hP] at HQ ⊢
 have HPW := zH hP
 clear hP
 obtain ⟨k0, k1, k2⟩ := key_cells HQ.out
 go_wp2_with fail
 refine (rpublic_any na nn nc N ea en ec E da dn dc w0 (HRN.out.below HB.out) HBN.out (HRE.out.below HB.out) HBE.out ln le).mono ?_
 rintro e w1 ⟨rfl, hb⟩
 have HQ1 := zH ((hb.block P (Array.getElem?_eq_some_iff.1 HQ.out).1).trans HQ.out)
 have HB1 := zH (HB.out.trans (hb.mono HB.out.size))
 clear k0 k1 k2 hb HQ HB
 by_cases hp : PubP N E
 rotate_left
 ·have HF := zH (HNo.out fun k => hp k.1)
  have hpe : pubE N E = 100 := by unfold pubE; rw [if_neg hp]
  rw [hpe]
  clear hpe hp
  go_wp2
  go_ret
  exact ⟨by rw [HF.out]; rfl, HPW.out ▸ HB1.out⟩
 have hpe : pubE N E = 0 := by unfold pubE; rw [if_pos hp]
 rw [hpe]
 have HPP := zH hp
 clear hpe hp
 obtain ⟨k0, k1, k2⟩ := key_cells HQ1.out
 go_wp2_with fail
 refine (number_r na nn nc N w1 (HRN.out.below HB1.out) HBN.out ln).mono ?_
 rintro e w2 ⟨⟨v, rfl, hv⟩, hb⟩
 obtain ⟨a1, n1, c1, rfl, hn1, ho⟩ := num_slice hv HSN.out
 have HN1 := zH ho
 have HQ2 := zH ((hb.block P (Array.getElem?_eq_some_iff.1 HQ1.out).1).trans HQ1.out)
 have HB2 := zH (HB1.out.trans (hb.mono HB1.out.size))
 clear k0 k1 k2 hv ho hb HQ1 HB1
 obtain ⟨k0, k1, k2⟩ := key_cells HQ2.out
 go_wp2_with fail
 refine (number_r da dn dc D w2 (HRD.out.below HB2.out) HBD.out ld).mono ?_
 rintro e w3 ⟨⟨v, rfl, hv⟩, hb⟩
 obtain ⟨a2, n2, c2, rfl, hn2, ho⟩ := num_slice hv HSD.out
 have HN2 := zH ho.reads
 have HN1' := zH (HN1.out.below hb).reads
 have HB3 := zH (HB2.out.trans (hb.mono HB2.out.size))
 have HZ := zH (show n2 = 0 ↔ nV D = 0 by have h9 := ho.reads.length; rw [← nat32_nil (nV D), h9])
 clear k0 k1 k2 hv ho hb HQ2 HB2 HN1
 obtain ⟨o, hor⟩ : ∃ x, x = rf.ordR (nV D) (nV N) := ⟨_, rfl⟩
 obtain ⟨eo, heo⟩ : ∃ x, x = numOk D := ⟨_, rfl⟩
 rw [← heo]
 have hol : o = -1 ↔ nV D < nV N := by
  rw [hor]
  unfold rf.ordR
  by_cases h : nV D < nV N
  ·rw [if_pos h]; exact ⟨fun _ => h, fun _ => rfl⟩
  ·rw [if_neg h]; constructor
   ·intro k; split at k <;> omega
   ·intro k; exact absurd k h
 have ho3 : o = -1 ∨ o = 0 ∨ o = 1 := by
  rw [hor]
  unfold rf.ordR
  split
  ·exact .inl rfl
  ·split
   ·exact .inr (.inr rfl)
   ·exact .inr (.inl rfl)
 have HPV := zH (show PrivP N E D ↔ eo = true ∧ n2 ≠ 0 ∧ o = -1 from by
  rw [hol, heo, ne_eq, HZ.out]
  exact ⟨fun k => k.2, fun k => ⟨HPP.out, k⟩⟩)
 have HOo := zH (show o = rf.ordR (val32 (nat32 (nV D))) (val32 (nat32 (nV N))) by rw [val_nat, val_nat]; exact hor)
 clear hor heo hol
 go_wp2_with fail
 refine (rf.cmp_any a2 a1 n2 c2 n1 c1 _ _ _ HN2.out HN1'.out (lim_nat _) (lim_nat _) (by omega) (by omega) o HOo.out).mono ?_
 rintro e w4 ⟨rfl, hb⟩
 have HB4 := zH (HB3.out.trans (hb.mono HB3.out.size))
 clear hb HN1' HN2
 by_cases hc0 : eo = true
 rotate_left
 ·have HF := zH (HNo.out fun k => hc0 (HPV.out.1 k).1)
  obtain rfl : eo = false := Bool.eq_false_iff.2 hc0
  clear hc0
  go_wp2
  go_ret
  exact ⟨by rw [HF.out]; rfl, HPW.out ▸ HB4.out⟩
 subst hc0
 by_cases hc1 : n2 = 0
 ·have HF := zH (HNo.out fun k => (HPV.out.1 k).2.1 hc1)
  have t1 : ((n2 : Int) == 0) = true := by simp; omega
  clear hc1
  go_wp2
  go_ret
  exact ⟨by rw [HF.out]; rfl, HPW.out ▸ HB4.out⟩
 have t1 : ((n2 : Int) == 0) = false := by simp; omega
 by_cases hc2 : o = -1
 rotate_left
 ·have HF := zH (HNo.out fun k => hc2 (HPV.out.1 k).2.2)
  have t2 : decide ((0 : Int) ≤ o) = true := decide_eq_true (by omega)
  clear hc1 hc2
  go_wp2
  go_ret
  exact ⟨by rw [HF.out]; rfl, HPW.out ▸ HB4.out⟩
 have HF := zH (HYes.out (HPV.out.2 ⟨rfl, hc1, hc2⟩))
 have t2 : decide ((0 : Int) ≤ o) = false := decide_eq_false (by omega)
 clear hc1 hc2
 go_wp2
 go_ret
 exact ⟨by rw [HF.out]; rfl, HPW.out ▸ HB4.out⟩
end Go.Proofs.YtpefjkndfifceaaGreatDoor
namespace Go.Proofs.YtpefjkndfifceaaGreatDoor
open Go.RowKit
set_option maxRecDepth 100000
attribute [local go_sem] Oper.semAt_some
def encH (x : Bool) : Array Value := #[.bool x]
def HldI (w : World) (pre : List Bool) (W : World) : Prop := Boxed W w.heap.size 4 (.bool true) ∧ (∀ x ∈ pre, x = true) ∧ w.heap.size < W.heap.size ∧ Below w.heap.size w W
def HldX (w : World) (c : Code) (pre : List Bool) (W : World) : Prop := c = .exit 0 ∧ Boxed W w.heap.size 4 (.bool false) ∧ (∃ x ∈ pre, x = false) ∧ Below w.heap.size w W
theorem HldI.st {w : World} {pre : List Bool} {W W' : World} {row : Option Nat} (h : HldI w pre W) (hg : W.grownBy W' row) (hr : ∀ r, row = some r → w.heap.size + 1 ≤ r) : HldI w pre W' := by
 obtain ⟨h1, h3, h4, h5⟩ := h
 exact ⟨h1.kept hg fun e => by (have := hr _ e.symm; omega), h3, Nat.lt_of_lt_of_le h4 hg.size, h5.grown hg h5.size fun r e => by have := hr r e; omega⟩
theorem HldX.st {w : World} {c : Code} {pre : List Bool} {W W' : World} {row : Option Nat} (h : HldX w c pre W) (hg : W.grownBy W' row) (hr : ∀ r, row = some r → w.heap.size + 1 ≤ r) : HldX w c pre W' := by
 obtain ⟨h0, h1, h3, h5⟩ := h
 exact ⟨h0, h1.kept hg fun e => by (have := hr _ e.symm; omega), h3, h5.grown hg h5.size fun r e => by have := hr r e; omega⟩
set_option maxHeartbeats 2000000 in
theorem hold_any (gf : Nat) (lb : Array Value) (L : List Bool) (w : World) (eg : ∀ args w, (callFunc gf args).run Tryz.prog w = .ok (.enter gf args) w)
  (hseq : ∀ W, Below w.heap.size w W → SeqV (fun _ => False) (fun _ => False) Fence.wide (3 - 1) Tryz.prog gf lb encH (fun x => x = true) (fun xs => xs = L) (fun pre => ∃ r, pre ++ r = L) (fun _ => True) W) :
  Calls Tryz.prog 62 #[.func (.func gf) #[] lb] w fun e w' => e = .returned (.bool (L.all id)) ∧ Below w.heap.size w w' := by
 refine (callsIn_wide (n := 3)).1 ?_
 refine callsIn_of_wp_marks Tryz.func62 rfl trivial ?_ rfl
 simp only [Tryz.ntmps62, List.size_toArray, List.length_cons, List.length_nil, Nat.reduceAdd, Nat.reduceSub, Array.replicate_succ, Array.replicate_zero, List.push_toArray, List.append_toArray, List.nil_append, List.cons_append]
 gi_wp2_with fail
 refine wpIn_wide.2 (wp_scope_straight ((wpIn_wide (n := 3)).1 ?_))
 gi_wp2_with fail
 refine wpIn_label ?_
 gi_wp2_with fail
 have hB0 := (Below.refl w.heap.size w).alloc (Nat.le_refl _) (.cells #[.bool true] 4)
 have HS := zH (hseq _ hB0)
 have hx0 : (w.alloc (.cells #[.bool true] 4)).heap[w.heap.size]? = some (.cells #[.bool true] 4) := World.alloc_heap_new w _
 have hz0 : (w.alloc (.cells #[.bool true] 4)).heap.size = w.heap.size + 1 := World.size_alloc _ _
 have HX0 := zH hx0
 have HB0 := zH hB0
 clear hx0 hB0 hseq
 generalize w.alloc (.cells #[.bool true] 4) = W0 at *
 refine wpIn_rangeV (F := Fence.wide) rfl (show 1 ≤ 3 by decide) (gf := gf) (lb := lb) rfl trivial eg HS.out
  (fun k hk => hk.elim) (Below.refl _ _) (fun _ => rfl)
  (fun pre W => HldI w pre W) (fun c pre W => HldX w c pre W)
  (fun s X X' row h hg hr => h.st hg (fun r e => by rcases hr r e with h | ⟨h, h2⟩ <;> first | exact h.elim | omega))
  (fun c s X X' row h hg hr => h.st hg (fun r e => by rcases hr r e with h | ⟨h, h2⟩ <;> first | exact h.elim | omega))
  (fun pre x X h => h.2.1 x (by simp)) (fun s X X' row h hg hr => trivial)
  ⟨HX0.out, (fun x hx => by cases hx), by omega, HB0.out⟩ ?_ ?_ ?_ ?_ ?_
 rotate_left 1
 ·intro lp x W K hK
  dsimp only [encH]
  gi_wp2
  exact hK
 ·rintro lp pre x W ⟨bW, hall, hlt, hB⟩
  have cW := bW.cell
  have fW := bW.frozen
  have BW := zH bW
  have HB := zH hB
  have HALL := zH hall
  clear bW hall hB
  cases x with
  | false =>
   gi_wp2
   exact ⟨(KeepsOthers.setCell W ⟨w.heap.size, 0, none⟩ _).from W0.heap.size, rfl, BW.out.set _, ⟨false, by simp, rfl⟩, HB.out.setCell (p := ⟨w.heap.size, 0, none⟩) (Nat.le_refl _) _⟩
  | true =>
   gi_wp2
   refine ⟨KeepsFrom.refl _ _, KpV.refl _ _, BW.out, ?_, hlt, HB.out⟩
   intro y hy
   rcases List.mem_append.1 hy with h | h
   ·exact HALL.out y h
   ·exact List.mem_singleton.1 h
 ·rintro D xs W hD rfl ⟨bW, hall, hlt, hB⟩ hT hK
  have hL : xs.all id = true := List.all_eq_true.2 (fun x hx => hall x hx)
  have cW := bW.cell
  have HL := zH hL
  have HK := zH hK
  have HB := zH hB
  clear hL hK hB hall
  gi_wp2_with fail
  rw [Exit.noGoto_ret]
  refine ⟨by simp, .inl ⟨_, _, rfl, run_takeDeferred HK.out, ?_⟩⟩
  refine ⟨.bool true, ?_, by rw [HL.out], ?_⟩
  ·rw [results_tmp rfl]
   go_simp
  ·exact HB.out.grown (grownBy_putObj' W D _) HB.out.size (fun r e => by cases e; omega)
 ·rintro D c pre W hD ⟨r, hr⟩ ⟨rfl, bW, ⟨x, hx, hx2⟩, hB⟩ hK
  have hL : L.all id = false := by
   rw [Bool.eq_false_iff]
   intro e
   have := List.all_eq_true.1 e x (by rw [← hr]; exact List.mem_append_left _ hx)
   rw [hx2] at this
   cases this
  have cW := bW.cell
  have HL := zH hL
  have HK := zH hK
  have HB := zH hB
  clear hL hr hx hK hB
  gi_wp2_with fail
  rw [Exit.noGoto_ret]
  refine ⟨by simp, .inl ⟨_, _, rfl, run_takeDeferred HK.out, ?_⟩⟩
  refine ⟨.bool false, ?_, by rw [HL.out], ?_⟩
  ·rw [results_tmp rfl]
   go_simp
  ·exact HB.out.grown (grownBy_putObj' W D _) HB.out.size (fun r e => by cases e; omega)
end Go.Proofs.YtpefjkndfifceaaGreatDoor
namespace Go.Proofs.YtpefjkndfifceaaGreatDoor
open Go.RowKit
set_option maxRecDepth 100000
theorem publicly_m (x y z : Value) (w : World) (hx : ∃ a n c, x = .slice a n c) (hy : ∃ a n c, y = .slice a n c) (hz : ∃ a n c, z = .slice a n c) :
  Calls Tryz.prog 75 #[.agg #[x, y, z]] w fun e w' => e = .returned (.func (.func 112) #[] #[.pointer (some ⟨w.heap.size, 0, none⟩)]) ∧ w' = w.alloc (.cells #[x, y, z] 24) := by
 obtain ⟨a1, n1, c1, rfl⟩ := hx
 obtain ⟨a2, n2, c2, rfl⟩ := hy
 obtain ⟨a3, n3, c3, rfl⟩ := hz
 go_enter Tryz.func75, Tryz.ntmps75
 go_wp2
 go_ret
 exact ⟨rfl, rfl⟩
theorem privately_m (x y z : Value) (w : World) (hx : ∃ a n c, x = .slice a n c) (hy : ∃ a n c, y = .slice a n c) (hz : ∃ a n c, z = .slice a n c) :
  Calls Tryz.prog 63 #[.agg #[x, y, z]] w fun e w' => e = .returned (.func (.func 103) #[] #[.pointer (some ⟨w.heap.size, 0, none⟩)]) ∧ w' = w.alloc (.cells #[x, y, z] 24) := by
 obtain ⟨a1, n1, c1, rfl⟩ := hx
 obtain ⟨a2, n2, c2, rfl⟩ := hy
 obtain ⟨a3, n3, c3, rfl⟩ := hz
 go_enter Tryz.func63, Tryz.ntmps63
 go_wp2
 go_ret
 exact ⟨rfl, rfl⟩
def pubL (N E : List Nat) : List Bool := [numOk N, (numV N).testBit 0, decide (256 ≤ bitsN (numV N)) && decide (bitsN (numV N) ≤ 4096), numOk E, (numV E).testBit 0, decide (bitsN (numV E) ≤ 64), decide (3 ≤ numV E)]
def privL (N D : List Nat) : List Bool := [numOk D, decide (0 < bitsN (numV D)), decide (numV D < numV N)]
theorem pubL_iff (N E : List Nat) : (pubL N E).all id = true ↔ PubP N E := by
 have hz : bitsN 0 = 0 := by have := (bitsN_le 0 0).2 (by decide); omega
 have two : ∀ n, 2 ≤ bitsN n ↔ 2 ≤ n := fun n => by
  have h := bitsN_le n 1
  rw [Nat.pow_one] at h
  omega
 have odd : ∀ n : Nat, n.testBit 0 = true ↔ n % 2 = 1 := fun n => by rw [Nat.testBit_zero, decide_eq_true_iff]
 simp only [pubL, List.all_cons, List.all_nil, id, Bool.and_true, Bool.and_eq_true, decide_eq_true_eq]
 unfold PubP
 constructor
 ·rintro ⟨h1, h2, ⟨h3, h4⟩, h5, h6, h7, h8⟩
  have e1 : numV N = nV N := by unfold numV; rw [if_pos h1]
  have e2 : numV E = nV E := by unfold numV; rw [if_pos h5]
  rw [e1] at h2 h3 h4
  rw [e2] at h6 h7 h8
  refine ⟨h1, h5, h3, h4, (two _).2 (by omega), h7, h2, h6, ?_⟩
  have hlt : nV E < 2 ^ 64 := (bitsN_le _ 64).1 h7
  by_cases h : nV N < 2 ^ 64
  ·have := (bitsN_le _ 64).2 h; omega
  ·omega
 ·rintro ⟨h1, h5, h3, h4, h9, h7, h2, h6, -⟩
  have e1 : numV N = nV N := by unfold numV; rw [if_pos h1]
  have e2 : numV E = nV E := by unfold numV; rw [if_pos h5]
  rw [e1, e2]
  refine ⟨h1, h2, ⟨h3, h4⟩, h5, h6, h7, ?_⟩
  have := (two _).1 h9
  have := (odd _).1 h6
  omega
theorem privL_iff (N E D : List Nat) (hp : PubP N E) : (privL N D).all id = true ↔ PrivP N E D := by
 have pos : ∀ n, 0 < bitsN n ↔ n ≠ 0 := fun n => by
  have h := bitsN_le n 0
  rw [Nat.pow_zero] at h
  omega
 have e1 : numV N = nV N := by unfold numV; rw [if_pos hp.1]
 simp only [privL, List.all_cons, List.all_nil, id, Bool.and_true, Bool.and_eq_true, decide_eq_true_eq]
 unfold PrivP
 constructor
 ·rintro ⟨h1, h2, h3⟩
  have e2 : numV D = nV D := by unfold numV; rw [if_pos h1]
  rw [e2] at h2 h3
  rw [e1] at h3
  exact ⟨hp, h1, (pos _).1 h2, h3⟩
 ·rintro ⟨-, h1, h2, h3⟩
  have e2 : numV D = nV D := by unfold numV; rw [if_pos h1]
  rw [e2, e1]
  exact ⟨h1, (pos _).2 h2, h3⟩
end Go.Proofs.YtpefjkndfifceaaGreatDoor
namespace Go.Proofs.YtpefjkndfifceaaGreatDoor
open Go.RowKit
set_option maxRecDepth 100000
theorem grown_belowR {W X : World} (h : Below W.heap.size W X) (row : Option Nat) : W.grownBy X row := by
 exact ⟨h.1, h.2, h.3, h.size, fun k hk _ => h.block k hk⟩
theorem OwnQ.kpR {q : IntKind} {E B : Nat} {w X : World} {v : Value} {l : List Nat} {Ex : Nat → Prop} (h : OwnQ q E B w v l) (hk : KpV Ex w X) (hn : ∀ g, v.ownBlock = some g → ¬ Ex g) : OwnQ q E B X v l := by
 obtain ⟨h1, h2⟩ := h
 refine ⟨h1, ?_⟩
 rcases h2 with h2 | ⟨g, cap, cur, rfl, hB, hg, rest⟩
 ·exact .inl h2
 ·exact .inr ⟨g, cap, cur, rfl, hB, by rw [hk.2 g (Array.getElem?_eq_some_iff.1 hg).1 (hn g (by simp [Value.ownBlock]))]; exact hg, rest⟩
theorem wpListIn_pass {n : Nat} {P : Program} {ops : Array Oper} {Q : Exit → Act → World → Prop} {o : Oper} {rest : List Oper} {a : Act} {w : World} (hw : Region.wanted o (yielded ops a.tmps) = false) (h : wpListIn Fence.wide n P ops Q rest (a.put o.dst undef) w) : wpListIn Fence.wide n P ops Q (o :: rest) a w := by
 simp only [wpListIn, hw]
 exact ⟨fun _ _ => trivial, h⟩
theorem numV_small {l : List Nat} (hb : Byt l) (h : l.length ≤ 700) : numV l < topN := by
 unfold numV
 split
 ·exact key_small hb h
 ·exact topN_pos
set_option maxHeartbeats 4000000 in
theorem privately_comes (na : Option Addr) (nn nc : Nat) (N : List Nat) (x1 : Value) (da : Option Addr) (dn dc : Nat) (D : List Nat) (bk : Nat) (w : World) (hq : w.heap[bk]? = some (.cells #[.slice na nn nc, x1, .slice da dn dc] 24)) (hN : Reads .u8 w na nn nc N) (bN : Byt N) (hD : Reads .u8 w da dn dc D) (bD : Byt D) (ln : nn ≤ 700) (ld : dn ≤ 700) :
  SeqV (fun _ => False) (fun _ => False) Fence.wide (3 - 1) Tryz.prog 103 #[.pointer (some ⟨bk, 0, none⟩)] encH (fun x => x = true) (fun xs => xs = privL N D) (fun pre => ∃ r, pre ++ r = privL N D) (fun _ => True) w := fun lp J Jx W hlp hlW hW hJ hJx hY h0 => by
 have HJ := zH hJ
 have HY := zH hY
 have HJ0 := zH h0
 have HQ := zH ((hW.block bk (Array.getElem?_eq_some_iff.1 hq).1).trans hq)
 have HRN := zH (hN.below hW)
 have HRD := zH (hD.below hW)
 have HBN := zH bN
 have HBD := zH bD
 have HSN := zH (numV_small bN (by rw [hN.length]; exact ln))
 have HSD := zH (numV_small bD (by rw [hD.length]; exact ld))
 have hbk : bk < w.heap.size := (Array.getElem?_eq_some_iff.1 hq).1
 have HSZ := zH (And.intro hlp (And.intro hlW (And.intro hbk hW.size)))
 clear hJ hJx hY h0 hq hN hD bN bD hW hlp hlW hbk
 refine callsIn_of_wp Tryz.func103 rfl trivial ?_ rfl
 simp only [Tryz.ntmps103, List.size_toArray, List.length_cons, List.length_nil, Nat.reduceAdd, Nat.reduceSub, Array.replicate_succ, Array.replicate_zero, List.push_toArray, List.append_toArray, List.nil_append, List.cons_append]
 obtain ⟨k0, k1, k2⟩ := key_cells HQ.out
 gi_wp2_with fail
 refine ⟨trivial, ?_⟩
 refine (callsIn_wide.2 (number_c na nn nc N _ HRN.out HBN.out ln)).mono ?_
 rintro e w1 ⟨⟨v1, rfl, hv⟩, hb⟩
 have V1 := zH hv
 have HB := zH hb
 clear hv hb k0 k1 k2
 obtain ⟨k0, k1, k2⟩ := key_cells ((HB.out.block bk (Array.getElem?_eq_some_iff.1 HQ.out).1).trans HQ.out)
 gi_wp2_with fail
 refine ⟨trivial, ?_⟩
 refine (callsIn_wide.2 (number_c da dn dc D _ (HRD.out.below HB.out) HBD.out ld)).mono ?_
 rintro e w2 ⟨⟨v2, rfl, hv⟩, hb⟩
 have V2 := zH (hv.mono HB.out.size)
 have V1 := zH (V1.out.below hb)
 have HB := zH (HB.out.trans (hb.mono HB.out.size))
 clear hv hb k0 k1 k2
 obtain ⟨a1, n1, c1, rfl, hn1, o1⟩ := num_slice V1.out HSN.out
 obtain ⟨a2, n2, c2, rfl, hn2, o2⟩ := num_slice V2.out HSD.out
 have V1 := zH o1
 have V2 := zH o2
 have HZW := zH HB.out.size
 clear o1 o2
 have NL : ∀ (a : Option Addr) (n c : Nat) (X : World) (l : List Nat), OwnQ .u32 71 W.heap.size X (.slice a n c) l → ∀ g, (Value.slice a n c).ownBlock = some g → ¬ (g = lp ∨ False) := fun a n c X l h g e k => by
  have h1 := (World.ownsRow.lt h g e).1
  have h2 := HSZ.out.2.1
  rcases k with k | k
  ·omega
  ·exact k
 have NLo := zH NL
 clear NL
 have hj2 := HJ.out _ _ _ none HJ0.out (grown_belowR HB.out none) (fun r e => by cases e)
 obtain ⟨fn, tmps, assign, body, hy, hR⟩ := HY.out [] (numOk D) w2 hj2
 simp only [encH] at hy
 have HRR := zH hR
 clear hR
 gi_wp2_with fail
 refine HRR.out.mono ?_
 rintro e w3 (⟨rfl, hgx, hJ3, hk3⟩ | ⟨rfl, hx3⟩)
 rotate_left
 ·have HX3 := zH hx3
  clear hx3 hy HRR
  gi_wp2
  refine ⟨trivial, ?_⟩
  gi_step
  refine wpListIn_pass (by kernel_rfl) ?_
  refine wpListIn_pass (by kernel_rfl) ?_
  gi_wp2
  refine ⟨trivial, ?_⟩
  gi_step
  refine wpListIn_pass (by kernel_rfl) ?_
  refine wpListIn_pass (by kernel_rfl) ?_
  gi_wp2
  go_end0
  exact ⟨⟨_, rfl⟩, .inr ⟨[numOk D], ⟨_, rfl⟩, HX3.out⟩⟩
 have V1 := zH (V1.out.kpR hk3 (NLo.out _ _ _ _ _ V1.out))
 have V2 := zH (V2.out.kpR hk3 (NLo.out _ _ _ _ _ V2.out))
 have HG1 := zH hgx
 have HJ3 := zH hJ3
 clear hy HRR hgx hJ3 hk3 hj2
 obtain ⟨b, hb⟩ : ∃ b, bitsN (numV D) = b := ⟨_, rfl⟩
 have HBb := zH (show bitsN (val32 (nat32 (numV D))) = b by rw [val_nat]; exact hb)
 have HBe := zH hb
 have hb9 : b ≤ 8192 := by
  rw [← hb]
  have h1 := HSD.out
  rw [topN_two] at h1
  exact (bitsN_le (numV D) 8192).2 h1
 clear hb
 gi_wp2_with fail
 refine ⟨trivial, ?_⟩
 refine (callsIn_wide.2 (bits_any a2 n2 c2 _ _ V2.out.reads (lim_nat _) (by omega))).mono ?_
 rintro e w' ⟨rfl, rfl⟩
 rw [HBb.out]
 obtain ⟨fn, tmps, assign, body, hy, hR⟩ := HY.out [numOk D] (decide (0 < b)) w3 HJ3.out
 simp only [encH] at hy
 have HRR := zH hR
 clear hR
 gi_wp2_with fail
 refine HRR.out.mono ?_
 rintro e w4 (⟨rfl, hgx, hJ4, hk4⟩ | ⟨rfl, hx4⟩)
 rotate_left
 ·have HX4 := zH hx4
  clear hx4 hy HRR
  gi_wp2
  refine ⟨trivial, ?_⟩
  gi_step
  refine wpListIn_pass (by kernel_rfl) ?_
  refine wpListIn_pass (by kernel_rfl) ?_
  gi_wp2
  go_end0
  exact ⟨⟨_, rfl⟩, .inr ⟨[numOk D, decide (0 < b)], ⟨[decide (numV D < numV N)], by unfold privL; rw [HBe.out]; rfl⟩, HX4.out⟩⟩
 have V1 := zH (V1.out.kpR hk4 (NLo.out _ _ _ _ _ V1.out))
 have V2 := zH (V2.out.kpR hk4 (NLo.out _ _ _ _ _ V2.out))
 have HJ4 := zH hJ4
 clear hy HRR hgx hJ4 hk4
 gi_wp2_with fail
 refine ⟨trivial, ?_⟩
 refine (callsIn_wide.2 (cmp_any a2 a1 n2 c2 n1 c1 _ _ _ V2.out.reads V1.out.reads (lim_nat _) (lim_nat _))).mono ?_
 rintro e w5 ⟨rfl, hb⟩
 rw [val_nat, val_nat]
 have hj5 := HJ.out _ _ _ none HJ4.out (grown_belowR hb none) (fun r e => by cases e)
 obtain ⟨o, ho⟩ : ∃ o, ordN (numV D) (numV N) = o := ⟨_, rfl⟩
 have hoc : decide (o < 0) = decide (numV D < numV N) := by
  rw [← ho]
  unfold ordN
  by_cases h1 : numV D < numV N
  ·rw [if_pos h1, decide_eq_true h1]; rfl
  ·rw [if_neg h1, decide_eq_false h1]; split <;> rfl
 have HOC := zH hoc
 rw [ho]
 clear ho hoc hb
 obtain ⟨fn, tmps, assign, body, hy, hR⟩ := HY.out ([numOk D] ++ [decide (0 < b)]) (decide (o < 0)) w5 hj5
 simp only [encH] at hy
 have HRR := zH hR
 clear hR
 gi_wp2_with fail
 refine HRR.out.mono ?_
 rintro e w6 (⟨rfl, hgx, hJ6, hk6⟩ | ⟨rfl, hx6⟩)
 ·have HJ6 := zH hJ6
  clear hy HRR hgx hJ6 hk6 hj5
  gi_wp2
  go_end0
  exact ⟨⟨_, rfl⟩, .inl ⟨privL N D, rfl, by have := HJ6.out; rw [HOC.out] at this; unfold privL; rw [HBe.out]; exact this, trivial⟩⟩
 ·have HX6 := zH hx6
  clear hy HRR hx6 hj5
  gi_wp2
  go_end0
  exact ⟨⟨_, rfl⟩, .inr ⟨privL N D, ⟨[], List.append_nil _⟩, by have := HX6.out; rw [HOC.out] at this; unfold privL; rw [HBe.out]; exact this⟩⟩
end Go.Proofs.YtpefjkndfifceaaGreatDoor
namespace Go.Proofs.YtpefjkndfifceaaGreatDoor
open Go.RowKit
set_option maxRecDepth 100000
theorem wide_fn (f : FuncId) : Fence.wide.fn f = True := rfl
attribute [local go_sem] wide_fn
theorem Reads.keeps {q : IntKind} {w X : World} {a : Option Addr} {n c : Nat} {l : List Nat} (h : Reads q w a n c l) (hk : w.heap.size ≤ X.heap.size ∧ ∀ k, k < w.heap.size → X.heap[k]? = w.heap[k]?) : Reads q X a n c l :=
 ⟨h.length, h.le, h.max, h.nil, fun hp => by
  obtain ⟨b, off, rfl, hlt, hc⟩ := h.cells hp
  exact ⟨b, off, rfl, Nat.lt_of_lt_of_le hlt hk.1, fun i hi => by
   have h1 := hc i hi
   simp only [World.cell?, hk.2 b hlt] at h1 ⊢
   exact h1⟩⟩
def LowAs (w X : World) : Prop := w.heap.size ≤ X.heap.size ∧ ∀ k, k < w.heap.size → X.heap[k]? = w.heap[k]?
theorem LowAs.below {w X Y : World} (h : LowAs w X) (k : Below X.heap.size X Y) : LowAs w Y := ⟨Nat.le_trans h.1 k.size, fun i hi => (k.block i (Nat.lt_of_lt_of_le hi h.1)).trans (h.2 i hi)⟩
theorem LowAs.kp {w X Y : World} {lp : Nat} (h : LowAs w X) (k : KpV (fun i => i = lp ∨ False) X Y) (hl : w.heap.size ≤ lp) : LowAs w Y := ⟨Nat.le_trans h.1 k.1, fun i hi => (k.2 i (Nat.lt_of_lt_of_le hi h.1) (fun e => by rcases e with e | e; omega; exact e)).trans (h.2 i hi)⟩
set_option maxHeartbeats 8000000 in
theorem publicly_comes (na : Option Addr) (nn nc : Nat) (N : List Nat) (ea : Option Addr) (en ec : Nat) (E : List Nat) (x1 : Value) (bk : Nat) (w : World) (hq : w.heap[bk]? = some (.cells #[.slice na nn nc, .slice ea en ec, x1] 24)) (hN : Reads .u8 w na nn nc N) (bN : Byt N) (hE : Reads .u8 w ea en ec E) (bE : Byt E) (ln : nn ≤ 700) (le : en ≤ 700) :
  SeqV (fun _ => False) (fun _ => False) Fence.wide (3 - 1) Tryz.prog 112 #[.pointer (some ⟨bk, 0, none⟩)] encH (fun x => x = true) (fun xs => xs = pubL N E) (fun pre => ∃ r, pre ++ r = pubL N E) (fun _ => True) w := fun lp J Jx W hlp hlW hW hJ hJx hY h0 => by
 have HJ := zH hJ
 have HY := zH hY
 have HJ0 := zH h0
 have HQ0 := zH hq
 have HRN := zH (hN.below hW)
 have HRE := zH hE
 have HLW := zH (show LowAs w W from ⟨hW.size, fun k hk => hW.block k hk⟩)
 have HBN := zH bN
 have HBE := zH bE
 have HSN := zH (numV_small bN (by rw [hN.length]; exact ln))
 have HSE := zH (numV_small bE (by rw [hE.length]; exact le))
 have hbk : bk < w.heap.size := (Array.getElem?_eq_some_iff.1 hq).1
 have HSZ := zH (And.intro hlp (And.intro hlW (And.intro hbk hW.size)))
 have NL : ∀ (a : Option Addr) (n c : Nat) (X : World) (l : List Nat), OwnQ .u32 71 W.heap.size X (.slice a n c) l → ∀ g, (Value.slice a n c).ownBlock = some g → ¬ (g = lp ∨ False) := fun a n c X l h g e k => by
  have h1 := (World.ownsRow.lt h g e).1
  rcases k with k | k
  ·omega
  ·exact k
 have NLo := zH NL
 obtain ⟨tn, htn⟩ : ∃ x, (numV N).testBit 0 = x := ⟨_, rfl⟩
 obtain ⟨te, hte⟩ : ∃ x, (numV E).testBit 0 = x := ⟨_, rfl⟩
 obtain ⟨bn, hbn⟩ : ∃ x, bitsN (numV N) = x := ⟨_, rfl⟩
 obtain ⟨be, hbe⟩ : ∃ x, bitsN (numV E) = x := ⟨_, rfl⟩
 have hb9 : bn ≤ 8192 := by
  rw [← hbn]
  have h1 := HSN.out
  rw [topN_two] at h1
  exact (bitsN_le (numV N) 8192).2 h1
 have hb8 : be ≤ 8192 := by
  rw [← hbe]
  have h1 := HSE.out
  rw [topN_two] at h1
  exact (bitsN_le (numV E) 8192).2 h1
 obtain ⟨o, ho⟩ : ∃ o, ordN (numV E) 3 = o := ⟨_, rfl⟩
 have hoc : decide (0 ≤ o) = decide (3 ≤ numV E) := by
  rw [← ho]
  unfold ordN
  by_cases h1 : numV E < 3
  ·rw [if_pos h1, decide_eq_false (show ¬ 3 ≤ numV E by omega)]; rfl
  ·rw [if_neg h1, decide_eq_true (show 3 ≤ numV E by omega)]; split <;> rfl
 obtain ⟨c6, hc6⟩ : ∃ x, decide (be ≤ 64) = x := ⟨_, rfl⟩
 have HC6 := zH (show decide (be ≤ 64) = c6 ∧ decide ((be : Int) ≤ 64) = c6 from ⟨hc6, by rw [← hc6]; by_cases h : be ≤ 64; rw [decide_eq_true h, decide_eq_true (by omega)]; rw [decide_eq_false h, decide_eq_false (by omega)]⟩)
 obtain ⟨c3, hc3⟩ : ∃ x, (decide (256 ≤ bn) && decide (bn ≤ 4096)) = x := ⟨_, rfl⟩
 have HC3 := zH hc3
 have HL := zH (show pubL N E = [numOk N, tn, c3, numOk E, te, c6, decide (0 ≤ o)] by
  unfold pubL; rw [htn, hte, hbn, hbe, hoc, hc3, hc6])
 have HTN := zH (show (decide ((0 : Int) ≤ 0) && (val32 (nat32 (numV N))).testBit (0 : Int).toNat) = tn by rw [val_nat]; simpa using htn)
 have HTE := zH (show (decide ((0 : Int) ≤ 0) && (val32 (nat32 (numV E))).testBit (0 : Int).toNat) = te by rw [val_nat]; simpa using hte)
 have HB9 := zH (show bitsN (val32 (nat32 (numV N))) = bn by rw [val_nat]; exact hbn)
 have HB8 := zH (show bitsN (val32 (nat32 (numV E))) = be by rw [val_nat]; exact hbe)
 have HO := zH (show ordN (val32 (nat32 (numV E))) (val32 (nat32 3)) = o by rw [val_nat, val_nat]; exact ho)
 clear hJ hJx hY h0 hq hN hE bN bE hW hlp hlW hbk NL htn hte hbn hbe ho hoc hc3 hc6
 refine callsIn_of_wp Tryz.func112 rfl trivial ?_ rfl
 simp only [Tryz.ntmps112, List.size_toArray, List.length_cons, List.length_nil, Nat.reduceAdd, Nat.reduceSub, Array.replicate_succ, Array.replicate_zero, List.push_toArray, List.append_toArray, List.nil_append, List.cons_append]
 have HJw := HJ0
 have HZ := zH (Nat.le_refl W.heap.size)
 obtain ⟨k0, k1, k2⟩ := key_cells ((HLW.out.2 bk (Array.getElem?_eq_some_iff.1 HQ0.out).1).trans HQ0.out)
 gi_wp2_with fail
 refine (callsIn_wide.2 (number_c na nn nc N _ HRN.out HBN.out ln)).mono ?_
 rintro e w1 ⟨⟨v1, rfl, hv⟩, hb⟩
 obtain ⟨a1, n1, c1, rfl, hn1, o1⟩ := num_slice hv HSN.out
 have V1 := zH o1
 replace HJw := zH (HJ.out _ _ _ none HJw.out (grown_belowR hb none) (fun r e => by cases e))
 replace HLW := zH (HLW.out.below hb)
 replace HZ := zH (Nat.le_trans HZ.out hb.size)
 clear hv hb k0 k1 k2 o1
 gi_wp2_with fail
 refine (callsIn_wide.2 (bits_any a1 n1 c1 _ _ V1.out.reads (lim_nat _) (by omega))).mono ?_
 rintro e w' ⟨rfl, rfl⟩
 rw [HB9.out]
 obtain ⟨fn, tmps, assign, body, hy, hR⟩ := HY.out _ (numOk N) w1 HJw.out
 simp only [encH] at hy
 have HRR := zH hR
 clear hR
 gi_wp2_with fail
 refine HRR.out.mono ?_
 rintro e y1 (⟨rfl, hgx, hJ3, hk3⟩ | ⟨rfl, hx3⟩)
 rotate_left
 ·have HX3 := zH hx3
  clear hx3 hy HRR
  gi_wp2
  refine bodyPost_ret (results_none rfl _ _ _) rfl ?_
  exact ⟨⟨_, rfl⟩, .inr ⟨_, ⟨[tn, c3, numOk E, te, c6, decide (0 ≤ o)], by rw [HL.out]; rfl⟩, HX3.out⟩⟩
 replace V1 := zH (V1.out.kpR hk3 (NLo.out _ _ _ _ _ V1.out))
 replace HLW := zH (HLW.out.kp hk3 HSZ.out.1)
 replace HZ := zH (Nat.le_trans HZ.out hk3.1)
 replace HJw := zH hJ3
 clear hy HRR hgx hJ3 hk3
 gi_wp2_with fail
 refine (callsIn_wide.2 (bit_any a1 n1 c1 _ _ V1.out.reads (lim_nat _) 0 (by decide))).mono ?_
 rintro e w' ⟨rfl, rfl⟩
 rw [HTN.out]
 obtain ⟨fn, tmps, assign, body, hy, hR⟩ := HY.out _ tn y1 HJw.out
 simp only [encH] at hy
 have HRR := zH hR
 clear hR
 gi_wp2_with fail
 refine HRR.out.mono ?_
 rintro e y2 (⟨rfl, hgx, hJ3, hk3⟩ | ⟨rfl, hx3⟩)
 rotate_left
 ·have HX3 := zH hx3
  clear hx3 hy HRR
  gi_wp2
  refine bodyPost_ret (results_none rfl _ _ _) rfl ?_
  exact ⟨⟨_, rfl⟩, .inr ⟨_, ⟨[c3, numOk E, te, c6, decide (0 ≤ o)], by rw [HL.out]; rfl⟩, HX3.out⟩⟩
 replace HLW := zH (HLW.out.kp hk3 HSZ.out.1)
 replace HZ := zH (Nat.le_trans HZ.out hk3.1)
 replace HJw := zH hJ3
 clear hy HRR hgx hJ3 hk3
 by_cases hb1 : 256 ≤ bn
 rotate_left
 ·have t1 : decide ((256 : Int) ≤ (bn : Int)) = false := decide_eq_false (by omega)
  have t2 : decide (256 ≤ bn) = false := decide_eq_false hb1
  obtain rfl : c3 = false := by rw [← HC3.out, t2]; rfl
  clear hb1
  obtain ⟨fn, tmps, assign, body, hy, hR⟩ := HY.out _ false y2 HJw.out
  simp only [encH] at hy
  have HRR := zH hR
  clear hR
  gi_wp2_with fail
  refine HRR.out.mono ?_
  rintro e y3 (⟨rfl, hgx, hJ3, hk3⟩ | ⟨rfl, hx3⟩)
  ·cases hgx
  ·have HX3 := zH hx3
   clear hx3 hy HRR
   gi_wp2
   refine bodyPost_ret (results_none rfl _ _ _) rfl ?_
   exact ⟨⟨_, rfl⟩, .inr ⟨_, ⟨[numOk E, te, c6, decide (0 ≤ o)], by rw [HL.out]; rfl⟩, HX3.out⟩⟩
 have t1 : decide ((256 : Int) ≤ (bn : Int)) = true := decide_eq_true (by omega)
 have t2 : decide (256 ≤ bn) = true := decide_eq_true hb1
 have t3 : decide (bn ≤ 4096) = c3 := by rw [← HC3.out, t2]; rfl
 have t4 : decide ((bn : Int) ≤ 4096) = c3 := by rw [← t3]; by_cases h : bn ≤ 4096; rw [decide_eq_true h, decide_eq_true (by omega)]; rw [decide_eq_false h, decide_eq_false (by omega)]
 clear hb1
 obtain ⟨fn, tmps, assign, body, hy, hR⟩ := HY.out _ c3 y2 HJw.out
 simp only [encH] at hy
 have HRR := zH hR
 clear hR
 gi_wp2_with fail
 refine HRR.out.mono ?_
 rintro e y3 (⟨rfl, hgx, hJ3, hk3⟩ | ⟨rfl, hx3⟩)
 rotate_left
 ·have HX3 := zH hx3
  clear hx3 hy HRR
  gi_wp2
  refine bodyPost_ret (results_none rfl _ _ _) rfl ?_
  exact ⟨⟨_, rfl⟩, .inr ⟨_, ⟨[numOk E, te, c6, decide (0 ≤ o)], by rw [HL.out]; rfl⟩, HX3.out⟩⟩
 replace HLW := zH (HLW.out.kp hk3 HSZ.out.1)
 replace HZ := zH (Nat.le_trans HZ.out hk3.1)
 replace HJw := zH hJ3
 clear hy HRR hgx hJ3 hk3
 clear t1 t2 t3 t4 V1
 obtain ⟨k0, k1, k2⟩ := key_cells ((HLW.out.2 bk (Array.getElem?_eq_some_iff.1 HQ0.out).1).trans HQ0.out)
 gi_wp2_with fail
 refine (callsIn_wide.2 (number_c ea en ec E _ (HRE.out.keeps HLW.out) HBE.out le)).mono ?_
 rintro e w2 ⟨⟨v2, rfl, hv⟩, hb⟩
 obtain ⟨a2, n2, c2, rfl, hn2, o2⟩ := num_slice hv HSE.out
 have V2 := zH (o2.mono HZ.out)
 replace HJw := zH (HJ.out _ _ _ none HJw.out (grown_belowR hb none) (fun r e => by cases e))
 replace HLW := zH (HLW.out.below hb)
 replace HZ := zH (Nat.le_trans HZ.out hb.size)
 clear hv hb k0 k1 k2 o2
 obtain ⟨fn, tmps, assign, body, hy, hR⟩ := HY.out _ (numOk E) w2 HJw.out
 simp only [encH] at hy
 have HRR := zH hR
 clear hR
 gi_wp2_with fail
 refine HRR.out.mono ?_
 rintro e y4 (⟨rfl, hgx, hJ3, hk3⟩ | ⟨rfl, hx3⟩)
 rotate_left
 ·have HX3 := zH hx3
  clear hx3 hy HRR
  gi_wp2
  refine bodyPost_ret (results_none rfl _ _ _) rfl ?_
  exact ⟨⟨_, rfl⟩, .inr ⟨_, ⟨[te, c6, decide (0 ≤ o)], by rw [HL.out]; rfl⟩, HX3.out⟩⟩
 replace V2 := zH (V2.out.kpR hk3 (NLo.out _ _ _ _ _ V2.out))
 replace HLW := zH (HLW.out.kp hk3 HSZ.out.1)
 replace HZ := zH (Nat.le_trans HZ.out hk3.1)
 replace HJw := zH hJ3
 clear hy HRR hgx hJ3 hk3
 gi_wp2_with fail
 refine (callsIn_wide.2 (bit_any a2 n2 c2 _ _ V2.out.reads (lim_nat _) 0 (by decide))).mono ?_
 rintro e w' ⟨rfl, rfl⟩
 rw [HTE.out]
 obtain ⟨fn, tmps, assign, body, hy, hR⟩ := HY.out _ te y4 HJw.out
 simp only [encH] at hy
 have HRR := zH hR
 clear hR
 gi_wp2_with fail
 refine HRR.out.mono ?_
 rintro e y5 (⟨rfl, hgx, hJ3, hk3⟩ | ⟨rfl, hx3⟩)
 rotate_left
 ·have HX3 := zH hx3
  clear hx3 hy HRR
  gi_wp2
  refine bodyPost_ret (results_none rfl _ _ _) rfl ?_
  exact ⟨⟨_, rfl⟩, .inr ⟨_, ⟨[c6, decide (0 ≤ o)], by rw [HL.out]; rfl⟩, HX3.out⟩⟩
 replace V2 := zH (V2.out.kpR hk3 (NLo.out _ _ _ _ _ V2.out))
 replace HLW := zH (HLW.out.kp hk3 HSZ.out.1)
 replace HZ := zH (Nat.le_trans HZ.out hk3.1)
 replace HJw := zH hJ3
 clear hy HRR hgx hJ3 hk3
 gi_wp2_with fail
 refine (callsIn_wide.2 (bits_any a2 n2 c2 _ _ V2.out.reads (lim_nat _) (by omega))).mono ?_
 rintro e w' ⟨rfl, rfl⟩
 rw [HB8.out]
 obtain ⟨t5, t6⟩ := HC6.out
 obtain ⟨fn, tmps, assign, body, hy, hR⟩ := HY.out _ c6 y5 HJw.out
 simp only [encH] at hy
 have HRR := zH hR
 clear hR
 gi_wp2_with fail
 refine HRR.out.mono ?_
 rintro e y6 (⟨rfl, hgx, hJ3, hk3⟩ | ⟨rfl, hx3⟩)
 rotate_left
 ·have HX3 := zH hx3
  clear hx3 hy HRR
  gi_wp2
  refine bodyPost_ret (results_none rfl _ _ _) rfl ?_
  exact ⟨⟨_, rfl⟩, .inr ⟨_, ⟨[decide (0 ≤ o)], by rw [HL.out]; rfl⟩, HX3.out⟩⟩
 replace V2 := zH (V2.out.kpR hk3 (NLo.out _ _ _ _ _ V2.out))
 replace HLW := zH (HLW.out.kp hk3 HSZ.out.1)
 replace HZ := zH (Nat.le_trans HZ.out hk3.1)
 replace HJw := zH hJ3
 clear hy HRR hgx hJ3 hk3
 clear t5 t6
 gi_wp2_with fail
 refine (callsIn_wide.2 (of_any 3 3 rfl _ (by decide))).mono ?_
 rintro e w3 ⟨⟨v3, rfl, hv⟩, hb⟩
 obtain ⟨a3, n3, c3', rfl, hn3, o3⟩ := num_slice hv (top_of topN_256 (k := 1) (by omega) (show 3 < 256 ^ 1 by decide))
 have V3 := zH o3
 replace V2 := zH (V2.out.below hb)
 replace HJw := zH (HJ.out _ _ _ none HJw.out (grown_belowR hb none) (fun r e => by cases e))
 replace HLW := zH (HLW.out.below hb)
 replace HZ := zH (Nat.le_trans HZ.out hb.size)
 clear hv hb o3
 gi_wp2_with fail
 refine (callsIn_wide.2 (cmp_any a2 a3 n2 c2 n3 c3' _ _ _ V2.out.reads V3.out.reads (lim_nat _) (lim_nat _))).mono ?_
 rintro e w4 ⟨rfl, hb⟩
 rw [HO.out]
 replace HJw := zH (HJ.out _ _ _ none HJw.out (grown_belowR hb none) (fun r e => by cases e))
 replace HLW := zH (HLW.out.below hb)
 replace HZ := zH (Nat.le_trans HZ.out hb.size)
 clear hb V2 V3
 obtain ⟨fn, tmps, assign, body, hy, hR⟩ := HY.out _ (decide (0 ≤ o)) w4 HJw.out
 simp only [encH] at hy
 have HRR := zH hR
 clear hR
 gi_wp2_with fail
 refine HRR.out.mono ?_
 rintro e y7 (⟨rfl, hgx, hJ3, hk3⟩ | ⟨rfl, hx3⟩)
 rotate_left
 ·have HX3 := zH hx3
  clear hx3 hy HRR
  gi_wp2
  go_end0
  exact ⟨⟨_, rfl⟩, .inr ⟨_, ⟨[], by rw [HL.out]; rfl⟩, HX3.out⟩⟩
 replace HLW := zH (HLW.out.kp hk3 HSZ.out.1)
 replace HZ := zH (Nat.le_trans HZ.out hk3.1)
 replace HJw := zH hJ3
 clear hy HRR hgx hJ3 hk3
 gi_wp2
 go_end0
 exact ⟨⟨_, rfl⟩, .inl ⟨pubL N E, rfl, by have := HJw.out; rw [HL.out]; exact this, trivial⟩⟩
end Go.Proofs.YtpefjkndfifceaaGreatDoor
namespace Go.Proofs.YtpefjkndfifceaaGreatDoor
open Go.RowKit
set_option maxRecDepth 100000
set_option maxHeartbeats 4000000 in
theorem public_any (na : Option Addr) (nn nc : Nat) (N : List Nat) (ea : Option Addr) (en ec : Nat) (E : List Nat) (da : Option Addr) (dn dc : Nat) (w : World) (hN : Reads .u8 w na nn nc N) (bN : Byt N) (hE : Reads .u8 w ea en ec E) (bE : Byt E) (ln : nn ≤ 700) (le : en ≤ 700) :
  Calls Tryz.prog 32 #[.agg #[.slice na nn nc, .slice ea en ec, .slice da dn dc]] w fun e w' => e = .returned (.int .i64 (pubE N E)) ∧ Below w.heap.size w w' := by
 have HRN := zH hN
 have HRE := zH hE
 have HBN := zH bN
 have HBE := zH bE
 have hba := (Below.refl w.heap.size w).alloc (Nat.le_refl _) (.cells #[.slice na nn nc, .slice ea en ec, .slice da dn dc] 24)
 have hq0 : (w.alloc (.cells #[.slice na nn nc, .slice ea en ec, .slice da dn dc] 24)).heap[w.heap.size]? = some (.cells #[.slice na nn nc, .slice ea en ec, .slice da dn dc] 24) := World.alloc_heap_new w _
 have HQ := zH hq0
 have HB := zH hba
 clear hN bN hE bE hba hq0
 go_enter Tryz.func32, Tryz.ntmps32
 go_wp2_with fail
 generalize w.alloc (.cells #[.slice na nn nc, .slice ea en ec, .slice da dn dc] 24) = w0 at *
 obtain ⟨P, hP⟩ : ∃ P, w.heap.size = P := ⟨_, rfl⟩
 rw [hP] at HQ ⊢
 have HPW := zH hP
 clear hP
 obtain ⟨k0, k1, k2⟩ := key_cells HQ.out
 go_wp2_with fail
 refine (publicly_m _ _ _ w0 ⟨_, _, _, rfl⟩ ⟨_, _, _, rfl⟩ ⟨_, _, _, rfl⟩).mono ?_
 rintro e w1 ⟨rfl, hw1⟩
 have hb1 : Below w0.heap.size w0 w1 := by rw [hw1]; exact (Below.refl _ _).alloc (Nat.le_refl _) _
 have hq1 : w1.heap[w0.heap.size]? = some (.cells #[.slice na nn nc, .slice ea en ec, .slice da dn dc] 24) := by rw [hw1]; exact World.alloc_heap_new w0 _
 have HB1 := zH (HB.out.trans (hb1.mono HB.out.size))
 have HQ1 := zH hq1
 clear k0 k1 k2 hw1 hb1 hq1
 generalize w0.heap.size = bk at *
 go_wp2_with fail
 refine (hold_any _ _ (pubL N E) w1 (enters_of Tryz.func112 (by kernel_rfl) rfl) (fun W hW => publicly_comes na nn nc N ea en ec E (.slice da dn dc) bk W ((hW.block bk (Array.getElem?_eq_some_iff.1 HQ1.out).1).trans HQ1.out) ((HRN.out.below HB1.out).below hW) HBN.out ((HRE.out.below HB1.out).below hW) HBE.out ln le)).mono ?_
 rintro e w2 ⟨rfl, hb⟩
 have HB2 := zH (HB1.out.trans (hb.mono HB1.out.size))
 clear hb
 by_cases hp : PubP N E
 ·rw [(pubL_iff N E).2 hp]
  have HF := zH (show pubE N E = 0 by unfold pubE; rw [if_pos hp])
  clear hp
  go_wp2
  go_ret
  exact ⟨by rw [HF.out]; rfl, HPW.out ▸ HB2.out⟩
 ·rw [show (pubL N E).all id = false from Bool.eq_false_iff.2 fun h => hp ((pubL_iff N E).1 h)]
  have HF := zH (show pubE N E = 100 by unfold pubE; rw [if_neg hp])
  clear hp
  go_wp2
  go_ret
  exact ⟨by rw [HF.out]; rfl, HPW.out ▸ HB2.out⟩
set_option maxHeartbeats 4000000 in
theorem private_any (na : Option Addr) (nn nc : Nat) (N : List Nat) (ea : Option Addr) (en ec : Nat) (E : List Nat) (da : Option Addr) (dn dc : Nat) (D : List Nat) (w : World) (hN : Reads .u8 w na nn nc N) (bN : Byt N) (hE : Reads .u8 w ea en ec E) (bE : Byt E) (hD : Reads .u8 w da dn dc D) (bD : Byt D) (ln : nn ≤ 700) (le : en ≤ 700) (ld : dn ≤ 700) :
  Calls Tryz.prog 24 #[.agg #[.slice na nn nc, .slice ea en ec, .slice da dn dc]] w fun e w' => e = .returned (.int .i64 (privE N E D)) ∧ Below w.heap.size w w' := by
 have HRN := zH hN
 have HRE := zH hE
 have HRD := zH hD
 have HBN := zH bN
 have HBE := zH bE
 have HBD := zH bD
 have hba := (Below.refl w.heap.size w).alloc (Nat.le_refl _) (.cells #[.slice na nn nc, .slice ea en ec, .slice da dn dc] 24)
 have hq0 : (w.alloc (.cells #[.slice na nn nc, .slice ea en ec, .slice da dn dc] 24)).heap[w.heap.size]? = some (.cells #[.slice na nn nc, .slice ea en ec, .slice da dn dc] 24) := World.alloc_heap_new w _
 have HQ := zH hq0
 have HB := zH hba
 clear hN bN hE bE hD bD hba hq0
 go_enter Tryz.func24, Tryz.ntmps24
 go_wp2_with fail
 generalize w.alloc (.cells #[.slice na nn nc, .slice ea en ec, .slice da dn dc] 24) = w0 at *
 obtain ⟨P, hP⟩ : ∃ P, w.heap.size = P := ⟨_, rfl⟩
 rw [hP] at HQ ⊢
 have HPW := zH hP
 clear hP
 obtain ⟨k0, k1, k2⟩ := key_cells HQ.out
 go_wp2_with fail
 refine (public_any na nn nc N ea en ec E da dn dc w0 (HRN.out.below HB.out) HBN.out (HRE.out.below HB.out) HBE.out ln le).mono ?_
 rintro e w1 ⟨rfl, hb⟩
 replace HQ := zH ((hb.block P (Array.getElem?_eq_some_iff.1 HQ.out).1).trans HQ.out)
 replace HB := zH (HB.out.trans (hb.mono HB.out.size))
 clear k0 k1 k2 hb
 by_cases hp : PubP N E
 rotate_left
 ·rw [show pubE N E = 100 by unfold pubE; rw [if_neg hp]]
  have HF := zH (show privE N E D = 100 by unfold privE; rw [if_neg (fun h => hp h.1)])
  clear hp
  go_wp2
  go_ret
  exact ⟨by rw [HF.out]; rfl, HPW.out ▸ HB.out⟩
 rw [show pubE N E = 0 by unfold pubE; rw [if_pos hp]]
 have HP := zH hp
 clear hp
 obtain ⟨k0, k1, k2⟩ := key_cells HQ.out
 go_wp2_with fail
 refine (privately_m _ _ _ w1 ⟨_, _, _, rfl⟩ ⟨_, _, _, rfl⟩ ⟨_, _, _, rfl⟩).mono ?_
 rintro e w2 ⟨rfl, hw2⟩
 have hb1 : Below w1.heap.size w1 w2 := by rw [hw2]; exact (Below.refl _ _).alloc (Nat.le_refl _) _
 have hq1 : w2.heap[w1.heap.size]? = some (.cells #[.slice na nn nc, .slice ea en ec, .slice da dn dc] 24) := by rw [hw2]; exact World.alloc_heap_new w1 _
 have HB1 := zH (HB.out.trans (hb1.mono HB.out.size))
 have HQ1 := zH hq1
 clear k0 k1 k2 hw2 hb1 hq1
 generalize w1.heap.size = bk at *
 go_wp2_with fail
 refine (hold_any _ _ (privL N D) w2 (enters_of Tryz.func103 (by kernel_rfl) rfl) (fun W hW => privately_comes na nn nc N (.slice ea en ec) da dn dc D bk W ((hW.block bk (Array.getElem?_eq_some_iff.1 HQ1.out).1).trans HQ1.out) ((HRN.out.below HB1.out).below hW) HBN.out ((HRD.out.below HB1.out).below hW) HBD.out ln ld)).mono ?_
 rintro e w3 ⟨rfl, hb⟩
 have HB2 := zH (HB1.out.trans (hb.mono HB1.out.size))
 clear hb
 by_cases hp : PrivP N E D
 ·rw [(privL_iff N E D HP.out).2 hp]
  have HF := zH (show privE N E D = 0 by unfold privE; rw [if_pos hp])
  clear hp
  go_wp2
  go_ret
  exact ⟨by rw [HF.out]; rfl, HPW.out ▸ HB2.out⟩
 ·rw [show (privL N D).all id = false from Bool.eq_false_iff.2 fun h => hp ((privL_iff N E D HP.out).1 h)]
  have HF := zH (show privE N E D = 100 by unfold privE; rw [if_neg hp])
  clear hp
  go_wp2
  go_ret
  exact ⟨by rw [HF.out]; rfl, HPW.out ▸ HB2.out⟩
theorem kbits_any (na : Option Addr) (nn nc : Nat) (N : List Nat) (ea : Option Addr) (en ec : Nat) (da : Option Addr) (dn dc : Nat) (w : World) (hN : Reads .u8 w na nn nc N) (bN : Byt N) (ln : nn ≤ 700) :
  Calls Tryz.prog 56 #[.agg #[.slice na nn nc, .slice ea en ec, .slice da dn dc]] w fun e w' => e = .returned (.int .i64 (bitsN (numV N) : Nat)) ∧ Below w.heap.size w w' := by
 have HRN := zH hN
 obtain ⟨bn, hbn⟩ : ∃ x, bitsN (numV N) = x := ⟨_, rfl⟩
 have HBn := zH (show bitsN (val32 (nat32 (numV N))) = bn by rw [val_nat]; exact hbn)
 rw [hbn]
 clear hbn
 have HBN := zH bN
 have HSN := zH (numV_small bN (by rw [hN.length]; exact ln))
 have hba := (Below.refl w.heap.size w).alloc (Nat.le_refl _) (.cells #[.slice na nn nc, .slice ea en ec, .slice da dn dc] 24)
 have hq0 : (w.alloc (.cells #[.slice na nn nc, .slice ea en ec, .slice da dn dc] 24)).heap[w.heap.size]? = some (.cells #[.slice na nn nc, .slice ea en ec, .slice da dn dc] 24) := World.alloc_heap_new w _
 have HQ := zH hq0
 have HB := zH hba
 clear hN bN hba hq0
 go_enter Tryz.func56, Tryz.ntmps56
 go_wp2_with fail
 generalize w.alloc (.cells #[.slice na nn nc, .slice ea en ec, .slice da dn dc] 24) = w0 at *
 obtain ⟨P, hP⟩ : ∃ P, w.heap.size = P := ⟨_, rfl⟩
 rw [hP] at HQ ⊢
 have HPW := zH hP
 clear hP
 obtain ⟨k0, k1, k2⟩ := key_cells HQ.out
 go_wp2_with fail
 refine (number_c na nn nc N w0 (HRN.out.below HB.out) HBN.out ln).mono ?_
 rintro e w1 ⟨⟨v, rfl, hv⟩, hb⟩
 obtain ⟨a1, n1, c1, rfl, hn1, ho⟩ := num_slice hv HSN.out
 have HN1 := zH ho.reads
 have HB1 := zH (HB.out.trans (hb.mono HB.out.size))
 clear k0 k1 k2 hv ho hb
 go_wp2_with fail
 refine (bits_any a1 n1 c1 _ _ HN1.out (lim_nat _) (by omega)).mono ?_
 rintro e w2 ⟨rfl, rfl⟩
 rw [HBn.out]
 go_wp2
 go_ret
 exact ⟨rfl, HPW.out ▸ HB1.out⟩
theorem ksize_any (na : Option Addr) (nn nc : Nat) (N : List Nat) (ea : Option Addr) (en ec : Nat) (E : List Nat) (da : Option Addr) (dn dc : Nat) (r : Int) (w : World) (hN : Reads .u8 w na nn nc N) (bN : Byt N) (hE : Reads .u8 w ea en ec E) (bE : Byt E) (ln : nn ≤ 700) (le : en ≤ 700) (hr : r = if pubE N E = 0 then (nn : Int) else 0) :
  Calls Tryz.prog 33 #[.agg #[.slice na nn nc, .slice ea en ec, .slice da dn dc]] w fun e w' => e = .returned (.int .i64 r) ∧ Below w.heap.size w w' := by
 have HRN := zH hN
 have HRE := zH hE
 have HBN := zH bN
 have HBE := zH bE
 have hba := (Below.refl w.heap.size w).alloc (Nat.le_refl _) (.cells #[.slice na nn nc, .slice ea en ec, .slice da dn dc] 24)
 have hq0 : (w.alloc (.cells #[.slice na nn nc, .slice ea en ec, .slice da dn dc] 24)).heap[w.heap.size]? = some (.cells #[.slice na nn nc, .slice ea en ec, .slice da dn dc] 24) := World.alloc_heap_new w _
 have HQ := zH hq0
 have HB := zH hba
 clear hN bN hE bE hba hq0
 go_enter Tryz.func33, Tryz.ntmps33
 go_wp2_with fail
 generalize w.alloc (.cells #[.slice na nn nc, .slice ea en ec, .slice da dn dc] 24) = w0 at *
 obtain ⟨P, hP⟩ : ∃ P, w.heap.size = P := ⟨_, rfl⟩
 rw [hP] at HQ ⊢
 have HPW := zH hP
 clear hP
 obtain ⟨k0, k1, k2⟩ := key_cells HQ.out
 go_wp2_with fail
 refine (public_any na nn nc N ea en ec E da dn dc w0 (HRN.out.below HB.out) HBN.out (HRE.out.below HB.out) HBE.out ln le).mono ?_
 rintro e w1 ⟨rfl, hb⟩
 replace HQ := zH ((hb.block P (Array.getElem?_eq_some_iff.1 HQ.out).1).trans HQ.out)
 replace HB := zH (HB.out.trans (hb.mono HB.out.size))
 clear k0 k1 k2 hb
 obtain ⟨k0, k1, k2⟩ := key_cells HQ.out
 by_cases hp : PubP N E
 ·have hz : pubE N E = 0 := by unfold pubE; rw [if_pos hp]
  rw [hz] at hr ⊢
  rw [if_pos rfl] at hr
  subst hr
  clear hp hz
  go_wp2
  go_ret
  exact ⟨rfl, HPW.out ▸ HB.out⟩
 ·have hz : pubE N E = 100 := by unfold pubE; rw [if_neg hp]
  rw [hz] at hr ⊢
  rw [if_neg (by decide)] at hr
  subst hr
  clear hp hz
  go_wp2
  go_ret
  exact ⟨rfl, HPW.out ▸ HB.out⟩
end Go.Proofs.YtpefjkndfifceaaGreatDoor
namespace Go.Proofs.YtpefjkndfifceaaGreatDoor
open Go.RowKit
set_option maxRecDepth 100000
set_option maxHeartbeats 4000000 in
theorem great_k (na : Option Addr) (nn nc : Nat) (N : List Nat) (ea : Option Addr) (en ec : Nat) (E : List Nat) (da : Option Addr) (dn dc : Nat) (w : World) (hN : Reads .u8 w na nn nc N) (bN : Byt N) (hE : Reads .u8 w ea en ec E) (bE : Byt E) (hn : nn ≤ 140737488351232) (he : en ≤ 140737488351232) (hd : dn ≤ 140737488351232) :
  Calls Tryz.prog 9 #[.agg #[.slice na nn nc, .slice ea en ec, .slice da dn dc]] w fun e w' => (e = .returned (.int .i64 1) ∨ e = .returned (.int .i64 0) ∧ nn ≤ 700 ∧ en ≤ 700 ∧ dn ≤ 700 ∧ (nn ≤ 150 ∨ ¬ PubP N E)) ∧ Below w.heap.size w w' := by
 have HRN := zH hN
 have HRE := zH hE
 have HBN := zH bN
 have HBE := zH bE
 have hba := (Below.refl w.heap.size w).alloc (Nat.le_refl _) (.cells #[.slice na nn nc, .slice ea en ec, .slice da dn dc] 24)
 have hq0 : (w.alloc (.cells #[.slice na nn nc, .slice ea en ec, .slice da dn dc] 24)).heap[w.heap.size]? = some (.cells #[.slice na nn nc, .slice ea en ec, .slice da dn dc] 24) := World.alloc_heap_new w _
 have HQ := zH hq0
 have HB := zH hba
 clear hN bN hE bE hba hq0
 by_cases h1 : 700 < nn
 ·have t1 : decide ((700 : Int) < (nn : Int)) = true := decide_eq_true (by omega)
  clear h1
  go_enter Tryz.func9, Tryz.ntmps9
  go_wp2
  go_ret
  exact ⟨.inl rfl, HB.out⟩
 have t1 : decide ((700 : Int) < (nn : Int)) = false := decide_eq_false (by omega)
 by_cases h2 : 700 < en
 ·have t2 : decide ((700 : Int) < (en : Int)) = true := decide_eq_true (by omega)
  clear h1 h2
  go_enter Tryz.func9, Tryz.ntmps9
  go_wp2
  go_ret
  exact ⟨.inl rfl, HB.out⟩
 have t2 : decide ((700 : Int) < (en : Int)) = false := decide_eq_false (by omega)
 by_cases h3 : 700 < dn
 ·have t3 : decide ((700 : Int) < (dn : Int)) = true := decide_eq_true (by omega)
  clear h1 h2 h3
  go_enter Tryz.func9, Tryz.ntmps9
  go_wp2
  go_ret
  exact ⟨.inl rfl, HB.out⟩
 have t3 : decide ((700 : Int) < (dn : Int)) = false := decide_eq_false (by omega)
 have HL := zH (show nn ≤ 700 ∧ en ≤ 700 ∧ dn ≤ 700 by omega)
 by_cases h4 : 150 < nn
 rotate_left
 ·have t4 : decide ((150 : Int) < (nn : Int)) = false := decide_eq_false (by omega)
  have H4 := zH (show nn ≤ 150 by omega)
  clear h1 h2 h3 h4
  go_enter Tryz.func9, Tryz.ntmps9
  go_wp2
  go_ret
  exact ⟨.inr ⟨rfl, HL.out.1, HL.out.2.1, HL.out.2.2, .inl H4.out⟩, HB.out⟩
 have t4 : decide ((150 : Int) < (nn : Int)) = true := decide_eq_true (by omega)
 clear h1 h2 h3 h4
 go_enter Tryz.func9, Tryz.ntmps9
 go_wp2_with fail
 refine (rpublic_any na nn nc N ea en ec E da dn dc _ (HRN.out.below HB.out) HBN.out (HRE.out.below HB.out) HBE.out HL.out.1 HL.out.2.1).mono ?_
 rintro e w1 ⟨rfl, hb⟩
 have HB1 := zH (HB.out.trans (hb.mono HB.out.size))
 clear hb
 by_cases hp : PubP N E
 ·rw [show pubE N E = 0 by unfold pubE; rw [if_pos hp]]
  clear hp
  go_wp2
  go_ret
  exact ⟨.inl rfl, HB1.out⟩
 ·rw [show pubE N E = 100 by unfold pubE; rw [if_neg hp]]
  have HP := zH hp
  clear hp
  go_wp2
  go_ret
  exact ⟨.inr ⟨rfl, HL.out.1, HL.out.2.1, HL.out.2.2, .inr HP.out⟩, HB1.out⟩
end Go.Proofs.YtpefjkndfifceaaGreatDoor
namespace Go.Proofs.YtpefjkndfifceaaGreatDoor
open Go.RowKit
theorem guess_first {w V Q top high P : Nat} (hQ : Q * V ≤ w) (hw : w < (top + 1) * P) (hV : high * P ≤ V) (hh : 0 < high) : Q ≤ top / high := by
 rw [Nat.le_div_iff_mul_le hh]
 have h1 : Q * high * P < (top + 1) * P := by
  refine Nat.lt_of_le_of_lt ?_ hw
  rw [Nat.mul_assoc]
  exact Nat.le_trans (Nat.mul_le_mul_left _ hV) hQ
 have h2 := Nat.lt_of_mul_lt_mul_right h1
 omega
theorem guess_less {w V Q v2 top3 P d : Nat} (hQ : Q * V ≤ w) (hw : w < (top3 + 1) * P) (hV : v2 * P ≤ V) (hd : top3 < d * v2) : Q < d := by
 apply Decidable.byContradiction
 intro hn
 have h1 : d ≤ Q := by omega
 have h2 : Q * v2 * P < (top3 + 1) * P := by
  refine Nat.lt_of_le_of_lt ?_ hw
  rw [Nat.mul_assoc]
  exact Nat.le_trans (Nat.mul_le_mul_left _ hV) hQ
 have h3 := Nat.lt_of_mul_lt_mul_right h2
 have h4 : d * v2 ≤ Q * v2 := Nat.mul_le_mul_right _ h1
 omega
theorem guess_near {w V Q v2 top3 P d : Nat} (hQ : w < (Q + 1) * V) (hw : top3 * P ≤ w) (hV : V < (v2 + 1) * P) (hd : d * v2 ≤ top3) (hd2 : d ≤ v2 + 1) : d ≤ Q + 1 := by
 apply Decidable.byContradiction
 intro hn
 obtain ⟨e, rfl⟩ : ∃ e, d = e + 1 := ⟨d - 1, by omega⟩
 have h1 : (Q + 1) * V ≤ e * V := Nat.mul_le_mul_right _ (by omega)
 have h2 : e * V ≤ e * ((v2 + 1) * P) := Nat.mul_le_mul_left _ (Nat.le_of_lt hV)
 have h3 : e * (v2 + 1) ≤ top3 := by
  rw [Nat.add_mul] at hd
  rw [Nat.mul_add]
  omega
 have h4 : e * (v2 + 1) * P ≤ top3 * P := Nat.mul_le_mul_right _ h3
 rw [Nat.mul_assoc] at h4
 omega
structure Guess (B top high Q d r : Nat) : Prop where
 eq : d * high + r = top
 ge : Q ≤ d
 le : d ≤ B + 1
 rest : B ≤ d → r < B
theorem guess_start {B top high hi lo Q : Nat} (hB : 2 ≤ B) (ht : top = hi * B + lo) (hlo : lo < B) (hhi : hi ≤ high) (hh : B ≤ 2 * high) (hh2 : high < B) (hQ : Q ≤ top / high) : Guess B top high Q (top / high) (top % high) := by
 refine ⟨by rw [Nat.mul_comm]; exact Nat.div_add_mod top high, hQ, ?_, fun _ => Nat.lt_trans (Nat.mod_lt _ (by omega)) hh2⟩
 have h1 : top ≤ high * B + (B - 1) := by
  rw [ht]
  have := Nat.mul_le_mul_right B hhi
  omega
 have h2 : top < (B + 2) * high := by
  rw [Nat.add_mul, Nat.mul_comm B high]
  omega
 have h3 : top / high < B + 2 := (Nat.div_lt_iff_lt_mul (by omega)).2 h2
 omega
theorem guess_step {B top high hi lo Q d r : Nat} (h : Guess B top high Q d r) (ht : top = hi * B + lo) (hlo : lo < B) (hhi : hi ≤ high) (hh : B ≤ 2 * high) (hr : r < B) (hQ : Q < d) : Guess B top high Q (d - 1) (r + high) ∧ 0 < d := by
 obtain ⟨h1, h2, h3, h4⟩ := h
 obtain ⟨e, rfl⟩ : ∃ e, d = e + 1 := ⟨d - 1, by omega⟩
 rw [Nat.add_mul, Nat.one_mul] at h1
 refine ⟨⟨by rw [Nat.add_sub_cancel]; omega, by omega, by omega, fun hB2 => ?_⟩, by omega⟩
 rw [Nat.add_sub_cancel] at hB2
 obtain rfl : e = B := by omega
 have h5 : hi * e ≤ high * e := Nat.mul_le_mul_right _ hhi
 rw [Nat.mul_comm e high] at h1
 omega
theorem guess_big {B top high Q d r : Nat} (h : Guess B top high Q d r) (hB : 1 ≤ B) (hr : B ≤ r) : d ≤ B - 1 := by
 apply Decidable.byContradiction
 intro hn
 have := h.rest (by omega)
 omega
end Go.Proofs.YtpefjkndfifceaaGreatDoor
namespace Go.Proofs.YtpefjkndfifceaaGreatDoor
open Go.RowKit
theorem subD_eq {x y b : Nat} (hx : x < 4294967296) (hy : y < 4294967296) (hb : b ≤ 1) : subD x y b + y + b = x + 4294967296 * subB x y b ∧ subD x y b < 4294967296 ∧ subB x y b ≤ 1 := by
 unfold subD subB at *
 split <;> omega
structure Taken (V W W' : List Nat) (d i carry borrow : Nat) : Prop where
 len : W'.length = W.length
 lim : Lim W'
 val : val32 (W'.take i) + d * val32 (V.take i) = val32 (W.take i) + 4294967296 ^ i * (carry + borrow)
 rest : ∀ j, i ≤ j → W'[j]?.getD 0 = W[j]?.getD 0
 carry : carry < 4294967296
 borrow : borrow ≤ 1
theorem taken_start {V W : List Nat} {d : Nat} (hW : Lim W) : Taken V W W d 0 0 0 := ⟨rfl, hW, by simp [val32, valB], fun _ _ => rfl, by decide, by decide⟩
theorem take_set_succ (W : List Nat) (i x : Nat) (hi : i < W.length) : (W.set i x).take (i + 1) = W.take i ++ [x] := by
 rw [take_snocN _ _ (by simpa using hi)]
 rw [List.take_set_of_le (Nat.le_refl _)]
 simp [hi]
theorem carry_bound {c d x : Nat} (hc : c < 4294967296) (hd : d < 4294967296) (hx : x < 4294967296) : c + d * x < 4294967296 * 4294967296 ∧ (c + d * x) / 4294967296 < 4294967296 := by
 have h : d * x ≤ (4294967296 - 1) * (4294967296 - 1) := Nat.mul_le_mul (by omega) (by omega)
 have h2 : c + d * x < 4294967296 * 4294967296 := by omega
 exact ⟨h2, Nat.div_lt_of_lt_mul h2⟩
theorem taken_step {V W W' : List Nat} {d i c b : Nat} (h : Taken V W W' d i c b) (hV : Lim V) (hW : Lim W) (hd : d < 4294967296) (hi : i < V.length) (hl : W.length = V.length + 1) :
  Taken V W (W'.set i (subD (W'[i]?.getD 0) ((c + d * (V[i]?.getD 0)) % 4294967296) b)) d (i + 1) ((c + d * (V[i]?.getD 0)) / 4294967296) (subB (W'[i]?.getD 0) ((c + d * (V[i]?.getD 0)) % 4294967296) b) := by
 obtain ⟨h1, h2, h3, h4, h5, h6⟩ := h
 have hwi := h4 i (Nat.le_refl _)
 have hw := lim_get h2 i
 have hv := lim_get hV i
 have hbd := carry_bound h5 hd hv
 have hs := subD_eq (x := W'[i]?.getD 0) (y := (c + d * (V[i]?.getD 0)) % 4294967296) (b := b) hw (Nat.mod_lt _ (by decide)) h6
 have hm := Nat.mod_add_div (c + d * (V[i]?.getD 0)) 4294967296
 refine ⟨by simp [h1], mem_set h2 hs.2.1, ?_, fun j hj => by rw [getD_set _ _ _ _ (by omega), if_neg (by omega)]; exact h4 j (by omega), hbd.2, hs.2.2⟩
 have hval := valB_succ (b := 4294967296) V i
 have hval2 := valB_succ (b := 4294967296) W i
 rw [take_set_succ _ _ _ (by omega)]
 simp only [val32] at *
 rw [valB_snoc, List.length_take, Nat.min_eq_left (by omega), hval, hval2]
 generalize hC : c + d * (V[i]?.getD 0) = C at *
 rw [hwi] at hs ⊢
 generalize hS : subD (W[i]?.getD 0) (C % 4294967296) b = S at *
 generalize hT : subB (W[i]?.getD 0) (C % 4294967296) b = T at *
 generalize hP : 4294967296 ^ i = P at *
 rw [Nat.pow_succ, hP, Nat.mul_add]
 have e1 : d * (P * (V[i]?.getD 0)) = P * (d * (V[i]?.getD 0)) := by rw [Nat.mul_left_comm]
 have e2 : P * c + P * (d * (V[i]?.getD 0)) = P * C := by rw [← Nat.mul_add, hC]
 have e3 : P * S + P * (C % 4294967296) + P * b = P * (W[i]?.getD 0) + P * 4294967296 * T := by
  rw [Nat.mul_assoc, ← Nat.mul_add, ← Nat.mul_add, ← Nat.mul_add, hs.1]
 have e4 : P * (C % 4294967296) + P * 4294967296 * (C / 4294967296) = P * C := by rw [Nat.mul_assoc, ← Nat.mul_add, hm]
 have e5 := h3
 rw [Nat.mul_add] at e5
 rw [Nat.mul_add (P * 4294967296), e1]
 omega
theorem taken_end {V W W' : List Nat} {d c b : Nat} (h : Taken V W W' d V.length c b) (hW : Lim W) (hl : W.length = V.length + 1) :
  let x := W'[V.length]?.getD 0
  val32 (W'.set V.length (subD x c b)) + d * val32 V = val32 W + 4294967296 ^ (V.length + 1) * subB x c b ∧ (W'.set V.length (subD x c b)).length = W.length ∧ Lim (W'.set V.length (subD x c b)) ∧ subB x c b ≤ 1 := by
 intro x
 obtain ⟨h1, h2, h3, h4, h5, h6⟩ := h
 have hwi := h4 V.length (Nat.le_refl _)
 have hw := lim_get h2 V.length
 have hs := subD_eq (x := x) (y := c) (b := b) hw h5 h6
 refine ⟨?_, by simp [h1], mem_set h2 hs.2.1, hs.2.2⟩
 have ha : W'.set V.length (subD x c b) = W'.take V.length ++ [subD x c b] := by
  rw [← take_set_succ _ _ _ (by omega), List.take_of_length_le (by simp; omega)]
 have hb : W = W.take V.length ++ [W[V.length]?.getD 0] := by
  rw [← take_snocN _ _ (by omega), List.take_of_length_le (by omega)]
 have hc : val32 W = val32 (W.take V.length) + 4294967296 ^ V.length * (W[V.length]?.getD 0) := by
  conv => lhs; rw [hb]
  simp only [val32]
  rw [valB_snoc, List.length_take, Nat.min_eq_left (by omega)]
 rw [ha, hc]
 rw [List.take_length] at h3
 simp only [val32] at *
 rw [valB_snoc, List.length_take, Nat.min_eq_left (by omega), Nat.pow_succ]
 have hx : x = W[V.length]?.getD 0 := hwi
 rw [← hx]
 generalize hP : 4294967296 ^ V.length = P at *
 have e3 : P * subD x c b + P * c + P * b = P * x + P * 4294967296 * subB x c b := by
  rw [Nat.mul_assoc, ← Nat.mul_add, ← Nat.mul_add, ← Nat.mul_add, hs.1]
 rw [Nat.mul_add] at h3
 omega
structure Back (V W W' : List Nat) (i over : Nat) : Prop where
 len : W'.length = W.length
 lim : Lim W'
 val : val32 (W'.take i) + 4294967296 ^ i * over = val32 (W.take i) + val32 (V.take i)
 rest : ∀ j, i ≤ j → W'[j]?.getD 0 = W[j]?.getD 0
 over : over ≤ 1
theorem back_start {V W : List Nat} (hW : Lim W) : Back V W W 0 0 := ⟨rfl, hW, by simp [val32, valB], fun _ _ => rfl, by decide⟩
theorem back_step {V W W' : List Nat} {i o : Nat} (h : Back V W W' i o) (hV : Lim V) (hi : i < V.length) (hl : W.length = V.length + 1) :
  Back V W (W'.set i ((W'[i]?.getD 0 + V[i]?.getD 0 + o) % 4294967296)) (i + 1) ((W'[i]?.getD 0 + V[i]?.getD 0 + o) / 4294967296) := by
 obtain ⟨h1, h2, h3, h4, h5⟩ := h
 have hwi := h4 i (Nat.le_refl _)
 have hw := lim_get h2 i
 have hv := lim_get hV i
 refine ⟨by simp [h1], mem_set h2 (Nat.mod_lt _ (by decide)), ?_, fun j hj => by rw [getD_set _ _ _ _ (by omega), if_neg (by omega)]; exact h4 j (by omega), by omega⟩
 have hval := valB_succ (b := 4294967296) V i
 have hval2 := valB_succ (b := 4294967296) W i
 rw [take_set_succ _ _ _ (by omega)]
 simp only [val32] at *
 rw [valB_snoc, List.length_take, Nat.min_eq_left (by omega), hval, hval2, hwi]
 have hm := Nat.mod_add_div (W[i]?.getD 0 + V[i]?.getD 0 + o) 4294967296
 generalize hC : W[i]?.getD 0 + V[i]?.getD 0 + o = C at *
 generalize hP : 4294967296 ^ i = P at *
 rw [Nat.pow_succ, hP]
 have e1 : P * (C % 4294967296) + P * 4294967296 * (C / 4294967296) = P * C := by rw [Nat.mul_assoc, ← Nat.mul_add, hm]
 have e2 : P * C = P * (W[i]?.getD 0) + P * (V[i]?.getD 0) + P * o := by rw [← hC, Nat.mul_add, Nat.mul_add]
 omega
structure Places (X v q m : Nat) (L Q : List Nat) (k : Nat) : Prop where
 llen : L.length = m + q
 qlen : Q.length = m
 le : k ≤ m
 llim : Lim L
 qlim : Lim Q
 all : X = val32 (L.take (k + q)) + 4294967296 ^ k * (v * val32 (Q.drop k))
 less : val32 ((L.drop k).take q) < v
 zeros : ∀ j, j < k → Q[j]?.getD 0 = 0
structure Window (L A W Z : List Nat) (t q : Nat) : Prop where
 eq : L = A ++ (W ++ Z)
 alen : A.length = t
 wlen : W.length = q + 1
theorem window_of {L : List Nat} {t q : Nat} (h : t + q + 1 ≤ L.length) : Window L (L.take t) ((L.drop t).take (q + 1)) (L.drop (t + (q + 1))) t q :=
 ⟨by rw [← List.drop_drop, List.take_append_drop, List.take_append_drop], by simp; omega, by simp; omega⟩
theorem Window.lim {L A W Z : List Nat} {t q : Nat} (h : Window L A W Z t q) (hL : Lim L) : Lim A ∧ Lim W ∧ Lim Z := by
 rw [h.eq] at hL
 exact ⟨fun x hx => hL x (by simp [hx]), fun x hx => hL x (by simp [hx]), fun x hx => hL x (by simp [hx])⟩
theorem Window.get {L A W Z : List Nat} {t q : Nat} (h : Window L A W Z t q) (j : Nat) (hj : j ≤ q) : L[t + j]?.getD 0 = W[j]?.getD 0 := by
 rw [h.eq, List.getElem?_append_right (by rw [h.alen]; omega), h.alen, Nat.add_sub_cancel_left, List.getElem?_append_left (by rw [h.wlen]; omega)]
theorem Window.of_eq {A W Z : List Nat} {t q : Nat} (ha : A.length = t) (hw : W.length = q + 1) : Window (A ++ (W ++ Z)) A W Z t q := ⟨rfl, ha, hw⟩
theorem Window.take {L A W Z : List Nat} {t q : Nat} (h : Window L A W Z t q) (j : Nat) (hj : j ≤ q + 1) : L.take (t + j) = A ++ W.take j ∧ (L.drop t).take j = W.take j := by
 have hw := h.wlen
 have ha := h.alen
 constructor
 ·rw [h.eq, List.take_append, ha, Nat.add_sub_cancel_left, List.take_of_length_le (by omega), List.take_append_of_le_length (by omega)]
 ·rw [h.eq, List.drop_append, ha, Nat.sub_self, List.drop_of_length_le (by omega), List.nil_append, List.drop_zero, List.take_append_of_le_length (by omega)]
theorem Places.window {X v q m : Nat} {L Q A W Z : List Nat} {t : Nat} (h : Places X v q m L Q (t + 1)) (hw : Window L A W Z t q) : val32 W < 4294967296 * v := by
 have hL := hw.lim h.llim
 have h1 := h.less
 have h2 : (L.drop (t + 1)).take q = W.drop 1 := by
  have := (hw.take (q + 1) (Nat.le_refl _)).2
  rw [List.take_of_length_le (l := W) (by rw [hw.wlen]; omega)] at this
  rw [← this, List.drop_take, List.drop_drop, Nat.add_sub_cancel]
 rw [h2] at h1
 have hl := hw.wlen
 cases W with
 | nil => simp at hl
 | cons d t' =>
  have hd := hL.2.1 d List.mem_cons_self
  simp only [List.drop_succ_cons, List.drop_zero] at h1
  show d + 4294967296 * valB 4294967296 t' < 4294967296 * v
  have h3 : 4294967296 * (valB 4294967296 t' + 1) ≤ 4294967296 * v := Nat.mul_le_mul_left _ h1
  rw [Nat.mul_add] at h3
  omega
theorem Places.step {X v q m : Nat} {L Q A W W' Z : List Nat} {t : Nat} (h : Places X v q m L Q (t + 1)) (hw : Window L A W Z t q) (hl : W'.length = q + 1) (hlim : Lim W') (hv : 0 < v) (hval : val32 (W'.take q) = val32 W % v) :
  Places X v q m (A ++ (W' ++ Z)) (Q.set t (val32 W / v)) t := by
 have hlt := h.window hw
 have hL := hw.lim h.llim
 have hw' := Window.of_eq (Z := Z) hw.alen hl
 obtain ⟨h1, h2, h3, h4, h5, h6, h7, h8⟩ := h
 have hz := hw.alen
 have hwl := hw.wlen
 have hq : val32 W / v < 4294967296 := Nat.div_lt_of_lt_mul (by rw [Nat.mul_comm]; exact hlt)
 refine ⟨?_, by simp [h2], by omega, ?_, mem_set h5 hq, ?_, ?_, ?_⟩
 ·rw [hw.eq] at h1
  simp only [List.length_append] at h1 ⊢
  omega
 ·intro x hx
  simp only [List.mem_append] at hx
  rcases hx with hx | hx | hx
  ·exact hL.1 x hx
  ·exact hlim x hx
  ·exact hL.2.2 x hx
 ·rw [(hw'.take q (by omega)).1]
  have e0 : L.take (t + 1 + q) = A ++ W := by
   rw [show t + 1 + q = t + (q + 1) by omega, (hw.take (q + 1) (Nat.le_refl _)).1, List.take_of_length_le (by omega)]
  rw [e0] at h6
  have e1 : (Q.set t (val32 W / v)).drop t = val32 W / v :: Q.drop (t + 1) := by
   rw [List.drop_set, if_neg (by omega), Nat.sub_self, List.drop_eq_getElem_cons (by omega), zq2]
  rw [e1]
  simp only [val32] at *
  rw [valB_append, hz] at h6 ⊢
  rw [hval, h6]
  show _ = _ + 4294967296 ^ t * (v * (valB 4294967296 W / v + 4294967296 * valB 4294967296 (Q.drop (t + 1))))
  have e2 := Nat.mod_add_div (valB 4294967296 W) v
  rw [Nat.pow_succ, Nat.mul_add v, Nat.mul_add (4294967296 ^ t)]
  have e3 : 4294967296 ^ t * 4294967296 * (v * valB 4294967296 (Q.drop (t + 1))) = 4294967296 ^ t * (v * (4294967296 * valB 4294967296 (Q.drop (t + 1)))) := by
   rw [Nat.mul_assoc, Nat.mul_left_comm 4294967296 v]
  have e4 : 4294967296 ^ t * valB 4294967296 W = 4294967296 ^ t * (valB 4294967296 W % v) + 4294967296 ^ t * (v * (valB 4294967296 W / v)) := by rw [← Nat.mul_add, e2]
  rw [e3, e4]
  omega
 ·rw [(hw'.take q (by omega)).2, hval]
  exact Nat.mod_lt _ hv
 ·intro j hj
  rw [getD_set _ _ _ _ (by omega), if_neg (by omega)]
  exact h8 j (by omega)
theorem Places.fin {X v q m : Nat} {L Q : List Nat} (h : Places X v q m L Q 0) : val32 Q = X / v ∧ val32 (L.take q) = X % v := by
 have h1 := h.all
 have h2 := h.less
 rw [Nat.zero_add, Nat.pow_zero, Nat.one_mul, List.drop_zero] at h1
 rw [List.drop_zero] at h2
 have hv : 0 < v := by omega
 subst h1
 constructor
 ·rw [Nat.add_mul_div_left _ _ hv, Nat.div_eq_of_lt h2, Nat.zero_add]
 ·rw [Nat.add_mul_mod_self_left, Nat.mod_eq_of_lt h2]
theorem places_start {X v q m : Nat} {L : List Nat} (hL : Lim L) (hl : L.length = m + q) (hX : val32 L = X) (hlt : X < 4294967296 ^ m * v) : Places X v q m L (List.replicate m 0) m := by
 refine ⟨hl, by simp, Nat.le_refl _, hL, fun x hx => by rw [List.eq_of_mem_replicate hx]; decide, ?_, ?_, fun j hj => by simp [hj]⟩
 ·rw [List.drop_of_length_le (by simp), List.take_of_length_le (by omega), hX]
  simp [val32, valB]
 ·rw [List.take_of_length_le (by simp; omega)]
  simp only [val32] at *
  rw [valB_drop (by decide) hL, hX]
  exact Nat.div_lt_of_lt_mul hlt
theorem taken_fits {V W W2 : List Nat} {d Q : Nat} (hd : val32 W2 + d * val32 V = val32 W) (hQ : Q = val32 W / val32 V) (hge : Q ≤ d) (hv : 0 < val32 V) : d = Q ∧ val32 W2 = val32 W % val32 V := by
 have h1 : d * val32 V ≤ val32 W := by omega
 have h2 : d ≤ val32 W / val32 V := (Nat.le_div_iff_mul_le hv).2 h1
 obtain rfl : d = Q := by omega
 refine ⟨rfl, ?_⟩
 have h3 := Nat.mod_add_div (val32 W) (val32 V)
 rw [← hQ, Nat.mul_comm] at h3
 omega
theorem taken_over {V W W2 W3 : List Nat} {d Q o q : Nat} (hd : val32 W2 + d * val32 V = val32 W + 4294967296 ^ (q + 1)) (hQ : Q = val32 W / val32 V) (hle : d ≤ Q + 1) (hv : 0 < val32 V) (hW2 : Lim W2) (hl2 : W2.length = q + 1) (hW3 : Lim W3) (hVl : val32 V < 4294967296 ^ q) (hl3 : W3.length = q + 1)
  (hb : val32 (W3.take q) + 4294967296 ^ q * o = val32 (W2.take q) + val32 V) : d = Q + 1 ∧ val32 (W3.take q) = val32 W % val32 V := by
 have h1 := valB_lt (b := 4294967296) (by decide) hW2
 rw [hl2] at h1
 have h2 : val32 W / val32 V < d := by
  rw [Nat.div_lt_iff_lt_mul hv]
  simp only [val32] at *
  omega
 have h3 : d = Q + 1 := by omega
 refine ⟨h3, ?_⟩
 have h4 := Nat.mod_add_div (val32 W) (val32 V)
 have h5 : d * val32 V = val32 V * (val32 W / val32 V) + val32 V := by rw [h3, hQ, Nat.add_mul, Nat.mul_comm]; omega
 have h6 : val32 W2 = val32 (W2.take q) + 4294967296 ^ q * (W2[q]?.getD 0) := by
  have := valB_succ (b := 4294967296) W2 q
  rwa [List.take_of_length_le (by omega)] at this
 have h7 : val32 (W3.take q) + 4294967296 ^ q * (o + W2[q]?.getD 0) = val32 W % val32 V + 4294967296 ^ q * 4294967296 := by
  rw [Nat.pow_succ] at hd
  rw [Nat.mul_add]
  omega
 have h8 : (val32 (W3.take q) + 4294967296 ^ q * (o + W2[q]?.getD 0)) % 4294967296 ^ q = (val32 W % val32 V + 4294967296 ^ q * 4294967296) % 4294967296 ^ q := by rw [h7]
 rw [Nat.add_mul_mod_self_left, Nat.add_mul_mod_self_left] at h8
 have h9 := valB_lt (b := 4294967296) (by decide) (l := W3.take q) (fun x hx => hW3 x (List.mem_of_mem_take hx))
 rw [List.length_take, Nat.min_eq_left (by omega)] at h9
 have h10 := Nat.mod_lt (val32 W) hv
 rwa [Nat.mod_eq_of_lt h9, Nat.mod_eq_of_lt (by omega)] at h8
theorem low_window {W : List Nat} {q v : Nat} (hW : Lim W) (hl : W.length = q + 1) (hv : v < 4294967296 ^ q) (hx : val32 W < v) : val32 (W.take q) = val32 W % v := by
 simp only [val32] at *
 rw [valB_take (by decide) hW, Nat.mod_eq_of_lt (by omega), Nat.mod_eq_of_lt hx]
end Go.Proofs.YtpefjkndfifceaaGreatDoor
namespace Go.Proofs.YtpefjkndfifceaaGreatDoor
open Go.RowKit
theorem unsh_step {u lj s c B : Nat} (hs : 0 < s) (hB : B = s * c) (hB0 : 0 < B) (hl : lj < B) : ((u % B) * B + lj) / s % B + B * (u / s) = (lj + B * u) / s := by
 have h1 : u % B % s = u % s := by rw [hB]; exact Nat.mod_mul_right_mod u s c
 have h2 := Nat.mod_add_div u s
 have h3 := Nat.mod_add_div (u % B) s
 rw [h1] at h3
 generalize ha : u / s = a at *
 generalize hb : u % s = b at *
 generalize he : (u % B) / s = e at *
 have hbs : b < s := by rw [← hb]; exact Nat.mod_lt _ hs
 have e1 : (u % B) * B + lj = s * (e * B) + (b * B + lj) := by rw [← h3, Nat.add_mul, Nat.mul_assoc]; omega
 have e2 : lj + B * u = s * (B * a) + (b * B + lj) := by
  rw [← h2, Nat.mul_add, Nat.mul_comm B b, Nat.mul_left_comm B s a]; omega
 rw [e1, e2, Nat.mul_add_div hs, Nat.mul_add_div hs]
 have h4 : (b * B + lj) / s < B := by
  rw [Nat.div_lt_iff_lt_mul hs]
  have : (b + 1) * B ≤ s * B := Nat.mul_le_mul_right _ hbs
  rw [Nat.add_mul, Nat.one_mul] at this
  rw [Nat.mul_comm B s]
  omega
 rw [Nat.mul_comm e B, Nat.mul_add_mod, Nat.mod_eq_of_lt h4]
 omega
structure Unsh (l O : List Nat) (n k hi : Nat) : Prop where
 len : O.length = l.length
 lim : Lim O
 val : val32 (O.drop k) = val32 (l.drop k) / 2 ^ n
 top : hi % 4294967296 = l[k]?.getD 0
 low : ∀ j, j < k → O[j]?.getD 0 = 0
theorem unsh_start {l O : List Nat} {n : Nat} (h : O = List.replicate l.length 0) : Unsh l O n l.length 0 := by
 subst h
 exact ⟨by simp, fun x hx => by rw [List.eq_of_mem_replicate hx]; decide, by rw [List.drop_of_length_le (by simp), List.drop_of_length_le (Nat.le_refl _)]; simp [val32, valB], by rw [List.getElem?_eq_none (Nat.le_refl _)]; rfl, fun j hj => by simp [hj]⟩
theorem two_pow_dvd {n : Nat} (hn : n < 32) : 4294967296 = 2 ^ n * 2 ^ (32 - n) := by rw [← Nat.pow_add, show n + (32 - n) = 32 by omega]
theorem unsh_next {l O : List Nat} {n k hi : Nat} (h : Unsh l O n (k + 1) hi) (hl : Lim l) (hn : n < 32) (hk : k < l.length) :
  Unsh l (O.set k (((hi % 4294967296) * 4294967296 + l[k]?.getD 0) / 2 ^ n % 4294967296)) n k ((hi % 4294967296) * 4294967296 + l[k]?.getD 0) := by
 obtain ⟨h1, h2, h3, h4, h5⟩ := h
 have hx := lim_get hl k
 refine ⟨by simp [h1], mem_set h2 (Nat.mod_lt _ (by decide)), ?_, by rw [Nat.mul_add_mod_self_right]; exact Nat.mod_eq_of_lt hx, fun j hj => by rw [getD_set _ _ _ _ (by omega), if_neg (by omega)]; exact h5 j (by omega)⟩
 have e1 : (O.set k (((hi % 4294967296) * 4294967296 + l[k]?.getD 0) / 2 ^ n % 4294967296)).drop k = ((hi % 4294967296) * 4294967296 + l[k]?.getD 0) / 2 ^ n % 4294967296 :: O.drop (k + 1) := by
  rw [List.drop_set, if_neg (by omega), Nat.sub_self, List.drop_eq_getElem_cons (by omega), zq2]
 have e2 : l.drop k = (l[k]?.getD 0) :: l.drop (k + 1) := by
  rw [List.drop_eq_getElem_cons hk, List.getElem?_eq_getElem hk]; rfl
 rw [e1, e2]
 simp only [val32] at *
 show _ + 4294967296 * valB 4294967296 (O.drop (k + 1)) = (l[k]?.getD 0 + 4294967296 * valB 4294967296 (l.drop (k + 1))) / 2 ^ n
 rw [h3]
 have h6 : hi % 4294967296 = valB 4294967296 (l.drop (k + 1)) % 4294967296 := by
  have := valB_get (b := 4294967296) (by decide) (l := l.drop (k + 1)) (fun x hx => hl x (List.mem_of_mem_drop hx)) 0
  rw [List.getElem?_drop, Nat.add_zero, Nat.pow_zero, Nat.div_one] at this
  rw [h4, this]
 rw [h6]
 exact unsh_step (Nat.pow_pos (by decide)) (two_pow_dvd hn) (by decide) hx
theorem unsh_fin {l O : List Nat} {n hi : Nat} (h : Unsh l O n 0 hi) : val32 O = val32 l / 2 ^ n := by
 have := h.val
 rwa [List.drop_zero, List.drop_zero] at this
theorem lead_bound {x : Nat} (h0 : 0 < x) (hx : x < 4294967296) : bitsN x ≤ 32 ∧ 1 ≤ bitsN x ∧ 2147483648 ≤ x * 2 ^ (32 - bitsN x) ∧ x * 2 ^ (32 - bitsN x) < 4294967296 := by
 have h1 := (bitsN_le x 32).2 hx
 have h2 : 1 ≤ bitsN x := by
  apply Decidable.byContradiction
  intro h
  have := (bitsN_le x 0).1 (by omega)
  omega
 refine ⟨h1, h2, ?_, ?_⟩
 ·have h3 : ¬ x < 2 ^ (bitsN x - 1) := fun h => by have := (bitsN_le x (bitsN x - 1)).2 h; omega
  have h4 : 2 ^ (bitsN x - 1) * 2 ^ (32 - bitsN x) ≤ x * 2 ^ (32 - bitsN x) := Nat.mul_le_mul_right _ (by omega)
  rw [← Nat.pow_add, show bitsN x - 1 + (32 - bitsN x) = 31 by omega] at h4
  exact h4
 ·have h3 := (bitsN_le x (bitsN x)).1 (Nat.le_refl _)
  have h4 : x * 2 ^ (32 - bitsN x) < 2 ^ bitsN x * 2 ^ (32 - bitsN x) := Nat.mul_lt_mul_of_pos_right h3 (Nat.pow_pos (by decide))
  rw [← Nat.pow_add, show bitsN x + (32 - bitsN x) = 32 by omega] at h4
  exact h4
end Go.Proofs.YtpefjkndfifceaaGreatDoor
namespace Go.Proofs.YtpefjkndfifceaaGreatDoor
open Go.RowKit
theorem val_cut1 (l : List Nat) (k : Nat) (h : l.length = k + 1) : val32 l = val32 (l.take k) + 4294967296 ^ k * (l[k]?.getD 0) := by
 have := valB_succ (b := 4294967296) l k
 rwa [List.take_of_length_le (by omega)] at this
theorem val_cut2 (l : List Nat) (k : Nat) (h : l.length = k + 2) : val32 l = val32 (l.take k) + 4294967296 ^ k * (l[k + 1]?.getD 0 * 4294967296 + l[k]?.getD 0) := by
 have h1 := val_cut1 l (k + 1) (by omega)
 have h2 := valB_succ (b := 4294967296) l k
 rw [h1]
 simp only [val32] at *
 rw [h2, Nat.pow_succ, Nat.mul_add, Nat.mul_assoc (4294967296 ^ k) 4294967296, Nat.mul_comm 4294967296 (l[k + 1]?.getD 0)]
 omega
theorem val_cut3 (l : List Nat) (k : Nat) (h : l.length = k + 1 + 2) : val32 l = val32 (l.take k) + 4294967296 ^ k * ((l[k + 1 + 1]?.getD 0 * 4294967296 + l[k + 1]?.getD 0) * 4294967296 + l[k]?.getD 0) := by
 have h1 := val_cut2 l (k + 1) h
 have h2 := valB_succ (b := 4294967296) l k
 rw [h1]
 simp only [val32] at *
 rw [h2, Nat.pow_succ, Nat.mul_add (4294967296 ^ k), Nat.mul_assoc (4294967296 ^ k) 4294967296, Nat.mul_comm 4294967296 (l[k + 1 + 1]?.getD 0 * 4294967296 + l[k + 1]?.getD 0)]
 omega
theorem val_low {l : List Nat} (h : Lim l) (k : Nat) : val32 (l.take k) < 4294967296 ^ k := by
 have h1 := valB_lt (b := 4294967296) (by decide) (l := l.take k) (fun x hx => h x (List.mem_of_mem_take hx))
 exact Nat.lt_of_lt_of_le h1 (Nat.pow_le_pow_right (by decide) (List.length_take_le _ _))
theorem cut_bounds {P t x v : Nat} (hv : v = x + P * t) (hx : x < P) : t * P ≤ v ∧ v < (t + 1) * P := by
 subst hv
 rw [Nat.add_mul, Nat.mul_comm t P]
 omega
theorem nx_lt {d h r x v B : Nat} (hd : r * B + x < d * v) : (d * h + r) * B + x < d * (h * B + v) := by
 rw [Nat.mul_add, ← Nat.mul_assoc, Nat.add_mul]; omega
theorem nx_le {d h r x v B : Nat} (hd : d * v ≤ r * B + x) : d * (h * B + v) ≤ (d * h + r) * B + x := by
 rw [Nat.mul_add, ← Nat.mul_assoc, Nat.add_mul]; omega
structure Guessed (V W : List Nat) (k : Nat) : Prop where
 vlim : Lim V
 wlim : Lim W
 vlen : V.length = k + 1
 wlen : W.length = k + 2
 high : 4294967296 ≤ 2 * (V[k]?.getD 0)
 less : val32 W < 4294967296 * val32 V
structure GuessW (V W : List Nat) (k : Nat) : Prop where
 vlim : Lim V
 wlim : Lim W
 vlen : V.length = k + 1
 wlen : W.length = k + 2
 high : 4294967296 ≤ 2 * (V[k]?.getD 0)
def LessW (V W : List Nat) : Prop := val32 W < 4294967296 * val32 V
theorem GuessW.with {V W : List Nat} {k : Nat} (h : GuessW V W k) (hl : LessW V W) : Guessed V W k := ⟨h.vlim, h.wlim, h.vlen, h.wlen, h.high, hl⟩
theorem GuessW.pos {V W : List Nat} {k : Nat} (h : GuessW V W k) : 0 < val32 V := by
 have h1 := val_cut1 V k h.vlen
 have h2 := h.high
 have h3 : 4294967296 ^ k * 1 ≤ 4294967296 ^ k * (V[k]?.getD 0) := Nat.mul_le_mul_left _ (by omega)
 have h4 : 0 < 4294967296 ^ k := Nat.pow_pos (by decide)
 omega
def GuessAt (V W : List Nat) (k d r : Nat) : Prop := Guess 4294967296 (W[k + 1]?.getD 0 * 4294967296 + W[k]?.getD 0) (V[k]?.getD 0) (val32 W / val32 V) d r
theorem Guessed.pos {V W : List Nat} {k : Nat} (h : Guessed V W k) : 0 < val32 V := by
 have := h.less
 apply Nat.pos_of_ne_zero
 intro e
 rw [e] at this
 omega
theorem Guessed.quot {V W : List Nat} {k : Nat} (h : Guessed V W k) : val32 W / val32 V * val32 V ≤ val32 W ∧ val32 W < (val32 W / val32 V + 1) * val32 V ∧ val32 W / val32 V < 4294967296 := by
 have h1 := Nat.mod_add_div (val32 W) (val32 V)
 have h2 := Nat.mod_lt (val32 W) h.pos
 rw [Nat.add_mul, Nat.mul_comm (val32 W / val32 V)]
 refine ⟨by omega, by omega, Nat.div_lt_of_lt_mul (by rw [Nat.mul_comm]; exact h.less)⟩
theorem hi_lt {t w B v g P : Nat} (hB : 0 < B) (h1 : t * P ≤ w) (h2 : v < g * P) (h3 : w < B * v) : t < B * g := by
 have h4 : B * v < B * (g * P) := Nat.mul_lt_mul_of_pos_left h2 hB
 rw [← Nat.mul_assoc] at h4
 exact Nat.lt_of_mul_lt_mul_right (Nat.lt_of_le_of_lt h1 (Nat.lt_trans h3 h4))
theorem Guessed.hi {V W : List Nat} {k : Nat} (h : Guessed V W k) : W[k + 1]?.getD 0 ≤ V[k]?.getD 0 := by
 have h1 := (cut_bounds (val_cut2 W k h.wlen) (val_low h.wlim k)).1
 have h2 := (cut_bounds (val_cut1 V k h.vlen) (val_low h.vlim k)).2
 have h3 := h.less
 have h5 := hi_lt (by decide) h1 h2 h3
 omega
theorem guessAt_start {V W : List Nat} {k : Nat} (h : Guessed V W k) : GuessAt V W k ((W[k + 1]?.getD 0 * 4294967296 + W[k]?.getD 0) / (V[k]?.getD 0)) ((W[k + 1]?.getD 0 * 4294967296 + W[k]?.getD 0) % (V[k]?.getD 0)) := by
 have h1 := h.high
 have h2 := lim_get h.vlim k
 refine guess_start (by decide) rfl (lim_get h.wlim k) h.hi h1 h2 ?_
 exact guess_first h.quot.1 (cut_bounds (val_cut2 W k h.wlen) (val_low h.wlim k)).2 (cut_bounds (val_cut1 V k h.vlen) (val_low h.vlim k)).1 (by omega)
theorem GuessAt.step_big {V W : List Nat} {k d r : Nat} (g : GuessAt V W k d r) (h : Guessed V W k) (hr : r < 4294967296) (hd : 4294967296 ≤ d) : GuessAt V W k (d - 1) (r + V[k]?.getD 0) ∧ 0 < d :=
 guess_step g rfl (lim_get h.wlim k) h.hi h.high hr (Nat.lt_of_lt_of_le h.quot.2.2 hd)
theorem GuessAt.step_next {V W : List Nat} {j d r : Nat} (g : GuessAt V W (j + 1) d r) (h : Guessed V W (j + 1)) (hr : r < 4294967296) (hd : r * 4294967296 + W[j]?.getD 0 < d * (V[j]?.getD 0)) : GuessAt V W (j + 1) (d - 1) (r + V[j + 1]?.getD 0) ∧ 0 < d := by
 have e := Guess.eq g
 refine guess_step g rfl (lim_get h.wlim _) h.hi h.high hr ?_
 have c1 := (cut_bounds (val_cut3 W j h.wlen) (val_low h.wlim j)).2
 have c2 := (cut_bounds (val_cut2 V j h.vlen) (val_low h.vlim j)).1
 have c3 := h.quot.1
 generalize 4294967296 ^ j = P at *
 refine guess_less c3 c1 c2 ?_
 rw [← e]
 exact nx_lt hd
def GuessIs (V W : List Nat) (d : Nat) : Prop := val32 W / val32 V ≤ d ∧ d ≤ val32 W / val32 V + 1 ∧ d < 4294967296
theorem GuessAt.end_one {V W : List Nat} {d r : Nat} (g : GuessAt V W 0 d r) (h : Guessed V W 0) (hd : d < 4294967296) : GuessIs V W d := by
 have e := Guess.eq g
 refine ⟨g.ge, ?_, hd⟩
 have h1 := (cut_bounds (val_cut2 W 0 h.wlen) (val_low h.wlim 0)).1
 have h2 := val_cut1 V 0 h.vlen
 rw [Nat.pow_zero, Nat.mul_one] at h1
 rw [Nat.pow_zero, Nat.one_mul, List.take_zero] at h2
 have h3 : val32 V = V[0]?.getD 0 := by rw [h2]; simp [val32, valB]
 have h4 : d ≤ val32 W / val32 V := (Nat.le_div_iff_mul_le h.pos).2 (by rw [h3]; omega)
 omega
theorem GuessAt.end_more {V W : List Nat} {j d r : Nat} (g : GuessAt V W (j + 1) d r) (h : Guessed V W (j + 1)) (hd : d < 4294967296) (hn : d * (V[j]?.getD 0) ≤ r * 4294967296 + W[j]?.getD 0) : GuessIs V W d := by
 have e := Guess.eq g
 refine ⟨g.ge, ?_, hd⟩
 have c1 := (cut_bounds (val_cut3 W j h.wlen) (val_low h.wlim j)).1
 have c2 := (cut_bounds (val_cut2 V j h.vlen) (val_low h.vlim j)).2
 have c3 := h.quot.2.1
 generalize 4294967296 ^ j = P at *
 refine guess_near c3 c1 c2 ?_ ?_
 ·rw [← e]
  exact nx_le hn
 ·have := h.high
  have h5 : V[j + 1]?.getD 0 * 4294967296 ≥ 4294967296 := Nat.le_mul_of_pos_left _ (by omega)
  omega
theorem GuessAt.end_rest {V W : List Nat} {k d r : Nat} (g : GuessAt V W k d r) (h : Guessed V W k) (hr : 4294967296 ≤ r) : GuessIs V W d := by
 have hd := guess_big g (by decide) hr
 cases k with
 | zero => exact g.end_one h (by omega)
 | succ j =>
  refine g.end_more h (by omega) ?_
  have h1 := lim_get h.vlim j
  have h2 : d * (V[j]?.getD 0) ≤ (4294967296 - 1) * 4294967296 := Nat.mul_le_mul hd (by omega)
  have h3 : 4294967296 * 4294967296 ≤ r * 4294967296 := Nat.mul_le_mul_right _ hr
  have h4 : (4294967296 - 1) * 4294967296 ≤ 4294967296 * 4294967296 := by decide
  omega
end Go.Proofs.YtpefjkndfifceaaGreatDoor
namespace Go.Proofs.YtpefjkndfifceaaGreatDoor
open Go.RowKit
structure MonIn (x m t t' : List Nat) (y q j F S : Nat) : Prop where
 len : t'.length = t.length
 lim : Lim t'
 val : val32 (x.take (j + 1)) * y + val32 (t.take (j + 1)) + q * val32 (m.take (j + 1)) = 4294967296 * val32 (t'.take j) + 4294967296 ^ (j + 1) * (F + S)
 rest : ∀ i, j ≤ i → t'[i]?.getD 0 = t[i]?.getD 0
 first : F < 4294967296
 second : S < 4294967296
theorem two_words {a b c d : Nat} (ha : a < 4294967296) (hb : b < 4294967296) (hc : c < 4294967296) (hd : d < 4294967296) : a * b + c + d < 18446744073709551616 ∧ (a * b + c + d) / 4294967296 < 4294967296 := by
 have h : a * b ≤ 4294967295 * 4294967295 := Nat.mul_le_mul (by omega) (by omega)
 have h2 : a * b + c + d < 18446744073709551616 := by omega
 exact ⟨h2, by omega⟩
theorem val_first (l : List Nat) : val32 (l.take 1) = l[0]?.getD 0 := by
 have := valB_succ (b := 4294967296) l 0
 simp only [List.take_zero, valB, Nat.pow_zero, Nat.one_mul, Nat.zero_add] at this
 exact this
theorem monIn_start {x m t : List Nat} {y q : Nat} (hx : Lim x) (hm : Lim m) (ht : Lim t) (hy : y < 4294967296) (hq : q < 4294967296)
  (h0 : (q * (m[0]?.getD 0) + (x[0]?.getD 0 * y + t[0]?.getD 0) % 4294967296) % 4294967296 = 0) :
  MonIn x m t t y q 0 ((x[0]?.getD 0 * y + t[0]?.getD 0) / 4294967296) ((q * (m[0]?.getD 0) + (x[0]?.getD 0 * y + t[0]?.getD 0) % 4294967296) / 4294967296) := by
 have hx0 := lim_get hx 0
 have hm0 := lim_get hm 0
 have ht0 := lim_get ht 0
 have b1 := two_words hx0 hy ht0 (show 0 < 4294967296 by decide)
 have b2 := two_words hq hm0 (Nat.mod_lt (x[0]?.getD 0 * y + t[0]?.getD 0) (show 0 < 4294967296 by decide)) (show 0 < 4294967296 by decide)
 rw [Nat.add_zero] at b1 b2
 refine ⟨rfl, ht, ?_, fun _ _ => rfl, b1.2, b2.2⟩
 rw [Nat.zero_add, val_first, val_first, val_first, List.take_zero]
 simp only [val32, valB, Nat.mul_zero, Nat.pow_one, Nat.zero_add]
 have e1 := Nat.mod_add_div (x[0]?.getD 0 * y + t[0]?.getD 0) 4294967296
 have e2 := Nat.mod_add_div (q * (m[0]?.getD 0) + (x[0]?.getD 0 * y + t[0]?.getD 0) % 4294967296) 4294967296
 omega
theorem monIn_step {x m t t' : List Nat} {y q j F S : Nat} (h : MonIn x m t t' y q j F S) (hx : Lim x) (hm : Lim m) (ht : Lim t) (hy : y < 4294967296) (hq : q < 4294967296) (hj : j + 1 < t.length) :
  let f := x[j + 1]?.getD 0 * y + t'[j + 1]?.getD 0 + F
  let s := q * (m[j + 1]?.getD 0) + f % 4294967296 + S
  MonIn x m t (t'.set j (s % 4294967296)) y q (j + 1) (f / 4294967296) (s / 4294967296) ∧ f < 18446744073709551616 ∧ s < 18446744073709551616 := by
 intro f s
 obtain ⟨h1, h2, h3, h4, h5, h6⟩ := h
 have b1 := two_words (lim_get hx (j + 1)) hy (lim_get h2 (j + 1)) h5
 have b2 := two_words hq (lim_get hm (j + 1)) (Nat.mod_lt f (show 0 < 4294967296 by decide)) h6
 refine ⟨⟨by simp [h1], mem_set h2 (Nat.mod_lt _ (by decide)), ?_, fun i hi => by rw [getD_set _ _ _ _ (by omega), if_neg (by omega)]; exact h4 i (by omega), b1.2, b2.2⟩, b1.1, b2.1⟩
 have e1 := valB_succ (b := 4294967296) x (j + 1)
 have e2 := valB_succ (b := 4294967296) t (j + 1)
 have e3 := valB_succ (b := 4294967296) m (j + 1)
 have e4 := h4 (j + 1) (by omega)
 have ef := Nat.mod_add_div f 4294967296
 have es := Nat.mod_add_div s 4294967296
 rw [take_set_succ _ _ _ (by omega)]
 simp only [val32] at *
 rw [valB_snoc, List.length_take, Nat.min_eq_left (by omega), e1, e2, e3]
 have hf : f = x[j + 1]?.getD 0 * y + t[j + 1]?.getD 0 + F := by rw [← e4]
 have hs : s = q * (m[j + 1]?.getD 0) + f % 4294967296 + S := rfl
 generalize hP : 4294967296 ^ (j + 1) = P at *
 have hP2 : 4294967296 * 4294967296 ^ j = P := by rw [← hP, Nat.pow_succ, Nat.mul_comm]
 generalize f / 4294967296 = fd at *
 generalize s / 4294967296 = sd at *
 generalize f % 4294967296 = fm at *
 generalize s % 4294967296 = sm at *
 rw [Nat.add_mul, Nat.mul_add q, Nat.mul_add 4294967296, ← Nat.mul_assoc 4294967296, hP2, Nat.pow_succ, hP]
 have k1 : P * (x[j + 1]?.getD 0) * y = P * (x[j + 1]?.getD 0 * y) := Nat.mul_assoc _ _ _
 have k2 : q * (P * (m[j + 1]?.getD 0)) = P * (q * (m[j + 1]?.getD 0)) := Nat.mul_left_comm _ _ _
 have k3 : P * (x[j + 1]?.getD 0 * y) + P * (t[j + 1]?.getD 0) + P * F = P * f := by rw [← Nat.mul_add, ← Nat.mul_add, hf]
 have k4 : P * (q * (m[j + 1]?.getD 0)) + P * fm + P * S = P * s := by rw [← Nat.mul_add, ← Nat.mul_add, hs]
 have k5 : P * f = P * fm + P * 4294967296 * fd := by rw [Nat.mul_assoc, ← Nat.mul_add, ef]
 have k6 : P * s = P * sm + P * 4294967296 * sd := by rw [Nat.mul_assoc, ← Nat.mul_add, es]
 rw [k1, k2, Nat.mul_add (P * 4294967296)]
 rw [Nat.mul_add] at h3
 omega
structure MonOut (x m y t : List Nat) (i : Nat) : Prop where
 len : t.length = m.length + 1
 lim : Lim t
 val : ∃ K, 4294967296 ^ i * val32 t = val32 x * val32 (y.take i) + val32 m * K
 less : val32 t < 2 * val32 m
theorem monOut_start {x m y : List Nat} (hm : 0 < val32 m) : MonOut x m y (List.replicate (m.length + 1) 0) 0 :=
 ⟨by simp, fun z hz => by rw [List.eq_of_mem_replicate hz]; decide, ⟨0, by simp [val32, valB_zeros, valB]⟩, by have := hm; simp only [val32, valB_zeros] at *; omega⟩
theorem monOut_step {x m y t t' : List Nat} {i q F S k : Nat} (h : MonOut x m y t i) (hn : m.length = k + 1) (hxl : x.length = k + 1) (hin : MonIn x m t t' (y[i]?.getD 0) q k F S) (hy : Lim y) (hq : q < 4294967296) (hx : val32 x < val32 m) :
  let top := t'[k + 1]?.getD 0 + F + S
  MonOut x m y ((t'.set k (top % 4294967296)).set (k + 1) (top / 4294967296)) (i + 1) := by
 intro top
 obtain ⟨h1, h2, ⟨K, h3⟩, h4⟩ := h
 obtain ⟨i1, i2, i3, i4, i5, i6⟩ := hin
 have hyi := lim_get hy i
 have htl : t'.length = k + 2 := by omega
 have htop := i4 (k + 1) (by omega)
 have ht1 := lim_get i2 (k + 1)
 have hlt : top / 4294967296 < 4294967296 := by
  have : top < 4294967296 * 3 := by show t'[k + 1]?.getD 0 + F + S < _; omega
  omega
 have hval : val32 ((t'.set k (top % 4294967296)).set (k + 1) (top / 4294967296)) = val32 (t'.take k) + 4294967296 ^ k * top := by
  have ea : (t'.set k (top % 4294967296)).set (k + 1) (top / 4294967296) = t'.take k ++ [top % 4294967296, top / 4294967296] := by
   have e1 := take_set_succ (t'.set k (top % 4294967296)) (k + 1) (top / 4294967296) (by simp; omega)
   rw [List.take_of_length_le (by simp; omega), take_set_succ _ _ _ (by omega)] at e1
   rw [e1, List.append_assoc]
   rfl
  rw [ea]
  simp only [val32]
  rw [valB_append, List.length_take, Nat.min_eq_left (by omega)]
  simp only [valB, Nat.mul_zero, Nat.add_zero]
  rw [Nat.mod_add_div]
 have hbig : 4294967296 * val32 ((t'.set k (top % 4294967296)).set (k + 1) (top / 4294967296)) = val32 x * (y[i]?.getD 0) + val32 t + q * val32 m := by
  rw [hval]
  have e1 := val_cut1 t (k + 1) (by omega)
  have e2 : x.take (k + 1) = x := List.take_of_length_le (by omega)
  have e3 : m.take (k + 1) = m := List.take_of_length_le (by omega)
  rw [e2, e3] at i3
  rw [e1]
  have e4 : top = t[k + 1]?.getD 0 + F + S := by rw [← htop]
  rw [Nat.mul_add, ← Nat.mul_assoc, Nat.mul_comm 4294967296 (4294967296 ^ k), show 4294967296 ^ k * 4294967296 = 4294967296 ^ (k + 1) from (Nat.pow_succ ..).symm, e4]
  rw [Nat.mul_add] at i3
  rw [Nat.mul_add, Nat.mul_add]
  simp only [val32] at *
  omega
 refine ⟨by simp [i1, h1], mem_set (mem_set i2 (Nat.mod_lt _ (by decide))) hlt, ⟨K + 4294967296 ^ i * q, ?_⟩, ?_⟩
 ·have e5 := valB_succ (b := 4294967296) y i
  rw [Nat.pow_succ, Nat.mul_assoc, hbig]
  simp only [val32] at *
  rw [e5, Nat.mul_add, Nat.mul_add, h3, Nat.mul_add, Nat.mul_add]
  have c1 : 4294967296 ^ i * (valB 4294967296 x * (y[i]?.getD 0)) = valB 4294967296 x * (4294967296 ^ i * (y[i]?.getD 0)) := Nat.mul_left_comm _ _ _
  have c2 : 4294967296 ^ i * (q * valB 4294967296 m) = valB 4294967296 m * (4294967296 ^ i * q) := by rw [Nat.mul_comm q, Nat.mul_left_comm]
  rw [c1, c2]
  omega
 ·have d1 : val32 x * (y[i]?.getD 0) ≤ val32 m * 4294967295 := Nat.mul_le_mul (Nat.le_of_lt hx) (by omega)
  have d2 : q * val32 m ≤ 4294967295 * val32 m := Nat.mul_le_mul_right _ (by omega)
  omega
theorem mon_less {t m L : List Nat} {b k : Nat} (hm : m.length = k) (ht : t.length = k + 1) (hl : Lim t) (hlm : Lim m) (hL : Lim L) (hLl : L.length = k) (hlt : val32 t < 2 * val32 m) (hb : b ≤ 1) (hv : val32 L + val32 m = val32 (t.take k) + 4294967296 ^ k * b) :
  (t[k]?.getD 0 < b → val32 (t.take k) = val32 t % val32 m) ∧ (¬ t[k]?.getD 0 < b → val32 L = val32 t % val32 m) := by
 have e1 := val_cut1 t k ht
 have hL2 := valB_lt (b := 4294967296) (by decide) hL
 have hm2 := valB_lt (b := 4294967296) (by decide) hlm
 have ht2 := val_low hl k
 rw [hLl] at hL2
 rw [hm] at hm2
 simp only [val32] at *
 generalize 4294967296 ^ k = P at *
 constructor
 ·intro h
  have h0 : t[k]?.getD 0 = 0 := by omega
  have h1 : b = 1 := by omega
  rw [h0, Nat.mul_zero, Nat.add_zero] at e1
  rw [h1, Nat.mul_one] at hv
  rw [e1, Nat.mod_eq_of_lt (by omega)]
 ·intro h
  have h2 : valB 4294967296 L + valB 4294967296 m = valB 4294967296 t := by
   rcases Nat.eq_zero_or_pos (t[k]?.getD 0) with h0 | h0
   ·have : b = 0 := by omega
    rw [h0, Nat.mul_zero] at e1
    rw [this, Nat.mul_zero] at hv
    omega
   ·have hc : t[k]?.getD 0 = 1 := by
     apply Decidable.byContradiction
     intro hn
     have : P * 2 ≤ P * (t[k]?.getD 0) := Nat.mul_le_mul_left _ (by omega)
     omega
    rw [hc, Nat.mul_one] at e1
    rcases Nat.eq_zero_or_pos b with hb0 | hb0
    ·rw [hb0, Nat.mul_zero] at hv
     omega
    ·have : b = 1 := by omega
     rw [this, Nat.mul_one] at hv
     omega
  rw [← h2, Nat.add_mod_right, Nat.mod_eq_of_lt (by omega)]
end Go.Proofs.YtpefjkndfifceaaGreatDoor
namespace Go.Proofs.YtpefjkndfifceaaGreatDoor
open Go.RowKit
structure InvI (M X E R F T : Nat) (s : Int) : Prop where
 det : E * T + R * F = M
 gcd : Nat.gcd E R = Nat.gcd M X
 two : 0 < R → 2 ≤ E
 pos : 0 < E
 elder : (M : Int) ∣ (E : Int) - s * F * X
 rest : (M : Int) ∣ (R : Int) + s * T * X
 bound : F < M
theorem inv_ring (r R q s T F X : Int) : r + -s * (q * T + F) * X = (r + R * q - s * F * X) - q * (R + s * T * X) := by
 have a1 : s * (q * T) * X = q * (s * T * X) := by ac_rfl
 have a2 : R * q = q * R := Int.mul_comm _ _
 simp only [Int.mul_add, Int.add_mul, Int.neg_mul]
 omega
theorem inv_start {M : Nat} (X : Nat) (hM : 2 ≤ M) : InvI M X M X 0 1 (-1) := ⟨by simp, rfl, fun _ => hM, by omega, by simp, ⟨0, by simp [Int.add_right_neg]⟩, by omega⟩
theorem InvI.step {M X E R F T : Nat} {s : Int} (h : InvI M X E R F T s) (hR : 0 < R) (hM : 2 ≤ M) : InvI M X R (E % R) T (E / R * T + F) (-s) := by
 obtain ⟨h1, h2, h3, h4, h5, h6, h7⟩ := h
 have hq := Nat.mod_add_div E R
 refine ⟨?_, ?_, fun hp => ?_, hR, ?_, ?_, ?_⟩
 ·have e1 : R * (E / R * T) = R * (E / R) * T := (Nat.mul_assoc _ _ _).symm
  have e2 : E * T = E % R * T + R * (E / R) * T := by rw [← Nat.add_mul, hq]
  rw [Nat.mul_add, e1]
  omega
 ·rw [← h2, Nat.gcd_comm R, ← Nat.gcd_rec, Nat.gcd_comm]
 ·have := Nat.mod_lt E hR
  omega
 ·have e : (R : Int) - -s * T * X = (R : Int) + s * T * X := by rw [Int.neg_mul, Int.neg_mul, Int.sub_neg]
  rw [e]; exact h6
 ·have e : ((E % R : Nat) : Int) + -s * ((E / R * T + F : Nat) : Int) * X = ((E : Int) - s * F * X) - ((E / R : Nat) : Int) * ((R : Int) + s * T * X) := by
   have hq2 : (E : Int) = ((E % R : Nat) : Int) + (R : Int) * ((E / R : Nat) : Int) := by rw [← Int.natCast_mul, ← Int.natCast_add, hq]
   rw [hq2, Int.natCast_add, Int.natCast_mul]
   exact inv_ring _ _ _ _ _ _ _
  rw [e]
  exact Int.dvd_sub h5 (Int.dvd_mul_of_dvd_right h6)
 ·have h8 := h3 hR
  have h9 : 2 * T ≤ E * T := Nat.mul_le_mul_right _ h8
  omega
theorem mod_of_dvd {M a : Nat} (hM : 2 ≤ M) (h : (M : Int) ∣ 1 - (a : Int)) : a % M = 1 := by
 obtain ⟨c, hc⟩ := h
 have e : (a : Int) = 1 + (M : Int) * (-c) := by rw [Int.mul_neg, ← hc]; omega
 have h2 : (a : Int) % (M : Int) = 1 := by
  rw [e, Int.add_mul_emod_self_left]
  exact Int.emod_eq_of_lt (by omega) (by omega)
 omega
theorem InvI.fin_pos {M X F T : Nat} (h : InvI M X 1 0 F T 1) (hM : 2 ≤ M) : F < M ∧ X * F % M = 1 := by
 refine ⟨h.bound, mod_of_dvd hM ?_⟩
 have := h.elder
 rw [Int.one_mul] at this
 rw [Int.natCast_mul, Int.mul_comm (X : Int)]
 exact this
theorem InvI.fin_neg {M X F T : Nat} (h : InvI M X 1 0 F T (-1)) (hM : 2 ≤ M) : M - F < M ∧ X * (M - F) % M = 1 := by
 have hb := h.bound
 have he := h.elder
 have hF : 0 < F := by
  apply Nat.pos_of_ne_zero
  intro e
  rw [e] at he
  simp at he
  have := Int.le_of_dvd (by decide) he
  omega
 refine ⟨by omega, mod_of_dvd hM ?_⟩
 obtain ⟨c, hc⟩ := he
 refine ⟨c - X, ?_⟩
 have e1 : ((X * (M - F) : Nat) : Int) = (X : Int) * ((M : Int) - F) := by rw [Int.natCast_mul, Int.natCast_sub (by omega)]
 rw [e1, Int.mul_sub, Int.mul_sub, ← hc]
 have e2 : (-1 : Int) * F * X = -((F : Int) * X) := by rw [Int.neg_mul, Int.one_mul, Int.neg_mul]
 rw [e2, Int.mul_comm (X : Int) F, Int.mul_comm (X : Int) M]
 omega
theorem inv_uniq {M X i j : Nat} (hi : i < M) (hj : j < M) (h : X * i % M = 1) (k : X * j % M = 1) : i = j := by
 have e1 : i * (X * j) % M = i := by
  rw [Nat.mul_mod, k, Nat.mul_one, Nat.mod_mod, Nat.mod_eq_of_lt hi]
 have e2 : i * (X * j) % M = j := by
  rw [← Nat.mul_assoc, Nat.mul_comm i X, Nat.mul_mod, h, Nat.one_mul, Nat.mod_mod, Nat.mod_eq_of_lt hj]
 omega
def invN (X M : Nat) : Nat := ((List.range M).find? fun i => X * i % M == 1).getD 0
theorem invN_eq {X M i : Nat} (hi : i < M) (h : X * i % M = 1) : invN X M = i := by
 unfold invN
 cases hf : (List.range M).find? fun i => X * i % M == 1 with
 | none =>
  have := List.find?_eq_none.1 hf i (List.mem_range.2 hi)
  simp [h] at this
 | some j =>
  have h1 := List.find?_some hf
  have h2 := List.mem_range.1 (List.mem_of_find?_eq_some hf)
  exact inv_uniq h2 hi (by simpa using h1) h
end Go.Proofs.YtpefjkndfifceaaGreatDoor
namespace Go.Proofs.YtpefjkndfifceaaGreatDoor
open Go.RowKit
theorem mon_inv_of {M X : Nat} (hM : 2 ≤ M) (hg : Nat.gcd M X = 1) : ∀ (R E F T : Nat) (s : Int), InvI M X E R F T s → (s = 1 ∨ s = -1) → ∃ i, i < M ∧ X * i % M = 1 := by
 intro R
 induction R using Nat.strongRecOn with
 | _ R ih =>
  intro E F T s h hs
  rcases Nat.eq_zero_or_pos R with rfl | hR
  ·obtain rfl : E = 1 := by rw [← hg, ← h.gcd, Nat.gcd_zero_right]
   rcases hs with rfl | rfl
   ·exact ⟨F, h.fin_pos hM⟩
   ·exact ⟨M - F, h.fin_neg hM⟩
  ·exact ih (E % R) (Nat.mod_lt _ hR) R T _ (-s) (h.step hR hM) (by rcases hs with rfl | rfl <;> decide)
theorem mon_inv {M X : Nat} (hM : 2 ≤ M) (hg : Nat.gcd M X = 1) : invN X M < M ∧ X * invN X M % M = 1 := by
 obtain ⟨i, h1, h2⟩ := mon_inv_of hM hg _ _ _ _ _ (inv_start X hM) (.inr rfl)
 rw [invN_eq h1 h2]
 exact ⟨h1, h2⟩
abbrev radix (n : Nat) : Nat := 4294967296 ^ n
theorem gcd_radix {M : Nat} (hM : M % 2 = 1) (n : Nat) : Nat.gcd M (radix n) = 1 := by
 have h2 : Nat.gcd M 2 = 1 := by rw [Nat.gcd_comm, Nat.gcd_rec, hM]; rfl
 have e : radix n = 2 ^ (32 * n) := by unfold radix; rw [Nat.pow_mul]
 rw [e]
 exact Nat.Coprime.pow_right _ h2
def monN (n M z : Nat) : Nat := z * invN (radix n) M % M
theorem monN_lt {n M z : Nat} (hM : 0 < M) : monN n M z < M := Nat.mod_lt _ hM
theorem monN_eq {n M z r : Nat} (hM : 2 ≤ M) (ho : M % 2 = 1) (hr : r < M) (h : radix n * r % M = z % M) : r = monN n M z := by
 have hi := (mon_inv hM (gcd_radix ho n)).2
 unfold monN
 have e : z * invN (radix n) M % M = (radix n * r) * invN (radix n) M % M := by
  rw [← Nat.mod_mul_mod z, ← h, Nat.mod_mul_mod]
 rw [e, Nat.mul_right_comm, ← Nat.mod_mul_mod, hi, Nat.one_mul, Nat.mod_eq_of_lt hr]
theorem monN_mod {n M z : Nat} : monN n M (z % M) = monN n M z := by unfold monN; rw [Nat.mod_mul_mod]
theorem monN_in {n M x : Nat} (hM : 2 ≤ M) (ho : M % 2 = 1) : monN n M (x * radix n) = x % M := by
 refine (monN_eq hM ho (Nat.mod_lt _ (by omega)) ?_).symm
 rw [Nat.mul_mod_mod, Nat.mul_comm]
theorem monN_both {n M x y : Nat} (hM : 2 ≤ M) (ho : M % 2 = 1) : monN n M (x * radix n % M * (y * radix n % M)) = x * y * radix n % M := by
 refine (monN_eq hM ho (Nat.mod_lt _ (by omega)) ?_).symm
 rw [Nat.mul_mod_mod, ← Nat.mul_mod]
 congr 1
 ac_rfl
theorem mon_end {x m y t : List Nat} {n M X Y : Nat} (h : MonOut x m y t n) (hn : y.length = n) (hm : val32 m = M) (hx : val32 x = X) (hy : val32 y = Y) (hM : 2 ≤ M) (ho : M % 2 = 1) : val32 t % M = monN n M (X * Y) := by
 obtain ⟨K, hK⟩ := h.val
 rw [List.take_of_length_le (by omega), hm, hx, hy] at hK
 refine monN_eq hM ho (Nat.mod_lt _ (by omega)) ?_
 rw [Nat.mul_mod_mod]
 unfold radix
 rw [hK, Nat.add_mul_mod_self_left]
theorem limb_step {l x D V a b : Int} (h : D ∣ l * x - 1) (hV : D * D ∣ V) : D * D ∣ l * (x * (2 - l * x + V * a) + V * b) - 1 := by
 obtain ⟨c, hc⟩ := h
 obtain ⟨d, hd⟩ := hV
 refine ⟨-(c * c) + d * (l * x * a) + d * (l * b), ?_⟩
 have e : l * x = D * c + 1 := by omega
 have e1 : l * (x * (2 - l * x + V * a) + V * b) = l * x * 2 - l * x * (l * x) + V * (l * x * a) + V * (l * b) := by
  simp only [Int.mul_add, Int.mul_sub]
  have k1 : l * (x * 2) = l * x * 2 := by ac_rfl
  have k2 : l * (x * (l * x)) = l * x * (l * x) := by ac_rfl
  have k3 : l * (x * (V * a)) = V * (l * x * a) := by ac_rfl
  have k4 : l * (V * b) = V * (l * b) := by ac_rfl
  omega
 have e2 : l * x * (l * x) = D * D * (c * c) + 2 * (D * c) + 1 := by
  rw [e]
  simp only [Int.mul_add, Int.add_mul, Int.mul_one, Int.one_mul]
  have k1 : D * c * (D * c) = D * D * (c * c) := by ac_rfl
  omega
 rw [e1, e2, hd]
 simp only [Int.mul_add, Int.mul_neg]
 have k1 : D * D * d * (l * x * a) = D * D * (d * (l * x * a)) := by ac_rfl
 have k2 : D * D * d * (l * b) = D * D * (d * (l * b)) := by ac_rfl
 omega
def wideN (n v : Nat) : List Nat := nat32 v ++ List.replicate (n - (nat32 v).length) 0
theorem wideN_len {n v : Nat} (h : v < radix n) : (wideN n v).length = n := by
 have := (natB_length (b := 4294967296) (by decide) v n).2 h
 unfold wideN
 simp only [List.length_append, List.length_replicate, nat32] at *
 omega
theorem wideN_lim (n v : Nat) : Lim (wideN n v) := fun x hx => by
 rcases List.mem_append.1 hx with h | h
 ·exact natB_digit (by decide) _ x h
 ·rw [List.eq_of_mem_replicate h]; decide
theorem wideN_val (n v : Nat) : val32 (wideN n v) = v := by
 unfold wideN val32
 rw [valB_append, valB_zeros, Nat.mul_zero, Nat.add_zero]
 exact natB_val (by decide) v
theorem wideN_uniq {n : Nat} {l : List Nat} (hL : Lim l) (hn : l.length = n) : l = wideN n (val32 l) := by
 have hv : val32 l < radix n := by rw [← hn]; exact valB_lt (by decide) hL
 have h1 := wideN_len hv
 refine List.ext_getElem (by omega) fun i h2 h3 => ?_
 have e1 := valB_get (b := 4294967296) (by decide) hL i
 have e2 := valB_get (b := 4294967296) (by decide) (wideN_lim n (val32 l)) i
 have e3 : valB 4294967296 (wideN n (val32 l)) = val32 l := wideN_val n _
 rw [e3] at e2
 have e4 : l[i]?.getD 0 = (wideN n (val32 l))[i]?.getD 0 := by rw [e1, e2]
 rw [List.getElem?_eq_getElem h2, List.getElem?_eq_getElem h3] at e4
 simpa using e4
end Go.Proofs.YtpefjkndfifceaaGreatDoor
