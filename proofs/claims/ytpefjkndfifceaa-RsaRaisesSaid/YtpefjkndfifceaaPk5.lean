/- Part of the proofs: what the functions that the law calls do. -/
import Derived.Test.YtpefjkndfifceaaPk1
import Derived.Test.YtpefjkndfifceaaPk3
import Derived.Test.YtpefjkndfifceaaPk4
import Derived.BigQuiet
import Derived.RangeFuncNested
import Derived.RangeFuncBox
set_option linter.unusedVariables false
set_option linter.unusedSimpArgs false
namespace Go.Proofs.Ytpefjkndfifceaa
open Go.RowKit
set_option maxRecDepth 100000
theorem top_of {n k j : Nat} (hj : topN = 256 ^ j) (hk : k ≤ j) (h : n < 256 ^ k) : n < topN := by
  rw [hj]
  exact Nat.lt_of_lt_of_le h (Nat.pow_le_pow_right (show 0 < 256 by decide) hk)
theorem key_small {l : List Nat} (hb : Byt l) (h : l.length ≤ 700) : valB 256 l.reverse < topN := by
  have h1 := valB_lt (b := 256) (by decide) (l := l.reverse) (fun x hx => hb x (List.mem_reverse.1 hx))
  rw [List.length_reverse] at h1
  exact top_of topN_256 (by omega) h1
def numOk (l : List Nat) : Bool := decide (l.length = 0) || decide (0 < l[0]?.getD 0)
def numV (l : List Nat) : Nat := if numOk l then valB 256 l.reverse else 0
set_option maxHeartbeats 1000000 in
theorem number_c (a : Option Addr) (n c : Nat) (l : List Nat) (w : World) (hr : Reads .u8 w a n c l) (hb : Byt l) (hn : n ≤ 700) :
    Calls Try.prog 56 #[.slice a n c] w fun e w' => (∃ v, e = .returned (.tuple #[v, .bool (numOk l)]) ∧ OwnQ .u32 64 w.heap.size w' v (nat32 (numV l))) ∧ Below w.heap.size w w' := by
  have HR := Lib.hid hr
  have hl := hr.length
  have HB := Lib.hid hb
  have HS := Lib.hid (key_small hb (by omega))
  by_cases h0 : n = 0
  · have t1 : decide ((0 : Int) < (n : Int)) = false := decide_eq_false (by omega)
    have t2 : decide (0 < n) = false := decide_eq_false (by omega)
    have hok : numOk l = true := by unfold numOk; simp; left; exact List.eq_nil_of_length_eq_zero (by omega)
    have HV := Lib.hid (show numV l = valB 256 l.reverse by unfold numV; rw [hok]; rfl)
    have HO := Lib.hid hok
    clear hr hb hl hok h0
    go_enter Try.func56, Try.ntmps56
    go_wp2_with fail
    refine (read_any a n c l w HR.out HB.out (by omega)).mono ?_
    rintro e w1 ⟨⟨v, rfl, hv⟩, hbw⟩
    rw [cutR_small HS.out] at hv ⊢
    have HW := Lib.hid hv
    have HBW := Lib.hid hbw
    clear hv hbw
    go_wp2
    go_ret2
    exact ⟨⟨v, by rw [HO.out]; rfl, by rw [HV.out]; exact HW.out⟩, HBW.out⟩
  · have t1 : decide ((0 : Int) < (n : Int)) = true := decide_eq_true (by omega)
    have t2 : decide (0 < n) = true := decide_eq_true (by omega)
    obtain ⟨bk, off, rfl, hbl, hcl⟩ := hr.cells (by omega)
    have hc0 := hcl 0 (by omega)
    rw [Nat.add_zero] at hc0
    have hpos : 0 < n := by omega
    obtain ⟨x, hx⟩ : ∃ x, l[0]?.getD 0 = x := ⟨_, rfl⟩
    rw [hx] at hc0
    have hxb : x < 256 := by
      rw [← hx, List.getElem?_eq_getElem (by omega)]
      exact hb _ (List.getElem_mem (by omega))
    by_cases hx0 : x = 0
    · have t3 : ((x : Int) == 0) = true := by simp; omega
      have hok : numOk l = false := by unfold numOk; rw [hx, decide_eq_false (show ¬ l.length = 0 by omega), decide_eq_false (show ¬ 0 < x by omega)]; rfl
      have HV := Lib.hid (show numV l = 0 by unfold numV; rw [hok]; rfl)
      have HO := Lib.hid hok
      clear hr hb hl hok hcl hx hx0
      go_enter Try.func56, Try.ntmps56
      go_wp2
      go_ret2
      exact ⟨⟨.slice none 0 0, by rw [HO.out]; rfl, by rw [HV.out, show nat32 0 = [] from natB_zero _]; exact OwnQ.nil _ _ _ _⟩, Below.refl _ _⟩
    · have t3 : ((x : Int) == 0) = false := by simp; omega
      have hok : numOk l = true := by unfold numOk; rw [hx, decide_eq_true (show 0 < x by omega), Bool.or_true]
      have HV := Lib.hid (show numV l = valB 256 l.reverse by unfold numV; rw [hok]; rfl)
      have HO := Lib.hid hok
      clear hr hb hl hok hcl hx hx0
      go_enter Try.func56, Try.ntmps56
      go_wp2_with fail
      refine (read_any _ n c l w HR.out HB.out (by omega)).mono ?_
      rintro e w1 ⟨⟨v, rfl, hv⟩, hbw⟩
      rw [cutR_small HS.out] at hv ⊢
      have HW := Lib.hid hv
      have HBW := Lib.hid hbw
      clear hv hbw hc0
      go_wp2
      go_ret2
      exact ⟨⟨v, by rw [HO.out]; rfl, by rw [HV.out]; exact HW.out⟩, HBW.out⟩
set_option maxHeartbeats 1000000 in
theorem number_r (a : Option Addr) (n c : Nat) (l : List Nat) (w : World) (hr : Reads .u8 w a n c l) (hb : Byt l) (hn : n ≤ 700) :
    Calls Try.prog 19 #[.slice a n c] w fun e w' => (∃ v, e = .returned (.tuple #[v, .bool (numOk l)]) ∧ OwnQ .u32 64 w.heap.size w' v (nat32 (valB 256 l.reverse))) ∧ Below w.heap.size w w' := by
  have HR := Lib.hid hr
  have hl := hr.length
  have HB := Lib.hid hb
  have HS := Lib.hid (key_small hb (by omega))
  go_enter Try.func19, Try.ntmps19
  go_wp2_with fail
  refine (rf.read_any a n c l w HR.out HB.out (by omega)).mono ?_
  rintro e w1 ⟨⟨v, rfl, hv⟩, hbw⟩
  rw [cutR_small HS.out] at hv ⊢
  have HW := Lib.hid hv
  have HBW := Lib.hid hbw
  have hr1 := hr.below hbw
  clear hv hbw
  by_cases h0 : n = 0
  · have t1 : ((n : Int) == 0) = true := by simp; omega
    have hok : numOk l = true := by unfold numOk; simp; left; exact List.eq_nil_of_length_eq_zero (by omega)
    have HO := Lib.hid hok
    clear hr hb hl hok hr1 h0
    go_wp2_with fail
    go_big_quiet (fail)
    simp only [Exit.then]
    go_wp2
    go_ret2
    exact ⟨⟨v, by rw [HO.out]; rfl, HW.out.drewN _⟩, HBW.out.trans ⟨rfl, rfl, rfl, Nat.le_refl _, fun _ _ => rfl⟩⟩
  · have t1 : ((n : Int) == 0) = false := by simp; omega
    obtain ⟨bk, off, rfl, hbl, hcl⟩ := hr1.cells (by omega)
    have hc0 := hcl 0 (by omega)
    rw [Nat.add_zero] at hc0
    have hpos : 0 < n := by omega
    obtain ⟨x, hx⟩ : ∃ x, l[0]?.getD 0 = x := ⟨_, rfl⟩
    rw [hx] at hc0
    have hxb : x < 256 := by
      rw [← hx, List.getElem?_eq_getElem (by omega)]
      exact hb _ (List.getElem_mem (by omega))
    have HO := Lib.hid (show numOk l = decide (0 < x) by unfold numOk; rw [hx, decide_eq_false (show ¬ l.length = 0 by omega), Bool.false_or])
    by_cases hx0 : 0 < x
    · have t3 : decide ((0 : Int) < (x : Int)) = true := decide_eq_true (by omega)
      have t4 : decide (0 < x) = true := decide_eq_true hx0
      have HO2 := Lib.hid (HO.out.trans t4)
      clear hr hb hl hcl hx hr1 h0 HO
      go_wp2_with fail
      go_big_quiet (fail)
      simp only [Exit.then]
      go_wp2
      go_ret2
      exact ⟨⟨v, by rw [HO2.out]; rfl, HW.out.drewN _⟩, HBW.out.trans ⟨rfl, rfl, rfl, Nat.le_refl _, fun _ _ => rfl⟩⟩
    · have t3 : decide ((0 : Int) < (x : Int)) = false := decide_eq_false (by omega)
      have t4 : decide (0 < x) = false := decide_eq_false hx0
      have HO2 := Lib.hid (HO.out.trans t4)
      clear hr hb hl hcl hx hr1 h0 HO
      go_wp2_with fail
      go_big_quiet (fail)
      simp only [Exit.then]
      go_wp2
      go_ret2
      exact ⟨⟨v, by rw [HO2.out]; rfl, HW.out.drewN _⟩, HBW.out.trans ⟨rfl, rfl, rfl, Nat.le_refl _, fun _ _ => rfl⟩⟩
end Go.Proofs.Ytpefjkndfifceaa
namespace Go.Proofs.Ytpefjkndfifceaa
open Go.RowKit
set_option maxRecDepth 100000
abbrev nV (l : List Nat) : Nat := valB 256 l.reverse
def PubP (N E : List Nat) : Prop := numOk N = true ∧ numOk E = true ∧ 256 ≤ bitsN (nV N) ∧ bitsN (nV N) ≤ 4096 ∧ 2 ≤ bitsN (nV E) ∧ bitsN (nV E) ≤ 64 ∧ (nV N).testBit 0 = true ∧ (nV E).testBit 0 = true ∧ nV E < nV N
def PrivP (N E D : List Nat) : Prop := PubP N E ∧ numOk D = true ∧ nV D ≠ 0 ∧ nV D < nV N
open Classical in
noncomputable def pubE (N E : List Nat) : Int := if PubP N E then 0 else 100
open Classical in
noncomputable def privE (N E D : List Nat) : Int := if PrivP N E D then 0 else 100
theorem nat32_len {n : Nat} (h : n < topN) : (nat32 n).length ≤ 256 := (natB_length (by decide) n 256).2 h
theorem key_cells {X : World} {P : Nat} {c0 c1 c2 : Value} {t : TypeId} (h : X.heap[P]? = some (.cells #[c0, c1, c2] t)) : X.cell? ⟨P, 0, none⟩ = some c0 ∧ X.cell? ⟨P, 1, none⟩ = some c1 ∧ X.cell? ⟨P, 2, none⟩ = some c2 := by
  simp [World.cell?, h]
theorem num_slice {B : Nat} {w : World} {v : Value} {n : Nat} (h : OwnQ .u32 64 B w v (nat32 n)) (hn : n < topN) : ∃ a m c, v = .slice a m c ∧ m ≤ 256 ∧ OwnQ .u32 64 B w (.slice a m c) (nat32 n) := by
  obtain ⟨a, m, c, rfl, hm, ho⟩ := h.slice
  exact ⟨a, m, c, rfl, by rw [hm]; exact nat32_len hn, ho⟩
set_option maxHeartbeats 4000000 in
theorem rpublic_any (na : Option Addr) (nn nc : Nat) (N : List Nat) (ea : Option Addr) (en ec : Nat) (E : List Nat) (da : Option Addr) (dn dc : Nat) (w : World) (hN : Reads .u8 w na nn nc N) (bN : Byt N) (hE : Reads .u8 w ea en ec E) (bE : Byt E) (ln : nn ≤ 700) (le : en ≤ 700) :
    Calls Try.prog 11 #[.agg #[.slice na nn nc, .slice ea en ec, .slice da dn dc]] w fun e w' => e = .returned (.int .i64 (pubE N E)) ∧ Below w.heap.size w w' := by
  obtain ⟨r, hr⟩ : ∃ r, pubE N E = r := ⟨_, rfl⟩
  rw [hr]
  have HRN := Lib.hid hN
  have HRE := Lib.hid hE
  have HBN := Lib.hid bN
  have HBE := Lib.hid bE
  have HSN := Lib.hid (key_small bN (by rw [hN.length]; exact ln))
  have HSE := Lib.hid (key_small bE (by rw [hE.length]; exact le))
  have hba := (Below.refl w.heap.size w).alloc (Nat.le_refl _) (.cells #[.slice na nn nc, .slice ea en ec, .slice da dn dc] 24)
  have hq0 : (w.alloc (.cells #[.slice na nn nc, .slice ea en ec, .slice da dn dc] 24)).heap[w.heap.size]? = some (.cells #[.slice na nn nc, .slice ea en ec, .slice da dn dc] 24) := World.alloc_heap_new w _
  have HQ := Lib.hid hq0
  have HB := Lib.hid hba
  have HPE := Lib.hid (show ∀ r', (r' = 0 → PubP N E) → (r' ≠ 0 → ¬ PubP N E ∧ r' = 100) → r = r' from fun r' h1 h2 => by
    rw [← hr]
    unfold pubE
    by_cases h : PubP N E
    · rw [if_pos h]; by_cases h3 : r' = 0
      · exact h3.symm
      · exact absurd h (h2 h3).1
    · rw [if_neg h]; by_cases h3 : r' = 0
      · exact absurd (h1 h3) h
      · exact (h2 h3).2.symm)
  clear hN bN hE bE hba hq0 hr
  go_enter Try.func11, Try.ntmps11
  go_wp2_with fail
  generalize w.alloc (.cells #[.slice na nn nc, .slice ea en ec, .slice da dn dc] 24) = w0 at *
  obtain ⟨P, hP⟩ : ∃ P, w.heap.size = P := ⟨_, rfl⟩
  rw [hP] at HQ ⊢
  have HPW := Lib.hid hP
  clear hP
  obtain ⟨k0, k1, k2⟩ := key_cells HQ.out
  go_wp2_with fail
  refine (number_r na nn nc N w0 (HRN.out.below HB.out) HBN.out ln).mono ?_
  rintro e w1 ⟨⟨v, rfl, hv⟩, hb⟩
  obtain ⟨a1, n1, c1, rfl, hn1, ho⟩ := num_slice hv HSN.out
  have HN1 := Lib.hid ho
  have HQ1 := Lib.hid ((hb.block P (Array.getElem?_eq_some_iff.1 HQ.out).1).trans HQ.out)
  have HB1 := Lib.hid (HB.out.trans (hb.mono HB.out.size))
  clear k0 k1 k2 hv ho hb HQ HB
  obtain ⟨k0, k1, k2⟩ := key_cells HQ1.out
  go_wp2_with fail
  refine (number_r ea en ec E w1 (HRE.out.below HB1.out) HBE.out le).mono ?_
  rintro e w2 ⟨⟨v, rfl, hv⟩, hb⟩
  obtain ⟨a2, n2, c2, rfl, hn2, ho⟩ := num_slice hv HSE.out
  have HN2 := Lib.hid ho.reads
  have HN1' := Lib.hid (HN1.out.below hb).reads
  have HB2 := Lib.hid (HB1.out.trans (hb.mono HB1.out.size))
  clear k0 k1 k2 hv ho hb HQ1 HB1 HN1
  obtain ⟨bn, hbn⟩ : ∃ x, x = bitsN (nV N) := ⟨_, rfl⟩
  obtain ⟨be, hbe⟩ : ∃ x, x = bitsN (nV E) := ⟨_, rfl⟩
  obtain ⟨tn, htn⟩ : ∃ x, x = (nV N).testBit 0 := ⟨_, rfl⟩
  obtain ⟨te, hte⟩ : ∃ x, x = (nV E).testBit 0 := ⟨_, rfl⟩
  obtain ⟨o, hor⟩ : ∃ x, x = rf.ordR (nV E) (nV N) := ⟨_, rfl⟩
  obtain ⟨bo, hbo⟩ : ∃ x, x = numOk N := ⟨_, rfl⟩
  obtain ⟨eo, heo⟩ : ∃ x, x = numOk E := ⟨_, rfl⟩
  rw [← hbo, ← heo]
  have hol : o = -1 ↔ nV E < nV N := by
    rw [hor]
    unfold rf.ordR
    by_cases h : nV E < nV N
    · rw [if_pos h]; exact ⟨fun _ => h, fun _ => rfl⟩
    · rw [if_neg h]; constructor
      · intro k; split at k <;> omega
      · intro k; exact absurd k h
  have ho3 : o = -1 ∨ o = 0 ∨ o = 1 := by
    rw [hor]
    unfold rf.ordR
    split
    · exact .inl rfl
    · split
      · exact .inr (.inr rfl)
      · exact .inr (.inl rfl)
  have HPP := Lib.hid (show PubP N E ↔ bo = true ∧ eo = true ∧ 256 ≤ bn ∧ bn ≤ 4096 ∧ 2 ≤ be ∧ be ≤ 64 ∧ tn = true ∧ te = true ∧ o = -1 from by
    rw [hol, hbo, heo, hbn, hbe, htn, hte]; exact Iff.rfl)
  have hb9 : bn ≤ 1000000 := by
    rw [hbn]
    have h1 := HSN.out
    rw [topN_two] at h1
    have h2 := (bitsN_le (nV N) 8192).2 h1
    omega
  have hb8 : be ≤ 1000000 := by
    rw [hbe]
    have h1 := HSE.out
    rw [topN_two] at h1
    have h2 := (bitsN_le (nV E) 8192).2 h1
    omega
  have VN := Lib.hid (show val32 (nat32 (nV N)) = nV N from val_nat _)
  have VE := Lib.hid (show val32 (nat32 (nV E)) = nV E from val_nat _)
  have HBnn := Lib.hid (show bn = bitsN (val32 (nat32 (nV N))) by rw [VN.out]; exact hbn)
  have HBee := Lib.hid (show be = bitsN (val32 (nat32 (nV E))) by rw [VE.out]; exact hbe)
  have HTn := Lib.hid (show tn = (decide ((0 : Int) ≤ 0) && (val32 (nat32 (nV N))).testBit (0 : Int).toNat) by rw [VN.out]; simpa using htn)
  have HTe := Lib.hid (show te = (decide ((0 : Int) ≤ 0) && (val32 (nat32 (nV E))).testBit (0 : Int).toNat) by rw [VE.out]; simpa using hte)
  have HOo := Lib.hid (show o = rf.ordR (val32 (nat32 (nV E))) (val32 (nat32 (nV N))) by rw [VN.out, VE.out]; exact hor)
  have HLm : Hid (∀ n, Lim (nat32 n)) := Lib.hid lim_nat
  clear hbn hbe htn hte hor hbo heo hol
  go_wp2_with fail
  refine (rf.bits_any a1 n1 c1 _ _ HN1'.out (HLm.out _) (by omega) bn HBnn.out).mono ?_
  rintro e w3 ⟨rfl, hb⟩
  have HN1' := Lib.hid (HN1'.out.below hb)
  have HN2 := Lib.hid (HN2.out.below hb)
  have HB3 := Lib.hid (HB2.out.trans (hb.mono HB2.out.size))
  clear hb
  go_wp2_with fail
  refine (rf.bits_any a2 n2 c2 _ _ HN2.out (HLm.out _) (by omega) be HBee.out).mono ?_
  rintro e w4 ⟨rfl, hb⟩
  have HN1' := Lib.hid (HN1'.out.below hb)
  have HN2 := Lib.hid (HN2.out.below hb)
  have HB4 := Lib.hid (HB3.out.trans (hb.mono HB3.out.size))
  clear hb
  go_wp2_with fail
  refine (rf.bit_any a1 n1 c1 _ _ HN1'.out (HLm.out _) (by omega) 0 (by decide) tn HTn.out).mono ?_
  rintro e w5 ⟨rfl, hb⟩
  have HN1' := Lib.hid (HN1'.out.below hb)
  have HN2 := Lib.hid (HN2.out.below hb)
  have HB5 := Lib.hid (HB4.out.trans (hb.mono HB4.out.size))
  clear hb
  go_wp2_with fail
  refine (rf.bit_any a2 n2 c2 _ _ HN2.out (HLm.out _) (by omega) 0 (by decide) te HTe.out).mono ?_
  rintro e w6 ⟨rfl, hb⟩
  have HN1' := Lib.hid (HN1'.out.below hb)
  have HN2 := Lib.hid (HN2.out.below hb)
  have HB6 := Lib.hid (HB5.out.trans (hb.mono HB5.out.size))
  clear hb
  go_wp2_with fail
  refine (rf.cmp_any a2 a1 n2 c2 n1 c1 _ _ _ HN2.out HN1'.out (HLm.out _) (HLm.out _) (by omega) (by omega) o HOo.out).mono ?_
  rintro e w7 ⟨rfl, hb⟩
  have HN1' := Lib.hid (HN1'.out.below hb)
  have HN2 := Lib.hid (HN2.out.below hb)
  have HB7 := Lib.hid (HB6.out.trans (hb.mono HB6.out.size))
  clear hb
  clear HN1' HN2
  by_cases hc0 : bo = true
  rotate_left
  · have HF := Lib.hid (show r = 100 from HPE.out 100 (fun e => by cases e) (fun _ => ⟨fun k => hc0 (HPP.out.1 k).1, rfl⟩))
    obtain rfl : bo = false := Bool.eq_false_iff.2 hc0
    clear HPE HPP
    go_wp2
    go_ret
    exact ⟨by rw [HF.out]; rfl, HPW.out ▸ HB7.out⟩
  have HC0 := Lib.hid hc0
  obtain rfl : bo = true := hc0
  by_cases hc1 : eo = true
  rotate_left
  · have HF := Lib.hid (show r = 100 from HPE.out 100 (fun e => by cases e) (fun _ => ⟨fun k => hc1 (HPP.out.1 k).2.1, rfl⟩))
    obtain rfl : eo = false := Bool.eq_false_iff.2 hc1
    clear HPE HPP
    go_wp2
    go_ret
    exact ⟨by rw [HF.out]; rfl, HPW.out ▸ HB7.out⟩
  have HC1 := Lib.hid hc1
  obtain rfl : eo = true := hc1
  by_cases hc2 : 256 ≤ bn
  rotate_left
  · have HF := Lib.hid (show r = 100 from HPE.out 100 (fun e => by cases e) (fun _ => ⟨fun k => hc2 (HPP.out.1 k).2.2.1, rfl⟩))
    have t2 : decide ((bn : Int) < 256) = true := decide_eq_true (by omega)
    have u2 : decide (bn < 256) = true := decide_eq_true (by omega)
    clear HPE HPP
    go_wp2
    go_ret
    exact ⟨by rw [HF.out]; rfl, HPW.out ▸ HB7.out⟩
  have HC2 := Lib.hid hc2
  have t2 : decide ((bn : Int) < 256) = false := decide_eq_false (by omega)
  have u2 : decide (bn < 256) = false := decide_eq_false (by omega)
  by_cases hc3 : bn ≤ 4096
  rotate_left
  · have HF := Lib.hid (show r = 100 from HPE.out 100 (fun e => by cases e) (fun _ => ⟨fun k => hc3 (HPP.out.1 k).2.2.2.1, rfl⟩))
    have t3 : decide ((4096 : Int) < (bn : Int)) = true := decide_eq_true (by omega)
    have u3 : decide (4096 < bn) = true := decide_eq_true (by omega)
    clear HPE HPP
    go_wp2
    go_ret
    exact ⟨by rw [HF.out]; rfl, HPW.out ▸ HB7.out⟩
  have HC3 := Lib.hid hc3
  have t3 : decide ((4096 : Int) < (bn : Int)) = false := decide_eq_false (by omega)
  have u3 : decide (4096 < bn) = false := decide_eq_false (by omega)
  by_cases hc4 : 2 ≤ be
  rotate_left
  · have HF := Lib.hid (show r = 100 from HPE.out 100 (fun e => by cases e) (fun _ => ⟨fun k => hc4 (HPP.out.1 k).2.2.2.2.1, rfl⟩))
    have t4 : decide ((be : Int) < 2) = true := decide_eq_true (by omega)
    have u4 : decide (be < 2) = true := decide_eq_true (by omega)
    clear HPE HPP
    go_wp2
    go_ret
    exact ⟨by rw [HF.out]; rfl, HPW.out ▸ HB7.out⟩
  have HC4 := Lib.hid hc4
  have t4 : decide ((be : Int) < 2) = false := decide_eq_false (by omega)
  have u4 : decide (be < 2) = false := decide_eq_false (by omega)
  by_cases hc5 : be ≤ 64
  rotate_left
  · have HF := Lib.hid (show r = 100 from HPE.out 100 (fun e => by cases e) (fun _ => ⟨fun k => hc5 (HPP.out.1 k).2.2.2.2.2.1, rfl⟩))
    have t5 : decide ((64 : Int) < (be : Int)) = true := decide_eq_true (by omega)
    have u5 : decide (64 < be) = true := decide_eq_true (by omega)
    clear HPE HPP
    go_wp2
    go_ret
    exact ⟨by rw [HF.out]; rfl, HPW.out ▸ HB7.out⟩
  have HC5 := Lib.hid hc5
  have t5 : decide ((64 : Int) < (be : Int)) = false := decide_eq_false (by omega)
  have u5 : decide (64 < be) = false := decide_eq_false (by omega)
  by_cases hc6 : tn = true
  rotate_left
  · have HF := Lib.hid (show r = 100 from HPE.out 100 (fun e => by cases e) (fun _ => ⟨fun k => hc6 (HPP.out.1 k).2.2.2.2.2.2.1, rfl⟩))
    obtain rfl : tn = false := Bool.eq_false_iff.2 hc6
    clear HPE HPP
    go_wp2
    go_ret
    exact ⟨by rw [HF.out]; rfl, HPW.out ▸ HB7.out⟩
  have HC6 := Lib.hid hc6
  obtain rfl : tn = true := hc6
  by_cases hc7 : te = true
  rotate_left
  · have HF := Lib.hid (show r = 100 from HPE.out 100 (fun e => by cases e) (fun _ => ⟨fun k => hc7 (HPP.out.1 k).2.2.2.2.2.2.2.1, rfl⟩))
    obtain rfl : te = false := Bool.eq_false_iff.2 hc7
    clear HPE HPP
    go_wp2
    go_ret
    exact ⟨by rw [HF.out]; rfl, HPW.out ▸ HB7.out⟩
  have HC7 := Lib.hid hc7
  obtain rfl : te = true := hc7
  by_cases hc8 : o = -1
  rotate_left
  · have HF := Lib.hid (show r = 100 from HPE.out 100 (fun e => by cases e) (fun _ => ⟨fun k => hc8 (HPP.out.1 k).2.2.2.2.2.2.2.2, rfl⟩))
    have t8 : decide ((0 : Int) ≤ o) = true := decide_eq_true (by omega)
    clear HPE HPP
    go_wp2
    go_ret
    exact ⟨by rw [HF.out]; rfl, HPW.out ▸ HB7.out⟩
  have HC8 := Lib.hid hc8
  have t8 : decide ((0 : Int) ≤ o) = false := decide_eq_false (by omega)
  have HF := Lib.hid (show r = 0 from HPE.out 0 (fun _ => HPP.out.2 ⟨HC0.out, HC1.out, HC2.out, HC3.out, HC4.out, HC5.out, HC6.out, HC7.out, HC8.out⟩) (fun e => absurd rfl e))
  clear HPE HPP
  go_wp2
  go_ret
  exact ⟨by rw [HF.out]; rfl, HPW.out ▸ HB7.out⟩
theorem nat32_nil (n : Nat) : (nat32 n).length = 0 ↔ n = 0 := by
  have h : (nat32 n).length ≤ 0 ↔ n < 1 := natB_length (by decide) n 0
  constructor
  · intro k
    have := h.1 (Nat.le_of_eq k)
    omega
  · intro k
    have := h.2 (by omega)
    omega
set_option maxHeartbeats 4000000 in
theorem rprivate_any (na : Option Addr) (nn nc : Nat) (N : List Nat) (ea : Option Addr) (en ec : Nat) (E : List Nat) (da : Option Addr) (dn dc : Nat) (D : List Nat) (w : World) (hN : Reads .u8 w na nn nc N) (bN : Byt N) (hE : Reads .u8 w ea en ec E) (bE : Byt E) (hD : Reads .u8 w da dn dc D) (bD : Byt D) (ln : nn ≤ 700) (le : en ≤ 700) (ld : dn ≤ 700) :
    Calls Try.prog 18 #[.agg #[.slice na nn nc, .slice ea en ec, .slice da dn dc]] w fun e w' => e = .returned (.int .i64 (privE N E D)) ∧ Below w.heap.size w w' := by
  obtain ⟨r, hr⟩ : ∃ r, privE N E D = r := ⟨_, rfl⟩
  rw [hr]
  have HRN := Lib.hid hN
  have HRE := Lib.hid hE
  have HRD := Lib.hid hD
  have HBN := Lib.hid bN
  have HBE := Lib.hid bE
  have HBD := Lib.hid bD
  have HSN := Lib.hid (key_small bN (by rw [hN.length]; exact ln))
  have HSD := Lib.hid (key_small bD (by rw [hD.length]; exact ld))
  have hba := (Below.refl w.heap.size w).alloc (Nat.le_refl _) (.cells #[.slice na nn nc, .slice ea en ec, .slice da dn dc] 24)
  have hq0 : (w.alloc (.cells #[.slice na nn nc, .slice ea en ec, .slice da dn dc] 24)).heap[w.heap.size]? = some (.cells #[.slice na nn nc, .slice ea en ec, .slice da dn dc] 24) := World.alloc_heap_new w _
  have HQ := Lib.hid hq0
  have HB := Lib.hid hba
  have HYes := Lib.hid (show PrivP N E D → r = 0 from fun h => by rw [← hr]; unfold privE; rw [if_pos h])
  have HNo := Lib.hid (show ¬ PrivP N E D → r = 100 from fun h => by rw [← hr]; unfold privE; rw [if_neg h])
  clear hN bN hE bE hD bD hba hq0 hr
  go_enter Try.func18, Try.ntmps18
  go_wp2_with fail
  generalize w.alloc (.cells #[.slice na nn nc, .slice ea en ec, .slice da dn dc] 24) = w0 at *
  obtain ⟨P, hP⟩ : ∃ P, w.heap.size = P := ⟨_, rfl⟩
  rw [hP] at HQ ⊢
  have HPW := Lib.hid hP
  clear hP
  obtain ⟨k0, k1, k2⟩ := key_cells HQ.out
  go_wp2_with fail
  refine (rpublic_any na nn nc N ea en ec E da dn dc w0 (HRN.out.below HB.out) HBN.out (HRE.out.below HB.out) HBE.out ln le).mono ?_
  rintro e w1 ⟨rfl, hb⟩
  have HQ1 := Lib.hid ((hb.block P (Array.getElem?_eq_some_iff.1 HQ.out).1).trans HQ.out)
  have HB1 := Lib.hid (HB.out.trans (hb.mono HB.out.size))
  clear k0 k1 k2 hb HQ HB
  by_cases hp : PubP N E
  rotate_left
  · have HF := Lib.hid (HNo.out fun k => hp k.1)
    have hpe : pubE N E = 100 := by unfold pubE; rw [if_neg hp]
    rw [hpe]
    clear hpe hp
    go_wp2
    go_ret
    exact ⟨by rw [HF.out]; rfl, HPW.out ▸ HB1.out⟩
  have hpe : pubE N E = 0 := by unfold pubE; rw [if_pos hp]
  rw [hpe]
  have HPP := Lib.hid hp
  clear hpe hp
  obtain ⟨k0, k1, k2⟩ := key_cells HQ1.out
  go_wp2_with fail
  refine (number_r na nn nc N w1 (HRN.out.below HB1.out) HBN.out ln).mono ?_
  rintro e w2 ⟨⟨v, rfl, hv⟩, hb⟩
  obtain ⟨a1, n1, c1, rfl, hn1, ho⟩ := num_slice hv HSN.out
  have HN1 := Lib.hid ho
  have HQ2 := Lib.hid ((hb.block P (Array.getElem?_eq_some_iff.1 HQ1.out).1).trans HQ1.out)
  have HB2 := Lib.hid (HB1.out.trans (hb.mono HB1.out.size))
  clear k0 k1 k2 hv ho hb HQ1 HB1
  obtain ⟨k0, k1, k2⟩ := key_cells HQ2.out
  go_wp2_with fail
  refine (number_r da dn dc D w2 (HRD.out.below HB2.out) HBD.out ld).mono ?_
  rintro e w3 ⟨⟨v, rfl, hv⟩, hb⟩
  obtain ⟨a2, n2, c2, rfl, hn2, ho⟩ := num_slice hv HSD.out
  have HN2 := Lib.hid ho.reads
  have HN1' := Lib.hid (HN1.out.below hb).reads
  have HB3 := Lib.hid (HB2.out.trans (hb.mono HB2.out.size))
  have HZ := Lib.hid (show n2 = 0 ↔ nV D = 0 by have h9 := ho.reads.length; rw [← nat32_nil (nV D), h9])
  clear k0 k1 k2 hv ho hb HQ2 HB2 HN1
  obtain ⟨o, hor⟩ : ∃ x, x = rf.ordR (nV D) (nV N) := ⟨_, rfl⟩
  obtain ⟨eo, heo⟩ : ∃ x, x = numOk D := ⟨_, rfl⟩
  rw [← heo]
  have hol : o = -1 ↔ nV D < nV N := by
    rw [hor]
    unfold rf.ordR
    by_cases h : nV D < nV N
    · rw [if_pos h]; exact ⟨fun _ => h, fun _ => rfl⟩
    · rw [if_neg h]; constructor
      · intro k; split at k <;> omega
      · intro k; exact absurd k h
  have ho3 : o = -1 ∨ o = 0 ∨ o = 1 := by
    rw [hor]
    unfold rf.ordR
    split
    · exact .inl rfl
    · split
      · exact .inr (.inr rfl)
      · exact .inr (.inl rfl)
  have HPV := Lib.hid (show PrivP N E D ↔ eo = true ∧ n2 ≠ 0 ∧ o = -1 from by
    rw [hol, heo, ne_eq, HZ.out]
    exact ⟨fun k => k.2, fun k => ⟨HPP.out, k⟩⟩)
  have HOo := Lib.hid (show o = rf.ordR (val32 (nat32 (nV D))) (val32 (nat32 (nV N))) by rw [val_nat, val_nat]; exact hor)
  clear hor heo hol
  go_wp2_with fail
  refine (rf.cmp_any a2 a1 n2 c2 n1 c1 _ _ _ HN2.out HN1'.out (lim_nat _) (lim_nat _) (by omega) (by omega) o HOo.out).mono ?_
  rintro e w4 ⟨rfl, hb⟩
  have HB4 := Lib.hid (HB3.out.trans (hb.mono HB3.out.size))
  clear hb HN1' HN2
  by_cases hc0 : eo = true
  rotate_left
  · have HF := Lib.hid (HNo.out fun k => hc0 (HPV.out.1 k).1)
    obtain rfl : eo = false := Bool.eq_false_iff.2 hc0
    clear hc0
    go_wp2
    go_ret
    exact ⟨by rw [HF.out]; rfl, HPW.out ▸ HB4.out⟩
  subst hc0
  by_cases hc1 : n2 = 0
  · have HF := Lib.hid (HNo.out fun k => (HPV.out.1 k).2.1 hc1)
    have t1 : ((n2 : Int) == 0) = true := by simp; omega
    clear hc1
    go_wp2
    go_ret
    exact ⟨by rw [HF.out]; rfl, HPW.out ▸ HB4.out⟩
  have t1 : ((n2 : Int) == 0) = false := by simp; omega
  by_cases hc2 : o = -1
  rotate_left
  · have HF := Lib.hid (HNo.out fun k => hc2 (HPV.out.1 k).2.2)
    have t2 : decide ((0 : Int) ≤ o) = true := decide_eq_true (by omega)
    clear hc1 hc2
    go_wp2
    go_ret
    exact ⟨by rw [HF.out]; rfl, HPW.out ▸ HB4.out⟩
  have HF := Lib.hid (HYes.out (HPV.out.2 ⟨rfl, hc1, hc2⟩))
  have t2 : decide ((0 : Int) ≤ o) = false := decide_eq_false (by omega)
  clear hc1 hc2
  go_wp2
  go_ret
  exact ⟨by rw [HF.out]; rfl, HPW.out ▸ HB4.out⟩
end Go.Proofs.Ytpefjkndfifceaa
namespace Go.Proofs.Ytpefjkndfifceaa
open Go.RowKit
def KpR (R : Nat → Prop) (W W' : World) : Prop := W.heap.size ≤ W'.heap.size ∧ ∀ (k : Nat), R k → W'.heap[k]? = W.heap[k]?
theorem KpR.refl (R : Nat → Prop) (W : World) : KpR R W W := ⟨Nat.le_refl _, fun _ _ => rfl⟩
theorem KpR.trans {R : Nat → Prop} {X Y Z : World} (h : KpR R X Y) (k : KpR R Y Z) : KpR R X Z := ⟨Nat.le_trans h.1 k.1, fun i hi => (k.2 i hi).trans (h.2 i hi)⟩
theorem KpR.grown {R : Nat → Prop} {W W' : World} {row : Option Nat} (hg : W.grownBy W' row) (hlt : ∀ k, R k → k < W.heap.size) (hr : ∀ r, row = some r → ¬ R r) : KpR R W W' :=
  ⟨hg.size, fun k hk => hg.block k (hlt k hk) fun e => hr k e.symm hk⟩
theorem KpR.put {R : Nat → Prop} (W : World) (l : Nat) (o : Obj) (hl : ¬ R l) : KpR R W (W.putObj l o) :=
  ⟨(grownBy_putObj' W l o).size, fun k hk => World.putObj_heap_other fun e => hl (e ▸ hk)⟩
def SeqR {α : Type} (R : Nat → Prop) (F : Fence) (n : Nat) (P : Program) (g : Nat) (lb : Array Value) (encs : α → Array Value) (S Sp : List α → Prop) (w : World) : Prop :=
  ∀ (l : Nat) (J Jx : List α → World → Prop) (W : World), Below w.heap.size w W → (∀ s X X' row, J s X → X.grownBy X' row → (∀ r, row = some r → R r) → J s X') →
    (∀ s X X' row, Jx s X → X.grownBy X' row → (∀ r, row = some r → R r) → Jx s X') →
    (∀ pre x X, J pre X → YieldAt F (n - 1) P l (encs x) X fun e X' => (e = .returned (.bool true) ∧ J (pre ++ [x]) X' ∧ KpR R X X') ∨ (e = .returned (.bool false) ∧ Jx (pre ++ [x]) X')) →
    J [] W → CallsIn F n P g (#[.func (.yield l) #[] #[]] ++ lb) W fun e X => (∃ v, e = .returned v) ∧ ((∃ xs, S xs ∧ J xs X) ∨ ∃ pre, Sp pre ∧ Jx pre X)
def StaysR {β : Type} (R : Nat → Prop) (B : Nat) (J : β → World → Prop) : Prop := ∀ s W W' row, J s W → W.grownBy W' row → (∀ r, row = some r → R r ∨ B ≤ r ∧ ∃ o : Obj, W.heap[r]? = some o ∧ o.isCells = false) → J s W'
end Go.Proofs.Ytpefjkndfifceaa
namespace Go.Proofs.Ytpefjkndfifceaa
open Go.RowKit
def SeqW {α : Type} (R V : Nat → Prop) (F : Fence) (n : Nat) (P : Program) (g : Nat) (lb : Array Value) (encs : α → Array Value) (S Sp : List α → Prop) (N : Nat) (w : World) : Prop :=
  ∀ (l : Nat) (J Jx : List α → World → Prop) (W : World), Below w.heap.size w W → (∀ s X X' row, J s X → X.grownBy X' row → (∀ r, row = some r → V r) → J s X') →
    (∀ s X X' row, Jx s X → X.grownBy X' row → (∀ r, row = some r → V r) → Jx s X') →
    (∀ pre x X, pre.length < N → J pre X → YieldAt F (n - 1) P l (encs x) X fun e X' => (e = .returned (.bool true) ∧ J (pre ++ [x]) X' ∧ KpR R X X') ∨ (e = .returned (.bool false) ∧ Jx (pre ++ [x]) X')) →
    J [] W → CallsIn F n P g (#[.func (.yield l) #[] #[]] ++ lb) W fun e X => (∃ v, e = .returned v) ∧ ((∃ xs, S xs ∧ J xs X) ∨ ∃ pre, Sp pre ∧ Jx pre X)
end Go.Proofs.Ytpefjkndfifceaa
namespace Go.Proofs.Ytpefjkndfifceaa
open Go.RowKit
def KpV (E : Nat → Prop) (W W' : World) : Prop := W.heap.size ≤ W'.heap.size ∧ ∀ (k : Nat), k < W.heap.size → ¬ E k → W'.heap[k]? = W.heap[k]?
theorem KpV.refl (E : Nat → Prop) (W : World) : KpV E W W := ⟨Nat.le_refl _, fun _ _ _ => rfl⟩
theorem KpV.trans {E : Nat → Prop} {X Y Z : World} (h : KpV E X Y) (k : KpV E Y Z) : KpV E X Z := ⟨Nat.le_trans h.1 k.1, fun i hi he => (k.2 i (Nat.lt_of_lt_of_le hi h.1) he).trans (h.2 i hi he)⟩
theorem KpV.mono {E E' : Nat → Prop} {X Y : World} (h : KpV E X Y) (hE : ∀ k, E k → E' k) : KpV E' X Y := ⟨h.1, fun i hi he => h.2 i hi fun k => he (hE i k)⟩
theorem KpV.grown {E : Nat → Prop} {W W' : World} {row : Option Nat} (hg : W.grownBy W' row) (hr : ∀ r, row = some r → E r) : KpV E W W' :=
  ⟨hg.size, fun k hk he => hg.block k hk fun e => he (hr k e.symm)⟩
theorem KpV.put {E : Nat → Prop} (W : World) (l : Nat) (o : Obj) (hl : E l) : KpV E W (W.putObj l o) :=
  ⟨(grownBy_putObj' W l o).size, fun k _ he => World.putObj_heap_other fun e => he (e ▸ hl)⟩
def SeqV {α : Type} (V E : Nat → Prop) (F : Fence) (n : Nat) (P : Program) (g : Nat) (lb : Array Value) (encs : α → Array Value) (G : α → Prop) (S Sp : List α → Prop) (T : World → Prop) (w : World) : Prop :=
  ∀ (l : Nat) (J Jx : List α → World → Prop) (W : World), w.heap.size ≤ l → l < W.heap.size → Below w.heap.size w W → (∀ s X X' row, J s X → X.grownBy X' row → (∀ r, row = some r → V r) → J s X') →
    (∀ s X X' row, Jx s X → X.grownBy X' row → (∀ r, row = some r → V r) → Jx s X') →
    (∀ pre x X, J pre X → YieldAt F (n - 1) P l (encs x) X fun e X' => (e = .returned (.bool true) ∧ G x ∧ J (pre ++ [x]) X' ∧ KpV (fun k => k = l ∨ E k) X X') ∨ (e = .returned (.bool false) ∧ Jx (pre ++ [x]) X')) →
    J [] W → CallsIn F n P g (#[.func (.yield l) #[] #[]] ++ lb) W fun e X => (∃ v, e = .returned v) ∧ ((∃ xs, S xs ∧ J xs X ∧ T X) ∨ ∃ pre, Sp pre ∧ Jx pre X)
set_option maxHeartbeats 1000000 in
theorem wpIn_rangeV {α : Type} {F : Fence} {n : Nat} {P : Program} {V E : Nat → Prop} {g : Operand} {ps : Array Tmp} {assign body : Code} {Q : Exit → Act → World → Prop} {a : Act} {w : World}
    (hro : F.round = none) (h1 : 1 ≤ n) {gf : Nat} {lb : Array Value} (hg : a.eval g = .func (.func gf) #[] lb) (hFg : F.fn gf) (eg : ∀ args w, (callFunc gf args).run P w = .ok (.enter gf args) w)
    {encs : α → Array Value} {G : α → Prop} {S Sp : List α → Prop} {T : World → Prop} {w0 : World} (hseq : SeqV V E F (n - 1) P gf lb encs G S Sp T w0) (hVl : ∀ k, V k → k < w.heap.size) (hb0 : Below w0.heap.size w0 w) (hps : ∀ x, (encs x).size = ps.size)
    (I : List α → World → Prop) (Ix : Code → List α → World → Prop) (hI : StaysR V w.heap.size I) (hIx : ∀ c, StaysR V w.heap.size (Ix c)) (hG : ∀ pre x X, I (pre ++ [x]) X → G x) (hT : StaysR (fun _ => False) w.heap.size (fun (_ : Unit) => T)) (h0 : I [] w) (a₁ : α → Act)
    (hassign : ∀ (l : Nat) (x : α) (W : World) (K : Act → World → Prop), K (a₁ x) W →
      assign.wpIn (F.inRound l) (n - 1 - 1) P (Exit.then K (fun _ _ _ => False)) { tmps := (ps.zip (encs x)).foldl (fun t (p, v) => t.setIfInBounds p v) a.tmps, defers := [] } W)
    (hbody : ∀ (l : Nat) (pre : List α) (x : α) (W : World), I pre W → body.wpIn (F.inRound l) (n - 1 - 1) P (ownPostG w.heap.size (KpV E) I Ix (pre ++ [x]) W) (a₁ x) W)
    (hdone : ∀ (D : Nat) (xs : List α) (W : World), w.heap.size ≤ D → S xs → I xs W → T W → W.heap[D]? = some (.deferred (some [])) → Q .normal { a with defers := { target := .collected D, args := #[] } :: a.defers } W)
    (hstop : ∀ (D : Nat) (c : Code) (pre : List α) (W : World), w.heap.size ≤ D → Sp pre → Ix c pre W → W.heap[D]? = some (.deferred (some [])) → c.wpIn F n P Q { a with defers := { target := .collected D, args := #[] } :: a.defers } W) :
    (Code.rangeFunc g ps assign body).wpIn F n P Q a w := by
  refine wpIn_rangeFunc fun fn hfn => ?_
  rw [hro]
  generalize hB : w.heap.size = B at *
  obtain ⟨rc, hrc⟩ : ∃ rc : LoopState → Option Code → Loop, rc = fun st pe => { state := st, pending := pe, fn, tmps := a.tmps, params := ps, assign, body, defers := B } := ⟨_, rfl⟩
  obtain ⟨W1, hW1⟩ : ∃ W1, (w.alloc (.deferred (some []))).alloc (.loop (rc .ready none)) = W1 := ⟨_, rfl⟩
  have bel1 : Below B w W1 := by rw [← hW1]; exact ((Below.refl _ w).alloc (Nat.le_of_eq hB.symm) _).alloc (by simp; omega) _
  have hD1 : W1.heap[B]? = some (.deferred (some [])) := by
    rw [← hW1]
    refine (Below.heap_alloc _ _ _ (by simp; omega)).trans ?_
    have := World.alloc_heap_new w (.deferred (some []))
    rwa [hB] at this
  have hL1 : W1.heap[B + 1]? = some (.loop (rc .ready none)) := by
    have := World.alloc_heap_new (w.alloc (.deferred (some []))) (.loop (rc .ready none))
    rwa [World.size_alloc, hB, hW1] at this
  have hz1 : W1.heap.size = B + 2 := by rw [← hW1]; simp; omega
  have hi1 : I [] W1 := by
    rw [← hW1]
    exact hI _ _ _ none (hI _ _ _ none h0 (World.grownBy_alloc w _ none) (fun r e => by cases e)) (World.grownBy_alloc _ _ none) (fun r e => by cases e)
  have put : ∀ {G : List α → World → Prop} (_ : StaysR V B G) {s : List α} {W : World} {r : Loop} (o : Obj), G s W → W.heap[B + 1]? = some (.loop r) → G s (W.putObj (B + 1) o) := fun hG s W r o hs hl =>
    hG s W _ (some (B + 1)) hs (grownBy_putObj' W (B + 1) o) (fun k e => by cases e; exact .inr ⟨by omega, _, hl, rfl⟩)
  refine ⟨B + 1, [{ target := .collected B, args := #[] }], W1, { target := .fn (.func gf) lb, args := #[.func (.yield (B + 1)) #[] #[]] }, W1, gf, #[.func (.yield (B + 1)) #[] #[]] ++ lb, W1, ?_, by simp only [resolve, hg]; simp [go_sem], ?_, by simp [invoke, go_sem, eg], fun _ => h1, ?_⟩
  · rw [← hW1, hrc, ← hB]
    exact run_enterLoop_outer _ _ _ _ _
  · intro f' hf'
    simp [Target.leads] at hf'
    subst hf'
    exact hFg
  have stay : ∀ {G : List α → World → Prop} (_ : StaysR V B G) (ro : Loop) (s : List α) (X X' : World) (row : Option Nat), (G s X ∧ X.heap[B + 1]? = some (.loop ro) ∧ X.heap[B]? = some (.deferred (some []))) → X.grownBy X' row → (∀ r, row = some r → V r) → G s X' ∧ X'.heap[B + 1]? = some (.loop ro) ∧ X'.heap[B]? = some (.deferred (some [])) := fun hG ro s X X' row h hgr hr =>
    ⟨hG s X X' row h.1 hgr (fun r e => .inl (hr r e)), (hgr.block _ (Array.getElem?_eq_some_iff.1 h.2.1).1 (fun e => by have := hVl _ (hr _ e.symm); omega)).trans h.2.1, (hgr.block _ (Array.getElem?_eq_some_iff.1 h.2.2).1 (fun e => by have := hVl _ (hr _ e.symm); omega)).trans h.2.2⟩
  refine (hseq (B + 1) (fun s X => I s X ∧ X.heap[B + 1]? = some (.loop (rc .ready none)) ∧ X.heap[B]? = some (.deferred (some [])))
    (fun s X => ∃ c, Ix c s X ∧ X.heap[B + 1]? = some (.loop (rc .done (some c))) ∧ X.heap[B]? = some (.deferred (some []))) W1 (by have := hb0.size; omega) (by omega) (hb0.trans (bel1.mono (by rw [← hB]; exact hb0.size)))
    (fun s X X' row h hgr hr => stay hI _ s X X' row h hgr hr) (fun s X X' row ⟨c, h⟩ hgr hr => ⟨c, stay (hIx c) _ s X X' row h hgr hr⟩) ?_ ⟨hi1, hL1, hD1⟩).mono ?_
  · rintro pre x X ⟨hi, hl, hd⟩
    have hlt : B + 1 < X.heap.size := (Array.getElem?_eq_some_iff.1 hl).1
    have hy := run_yield (P := P) (args := encs x) hl (by rw [hrc]; exact hps x)
    rw [hrc] at hy
    refine ⟨fn, _, assign, body, hy, roundIn_of_wpIn hfn (hassign _ x X _ ⟨_, run_beginRound hl (by rw [hrc]), wpIn_mono (hbody _ pre x _ (put hI _ hi hl)) ?_⟩)⟩
    obtain ⟨X2, hX2⟩ : ∃ X2, X.putObj (B + 1) (.loop { rc .ready none with state := .busy }) = X2 := ⟨_, rfl⟩
    rw [hX2]
    have hl2 : X2.heap[B + 1]? = some (.loop { rc .ready none with state := .busy }) := by rw [← hX2]; exact World.putObj_heap_same hlt
    have hd2 : X2.heap[B]? = some (.deferred (some [])) := by rw [← hX2]; exact (World.putObj_heap_other (by omega)).trans hd
    have kp2 : KpV (fun k => k = B + 1 ∨ E k) X X2 := by rw [← hX2]; exact KpV.put X _ _ (.inl rfl)
    have last : ∀ (j : Option Code) (X3 : World), KeepsFrom B X2 X3 → (Instr.endRound (B + 1) j).run P X3 = .ok (.bool j.isNone) (X3.putObj (B + 1) (.loop (rc (if j.isNone then .ready else .done) j))) ∧ X3.heap[B + 1]? = some (.loop { rc .ready none with state := .busy }) ∧ (X3.putObj (B + 1) (.loop (rc (if j.isNone then .ready else .done) j))).heap[B + 1]? = some (.loop (rc (if j.isNone then .ready else .done) j)) ∧ (X3.putObj (B + 1) (.loop (rc (if j.isNone then .ready else .done) j))).heap[B]? = some (.deferred (some [])) := fun j X3 hk => by
      have hl3 := hk.same _ _ (by omega) hl2 rfl
      have hr := run_endRound (P := P) j hl3
      rw [hrc] at hr hl3 ⊢
      exact ⟨hr, hl3, World.putObj_heap_same (Array.getElem?_eq_some_iff.1 hl3).1, (World.putObj_heap_other (by omega)).trans (hk.same _ _ (Nat.le_refl _) hd2 rfl)⟩
    rintro e a3 X3 hp
    cases e with
    | normal =>
      obtain ⟨hk, kp3, hi3⟩ := hp
      obtain ⟨hr, hl3, hl4, hd4⟩ := last none X3 hk
      exact ⟨_, _, hr, .inl ⟨rfl, hG _ _ _ hi3, ⟨put hI _ hi3 hl3, hl4, hd4⟩, (kp2.trans (kp3.mono fun _ h => .inr h)).trans (KpV.put X3 _ _ (.inl rfl))⟩⟩
    | ret =>
      obtain ⟨hr, hl3, hl4, hd4⟩ := last (some .ret) X3 hp.1
      exact ⟨_, _, hr, .inr ⟨rfl, .ret, put (hIx _) _ hp.2 hl3, hl4, hd4⟩⟩
    | exit id =>
      obtain ⟨hr, hl3, hl4, hd4⟩ := last (some (.exit id)) X3 hp.1
      exact ⟨_, _, hr, .inr ⟨rfl, .exit id, put (hIx _) _ hp.2 hl3, hl4, hd4⟩⟩
    | goto t =>
      obtain ⟨hr, hl3, hl4, hd4⟩ := last (some (.goto t)) X3 hp.1
      exact ⟨_, _, hr, .inr ⟨rfl, .goto t, put (hIx _) _ hp.2 hl3, hl4, hd4⟩⟩
    | panic ch => exact hp.elim
    | outgrown => exact hp.elim
  · rintro e X2 ⟨⟨v, rfl⟩, (⟨xs, hS, ⟨hi, hl, hd⟩, ht⟩ | ⟨pre, hSp, c, hi, hl, hd⟩)⟩
    · refine ⟨none, X2.putObj (B + 1) (.loop { rc .ready none with state := .exhausted }), ?_, hdone _ xs _ (Nat.le_refl _) hS (put hI _ hi hl) (hT () _ _ (some (B + 1)) ht (grownBy_putObj' X2 (B + 1) _) (fun k e => by cases e; exact .inr ⟨by omega, _, hl, rfl⟩)) ((World.putObj_heap_other (by omega)).trans hd)⟩
      have := run_endLoop (P := P) hl (by rw [hrc]; simp)
      rw [hrc] at this ⊢
      exact this
    · refine ⟨some c, X2.putObj (B + 1) (.loop { rc .done (some c) with state := .exhausted }), ?_, hstop _ c pre _ (Nat.le_refl _) hSp (put (hIx c) _ hi hl) ((World.putObj_heap_other (by omega)).trans hd)⟩
      have := run_endLoop (P := P) hl (by rw [hrc]; simp)
      rw [hrc] at this ⊢
      exact this
end Go.Proofs.Ytpefjkndfifceaa
namespace Go.Proofs.Ytpefjkndfifceaa
open Go.RowKit
set_option maxRecDepth 100000
attribute [local go_sem] Oper.semAt_some
def encH (x : Bool) : Array Value := #[.bool x]
def HldI (w : World) (pre : List Bool) (W : World) : Prop := Boxed W w.heap.size 4 (.bool true) ∧ (∀ x ∈ pre, x = true) ∧ w.heap.size < W.heap.size ∧ Below w.heap.size w W
def HldX (w : World) (c : Code) (pre : List Bool) (W : World) : Prop := c = .exit 0 ∧ Boxed W w.heap.size 4 (.bool false) ∧ (∃ x ∈ pre, x = false) ∧ Below w.heap.size w W
theorem HldI.st {w : World} {pre : List Bool} {W W' : World} {row : Option Nat} (h : HldI w pre W) (hg : W.grownBy W' row) (hr : ∀ r, row = some r → w.heap.size + 1 ≤ r) : HldI w pre W' := by
  obtain ⟨h1, h3, h4, h5⟩ := h
  exact ⟨h1.kept hg fun e => by (have := hr _ e.symm; omega), h3, Nat.lt_of_lt_of_le h4 hg.size, h5.grown hg h5.size fun r e => by have := hr r e; omega⟩
theorem HldX.st {w : World} {c : Code} {pre : List Bool} {W W' : World} {row : Option Nat} (h : HldX w c pre W) (hg : W.grownBy W' row) (hr : ∀ r, row = some r → w.heap.size + 1 ≤ r) : HldX w c pre W' := by
  obtain ⟨h0, h1, h3, h5⟩ := h
  exact ⟨h0, h1.kept hg fun e => by (have := hr _ e.symm; omega), h3, h5.grown hg h5.size fun r e => by have := hr r e; omega⟩
set_option maxHeartbeats 2000000 in
theorem hold_any (gf : Nat) (lb : Array Value) (L : List Bool) (w : World) (eg : ∀ args w, (callFunc gf args).run Try.prog w = .ok (.enter gf args) w)
    (hseq : ∀ W, Below w.heap.size w W → SeqV (fun _ => False) (fun _ => False) Fence.wide (3 - 1) Try.prog gf lb encH (fun x => x = true) (fun xs => xs = L) (fun pre => ∃ r, pre ++ r = L) (fun _ => True) W) :
    Calls Try.prog 36 #[.func (.func gf) #[] lb] w fun e w' => e = .returned (.bool (L.all id)) ∧ Below w.heap.size w w' := by
  refine (callsIn_wide (n := 3)).1 ?_
  refine callsIn_of_wp_marks Try.func36 rfl trivial ?_ rfl
  simp only [Try.ntmps36, List.size_toArray, List.length_cons, List.length_nil, Nat.reduceAdd, Nat.reduceSub, Array.replicate_succ, Array.replicate_zero, List.push_toArray, List.append_toArray, List.nil_append, List.cons_append]
  gi_wp2_with fail
  refine wpIn_wide.2 (wp_scope_straight ((wpIn_wide (n := 3)).1 ?_))
  gi_wp2_with fail
  refine wpIn_label ?_
  gi_wp2_with fail
  have hB0 := (Below.refl w.heap.size w).alloc (Nat.le_refl _) (.cells #[.bool true] 4)
  have HS := Lib.hid (hseq _ hB0)
  have hx0 : (w.alloc (.cells #[.bool true] 4)).heap[w.heap.size]? = some (.cells #[.bool true] 4) := World.alloc_heap_new w _
  have hz0 : (w.alloc (.cells #[.bool true] 4)).heap.size = w.heap.size + 1 := World.size_alloc _ _
  have HX0 := Lib.hid hx0
  have HB0 := Lib.hid hB0
  clear hx0 hB0 hseq
  generalize w.alloc (.cells #[.bool true] 4) = W0 at *
  refine wpIn_rangeV (F := Fence.wide) rfl (show 1 ≤ 3 by decide) (gf := gf) (lb := lb) rfl trivial eg HS.out
    (fun k hk => hk.elim) (Below.refl _ _) (fun _ => rfl)
    (fun pre W => HldI w pre W) (fun c pre W => HldX w c pre W)
    (fun s X X' row h hg hr => h.st hg (fun r e => by rcases hr r e with h | ⟨h, h2⟩ <;> first | exact h.elim | omega))
    (fun c s X X' row h hg hr => h.st hg (fun r e => by rcases hr r e with h | ⟨h, h2⟩ <;> first | exact h.elim | omega))
    (fun pre x X h => h.2.1 x (by simp)) (fun s X X' row h hg hr => trivial)
    ⟨HX0.out, (fun x hx => by cases hx), by omega, HB0.out⟩ ?_ ?_ ?_ ?_ ?_
  rotate_left 1
  · intro lp x W K hK
    dsimp only [encH]
    gi_wp2
    exact hK
  · rintro lp pre x W ⟨bW, hall, hlt, hB⟩
    have cW := bW.cell
    have fW := bW.frozen
    have BW := Lib.hid bW
    have HB := Lib.hid hB
    have HALL := Lib.hid hall
    clear bW hall hB
    cases x with
    | false =>
      gi_wp2
      exact ⟨(KeepsOthers.setCell W ⟨w.heap.size, 0, none⟩ _).from W0.heap.size, rfl, BW.out.set _, ⟨false, by simp, rfl⟩, HB.out.setCell (p := ⟨w.heap.size, 0, none⟩) (Nat.le_refl _) _⟩
    | true =>
      gi_wp2
      refine ⟨KeepsFrom.refl _ _, KpV.refl _ _, BW.out, ?_, hlt, HB.out⟩
      intro y hy
      rcases List.mem_append.1 hy with h | h
      · exact HALL.out y h
      · exact List.mem_singleton.1 h
  · rintro D xs W hD rfl ⟨bW, hall, hlt, hB⟩ hT hK
    have hL : xs.all id = true := List.all_eq_true.2 (fun x hx => hall x hx)
    have cW := bW.cell
    have HL := Lib.hid hL
    have HK := Lib.hid hK
    have HB := Lib.hid hB
    clear hL hK hB hall
    gi_wp2_with fail
    rw [Exit.noGoto_ret]
    refine ⟨by simp, .inl ⟨_, _, rfl, run_takeDeferred HK.out, ?_⟩⟩
    refine ⟨.bool true, ?_, by rw [HL.out], ?_⟩
    · rw [results_tmp rfl]
      go_simp
    · exact HB.out.grown (grownBy_putObj' W D _) HB.out.size (fun r e => by cases e; omega)
  · rintro D c pre W hD ⟨r, hr⟩ ⟨rfl, bW, ⟨x, hx, hx2⟩, hB⟩ hK
    have hL : L.all id = false := by
      rw [Bool.eq_false_iff]
      intro e
      have := List.all_eq_true.1 e x (by rw [← hr]; exact List.mem_append_left _ hx)
      rw [hx2] at this
      cases this
    have cW := bW.cell
    have HL := Lib.hid hL
    have HK := Lib.hid hK
    have HB := Lib.hid hB
    clear hL hr hx hK hB
    gi_wp2_with fail
    rw [Exit.noGoto_ret]
    refine ⟨by simp, .inl ⟨_, _, rfl, run_takeDeferred HK.out, ?_⟩⟩
    refine ⟨.bool false, ?_, by rw [HL.out], ?_⟩
    · rw [results_tmp rfl]
      go_simp
    · exact HB.out.grown (grownBy_putObj' W D _) HB.out.size (fun r e => by cases e; omega)
end Go.Proofs.Ytpefjkndfifceaa
namespace Go.Proofs.Ytpefjkndfifceaa
open Go.RowKit
set_option maxRecDepth 100000
theorem publicly_m (x y z : Value) (w : World) (hx : ∃ a n c, x = .slice a n c) (hy : ∃ a n c, y = .slice a n c) (hz : ∃ a n c, z = .slice a n c) :
    Calls Try.prog 37 #[.agg #[x, y, z]] w fun e w' => e = .returned (.func (.func 55) #[] #[.pointer (some ⟨w.heap.size, 0, none⟩)]) ∧ w' = w.alloc (.cells #[x, y, z] 24) := by
  obtain ⟨a1, n1, c1, rfl⟩ := hx
  obtain ⟨a2, n2, c2, rfl⟩ := hy
  obtain ⟨a3, n3, c3, rfl⟩ := hz
  go_enter Try.func37, Try.ntmps37
  go_wp2
  go_ret
  exact ⟨rfl, rfl⟩
theorem privately_m (x y z : Value) (w : World) (hx : ∃ a n c, x = .slice a n c) (hy : ∃ a n c, y = .slice a n c) (hz : ∃ a n c, z = .slice a n c) :
    Calls Try.prog 54 #[.agg #[x, y, z]] w fun e w' => e = .returned (.func (.func 77) #[] #[.pointer (some ⟨w.heap.size, 0, none⟩)]) ∧ w' = w.alloc (.cells #[x, y, z] 24) := by
  obtain ⟨a1, n1, c1, rfl⟩ := hx
  obtain ⟨a2, n2, c2, rfl⟩ := hy
  obtain ⟨a3, n3, c3, rfl⟩ := hz
  go_enter Try.func54, Try.ntmps54
  go_wp2
  go_ret
  exact ⟨rfl, rfl⟩
def pubL (N E : List Nat) : List Bool := [numOk N, (numV N).testBit 0, decide (256 ≤ bitsN (numV N)) && decide (bitsN (numV N) ≤ 4096), numOk E, (numV E).testBit 0, decide (bitsN (numV E) ≤ 64), decide (3 ≤ numV E)]
def privL (N D : List Nat) : List Bool := [numOk D, decide (0 < bitsN (numV D)), decide (numV D < numV N)]
theorem pubL_iff (N E : List Nat) : (pubL N E).all id = true ↔ PubP N E := by
  have hz : bitsN 0 = 0 := by have := (bitsN_le 0 0).2 (by decide); omega
  have two : ∀ n, 2 ≤ bitsN n ↔ 2 ≤ n := fun n => by
    have h := bitsN_le n 1
    rw [Nat.pow_one] at h
    omega
  have odd : ∀ n : Nat, n.testBit 0 = true ↔ n % 2 = 1 := fun n => by rw [Nat.testBit_zero, decide_eq_true_iff]
  simp only [pubL, List.all_cons, List.all_nil, id, Bool.and_true, Bool.and_eq_true, decide_eq_true_eq]
  unfold PubP
  constructor
  · rintro ⟨h1, h2, ⟨h3, h4⟩, h5, h6, h7, h8⟩
    have e1 : numV N = nV N := by unfold numV; rw [if_pos h1]
    have e2 : numV E = nV E := by unfold numV; rw [if_pos h5]
    rw [e1] at h2 h3 h4
    rw [e2] at h6 h7 h8
    refine ⟨h1, h5, h3, h4, (two _).2 (by omega), h7, h2, h6, ?_⟩
    have hlt : nV E < 2 ^ 64 := (bitsN_le _ 64).1 h7
    by_cases h : nV N < 2 ^ 64
    · have := (bitsN_le _ 64).2 h; omega
    · omega
  · rintro ⟨h1, h5, h3, h4, h9, h7, h2, h6, -⟩
    have e1 : numV N = nV N := by unfold numV; rw [if_pos h1]
    have e2 : numV E = nV E := by unfold numV; rw [if_pos h5]
    rw [e1, e2]
    refine ⟨h1, h2, ⟨h3, h4⟩, h5, h6, h7, ?_⟩
    have := (two _).1 h9
    have := (odd _).1 h6
    omega
theorem privL_iff (N E D : List Nat) (hp : PubP N E) : (privL N D).all id = true ↔ PrivP N E D := by
  have pos : ∀ n, 0 < bitsN n ↔ n ≠ 0 := fun n => by
    have h := bitsN_le n 0
    rw [Nat.pow_zero] at h
    omega
  have e1 : numV N = nV N := by unfold numV; rw [if_pos hp.1]
  simp only [privL, List.all_cons, List.all_nil, id, Bool.and_true, Bool.and_eq_true, decide_eq_true_eq]
  unfold PrivP
  constructor
  · rintro ⟨h1, h2, h3⟩
    have e2 : numV D = nV D := by unfold numV; rw [if_pos h1]
    rw [e2] at h2 h3
    rw [e1] at h3
    exact ⟨hp, h1, (pos _).1 h2, h3⟩
  · rintro ⟨-, h1, h2, h3⟩
    have e2 : numV D = nV D := by unfold numV; rw [if_pos h1]
    rw [e2, e1]
    exact ⟨h1, (pos _).2 h2, h3⟩
end Go.Proofs.Ytpefjkndfifceaa
namespace Go.Proofs.Ytpefjkndfifceaa
open Go.RowKit
set_option maxRecDepth 100000
theorem grown_belowR {W X : World} (h : Below W.heap.size W X) (row : Option Nat) : W.grownBy X row := by
  exact ⟨h.1, h.2, h.3, h.size, fun k hk _ => h.block k hk⟩
theorem OwnQ.kpR {q : IntKind} {E B : Nat} {w X : World} {v : Value} {l : List Nat} {Ex : Nat → Prop} (h : OwnQ q E B w v l) (hk : KpV Ex w X) (hn : ∀ g, v.ownBlock = some g → ¬ Ex g) : OwnQ q E B X v l := by
  obtain ⟨h1, h2⟩ := h
  refine ⟨h1, ?_⟩
  rcases h2 with h2 | ⟨g, cap, cur, rfl, hB, hg, rest⟩
  · exact .inl h2
  · exact .inr ⟨g, cap, cur, rfl, hB, by rw [hk.2 g (Array.getElem?_eq_some_iff.1 hg).1 (hn g (by simp [Value.ownBlock]))]; exact hg, rest⟩
theorem wpListIn_pass {n : Nat} {P : Program} {ops : Array Oper} {Q : Exit → Act → World → Prop} {o : Oper} {rest : List Oper} {a : Act} {w : World} (hw : Region.wanted o (yielded ops a.tmps) = false) (h : wpListIn Fence.wide n P ops Q rest (a.put o.dst undef) w) : wpListIn Fence.wide n P ops Q (o :: rest) a w := by
  simp only [wpListIn, hw]
  exact ⟨fun _ _ => trivial, h⟩
theorem numV_small {l : List Nat} (hb : Byt l) (h : l.length ≤ 700) : numV l < topN := by
  unfold numV
  split
  · exact key_small hb h
  · exact topN_pos
set_option maxHeartbeats 4000000 in
theorem privately_comes (na : Option Addr) (nn nc : Nat) (N : List Nat) (x1 : Value) (da : Option Addr) (dn dc : Nat) (D : List Nat) (bk : Nat) (w : World) (hq : w.heap[bk]? = some (.cells #[.slice na nn nc, x1, .slice da dn dc] 24)) (hN : Reads .u8 w na nn nc N) (bN : Byt N) (hD : Reads .u8 w da dn dc D) (bD : Byt D) (ln : nn ≤ 700) (ld : dn ≤ 700) :
    SeqV (fun _ => False) (fun _ => False) Fence.wide (3 - 1) Try.prog 77 #[.pointer (some ⟨bk, 0, none⟩)] encH (fun x => x = true) (fun xs => xs = privL N D) (fun pre => ∃ r, pre ++ r = privL N D) (fun _ => True) w := fun lp J Jx W hlp hlW hW hJ hJx hY h0 => by
  have HJ := Lib.hid hJ
  have HY := Lib.hid hY
  have HJ0 := Lib.hid h0
  have HQ := Lib.hid ((hW.block bk (Array.getElem?_eq_some_iff.1 hq).1).trans hq)
  have HRN := Lib.hid (hN.below hW)
  have HRD := Lib.hid (hD.below hW)
  have HBN := Lib.hid bN
  have HBD := Lib.hid bD
  have HSN := Lib.hid (numV_small bN (by rw [hN.length]; exact ln))
  have HSD := Lib.hid (numV_small bD (by rw [hD.length]; exact ld))
  have hbk : bk < w.heap.size := (Array.getElem?_eq_some_iff.1 hq).1
  have HSZ := Lib.hid (And.intro hlp (And.intro hlW (And.intro hbk hW.size)))
  clear hJ hJx hY h0 hq hN hD bN bD hW hlp hlW hbk
  refine callsIn_of_wp Try.func77 rfl trivial ?_ rfl
  simp only [Try.ntmps77, List.size_toArray, List.length_cons, List.length_nil, Nat.reduceAdd, Nat.reduceSub, Array.replicate_succ, Array.replicate_zero, List.push_toArray, List.append_toArray, List.nil_append, List.cons_append]
  obtain ⟨k0, k1, k2⟩ := key_cells HQ.out
  gi_wp2_with fail
  refine ⟨trivial, ?_⟩
  refine (callsIn_wide.2 (number_c na nn nc N _ HRN.out HBN.out ln)).mono ?_
  rintro e w1 ⟨⟨v1, rfl, hv⟩, hb⟩
  have V1 := Lib.hid hv
  have HB := Lib.hid hb
  clear hv hb k0 k1 k2
  obtain ⟨k0, k1, k2⟩ := key_cells ((HB.out.block bk (Array.getElem?_eq_some_iff.1 HQ.out).1).trans HQ.out)
  gi_wp2_with fail
  refine ⟨trivial, ?_⟩
  refine (callsIn_wide.2 (number_c da dn dc D _ (HRD.out.below HB.out) HBD.out ld)).mono ?_
  rintro e w2 ⟨⟨v2, rfl, hv⟩, hb⟩
  have V2 := Lib.hid (hv.mono HB.out.size)
  have V1 := Lib.hid (V1.out.below hb)
  have HB := Lib.hid (HB.out.trans (hb.mono HB.out.size))
  clear hv hb k0 k1 k2
  obtain ⟨a1, n1, c1, rfl, hn1, o1⟩ := num_slice V1.out HSN.out
  obtain ⟨a2, n2, c2, rfl, hn2, o2⟩ := num_slice V2.out HSD.out
  have V1 := Lib.hid o1
  have V2 := Lib.hid o2
  have HZW := Lib.hid HB.out.size
  clear o1 o2
  have NL : ∀ (a : Option Addr) (n c : Nat) (X : World) (l : List Nat), OwnQ .u32 64 W.heap.size X (.slice a n c) l → ∀ g, (Value.slice a n c).ownBlock = some g → ¬ (g = lp ∨ False) := fun a n c X l h g e k => by
    have h1 := (World.ownsRow.lt h g e).1
    have h2 := HSZ.out.2.1
    rcases k with k | k
    · omega
    · exact k
  have NLo := Lib.hid NL
  clear NL
  have hj2 := HJ.out _ _ _ none HJ0.out (grown_belowR HB.out none) (fun r e => by cases e)
  obtain ⟨fn, tmps, assign, body, hy, hR⟩ := HY.out [] (numOk D) w2 hj2
  simp only [encH] at hy
  have HRR := Lib.hid hR
  clear hR
  gi_wp2_with fail
  refine HRR.out.mono ?_
  rintro e w3 (⟨rfl, hgx, hJ3, hk3⟩ | ⟨rfl, hx3⟩)
  rotate_left
  · have HX3 := Lib.hid hx3
    clear hx3 hy HRR
    gi_wp2
    refine ⟨trivial, ?_⟩
    gi_step
    refine wpListIn_pass (by kernel_rfl) ?_
    refine wpListIn_pass (by kernel_rfl) ?_
    gi_wp2
    refine ⟨trivial, ?_⟩
    gi_step
    refine wpListIn_pass (by kernel_rfl) ?_
    refine wpListIn_pass (by kernel_rfl) ?_
    gi_wp2
    go_end0
    exact ⟨⟨_, rfl⟩, .inr ⟨[numOk D], ⟨_, rfl⟩, HX3.out⟩⟩
  have V1 := Lib.hid (V1.out.kpR hk3 (NLo.out _ _ _ _ _ V1.out))
  have V2 := Lib.hid (V2.out.kpR hk3 (NLo.out _ _ _ _ _ V2.out))
  have HG1 := Lib.hid hgx
  have HJ3 := Lib.hid hJ3
  clear hy HRR hgx hJ3 hk3 hj2
  obtain ⟨b, hb⟩ : ∃ b, bitsN (numV D) = b := ⟨_, rfl⟩
  have HBb := Lib.hid (show bitsN (val32 (nat32 (numV D))) = b by rw [val_nat]; exact hb)
  have HBe := Lib.hid hb
  have hb9 : b ≤ 8192 := by
    rw [← hb]
    have h1 := HSD.out
    rw [topN_two] at h1
    exact (bitsN_le (numV D) 8192).2 h1
  clear hb
  gi_wp2_with fail
  refine ⟨trivial, ?_⟩
  refine (callsIn_wide.2 (bits_any a2 n2 c2 _ _ V2.out.reads (lim_nat _) (by omega))).mono ?_
  rintro e w' ⟨rfl, rfl⟩
  rw [HBb.out]
  obtain ⟨fn, tmps, assign, body, hy, hR⟩ := HY.out [numOk D] (decide (0 < b)) w3 HJ3.out
  simp only [encH] at hy
  have HRR := Lib.hid hR
  clear hR
  gi_wp2_with fail
  refine HRR.out.mono ?_
  rintro e w4 (⟨rfl, hgx, hJ4, hk4⟩ | ⟨rfl, hx4⟩)
  rotate_left
  · have HX4 := Lib.hid hx4
    clear hx4 hy HRR
    gi_wp2
    refine ⟨trivial, ?_⟩
    gi_step
    refine wpListIn_pass (by kernel_rfl) ?_
    refine wpListIn_pass (by kernel_rfl) ?_
    gi_wp2
    go_end0
    exact ⟨⟨_, rfl⟩, .inr ⟨[numOk D, decide (0 < b)], ⟨[decide (numV D < numV N)], by unfold privL; rw [HBe.out]; rfl⟩, HX4.out⟩⟩
  have V1 := Lib.hid (V1.out.kpR hk4 (NLo.out _ _ _ _ _ V1.out))
  have V2 := Lib.hid (V2.out.kpR hk4 (NLo.out _ _ _ _ _ V2.out))
  have HJ4 := Lib.hid hJ4
  clear hy HRR hgx hJ4 hk4
  gi_wp2_with fail
  refine ⟨trivial, ?_⟩
  refine (callsIn_wide.2 (cmp_any a2 a1 n2 c2 n1 c1 _ _ _ V2.out.reads V1.out.reads (lim_nat _) (lim_nat _))).mono ?_
  rintro e w5 ⟨rfl, hb⟩
  rw [val_nat, val_nat]
  have hj5 := HJ.out _ _ _ none HJ4.out (grown_belowR hb none) (fun r e => by cases e)
  obtain ⟨o, ho⟩ : ∃ o, ordN (numV D) (numV N) = o := ⟨_, rfl⟩
  have hoc : decide (o < 0) = decide (numV D < numV N) := by
    rw [← ho]
    unfold ordN
    by_cases h1 : numV D < numV N
    · rw [if_pos h1, decide_eq_true h1]; rfl
    · rw [if_neg h1, decide_eq_false h1]; split <;> rfl
  have HOC := Lib.hid hoc
  rw [ho]
  clear ho hoc hb
  obtain ⟨fn, tmps, assign, body, hy, hR⟩ := HY.out ([numOk D] ++ [decide (0 < b)]) (decide (o < 0)) w5 hj5
  simp only [encH] at hy
  have HRR := Lib.hid hR
  clear hR
  gi_wp2_with fail
  refine HRR.out.mono ?_
  rintro e w6 (⟨rfl, hgx, hJ6, hk6⟩ | ⟨rfl, hx6⟩)
  · have HJ6 := Lib.hid hJ6
    clear hy HRR hgx hJ6 hk6 hj5
    gi_wp2
    go_end0
    exact ⟨⟨_, rfl⟩, .inl ⟨privL N D, rfl, by have := HJ6.out; rw [HOC.out] at this; unfold privL; rw [HBe.out]; exact this, trivial⟩⟩
  · have HX6 := Lib.hid hx6
    clear hy HRR hx6 hj5
    gi_wp2
    go_end0
    exact ⟨⟨_, rfl⟩, .inr ⟨privL N D, ⟨[], List.append_nil _⟩, by have := HX6.out; rw [HOC.out] at this; unfold privL; rw [HBe.out]; exact this⟩⟩
end Go.Proofs.Ytpefjkndfifceaa
namespace Go.Proofs.Ytpefjkndfifceaa
open Go.RowKit
set_option maxRecDepth 100000
theorem wide_fn (f : FuncId) : Fence.wide.fn f = True := rfl
attribute [local go_sem] wide_fn
theorem Reads.keeps {q : IntKind} {w X : World} {a : Option Addr} {n c : Nat} {l : List Nat} (h : Reads q w a n c l) (hk : w.heap.size ≤ X.heap.size ∧ ∀ k, k < w.heap.size → X.heap[k]? = w.heap[k]?) : Reads q X a n c l :=
  ⟨h.length, h.le, h.max, h.nil, fun hp => by
    obtain ⟨b, off, rfl, hlt, hc⟩ := h.cells hp
    exact ⟨b, off, rfl, Nat.lt_of_lt_of_le hlt hk.1, fun i hi => by
      have h1 := hc i hi
      simp only [World.cell?, hk.2 b hlt] at h1 ⊢
      exact h1⟩⟩
def LowAs (w X : World) : Prop := w.heap.size ≤ X.heap.size ∧ ∀ k, k < w.heap.size → X.heap[k]? = w.heap[k]?
theorem LowAs.below {w X Y : World} (h : LowAs w X) (k : Below X.heap.size X Y) : LowAs w Y := ⟨Nat.le_trans h.1 k.size, fun i hi => (k.block i (Nat.lt_of_lt_of_le hi h.1)).trans (h.2 i hi)⟩
theorem LowAs.kp {w X Y : World} {lp : Nat} (h : LowAs w X) (k : KpV (fun i => i = lp ∨ False) X Y) (hl : w.heap.size ≤ lp) : LowAs w Y := ⟨Nat.le_trans h.1 k.1, fun i hi => (k.2 i (Nat.lt_of_lt_of_le hi h.1) (fun e => by rcases e with e | e; omega; exact e)).trans (h.2 i hi)⟩
set_option maxHeartbeats 8000000 in
theorem publicly_comes (na : Option Addr) (nn nc : Nat) (N : List Nat) (ea : Option Addr) (en ec : Nat) (E : List Nat) (x1 : Value) (bk : Nat) (w : World) (hq : w.heap[bk]? = some (.cells #[.slice na nn nc, .slice ea en ec, x1] 24)) (hN : Reads .u8 w na nn nc N) (bN : Byt N) (hE : Reads .u8 w ea en ec E) (bE : Byt E) (ln : nn ≤ 700) (le : en ≤ 700) :
    SeqV (fun _ => False) (fun _ => False) Fence.wide (3 - 1) Try.prog 55 #[.pointer (some ⟨bk, 0, none⟩)] encH (fun x => x = true) (fun xs => xs = pubL N E) (fun pre => ∃ r, pre ++ r = pubL N E) (fun _ => True) w := fun lp J Jx W hlp hlW hW hJ hJx hY h0 => by
  have HJ := Lib.hid hJ
  have HY := Lib.hid hY
  have HJ0 := Lib.hid h0
  have HQ0 := Lib.hid hq
  have HRN := Lib.hid (hN.below hW)
  have HRE := Lib.hid hE
  have HLW := Lib.hid (show LowAs w W from ⟨hW.size, fun k hk => hW.block k hk⟩)
  have HBN := Lib.hid bN
  have HBE := Lib.hid bE
  have HSN := Lib.hid (numV_small bN (by rw [hN.length]; exact ln))
  have HSE := Lib.hid (numV_small bE (by rw [hE.length]; exact le))
  have hbk : bk < w.heap.size := (Array.getElem?_eq_some_iff.1 hq).1
  have HSZ := Lib.hid (And.intro hlp (And.intro hlW (And.intro hbk hW.size)))
  have NL : ∀ (a : Option Addr) (n c : Nat) (X : World) (l : List Nat), OwnQ .u32 64 W.heap.size X (.slice a n c) l → ∀ g, (Value.slice a n c).ownBlock = some g → ¬ (g = lp ∨ False) := fun a n c X l h g e k => by
    have h1 := (World.ownsRow.lt h g e).1
    rcases k with k | k
    · omega
    · exact k
  have NLo := Lib.hid NL
  obtain ⟨tn, htn⟩ : ∃ x, (numV N).testBit 0 = x := ⟨_, rfl⟩
  obtain ⟨te, hte⟩ : ∃ x, (numV E).testBit 0 = x := ⟨_, rfl⟩
  obtain ⟨bn, hbn⟩ : ∃ x, bitsN (numV N) = x := ⟨_, rfl⟩
  obtain ⟨be, hbe⟩ : ∃ x, bitsN (numV E) = x := ⟨_, rfl⟩
  have hb9 : bn ≤ 8192 := by
    rw [← hbn]
    have h1 := HSN.out
    rw [topN_two] at h1
    exact (bitsN_le (numV N) 8192).2 h1
  have hb8 : be ≤ 8192 := by
    rw [← hbe]
    have h1 := HSE.out
    rw [topN_two] at h1
    exact (bitsN_le (numV E) 8192).2 h1
  obtain ⟨o, ho⟩ : ∃ o, ordN (numV E) 3 = o := ⟨_, rfl⟩
  have hoc : decide (0 ≤ o) = decide (3 ≤ numV E) := by
    rw [← ho]
    unfold ordN
    by_cases h1 : numV E < 3
    · rw [if_pos h1, decide_eq_false (show ¬ 3 ≤ numV E by omega)]; rfl
    · rw [if_neg h1, decide_eq_true (show 3 ≤ numV E by omega)]; split <;> rfl
  obtain ⟨c6, hc6⟩ : ∃ x, decide (be ≤ 64) = x := ⟨_, rfl⟩
  have HC6 := Lib.hid (show decide (be ≤ 64) = c6 ∧ decide ((be : Int) ≤ 64) = c6 from ⟨hc6, by rw [← hc6]; by_cases h : be ≤ 64; rw [decide_eq_true h, decide_eq_true (by omega)]; rw [decide_eq_false h, decide_eq_false (by omega)]⟩)
  obtain ⟨c3, hc3⟩ : ∃ x, (decide (256 ≤ bn) && decide (bn ≤ 4096)) = x := ⟨_, rfl⟩
  have HC3 := Lib.hid hc3
  have HL := Lib.hid (show pubL N E = [numOk N, tn, c3, numOk E, te, c6, decide (0 ≤ o)] by
    unfold pubL; rw [htn, hte, hbn, hbe, hoc, hc3, hc6])
  have HTN := Lib.hid (show (decide ((0 : Int) ≤ 0) && (val32 (nat32 (numV N))).testBit (0 : Int).toNat) = tn by rw [val_nat]; simpa using htn)
  have HTE := Lib.hid (show (decide ((0 : Int) ≤ 0) && (val32 (nat32 (numV E))).testBit (0 : Int).toNat) = te by rw [val_nat]; simpa using hte)
  have HB9 := Lib.hid (show bitsN (val32 (nat32 (numV N))) = bn by rw [val_nat]; exact hbn)
  have HB8 := Lib.hid (show bitsN (val32 (nat32 (numV E))) = be by rw [val_nat]; exact hbe)
  have HO := Lib.hid (show ordN (val32 (nat32 (numV E))) (val32 (nat32 3)) = o by rw [val_nat, val_nat]; exact ho)
  clear hJ hJx hY h0 hq hN hE bN bE hW hlp hlW hbk NL htn hte hbn hbe ho hoc hc3 hc6
  refine callsIn_of_wp Try.func55 rfl trivial ?_ rfl
  simp only [Try.ntmps55, List.size_toArray, List.length_cons, List.length_nil, Nat.reduceAdd, Nat.reduceSub, Array.replicate_succ, Array.replicate_zero, List.push_toArray, List.append_toArray, List.nil_append, List.cons_append]
  have HJw := HJ0
  have HZ := Lib.hid (Nat.le_refl W.heap.size)
  obtain ⟨k0, k1, k2⟩ := key_cells ((HLW.out.2 bk (Array.getElem?_eq_some_iff.1 HQ0.out).1).trans HQ0.out)
  gi_wp2_with fail
  refine (callsIn_wide.2 (number_c na nn nc N _ HRN.out HBN.out ln)).mono ?_
  rintro e w1 ⟨⟨v1, rfl, hv⟩, hb⟩
  obtain ⟨a1, n1, c1, rfl, hn1, o1⟩ := num_slice hv HSN.out
  have V1 := Lib.hid o1
  replace HJw := Lib.hid (HJ.out _ _ _ none HJw.out (grown_belowR hb none) (fun r e => by cases e))
  replace HLW := Lib.hid (HLW.out.below hb)
  replace HZ := Lib.hid (Nat.le_trans HZ.out hb.size)
  clear hv hb k0 k1 k2 o1
  gi_wp2_with fail
  refine (callsIn_wide.2 (bits_any a1 n1 c1 _ _ V1.out.reads (lim_nat _) (by omega))).mono ?_
  rintro e w' ⟨rfl, rfl⟩
  rw [HB9.out]
  obtain ⟨fn, tmps, assign, body, hy, hR⟩ := HY.out _ (numOk N) w1 HJw.out
  simp only [encH] at hy
  have HRR := Lib.hid hR
  clear hR
  gi_wp2_with fail
  refine HRR.out.mono ?_
  rintro e y1 (⟨rfl, hgx, hJ3, hk3⟩ | ⟨rfl, hx3⟩)
  rotate_left
  · have HX3 := Lib.hid hx3
    clear hx3 hy HRR
    gi_wp2
    refine bodyPost_ret (results_none rfl _ _ _) rfl ?_
    exact ⟨⟨_, rfl⟩, .inr ⟨_, ⟨[tn, c3, numOk E, te, c6, decide (0 ≤ o)], by rw [HL.out]; rfl⟩, HX3.out⟩⟩
  replace V1 := Lib.hid (V1.out.kpR hk3 (NLo.out _ _ _ _ _ V1.out))
  replace HLW := Lib.hid (HLW.out.kp hk3 HSZ.out.1)
  replace HZ := Lib.hid (Nat.le_trans HZ.out hk3.1)
  replace HJw := Lib.hid hJ3
  clear hy HRR hgx hJ3 hk3
  gi_wp2_with fail
  refine (callsIn_wide.2 (bit_any a1 n1 c1 _ _ V1.out.reads (lim_nat _) 0 (by decide))).mono ?_
  rintro e w' ⟨rfl, rfl⟩
  rw [HTN.out]
  obtain ⟨fn, tmps, assign, body, hy, hR⟩ := HY.out _ tn y1 HJw.out
  simp only [encH] at hy
  have HRR := Lib.hid hR
  clear hR
  gi_wp2_with fail
  refine HRR.out.mono ?_
  rintro e y2 (⟨rfl, hgx, hJ3, hk3⟩ | ⟨rfl, hx3⟩)
  rotate_left
  · have HX3 := Lib.hid hx3
    clear hx3 hy HRR
    gi_wp2
    refine bodyPost_ret (results_none rfl _ _ _) rfl ?_
    exact ⟨⟨_, rfl⟩, .inr ⟨_, ⟨[c3, numOk E, te, c6, decide (0 ≤ o)], by rw [HL.out]; rfl⟩, HX3.out⟩⟩
  replace HLW := Lib.hid (HLW.out.kp hk3 HSZ.out.1)
  replace HZ := Lib.hid (Nat.le_trans HZ.out hk3.1)
  replace HJw := Lib.hid hJ3
  clear hy HRR hgx hJ3 hk3
  by_cases hb1 : 256 ≤ bn
  rotate_left
  · have t1 : decide ((256 : Int) ≤ (bn : Int)) = false := decide_eq_false (by omega)
    have t2 : decide (256 ≤ bn) = false := decide_eq_false hb1
    obtain rfl : c3 = false := by rw [← HC3.out, t2]; rfl
    clear hb1
    obtain ⟨fn, tmps, assign, body, hy, hR⟩ := HY.out _ false y2 HJw.out
    simp only [encH] at hy
    have HRR := Lib.hid hR
    clear hR
    gi_wp2_with fail
    refine HRR.out.mono ?_
    rintro e y3 (⟨rfl, hgx, hJ3, hk3⟩ | ⟨rfl, hx3⟩)
    · cases hgx
    · have HX3 := Lib.hid hx3
      clear hx3 hy HRR
      gi_wp2
      refine bodyPost_ret (results_none rfl _ _ _) rfl ?_
      exact ⟨⟨_, rfl⟩, .inr ⟨_, ⟨[numOk E, te, c6, decide (0 ≤ o)], by rw [HL.out]; rfl⟩, HX3.out⟩⟩
  have t1 : decide ((256 : Int) ≤ (bn : Int)) = true := decide_eq_true (by omega)
  have t2 : decide (256 ≤ bn) = true := decide_eq_true hb1
  have t3 : decide (bn ≤ 4096) = c3 := by rw [← HC3.out, t2]; rfl
  have t4 : decide ((bn : Int) ≤ 4096) = c3 := by rw [← t3]; by_cases h : bn ≤ 4096; rw [decide_eq_true h, decide_eq_true (by omega)]; rw [decide_eq_false h, decide_eq_false (by omega)]
  clear hb1
  obtain ⟨fn, tmps, assign, body, hy, hR⟩ := HY.out _ c3 y2 HJw.out
  simp only [encH] at hy
  have HRR := Lib.hid hR
  clear hR
  gi_wp2_with fail
  refine HRR.out.mono ?_
  rintro e y3 (⟨rfl, hgx, hJ3, hk3⟩ | ⟨rfl, hx3⟩)
  rotate_left
  · have HX3 := Lib.hid hx3
    clear hx3 hy HRR
    gi_wp2
    refine bodyPost_ret (results_none rfl _ _ _) rfl ?_
    exact ⟨⟨_, rfl⟩, .inr ⟨_, ⟨[numOk E, te, c6, decide (0 ≤ o)], by rw [HL.out]; rfl⟩, HX3.out⟩⟩
  replace HLW := Lib.hid (HLW.out.kp hk3 HSZ.out.1)
  replace HZ := Lib.hid (Nat.le_trans HZ.out hk3.1)
  replace HJw := Lib.hid hJ3
  clear hy HRR hgx hJ3 hk3
  clear t1 t2 t3 t4 V1
  obtain ⟨k0, k1, k2⟩ := key_cells ((HLW.out.2 bk (Array.getElem?_eq_some_iff.1 HQ0.out).1).trans HQ0.out)
  gi_wp2_with fail
  refine (callsIn_wide.2 (number_c ea en ec E _ (HRE.out.keeps HLW.out) HBE.out le)).mono ?_
  rintro e w2 ⟨⟨v2, rfl, hv⟩, hb⟩
  obtain ⟨a2, n2, c2, rfl, hn2, o2⟩ := num_slice hv HSE.out
  have V2 := Lib.hid (o2.mono HZ.out)
  replace HJw := Lib.hid (HJ.out _ _ _ none HJw.out (grown_belowR hb none) (fun r e => by cases e))
  replace HLW := Lib.hid (HLW.out.below hb)
  replace HZ := Lib.hid (Nat.le_trans HZ.out hb.size)
  clear hv hb k0 k1 k2 o2
  obtain ⟨fn, tmps, assign, body, hy, hR⟩ := HY.out _ (numOk E) w2 HJw.out
  simp only [encH] at hy
  have HRR := Lib.hid hR
  clear hR
  gi_wp2_with fail
  refine HRR.out.mono ?_
  rintro e y4 (⟨rfl, hgx, hJ3, hk3⟩ | ⟨rfl, hx3⟩)
  rotate_left
  · have HX3 := Lib.hid hx3
    clear hx3 hy HRR
    gi_wp2
    refine bodyPost_ret (results_none rfl _ _ _) rfl ?_
    exact ⟨⟨_, rfl⟩, .inr ⟨_, ⟨[te, c6, decide (0 ≤ o)], by rw [HL.out]; rfl⟩, HX3.out⟩⟩
  replace V2 := Lib.hid (V2.out.kpR hk3 (NLo.out _ _ _ _ _ V2.out))
  replace HLW := Lib.hid (HLW.out.kp hk3 HSZ.out.1)
  replace HZ := Lib.hid (Nat.le_trans HZ.out hk3.1)
  replace HJw := Lib.hid hJ3
  clear hy HRR hgx hJ3 hk3
  gi_wp2_with fail
  refine (callsIn_wide.2 (bit_any a2 n2 c2 _ _ V2.out.reads (lim_nat _) 0 (by decide))).mono ?_
  rintro e w' ⟨rfl, rfl⟩
  rw [HTE.out]
  obtain ⟨fn, tmps, assign, body, hy, hR⟩ := HY.out _ te y4 HJw.out
  simp only [encH] at hy
  have HRR := Lib.hid hR
  clear hR
  gi_wp2_with fail
  refine HRR.out.mono ?_
  rintro e y5 (⟨rfl, hgx, hJ3, hk3⟩ | ⟨rfl, hx3⟩)
  rotate_left
  · have HX3 := Lib.hid hx3
    clear hx3 hy HRR
    gi_wp2
    refine bodyPost_ret (results_none rfl _ _ _) rfl ?_
    exact ⟨⟨_, rfl⟩, .inr ⟨_, ⟨[c6, decide (0 ≤ o)], by rw [HL.out]; rfl⟩, HX3.out⟩⟩
  replace V2 := Lib.hid (V2.out.kpR hk3 (NLo.out _ _ _ _ _ V2.out))
  replace HLW := Lib.hid (HLW.out.kp hk3 HSZ.out.1)
  replace HZ := Lib.hid (Nat.le_trans HZ.out hk3.1)
  replace HJw := Lib.hid hJ3
  clear hy HRR hgx hJ3 hk3
  gi_wp2_with fail
  refine (callsIn_wide.2 (bits_any a2 n2 c2 _ _ V2.out.reads (lim_nat _) (by omega))).mono ?_
  rintro e w' ⟨rfl, rfl⟩
  rw [HB8.out]
  obtain ⟨t5, t6⟩ := HC6.out
  obtain ⟨fn, tmps, assign, body, hy, hR⟩ := HY.out _ c6 y5 HJw.out
  simp only [encH] at hy
  have HRR := Lib.hid hR
  clear hR
  gi_wp2_with fail
  refine HRR.out.mono ?_
  rintro e y6 (⟨rfl, hgx, hJ3, hk3⟩ | ⟨rfl, hx3⟩)
  rotate_left
  · have HX3 := Lib.hid hx3
    clear hx3 hy HRR
    gi_wp2
    refine bodyPost_ret (results_none rfl _ _ _) rfl ?_
    exact ⟨⟨_, rfl⟩, .inr ⟨_, ⟨[decide (0 ≤ o)], by rw [HL.out]; rfl⟩, HX3.out⟩⟩
  replace V2 := Lib.hid (V2.out.kpR hk3 (NLo.out _ _ _ _ _ V2.out))
  replace HLW := Lib.hid (HLW.out.kp hk3 HSZ.out.1)
  replace HZ := Lib.hid (Nat.le_trans HZ.out hk3.1)
  replace HJw := Lib.hid hJ3
  clear hy HRR hgx hJ3 hk3
  clear t5 t6
  gi_wp2_with fail
  refine (callsIn_wide.2 (of_any 3 3 rfl _ (by decide))).mono ?_
  rintro e w3 ⟨⟨v3, rfl, hv⟩, hb⟩
  obtain ⟨a3, n3, c3', rfl, hn3, o3⟩ := num_slice hv (top_of topN_256 (k := 1) (by omega) (show 3 < 256 ^ 1 by decide))
  have V3 := Lib.hid o3
  replace V2 := Lib.hid (V2.out.below hb)
  replace HJw := Lib.hid (HJ.out _ _ _ none HJw.out (grown_belowR hb none) (fun r e => by cases e))
  replace HLW := Lib.hid (HLW.out.below hb)
  replace HZ := Lib.hid (Nat.le_trans HZ.out hb.size)
  clear hv hb o3
  gi_wp2_with fail
  refine (callsIn_wide.2 (cmp_any a2 a3 n2 c2 n3 c3' _ _ _ V2.out.reads V3.out.reads (lim_nat _) (lim_nat _))).mono ?_
  rintro e w4 ⟨rfl, hb⟩
  rw [HO.out]
  replace HJw := Lib.hid (HJ.out _ _ _ none HJw.out (grown_belowR hb none) (fun r e => by cases e))
  replace HLW := Lib.hid (HLW.out.below hb)
  replace HZ := Lib.hid (Nat.le_trans HZ.out hb.size)
  clear hb V2 V3
  obtain ⟨fn, tmps, assign, body, hy, hR⟩ := HY.out _ (decide (0 ≤ o)) w4 HJw.out
  simp only [encH] at hy
  have HRR := Lib.hid hR
  clear hR
  gi_wp2_with fail
  refine HRR.out.mono ?_
  rintro e y7 (⟨rfl, hgx, hJ3, hk3⟩ | ⟨rfl, hx3⟩)
  rotate_left
  · have HX3 := Lib.hid hx3
    clear hx3 hy HRR
    gi_wp2
    go_end0
    exact ⟨⟨_, rfl⟩, .inr ⟨_, ⟨[], by rw [HL.out]; rfl⟩, HX3.out⟩⟩
  replace HLW := Lib.hid (HLW.out.kp hk3 HSZ.out.1)
  replace HZ := Lib.hid (Nat.le_trans HZ.out hk3.1)
  replace HJw := Lib.hid hJ3
  clear hy HRR hgx hJ3 hk3
  gi_wp2
  go_end0
  exact ⟨⟨_, rfl⟩, .inl ⟨pubL N E, rfl, by have := HJw.out; rw [HL.out]; exact this, trivial⟩⟩
end Go.Proofs.Ytpefjkndfifceaa
namespace Go.Proofs.Ytpefjkndfifceaa
open Go.RowKit
set_option maxRecDepth 100000
set_option maxHeartbeats 4000000 in
theorem public_any (na : Option Addr) (nn nc : Nat) (N : List Nat) (ea : Option Addr) (en ec : Nat) (E : List Nat) (da : Option Addr) (dn dc : Nat) (w : World) (hN : Reads .u8 w na nn nc N) (bN : Byt N) (hE : Reads .u8 w ea en ec E) (bE : Byt E) (ln : nn ≤ 700) (le : en ≤ 700) :
    Calls Try.prog 22 #[.agg #[.slice na nn nc, .slice ea en ec, .slice da dn dc]] w fun e w' => e = .returned (.int .i64 (pubE N E)) ∧ Below w.heap.size w w' := by
  have HRN := Lib.hid hN
  have HRE := Lib.hid hE
  have HBN := Lib.hid bN
  have HBE := Lib.hid bE
  have hba := (Below.refl w.heap.size w).alloc (Nat.le_refl _) (.cells #[.slice na nn nc, .slice ea en ec, .slice da dn dc] 24)
  have hq0 : (w.alloc (.cells #[.slice na nn nc, .slice ea en ec, .slice da dn dc] 24)).heap[w.heap.size]? = some (.cells #[.slice na nn nc, .slice ea en ec, .slice da dn dc] 24) := World.alloc_heap_new w _
  have HQ := Lib.hid hq0
  have HB := Lib.hid hba
  clear hN bN hE bE hba hq0
  go_enter Try.func22, Try.ntmps22
  go_wp2_with fail
  generalize w.alloc (.cells #[.slice na nn nc, .slice ea en ec, .slice da dn dc] 24) = w0 at *
  obtain ⟨P, hP⟩ : ∃ P, w.heap.size = P := ⟨_, rfl⟩
  rw [hP] at HQ ⊢
  have HPW := Lib.hid hP
  clear hP
  obtain ⟨k0, k1, k2⟩ := key_cells HQ.out
  go_wp2_with fail
  refine (publicly_m _ _ _ w0 ⟨_, _, _, rfl⟩ ⟨_, _, _, rfl⟩ ⟨_, _, _, rfl⟩).mono ?_
  rintro e w1 ⟨rfl, hw1⟩
  have hb1 : Below w0.heap.size w0 w1 := by rw [hw1]; exact (Below.refl _ _).alloc (Nat.le_refl _) _
  have hq1 : w1.heap[w0.heap.size]? = some (.cells #[.slice na nn nc, .slice ea en ec, .slice da dn dc] 24) := by rw [hw1]; exact World.alloc_heap_new w0 _
  have HB1 := Lib.hid (HB.out.trans (hb1.mono HB.out.size))
  have HQ1 := Lib.hid hq1
  clear k0 k1 k2 hw1 hb1 hq1
  generalize w0.heap.size = bk at *
  go_wp2_with fail
  refine (hold_any _ _ (pubL N E) w1 (enters_of Try.func55 (by kernel_rfl) rfl) (fun W hW => publicly_comes na nn nc N ea en ec E (.slice da dn dc) bk W ((hW.block bk (Array.getElem?_eq_some_iff.1 HQ1.out).1).trans HQ1.out) ((HRN.out.below HB1.out).below hW) HBN.out ((HRE.out.below HB1.out).below hW) HBE.out ln le)).mono ?_
  rintro e w2 ⟨rfl, hb⟩
  have HB2 := Lib.hid (HB1.out.trans (hb.mono HB1.out.size))
  clear hb
  by_cases hp : PubP N E
  · rw [(pubL_iff N E).2 hp]
    have HF := Lib.hid (show pubE N E = 0 by unfold pubE; rw [if_pos hp])
    clear hp
    go_wp2
    go_ret
    exact ⟨by rw [HF.out]; rfl, HPW.out ▸ HB2.out⟩
  · rw [show (pubL N E).all id = false from Bool.eq_false_iff.2 fun h => hp ((pubL_iff N E).1 h)]
    have HF := Lib.hid (show pubE N E = 100 by unfold pubE; rw [if_neg hp])
    clear hp
    go_wp2
    go_ret
    exact ⟨by rw [HF.out]; rfl, HPW.out ▸ HB2.out⟩
set_option maxHeartbeats 4000000 in
theorem private_any (na : Option Addr) (nn nc : Nat) (N : List Nat) (ea : Option Addr) (en ec : Nat) (E : List Nat) (da : Option Addr) (dn dc : Nat) (D : List Nat) (w : World) (hN : Reads .u8 w na nn nc N) (bN : Byt N) (hE : Reads .u8 w ea en ec E) (bE : Byt E) (hD : Reads .u8 w da dn dc D) (bD : Byt D) (ln : nn ≤ 700) (le : en ≤ 700) (ld : dn ≤ 700) :
    Calls Try.prog 34 #[.agg #[.slice na nn nc, .slice ea en ec, .slice da dn dc]] w fun e w' => e = .returned (.int .i64 (privE N E D)) ∧ Below w.heap.size w w' := by
  have HRN := Lib.hid hN
  have HRE := Lib.hid hE
  have HRD := Lib.hid hD
  have HBN := Lib.hid bN
  have HBE := Lib.hid bE
  have HBD := Lib.hid bD
  have hba := (Below.refl w.heap.size w).alloc (Nat.le_refl _) (.cells #[.slice na nn nc, .slice ea en ec, .slice da dn dc] 24)
  have hq0 : (w.alloc (.cells #[.slice na nn nc, .slice ea en ec, .slice da dn dc] 24)).heap[w.heap.size]? = some (.cells #[.slice na nn nc, .slice ea en ec, .slice da dn dc] 24) := World.alloc_heap_new w _
  have HQ := Lib.hid hq0
  have HB := Lib.hid hba
  clear hN bN hE bE hD bD hba hq0
  go_enter Try.func34, Try.ntmps34
  go_wp2_with fail
  generalize w.alloc (.cells #[.slice na nn nc, .slice ea en ec, .slice da dn dc] 24) = w0 at *
  obtain ⟨P, hP⟩ : ∃ P, w.heap.size = P := ⟨_, rfl⟩
  rw [hP] at HQ ⊢
  have HPW := Lib.hid hP
  clear hP
  obtain ⟨k0, k1, k2⟩ := key_cells HQ.out
  go_wp2_with fail
  refine (public_any na nn nc N ea en ec E da dn dc w0 (HRN.out.below HB.out) HBN.out (HRE.out.below HB.out) HBE.out ln le).mono ?_
  rintro e w1 ⟨rfl, hb⟩
  replace HQ := Lib.hid ((hb.block P (Array.getElem?_eq_some_iff.1 HQ.out).1).trans HQ.out)
  replace HB := Lib.hid (HB.out.trans (hb.mono HB.out.size))
  clear k0 k1 k2 hb
  by_cases hp : PubP N E
  rotate_left
  · rw [show pubE N E = 100 by unfold pubE; rw [if_neg hp]]
    have HF := Lib.hid (show privE N E D = 100 by unfold privE; rw [if_neg (fun h => hp h.1)])
    clear hp
    go_wp2
    go_ret
    exact ⟨by rw [HF.out]; rfl, HPW.out ▸ HB.out⟩
  rw [show pubE N E = 0 by unfold pubE; rw [if_pos hp]]
  have HP := Lib.hid hp
  clear hp
  obtain ⟨k0, k1, k2⟩ := key_cells HQ.out
  go_wp2_with fail
  refine (privately_m _ _ _ w1 ⟨_, _, _, rfl⟩ ⟨_, _, _, rfl⟩ ⟨_, _, _, rfl⟩).mono ?_
  rintro e w2 ⟨rfl, hw2⟩
  have hb1 : Below w1.heap.size w1 w2 := by rw [hw2]; exact (Below.refl _ _).alloc (Nat.le_refl _) _
  have hq1 : w2.heap[w1.heap.size]? = some (.cells #[.slice na nn nc, .slice ea en ec, .slice da dn dc] 24) := by rw [hw2]; exact World.alloc_heap_new w1 _
  have HB1 := Lib.hid (HB.out.trans (hb1.mono HB.out.size))
  have HQ1 := Lib.hid hq1
  clear k0 k1 k2 hw2 hb1 hq1
  generalize w1.heap.size = bk at *
  go_wp2_with fail
  refine (hold_any _ _ (privL N D) w2 (enters_of Try.func77 (by kernel_rfl) rfl) (fun W hW => privately_comes na nn nc N (.slice ea en ec) da dn dc D bk W ((hW.block bk (Array.getElem?_eq_some_iff.1 HQ1.out).1).trans HQ1.out) ((HRN.out.below HB1.out).below hW) HBN.out ((HRD.out.below HB1.out).below hW) HBD.out ln ld)).mono ?_
  rintro e w3 ⟨rfl, hb⟩
  have HB2 := Lib.hid (HB1.out.trans (hb.mono HB1.out.size))
  clear hb
  by_cases hp : PrivP N E D
  · rw [(privL_iff N E D HP.out).2 hp]
    have HF := Lib.hid (show privE N E D = 0 by unfold privE; rw [if_pos hp])
    clear hp
    go_wp2
    go_ret
    exact ⟨by rw [HF.out]; rfl, HPW.out ▸ HB2.out⟩
  · rw [show (privL N D).all id = false from Bool.eq_false_iff.2 fun h => hp ((privL_iff N E D HP.out).1 h)]
    have HF := Lib.hid (show privE N E D = 100 by unfold privE; rw [if_neg hp])
    clear hp
    go_wp2
    go_ret
    exact ⟨by rw [HF.out]; rfl, HPW.out ▸ HB2.out⟩
end Go.Proofs.Ytpefjkndfifceaa
namespace Go.Proofs.Ytpefjkndfifceaa
open Go.RowKit
set_option maxRecDepth 100000
set_option maxHeartbeats 4000000 in
theorem great_k (na : Option Addr) (nn nc : Nat) (N : List Nat) (ea : Option Addr) (en ec : Nat) (E : List Nat) (da : Option Addr) (dn dc : Nat) (w : World) (hN : Reads .u8 w na nn nc N) (bN : Byt N) (hE : Reads .u8 w ea en ec E) (bE : Byt E) (hn : nn ≤ 140737488351232) (he : en ≤ 140737488351232) (hd : dn ≤ 140737488351232) :
    Calls Try.prog 4 #[.agg #[.slice na nn nc, .slice ea en ec, .slice da dn dc]] w fun e w' => (e = .returned (.int .i64 1) ∨ e = .returned (.int .i64 0) ∧ nn ≤ 700 ∧ en ≤ 700 ∧ dn ≤ 700 ∧ (nn ≤ 150 ∨ ¬ PubP N E)) ∧ Below w.heap.size w w' := by
  have HRN := Lib.hid hN
  have HRE := Lib.hid hE
  have HBN := Lib.hid bN
  have HBE := Lib.hid bE
  have hba := (Below.refl w.heap.size w).alloc (Nat.le_refl _) (.cells #[.slice na nn nc, .slice ea en ec, .slice da dn dc] 24)
  have hq0 : (w.alloc (.cells #[.slice na nn nc, .slice ea en ec, .slice da dn dc] 24)).heap[w.heap.size]? = some (.cells #[.slice na nn nc, .slice ea en ec, .slice da dn dc] 24) := World.alloc_heap_new w _
  have HQ := Lib.hid hq0
  have HB := Lib.hid hba
  clear hN bN hE bE hba hq0
  by_cases h1 : 700 < nn
  · have t1 : decide ((700 : Int) < (nn : Int)) = true := decide_eq_true (by omega)
    clear h1
    go_enter Try.func4, Try.ntmps4
    go_wp2
    go_ret
    exact ⟨.inl rfl, HB.out⟩
  have t1 : decide ((700 : Int) < (nn : Int)) = false := decide_eq_false (by omega)
  by_cases h2 : 700 < en
  · have t2 : decide ((700 : Int) < (en : Int)) = true := decide_eq_true (by omega)
    clear h1 h2
    go_enter Try.func4, Try.ntmps4
    go_wp2
    go_ret
    exact ⟨.inl rfl, HB.out⟩
  have t2 : decide ((700 : Int) < (en : Int)) = false := decide_eq_false (by omega)
  by_cases h3 : 700 < dn
  · have t3 : decide ((700 : Int) < (dn : Int)) = true := decide_eq_true (by omega)
    clear h1 h2 h3
    go_enter Try.func4, Try.ntmps4
    go_wp2
    go_ret
    exact ⟨.inl rfl, HB.out⟩
  have t3 : decide ((700 : Int) < (dn : Int)) = false := decide_eq_false (by omega)
  have HL := Lib.hid (show nn ≤ 700 ∧ en ≤ 700 ∧ dn ≤ 700 by omega)
  by_cases h4 : 150 < nn
  rotate_left
  · have t4 : decide ((150 : Int) < (nn : Int)) = false := decide_eq_false (by omega)
    have H4 := Lib.hid (show nn ≤ 150 by omega)
    clear h1 h2 h3 h4
    go_enter Try.func4, Try.ntmps4
    go_wp2
    go_ret
    exact ⟨.inr ⟨rfl, HL.out.1, HL.out.2.1, HL.out.2.2, .inl H4.out⟩, HB.out⟩
  have t4 : decide ((150 : Int) < (nn : Int)) = true := decide_eq_true (by omega)
  clear h1 h2 h3 h4
  go_enter Try.func4, Try.ntmps4
  go_wp2_with fail
  refine (rpublic_any na nn nc N ea en ec E da dn dc _ (HRN.out.below HB.out) HBN.out (HRE.out.below HB.out) HBE.out HL.out.1 HL.out.2.1).mono ?_
  rintro e w1 ⟨rfl, hb⟩
  have HB1 := Lib.hid (HB.out.trans (hb.mono HB.out.size))
  clear hb
  by_cases hp : PubP N E
  · rw [show pubE N E = 0 by unfold pubE; rw [if_pos hp]]
    clear hp
    go_wp2
    go_ret
    exact ⟨.inl rfl, HB1.out⟩
  · rw [show pubE N E = 100 by unfold pubE; rw [if_neg hp]]
    have HP := Lib.hid hp
    clear hp
    go_wp2
    go_ret
    exact ⟨.inr ⟨rfl, HL.out.1, HL.out.2.1, HL.out.2.2, .inr HP.out⟩, HB1.out⟩
set_option maxHeartbeats 4000000 in
theorem dear_k (na : Option Addr) (nn nc : Nat) (N : List Nat) (ea : Option Addr) (en ec : Nat) (da : Option Addr) (dn dc : Nat) (D : List Nat) (w : World) (hN : Reads .u8 w na nn nc N) (bN : Byt N) (hD : Reads .u8 w da dn dc D) (bD : Byt D) (ln : nn ≤ 700) (ld : dn ≤ 700) :
    Calls Try.prog 8 #[.agg #[.slice na nn nc, .slice ea en ec, .slice da dn dc]] w fun e w' => e = .returned (.bool (decide (131072 < bitsN (nV N) * bitsN (nV D)))) ∧ Below w.heap.size w w' := by
  have HRN := Lib.hid hN
  have HRD := Lib.hid hD
  have HBN := Lib.hid bN
  have HBD := Lib.hid bD
  have HSN := Lib.hid (key_small bN (by rw [hN.length]; exact ln))
  have HSD := Lib.hid (key_small bD (by rw [hD.length]; exact ld))
  have hba := (Below.refl w.heap.size w).alloc (Nat.le_refl _) (.cells #[.slice na nn nc, .slice ea en ec, .slice da dn dc] 24)
  have hq0 : (w.alloc (.cells #[.slice na nn nc, .slice ea en ec, .slice da dn dc] 24)).heap[w.heap.size]? = some (.cells #[.slice na nn nc, .slice ea en ec, .slice da dn dc] 24) := World.alloc_heap_new w _
  have HQ := Lib.hid hq0
  have HB := Lib.hid hba
  clear hN bN hD bD hba hq0
  go_enter Try.func8, Try.ntmps8
  go_wp2_with fail
  generalize w.alloc (.cells #[.slice na nn nc, .slice ea en ec, .slice da dn dc] 24) = w0 at *
  obtain ⟨P, hP⟩ : ∃ P, w.heap.size = P := ⟨_, rfl⟩
  rw [hP] at HQ ⊢
  have HPW := Lib.hid hP
  clear hP
  obtain ⟨k0, k1, k2⟩ := key_cells HQ.out
  go_wp2_with fail
  refine (rf.read_any na nn nc N w0 (HRN.out.below HB.out) HBN.out (by omega)).mono ?_
  rintro e w1 ⟨⟨v, rfl, hv⟩, hb⟩
  rw [cutR_small HSN.out] at hv ⊢
  obtain ⟨a1, n1, c1, rfl, hn1, ho⟩ := num_slice hv HSN.out
  have HN1 := Lib.hid ho
  have HQ1 := Lib.hid ((hb.block P (Array.getElem?_eq_some_iff.1 HQ.out).1).trans HQ.out)
  have HB1 := Lib.hid (HB.out.trans (hb.mono HB.out.size))
  clear k0 k1 k2 hv ho hb HQ HB
  obtain ⟨k0, k1, k2⟩ := key_cells HQ1.out
  go_wp2_with fail
  refine (rf.read_any da dn dc D w1 (HRD.out.below HB1.out) HBD.out (by omega)).mono ?_
  rintro e w2 ⟨⟨v, rfl, hv⟩, hb⟩
  rw [cutR_small HSD.out] at hv ⊢
  obtain ⟨a2, n2, c2, rfl, hn2, ho⟩ := num_slice hv HSD.out
  have HN2 := Lib.hid ho.reads
  have HN1' := Lib.hid (HN1.out.below hb).reads
  have HB2 := Lib.hid (HB1.out.trans (hb.mono HB1.out.size))
  clear k0 k1 k2 hv ho hb HQ1 HB1 HN1
  obtain ⟨bn, hbn⟩ : ∃ x, x = bitsN (nV N) := ⟨_, rfl⟩
  obtain ⟨bd, hbd⟩ : ∃ x, x = bitsN (nV D) := ⟨_, rfl⟩
  have hb9 : bn ≤ 8192 := by
    rw [hbn]
    have h1 := HSN.out
    rw [topN_two] at h1
    exact (bitsN_le (nV N) 8192).2 h1
  have hb8 : bd ≤ 8192 := by
    rw [hbd]
    have h1 := HSD.out
    rw [topN_two] at h1
    exact (bitsN_le (nV D) 8192).2 h1
  obtain ⟨p, hp⟩ : ∃ p, p = bn * bd := ⟨_, rfl⟩
  have hpb : p ≤ 67108864 := by rw [hp]; exact Nat.mul_le_mul hb9 hb8
  have pm : (bn : Int) * (bd : Int) = (p : Int) := by rw [hp]; norm_cast
  have HF := Lib.hid (show bitsN (nV N) * bitsN (nV D) = p by rw [← hbn, ← hbd, hp])
  have HBn := Lib.hid (show bn = bitsN (val32 (nat32 (nV N))) by rw [val_nat]; exact hbn)
  have HBd := Lib.hid (show bd = bitsN (val32 (nat32 (nV D))) by rw [val_nat]; exact hbd)
  clear hbn hbd hp
  go_wp2_with fail
  refine (rf.bits_any a1 n1 c1 _ _ HN1'.out (lim_nat _) (by omega) bn HBn.out).mono ?_
  rintro e w3 ⟨rfl, hb⟩
  have HN2 := Lib.hid (HN2.out.below hb)
  have HB3 := Lib.hid (HB2.out.trans (hb.mono HB2.out.size))
  clear hb
  go_wp2_with fail
  refine (rf.bits_any a2 n2 c2 _ _ HN2.out (lim_nat _) (by omega) bd HBd.out).mono ?_
  rintro e w4 ⟨rfl, hb⟩
  have HB4 := Lib.hid (HB3.out.trans (hb.mono HB3.out.size))
  clear hb HN1' HN2
  by_cases hq : 131072 < p
  · have u1 : decide ((131072 : Int) < (p : Int)) = true := decide_eq_true (by omega)
    have u2 : decide (131072 < p) = true := decide_eq_true hq
    have HU := Lib.hid (show decide (131072 < bitsN (nV N) * bitsN (nV D)) = true by rw [HF.out]; exact u2)
    clear hq
    go_wp2
    go_ret
    exact ⟨by rw [HU.out]; rfl, HPW.out ▸ HB4.out⟩
  · have u1 : decide ((131072 : Int) < (p : Int)) = false := decide_eq_false (by omega)
    have u2 : decide (131072 < p) = false := decide_eq_false hq
    have HU := Lib.hid (show decide (131072 < bitsN (nV N) * bitsN (nV D)) = false by rw [HF.out]; exact u2)
    clear hq
    go_wp2
    go_ret
    exact ⟨by rw [HU.out]; rfl, HPW.out ▸ HB4.out⟩
end Go.Proofs.Ytpefjkndfifceaa
namespace Go.Proofs.Ytpefjkndfifceaa
open Go.RowKit
theorem guess_first {w V Q top high P : Nat} (hQ : Q * V ≤ w) (hw : w < (top + 1) * P) (hV : high * P ≤ V) (hh : 0 < high) : Q ≤ top / high := by
  rw [Nat.le_div_iff_mul_le hh]
  have h1 : Q * high * P < (top + 1) * P := by
    refine Nat.lt_of_le_of_lt ?_ hw
    rw [Nat.mul_assoc]
    exact Nat.le_trans (Nat.mul_le_mul_left _ hV) hQ
  have h2 := Nat.lt_of_mul_lt_mul_right h1
  omega
theorem guess_less {w V Q v2 top3 P d : Nat} (hQ : Q * V ≤ w) (hw : w < (top3 + 1) * P) (hV : v2 * P ≤ V) (hd : top3 < d * v2) : Q < d := by
  apply Decidable.byContradiction
  intro hn
  have h1 : d ≤ Q := by omega
  have h2 : Q * v2 * P < (top3 + 1) * P := by
    refine Nat.lt_of_le_of_lt ?_ hw
    rw [Nat.mul_assoc]
    exact Nat.le_trans (Nat.mul_le_mul_left _ hV) hQ
  have h3 := Nat.lt_of_mul_lt_mul_right h2
  have h4 : d * v2 ≤ Q * v2 := Nat.mul_le_mul_right _ h1
  omega
theorem guess_near {w V Q v2 top3 P d : Nat} (hQ : w < (Q + 1) * V) (hw : top3 * P ≤ w) (hV : V < (v2 + 1) * P) (hd : d * v2 ≤ top3) (hd2 : d ≤ v2 + 1) : d ≤ Q + 1 := by
  apply Decidable.byContradiction
  intro hn
  obtain ⟨e, rfl⟩ : ∃ e, d = e + 1 := ⟨d - 1, by omega⟩
  have h1 : (Q + 1) * V ≤ e * V := Nat.mul_le_mul_right _ (by omega)
  have h2 : e * V ≤ e * ((v2 + 1) * P) := Nat.mul_le_mul_left _ (Nat.le_of_lt hV)
  have h3 : e * (v2 + 1) ≤ top3 := by
    rw [Nat.add_mul] at hd
    rw [Nat.mul_add]
    omega
  have h4 : e * (v2 + 1) * P ≤ top3 * P := Nat.mul_le_mul_right _ h3
  rw [Nat.mul_assoc] at h4
  omega
structure Guess (B top high Q d r : Nat) : Prop where
  eq : d * high + r = top
  ge : Q ≤ d
  le : d ≤ B + 1
  rest : B ≤ d → r < B
theorem guess_start {B top high hi lo Q : Nat} (hB : 2 ≤ B) (ht : top = hi * B + lo) (hlo : lo < B) (hhi : hi ≤ high) (hh : B ≤ 2 * high) (hh2 : high < B) (hQ : Q ≤ top / high) : Guess B top high Q (top / high) (top % high) := by
  refine ⟨by rw [Nat.mul_comm]; exact Nat.div_add_mod top high, hQ, ?_, fun _ => Nat.lt_trans (Nat.mod_lt _ (by omega)) hh2⟩
  have h1 : top ≤ high * B + (B - 1) := by
    rw [ht]
    have := Nat.mul_le_mul_right B hhi
    omega
  have h2 : top < (B + 2) * high := by
    rw [Nat.add_mul, Nat.mul_comm B high]
    omega
  have h3 : top / high < B + 2 := (Nat.div_lt_iff_lt_mul (by omega)).2 h2
  omega
theorem guess_step {B top high hi lo Q d r : Nat} (h : Guess B top high Q d r) (ht : top = hi * B + lo) (hlo : lo < B) (hhi : hi ≤ high) (hh : B ≤ 2 * high) (hr : r < B) (hQ : Q < d) : Guess B top high Q (d - 1) (r + high) ∧ 0 < d := by
  obtain ⟨h1, h2, h3, h4⟩ := h
  obtain ⟨e, rfl⟩ : ∃ e, d = e + 1 := ⟨d - 1, by omega⟩
  rw [Nat.add_mul, Nat.one_mul] at h1
  refine ⟨⟨by rw [Nat.add_sub_cancel]; omega, by omega, by omega, fun hB2 => ?_⟩, by omega⟩
  rw [Nat.add_sub_cancel] at hB2
  obtain rfl : e = B := by omega
  have h5 : hi * e ≤ high * e := Nat.mul_le_mul_right _ hhi
  rw [Nat.mul_comm e high] at h1
  omega
theorem guess_big {B top high Q d r : Nat} (h : Guess B top high Q d r) (hB : 1 ≤ B) (hr : B ≤ r) : d ≤ B - 1 := by
  apply Decidable.byContradiction
  intro hn
  have := h.rest (by omega)
  omega
end Go.Proofs.Ytpefjkndfifceaa
namespace Go.Proofs.Ytpefjkndfifceaa
open Go.RowKit
theorem subD_eq {x y b : Nat} (hx : x < 4294967296) (hy : y < 4294967296) (hb : b ≤ 1) : subD x y b + y + b = x + 4294967296 * subB x y b ∧ subD x y b < 4294967296 ∧ subB x y b ≤ 1 := by
  unfold subD subB at *
  split <;> omega
structure Taken (V W W' : List Nat) (d i carry borrow : Nat) : Prop where
  len : W'.length = W.length
  lim : Lim W'
  val : val32 (W'.take i) + d * val32 (V.take i) = val32 (W.take i) + 4294967296 ^ i * (carry + borrow)
  rest : ∀ j, i ≤ j → W'[j]?.getD 0 = W[j]?.getD 0
  carry : carry < 4294967296
  borrow : borrow ≤ 1
theorem taken_start {V W : List Nat} {d : Nat} (hW : Lim W) : Taken V W W d 0 0 0 := ⟨rfl, hW, by simp [val32, valB], fun _ _ => rfl, by decide, by decide⟩
theorem take_set_succ (W : List Nat) (i x : Nat) (hi : i < W.length) : (W.set i x).take (i + 1) = W.take i ++ [x] := by
  rw [take_snocN _ _ (by simpa using hi)]
  rw [List.take_set_of_le (Nat.le_refl _)]
  simp [hi]
theorem carry_bound {c d x : Nat} (hc : c < 4294967296) (hd : d < 4294967296) (hx : x < 4294967296) : c + d * x < 4294967296 * 4294967296 ∧ (c + d * x) / 4294967296 < 4294967296 := by
  have h : d * x ≤ (4294967296 - 1) * (4294967296 - 1) := Nat.mul_le_mul (by omega) (by omega)
  have h2 : c + d * x < 4294967296 * 4294967296 := by omega
  exact ⟨h2, Nat.div_lt_of_lt_mul h2⟩
theorem taken_step {V W W' : List Nat} {d i c b : Nat} (h : Taken V W W' d i c b) (hV : Lim V) (hW : Lim W) (hd : d < 4294967296) (hi : i < V.length) (hl : W.length = V.length + 1) :
    Taken V W (W'.set i (subD (W'[i]?.getD 0) ((c + d * (V[i]?.getD 0)) % 4294967296) b)) d (i + 1) ((c + d * (V[i]?.getD 0)) / 4294967296) (subB (W'[i]?.getD 0) ((c + d * (V[i]?.getD 0)) % 4294967296) b) := by
  obtain ⟨h1, h2, h3, h4, h5, h6⟩ := h
  have hwi := h4 i (Nat.le_refl _)
  have hw := lim_get h2 i
  have hv := lim_get hV i
  have hbd := carry_bound h5 hd hv
  have hs := subD_eq (x := W'[i]?.getD 0) (y := (c + d * (V[i]?.getD 0)) % 4294967296) (b := b) hw (Nat.mod_lt _ (by decide)) h6
  have hm := Nat.mod_add_div (c + d * (V[i]?.getD 0)) 4294967296
  refine ⟨by simp [h1], mem_set h2 hs.2.1, ?_, fun j hj => by rw [getD_set _ _ _ _ (by omega), if_neg (by omega)]; exact h4 j (by omega), hbd.2, hs.2.2⟩
  have hval := valB_succ (b := 4294967296) V i
  have hval2 := valB_succ (b := 4294967296) W i
  rw [take_set_succ _ _ _ (by omega)]
  simp only [val32] at *
  rw [valB_snoc, List.length_take, Nat.min_eq_left (by omega), hval, hval2]
  generalize hC : c + d * (V[i]?.getD 0) = C at *
  rw [hwi] at hs ⊢
  generalize hS : subD (W[i]?.getD 0) (C % 4294967296) b = S at *
  generalize hT : subB (W[i]?.getD 0) (C % 4294967296) b = T at *
  generalize hP : 4294967296 ^ i = P at *
  rw [Nat.pow_succ, hP, Nat.mul_add]
  have e1 : d * (P * (V[i]?.getD 0)) = P * (d * (V[i]?.getD 0)) := by rw [Nat.mul_left_comm]
  have e2 : P * c + P * (d * (V[i]?.getD 0)) = P * C := by rw [← Nat.mul_add, hC]
  have e3 : P * S + P * (C % 4294967296) + P * b = P * (W[i]?.getD 0) + P * 4294967296 * T := by
    rw [Nat.mul_assoc, ← Nat.mul_add, ← Nat.mul_add, ← Nat.mul_add, hs.1]
  have e4 : P * (C % 4294967296) + P * 4294967296 * (C / 4294967296) = P * C := by rw [Nat.mul_assoc, ← Nat.mul_add, hm]
  have e5 := h3
  rw [Nat.mul_add] at e5
  rw [Nat.mul_add (P * 4294967296), e1]
  omega
theorem taken_end {V W W' : List Nat} {d c b : Nat} (h : Taken V W W' d V.length c b) (hW : Lim W) (hl : W.length = V.length + 1) :
    let x := W'[V.length]?.getD 0
    val32 (W'.set V.length (subD x c b)) + d * val32 V = val32 W + 4294967296 ^ (V.length + 1) * subB x c b ∧ (W'.set V.length (subD x c b)).length = W.length ∧ Lim (W'.set V.length (subD x c b)) ∧ subB x c b ≤ 1 := by
  intro x
  obtain ⟨h1, h2, h3, h4, h5, h6⟩ := h
  have hwi := h4 V.length (Nat.le_refl _)
  have hw := lim_get h2 V.length
  have hs := subD_eq (x := x) (y := c) (b := b) hw h5 h6
  refine ⟨?_, by simp [h1], mem_set h2 hs.2.1, hs.2.2⟩
  have ha : W'.set V.length (subD x c b) = W'.take V.length ++ [subD x c b] := by
    rw [← take_set_succ _ _ _ (by omega), List.take_of_length_le (by simp; omega)]
  have hb : W = W.take V.length ++ [W[V.length]?.getD 0] := by
    rw [← take_snocN _ _ (by omega), List.take_of_length_le (by omega)]
  have hc : val32 W = val32 (W.take V.length) + 4294967296 ^ V.length * (W[V.length]?.getD 0) := by
    conv => lhs; rw [hb]
    simp only [val32]
    rw [valB_snoc, List.length_take, Nat.min_eq_left (by omega)]
  rw [ha, hc]
  rw [List.take_length] at h3
  simp only [val32] at *
  rw [valB_snoc, List.length_take, Nat.min_eq_left (by omega), Nat.pow_succ]
  have hx : x = W[V.length]?.getD 0 := hwi
  rw [← hx]
  generalize hP : 4294967296 ^ V.length = P at *
  have e3 : P * subD x c b + P * c + P * b = P * x + P * 4294967296 * subB x c b := by
    rw [Nat.mul_assoc, ← Nat.mul_add, ← Nat.mul_add, ← Nat.mul_add, hs.1]
  rw [Nat.mul_add] at h3
  omega
structure Back (V W W' : List Nat) (i over : Nat) : Prop where
  len : W'.length = W.length
  lim : Lim W'
  val : val32 (W'.take i) + 4294967296 ^ i * over = val32 (W.take i) + val32 (V.take i)
  rest : ∀ j, i ≤ j → W'[j]?.getD 0 = W[j]?.getD 0
  over : over ≤ 1
theorem back_start {V W : List Nat} (hW : Lim W) : Back V W W 0 0 := ⟨rfl, hW, by simp [val32, valB], fun _ _ => rfl, by decide⟩
theorem back_step {V W W' : List Nat} {i o : Nat} (h : Back V W W' i o) (hV : Lim V) (hi : i < V.length) (hl : W.length = V.length + 1) :
    Back V W (W'.set i ((W'[i]?.getD 0 + V[i]?.getD 0 + o) % 4294967296)) (i + 1) ((W'[i]?.getD 0 + V[i]?.getD 0 + o) / 4294967296) := by
  obtain ⟨h1, h2, h3, h4, h5⟩ := h
  have hwi := h4 i (Nat.le_refl _)
  have hw := lim_get h2 i
  have hv := lim_get hV i
  refine ⟨by simp [h1], mem_set h2 (Nat.mod_lt _ (by decide)), ?_, fun j hj => by rw [getD_set _ _ _ _ (by omega), if_neg (by omega)]; exact h4 j (by omega), by omega⟩
  have hval := valB_succ (b := 4294967296) V i
  have hval2 := valB_succ (b := 4294967296) W i
  rw [take_set_succ _ _ _ (by omega)]
  simp only [val32] at *
  rw [valB_snoc, List.length_take, Nat.min_eq_left (by omega), hval, hval2, hwi]
  have hm := Nat.mod_add_div (W[i]?.getD 0 + V[i]?.getD 0 + o) 4294967296
  generalize hC : W[i]?.getD 0 + V[i]?.getD 0 + o = C at *
  generalize hP : 4294967296 ^ i = P at *
  rw [Nat.pow_succ, hP]
  have e1 : P * (C % 4294967296) + P * 4294967296 * (C / 4294967296) = P * C := by rw [Nat.mul_assoc, ← Nat.mul_add, hm]
  have e2 : P * C = P * (W[i]?.getD 0) + P * (V[i]?.getD 0) + P * o := by rw [← hC, Nat.mul_add, Nat.mul_add]
  omega
structure Places (X v q m : Nat) (L Q : List Nat) (k : Nat) : Prop where
  llen : L.length = m + q
  qlen : Q.length = m
  le : k ≤ m
  llim : Lim L
  qlim : Lim Q
  all : X = val32 (L.take (k + q)) + 4294967296 ^ k * (v * val32 (Q.drop k))
  less : val32 ((L.drop k).take q) < v
  zeros : ∀ j, j < k → Q[j]?.getD 0 = 0
structure Window (L A W Z : List Nat) (t q : Nat) : Prop where
  eq : L = A ++ (W ++ Z)
  alen : A.length = t
  wlen : W.length = q + 1
theorem window_of {L : List Nat} {t q : Nat} (h : t + q + 1 ≤ L.length) : Window L (L.take t) ((L.drop t).take (q + 1)) (L.drop (t + (q + 1))) t q :=
  ⟨by rw [← List.drop_drop, List.take_append_drop, List.take_append_drop], by simp; omega, by simp; omega⟩
theorem Window.lim {L A W Z : List Nat} {t q : Nat} (h : Window L A W Z t q) (hL : Lim L) : Lim A ∧ Lim W ∧ Lim Z := by
  rw [h.eq] at hL
  exact ⟨fun x hx => hL x (by simp [hx]), fun x hx => hL x (by simp [hx]), fun x hx => hL x (by simp [hx])⟩
theorem Window.get {L A W Z : List Nat} {t q : Nat} (h : Window L A W Z t q) (j : Nat) (hj : j ≤ q) : L[t + j]?.getD 0 = W[j]?.getD 0 := by
  rw [h.eq, List.getElem?_append_right (by rw [h.alen]; omega), h.alen, Nat.add_sub_cancel_left, List.getElem?_append_left (by rw [h.wlen]; omega)]
theorem Window.set {L A W Z : List Nat} {t q : Nat} (h : Window L A W Z t q) (j x : Nat) (hj : j ≤ q) : Window (L.set (t + j) x) A (W.set j x) Z t q :=
  ⟨by rw [h.eq, List.set_append_right _ _ (by rw [h.alen]; omega), h.alen, Nat.add_sub_cancel_left, List.set_append_left _ _ (by rw [h.wlen]; omega)], h.alen, by rw [List.length_set, h.wlen]⟩
theorem Window.of_eq {A W Z : List Nat} {t q : Nat} (ha : A.length = t) (hw : W.length = q + 1) : Window (A ++ (W ++ Z)) A W Z t q := ⟨rfl, ha, hw⟩
theorem Window.take {L A W Z : List Nat} {t q : Nat} (h : Window L A W Z t q) (j : Nat) (hj : j ≤ q + 1) : L.take (t + j) = A ++ W.take j ∧ (L.drop t).take j = W.take j := by
  have hw := h.wlen
  have ha := h.alen
  constructor
  · rw [h.eq, List.take_append, ha, Nat.add_sub_cancel_left, List.take_of_length_le (by omega), List.take_append_of_le_length (by omega)]
  · rw [h.eq, List.drop_append, ha, Nat.sub_self, List.drop_of_length_le (by omega), List.nil_append, List.drop_zero, List.take_append_of_le_length (by omega)]
theorem Places.window {X v q m : Nat} {L Q A W Z : List Nat} {t : Nat} (h : Places X v q m L Q (t + 1)) (hw : Window L A W Z t q) : val32 W < 4294967296 * v := by
  have hL := hw.lim h.llim
  have h1 := h.less
  have h2 : (L.drop (t + 1)).take q = W.drop 1 := by
    have := (hw.take (q + 1) (Nat.le_refl _)).2
    rw [List.take_of_length_le (l := W) (by rw [hw.wlen]; omega)] at this
    rw [← this, List.drop_take, List.drop_drop, Nat.add_sub_cancel]
  rw [h2] at h1
  have hl := hw.wlen
  cases W with
  | nil => simp at hl
  | cons d t' =>
    have hd := hL.2.1 d List.mem_cons_self
    simp only [List.drop_succ_cons, List.drop_zero] at h1
    show d + 4294967296 * valB 4294967296 t' < 4294967296 * v
    have h3 : 4294967296 * (valB 4294967296 t' + 1) ≤ 4294967296 * v := Nat.mul_le_mul_left _ h1
    rw [Nat.mul_add] at h3
    omega
theorem Places.step {X v q m : Nat} {L Q A W W' Z : List Nat} {t : Nat} (h : Places X v q m L Q (t + 1)) (hw : Window L A W Z t q) (hl : W'.length = q + 1) (hlim : Lim W') (hv : 0 < v) (hval : val32 (W'.take q) = val32 W % v) :
    Places X v q m (A ++ (W' ++ Z)) (Q.set t (val32 W / v)) t := by
  have hlt := h.window hw
  have hL := hw.lim h.llim
  have hw' := Window.of_eq (Z := Z) hw.alen hl
  obtain ⟨h1, h2, h3, h4, h5, h6, h7, h8⟩ := h
  have hz := hw.alen
  have hwl := hw.wlen
  have hq : val32 W / v < 4294967296 := Nat.div_lt_of_lt_mul (by rw [Nat.mul_comm]; exact hlt)
  refine ⟨?_, by simp [h2], by omega, ?_, mem_set h5 hq, ?_, ?_, ?_⟩
  · rw [hw.eq] at h1
    simp only [List.length_append] at h1 ⊢
    omega
  · intro x hx
    simp only [List.mem_append] at hx
    rcases hx with hx | hx | hx
    · exact hL.1 x hx
    · exact hlim x hx
    · exact hL.2.2 x hx
  · rw [(hw'.take q (by omega)).1]
    have e0 : L.take (t + 1 + q) = A ++ W := by
      rw [show t + 1 + q = t + (q + 1) by omega, (hw.take (q + 1) (Nat.le_refl _)).1, List.take_of_length_le (by omega)]
    rw [e0] at h6
    have e1 : (Q.set t (val32 W / v)).drop t = val32 W / v :: Q.drop (t + 1) := by
      rw [List.drop_set, if_neg (by omega), Nat.sub_self, List.drop_eq_getElem_cons (by omega), List.set_cons_zero]
    rw [e1]
    simp only [val32] at *
    rw [valB_append, hz] at h6 ⊢
    rw [hval, h6]
    show _ = _ + 4294967296 ^ t * (v * (valB 4294967296 W / v + 4294967296 * valB 4294967296 (Q.drop (t + 1))))
    have e2 := Nat.mod_add_div (valB 4294967296 W) v
    rw [Nat.pow_succ, Nat.mul_add v, Nat.mul_add (4294967296 ^ t)]
    have e3 : 4294967296 ^ t * 4294967296 * (v * valB 4294967296 (Q.drop (t + 1))) = 4294967296 ^ t * (v * (4294967296 * valB 4294967296 (Q.drop (t + 1)))) := by
      rw [Nat.mul_assoc, Nat.mul_left_comm 4294967296 v]
    have e4 : 4294967296 ^ t * valB 4294967296 W = 4294967296 ^ t * (valB 4294967296 W % v) + 4294967296 ^ t * (v * (valB 4294967296 W / v)) := by rw [← Nat.mul_add, e2]
    rw [e3, e4]
    omega
  · rw [(hw'.take q (by omega)).2, hval]
    exact Nat.mod_lt _ hv
  · intro j hj
    rw [getD_set _ _ _ _ (by omega), if_neg (by omega)]
    exact h8 j (by omega)
theorem Places.fin {X v q m : Nat} {L Q : List Nat} (h : Places X v q m L Q 0) : val32 Q = X / v ∧ val32 (L.take q) = X % v := by
  have h1 := h.all
  have h2 := h.less
  rw [Nat.zero_add, Nat.pow_zero, Nat.one_mul, List.drop_zero] at h1
  rw [List.drop_zero] at h2
  have hv : 0 < v := by omega
  subst h1
  constructor
  · rw [Nat.add_mul_div_left _ _ hv, Nat.div_eq_of_lt h2, Nat.zero_add]
  · rw [Nat.add_mul_mod_self_left, Nat.mod_eq_of_lt h2]
theorem places_start {X v q m : Nat} {L : List Nat} (hL : Lim L) (hl : L.length = m + q) (hX : val32 L = X) (hlt : X < 4294967296 ^ m * v) : Places X v q m L (List.replicate m 0) m := by
  refine ⟨hl, by simp, Nat.le_refl _, hL, fun x hx => by rw [List.eq_of_mem_replicate hx]; decide, ?_, ?_, fun j hj => by simp [hj]⟩
  · rw [List.drop_of_length_le (by simp), List.take_of_length_le (by omega), hX]
    simp [val32, valB]
  · rw [List.take_of_length_le (by simp; omega)]
    simp only [val32] at *
    rw [valB_drop (by decide) hL, hX]
    exact Nat.div_lt_of_lt_mul hlt
theorem taken_fits {V W W2 : List Nat} {d Q : Nat} (hd : val32 W2 + d * val32 V = val32 W) (hQ : Q = val32 W / val32 V) (hge : Q ≤ d) (hv : 0 < val32 V) : d = Q ∧ val32 W2 = val32 W % val32 V := by
  have h1 : d * val32 V ≤ val32 W := by omega
  have h2 : d ≤ val32 W / val32 V := (Nat.le_div_iff_mul_le hv).2 h1
  obtain rfl : d = Q := by omega
  refine ⟨rfl, ?_⟩
  have h3 := Nat.mod_add_div (val32 W) (val32 V)
  rw [← hQ, Nat.mul_comm] at h3
  omega
theorem taken_over {V W W2 W3 : List Nat} {d Q o q : Nat} (hd : val32 W2 + d * val32 V = val32 W + 4294967296 ^ (q + 1)) (hQ : Q = val32 W / val32 V) (hle : d ≤ Q + 1) (hv : 0 < val32 V) (hW2 : Lim W2) (hl2 : W2.length = q + 1) (hW3 : Lim W3) (hVl : val32 V < 4294967296 ^ q) (hl3 : W3.length = q + 1)
    (hb : val32 (W3.take q) + 4294967296 ^ q * o = val32 (W2.take q) + val32 V) : d = Q + 1 ∧ val32 (W3.take q) = val32 W % val32 V := by
  have h1 := valB_lt (b := 4294967296) (by decide) hW2
  rw [hl2] at h1
  have h2 : val32 W / val32 V < d := by
    rw [Nat.div_lt_iff_lt_mul hv]
    simp only [val32] at *
    omega
  have h3 : d = Q + 1 := by omega
  refine ⟨h3, ?_⟩
  have h4 := Nat.mod_add_div (val32 W) (val32 V)
  have h5 : d * val32 V = val32 V * (val32 W / val32 V) + val32 V := by rw [h3, hQ, Nat.add_mul, Nat.mul_comm]; omega
  have h6 : val32 W2 = val32 (W2.take q) + 4294967296 ^ q * (W2[q]?.getD 0) := by
    have := valB_succ (b := 4294967296) W2 q
    rwa [List.take_of_length_le (by omega)] at this
  have h7 : val32 (W3.take q) + 4294967296 ^ q * (o + W2[q]?.getD 0) = val32 W % val32 V + 4294967296 ^ q * 4294967296 := by
    rw [Nat.pow_succ] at hd
    rw [Nat.mul_add]
    omega
  have h8 : (val32 (W3.take q) + 4294967296 ^ q * (o + W2[q]?.getD 0)) % 4294967296 ^ q = (val32 W % val32 V + 4294967296 ^ q * 4294967296) % 4294967296 ^ q := by rw [h7]
  rw [Nat.add_mul_mod_self_left, Nat.add_mul_mod_self_left] at h8
  have h9 := valB_lt (b := 4294967296) (by decide) (l := W3.take q) (fun x hx => hW3 x (List.mem_of_mem_take hx))
  rw [List.length_take, Nat.min_eq_left (by omega)] at h9
  have h10 := Nat.mod_lt (val32 W) hv
  rwa [Nat.mod_eq_of_lt h9, Nat.mod_eq_of_lt (by omega)] at h8
theorem low_window {W : List Nat} {q v : Nat} (hW : Lim W) (hl : W.length = q + 1) (hv : v < 4294967296 ^ q) (hx : val32 W < v) : val32 (W.take q) = val32 W % v := by
  simp only [val32] at *
  rw [valB_take (by decide) hW, Nat.mod_eq_of_lt (by omega), Nat.mod_eq_of_lt hx]
end Go.Proofs.Ytpefjkndfifceaa
namespace Go.Proofs.Ytpefjkndfifceaa
open Go.RowKit
theorem unsh_step {u lj s c B : Nat} (hs : 0 < s) (hB : B = s * c) (hB0 : 0 < B) (hl : lj < B) : ((u % B) * B + lj) / s % B + B * (u / s) = (lj + B * u) / s := by
  have h1 : u % B % s = u % s := by rw [hB]; exact Nat.mod_mul_right_mod u s c
  have h2 := Nat.mod_add_div u s
  have h3 := Nat.mod_add_div (u % B) s
  rw [h1] at h3
  generalize ha : u / s = a at *
  generalize hb : u % s = b at *
  generalize he : (u % B) / s = e at *
  have hbs : b < s := by rw [← hb]; exact Nat.mod_lt _ hs
  have e1 : (u % B) * B + lj = s * (e * B) + (b * B + lj) := by rw [← h3, Nat.add_mul, Nat.mul_assoc]; omega
  have e2 : lj + B * u = s * (B * a) + (b * B + lj) := by
    rw [← h2, Nat.mul_add, Nat.mul_comm B b, Nat.mul_left_comm B s a]; omega
  rw [e1, e2, Nat.mul_add_div hs, Nat.mul_add_div hs]
  have h4 : (b * B + lj) / s < B := by
    rw [Nat.div_lt_iff_lt_mul hs]
    have : (b + 1) * B ≤ s * B := Nat.mul_le_mul_right _ hbs
    rw [Nat.add_mul, Nat.one_mul] at this
    rw [Nat.mul_comm B s]
    omega
  rw [Nat.mul_comm e B, Nat.mul_add_mod, Nat.mod_eq_of_lt h4]
  omega
structure Unsh (l O : List Nat) (n k hi : Nat) : Prop where
  len : O.length = l.length
  lim : Lim O
  val : val32 (O.drop k) = val32 (l.drop k) / 2 ^ n
  top : hi % 4294967296 = l[k]?.getD 0
  low : ∀ j, j < k → O[j]?.getD 0 = 0
theorem unsh_start {l O : List Nat} {n : Nat} (h : O = List.replicate l.length 0) : Unsh l O n l.length 0 := by
  subst h
  exact ⟨by simp, fun x hx => by rw [List.eq_of_mem_replicate hx]; decide, by rw [List.drop_of_length_le (by simp), List.drop_of_length_le (Nat.le_refl _)]; simp [val32, valB], by rw [List.getElem?_eq_none (Nat.le_refl _)]; rfl, fun j hj => by simp [hj]⟩
theorem two_pow_dvd {n : Nat} (hn : n < 32) : 4294967296 = 2 ^ n * 2 ^ (32 - n) := by rw [← Nat.pow_add, show n + (32 - n) = 32 by omega]
theorem unsh_next {l O : List Nat} {n k hi : Nat} (h : Unsh l O n (k + 1) hi) (hl : Lim l) (hn : n < 32) (hk : k < l.length) :
    Unsh l (O.set k (((hi % 4294967296) * 4294967296 + l[k]?.getD 0) / 2 ^ n % 4294967296)) n k ((hi % 4294967296) * 4294967296 + l[k]?.getD 0) := by
  obtain ⟨h1, h2, h3, h4, h5⟩ := h
  have hx := lim_get hl k
  refine ⟨by simp [h1], mem_set h2 (Nat.mod_lt _ (by decide)), ?_, by rw [Nat.mul_add_mod_self_right]; exact Nat.mod_eq_of_lt hx, fun j hj => by rw [getD_set _ _ _ _ (by omega), if_neg (by omega)]; exact h5 j (by omega)⟩
  have e1 : (O.set k (((hi % 4294967296) * 4294967296 + l[k]?.getD 0) / 2 ^ n % 4294967296)).drop k = ((hi % 4294967296) * 4294967296 + l[k]?.getD 0) / 2 ^ n % 4294967296 :: O.drop (k + 1) := by
    rw [List.drop_set, if_neg (by omega), Nat.sub_self, List.drop_eq_getElem_cons (by omega), List.set_cons_zero]
  have e2 : l.drop k = (l[k]?.getD 0) :: l.drop (k + 1) := by
    rw [List.drop_eq_getElem_cons hk, List.getElem?_eq_getElem hk]; rfl
  rw [e1, e2]
  simp only [val32] at *
  show _ + 4294967296 * valB 4294967296 (O.drop (k + 1)) = (l[k]?.getD 0 + 4294967296 * valB 4294967296 (l.drop (k + 1))) / 2 ^ n
  rw [h3]
  have h6 : hi % 4294967296 = valB 4294967296 (l.drop (k + 1)) % 4294967296 := by
    have := valB_get (b := 4294967296) (by decide) (l := l.drop (k + 1)) (fun x hx => hl x (List.mem_of_mem_drop hx)) 0
    rw [List.getElem?_drop, Nat.add_zero, Nat.pow_zero, Nat.div_one] at this
    rw [h4, this]
  rw [h6]
  exact unsh_step (Nat.pow_pos (by decide)) (two_pow_dvd hn) (by decide) hx
theorem unsh_fin {l O : List Nat} {n hi : Nat} (h : Unsh l O n 0 hi) : val32 O = val32 l / 2 ^ n := by
  have := h.val
  rwa [List.drop_zero, List.drop_zero] at this
theorem lead_bound {x : Nat} (h0 : 0 < x) (hx : x < 4294967296) : bitsN x ≤ 32 ∧ 1 ≤ bitsN x ∧ 2147483648 ≤ x * 2 ^ (32 - bitsN x) ∧ x * 2 ^ (32 - bitsN x) < 4294967296 := by
  have h1 := (bitsN_le x 32).2 hx
  have h2 : 1 ≤ bitsN x := by
    apply Decidable.byContradiction
    intro h
    have := (bitsN_le x 0).1 (by omega)
    omega
  refine ⟨h1, h2, ?_, ?_⟩
  · have h3 : ¬ x < 2 ^ (bitsN x - 1) := fun h => by have := (bitsN_le x (bitsN x - 1)).2 h; omega
    have h4 : 2 ^ (bitsN x - 1) * 2 ^ (32 - bitsN x) ≤ x * 2 ^ (32 - bitsN x) := Nat.mul_le_mul_right _ (by omega)
    rw [← Nat.pow_add, show bitsN x - 1 + (32 - bitsN x) = 31 by omega] at h4
    exact h4
  · have h3 := (bitsN_le x (bitsN x)).1 (Nat.le_refl _)
    have h4 : x * 2 ^ (32 - bitsN x) < 2 ^ bitsN x * 2 ^ (32 - bitsN x) := Nat.mul_lt_mul_of_pos_right h3 (Nat.pow_pos (by decide))
    rw [← Nat.pow_add, show bitsN x + (32 - bitsN x) = 32 by omega] at h4
    exact h4
end Go.Proofs.Ytpefjkndfifceaa
