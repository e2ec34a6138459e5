/-
  THE REFERENCE's Sub. (Written by wip/gen_refC.py.)
-/
import Derived.Test.YtanimenpkinapaaRefA
namespace Go.Proofs.Ytanimenpkinapaa
open Go.RowKit
namespace rf

def subR (x y : Nat) : List Nat × Int := if x < topN ∧ y < topN ∧ y ≤ x then (nat32 (x - y), 0) else ([], 20)
theorem subR_yes {x y : Nat} (h : x < topN ∧ y < topN ∧ y ≤ x) : subR x y = (nat32 (x - y), 0) := if_pos h
theorem subR_no {x y : Nat} (h : ¬ (x < topN ∧ y < topN ∧ y ≤ x)) : subR x y = ([], 20) := if_neg h

def SubI (A B : List Nat) (k : Nat) (O : List Nat) (c : Nat) : Prop := O.length = k ∧ Byt O ∧ c ≤ 1 ∧ valB 256 O + valB 256 (B.take k) = valB 256 (A.take k) + 256 ^ k * c

theorem subI_nil (A B : List Nat) : SubI A B 0 [] 0 := ⟨rfl, fun _ h => (by cases h), by omega, rfl⟩

theorem subI_step {A B : List Nat} {k : Nat} {O : List Nat} {c : Nat} (hA : Byt A) (hB : Byt B) (h : SubI A B k O c) (s c' : Nat) (hc' : c' ≤ 1) (hs : s + c + B[k]?.getD 0 = A[k]?.getD 0 + 256 * c') (hs2 : s < 256) : SubI A B (k + 1) (O ++ [s]) c' := by
  obtain ⟨h1, h2, h3, h4⟩ := h
  refine ⟨by rw [List.length_append, h1]; rfl, ?_, hc', ?_⟩
  · intro x hx
    rcases List.mem_append.1 hx with h | h
    · exact h2 x h
    · obtain rfl := List.mem_singleton.1 h; exact hs2
  · rw [valB_snoc, valB_succ, valB_succ, h1, Nat.pow_succ]
    generalize 256 ^ k = p at *
    generalize A[k]?.getD 0 = a at *
    generalize B[k]?.getD 0 = b at *
    have e : p * (s + c + b) = p * (a + 256 * c') := by rw [hs]
    rw [Nat.mul_add, Nat.mul_add, Nat.mul_add, ← Nat.mul_assoc p 256 c'] at e
    omega

theorem subI_end {A B : List Nat} {k c : Nat} {O : List Nat} (h : SubI A B k O c) (hA : A.length ≤ k) (hB : B.length ≤ k) (hle : valB 256 B ≤ valB 256 A) : valB 256 O = valB 256 A - valB 256 B := by
  obtain ⟨h1, h2, h3, h4⟩ := h
  rw [List.take_of_length_le hA, List.take_of_length_le hB] at h4
  have hv := valB_lt (b := 256) (by decide) h2
  rw [h1] at hv
  have : c = 0 := by
    rcases Nat.eq_zero_or_pos c with h | h
    · exact h
    · obtain rfl : c = 1 := by omega
      omega
  subst this
  omega

set_option maxRecDepth 100000 in
set_option maxHeartbeats 4000000 in
theorem sub_any (a a' : Option Addr) (n c n' c' : Nat) (l l' : List Nat) (w : World) (h : Reads .u32 w a n c l) (h' : Reads .u32 w a' n' c' l') (hL : Lim l) (hL' : Lim l') (hm : n ≤ 1000000000000) (hm' : n' ≤ 1000000000000) :
    Calls Try.prog 29 #[.slice a n c, .slice a' n' c'] w fun e w' => RetsQ2 .u32 54 w.heap.size w' (subR (val32 l) (val32 l')) e ∧ Below w.heap.size w w' := by
  obtain ⟨i0, hi, hz0, hz1, hz2⟩ := info_parts infoI
  have HMY := Lib.hid (may_any a a' n c n' c' l l' w h h' hL hL' hm hm' _ rfl)
  have HCM := Lib.hid (fun (w1 : World) (hb : Below w.heap.size w w1) => cmp_any a a' n c n' c' l l' w1 (h.below hb) (h'.below hb) hL hL' hm hm' _ rfl)
  by_cases hin : val32 l < topN ∧ val32 l' < topN
  · rw [decide_eq_true hin] at HMY
    by_cases hle : val32 l' ≤ val32 l
    · rw [subR_yes ⟨hin.1, hin.2, hle⟩]
      have hord : 0 ≤ ordR (val32 l) (val32 l') := by unfold ordR; rw [if_neg (by omega)]; split <;> decide
      generalize ordR (val32 l) (val32 l') = o at *
      have ht1 : decide (o < 0) = false := by simp; omega
      have HIN := Lib.hid (show val32 l - val32 l' < topN from Nat.lt_of_le_of_lt (Nat.sub_le _ _) hin.1)
      have HR := Lib.hid h
      have HL := Lib.hid hL
      have HR' := Lib.hid h'
      have HL' := Lib.hid hL'
      have hlb : (natB 256 (val32 l)).length ≤ 1024 := (nat256_le _).2 hin.1
      have hlb' : (natB 256 (val32 l')).length ≤ 1024 := (nat256_le _).2 hin.2
      have hll : (natB 256 (val32 l')).length ≤ (natB 256 (val32 l)).length := Nat.le_of_not_lt fun hc => by have := longer hc; omega
      have HLE := Lib.hid hle
      have BA := Lib.hid (show Byt (natB 256 (val32 l)) from natB_digit (by decide) _)
      have BB := Lib.hid (show Byt (natB 256 (val32 l')) from natB_digit (by decide) _)
      have HV1 := Lib.hid (natB_val (b := 256) (by decide) (val32 l))
      have HV2 := Lib.hid (natB_val (b := 256) (by decide) (val32 l'))
      clear h h' hL hL' hin hord hle
      go_enter Try.func29, Try.ntmps29
      go_wp2_with fail
      refine HMY.out.mono ?_
      rintro e w0 ⟨rfl, hb0⟩
      have H0 := Lib.hid hb0
      clear hb0
      go_wp2_with fail
      refine (HCM.out _ H0.out).mono ?_
      rintro e w0' ⟨rfl, hb0⟩
      have H0' := Lib.hid (H0.out.trans (hb0.mono H0.out.size))
      clear hb0
      go_wp2_with fail
      refine (digits_any a n c l _ (HR.out.below H0'.out) HL.out hm).mono ?_
      rintro e w1 ⟨⟨v, rfl, ho⟩, hb⟩
      obtain ⟨a1, n1, c1, rfl, hn1, ho1⟩ := own_slice ho
      have HB := Lib.hid (H0'.out.trans (hb.mono H0'.out.size))
      have HO1 := Lib.hid ho1.reads
      have hx1 : n1 ≤ 1024 := by omega
      have HN1 := Lib.hid hn1
      rw [← hn1] at hll
      clear ho ho1 hb hn1 hlb
      go_wp2_with fail
      refine (digits_any a' n' c' l' _ (HR'.out.below HB.out) HL'.out hm').mono ?_
      rintro e w2 ⟨⟨v, rfl, ho⟩, hb⟩
      obtain ⟨a2, n2, c2, rfl, hn2, ho2⟩ := own_slice ho
      have HB2 := Lib.hid (HB.out.trans (hb.mono HB.out.size))
      have R1 := Lib.hid (HO1.out.below hb)
      have R2 := Lib.hid ho2.reads
      have HN2 := Lib.hid hn2
      rw [← hn2] at hll
      clear ho ho2 hb hn2 hlb'
      clear HO1 HB HMY HR HL HR' HL' H0 H0' HCM
      generalize hxx : val32 l = x at *
      generalize hyy : val32 l' = y at *
      have HXX := Lib.hid hxx
      have HYY := Lib.hid hyy
      clear hxx hyy
      generalize natB 256 x = A at *
      generalize natB 256 y = B at *
      go_wp2
      go_loopw [10, 11, 12, 13] (fun v s i _ wr => ∃ (k t : Nat) (O : List Nat), i = .int .i64 (k : Int) ∧ s = .int .i64 (t : Int) ∧ t ≤ 1 ∧ k ≤ n1 ∧ Hid (SubI A B k O t) ∧ OwnQ .i64 3 w2.heap.size wr v O ∧ Hid (Below w2.heap.size w2 wr)) (fun _ _ i _ _ => n1 - (intOf i).toNat)
      case atStart => exact ⟨0, 0, [], rfl, rfl, by omega, Nat.zero_le _, subI_nil A B, OwnQ.nil _ _ _ _, Below.refl _ _⟩
      case round =>
        obtain ⟨k, t, O, rfl, rfl, ht, hk, hinv, hown, hbel⟩ := hrel
        obtain ⟨wo, rfl⟩ : ∃ wo : World, wo = wr := ⟨_, rfl⟩
        obtain ⟨v2, n3, c3, rfl, -, hown⟩ := own_slice hown
        by_cases h1 : k < n1
        · have HO := Lib.hid hown
          have hOl := Lib.hid hinv.out.1
          have hsz := hbel.out.size
          obtain ⟨b1, o1, rfl, -, hc1⟩ := (R1.out.below hbel.out).cells (by omega)
          have ck1 := hc1 k h1
          have hcB : k < n2 → ∃ b off, a2 = some ⟨b, off, none⟩ ∧ wo.cell? ⟨b, off + k, none⟩ = some (.int .i64 ((B[k]?.getD 0 : Nat) : Int)) := fun hk => by
            obtain ⟨b, off, e, _, hc⟩ := (R2.out.below hbel.out).cells (by omega)
            exact ⟨b, off, e, hc k hk⟩
          have zB : ¬ k < n2 → B[k]?.getD 0 = 0 := fun hk => by rw [List.getElem?_eq_none (by rw [← HN2.out]; omega)]; rfl
          have dA := get_lt (by decide) BA.out k
          have dB := get_lt (by decide) BB.out k
          have HST := Lib.hid (subI_step BA.out BB.out hinv.out)
          have CB := Lib.hid hcB
          have ZB := Lib.hid zB
          clear hown hcB zB hc1 hinv
          generalize A[k]?.getD 0 = d at *
          generalize B[k]?.getD 0 = d' at *
          by_cases h2 : k < n2
          · obtain ⟨b2, o2, rfl, cB⟩ := CB.out h2
            by_cases hbo : d < t + d'
            · obtain ⟨s, hs⟩ : ∃ s : Nat, (s : Int) = ((d : Int) - (t : Int) - (d' : Int)) + 256 := ⟨(((d : Int) - (t : Int) - (d' : Int)) + 256).toNat, by omega⟩
              have hst := Lib.hid (HST.out s 1 (by omega) (by omega) (by omega))
              have hs256 : s < 256 := by omega
              have htn : decide (((d : Int) - (t : Int) - (d' : Int)) < 0) = true := by simp; omega
              have HS := Lib.hid hs.symm
              clear HST CB ZB hs
              go_wp2_with (at_builtin; refine wpList_append_q .i64 _ rfl _ _ 33 rfl w2.heap.size 3 8 i0 Try.underlying33 hi hz0 hz1 hz2 (by decide) _ O rfl (HO.out.alloc _) _ _ _ [s] rfl (Reads.one .i64 _ _ _ _ (by have := HS.out; omega)) (by have := hOl.out; omega) (by simp; omega) ?_; intro v' w3 hown3 hgrow)
              go_roundw
              case rel => exact ⟨k + 1, 1, _, by go_num, by go_num, by omega, by omega, hst.out, hown3, hgrow _ (hbel.out.alloc hsz _)⟩
              case measure => simp [intOf] <;> omega
            · obtain ⟨s, hs⟩ : ∃ s : Nat, (s : Int) = ((d : Int) - (t : Int) - (d' : Int)) := ⟨(((d : Int) - (t : Int) - (d' : Int))).toNat, by omega⟩
              have hst := Lib.hid (HST.out s 0 (by omega) (by omega) (by omega))
              have hs256 : s < 256 := by omega
              have htn : decide (((d : Int) - (t : Int) - (d' : Int)) < 0) = false := by simp; omega
              have HS := Lib.hid hs.symm
              clear HST CB ZB hs
              go_wp2_with (at_builtin; refine wpList_append_q .i64 _ rfl _ _ 33 rfl w2.heap.size 3 8 i0 Try.underlying33 hi hz0 hz1 hz2 (by decide) _ O rfl (HO.out.alloc _) _ _ _ [s] rfl (Reads.one .i64 _ _ _ _ (by have := HS.out; omega)) (by have := hOl.out; omega) (by simp; omega) ?_; intro v' w3 hown3 hgrow)
              go_roundw
              case rel => exact ⟨k + 1, 0, _, by go_num, by go_num, by omega, by omega, hst.out, hown3, hgrow _ (hbel.out.alloc hsz _)⟩
              case measure => simp [intOf] <;> omega
          · have z2 := ZB.out h2
            subst z2
            by_cases hbo : d < t
            · obtain ⟨s, hs⟩ : ∃ s : Nat, (s : Int) = ((d : Int) - (t : Int)) + 256 := ⟨(((d : Int) - (t : Int)) + 256).toNat, by omega⟩
              have hst := Lib.hid (HST.out s 1 (by omega) (by omega) (by omega))
              have hs256 : s < 256 := by omega
              have htn : decide (((d : Int) - (t : Int)) < 0) = true := by simp; omega
              have HS := Lib.hid hs.symm
              clear HST CB ZB hs
              go_wp2_with (at_builtin; refine wpList_append_q .i64 _ rfl _ _ 33 rfl w2.heap.size 3 8 i0 Try.underlying33 hi hz0 hz1 hz2 (by decide) _ O rfl (HO.out.alloc _) _ _ _ [s] rfl (Reads.one .i64 _ _ _ _ (by have := HS.out; omega)) (by have := hOl.out; omega) (by simp; omega) ?_; intro v' w3 hown3 hgrow)
              go_roundw
              case rel => exact ⟨k + 1, 1, _, by go_num, by go_num, by omega, by omega, hst.out, hown3, hgrow _ (hbel.out.alloc hsz _)⟩
              case measure => simp [intOf] <;> omega
            · obtain ⟨s, hs⟩ : ∃ s : Nat, (s : Int) = ((d : Int) - (t : Int)) := ⟨(((d : Int) - (t : Int))).toNat, by omega⟩
              have hst := Lib.hid (HST.out s 0 (by omega) (by omega) (by omega))
              have hs256 : s < 256 := by omega
              have htn : decide (((d : Int) - (t : Int)) < 0) = false := by simp; omega
              have HS := Lib.hid hs.symm
              clear HST CB ZB hs
              go_wp2_with (at_builtin; refine wpList_append_q .i64 _ rfl _ _ 33 rfl w2.heap.size 3 8 i0 Try.underlying33 hi hz0 hz1 hz2 (by decide) _ O rfl (HO.out.alloc _) _ _ _ [s] rfl (Reads.one .i64 _ _ _ _ (by have := HS.out; omega)) (by have := hOl.out; omega) (by simp; omega) ?_; intro v' w3 hown3 hgrow)
              go_roundw
              case rel => exact ⟨k + 1, 0, _, by go_num, by go_num, by omega, by omega, hst.out, hown3, hgrow _ (hbel.out.alloc hsz _)⟩
              case measure => simp [intOf] <;> omega
        · have hend := Lib.hid (subI_end hinv.out (by rw [← HN1.out]; omega) (by rw [← HN2.out]; omega) (by rw [HV1.out, HV2.out]; exact HLE.out))
          have hby := Lib.hid hinv.out.2.1
          have HC := Lib.hid (cut_any _ _ _ O _ hown.reads hby.out)
          rw [hend.out, HV1.out, HV2.out, cutR_small HIN.out] at HC
          have hsz := hbel.out.size
          clear hown hinv
          go_wp2_with fail
          refine HC.out.mono ?_
          rintro e w3 ⟨⟨v3, rfl, ho3⟩, hb3⟩
          have HBZ := Lib.hid (HB2.out.trans ((hbel.out.trans (hb3.mono hsz)).mono HB2.out.size))
          go_wp2
          go_ret2
          rw [HXX.out, HYY.out]
          exact ⟨⟨_, rfl, ho3.mono (Nat.le_trans HB2.out.size hsz)⟩, HBZ.out⟩
    · rw [subR_no (fun e => hle e.2.2)]
      have hord : ordR (val32 l) (val32 l') = -1 := ordR_lt (by omega)
      rw [hord] at HCM
      clear hin hle hord h h' hL hL'
      go_enter Try.func29, Try.ntmps29
      go_wp2_with fail
      refine HMY.out.mono ?_
      rintro e w0 ⟨rfl, hb0⟩
      have H0 := Lib.hid hb0
      clear hb0
      go_wp2_with fail
      refine (HCM.out _ H0.out).mono ?_
      rintro e w0' ⟨rfl, hb0⟩
      have H0' := Lib.hid (H0.out.trans (hb0.mono H0.out.size))
      clear hb0
      go_wp2
      go_ret2
      exact ⟨⟨_, rfl, OwnQ.nil _ _ _ _⟩, H0'.out⟩
  · rw [decide_eq_false hin] at HMY
    rw [subR_no (fun e => hin ⟨e.1, e.2.1⟩)]
    clear hin h h' hL hL'
    go_enter Try.func29, Try.ntmps29
    go_wp2_with fail
    refine HMY.out.mono ?_
    rintro e w0 ⟨rfl, hb0⟩
    have H0 := Lib.hid hb0
    clear hb0
    go_wp2_with fail
    refine (HCM.out _ H0.out).mono ?_
    rintro e w0' ⟨rfl, hb0⟩
    have H0' := Lib.hid (H0.out.trans (hb0.mono H0.out.size))
    clear hb0
    go_wp2
    go_ret2
    exact ⟨⟨_, rfl, OwnQ.nil _ _ _ _⟩, H0'.out⟩

end rf

end Go.Proofs.Ytanimenpkinapaa
