/-
  THE REFERENCE's Mul, walked.
-/
import Derived.Test.YtanimenpkinapaaRef6
namespace Go.Proofs.Ytanimenpkinapaa
open Go.RowKit
namespace rf

set_option maxRecDepth 100000 in
set_option maxHeartbeats 4000000 in
theorem mul_any (a a' : Option Addr) (n c n' c' : Nat) (l l' : List Nat) (w : World) (h : Reads .u32 w a n c l) (h' : Reads .u32 w a' n' c' l') (hL : Lim l) (hL' : Lim l') (hm : n ≤ 1000000000000) (hm' : n' ≤ 1000000000000) :
    Calls Try.prog 31 #[.slice a n c, .slice a' n' c'] w fun e w' => RetsQ2 .u32 54 w.heap.size w' (mulR (val32 l) (val32 l')) e ∧ Below w.heap.size w w' := by
  obtain ⟨i0, hi, hz0, hz1, hz2⟩ := info_parts infoI
  have HMY := Lib.hid (may_any a a' n c n' c' l l' w h h' hL hL' hm hm' _ rfl)
  by_cases hin : val32 l < topN ∧ val32 l' < topN
  · rw [decide_eq_true hin] at HMY
    rw [mulR_yes hin]
    have HR := Lib.hid h
    have HL := Lib.hid hL
    have HR' := Lib.hid h'
    have HL' := Lib.hid hL'
    have hlb : (natB 256 (val32 l)).length ≤ 1024 := (nat256_le _).2 hin.1
    have hlb' : (natB 256 (val32 l')).length ≤ 1024 := (nat256_le _).2 hin.2
    have BA := Lib.hid (show Byt (natB 256 (val32 l)) from natB_digit (by decide) _)
    have BB := Lib.hid (show Byt (natB 256 (val32 l')) from natB_digit (by decide) _)
    have HV1 := Lib.hid (natB_val (b := 256) (by decide) (val32 l))
    have HV2 := Lib.hid (natB_val (b := 256) (by decide) (val32 l'))
    have HLT1 := Lib.hid ((natB_length (b := 256) (by decide) (val32 l) _).1 (Nat.le_refl _))
    have HLT2 := Lib.hid ((natB_length (b := 256) (by decide) (val32 l') _).1 (Nat.le_refl _))
    clear h h' hL hL' hin
    go_enter Try.func31, Try.ntmps31
    go_wp2_with fail
    refine HMY.out.mono ?_
    rintro e w0 ⟨rfl, hb0⟩
    have H0 := Lib.hid hb0
    clear hb0
    go_wp2_with fail
    refine (digits_any a n c l _ (HR.out.below H0.out) HL.out hm).mono ?_
    rintro e w1 ⟨⟨v, rfl, ho⟩, hb⟩
    obtain ⟨a1, n1, c1, rfl, hn1, ho1⟩ := own_slice ho
    have HB := Lib.hid (H0.out.trans (hb.mono H0.out.size))
    have HO1 := Lib.hid ho1.reads
    have hx1 : n1 ≤ 1024 := by omega
    have HN1 := Lib.hid hn1
    clear ho ho1 hb hn1 hlb
    go_wp2_with fail
    refine (digits_any a' n' c' l' _ (HR'.out.below HB.out) HL'.out hm').mono ?_
    rintro e w2 ⟨⟨v, rfl, ho⟩, hb⟩
    obtain ⟨a2, n2, c2, rfl, hn2, ho2⟩ := own_slice ho
    have HB2 := Lib.hid (HB.out.trans (hb.mono HB.out.size))
    have R1 := Lib.hid (HO1.out.below hb)
    have R2 := Lib.hid ho2.reads
    have hx2 : n2 ≤ 1024 := by omega
    have HN2 := Lib.hid hn2
    clear ho ho2 hb hn2 hlb'
    clear HO1 HB HMY HR HL HR' HL' H0
    rw [← HN1.out] at HLT1
    rw [← HN2.out] at HLT2
    generalize hxx : val32 l = x at *
    generalize hyy : val32 l' = y at *
    have HXX := Lib.hid hxx
    have HYY := Lib.hid hyy
    clear hxx hyy
    generalize natB 256 x = A at *
    generalize natB 256 y = B at *
    go_wp2_with (at_make; refine wpList_make_lc .i64 _ rfl _ _ 33 rfl w2.heap.size 3 i0 Try.underlying33 hi hz0 hz1 _ _ _ _ (n1 + n2 + 4) (n1 + n2 + 4) rfl rfl (by omega) (by omega) (Nat.le_refl _) (by rw [hz2]; omega) (by unfold maxLen; omega) (Nat.le_refl _) ?_; intro w3 hown hgrow)
    have hb3 : Below w2.heap.size w2 w3 := (Below.refl _ _).grown hgrow (Nat.le_refl _) (fun _ h => by cases h)
    have HO := Lib.hid hown
    have HB3 := Lib.hid hb3
    clear hown hgrow hb3
    obtain ⟨N, hN⟩ : ∃ N, N = n1 + n2 + 4 := ⟨_, rfl⟩
    obtain ⟨G, hG⟩ : ∃ G, G = w2.heap.size := ⟨_, rfl⟩
    rw [← hN, ← hG] at HO ⊢
    have HNN := Lib.hid hN
    have HGG := Lib.hid hG
    have hN4 : N ≤ 2052 := by omega
    clear hN hG
    go_loopw [10] (fun i wr => ∃ (k : Nat) (P : List Nat), i = .int .i64 k ∧ k ≤ n1 ∧ Hid (MulO A B P N k) ∧ OwnQ .i64 3 w2.heap.size wr (.slice (some ⟨G, 0, none⟩) N N) P ∧ Hid (Below w2.heap.size w2 wr)) (fun i _ => n1 - (intOf i).toNat)
    case atStart => exact ⟨0, _, rfl, Nat.zero_le _, mulO_start A B N, by rw [HGG.out]; rw [HGG.out] at HO; exact HO.out, HB3.out⟩
    case round =>
      obtain ⟨k, P, rfl, hk, hinv, hown, hbel⟩ := hrel
      obtain ⟨wo, rfl⟩ : ∃ wo : World, wo = wr := ⟨_, rfl⟩
      have HO4 := Lib.hid hown
      clear hown
      by_cases hlt : k < n1
      · have hin0 := Lib.hid (mulI_start hinv.out)
        go_wp2
        go_loopw [11] (fun j wr => ∃ (t : Nat) (P : List Nat), j = .int .i64 t ∧ t ≤ n2 ∧ Hid (MulI A B P N k t) ∧ OwnQ .i64 3 w2.heap.size wr (.slice (some ⟨G, 0, none⟩) N N) P ∧ Hid (Below w2.heap.size w2 wr)) (fun j _ => n2 - (intOf j).toNat)
        case atStart => exact ⟨0, P, rfl, Nat.zero_le _, hin0.out, HO4.out, hbel.out⟩
        case round =>
          obtain ⟨t, P2, rfl, ht, hin, hown, hbel2⟩ := hrel
          by_cases hlt2 : t < n2
          · obtain ⟨b1, o1, rfl, hbk1, hc1⟩ := (R1.out.below hbel2.out).cells (by omega)
            obtain ⟨b2, o2, rfl, hbk2, hc2⟩ := (R2.out.below hbel2.out).cells (by omega)
            have ck1 := hc1 k hlt
            have ck2 := hc2 t hlt2
            have dA := get_lt (by decide) BA.out k
            have dB := get_lt (by decide) BB.out t
            have hst := Lib.hid (mulI_step BA.out BB.out hin.out (by have := HNN.out; omega))
            obtain ⟨i1, i2, -, -⟩ := hin.out
            have I1 := Lib.hid i1
            have hcell := hown.cellAt I1.out.symm (k + t) (by have := HNN.out; omega)
            have hfr := hown.frozenAt I1.out.symm (k + t)
            have hp := i2 (k + t)
            have hktN : k + t < N := by have := HNN.out; omega
            have HO5 := Lib.hid hown
            clear hc1 hc2 hown i1 i2
            generalize A[k]?.getD 0 = x1 at *
            generalize B[t]?.getD 0 = y1 at *
            generalize P2[k + t]?.getD 0 = z at *
            have hxy : x1 * y1 ≤ 255 * 255 := Nat.mul_le_mul (by omega) (by omega)
            have hmul : Hid ((x1 : Int) * (y1 : Int) = ((x1 * y1 : Nat) : Int)) := by unfold Hid; simp
            go_wp2
            go_region
            all_goals
              go_wp2
              go_roundw
              case rel =>
                have s1 := HO5.out.stored I1.out.symm (k + t) (z + x1 * y1) ((z : Int) + (x1 : Int) * (y1 : Int)) (by rw [hmul.out]; omega)
                exact ⟨t + 1, P2.set (k + t) (z + x1 * y1), by go_num, by omega, hst.out _ rfl, s1.1.drew, fun_below hbel2.out s1.2⟩
              case measure => simp [intOf] <;> omega
          · obtain rfl : t = n2 := by omega
            have hend := Lib.hid (mulI_end hin.out (by rw [← HN2.out]; exact Nat.le_refl _))
            go_wp2
            go_roundw
            case rel => exact ⟨k + 1, P2, by go_num, by omega, hend.out, hown, hbel2.out⟩
            case measure => simp [intOf] <;> omega
      · obtain rfl : n1 = k := by omega
        have hcs := Lib.hid (carI_start hinv.out (by rw [← HN1.out]; exact Nat.le_refl _) 66585600 (by omega))
        clear hinv
        go_wp2
        go_loopw [12] (fun i wr => ∃ (t : Nat) (P : List Nat), i = .int .i64 t ∧ t + 1 ≤ N ∧ Hid (CarI P N (valB 256 A * valB 256 B) 66585600 t) ∧ OwnQ .i64 3 w2.heap.size wr (.slice (some ⟨G, 0, none⟩) N N) P ∧ Hid (Below w2.heap.size w2 wr)) (fun i _ => N - (intOf i).toNat)
        case atStart => exact ⟨0, P, rfl, by have := HNN.out; omega, hcs.out, HO4.out, hbel.out⟩
        case round =>
          obtain ⟨t, P2, rfl, ht, hci, hown, hbel2⟩ := hrel
          by_cases hlt2 : t + 1 < N
          · have hst := Lib.hid (carI_step hci.out hlt2)
            obtain ⟨i1, -, -, i4, i5⟩ := hci.out
            have I1 := Lib.hid i1
            have hcell := hown.cellAt I1.out.symm t (by omega)
            have hcell1 := hown.cellAt I1.out.symm (t + 1) hlt2
            have hfr := hown.frozenAt I1.out.symm t
            have hfr1 := hown.frozenAt I1.out.symm (t + 1)
            have hp := i4 (t + 1) (by omega)
            have HO5 := Lib.hid hown
            clear hown i1 i4
            generalize P2[t]?.getD 0 = z at *
            generalize P2[t + 1]?.getD 0 = z1 at *
            go_wp2
            go_region
            all_goals
              go_wp2
              go_roundw
              case rel =>
                have s1 := HO5.out.stored I1.out.symm (t + 1) (z1 + z / 256) ((z1 : Int) + (z : Int) / 256) (by omega)
                have s2 := s1.1.stored (by rw [List.length_set]; exact I1.out.symm) t (z % 256) ((z : Int) % 256) (by omega)
                exact ⟨t + 1, _, by go_num, by omega, hst.out _ _ rfl rfl, s2.1.drew, fun_below hbel2.out (fun w0 h0 => s2.2 w0 (s1.2 w0 h0))⟩
              case measure => simp [intOf] <;> omega
          · have htN : t + 1 = N := by omega
            have hby := Lib.hid (carI_end hci.out htN (by
              have e : t = n1 + n2 + 3 := by have := HNN.out; omega
              rw [HV1.out, HV2.out, e]; exact mul_small HLT1.out HLT2.out 3))
            have hv := Lib.hid hci.out.2.1
            have HC := Lib.hid (cut_any _ _ _ P2 _ hown.reads hby.out)
            rw [hv.out, HV1.out, HV2.out] at HC
            have hsz := hbel2.out.size
            clear hown
            go_wp2_with fail
            refine HC.out.mono ?_
            rintro e w3 ⟨⟨v3, rfl, ho3⟩, hb3⟩
            have HBZ := Lib.hid (HB2.out.trans ((hbel2.out.trans (hb3.mono hsz)).mono HB2.out.size))
            go_wp2
            go_ret2
            rw [HXX.out, HYY.out]
            exact ⟨⟨_, rfl, ho3.mono (Nat.le_trans HB2.out.size hsz)⟩, HBZ.out⟩
  · rw [decide_eq_false hin] at HMY
    rw [mulR_no hin]
    clear hin h h' hL hL'
    go_enter Try.func31, Try.ntmps31
    go_wp2_with fail
    refine HMY.out.mono ?_
    rintro e w0 ⟨rfl, hb0⟩
    have H0 := Lib.hid hb0
    clear hb0
    go_wp2
    go_ret2
    exact ⟨⟨_, rfl, OwnQ.nil _ _ _ _⟩, H0.out⟩

end rf

end Go.Proofs.Ytanimenpkinapaa
