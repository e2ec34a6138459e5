/-
  THE REFERENCE's Add. (Written by wip/gen_ref5.py.)
-/
import Derived.Test.YtanimenpkinapaaRef4
namespace Go.Proofs.Ytanimenpkinapaa
open Go.RowKit
namespace rf

def AddI (A B : List Nat) (k : Nat) (O : List Nat) (c : Nat) : Prop := O.length = k ∧ Byt O ∧ c ≤ 1 ∧ valB 256 O + 256 ^ k * c = valB 256 (A.take k) + valB 256 (B.take k)

theorem addI_nil (A B : List Nat) : AddI A B 0 [] 0 := ⟨rfl, fun _ h => (by cases h), by omega, rfl⟩

theorem addI_step {A B : List Nat} {k : Nat} {O : List Nat} {c : Nat} (hA : Byt A) (hB : Byt B) (h : AddI A B k O c) (s : Nat) (hs : s = c + A[k]?.getD 0 + B[k]?.getD 0) : AddI A B (k + 1) (O ++ [s % 256]) (s / 256) := by
  obtain ⟨h1, h2, h3, h4⟩ := h
  have ha := get_lt (by decide) hA k
  have hb := get_lt (by decide) hB k
  refine ⟨by rw [List.length_append, h1]; rfl, ?_, by omega, ?_⟩
  · intro x hx
    rcases List.mem_append.1 hx with h | h
    · exact h2 x h
    · obtain rfl := List.mem_singleton.1 h; exact Nat.mod_lt _ (by decide)
  · rw [valB_snoc, valB_succ, valB_succ, h1, Nat.pow_succ]
    generalize 256 ^ k = p at *
    generalize A[k]?.getD 0 = a at *
    generalize B[k]?.getD 0 = b at *
    have e : p * (s % 256) + p * 256 * (s / 256) = p * s := by
      rw [Nat.mul_assoc, ← Nat.mul_add]; congr 1; omega
    have e2 : p * s = p * c + p * a + p * b := by rw [hs, Nat.mul_add, Nat.mul_add]
    omega

theorem addI_end {A B : List Nat} {k : Nat} {O : List Nat} (h : AddI A B k O 0) (hA : A.length ≤ k) (hB : B.length ≤ k) : valB 256 O = valB 256 A + valB 256 B := by
  obtain ⟨-, -, -, h4⟩ := h
  rw [List.take_of_length_le hA, List.take_of_length_le hB] at h4
  simpa using h4

theorem sum_large {x y : Nat} (h : ¬ (x < topN ∧ y < topN)) : cutR32 (x + y) = ([], 20) := cutR_large (by omega)

set_option maxRecDepth 100000 in
set_option maxHeartbeats 2000000 in
theorem add_any (a a' : Option Addr) (n c n' c' : Nat) (l l' : List Nat) (w : World) (h : Reads .u32 w a n c l) (h' : Reads .u32 w a' n' c' l') (hL : Lim l) (hL' : Lim l') (hm : n ≤ 1000000000000) (hm' : n' ≤ 1000000000000) :
    Calls Try.prog 27 #[.slice a n c, .slice a' n' c'] w fun e w' => RetsQ2 .u32 54 w.heap.size w' (cutR32 (val32 l + val32 l')) e ∧ Below w.heap.size w w' := by
  obtain ⟨i0, hi, hz0, hz1, hz2⟩ := info_parts infoI
  have HMY := Lib.hid (may_any a a' n c n' c' l l' w h h' hL hL' hm hm' _ rfl)
  by_cases hin : val32 l < topN ∧ val32 l' < topN
  · rw [decide_eq_true hin] at HMY
    have HR := Lib.hid h
    have HL := Lib.hid hL
    have HR' := Lib.hid h'
    have HL' := Lib.hid hL'
    have hlb : (natB 256 (val32 l)).length ≤ 4 * n := by
      rw [natB_length (by decide), ← pow32, ← h.length]
      exact valB_lt (by decide) hL
    have hlb' : (natB 256 (val32 l')).length ≤ 4 * n' := by
      rw [natB_length (by decide), ← pow32, ← h'.length]
      exact valB_lt (by decide) hL'
    have hb1 : Byt (natB 256 (val32 l)) := natB_digit (by decide) _
    have hb2 : Byt (natB 256 (val32 l')) := natB_digit (by decide) _
    have hv1 := natB_val (b := 256) (by decide) (val32 l)
    have hv2 := natB_val (b := 256) (by decide) (val32 l')
    have HV1 := Lib.hid hv1
    have HV2 := Lib.hid hv2
    have BA := Lib.hid hb1
    have BB := Lib.hid hb2
    clear h h' hL hL' hin hv1 hv2 hb1 hb2
    go_enter Try.func27, Try.ntmps27
    go_wp2_with fail
    refine HMY.out.mono ?_
    rintro e w0 ⟨rfl, hb0⟩
    have H0 := Lib.hid hb0
    clear hb0
    go_wp2_with fail
    refine (digits_any a n c l _ (HR.out.below H0.out) HL.out hm).mono ?_
    rintro e w1 ⟨⟨v, rfl, ho⟩, hb⟩
    obtain ⟨a1, n1, c1, rfl, hn1, ho1⟩ := own_slice ho
    have HB := Lib.hid (H0.out.trans (hb.mono H0.out.size))
    have HO1 := Lib.hid ho1.reads
    have hx1 : n1 ≤ 4000000000000 := by omega
    have HN1 := Lib.hid hn1
    clear ho ho1 hb hn1 hlb
    go_wp2_with fail
    refine (digits_any a' n' c' l' _ (HR'.out.below HB.out) HL'.out hm').mono ?_
    rintro e w2 ⟨⟨v, rfl, ho⟩, hb⟩
    obtain ⟨a2, n2, c2, rfl, hn2, ho2⟩ := own_slice ho
    have HB2 := Lib.hid (HB.out.trans (hb.mono HB.out.size))
    have R1 := Lib.hid (HO1.out.below hb)
    have R2 := Lib.hid ho2.reads
    have hx2 : n2 ≤ 4000000000000 := by omega
    have HN2 := Lib.hid hn2
    clear ho ho2 hb hn2 hlb'
    clear HO1 HB HMY HR HL HR' HL' H0
    generalize hxx : val32 l = x at *
    generalize hyy : val32 l' = y at *
    have HXX := Lib.hid hxx
    have HYY := Lib.hid hyy
    clear hxx hyy
    generalize natB 256 x = A at *
    generalize natB 256 y = B at *
    go_wp2
    go_loopw [9, 10, 11] (fun v s i wr => ∃ (k t : Nat) (O : List Nat), i = .int .i64 (k : Int) ∧ s = .int .i64 (t : Int) ∧ t ≤ 1 ∧ (k ≤ n1 ∨ k ≤ n2 ∨ t = 0) ∧ Hid (AddI A B k O t) ∧ OwnQ .i64 3 w2.heap.size wr v O ∧ Hid (Below w2.heap.size w2 wr)) (fun _ _ i _ => n1 + n2 + 2 - (intOf i).toNat)
    case atStart => exact ⟨0, 0, [], rfl, rfl, by omega, .inl (Nat.zero_le _), addI_nil A B, OwnQ.nil _ _ _ _, Below.refl _ _⟩
    case round =>
      obtain ⟨k, t, O, rfl, rfl, ht, hkk, hinv, hown, hbel⟩ := hrel
      obtain ⟨v2, n3, c3, rfl, -, hown⟩ := own_slice hown
      have HO := Lib.hid hown
      have hOl := Lib.hid hinv.out.1
      have hsz := hbel.out.size
      have hcA : k < n1 → ∃ b off, a1 = some ⟨b, off, none⟩ ∧ wr.cell? ⟨b, off + k, none⟩ = some (.int .i64 ((A[k]?.getD 0 : Nat) : Int)) := fun hk => by
        obtain ⟨b, off, e, _, hc⟩ := (R1.out.below hbel.out).cells (by omega)
        exact ⟨b, off, e, hc k hk⟩
      have hcB : k < n2 → ∃ b off, a2 = some ⟨b, off, none⟩ ∧ wr.cell? ⟨b, off + k, none⟩ = some (.int .i64 ((B[k]?.getD 0 : Nat) : Int)) := fun hk => by
        obtain ⟨b, off, e, _, hc⟩ := (R2.out.below hbel.out).cells (by omega)
        exact ⟨b, off, e, hc k hk⟩
      have zA : ¬ k < n1 → A[k]?.getD 0 = 0 := fun hk => by rw [List.getElem?_eq_none (by rw [← HN1.out]; omega)]; rfl
      have zB : ¬ k < n2 → B[k]?.getD 0 = 0 := fun hk => by rw [List.getElem?_eq_none (by rw [← HN2.out]; omega)]; rfl
      have dA := get_lt (by decide) BA.out k
      have dB := get_lt (by decide) BB.out k
      have HST := Lib.hid (addI_step BA.out BB.out hinv.out)
      have CA := Lib.hid hcA
      have CB := Lib.hid hcB
      have ZA := Lib.hid zA
      have ZB := Lib.hid zB
      clear hown hcA hcB zA zB
      generalize A[k]?.getD 0 = d at *
      generalize B[k]?.getD 0 = d' at *
      by_cases h1 : k < n1
      · obtain ⟨b1, o1, rfl, cA⟩ := CA.out h1
        by_cases h2 : k < n2
        · obtain ⟨b2, o2, rfl, cB⟩ := CB.out h2
          have hst := Lib.hid (HST.out (t + d + d') (by omega))
          clear HST CA CB ZA ZB
          go_wp2_with (at_builtin; refine wpList_append_q .i64 _ rfl _ _ 33 rfl w2.heap.size 3 8 i0 Try.underlying33 hi hz0 hz1 hz2 (by decide) _ O rfl (HO.out.alloc _) _ _ _ [(t + d + d') % 256] rfl (Reads.one .i64 _ _ _ _ (by omega)) (by have := hOl.out; omega) (by simp; omega) ?_; intro v' w3 hown3 hgrow)
          go_roundw
          case rel => exact ⟨k + 1, (t + d + d') / 256, _, by go_num, by go_num, by omega, .inl h1, hst.out, hown3, hgrow _ (hbel.out.alloc hsz _)⟩
          case measure => simp [intOf] <;> omega
        · have z2 := ZB.out h2
          subst z2
          have hst := Lib.hid (HST.out (t + d) (by omega))
          clear HST CA CB ZA ZB
          go_wp2_with (at_builtin; refine wpList_append_q .i64 _ rfl _ _ 33 rfl w2.heap.size 3 8 i0 Try.underlying33 hi hz0 hz1 hz2 (by decide) _ O rfl (HO.out.alloc _) _ _ _ [(t + d) % 256] rfl (Reads.one .i64 _ _ _ _ (by omega)) (by have := hOl.out; omega) (by simp; omega) ?_; intro v' w3 hown3 hgrow)
          go_roundw
          case rel => exact ⟨k + 1, (t + d) / 256, _, by go_num, by go_num, by omega, .inl h1, hst.out, hown3, hgrow _ (hbel.out.alloc hsz _)⟩
          case measure => simp [intOf] <;> omega
      · have z1 := ZA.out h1
        subst z1
        by_cases h2 : k < n2
        · obtain ⟨b2, o2, rfl, cB⟩ := CB.out h2
          have hst := Lib.hid (HST.out (t + d') (by omega))
          clear HST CA CB ZA ZB
          go_wp2_with (at_builtin; refine wpList_append_q .i64 _ rfl _ _ 33 rfl w2.heap.size 3 8 i0 Try.underlying33 hi hz0 hz1 hz2 (by decide) _ O rfl (HO.out.alloc _) _ _ _ [(t + d') % 256] rfl (Reads.one .i64 _ _ _ _ (by omega)) (by have := hOl.out; omega) (by simp; omega) ?_; intro v' w3 hown3 hgrow)
          go_roundw
          case rel => exact ⟨k + 1, (t + d') / 256, _, by go_num, by go_num, by omega, .inr (.inl h2), hst.out, hown3, hgrow _ (hbel.out.alloc hsz _)⟩
          case measure => simp [intOf] <;> omega
        · have z2 := ZB.out h2
          subst z2
          rcases Nat.eq_zero_or_pos t with rfl | hp
          · have hend := Lib.hid (addI_end hinv.out (by rw [← HN1.out]; omega) (by rw [← HN2.out]; omega))
            have hby := Lib.hid hinv.out.2.1
            have hn3 : n3 = O.length := HO.out.cap.1
            have HC := Lib.hid (cut_any _ _ _ O _ HO.out.reads hby.out)
            rw [hend.out, HV1.out, HV2.out] at HC
            clear HST CA CB ZA ZB hn3
            go_wp2_with fail
            refine HC.out.mono ?_
            rintro e w3 ⟨⟨v3, rfl, ho3⟩, hb3⟩
            have HB3 := Lib.hid (HB2.out.trans ((hbel.out.trans (hb3.mono hbel.out.size)).mono HB2.out.size))
            go_wp2
            go_ret2
            rw [HXX.out, HYY.out]
            exact ⟨⟨_, rfl, ho3.mono (Nat.le_trans HB2.out.size hsz)⟩, HB3.out⟩
          · obtain rfl : t = 1 := by omega
            have hst := Lib.hid (HST.out (1) (by omega))
            clear HST CA CB ZA ZB
            go_wp2_with (at_builtin; refine wpList_append_q .i64 _ rfl _ _ 33 rfl w2.heap.size 3 8 i0 Try.underlying33 hi hz0 hz1 hz2 (by decide) _ O rfl (HO.out.alloc _) _ _ _ [(1) % 256] rfl (Reads.one .i64 _ _ _ _ (by omega)) (by have := hOl.out; omega) (by simp; omega) ?_; intro v' w3 hown3 hgrow)
            go_roundw
            case rel => exact ⟨k + 1, (1) / 256, _, by go_num, by go_num, by omega, .inr (.inr rfl), hst.out, hown3, hgrow _ (hbel.out.alloc hsz _)⟩
            case measure => simp [intOf] <;> omega
  · rw [decide_eq_false hin] at HMY
    rw [sum_large hin]
    clear hin h h' hL hL'
    go_enter Try.func27, Try.ntmps27
    go_wp2_with fail
    refine HMY.out.mono ?_
    rintro e w0 ⟨rfl, hb0⟩
    have H0 := Lib.hid hb0
    clear hb0
    go_wp2
    go_ret2
    exact ⟨⟨_, rfl, OwnQ.nil _ _ _ _⟩, H0.out⟩

end rf

end Go.Proofs.Ytanimenpkinapaa
