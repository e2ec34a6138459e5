/-
  THE REFERENCE's Prime AND First; THE LAW PrimesAll.
-/
import Derived.Test.YtfeajcgcjpngkaaPriK
namespace Go.Proofs.Ytfeajcgcjpngkaa
open Go.RowKit

theorem div_le {p d : Nat} (hp : p < 100000) (h : ∀ e, 2 ≤ e → e < d → e * e ≤ p) : d ≤ 317 := by
  rcases Nat.lt_or_ge 317 d with hd | hd
  · have := h 317 (by decide) hd
    omega
  · exact hd
theorem div_next {p d : Nat} (h : ∀ e, 2 ≤ e → e < d → e * e ≤ p) (hd : d * d ≤ p) : ∀ e, 2 ≤ e → e < d + 1 → e * e ≤ p := fun e h1 h2 => by
  rcases Nat.lt_or_ge e d with h3 | h3
  · exact h e h1 h3
  · obtain rfl : e = d := by omega
    exact hd
theorem div_more {p d : Nat} (h : ∀ e, 2 ≤ e → e < d → p % e ≠ 0) (hd : p % d ≠ 0) : ∀ e, 2 ≤ e → e < d + 1 → p % e ≠ 0 := fun e h1 h2 => by
  rcases Nat.lt_or_ge e d with h3 | h3
  · exact h e h1 h3
  · obtain rfl : e = d := by omega
    exact hd
theorem prime_end {p d : Nat} (hp : 2 ≤ p) (h : ∀ e, 2 ≤ e → e < d → p % e ≠ 0) (hd : p < d * d) : isPrime p = true :=
  (isPrime_iff p).2 ⟨hp, fun e h1 h2 => h e h1 (by
    rcases Nat.lt_or_ge e d with h3 | h3
    · exact h3
    · have := Nat.mul_le_mul h3 h3
      omega)⟩
theorem prime_not {p d : Nat} (h2 : 2 ≤ d) (hd : d * d ≤ p) (h : p % d = 0) : isPrime p = false := by
  cases hi : isPrime p with
  | false => rfl
  | true => exact absurd h (((isPrime_iff p).1 hi).2 d h2 hd)

set_option maxHeartbeats 1000000 in
theorem prime_any (p : Nat) (w : World) (h2 : 2 ≤ p) (hp : p < 100000) (r : Bool) (hr : r = isPrime p) :
    Calls Try.prog 29 #[.int .i64 (p : Int)] w fun e w' => e = .returned (.bool r) ∧ w = w' := by
  have HR := Lib.hid hr
  clear hr
  go_enter Try.func29, Try.ntmps29
  go_wp2
  go_loop [3] (fun dv => ∃ d : Nat, dv = .int .i64 (d : Int) ∧ 2 ≤ d ∧ d ≤ 317 ∧ Hid ((∀ e, 2 ≤ e → e < d → e * e ≤ p) ∧ ∀ e, 2 ≤ e → e < d → p % e ≠ 0)) (fun dv => 400 - (intOf dv).toNat)
  case atStart => exact ⟨2, rfl, Nat.le_refl _, by decide, fun e h1 h2 => by omega, fun e h1 h2 => by omega⟩
  case round =>
    obtain ⟨d, rfl, hd2, hd3, hI⟩ := hrel
    obtain ⟨s, hs⟩ : ∃ s, s = d * d := ⟨_, rfl⟩
    have hcast : (d : Int) * (d : Int) = (s : Int) := by rw [hs, Int.natCast_mul]
    have hsb : s < 200000 := by
      rw [hs]
      exact Nat.lt_of_le_of_lt (Nat.mul_le_mul hd3 hd3) (by decide)
    have HS := Lib.hid hs
    clear hs
    rcases Nat.lt_or_ge p s with hlt | hge
    · have HE := Lib.hid (prime_end h2 hI.out.2 (HS.out ▸ hlt))
      go_wp2
      all_goals go_ret
      all_goals exact ⟨by rw [HR.out, HE.out]; rfl, rfl⟩
    · have HG := Lib.hid (show d * d ≤ p from HS.out ▸ hge)
      by_cases hm : p % d = 0
      · have HE := Lib.hid (prime_not hd2 HG.out hm)
        have t1 : ((p : Int) % (d : Int) == 0) = true := by rw [← Int.natCast_emod, hm]; rfl
        clear hm
        go_wp2
        all_goals go_ret
        all_goals exact ⟨by rw [HR.out, HE.out]; rfl, rfl⟩
      · have HM := Lib.hid hm
        have t1 : ((p : Int) % (d : Int) == 0) = false := by rw [← Int.natCast_emod]; simp; omega
        clear hm
        have HN := Lib.hid (div_next hI.out.1 HG.out)
        have HL := Lib.hid (div_le hp HN.out)
        go_wp2
        all_goals go_round
        case rel => exact ⟨d + 1, by go_num, by omega, HL.out, HN.out, div_more hI.out.2 HM.out⟩
        case measure => simp [intOf]; omega

theorem rfirst_no (n : Int) (w : World) (h : n < 0 ∨ 1000 < n) :
    Calls Try.prog 11 #[.int .i64 n] w fun e w' => RetsQ2 .i64 3 w.heap.size w' ([], 30) e ∧ Below w.heap.size w w' := by
  rcases h with h | h
  · go_enter Try.func11, Try.ntmps11
    go_wp2
    go_ret2
    exact ⟨⟨_, rfl, OwnQ.nil _ _ _ _⟩, Below.refl _ _⟩
  · have h1 : ¬ n < 0 := by omega
    go_enter Try.func11, Try.ntmps11
    go_wp2
    go_ret2
    exact ⟨⟨_, rfl, OwnQ.nil _ _ _ _⟩, Below.refl _ _⟩

set_option maxRecDepth 100000 in
set_option maxHeartbeats 2000000 in
theorem rfirst_ok (N : Nat) (w : World) (hN : N ≤ 1000) :
    Calls Try.prog 11 #[.int .i64 (N : Int)] w fun e w' => RetsQ2 .i64 3 w.heap.size w' (firstP N, 0) e ∧ Below w.heap.size w w' := by
  obtain ⟨i0, hi, hz0, hz1, hz2⟩ := info_parts infoI
  have t0 : decide ((N : Int) < 0) = false := by simp
  have t1 : decide (1000 < (N : Int)) = false := by simp; omega
  go_enter Try.func11, Try.ntmps11
  go_wp2
  go_loopw [4, 5] (fun lv kv wr => ∃ (k m c : Nat) (a : Option Addr), lv = .slice a m c ∧ kv = .int .i64 (k : Int) ∧ 2 ≤ k ∧ k ≤ 8000 ∧ m ≤ N ∧ Hid (OwnQ .i64 3 w.heap.size wr (.slice a m c) (primesTo k) ∧ m = (primesTo k).length ∧ Below w.heap.size w wr)) (fun _ kv _ => 9000 - (intOf kv).toNat)
  case atStart => exact ⟨2, 0, 0, none, rfl, rfl, Nat.le_refl _, by decide, Nat.zero_le _, OwnQ.nil _ _ _ _, rfl, Below.refl _ _⟩
  case round =>
    obtain ⟨k, m, c, a, rfl, rfl, hk2, hk8, hmN, hI⟩ := hrel
    rcases Nat.lt_or_ge m N with hlt | hge
    · have hk := few_primes (k := k) (N := N) (by rw [← hI.out.2.1]; exact hlt) hN
      cases hp : isPrime k with
      | false =>
        have HP := Lib.hid hp
        have HE := Lib.hid (show primesTo (k + 1) = primesTo k by rw [primesTo_succ, if_neg (by rw [HP.out]; decide)])
        clear hp
        go_wp2_with fail
        refine (prime_any k wr hk2 (by omega) false HP.out.symm).mono ?_
        rintro e w1 ⟨rfl, rfl⟩
        go_wp2
        go_roundw
        case rel => exact ⟨k + 1, m, c, a, rfl, by go_num, by omega, by omega, hmN, by rw [HE.out]; exact hI.out.1, by rw [HE.out]; exact hI.out.2.1, hI.out.2.2⟩
        case measure => simp [intOf]; omega
      | true =>
        have HP := Lib.hid hp
        have HE := Lib.hid (show primesTo (k + 1) = primesTo k ++ [k] by rw [primesTo_succ, if_pos HP.out])
        clear hp
        go_wp2_with fail
        refine (prime_any k wr hk2 (by omega) true HP.out.symm).mono ?_
        rintro e w1 ⟨rfl, rfl⟩
        go_wp2_with (at_builtin; refine wpList_append_q .i64 _ rfl _ _ 22 rfl w.heap.size 3 8 i0 Try.underlying22 hi hz0 hz1 hz2 (by decide) _ (primesTo k) rfl (hI.out.1.alloc _) _ _ _ [k] rfl (Reads.one .i64 _ _ _ _ rfl) (by rw [← hI.out.2.1]; omega) (by have := hI.out.2.2.size; simp; omega) ?_; intro v' w2 hown2 hgrow; obtain ⟨a2, n2, c2, rfl, hn2, hown3⟩ := hown2.slice; have HO2 := Lib.hid hown3; have HN2 := Lib.hid hn2; have HB2 := Lib.hid (hgrow w (hI.out.2.2.alloc hI.out.2.2.size _)); clear hown2 hown3 hgrow hn2)
        go_roundw
        case rel => exact ⟨k + 1, _, _, _, rfl, by go_num, by omega, by omega, by rw [HN2.out, List.length_append, ← hI.out.2.1]; exact hlt, by rw [HE.out]; exact HO2.out, by rw [HE.out]; exact HN2.out, HB2.out⟩
        case measure => simp [intOf]; omega
    · have HE := Lib.hid (show primesTo k = firstP N from firstP_of (by rw [← hI.out.2.1]; omega) hN)
      have t2 : decide (m < N) = false := by simp; omega
      go_wp2
      go_ret2
      exact ⟨⟨_, rfl, HE.out ▸ hI.out.1⟩, hI.out.2.2⟩

theorem firstP_at {N p x : Nat} (hN : N ≤ 1000) (h : (primesTo p).length < N) (hx : (firstP N)[(primesTo p).length]?.getD 0 = x) : isPrime p = decide (x = p) := by
  have hp := few_primes h hN
  unfold firstP at hx
  rw [List.getElem?_take_of_lt h] at hx
  cases hi : isPrime p with
  | true =>
    have h1 : primesTo (p + 1) = primesTo p ++ [p] := by rw [primesTo_succ, if_pos hi]
    obtain ⟨t, ht⟩ := primesTo_mono (p + 1) (7920 - (p + 1))
    rw [show p + 1 + (7920 - (p + 1)) = 7920 by omega, h1] at ht
    rw [ht] at hx
    simp at hx
    rw [← hx]
    simp
  | false =>
    refine (decide_eq_false fun e => ?_).symm
    have hl : (primesTo p).length < (primesTo 7920).length := by rw [thousand]; omega
    rw [List.getElem?_eq_getElem hl, Option.getD_some] at hx
    have hm : x ∈ primesTo 7920 := by rw [← hx]; exact List.getElem_mem hl
    unfold primesTo at hm
    rw [List.mem_filter, e, hi] at hm
    cases hm.2

/-- While divisors are looked for: the numbers below d were tried, and what was found. -/
def TryI (p d : Nat) (q : Bool) : Prop := (∀ e, 2 ≤ e → e < d → e * e ≤ p) ∧ (q = true ↔ ∀ e, 2 ≤ e → e < d → p % e ≠ 0)
theorem TryI.next {p d : Nat} {q : Bool} (h : TryI p d q) (h2 : 2 ≤ d) (hd : d * d ≤ p) : TryI p (d + 1) (q && decide (p % d ≠ 0)) := by
  refine ⟨div_next h.1 hd, ?_⟩
  rw [Bool.and_eq_true, h.2, decide_eq_true_iff]
  exact ⟨fun ⟨a, b⟩ => div_more a b, fun a => ⟨fun e h1 h2 => a e h1 (by omega), a d h2 (by omega)⟩⟩
theorem TryI.fin {p d : Nat} {q : Bool} (h : TryI p d q) (hp : 2 ≤ p) (hd : p < d * d) : q = isPrime p := by
  cases q with
  | true => exact (prime_end hp (h.2.1 rfl) hd).symm
  | false =>
    cases hi : isPrime p with
    | false => rfl
    | true => exact h.2.2 fun e h1 h2 => ((isPrime_iff p).1 hi).2 e h1 (h.1 e h1 h2)

set_option maxRecDepth 100000 in
set_option maxHeartbeats 2000000 in
theorem all_walk (u : Nat) (n : Int) (w : World) (hn : n = u) (hu : u < 65536) :
    Calls Try.prog 6 #[.int .u16 n] w fun e w' => e = .returned (.bool true) ∧ Below w.heap.size w w' := by
  obtain ⟨N, hN⟩ : ∃ N, N = u % 1001 := ⟨_, rfl⟩
  have hNN : N ≤ 1000 := by omega
  have HM := Lib.hid (show (u : Int) % 1001 = (N : Int) by omega)
  subst hn
  clear hN
  go_enter Try.func6, Try.ntmps6
  go_wp2_with fail
  refine (aliveP w).mono ?_
  rintro e w1 ⟨rfl, hb⟩
  have F := Lib.hid hb
  clear hb
  go_wp2_with fail
  refine (first_ok N _ HM.out hNN).mono ?_
  rintro e w2 ⟨⟨v2, rfl, ho⟩, hb⟩
  replace F := Lib.hid (F.out.trans (hb.mono F.out.size))
  have hl := firstP_len hNN
  have hre : ∃ a c, v2 = .slice a N c ∧ Reads .i64 w2 a N c (firstP N) := by
    obtain ⟨a, c, h1, h2, -⟩ := ho.form
    rw [hl] at h1 h2
    exact ⟨a, c, h1, h2⟩
  obtain ⟨a, c, rfl, hr⟩ := hre
  have HR := Lib.hid hr
  clear hb ho hl hr
  have t1 : ((N : Int) != (u : Int) % 1001) = false := by rw [HM.out]; simp
  go_wp2
  clear t1
  go_loop [7, 8] (fun kv pv => ∃ (k p : Nat), kv = .int .i64 (k : Int) ∧ pv = .int .i64 (p : Int) ∧ 2 ≤ p ∧ p ≤ 8000 ∧ k ≤ N ∧ Hid (k = (primesTo p).length)) (fun _ pv => 9000 - (intOf pv).toNat)
  case atStart => exact ⟨0, 2, rfl, rfl, Nat.le_refl _, by decide, Nat.zero_le _, rfl⟩
  case round =>
    obtain ⟨k, p, rfl, rfl, hp2, hp8, hkN, hK⟩ := hrel
    rcases Nat.lt_or_ge k N with hlt | hge
    · have hp7 := few_primes (k := p) (N := N) (by rw [← hK.out]; exact hlt) hNN
      obtain ⟨b, off, rfl, hbk, hc⟩ := HR.out.cells (by omega)
      have hck := hc k hlt
      clear hc
      obtain ⟨x, hx⟩ : ∃ x, x = (firstP N)[k]?.getD 0 := ⟨_, rfl⟩
      rw [← hx] at hck
      have HX := Lib.hid (firstP_at (x := x) hNN (by rw [← hK.out]; exact hlt) (by rw [← hK.out]; exact hx.symm))
      clear hx
      go_wp2
      go_loop [9, 10] (fun qv dv => ∃ (q : Bool) (d : Nat), qv = .bool q ∧ dv = .int .i64 (d : Int) ∧ 2 ≤ d ∧ d ≤ 317 ∧ Hid (TryI p d q)) (fun _ dv => 400 - (intOf dv).toNat)
      case atStart => exact ⟨true, 2, rfl, rfl, Nat.le_refl _, by decide, fun e h1 h2 => by omega, by simp; intro e h1 h2; omega⟩
      case round =>
        obtain ⟨q, d, rfl, rfl, hd2, hd3, hI⟩ := hrel
        obtain ⟨s, hs⟩ : ∃ s, s = d * d := ⟨_, rfl⟩
        have hcast : (d : Int) * (d : Int) = (s : Int) := by rw [hs, Int.natCast_mul]
        have hsb : s < 200000 := by
          rw [hs]
          exact Nat.lt_of_le_of_lt (Nat.mul_le_mul hd3 hd3) (by decide)
        have HS := Lib.hid hs
        clear hs
        rcases Nat.lt_or_ge p s with hps | hps
        · have HE := Lib.hid (hI.out.fin hp2 (HS.out ▸ hps))
          have hq : q = decide (x = p) := HE.out.trans HX.out
          cases q with
          | true =>
            have hxp : x = p := of_decide_eq_true hq.symm
            have HL1 := Lib.hid (show k + 1 = (primesTo (p + 1)).length by rw [primesTo_succ, if_pos HE.out.symm, List.length_append, ← hK.out]; rfl)
            have hck2 : w2.cell? ⟨b, off + k, none⟩ = some (.int .i64 (p : Int)) := by rw [hck, hxp]
            clear hck hxp hq
            have t2 : ((p : Int) == (p : Int)) = true := by simp
            have t3 : decide (s ≤ p) = false := by simp; omega
            go_wp2
            go_round
            case rel => exact ⟨k + 1, p + 1, by go_num, by go_num, by omega, by omega, by omega, HL1.out⟩
            case measure => simp [intOf]; omega
          | false =>
            have hxp : ¬ x = p := of_decide_eq_false hq.symm
            have HL1 := Lib.hid (show k = (primesTo (p + 1)).length by rw [primesTo_succ, if_neg (by rw [← HE.out]; decide), ← hK.out])
            have t2 : ((x : Int) == (p : Int)) = false := by simp; omega
            clear hxp hq
            have t3 : decide (s ≤ p) = false := by simp; omega
            go_wp2
            go_round
            case rel => exact ⟨k, p + 1, rfl, by go_num, by omega, by omega, by omega, HL1.out⟩
            case measure => simp [intOf]; omega
        · have HG := Lib.hid (show d * d ≤ p from HS.out ▸ hps)
          have HN := Lib.hid (hI.out.next hd2 HG.out)
          have HL := Lib.hid (div_le (by omega) HN.out.1)
          cases q with
          | false =>
            go_wp2
            go_round
            case rel => exact ⟨_, d + 1, rfl, by go_num, by omega, HL.out, HN.out⟩
            case measure => simp [intOf]; omega
          | true =>
            by_cases hm : p % d = 0
            · have t1 : ((p : Int) % (d : Int) != 0) = false := by rw [← Int.natCast_emod, hm]; rfl
              have HQ := Lib.hid (show (true && decide (p % d ≠ 0)) = false by simp [hm])
              clear hm
              go_wp2
              go_round
              case rel => exact ⟨_, d + 1, rfl, by go_num, by omega, HL.out, by rw [HQ.out] at HN; exact HN.out⟩
              case measure => simp [intOf]; omega
            · have t1 : ((p : Int) % (d : Int) != 0) = true := by rw [← Int.natCast_emod]; simp; omega
              have HQ := Lib.hid (show (true && decide (p % d ≠ 0)) = true by simp [hm])
              clear hm
              go_wp2
              go_round
              case rel => exact ⟨_, d + 1, rfl, by go_num, by omega, HL.out, by rw [HQ.out] at HN; exact HN.out⟩
              case measure => simp [intOf]; omega
    · have t1 : decide (k < N) = false := by simp; omega
      go_wp2
      go_ret
      exact ⟨rfl, F.out⟩

end Go.Proofs.Ytfeajcgcjpngkaa
