/-
  THE WALK OF THE REFERENCE's Unhex.
-/
import Derived.Test.YtidiapdddkknpaaOctA
namespace Go.Proofs.Ytidiapdddkknpaa
open Go.RowKit

set_option maxRecDepth 100000 in
set_option maxHeartbeats 4000000 in
theorem refunhex_any (l : List UInt8) (w : World) (hm : l.length ≤ 70368744177) :
    Calls Try.prog 12 #[.string (strOf l)] w fun e w' => RetsOwn2 w.heap.size w' (unhexR l) e ∧ Below w.heap.size w w' := by
  obtain ⟨i0, hi, hz0, hz1, hz2⟩ := info_parts Try.info8
  have hs := strOf_size' l
  generalize hL : l.length = n at *
  have L := Lib.hid hL
  clear hL
  by_cases hodd : n % 2 = 1
  · have hr := Lib.hid (unhexR_odd (l := l) (by rw [L.out]; omega))
    have ht : ((n : Int).tmod 2 != 0) = true := by rw [Int.tmod_eq_emod_of_nonneg (by omega)]; simp; omega
    go_enter Try.func12, Try.ntmps12
    go_wp2
    go_ret2
    exact ⟨⟨_, by rw [hr.out]; rfl, by rw [hr.out]; exact Own8.nil _ _ _⟩, Below.refl _ _⟩
  · have ht : ((n : Int).tmod 2 != 0) = false := by rw [Int.tmod_eq_emod_of_nonneg (by omega)]; simp; omega
    obtain ⟨m, rfl⟩ : ∃ m, n = 2 * m := ⟨n / 2, by omega⟩
    clear hodd
    go_enter Try.func12, Try.ntmps12
    go_wp2
    go_loopw [4, 5] (fun v i wr => ∃ k : Nat, k ≤ m ∧ i = .int .i64 (2 * (k : Int)) ∧ Own8 5 w.heap.size wr v (unhexB l k) ∧ Hid (∀ j, j < 2 * k → isDig (l[j]?.getD 0).toNat = true) ∧ Below w.heap.size w wr) (fun _ i _ => 2 * m - (intOf i).toNat)
    case atStart => exact ⟨0, Nat.zero_le _, rfl, Own8.nil _ _ _, fun j hj => by omega, Below.refl _ _⟩
    case round =>
      obtain ⟨k, hk, rfl, hown, hall, hb⟩ := hrel
      have hsz := hb.size
      by_cases hlt : k < m
      · have hx := fun W => run_strOf l (2 * (k : Int)) (2 * k) (by omega) (by rw [L.out]; omega) W
        have hyp := fun W => run_strOf l (2 * (k : Int) + 1) (2 * k + 1) (by omega) (by rw [L.out]; omega) W
        have hy := fun W => run_strOf l (IntKind.i64.wrap (2 * (k : Int) + 1)) (2 * k + 1) (by rw [wrap_in _ (by omega) (by omega)]; omega) (by rw [L.out]; omega) W
        have hx8 := UInt8.toNat_lt (l[2 * k]?.getD 0)
        have hy8 := UInt8.toNat_lt (l[2 * k + 1]?.getD 0)
        have hst := Lib.hid (unhexB_step l k)
        have hbx := Lib.hid (unhexR_bad (l := l) (2 * k) (by rw [L.out]; omega))
        have hby := Lib.hid (unhexR_bad (l := l) (2 * k + 1) (by rw [L.out]; omega))
        generalize hX : (l[2 * k]?.getD 0).toNat = x at *
        generalize hY : (l[2 * k + 1]?.getD 0).toNat = y at *
        have HX := Lib.hid hX
        have HY := Lib.hid hY
        clear hX hY
        go_wp2
        go_loopw [4, 6, 7] (fun v f i wr => ∃ q : Nat, q ≤ 256 ∧ i = .int .i64 q ∧ Below w.heap.size w wr ∧ ((f = .bool false ∧ Own8 5 w.heap.size wr v (unhexB l k) ∧ Hid (∀ p, p < q → ¬ (signN (p / 16) = x ∧ signN (p % 16) = y))) ∨ (f = .bool true ∧ Own8 5 w.heap.size wr v (unhexB l (k + 1)) ∧ isDig x = true ∧ isDig y = true))) (fun _ _ i _ => 256 - (intOf i).toNat)
        case atStart => exact ⟨0, by omega, rfl, hb, .inl ⟨rfl, hown, fun p hp => by omega⟩⟩
        case round =>
          obtain ⟨q, hq, rfl, hb2, hcase⟩ := hrel
          rcases hcase with ⟨rfl, hown2, hno⟩ | ⟨rfl, hown2, hdx, hdy⟩
          · by_cases hlq : q < 256
            · have c1 := Lib.hid fun i hi W => sign_any i (q / 16) hi (by omega) W
              have c2 := Lib.hid fun i hi W => sign_any i (q % 16) hi (by omega) W
              have s1 := Lib.hid (signN_iff (q / 16) x (by omega) hx8)
              have s2 := Lib.hid (signN_iff (q % 16) y (by omega) hy8)
              have hno2 := Lib.hid (fun (h : ¬ (signN (q / 16) = x ∧ signN (q % 16) = y)) p (hp : p < q + 1) => show ¬ (signN (p / 16) = x ∧ signN (p % 16) = y) by
                by_cases hpq : p = q
                · subst hpq; exact h
                · exact hno.out p (by omega))
              generalize signN (q / 16) = u at *
              generalize signN (q % 16) = v' at *
              by_cases h1 : u = x
              · have b1 : ((u : Int) == (x : Int)) = true := by simp; omega
                by_cases h2 : v' = y
                · have b2 : ((v' : Int) == (y : Int)) = true := by simp; omega
                  have e1 := Lib.hid (s1.out.1 h1)
                  have e2 := Lib.hid (s2.out.1 h2)
                  have hq8 := Lib.hid (show q = 16 * digV x + digV y by have := e1.out.2; have := e2.out.2; omega)
                  have H1 := Lib.hid h1
                  have H2 := Lib.hid h2
                  clear h1 h2
                  go_wp2
                  go_big_quiet (first | (go_at_call 35; refine Calls.quiet_of_same (c1.out _ (by first | omega | rw [q16' q hlq]) _)) | (go_at_call 35; refine Calls.quiet_of_same (c2.out _ (by first | omega | rw [r16' q]) _)))
                  go_wp2_with (at_builtin; refine wpList_append_bts _ rfl _ _ 22 rfl w.heap.size 5 i0 Try.underlying22 hi hz0 hz1 hz2 _ (unhexB l k) rfl ((hown2.drewN nq).alloc _) _ _ _ [UInt8.ofNat q] rfl (Bts.one _ _ _ (UInt8.ofNat q) (by simp [UInt8.toNat_ofNat'] <;> omega)) (by rw [unhexB_length]; omega) (by have := hb2.size; simp; omega) ?_; intro v2 w2 hown3 hgrow)
                  go_roundw
                  case rel => exact ⟨q + 1, by omega, by go_num, hgrow _ ((below_drewN hb2 nq).alloc (by have := hb2.size; simp; omega) _), .inr ⟨rfl, by rw [hst.out, ← hq8.out]; exact hown3, e1.out.1, e2.out.1⟩⟩
                  case measure => simp [intOf] <;> omega
                · have b2 : ((v' : Int) == (y : Int)) = false := by simp; omega
                  have hn3 := Lib.hid (hno2.out (fun h => h2 h.2))
                  clear h1 h2
                  go_wp2
                  go_big_quiet (first | (go_at_call 35; refine Calls.quiet_of_same (c1.out _ (by first | omega | rw [q16' q hlq]) _)) | (go_at_call 35; refine Calls.quiet_of_same (c2.out _ (by first | omega | rw [r16' q]) _)))
                  go_wp2
                  go_roundw
                  case rel => exact ⟨q + 1, by omega, by go_num, below_drewN hb2 nq, .inl ⟨rfl, hown2.drewN nq, hn3.out⟩⟩
                  case measure => simp [intOf] <;> omega
              · have b1 : ((u : Int) == (x : Int)) = false := by simp; omega
                have b1' : decide ((u : Int) = (x : Int)) = false := by simp; omega
                have hn3 := Lib.hid (hno2.out (fun h => h1 h.1))
                clear h1
                go_wp2
                go_big_quiet (first | (go_at_call 35; refine Calls.quiet_of_same (c1.out _ (by first | omega | rw [q16' q hlq]) _)) | (go_at_call 35; refine Calls.quiet_of_same (c2.out _ (by first | omega | rw [r16' q]) _)))
                go_wp2
                go_roundw
                case rel => exact ⟨q + 1, by omega, by go_num, below_drewN hb2 nq, .inl ⟨rfl, hown2.drewN nq, hn3.out⟩⟩
                case measure => simp [intOf] <;> omega
            · obtain rfl : q = 256 := by omega
              have hbad := Lib.hid (show unhexR l = ([], 10) by
                cases hdx : isDig x with
                | false => exact hbx.out hdx
                | true =>
                  cases hdy : isDig y with
                  | false => exact hby.out hdy
                  | true =>
                    exfalso
                    have l1 := digV_lt x hdx
                    have l2 := digV_lt y hdy
                    refine hno.out (16 * digV x + digV y) (by omega) ⟨?_, ?_⟩
                    · exact (signN_iff _ x (by omega) hx8).2 ⟨hdx, by omega⟩
                    · exact (signN_iff _ y (by omega) hy8).2 ⟨hdy, by omega⟩)
              go_wp2
              go_ret2
              exact ⟨⟨_, by rw [hbad.out]; rfl, by rw [hbad.out]; exact Own8.nil _ _ _⟩, hb2⟩
          · have hend : Hid (∀ j, j < 2 * (k + 1) → isDig (l[j]?.getD 0).toNat = true) := fun j hj => by
              by_cases e1 : j < 2 * k
              · exact hall.out j e1
              · by_cases e2 : j = 2 * k
                · rw [e2, HX.out]; exact hdx
                · rw [show j = 2 * k + 1 from by omega, HY.out]; exact hdy
            clear hdx hdy
            rcases Nat.lt_or_ge q 256 with hlq | hlq
            · go_wp2
              go_roundw
              case rel => exact ⟨k + 1, by omega, by go_num, hown2, hend, hb2⟩
              case measure => simp [intOf] <;> omega
            · go_wp2
              go_roundw
              case rel => exact ⟨k + 1, by omega, by go_num, hown2, hend, hb2⟩
              case measure => simp [intOf] <;> omega
      · obtain rfl : k = m := by omega
        have hyes := Lib.hid (show unhexR l = (unhexB l k, 0) by rw [unhexR_yes (by rw [L.out]; omega) (fun j hj => hall.out j (by rw [L.out] at hj; exact hj)), L.out, show 2 * k / 2 = k from by omega])
        go_wp2
        go_ret2
        exact ⟨⟨_, by rw [hyes.out]; rfl, by rw [hyes.out]; exact hown⟩, hb⟩

end Go.Proofs.Ytidiapdddkknpaa
