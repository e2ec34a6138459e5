/-
  RATIO's guess.
-/
import Derived.Test.YtebfoalcmnpghaaDivA
import Derived.Test.YtebfoalcmnpghaaNatD
import Derived.Outline
namespace Go.Proofs.Ytebfoalcmnpghaa
open Go.RowKit

/-- A limb that is guessed. -/
def Guesses (V W : List Nat) (w : World) (e : Ending) (w' : World) : Prop := ∃ d n : Nat, e = .returned (.int .u32 (d : Int)) ∧ d < 4294967296 ∧ (LessW V W → GuessIs V W d) ∧ w' = w.drewN n

set_option maxRecDepth 100000 in
set_option maxHeartbeats 1000000 in
theorem guess_any (D t k nl cl cv : Nat) (a1 a2 : Option Addr) (L V A W Z : List Nat) (q : Value) (w : World)
    (h0 : w.cell? ⟨D, 0, none⟩ = some (.slice a1 nl cl)) (h1 : w.cell? ⟨D, 1, none⟩ = some (.slice a2 (k + 1) cv)) (h2 : w.cell? ⟨D, 2, none⟩ = some q)
    (hL : Reads .u32 w a1 nl cl L) (hV : Reads .u32 w a2 (k + 1) cv V) (hw : Window L A W Z t (k + 1)) (hg : GuessW V W k) (ht : t + k + 2 ≤ nl) (hnl : nl ≤ 1000) :
    Calls Try.prog 78 #[.pointer (some ⟨D, 0, none⟩), .int .i64 (t : Int)] w (Guesses V W w) := by
  obtain ⟨b1, o1, rfl, hb1, c1⟩ := hL.cells (by omega)
  obtain ⟨b2, o2, rfl, hb2, c2⟩ := hV.cells (by omega)
  have l1 := c1 (t + (k + 1)) (by omega)
  have l2 := c1 (t + k) (by omega)
  have l3 := c2 k (by omega)
  rw [hw.get (k + 1) (Nat.le_refl _)] at l1
  rw [hw.get k (by omega)] at l2
  have hG := Lib.hid hg
  have x1 := lim_get hg.wlim (k + 1)
  have x2 := lim_get hg.wlim k
  have x3 := lim_get hg.vlim k
  have x4 := hg.high
  have hst := Lib.hid (fun hl : LessW V W => guessAt_start (hg.with hl))
  have HW := Lib.hid hw
  obtain ⟨s, hs⟩ : ∃ s, s = t + (k + 1) := ⟨_, rfl⟩
  obtain ⟨s2, hs2⟩ : ∃ s2, s2 = t + k := ⟨_, rfl⟩
  rw [← hs] at l1
  rw [← hs2] at l2
  have e1 : ((t : Int) + ((k : Int) + 1)) = (s : Int) := by omega
  have e2 : ((s : Int) - 1) = (s2 : Int) := by omega
  have b1 : s < nl := by omega
  have b2 : s2 < nl := by omega
  have HS := Lib.hid hs
  have HS2 := Lib.hid hs2
  clear hs hs2
  have C1 := Lib.hid c1
  have C2 := Lib.hid c2
  clear c1 c2 hL hV hg
  generalize hhi : W[k + 1]?.getD 0 = hi at *
  generalize hlo : W[k]?.getD 0 = lo at *
  have HHI := Lib.hid hhi
  have HLO := Lib.hid hlo
  have hor := or_lo hi lo x1 x2
  generalize hhg : V[k]?.getD 0 = high at *
  have HHG := Lib.hid hhg
  clear hhi hlo hhg
  have b3 : hi * 4294967296 + lo < 18446744073709551616 := by omega
  generalize htp : hi * 4294967296 + lo = top at *
  have HTP := Lib.hid htp
  clear htp
  have hq0 : ((top : Int) / (high : Int)) = ((top / high : Nat) : Int) := by simp
  have hr0 : ((top : Int) % (high : Int)) = ((top % high : Nat) : Int) := by simp
  have hd0 : top / high ≤ 8589934592 := Nat.le_trans (Nat.div_le_div_left (show 2147483648 ≤ high by omega) (by decide)) (by omega)
  have hm0 : top % high < high := Nat.mod_lt _ (by omega)
  generalize top / high = d0 at *
  generalize top % high = r0 at *
  have hz : ((high : Int) == 0) = false := by simp; omega
  have hz2 : (high : Int) ≠ 0 := by omega
  rcases Nat.eq_zero_or_pos k with hk | hk
  · have hdk : decide ((1 : Int) < (k : Int) + 1) = false := by simp; omega
    have HK := Lib.hid hk
    clear hk
    go_enter Try.func78, Try.ntmps78
    go_wp2
    go_big_quiet (fail)
    simp only [Exit.then]
    go_wp2
    go_big_quiet (fail)
    simp only [Exit.then]
    go_wp2
    go_loop [8, 9] (fun dv rv => ∃ d r : Nat, dv = .int .u64 (d : Int) ∧ rv = .int .u64 (r : Int) ∧ Hid (LessW V W → GuessAt V W k d r) ∧ d ≤ 8589934592 ∧ r < 8589934592) (fun dv _ => (intOf dv).toNat)
    case atStart => exact ⟨d0, r0, by first | rfl | rw [hq0], by first | rfl | rw [hr0], hst.out, hd0, by omega⟩
    case round =>
      obtain ⟨d, r, rfl, rfl, hinv, hd, hr⟩ := hrel
      by_cases hrb : r < 4294967296
      · have t1 : ((r : Int) / 4294967296 == 0) = true := by simp; omega
        by_cases hdb : d < 4294967296
        · have t2 : ((d : Int) / 4294967296 != 0) = false := by simp; omega
          have hor0 : bits BinOp.or IntKind.u64 ((r : Int) * 4294967296) 0 = (r : Int) * 4294967296 := by
            have := or_lo r 0 hrb (by decide)
            simpa using this
          have t3 : decide ((r : Int) * 4294967296 < 0) = false := by simp; omega
          have hfin := Lib.hid (show LessW V W → GuessIs V W d from fun hl => by
            have h1 := hinv.out hl
            have h2 := hG.out.with hl
            rw [HK.out] at h1 h2
            exact h1.end_one h2 hdb)
          go_wp2
          go_ret
          exact ⟨d, _, rfl, hdb, hfin.out, rfl⟩
        · have t2 : ((d : Int) / 4294967296 != 0) = true := by simp; omega
          have hnx := Lib.hid (show LessW V W → GuessAt V W k (d - 1) (r + high) from fun hl => by
            have := ((hinv.out hl).step_big (hG.out.with hl) hrb (by omega)).1
            rwa [HHG.out] at this)
          obtain ⟨c, rfl⟩ : ∃ c, d = c + 1 := ⟨d - 1, by omega⟩
          rw [Nat.add_sub_cancel] at hnx
          go_wp2
          go_round
          case rel => exact ⟨c, rfl, r + high, by go_num, hnx.out, by omega, by omega⟩
          case measure => simp [intOf] <;> omega
      · have t1 : ((r : Int) / 4294967296 == 0) = false := by simp; omega
        have hfin := Lib.hid (show LessW V W → GuessIs V W (d % 4294967296) from fun hl => by
          have h := (hinv.out hl).end_rest (hG.out.with hl) (by omega)
          rwa [Nat.mod_eq_of_lt h.2.2])
        go_wp2
        go_ret
        exact ⟨d % 4294967296, _, by rw [Int.natCast_emod]; rfl, Nat.mod_lt _ (by decide), hfin.out, rfl⟩
  · obtain ⟨j, hj⟩ : ∃ j, k = j + 1 := ⟨k - 1, by omega⟩
    have hdk : decide ((1 : Int) < (k : Int) + 1) = true := by simp; omega
    obtain ⟨s3, hs3⟩ : ∃ s3, s3 = t + j := ⟨_, rfl⟩
    have l4 := C1.out s3 (by omega)
    have l5 := C2.out j (by omega)
    have e3 : ((k : Int) + 1 - 2) = (j : Int) := by omega
    have e4 : ((s : Int) - 2) = (s3 : Int) := by have := HS.out; omega
    have b4 : s3 < nl := by omega
    have b5 : j < k + 1 := by omega
    have y2 := lim_get hG.out.wlim j
    have y3 := lim_get hG.out.vlim j
    have hlj : L[s3]?.getD 0 = W[j]?.getD 0 := by rw [hs3]; exact HW.out.get j (by omega)
    rw [hlj] at l4
    have HK := Lib.hid hj
    clear hj hk hs3 hlj
    generalize hnxx : V[j]?.getD 0 = nx at *
    generalize hbll : W[j]?.getD 0 = bl at *
    have HNX := Lib.hid hnxx
    have HBL := Lib.hid hbll
    clear hnxx hbll
    go_enter Try.func78, Try.ntmps78
    go_wp2
    go_big_quiet (fail)
    simp only [Exit.then]
    go_wp2
    go_big_quiet (fail)
    simp only [Exit.then]
    go_wp2
    go_big_quiet (fail)
    simp only [Exit.then]
    go_wp2
    go_loop [8, 9] (fun dv rv => ∃ d r : Nat, dv = .int .u64 (d : Int) ∧ rv = .int .u64 (r : Int) ∧ Hid (LessW V W → GuessAt V W k d r) ∧ d ≤ 8589934592 ∧ r < 8589934592) (fun dv _ => (intOf dv).toNat)
    case atStart => exact ⟨d0, r0, by first | rfl | rw [hq0], by first | rfl | rw [hr0], hst.out, hd0, by omega⟩
    case round =>
      obtain ⟨d, r, rfl, rfl, hinv, hd, hr⟩ := hrel
      by_cases hrb : r < 4294967296
      · have t1 : ((r : Int) / 4294967296 == 0) = true := by simp; omega
        by_cases hdb : d < 4294967296
        · have t2 : ((d : Int) / 4294967296 != 0) = false := by simp; omega
          have hor1 := or_lo r bl hrb y2
          have hb5 : r * 4294967296 + bl < 18446744073709551616 := by omega
          have hdn : d * nx ≤ 18446744065119617025 := Nat.le_trans (Nat.mul_le_mul (show d ≤ 4294967295 by omega) (show nx ≤ 4294967295 by omega)) (by decide)
          have hmul : ((d : Int) * (nx : Int)) = ((d * nx : Nat) : Int) := by simp
          by_cases hlt : r * 4294967296 + bl < d * nx
          · have hnx := Lib.hid (show LessW V W → GuessAt V W k (d - 1) (r + high) from fun hl => by
              have h1 := hinv.out hl
              have h2 := hG.out.with hl
              rw [HK.out] at h1 h2
              have h3 := h1.step_next h2 hrb (by rw [HBL.out, HNX.out]; exact hlt)
              rw [← HK.out, HHG.out] at h3
              exact h3.1)
            have hdp : 0 < d := Nat.pos_of_ne_zero (fun e => by rw [e, Nat.zero_mul] at hlt; omega)
            generalize hsm : r * 4294967296 + bl = sm at hor1 hb5 hlt
            generalize hpr : d * nx = pr at hmul hdn hlt
            have t3 : decide ((sm : Int) < (pr : Int)) = true := by simp; omega
            obtain ⟨c, rfl⟩ : ∃ c, d = c + 1 := ⟨d - 1, by omega⟩
            rw [Nat.add_sub_cancel] at hnx
            rw [show ((c + 1 : Nat) : Int) = (c : Int) + 1 by omega] at t2 hmul
            clear hsm hpr
            go_wp2
            go_round
            case rel => exact ⟨c, rfl, r + high, by go_num, hnx.out, by omega, by omega⟩
            case measure => simp [intOf] <;> omega
          · have hfin := Lib.hid (show LessW V W → GuessIs V W d from fun hl => by
              have h1 := hinv.out hl
              have h2 := hG.out.with hl
              rw [HK.out] at h1 h2
              exact h1.end_more h2 hdb (by rw [HBL.out, HNX.out]; omega))
            generalize hsm : r * 4294967296 + bl = sm at hor1 hb5 hlt
            generalize hpr : d * nx = pr at hmul hdn hlt
            have t3 : decide ((sm : Int) < (pr : Int)) = false := by simp; omega
            clear hsm hpr
            go_wp2
            go_ret
            exact ⟨d, _, rfl, hdb, hfin.out, rfl⟩
        · have t2 : ((d : Int) / 4294967296 != 0) = true := by simp; omega
          have hnx := Lib.hid (show LessW V W → GuessAt V W k (d - 1) (r + high) from fun hl => by
            have := ((hinv.out hl).step_big (hG.out.with hl) hrb (by omega)).1
            rwa [HHG.out] at this)
          obtain ⟨c, rfl⟩ : ∃ c, d = c + 1 := ⟨d - 1, by omega⟩
          rw [Nat.add_sub_cancel] at hnx
          go_wp2
          go_round
          case rel => exact ⟨c, rfl, r + high, by go_num, hnx.out, by omega, by omega⟩
          case measure => simp [intOf] <;> omega
      · have t1 : ((r : Int) / 4294967296 == 0) = false := by simp; omega
        have hfin := Lib.hid (show LessW V W → GuessIs V W (d % 4294967296) from fun hl => by
          have h := (hinv.out hl).end_rest (hG.out.with hl) (by omega)
          rwa [Nat.mod_eq_of_lt h.2.2])
        go_wp2
        go_ret
        exact ⟨d % 4294967296, _, by rw [Int.natCast_emod]; rfl, Nat.mod_lt _ (by decide), hfin.out, rfl⟩

end Go.Proofs.Ytebfoalcmnpghaa
