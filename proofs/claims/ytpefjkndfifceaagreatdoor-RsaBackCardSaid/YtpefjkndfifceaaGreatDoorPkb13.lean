/- Part of the proofs: what the functions that the law calls do. -/
import Derived.Test.YtpefjkndfifceaaGreatDoorPkb2
import Derived.Test.YtpefjkndfifceaaGreatDoorPkb3
import Derived.Test.YtpefjkndfifceaaGreatDoorPkb9
import Derived.Test.YtpefjkndfifceaaGreatDoorPkb10
import Derived.Test.YtpefjkndfifceaaGreatDoorPkb12
import Derived.Outline
open Go.Lib renaming hid → zH
open List renaming setIfInBounds_toArray → zq1, set_cons_zero → zq2, set_cons_succ → zq3, getElem_toArray → zq4, getElem_cons_succ → zq5, getElem_cons_zero → zq6
set_option linter.unusedVariables false
set_option linter.unusedSimpArgs false
namespace Go.Proofs.YtpefjkndfifceaaGreatDoor
open Go.RowKit
set_option maxHeartbeats 1000000 in
theorem shifted_any (a : Option Addr) (len cap : Nat) (l : List Nat) (w : World) (h : Reads .u32 w a len cap l) (hL : Lim l) (r : Nat) (hr32 : r < 32) (hlen : len ≤ 256) :
  Calls Tryz.prog 143 #[.slice a len cap, .int .i64 (r : Int)] w fun e w' => (∃ O, RetsQ .u32 71 w.heap.size w' O e ∧ O.length = len + 1 ∧ Lim O ∧ val32 O = val32 l * 2 ^ r) ∧ Below w.heap.size w w' := by
 obtain ⟨i0, hi, hz0, hz1, hz2⟩ := info_parts Tryz.info32
 have HM := zH h
 have HMM := zH h.length
 have HLm := zH hL
 clear h hL
 go_enter Tryz.func143, Tryz.ntmps143
 go_wp2_with (at_make; refine wpList_make_lc .u32 _ rfl _ _ 43 rfl w.heap.size 71 i0 Tryz.underlying43 hi hz0 hz1 _ _ _ _ 0 (len + 1) rfl rfl rfl (by omega) (by omega) (by rw [hz2]; omega) (by unfold maxLen; omega) (Nat.le_refl _) ?_; intro w1 hown hgrow)
 have hb1 : Below w.heap.size w w1 := (Below.refl _ _).grown hgrow (Nat.le_refl _) (fun _ h => by cases h)
 have HO := zH hown
 have HB1 := zH hb1
 clear hown hgrow hb1
 have h2r := zH (Nat.pow_le_pow_right (show 0 < 2 by decide) (show r ≤ 31 by omega))
 go_loopw [5, 6, 15] (fun v lo i wr => ∃ (j : Nat) (O : List Nat) (low : Nat), i = .int .i64 j ∧ lo = .int .u64 (low : Int) ∧ j ≤ len ∧ OwnQ .u32 71 w.heap.size wr v O ∧ Hid (O.length = j ∧ Lim O ∧ low < 2 ^ r ∧ val32 O + 4294967296 ^ j * low = val32 (l.take j) * 2 ^ r) ∧ Hid (Below w.heap.size w wr)) (fun _ _ i _ => len - (intOf i).toNat)
 case atStart => exact ⟨0, _, 0, rfl, rfl, Nat.zero_le _, HO.out, ⟨by simp, fun x hx => by simp at hx, Nat.pow_pos (by decide), by rw [List.take_zero]; simp [val32, valB]⟩, HB1.out⟩
 case round =>
  obtain ⟨j, O, low, rfl, rfl, hj, hown, hinv, hbel⟩ := hrel
  obtain ⟨ov, on, oc, rfl, -, hown⟩ := hown.slice
  by_cases hlt : j < len
  ·obtain ⟨b, off, rfl, hbk, hc2⟩ := (HM.out.below hbel.out).cells (by omega)
   have hck := hc2 j hlt
   have hx := lim_get HLm.out j
   have hst := zH (valB_succ (b := 4294967296) l j)
   clear hc2
   obtain ⟨i1, i2, i3, i4⟩ := hinv.out
   have I1 := zH i1
   have I2 := zH i2
   have I4 := zH i4
   clear i1 i2 i4
   generalize l[j]?.getD 0 = x at *
   have hor := or64 low x r hr32 i3 hx
   have hlow : low < 2147483648 := by have := h2r.out; omega
   have I3 := zH i3
   clear i3
   have hx2 : x * 2 ^ r ≤ 4294967295 * 2147483648 := Nat.mul_le_mul (by omega) h2r.out
   have hss := zH (shl_step (val32 O) low x r (4294967296 ^ j))
   have hlo2 : (low + x * 2 ^ r) / 4294967296 < 2 ^ r := by
    have e1 : x * 2 ^ r + 2 ^ r ≤ 4294967296 * 2 ^ r := by rw [← Nat.succ_mul]; exact Nat.mul_le_mul_right _ (by omega)
    have e2 := I3.out
    rw [Nat.div_lt_iff_lt_mul (by decide)]
    omega
   have HL2 := zH hlo2
   clear hlo2
   generalize hsg : low + x * 2 ^ r = s at *
   have HS := zH hsg
   have hs63 : s < 9223372036854775808 := by omega
   clear hsg hx2 hlow
   have hbs := hbel.out.size
   have HO1 := zH hown
   have hlen : O.length ≤ 1000 := by have := I1.out; omega
   clear hown
   go_wp2_with (at_builtin; refine wpList_append_q .u32 _ rfl _ _ 43 rfl w.heap.size 71 4 i0 Tryz.underlying43 hi hz0 hz1 hz2 (by decide) _ O rfl (HO1.out.alloc _) _ _ _ [s % 4294967296] rfl (Reads.one .u32 _ _ _ _ (by omega)) (by omega) (by simp; omega) ?_; intro v' w2 hown2 hgrow)
   go_roundw
   case rel =>
    refine ⟨j + 1, O ++ [s % 4294967296], s / 4294967296, by go_num, by go_num, by omega, hown2, ⟨by simp [I1.out], ?_, HL2.out, ?_⟩, hgrow _ (hbel.out.alloc hbs _)⟩
    ·intro y hy
     rcases List.mem_append.1 hy with h | h
     ·exact I2.out y h
     ·obtain rfl := List.mem_singleton.1 h; exact Nat.mod_lt _ (by decide)
    ·have e1 := I4.out
     have e2 := hss.out
     have e3 := hst.out
     simp only [val32, valB_snoc, I1.out] at e1 e2 ⊢
     rw [e3, Nat.add_mul, ← e1, Nat.pow_succ, e2]
   case measure => simp [intOf] <;> omega
  ·obtain rfl : j = len := by omega
   obtain ⟨i1, i2, i3, i4⟩ := hinv.out
   rw [List.take_of_length_le (by rw [HMM.out]; exact Nat.le_refl _)] at i4
   have hlow : low < 4294967296 := by have := h2r.out; omega
   have I1 := zH i1
   have I2 := zH i2
   have I4 := zH i4
   clear i1 i2 i3 i4
   have hbs := hbel.out.size
   have HO1 := zH hown
   have hlen : O.length ≤ 1000 := by have := I1.out; omega
   clear hown
   go_wp2_with (at_builtin; refine wpList_append_q .u32 _ rfl _ _ 43 rfl w.heap.size 71 4 i0 Tryz.underlying43 hi hz0 hz1 hz2 (by decide) _ O rfl (HO1.out.alloc _) _ _ _ [low] rfl (Reads.one .u32 _ _ _ _ rfl) (by omega) (by simp; omega) ?_; intro v' w2 hown2 hgrow)
   go_ret
   refine ⟨⟨O ++ [low], ⟨_, rfl, hown2⟩, by simp [I1.out], ?_, ?_⟩, hgrow _ (hbel.out.alloc hbs _)⟩
   ·intro y hy
    rcases List.mem_append.1 hy with h | h
    ·exact I2.out y h
    ·obtain rfl := List.mem_singleton.1 h; exact hlow
   ·have e1 := I4.out
    simp only [val32, valB_snoc, I1.out] at e1 ⊢
    exact e1
theorem or_hi (h y : Nat) (hy : y < 4294967296) : bits BinOp.or IntKind.u64 (IntKind.u64.wrap ((h : Int) * 4294967296)) (y : Int) = ((h % 4294967296 * 4294967296 + y : Nat) : Int) := by
 have hw : IntKind.u64.wrap ((h : Int) * 4294967296) = ((h % 4294967296 * 4294967296 : Nat) : Int) := by
  simp only [IntKind.wrap, IntKind.bits, IntKind.signed]
  simp
  omega
 rw [hw, u64_or_nat _ _ (by omega) (by omega), nat_join 32 _ _ (by omega) (by omega)]
theorem down_start' (m : Nat) : (∃ j : Nat, Value.int IntKind.i64 ((m : Int) - 1) = .int .i64 j ∧ j + 1 = m) ∨ (Value.int IntKind.i64 ((m : Int) - 1) = .int .i64 (-1) ∧ m = 0) := by
 rcases Nat.eq_zero_or_pos m with h | h
 ·exact .inr ⟨by rw [h]; rfl, h⟩
 ·exact .inl ⟨m - 1, by congr 1; omega, by omega⟩
set_option maxHeartbeats 1000000 in
theorem unshifted_any (a : Option Addr) (len cap : Nat) (l : List Nat) (w : World) (h : Reads .u32 w a len cap l) (hL : Lim l) (r : Nat) (hr32 : r < 32) (hlen : len ≤ 256) :
  Calls Tryz.prog 147 #[.slice a len cap, .int .i64 (r : Int)] w fun e w' => (∃ O, RetsQ .u32 71 w.heap.size w' O e ∧ O.length = len ∧ Lim O ∧ val32 O = val32 l / 2 ^ r) ∧ Below w.heap.size w w' := by
 obtain ⟨i0, hi, hz0, hz1, hz2⟩ := info_parts Tryz.info32
 have HM := zH h
 have HMM := zH h.length
 have HLm := zH hL
 clear h hL
 go_enter Tryz.func147, Tryz.ntmps147
 go_wp2_with (at_make; refine wpList_make_lc .u32 _ rfl _ _ 44 rfl w.heap.size 71 i0 Tryz.underlying44 hi hz0 hz1 _ _ _ _ len len rfl rfl rfl rfl (Nat.le_refl _) (by rw [hz2]; omega) (by unfold maxLen; omega) (Nat.le_refl _) ?_; intro w1 hown hgrow)
 have hb1 : Below w.heap.size w w1 := (Below.refl _ _).grown hgrow (Nat.le_refl _) (fun _ h => by cases h)
 have HO := zH hown
 have HB1 := zH hb1
 clear hown hgrow hb1
 go_loopw [6, 7] (fun hi i wr => ∃ (k : Nat) (O : List Nat) (h : Nat), k ≤ len ∧ ((∃ j : Nat, i = .int .i64 j ∧ j + 1 = k) ∨ (i = .int .i64 (-1) ∧ k = 0)) ∧ hi = .int .u64 (h : Int) ∧ h < 18446744073709551616 ∧ OwnQ .u32 71 w.heap.size wr (.slice (some ⟨w.heap.size, 0, none⟩) len len) O ∧ Hid (Unsh l O r k h) ∧ Hid (Below w.heap.size w wr)) (fun _ i _ => (intOf i + 1).toNat)
 case atStart => exact ⟨len, _, 0, Nat.le_refl _, down_start' len, rfl, by omega, HO.out, (by have := unsh_start (l := l) (n := r) (O := List.replicate len 0) (by rw [HMM.out]); rwa [HMM.out] at this), HB1.out⟩
 case round =>
  obtain ⟨k, O, hh, hk, hi, rfl, hhb, hown, hinv, hbel⟩ := hrel
  rcases hi with ⟨j, rfl, hjk⟩ | ⟨rfl, hkz⟩
  ·subst hjk
   obtain ⟨b, off, rfl, hbk, hc2⟩ := (HM.out.below hbel.out).cells (by omega)
   have hck := hc2 j (by omega)
   have hx := lim_get HLm.out j
   have hst := zH (unsh_next hinv.out HLm.out hr32 (by rw [HMM.out]; omega))
   have hol := zH (show len = O.length by rw [hinv.out.len, HMM.out])
   have hfr := hown.frozenAt hol.out j
   have hcell := hown.cellAt hol.out j (by omega)
   have HO1 := zH hown
   clear hc2 hown
   generalize l[j]?.getD 0 = x at *
   generalize O[j]?.getD 0 = z at *
   have hor := or_hi hh x hx
   generalize hsg : hh % 4294967296 * 4294967296 + x = s at *
   have hs64 : s < 18446744073709551616 := by omega
   have HS := zH hsg
   clear hsg
   go_wp2
   go_roundw
   case rel =>
    have s1 := HO1.out.stored hol.out j (s / 2 ^ r % 4294967296) (((s : Int) / 2 ^ r) % 4294967296) (by simp)
    exact ⟨j, O.set j (s / 2 ^ r % 4294967296), s, by omega, down_start' j, rfl, hs64, s1.1, hst.out, s1.2 _ hbel.out⟩
   case measure => simp [intOf] <;> omega
  ·subst hkz
   have HIN := zH hinv.out
   obtain ⟨av, nv, cv, hv, hn, hown⟩ := hown.slice
   cases hv
   have HO1 := zH hown
   clear hown hinv
   go_wp2
   go_ret
   exact ⟨⟨O, ⟨_, rfl, HO1.out⟩, by rw [HIN.out.len, HMM.out], HIN.out.lim, unsh_fin HIN.out⟩, hbel.out⟩
theorem add32_any (x y o : Nat) (w : World) (hx : x < 4294967296) (hy : y < 4294967296) (ho : o ≤ 1) :
  Calls Tryz.prog 185 #[.int .u32 (x : Int), .int .u32 (y : Int), .int .u32 (o : Int)] w fun e w' => e = .returned (.tuple #[.int .u32 ((x + y + o) % 4294967296 : Nat), .int .u32 ((x + y + o) / 4294967296 : Nat)]) ∧ w = w' := by
 have h1 : Hid (((x : Int) + (y : Int) + (o : Int)) % 4294967296 = (((x + y + o) % 4294967296 : Nat) : Int)) := by unfold Hid; omega
 have h2 : Hid (((x : Int) + (y : Int) + (o : Int)) / 4294967296 = (((x + y + o) / 4294967296 : Nat) : Int)) := by unfold Hid; omega
 go_enter Tryz.func185, Tryz.ntmps185
 go_wp2
 go_ret2
 exact ⟨by rw [← h1.out, ← h2.out]; rfl, rfl⟩
theorem zeros32_any (x : Nat) (w : World) (hx : x < 4294967296) (n : Nat) (hn : n + bitsN x = 32) : Calls Tryz.prog 142 #[.int .u32 (x : Int)] w fun e w' => e = .returned (.int .i64 (n : Int)) ∧ w = w' := by
 have h1 := zH (len32_any x w hx)
 have h2 : (32 : Int) - ((bitsN x : Nat) : Int) = (n : Int) := by omega
 have hb : bitsN x ≤ 32 := by omega
 generalize bitsN x = b at *
 go_enter Tryz.func142, Tryz.ntmps142
 go_wp2_with (go_at_call 109; refine h1.out.mono ?_; rintro e w' ⟨rfl, rfl⟩)
 go_ret
 exact ⟨rfl, rfl⟩
end Go.Proofs.YtpefjkndfifceaaGreatDoor
namespace Go.Proofs.YtpefjkndfifceaaGreatDoor
open Go.RowKit
def Guesses (V W : List Nat) (w : World) (e : Ending) (w' : World) : Prop := ∃ d n : Nat, e = .returned (.int .u32 (d : Int)) ∧ d < 4294967296 ∧ (LessW V W → GuessIs V W d) ∧ w' = w.drewN n
set_option maxRecDepth 100000 in
set_option maxHeartbeats 1000000 in
theorem guess_any (D t k nl cl cv : Nat) (a1 a2 : Option Addr) (L V A W Z : List Nat) (q : Value) (w : World)
  (h0 : w.cell? ⟨D, 0, none⟩ = some (.slice a1 nl cl)) (h1 : w.cell? ⟨D, 1, none⟩ = some (.slice a2 (k + 1) cv)) (h2 : w.cell? ⟨D, 2, none⟩ = some q)
  (hL : Reads .u32 w a1 nl cl L) (hV : Reads .u32 w a2 (k + 1) cv V) (hw : Window L A W Z t (k + 1)) (hg : GuessW V W k) (ht : t + k + 2 ≤ nl) (hnl : nl ≤ 1000) :
  Calls Tryz.prog 145 #[.pointer (some ⟨D, 0, none⟩), .int .i64 (t : Int)] w (Guesses V W w) := by
 obtain ⟨b1, o1, rfl, hb1, c1⟩ := hL.cells (by omega)
 obtain ⟨b2, o2, rfl, hb2, c2⟩ := hV.cells (by omega)
 have l1 := c1 (t + (k + 1)) (by omega)
 have l2 := c1 (t + k) (by omega)
 have l3 := c2 k (by omega)
 rw [hw.get (k + 1) (Nat.le_refl _)] at l1
 rw [hw.get k (by omega)] at l2
 have hG := zH hg
 have x1 := lim_get hg.wlim (k + 1)
 have x2 := lim_get hg.wlim k
 have x3 := lim_get hg.vlim k
 have x4 := hg.high
 have hst := zH (fun hl : LessW V W => guessAt_start (hg.with hl))
 have HW := zH hw
 obtain ⟨s, hs⟩ : ∃ s, s = t + (k + 1) := ⟨_, rfl⟩
 obtain ⟨s2, hs2⟩ : ∃ s2, s2 = t + k := ⟨_, rfl⟩
 rw [← hs] at l1
 rw [← hs2] at l2
 have e1 : ((t : Int) + ((k : Int) + 1)) = (s : Int) := by omega
 have e2 : ((s : Int) - 1) = (s2 : Int) := by omega
 have b1 : s < nl := by omega
 have b2 : s2 < nl := by omega
 have HS := zH hs
 have HS2 := zH hs2
 clear hs hs2
 have C1 := zH c1
 have C2 := zH c2
 clear c1 c2 hL hV hg
 generalize hhi : W[k + 1]?.getD 0 = hi at *
 generalize hlo : W[k]?.getD 0 = lo at *
 have HHI := zH hhi
 have HLO := zH hlo
 have hor := or_lo hi lo x1 x2
 generalize hhg : V[k]?.getD 0 = high at *
 have HHG := zH hhg
 clear hhi hlo hhg
 have b3 : hi * 4294967296 + lo < 18446744073709551616 := by omega
 generalize htp : hi * 4294967296 + lo = top at *
 have HTP := zH htp
 clear htp
 have hq0 : ((top : Int) / (high : Int)) = ((top / high : Nat) : Int) := by simp
 have hr0 : ((top : Int) % (high : Int)) = ((top % high : Nat) : Int) := by simp
 have hd0 : top / high ≤ 8589934592 := Nat.le_trans (Nat.div_le_div_left (show 2147483648 ≤ high by omega) (by decide)) (by omega)
 have hm0 : top % high < high := Nat.mod_lt _ (by omega)
 generalize top / high = d0 at *
 generalize top % high = r0 at *
 have hz : ((high : Int) == 0) = false := by simp; omega
 have hz2 : (high : Int) ≠ 0 := by omega
 rcases Nat.eq_zero_or_pos k with hk | hk
 ·have hdk : decide ((1 : Int) < (k : Int) + 1) = false := by simp; omega
  have HK := zH hk
  clear hk
  go_enter Tryz.func145, Tryz.ntmps145
  go_wp2
  go_big_quiet (fail)
  simp only [Exit.then]
  go_wp2
  go_big_quiet (fail)
  simp only [Exit.then]
  go_wp2
  go_loop [8, 9] (fun dv rv => ∃ d r : Nat, dv = .int .u64 (d : Int) ∧ rv = .int .u64 (r : Int) ∧ Hid (LessW V W → GuessAt V W k d r) ∧ d ≤ 8589934592 ∧ r < 8589934592) (fun dv _ => (intOf dv).toNat)
  case atStart => exact ⟨d0, r0, by first | rfl | rw [hq0], by first | rfl | rw [hr0], hst.out, hd0, by omega⟩
  case round =>
   obtain ⟨d, r, rfl, rfl, hinv, hd, hr⟩ := hrel
   by_cases hrb : r < 4294967296
   ·have t1 : ((r : Int) / 4294967296 == 0) = true := by simp; omega
    by_cases hdb : d < 4294967296
    ·have t2 : ((d : Int) / 4294967296 != 0) = false := by simp; omega
     have hor0 : bits BinOp.or IntKind.u64 ((r : Int) * 4294967296) 0 = (r : Int) * 4294967296 := by
      have := or_lo r 0 hrb (by decide)
      simpa using this
     have t3 : decide ((r : Int) * 4294967296 < 0) = false := by simp; omega
     have hfin := zH (show LessW V W → GuessIs V W d from fun hl => by
      have h1 := hinv.out hl
      have h2 := hG.out.with hl
      rw [HK.out] at h1 h2
      exact h1.end_one h2 hdb)
     go_wp2
     go_ret
     exact ⟨d, _, rfl, hdb, hfin.out, rfl⟩
    ·have t2 : ((d : Int) / 4294967296 != 0) = true := by simp; omega
     have hnx := zH (show LessW V W → GuessAt V W k (d - 1) (r + high) from fun hl => by
      have := ((hinv.out hl).step_big (hG.out.with hl) hrb (by omega)).1
      rwa [HHG.out] at this)
     obtain ⟨c, rfl⟩ : ∃ c, d = c + 1 := ⟨d - 1, by omega⟩
     rw [Nat.add_sub_cancel] at hnx
     go_wp2
     go_round
     case rel => exact ⟨c, rfl, r + high, by go_num, hnx.out, by omega, by omega⟩
     case measure => simp [intOf] <;> omega
   ·have t1 : ((r : Int) / 4294967296 == 0) = false := by simp; omega
    have hfin := zH (show LessW V W → GuessIs V W (d % 4294967296) from fun hl => by
     have h := (hinv.out hl).end_rest (hG.out.with hl) (by omega)
     rwa [Nat.mod_eq_of_lt h.2.2])
    go_wp2
    go_ret
    exact ⟨d % 4294967296, _, by rw [Int.natCast_emod]; rfl, Nat.mod_lt _ (by decide), hfin.out, rfl⟩
 ·obtain ⟨j, hj⟩ : ∃ j, k = j + 1 := ⟨k - 1, by omega⟩
  have hdk : decide ((1 : Int) < (k : Int) + 1) = true := by simp; omega
  obtain ⟨s3, hs3⟩ : ∃ s3, s3 = t + j := ⟨_, rfl⟩
  have l4 := C1.out s3 (by omega)
  have l5 := C2.out j (by omega)
  have e3 : ((k : Int) + 1 - 2) = (j : Int) := by omega
  have e4 : ((s : Int) - 2) = (s3 : Int) := by have := HS.out; omega
  have b4 : s3 < nl := by omega
  have b5 : j < k + 1 := by omega
  have y2 := lim_get hG.out.wlim j
  have y3 := lim_get hG.out.vlim j
  have hlj : L[s3]?.getD 0 = W[j]?.getD 0 := by rw [hs3]; exact HW.out.get j (by omega)
  rw [hlj] at l4
  have HK := zH hj
  clear hj hk hs3 hlj
  generalize hnxx : V[j]?.getD 0 = nx at *
  generalize hbll : W[j]?.getD 0 = bl at *
  have HNX := zH hnxx
  have HBL := zH hbll
  clear hnxx hbll
  go_enter Tryz.func145, Tryz.ntmps145
  go_wp2
  go_big_quiet (fail)
  simp only [Exit.then]
  go_wp2
  go_big_quiet (fail)
  simp only [Exit.then]
  go_wp2
  go_big_quiet (fail)
  simp only [Exit.then]
  go_wp2
  go_loop [8, 9] (fun dv rv => ∃ d r : Nat, dv = .int .u64 (d : Int) ∧ rv = .int .u64 (r : Int) ∧ Hid (LessW V W → GuessAt V W k d r) ∧ d ≤ 8589934592 ∧ r < 8589934592) (fun dv _ => (intOf dv).toNat)
  case atStart => exact ⟨d0, r0, by first | rfl | rw [hq0], by first | rfl | rw [hr0], hst.out, hd0, by omega⟩
  case round =>
   obtain ⟨d, r, rfl, rfl, hinv, hd, hr⟩ := hrel
   by_cases hrb : r < 4294967296
   ·have t1 : ((r : Int) / 4294967296 == 0) = true := by simp; omega
    by_cases hdb : d < 4294967296
    ·have t2 : ((d : Int) / 4294967296 != 0) = false := by simp; omega
     have hor1 := or_lo r bl hrb y2
     have hb5 : r * 4294967296 + bl < 18446744073709551616 := by omega
     have hdn : d * nx ≤ 18446744065119617025 := Nat.le_trans (Nat.mul_le_mul (show d ≤ 4294967295 by omega) (show nx ≤ 4294967295 by omega)) (by decide)
     have hmul : ((d : Int) * (nx : Int)) = ((d * nx : Nat) : Int) := by simp
     by_cases hlt : r * 4294967296 + bl < d * nx
     ·have hnx := zH (show LessW V W → GuessAt V W k (d - 1) (r + high) from fun hl => by
       have h1 := hinv.out hl
       have h2 := hG.out.with hl
       rw [HK.out] at h1 h2
       have h3 := h1.step_next h2 hrb (by rw [HBL.out, HNX.out]; exact hlt)
       rw [← HK.out, HHG.out] at h3
       exact h3.1)
      have hdp : 0 < d := Nat.pos_of_ne_zero (fun e => by rw [e, Nat.zero_mul] at hlt; omega)
      generalize hsm : r * 4294967296 + bl = sm at hor1 hb5 hlt
      generalize hpr : d * nx = pr at hmul hdn hlt
      have t3 : decide ((sm : Int) < (pr : Int)) = true := by simp; omega
      obtain ⟨c, rfl⟩ : ∃ c, d = c + 1 := ⟨d - 1, by omega⟩
      rw [Nat.add_sub_cancel] at hnx
      rw [show ((c + 1 : Nat) : Int) = (c : Int) + 1 by omega] at t2 hmul
      clear hsm hpr
      go_wp2
      go_round
      case rel => exact ⟨c, rfl, r + high, by go_num, hnx.out, by omega, by omega⟩
      case measure => simp [intOf] <;> omega
     ·have hfin := zH (show LessW V W → GuessIs V W d from fun hl => by
       have h1 := hinv.out hl
       have h2 := hG.out.with hl
       rw [HK.out] at h1 h2
       exact h1.end_more h2 hdb (by rw [HBL.out, HNX.out]; omega))
      generalize hsm : r * 4294967296 + bl = sm at hor1 hb5 hlt
      generalize hpr : d * nx = pr at hmul hdn hlt
      have t3 : decide ((sm : Int) < (pr : Int)) = false := by simp; omega
      clear hsm hpr
      go_wp2
      go_ret
      exact ⟨d, _, rfl, hdb, hfin.out, rfl⟩
    ·have t2 : ((d : Int) / 4294967296 != 0) = true := by simp; omega
     have hnx := zH (show LessW V W → GuessAt V W k (d - 1) (r + high) from fun hl => by
      have := ((hinv.out hl).step_big (hG.out.with hl) hrb (by omega)).1
      rwa [HHG.out] at this)
     obtain ⟨c, rfl⟩ : ∃ c, d = c + 1 := ⟨d - 1, by omega⟩
     rw [Nat.add_sub_cancel] at hnx
     go_wp2
     go_round
     case rel => exact ⟨c, rfl, r + high, by go_num, hnx.out, by omega, by omega⟩
     case measure => simp [intOf] <;> omega
   ·have t1 : ((r : Int) / 4294967296 == 0) = false := by simp; omega
    have hfin := zH (show LessW V W → GuessIs V W (d % 4294967296) from fun hl => by
     have h := (hinv.out hl).end_rest (hG.out.with hl) (by omega)
     rwa [Nat.mod_eq_of_lt h.2.2])
    go_wp2
    go_ret
    exact ⟨d % 4294967296, _, by rw [Int.natCast_emod]; rfl, Nat.mod_lt _ (by decide), hfin.out, rfl⟩
end Go.Proofs.YtpefjkndfifceaaGreatDoor
namespace Go.Proofs.YtpefjkndfifceaaGreatDoor
open Go.RowKit
structure Touch (g : Nat) (w w' : World) : Prop where
 os : w'.os = w.os
 tape : w'.tape = w.tape
 output : w'.output = w.output
 size : w.heap.size ≤ w'.heap.size
 block : ∀ k, k < w.heap.size → k ≠ g → w'.heap[k]? = w.heap[k]?
theorem Touch.refl (g : Nat) (w : World) : Touch g w w := ⟨rfl, rfl, rfl, Nat.le_refl _, fun _ _ _ => rfl⟩
theorem Touch.trans {g : Nat} {a b c : World} (h : Touch g a b) (k : Touch g b c) : Touch g a c :=
 ⟨k.os.trans h.os, k.tape.trans h.tape, k.output.trans h.output, Nat.le_trans h.size k.size, fun i hi hn => (k.block i (Nat.lt_of_lt_of_le hi h.size) hn).trans (h.block i hi hn)⟩
theorem Touch.drewN {g : Nat} {a w : World} (h : Touch g a w) (n : Nat) : Touch g a (w.drewN n) := h.trans ⟨rfl, rfl, rfl, Nat.le_refl _, fun _ _ _ => rfl⟩
theorem Touch.setCell {g : Nat} {a w : World} (h : Touch g a w) (j : Nat) (u : Value) : Touch g a (w.setCell ⟨g, j, none⟩ u) :=
 h.trans ⟨rfl, rfl, rfl, by simp [World.setCell], fun k _ hn => Below.heap_setCell w _ u k hn⟩
theorem Touch.cell {g : Nat} {w w' : World} (h : Touch g w w') {p : Addr} (hp : p.block < w.heap.size) (hn : p.block ≠ g) : w'.cell? p = w.cell? p := World.cell?_of_block (w := w) (h.block p.block hp hn)
theorem Touch.cellSome {g : Nat} {w w' : World} (h : Touch g w w') {p : Addr} {v : Value} (hc : w.cell? p = some v) (hn : p.block ≠ g) : w'.cell? p = some v := (h.cell (World.block_lt_of_cell? w _ hc) hn).trans hc
theorem Touch.reads {g : Nat} {q : IntKind} {w w' : World} {a : Option Addr} {len cap : Nat} {l : List Nat} (h : Touch g w w') (hr : Reads q w a len cap l) (hn : ∀ ad, a = some ad → 0 < len → ad.block ≠ g) : Reads q w' a len cap l :=
 ⟨hr.length, hr.le, hr.max, hr.nil, fun hp => by
  obtain ⟨b, off, rfl, hlt, hc⟩ := hr.cells hp
  exact ⟨b, off, rfl, Nat.lt_of_lt_of_le hlt h.size, fun i hi => (h.cell (p := ⟨b, off + i, none⟩) hlt (show b ≠ g from hn ⟨b, off, none⟩ rfl hp)).trans (hc i hi)⟩⟩
theorem Touch.below {g B : Nat} {w w' : World} (h : Touch g w w') (hB : B ≤ w.heap.size) (hg : B ≤ g) : Below B w w' :=
 ⟨h.os, h.tape, h.output, h.size, fun k hk => h.block k (Nat.lt_of_lt_of_le hk hB) (by omega)⟩
def Takes (V A W Z : List Nat) (k B g nl cl d : Nat) (w : World) (e : Ending) (w' : World) : Prop := ∃ (W' : List Nat) (r : Nat), e = .returned (.int .u32 (r : Int)) ∧ r < 4294967296 ∧ (LessW V W → GuessIs V W d → r = val32 W / val32 V ∧ val32 (W'.take (k + 1)) = val32 W % val32 V) ∧ OwnQ .u32 71 B w' (.slice (some ⟨g, 0, none⟩) nl cl) (A ++ (W' ++ Z)) ∧ W'.length = k + 1 + 1 ∧ Lim W' ∧ Touch g w w'
theorem over_pos {x d v w P : Nat} (h : x + d * v = w + P) (hx : x < P) : 1 ≤ d := by
 rcases Nat.eq_zero_or_pos d with rfl | h1
 ·rw [Nat.zero_mul] at h; omega
 ·exact h1
theorem win_get {A W Z : List Nat} {t i : Nat} (ha : A.length = t) (hi : i < W.length) : (A ++ (W ++ Z))[t + i]?.getD 0 = W[i]?.getD 0 := by
 rw [List.getElem?_append_right (by omega), ha, Nat.add_sub_cancel_left, List.getElem?_append_left hi]
theorem win_set {A W Z : List Nat} {t i x : Nat} (ha : A.length = t) (hi : i < W.length) : (A ++ (W ++ Z)).set (t + i) x = A ++ (W.set i x ++ Z) := by
 rw [List.set_append_right _ _ (by omega), ha, Nat.add_sub_cancel_left, List.set_append_left _ _ hi]
set_option maxRecDepth 100000 in
set_option maxHeartbeats 2000000 in
theorem take_any (D t k nl cl cv B g d : Nat) (a2 : Option Addr) (L V A W Z : List Nat) (q : Value) (w : World)
  (h0 : w.cell? ⟨D, 0, none⟩ = some (.slice (some ⟨g, 0, none⟩) nl cl)) (h1 : w.cell? ⟨D, 1, none⟩ = some (.slice a2 (k + 1) cv)) (h2 : w.cell? ⟨D, 2, none⟩ = some q)
  (hO : OwnQ .u32 71 B w (.slice (some ⟨g, 0, none⟩) nl cl) L) (hV : Reads .u32 w a2 (k + 1) cv V) (hDg : D ≠ g) (hVg : ∀ ad, a2 = some ad → 0 < k + 1 → ad.block ≠ g)
  (hw : Window L A W Z t (k + 1)) (hg : GuessW V W k) (hdb : d < 4294967296) (ht : t + k + 2 ≤ nl) (hnl : nl ≤ 1000) :
  Calls Tryz.prog 146 #[.pointer (some ⟨D, 0, none⟩), .int .i64 (t : Int), .int .u32 (d : Int)] w (Takes V A W Z k B g nl cl d w) := by
 have hcap := hO.cap
 have hcm := hcap.2.2
 unfold maxLen at hcm
 have hcl : t + k + 2 ≤ cl := by omega
 have hLW : L = A ++ (W ++ Z) := hw.eq
 rw [hLW] at hO
 have HA := zH hw.alen
 have HG := zH hg
 have HO := zH hO
 have HV := zH hV
 have HVG := zH hVg
 have HDG := zH hDg
 have HNL := zH (show nl = (A ++ (W ++ Z)).length by rw [← hLW]; exact hcap.1)
 have HH0 := zH h0
 have HH1 := zH h1
 have HH2 := zH h2
 obtain ⟨s, hs⟩ : ∃ s, s = t + (k + 1) := ⟨_, rfl⟩
 have e1 : ((t : Int) + ((k : Int) + 1)) = (s : Int) := by omega
 have b1 : s + 1 ≤ nl := by omega
 have b2 : t ≤ s + 1 := by omega
 have hcz : ((cl : Int) == (t : Int)) = false := by simp; omega
 have e3 : s + 1 - t = k + 2 := by omega
 have HS := zH hs
 clear hs hO hV hVg hDg hw hg hLW hcap
 go_enter Tryz.func146, Tryz.ntmps146
 go_wp2
 go_big_quiet (fail)
 simp only [Exit.then]
 go_wp2
 go_loopw [7, 8, 35] (fun cv bv iv wr => ∃ (i c b : Nat) (W' : List Nat), iv = .int .i64 i ∧ cv = .int .u64 (c : Int) ∧ bv = .int .u32 (b : Int) ∧ i ≤ k + 1 ∧ Hid (Taken V W W' d i c b) ∧ OwnQ .u32 71 B wr (.slice (some ⟨g, 0, none⟩) nl cl) (A ++ (W' ++ Z)) ∧ Hid (Touch g w wr)) (fun _ _ iv _ => k + 1 - (intOf iv).toNat)
 case atStart => exact ⟨0, 0, 0, W, rfl, rfl, rfl, Nat.zero_le _, taken_start HG.out.wlim, HO.out, (Touch.refl g w).drewN _⟩
 case round =>
  obtain ⟨i, c, b, W', rfl, rfl, rfl, hi, hinv, hown, htch⟩ := hrel
  have hlen := hinv.out.len
  rw [HG.out.wlen] at hlen
  have HL := zH hlen
  have hN := zH (show nl = (A ++ (W' ++ Z)).length by rw [HNL.out]; simp [HL.out, HG.out.wlen])
  have i5 := hinv.out.carry
  have i6 := hinv.out.borrow
  have cD1 := htch.out.cellSome HH1.out HDG.out
  have cD0 := htch.out.cellSome HH0.out HDG.out
  by_cases hlt : i < k + 1
  ·have hRV := htch.out.reads HV.out HVG.out
   obtain ⟨bb, off, rfl, hbk, hc2⟩ := hRV.cells (by omega)
   have hck := hc2 i hlt
   have hst := zH (taken_step hinv.out HG.out.vlim HG.out.wlim hdb (by rw [HG.out.vlen]; exact hlt) (by rw [HG.out.wlen, HG.out.vlen]))
   have hfr := hown.frozenAt hN.out (t + i)
   have hcell := hown.cellAt hN.out (t + i) (by omega)
   rw [win_get HA.out (by rw [HL.out]; omega)] at hcell
   have hx := lim_get HG.out.vlim i
   have hy := lim_get hinv.out.lim i
   have HO1 := zH hown
   clear hc2 hown hlen
   generalize V[i]?.getD 0 = x at *
   generalize W'[i]?.getD 0 = y at *
   have hcb := carry_bound i5 hdb hx
   have hmul : ((d : Int) * (x : Int)) = ((d * x : Nat) : Int) := by simp
   have hdn : d * x ≤ 18446744065119617025 := Nat.le_trans (Nat.mul_le_mul (show d ≤ 4294967295 by omega) (show x ≤ 4294967295 by omega)) (by decide)
   generalize d * x = p at hmul hdn hcb hst
   have hsum : ((c : Int) + (p : Int)) = ((c + p : Nat) : Int) := by omega
   have hs64 : c + p < 18446744073709551616 := by omega
   obtain ⟨hcb1, hcb2⟩ := hcb
   generalize c + p = s2 at hsum hs64 hcb2 hst
   have hmod : ((s2 : Int) % 4294967296) = ((s2 % 4294967296 : Nat) : Int) := by omega
   have hdiv : ((s2 : Int) / 4294967296) = ((s2 / 4294967296 : Nat) : Int) := by omega
   have hm2 : s2 % 4294967296 < 4294967296 := Nat.mod_lt _ (by decide)
   generalize s2 % 4294967296 = m at hmod hm2 hst
   generalize s2 / 4294967296 = c2 at hdiv hcb2 hst
   have hSB := zH (fun W0 => sub32_any y m b W0 hy hm2 i6)
   clear hcb1
   go_wp2_with (go_at_call 111; refine (hSB.out _).mono ?_; rintro e w' ⟨rfl, rfl⟩)
   go_roundw
   case rel =>
    have s1 := HO1.out.stored hN.out (t + i) (subD y m b) _ rfl
    rw [win_set HA.out (by rw [HL.out]; omega)] at s1
    exact ⟨i + 1, c2, subB y m b, W'.set i (subD y m b), by go_num, rfl, rfl, by omega, hst.out, s1.1, htch.out.setCell _ _⟩
   case measure => simp [intOf] <;> omega
  ·obtain rfl : i = k + 1 := by omega
   have hst := zH (by
    have h1 := hinv.out
    rw [← HG.out.vlen] at h1
    exact taken_end h1 HG.out.wlim (by rw [HG.out.wlen, HG.out.vlen]))
   rw [HG.out.vlen] at hst
   have hfr := hown.frozenAt hN.out (t + (k + 1))
   have hcell := hown.cellAt hN.out (t + (k + 1)) (by omega)
   rw [win_get HA.out (by rw [HL.out]; omega)] at hcell
   have hy := lim_get hinv.out.lim (k + 1)
   have HO1 := zH hown
   clear hown hlen
   generalize W'[k + 1]?.getD 0 = y at *
   have hmod : ((c : Int) % 4294967296) = (c : Int) := by omega
   have hSB := zH (fun W0 => sub32_any y c b W0 hy i5 i6)
   have hb2 := hst.out.2.2.2
   have s1 := HO1.out.stored hN.out (t + (k + 1)) (subD y c b) _ rfl
   rw [win_set HA.out (by rw [HL.out]; omega)] at s1
   have T1 := zH (htch.out.setCell (t + (k + 1)) (.int .u32 (subD y c b : Nat)))
   have S1 := zH s1.1
   have cD2 := T1.out.cellSome HH1.out HDG.out
   clear s1 cD0
   have hcases : subB y c b = 0 ∨ subB y c b = 1 := by omega
   clear hb2
   rcases hcases with hz | hz
   ·rw [hz] at hSB hst
    clear hz
    have hfin := zH (fun (hge : val32 W / val32 V ≤ d) => taken_fits (by have := hst.out.1; rwa [Nat.mul_zero, Nat.add_zero] at this) rfl hge HG.out.pos)
    go_wp2_with (go_at_call 111; refine (hSB.out _).mono ?_; rintro e w' ⟨rfl, rfl⟩)
    go_ret
    have hl := hst.out.2.1
    rw [HG.out.wlen] at hl
    refine ⟨_, d, rfl, hdb, fun _ hgi => ⟨(hfin.out hgi.1).1, ?_⟩, S1.out, hl, hst.out.2.2.1, T1.out⟩
    have h5 := (hfin.out hgi.1).2
    refine (low_window hst.out.2.2.1 hl (v := val32 V) ?_ ?_).trans ?_
    ·have := valB_lt (b := 4294967296) (by decide) HG.out.vlim
     rwa [HG.out.vlen] at this
    ·rw [h5]; exact Nat.mod_lt _ HG.out.pos
    ·rw [h5, Nat.mod_mod]
   ·rw [hz] at hSB hst
    clear hz
    go_wp2_with (go_at_call 111; refine (hSB.out _).mono ?_; rintro e w' ⟨rfl, rfl⟩)
    have hl2 := hst.out.2.1
    rw [HG.out.wlen] at hl2
    have HL2 := zH hl2
    have ST := zH (show val32 (W'.set (k + 1) (subD y c b)) + d * val32 V = val32 W + 4294967296 ^ (k + 1 + 1) by have := hst.out.1; rwa [Nat.mul_one] at this)
    have LM := zH hst.out.2.2.1
    clear hl2 hst hcell hfr hy hmod hSB i5 i6 cD1
    generalize W'.set (k + 1) (subD y c b) = W2 at *
    go_loopw [13, 91] (fun ov iv wr => ∃ (i o : Nat) (W3 : List Nat), iv = .int .i64 i ∧ ov = .int .u32 (o : Int) ∧ i ≤ k + 1 ∧ Hid (Back V W2 W3 i o) ∧ OwnQ .u32 71 B wr (.slice (some ⟨g, 0, none⟩) nl cl) (A ++ (W3 ++ Z)) ∧ Hid (Touch g w wr)) (fun _ iv _ => k + 1 - (intOf iv).toNat)
    case atStart => exact ⟨0, 0, W2, rfl, rfl, Nat.zero_le _, back_start LM.out, S1.out, T1.out⟩
    case round =>
     obtain ⟨i, o, W3, rfl, rfl, hi, hinv3, hown3, htch3⟩ := hrel
     have hlen3 := hinv3.out.len
     rw [HL2.out] at hlen3
     have HL3 := zH hlen3
     have hN3 := zH (show nl = (A ++ (W3 ++ Z)).length by rw [HNL.out]; simp [HL3.out, HG.out.wlen])
     have i7 := hinv3.out.over
     by_cases hlt3 : i < k + 1
     ·have hRV := htch3.out.reads HV.out HVG.out
      obtain ⟨bb, off, rfl, hbk, hc2⟩ := hRV.cells (by omega)
      have hck := hc2 i hlt3
      have hst3 := zH (back_step hinv3.out HG.out.vlim (by rw [HG.out.vlen]; exact hlt3) (by rw [HL2.out, HG.out.vlen]))
      have hfr := hown3.frozenAt hN3.out (t + i)
      have hcell := hown3.cellAt hN3.out (t + i) (by omega)
      rw [win_get HA.out (by rw [HL3.out]; omega)] at hcell
      have hx := lim_get HG.out.vlim i
      have hy := lim_get hinv3.out.lim i
      have HO3 := zH hown3
      clear hc2 hown3 hlen3 hlt
      generalize V[i]?.getD 0 = x at *
      generalize W3[i]?.getD 0 = y3 at *
      have hAD := zH (fun W0 => add32_any y3 x o W0 hy hx i7)
      go_wp2_with (go_at_call 185; refine (hAD.out _).mono ?_; rintro e w' ⟨rfl, rfl⟩)
      go_roundw
      case rel =>
       have s1 := HO3.out.stored hN3.out (t + i) ((y3 + x + o) % 4294967296) _ rfl
       rw [win_set HA.out (by rw [HL3.out]; omega)] at s1
       exact ⟨i + 1, (y3 + x + o) / 4294967296, W3.set i ((y3 + x + o) % 4294967296), by go_num, rfl, by omega, hst3.out, s1.1, htch3.out.setCell _ _⟩
      case measure => simp [intOf] <;> omega
     ·obtain rfl : i = k + 1 := by omega
      have hVl := valB_lt (b := 4294967296) (by decide) HG.out.vlim
      rw [HG.out.vlen] at hVl
      have hbk := hinv3.out.val
      rw [List.take_of_length_le (l := V) (by rw [HG.out.vlen]; exact Nat.le_refl _)] at hbk
      have hfin := zH (fun (hle : d ≤ val32 W / val32 V + 1) => taken_over ST.out rfl hle HG.out.pos LM.out HL2.out hinv3.out.lim hVl HL3.out hbk)
      have hd1 : 1 ≤ d := over_pos ST.out (by have := valB_lt (b := 4294967296) (by decide) LM.out; rwa [HL2.out] at this)
      obtain ⟨d', rfl⟩ : ∃ d', d = d' + 1 := ⟨d - 1, by omega⟩
      have HO3 := zH hown3
      clear hVl hbk hlen3 hown3 hlt
      go_wp2
      go_ret
      exact ⟨W3, d', rfl, by omega, fun _ hgi => ⟨by have := (hfin.out hgi.2.1).1; exact Nat.succ.inj this, (hfin.out hgi.2.1).2⟩, HO3.out, HL3.out, hinv3.out.lim, htch3.out⟩
end Go.Proofs.YtpefjkndfifceaaGreatDoor
namespace Go.Proofs.YtpefjkndfifceaaGreatDoor
open Go.RowKit Go.Shelf
attribute [local go_sem] Oper.semAt_some
abbrev Place (m : Nat) := { x : Nat // x < m }
abbrev encF {m : Nat} (x : Place m) : Array Value := #[.int .i64 (x.1 : Int)]
def falls (m k : Nat) : List Nat := (List.range k).map fun j => m - 1 - j
theorem falls_succ (m k j : Nat) (h : j = m - 1 - k) : falls m (k + 1) = falls m k ++ [j] := by
 subst h
 rw [falls, List.range_succ, List.map_append]; rfl
theorem falls_length (m k : Nat) : (falls m k).length = k := by simp [falls]
set_option maxRecDepth 100000 in
set_option maxHeartbeats 2000000 in
theorem falls_stops (n : Nat) (hn : 2 ≤ n) (Kp : World → World → Prop) (b m : Nat) (w : World) (hb : Boxed w b 3 (.int .i64 (m : Int))) (hm : m ≤ 1000) :
  SeqStopsK Fence.wide n Tryz.prog 202 #[.pointer (some ⟨b, 0, none⟩)] (encF (m := m)) Kp (fun xs => xs.map (·.1) = falls m m) (fun _ => True) m w := fun lp J Jx W hW hJ hJx hY h0 => by
 have bX : Boxed W b 3 (.int .i64 (m : Int)) := (hW.block b hb.lt).trans hb
 clear hb
 have cX := bX.cell
 clear bX
 refine callsIn_of_wp Tryz.func202 rfl trivial ?_ rfl
 simp only [Tryz.ntmps202, List.size_toArray, List.length_cons, List.length_nil, Nat.reduceAdd, Nat.reduceSub, Array.replicate_succ, Array.replicate_zero, List.push_toArray, List.append_toArray, List.nil_append, List.cons_append]
 gi_wp2
 gi_loopw [3] (fun i wr => ∃ k : Nat, ((∃ j : Nat, i = .int .i64 j ∧ j + k + 1 = m) ∨ (i = .int .i64 (-1) ∧ k = m)) ∧ ∃ pre : List (Place m), Hid (pre.map (·.1) = falls m k ∧ J pre wr)) (fun i _ => (intOf i + 1).toNat)
 case atStart => exact ⟨0, down_start m, [], rfl, h0⟩
 case round =>
  obtain ⟨k, hi, pre, hJs⟩ := hrel
  rcases hi with ⟨j, rfl, hjk⟩ | ⟨rfl, hkm⟩
  ·have HJK := zH hjk
   have hjm : j < m := by omega
   have hpl := zH (show pre.length = k by have := congrArg List.length hJs.out.1; simpa [falls_length] using this)
   obtain ⟨fn, tmps, assign, body, hy, hR⟩ := hY pre ⟨j, hjm⟩ wr hJs.out.2 (by rw [hpl.out]; omega)
   simp only [encF] at hy
   have hpm := zH (show (pre ++ [(⟨j, hjm⟩ : Place m)]).map (·.1) = falls m (k + 1) by rw [falls_succ m k j (by omega), List.map_append, hJs.out.1]; rfl)
   clear hjk
   gi_wp2_with fail
   refine ⟨fun _ => by omega, ?_⟩
   refine hR.mono ?_
   rintro e W3 (⟨rfl, hJ1, hk3⟩ | ⟨rfl, hx1⟩)
   ·have HJ1 := zH hJ1
    clear hJ1 hk3
    gi_wp2
    go_roundw
    case rel => exact ⟨k + 1, down_next HJK.out, _, hpm.out, HJ1.out⟩
    case measure => simp [intOf] <;> omega
   ·have HX1 := zH hx1
    clear hx1
    gi_wp2
    refine bodyPost_ret (results_none rfl _ _ _) rfl ?_
    exact ⟨⟨_, rfl⟩, .inr ⟨_, trivial, HX1.out⟩⟩
  ·have HKM := zH hkm
   clear hkm
   gi_wp2
   go_end0
   exact ⟨⟨_, rfl⟩, .inl ⟨pre, HKM.out ▸ hJs.out.1, hJs.out.2⟩⟩
theorem falling_any (w : World) (m : Int) : Calls Tryz.prog 184 #[.int .i64 m] w fun e w' => e = .returned (.func (.func 202) #[] #[.pointer (some ⟨w.heap.size, 0, none⟩)]) ∧ w' = w.alloc (.cells #[.int .i64 m] 3) := by
 go_enter Tryz.func184, Tryz.ntmps184
 go_wp2
 go_ret
 exact ⟨rfl, rfl⟩
end Go.Proofs.YtpefjkndfifceaaGreatDoor
namespace Go.Proofs.YtpefjkndfifceaaGreatDoor
open Go.RowKit Go.Shelf
attribute [local go_sem] Oper.semAt_some
theorem places_zero {X v q m : Nat} {L Q A W Z : List Nat} {t : Nat} (h : Places X v q m L Q (t + 1)) (hw : Window L A W Z t q) (hv : 0 < v) (hvq : v < 4294967296 ^ q) (h0 : val32 W / v = 0) : Places X v q m L Q t := by
 have hlt : val32 W < v := by
  have h1 := Nat.mod_add_div (val32 W) v
  have h2 := Nat.mod_lt (val32 W) hv
  rw [h0, Nat.mul_zero] at h1
  omega
 have hs := h.step (W' := W) hw hw.wlen (hw.lim h.llim).2.1 hv (low_window (hw.lim h.llim).2.1 hw.wlen hvq hlt)
 rw [← hw.eq, h0] at hs
 have hz := h.zeros t (by omega)
 have ht : t < Q.length := by have := h.le; have := h.qlen; omega
 have he : Q.set t 0 = Q := by
  apply List.ext_getElem?
  intro i
  rw [List.getElem?_set]
  split
  ·next e =>
   subst e
   rw [List.getElem?_eq_getElem ht] at hz ⊢
   simp only [Option.getD_some] at hz
   simp [ht, hz]
  ·rfl
 rwa [he] at hs
theorem falls_prefix {m : Nat} {pre : List (Place m)} {x : Place m} (h : (pre ++ [x]).map (·.1) = falls m (pre ++ [x]).length) : pre.map (·.1) = falls m pre.length ∧ x.1 = m - 1 - pre.length := by
 rw [List.length_append, List.length_singleton, falls_succ m pre.length _ rfl, List.map_append] at h
 obtain ⟨h1, h2⟩ := List.append_inj' h rfl
 exact ⟨h1, by simpa using h2⟩
def HeldW (W : World) (D : Nat) (cs : Array Value) (t : TypeId) : Prop := W.heap[D]? = some (.cells cs t (0, 0))
theorem HeldW.lt {W : World} {D : Nat} {cs : Array Value} {t : TypeId} (h : HeldW W D cs t) : D < W.heap.size := (Array.getElem?_eq_some_iff.1 h).1
theorem HeldW.cell {W : World} {D : Nat} {cs : Array Value} {t : TypeId} (h : HeldW W D cs t) (i : Nat) {v : Value} (hi : cs[i]? = some v) : W.cell? ⟨D, i, none⟩ = some v := by
 rw [cell_of_row W D i cs t (0, 0) h, hi]
theorem HeldW.keptCells {W W' : World} {row : Option Nat} {D : Nat} {cs : Array Value} {t : TypeId} (h : HeldW W D cs t) (hg : W.grownBy W' row) (hr : ∀ r, row = some r → ∃ o : Obj, W.heap[r]? = some o ∧ o.isCells = false) : HeldW W' D cs t := by
 refine (hg.block D h.lt fun e' => ?_).trans h
 obtain ⟨o, ho, hc⟩ := hr D e'.symm
 rw [show W.heap[D]? = _ from h] at ho; cases ho; cases hc
theorem HeldW.touch {W W' : World} {g D : Nat} {cs : Array Value} {t : TypeId} (h : HeldW W D cs t) (ht : Touch g W W') (hn : D ≠ g) : HeldW W' D cs t := (ht.block D h.lt hn).trans h
theorem HeldW.alloc {W : World} {D : Nat} {cs : Array Value} {t : TypeId} (h : HeldW W D cs t) (o : Obj) : HeldW (W.alloc o) D cs t := (Below.heap_alloc W o D h.lt).trans h
theorem HeldW.below {W W' : World} {D : Nat} {cs : Array Value} {t : TypeId} (h : HeldW W D cs t) (hb : Below W.heap.size W W') : HeldW W' D cs t := (hb.block D h.lt).trans h
theorem boxed_touch {W W' : World} {g b : Nat} {t : TypeId} {v : Value} (h : Boxed W b t v) (ht : Touch g W W') (hn : b ≠ g) : Boxed W' b t v := (ht.block b h.lt hn).trans h
theorem OwnQ.touch {q : IntKind} {E B g h : Nat} {W W' : World} {n c : Nat} {l : List Nat} (ho : OwnQ q E B W (.slice (some ⟨h, 0, none⟩) n c) l) (ht : Touch g W W') (hn : h ≠ g) : OwnQ q E B W' (.slice (some ⟨h, 0, none⟩) n c) l := by
 obtain ⟨h1, h2⟩ := ho
 refine ⟨h1, ?_⟩
 rcases h2 with h2 | ⟨g', cap, cur, he, hB, hg, rest⟩
 ·exact .inl h2
 ·cases he
  exact .inr ⟨_, _, cur, rfl, hB, by rw [ht.block _ (Array.getElem?_eq_some_iff.1 hg).1 hn]; exact hg, rest⟩
theorem touch_keeps {W W' : World} {g n c E B : Nat} {k : IntKind} {l : List Nat} (h : Touch g W W') (ho : OwnQ k E B W (.slice (some ⟨g, 0, none⟩) n c) l) : KeepsOthers W W' := by
 refine ⟨h.size, fun j o hj hc => ?_⟩
 by_cases hg : j = g
 ·subst hg
  rcases ho.2 with ⟨h1, _⟩ | ⟨g', cap, cur, he, hB, hgb, _⟩
  ·cases h1
  ·cases he
   rw [hgb] at hj; cases hj; cases hc
 ·exact (h.block j (Array.getElem?_eq_some_iff.1 hj).1 hg).trans hj
def WorkI (n₀ D g1 g2 g3 b0 nl c1 cv c3 m k X : Nat) (V : List Nat) (pre : List (Place m)) (W : World) : Prop :=
 ∃ L Q : List Nat, HeldW W D #[.slice (some ⟨g1, 0, none⟩) nl c1, .slice (some ⟨g2, 0, none⟩) (k + 1) cv, .slice (some ⟨g3, 0, none⟩) m c3] 163 ∧ OwnQ .u32 71 n₀ W (.slice (some ⟨g1, 0, none⟩) nl c1) L ∧ OwnQ .u32 71 n₀ W (.slice (some ⟨g2, 0, none⟩) (k + 1) cv) V ∧ OwnQ .u32 71 n₀ W (.slice (some ⟨g3, 0, none⟩) m c3) Q ∧
  Boxed W b0 160 (.pointer (some ⟨D, 0, none⟩)) ∧ Boxed W (b0 + 1) 165 (.func (.func 145) #[.pointer (some ⟨D, 0, none⟩)] #[]) ∧ Boxed W (b0 + 1 + 1) 166 (.func (.func 146) #[.pointer (some ⟨D, 0, none⟩)] #[]) ∧
  Hid (Lim L ∧ Lim Q ∧ (pre.map (·.1) = falls m pre.length → Places X (val32 V) (k + 1) m L Q (m - pre.length)))
theorem workI_own (n₀ D g1 g2 g3 b0 nl c1 cv c3 m k X : Nat) (V : List Nat) : Own (WorkI n₀ D g1 g2 g3 b0 nl c1 cv c3 m k X V) := fun s X Y row hs hg hr => by
 obtain ⟨L, Q, h0, h1, h2, h3, h4, h5, h6, h7⟩ := hs
 exact ⟨L, Q, h0.keptCells hg hr, h1.keptCells hg hr, h2.keptCells hg hr, h3.keptCells hg hr, Boxed.keptCells h4 hg hr, Boxed.keptCells h5 hg hr, Boxed.keptCells h6 hg hr, h7⟩
def Worked (n₀ D g1 g2 g3 nl c1 cv c3 m k X : Nat) (V : List Nat) (w' : World) : Prop :=
 ∃ L Q : List Nat, HeldW w' D #[.slice (some ⟨g1, 0, none⟩) nl c1, .slice (some ⟨g2, 0, none⟩) (k + 1) cv, .slice (some ⟨g3, 0, none⟩) m c3] 163 ∧ OwnQ .u32 71 n₀ w' (.slice (some ⟨g1, 0, none⟩) nl c1) L ∧ OwnQ .u32 71 n₀ w' (.slice (some ⟨g3, 0, none⟩) m c3) Q ∧ Places X (val32 V) (k + 1) m L Q 0
set_option maxRecDepth 100000 in
set_option maxHeartbeats 1000000 in
theorem work_any (n₀ D g1 g2 g3 nl c1 cv c3 m k X : Nat) (L V Q : List Nat) (w : World)
  (hD : HeldW w D #[.slice (some ⟨g1, 0, none⟩) nl c1, .slice (some ⟨g2, 0, none⟩) (k + 1) cv, .slice (some ⟨g3, 0, none⟩) m c3] 163) (hL : OwnQ .u32 71 n₀ w (.slice (some ⟨g1, 0, none⟩) nl c1) L) (hV : OwnQ .u32 71 n₀ w (.slice (some ⟨g2, 0, none⟩) (k + 1) cv) V) (hQ : OwnQ .u32 71 n₀ w (.slice (some ⟨g3, 0, none⟩) m c3) Q)
  (hne : D ≠ g1 ∧ D ≠ g3 ∧ g2 ≠ g1 ∧ g2 ≠ g3 ∧ g3 ≠ g1) (hVl : Lim V) (hhi : 4294967296 ≤ 2 * (V[k]?.getD 0)) (hp : Places X (val32 V) (k + 1) m L Q m) (hnl : nl = m + (k + 1)) (hb : nl ≤ 1000) (hn₀ : n₀ ≤ w.heap.size) :
  Calls Tryz.prog 144 #[.pointer (some ⟨D, 0, none⟩), .func (.func 145) #[.pointer (some ⟨D, 0, none⟩)] #[], .func (.func 146) #[.pointer (some ⟨D, 0, none⟩)] #[]] w fun e w' => (∃ v, e = .returned v) ∧ Worked n₀ D g1 g2 g3 nl c1 cv c3 m k X V w' ∧ Below n₀ w w' := by
 have hDlt := hD.lt
 have hg1 := World.ownsRow.lt hL g1 rfl
 have hg2 := World.ownsRow.lt hV g2 rfl
 have hg3 := World.ownsRow.lt hQ g3 rfl
 have HP := zH hp
 have HVL := zH hVl
 have HHI := zH hhi
 have HNE := zH hne
 have HNL := zH hnl
 have cD0 := hD.cell 0 rfl
 have cD1 := hD.cell 1 rfl
 have cD2 := hD.cell 2 rfl
 have HD := zH hD
 have HL := zH hL
 have HV := zH hV
 have HQ := zH hQ
 have hm : m ≤ 1000 := by omega
 clear hp hVl hhi hne hD hL hV hQ hnl
 refine (callsIn_wide (n := 3)).1 ?_
 refine callsIn_of_wp_marks Tryz.func144 rfl trivial ?_ rfl
 simp only [Tryz.ntmps144, List.size_toArray, List.length_cons, List.length_nil, Nat.reduceAdd, Nat.reduceSub, Array.replicate_succ, Array.replicate_zero, List.push_toArray, List.append_toArray, List.nil_append, List.cons_append]
 gi_wp2
 refine wpIn_wide.2 (wp_scope_straight ((wpIn_wide (n := 3)).1 ?_))
 gi_wp2
 refine wpIn_label ?_
 have bD := ((Boxed.new w 160 (.pointer (some ⟨D, 0, none⟩))).alloc (.cells #[.func (.func 145) #[.pointer (some ⟨D, 0, none⟩)] #[]] 165)).alloc (.cells #[.func (.func 146) #[.pointer (some ⟨D, 0, none⟩)] #[]] 166)
 have bG := (Boxed.new (w.alloc (.cells #[.pointer (some ⟨D, 0, none⟩)] 160)) 165 (.func (.func 145) #[.pointer (some ⟨D, 0, none⟩)] #[])).alloc (.cells #[.func (.func 146) #[.pointer (some ⟨D, 0, none⟩)] #[]] 166)
 have bT := Boxed.new ((w.alloc (.cells #[.pointer (some ⟨D, 0, none⟩)] 160)).alloc (.cells #[.func (.func 145) #[.pointer (some ⟨D, 0, none⟩)] #[]] 165)) 166 (.func (.func 146) #[.pointer (some ⟨D, 0, none⟩)] #[])
 simp only [World.size_alloc] at bG bT
 have hD0 := ((HD.out.alloc (.cells #[.pointer (some ⟨D, 0, none⟩)] 160)).alloc (.cells #[.func (.func 145) #[.pointer (some ⟨D, 0, none⟩)] #[]] 165)).alloc (.cells #[.func (.func 146) #[.pointer (some ⟨D, 0, none⟩)] #[]] 166)
 have hB0 := (((Below.refl w.heap.size w).alloc (Nat.le_refl _) (.cells #[.pointer (some ⟨D, 0, none⟩)] 160)).alloc (by simp) (.cells #[.func (.func 145) #[.pointer (some ⟨D, 0, none⟩)] #[]] 165)).alloc (by simp; omega) (.cells #[.func (.func 146) #[.pointer (some ⟨D, 0, none⟩)] #[]] 166)
 obtain ⟨W0, hW0⟩ : ∃ W0, ((w.alloc (.cells #[.pointer (some ⟨D, 0, none⟩)] 160)).alloc (.cells #[.func (.func 145) #[.pointer (some ⟨D, 0, none⟩)] #[]] 165)).alloc (.cells #[.func (.func 146) #[.pointer (some ⟨D, 0, none⟩)] #[]] 166) = W0 := ⟨_, rfl⟩
 have hs0 : W0.heap.size = w.heap.size + 3 := by rw [← hW0]; simp
 rw [hW0] at bD bG bT hD0 hB0 ⊢
 clear hW0
 have cB0 := bD.cell
 have cD2' := hD0.cell 2 rfl
 gi_wp2_with (refine ⟨trivial, ?_⟩; gi_at_call 184; refine (callsIn_wide.2 (falling_any _ _)).mono ?_; rintro e w' ⟨rfl, rfl⟩)
 have bN := Boxed.new W0 3 (.int .i64 (m : Int))
 have bD1 := bD.alloc (.cells #[.int .i64 (m : Int)] 3)
 have bG1 := bG.alloc (.cells #[.int .i64 (m : Int)] 3)
 have bT1 := bT.alloc (.cells #[.int .i64 (m : Int)] 3)
 have hD1 := hD0.alloc (.cells #[.int .i64 (m : Int)] 3)
 have hB1 := hB0.alloc (by omega) (.cells #[.int .i64 (m : Int)] 3)
 clear cB0 cD2' bD bG bT hD0 hB0
 obtain ⟨W1, hW1⟩ : ∃ W1, W0.alloc (.cells #[.int .i64 (m : Int)] 3) = W1 := ⟨_, rfl⟩
 have hs1 : W1.heap.size = w.heap.size + 4 := by rw [← hW1]; simp [hs0]
 rw [hW1] at bN bD1 bG1 bT1 hD1 hB1 ⊢
 rw [hs0] at bN
 clear hW1 hs0
 have h1 : 1 ≤ 3 := by decide
 have hn₀' := hn₀
 generalize hbs : w.heap.size = b0 at *
 refine wpIn_rangeFunc_ownF (F := Fence.wide) rfl h1 (gf := 202) (lb := #[.pointer (some ⟨b0 + 3, 0, none⟩)]) rfl trivial (enters_of Tryz.func202 (by kernel_rfl) rfl)
  (falls_stops (3 - 1) (by decide) (fun _ _ => True) (b0 + 3) m W1 bN hm) (fun _ _ => trivial) (fun _ _ _ _ _ _ _ _ => trivial) (Below.refl _ _) (fun _ => rfl)
  (fun pre W => WorkI n₀ D g1 g2 g3 b0 nl c1 cv c3 m k X V pre W ∧ Below n₀ w W) (fun _ _ _ => False)
  (OwnFrom.and (Own.from (workI_own _ _ _ _ _ _ _ _ _ _ _ _ _ _) _) (ownFrom_below (by omega) (by omega))) (fun _ _ _ _ _ hs _ _ => hs)
  ⟨⟨L, Q, hD1, HL.out.below (by rw [hbs]; exact hB1), HV.out.below (by rw [hbs]; exact hB1), HQ.out.below (by rw [hbs]; exact hB1), bD1, bG1, bT1, HP.out.llim, HP.out.qlim, fun _ => HP.out⟩, hB1.mono hn₀⟩ ?_ ?_ ?_ ?_ ?_
 rotate_left 1
 ·intro lp x W K hK
  gi_wp2
  exact hK
 ·rintro lp pre x W ⟨⟨L1, Q1, hD2, hL2, hV2, hQ2, bD2, bG2, bT2, hI⟩, hB⟩ hlt
  obtain ⟨t, hx⟩ := x
  obtain ⟨hI1, hI2, hI3⟩ := hI.out
  have hLl := hL2.cap.1
  have hQl := hQ2.cap.1
  have hVlen := hV2.cap.1
  have hnl := HNL.out
  have hW := window_of (L := L1) (t := t) (q := k + 1) (by omega)
  have hWl := hW.lim hI1
  have hGW : GuessW V ((L1.drop t).take (k + 1 + 1)) k := ⟨HVL.out, hWl.2.1, hVlen.symm, hW.wlen, HHI.out⟩
  have hG := zH (guess_any D t k nl c1 cv _ _ L1 V _ _ _ _ W (hD2.cell 0 rfl) (hD2.cell 1 rfl) (hD2.cell 2 rfl) hL2.reads hV2.reads hW hGW (by omega) (by omega))
  have HW := zH hW
  have HGW := zH hGW
  have HWL := zH hWl
  have HL2 := zH hL2
  have HV2 := zH hV2
  have HQ2 := zH hQ2
  have HD2 := zH hD2
  have HLs := zH (show L1.length = m + (k + 1) ∧ Q1.length = m by omega)
  have cG := bG2.cell
  have BD2 := zH bD2
  have BG2 := zH bG2
  have BT2 := zH bT2
  have HB := zH hB
  clear hLl hQl hVlen hnl hW hWl hGW hL2 hV2 hQ2 hD2 bD2 bG2 bT2 hB hI1 hI2 hI3
  generalize L1.take t = A at *
  generalize (L1.drop t).take (k + 1 + 1) = Wn at *
  generalize L1.drop (t + (k + 1 + 1)) = Z at *
  gi_wp2_with fail
  refine ⟨trivial, ?_⟩
  refine (CallsIn.inRound lp (callsIn_wide.2 hG.out)).mono ?_
  rintro e w2 ⟨d, nq, rfl, hdb, hgi, rfl⟩
  have HGI := zH hgi
  have hT := zH ((Touch.refl g1 W).drewN nq)
  clear hgi hG cG
  rcases Nat.eq_zero_or_pos d with hd | hd
  ·subst hd
   gi_wp2
   have hz := zH (show (pre ++ [(⟨t, hx⟩ : Place m)]).map (·.1) = falls m (pre ++ [(⟨t, hx⟩ : Place m)]).length → Places X (val32 V) (k + 1) m L1 Q1 (m - (pre ++ [(⟨t, hx⟩ : Place m)]).length) from fun hf => by
    obtain ⟨hf1, hf2⟩ := falls_prefix hf
    replace hf2 : t = m - 1 - pre.length := hf2
    have hP := hI.out.2.2 hf1
    rw [show m - pre.length = t + 1 by omega] at hP
    have hg := HGI.out (hP.window HW.out)
    rw [show m - (pre ++ [(⟨t, hx⟩ : Place m)]).length = t by simp; omega]
    refine places_zero hP HW.out HGW.out.pos ?_ (Nat.le_zero.1 hg.1)
    have := valB_lt (b := 4294967296) (by decide) HGW.out.vlim
    rwa [HGW.out.vlen] at this)
   exact ⟨touch_keeps hT.out HL2.out, trivial, ⟨L1, Q1, HD2.out, HL2.out, HV2.out, HQ2.out, BD2.out, BG2.out, BT2.out, hI.out.1, hI.out.2.1, hz.out⟩, below_drewN HB.out nq⟩
  ·have hdz : ((d : Int) == 0) = false := by simp; omega
   have hTk := zH (take_any D t k nl c1 cv n₀ g1 d _ L1 V A Wn Z _ (W.drewN nq).drew (HD2.out.cell 0 rfl) (HD2.out.cell 1 rfl) (HD2.out.cell 2 rfl) ((HL2.out.drewN nq).drewN 1) ((HV2.out.reads.drewN nq).drewN 1) HNE.out.1 (fun ad e _ => by cases e; exact HNE.out.2.2.1) HW.out HGW.out hdb (by have := HNL.out; omega) (by have := HNL.out; omega))
   have BD3 := zH (show Boxed (W.drewN nq).drew b0 _ _ from BD2.out)
   have BG3 := zH (show Boxed (W.drewN nq).drew (b0 + 1) _ _ from BG2.out)
   have BT3 := zH (show Boxed (W.drewN nq).drew (b0 + 1 + 1) _ _ from BT2.out)
   have HD3 := zH (show HeldW (W.drewN nq).drew D _ _ from HD2.out)
   have HV3 := zH ((HV2.out.drewN nq).drewN 1)
   have HQ3 := zH ((HQ2.out.drewN nq).drewN 1)
   have HL3 := zH ((HL2.out.drewN nq).drewN 1)
   have hT3 := zH (show Touch g1 W (W.drewN nq).drew from ((Touch.refl g1 W).drewN nq).drewN 1)
   generalize W.drewN nq = W2 at hTk BD3 BG3 BT3 HD3 HV3 HQ3 HL3 hT3 ⊢
   have q1 := BD3.out.cell
   have q2 := BT3.out.cell
   have q3 := HD3.out.cell 2 rfl
   have hltG := zH (show b0 + 1 + 1 ≠ g1 ∧ b0 ≠ g1 ∧ g3 ≠ b0 ∧ g3 ≠ b0 + 1 + 1 by omega)
   have hltG2 := zH (show b0 + 1 ≠ g1 ∧ b0 + 1 ≠ g3 by omega)
   have hg1n := hg1.1
   have HBS := zH hbs
   have HS1 := zH hs1
   have HN0 := zH hn₀
   clear hbs hs1 bN h1 hDlt hg1 hg2 hg3 cD0 cD1 cD2 hT
   gi_wp2
   refine wpIn_region_held_drew (S := fun W => W.cell? ⟨b0, 0, none⟩ = some (.pointer (some ⟨D, 0, none⟩)) ∧ W.cell? ⟨b0 + 1 + 1, 0, none⟩ = some (.func (.func 146) #[.pointer (some ⟨D, 0, none⟩)] #[]) ∧ W.cell? ⟨D, 2, none⟩ = some (.slice (some ⟨g3, 0, none⟩) m c3)) (by kernel_rfl) (plain_of (by kernel_rfl)) ?_ ⟨q1, q2, q3⟩ (fun hHeld => ?_)
   ·rintro ⟨a, w, h⟩
    exact h
   refine' wpAnyH_take (i := 0) rfl (by kernel_rfl) (by kernel_rfl) (by kernel_rfl) (fun _ _ _ h => h) (Or.inl ⟨?_, ?_⟩) (by assumption) ?_
   rotate_left
   all_goals (try simp only [zq4, zq5, zq6])
   ·rfl
   ·intro W hSw; (try dsimp only at hSw); go_simp; (try with_reducible rfl)
   try simp only [Act.put, zq1, zq2, zq3]
   refine' wpAnyH_take (i := 1) rfl (by kernel_rfl) (by kernel_rfl) (by kernel_rfl) (fun _ _ _ h => h) (Or.inl ⟨?_, ?_⟩) (by assumption) ?_
   rotate_left
   all_goals (try simp only [zq4, zq5, zq6])
   ·rfl
   ·intro W hSw; (try dsimp only at hSw); go_simp; (try with_reducible rfl)
   try simp only [Act.put, zq1, zq2, zq3]
   refine' wpAnyH_take (i := 2) rfl (by kernel_rfl) (by kernel_rfl) (by kernel_rfl) (fun _ _ _ h => h) (Or.inl ⟨?_, ?_⟩) (by assumption) ?_
   rotate_left
   all_goals (try simp only [zq4, zq5, zq6])
   ·rfl
   ·intro W hSw; (try dsimp only at hSw); go_simp; (try with_reducible rfl)
   try simp only [Act.put, zq1, zq2, zq3]
   refine' wpAnyH_take (i := 3) rfl (by kernel_rfl) (by kernel_rfl) (by kernel_rfl) (fun _ _ _ h => h) (Or.inl ⟨?_, ?_⟩) (by assumption) ?_
   rotate_left
   all_goals (try simp only [zq4, zq5, zq6])
   ·rfl
   ·intro W hSw; (try dsimp only at hSw); go_simp; (try with_reducible rfl)
   try simp only [Act.put, zq1, zq2, zq3]
   refine' wpAnyH_take (i := 4) rfl (by kernel_rfl) (by kernel_rfl) (by kernel_rfl) (fun _ _ _ h => h) (Or.inl ⟨?_, ?_⟩) (by assumption) ?_
   rotate_left
   all_goals (try simp only [zq4, zq5, zq6])
   ·rfl
   ·intro W hSw; (try dsimp only at hSw); go_simp; (try with_reducible rfl)
   try simp only [Act.put, zq1, zq2, zq3]
   refine' wpAnyH_take (i := 5) rfl (by kernel_rfl) (by kernel_rfl) (by kernel_rfl) (fun _ _ _ h => h) (Or.inl ⟨?_, ?_⟩) (by assumption) ?_
   rotate_left
   all_goals (try simp only [zq4, zq5, zq6])
   ·rfl
   ·intro W hSw; (try dsimp only at hSw); go_simp; (try with_reducible rfl)
   try simp only [Act.put, zq1, zq2, zq3]
   refine' wpAnyH_take (i := 6) rfl (by kernel_rfl) (by kernel_rfl) (by kernel_rfl) (fun _ _ _ h => h) (Or.inl ⟨?_, ?_⟩) (by assumption) ?_
   rotate_left
   all_goals (try simp only [zq4, zq5, zq6])
   ·rfl
   ·intro W hSw; (try dsimp only at hSw); go_simp; (try with_reducible rfl)
   try simp only [Act.put, zq1, zq2, zq3]
   refine' wpAnyH_take (i := 7) rfl (by kernel_rfl) (by kernel_rfl) (by kernel_rfl) (fun _ _ _ h => h) (Or.inl ⟨?_, ?_⟩) (by assumption) ?_
   rotate_left
   all_goals (try simp only [zq4, zq5, zq6])
   ·rfl
   ·intro W hSw; (try dsimp only at hSw); go_simp; (try with_reducible rfl)
   try simp only [Act.put, zq1, zq2, zq3]
   refine wpAnyH_ready (rs := [8]) (by kernel_rfl) (by simp) ?_
   refine AllReadyH.cons (o := _) rfl (fun K hK => ?_) AllReadyH.nil
   try simp only [zq4, zq5, zq6]
   go_simp
   refine hTk.out.mono ?_
   rintro e w3 ⟨W', r, rfl, hr, hgood, ho, hl, hlim, htch⟩
   have HGD := zH hgood
   have HLN := zH hl
   have HLM := zH hlim
   have HTC := zH htch
   have HO3 := zH ho
   clear hgood hl hlim htch ho
   have HQ4 := zH (HQ3.out.touch HTC.out HNE.out.2.2.2.2)
   have q4 := (boxed_touch BD3.out HTC.out hltG.out.2.1).cell
   have q5 := (boxed_touch BT3.out HTC.out hltG.out.1).cell
   have q6 := (HD3.out.touch HTC.out HNE.out.1).cell 2 rfl
   have q7 := HQ4.out.cellAt HLs.out.2.symm t hx
   have q8 := HQ4.out.frozenAt HLs.out.2.symm t
   generalize Q1[t]?.getD 0 = z at q7
   go_wp2_with fail
   refine hK.out _ _ ⟨q4, q5, q6⟩ (fun hHeld => ?_)
   clear hK K
   try simp only [Act.put, zq1, zq2, zq3]
   refine wpAnyH_ready (rs := [9]) (by kernel_rfl) (by simp) ?_
   refine AllReadyH.cons (o := _) rfl (fun K hK => ?_) AllReadyH.nil
   try simp only [zq4, zq5, zq6]
   go_simp
   refine hK.out _ _ ⟨q4, q5, q6⟩ (fun hHeld => ?_)
   clear hK K
   try simp only [Act.put, zq1, zq2, zq3]
   refine wpAnyH_ready (rs := [10]) (by kernel_rfl) (by simp) ?_
   refine AllReadyH.cons (o := _) rfl (fun K hK => ?_) AllReadyH.nil
   try simp only [zq4, zq5, zq6]
   go_simp
   refine hK.out _ _ ⟨(World.cell?_setCell_far _ _ _ _ hltG.out.2.2.1).trans q4, (World.cell?_setCell_far _ _ _ _ hltG.out.2.2.2).trans q5, (World.cell?_setCell_far _ _ _ _ HNE.out.2.1.symm).trans q6⟩ (fun hHeld => ?_)
   clear hK K
   try simp only [Act.put, zq1, zq2, zq3]
   refine wpAnyH_done (by kernel_rfl) ?_ _
   have hS3 := (Touch.refl g3 w3).setCell t (.int .u32 (r : Int))
   have s1 := HQ4.out.stored HLs.out.2.symm t r _ rfl
   have hTW := hT3.out.trans HTC.out
   have hB3 : Below n₀ w w3 := HB.out.trans (hTW.below (by have := HB.out.size; have := HBS.out; omega) hg1n)
   refine ⟨(touch_keeps hTW HL2.out).trans (KeepsOthers.setCell _ _ _), trivial, ⟨A ++ (W' ++ Z), Q1.set t r, (HD3.out.touch HTC.out HNE.out.1).touch hS3 HNE.out.2.1, HO3.out.touch hS3 HNE.out.2.2.2.2.symm, (HV3.out.touch HTC.out HNE.out.2.2.1).touch hS3 HNE.out.2.2.2.1, s1.1, boxed_touch (boxed_touch BD3.out HTC.out hltG.out.2.1) hS3 hltG.out.2.2.1.symm, boxed_touch (boxed_touch BG3.out HTC.out hltG2.out.1) hS3 hltG2.out.2, boxed_touch (boxed_touch BT3.out HTC.out hltG.out.1) hS3 hltG.out.2.2.2.symm, ?_, mem_set hI.out.2.1 hr, fun hf => ?_⟩, s1.2 _ hB3⟩
   ·intro y hy
    rcases List.mem_append.1 hy with hy | hy
    ·exact HWL.out.1 y hy
    ·rcases List.mem_append.1 hy with hy | hy
     ·exact HLM.out y hy
     ·exact HWL.out.2.2 y hy
   ·obtain ⟨hf1, hf2⟩ := falls_prefix hf
    replace hf2 : t = m - 1 - pre.length := hf2
    have hP := hI.out.2.2 hf1
    rw [show m - pre.length = t + 1 by omega] at hP
    have hlw := hP.window HW.out
    have hgd := HGD.out hlw (HGI.out hlw)
    rw [show m - (pre ++ [(⟨t, hx⟩ : Place m)]).length = t by simp; omega, hgd.1]
    exact hP.step HW.out HLN.out HLM.out HGW.out.pos hgd.2
 ·rintro D' xs W hD' hxs ⟨⟨L1, Q1, hD2, hL2, hV2, hQ2, bD2, bG2, bT2, hI⟩, hB⟩ hK
  have HI := zH (hI.out.2.2 (by
   have := congrArg List.length hxs
   rw [falls_length, List.length_map] at this
   rw [this]; exact hxs))
  have HXL := zH (show xs.length = m by
   have := congrArg List.length hxs
   rwa [falls_length, List.length_map] at this)
  have HD2 := zH hD2
  have HL2 := zH hL2
  have HQ2 := zH hQ2
  have HB := zH hB
  clear hI hD2 hL2 hQ2 hV2 hB hxs bD2 bG2 bT2
  gi_wp2
  rw [Exit.noGoto_normal]
  refine ⟨by simp, .inl ⟨_, _, rfl, run_takeDeferred hK, ?_⟩⟩
  have hg := grownBy_putObj' W D' (.deferred none)
  have hr : ∀ r, some D' = some r → ∃ o : Obj, W.heap[r]? = some o ∧ o.isCells = false := fun r e => by cases e; exact ⟨_, hK, rfl⟩
  refine ⟨_, results_none rfl _ _ _, ⟨_, rfl⟩, ⟨L1, Q1, HD2.out.keptCells hg hr, HL2.out.keptCells hg hr, HQ2.out.keptCells hg hr, ?_⟩, HB.out.trans (belowK_b (w := w) (by omega) W D' _ _ (by omega) hK rfl rfl)⟩
  have := HI.out
  rwa [HXL.out, Nat.sub_self] at this
 ·rintro D' c pre W _ _ h _
  exact h.elim
end Go.Proofs.YtpefjkndfifceaaGreatDoor
namespace Go.Proofs.YtpefjkndfifceaaGreatDoor
open Go.RowKit
theorem top_limb {Y k : Nat} (hk : (nat32 Y).length = k + 1) : 4294967296 ^ k ≤ Y ∧ Y < 4294967296 ^ (k + 1) ∧ 0 < (nat32 Y)[k]?.getD 0 ∧ (nat32 Y)[k]?.getD 0 < 4294967296 ∧ ((nat32 Y)[k]?.getD 0) * 4294967296 ^ k ≤ Y ∧ Y < ((nat32 Y)[k]?.getD 0 + 1) * 4294967296 ^ k := by
 have h1 := (natB_len_lt (b := 4294967296) (by decide) Y k).1 (by show k < (nat32 Y).length; omega)
 have h2 := (natB_length (b := 4294967296) (by decide) Y (k + 1)).1 (by show (nat32 Y).length ≤ k + 1; omega)
 have hl : Lim (nat32 Y) := natB_digit (by decide) Y
 have h3 := cut_bounds (val_cut1 (nat32 Y) k hk) (val_low hl k)
 rw [show val32 (nat32 Y) = Y from natB_val (by decide) Y] at h3
 refine ⟨h1, h2, ?_, lim_get hl k, h3.1, h3.2⟩
 apply Nat.pos_of_ne_zero
 intro e
 rw [e, Nat.zero_add, Nat.one_mul] at h3
 omega
theorem norm_by {Y k n : Nat} {O : List Nat} (hk : (nat32 Y).length = k + 1) (hn : n + bitsN ((nat32 Y)[k]?.getD 0) = 32) (hO : O.length = k + 1 + 1) (hL : Lim O) (hv : val32 O = Y * 2 ^ n) :
  n < 32 ∧ val32 (O.take (k + 1)) = Y * 2 ^ n ∧ 4294967296 ≤ 2 * ((O.take (k + 1))[k]?.getD 0) := by
 obtain ⟨h1, h2, h3, h4, h5, h6⟩ := top_limb hk
 generalize (nat32 Y)[k]?.getD 0 = y at *
 obtain ⟨b1, b2, b3, b4⟩ := lead_bound h3 h4
 obtain rfl : n = 32 - bitsN y := by omega
 generalize hnn : 32 - bitsN y = n at *
 have hn32 : n < 32 := by omega
 have hp : 0 < 2 ^ n := Nat.pow_pos (by decide)
 have h7 : (y + 1) * 2 ^ n ≤ 4294967296 := by
  have e := two_pow_dvd hn32
  rw [e] at b4 ⊢
  rw [Nat.mul_comm (y + 1)]
  rw [Nat.mul_comm y] at b4
  exact Nat.mul_le_mul_left _ (Nat.lt_of_mul_lt_mul_left b4)
 have h8 : Y * 2 ^ n < 4294967296 ^ (k + 1) := by
  have e1 : Y * 2 ^ n < (y + 1) * 4294967296 ^ k * 2 ^ n := Nat.mul_lt_mul_of_pos_right h6 hp
  rw [Nat.mul_right_comm] at e1
  have e2 : (y + 1) * 2 ^ n * 4294967296 ^ k ≤ 4294967296 * 4294967296 ^ k := Nat.mul_le_mul_right _ h7
  rw [Nat.pow_succ, Nat.mul_comm (4294967296 ^ k)]
  exact Nat.lt_of_lt_of_le e1 e2
 have h9 : 2147483648 * 4294967296 ^ k ≤ Y * 2 ^ n := by
  have e1 : y * 4294967296 ^ k * 2 ^ n ≤ Y * 2 ^ n := Nat.mul_le_mul_right _ h5
  rw [Nat.mul_right_comm] at e1
  exact Nat.le_trans (Nat.mul_le_mul_right _ b3) e1
 have hlt : val32 (O.take (k + 1)) = Y * 2 ^ n := by
  simp only [val32] at *
  rw [valB_take (by decide) hL, hv, Nat.mod_eq_of_lt h8]
 refine ⟨hn32, hlt, ?_⟩
 have hLt : Lim (O.take (k + 1)) := fun x hx => hL x (List.mem_of_mem_take hx)
 have hg := valB_get (b := 4294967296) (by decide) hLt k
 have hd : 2147483648 ≤ val32 (O.take (k + 1)) / 4294967296 ^ k := by
  rw [hlt, Nat.le_div_iff_mul_le (Nat.pow_pos (by decide))]
  exact h9
 have hd2 : val32 (O.take (k + 1)) / 4294967296 ^ k < 4294967296 := by
  rw [hlt]
  exact Nat.div_lt_of_lt_mul (by rw [← Nat.pow_succ]; exact h8)
 simp only [val32] at *
 rw [hg, Nat.mod_eq_of_lt hd2]
 omega
theorem norm_start {X Y k n p m : Nat} {O : List Nat} (hk : (nat32 Y).length = k + 1) (hp : (nat32 X).length = p) (hm : m + (k + 1) = p + 1) (hO : O.length = p + 1) (hL : Lim O) (hv : val32 O = X * 2 ^ n) : Places (X * 2 ^ n) (Y * 2 ^ n) (k + 1) m O (List.replicate m 0) m := by
 refine places_start hL (by omega) hv ?_
 obtain ⟨h1, _⟩ := top_limb hk
 have h2 := (natB_length (b := 4294967296) (by decide) X p).1 (by show (nat32 X).length ≤ p; omega)
 have h3 : X < 4294967296 ^ m * Y := by
  refine Nat.lt_of_lt_of_le h2 ?_
  rw [show p = m + k by omega, Nat.pow_add]
  exact Nat.mul_le_mul_left _ h1
 rw [← Nat.mul_assoc]
 exact Nat.mul_lt_mul_of_pos_right h3 (Nat.pow_pos (by decide))
theorem norm_end {X Y k n m : Nat} {L Q : List Nat} (h : Places (X * 2 ^ n) (Y * 2 ^ n) (k + 1) m L Q 0) : val32 Q = X / Y ∧ val32 (L.take (k + 1)) / 2 ^ n = X % Y := by
 have h1 := h.fin
 have hp : 0 < 2 ^ n := Nat.pow_pos (by decide)
 rw [Nat.mul_div_mul_right _ _ hp, Nat.mul_mod_mul_right] at h1
 exact ⟨h1.1, by rw [h1.2, Nat.mul_div_cancel _ hp]⟩
theorem limbs_le {X Y p k : Nat} (hp : (nat32 X).length = p) (hk : (nat32 Y).length = k + 1) (h : Y ≤ X) : k + 1 ≤ p := by
 obtain ⟨h1, _⟩ := top_limb hk
 have := (natB_len_lt (b := 4294967296) (by decide) X k).2 (Nat.le_trans h1 h)
 have e : k < (nat32 X).length := this
 omega
end Go.Proofs.YtpefjkndfifceaaGreatDoor
namespace Go.Proofs.YtpefjkndfifceaaGreatDoor
open Go.RowKit
def divR (x y : Nat) : List Nat × List Nat × Int := if x < topN ∧ y < topN then (if y = 0 then ([], [], 60) else (nat32 (x / y), nat32 (x % y), 0)) else ([], [], 20)
theorem divR_no {x y : Nat} (h : ¬ (x < topN ∧ y < topN)) : divR x y = ([], [], 20) := if_neg h
theorem divR_zero {x : Nat} (h : x < topN) : divR x 0 = ([], [], 60) := by unfold divR; rw [if_pos ⟨h, topN_pos⟩, if_pos rfl]
theorem divR_yes {x y : Nat} (h : x < topN) (k : y < topN) (h0 : 0 < y) : divR x y = (nat32 (x / y), nat32 (x % y), 0) := by unfold divR; rw [if_pos ⟨h, k⟩, if_neg (by omega)]
def Off (v u : Value) : Prop := ∀ g, v.ownBlock = some g → u.ownBlock ≠ some g
def DivRets (B : Nat) (w' : World) (r : List Nat × List Nat × Int) (e : Ending) : Prop := ∃ q s : Value, e = .returned (.tuple #[q, s, .int .i64 r.2.2]) ∧ OwnQ .u32 71 B w' q r.1 ∧ OwnQ .u32 71 B w' s r.2.1 ∧ Off q s
theorem OwnQ.ownBlock {q : IntKind} {E B n c : Nat} {w : World} {a : Option Addr} {l : List Nat} (h : OwnQ q E B w (.slice a n c) l) (hl : 0 < n) : ∃ g, a = some ⟨g, 0, none⟩ ∧ B ≤ g ∧ g < w.heap.size := by
 rcases h.2 with ⟨h1, h0⟩ | ⟨g, cap, cur, he, hB, hgb, _⟩
 ·cases h1; omega
 ·cases he
  exact ⟨g, rfl, hB, (Array.getElem?_eq_some_iff.1 hgb).1⟩
theorem trim_ok {x : Value} {n : Nat} {w : World} (hx : NatAt w x n) (h : n < topN) : Calls Tryz.prog 102 #[x] w fun e w' => (∃ v, e = .returned (.tuple #[v, .int .i64 0]) ∧ OwnQ .u32 71 w.heap.size w' v (nat32 n)) ∧ Below w.heap.size w w' := by
 obtain ⟨a, len, cap, l, rfl, hr, hl, rfl⟩ := hx
 refine (trim_any _ _ _ _ w hr hl).mono fun e w' ⟨he, hb⟩ => ⟨?_, hb⟩
 rw [cutR_small h] at he
 exact he
theorem trim_no {x : Value} {n : Nat} {w : World} (hx : NatAt w x n) (h : ¬ n < topN) : Calls Tryz.prog 102 #[x] w fun e w' => (∃ v, e = .returned (.tuple #[v, .int .i64 20])) ∧ Below w.heap.size w w' := by
 obtain ⟨a, len, cap, l, rfl, hr, hl, rfl⟩ := hx
 refine (trim_any _ _ _ _ w hr hl).mono fun e w' ⟨he, hb⟩ => ⟨?_, hb⟩
 rw [cutR_large h] at he
 obtain ⟨v, rfl, _⟩ := he
 exact ⟨v, rfl⟩
theorem off_nil (v : Value) : Off v (.slice none 0 0) := fun g _ h => by cases h
theorem off_nil' (v : Value) : Off (.slice none 0 0) v := fun g h => by cases h
theorem natAt_own {q B : Nat} {w : World} {v : Value} {n : Nat} (h : OwnQ .u32 q B w v (nat32 n)) : NatAt w v n := (NatC.of h).at
structure DivStart (n₀ D g1 g2 g3 p c1 c2 m k : Nat) (L V : List Nat) (w : World) : Prop where
 held : HeldW w D #[.slice (some ⟨g1, 0, none⟩) (p + 1) c1, .slice (some ⟨g2, 0, none⟩) (k + 1) c2, .slice (some ⟨g3, 0, none⟩) m m] 163
 left : OwnQ .u32 71 n₀ w (.slice (some ⟨g1, 0, none⟩) (p + 1) c1) L
 by' : OwnQ .u32 71 n₀ w (.slice (some ⟨g2, 0, none⟩) (k + 1) c2) V
 quot : OwnQ .u32 71 n₀ w (.slice (some ⟨g3, 0, none⟩) m m) (List.replicate m 0)
 apart : D ≠ g1 ∧ D ≠ g3 ∧ g2 ≠ g1 ∧ g2 ≠ g3 ∧ g3 ≠ g1
theorem made_own (w : World) (m : Nat) (hm : m ≤ 1000) : OwnQ .u32 71 w.heap.size (w.alloc (.cells (madeCells (Value.int .u32 0).cells (m * 1)) 71)) (.slice (some ⟨w.heap.size, 0, none⟩) m m) (List.replicate m 0) :=
 OwnQ.made (World.ownsRow_lit w _ m (Nat.le_refl _) (by unfold maxLen; omega) (size_madeCells _ _)) rfl
theorem off_of {B B' B2 B3 : Nat} {w1 w2 : World} {q s : Value} {l l' : List Nat} (hq : OwnQ .u32 B B2 w1 q l) (hs : OwnQ .u32 B' B3 w2 s l') (h : w1.heap.size ≤ B3) : Off q s := fun g h1 h2 => by
 have a1 := (World.ownsRow.lt hq g h1).2
 have a2 := (World.ownsRow.lt hs g h2).1
 omega
theorem natAt_list {E B : Nat} {w : World} {a : Option Addr} {len cap n : Nat} {l : List Nat} (h : OwnQ .u32 E B w (.slice a len cap) l) (hl : Lim l) (hv : val32 l = n) : NatAt w (.slice a len cap) n := ⟨a, len, cap, l, rfl, h.reads, hl, hv⟩
theorem start_of {n₀ gX gY gM p cX cY m k : Nat} {L V : List Nat} {w0 : World} (W : World) (hb : Below n₀ w0 W) (hn : n₀ ≤ w0.heap.size) (hX : OwnQ .u32 71 n₀ W (.slice (some ⟨gX, 0, none⟩) (p + 1) cX) L) (hY : OwnQ .u32 71 n₀ W (.slice (some ⟨gY, 0, none⟩) (k + 1 + 1) cY) V) (hQ : OwnQ .u32 71 n₀ W (.slice (some ⟨gM, 0, none⟩) m m) (List.replicate m 0))
  (h : gY ≠ gX ∧ gY ≠ gM ∧ gM ≠ gX) : ∃ D g Wf, D = W.heap.size ∧ g = gM ∧ Wf = W.alloc (.cells #[.slice (some ⟨gX, 0, none⟩) (p + 1) cX, .slice (some ⟨gY, 0, none⟩) (k + 1) cY, .slice (some ⟨gM, 0, none⟩) m m] 163) ∧ DivStart n₀ D gX gY g p cX cY m k L (V.take (k + 1)) Wf ∧ Below n₀ w0 Wf := by
 have l1 := (World.ownsRow.lt hX gX rfl).2
 have l2 := (World.ownsRow.lt hY gY rfl).2
 have l3 := (World.ownsRow.lt hQ gM rfl).2
 exact ⟨_, _, _, rfl, rfl, rfl, ⟨World.alloc_heap_new W _, hX.alloc _, (hY.upto (k + 1) (by omega)).alloc _, hQ.alloc _, by omega, by omega, h.1, h.2.1, h.2.2⟩, hb.alloc (Nat.le_trans hn hb.size) _⟩
theorem shifted_own (a : Option Addr) (len cap : Nat) (l : List Nat) (w w0 : World) (h : Reads .u32 w a len cap l) (hb : Below w.heap.size w w0) (hL : Lim l) (r : Nat) (hr32 : r < 32) (hlen : len ≤ 256) :
  Calls Tryz.prog 143 #[.slice a len cap, .int .i64 (r : Int)] w0 fun e w' => ∃ (O : List Nat) (g c : Nat), e = .returned (.slice (some ⟨g, 0, none⟩) (len + 1) c) ∧ len + 1 ≤ c ∧ Hid (OwnQ .u32 71 w0.heap.size w' (.slice (some ⟨g, 0, none⟩) (len + 1) c) O ∧ O.length = len + 1 ∧ Lim O ∧ val32 O = val32 l * 2 ^ r ∧ w0.heap.size ≤ g ∧ g < w'.heap.size) ∧ Hid (Below w0.heap.size w0 w') := by
 refine (shifted_any a len cap l w0 (h.below hb) hL r hr32 hlen).mono fun e w' ⟨⟨O, ⟨v, he, ho⟩, h1, h2, h3⟩, hbb⟩ => ?_
 obtain ⟨a', n', c', rfl, hn, ho⟩ := ho.slice
 obtain rfl : n' = len + 1 := by rw [hn, h1]
 obtain ⟨g, rfl, hg1, hg2⟩ := ho.ownBlock (by omega)
 exact ⟨O, g, c', he, ho.cap.2.1, ⟨ho, h1, h2, h3, hg1, hg2⟩, hbb⟩
set_option maxRecDepth 100000 in
set_option maxHeartbeats 2000000 in
theorem div_main (x y : Value) (X Y : Nat) (w : World) (hx : NatAt w x X) (hy : NatAt w y Y) (hX : X < topN) (hY : Y < topN) (h0 : 0 < Y) (hle : Y ≤ X) :
  Calls Tryz.prog 115 #[x, y] w fun e w' => DivRets w.heap.size w' (nat32 (X / Y), nat32 (X % Y), 0) e ∧ Below w.heap.size w w' := by
 have NX := zH hx
 have NY := zH hy
 have HX := zH hX
 have HY := zH hY
 have HLE := zH hle
 have H0 := zH h0
 have hkk : ∃ k, (nat32 Y).length = k + 1 := ⟨(nat32 Y).length - 1, by
  have : (nat32 Y).length ≠ 0 := fun e => by
   have := (natB_nil (b := 4294967296) (by decide)).1 (List.eq_nil_of_length_eq_zero e)
   omega
  omega⟩
 obtain ⟨k, hk⟩ := hkk
 have hp := limbs_le rfl hk hle
 have hp2 := (natB_length (b := 4294967296) (by decide) X 256).2 hX
 have hk2 := (natB_length (b := 4294967296) (by decide) Y 256).2 hY
 have htl := zH (top_limb hk)
 rw [show natB 4294967296 X = nat32 X from rfl] at hp2
 rw [show natB 4294967296 Y = nat32 Y from rfl, hk] at hk2
 generalize hpp : (nat32 X).length = p at *
 have HP := zH hpp
 have HK := zH hk
 clear hx hy hX hY h0 hle hk hpp
 go_enter Tryz.func115, Tryz.ntmps115
 go_wp2_with fail
 refine (trim_ok NX.out HX.out).mono ?_
 rintro e w1 ⟨⟨v1, rfl, ho1⟩, hb1⟩
 obtain ⟨a1, n1, c1, rfl, hn1, ho1⟩ := ho1.slice
 obtain rfl : p = n1 := by rw [hn1]; exact HP.out.symm
 have O1 := zH ho1
 have B1 := zH hb1
 have NY1 := zH (NY.out.below hb1)
 clear ho1 hb1 hn1
 go_wp2_with fail
 refine (trim_ok NY1.out HY.out).mono ?_
 rintro e w2 ⟨⟨v2, rfl, ho2⟩, hb2⟩
 obtain ⟨a2, n2, c2, rfl, hn2, ho2⟩ := ho2.slice
 obtain rfl : n2 = k + 1 := by rw [hn2]; exact HK.out
 have O2 := zH ho2
 have O1' := zH (O1.out.below hb2)
 have B2 := zH (B1.out.trans (hb2.mono B1.out.size))
 clear ho2 hb2 hn2 NY1 O1 B1
 have hord : ¬ ordN X Y < 0 := by
  have := HLE.out
  unfold ordN
  rw [if_neg (by omega)]
  split <;> omega
 have hcmp := zH (cmp_nat (natAt_own O1'.out) (natAt_own O2.out) _ rfl)
 generalize ordN X Y = o at *
 go_wp2_with fail
 refine hcmp.out.mono ?_
 rintro e w3 ⟨rfl, hb3⟩
 have B3 := zH (B2.out.trans (hb3.mono B2.out.size))
 have R1 := zH (O1'.out.reads.below hb3)
 have R2 := zH (O2.out.reads.below hb3)
 clear hb3 hcmp O1' O2 B2
 obtain ⟨b, off, rfl, hbk, hc⟩ := R2.out.cells (by omega)
 have hck := hc k (by omega)
 have hyt := htl.out.2.2.2.1
 have hy0 := htl.out.2.2.1
 clear hc hbk
 obtain ⟨yt, hyt'⟩ : ∃ yt, yt = (nat32 Y)[k]?.getD 0 := ⟨_, rfl⟩
 rw [← hyt'] at hck hyt hy0
 have HYT := zH hyt'
 clear hyt'
 have hlb := lead_bound hy0 hyt
 obtain ⟨n, hn⟩ : ∃ n, n + bitsN yt = 32 := ⟨32 - bitsN yt, by omega⟩
 have hn32 : n < 32 := by omega
 have HN := zH hn
 have hz := zH (fun W => zeros32_any yt W hyt n hn)
 clear hlb hn hy0
 obtain ⟨i0, hi, hz0, hz1, hz2⟩ := info_parts Tryz.info32
 obtain ⟨m, hm⟩ : ∃ m, m + (k + 1) = p + 1 := ⟨p - k, by omega⟩
 obtain ⟨m1, hm1⟩ : ∃ m1, m = m1 + 1 := ⟨m - 1, by omega⟩
 have em1 : IntKind.i64.wrap ((p : Int) - ((k : Int) + 1)) = (m1 : Int) := by rw [IntKind.wrap_i64]; omega
 have em2 : IntKind.i64.wrap ((m1 : Int) + 1) = (m : Int) := by rw [IntKind.wrap_i64]; omega
 have HM1 := zH hm1
 have hm2 : m ≤ 1000 := by omega
 have HM := zH hm
 have hmk : ∀ W : World, (Instr.makeSlice 43 (.int .i64 (m : Int)) (.int .i64 (m : Int))).run Tryz.prog W = .ok (.slice (some ⟨W.heap.size, 0, none⟩) m m) (W.alloc (.cells (madeCells (Value.int .u32 0).cells (m * 1)) 71)) := fun W => by
  have := run_make (P := Tryz.prog) W 43 71 i0 (.int .u32 0) Tryz.underlying43 hi hz0 .i64 .i64 m m (by omega) (by omega) (by rw [hz2]; omega) (by omega)
  simpa [hz1] using this
 go_wp2_with (go_at_call 142; refine (hz.out _).mono ?_; rintro e w' ⟨rfl, rfl⟩)
 have SX := zH (fun W hW => shifted_own a1 p c1 _ w3 W R1.out hW (lim_nat X) n hn32 hp2)
 have SY := zH (fun W hW => shifted_own (some ⟨b, off, none⟩) (k + 1) c2 _ w3 W R2.out hW (lim_nat Y) n hn32 hk2)
 have HB := zH ((Below.refl w3.heap.size w3).drew)
 clear hck hz hm2 hm hm1 hi hz0 hz1 hz2
 generalize hZ : madeCells (Value.int .u32 0).cells (m * 1) = Zc at hmk
 have HZ := zH hZ
 clear hZ
 go_region_with (first | ((with_reducible refine (SX.out _ (by first | exact HB.out | exact ((Below.refl w3.heap.size w3).alloc (Nat.le_refl _) _).drew)).mono ?_); rintro e w4 ⟨OX, gX, cX, rfl, hcX, HOX, HBX⟩) | ((with_reducible refine (SY.out _ (by first | exact HB.out.trans (HBX.out.mono HB.out.size) | exact (((Below.refl w3.heap.size w3).alloc (Nat.le_refl _) _).drew).trans (HBX.out.mono (by simp)) | exact (HB.out.trans (HBX.out.mono HB.out.size)).alloc (Nat.le_trans HB.out.size HBX.out.size) _)).mono ?_); rintro e w5 ⟨OY, gY, cY, rfl, hcY, HOY, HBY⟩))
 all_goals clear SX SY
 all_goals obtain ⟨x1, x2, x3, x4, x5, x6⟩ := HOX.out
 all_goals obtain ⟨y1, y2, y3, y4, y5, y6⟩ := HOY.out
 all_goals have hsx := HBX.out.size
 all_goals have hsy := HBY.out.size
 all_goals have hs3 := B3.out.size
 all_goals (try simp only [World.size_alloc] at hsx hsy x5 y5)
 all_goals have hZ := HZ.out
 all_goals subst hZ
 all_goals have hmm : m ≤ 1000 := by have := HM.out; omega
 all_goals first
  | have HS := zH (start_of (n₀ := w.heap.size) (w0 := w) (w5.alloc (.cells (madeCells (Value.int .u32 0).cells (m * 1)) 71)) ((((B3.out.drew).trans (HBX.out.mono hs3)).trans (HBY.out.mono (Nat.le_trans hs3 hsx))).alloc (Nat.le_trans (Nat.le_trans hs3 hsx) hsy) _) (Nat.le_refl _) (((x1.mono (B' := w.heap.size) (Nat.le_trans hs3 (Nat.le_refl _))).below HBY.out).alloc _) ((y1.mono (B' := w.heap.size) (Nat.le_trans hs3 hsx)).alloc _) (((made_own w5 m hmm).mono (Nat.le_trans (Nat.le_trans hs3 hsx) hsy)) : OwnQ .u32 71 w.heap.size _ (.slice (some ⟨w5.heap.size, 0, none⟩) m m) _) ⟨by omega, by omega, by omega⟩)
  | have HS := zH (start_of (n₀ := w.heap.size) (w0 := w) w5 ((((B3.out.drew).trans (HBX.out.mono hs3)).alloc (Nat.le_trans hs3 hsx) _).trans (HBY.out.mono (by simp only [World.size_alloc]; exact Nat.le_trans (Nat.le_trans hs3 hsx) (Nat.le_succ _)))) (Nat.le_refl _) (((x1.mono (B' := w.heap.size) (Nat.le_trans hs3 (Nat.le_refl _))).alloc (.cells (madeCells (Value.int .u32 0).cells (m * 1)) 71)).below HBY.out) (y1.mono (B' := w.heap.size) (by simp only [World.size_alloc]; exact Nat.le_trans (Nat.le_trans hs3 hsx) (Nat.le_succ _))) ((((made_own w4 m hmm).mono (Nat.le_trans hs3 hsx)).below HBY.out) : OwnQ .u32 71 w.heap.size _ (.slice (some ⟨w4.heap.size, 0, none⟩) m m) _) ⟨by omega, by omega, by omega⟩)
  | (have e1 : (w3.alloc (.cells (madeCells (Value.int .u32 0).cells (m * 1)) 71)).drew.heap.size = w3.heap.size + 1 := by
       show (w3.alloc _).heap.size = _
       simp
     rw [e1] at hsx x5
     have HS := zH (start_of (n₀ := w.heap.size) (w0 := w) w5 (((B3.out.alloc hs3 _).drew.trans (HBX.out.mono (by rw [e1]; exact Nat.le_trans hs3 (Nat.le_succ _)))).trans (HBY.out.mono (Nat.le_trans (Nat.le_trans hs3 (Nat.le_succ _)) hsx))) (Nat.le_refl _) ((x1.mono (B' := w.heap.size) (by rw [e1]; exact Nat.le_trans hs3 (Nat.le_succ _))).below HBY.out) (y1.mono (B' := w.heap.size) (Nat.le_trans (Nat.le_trans hs3 (Nat.le_succ _)) hsx)) (((((made_own w3 m hmm).mono hs3).drew.below HBX.out).below HBY.out) : OwnQ .u32 71 w.heap.size _ (.slice (some ⟨w3.heap.size, 0, none⟩) m m) _) ⟨by omega, by omega, by omega⟩))
 all_goals clear x1 x5 x6 y1 y5 y6 HOX HOY HBX HBY hsx hsy hs3 HZ
 all_goals obtain ⟨D, gM, Wf, eD, eM, eW, hDS, hBW⟩ := HS.out
 all_goals (try simp only [World.size_alloc] at eD)
 all_goals clear HS hmk em1 em2
 all_goals rw [← eW]
 all_goals rw [← eD]
 all_goals try rw [← eM]
 all_goals
  clear eD eM eW
  rw [val_nat] at x4 y4
  obtain ⟨-, hVv, hhi⟩ := norm_by HK.out (by have := HN.out; have := HYT.out; rw [← HYT.out]; exact HN.out) y2 y3 y4
  have hpl := norm_start HK.out HP.out HM.out x2 x3 x4
  rw [← hVv] at hpl
  have HWK := zH (work_any w.heap.size D gX gY gM (p + 1) cX cY m m k (X * 2 ^ n) OX (OY.take (k + 1)) (List.replicate m 0) Wf hDS.held hDS.left hDS.by' hDS.quot hDS.apart (fun y hy => y3 y (List.mem_of_mem_take hy)) hhi hpl HM.out.symm (by omega) hBW.size)
  have HVV := zH hVv
  have HBW := zH hBW
  have HM2 := zH hmm
  clear hDS hBW hpl hVv hhi x2 x3 x4 y2 y3 y4 hmm
  simp only [Exit.then]
  go_wp2_with fail
  refine HWK.out.mono ?_
  rintro e w6 ⟨⟨v6, rfl⟩, ⟨L6, Q6, hD6, hL6, hQ6, hP6⟩, hb6⟩
  have HB6 := zH (HBW.out.trans hb6)
  rw [HVV.out] at hP6
  have hend := norm_end hP6
  have hL6l := hP6.llim
  have hq6 := hP6.qlim
  have HQU := zH hend.1
  have HRE := zH hend.2
  have NQ := zH (natAt_list hQ6 hq6 hend.1)
  have HL6 := zH hL6
  have HL6L := zH hL6l
  have HD6 := zH hD6
  have cQ := hD6.cell 2 rfl
  have hqt := zH (show X / Y < topN from Nat.lt_of_le_of_lt (Nat.div_le_self _ _) HX.out)
  have hrt := zH (show X % Y < topN from Nat.lt_of_le_of_lt (Nat.mod_le _ _) HX.out)
  clear hb6 hP6 hend hL6 hL6l hq6 hD6 hQ6 HWK HBW
  go_wp2_with fail
  refine (trim_ok NQ.out hqt.out).mono ?_
  rintro e w7 ⟨⟨v7, rfl, ho7⟩, hb7⟩
  have O7 := zH ho7
  have HL7 := zH (HL6.out.below hb7)
  have cL := (HD6.out.below hb7).cell 0 rfl
  have HB7 := zH (HB6.out.trans (hb7.mono HB6.out.size))
  have HS6 := zH HB6.out.size
  have hcl : p + 1 ≤ cX := HL6.out.cap.2.1
  clear ho7 hb7 cQ NQ HD6 HB6
  have HUN := zH (unshifted_any _ _ _ (L6.take (k + 1)) w7 (HL7.out.reads.upto (k + 1) (by omega)) (fun y hy => HL6L.out y (List.mem_of_mem_take hy)) n hn32 (by omega))
  go_wp2_with fail
  refine HUN.out.mono ?_
  rintro e w8 ⟨⟨O, ⟨v8, rfl, ho8⟩, h8l, h8m, h8v⟩, hb8⟩
  obtain ⟨a8, n8, c8, rfl, hn8, ho8⟩ := ho8.slice
  have N8 := zH (natAt_list ho8 h8m (h8v.trans HRE.out))
  have O8 := zH (O7.out.below hb8)
  have O8B := zH (show w7.heap.size ≤ w8.heap.size from hb8.size)
  have HB8 := zH (HB7.out.trans (hb8.mono HB7.out.size))
  clear ho8 hn8 h8l h8m h8v hb8 cL HUN HL7
  go_wp2_with fail
  refine (trim_ok N8.out hrt.out).mono ?_
  rintro e w9 ⟨⟨v9, rfl, ho9⟩, hb9⟩
  have O9 := zH ho9
  have O79 := zH (O8.out.below hb9)
  have HB9 := zH (HB8.out.trans (hb9.mono HB8.out.size))
  clear ho9 hb9
  go_wp2_with fail
  refine bodyPost_ret (v := .tuple #[v7, v9, .int .i64 0]) (by simp [results, Tryz.results115, go_sem]) rfl ⟨⟨v7, v9, rfl, O79.out.mono HS6.out, O9.out.mono HB8.out.size, off_of O7.out O9.out O8B.out⟩, HB9.out⟩
end Go.Proofs.YtpefjkndfifceaaGreatDoor
namespace Go.Proofs.YtpefjkndfifceaaGreatDoor
open Go.RowKit
theorem ownNil (E B : Nat) (w : World) : OwnQ .u32 E B w (.slice none 0 0) [] := OwnQ.nil _ _ _ _
set_option maxRecDepth 100000 in
set_option maxHeartbeats 1000000 in
theorem div_any (x y : Value) (X Y : Nat) (w : World) (hx : NatAt w x X) (hy : NatAt w y Y) :
  Calls Tryz.prog 115 #[x, y] w fun e w' => DivRets w.heap.size w' (divR X Y) e ∧ Below w.heap.size w w' := by
 have NX := zH hx
 have NY := zH hy
 clear hx hy
 by_cases hX : X < topN
 ·by_cases hY : Y < topN
  ·have HX := zH hX
   have HY := zH hY
   clear hX hY
   rcases Nat.eq_zero_or_pos Y with h0 | h0
   ·have hr := zH (show divR X Y = ([], [], 60) by rw [h0]; exact divR_zero HX.out)
    have HZ := zH h0
    clear h0
    go_enter Tryz.func115, Tryz.ntmps115
    go_wp2_with fail
    refine (trim_ok NX.out HX.out).mono ?_
    rintro e w1 ⟨⟨v1, rfl, ho1⟩, hb1⟩
    obtain ⟨a1, n1, c1, rfl, hn1, ho1⟩ := ho1.slice
    have B1 := zH hb1
    have NY1 := zH (NY.out.below hb1)
    clear ho1 hb1 hn1
    go_wp2_with fail
    refine (trim_ok NY1.out HY.out).mono ?_
    rintro e w2 ⟨⟨v2, rfl, ho2⟩, hb2⟩
    obtain ⟨a2, n2, c2, rfl, hn2, -⟩ := ho2.slice
    obtain rfl : n2 = 0 := by rw [hn2, HZ.out, show nat32 0 = [] from natB_zero _]; rfl
    have B2 := zH (B1.out.trans (hb2.mono B1.out.size))
    clear ho2 hb2 hn2
    go_wp2_with fail
    refine bodyPost_ret (v := .tuple #[.slice none 0 0, .slice none 0 0, .int .i64 60]) (by simp [results, Tryz.results115, go_sem]) rfl ⟨?_, B2.out⟩
    rw [hr.out]
    exact ⟨_, _, rfl, ownNil _ _ _, ownNil _ _ _, off_nil _⟩
   ·by_cases hle : Y ≤ X
    ·rw [divR_yes HX.out HY.out h0]
     exact div_main x y X Y w NX.out NY.out HX.out HY.out h0 hle
    ·have hr := zH (show divR X Y = ([], nat32 X, 0) by
      rw [divR_yes HX.out HY.out h0, Nat.div_eq_of_lt (by omega), Nat.mod_eq_of_lt (by omega), show nat32 0 = [] from natB_zero _])
     have hyl : ∃ k, (nat32 Y).length = k + 1 := ⟨(nat32 Y).length - 1, by
      have : (nat32 Y).length ≠ 0 := fun e => by
       have := (natB_nil (b := 4294967296) (by decide)).1 (List.eq_nil_of_length_eq_zero e)
       omega
      omega⟩
     obtain ⟨k, hk⟩ := hyl
     have HK := zH hk
     have hord := zH (show ordN X Y = -1 from ordN_lt (by omega))
     clear hk hle h0
     go_enter Tryz.func115, Tryz.ntmps115
     go_wp2_with fail
     refine (trim_ok NX.out HX.out).mono ?_
     rintro e w1 ⟨⟨v1, rfl, ho1⟩, hb1⟩
     obtain ⟨a1, n1, c1, rfl, hn1, ho1⟩ := ho1.slice
     have O1 := zH ho1
     have B1 := zH hb1
     have NY1 := zH (NY.out.below hb1)
     clear ho1 hb1 hn1
     go_wp2_with fail
     refine (trim_ok NY1.out HY.out).mono ?_
     rintro e w2 ⟨⟨v2, rfl, ho2⟩, hb2⟩
     obtain ⟨a2, n2, c2, rfl, hn2, ho2⟩ := ho2.slice
     obtain rfl : n2 = k + 1 := by rw [hn2]; exact HK.out
     have O2 := zH ho2
     have O12 := zH (O1.out.below hb2)
     have B2 := zH (B1.out.trans (hb2.mono B1.out.size))
     clear ho2 hb2 hn2
     have hcmp := zH (cmp_nat (natAt_own O12.out) (natAt_own O2.out) (-1) hord.out.symm)
     go_wp2_with fail
     refine hcmp.out.mono ?_
     rintro e w3 ⟨rfl, hb3⟩
     have B3 := zH (B2.out.trans (hb3.mono B2.out.size))
     have O13 := zH (O12.out.below hb3)
     clear hb3
     go_wp2_with fail
     refine bodyPost_ret (v := .tuple #[.slice none 0 0, .slice a1 n1 c1, .int .i64 0]) (by simp [results, Tryz.results115, go_sem]) rfl ⟨?_, B3.out⟩
     rw [hr.out]
     exact ⟨_, _, rfl, ownNil _ _ _, O13.out, off_nil' _⟩
  ·have hr := zH (show divR X Y = ([], [], 20) from divR_no (fun h => hY h.2))
   have HX := zH hX
   have HY := zH hY
   clear hX hY
   go_enter Tryz.func115, Tryz.ntmps115
   go_wp2_with fail
   refine (trim_ok NX.out HX.out).mono ?_
   rintro e w1 ⟨⟨v1, rfl, ho1⟩, hb1⟩
   have B1 := zH hb1
   have NY1 := zH (NY.out.below hb1)
   clear ho1 hb1
   go_wp2_with fail
   refine (trim_no NY1.out HY.out).mono ?_
   rintro e w2 ⟨⟨v2, rfl⟩, hb2⟩
   have B2 := zH (B1.out.trans (hb2.mono B1.out.size))
   clear hb2
   go_wp2_with fail
   refine bodyPost_ret (v := .tuple #[.slice none 0 0, .slice none 0 0, .int .i64 20]) (by simp [results, Tryz.results115, go_sem]) rfl ⟨?_, B2.out⟩
   rw [hr.out]
   exact ⟨_, _, rfl, ownNil _ _ _, ownNil _ _ _, off_nil _⟩
 ·have hr := zH (show divR X Y = ([], [], 20) from divR_no (fun h => hX h.1))
  have HX := zH hX
  clear hX
  go_enter Tryz.func115, Tryz.ntmps115
  go_wp2_with fail
  refine (trim_no NX.out HX.out).mono ?_
  rintro e w1 ⟨⟨v1, rfl⟩, hb1⟩
  have B1 := zH hb1
  clear hb1
  go_wp2_with fail
  refine bodyPost_ret (v := .tuple #[.slice none 0 0, .slice none 0 0, .int .i64 20]) (by simp [results, Tryz.results115, go_sem]) rfl ⟨?_, B1.out⟩
  rw [hr.out]
  exact ⟨_, _, rfl, ownNil _ _ _, ownNil _ _ _, off_nil _⟩
def modR (x y : Nat) : List Nat × Int := ((divR x y).2.1, (divR x y).2.2)
set_option maxHeartbeats 400000 in
theorem mod_any (x y : Value) (X Y : Nat) (w : World) (hx : NatAt w x X) (hy : NatAt w y Y) :
  Calls Tryz.prog 174 #[x, y] w fun e w' => RetsQ2 .u32 71 w.heap.size w' (modR X Y) e ∧ Below w.heap.size w w' := by
 have HD := zH (div_any x y X Y w hx hy)
 unfold modR
 generalize divR X Y = r at *
 clear hx hy
 go_enter Tryz.func174, Tryz.ntmps174
 go_wp2_with fail
 refine HD.out.mono ?_
 rintro e w1 ⟨⟨q, s, rfl, -, ho, -⟩, hb⟩
 have HO := zH ho
 have HB := zH hb
 clear ho hb
 go_wp2_with fail
 go_ret2
 exact ⟨⟨s, rfl, HO.out⟩, HB.out⟩
theorem mod_nat {x y : Value} {X Y : Nat} {w : World} (hx : NatAt w x X) (hy : NatAt w y Y) (hX : X < topN) (hY : Y < topN) (h0 : 0 < Y) :
  Calls Tryz.prog 174 #[x, y] w fun e w' => RetN w' (X % Y) e ∧ Below w.heap.size w w' := by
 refine (mod_any x y X Y w hx hy).mono fun e w' ⟨he, hb⟩ => ⟨?_, hb⟩
 unfold modR at he
 rw [divR_yes hX hY h0] at he
 exact he.num
end Go.Proofs.YtpefjkndfifceaaGreatDoor
namespace Go.Proofs.YtpefjkndfifceaaGreatDoor
open Go.RowKit
theorem own_len {E B : Nat} {w : World} {a : Option Addr} {len cap n : Nat} (h : OwnQ .u32 E B w (.slice a len cap) (nat32 n)) : len = (nat32 n).length := h.cap.1
theorem own_zero {E B : Nat} {w : World} {a : Option Addr} {len cap n : Nat} (h : OwnQ .u32 E B w (.slice a len cap) (nat32 n)) : len = 0 ↔ n = 0 := by
 rw [own_len h]
 constructor
 ·intro e
  exact (natB_nil (b := 4294967296) (by decide)).1 (List.eq_nil_of_length_eq_zero e)
 ·rintro rfl
  rw [show nat32 0 = [] from natB_zero _]; rfl
theorem own_short {E B k : Nat} {w : World} {a : Option Addr} {len cap n : Nat} (h : OwnQ .u32 E B w (.slice a len cap) (nat32 n)) : len ≤ k ↔ n < 4294967296 ^ k := by
 rw [own_len h]
 exact natB_length (by decide) n k
def gcdR (x y : Nat) : List Nat × Int := if x < topN ∧ y < topN then (nat32 (Nat.gcd x y), 0) else ([], 20)
end Go.Proofs.YtpefjkndfifceaaGreatDoor
namespace Go.Proofs.YtpefjkndfifceaaGreatDoor
open Go.RowKit
def topM : Nat := 4294967296 ^ 128
theorem topM_sq : topM * topM = topN := by unfold topM topN; rw [← Nat.pow_add]
theorem topM_pos : 0 < topM := by unfold topM; exact Nat.pow_pos (by decide)
theorem topM_le : topM ≤ topN := by rw [← topM_sq]; exact Nat.le_mul_of_pos_right _ topM_pos
set_option maxHeartbeats 400000 in
theorem modulus_ok (x : Value) (X : Nat) (w : World) (hx : NatAt w x X) (hX : X < topM) :
  Calls Tryz.prog 114 #[x] w fun e w' => (∃ v, e = .returned (.tuple #[v, .int .i64 0]) ∧ OwnQ .u32 71 w.heap.size w' v (nat32 X)) ∧ Below w.heap.size w w' := by
 have HT := zH (trim_ok hx (Nat.lt_of_lt_of_le hX topM_le))
 have HX := zH hX
 clear hx hX
 go_enter Tryz.func114, Tryz.ntmps114
 go_wp2_with fail
 refine HT.out.mono ?_
 rintro e w1 ⟨⟨v1, rfl, ho1⟩, hb1⟩
 obtain ⟨a1, n1, c1, rfl, hn1, ho1⟩ := ho1.slice
 have hle := (own_short (k := 128) ho1).2 HX.out
 have hd : decide ((128 : Int) < (n1 : Int)) = false := by simp; omega
 have O1 := zH ho1
 have B1 := zH hb1
 clear ho1 hb1 hn1
 go_wp2_with fail
 go_ret2
 exact ⟨⟨_, rfl, O1.out⟩, B1.out⟩
set_option maxHeartbeats 400000 in
theorem modulus_no (x : Value) (X : Nat) (w : World) (hx : NatAt w x X) (hX : ¬ X < topM) :
  Calls Tryz.prog 114 #[x] w fun e w' => (∃ v, e = .returned (.tuple #[v, .int .i64 20])) ∧ Below w.heap.size w w' := by
 by_cases hN : X < topN
 ·have HT := zH (trim_ok hx hN)
  have HX := zH hX
  clear hx hX hN
  go_enter Tryz.func114, Tryz.ntmps114
  go_wp2_with fail
  refine HT.out.mono ?_
  rintro e w1 ⟨⟨v1, rfl, ho1⟩, hb1⟩
  obtain ⟨a1, n1, c1, rfl, hn1, ho1⟩ := ho1.slice
  have hle := mt (own_short (k := 128) ho1).1 HX.out
  have hd : decide ((128 : Int) < (n1 : Int)) = true := by simp; omega
  have B1 := zH hb1
  clear ho1 hb1 hn1
  go_wp2_with fail
  go_ret2
  exact ⟨⟨_, rfl⟩, B1.out⟩
 ·have HT := zH (trim_no hx hN)
  clear hx hX hN
  go_enter Tryz.func114, Tryz.ntmps114
  go_wp2_with fail
  refine HT.out.mono ?_
  rintro e w1 ⟨⟨v1, rfl⟩, hb1⟩
  have B1 := zH hb1
  clear hb1
  go_wp2_with fail
  go_ret2
  exact ⟨⟨_, rfl⟩, B1.out⟩
def mulModR (x y m : Nat) : List Nat × Int := if m < topM ∧ x < topN ∧ y < topN then (if m = 0 then ([], 60) else (nat32 (x * y % m), 0)) else ([], 20)
theorem mulModR_yes {x y m : Nat} (h : m < topM) (hx : x < topN) (hy : y < topN) (h0 : 0 < m) : mulModR x y m = (nat32 (x * y % m), 0) := by unfold mulModR; rw [if_pos ⟨h, hx, hy⟩, if_neg (by omega)]
theorem mulModR_zero {x y : Nat} (hx : x < topN) (hy : y < topN) : mulModR x y 0 = ([], 60) := by unfold mulModR; rw [if_pos ⟨topM_pos, hx, hy⟩, if_pos rfl]
theorem mulModR_no {x y m : Nat} (h : ¬ (m < topM ∧ x < topN ∧ y < topN)) : mulModR x y m = ([], 20) := if_neg h
theorem modR_yes {x y : Nat} (h : x < topN) (k : y < topN) (h0 : 0 < y) : modR x y = (nat32 (x % y), 0) := by unfold modR; rw [divR_yes h k h0]
theorem modR_no {x y : Nat} (h : ¬ (x < topN ∧ y < topN)) : modR x y = ([], 20) := by unfold modR; rw [divR_no h]
theorem modR_zero {x : Nat} (h : x < topN) : modR x 0 = ([], 60) := by unfold modR; rw [divR_zero h]
set_option maxHeartbeats 1000000 in
theorem mulMod_any (x y m : Value) (X Y M : Nat) (w : World) (hx : NatAt w x X) (hy : NatAt w y Y) (hm : NatAt w m M) :
  Calls Tryz.prog 175 #[x, y, m] w fun e w' => RetsQ2 .u32 71 w.heap.size w' (mulModR X Y M) e ∧ Below w.heap.size w w' := by
 have NX := zH hx
 have NY := zH hy
 have NM := zH hm
 clear hx hy hm
 by_cases hM : M < topM
 ·by_cases hY : Y < topN
  ·have HM := zH hM
   have HY := zH hY
   have HMN := zH (Nat.lt_of_lt_of_le hM topM_le)
   by_cases hX : X < topN
   ·have HX := zH hX
    clear hM hY hX
    rcases Nat.eq_zero_or_pos M with h0 | h0
    ·have hr := zH (show mulModR X Y M = ([], 60) by rw [h0]; exact mulModR_zero HX.out HY.out)
     have hmd := zH (show modR X M = ([], 60) by rw [h0]; exact modR_zero HX.out)
     clear h0
     go_enter Tryz.func175, Tryz.ntmps175
     go_wp2_with fail
     refine (modulus_ok m M w NM.out HM.out).mono ?_
     rintro e w1 ⟨⟨v1, rfl, ho1⟩, hb1⟩
     have N1 := zH (natAt_own ho1)
     have B1 := zH hb1
     have NX1 := zH (NX.out.below hb1)
     have NY1 := zH (NY.out.below hb1)
     clear ho1 hb1
     go_wp2_with fail
     refine (trim_ok NY1.out HY.out).mono ?_
     rintro e w2 ⟨⟨v2, rfl, ho2⟩, hb2⟩
     have N2 := zH (N1.out.below hb2)
     have NX2 := zH (NX1.out.below hb2)
     have B2 := zH (B1.out.trans (hb2.mono B1.out.size))
     clear ho2 hb2
     go_wp2_with fail
     refine (mod_any _ _ _ _ _ NX2.out N2.out).mono ?_
     rintro e w3 ⟨hr3, hb3⟩
     rw [hmd.out] at hr3
     obtain ⟨v3, rfl, -⟩ := hr3
     have B3 := zH (B2.out.trans (hb3.mono B2.out.size))
     clear hb3
     go_wp2_with fail
     go_ret2
     exact ⟨⟨_, by rw [hr.out]; rfl, by rw [hr.out]; exact ownNil _ _ _⟩, B3.out⟩
    ·have hr := zH (mulModR_yes (x := X) (y := Y) HM.out HX.out HY.out h0)
     have H0 := zH h0
     have hx2 := zH (Nat.lt_trans (Nat.mod_lt X h0) HMN.out)
     have hy2 := zH (Nat.lt_trans (Nat.mod_lt Y h0) HMN.out)
     have hp := zH (show X % M * (Y % M) < topN by
      rw [← topM_sq]
      exact Nat.mul_lt_mul'' (Nat.lt_trans (Nat.mod_lt X h0) HM.out) (Nat.lt_trans (Nat.mod_lt Y h0) HM.out))
     clear h0
     go_enter Tryz.func175, Tryz.ntmps175
     go_wp2_with fail
     refine (modulus_ok m M w NM.out HM.out).mono ?_
     rintro e w1 ⟨⟨v1, rfl, ho1⟩, hb1⟩
     have N1 := zH (natAt_own ho1)
     have B1 := zH hb1
     have NX1 := zH (NX.out.below hb1)
     have NY1 := zH (NY.out.below hb1)
     clear ho1 hb1
     go_wp2_with fail
     refine (trim_ok NY1.out HY.out).mono ?_
     rintro e w2 ⟨⟨v2, rfl, ho2⟩, hb2⟩
     have N2 := zH (N1.out.below hb2)
     have NX2 := zH (NX1.out.below hb2)
     have NY2 := zH (NY1.out.below hb2)
     have B2 := zH (B1.out.trans (hb2.mono B1.out.size))
     clear ho2 hb2
     go_wp2_with fail
     refine (mod_nat NX2.out N2.out HX.out HMN.out H0.out).mono ?_
     rintro e w3 ⟨⟨v3, rfl, ho3⟩, hb3⟩
     have P3 := zH ho3
     have N3 := zH (N2.out.below hb3)
     have NY3 := zH (NY2.out.below hb3)
     have B3 := zH (B2.out.trans (hb3.mono B2.out.size))
     clear hb3 ho3
     go_wp2_with fail
     refine (mod_nat NY3.out N3.out HY.out HMN.out H0.out).mono ?_
     rintro e w4 ⟨⟨v4, rfl, ho4⟩, hb4⟩
     have P4 := zH ho4
     have P34 := zH (P3.out.below hb4)
     have N4 := zH (N3.out.below hb4)
     have B4 := zH (B3.out.trans (hb4.mono B3.out.size))
     clear hb4 ho4
     go_wp2_with fail
     refine (mul_nat P34.out.at P4.out.at hx2.out hy2.out hp.out).mono ?_
     rintro e w5 ⟨⟨v5, rfl, ho5⟩, hb5⟩
     have P5 := zH ho5
     have N5 := zH (N4.out.below hb5)
     have B5 := zH (B4.out.trans (hb5.mono B4.out.size))
     clear hb5 ho5
     go_wp2_with fail
     refine (mod_any _ _ _ _ _ P5.out.at N5.out).mono ?_
     rintro e w6 ⟨hr6, hb6⟩
     rw [modR_yes hp.out HMN.out H0.out, ← Nat.mul_mod] at hr6
     obtain ⟨v6, rfl, ho6⟩ := hr6
     have O6 := zH ho6
     have B6 := zH (B5.out.trans (hb6.mono B5.out.size))
     clear hb6 ho6
     go_wp2_with fail
     go_ret2
     exact ⟨⟨_, by rw [hr.out]; rfl, by rw [hr.out]; exact O6.out.mono B5.out.size⟩, B6.out⟩
   ·have hr := zH (mulModR_no (x := X) (y := Y) (m := M) (fun h => hX h.2.1))
    have hmd := zH (modR_no (x := X) (y := M) (fun h => hX h.1))
    clear hM hY hX
    go_enter Tryz.func175, Tryz.ntmps175
    go_wp2_with fail
    refine (modulus_ok m M w NM.out HM.out).mono ?_
    rintro e w1 ⟨⟨v1, rfl, ho1⟩, hb1⟩
    have N1 := zH (natAt_own ho1)
    have B1 := zH hb1
    have NX1 := zH (NX.out.below hb1)
    have NY1 := zH (NY.out.below hb1)
    clear ho1 hb1
    go_wp2_with fail
    refine (trim_ok NY1.out HY.out).mono ?_
    rintro e w2 ⟨⟨v2, rfl, ho2⟩, hb2⟩
    have N2 := zH (N1.out.below hb2)
    have NX2 := zH (NX1.out.below hb2)
    have B2 := zH (B1.out.trans (hb2.mono B1.out.size))
    clear ho2 hb2
    go_wp2_with fail
    refine (mod_any _ _ _ _ _ NX2.out N2.out).mono ?_
    rintro e w3 ⟨hr3, hb3⟩
    rw [hmd.out] at hr3
    obtain ⟨v3, rfl, -⟩ := hr3
    have B3 := zH (B2.out.trans (hb3.mono B2.out.size))
    clear hb3
    go_wp2_with fail
    go_ret2
    exact ⟨⟨_, by rw [hr.out]; rfl, by rw [hr.out]; exact ownNil _ _ _⟩, B3.out⟩
  ·have hr := zH (mulModR_no (x := X) (y := Y) (m := M) (fun h => hY h.2.2))
   have HM := zH hM
   have HY := zH hY
   clear hM hY
   go_enter Tryz.func175, Tryz.ntmps175
   go_wp2_with fail
   refine (modulus_ok m M w NM.out HM.out).mono ?_
   rintro e w1 ⟨⟨v1, rfl, ho1⟩, hb1⟩
   have B1 := zH hb1
   have NY1 := zH (NY.out.below hb1)
   clear ho1 hb1
   go_wp2_with fail
   refine (trim_no NY1.out HY.out).mono ?_
   rintro e w2 ⟨⟨v2, rfl⟩, hb2⟩
   have B2 := zH (B1.out.trans (hb2.mono B1.out.size))
   clear hb2
   go_wp2_with fail
   go_ret2
   exact ⟨⟨_, by rw [hr.out]; rfl, by rw [hr.out]; exact ownNil _ _ _⟩, B2.out⟩
 ·have hr := zH (mulModR_no (x := X) (y := Y) (m := M) (fun h => hM h.1))
  have HM := zH hM
  clear hM
  go_enter Tryz.func175, Tryz.ntmps175
  go_wp2_with fail
  refine (modulus_no m M w NM.out HM.out).mono ?_
  rintro e w1 ⟨⟨v1, rfl⟩, hb1⟩
  have B1 := zH hb1
  clear hb1
  go_wp2_with fail
  go_ret2
  exact ⟨⟨_, by rw [hr.out]; rfl, by rw [hr.out]; exact ownNil _ _ _⟩, B1.out⟩
end Go.Proofs.YtpefjkndfifceaaGreatDoor
namespace Go.Proofs.YtpefjkndfifceaaGreatDoor
open Go.RowKit
def Small (v : Value) : Prop := ∀ a len cap, v = .slice a len cap → len ≤ 288230376151711743
def invR (x m : Nat) : List Nat × Int := if m < topM ∧ x < topN then (if 2 ≤ m ∧ Nat.gcd m x = 1 then (nat32 (invN x m), 0) else ([], 61)) else ([], 20)
theorem of_own (n : Int) (k : Nat) (hk : n = k) (w : World) (hn : k < 18446744073709551616) : Calls Tryz.prog 29 #[.int .u64 n] w fun e w' => (∃ v, e = .returned v ∧ OwnQ .u32 71 w.heap.size w' v (nat32 k)) ∧ Below w.heap.size w w' := of_any n k hk w hn
def InvW (n₀ : Nat) (w5 : World) (M X : Nat) (ev rv fv tv pv : Value) (wr : World) : Prop :=
 ∃ (E R F T : Nat) (s : Int), InvI M X E R F T s ∧ E < topN ∧ R < topN ∧ Small rv ∧ NatAt wr ev E ∧ NatAt wr rv R ∧ OwnQ .u32 71 n₀ wr fv (nat32 F) ∧ OwnQ .u32 71 n₀ wr tv (nat32 T) ∧ pv = .bool (decide (s = 1)) ∧ (s = 1 ∨ s = -1) ∧ Below w5.heap.size w5 wr
end Go.Proofs.YtpefjkndfifceaaGreatDoor
