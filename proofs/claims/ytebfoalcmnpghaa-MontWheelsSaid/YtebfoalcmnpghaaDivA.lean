/-
  RATIO's shifted AND unshifted, AND math/bits.LeadingZeros32, Add32.
-/
import Derived.Test.YtebfoalcmnpghaaDivP
import Derived.Test.YtebfoalcmnpghaaNatC
import Derived.Test.YtebfoalcmnpghaaNat8
namespace Go.Proofs.Ytebfoalcmnpghaa
open Go.RowKit

set_option maxHeartbeats 1000000 in
theorem shifted_any (a : Option Addr) (len cap : Nat) (l : List Nat) (w : World) (h : Reads .u32 w a len cap l) (hL : Lim l) (r : Nat) (hr32 : r < 32) (hlen : len ≤ 256) :
    Calls Try.prog 76 #[.slice a len cap, .int .i64 (r : Int)] w fun e w' => (∃ O, RetsQ .u32 41 w.heap.size w' O e ∧ O.length = len + 1 ∧ Lim O ∧ val32 O = val32 l * 2 ^ r) ∧ Below w.heap.size w w' := by
  obtain ⟨i0, hi, hz0, hz1, hz2⟩ := info_parts Try.info32
  have HM := Lib.hid h
  have HMM := Lib.hid h.length
  have HLm := Lib.hid hL
  clear h hL
  go_enter Try.func76, Try.ntmps76
  go_wp2_with (at_make; refine wpList_make_lc .u32 _ rfl _ _ 22 rfl w.heap.size 41 i0 Try.underlying22 hi hz0 hz1 _ _ _ _ 0 (len + 1) rfl rfl rfl (by omega) (by omega) (by rw [hz2]; omega) (by unfold maxLen; omega) (Nat.le_refl _) ?_; intro w1 hown hgrow)
  have hb1 : Below w.heap.size w w1 := (Below.refl _ _).grown hgrow (Nat.le_refl _) (fun _ h => by cases h)
  have HO := Lib.hid hown
  have HB1 := Lib.hid hb1
  clear hown hgrow hb1
  have h2r := Lib.hid (Nat.pow_le_pow_right (show 0 < 2 by decide) (show r ≤ 31 by omega))
  go_loopw [5, 6, 15] (fun v lo i wr => ∃ (j : Nat) (O : List Nat) (low : Nat), i = .int .i64 j ∧ lo = .int .u64 (low : Int) ∧ j ≤ len ∧ OwnQ .u32 41 w.heap.size wr v O ∧ Hid (O.length = j ∧ Lim O ∧ low < 2 ^ r ∧ val32 O + 4294967296 ^ j * low = val32 (l.take j) * 2 ^ r) ∧ Hid (Below w.heap.size w wr)) (fun _ _ i _ => len - (intOf i).toNat)
  case atStart => exact ⟨0, _, 0, rfl, rfl, Nat.zero_le _, HO.out, ⟨by simp, fun x hx => by simp at hx, Nat.pow_pos (by decide), by rw [List.take_zero]; simp [val32, valB]⟩, HB1.out⟩
  case round =>
    obtain ⟨j, O, low, rfl, rfl, hj, hown, hinv, hbel⟩ := hrel
    obtain ⟨ov, on, oc, rfl, -, hown⟩ := hown.slice
    by_cases hlt : j < len
    · obtain ⟨b, off, rfl, hbk, hc2⟩ := (HM.out.below hbel.out).cells (by omega)
      have hck := hc2 j hlt
      have hx := lim_get HLm.out j
      have hst := Lib.hid (valB_succ (b := 4294967296) l j)
      clear hc2
      obtain ⟨i1, i2, i3, i4⟩ := hinv.out
      have I1 := Lib.hid i1
      have I2 := Lib.hid i2
      have I4 := Lib.hid i4
      clear i1 i2 i4
      generalize l[j]?.getD 0 = x at *
      have hor := or64 low x r hr32 i3 hx
      have hlow : low < 2147483648 := by have := h2r.out; omega
      have I3 := Lib.hid i3
      clear i3
      have hx2 : x * 2 ^ r ≤ 4294967295 * 2147483648 := Nat.mul_le_mul (by omega) h2r.out
      have hss := Lib.hid (shl_step (val32 O) low x r (4294967296 ^ j))
      have hlo2 : (low + x * 2 ^ r) / 4294967296 < 2 ^ r := by
        have e1 : x * 2 ^ r + 2 ^ r ≤ 4294967296 * 2 ^ r := by rw [← Nat.succ_mul]; exact Nat.mul_le_mul_right _ (by omega)
        have e2 := I3.out
        rw [Nat.div_lt_iff_lt_mul (by decide)]
        omega
      have HL2 := Lib.hid hlo2
      clear hlo2
      generalize hsg : low + x * 2 ^ r = s at *
      have HS := Lib.hid hsg
      have hs63 : s < 9223372036854775808 := by omega
      clear hsg hx2 hlow
      have hbs := hbel.out.size
      have HO1 := Lib.hid hown
      have hlen : O.length ≤ 1000 := by have := I1.out; omega
      clear hown
      go_wp2_with (at_builtin; refine wpList_append_q .u32 _ rfl _ _ 22 rfl w.heap.size 41 4 i0 Try.underlying22 hi hz0 hz1 hz2 (by decide) _ O rfl (HO1.out.alloc _) _ _ _ [s % 4294967296] rfl (Reads.one .u32 _ _ _ _ (by omega)) (by omega) (by simp; omega) ?_; intro v' w2 hown2 hgrow)
      go_roundw
      case rel =>
        refine ⟨j + 1, O ++ [s % 4294967296], s / 4294967296, by go_num, by go_num, by omega, hown2, ⟨by simp [I1.out], ?_, HL2.out, ?_⟩, hgrow _ (hbel.out.alloc hbs _)⟩
        · intro y hy
          rcases List.mem_append.1 hy with h | h
          · exact I2.out y h
          · obtain rfl := List.mem_singleton.1 h; exact Nat.mod_lt _ (by decide)
        · have e1 := I4.out
          have e2 := hss.out
          have e3 := hst.out
          simp only [val32, valB_snoc, I1.out] at e1 e2 ⊢
          rw [e3, Nat.add_mul, ← e1, Nat.pow_succ, e2]
      case measure => simp [intOf] <;> omega
    · obtain rfl : j = len := by omega
      obtain ⟨i1, i2, i3, i4⟩ := hinv.out
      rw [List.take_of_length_le (by rw [HMM.out]; exact Nat.le_refl _)] at i4
      have hlow : low < 4294967296 := by have := h2r.out; omega
      have I1 := Lib.hid i1
      have I2 := Lib.hid i2
      have I4 := Lib.hid i4
      clear i1 i2 i3 i4
      have hbs := hbel.out.size
      have HO1 := Lib.hid hown
      have hlen : O.length ≤ 1000 := by have := I1.out; omega
      clear hown
      go_wp2_with (at_builtin; refine wpList_append_q .u32 _ rfl _ _ 22 rfl w.heap.size 41 4 i0 Try.underlying22 hi hz0 hz1 hz2 (by decide) _ O rfl (HO1.out.alloc _) _ _ _ [low] rfl (Reads.one .u32 _ _ _ _ rfl) (by omega) (by simp; omega) ?_; intro v' w2 hown2 hgrow)
      go_ret
      refine ⟨⟨O ++ [low], ⟨_, rfl, hown2⟩, by simp [I1.out], ?_, ?_⟩, hgrow _ (hbel.out.alloc hbs _)⟩
      · intro y hy
        rcases List.mem_append.1 hy with h | h
        · exact I2.out y h
        · obtain rfl := List.mem_singleton.1 h; exact hlow
      · have e1 := I4.out
        simp only [val32, valB_snoc, I1.out] at e1 ⊢
        exact e1

theorem or_hi (h y : Nat) (hy : y < 4294967296) : bits BinOp.or IntKind.u64 (IntKind.u64.wrap ((h : Int) * 4294967296)) (y : Int) = ((h % 4294967296 * 4294967296 + y : Nat) : Int) := by
  have hw : IntKind.u64.wrap ((h : Int) * 4294967296) = ((h % 4294967296 * 4294967296 : Nat) : Int) := by
    simp only [IntKind.wrap, IntKind.bits, IntKind.signed]
    simp
    omega
  rw [hw, u64_or_nat _ _ (by omega) (by omega), nat_join 32 _ _ (by omega) (by omega)]

theorem down_start' (m : Nat) : (∃ j : Nat, Value.int IntKind.i64 ((m : Int) - 1) = .int .i64 j ∧ j + 1 = m) ∨ (Value.int IntKind.i64 ((m : Int) - 1) = .int .i64 (-1) ∧ m = 0) := by
  rcases Nat.eq_zero_or_pos m with h | h
  · exact .inr ⟨by rw [h]; rfl, h⟩
  · exact .inl ⟨m - 1, by congr 1; omega, by omega⟩

set_option maxHeartbeats 1000000 in
theorem unshifted_any (a : Option Addr) (len cap : Nat) (l : List Nat) (w : World) (h : Reads .u32 w a len cap l) (hL : Lim l) (r : Nat) (hr32 : r < 32) (hlen : len ≤ 256) :
    Calls Try.prog 80 #[.slice a len cap, .int .i64 (r : Int)] w fun e w' => (∃ O, RetsQ .u32 41 w.heap.size w' O e ∧ O.length = len ∧ Lim O ∧ val32 O = val32 l / 2 ^ r) ∧ Below w.heap.size w w' := by
  obtain ⟨i0, hi, hz0, hz1, hz2⟩ := info_parts Try.info32
  have HM := Lib.hid h
  have HMM := Lib.hid h.length
  have HLm := Lib.hid hL
  clear h hL
  go_enter Try.func80, Try.ntmps80
  go_wp2_with (at_make; refine wpList_make_lc .u32 _ rfl _ _ 23 rfl w.heap.size 41 i0 Try.underlying23 hi hz0 hz1 _ _ _ _ len len rfl rfl rfl rfl (Nat.le_refl _) (by rw [hz2]; omega) (by unfold maxLen; omega) (Nat.le_refl _) ?_; intro w1 hown hgrow)
  have hb1 : Below w.heap.size w w1 := (Below.refl _ _).grown hgrow (Nat.le_refl _) (fun _ h => by cases h)
  have HO := Lib.hid hown
  have HB1 := Lib.hid hb1
  clear hown hgrow hb1
  go_loopw [6, 7] (fun hi i wr => ∃ (k : Nat) (O : List Nat) (h : Nat), k ≤ len ∧ ((∃ j : Nat, i = .int .i64 j ∧ j + 1 = k) ∨ (i = .int .i64 (-1) ∧ k = 0)) ∧ hi = .int .u64 (h : Int) ∧ h < 18446744073709551616 ∧ OwnQ .u32 41 w.heap.size wr (.slice (some ⟨w.heap.size, 0, none⟩) len len) O ∧ Hid (Unsh l O r k h) ∧ Hid (Below w.heap.size w wr)) (fun _ i _ => (intOf i + 1).toNat)
  case atStart => exact ⟨len, _, 0, Nat.le_refl _, down_start' len, rfl, by omega, HO.out, (by have := unsh_start (l := l) (n := r) (O := List.replicate len 0) (by rw [HMM.out]); rwa [HMM.out] at this), HB1.out⟩
  case round =>
    obtain ⟨k, O, hh, hk, hi, rfl, hhb, hown, hinv, hbel⟩ := hrel
    rcases hi with ⟨j, rfl, hjk⟩ | ⟨rfl, hkz⟩
    · subst hjk
      obtain ⟨b, off, rfl, hbk, hc2⟩ := (HM.out.below hbel.out).cells (by omega)
      have hck := hc2 j (by omega)
      have hx := lim_get HLm.out j
      have hst := Lib.hid (unsh_next hinv.out HLm.out hr32 (by rw [HMM.out]; omega))
      have hol := Lib.hid (show len = O.length by rw [hinv.out.len, HMM.out])
      have hfr := hown.frozenAt hol.out j
      have hcell := hown.cellAt hol.out j (by omega)
      have HO1 := Lib.hid hown
      clear hc2 hown
      generalize l[j]?.getD 0 = x at *
      generalize O[j]?.getD 0 = z at *
      have hor := or_hi hh x hx
      generalize hsg : hh % 4294967296 * 4294967296 + x = s at *
      have hs64 : s < 18446744073709551616 := by omega
      have HS := Lib.hid hsg
      clear hsg
      go_wp2
      go_roundw
      case rel =>
        have s1 := HO1.out.stored hol.out j (s / 2 ^ r % 4294967296) (((s : Int) / 2 ^ r) % 4294967296) (by simp)
        exact ⟨j, O.set j (s / 2 ^ r % 4294967296), s, by omega, down_start' j, rfl, hs64, s1.1, hst.out, s1.2 _ hbel.out⟩
      case measure => simp [intOf] <;> omega
    · subst hkz
      have HIN := Lib.hid hinv.out
      obtain ⟨av, nv, cv, hv, hn, hown⟩ := hown.slice
      cases hv
      have HO1 := Lib.hid hown
      clear hown hinv
      go_wp2
      go_ret
      exact ⟨⟨O, ⟨_, rfl, HO1.out⟩, by rw [HIN.out.len, HMM.out], HIN.out.lim, unsh_fin HIN.out⟩, hbel.out⟩

theorem add32_any (x y o : Nat) (w : World) (hx : x < 4294967296) (hy : y < 4294967296) (ho : o ≤ 1) :
    Calls Try.prog 88 #[.int .u32 (x : Int), .int .u32 (y : Int), .int .u32 (o : Int)] w fun e w' => e = .returned (.tuple #[.int .u32 ((x + y + o) % 4294967296 : Nat), .int .u32 ((x + y + o) / 4294967296 : Nat)]) ∧ w = w' := by
  have h1 : Hid (((x : Int) + (y : Int) + (o : Int)) % 4294967296 = (((x + y + o) % 4294967296 : Nat) : Int)) := by unfold Hid; omega
  have h2 : Hid (((x : Int) + (y : Int) + (o : Int)) / 4294967296 = (((x + y + o) / 4294967296 : Nat) : Int)) := by unfold Hid; omega
  go_enter Try.func88, Try.ntmps88
  go_wp2
  go_ret2
  exact ⟨by rw [← h1.out, ← h2.out]; rfl, rfl⟩

theorem zeros32_any (x : Nat) (w : World) (hx : x < 4294967296) (n : Nat) (hn : n + bitsN x = 32) : Calls Try.prog 75 #[.int .u32 (x : Int)] w fun e w' => e = .returned (.int .i64 (n : Int)) ∧ w = w' := by
  have h1 := Lib.hid (len32_any x w hx)
  have h2 : (32 : Int) - ((bitsN x : Nat) : Int) = (n : Int) := by omega
  have hb : bitsN x ≤ 32 := by omega
  generalize bitsN x = b at *
  go_enter Try.func75, Try.ntmps75
  go_wp2_with (go_at_call 74; refine h1.out.mono ?_; rintro e w' ⟨rfl, rfl⟩)
  go_ret
  exact ⟨rfl, rfl⟩

end Go.Proofs.Ytebfoalcmnpghaa
