/-
  NAT's Shr.
-/
import Derived.Test.YtfeajcgcjpngkaaNatC
import Derived.Test.YtfeajcgcjpngkaaNat8
namespace Go.Proofs.Ytfeajcgcjpngkaa
open Go.RowKit

theorem below_drewN {B : Nat} {a w : World} (h : Below B a w) (n : Nat) : Below B a (w.drewN n) := h.trans ⟨rfl, rfl, rfl, Nat.le_refl _, fun _ _ => rfl⟩

theorem shr_digit (v q r t : Nat) (hr : r < 32) : ((v / 4294967296 ^ (q + t + 1) % 4294967296 * 4294967296 + v / 4294967296 ^ (q + t) % 4294967296) / 2 ^ r) % 4294967296 = v / 2 ^ (32 * q + r) / 4294967296 ^ t % 4294967296 := by
  have e1 : v / 4294967296 ^ (q + t + 1) = v / 4294967296 ^ (q + t) / 4294967296 := by rw [Nat.pow_succ, Nat.div_div_eq_div_mul]
  have e3 : v / 2 ^ (32 * q + r) / 4294967296 ^ t = v / 4294967296 ^ (q + t) / 2 ^ r := by
    rw [Nat.div_div_eq_div_mul, Nat.div_div_eq_div_mul, Nat.pow_add, Nat.pow_mul, Nat.pow_add]
    congr 1
    rw [show (2 : Nat) ^ 32 = 4294967296 from rfl]
    rw [Nat.mul_assoc, Nat.mul_assoc, Nat.mul_comm (2 ^ r)]
  rw [e1, e3]
  generalize v / 4294967296 ^ (q + t) = y
  have e2 : y / 4294967296 % 4294967296 * 4294967296 + y % 4294967296 = y % (2 ^ r * 2 ^ (64 - r)) := by
    rw [← Nat.pow_add, show r + (64 - r) = 64 from by omega, show (2 : Nat) ^ 64 = 4294967296 * 4294967296 from rfl, Nat.mod_mul]
    omega
  rw [e2, Nat.mod_mul_right_div_self]
  exact Nat.mod_mod_of_dvd _ ⟨2 ^ (32 - r), by rw [show (4294967296 : Nat) = 2 ^ 32 from rfl, ← Nat.pow_add]; congr 1; omega⟩

theorem shr_end (v q r M f : Nat) (hv : v < 4294967296 ^ M) (hf : f = min q M) : bareN (padN (nat32 (v / 2 ^ (32 * q + r))) (M - f)) = nat32 (v / 2 ^ (32 * q + r)) := by
  have hlt : v / 2 ^ (32 * q + r) < 4294967296 ^ (M - f) := by
    rw [Nat.div_lt_iff_lt_mul (Nat.pow_pos (by decide)), Nat.pow_add, Nat.pow_mul, show (2 : Nat) ^ 32 = 4294967296 from rfl, ← Nat.mul_assoc, ← Nat.pow_add]
    refine Nat.lt_of_lt_of_le hv ?_
    refine Nat.le_trans (Nat.pow_le_pow_right (by decide) (show M ≤ M - f + q by omega)) (Nat.le_mul_of_pos_right _ (Nat.pow_pos (by decide)))
  have hle := (natB_length (b := 4294967296) (by decide) (v / 2 ^ (32 * q + r)) (M - f)).2 hlt
  rw [bareN_nat (fun x hx => by
    obtain ⟨k, _, rfl⟩ := List.mem_map.1 hx
    exact lim_get (natB_digit (by decide) _) k)]
  rw [show val32 (padN (nat32 (v / 2 ^ (32 * q + r))) (M - f)) = val32 (nat32 (v / 2 ^ (32 * q + r))) from padN_val _ _ _ hle, show val32 (nat32 (v / 2 ^ (32 * q + r))) = _ from natB_val (by decide) _]

theorem or_lo (x y : Nat) (hx : x < 4294967296) (hy : y < 4294967296) : bits BinOp.or IntKind.u64 ((x : Int) * 4294967296) (y : Int) = ((x * 4294967296 + y : Nat) : Int) := by
  rw [or32 x y hx hy]; congr 1; omega

set_option maxHeartbeats 1000000 in
theorem shr_any (a : Option Addr) (len cap : Nat) (l : List Nat) (w : World) (h : Reads .u32 w a len cap l) (hL : Lim l) (n : Int) (hn : n ≤ 9223372036854775807) :
    Calls Try.prog 42 #[.slice a len cap, .int .i64 n] w fun e w' => RetsQ2 .u32 39 w.heap.size w' (shrR (val32 l) n) e ∧ Below w.heap.size w w' := by
  obtain ⟨i0, hi, hz0, hz1, hz2⟩ := info_parts Try.info32
  by_cases h0 : n < 0
  · have hr := Lib.hid (show shrR (val32 l) n = ([], 2) from if_pos h0)
    go_enter Try.func42, Try.ntmps42
    go_wp2
    go_ret2
    refine ⟨⟨_, by rw [hr.out]; rfl, ?_⟩, Below.refl _ _⟩
    rw [hr.out]; exact OwnQ.nil _ _ _ _
  obtain ⟨k, rfl⟩ := Int.eq_ofNat_of_zero_le (show 0 ≤ n by omega)
  have hb := h.bare
  have hbl := bareN_le l
  have hmx := h.len_le
  unfold maxLen at hmx
  rw [h.length] at hbl
  have HB := Lib.hid (bare32_any a len cap l w h)
  have hci := cut_iff l hL
  have HV := Lib.hid (bareN_val 4294967296 l)
  have hLm : Lim (bareN l) := fun x hx => hL x (bareN_mem hx)
  clear h
  generalize bareN l = m at *
  have HM := Lib.hid hb
  have HLm := Lib.hid hLm
  have hvl := Lib.hid (valB_lt (b := 4294967296) (by decide) hLm)
  rw [HV.out] at hvl
  clear hb hLm
  generalize hMM : m.length = M at *
  have HMM := Lib.hid hMM
  clear hMM
  by_cases hc : M ≤ 256
  · have hR := Lib.hid (show shrR (val32 l) (k : Int) = (nat32 (val32 l / 2 ^ k), 0) by unfold shrR; rw [if_neg (by omega), if_pos (hci.1 hc), Int.toNat_natCast])
    clear hci
    have hkq : (k : Int) / 32 = ((k / 32 : Nat) : Int) := by omega
    have hkr : (k : Int) % 32 = ((k % 32 : Nat) : Int) := by omega
    have hr32 : k % 32 < 32 := by omega
    have HK := Lib.hid (show k = 32 * (k / 32) + k % 32 by omega)
    have hq8 : k / 32 ≤ 9223372036854775807 := by omega
    generalize k / 32 = q at *
    generalize k % 32 = r at *
    obtain ⟨f, hf⟩ : ∃ f, f = min q M := ⟨_, rfl⟩
    have HF := Lib.hid hf
    have hfM : f ≤ M := by omega
    have hend := Lib.hid (shr_end (val32 l) q r M f hvl.out hf)
    rw [← HK.out] at hend
    have hmin : min (q : Int) (M : Int) = (f : Int) := by omega
    have HFQ := Lib.hid (show f < M → f = q by omega)
    clear hf
    go_enter Try.func42, Try.ntmps42
    go_wp2_with fail
    refine HB.out.mono ?_
    rintro e w1 ⟨rfl, rfl⟩
    go_wp2_with fail
    refine (may1_any w.heap.size a M cap _ (World.cell?_alloc_at _ _ _ _ rfl) true (by simp [hc]) (by omega)).mono ?_
    rintro e w1 ⟨rfl, rfl⟩
    go_wp2_with (at_make; refine wpList_make_lc .u32 _ rfl _ _ 37 rfl w.heap.size 39 i0 Try.underlying37 hi hz0 hz1 _ _ _ _ 0 (M - f) rfl rfl rfl (by omega) (Nat.zero_le _) (by rw [hz2]; omega) (by unfold maxLen; omega) (by simp) ?_; intro w1 hown hgrow)
    have hb1 : Below w.heap.size w w1 := ((Below.refl _ _).alloc (Nat.le_refl _) _).grown hgrow (by simp) (fun _ h => by cases h)
    simp only [World.size_alloc] at hown
    have HO := Lib.hid hown
    have HB1 := Lib.hid hb1
    clear hown hgrow hb1 hmin
    go_loopw [7, 8] (fun v i wr => ∃ t j : Nat, i = .int .i64 t ∧ t = f + j ∧ t ≤ M ∧ OwnQ .u32 39 w.heap.size wr v (padN (nat32 (val32 l / 2 ^ k)) j) ∧ Hid (Below w.heap.size w wr)) (fun _ i _ => M - (intOf i).toNat)
    case atStart => exact ⟨f, 0, rfl, rfl, hfM, HO.out, HB1.out⟩
    case round =>
      obtain ⟨t, j, rfl, htj, ht, hown, hbel⟩ := hrel
      obtain ⟨ov, on, oc, rfl, -, hown⟩ := hown.slice
      have HTJ := Lib.hid htj
      clear htj
      by_cases hlt : t < M
      · have hRw := Lib.hid (HM.out.below hbel.out)
        obtain ⟨b, off, rfl, hbk, hc2⟩ := hRw.out.cells (by omega)
        have hck := hc2 t hlt
        have hx := lim_get HLm.out t
        have hy := lim_get HLm.out (t + 1)
        clear hc2
        have hLL := fun n => Calls.mono (limb_any (some ⟨b, off, none⟩) M cap m (wr.drewN n) (hRw.out.drewN n) ((t : Int) + 1) (t + 1) rfl) (fun e w' h => (⟨h.1, h.2.symm⟩ : e = _ ∧ w' = _))
        have hdg := Lib.hid (show ((m[t + 1]?.getD 0) * 4294967296 + m[t]?.getD 0) / 2 ^ r % 4294967296 = (nat32 (val32 l / 2 ^ k))[j]?.getD 0 by
          rw [valB_get (by decide) HLm.out t, valB_get (by decide) HLm.out (t + 1), HV.out, natB_get (by decide), HK.out, ← shr_digit _ q r j hr32]
          have e1 : t = q + j := by have := HTJ.out; have := HFQ.out (by omega); omega
          rw [e1])
        generalize m[t]?.getD 0 = x at *
        generalize m[t + 1]?.getD 0 = y at *
        have hor := or_lo y x hy hx
        generalize hsg : y * 4294967296 + x = s at *
        have hs64 : s < 18446744073709551616 := by omega
        have HS := Lib.hid hsg
        clear hsg
        have hbs := hbel.out.size
        have HO1 := Lib.hid hown
        have hplen := Lib.hid (padN_length (nat32 (val32 l / 2 ^ k)) j)
        clear hown
        have HLL := Lib.hid hLL
        clear hLL
        go_wp2
        go_quiet ((go_at_call 62; exact Calls.quiet_of_same (HLL.out _)))
        go_wp2_with (at_builtin; refine wpList_append_q .u32 _ rfl _ _ 37 rfl w.heap.size 39 4 i0 Try.underlying37 hi hz0 hz1 hz2 (by decide) _ (padN (nat32 (val32 l / 2 ^ k)) j) rfl ((HO1.out.drewN nq).alloc _) _ _ _ [s / 2 ^ r % 4294967296] rfl (Reads.one .u32 _ _ _ _ (by simp)) (by have := hplen.out; have := HTJ.out; omega) (by simp; omega) ?_; intro v' w2 hown2 hgrow)
        go_roundw
        case rel =>
          refine ⟨t + 1, j + 1, by go_num, by have := HTJ.out; omega, by omega, ?_, hgrow _ ((below_drewN hbel.out nq).alloc hbs _)⟩
          rw [padN_succ, ← hdg.out]
          exact hown2
        case measure => simp [intOf] <;> omega
      · obtain rfl : t = M := by omega
        have hj := Lib.hid (show j = t - f by have := HTJ.out; omega)
        have HB2 := Lib.hid (bare32_any _ _ _ _ _ hown.reads)
        have hol := Lib.hid (show on = (padN (nat32 (val32 l / 2 ^ k)) j).length from hown.cap.1)
        have HO1 := Lib.hid hown
        clear hown
        go_wp2_with (go_at_call 47; refine HB2.out.mono ?_; rintro e w3 ⟨rfl, rfl⟩)
        go_ret2
        have hu := HO1.out.upto (bareN (padN (nat32 (val32 l / 2 ^ k)) j)).length (by rw [hol.out]; exact bareN_le _)
        rw [← bareN_prefix] at hu
        refine ⟨⟨_, by rw [hR.out]; rfl, ?_⟩, hbel.out⟩
        rw [hR.out]
        rw [hj.out] at hu ⊢
        rw [hend.out] at hu ⊢
        exact hu
  · have hR := Lib.hid (show shrR (val32 l) (k : Int) = ([], 20) by unfold shrR; rw [if_neg (by omega), if_neg (fun h => hc (hci.2 h))])
    clear hci
    go_enter Try.func42, Try.ntmps42
    go_wp2_with fail
    refine HB.out.mono ?_
    rintro e w1 ⟨rfl, rfl⟩
    go_wp2_with fail
    refine (may1_any w.heap.size a M cap _ (World.cell?_alloc_at _ _ _ _ rfl) false (by simp; omega) (by omega)).mono ?_
    rintro e w1 ⟨rfl, rfl⟩
    go_wp2
    go_ret2
    refine ⟨⟨_, by rw [hR.out]; rfl, ?_⟩, (Below.refl _ _).alloc (Nat.le_refl _) _⟩
    rw [hR.out]; exact OwnQ.nil _ _ _ _

end Go.Proofs.Ytfeajcgcjpngkaa
