/-
  NAT's Bit, Shl, Shr.
-/
import Derived.Test.YtfeajcgcjpngkaaNatB
import Derived.Test.YtfeajcgcjpngkaaNat5
namespace Go.Proofs.Ytfeajcgcjpngkaa
open Go.RowKit

theorem bit_eq (v d q r k : Nat) (hd : d = v / 4294967296 ^ q % 4294967296) (hr : r < 32) (hk : k = 32 * q + r) : (bits BinOp.and IntKind.u32 ((d : Int) / 2 ^ r) 1 == 1) = v.testBit k := by
  have hlt : d < 4294967296 := by rw [hd]; exact Nat.mod_lt _ (by decide)
  have e1 : ((d : Int) / 2 ^ r) = ((d / 2 ^ r : Nat) : Int) := by rw [Int.natCast_ediv]; simp
  have e2 : d / 2 ^ r < 4294967296 := Nat.lt_of_le_of_lt (Nat.div_le_self _ _) hlt
  rw [e1, show (1 : Int) = ((1 : Nat) : Int) from rfl, u32_and_nat _ 1 e2 (by decide), Nat.and_one_is_mod]
  have e3 : v.testBit k = d.testBit r := by
    rw [hd, show (4294967296 : Nat) ^ q = 2 ^ (32 * q) by rw [Nat.pow_mul], show (4294967296 : Nat) = 2 ^ 32 from rfl, Nat.testBit_mod_two_pow, Nat.testBit_div_two_pow, hk]
    simp [hr, Nat.add_comm]
  rw [e3, Nat.testBit_eq_decide_div_mod_eq]
  rw [Bool.eq_iff_iff]
  simp
  omega

/-- 'make' with room beyond its length. -/
theorem wpList_make_lc {P : Program} (q : IntKind) (w : World) {ops : Array Oper} {rest : List Oper} {o : Oper} {a : Act} {Q : Exit → Act → World → Prop}
    (hg : o.guard = none) (l c : Operand) (t : TypeId) (hop : o.op = Op.makeSlice t l c)
    (base : Nat) (e : TypeId) (i : TypeInfo) (h1 : P.underlying t = some (.slice e)) (h2 : P.info? e = some i) (h3 : i.zero = some (.int q 0)) (h4 : i.size = 1)
    (kl kc : IntKind) (L C : Int) (m n : Nat) (hl : a.eval l = .int kl L) (hc : a.eval c = .int kc C) (hL : L = (m : Int)) (hC : C = (n : Int)) (hmn : m ≤ n) (b2 : i.bytes * n ≤ 281474976710656) (b3 : n ≤ maxLen) (b4 : base ≤ w.heap.size)
    (hK : ∀ w', OwnQ q e base w' (.slice (some ⟨w.heap.size, 0, none⟩) m n) (List.replicate m 0) → w.grownBy w' none → wpList P ops Q rest (a.put o.dst (.slice (some ⟨w.heap.size, 0, none⟩) m n)) w') :
    wpList P ops Q (o :: rest) a w := by
  refine wpList_plain hg fun K hK' => ?_
  subst hL
  subst hC
  have h63' : (n : Int) ≤ 9223372036854775807 := by
    have h := b3
    simp [maxLen] at h
    omega
  have hb' : (i.bytes : Int) * (n : Int) ≤ 281474976710656 := by
    have h : ((i.bytes * n : Nat) : Int) ≤ 281474976710656 := by omega
    rwa [Int.natCast_mul] at h
  have hr := run_make (P := P) w t e i (.int q 0) h1 h2 h3 kl kc m n (by omega) (by omega) hb' h63'
  simp only [Int.toNat_natCast] at hr
  have hown : OwnQ q e base (w.alloc (.cells (madeCells (Value.int q 0).cells (n * i.size)) e)) (.slice (some ⟨w.heap.size, 0, none⟩) n n) (List.replicate n 0) := by
    rw [h4]
    exact OwnQ.made (World.ownsRow_lit w _ n b4 b3 (size_madeCells _ _)) rfl
  have hup := hown.upto m hmn
  rw [List.take_replicate, Nat.min_eq_left hmn] at hup
  unfold Oper.wp
  simp [execOp, hop, hl, hc, hr, Result.andThen]
  exact hK' _ _ (hK _ hup (World.grownBy_alloc w _ none))

def shlR (v : Nat) (n : Int) : List Nat × Int := if n < 0 then ([], 2) else cutR32 (v * 2 ^ n.toNat)
def shrR (v : Nat) (n : Int) : List Nat × Int := if n < 0 then ([], 2) else if v < topN then (nat32 (v / 2 ^ n.toNat), 0) else ([], 20)

theorem topN_pos : 0 < topN := by unfold topN; exact Nat.pow_pos (by decide)
theorem topN_two : topN = 2 ^ 8192 := by
  have h : ∀ a b c d e : Nat, a = b ^ c → e = c * d → a ^ d = b ^ e := by
    rintro a b c d e rfl rfl
    exact (Nat.pow_mul b c d).symm
  exact h 4294967296 2 32 256 8192 (by decide) (by decide)

theorem shl_small {v n : Nat} (hv : 0 < v) : v * 2 ^ n < topN ↔ n + bitsN v ≤ 8192 := by
  rw [topN_two]
  have h := bitsN_top 0 v n hv (Nat.pow_pos (by decide))
  rw [Nat.zero_add, Nat.mul_comm] at h
  rw [← h, bitsN_le]

theorem shl_step (v low x r : Nat) (B : Nat) : v + B * ((low + x * 2 ^ r) % 4294967296) + B * 4294967296 * ((low + x * 2 ^ r) / 4294967296) = v + B * low + B * x * 2 ^ r := by
  have h := Nat.mod_add_div (low + x * 2 ^ r) 4294967296
  have h2 : B * ((low + x * 2 ^ r) % 4294967296 + 4294967296 * ((low + x * 2 ^ r) / 4294967296)) = B * (low + x * 2 ^ r) := by rw [h]
  rw [Nat.mul_add, Nat.mul_add] at h2
  rw [Nat.mul_assoc B x, Nat.mul_assoc B 4294967296]
  omega

theorem or64 (low x r : Nat) (hr : r < 32) (hl : low < 2 ^ r) (hx : x < 4294967296) : bits BinOp.or IntKind.u64 (low : Int) (IntKind.u64.wrap ((x : Int) * 2 ^ r)) = ((low + x * 2 ^ r : Nat) : Int) := by
  have h1 : 2 ^ r ≤ 2 ^ 31 := Nat.pow_le_pow_right (by decide) (by omega)
  have h2 : x * 2 ^ r ≤ 4294967295 * 2 ^ 31 := Nat.mul_le_mul (by omega) h1
  have e : ((x : Int) * 2 ^ r) = ((x * 2 ^ r : Nat) : Int) := by simp
  have e2 : IntKind.u64.wrap ((x * 2 ^ r : Nat) : Int) = ((x * 2 ^ r : Nat) : Int) := by
    generalize x * 2 ^ r = y at *
    simp only [IntKind.wrap, IntKind.bits, IntKind.signed]
    simp
    omega
  rw [e, e2, u64_or_nat _ _ (by omega) (by omega), shl_or low x r _ rfl hl, Nat.mul_comm]

set_option maxRecDepth 100000 in
set_option maxHeartbeats 1000000 in
theorem shl_any (a : Option Addr) (len cap : Nat) (l : List Nat) (w : World) (h : Reads .u32 w a len cap l) (hL : Lim l) (n : Int) (hn : n ≤ 9223372036854775807) :
    Calls Try.prog 33 #[.slice a len cap, .int .i64 n] w fun e w' => RetsQ2 .u32 39 w.heap.size w' (shlR (val32 l) n) e ∧ Below w.heap.size w w' := by
  obtain ⟨i0, hi, hz0, hz1, hz2⟩ := info_parts Try.info32
  by_cases h0 : n < 0
  · have hr := Lib.hid (show shlR (val32 l) n = ([], 2) from if_pos h0)
    go_enter Try.func33, Try.ntmps33
    go_wp2
    go_ret2
    refine ⟨⟨_, by rw [hr.out]; rfl, ?_⟩, Below.refl _ _⟩
    rw [hr.out]; exact OwnQ.nil _ _ _ _
  obtain ⟨k, rfl⟩ := Int.eq_ofNat_of_zero_le (show 0 ≤ n by omega)
  have hR := Lib.hid (show shlR (val32 l) (k : Int) = cutR32 (val32 l * 2 ^ k) by unfold shlR; rw [if_neg (by omega), Int.toNat_natCast])
  clear h0
  have hb := h.bare
  have hbl := bareN_le l
  have hmx := h.len_le
  unfold maxLen at hmx
  rw [h.length] at hbl
  have HB := Lib.hid (bare32_any a len cap l w h)
  have hci := cut_iff l hL
  have hbn := bareN_nat hL
  have HV := Lib.hid (bareN_val 4294967296 l)
  have hLm : Lim (bareN l) := fun x hx => hL x (bareN_mem hx)
  clear h
  generalize bareN l = m at *
  have HM := Lib.hid hb
  have HLm := Lib.hid hLm
  clear hb hLm
  have HBN := Lib.hid hbn
  clear hbn
  generalize hMM : m.length = M at *
  have HMM := Lib.hid hMM
  clear hMM
  by_cases hc : M ≤ 256
  · have hvt := hci.1 hc
    have HVT := Lib.hid hvt
    clear hci hvt
    go_enter Try.func33, Try.ntmps33
    go_wp2_with fail
    refine HB.out.mono ?_
    rintro e w1 ⟨rfl, rfl⟩
    go_wp2_with fail
    refine (may1_any w.heap.size a M cap _ (World.cell?_alloc_at _ _ _ _ rfl) true (by simp [hc]) (by omega)).mono ?_
    rintro e w1 ⟨rfl, rfl⟩
    rcases Nat.eq_zero_or_pos M with rfl | hp
    · have hz := Lib.hid (show cutR32 (val32 l * 2 ^ k) = ([], 0) by
        have e : val32 l = 0 := by
          have h1 := HBN.out
          rw [List.eq_nil_of_length_eq_zero HMM.out] at h1
          exact (natB_nil (by decide)).1 h1.symm
        rw [e, Nat.zero_mul, cutR_small topN_pos]
        rw [show nat32 0 = [] from natB_zero _])
      go_wp2
      go_ret2
      refine ⟨⟨_, by rw [hR.out, hz.out]; rfl, ?_⟩, (Below.refl _ _).alloc (Nat.le_refl _) _⟩
      rw [hR.out, hz.out]; exact OwnQ.nil _ _ _ _
    · have hvp : 0 < val32 l := by
        apply Nat.pos_of_ne_zero
        intro e
        have h1 := HBN.out
        rw [e, show nat32 0 = [] from natB_zero _] at h1
        have := HMM.out
        rw [h1] at this
        simp at this
        omega
      have hsm := shl_small (n := k) hvp
      have hmz : ((M : Int) == 0) = false := by simp; omega
      have HB8 := Lib.hid (bits_any a M cap m _ (HM.out.below ((Below.refl w.heap.size w).alloc (Nat.le_refl _) (.cells #[.slice a M cap] 37))) HLm.out (by omega))
      rw [show val32 m = val32 l from HV.out] at HB8
      have hbits := (bitsN_le (val32 l) 8192).2 (by rw [← topN_two]; exact HVT.out)
      generalize bitsN (val32 l) = bn at *
      clear hvp
      by_cases hk : k + bn ≤ 8192
      · have HV2 := Lib.hid (hsm.2 hk)
        clear hsm
        have hdec : decide ((8192 : Int) - (bn : Int) < (k : Int)) = false := by simp; omega
        have hkq : (k : Int) / 32 = ((k / 32 : Nat) : Int) := by omega
        have hkr : (k : Int) % 32 = ((k % 32 : Nat) : Int) := by omega
        have hr32 : k % 32 < 32 := by omega
        have HK := Lib.hid (show k = 32 * (k / 32) + k % 32 by omega)
        have hq8 : k / 32 ≤ 256 := by omega
        generalize k / 32 = q at *
        generalize k % 32 = r at *
        go_wp2_with (first | (go_at_call 32; refine HB8.out.mono ?_; rintro e w' ⟨rfl, rfl⟩) | (at_make; refine wpList_make_lc .u32 _ rfl _ _ 37 rfl w.heap.size 39 i0 Try.underlying37 hi hz0 hz1 _ _ _ _ q (q + M + 1) rfl rfl (by omega) (by omega) (by omega) (by rw [hz2]; omega) (by unfold maxLen; omega) (by simp) ?_; intro w1 hown hgrow))
        have hb1 : Below w.heap.size w w1 := ((Below.refl _ _).alloc (Nat.le_refl _) _).grown hgrow (by simp) (fun _ h => by cases h)
        simp only [World.size_alloc] at hown
        have HO := Lib.hid hown
        have HB1 := Lib.hid hb1
        clear hown hgrow hb1
        have h2r := Lib.hid (Nat.pow_le_pow_right (show 0 < 2 by decide) (show r ≤ 31 by omega))
        go_loopw [6, 7, 40] (fun v lo i wr => ∃ (j : Nat) (O : List Nat) (low : Nat), i = .int .i64 j ∧ lo = .int .u64 (low : Int) ∧ j ≤ M ∧ OwnQ .u32 39 w.heap.size wr v O ∧ Hid (O.length = q + j ∧ Lim O ∧ low < 2 ^ r ∧ val32 O + 4294967296 ^ (q + j) * low = val32 (m.take j) * 2 ^ k) ∧ Hid (Below w.heap.size w wr)) (fun _ _ i _ => M - (intOf i).toNat)
        case atStart => exact ⟨0, _, 0, rfl, rfl, Nat.zero_le _, HO.out, ⟨by simp, fun x hx => by rw [List.eq_of_mem_replicate hx]; decide, Nat.pow_pos (by decide), by rw [List.take_zero]; simp [val32, valB_zeros, valB]⟩, HB1.out⟩
        case round =>
          obtain ⟨j, O, low, rfl, rfl, hj, hown, hinv, hbel⟩ := hrel
          obtain ⟨ov, on, oc, rfl, -, hown⟩ := hown.slice
          by_cases hlt : j < M
          · obtain ⟨b, off, rfl, hbk, hc2⟩ := (HM.out.below hbel.out).cells (by omega)
            have hck := hc2 j hlt
            have hx := lim_get HLm.out j
            have hst := Lib.hid (valB_succ (b := 4294967296) m j)
            clear hc2
            obtain ⟨i1, i2, i3, i4⟩ := hinv.out
            have I1 := Lib.hid i1
            have I2 := Lib.hid i2
            have I4 := Lib.hid i4
            clear i1 i2 i4
            generalize m[j]?.getD 0 = x at *
            have hor := or64 low x r hr32 i3 hx
            have hlow : low < 2147483648 := by have := h2r.out; omega
            have I3 := Lib.hid i3
            clear i3
            have hx2 : x * 2 ^ r ≤ 4294967295 * 2147483648 := Nat.mul_le_mul (by omega) h2r.out
            have hss := Lib.hid (shl_step (val32 O) low x r (4294967296 ^ (q + j)))
            have hlo2 : (low + x * 2 ^ r) / 4294967296 < 2 ^ r := by
              have e1 : x * 2 ^ r + 2 ^ r ≤ 4294967296 * 2 ^ r := by rw [← Nat.succ_mul]; exact Nat.mul_le_mul_right _ (by omega)
              have e2 := I3.out
              rw [Nat.div_lt_iff_lt_mul (by decide)]
              omega
            have HL2 := Lib.hid hlo2
            clear hlo2
            generalize hsg : low + x * 2 ^ r = s at *
            have HS := Lib.hid hsg
            have hs63 : s < 9223372036854775808 := by omega
            clear hsg hx2 hlow
            have hbs := hbel.out.size
            have HO1 := Lib.hid hown
            have hlen : O.length ≤ 1000 := by have := I1.out; omega
            clear hown
            go_wp2_with (at_builtin; refine wpList_append_q .u32 _ rfl _ _ 37 rfl w.heap.size 39 4 i0 Try.underlying37 hi hz0 hz1 hz2 (by decide) _ O rfl (HO1.out.alloc _) _ _ _ [s % 4294967296] rfl (Reads.one .u32 _ _ _ _ (by omega)) (by omega) (by simp; omega) ?_; intro v' w2 hown2 hgrow)
            go_roundw
            case rel =>
              refine ⟨j + 1, O ++ [s % 4294967296], s / 4294967296, by go_num, by go_num, by omega, hown2, ⟨by simp [I1.out]; omega, ?_, HL2.out, ?_⟩, hgrow _ (hbel.out.alloc hbs _)⟩
              · intro y hy
                rcases List.mem_append.1 hy with h | h
                · exact I2.out y h
                · obtain rfl := List.mem_singleton.1 h; exact Nat.mod_lt _ (by decide)
              · have e1 := I4.out
                have e2 := hss.out
                have e3 := hst.out
                have e4 : 2 ^ k = 4294967296 ^ q * 2 ^ r := by rw [HK.out, Nat.pow_add, Nat.pow_mul]
                have e5 : 4294967296 ^ j * x * 2 ^ k = 4294967296 ^ (q + j) * x * 2 ^ r := by
                  rw [e4, Nat.pow_add]
                  simp only [Nat.mul_assoc, Nat.mul_comm, Nat.mul_left_comm]
                simp only [val32, valB_snoc, I1.out] at e1 e2 ⊢
                rw [e3, Nat.add_mul, e5, ← e1]
                have e6 : 4294967296 ^ (q + (j + 1)) = 4294967296 ^ (q + j) * 4294967296 := by rw [← Nat.pow_succ]; rfl
                rw [e6, e2]
            case measure => simp [intOf] <;> omega
          · obtain rfl : j = M := by omega
            obtain ⟨i1, i2, i3, i4⟩ := hinv.out
            rw [List.take_of_length_le (by rw [HMM.out]; exact Nat.le_refl _)] at i4
            have hlow : low < 4294967296 := by have := h2r.out; omega
            have hfin := Lib.hid (show bareN (O ++ [low]) = nat32 (val32 l * 2 ^ k) by
              rw [bareN_nat (fun y hy => by
                rcases List.mem_append.1 hy with h | h
                · exact i2 y h
                · obtain rfl := List.mem_singleton.1 h; exact hlow)]
              have e := HV.out
              simp only [val32, valB_snoc, i1] at i4 ⊢
              rw [i4, e])
            have I1 := Lib.hid i1
            clear i1 i2 i3 i4
            have hbs := hbel.out.size
            have HO1 := Lib.hid hown
            have hlen : O.length ≤ 1000 := by have := I1.out; omega
            clear hown
            go_wp2_with (first | (at_builtin; refine wpList_append_q .u32 _ rfl _ _ 37 rfl w.heap.size 39 4 i0 Try.underlying37 hi hz0 hz1 hz2 (by decide) _ O rfl (HO1.out.alloc _) _ _ _ [low] rfl (Reads.one .u32 _ _ _ _ rfl) (by omega) (by simp; omega) ?_; intro v' w2 hown2 hgrow; obtain ⟨av, an, ac, rfl, hl2, hown2⟩ := hown2.slice; have HO2 := Lib.hid hown2; have HL2 := Lib.hid hl2; clear hown2 hl2) | (go_at_call 47; refine (bare32_any _ _ _ _ _ HO2.out.reads).mono ?_; rintro e w3 ⟨rfl, rfl⟩))
            go_ret2
            have hu := HO2.out.upto (bareN (O ++ [low])).length (by rw [HL2.out]; exact bareN_le _)
            rw [← bareN_prefix] at hu
            refine ⟨⟨_, by rw [hR.out, cutR_small HV2.out]; rfl, ?_⟩, hgrow _ (hbel.out.alloc hbs _)⟩
            rw [hR.out, cutR_small HV2.out]
            rw [hfin.out] at hu ⊢
            exact hu
      · have hr := Lib.hid (show cutR32 (val32 l * 2 ^ k) = ([], 20) from cutR_large (fun h => hk (hsm.1 h)))
        have hdec : decide ((8192 : Int) - (bn : Int) < (k : Int)) = true := by simp; omega
        clear hsm
        go_wp2_with (go_at_call 32; refine HB8.out.mono ?_; rintro e w' ⟨rfl, rfl⟩)
        go_ret2
        refine ⟨⟨_, by rw [hR.out, hr.out]; rfl, ?_⟩, (Below.refl _ _).alloc (Nat.le_refl _) _⟩
        rw [hR.out, hr.out]; exact OwnQ.nil _ _ _ _
  · have hr := Lib.hid (show cutR32 (val32 l * 2 ^ k) = ([], 20) from cutR_large (fun h => hc (hci.2 (Nat.lt_of_le_of_lt (Nat.le_mul_of_pos_right _ (Nat.pow_pos (by decide))) h))))
    clear hci
    go_enter Try.func33, Try.ntmps33
    go_wp2_with fail
    refine HB.out.mono ?_
    rintro e w1 ⟨rfl, rfl⟩
    go_wp2_with fail
    refine (may1_any w.heap.size a M cap _ (World.cell?_alloc_at _ _ _ _ rfl) false (by simp; omega) (by omega)).mono ?_
    rintro e w1 ⟨rfl, rfl⟩
    go_wp2
    go_ret2
    refine ⟨⟨_, by rw [hR.out, hr.out]; rfl, ?_⟩, (Below.refl _ _).alloc (Nat.le_refl _) _⟩
    rw [hR.out, hr.out]; exact OwnQ.nil _ _ _ _

end Go.Proofs.Ytfeajcgcjpngkaa
