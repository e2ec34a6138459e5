/-
  NAT's Mul.
-/
import Derived.Test.YtfeajcgcjpngkaaNatC
namespace Go.Proofs.Ytfeajcgcjpngkaa
open Go.RowKit

def mulR (x y : Nat) : List Nat × Int := if x < topN ∧ y < topN then cutR32 (x * y) else ([], 20)
theorem mulR_yes {x y : Nat} (h : x < topN) (k : y < topN) : mulR x y = cutR32 (x * y) := if_pos ⟨h, k⟩
theorem mulR_no {x y : Nat} (h : ¬ (x < topN ∧ y < topN)) : mulR x y = ([], 20) := if_neg h

/-- Product so far: x's first i limbs times y. -/
def MulOut (x y P : List Nat) (i : Nat) : Prop := P.length = x.length + y.length ∧ Lim P ∧ val32 P = val32 (x.take i) * val32 y ∧ (∀ t, i + y.length ≤ t → P[t]?.getD 0 = 0)
def MulIn (x y P : List Nat) (i j c : Nat) : Prop := P.length = x.length + y.length ∧ Lim P ∧ c < 4294967296 ∧ val32 P + 4294967296 ^ (i + j) * c = val32 (x.take i) * val32 y + 4294967296 ^ i * (x[i]?.getD 0) * val32 (y.take j) ∧ (∀ t, i + y.length ≤ t → P[t]?.getD 0 = 0)

theorem mulOut_start (x y : List Nat) : MulOut x y (List.replicate (x.length + y.length) 0) 0 :=
  ⟨by simp, fun t ht => by rw [List.eq_of_mem_replicate ht]; decide, by rw [List.take_zero, val32, valB_zeros]; simp [val32, valB], fun t _ => by
    by_cases h : t < x.length + y.length
    · simp [h]
    · simp [h]⟩

theorem mulIn_start {x y P : List Nat} {i : Nat} (h : MulOut x y P i) : MulIn x y P i 0 0 := by
  obtain ⟨h1, h2, h3, h4⟩ := h
  exact ⟨h1, h2, by decide, by rw [List.take_zero, h3]; simp [val32, valB], h4⟩

theorem getD_set (P : List Nat) (t d s : Nat) (h : t < P.length) : (P.set t d)[s]?.getD 0 = if t = s then d else P[s]?.getD 0 := by
  rw [List.getElem?_set]
  by_cases e : t = s
  · subst e; simp [h]
  · simp [e]

theorem val_set {P : List Nat} (t d : Nat) (h : t < P.length) : val32 (P.set t d) + 4294967296 ^ t * (P[t]?.getD 0) = val32 P + 4294967296 ^ t * d := valB_set _ P t d h

theorem mul_bound (a b p c : Nat) (ha : a < 4294967296) (hb : b < 4294967296) (hp : p < 4294967296) (hc : c < 4294967296) : c + (a * b + p) < 18446744073709551616 := by
  have h : a * b ≤ 4294967295 * 4294967295 := Nat.mul_le_mul (by omega) (by omega)
  omega

theorem mulIn_step {x y P : List Nat} {i j c : Nat} (h : MulIn x y P i j c) (hx : Lim x) (hy : Lim y) (hi : i < x.length) (hj : j < y.length) :
    MulIn x y (P.set (i + j) ((c + ((x[i]?.getD 0) * (y[j]?.getD 0) + P[i + j]?.getD 0)) % 4294967296)) i (j + 1) ((c + ((x[i]?.getD 0) * (y[j]?.getD 0) + P[i + j]?.getD 0)) / 4294967296) := by
  obtain ⟨h1, h2, h3, h4, h5⟩ := h
  have hb := mul_bound _ _ _ c (lim_get hx i) (lim_get hy j) (lim_get h2 (i + j)) h3
  have hv := val_set (i + j) ((c + ((x[i]?.getD 0) * (y[j]?.getD 0) + P[i + j]?.getD 0)) % 4294967296) (show i + j < P.length by omega)
  have hs := valB_succ (b := 4294967296) y j
  refine ⟨by simp [h1], mem_set h2 (Nat.mod_lt _ (by decide)), by omega, ?_, fun t ht => by rw [getD_set _ _ _ _ (by omega), if_neg (by omega)]; exact h5 t ht⟩
  generalize hS : c + ((x[i]?.getD 0) * (y[j]?.getD 0) + P[i + j]?.getD 0) = S at *
  have e1 : 4294967296 ^ (i + (j + 1)) * (S / 4294967296) = 4294967296 ^ (i + j) * (4294967296 * (S / 4294967296)) := by rw [← Nat.add_assoc, Nat.pow_succ, Nat.mul_assoc]
  have e2 : 4294967296 ^ (i + j) * (S % 4294967296) + 4294967296 ^ (i + j) * (4294967296 * (S / 4294967296)) = 4294967296 ^ (i + j) * S := by rw [← Nat.mul_add, Nat.mod_add_div]
  have e3 : 4294967296 ^ (i + j) * S = 4294967296 ^ (i + j) * c + (4294967296 ^ (i + j) * ((x[i]?.getD 0) * (y[j]?.getD 0)) + 4294967296 ^ (i + j) * (P[i + j]?.getD 0)) := by rw [← hS, Nat.mul_add, Nat.mul_add]
  have e4 : 4294967296 ^ i * (x[i]?.getD 0) * (4294967296 ^ j * (y[j]?.getD 0)) = 4294967296 ^ (i + j) * ((x[i]?.getD 0) * (y[j]?.getD 0)) := by
    rw [Nat.pow_add]
    simp only [Nat.mul_assoc, Nat.mul_left_comm]
  simp only [val32] at *
  rw [hs, Nat.mul_add, e4, e1]
  omega

theorem mulIn_end {x y P : List Nat} {i c : Nat} (h : MulIn x y P i y.length c) (hi : i < x.length) : MulOut x y (P.set (i + y.length) c) (i + 1) := by
  obtain ⟨h1, h2, h3, h4, h5⟩ := h
  have hv := val_set (i + y.length) c (show i + y.length < P.length by omega)
  rw [h5 _ (Nat.le_refl _)] at hv
  have hs := valB_succ (b := 4294967296) x i
  refine ⟨by simp [h1], mem_set h2 h3, ?_, fun t ht => by rw [getD_set _ _ _ _ (by omega), if_neg (by omega)]; exact h5 t (by omega)⟩
  rw [List.take_length] at h4
  simp only [val32] at *
  rw [hs, Nat.add_mul]
  omega

set_option maxHeartbeats 2000000 in
theorem mul_any (a a' : Option Addr) (nx cx ny cy : Nat) (lx ly : List Nat) (w : World) (hx : Reads .u32 w a nx cx lx) (hy : Reads .u32 w a' ny cy ly) (hLx : Lim lx) (hLy : Lim ly) :
    Calls Try.prog 50 #[.slice a nx cx, .slice a' ny cy] w fun e w' => RetsQ2 .u32 39 w.heap.size w' (mulR (val32 lx) (val32 ly)) e ∧ Below w.heap.size w w' := by
  obtain ⟨i0, hi, hz0, hz1, hz2⟩ := info_parts Try.info32
  have HX := Lib.hid hx.bare
  have HY := Lib.hid hy.bare
  have CX := Lib.hid (bare32_any a nx cx lx w hx)
  have CY := Lib.hid (bare32_any a' ny cy ly w hy)
  have hcx := cut_iff lx hLx
  have hcy := cut_iff ly hLy
  have VX := Lib.hid (bareN_val 4294967296 lx)
  have VY := Lib.hid (bareN_val 4294967296 ly)
  have hBx : Lim (bareN lx) := fun x h => hLx x (bareN_mem h)
  have hBy : Lim (bareN ly) := fun x h => hLy x (bareN_mem h)
  have hlx := bareN_le lx
  have hly := bareN_le ly
  have hmx := hx.len_le
  have hmy := hy.len_le
  rw [hx.length] at hlx
  rw [hy.length] at hly
  unfold maxLen at hmx hmy
  clear hx hy
  generalize bareN lx = p at *
  generalize bareN ly = q at *
  generalize hnp : p.length = np at *
  generalize hnq : q.length = nq at *
  have NP := Lib.hid hnp
  have NQ := Lib.hid hnq
  have BX := Lib.hid hBx
  have BY := Lib.hid hBy
  clear hnp hnq hBx hBy
  by_cases hc : np ≤ 256 ∧ nq ≤ 256
  · have hdec := Lib.hid (show true = decide (np ≤ 256 ∧ nq ≤ 256) by simp [hc])
    obtain ⟨hcp, hcq⟩ := hc
    have hR := Lib.hid (show mulR (val32 lx) (val32 ly) = cutR32 (val32 lx * val32 ly) from mulR_yes (hcx.1 hcp) (hcy.1 hcq))
    clear hcx hcy
    go_enter Try.func50, Try.ntmps50
    go_wp2_with (go_at_call 47; first | ((with_reducible refine CX.out.mono ?_); rintro e w1 ⟨rfl, rfl⟩) | ((with_reducible refine CY.out.mono ?_); rintro e w1 ⟨rfl, rfl⟩))
    refine (may2_any w.heap.size a a' np cx nq cy _ (World.cell?_alloc_at _ _ _ _ rfl) (World.cell?_alloc_at _ _ _ _ rfl) true hdec.out (by omega) (by omega)).mono ?_
    rintro e w1 ⟨rfl, rfl⟩
    go_wp2_with (at_make; refine wpList_make_lc .u32 _ rfl _ _ 37 rfl w.heap.size 39 i0 Try.underlying37 hi hz0 hz1 _ _ _ _ (np + nq) (np + nq) rfl rfl (by omega) (by omega) (Nat.le_refl _) (by rw [hz2]; omega) (by unfold maxLen; omega) (by simp) ?_; intro w1 hown hgrow)
    have hb1 : Below w.heap.size w w1 := ((Below.refl _ _).alloc (Nat.le_refl _) _).grown hgrow (by simp) (fun _ h => by cases h)
    simp only [World.size_alloc] at hown
    have HO := Lib.hid hown
    have HB1 := Lib.hid hb1
    clear hown hgrow hb1
    go_loopw [29] (fun i wr => ∃ (k : Nat) (P : List Nat), i = .int .i64 k ∧ k ≤ np ∧ Hid (MulOut p q P k) ∧ OwnQ .u32 39 w.heap.size wr (.slice (some ⟨w.heap.size + 1, 0, none⟩) (np + nq) (np + nq)) P ∧ Hid (Below w.heap.size w wr)) (fun i _ => np - (intOf i).toNat)
    case atStart => exact ⟨0, _, rfl, Nat.zero_le _, (by have := mulOut_start p q; rwa [NP.out, NQ.out] at this), HO.out, HB1.out⟩
    case round =>
      obtain ⟨k, P, rfl, hk, hinv, hown, hbel⟩ := hrel
      obtain ⟨wo, rfl⟩ : ∃ wo : World, wo = wr := ⟨_, rfl⟩
      by_cases hlt : k < np
      · obtain ⟨b, off, rfl, hbk, hc2⟩ := (HX.out.below hbel.out).cells (by omega)
        have hck := hc2 k hlt
        have hx := lim_get BX.out k
        have hin0 := Lib.hid (mulIn_start hinv.out)
        have HO1 := Lib.hid hown
        clear hc2 hown
        generalize hxx : p[k]?.getD 0 = x at *
        have HXX := Lib.hid hxx
        clear hxx
        go_wp2
        go_loopw [9, 36] (fun c j wr => ∃ (t cc : Nat) (P : List Nat), j = .int .i64 t ∧ c = .int .u64 (cc : Int) ∧ t ≤ nq ∧ Hid (MulIn p q P k t cc) ∧ OwnQ .u32 39 w.heap.size wr (.slice (some ⟨w.heap.size + 1, 0, none⟩) (np + nq) (np + nq)) P ∧ Hid (Below w.heap.size w wr)) (fun _ j _ => nq - (intOf j).toNat)
        case atStart => exact ⟨0, 0, P, rfl, rfl, Nat.zero_le _, hin0.out, HO1.out, hbel.out⟩
        case round =>
          obtain ⟨t, c, P2, rfl, rfl, ht, hin, hown, hbel2⟩ := hrel
          by_cases hlt2 : t < nq
          · obtain ⟨b2, off2, rfl, hbk2, hc2⟩ := (HY.out.below hbel2.out).cells (by omega)
            have hck2 := hc2 t hlt2
            have hy := lim_get BY.out t
            have hst := Lib.hid (mulIn_step hin.out BX.out BY.out (by rw [NP.out]; exact hlt) (by rw [NQ.out]; exact hlt2))
            obtain ⟨i1, i2, i3, -, -⟩ := hin.out
            rw [NP.out, NQ.out] at i1
            have I1 := Lib.hid i1
            have hcell := hown.cellAt I1.out.symm (k + t) (by omega)
            have hfr := hown.frozenAt I1.out.symm (k + t)
            have hp := lim_get i2 (k + t)
            rw [HXX.out] at hst
            have HO2 := Lib.hid hown
            clear hc2 hown i1 i2
            generalize q[t]?.getD 0 = y at *
            generalize P2[k + t]?.getD 0 = z at *
            have hbd := mul_bound x y z c hx hy hp i3
            have hxy : x * y ≤ 4294967295 * 4294967295 := Nat.mul_le_mul (by omega) (by omega)
            generalize hs : c + (x * y + z) = s at *
            have HS := Lib.hid hs
            have hmul : Hid ((x : Int) * (y : Int) = ((x * y : Nat) : Int)) := by unfold Hid; simp
            clear hs
            go_wp2
            go_roundw
            case rel =>
              have hS : ((c : Int) + ((x : Int) * (y : Int) + (z : Int))) = (s : Int) := by rw [← HS.out]; simp
              rw [hS]
              have s1 := HO2.out.stored I1.out.symm (k + t) (s % 4294967296) ((s : Int) % 4294967296) (by omega)
              exact ⟨t + 1, s / 4294967296, P2.set (k + t) (s % 4294967296), by go_num, by go_num, by omega, hst.out, s1.1, s1.2 _ hbel2.out⟩
            case measure => simp [intOf] <;> omega
          · obtain rfl : t = nq := by omega
            obtain ⟨i1, i2, i3, -, -⟩ := hin.out
            rw [NP.out, NQ.out] at i1
            have I1 := Lib.hid i1
            have hend := Lib.hid (show MulOut p q (P2.set (k + t) c) (k + 1) by
              have h1 := hin.out
              rw [← NQ.out] at h1
              have h2 := mulIn_end h1 (by rw [NP.out]; exact hlt)
              rwa [NQ.out] at h2)
            have hcell := hown.cellAt I1.out.symm (k + t) (by omega)
            have hfr := hown.frozenAt I1.out.symm (k + t)
            have hp := lim_get i2 (k + t)
            have HO2 := Lib.hid hown
            clear hown i1 i2
            generalize P2[k + t]?.getD 0 = z at *
            go_wp2
            go_roundw
            case rel =>
              have s1 := HO2.out.stored I1.out.symm (k + t) c (c : Int) rfl
              exact ⟨k + 1, P2.set (k + t) c, by go_num, by omega, hend.out, s1.1, s1.2 _ hbel2.out⟩
            case measure => simp [intOf] <;> omega
      · obtain rfl : k = np := by omega
        obtain ⟨i1, i2, i3, -⟩ := hinv.out
        rw [List.take_of_length_le (by rw [NP.out]; exact Nat.le_refl _)] at i3
        have hv := Lib.hid (show val32 P = val32 lx * val32 ly by
          have e1 := VX.out
          have e2 := VY.out
          simp only [val32] at *
          rw [i3, e1, e2])
        have hbs := hbel.out.size
        have HT := Lib.hid (trim_any _ _ _ _ _ hown.reads i2)
        rw [hv.out] at HT
        clear hown i1 i2 i3
        go_wp2_with (go_at_call 31; refine HT.out.mono ?_; rintro e w2 ⟨⟨v2, rfl, ho2⟩, hb2⟩)
        go_ret2
        exact ⟨⟨_, by rw [hR.out]; rfl, by rw [hR.out]; exact ho2.mono hbs⟩, hbel.out.trans (hb2.mono hbs)⟩
  · have hdec := Lib.hid (show false = decide (np ≤ 256 ∧ nq ≤ 256) by simp; omega)
    have hr := Lib.hid (show mulR (val32 lx) (val32 ly) = ([], 20) from mulR_no (fun h => hc ⟨hcx.2 h.1, hcy.2 h.2⟩))
    clear hcx hcy
    go_enter Try.func50, Try.ntmps50
    go_wp2_with (go_at_call 47; first | ((with_reducible refine CX.out.mono ?_); rintro e w1 ⟨rfl, rfl⟩) | ((with_reducible refine CY.out.mono ?_); rintro e w1 ⟨rfl, rfl⟩))
    refine (may2_any w.heap.size a a' np cx nq cy _ (World.cell?_alloc_at _ _ _ _ rfl) (World.cell?_alloc_at _ _ _ _ rfl) false hdec.out (by omega) (by omega)).mono ?_
    rintro e w1 ⟨rfl, rfl⟩
    go_wp2
    go_ret2
    refine ⟨⟨_, by rw [hr.out]; rfl, ?_⟩, (Below.refl _ _).alloc (Nat.le_refl _) _⟩
    rw [hr.out]; exact OwnQ.nil _ _ _ _

end Go.Proofs.Ytfeajcgcjpngkaa
