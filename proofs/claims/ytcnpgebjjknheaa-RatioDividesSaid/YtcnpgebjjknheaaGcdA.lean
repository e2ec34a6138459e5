/-
  RATIO's Gcd, modulus AND MulMod.
-/
import Derived.Test.YtcnpgebjjknheaaDivG
namespace Go.Proofs.Ytcnpgebjjknheaa
open Go.RowKit

theorem natC_uniq {w : World} {v : Value} {n m : Nat} (h : NatC w v n) (k : NatC w v m) : n = m := by
  obtain ⟨a, len, cap, rfl, hr⟩ := h
  obtain ⟨a', len', cap', he, hr'⟩ := k
  cases he
  have hl : nat32 n = nat32 m := by
    apply List.ext_getElem
    · rw [hr.length, hr'.length]
    · intro i h1 h2
      have hi : i < len := by rw [← hr.length]; exact h1
      obtain ⟨b, off, ha, _, hc⟩ := hr.cells (by omega)
      obtain ⟨b', off', ha', _, hc'⟩ := hr'.cells (by omega)
      rw [ha] at ha'
      cases ha'
      have e := (hc i hi).symm.trans (hc' i hi)
      rw [List.getElem?_eq_getElem h1, List.getElem?_eq_getElem h2] at e
      simp at e
      omega
  rw [← val_nat n, ← val_nat m, hl]
theorem eps_nat {w : World} {v : Value} {n : Nat} (h : NatC w v n) : @Classical.epsilon Nat ⟨0⟩ (fun m => NatC w v m) = n := natC_uniq (@Classical.epsilon_spec_aux Nat ⟨0⟩ _ ⟨n, h⟩) h

theorem own_len {E B : Nat} {w : World} {a : Option Addr} {len cap n : Nat} (h : OwnQ .u32 E B w (.slice a len cap) (nat32 n)) : len = (nat32 n).length := h.cap.1
theorem own_zero {E B : Nat} {w : World} {a : Option Addr} {len cap n : Nat} (h : OwnQ .u32 E B w (.slice a len cap) (nat32 n)) : len = 0 ↔ n = 0 := by
  rw [own_len h]
  constructor
  · intro e
    exact (natB_nil (b := 4294967296) (by decide)).1 (List.eq_nil_of_length_eq_zero e)
  · rintro rfl
    rw [show nat32 0 = [] from natB_zero _]; rfl
theorem own_short {E B k : Nat} {w : World} {a : Option Addr} {len cap n : Nat} (h : OwnQ .u32 E B w (.slice a len cap) (nat32 n)) : len ≤ k ↔ n < 4294967296 ^ k := by
  rw [own_len h]
  exact natB_length (by decide) n k

def gcdR (x y : Nat) : List Nat × Int := if x < topN ∧ y < topN then (nat32 (Nat.gcd x y), 0) else ([], 20)
theorem gcdR_yes {x y : Nat} (h : x < topN) (k : y < topN) : gcdR x y = (nat32 (Nat.gcd x y), 0) := if_pos ⟨h, k⟩
theorem gcdR_no {x y : Nat} (h : ¬ (x < topN ∧ y < topN)) : gcdR x y = ([], 20) := if_neg h

set_option maxHeartbeats 1000000 in
theorem gcd_any (x y : Value) (X Y : Nat) (w : World) (hx : NatAt w x X) (hy : NatAt w y Y) :
    Calls Try.prog 19 #[x, y] w fun e w' => RetsQ2 .u32 41 w.heap.size w' (gcdR X Y) e ∧ Below w.heap.size w w' := by
  have NX := Lib.hid hx
  have NY := Lib.hid hy
  clear hx hy
  by_cases hX : X < topN
  · by_cases hY : Y < topN
    · have hR := Lib.hid (gcdR_yes hX hY)
      have HX := Lib.hid hX
      have HY := Lib.hid hY
      clear hX hY
      go_enter Try.func19, Try.ntmps19
      go_wp2_with fail
      refine (trim_ok NX.out HX.out).mono ?_
      rintro e w1 ⟨⟨v1, rfl, ho1⟩, hb1⟩
      have O1 := Lib.hid ho1
      have B1 := Lib.hid hb1
      have NY1 := Lib.hid (NY.out.below hb1)
      clear ho1 hb1
      go_wp2_with fail
      refine (trim_ok NY1.out HY.out).mono ?_
      rintro e w2 ⟨⟨v2, rfl, ho2⟩, hb2⟩
      have O2 := Lib.hid (ho2.mono B1.out.size)
      have O12 := Lib.hid (O1.out.below hb2)
      have B2 := Lib.hid (B1.out.trans (hb2.mono B1.out.size))
      clear ho2 hb2
      go_wp2_with fail
      go_loopw [0, 1] (fun xv yv wr => ∃ A B : Nat, Hid (A < topN ∧ B < topN ∧ Nat.gcd A B = Nat.gcd X Y ∧ OwnQ .u32 41 w.heap.size wr xv (nat32 A) ∧ OwnQ .u32 41 w.heap.size wr yv (nat32 B) ∧ Below w.heap.size w wr)) (fun _ yv wr => @Classical.epsilon Nat ⟨0⟩ (fun m => NatC wr yv m))
      case atStart => exact ⟨X, Y, HX.out, HY.out, rfl, O12.out, O2.out, B2.out⟩
      case round =>
        obtain ⟨A, B, hI⟩ := hrel
        obtain ⟨-, -, -, hOA, hOB, -⟩ := hI.out
        obtain ⟨aA, nA, cA, rfl, hnA, hOA⟩ := hOA.slice
        obtain ⟨aB, nB, cB, rfl, hnB, hOB⟩ := hOB.slice
        have hz := own_zero hOB
        have HOA := Lib.hid hOA
        have HOB := Lib.hid hOB
        clear hnA hnB hOA hOB
        rcases Nat.eq_zero_or_pos B with hB | hB
        · have hg := Lib.hid (show Nat.gcd X Y = A by have := hI.out.2.2.1; rw [hB, Nat.gcd_zero_right] at this; exact this.symm)
          obtain rfl : nB = 0 := hz.2 hB
          clear hz hB
          go_wp2
          go_ret2
          exact ⟨⟨_, by rw [hR.out]; rfl, by rw [hR.out, hg.out]; exact HOA.out⟩, hI.out.2.2.2.2.2⟩
        · have hnp : 0 < nB := Nat.pos_of_ne_zero fun e => by have := hz.1 e; omega
          have HB := Lib.hid hB
          clear hz hB
          have hmd := Lib.hid (mod_any _ _ _ _ wr (NatC.of HOA.out).at (NatC.of HOB.out).at)
          go_wp2_with fail
          refine hmd.out.mono ?_
          rintro e w3 ⟨⟨v3, rfl, ho3⟩, hb3⟩
          unfold modR at ho3
          rw [divR_yes hI.out.1 hI.out.2.1 HB.out] at ho3
          have O3 := Lib.hid ho3
          have HB3 := Lib.hid hb3
          clear ho3 hb3
          go_wp2
          go_roundw
          case rel =>
            have hbs := hI.out.2.2.2.2.2.size
            exact ⟨B, A % B, hI.out.2.1, Nat.lt_of_lt_of_le (Nat.mod_lt _ HB.out) (Nat.le_of_lt hI.out.2.1), by rw [← hI.out.2.2.1, Nat.gcd_comm A B, Nat.gcd_rec B A, Nat.gcd_comm], HOB.out.below HB3.out, O3.out.mono hbs, hI.out.2.2.2.2.2.trans (HB3.out.mono hbs)⟩
          case measure =>
            rw [eps_nat (NatC.of O3.out), eps_nat (NatC.of HOB.out)]
            exact Nat.mod_lt _ HB.out
    · have hR := Lib.hid (gcdR_no (x := X) (y := Y) (fun h => hY h.2))
      have HX := Lib.hid hX
      have HY := Lib.hid hY
      clear hX hY
      go_enter Try.func19, Try.ntmps19
      go_wp2_with fail
      refine (trim_ok NX.out HX.out).mono ?_
      rintro e w1 ⟨⟨v1, rfl, ho1⟩, hb1⟩
      have B1 := Lib.hid hb1
      have NY1 := Lib.hid (NY.out.below hb1)
      clear ho1 hb1
      go_wp2_with fail
      refine (trim_no NY1.out HY.out).mono ?_
      rintro e w2 ⟨⟨v2, rfl⟩, hb2⟩
      have B2 := Lib.hid (B1.out.trans (hb2.mono B1.out.size))
      clear hb2
      go_wp2_with fail
      go_ret2
      exact ⟨⟨_, by rw [hR.out]; rfl, by rw [hR.out]; exact ownNil _ _ _⟩, B2.out⟩
  · have hR := Lib.hid (gcdR_no (x := X) (y := Y) (fun h => hX h.1))
    have HX := Lib.hid hX
    clear hX
    go_enter Try.func19, Try.ntmps19
    go_wp2_with fail
    refine (trim_no NX.out HX.out).mono ?_
    rintro e w1 ⟨⟨v1, rfl⟩, hb1⟩
    have B1 := Lib.hid hb1
    clear hb1
    go_wp2_with fail
    go_ret2
    exact ⟨⟨_, by rw [hR.out]; rfl, by rw [hR.out]; exact ownNil _ _ _⟩, B1.out⟩

end Go.Proofs.Ytcnpgebjjknheaa
