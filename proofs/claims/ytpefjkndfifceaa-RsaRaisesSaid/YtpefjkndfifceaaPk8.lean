/- Part of the proofs: what the functions that the law calls do. -/
import Derived.Test.YtpefjkndfifceaaPk1
import Derived.Test.YtpefjkndfifceaaPk3
import Derived.Test.YtpefjkndfifceaaPk5
import Derived.Test.YtpefjkndfifceaaPk7
import Derived.Test.YtpefjkndfifceaaRows
import Derived.Deep.QuietTactic
import Derived.BigQuiet
import Derived.Deep.RegionHeld
import Derived.OrdersHeld
import Derived.Laws.ResultCell
import Derived.Laws.EntriesVeiled
set_option linter.unusedVariables false
set_option linter.unusedSimpArgs false
namespace Go.Proofs.Ytpefjkndfifceaa
open Go.RowKit
instance (M : Nat) : Decidable (Mod3 M) := by unfold Mod3; infer_instance
namespace rf
theorem bit_s {x : Value} {X : Nat} {w : World} (hx : NatS w x X) (i : Int) (hi : i ≤ 9223372036854775807) (r : Bool) (h : r = (decide (0 ≤ i) && X.testBit i.toNat)) : Calls Try.prog 20 #[x, .int .i64 i] w fun e w' => e = .returned (.bool r) ∧ Below w.heap.size w w' := by
  obtain ⟨a, n, c, l, rfl, hr, hl, rfl, hm⟩ := hx
  exact bit_any a n c l w hr hl hm i hi r h
theorem bits_s {x : Value} {X : Nat} {w : World} (hx : NatS w x X) (b : Nat) (h : b = Go.Proofs.Ytpefjkndfifceaa.bitsN X) : Calls Try.prog 16 #[x] w fun e w' => e = .returned (.int .i64 (b : Int)) ∧ Below w.heap.size w w' := by
  obtain ⟨a, n, c, l, rfl, hr, hl, rfl, hm⟩ := hx
  exact bits_any a n c l w hr hl hm b h
end rf
end Go.Proofs.Ytpefjkndfifceaa
namespace Go.Proofs.Ytpefjkndfifceaa
open Go.RowKit
namespace rf
theorem low_step {X K M i : Nat} (hb : K.testBit i = true) : X ^ (K % 2 ^ i) % M * (X ^ 2 ^ i % M) % M = X ^ (K % 2 ^ (i + 1)) % M := by
  rw [← Nat.mul_mod, ← Nat.pow_add]
  congr 2
  rw [Nat.testBit_eq_decide_div_mod_eq] at hb
  have h := of_decide_eq_true hb
  rw [Nat.pow_succ, Nat.mod_mul, h, Nat.mul_one]
theorem low_stay {X K M i : Nat} (hb : K.testBit i = false) : X ^ (K % 2 ^ i) % M = X ^ (K % 2 ^ (i + 1)) % M := by
  congr 2
  rw [Nat.testBit_eq_decide_div_mod_eq] at hb
  have h := of_decide_eq_false hb
  have h2 : K / 2 ^ i % 2 = 0 := by omega
  rw [Nat.pow_succ, Nat.mod_mul, h2, Nat.mul_zero, Nat.add_zero]
theorem by_step {X M i : Nat} : X ^ 2 ^ i % M * (X ^ 2 ^ i % M) % M = X ^ 2 ^ (i + 1) % M := by
  rw [← Nat.mul_mod, ← Nat.pow_add]
  congr 2
  rw [Nat.pow_succ]
  omega
theorem low_all {K b : Nat} (h : b = Go.Proofs.Ytpefjkndfifceaa.bitsN K) : K % 2 ^ b = K := Nat.mod_eq_of_lt ((Go.Proofs.Ytpefjkndfifceaa.bitsN_le K b).1 (by omega))
theorem one_own (B : Nat) (w : World) (hB : B ≤ w.heap.size) : OwnQ .u32 64 B (w.alloc (.cells #[.int .u32 1] 64)) (.slice (some ⟨w.heap.size, 0, none⟩) 1 1) (nat32 1) := by
  rw [show nat32 1 = [1] from nat32_lit [1] 1 (fun x hx => by obtain rfl := List.mem_singleton.1 hx; decide) (by decide) rfl]
  exact OwnQ.one .u32 w _ B hB 1 1 rfl
set_option maxRecDepth 100000 in
set_option maxHeartbeats 2000000 in
theorem Power_s (x k m : Value) (X K M : Nat) (w : World) (hx : NatS w x X) (hk : NatS w k K) (hm : NatS w m M) (hM : Mod3 M) :
    Calls Try.prog 29 #[x, k, m] w fun e w' => RetsQ2 .u32 64 w.heap.size w' (powR M X K) e ∧ Below w.heap.size w w' := by
  have NX := Lib.hid hx
  have NK := Lib.hid hk
  have NM := Lib.hid hm
  have H0 := Lib.hid (show 0 < M by have := hM.2.1; omega)
  have HMM := Lib.hid hM.1
  have HMN := Lib.hid (Nat.lt_of_lt_of_le hM.1 topM_le)
  have F := Lib.hid (Below.refl w.heap.size w)
  have hm1 : 1 < M := by have := hM.2.1; omega
  have HM1 := Lib.hid hm1
  clear hm1
  by_cases hXK : X < topN ∧ K < topN
  · have HR := Lib.hid (powR_yes (M := M) hXK.1 hXK.2)
    have HX := Lib.hid hXK.1
    have HK := Lib.hid hXK.2
    have hmt := Lib.hid (show true = decide (X < topN ∧ K < topN) from (decide_eq_true hXK).symm)
    have hbb : ∃ b, b = Go.Proofs.Ytpefjkndfifceaa.bitsN K := ⟨_, rfl⟩
    obtain ⟨b, hb⟩ := hbb
    have hb8 : b ≤ 8192 := by
      rw [hb]
      exact (Go.Proofs.Ytpefjkndfifceaa.bitsN_le K 8192).2 (by rw [← topN_two]; exact hXK.2)
    have HBN := Lib.hid hb
    clear hx hk hm hM hXK hb
    go_enter Try.func29, Try.ntmps29
    go_wp2_with fail
    refine (may_s NX.out NK.out _ hmt.out).mono ?_
    rintro e w1 ⟨rfl, hb⟩
    replace NX := Lib.hid (NX.out.below hb)
    replace NK := Lib.hid (NK.out.below hb)
    replace NM := Lib.hid (NM.out.below hb)
    replace F := Lib.hid (F.out.trans (hb.mono F.out.size))
    clear hb
    have HA := Lib.hid ((Below.refl w1.heap.size w1).alloc (Nat.le_refl _) (.cells #[.int .u32 1] 64))
    have O1 := Lib.hid (one_own w.heap.size w1 F.out.size)
    go_wp2_with fail
    replace NX := Lib.hid (NX.out.below HA.out)
    replace NK := Lib.hid (NK.out.below HA.out)
    replace NM := Lib.hid (NM.out.below HA.out)
    replace F := Lib.hid (F.out.trans (HA.out.mono F.out.size))
    clear HA
    generalize hwA : w1.alloc (.cells #[.int .u32 1] 64) = wA at *
    generalize w1.heap.size = g1 at *
    clear hwA
    skip
    refine (div_ok NX.out NM.out HX.out HMN.out H0.out).mono ?_
    rintro e w2 ⟨⟨v2, u2, rfl, -, ho⟩, hb⟩
    replace NX := Lib.hid (NX.out.below hb)
    replace NK := Lib.hid (NK.out.below hb)
    replace NM := Lib.hid (NM.out.below hb)
    replace O1 := Lib.hid (O1.out.below hb)
    have BY := Lib.hid (ho.mono F.out.size)
    replace F := Lib.hid (F.out.trans (hb.mono F.out.size))
    clear hb
    go_wp2_with fail
    refine (bits_s NK.out b HBN.out).mono ?_
    rintro e w3 ⟨rfl, hb⟩
    replace NX := Lib.hid (NX.out.below hb)
    replace NK := Lib.hid (NK.out.below hb)
    replace NM := Lib.hid (NM.out.below hb)
    replace O1 := Lib.hid (O1.out.below hb)
    replace BY := Lib.hid (BY.out.below hb)
    replace F := Lib.hid (F.out.trans (hb.mono F.out.size))
    clear hb
    go_wp2
    go_loopw [9, 11, 14] (fun ov bv iv wr => ∃ i : Nat, iv = .int .i64 (i : Int) ∧ i ≤ b ∧ Hid (OwnQ .u32 64 w.heap.size wr ov (nat32 (X ^ (K % 2 ^ i) % M)) ∧ OwnQ .u32 64 w.heap.size wr bv (nat32 (X ^ 2 ^ i % M)) ∧ Below w3.heap.size w3 wr)) (fun _ _ iv _ => b - (intOf iv).toNat)
    case atStart => exact ⟨0, rfl, Nat.zero_le _, by rw [show K % 2 ^ 0 = 0 by rw [Nat.pow_zero, Nat.mod_one], Nat.pow_zero, Nat.mod_eq_of_lt HM1.out]; exact O1.out, by rw [Nat.pow_zero, Nat.pow_one]; exact BY.out, Below.refl _ _⟩
    case round =>
      obtain ⟨i, rfl, hi, hI⟩ := hrel
      obtain ⟨hO, hB, hbl⟩ := hI.out
      have OO := Lib.hid hO
      have OB := Lib.hid hB
      have BL := Lib.hid hbl
      have NK2 := Lib.hid (NK.out.below hbl)
      have NM2 := Lib.hid (NM.out.below hbl)
      have F2 := Lib.hid (F.out.trans (hbl.mono F.out.size))
      clear hO hB hbl hI
      by_cases hib : i < b
      · have hl1 := Lib.hid (Nat.lt_trans (Nat.mod_lt (X ^ (K % 2 ^ i)) H0.out) HMN.out)
        have hl2 := Lib.hid (Nat.lt_trans (Nat.mod_lt (X ^ 2 ^ i) H0.out) HMN.out)
        have MM1 := Lib.hid (mulModR_yes HMM.out hl1.out hl2.out H0.out)
        have MM2 := Lib.hid (mulModR_yes HMM.out hl2.out hl2.out H0.out)
        rw [by_step] at MM2
        rcases hbit : K.testBit i with _ | _
        · have HST := Lib.hid (low_stay (X := X) (M := M) hbit)
          have HBT := Lib.hid (show false = (decide (0 ≤ (i : Int)) && K.testBit (i : Int).toNat) by rw [Int.toNat_natCast, hbit, decide_eq_true (by omega)]; rfl)
          clear hbit
          go_wp2_with fail
          refine (bit_s NK2.out (i : Int) (by omega) _ HBT.out).mono ?_
          rintro e w8 ⟨rfl, hb⟩
          have OO8 := Lib.hid (OO.out.below hb)
          have OB8 := Lib.hid (OB.out.below hb)
          have NM8 := Lib.hid (NM2.out.below hb)
          have BL8 := Lib.hid (BL.out.trans (hb.mono BL.out.size))
          have hs8 := Lib.hid (Nat.le_trans F2.out.size hb.size)
          clear hb
          go_wp2_with fail
          refine (mulMod_s _ _ _ _ _ _ _ (NatS.of OB8.out hl2.out) (NatS.of OB8.out hl2.out) NM8.out).mono ?_
          rintro e w9 ⟨hr, hb⟩
          rw [MM2.out] at hr
          obtain ⟨v9, rfl, ho⟩ := hr
          dsimp only
          have OO9 := Lib.hid (OO8.out.below hb)
          have OB9 := Lib.hid (ho.mono hs8.out)
          have BL9 := Lib.hid (BL8.out.trans (hb.mono BL8.out.size))
          clear hb ho
          go_wp2
          go_roundw
          case rel => exact ⟨i + 1, by go_num, by omega, by rw [← HST.out]; exact OO9.out, OB9.out, BL9.out⟩
          case measure => simp [intOf] <;> omega
        · have HST := Lib.hid (low_step (X := X) (M := M) hbit)
          rw [HST.out] at MM1
          have HBT := Lib.hid (show true = (decide (0 ≤ (i : Int)) && K.testBit (i : Int).toNat) by rw [Int.toNat_natCast, hbit, decide_eq_true (by omega)]; rfl)
          clear hbit
          go_wp2_with fail
          refine (bit_s NK2.out (i : Int) (by omega) _ HBT.out).mono ?_
          rintro e w8 ⟨rfl, hb⟩
          have OO8 := Lib.hid (OO.out.below hb)
          have OB8 := Lib.hid (OB.out.below hb)
          have NM8 := Lib.hid (NM2.out.below hb)
          have BL8 := Lib.hid (BL.out.trans (hb.mono BL.out.size))
          have hs8 := Lib.hid (Nat.le_trans F2.out.size hb.size)
          clear hb
          go_wp2_with fail
          refine (mulMod_s _ _ _ _ _ _ _ (NatS.of OO8.out hl1.out) (NatS.of OB8.out hl2.out) NM8.out).mono ?_
          rintro e w9 ⟨hr, hb⟩
          rw [MM1.out] at hr
          obtain ⟨v9, rfl, ho⟩ := hr
          dsimp only
          have OO9 := Lib.hid (ho.mono hs8.out)
          have OB9 := Lib.hid (OB8.out.below hb)
          have NM9 := Lib.hid (NM8.out.below hb)
          have BL9 := Lib.hid (BL8.out.trans (hb.mono BL8.out.size))
          have hs9 := Lib.hid (Nat.le_trans hs8.out hb.size)
          clear hb ho
          go_wp2_with fail
          refine (mulMod_s _ _ _ _ _ _ _ (NatS.of OB9.out hl2.out) (NatS.of OB9.out hl2.out) NM9.out).mono ?_
          rintro e w10 ⟨hr, hb⟩
          rw [MM2.out] at hr
          obtain ⟨v10, rfl, ho⟩ := hr
          dsimp only
          have OO10 := Lib.hid (OO9.out.below hb)
          have OB10 := Lib.hid (ho.mono hs9.out)
          have BL10 := Lib.hid (BL9.out.trans (hb.mono BL9.out.size))
          clear hb ho
          go_wp2
          go_roundw
          case rel => exact ⟨i + 1, by go_num, by omega, OO10.out, OB10.out, BL10.out⟩
          case measure => simp [intOf] <;> omega
      · obtain rfl : i = b := by omega
        have HKK := Lib.hid (low_all HBN.out)
        rw [HKK.out] at OO
        go_wp2
        go_ret2
        exact ⟨⟨_, by rw [HR.out]; rfl, by rw [HR.out]; exact OO.out⟩, F2.out⟩
  · have HR := Lib.hid (powR_no (M := M) hXK)
    have hmt := Lib.hid (show false = decide (X < topN ∧ K < topN) from (decide_eq_false hXK).symm)
    clear hXK hx hk hm hM
    go_enter Try.func29, Try.ntmps29
    go_wp2_with fail
    refine (may_s NX.out NK.out _ hmt.out).mono ?_
    rintro e w1 ⟨rfl, hb⟩
    replace F := Lib.hid (F.out.trans (hb.mono F.out.size))
    clear hb
    go_wp2
    go_ret2
    exact ⟨⟨_, by rw [HR.out]; rfl, by rw [HR.out]; exact OwnQ.nil _ _ _ _⟩, F.out⟩
end rf
end Go.Proofs.Ytpefjkndfifceaa
namespace Go.Proofs.Ytpefjkndfifceaa.Oc
open Go.RowKit
theorem Try.info8 : (Try.prog.info? 5).map (fun i => (i.zero, i.size, i.bytes)) = some (some (.int .u8 0), 1, 1) := by kernel_rfl
def bareL (l : List UInt8) : List UInt8 := l.dropWhile (· == 0)
theorem bareL_step (l : List UInt8) (k : Nat) (hk : k < l.length) : bareL (l.drop k) = if (l[k]?.getD 0).toNat = 0 then bareL (l.drop (k + 1)) else l.drop k := by
  rw [List.drop_eq_getElem_cons hk]
  simp only [bareL, List.dropWhile_cons, List.getElem?_eq_getElem hk, Option.getD_some]
  by_cases h : l[k] = 0
  · simp [h]
  · have : ¬ l[k].toNat = 0 := fun e => h (UInt8.toNat_inj.1 (by simpa using e))
    simp [h, this]
def RetsBts (w : World) (l : List UInt8) (e : Ending) : Prop := ∃ a cap, e = .returned (.slice a l.length cap) ∧ Bts w a l.length cap l
theorem RetsBts.mk {w : World} {l : List UInt8} {a : Option Addr} {len cap : Nat} (h : Bts w a len cap l) : RetsBts w l (.returned (.slice a len cap)) := by
  obtain rfl := h.length
  exact ⟨a, cap, rfl, h⟩
theorem sized_any (n : Int) (w : World) : Calls Try.prog 44 #[.int .i64 n] w fun e w' => e = .returned (.bool (decide (0 ≤ n ∧ n ≤ 65536))) ∧ w = w' := by
  by_cases h0 : 0 ≤ n
  · by_cases h1 : n ≤ 65536
    · go_enter Try.func44, Try.ntmps44
      go_wp2
      go_ret
      exact ⟨by simp; omega, rfl⟩
    · go_enter Try.func44, Try.ntmps44
      go_wp2
      go_ret
      exact ⟨by simp; omega, rfl⟩
  · go_enter Try.func44, Try.ntmps44
    go_wp2
    go_ret
    exact ⟨by simp; omega, rfl⟩
set_option maxHeartbeats 400000 in
theorem bare_any (a : Option Addr) (len cap : Nat) (l : List UInt8) (w : World) (h : Bts w a len cap l) :
    Calls Try.prog 45 #[.slice a len cap] w fun e w' => RetsBts w (bareL l) e ∧ w = w' := by
  have hm := h.len_le
  unfold maxLen at hm
  have hcm := h.max
  unfold maxLen at hcm
  have hle := h.le
  have hl := Lib.hid h.length
  have H := Lib.hid h
  go_enter Try.func45, Try.ntmps45
  go_wp2
  go_loop [7] (fun i => ∃ k : Nat, k ≤ len ∧ i = .int .i64 k ∧ Hid (bareL l = bareL (l.drop k))) (fun i => len - (intOf i).toNat)
  case atStart => exact ⟨0, Nat.zero_le _, rfl, by simp [Hid]⟩
  case round =>
    obtain ⟨k, hk, rfl, hrest⟩ := hrel
    by_cases hlt : k < len
    · obtain ⟨b, off, rfl, hbl, hc⟩ := H.out.cells (by omega)
      have hck := hc k hlt
      have hst := Lib.hid (bareL_step l k (by have := hl.out; omega))
      clear hc
      generalize hx : (l[k]?.getD 0).toNat = x at *
      have Hx := Lib.hid hx
      clear hx
      by_cases hx0 : x = 0
      · subst hx0
        go_wp2
        go_round
        case rel => exact ⟨k + 1, by omega, by go_num, by have := hst.out; rw [if_pos rfl] at this; unfold Hid; rw [hrest.out, this]⟩
        case measure => simp [intOf]; omega
      · have hx1 : ((x : Int) != 0) = true := by simp; omega
        go_wp2
        go_ret
        have e : bareL l = l.drop k := by have := hst.out; rw [if_neg hx0] at this; rw [hrest.out, this]
        rw [e]
        exact ⟨RetsBts.mk (H.out.drop hlt), rfl⟩
    · go_wp2
      go_ret
      have e : bareL l = [] := by rw [hrest.out, List.drop_eq_nil_of_le (by have := hl.out; omega)]; rfl
      rw [e]
      exact ⟨RetsBts.mk (Bts.none w), rfl⟩
def RetsOwn (B : Nat) (w' : World) (l : List UInt8) (e : Ending) : Prop := ∃ v, e = .returned v ∧ Own8 5 B w' v l
theorem RetsOwn.mono {B B' : Nat} {w' : World} {l : List UInt8} {e : Ending} (h : RetsOwn B w' l e) (hB : B' ≤ B) : RetsOwn B' w' l e := by
  obtain ⟨v, rfl, ho⟩ := h
  exact ⟨v, rfl, ho.mono hB⟩
theorem bareL_le (l : List UInt8) : (bareL l).length ≤ l.length := (List.dropWhile_sublist _).length_le
def RetsTwin (B : Nat) (w' : World) (l : List UInt8) (e : Ending) : Prop :=
  ∃ g cap, e = .returned (.slice (some ⟨g, 0, none⟩) l.length cap) ∧ l.length + 1 ≤ cap ∧ Own8 5 B w' (.slice (some ⟨g, 0, none⟩) (l.length + 1) cap) (l ++ [7])
def wholeL (l : List UInt8) : Nat := l.foldl (fun n c => 256 * n + c.toNat) 0
def wVal (l : List UInt8) : Int := if 8 < (bareL l).length then 0 else wholeL l
def wErr (l : List UInt8) : Int := if 8 < (bareL l).length then 10 else 0
def WholeIs (l : List UInt8) (e : Ending) : Prop := e = .returned (.tuple #[.int .u64 (wVal l), .int .i64 (wErr l)])
end Go.Proofs.Ytpefjkndfifceaa.Oc
namespace Go.Proofs.Ytpefjkndfifceaa.Oc
set_option maxRecDepth 100000
open Go.RowKit
def bigL (n : Nat) : Nat → List UInt8
  | 0 => []
  | k + 1 => UInt8.ofNat (n / 256 ^ k % 256) :: bigL n k
def RetsOwn2 (B : Nat) (w' : World) (r : List UInt8 × Int) (e : Ending) : Prop := ∃ v, e = .returned (.tuple #[v, .int .i64 r.2]) ∧ Own8 5 B w' v r.1
def bigR (n : Nat) (s : Int) : List UInt8 × Int := if 0 ≤ s ∧ s ≤ 65536 then (if n < 256 ^ s.toNat then (bigL n s.toNat, 0) else ([], 10)) else ([], 2)
theorem sized_yes (n : Int) (w : World) (h : 0 ≤ n ∧ n ≤ 65536) : Calls Try.prog 44 #[.int .i64 n] w fun e w' => e = .returned (.bool true) ∧ w = w' :=
  (sized_any n w).mono fun e w' ⟨he, hw⟩ => ⟨by rw [he, decide_eq_true h], hw⟩
theorem sized_no (n : Int) (w : World) (h : ¬ (0 ≤ n ∧ n ≤ 65536)) : Calls Try.prog 44 #[.int .i64 n] w fun e w' => e = .returned (.bool false) ∧ w = w' :=
  (sized_any n w).mono fun e w' ⟨he, hw⟩ => ⟨by rw [he, decide_eq_false h], hw⟩
set_option maxHeartbeats 400000 in
theorem reftrim_any (a : Option Addr) (len cap : Nat) (l : List UInt8) (w : World) (h : Bts w a len cap l) (hm : len ≤ 140737488355328) :
    Calls Try.prog 51 #[.slice a len cap] w fun e w' => RetsOwn w.heap.size w' (bareL l) e ∧ Below w.heap.size w w' := by
  obtain ⟨i0, hi, hz0, hz1, hz2⟩ := info_parts Try.info8
  have H := Lib.hid h
  have hl := Lib.hid h.length
  have hle := h.le
  have hcm := Lib.hid h.max
  have hnl := Lib.hid h.nil
  clear h
  go_enter Try.func51, Try.ntmps51
  go_wp2
  go_loop [3] (fun i => ∃ k : Nat, k ≤ len ∧ i = .int .i64 k ∧ Hid (bareL l = bareL (l.drop k))) (fun i => len - (intOf i).toNat)
  case atStart => exact ⟨0, Nat.zero_le _, rfl, by simp [Hid]⟩
  case round =>
    obtain ⟨k, hk, rfl, hrest⟩ := hrel
    by_cases hlt : k < len
    · obtain ⟨b, off, rfl, hbl, hc⟩ := H.out.cells (by omega)
      have hck := hc k hlt
      have hst := Lib.hid (bareL_step l k (by have := hl.out; omega))
      clear hc
      generalize hx : (l[k]?.getD 0).toNat = x at *
      clear hx
      by_cases hx0 : x = 0
      · subst hx0
        go_wp2
        go_round
        case rel => exact ⟨k + 1, by omega, by go_num, by have := hst.out; rw [if_pos rfl] at this; unfold Hid; rw [hrest.out, this]⟩
        case measure => simp [intOf] <;> omega
      · have hx1 : ((x : Int) == 0) = false := by simp; omega
        have hD := Lib.hid (H.out.drop hlt)
        have hdl : (l.drop k).length ≤ 140737488355328 := by have := hl.out; simp; omega
        have e := Lib.hid (show bareL l = l.drop k by have := hst.out; rw [if_neg hx0] at this; rw [hrest.out, this])
        go_wp2_with (at_builtin; refine wpList_append_bts _ rfl _ _ 22 rfl w.heap.size 5 i0 Try.underlying22 hi hz0 hz1 hz2 _ [] rfl (Own8.nil w _ _) _ _ _ (l.drop k) rfl hD.out (by simp; omega) (Nat.le_refl _) ?_; intro v' w1 hown hgrow)
        go_ret
        rw [e.out]
        exact ⟨⟨_, rfl, hown⟩, hgrow _ (Below.refl _ _)⟩
    · obtain rfl : k = len := by omega
      have e := Lib.hid (show bareL l = [] by rw [hrest.out, List.drop_eq_nil_of_le (by have := hl.out; omega)]; rfl)
      have hE := Lib.hid fun a' (ha : a' = none → cap - k = 0) => Bts.empty w a' (cap - k) (by have := hcm.out; omega) ha
      go_wp2_with (at_builtin; refine wpList_append_bts _ rfl _ _ 22 rfl w.heap.size 5 i0 Try.underlying22 hi hz0 hz1 hz2 _ [] rfl (Own8.nil w _ _) _ _ _ [] rfl (hE.out _ ?h1) (by simp) (Nat.le_refl _) ?_; rotate_left; intro v' w1 hown hgrow)
      all_goals first | (exact fun h => by rw [hnl.out h]; omega) | (go_ret; rw [e.out]; exact ⟨⟨_, rfl, hown⟩, hgrow _ (Below.refl _ _)⟩)
def padR (l : List UInt8) (s : Int) : List UInt8 × Int := if 0 ≤ s ∧ s ≤ 65536 then (if (bareL l).length ≤ s.toNat then (List.replicate (s.toNat - (bareL l).length) 0 ++ bareL l, 0) else ([], 10)) else ([], 2)
theorem padR_no {l : List UInt8} {s : Int} (h : ¬ (0 ≤ s ∧ s ≤ 65536)) : padR l s = ([], 2) := by rw [padR, if_neg h]
theorem padR_long {l : List UInt8} {m : Nat} (h : m ≤ 65536) (h2 : m < (bareL l).length) : padR l m = ([], 10) := by rw [padR, if_pos ⟨by omega, by omega⟩, if_neg (by simp; omega)]
theorem padR_yes {l : List UInt8} {m : Nat} (h : m ≤ 65536) (h2 : (bareL l).length ≤ m) : padR l m = (List.replicate (m - (bareL l).length) 0 ++ bareL l, 0) := by rw [padR, if_pos ⟨by omega, by omega⟩, if_pos (by simpa using h2)]; simp
set_option maxHeartbeats 800000 in
theorem refpad_any (a : Option Addr) (len cap : Nat) (l : List UInt8) (s : Int) (w : World) (h : Bts w a len cap l) (hm : len ≤ 70368744177664) :
    Calls Try.prog 30 #[.slice a len cap, .int .i64 s] w fun e w' => RetsOwn2 w.heap.size w' (padR l s) e ∧ Below w.heap.size w w' := by
  obtain ⟨i0, hi, hz0, hz1, hz2⟩ := info_parts Try.info8
  have hT := reftrim_any a len cap l w h (by omega)
  have hbl : (bareL l).length ≤ 70368744177664 := by have := bareL_le l; have := h.length; omega
  by_cases hs0 : s < 0
  · have e := Lib.hid (padR_no (l := l) (s := s) (by omega))
    clear hT h
    go_enter Try.func30, Try.ntmps30
    go_wp2
    go_ret2
    exact ⟨⟨_, by rw [e.out]; rfl, by rw [e.out]; exact Own8.nil _ _ _⟩, Below.refl _ _⟩
  by_cases hs1 : 65536 < s
  · have e := Lib.hid (padR_no (l := l) (s := s) (by omega))
    clear hT h
    go_enter Try.func30, Try.ntmps30
    go_wp2
    go_ret2
    exact ⟨⟨_, by rw [e.out]; rfl, by rw [e.out]; exact Own8.nil _ _ _⟩, Below.refl _ _⟩
  obtain ⟨m, rfl⟩ := Int.eq_ofNat_of_zero_le (show 0 ≤ s by omega)
  have hms : m ≤ 65536 := by omega
  by_cases hlong : m < (bareL l).length
  · have e := Lib.hid (padR_long (l := l) hms hlong)
    clear h hs0 hs1
    go_enter Try.func30, Try.ntmps30
    go_wp2_with fail
    refine hT.mono ?_
    rintro e w1 ⟨⟨v, rfl, ho⟩, hb⟩
    obtain ⟨a1, c1, rfl, hB, hge⟩ := ho.form
    clear hT
    go_wp2
    go_ret2
    exact ⟨⟨_, by rw [e.out]; rfl, by rw [e.out]; exact Own8.nil _ _ _⟩, hb⟩
  · have e := Lib.hid (padR_yes (l := l) hms (by omega))
    clear h hs0 hs1
    go_enter Try.func30, Try.ntmps30
    go_wp2_with fail
    refine hT.mono ?_
    rintro e w1 ⟨⟨v, rfl, ho⟩, hb⟩
    obtain ⟨a1, c1, rfl, hB, hge⟩ := ho.form
    clear hT
    generalize bareL l = t at *
    have HO := Lib.hid ho
    have HB := Lib.hid hB
    clear ho hB hge
    go_wp2
    go_loopw [7, 8] (fun v i wr => ∃ k : Nat, t.length ≤ k ∧ k ≤ m ∧ i = .int .i64 k ∧ Own8 5 w1.heap.size wr v (List.replicate (k - t.length) 0) ∧ Below w1.heap.size w1 wr) (fun _ i _ => m - (intOf i).toNat)
    case atStart => exact ⟨t.length, Nat.le_refl _, by omega, rfl, by simpa using Own8.nil _ _ _, Below.refl _ _⟩
    case round =>
      obtain ⟨k, hk1, hk2, rfl, hown, hb2⟩ := hrel
      have hsz := hb2.size
      by_cases hlt : k < m
      · go_wp2_with (at_builtin; (refine wpList_append_bts _ rfl _ _ 22 rfl w1.heap.size 5 i0 Try.underlying22 hi hz0 hz1 hz2 _ (List.replicate (k - t.length) 0) rfl (hown.alloc _) _ _ _ [0] rfl (Bts.one wr _ 0 0 rfl) (by simp; omega) (by simp; omega) ?_; intro v' w2 hown2 hgrow))
        go_roundw
        case rel => exact ⟨k + 1, by omega, by omega, by go_num, by rw [show k + 1 - t.length = k - t.length + 1 from by omega, List.replicate_succ']; exact hown2, hgrow _ (hb2.alloc (by omega) _)⟩
        case measure => simp [intOf] <;> omega
      · obtain rfl : k = m := by omega
        go_wp2_with (at_builtin; (refine wpList_append_bts _ rfl _ _ 22 rfl w1.heap.size 5 i0 Try.underlying22 hi hz0 hz1 hz2 _ (List.replicate (k - t.length) 0) rfl hown _ _ _ t rfl (HB.out.below hb2) (by simp; omega) (by omega) ?_; intro v' w2 hown2 hgrow))
        go_ret2
        exact ⟨⟨_, by rw [e.out]; rfl, by rw [e.out]; exact hown2.mono hb.size⟩, hb.trans ((hgrow _ hb2).mono hb.size)⟩
end Go.Proofs.Ytpefjkndfifceaa.Oc
namespace Go.Proofs.Ytpefjkndfifceaa
open Go.RowKit
set_option maxRecDepth 100000
theorem byte_small {l : List Nat} (hb : Byt l) (h : l.length ≤ 1024) : valB 256 l.reverse < topN := by
  have h1 := valB_lt (b := 256) (by decide) (l := l.reverse) (fun x hx => hb x (List.mem_reverse.1 hx))
  rw [List.length_reverse] at h1
  exact top_of topN_256 h h1
def raiseV (N B Y : List Nat) : List UInt8 × Int := if nV B < nV N then Oc.padR (u8s (natB 256 (nV B ^ nV Y % nV N)).reverse) (N.length : Int) else ([], 101)
set_option maxHeartbeats 8000000 in
theorem rpower_any (na : Option Addr) (nn nc : Nat) (N : List Nat) (ea : Option Addr) (en ec : Nat) (E : List Nat) (da : Option Addr) (dn dc : Nat) (D : List Nat) (ba : Option Addr) (bn bc : Nat) (B : List Nat) (ya : Option Addr) (yn yc : Nat) (Y : List Nat) (w : World) (hN : Reads .u8 w na nn nc N) (bN : Byt N) (hB : Reads .u8 w ba bn bc B) (bB : Byt B) (hY : Reads .u8 w ya yn yc Y) (bY : Byt Y) (ln : nn ≤ 700) (lb : bn ≤ 1000) (ly : yn ≤ 700) (hM : Mod3 (nV N)) :
    Calls Try.prog 14 #[.agg #[.slice na nn nc, .slice ea en ec, .slice da dn dc], .slice ba bn bc, .slice ya yn yc] w fun e w' => Oc.RetsOwn2 w.heap.size w' (raiseV N B Y) e ∧ Below w.heap.size w w' := by
  have HRN := Lib.hid hN
  have HRB := Lib.hid hB
  have HRY := Lib.hid hY
  have HBN := Lib.hid bN
  have HBB := Lib.hid bB
  have HBY := Lib.hid bY
  have HNL := Lib.hid hN.length
  have HM := Lib.hid hM
  have HSN := Lib.hid (key_small bN (by rw [hN.length]; exact ln))
  have HSY := Lib.hid (key_small bY (by rw [hY.length]; exact ly))
  have HSB := Lib.hid (byte_small bB (by rw [hB.length]; omega))
  have hba := (Below.refl w.heap.size w).alloc (Nat.le_refl _) (.cells #[.slice na nn nc, .slice ea en ec, .slice da dn dc] 24)
  have hq0 : (w.alloc (.cells #[.slice na nn nc, .slice ea en ec, .slice da dn dc] 24)).heap[w.heap.size]? = some (.cells #[.slice na nn nc, .slice ea en ec, .slice da dn dc] 24) := World.alloc_heap_new w _
  have HQ0 := Lib.hid hq0
  have HB := Lib.hid hba
  clear hN bN hB bB hY bY hM hba hq0
  go_enter Try.func14, Try.ntmps14
  go_wp2_with fail
  generalize w.alloc (.cells #[.slice na nn nc, .slice ea en ec, .slice da dn dc] 24) = w0 at *
  obtain ⟨P, hP⟩ : ∃ P, w.heap.size = P := ⟨_, rfl⟩
  rw [hP] at HQ0 ⊢
  have HPW := Lib.hid hP
  have HQ : Hid (∀ X, Below w0.heap.size w0 X → X.heap[P]? = some (.cells #[.slice na nn nc, .slice ea en ec, .slice da dn dc] 24)) := Lib.hid fun X hX => (hX.block P (Array.getElem?_eq_some_iff.1 HQ0.out).1).trans HQ0.out
  clear hP HQ0
  obtain ⟨k0, k1, k2⟩ := key_cells (HQ.out _ (Below.refl _ _))
  go_wp2_with fail
  refine (number_r na nn nc N w0 (HRN.out.below HB.out) HBN.out ln).mono ?_
  rintro e w1 ⟨⟨v1, rfl, hv⟩, hb⟩
  have V1 := Lib.hid (NatS.of hv HSN.out)
  have HC1 := Lib.hid hb
  clear k0 k1 k2 hv hb
  go_wp2_with fail
  refine (number_r ya yn yc Y w1 (HRY.out.below (HB.out.trans (HC1.out.mono HB.out.size))) HBY.out ly).mono ?_
  rintro e w2 ⟨⟨v2, rfl, hv⟩, hb⟩
  have V2 := Lib.hid (NatS.of hv HSY.out)
  have V1 := Lib.hid (V1.out.below hb)
  have HC2 := Lib.hid (HC1.out.trans (hb.mono HC1.out.size))
  clear hv hb
  go_wp2_with fail
  refine (rf.read_any ba bn bc B w2 (HRB.out.below (HB.out.trans (HC2.out.mono HB.out.size))) HBB.out (by omega)).mono ?_
  rintro e w3 ⟨⟨v3, rfl, hv⟩, hb⟩
  rw [cutR_small HSB.out] at hv ⊢
  have V3 := Lib.hid (NatS.of hv HSB.out)
  have V1 := Lib.hid (V1.out.below hb)
  have V2 := Lib.hid (V2.out.below hb)
  have HC3 := Lib.hid (HC2.out.trans (hb.mono HC2.out.size))
  clear hv hb HC1 HC2
  have v1 := V1.out
  have v3 := V3.out
  obtain ⟨a1, n1, c1, l1, rfl, r1, lm1, e1, m1⟩ := v1
  obtain ⟨a3, n3, c3, l3, rfl, r3, lm3, e3, m3⟩ := v3
  obtain ⟨o, hor⟩ : ∃ x, x = rf.ordR (nV B) (nV N) := ⟨_, rfl⟩
  have hol : o = -1 ↔ nV B < nV N := by
    rw [hor]
    unfold rf.ordR
    by_cases h : nV B < nV N
    · rw [if_pos h]; exact ⟨fun _ => h, fun _ => rfl⟩
    · rw [if_neg h]; constructor
      · intro k; split at k <;> omega
      · intro k; exact absurd k h
  have ho3 : o = -1 ∨ o = 0 ∨ o = 1 := by
    rw [hor]
    unfold rf.ordR
    split
    · exact .inl rfl
    · split
      · exact .inr (.inr rfl)
      · exact .inr (.inl rfl)
  have HOL := Lib.hid hol
  have HOo := Lib.hid (show o = rf.ordR (val32 l3) (val32 l1) by rw [e1, e3]; exact hor)
  have R1 := Lib.hid (And.intro r1 (And.intro lm1 m1))
  have R3 := Lib.hid (And.intro r3 (And.intro lm3 m3))
  clear hor hol r1 r3 lm1 lm3 e1 e3 m1 m3
  go_wp2_with fail
  refine (rf.cmp_any a3 a1 n3 c3 n1 c1 _ _ _ R3.out.1 R1.out.1 R3.out.2.1 R1.out.2.1 R3.out.2.2 R1.out.2.2 o HOo.out).mono ?_
  rintro e w4 ⟨rfl, hb⟩
  have V1 := Lib.hid (V1.out.below hb)
  have V2 := Lib.hid (V2.out.below hb)
  have V3 := Lib.hid (V3.out.below hb)
  have HC4 := Lib.hid (HC3.out.trans (hb.mono HC3.out.size))
  clear hb R1 R3 HC3
  by_cases hc : o = -1
  rotate_left
  · have t2 : decide ((0 : Int) ≤ o) = true := decide_eq_true (by omega)
    have HF := Lib.hid (show raiseV N B Y = ([], 101) by unfold raiseV; rw [if_neg fun k => hc (HOL.out.2 k)])
    clear hc
    go_wp2
    go_ret2
    exact ⟨by rw [HF.out]; exact ⟨.slice none 0 0, rfl, World.ownsRow_nil _ _ _ _⟩, HPW.out ▸ (HB.out.trans (HC4.out.mono HB.out.size))⟩
  have t2 : decide ((0 : Int) ≤ o) = false := decide_eq_false (by omega)
  have HF := Lib.hid (show raiseV N B Y = Oc.padR (u8s (natB 256 (nV B ^ nV Y % nV N)).reverse) (N.length : Int) by unfold raiseV; rw [if_pos (HOL.out.1 hc)])
  clear hc
  go_wp2_with fail
  refine (rf.Power_s _ _ _ _ _ _ _ V3.out V2.out V1.out HM.out).mono ?_
  rintro e w5 ⟨hq, hb⟩
  rw [powR_yes HSB.out HSY.out] at hq
  obtain ⟨v5, rfl, hv⟩ := hq
  have hpt : nV B ^ nV Y % nV N < topN := Nat.lt_trans (Nat.mod_lt _ (by have := HM.out.2.1; omega)) HSN.out
  obtain ⟨a5, n5, c5, rfl, hn5, ho⟩ := num_slice hv hpt
  have H5 := Lib.hid ho
  have HC5 := Lib.hid (HC4.out.trans (hb.mono HC4.out.size))
  clear hv hb ho V1 V2 V3 HC4
  obtain ⟨Z, hZe⟩ : ∃ Z, nV B ^ nV Y % nV N = Z := ⟨_, rfl⟩
  rw [hZe] at HF H5 hpt
  have hZ := hpt
  clear hZe hpt
  go_wp2_with fail
  have HZT := Lib.hid hZ
  clear hZ
  refine wp_region_held_drew (S := fun X => X.cell? ⟨P, 0, none⟩ = some (.slice na nn nc) ∧ X.cell? ⟨P, 1, none⟩ = some (.slice ea en ec) ∧ X.cell? ⟨P, 2, none⟩ = some (.slice da dn dc)) (by kernel_rfl) (key_cells (HQ.out _ HC5.out.drew)) (fun hHeld => ?_)
  have H5 := Lib.hid (H5.out.below (Below.refl _ _).drew)
  replace HC5 := Lib.hid HC5.out.drew
  generalize w5.drew = w6 at *
  refine' wpAnyH_take (i := 0) (oi := _) (v := _) rfl (by kernel_rfl) (by kernel_rfl) (by kernel_rfl) (fun _ _ _ h => h) (Or.inl ⟨?_, ?_⟩) (by assumption) ?_
  rotate_left
  all_goals (try simp only [List.getElem_toArray, List.getElem_cons_succ, List.getElem_cons_zero])
  · rfl
  · intro W hSw; (try dsimp only at hSw); go_simp; (try with_reducible rfl)
  try simp only [Act.put, List.setIfInBounds_toArray, List.set_cons_zero, List.set_cons_succ]
  refine' wpAnyH_take (i := 2) (oi := _) (v := _) rfl (by kernel_rfl) (by kernel_rfl) (by kernel_rfl) (fun _ _ _ h => h) (Or.inl ⟨?_, ?_⟩) (by assumption) ?_
  rotate_left
  all_goals (try simp only [List.getElem_toArray, List.getElem_cons_succ, List.getElem_cons_zero])
  · rfl
  · intro W hSw; (try dsimp only at hSw); go_simp; (try with_reducible rfl)
  try simp only [Act.put, List.setIfInBounds_toArray, List.set_cons_zero, List.set_cons_succ]
  refine' wpAnyH_take (i := 3) (oi := _) (v := _) rfl (by kernel_rfl) (by kernel_rfl) (by kernel_rfl) (fun _ _ _ h => h) (Or.inl ⟨?_, ?_⟩) (by assumption) ?_
  rotate_left
  all_goals (try simp only [List.getElem_toArray, List.getElem_cons_succ, List.getElem_cons_zero])
  · rfl
  · intro W hSw; (try dsimp only at hSw); go_simp; (try with_reducible rfl)
  try simp only [Act.put, List.setIfInBounds_toArray, List.set_cons_zero, List.set_cons_succ]
  refine' wpAnyH_take (i := 4) (oi := _) (v := _) rfl (by kernel_rfl) (by kernel_rfl) (by kernel_rfl) (fun _ _ _ h => h) (Or.inl ⟨?_, ?_⟩) (by assumption) ?_
  rotate_left
  all_goals (try simp only [List.getElem_toArray, List.getElem_cons_succ, List.getElem_cons_zero])
  · rfl
  · intro W hSw; (try dsimp only at hSw); go_simp; (try with_reducible rfl)
  try simp only [Act.put, List.setIfInBounds_toArray, List.set_cons_zero, List.set_cons_succ]
  refine wpAnyH_ready (rs := [1]) (by kernel_rfl) (by simp) ?_
  refine AllReadyH.cons (o := _) rfl (fun K hK => ?_) AllReadyH.nil
  try simp only [List.getElem_toArray, List.getElem_cons_succ, List.getElem_cons_zero]
  go_simp
  refine (rf.bytes_any a5 n5 c5 _ _ H5.out.reads (lim_nat _) (by omega)).mono ?_; rintro e w7 ⟨⟨v7, rfl, hv⟩, hb⟩; rw [val_nat] at hv; obtain ⟨a7, n7, c7, rfl, hn7, ho⟩ := hv.slice; have H7 := Lib.hid ho; have HC5 := Lib.hid (HC5.out.trans (hb.mono HC5.out.size)); have hn7b : n7 ≤ 1024 := (by rw [hn7, List.length_reverse]; exact (natB_length (by decide) Z 1024).2 (by rw [← topN_256]; exact HZT.out)); clear hv hb ho hn7
  go_wp2_with fail
  refine hK.out _ _ (key_cells (HQ.out _ HC5.out)) (fun hHeld => ?_)
  clear hK K
  try simp only [Act.put, List.setIfInBounds_toArray, List.set_cons_zero, List.set_cons_succ]
  refine wpAnyH_ready (rs := [5]) (by kernel_rfl) (by simp) ?_
  refine AllReadyH.cons (o := _) rfl (fun K hK => ?_) AllReadyH.nil
  try simp only [List.getElem_toArray, List.getElem_cons_succ, List.getElem_cons_zero]
  go_simp
  refine (Oc.refpad_any a7 n7 c7 _ (nn : Int) _ (H7.out.reads.bts (fun x hx => natB_digit (by decide) Z x (List.mem_reverse.1 hx))) (by omega)).mono ?_; rintro e w8 ⟨⟨v8, rfl, hv⟩, hb⟩; have H8 := Lib.hid (hv.mono HC5.out.size); have HC5 := Lib.hid (HC5.out.trans (hb.mono HC5.out.size)); clear hv hb
  go_wp2_with fail
  refine hK.out _ _ (key_cells (HQ.out _ HC5.out)) (fun hHeld => ?_)
  clear hK K
  try simp only [Act.put, List.setIfInBounds_toArray, List.set_cons_zero, List.set_cons_succ]
  refine' wpAnyH_take (i := 6) (oi := _) (v := _) rfl (by kernel_rfl) (by kernel_rfl) (by kernel_rfl) (fun _ _ _ h => h) (Or.inl ⟨?_, ?_⟩) (by assumption) ?_
  rotate_left
  all_goals (try simp only [List.getElem_toArray, List.getElem_cons_succ, List.getElem_cons_zero])
  · rfl
  · intro W hSw; (try dsimp only at hSw); go_simp; (try with_reducible rfl)
  try simp only [Act.put, List.setIfInBounds_toArray, List.set_cons_zero, List.set_cons_succ]
  refine' wpAnyH_take (i := 7) (oi := _) (v := _) rfl (by kernel_rfl) (by kernel_rfl) (by kernel_rfl) (fun _ _ _ h => h) (Or.inl ⟨?_, ?_⟩) (by assumption) ?_
  rotate_left
  all_goals (try simp only [List.getElem_toArray, List.getElem_cons_succ, List.getElem_cons_zero])
  · rfl
  · intro W hSw; (try dsimp only at hSw); go_simp; (try with_reducible rfl)
  try simp only [Act.put, List.setIfInBounds_toArray, List.set_cons_zero, List.set_cons_succ]
  refine' wpAnyH_take (i := 8) (oi := _) (v := _) rfl (by kernel_rfl) (by kernel_rfl) (by kernel_rfl) (fun _ _ _ h => h) (Or.inl ⟨?_, ?_⟩) (by assumption) ?_
  rotate_left
  all_goals (try simp only [List.getElem_toArray, List.getElem_cons_succ, List.getElem_cons_zero])
  · rfl
  · intro W hSw; (try dsimp only at hSw); go_simp; (try with_reducible rfl)
  try simp only [Act.put, List.setIfInBounds_toArray, List.set_cons_zero, List.set_cons_succ]
  refine' wpAnyH_take (i := 9) (oi := _) (v := _) rfl (by kernel_rfl) (by kernel_rfl) (by kernel_rfl) (fun _ _ _ h => h) (Or.inl ⟨?_, ?_⟩) (by assumption) ?_
  rotate_left
  all_goals (try simp only [List.getElem_toArray, List.getElem_cons_succ, List.getElem_cons_zero])
  · rfl
  · intro W hSw; (try dsimp only at hSw); go_simp; (try with_reducible rfl)
  try simp only [Act.put, List.setIfInBounds_toArray, List.set_cons_zero, List.set_cons_succ]
  refine wpAnyH_done (by kernel_rfl) ?_ _
  simp only [Exit.then]
  clear hHeld
  go_wp2
  go_ret2
  exact ⟨by rw [HF.out, HNL.out]; exact ⟨v8, rfl, H8.out.mono (HPW.out ▸ HB.out.size)⟩, HPW.out ▸ (HB.out.trans (HC5.out.mono HB.out.size))⟩
set_option maxRecDepth 100000
theorem two_top {j k : Nat} (hj : topM = 2 ^ j) (hk : k ≤ j) {n : Nat} (h : n < 2 ^ k) : n < topM := by
  rw [hj]
  exact Nat.lt_of_lt_of_le h (Nat.pow_le_pow_right (show 0 < 2 by decide) hk)
theorem topM_2 {j : Nat} (hj : j = 4096) : topM = 2 ^ j := by
  have h : ∀ a b c d e : Nat, a = b ^ c → e = c * d → a ^ d = b ^ e := by
    rintro a b c d e rfl rfl
    exact (Nat.pow_mul b c d).symm
  exact h 4294967296 2 32 128 j (by decide) (by omega)
theorem pub_mod {N E : List Nat} (h : PubP N E) : Mod3 (nV N) := by
  obtain ⟨-, -, h1, h2, -, -, h3, -, -⟩ := h
  refine ⟨two_top (topM_2 rfl) (Nat.le_refl _) ((bitsN_le (nV N) 4096).1 h2), ?_, ?_⟩
  · by_cases h4 : 3 ≤ nV N
    · exact h4
    · have h5 := (bitsN_le (nV N) 2).2 (by omega)
      omega
  · rw [Nat.testBit_zero] at h3
    exact of_decide_eq_true h3
open Classical in
noncomputable def rRaise (N E B : List Nat) : List UInt8 × Int := if PubP N E then raiseV N B E else ([], 100)
open Classical in
noncomputable def rLower (N E D B : List Nat) : List UInt8 × Int := if PrivP N E D then raiseV N B D else ([], 100)
set_option maxHeartbeats 4000000 in
theorem rraise_any (na : Option Addr) (nn nc : Nat) (N : List Nat) (ea : Option Addr) (en ec : Nat) (E : List Nat) (da : Option Addr) (dn dc : Nat) (D : List Nat) (ba : Option Addr) (bn bc : Nat) (B : List Nat) (w : World) (hN : Reads .u8 w na nn nc N) (bN : Byt N) (hE : Reads .u8 w ea en ec E) (bE : Byt E) (hD : Reads .u8 w da dn dc D) (bD : Byt D) (hB : Reads .u8 w ba bn bc B) (bB : Byt B) (ln : nn ≤ 700) (le : en ≤ 700) (ld : dn ≤ 700) (lb : bn ≤ 1000) :
    Calls Try.prog 7 #[.agg #[.slice na nn nc, .slice ea en ec, .slice da dn dc], .slice ba bn bc] w fun e w' => Oc.RetsOwn2 w.heap.size w' (rRaise N E B) e ∧ Below w.heap.size w w' := by
  have HRN := Lib.hid hN
  have HRE := Lib.hid hE
  have HRD := Lib.hid hD
  have HRB := Lib.hid hB
  have HBN := Lib.hid bN
  have HBE := Lib.hid bE
  have HBD := Lib.hid bD
  have HBB := Lib.hid bB
  have hba := (Below.refl w.heap.size w).alloc (Nat.le_refl _) (.cells #[.slice na nn nc, .slice ea en ec, .slice da dn dc] 24)
  have hq0 : (w.alloc (.cells #[.slice na nn nc, .slice ea en ec, .slice da dn dc] 24)).heap[w.heap.size]? = some (.cells #[.slice na nn nc, .slice ea en ec, .slice da dn dc] 24) := World.alloc_heap_new w _
  have HQ0 := Lib.hid hq0
  have HB := Lib.hid hba
  clear hN bN hE bE hD bD hB bB hba hq0
  go_enter Try.func7, Try.ntmps7
  go_wp2_with fail
  generalize w.alloc (.cells #[.slice na nn nc, .slice ea en ec, .slice da dn dc] 24) = w0 at *
  obtain ⟨P, hP⟩ : ∃ P, w.heap.size = P := ⟨_, rfl⟩
  rw [hP] at HQ0 ⊢
  have HPW := Lib.hid hP
  have HQ : Hid (∀ X, Below w0.heap.size w0 X → X.heap[P]? = some (.cells #[.slice na nn nc, .slice ea en ec, .slice da dn dc] 24)) := Lib.hid fun X hX => (hX.block P (Array.getElem?_eq_some_iff.1 HQ0.out).1).trans HQ0.out
  clear hP HQ0
  obtain ⟨k0, k1, k2⟩ := key_cells (HQ.out _ (Below.refl _ _))
  go_wp2_with fail
  refine (rpublic_any na nn nc N ea en ec E da dn dc w0 (HRN.out.below HB.out) HBN.out (HRE.out.below HB.out) HBE.out ln le).mono ?_
  rintro e w1 ⟨rfl, hb⟩
  have HC1 := Lib.hid hb
  clear k0 k1 k2 hb
  by_cases hp : PubP N E
  rotate_left
  · have HF := Lib.hid (show rRaise N E B = ([], 100) by unfold rRaise; rw [if_neg hp])
    rw [show pubE N E = 100 by unfold pubE; rw [if_neg hp]]
    clear hp
    go_wp2
    go_ret2
    exact ⟨by rw [HF.out]; exact ⟨.slice none 0 0, rfl, World.ownsRow_nil _ _ _ _⟩, HPW.out ▸ (HB.out.trans (HC1.out.mono HB.out.size))⟩
  have HF := Lib.hid (show rRaise N E B = raiseV N B E by unfold rRaise; rw [if_pos hp])
  have HM := Lib.hid (pub_mod (N := N) (E := E) hp)
  rw [show pubE N E = 0 by unfold pubE; rw [if_pos hp]]
  clear hp
  obtain ⟨k0, k1, k2⟩ := key_cells (HQ.out _ HC1.out)
  have HW1 := Lib.hid (HB.out.trans (HC1.out.mono HB.out.size))
  go_wp2_with fail
  refine (rpower_any na nn nc N ea en ec E da dn dc D ba bn bc B ea en ec E _ (HRN.out.below HW1.out) HBN.out (HRB.out.below HW1.out) HBB.out (HRE.out.below HW1.out) HBE.out ln lb le HM.out).mono ?_
  rintro e w2 ⟨⟨v, rfl, hv⟩, hb⟩
  have HV := Lib.hid (hv.mono HW1.out.size)
  have HW2 := Lib.hid (HW1.out.trans (hb.mono HW1.out.size))
  clear k0 k1 k2 hv hb
  go_wp2
  go_ret2
  exact ⟨by rw [HF.out]; exact ⟨v, rfl, HPW.out ▸ HV.out⟩, HPW.out ▸ HW2.out⟩
set_option maxHeartbeats 4000000 in
theorem rlower_any (na : Option Addr) (nn nc : Nat) (N : List Nat) (ea : Option Addr) (en ec : Nat) (E : List Nat) (da : Option Addr) (dn dc : Nat) (D : List Nat) (ba : Option Addr) (bn bc : Nat) (B : List Nat) (w : World) (hN : Reads .u8 w na nn nc N) (bN : Byt N) (hE : Reads .u8 w ea en ec E) (bE : Byt E) (hD : Reads .u8 w da dn dc D) (bD : Byt D) (hB : Reads .u8 w ba bn bc B) (bB : Byt B) (ln : nn ≤ 700) (le : en ≤ 700) (ld : dn ≤ 700) (lb : bn ≤ 1000) :
    Calls Try.prog 10 #[.agg #[.slice na nn nc, .slice ea en ec, .slice da dn dc], .slice ba bn bc] w fun e w' => Oc.RetsOwn2 w.heap.size w' (rLower N E D B) e ∧ Below w.heap.size w w' := by
  have HRN := Lib.hid hN
  have HRE := Lib.hid hE
  have HRD := Lib.hid hD
  have HRB := Lib.hid hB
  have HBN := Lib.hid bN
  have HBE := Lib.hid bE
  have HBD := Lib.hid bD
  have HBB := Lib.hid bB
  have hba := (Below.refl w.heap.size w).alloc (Nat.le_refl _) (.cells #[.slice na nn nc, .slice ea en ec, .slice da dn dc] 24)
  have hq0 : (w.alloc (.cells #[.slice na nn nc, .slice ea en ec, .slice da dn dc] 24)).heap[w.heap.size]? = some (.cells #[.slice na nn nc, .slice ea en ec, .slice da dn dc] 24) := World.alloc_heap_new w _
  have HQ0 := Lib.hid hq0
  have HB := Lib.hid hba
  clear hN bN hE bE hD bD hB bB hba hq0
  go_enter Try.func10, Try.ntmps10
  go_wp2_with fail
  generalize w.alloc (.cells #[.slice na nn nc, .slice ea en ec, .slice da dn dc] 24) = w0 at *
  obtain ⟨P, hP⟩ : ∃ P, w.heap.size = P := ⟨_, rfl⟩
  rw [hP] at HQ0 ⊢
  have HPW := Lib.hid hP
  have HQ : Hid (∀ X, Below w0.heap.size w0 X → X.heap[P]? = some (.cells #[.slice na nn nc, .slice ea en ec, .slice da dn dc] 24)) := Lib.hid fun X hX => (hX.block P (Array.getElem?_eq_some_iff.1 HQ0.out).1).trans HQ0.out
  clear hP HQ0
  obtain ⟨k0, k1, k2⟩ := key_cells (HQ.out _ (Below.refl _ _))
  go_wp2_with fail
  refine (rprivate_any na nn nc N ea en ec E da dn dc D w0 (HRN.out.below HB.out) HBN.out (HRE.out.below HB.out) HBE.out (HRD.out.below HB.out) HBD.out ln le ld).mono ?_
  rintro e w1 ⟨rfl, hb⟩
  have HC1 := Lib.hid hb
  clear k0 k1 k2 hb
  by_cases hp : PrivP N E D
  rotate_left
  · have HF := Lib.hid (show rLower N E D B = ([], 100) by unfold rLower; rw [if_neg hp])
    rw [show privE N E D = 100 by unfold privE; rw [if_neg hp]]
    clear hp
    go_wp2
    go_ret2
    exact ⟨by rw [HF.out]; exact ⟨.slice none 0 0, rfl, World.ownsRow_nil _ _ _ _⟩, HPW.out ▸ (HB.out.trans (HC1.out.mono HB.out.size))⟩
  have HF := Lib.hid (show rLower N E D B = raiseV N B D by unfold rLower; rw [if_pos hp])
  have HM := Lib.hid (pub_mod (N := N) (E := E) hp.1)
  rw [show privE N E D = 0 by unfold privE; rw [if_pos hp]]
  clear hp
  obtain ⟨k0, k1, k2⟩ := key_cells (HQ.out _ HC1.out)
  have HW1 := Lib.hid (HB.out.trans (HC1.out.mono HB.out.size))
  go_wp2_with fail
  refine (rpower_any na nn nc N ea en ec E da dn dc D ba bn bc B da dn dc D _ (HRN.out.below HW1.out) HBN.out (HRB.out.below HW1.out) HBB.out (HRD.out.below HW1.out) HBD.out ln lb ld HM.out).mono ?_
  rintro e w2 ⟨⟨v, rfl, hv⟩, hb⟩
  have HV := Lib.hid (hv.mono HW1.out.size)
  have HW2 := Lib.hid (HW1.out.trans (hb.mono HW1.out.size))
  clear k0 k1 k2 hv hb
  go_wp2
  go_ret2
  exact ⟨by rw [HF.out]; exact ⟨v, rfl, HPW.out ▸ HV.out⟩, HPW.out ▸ HW2.out⟩
end Go.Proofs.Ytpefjkndfifceaa
namespace Go.Proofs.Ytpefjkndfifceaa.Oc
open Go.RowKit
abbrev Row2 := Option Addr × Nat × Nat × List UInt8
def joined (L : List Row2) : List UInt8 := L.flatMap (·.2.2.2)
theorem joined_step (L : List Row2) (k : Nat) (hk : k < L.length) : joined (L.take (k + 1)) = joined (L.take k) ++ (L[k]?.getD (none, 0, 0, [])).2.2.2 := by
  have e : L.take (k + 1) = L.take k ++ [L[k]] := by rw [List.take_add_one, List.getElem?_eq_getElem hk]; rfl
  rw [e, List.getElem?_eq_getElem hk]
  unfold joined
  rw [List.flatMap_append, List.flatMap_singleton]
  rfl
theorem joined_le (L : List Row2) (k : Nat) : (joined (L.take k)).length ≤ (joined L).length := by
  have e : (joined L).length = (joined (L.take k ++ L.drop k)).length := by rw [List.take_append_drop]
  unfold joined at *
  rw [List.flatMap_append, List.length_append] at e
  omega
set_option maxHeartbeats 800000 in
theorem join_any (a : Option Addr) (n cap : Nat) (L : List Row2) (w : World) (h : Rows2 w a n cap L) (hm : (joined L).length ≤ 140737488355328) :
    Calls Try.prog 46 #[.slice a n cap] w fun e w' => RetsOwn w.heap.size w' (joined L) e ∧ Below w.heap.size w w' := by
  obtain ⟨i0, hi, hz0, hz1, hz2⟩ := info_parts Try.info8
  have H := Lib.hid h
  have hl := Lib.hid h.length
  have hmn := h.max
  unfold maxLen at hmn
  clear h
  go_enter Try.func46, Try.ntmps46
  go_wp2
  go_loop [3, 11] (fun s i => ∃ k : Nat, k ≤ n ∧ i = .int .i64 k ∧ s = .int .i64 ((joined (L.take k)).length : Nat)) (fun _ i => n - (intOf i).toNat)
  case atStart => exact ⟨0, Nat.zero_le _, rfl, rfl⟩
  case round =>
    obtain ⟨k, hk, rfl, rfl⟩ := hrel
    by_cases hlt : k < n
    · obtain ⟨b, off, rfl, hbl, hc⟩ := H.out.cells (by omega)
      have hck := hc k hlt
      have hat := H.out.at k hlt
      have hst := joined_step L k (by have := hl.out; omega)
      have hst2 := Lib.hid (show (joined (L.take (k + 1))).length = (joined (L.take k)).length + (L[k]?.getD (none, 0, 0, [])).2.1 by rw [hst, List.length_append, hat.length])
      have hjl := joined_le L (k + 1)
      rw [hst2.out] at hjl
      clear hc hst hat
      generalize (L[k]?.getD (none, 0, 0, [])) = r at *
      obtain ⟨ra, rl, rc, rb⟩ := r
      simp only at hck hst2 hjl
      generalize hJ : (joined L).length = J at *
      clear hJ
      generalize (joined (L.take k)).length = jk at *
      go_wp2
      go_round
      case rel => exact ⟨k + 1, by omega, by go_num, by rw [hst2.out]; go_num⟩
      case measure => simp [intOf] <;> omega
    · obtain rfl : k = n := by omega
      have eJ : (joined (L.take k)).length = (joined L).length := by rw [List.take_of_length_le (by have := hl.out; omega)]
      rw [eJ]
      generalize hJ : (joined L).length = J at *
      have HJ := Lib.hid hJ
      clear hJ eJ
      go_wp2_with (at_make; refine wpList_make_own _ rfl _ _ 22 rfl w.heap.size 5 i0 (.int .u8 0) 1 Try.underlying22 hi hz0 hz1 _ _ _ J rfl rfl rfl (by rw [hz2]; omega) (by unfold maxLen; omega) (Nat.le_refl _) ?_; intro w1 hown0 hgrow0)
      have hb0 : Below w.heap.size w w1 := (Below.refl _ _).grown hgrow0 (Nat.le_refl _) (fun _ h => by cases h)
      clear hgrow0
      have HO := Lib.hid hown0
      clear hown0
      go_loopw [6, 24] (fun v i wr => ∃ k' : Nat, k' ≤ k ∧ i = .int .i64 k' ∧ Own8 5 w.heap.size wr v (joined (L.take k')) ∧ Below w.heap.size w wr) (fun _ i _ => k - (intOf i).toNat)
      case atStart => exact ⟨0, Nat.zero_le _, rfl, HO.out, hb0⟩
      case round =>
        obtain ⟨q, hq, rfl, hown, hb⟩ := hrel
        have hsz := hb.size
        by_cases hlq : q < k
        · obtain ⟨b, off, rfl, hbl, hc⟩ := (H.out.below hb).cells (by omega)
          have hck := hc q hlq
          have hat := (H.out.below hb).at q hlq
          have hst := Lib.hid (joined_step L q (by have := hl.out; omega))
          have hjl := joined_le L (q + 1)
          rw [hst.out, List.length_append, hat.length, HJ.out] at hjl
          clear hc
          generalize (L[q]?.getD (none, 0, 0, [])) = r at *
          obtain ⟨ra, rl, rc, rb⟩ := r
          simp only at hck hst hjl hat
          have HA := Lib.hid hat
          clear hat
          go_wp2_with (at_builtin; refine wpList_append_bts _ rfl _ _ 22 rfl w.heap.size 5 i0 Try.underlying22 hi hz0 hz1 hz2 _ (joined (L.take q)) rfl hown _ _ _ rb rfl HA.out (by omega) (by omega) ?_; intro v' w2 hown2 hgrow)
          go_roundw
          case rel => exact ⟨q + 1, by omega, by go_num, by rw [hst.out]; exact hown2, hgrow _ hb⟩
          case measure => simp [intOf] <;> omega
        · obtain rfl : q = k := by omega
          go_wp2
          go_ret
          rw [List.take_of_length_le (by have := hl.out; omega)] at hown
          exact ⟨⟨_, rfl, hown⟩, hb⟩
theorem rows2_lit2 (w : World) (T : TypeId) (a1 a2 : Option Addr) (n1 c1 n2 c2 : Nat) (l1 l2 : List UInt8) (h1 : Bts w a1 n1 c1 l1) (h2 : Bts w a2 n2 c2 l2) :
    Rows2 (w.alloc (.cells #[.slice a1 n1 c1, .slice a2 n2 c2] T)) (some ⟨w.heap.size, 0, none⟩) 2 2 [(a1, n1, c1, l1), (a2, n2, c2, l2)] := by
  refine ⟨rfl, by unfold maxLen; omega, fun _ => ⟨w.heap.size, 0, rfl, by simp, fun i hi => ?_⟩, fun x hx => ?_⟩
  · rw [World.cell?_alloc_at _ _ _ _ rfl]
    match i, hi with
    | 0, _ => rfl
    | 1, _ => rfl
  · have hb : Below w.heap.size w (w.alloc (.cells #[.slice a1 n1 c1, .slice a2 n2 c2] T)) := (Below.refl _ _).alloc (Nat.le_refl _) _
    rcases List.mem_cons.1 hx with rfl | hx
    · exact h1.below hb
    · obtain rfl := List.mem_singleton.1 hx
      exact h2.below hb
set_option maxHeartbeats 800000 in
theorem pad_any (a : Option Addr) (len cap : Nat) (l : List UInt8) (s : Int) (w : World) (h : Bts w a len cap l) :
    Calls Try.prog 27 #[.slice a len cap, .int .i64 s] w fun e w' => RetsOwn2 w.heap.size w' (padR l s) e ∧ Below w.heap.size w w' := by
  obtain ⟨i0, hi, hz0, hz1, hz2⟩ := info_parts Try.info8
  have hT := bare_any a len cap l w h
  clear h
  by_cases hs : 0 ≤ s ∧ s ≤ 65536
  · obtain ⟨m, rfl⟩ := Int.eq_ofNat_of_zero_le hs.1
    have hms : m ≤ 65536 := by omega
    have hY := fun W => sized_yes (m : Int) W hs
    clear hs
    by_cases hlong : m < (bareL l).length
    · have e := Lib.hid (padR_long (l := l) hms hlong)
      go_enter Try.func27, Try.ntmps27
      go_wp2_with (first | (go_at_call 44; refine (hY _).mono ?_; rintro e w' ⟨rfl, rfl⟩) | (go_at_call 45; refine hT.mono ?_; rintro e w1 ⟨⟨a', c', rfl, hr⟩, rfl⟩))
      go_ret2
      exact ⟨⟨_, by rw [e.out]; rfl, by rw [e.out]; exact Own8.nil _ _ _⟩, Below.refl _ _⟩
    · have e := Lib.hid (padR_yes (l := l) hms (by omega))
      have hle : (bareL l).length ≤ m := by omega
      generalize bareL l = t at *
      go_enter Try.func27, Try.ntmps27
      go_wp2_with (first | (go_at_call 44; refine (hY _).mono ?_; rintro e w' ⟨rfl, rfl⟩) | (go_at_call 45; refine hT.mono ?_; rintro e w1 ⟨⟨a', c', rfl, hr⟩, rfl⟩; have HR := Lib.hid hr; clear hr hT) | (at_make; refine wpList_make_full _ rfl _ _ 22 rfl w.heap.size 5 i0 (.int .u8 0) 1 Try.underlying22 hi hz0 hz1 _ _ _ _ (m - t.length) rfl rfl (by omega) (by omega) (by rw [hz2]; omega) (by unfold maxLen; omega) (Nat.le_refl _) ?_; intro w1 hown hgrow))
      have hown1 : Own8 5 w.heap.size w1 (.slice (some ⟨w.heap.size, 0, none⟩) (m - t.length) (m - t.length)) (List.replicate (m - t.length) 0) := by
        unfold Own8
        rw [← zeros_byt]
        simpa using hown
      have hb1 : Below w.heap.size w w1 := (Below.refl _ _).grown hgrow (Nat.le_refl _) (fun _ h => by cases h)
      refine (join_any _ _ _ [(some ⟨w.heap.size, 0, none⟩, m - t.length, m - t.length, List.replicate (m - t.length) 0), (a', t.length, c', t)] _ (rows2_lit2 w1 22 _ _ _ _ _ _ _ _ hown1.bts (HR.out.below hb1)) (by simp [joined]; omega)).mono ?_
      rintro e2 w2 ⟨⟨v, rfl, ho⟩, hb2⟩
      have hsz := hb1.size
      go_wp2
      go_ret2
      have ho2 : Own8 5 (w1.heap.size + 1) w2 v (List.replicate (m - t.length) 0 ++ t) := by simpa [joined] using ho
      exact ⟨⟨_, by rw [e.out]; rfl, by rw [e.out]; exact ho2.mono (by omega)⟩, (hb1.alloc hsz _).trans (hb2.mono (by simp; omega))⟩
  · have e := Lib.hid (padR_no (l := l) hs)
    have hN := fun W => sized_no s W hs
    clear hs
    go_enter Try.func27, Try.ntmps27
    go_wp2_with (go_at_call 44; refine (hN _).mono ?_; rintro e w' ⟨rfl, rfl⟩)
    go_ret2
    exact ⟨⟨_, by rw [e.out]; rfl, by rw [e.out]; exact Own8.nil _ _ _⟩, Below.refl _ _⟩
end Go.Proofs.Ytpefjkndfifceaa.Oc
namespace Go.Proofs.Ytpefjkndfifceaa
open Go.RowKit
set_option maxRecDepth 100000
theorem results_cell1 {fn : Func} {p : Tmp} {ty : TypeId} (h : fn.results = #[.cell p ty]) (tmps : Array Value) (P : Program) (w : World) :
    (results fn tmps).run P w = ((asAddr (tmps.getD p undef)).run P w).andThen fun a w₁ => (loadVar ty a).run P w₁ := by
  simp [results, h]
theorem half_cells {X : World} {P : Nat} {c0 c1 : Value} {t : TypeId} (h : X.heap[P]? = some (.cells #[c0, c1] t)) : X.cell? ⟨P, 0, none⟩ = some c0 ∧ X.cell? ⟨P, 1, none⟩ = some c1 := by
  simp [World.cell?, h]
theorem publicE_m (x y z : Value) (w : World) (hx : ∃ a n c, x = .slice a n c) (hy : ∃ a n c, y = .slice a n c) (hz : ∃ a n c, z = .slice a n c) :
    Calls Try.prog 23 #[.agg #[x, y, z]] w fun e w' => e = .returned y ∧ Below w.heap.size w w' := by
  obtain ⟨a1, n1, c1, rfl⟩ := hx
  obtain ⟨a2, n2, c2, rfl⟩ := hy
  obtain ⟨a3, n3, c3, rfl⟩ := hz
  go_enter Try.func23, Try.ntmps23
  go_wp2
  go_ret
  exact ⟨rfl, (Below.refl _ _).alloc (Nat.le_refl _) _⟩
theorem privateE_m (x y z : Value) (w : World) (hx : ∃ a n c, x = .slice a n c) (hy : ∃ a n c, y = .slice a n c) (hz : ∃ a n c, z = .slice a n c) :
    Calls Try.prog 35 #[.agg #[x, y, z]] w fun e w' => e = .returned z ∧ Below w.heap.size w w' := by
  obtain ⟨a1, n1, c1, rfl⟩ := hx
  obtain ⟨a2, n2, c2, rfl⟩ := hy
  obtain ⟨a3, n3, c3, rfl⟩ := hz
  go_enter Try.func35, Try.ntmps35
  go_wp2
  go_ret
  exact ⟨rfl, (Below.refl _ _).alloc (Nat.le_refl _) _⟩
theorem publicHalf_any (w : World) : Calls Try.prog 12 #[] w fun e w' => e = .returned (.agg #[.func (.func 22) #[] #[], .func (.func 23) #[] #[]]) ∧ Below w.heap.size w w' := by
  go_enter Try.func12, Try.ntmps12
  go_wp2
  refine bodyPost_ret (v := .agg #[.func (.func 22) #[] #[], .func (.func 23) #[] #[]]) ?_ rfl ⟨rfl, ?_⟩
  · rw [results_cell1 rfl]
    go_simp
  · exact ((Below.refl _ _).alloc (Nat.le_refl _) _)
set_option maxHeartbeats 8000000 in
theorem hraise_any (na : Option Addr) (nn nc : Nat) (N : List Nat) (ea : Option Addr) (en ec : Nat) (E : List Nat) (da : Option Addr) (dn dc : Nat) (D : List Nat) (ba : Option Addr) (bn bc : Nat) (B : List Nat) (w : World) (hN : Reads .u8 w na nn nc N) (bN : Byt N) (hE : Reads .u8 w ea en ec E) (bE : Byt E) (hD : Reads .u8 w da dn dc D) (bD : Byt D) (hB : Reads .u8 w ba bn bc B) (bB : Byt B) (ln : nn ≤ 700) (le : en ≤ 700) (ld : dn ≤ 700) (lb : bn ≤ 1000) :
    Calls Try.prog 13 #[.agg #[.func (.func 22) #[] #[], .func (.func 23) #[] #[]], .agg #[.slice na nn nc, .slice ea en ec, .slice da dn dc], .slice ba bn bc] w fun e w' => Oc.RetsOwn2 w.heap.size w' (rRaise N E B) e ∧ Below w.heap.size w w' := by
  have HRN := Lib.hid hN
  have HRE := Lib.hid hE
  have HRD := Lib.hid hD
  have HRB := Lib.hid hB
  have HBN := Lib.hid bN
  have HBE := Lib.hid bE
  have HBD := Lib.hid bD
  have HBB := Lib.hid bB
  have HNL := Lib.hid hN.length
  have HSN := Lib.hid (key_small bN (by rw [hN.length]; exact ln))
  have HSY := Lib.hid (key_small bE (by rw [hE.length]; exact le))
  have HSB := Lib.hid (byte_small bB (by rw [hB.length]; omega))
  have hba := ((Below.refl w.heap.size w).alloc (Nat.le_refl _) (.cells #[.func (.func 22) #[] #[], .func (.func 23) #[] #[]] 37)).alloc (by simp) (.cells #[.slice na nn nc, .slice ea en ec, .slice da dn dc] 24)
  have hqh : ((w.alloc (.cells #[.func (.func 22) #[] #[], .func (.func 23) #[] #[]] 37)).alloc (.cells #[.slice na nn nc, .slice ea en ec, .slice da dn dc] 24)).heap[w.heap.size]? = some (.cells #[.func (.func 22) #[] #[], .func (.func 23) #[] #[]] 37) := (Below.heap_alloc _ _ _ (by simp)).trans (World.alloc_heap_new w _)
  have hqk : ((w.alloc (.cells #[.func (.func 22) #[] #[], .func (.func 23) #[] #[]] 37)).alloc (.cells #[.slice na nn nc, .slice ea en ec, .slice da dn dc] 24)).heap[w.heap.size + 1]? = some (.cells #[.slice na nn nc, .slice ea en ec, .slice da dn dc] 24) := by
    have h := World.alloc_heap_new (w.alloc (.cells #[.func (.func 22) #[] #[], .func (.func 23) #[] #[]] 37)) (.cells #[.slice na nn nc, .slice ea en ec, .slice da dn dc] 24)
    rwa [World.size_alloc] at h
  have HQH0 := Lib.hid hqh
  have HQK0 := Lib.hid hqk
  have HB := Lib.hid hba
  clear hN bN hE bE hD bD hB bB hba hqh hqk
  go_enter Try.func13, Try.ntmps13
  go_wp2_with fail
  generalize (w.alloc (.cells #[.func (.func 22) #[] #[], .func (.func 23) #[] #[]] 37)).alloc (.cells #[.slice na nn nc, .slice ea en ec, .slice da dn dc] 24) = w0 at *
  obtain ⟨P, hP⟩ : ∃ P, w.heap.size = P := ⟨_, rfl⟩
  simp only [hP] at HQH0 HQK0 ⊢
  have HPW := Lib.hid hP
  have HQ : Hid (∀ X, Below w0.heap.size w0 X → X.heap[P + 1]? = some (.cells #[.slice na nn nc, .slice ea en ec, .slice da dn dc] 24)) := Lib.hid fun X hX => (hX.block _ (Array.getElem?_eq_some_iff.1 HQK0.out).1).trans HQK0.out
  have HQH : Hid (∀ X, Below w0.heap.size w0 X → X.heap[P]? = some (.cells #[.func (.func 22) #[] #[], .func (.func 23) #[] #[]] 37)) := Lib.hid fun X hX => (hX.block _ (Array.getElem?_eq_some_iff.1 HQH0.out).1).trans HQH0.out
  clear hP HQH0 HQK0
  obtain ⟨q0, q1⟩ := half_cells (HQH.out _ (Below.refl _ _))
  obtain ⟨k0, k1, k2⟩ := key_cells (HQ.out _ (Below.refl _ _))
  go_wp2_with fail
  refine (public_any na nn nc N ea en ec E da dn dc w0 (HRN.out.below HB.out) HBN.out (HRE.out.below HB.out) HBE.out ln le).mono ?_
  rintro e w1 ⟨rfl, hb⟩
  have HC1 := Lib.hid hb
  clear q0 q1 k0 k1 k2 hb
  by_cases hp : PubP N E
  rotate_left
  · have HF := Lib.hid (show rRaise N E B = ([], 100) by unfold rRaise; rw [if_neg hp])
    rw [show pubE N E = 100 by unfold pubE; rw [if_neg hp]]
    clear hp
    go_wp2
    go_ret2
    exact ⟨by rw [HF.out]; exact ⟨.slice none 0 0, rfl, World.ownsRow_nil _ _ _ _⟩, HPW.out ▸ (HB.out.trans (HC1.out.mono HB.out.size))⟩
  have HFR := Lib.hid (show rRaise N E B = raiseV N B E by unfold rRaise; rw [if_pos hp])
  have HM := Lib.hid (pub_mod (N := N) (E := E) hp)
  rw [show pubE N E = 0 by unfold pubE; rw [if_pos hp]]
  clear hp
  obtain ⟨k0, k1, k2⟩ := key_cells (HQ.out _ HC1.out)
  go_wp2_with fail
  refine (read_any na nn nc N w1 (HRN.out.below (HB.out.trans (HC1.out.mono HB.out.size))) HBN.out (by omega)).mono ?_
  rintro e w2 ⟨⟨v1, rfl, hv⟩, hb⟩
  rw [cutR_small HSN.out] at hv ⊢
  obtain ⟨a1, n1, c1, rfl, hn1, o1⟩ := num_slice hv HSN.out
  have V1 := Lib.hid o1
  have HC2 := Lib.hid (HC1.out.trans (hb.mono HC1.out.size))
  clear k0 k1 k2 hv hb HC1 o1
  go_wp2_with fail
  refine (read_any ba bn bc B w2 (HRB.out.below (HB.out.trans (HC2.out.mono HB.out.size))) HBB.out (by omega)).mono ?_
  rintro e w3 ⟨⟨v3, rfl, hv⟩, hb⟩
  rw [cutR_small HSB.out] at hv ⊢
  obtain ⟨a3, n3, c3, rfl, hn3, o3⟩ := num_slice hv HSB.out
  have V3 := Lib.hid o3
  replace V1 := Lib.hid (V1.out.below hb)
  have HC3 := Lib.hid (HC2.out.trans (hb.mono HC2.out.size))
  clear hv hb HC2 o3
  obtain ⟨o, hor⟩ : ∃ x, x = ordN (nV B) (nV N) := ⟨_, rfl⟩
  have hol : o = -1 ↔ nV B < nV N := by
    rw [hor]
    unfold ordN
    by_cases h : nV B < nV N
    · rw [if_pos h]; exact ⟨fun _ => h, fun _ => rfl⟩
    · rw [if_neg h]; constructor
      · intro k; split at k <;> omega
      · intro k; exact absurd k h
  have ho3 : o = -1 ∨ o = 0 ∨ o = 1 := by
    rw [hor]
    unfold ordN
    split
    · exact .inl rfl
    · split
      · exact .inr (.inr rfl)
      · exact .inr (.inl rfl)
  have HOL := Lib.hid hol
  have HOo := Lib.hid (show ordN (val32 (nat32 (nV B))) (val32 (nat32 (nV N))) = o by rw [val_nat, val_nat]; exact hor.symm)
  clear hor hol
  go_wp2_with fail
  refine (cmp_any a3 a1 n3 c3 n1 c1 _ _ _ V3.out.reads V1.out.reads (lim_nat _) (lim_nat _)).mono ?_
  rintro e w4 ⟨rfl, hb⟩
  rw [HOo.out]
  replace V1 := Lib.hid (V1.out.below hb)
  replace V3 := Lib.hid (V3.out.below hb)
  have HC4 := Lib.hid (HC3.out.trans (hb.mono HC3.out.size))
  clear hb HC3
  by_cases hc : o = -1
  rotate_left
  · have t2 : decide ((0 : Int) ≤ o) = true := decide_eq_true (by omega)
    have HF := Lib.hid (show raiseV N B E = ([], 101) by unfold raiseV; rw [if_neg fun k => hc (HOL.out.2 k)])
    clear hc
    go_wp2
    go_ret2
    exact ⟨by rw [HFR.out, HF.out]; exact ⟨.slice none 0 0, rfl, World.ownsRow_nil _ _ _ _⟩, HPW.out ▸ (HB.out.trans (HC4.out.mono HB.out.size))⟩
  have t2 : decide ((0 : Int) ≤ o) = false := decide_eq_false (by omega)
  have HF := Lib.hid (show raiseV N B E = Oc.padR (u8s (natB 256 (nV B ^ nV E % nV N)).reverse) (N.length : Int) by unfold raiseV; rw [if_pos (HOL.out.1 hc)])
  clear hc
  obtain ⟨q0, q1⟩ := half_cells (HQH.out _ HC4.out)
  obtain ⟨k0, k1, k2⟩ := key_cells (HQ.out _ HC4.out)
  go_wp2_with fail
  refine (publicE_m _ _ _ w4 ⟨_, _, _, rfl⟩ ⟨_, _, _, rfl⟩ ⟨_, _, _, rfl⟩).mono ?_
  rintro e w5 ⟨rfl, hb⟩
  replace V1 := Lib.hid (V1.out.below hb)
  replace V3 := Lib.hid (V3.out.below hb)
  have HC5 := Lib.hid (HC4.out.trans (hb.mono HC4.out.size))
  clear q0 q1 k0 k1 k2 hb HC4
  go_wp2_with fail
  refine (read_any ea en ec E w5 (HRE.out.below (HB.out.trans (HC5.out.mono HB.out.size))) HBE.out (by omega)).mono ?_
  rintro e w6 ⟨⟨v2, rfl, hv⟩, hb⟩
  rw [cutR_small HSY.out] at hv ⊢
  obtain ⟨a2, n2, c2, rfl, hn2, o2⟩ := num_slice hv HSY.out
  have V2 := Lib.hid o2
  replace V1 := Lib.hid (V1.out.below hb)
  replace V3 := Lib.hid (V3.out.below hb)
  have HC6 := Lib.hid (HC5.out.trans (hb.mono HC5.out.size))
  clear hv hb HC5 o2
  go_wp2_with fail
  refine (mpow_any _ _ _ _ _ _ _ (natAt_own V3.out) (natAt_own V2.out) (natAt_own V1.out) HM.out).mono ?_
  rintro e w7 ⟨hq, hb⟩
  rw [powR_yes HSB.out HSY.out] at hq
  obtain ⟨v5, rfl, hv⟩ := hq
  have hpt : nV B ^ nV E % nV N < topN := Nat.lt_trans (Nat.mod_lt _ (by have := HM.out.2.1; omega)) HSN.out
  obtain ⟨a5, n5, c5, rfl, hn5, ho⟩ := num_slice hv hpt
  have H5 := Lib.hid ho
  have HC5 := Lib.hid (HC6.out.trans (hb.mono HC6.out.size))
  clear hv hb ho V1 V2 V3 HC6
  obtain ⟨Z, hZe⟩ : ∃ Z, nV B ^ nV E % nV N = Z := ⟨_, rfl⟩
  rw [hZe] at HF H5 hpt
  have HZT := Lib.hid hpt
  clear hZe hpt
  go_wp2_with fail
  refine wp_region_held_drew (S := fun X => X.cell? ⟨P + 1, 0, none⟩ = some (.slice na nn nc) ∧ X.cell? ⟨P + 1, 1, none⟩ = some (.slice ea en ec) ∧ X.cell? ⟨P + 1, 2, none⟩ = some (.slice da dn dc)) (by kernel_rfl) (key_cells (HQ.out _ HC5.out.drew)) (fun hHeld => ?_)
  replace H5 := Lib.hid (H5.out.below (Below.refl _ _).drew)
  replace HC5 := Lib.hid HC5.out.drew
  generalize w7.drew = w8 at *
  refine' wpAnyH_take (i := 0) (oi := _) (v := _) rfl (by kernel_rfl) (by kernel_rfl) (by kernel_rfl) (fun _ _ _ h => h) (Or.inl ⟨?_, ?_⟩) (by assumption) ?_
  rotate_left
  all_goals (try simp only [List.getElem_toArray, List.getElem_cons_succ, List.getElem_cons_zero])
  · rfl
  · intro W hSw; (try dsimp only at hSw); go_simp; (try with_reducible rfl)
  try simp only [Act.put, List.setIfInBounds_toArray, List.set_cons_zero, List.set_cons_succ]
  refine' wpAnyH_take (i := 2) (oi := _) (v := _) rfl (by kernel_rfl) (by kernel_rfl) (by kernel_rfl) (fun _ _ _ h => h) (Or.inl ⟨?_, ?_⟩) (by assumption) ?_
  rotate_left
  all_goals (try simp only [List.getElem_toArray, List.getElem_cons_succ, List.getElem_cons_zero])
  · rfl
  · intro W hSw; (try dsimp only at hSw); go_simp; (try with_reducible rfl)
  try simp only [Act.put, List.setIfInBounds_toArray, List.set_cons_zero, List.set_cons_succ]
  refine' wpAnyH_take (i := 3) (oi := _) (v := _) rfl (by kernel_rfl) (by kernel_rfl) (by kernel_rfl) (fun _ _ _ h => h) (Or.inl ⟨?_, ?_⟩) (by assumption) ?_
  rotate_left
  all_goals (try simp only [List.getElem_toArray, List.getElem_cons_succ, List.getElem_cons_zero])
  · rfl
  · intro W hSw; (try dsimp only at hSw); go_simp; (try with_reducible rfl)
  try simp only [Act.put, List.setIfInBounds_toArray, List.set_cons_zero, List.set_cons_succ]
  refine' wpAnyH_take (i := 4) (oi := _) (v := _) rfl (by kernel_rfl) (by kernel_rfl) (by kernel_rfl) (fun _ _ _ h => h) (Or.inl ⟨?_, ?_⟩) (by assumption) ?_
  rotate_left
  all_goals (try simp only [List.getElem_toArray, List.getElem_cons_succ, List.getElem_cons_zero])
  · rfl
  · intro W hSw; (try dsimp only at hSw); go_simp; (try with_reducible rfl)
  try simp only [Act.put, List.setIfInBounds_toArray, List.set_cons_zero, List.set_cons_succ]
  refine wpAnyH_ready (rs := [1]) (by kernel_rfl) (by simp) ?_
  refine AllReadyH.cons (o := _) rfl (fun K hK => ?_) AllReadyH.nil
  try simp only [List.getElem_toArray, List.getElem_cons_succ, List.getElem_cons_zero]
  go_simp
  refine (bytes_any a5 n5 c5 _ _ H5.out.reads (lim_nat _) (by omega)).mono ?_; rintro e w9 ⟨⟨v7, rfl, hv⟩, hb⟩; rw [val_nat] at hv; obtain ⟨a7, n7, c7, rfl, hn7, ho⟩ := hv.slice; have H7 := Lib.hid ho; replace HC5 := Lib.hid (HC5.out.trans (hb.mono HC5.out.size)); have hn7b : n7 ≤ 1024 := (by rw [hn7, List.length_reverse]; exact (natB_length (by decide) Z 1024).2 (by rw [← topN_256]; exact HZT.out)); clear hv hb ho hn7
  go_wp2_with fail
  refine hK.out _ _ (key_cells (HQ.out _ HC5.out)) (fun hHeld => ?_)
  clear hK K
  try simp only [Act.put, List.setIfInBounds_toArray, List.set_cons_zero, List.set_cons_succ]
  refine wpAnyH_ready (rs := [5]) (by kernel_rfl) (by simp) ?_
  refine AllReadyH.cons (o := _) rfl (fun K hK => ?_) AllReadyH.nil
  try simp only [List.getElem_toArray, List.getElem_cons_succ, List.getElem_cons_zero]
  go_simp
  refine (Oc.pad_any a7 n7 c7 _ (nn : Int) _ (H7.out.reads.bts (fun x hx => natB_digit (by decide) Z x (List.mem_reverse.1 hx)))).mono ?_; rintro e w10 ⟨⟨v8, rfl, hv⟩, hb⟩; have H8 := Lib.hid (hv.mono HC5.out.size); replace HC5 := Lib.hid (HC5.out.trans (hb.mono HC5.out.size)); clear hv hb
  go_wp2_with fail
  refine hK.out _ _ (key_cells (HQ.out _ HC5.out)) (fun hHeld => ?_)
  clear hK K
  try simp only [Act.put, List.setIfInBounds_toArray, List.set_cons_zero, List.set_cons_succ]
  refine' wpAnyH_take (i := 6) (oi := _) (v := _) rfl (by kernel_rfl) (by kernel_rfl) (by kernel_rfl) (fun _ _ _ h => h) (Or.inl ⟨?_, ?_⟩) (by assumption) ?_
  rotate_left
  all_goals (try simp only [List.getElem_toArray, List.getElem_cons_succ, List.getElem_cons_zero])
  · rfl
  · intro W hSw; (try dsimp only at hSw); go_simp; (try with_reducible rfl)
  try simp only [Act.put, List.setIfInBounds_toArray, List.set_cons_zero, List.set_cons_succ]
  refine' wpAnyH_take (i := 7) (oi := _) (v := _) rfl (by kernel_rfl) (by kernel_rfl) (by kernel_rfl) (fun _ _ _ h => h) (Or.inl ⟨?_, ?_⟩) (by assumption) ?_
  rotate_left
  all_goals (try simp only [List.getElem_toArray, List.getElem_cons_succ, List.getElem_cons_zero])
  · rfl
  · intro W hSw; (try dsimp only at hSw); go_simp; (try with_reducible rfl)
  try simp only [Act.put, List.setIfInBounds_toArray, List.set_cons_zero, List.set_cons_succ]
  refine' wpAnyH_take (i := 8) (oi := _) (v := _) rfl (by kernel_rfl) (by kernel_rfl) (by kernel_rfl) (fun _ _ _ h => h) (Or.inl ⟨?_, ?_⟩) (by assumption) ?_
  rotate_left
  all_goals (try simp only [List.getElem_toArray, List.getElem_cons_succ, List.getElem_cons_zero])
  · rfl
  · intro W hSw; (try dsimp only at hSw); go_simp; (try with_reducible rfl)
  try simp only [Act.put, List.setIfInBounds_toArray, List.set_cons_zero, List.set_cons_succ]
  refine' wpAnyH_take (i := 9) (oi := _) (v := _) rfl (by kernel_rfl) (by kernel_rfl) (by kernel_rfl) (fun _ _ _ h => h) (Or.inl ⟨?_, ?_⟩) (by assumption) ?_
  rotate_left
  all_goals (try simp only [List.getElem_toArray, List.getElem_cons_succ, List.getElem_cons_zero])
  · rfl
  · intro W hSw; (try dsimp only at hSw); go_simp; (try with_reducible rfl)
  try simp only [Act.put, List.setIfInBounds_toArray, List.set_cons_zero, List.set_cons_succ]
  refine wpAnyH_done (by kernel_rfl) ?_ _
  simp only [Exit.then]
  clear hHeld
  go_wp2
  go_ret2
  exact ⟨by rw [HFR.out, HF.out, HNL.out]; exact ⟨v8, rfl, H8.out.mono (HPW.out ▸ HB.out.size)⟩, HPW.out ▸ (HB.out.trans (HC5.out.mono HB.out.size))⟩
set_option maxHeartbeats 8000000 in
theorem raise_any (na : Option Addr) (nn nc : Nat) (N : List Nat) (ea : Option Addr) (en ec : Nat) (E : List Nat) (da : Option Addr) (dn dc : Nat) (D : List Nat) (ba : Option Addr) (bn bc : Nat) (B : List Nat) (w : World) (hN : Reads .u8 w na nn nc N) (bN : Byt N) (hE : Reads .u8 w ea en ec E) (bE : Byt E) (hD : Reads .u8 w da dn dc D) (bD : Byt D) (hB : Reads .u8 w ba bn bc B) (bB : Byt B) (ln : nn ≤ 700) (le : en ≤ 700) (ld : dn ≤ 700) (lb : bn ≤ 1000) :
    Calls Try.prog 6 #[.agg #[.slice na nn nc, .slice ea en ec, .slice da dn dc], .slice ba bn bc] w fun e w' => Oc.RetsOwn2 w.heap.size w' (rRaise N E B) e ∧ Below w.heap.size w w' := by
  have HRN := Lib.hid hN
  have HRE := Lib.hid hE
  have HRD := Lib.hid hD
  have HRB := Lib.hid hB
  have HBN := Lib.hid bN
  have HBE := Lib.hid bE
  have HBD := Lib.hid bD
  have HBB := Lib.hid bB
  have hba := (Below.refl w.heap.size w).alloc (Nat.le_refl _) (.cells #[.slice na nn nc, .slice ea en ec, .slice da dn dc] 24)
  have hq0 : (w.alloc (.cells #[.slice na nn nc, .slice ea en ec, .slice da dn dc] 24)).heap[w.heap.size]? = some (.cells #[.slice na nn nc, .slice ea en ec, .slice da dn dc] 24) := World.alloc_heap_new w _
  have HQ0 := Lib.hid hq0
  have HB := Lib.hid hba
  clear hN bN hE bE hD bD hB bB hba hq0
  obtain ⟨R, hR⟩ : ∃ R, rRaise N E B = R := ⟨_, rfl⟩
  have HR := Lib.hid hR
  rw [hR]
  clear hR
  go_enter Try.func6, Try.ntmps6
  go_wp2_with fail
  generalize w.alloc (.cells #[.slice na nn nc, .slice ea en ec, .slice da dn dc] 24) = w0 at *
  obtain ⟨P, hP⟩ : ∃ P, w.heap.size = P := ⟨_, rfl⟩
  rw [hP] at HQ0 ⊢
  have HPW := Lib.hid hP
  have HQ : Hid (∀ X, Below w0.heap.size w0 X → X.heap[P]? = some (.cells #[.slice na nn nc, .slice ea en ec, .slice da dn dc] 24)) := Lib.hid fun X hX => (hX.block P (Array.getElem?_eq_some_iff.1 HQ0.out).1).trans HQ0.out
  clear hP HQ0
  have HC := Lib.hid (Below.refl w0.heap.size w0)
  refine wp_region_held_drew (S := fun X => X.cell? ⟨P, 0, none⟩ = some (.slice na nn nc) ∧ X.cell? ⟨P, 1, none⟩ = some (.slice ea en ec) ∧ X.cell? ⟨P, 2, none⟩ = some (.slice da dn dc)) (by kernel_rfl) (key_cells (HQ.out _ HC.out.drew)) (fun hHeld => ?_)
  replace HC := Lib.hid HC.out.drew
  generalize w0.drew = w1 at *
  refine' wpAnyH_take (i := 1) (oi := _) (v := _) rfl (by kernel_rfl) (by kernel_rfl) (by kernel_rfl) (fun _ _ _ h => h) (Or.inl ⟨?_, ?_⟩) (by assumption) ?_
  rotate_left
  all_goals (try simp only [List.getElem_toArray, List.getElem_cons_succ, List.getElem_cons_zero])
  · rfl
  · intro W hSw; (try dsimp only at hSw); go_simp; (try with_reducible rfl)
  try simp only [Act.put, List.setIfInBounds_toArray, List.set_cons_zero, List.set_cons_succ]
  refine' wpAnyH_take (i := 2) (oi := _) (v := _) rfl (by kernel_rfl) (by kernel_rfl) (by kernel_rfl) (fun _ _ _ h => h) (Or.inl ⟨?_, ?_⟩) (by assumption) ?_
  rotate_left
  all_goals (try simp only [List.getElem_toArray, List.getElem_cons_succ, List.getElem_cons_zero])
  · rfl
  · intro W hSw; (try dsimp only at hSw); go_simp; (try with_reducible rfl)
  try simp only [Act.put, List.setIfInBounds_toArray, List.set_cons_zero, List.set_cons_succ]
  refine wpAnyH_ready (rs := [0]) (by kernel_rfl) (by simp) ?_
  refine AllReadyH.cons (o := _) rfl (fun K hK => ?_) AllReadyH.nil
  try simp only [List.getElem_toArray, List.getElem_cons_succ, List.getElem_cons_zero]
  go_simp
  refine (publicHalf_any _).mono ?_; rintro e w2 ⟨rfl, hb⟩; replace HC := Lib.hid (HC.out.trans (hb.mono HC.out.size)); clear hb
  go_wp2_with fail
  refine hK.out _ _ (key_cells (HQ.out _ HC.out)) (fun hHeld => ?_)
  clear hK K
  try simp only [Act.put, List.setIfInBounds_toArray, List.set_cons_zero, List.set_cons_succ]
  refine wpAnyH_ready (rs := [3]) (by kernel_rfl) (by simp) ?_
  refine AllReadyH.cons (o := _) rfl (fun K hK => ?_) AllReadyH.nil
  try simp only [List.getElem_toArray, List.getElem_cons_succ, List.getElem_cons_zero]
  go_simp
  refine (hraise_any na nn nc N ea en ec E da dn dc D ba bn bc B _ (HRN.out.below (HB.out.trans (HC.out.mono HB.out.size))) HBN.out (HRE.out.below (HB.out.trans (HC.out.mono HB.out.size))) HBE.out (HRD.out.below (HB.out.trans (HC.out.mono HB.out.size))) HBD.out (HRB.out.below (HB.out.trans (HC.out.mono HB.out.size))) HBB.out ln le ld lb).mono ?_; rintro e w3 ⟨hq, hb⟩; rw [HR.out] at hq; obtain ⟨v8, rfl, hv⟩ := hq; have H8 := Lib.hid (hv.mono HC.out.size); replace HC := Lib.hid (HC.out.trans (hb.mono HC.out.size)); clear hv hb
  go_wp2_with fail
  refine hK.out _ _ (key_cells (HQ.out _ HC.out)) (fun hHeld => ?_)
  clear hK K
  try simp only [Act.put, List.setIfInBounds_toArray, List.set_cons_zero, List.set_cons_succ]
  refine' wpAnyH_take (i := 4) (oi := _) (v := _) rfl (by kernel_rfl) (by kernel_rfl) (by kernel_rfl) (fun _ _ _ h => h) (Or.inl ⟨?_, ?_⟩) (by assumption) ?_
  rotate_left
  all_goals (try simp only [List.getElem_toArray, List.getElem_cons_succ, List.getElem_cons_zero])
  · rfl
  · intro W hSw; (try dsimp only at hSw); go_simp; (try with_reducible rfl)
  try simp only [Act.put, List.setIfInBounds_toArray, List.set_cons_zero, List.set_cons_succ]
  refine' wpAnyH_take (i := 5) (oi := _) (v := _) rfl (by kernel_rfl) (by kernel_rfl) (by kernel_rfl) (fun _ _ _ h => h) (Or.inl ⟨?_, ?_⟩) (by assumption) ?_
  rotate_left
  all_goals (try simp only [List.getElem_toArray, List.getElem_cons_succ, List.getElem_cons_zero])
  · rfl
  · intro W hSw; (try dsimp only at hSw); go_simp; (try with_reducible rfl)
  try simp only [Act.put, List.setIfInBounds_toArray, List.set_cons_zero, List.set_cons_succ]
  refine' wpAnyH_take (i := 6) (oi := _) (v := _) rfl (by kernel_rfl) (by kernel_rfl) (by kernel_rfl) (fun _ _ _ h => h) (Or.inl ⟨?_, ?_⟩) (by assumption) ?_
  rotate_left
  all_goals (try simp only [List.getElem_toArray, List.getElem_cons_succ, List.getElem_cons_zero])
  · rfl
  · intro W hSw; (try dsimp only at hSw); go_simp; (try with_reducible rfl)
  try simp only [Act.put, List.setIfInBounds_toArray, List.set_cons_zero, List.set_cons_succ]
  refine' wpAnyH_take (i := 7) (oi := _) (v := _) rfl (by kernel_rfl) (by kernel_rfl) (by kernel_rfl) (fun _ _ _ h => h) (Or.inl ⟨?_, ?_⟩) (by assumption) ?_
  rotate_left
  all_goals (try simp only [List.getElem_toArray, List.getElem_cons_succ, List.getElem_cons_zero])
  · rfl
  · intro W hSw; (try dsimp only at hSw); go_simp; (try with_reducible rfl)
  try simp only [Act.put, List.setIfInBounds_toArray, List.set_cons_zero, List.set_cons_succ]
  refine wpAnyH_done (by kernel_rfl) ?_ _
  simp only [Exit.then]
  clear hHeld
  go_wp2
  go_ret2
  exact ⟨⟨v8, rfl, H8.out.mono (HPW.out ▸ HB.out.size)⟩, HPW.out ▸ (HB.out.trans (HC.out.mono HB.out.size))⟩
theorem privateHalf_any (w : World) : Calls Try.prog 17 #[] w fun e w' => e = .returned (.agg #[.func (.func 34) #[] #[], .func (.func 35) #[] #[]]) ∧ Below w.heap.size w w' := by
  go_enter Try.func17, Try.ntmps17
  go_wp2
  refine bodyPost_ret (v := .agg #[.func (.func 34) #[] #[], .func (.func 35) #[] #[]]) ?_ rfl ⟨rfl, ?_⟩
  · rw [results_cell1 rfl]
    go_simp
  · exact ((Below.refl _ _).alloc (Nat.le_refl _) _)
set_option maxHeartbeats 8000000 in
theorem hlower_any (na : Option Addr) (nn nc : Nat) (N : List Nat) (ea : Option Addr) (en ec : Nat) (E : List Nat) (da : Option Addr) (dn dc : Nat) (D : List Nat) (ba : Option Addr) (bn bc : Nat) (B : List Nat) (w : World) (hN : Reads .u8 w na nn nc N) (bN : Byt N) (hE : Reads .u8 w ea en ec E) (bE : Byt E) (hD : Reads .u8 w da dn dc D) (bD : Byt D) (hB : Reads .u8 w ba bn bc B) (bB : Byt B) (ln : nn ≤ 700) (le : en ≤ 700) (ld : dn ≤ 700) (lb : bn ≤ 1000) :
    Calls Try.prog 13 #[.agg #[.func (.func 34) #[] #[], .func (.func 35) #[] #[]], .agg #[.slice na nn nc, .slice ea en ec, .slice da dn dc], .slice ba bn bc] w fun e w' => Oc.RetsOwn2 w.heap.size w' (rLower N E D B) e ∧ Below w.heap.size w w' := by
  have HRN := Lib.hid hN
  have HRE := Lib.hid hE
  have HRD := Lib.hid hD
  have HRB := Lib.hid hB
  have HBN := Lib.hid bN
  have HBE := Lib.hid bE
  have HBD := Lib.hid bD
  have HBB := Lib.hid bB
  have HNL := Lib.hid hN.length
  have HSN := Lib.hid (key_small bN (by rw [hN.length]; exact ln))
  have HSY := Lib.hid (key_small bD (by rw [hD.length]; exact ld))
  have HSB := Lib.hid (byte_small bB (by rw [hB.length]; omega))
  have hba := ((Below.refl w.heap.size w).alloc (Nat.le_refl _) (.cells #[.func (.func 34) #[] #[], .func (.func 35) #[] #[]] 37)).alloc (by simp) (.cells #[.slice na nn nc, .slice ea en ec, .slice da dn dc] 24)
  have hqh : ((w.alloc (.cells #[.func (.func 34) #[] #[], .func (.func 35) #[] #[]] 37)).alloc (.cells #[.slice na nn nc, .slice ea en ec, .slice da dn dc] 24)).heap[w.heap.size]? = some (.cells #[.func (.func 34) #[] #[], .func (.func 35) #[] #[]] 37) := (Below.heap_alloc _ _ _ (by simp)).trans (World.alloc_heap_new w _)
  have hqk : ((w.alloc (.cells #[.func (.func 34) #[] #[], .func (.func 35) #[] #[]] 37)).alloc (.cells #[.slice na nn nc, .slice ea en ec, .slice da dn dc] 24)).heap[w.heap.size + 1]? = some (.cells #[.slice na nn nc, .slice ea en ec, .slice da dn dc] 24) := by
    have h := World.alloc_heap_new (w.alloc (.cells #[.func (.func 34) #[] #[], .func (.func 35) #[] #[]] 37)) (.cells #[.slice na nn nc, .slice ea en ec, .slice da dn dc] 24)
    rwa [World.size_alloc] at h
  have HQH0 := Lib.hid hqh
  have HQK0 := Lib.hid hqk
  have HB := Lib.hid hba
  clear hN bN hE bE hD bD hB bB hba hqh hqk
  go_enter Try.func13, Try.ntmps13
  go_wp2_with fail
  generalize (w.alloc (.cells #[.func (.func 34) #[] #[], .func (.func 35) #[] #[]] 37)).alloc (.cells #[.slice na nn nc, .slice ea en ec, .slice da dn dc] 24) = w0 at *
  obtain ⟨P, hP⟩ : ∃ P, w.heap.size = P := ⟨_, rfl⟩
  simp only [hP] at HQH0 HQK0 ⊢
  have HPW := Lib.hid hP
  have HQ : Hid (∀ X, Below w0.heap.size w0 X → X.heap[P + 1]? = some (.cells #[.slice na nn nc, .slice ea en ec, .slice da dn dc] 24)) := Lib.hid fun X hX => (hX.block _ (Array.getElem?_eq_some_iff.1 HQK0.out).1).trans HQK0.out
  have HQH : Hid (∀ X, Below w0.heap.size w0 X → X.heap[P]? = some (.cells #[.func (.func 34) #[] #[], .func (.func 35) #[] #[]] 37)) := Lib.hid fun X hX => (hX.block _ (Array.getElem?_eq_some_iff.1 HQH0.out).1).trans HQH0.out
  clear hP HQH0 HQK0
  obtain ⟨q0, q1⟩ := half_cells (HQH.out _ (Below.refl _ _))
  obtain ⟨k0, k1, k2⟩ := key_cells (HQ.out _ (Below.refl _ _))
  go_wp2_with fail
  refine (private_any na nn nc N ea en ec E da dn dc D w0 (HRN.out.below HB.out) HBN.out (HRE.out.below HB.out) HBE.out (HRD.out.below HB.out) HBD.out ln le ld).mono ?_
  rintro e w1 ⟨rfl, hb⟩
  have HC1 := Lib.hid hb
  clear q0 q1 k0 k1 k2 hb
  by_cases hp : PrivP N E D
  rotate_left
  · have HF := Lib.hid (show rLower N E D B = ([], 100) by unfold rLower; rw [if_neg hp])
    rw [show privE N E D = 100 by unfold privE; rw [if_neg hp]]
    clear hp
    go_wp2
    go_ret2
    exact ⟨by rw [HF.out]; exact ⟨.slice none 0 0, rfl, World.ownsRow_nil _ _ _ _⟩, HPW.out ▸ (HB.out.trans (HC1.out.mono HB.out.size))⟩
  have HFR := Lib.hid (show rLower N E D B = raiseV N B D by unfold rLower; rw [if_pos hp])
  have HM := Lib.hid (pub_mod (N := N) (E := E) hp.1)
  rw [show privE N E D = 0 by unfold privE; rw [if_pos hp]]
  clear hp
  obtain ⟨k0, k1, k2⟩ := key_cells (HQ.out _ HC1.out)
  go_wp2_with fail
  refine (read_any na nn nc N w1 (HRN.out.below (HB.out.trans (HC1.out.mono HB.out.size))) HBN.out (by omega)).mono ?_
  rintro e w2 ⟨⟨v1, rfl, hv⟩, hb⟩
  rw [cutR_small HSN.out] at hv ⊢
  obtain ⟨a1, n1, c1, rfl, hn1, o1⟩ := num_slice hv HSN.out
  have V1 := Lib.hid o1
  have HC2 := Lib.hid (HC1.out.trans (hb.mono HC1.out.size))
  clear k0 k1 k2 hv hb HC1 o1
  go_wp2_with fail
  refine (read_any ba bn bc B w2 (HRB.out.below (HB.out.trans (HC2.out.mono HB.out.size))) HBB.out (by omega)).mono ?_
  rintro e w3 ⟨⟨v3, rfl, hv⟩, hb⟩
  rw [cutR_small HSB.out] at hv ⊢
  obtain ⟨a3, n3, c3, rfl, hn3, o3⟩ := num_slice hv HSB.out
  have V3 := Lib.hid o3
  replace V1 := Lib.hid (V1.out.below hb)
  have HC3 := Lib.hid (HC2.out.trans (hb.mono HC2.out.size))
  clear hv hb HC2 o3
  obtain ⟨o, hor⟩ : ∃ x, x = ordN (nV B) (nV N) := ⟨_, rfl⟩
  have hol : o = -1 ↔ nV B < nV N := by
    rw [hor]
    unfold ordN
    by_cases h : nV B < nV N
    · rw [if_pos h]; exact ⟨fun _ => h, fun _ => rfl⟩
    · rw [if_neg h]; constructor
      · intro k; split at k <;> omega
      · intro k; exact absurd k h
  have ho3 : o = -1 ∨ o = 0 ∨ o = 1 := by
    rw [hor]
    unfold ordN
    split
    · exact .inl rfl
    · split
      · exact .inr (.inr rfl)
      · exact .inr (.inl rfl)
  have HOL := Lib.hid hol
  have HOo := Lib.hid (show ordN (val32 (nat32 (nV B))) (val32 (nat32 (nV N))) = o by rw [val_nat, val_nat]; exact hor.symm)
  clear hor hol
  go_wp2_with fail
  refine (cmp_any a3 a1 n3 c3 n1 c1 _ _ _ V3.out.reads V1.out.reads (lim_nat _) (lim_nat _)).mono ?_
  rintro e w4 ⟨rfl, hb⟩
  rw [HOo.out]
  replace V1 := Lib.hid (V1.out.below hb)
  replace V3 := Lib.hid (V3.out.below hb)
  have HC4 := Lib.hid (HC3.out.trans (hb.mono HC3.out.size))
  clear hb HC3
  by_cases hc : o = -1
  rotate_left
  · have t2 : decide ((0 : Int) ≤ o) = true := decide_eq_true (by omega)
    have HF := Lib.hid (show raiseV N B D = ([], 101) by unfold raiseV; rw [if_neg fun k => hc (HOL.out.2 k)])
    clear hc
    go_wp2
    go_ret2
    exact ⟨by rw [HFR.out, HF.out]; exact ⟨.slice none 0 0, rfl, World.ownsRow_nil _ _ _ _⟩, HPW.out ▸ (HB.out.trans (HC4.out.mono HB.out.size))⟩
  have t2 : decide ((0 : Int) ≤ o) = false := decide_eq_false (by omega)
  have HF := Lib.hid (show raiseV N B D = Oc.padR (u8s (natB 256 (nV B ^ nV D % nV N)).reverse) (N.length : Int) by unfold raiseV; rw [if_pos (HOL.out.1 hc)])
  clear hc
  obtain ⟨q0, q1⟩ := half_cells (HQH.out _ HC4.out)
  obtain ⟨k0, k1, k2⟩ := key_cells (HQ.out _ HC4.out)
  go_wp2_with fail
  refine (privateE_m _ _ _ w4 ⟨_, _, _, rfl⟩ ⟨_, _, _, rfl⟩ ⟨_, _, _, rfl⟩).mono ?_
  rintro e w5 ⟨rfl, hb⟩
  replace V1 := Lib.hid (V1.out.below hb)
  replace V3 := Lib.hid (V3.out.below hb)
  have HC5 := Lib.hid (HC4.out.trans (hb.mono HC4.out.size))
  clear q0 q1 k0 k1 k2 hb HC4
  go_wp2_with fail
  refine (read_any da dn dc D w5 (HRD.out.below (HB.out.trans (HC5.out.mono HB.out.size))) HBD.out (by omega)).mono ?_
  rintro e w6 ⟨⟨v2, rfl, hv⟩, hb⟩
  rw [cutR_small HSY.out] at hv ⊢
  obtain ⟨a2, n2, c2, rfl, hn2, o2⟩ := num_slice hv HSY.out
  have V2 := Lib.hid o2
  replace V1 := Lib.hid (V1.out.below hb)
  replace V3 := Lib.hid (V3.out.below hb)
  have HC6 := Lib.hid (HC5.out.trans (hb.mono HC5.out.size))
  clear hv hb HC5 o2
  go_wp2_with fail
  refine (mpow_any _ _ _ _ _ _ _ (natAt_own V3.out) (natAt_own V2.out) (natAt_own V1.out) HM.out).mono ?_
  rintro e w7 ⟨hq, hb⟩
  rw [powR_yes HSB.out HSY.out] at hq
  obtain ⟨v5, rfl, hv⟩ := hq
  have hpt : nV B ^ nV D % nV N < topN := Nat.lt_trans (Nat.mod_lt _ (by have := HM.out.2.1; omega)) HSN.out
  obtain ⟨a5, n5, c5, rfl, hn5, ho⟩ := num_slice hv hpt
  have H5 := Lib.hid ho
  have HC5 := Lib.hid (HC6.out.trans (hb.mono HC6.out.size))
  clear hv hb ho V1 V2 V3 HC6
  obtain ⟨Z, hZe⟩ : ∃ Z, nV B ^ nV D % nV N = Z := ⟨_, rfl⟩
  rw [hZe] at HF H5 hpt
  have HZT := Lib.hid hpt
  clear hZe hpt
  go_wp2_with fail
  refine wp_region_held_drew (S := fun X => X.cell? ⟨P + 1, 0, none⟩ = some (.slice na nn nc) ∧ X.cell? ⟨P + 1, 1, none⟩ = some (.slice ea en ec) ∧ X.cell? ⟨P + 1, 2, none⟩ = some (.slice da dn dc)) (by kernel_rfl) (key_cells (HQ.out _ HC5.out.drew)) (fun hHeld => ?_)
  replace H5 := Lib.hid (H5.out.below (Below.refl _ _).drew)
  replace HC5 := Lib.hid HC5.out.drew
  generalize w7.drew = w8 at *
  refine' wpAnyH_take (i := 0) (oi := _) (v := _) rfl (by kernel_rfl) (by kernel_rfl) (by kernel_rfl) (fun _ _ _ h => h) (Or.inl ⟨?_, ?_⟩) (by assumption) ?_
  rotate_left
  all_goals (try simp only [List.getElem_toArray, List.getElem_cons_succ, List.getElem_cons_zero])
  · rfl
  · intro W hSw; (try dsimp only at hSw); go_simp; (try with_reducible rfl)
  try simp only [Act.put, List.setIfInBounds_toArray, List.set_cons_zero, List.set_cons_succ]
  refine' wpAnyH_take (i := 2) (oi := _) (v := _) rfl (by kernel_rfl) (by kernel_rfl) (by kernel_rfl) (fun _ _ _ h => h) (Or.inl ⟨?_, ?_⟩) (by assumption) ?_
  rotate_left
  all_goals (try simp only [List.getElem_toArray, List.getElem_cons_succ, List.getElem_cons_zero])
  · rfl
  · intro W hSw; (try dsimp only at hSw); go_simp; (try with_reducible rfl)
  try simp only [Act.put, List.setIfInBounds_toArray, List.set_cons_zero, List.set_cons_succ]
  refine' wpAnyH_take (i := 3) (oi := _) (v := _) rfl (by kernel_rfl) (by kernel_rfl) (by kernel_rfl) (fun _ _ _ h => h) (Or.inl ⟨?_, ?_⟩) (by assumption) ?_
  rotate_left
  all_goals (try simp only [List.getElem_toArray, List.getElem_cons_succ, List.getElem_cons_zero])
  · rfl
  · intro W hSw; (try dsimp only at hSw); go_simp; (try with_reducible rfl)
  try simp only [Act.put, List.setIfInBounds_toArray, List.set_cons_zero, List.set_cons_succ]
  refine' wpAnyH_take (i := 4) (oi := _) (v := _) rfl (by kernel_rfl) (by kernel_rfl) (by kernel_rfl) (fun _ _ _ h => h) (Or.inl ⟨?_, ?_⟩) (by assumption) ?_
  rotate_left
  all_goals (try simp only [List.getElem_toArray, List.getElem_cons_succ, List.getElem_cons_zero])
  · rfl
  · intro W hSw; (try dsimp only at hSw); go_simp; (try with_reducible rfl)
  try simp only [Act.put, List.setIfInBounds_toArray, List.set_cons_zero, List.set_cons_succ]
  refine wpAnyH_ready (rs := [1]) (by kernel_rfl) (by simp) ?_
  refine AllReadyH.cons (o := _) rfl (fun K hK => ?_) AllReadyH.nil
  try simp only [List.getElem_toArray, List.getElem_cons_succ, List.getElem_cons_zero]
  go_simp
  refine (bytes_any a5 n5 c5 _ _ H5.out.reads (lim_nat _) (by omega)).mono ?_; rintro e w9 ⟨⟨v7, rfl, hv⟩, hb⟩; rw [val_nat] at hv; obtain ⟨a7, n7, c7, rfl, hn7, ho⟩ := hv.slice; have H7 := Lib.hid ho; replace HC5 := Lib.hid (HC5.out.trans (hb.mono HC5.out.size)); have hn7b : n7 ≤ 1024 := (by rw [hn7, List.length_reverse]; exact (natB_length (by decide) Z 1024).2 (by rw [← topN_256]; exact HZT.out)); clear hv hb ho hn7
  go_wp2_with fail
  refine hK.out _ _ (key_cells (HQ.out _ HC5.out)) (fun hHeld => ?_)
  clear hK K
  try simp only [Act.put, List.setIfInBounds_toArray, List.set_cons_zero, List.set_cons_succ]
  refine wpAnyH_ready (rs := [5]) (by kernel_rfl) (by simp) ?_
  refine AllReadyH.cons (o := _) rfl (fun K hK => ?_) AllReadyH.nil
  try simp only [List.getElem_toArray, List.getElem_cons_succ, List.getElem_cons_zero]
  go_simp
  refine (Oc.pad_any a7 n7 c7 _ (nn : Int) _ (H7.out.reads.bts (fun x hx => natB_digit (by decide) Z x (List.mem_reverse.1 hx)))).mono ?_; rintro e w10 ⟨⟨v8, rfl, hv⟩, hb⟩; have H8 := Lib.hid (hv.mono HC5.out.size); replace HC5 := Lib.hid (HC5.out.trans (hb.mono HC5.out.size)); clear hv hb
  go_wp2_with fail
  refine hK.out _ _ (key_cells (HQ.out _ HC5.out)) (fun hHeld => ?_)
  clear hK K
  try simp only [Act.put, List.setIfInBounds_toArray, List.set_cons_zero, List.set_cons_succ]
  refine' wpAnyH_take (i := 6) (oi := _) (v := _) rfl (by kernel_rfl) (by kernel_rfl) (by kernel_rfl) (fun _ _ _ h => h) (Or.inl ⟨?_, ?_⟩) (by assumption) ?_
  rotate_left
  all_goals (try simp only [List.getElem_toArray, List.getElem_cons_succ, List.getElem_cons_zero])
  · rfl
  · intro W hSw; (try dsimp only at hSw); go_simp; (try with_reducible rfl)
  try simp only [Act.put, List.setIfInBounds_toArray, List.set_cons_zero, List.set_cons_succ]
  refine' wpAnyH_take (i := 7) (oi := _) (v := _) rfl (by kernel_rfl) (by kernel_rfl) (by kernel_rfl) (fun _ _ _ h => h) (Or.inl ⟨?_, ?_⟩) (by assumption) ?_
  rotate_left
  all_goals (try simp only [List.getElem_toArray, List.getElem_cons_succ, List.getElem_cons_zero])
  · rfl
  · intro W hSw; (try dsimp only at hSw); go_simp; (try with_reducible rfl)
  try simp only [Act.put, List.setIfInBounds_toArray, List.set_cons_zero, List.set_cons_succ]
  refine' wpAnyH_take (i := 8) (oi := _) (v := _) rfl (by kernel_rfl) (by kernel_rfl) (by kernel_rfl) (fun _ _ _ h => h) (Or.inl ⟨?_, ?_⟩) (by assumption) ?_
  rotate_left
  all_goals (try simp only [List.getElem_toArray, List.getElem_cons_succ, List.getElem_cons_zero])
  · rfl
  · intro W hSw; (try dsimp only at hSw); go_simp; (try with_reducible rfl)
  try simp only [Act.put, List.setIfInBounds_toArray, List.set_cons_zero, List.set_cons_succ]
  refine' wpAnyH_take (i := 9) (oi := _) (v := _) rfl (by kernel_rfl) (by kernel_rfl) (by kernel_rfl) (fun _ _ _ h => h) (Or.inl ⟨?_, ?_⟩) (by assumption) ?_
  rotate_left
  all_goals (try simp only [List.getElem_toArray, List.getElem_cons_succ, List.getElem_cons_zero])
  · rfl
  · intro W hSw; (try dsimp only at hSw); go_simp; (try with_reducible rfl)
  try simp only [Act.put, List.setIfInBounds_toArray, List.set_cons_zero, List.set_cons_succ]
  refine wpAnyH_done (by kernel_rfl) ?_ _
  simp only [Exit.then]
  clear hHeld
  go_wp2
  go_ret2
  exact ⟨by rw [HFR.out, HF.out, HNL.out]; exact ⟨v8, rfl, H8.out.mono (HPW.out ▸ HB.out.size)⟩, HPW.out ▸ (HB.out.trans (HC5.out.mono HB.out.size))⟩
set_option maxHeartbeats 8000000 in
theorem lower_any (na : Option Addr) (nn nc : Nat) (N : List Nat) (ea : Option Addr) (en ec : Nat) (E : List Nat) (da : Option Addr) (dn dc : Nat) (D : List Nat) (ba : Option Addr) (bn bc : Nat) (B : List Nat) (w : World) (hN : Reads .u8 w na nn nc N) (bN : Byt N) (hE : Reads .u8 w ea en ec E) (bE : Byt E) (hD : Reads .u8 w da dn dc D) (bD : Byt D) (hB : Reads .u8 w ba bn bc B) (bB : Byt B) (ln : nn ≤ 700) (le : en ≤ 700) (ld : dn ≤ 700) (lb : bn ≤ 1000) :
    Calls Try.prog 9 #[.agg #[.slice na nn nc, .slice ea en ec, .slice da dn dc], .slice ba bn bc] w fun e w' => Oc.RetsOwn2 w.heap.size w' (rLower N E D B) e ∧ Below w.heap.size w w' := by
  have HRN := Lib.hid hN
  have HRE := Lib.hid hE
  have HRD := Lib.hid hD
  have HRB := Lib.hid hB
  have HBN := Lib.hid bN
  have HBE := Lib.hid bE
  have HBD := Lib.hid bD
  have HBB := Lib.hid bB
  have hba := (Below.refl w.heap.size w).alloc (Nat.le_refl _) (.cells #[.slice na nn nc, .slice ea en ec, .slice da dn dc] 24)
  have hq0 : (w.alloc (.cells #[.slice na nn nc, .slice ea en ec, .slice da dn dc] 24)).heap[w.heap.size]? = some (.cells #[.slice na nn nc, .slice ea en ec, .slice da dn dc] 24) := World.alloc_heap_new w _
  have HQ0 := Lib.hid hq0
  have HB := Lib.hid hba
  clear hN bN hE bE hD bD hB bB hba hq0
  obtain ⟨R, hR⟩ : ∃ R, rLower N E D B = R := ⟨_, rfl⟩
  have HR := Lib.hid hR
  rw [hR]
  clear hR
  go_enter Try.func9, Try.ntmps9
  go_wp2_with fail
  generalize w.alloc (.cells #[.slice na nn nc, .slice ea en ec, .slice da dn dc] 24) = w0 at *
  obtain ⟨P, hP⟩ : ∃ P, w.heap.size = P := ⟨_, rfl⟩
  rw [hP] at HQ0 ⊢
  have HPW := Lib.hid hP
  have HQ : Hid (∀ X, Below w0.heap.size w0 X → X.heap[P]? = some (.cells #[.slice na nn nc, .slice ea en ec, .slice da dn dc] 24)) := Lib.hid fun X hX => (hX.block P (Array.getElem?_eq_some_iff.1 HQ0.out).1).trans HQ0.out
  clear hP HQ0
  have HC := Lib.hid (Below.refl w0.heap.size w0)
  refine wp_region_held_drew (S := fun X => X.cell? ⟨P, 0, none⟩ = some (.slice na nn nc) ∧ X.cell? ⟨P, 1, none⟩ = some (.slice ea en ec) ∧ X.cell? ⟨P, 2, none⟩ = some (.slice da dn dc)) (by kernel_rfl) (key_cells (HQ.out _ HC.out.drew)) (fun hHeld => ?_)
  replace HC := Lib.hid HC.out.drew
  generalize w0.drew = w1 at *
  refine' wpAnyH_take (i := 1) (oi := _) (v := _) rfl (by kernel_rfl) (by kernel_rfl) (by kernel_rfl) (fun _ _ _ h => h) (Or.inl ⟨?_, ?_⟩) (by assumption) ?_
  rotate_left
  all_goals (try simp only [List.getElem_toArray, List.getElem_cons_succ, List.getElem_cons_zero])
  · rfl
  · intro W hSw; (try dsimp only at hSw); go_simp; (try with_reducible rfl)
  try simp only [Act.put, List.setIfInBounds_toArray, List.set_cons_zero, List.set_cons_succ]
  refine' wpAnyH_take (i := 2) (oi := _) (v := _) rfl (by kernel_rfl) (by kernel_rfl) (by kernel_rfl) (fun _ _ _ h => h) (Or.inl ⟨?_, ?_⟩) (by assumption) ?_
  rotate_left
  all_goals (try simp only [List.getElem_toArray, List.getElem_cons_succ, List.getElem_cons_zero])
  · rfl
  · intro W hSw; (try dsimp only at hSw); go_simp; (try with_reducible rfl)
  try simp only [Act.put, List.setIfInBounds_toArray, List.set_cons_zero, List.set_cons_succ]
  refine wpAnyH_ready (rs := [0]) (by kernel_rfl) (by simp) ?_
  refine AllReadyH.cons (o := _) rfl (fun K hK => ?_) AllReadyH.nil
  try simp only [List.getElem_toArray, List.getElem_cons_succ, List.getElem_cons_zero]
  go_simp
  refine (privateHalf_any _).mono ?_; rintro e w2 ⟨rfl, hb⟩; replace HC := Lib.hid (HC.out.trans (hb.mono HC.out.size)); clear hb
  go_wp2_with fail
  refine hK.out _ _ (key_cells (HQ.out _ HC.out)) (fun hHeld => ?_)
  clear hK K
  try simp only [Act.put, List.setIfInBounds_toArray, List.set_cons_zero, List.set_cons_succ]
  refine wpAnyH_ready (rs := [3]) (by kernel_rfl) (by simp) ?_
  refine AllReadyH.cons (o := _) rfl (fun K hK => ?_) AllReadyH.nil
  try simp only [List.getElem_toArray, List.getElem_cons_succ, List.getElem_cons_zero]
  go_simp
  refine (hlower_any na nn nc N ea en ec E da dn dc D ba bn bc B _ (HRN.out.below (HB.out.trans (HC.out.mono HB.out.size))) HBN.out (HRE.out.below (HB.out.trans (HC.out.mono HB.out.size))) HBE.out (HRD.out.below (HB.out.trans (HC.out.mono HB.out.size))) HBD.out (HRB.out.below (HB.out.trans (HC.out.mono HB.out.size))) HBB.out ln le ld lb).mono ?_; rintro e w3 ⟨hq, hb⟩; rw [HR.out] at hq; obtain ⟨v8, rfl, hv⟩ := hq; have H8 := Lib.hid (hv.mono HC.out.size); replace HC := Lib.hid (HC.out.trans (hb.mono HC.out.size)); clear hv hb
  go_wp2_with fail
  refine hK.out _ _ (key_cells (HQ.out _ HC.out)) (fun hHeld => ?_)
  clear hK K
  try simp only [Act.put, List.setIfInBounds_toArray, List.set_cons_zero, List.set_cons_succ]
  refine' wpAnyH_take (i := 4) (oi := _) (v := _) rfl (by kernel_rfl) (by kernel_rfl) (by kernel_rfl) (fun _ _ _ h => h) (Or.inl ⟨?_, ?_⟩) (by assumption) ?_
  rotate_left
  all_goals (try simp only [List.getElem_toArray, List.getElem_cons_succ, List.getElem_cons_zero])
  · rfl
  · intro W hSw; (try dsimp only at hSw); go_simp; (try with_reducible rfl)
  try simp only [Act.put, List.setIfInBounds_toArray, List.set_cons_zero, List.set_cons_succ]
  refine' wpAnyH_take (i := 5) (oi := _) (v := _) rfl (by kernel_rfl) (by kernel_rfl) (by kernel_rfl) (fun _ _ _ h => h) (Or.inl ⟨?_, ?_⟩) (by assumption) ?_
  rotate_left
  all_goals (try simp only [List.getElem_toArray, List.getElem_cons_succ, List.getElem_cons_zero])
  · rfl
  · intro W hSw; (try dsimp only at hSw); go_simp; (try with_reducible rfl)
  try simp only [Act.put, List.setIfInBounds_toArray, List.set_cons_zero, List.set_cons_succ]
  refine' wpAnyH_take (i := 6) (oi := _) (v := _) rfl (by kernel_rfl) (by kernel_rfl) (by kernel_rfl) (fun _ _ _ h => h) (Or.inl ⟨?_, ?_⟩) (by assumption) ?_
  rotate_left
  all_goals (try simp only [List.getElem_toArray, List.getElem_cons_succ, List.getElem_cons_zero])
  · rfl
  · intro W hSw; (try dsimp only at hSw); go_simp; (try with_reducible rfl)
  try simp only [Act.put, List.setIfInBounds_toArray, List.set_cons_zero, List.set_cons_succ]
  refine' wpAnyH_take (i := 7) (oi := _) (v := _) rfl (by kernel_rfl) (by kernel_rfl) (by kernel_rfl) (fun _ _ _ h => h) (Or.inl ⟨?_, ?_⟩) (by assumption) ?_
  rotate_left
  all_goals (try simp only [List.getElem_toArray, List.getElem_cons_succ, List.getElem_cons_zero])
  · rfl
  · intro W hSw; (try dsimp only at hSw); go_simp; (try with_reducible rfl)
  try simp only [Act.put, List.setIfInBounds_toArray, List.set_cons_zero, List.set_cons_succ]
  refine wpAnyH_done (by kernel_rfl) ?_ _
  simp only [Exit.then]
  clear hHeld
  go_wp2
  go_ret2
  exact ⟨⟨v8, rfl, H8.out.mono (HPW.out ▸ HB.out.size)⟩, HPW.out ▸ (HB.out.trans (HC.out.mono HB.out.size))⟩
end Go.Proofs.Ytpefjkndfifceaa
set_option linter.unusedVariables false
namespace Go.Proofs.Ytpefjkndfifceaa
set_option maxRecDepth 100000
namespace LL
def XY : Nat → Int × Int
  | 0 => (1, 0)
  | n + 1 => (2 * (XY n).1 + 3 * (XY n).2, (XY n).1 + 2 * (XY n).2)
theorem xy_add (m n : Nat) : (XY (m + n)).1 = (XY m).1 * (XY n).1 + 3 * ((XY m).2 * (XY n).2) ∧ (XY (m + n)).2 = (XY m).1 * (XY n).2 + (XY m).2 * (XY n).1 := by
  induction n with
  | zero => simp [XY]
  | succ n ih =>
    obtain ⟨h1, h2⟩ := ih
    rw [← Nat.add_assoc]
    simp only [XY, h1, h2]
    constructor <;> grind
theorem xy_norm (n : Nat) : (XY n).1 * (XY n).1 - 3 * ((XY n).2 * (XY n).2) = 1 := by
  induction n with
  | zero => simp [XY]
  | succ n ih => simp only [XY]; grind
def Per (q : Int) (n : Nat) : Prop := q ∣ (XY n).1 - 1 ∧ q ∣ (XY n).2
theorem Per.zero (q : Int) : Per q 0 := by simp [Per, XY]
theorem Per.add {q : Int} {m n : Nat} (h : Per q m) (k : Per q n) : Per q (m + n) := by
  obtain ⟨⟨a, ha⟩, ⟨b, hb⟩⟩ := h
  obtain ⟨⟨c, hc⟩, ⟨d, hd⟩⟩ := k
  obtain ⟨h1, h2⟩ := xy_add m n
  have e1 : (XY m).1 = q * a + 1 := by omega
  have e2 : (XY n).1 = q * c + 1 := by omega
  refine ⟨⟨q * a * c + a + c + 3 * (b * (q * d)), ?_⟩, ⟨(q * a + 1) * d + b * (q * c + 1), ?_⟩⟩
  · rw [h1, e1, e2, hb, hd]; grind
  · rw [h2, e1, e2, hb, hd]; grind
theorem Per.mul {q : Int} {m : Nat} (h : Per q m) (k : Nat) : Per q (m * k) := by
  induction k with
  | zero => exact Per.zero q
  | succ k ih => exact ih.add h
theorem Per.of_same {q : Int} {i d : Nat} (h1 : q ∣ (XY (i + d)).1 - (XY i).1) (h2 : q ∣ (XY (i + d)).2 - (XY i).2) : Per q d := by
  obtain ⟨a, ha⟩ := h1
  obtain ⟨b, hb⟩ := h2
  obtain ⟨e1, e2⟩ := xy_add i d
  have n := xy_norm i
  refine ⟨⟨(XY i).1 * a - 3 * ((XY i).2 * b), ?_⟩, ⟨(XY i).1 * b - (XY i).2 * a, ?_⟩⟩ <;> grind
theorem Per.sub {q : Int} {m d : Nat} (h : Per q m) (k : Per q (m + d)) : Per q d := by
  refine Per.of_same (i := m) ?_ ?_
  · obtain ⟨a, ha⟩ := h.1
    obtain ⟨b, hb⟩ := k.1
    exact ⟨b - a, by grind⟩
  · obtain ⟨a, ha⟩ := h.2
    obtain ⟨b, hb⟩ := k.2
    exact ⟨b - a, by grind⟩
theorem Per.gcd {q : Int} (m n : Nat) (h : Per q m) (k : Per q n) : Per q (Nat.gcd m n) := by
  induction m, n using Nat.gcd.induction with
  | H0 n => simpa using k
  | H1 m n hm ih =>
    rw [Nat.gcd_rec]
    refine ih ?_ h
    have e := Nat.div_add_mod n m
    exact (h.mul (n / m)).sub (by rw [e]; exact k)
def ll (M : Nat) : Nat → Nat
  | 0 => 4
  | n + 1 => (ll M n * ll M n + (M - 2)) % M
def Pr (p : Nat) : Prop := 1 < p ∧ ∀ d, d ∣ p → d = 1 ∨ d = p
def llGo (M : Nat) : Nat → Nat → Nat
  | 0, s => s
  | n + 1, s => llGo M n ((s * s + (M - 2)) % M)
def Ch : Nat → Nat → Nat
  | _, 0 => 1
  | 0, _ + 1 => 0
  | n + 1, k + 1 => Ch n k + Ch n (k + 1)
theorem ch_mul (n k : Nat) : (k + 1) * Ch (n + 1) (k + 1) = (n + 1) * Ch n k := by
  induction n generalizing k with
  | zero => cases k <;> simp [Ch]
  | succ n ih =>
    cases k with
    | zero =>
      have := ih 0
      simp only [Ch] at this ⊢
      grind
    | succ k =>
      have h1 := ih k
      have h2 := ih (k + 1)
      have e1 : Ch (n + 1 + 1) (k + 1 + 1) = Ch (n + 1) (k + 1) + Ch (n + 1) (k + 1 + 1) := rfl
      have e2 : Ch (n + 1) (k + 1) = Ch n k + Ch n (k + 1) := rfl
      rw [e1]
      grind
def sumTo (f : Nat → Nat) : Nat → Nat
  | 0 => 0
  | n + 1 => sumTo f n + f n
theorem Pr.coprime {p a : Nat} (hp : Pr p) (h : ¬ p ∣ a) : Nat.Coprime p a := by
  rcases hp.2 (Nat.gcd p a) (Nat.gcd_dvd_left _ _) with e | e
  · exact e
  · exact absurd (by rw [← e]; exact Nat.gcd_dvd_right _ _) h
theorem Pr.ch {p k : Nat} (hp : Pr p) (h0 : 0 < k) (hk : k < p) : p ∣ Ch p k := by
  obtain ⟨k, rfl⟩ : ∃ j, k = j + 1 := ⟨k - 1, by omega⟩
  have h1 := hp.1
  obtain ⟨n, rfl⟩ : ∃ n, p = n + 1 := ⟨p - 1, by omega⟩
  have hc : Nat.Coprime (n + 1) (k + 1) := hp.coprime fun h => by have := Nat.le_of_dvd (by omega) h; omega
  exact hc.dvd_of_dvd_mul_left (m := k + 1) ⟨Ch n k, ch_mul n k⟩
end LL
end Go.Proofs.Ytpefjkndfifceaa
namespace Go.Proofs.Ytpefjkndfifceaa
open Go.RowKit
set_option maxRecDepth 100000
def beN (n z : Nat) : List Nat := List.replicate (n - (natB 256 z).length) 0 ++ (natB 256 z).reverse
def GoodK (N E D : List Nat) : Prop := PrivP N E D ∧ ∃ p q, LL.Pr p ∧ LL.Pr q ∧ p ≠ q ∧ nV N = p * q ∧ nV E * nV D % ((p - 1) * (q - 1)) = 1
end Go.Proofs.Ytpefjkndfifceaa
