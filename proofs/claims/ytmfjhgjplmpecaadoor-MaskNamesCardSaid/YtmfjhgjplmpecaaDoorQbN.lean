/-
  SHA-512: scheduled, an iterator.
-/
import Derived.Test.YtmfjhgjplmpecaaDoorQbM2
import Derived.Test.YtmfjhgjplmpecaaDoorFence
import Derived.RangeFuncCalls
import Derived.RangeFuncLeaves
import Derived.Shelf.Abstract
import Derived.Shelf.RegionOpen
import Derived.WalkKit
import Derived.OwnWalkIn
import Derived.TacticsInMore
import Derived.LoopNIn
import Derived.LoopIn
import Derived.BigQuiet
import Derived.BigFrameIn
namespace Go.Proofs.YtmfjhgjplmpecaaDoor.L5
open Go.RowKit Go.Shelf
attribute [local go_sem] Oper.semAt_some

theorem z80 : #[Value.int .u64 0, Value.int .u64 0, Value.int .u64 0, Value.int .u64 0, Value.int .u64 0, Value.int .u64 0, Value.int .u64 0, Value.int .u64 0, Value.int .u64 0, Value.int .u64 0, Value.int .u64 0, Value.int .u64 0, Value.int .u64 0, Value.int .u64 0, Value.int .u64 0, Value.int .u64 0, Value.int .u64 0, Value.int .u64 0, Value.int .u64 0, Value.int .u64 0, Value.int .u64 0, Value.int .u64 0, Value.int .u64 0, Value.int .u64 0, Value.int .u64 0, Value.int .u64 0, Value.int .u64 0, Value.int .u64 0, Value.int .u64 0, Value.int .u64 0, Value.int .u64 0, Value.int .u64 0, Value.int .u64 0, Value.int .u64 0, Value.int .u64 0, Value.int .u64 0, Value.int .u64 0, Value.int .u64 0, Value.int .u64 0, Value.int .u64 0, Value.int .u64 0, Value.int .u64 0, Value.int .u64 0, Value.int .u64 0, Value.int .u64 0, Value.int .u64 0, Value.int .u64 0, Value.int .u64 0, Value.int .u64 0, Value.int .u64 0, Value.int .u64 0, Value.int .u64 0, Value.int .u64 0, Value.int .u64 0, Value.int .u64 0, Value.int .u64 0, Value.int .u64 0, Value.int .u64 0, Value.int .u64 0, Value.int .u64 0, Value.int .u64 0, Value.int .u64 0, Value.int .u64 0, Value.int .u64 0, Value.int .u64 0, Value.int .u64 0, Value.int .u64 0, Value.int .u64 0, Value.int .u64 0, Value.int .u64 0, Value.int .u64 0, Value.int .u64 0, Value.int .u64 0, Value.int .u64 0, Value.int .u64 0, Value.int .u64 0, Value.int .u64 0, Value.int .u64 0, Value.int .u64 0, Value.int .u64 0] = arrC .u64 (List.replicate 80 0) := by kernel_rfl
theorem zeros80 : (Tryd.prog.info? 79).map (fun i => (i.zero, i.size)) = some (some (.agg (arrC .u64 (List.replicate 80 0))), 80) := by kernel_rfl
theorem extN_stays (l : List Nat) {i k : Nat} (hi : i < 16 + k) : ∀ j, g0 (extN l (k + j)) i = g0 (extN l k) i
  | 0 => rfl
  | j + 1 => by
    rw [← extN_stays l hi j, ← Nat.add_assoc]
    show g0 (extS (16 + (k + j)) (extN l (k + j))) i = _
    unfold extS g0
    rw [List.getElem?_set_ne (by omega)]
theorem told_eq (b : List Nat) {t k : Nat} (ht : t < 16 + k) (hk : k ≤ 64) : g0 (schedN b) t = g0 (extN (packN b 128) k) t := by
  have := extN_stays (packN b 128) ht (64 - k)
  rwa [show k + (64 - k) = 64 by omega] at this
/-- What was told ahead of round t. -/
def toldN (b : List Nat) (t : Nat) : List (Nat × Nat) := (List.range t).map fun i => (i, g0 (schedN b) i)
theorem toldN_succ (b : List Nat) (t : Nat) : toldN b (t + 1) = toldN b t ++ [(t, g0 (schedN b) t)] := by
  unfold toldN
  rw [List.range_succ, List.map_append]
  rfl
theorem set_get_ne (L : List Nat) (t x p v : Nat) (h : p ≠ t) (hv : L[p]?.getD 0 = v) : (L.set t x)[p]?.getD 0 = v := by
  rw [List.getElem?_set_ne (Ne.symm h), hv]
abbrev TW (E : TypeId) : Prop := E = 79
abbrev Pc (C : Nat × Nat → Prop) := { p : Nat × Nat // C p }
set_option maxRecDepth 100000 in
set_option maxHeartbeats 4000000 in
theorem scheduled_comes (fn : Nat) (hfn : 1 ≤ fn) (C : Nat × Nat → Prop) (bb : Nat) (bl : List Nat) (w : World) (hA : Arr .u8 95 w bb bl) (hl : bl.length = 128) (hb : ∀ x ∈ bl, x < 256) (hC : ∀ t, t < 80 → C (t, g0 (schedN bl) t)) :
    SeqU TW Fence.wide fn Tryd.prog 70 #[.pointer (some ⟨bb, 0, none⟩)] (fun x : Pc C => #[.int .i64 (x.1.1 : Int), .int .u64 (x.1.2 : Int)]) (fun xs => xs.map (·.1) = toldN bl 80) (fun _ => True) w := fun lp J Jx W hW hJ hJx hY h0 => by
  have hz : ∀ w, (zeroValue 79).run Tryd.prog w = .ok (.agg (arrC .u64 (List.replicate 80 0))) w := fun _ => by kernel_rfl
  have hA1 : Arr .u8 95 W bb bl := hA.below hW hA.lt
  have hA2 := Lib.hid (hA1.alloc (.cells (arrC .u64 (List.replicate 80 0)) 79))
  have hV2 := Lib.hid (show Arr .u64 79 (W.alloc (.cells (arrC .u64 (List.replicate 80 0)) 79)) W.heap.size (packN bl 0) from Go.heap_alloc_new W _)
  have hsz : (arrC .u8 bl).size = 128 := by rw [arrC_size, hl]
  have HSZ := Lib.hid hsz
  have HL := Lib.hid hl
  have HB := Lib.hid hb
  have HJ := Lib.hid hJ
  have HC := Lib.hid hC
  have H0 := Lib.hid h0
  clear hsz hl hb hA hA1 hJx hC
  refine callsIn_of_wp Tryd.func70 rfl trivial ?_ rfl
  simp only [Tryd.ntmps70, List.size_toArray, List.length_cons, List.length_nil, Nat.reduceAdd, Nat.reduceSub, Array.replicate_succ, Array.replicate_zero, List.push_toArray, List.append_toArray, List.nil_append, List.cons_append]
  refine wpIn_wide.2 ?_
  refine wp_scope_straight ?_
  go_wp2_with (refine wpList_load_row rfl _ _ rfl bb rfl _ (arrC .u8 bl) _ _ hA2.out Tryd.underlying95 rfl (by rw [HSZ.out]; kernel_rfl) ?_)
  have hJ2 := Lib.hid (HJ.out [] W (W.alloc (.cells (arrC .u64 (List.replicate 80 0)) 79)) none H0.out (World.grownBy_alloc W _ none) (fun r e => by cases e))
  obtain ⟨V, hV⟩ : ∃ V, V = W.heap.size := ⟨_, rfl⟩
  have HVW := Lib.hid hV
  have HV2 : Hid (Arr .u64 79 (W.alloc (.cells (arrC .u64 (List.replicate 80 0)) 79)) V (packN bl 0)) := by rw [hV]; exact hV2
  have hJ3 : Hid (J [] (W.alloc (.cells (arrC .u64 [0, 0, 0, 0, 0, 0, 0, 0, 0, 0, 0, 0, 0, 0, 0, 0, 0, 0, 0, 0, 0, 0, 0, 0, 0, 0, 0, 0, 0, 0, 0, 0, 0, 0, 0, 0, 0, 0, 0, 0, 0, 0, 0, 0, 0, 0, 0, 0, 0, 0, 0, 0, 0, 0, 0, 0, 0, 0, 0, 0, 0, 0, 0, 0, 0, 0, 0, 0, 0, 0, 0, 0, 0, 0, 0, 0, 0, 0, 0, 0]) 79))) := hJ2
  rw [← hV]
  clear hV hV2 hJ2 hA2
  refine (wpIn_wide (n := fn)).1 ?_
  gi_loopw [8] (fun iv wr => ∃ k : Nat, iv = .int .i64 (k : Int) ∧ k ≤ 128 ∧ Hid (Arr .u64 79 wr V (packN bl k) ∧ J [] wr)) (fun iv _ => 128 - (intOf iv).toNat)
  case atStart => exact ⟨0, rfl, by decide, HV2.out, hJ3.out⟩
  case round =>
    obtain ⟨k, rfl, hk, hI⟩ := hrel
    rcases Nat.lt_or_ge k 128 with hlt | hge
    · have ix := idx128 bl k hlt HL.out
      have hy8 : g0 bl k < 256 := g0_lt HB.out (by decide) k
      unfold g0 at hy8
      obtain ⟨j, hj⟩ : ∃ j, j = k / 8 := ⟨_, rfl⟩
      have hj16 : j < 80 := by omega
      have hjc : (k : Int) / 8 = (j : Int) := by omega
      have hjc2 : Int.tdiv (k : Int) 8 = (j : Int) := by rw [Int.tdiv_eq_ediv_of_nonneg (by omega)]; omega
      obtain ⟨x, hx⟩ : ∃ x, x = g0 (packN bl k) j := ⟨_, rfl⟩
      have hx64 : x < 18446744073709551616 := hx ▸ g0_lt (packN_lt bl HB.out k) (by decide) j
      have hcj := hI.out.1.cell j (by rw [packN_len]; omega)
      have hfj := hI.out.1.frozen j
      rw [show (packN bl k)[j]?.getD 0 = x from hx.symm] at hcj
      obtain ⟨y, hy⟩ : ∃ y, y = bl[k]?.getD 0 := ⟨_, rfl⟩
      rw [← hy] at ix hy8
      obtain ⟨r, hr⟩ : ∃ r, r = (x * 256 % 18446744073709551616 ||| y) := ⟨_, rfl⟩
      have hor : bits BinOp.or IntKind.u64 (IntKind.u64.wrap ((x : Int) * 256)) (y : Int) = (r : Int) := by
        rw [show IntKind.u64.wrap ((x : Int) * 256) = ((x * 256 % 18446744073709551616 : Nat) : Int) by simp [IntKind.wrap, IntKind.bits, IntKind.signed], u64_or_nat _ _ (Nat.mod_lt _ (by decide)) (by omega), hr]
      have HP := Lib.hid (show packN bl (k + 1) = (packN bl k).set j r by rw [hr, hx, hy, hj]; rfl)
      clear hj hx hr hy
      gi_wp2
      go_roundw
      case rel => exact ⟨k + 1, by go_num, by omega, by rw [HP.out]; exact hI.out.1.stored j r _ rfl, HJ.out [] wr _ (some V) hI.out.2 (grown_set (x := wr) (y := wr) (g := V) ⟨rfl, rfl, rfl, Nat.le_refl _, fun _ _ _ => rfl⟩ j _) (fun q e => by cases e; exact ⟨by rw [HVW.out]; exact Nat.le_refl _, _, hI.out.1, .inr ⟨_, _, _, rfl, rfl⟩⟩)⟩
      case measure => simp [intOf]; omega
    · obtain rfl : k = 128 := by omega
      gi_wp2_with fail
      -- SECOND LOOP
      clear hz HSZ HL H0 HV2 hJ3 hk hge h0 hW hJ
      refine (wpIn_wide (n := fn)).1 ?_
      gi_wp2_with fail
      refine wpIn_label ?_
      gi_wp2_with fail
      rename_i Qa Ka hKa
      clear hKa
      gi_loopw [24] (fun iv wr => ∃ t : Nat, iv = .int .i64 (t : Int) ∧ t ≤ 80 ∧ Hid (Arr .u64 79 wr V (extN (packN bl 128) (t - 16)) ∧ ∃ pre : List (Pc C), pre.map (·.1) = toldN bl t ∧ J pre wr)) (fun iv _ => 80 - (intOf iv).toNat)
      case atStart => exact ⟨0, rfl, by decide, hI.out.1, [], rfl, hI.out.2⟩
      case round =>
        clear hI
        obtain ⟨t, rfl, ht, hI⟩ := hrel
        rcases Nat.lt_or_ge t 80 with hlt | hge
        · have hd1 : decide ((t : Int) < 80) = true := by simp; omega
          obtain ⟨v, hv⟩ : ∃ v, v = g0 (schedN bl) t := ⟨_, rfl⟩
          have HT := Lib.hid hv.symm
          have HV := Lib.hid (show g0 (extN (packN bl 128) (t + 1 - 16)) t = v by rw [hv, told_eq bl (k := t + 1 - 16) (by omega) (by omega)])
          rcases Nat.lt_or_ge t 16 with h16 | h16
          · have hd2 : decide (16 ≤ (t : Int)) = false := by simp; omega
            have HA2 := Lib.hid (show Arr .u64 79 wr V (extN (packN bl 128) (t + 1 - 16)) from (show t + 1 - 16 = t - 16 by omega) ▸ hI.out.1)
            have HJ2 := Lib.hid hI.out.2
            clear hv hI
            obtain ⟨pre, hpre, hj2⟩ := HJ2.out
            have HPRE := Lib.hid hpre
            have hCx := HC.out t hlt
            rw [show g0 (schedN bl) t = v from HT.out] at hCx
            obtain ⟨fn1, tmps, assign, body, hy, hR⟩ := hY pre ⟨(t, v), hCx⟩ wr hj2
            clear hpre hj2
            dsimp only at hy
            have HR := Lib.hid hR
            clear hR
            have ct := HA2.out.cell t (by rw [extN_len _ (packN_len bl 128)]; omega)
            rw [show (extN (packN bl 128) (t + 1 - 16))[t]?.getD 0 = v from HV.out] at ct
            gi_wp2_with fail
            refine HR.out.mono ?_
            rintro e W3 (⟨rfl, hJ3, hk3⟩ | ⟨rfl, hx3⟩)
            · have HA3 := Lib.hid (show Arr .u64 79 W3 V (extN (packN bl 128) (t + 1 - 16)) from hk3.2 V _ _ _ rfl HA2.out)
              have HJ3 := Lib.hid (show ∃ pre : List (Pc C), pre.map (·.1) = toldN bl (t + 1) ∧ J pre W3 from ⟨_, by rw [List.map_append, HPRE.out, toldN_succ, show g0 (schedN bl) t = v from HT.out]; rfl, hJ3⟩)
              clear hJ3 hk3 ct
              gi_wp2
              exact ⟨⟨t + 1, by go_num, by omega, HA3.out, HJ3.out⟩, by simp [intOf]; omega⟩
            · have HX3 := Lib.hid hx3
              clear hx3 ct
              gi_wp2
              rw [Exit.noGoto_ret]
              refine bodyPost_ret (results_none rfl _ _ _) rfl ?_
              exact ⟨⟨_, rfl⟩, .inr ⟨_, trivial, HX3.out⟩⟩
          · have hd2 : decide (16 ≤ (t : Int)) = true := by simp; omega
            have HE : Hid (extN (packN bl 128) (t + 1 - 16) = extS t (extN (packN bl 128) (t - 16))) := by
              rw [show t + 1 - 16 = (t - 16) + 1 by omega]
              show extS (16 + (t - 16)) _ = _
              rw [show 16 + (t - 16) = t by omega]
            have hl64 := Lib.hid (extN_len _ (packN_len bl 128) (t - 16))
            have hlt64 := Lib.hid (extN_lt _ (packN_lt bl HB.out 128) (t - 16))
            obtain ⟨L, hL⟩ : ∃ L, L = extN (packN bl 128) (t - 16) := ⟨_, rfl⟩
            rw [← hL] at HE hl64 hlt64 hI
            clear hv hL
            obtain ⟨s, hs⟩ : ∃ s, s = (((g0 L (t - 16) + g0 L (t - 7)) % 18446744073709551616 + farN (g0 L (t - 15))) % 18446744073709551616 + nearN (g0 L (t - 2))) % 18446744073709551616 := ⟨_, rfl⟩
            obtain ⟨p16, hp16⟩ : ∃ p, p = t - 16 := ⟨_, rfl⟩
            have hc16 : (t : Int) - 16 = (p16 : Int) := by omega
            have hb16 : p16 < 80 := by omega
            have hn16 : p16 ≠ t := by omega
            have hw16 : IntKind.i64.wrap (p16 : Int) = (p16 : Int) := by rw [IntKind.wrap_i64]; omega
            have hz16 : 0 ≤ (p16 : Int) ∧ (p16 : Int) < 80 := by omega
            have hk16 := hI.out.1.cell p16 (by rw [hl64.out]; exact hb16)
            obtain ⟨x16, hx16⟩ : ∃ x, x = g0 L p16 := ⟨_, rfl⟩
            have hy16 : x16 < 18446744073709551616 := hx16 ▸ g0_lt hlt64.out (by decide) p16
            rw [show L[p16]?.getD 0 = x16 from hx16.symm] at hk16
            have hq16 := set_get_ne L t s p16 x16 hn16 hx16.symm
            obtain ⟨p7, hp7⟩ : ∃ p, p = t - 7 := ⟨_, rfl⟩
            have hc7 : (t : Int) - 7 = (p7 : Int) := by omega
            have hb7 : p7 < 80 := by omega
            have hn7 : p7 ≠ t := by omega
            have hw7 : IntKind.i64.wrap (p7 : Int) = (p7 : Int) := by rw [IntKind.wrap_i64]; omega
            have hz7 : 0 ≤ (p7 : Int) ∧ (p7 : Int) < 80 := by omega
            have hk7 := hI.out.1.cell p7 (by rw [hl64.out]; exact hb7)
            obtain ⟨x7, hx7⟩ : ∃ x, x = g0 L p7 := ⟨_, rfl⟩
            have hy7 : x7 < 18446744073709551616 := hx7 ▸ g0_lt hlt64.out (by decide) p7
            rw [show L[p7]?.getD 0 = x7 from hx7.symm] at hk7
            have hq7 := set_get_ne L t s p7 x7 hn7 hx7.symm
            obtain ⟨p15, hp15⟩ : ∃ p, p = t - 15 := ⟨_, rfl⟩
            have hc15 : (t : Int) - 15 = (p15 : Int) := by omega
            have hb15 : p15 < 80 := by omega
            have hn15 : p15 ≠ t := by omega
            have hw15 : IntKind.i64.wrap (p15 : Int) = (p15 : Int) := by rw [IntKind.wrap_i64]; omega
            have hz15 : 0 ≤ (p15 : Int) ∧ (p15 : Int) < 80 := by omega
            have hk15 := hI.out.1.cell p15 (by rw [hl64.out]; exact hb15)
            obtain ⟨x15, hx15⟩ : ∃ x, x = g0 L p15 := ⟨_, rfl⟩
            have hy15 : x15 < 18446744073709551616 := hx15 ▸ g0_lt hlt64.out (by decide) p15
            rw [show L[p15]?.getD 0 = x15 from hx15.symm] at hk15
            have hq15 := set_get_ne L t s p15 x15 hn15 hx15.symm
            obtain ⟨p2, hp2⟩ : ∃ p, p = t - 2 := ⟨_, rfl⟩
            have hc2 : (t : Int) - 2 = (p2 : Int) := by omega
            have hb2 : p2 < 80 := by omega
            have hn2 : p2 ≠ t := by omega
            have hw2 : IntKind.i64.wrap (p2 : Int) = (p2 : Int) := by rw [IntKind.wrap_i64]; omega
            have hz2 : 0 ≤ (p2 : Int) ∧ (p2 : Int) < 80 := by omega
            have hk2 := hI.out.1.cell p2 (by rw [hl64.out]; exact hb2)
            obtain ⟨x2, hx2⟩ : ∃ x, x = g0 L p2 := ⟨_, rfl⟩
            have hy2 : x2 < 18446744073709551616 := hx2 ▸ g0_lt hlt64.out (by decide) p2
            rw [show L[p2]?.getD 0 = x2 from hx2.symm] at hk2
            have hq2 := set_get_ne L t s p2 x2 hn2 hx2.symm
            rw [← hp16, ← hp7, ← hp15, ← hp2, ← hx16, ← hx7, ← hx15, ← hx2] at hs
            have HE2 := Lib.hid (show extN (packN bl 128) (t + 1 - 16) = L.set t s by
              rw [HE.out]
              unfold extS
              rw [← hp16, ← hp7, ← hp15, ← hp2, ← hx16, ← hx7, ← hx15, ← hx2, ← hs])
            obtain ⟨f, hf⟩ : ∃ f, f = farN x15 := ⟨_, rfl⟩
            obtain ⟨u, hu⟩ : ∃ u, u = nearN x2 := ⟨_, rfl⟩
            have lf : f < 18446744073709551616 := hf ▸ farN_lt hy15
            have lu : u < 18446744073709551616 := hu ▸ nearN_lt hy2
            rw [← hf, ← hu] at hs
            obtain ⟨s1, hs1⟩ : ∃ s, s = (x16 + x7) % 18446744073709551616 := ⟨_, rfl⟩
            obtain ⟨s2, hs2⟩ : ∃ s, s = (s1 + f) % 18446744073709551616 := ⟨_, rfl⟩
            have ew1 : IntKind.u64.wrap ((x16 : Int) + (x7 : Int)) = (s1 : Int) := by simp [IntKind.wrap, IntKind.bits, IntKind.signed]; omega
            have ew2 : IntKind.u64.wrap ((s1 : Int) + (f : Int)) = (s2 : Int) := by simp [IntKind.wrap, IntKind.bits, IntKind.signed]; omega
            have ew3 : IntKind.u64.wrap ((s2 : Int) + (u : Int)) = (s : Int) := by simp [IntKind.wrap, IntKind.bits, IntKind.signed]; omega
            have hwt : IntKind.i64.wrap (t : Int) = (t : Int) := by rw [IntKind.wrap_i64]; omega
            have hzt : 0 ≤ (t : Int) ∧ (t : Int) < 80 := by omega
            have es1 : ((x16 : Int) + (x7 : Int)) % 18446744073709551616 = (s1 : Int) := by omega
            have es2 : ((s1 : Int) + (f : Int)) % 18446744073709551616 = (s2 : Int) := by omega
            have es3 : ((s2 : Int) + (u : Int)) % 18446744073709551616 = (s : Int) := by omega
            have ls1 : s1 < 18446744073709551616 := by omega
            have ls2 : s2 < 18446744073709551616 := by omega
            have ls3 : s < 18446744073709551616 := by omega
            have HF := Lib.hid hf
            have HU := Lib.hid hu
            have hft := hI.out.1.frozen t
            have hkt := hI.out.1.cell t (by rw [hl64.out]; exact hlt)
            have hst := Lib.hid (hI.out.1.stored t s _ rfl)
            have HQ := Lib.hid (And.intro hq16 (And.intro hq7 (And.intro hq15 hq2)))
            clear hs hf hu hs1 hs2 hp16 hp7 hp15 hp2 hx16 hx7 hx15 hx2 HE hq16 hq7 hq15 hq2 hn16 hn7 hn15 hn2
            gi_wp2_with fail
            refine wpIn_wide.2 ?_
            refine wp_region_held_drew (S := fun W => W.cell? ⟨V, p16, none⟩ = some (.int .u64 (x16 : Int)) ∧ W.cell? ⟨V, p7, none⟩ = some (.int .u64 (x7 : Int)) ∧ W.cell? ⟨V, p15, none⟩ = some (.int .u64 (x15 : Int)) ∧ W.cell? ⟨V, p2, none⟩ = some (.int .u64 (x2 : Int))) (by kernel_rfl) ⟨hk16, hk7, hk15, hk2⟩ (fun hHeld => ?_)
            refine' wpAnyH_take (i := 0) (oi := _) (v := _) rfl (by kernel_rfl) (by kernel_rfl) (by kernel_rfl) (fun _ _ _ h => h) (Or.inl ⟨?_, ?_⟩) (by assumption) ?_
            rotate_left
            all_goals (try simp only [List.getElem_toArray, List.getElem_cons_succ, List.getElem_cons_zero])
            · rfl
            · intro W hSw; (try dsimp only at hSw); go_simp; (try with_reducible rfl)
            try simp only [Act.put, List.setIfInBounds_toArray, List.set_cons_zero, List.set_cons_succ]
            refine' wpAnyH_take (i := 1) (oi := _) (v := _) rfl (by kernel_rfl) (by kernel_rfl) (by kernel_rfl) (fun _ _ _ h => h) (Or.inl ⟨?_, ?_⟩) (by assumption) ?_
            rotate_left
            all_goals (try simp only [List.getElem_toArray, List.getElem_cons_succ, List.getElem_cons_zero])
            · rfl
            · intro W hSw; (try dsimp only at hSw); go_simp; (try with_reducible rfl)
            try simp only [Act.put, List.setIfInBounds_toArray, List.set_cons_zero, List.set_cons_succ]
            refine' wpAnyH_take (i := 2) (oi := _) (v := _) rfl (by kernel_rfl) (by kernel_rfl) (by kernel_rfl) (fun _ _ _ h => h) (Or.inl ⟨?_, ?_⟩) (by assumption) ?_
            rotate_left
            all_goals (try simp only [List.getElem_toArray, List.getElem_cons_succ, List.getElem_cons_zero])
            · rfl
            · intro W hSw; (try dsimp only at hSw); go_simp; (try with_reducible rfl)
            try simp only [Act.put, List.setIfInBounds_toArray, List.set_cons_zero, List.set_cons_succ]
            refine' wpAnyH_take (i := 3) (oi := _) (v := _) rfl (by kernel_rfl) (by kernel_rfl) (by kernel_rfl) (fun _ _ _ h => h) (Or.inl ⟨?_, ?_⟩) (by assumption) ?_
            rotate_left
            all_goals (try simp only [List.getElem_toArray, List.getElem_cons_succ, List.getElem_cons_zero])
            · rfl
            · intro W hSw; (try dsimp only at hSw); go_simp; (try with_reducible rfl)
            try simp only [Act.put, List.setIfInBounds_toArray, List.set_cons_zero, List.set_cons_succ]
            refine' wpAnyH_take (i := 4) (oi := _) (v := _) rfl (by kernel_rfl) (by kernel_rfl) (by kernel_rfl) (fun _ _ _ h => h) (Or.inl ⟨?_, ?_⟩) (by assumption) ?_
            rotate_left
            all_goals (try simp only [List.getElem_toArray, List.getElem_cons_succ, List.getElem_cons_zero])
            · rfl
            · intro W hSw; (try dsimp only at hSw); go_simp; (try with_reducible rfl)
            try simp only [Act.put, List.setIfInBounds_toArray, List.set_cons_zero, List.set_cons_succ]
            refine' wpAnyH_take (i := 5) (oi := _) (v := _) rfl (by kernel_rfl) (by kernel_rfl) (by kernel_rfl) (fun _ _ _ h => h) (Or.inl ⟨?_, ?_⟩) (by assumption) ?_
            rotate_left
            all_goals (try simp only [List.getElem_toArray, List.getElem_cons_succ, List.getElem_cons_zero])
            · rfl
            · intro W hSw; (try dsimp only at hSw); go_simp; (try with_reducible rfl)
            try simp only [Act.put, List.setIfInBounds_toArray, List.set_cons_zero, List.set_cons_succ]
            refine' wpAnyH_take (i := 6) (oi := _) (v := _) rfl (by kernel_rfl) (by kernel_rfl) (by kernel_rfl) (fun _ _ _ h => h) (Or.inl ⟨?_, ?_⟩) (by assumption) ?_
            rotate_left
            all_goals (try simp only [List.getElem_toArray, List.getElem_cons_succ, List.getElem_cons_zero])
            · rfl
            · intro W hSw; (try dsimp only at hSw); go_simp; (try with_reducible rfl)
            try simp only [Act.put, List.setIfInBounds_toArray, List.set_cons_zero, List.set_cons_succ]
            refine' wpAnyH_take (i := 7) (oi := _) (v := _) rfl (by kernel_rfl) (by kernel_rfl) (by kernel_rfl) (fun _ _ _ h => h) (Or.inl ⟨?_, ?_⟩) (by assumption) ?_
            rotate_left
            all_goals (try simp only [List.getElem_toArray, List.getElem_cons_succ, List.getElem_cons_zero])
            · rfl
            · intro W hSw; (try dsimp only at hSw); go_simp; (try with_reducible rfl)
            try simp only [Act.put, List.setIfInBounds_toArray, List.set_cons_zero, List.set_cons_succ]
            refine' wpAnyH_take (i := 8) (oi := _) (v := _) rfl (by kernel_rfl) (by kernel_rfl) (by kernel_rfl) (fun _ _ _ h => h) (Or.inl ⟨?_, ?_⟩) (by assumption) ?_
            rotate_left
            all_goals (try simp only [List.getElem_toArray, List.getElem_cons_succ, List.getElem_cons_zero])
            · rfl
            · intro W hSw; (try dsimp only at hSw); go_simp; (try with_reducible rfl)
            try simp only [Act.put, List.setIfInBounds_toArray, List.set_cons_zero, List.set_cons_succ]
            refine' wpAnyH_take (i := 9) (oi := _) (v := _) rfl (by kernel_rfl) (by kernel_rfl) (by kernel_rfl) (fun _ _ _ h => h) (Or.inl ⟨?_, ?_⟩) (by assumption) ?_
            rotate_left
            all_goals (try simp only [List.getElem_toArray, List.getElem_cons_succ, List.getElem_cons_zero])
            · rfl
            · intro W hSw; (try dsimp only at hSw); go_simp; (try with_reducible rfl)
            try simp only [Act.put, List.setIfInBounds_toArray, List.set_cons_zero, List.set_cons_succ]
            refine' wpAnyH_take (i := 10) (oi := _) (v := _) rfl (by kernel_rfl) (by kernel_rfl) (by kernel_rfl) (fun _ _ _ h => h) (Or.inl ⟨?_, ?_⟩) (by assumption) ?_
            rotate_left
            all_goals (try simp only [List.getElem_toArray, List.getElem_cons_succ, List.getElem_cons_zero])
            · rfl
            · intro W hSw; (try dsimp only at hSw); go_simp; (try with_reducible rfl)
            try simp only [Act.put, List.setIfInBounds_toArray, List.set_cons_zero, List.set_cons_succ]
            refine' wpAnyH_take (i := 11) (oi := _) (v := _) rfl (by kernel_rfl) (by kernel_rfl) (by kernel_rfl) (fun _ _ _ h => h) (Or.inl ⟨?_, ?_⟩) (by assumption) ?_
            rotate_left
            all_goals (try simp only [List.getElem_toArray, List.getElem_cons_succ, List.getElem_cons_zero])
            · rfl
            · intro W hSw; (try dsimp only at hSw); go_simp; (try with_reducible rfl)
            try simp only [Act.put, List.setIfInBounds_toArray, List.set_cons_zero, List.set_cons_succ]
            refine' wpAnyH_take (i := 12) (oi := _) (v := _) rfl (by kernel_rfl) (by kernel_rfl) (by kernel_rfl) (fun _ _ _ h => h) (Or.inl ⟨?_, ?_⟩) (by assumption) ?_
            rotate_left
            all_goals (try simp only [List.getElem_toArray, List.getElem_cons_succ, List.getElem_cons_zero])
            · rfl
            · intro W hSw; (try dsimp only at hSw); go_simp; (try with_reducible rfl)
            try simp only [Act.put, List.setIfInBounds_toArray, List.set_cons_zero, List.set_cons_succ]
            refine' wpAnyH_take (i := 13) (oi := _) (v := _) rfl (by kernel_rfl) (by kernel_rfl) (by kernel_rfl) (fun _ _ _ h => h) (Or.inl ⟨?_, ?_⟩) (by assumption) ?_
            rotate_left
            all_goals (try simp only [List.getElem_toArray, List.getElem_cons_succ, List.getElem_cons_zero])
            · rfl
            · intro W hSw; (try dsimp only at hSw); go_simp; (try with_reducible rfl)
            try simp only [Act.put, List.setIfInBounds_toArray, List.set_cons_zero, List.set_cons_succ]
            refine' wpAnyH_take (i := 16) (oi := _) (v := _) rfl (by kernel_rfl) (by kernel_rfl) (by kernel_rfl) (fun _ _ _ h => h) (Or.inl ⟨?_, ?_⟩) (by assumption) ?_
            rotate_left
            all_goals (try simp only [List.getElem_toArray, List.getElem_cons_succ, List.getElem_cons_zero])
            · rfl
            · intro W hSw; (try dsimp only at hSw); go_simp; (try with_reducible rfl)
            try simp only [Act.put, List.setIfInBounds_toArray, List.set_cons_zero, List.set_cons_succ]
            refine' wpAnyH_take (i := 17) (oi := _) (v := _) rfl (by kernel_rfl) (by kernel_rfl) (by kernel_rfl) (fun _ _ _ h => h) (Or.inl ⟨?_, ?_⟩) (by assumption) ?_
            rotate_left
            all_goals (try simp only [List.getElem_toArray, List.getElem_cons_succ, List.getElem_cons_zero])
            · rfl
            · intro W hSw; (try dsimp only at hSw); go_simp; (try with_reducible rfl)
            try simp only [Act.put, List.setIfInBounds_toArray, List.set_cons_zero, List.set_cons_succ]
            refine' wpAnyH_take (i := 18) (oi := _) (v := _) rfl (by kernel_rfl) (by kernel_rfl) (by kernel_rfl) (fun _ _ _ h => h) (Or.inl ⟨?_, ?_⟩) (by assumption) ?_
            rotate_left
            all_goals (try simp only [List.getElem_toArray, List.getElem_cons_succ, List.getElem_cons_zero])
            · rfl
            · intro W hSw; (try dsimp only at hSw); go_simp; (try with_reducible rfl)
            try simp only [Act.put, List.setIfInBounds_toArray, List.set_cons_zero, List.set_cons_succ]
            refine' wpAnyH_take (i := 19) (oi := _) (v := _) rfl (by kernel_rfl) (by kernel_rfl) (by kernel_rfl) (fun _ _ _ h => h) (Or.inl ⟨?_, ?_⟩) (by assumption) ?_
            rotate_left
            all_goals (try simp only [List.getElem_toArray, List.getElem_cons_succ, List.getElem_cons_zero])
            · rfl
            · intro W hSw; (try dsimp only at hSw); go_simp; (try with_reducible rfl)
            try simp only [Act.put, List.setIfInBounds_toArray, List.set_cons_zero, List.set_cons_succ]
            refine wpAnyH_ready (rs := [14]) (by kernel_rfl) (by simp) ?_
            refine AllReadyH.cons (o := _) rfl (fun K hK => ?_) AllReadyH.nil
            try simp only [List.getElem_toArray, List.getElem_cons_succ, List.getElem_cons_zero]
            go_simp
            refine (far_any x15 _ hy15 f HF.out).mono ?_; rintro e w5 ⟨rfl, rfl⟩
            go_wp2_with fail
            refine hK.out _ _ hHeld (fun hHeld => ?_)
            clear hK K
            try simp only [Act.put, List.setIfInBounds_toArray, List.set_cons_zero, List.set_cons_succ]
            refine' wpAnyH_take (i := 15) (oi := _) (v := _) rfl (by kernel_rfl) (by kernel_rfl) (by kernel_rfl) (fun _ _ _ h => h) (Or.inl ⟨?_, ?_⟩) (by assumption) ?_
            rotate_left
            all_goals (try simp only [List.getElem_toArray, List.getElem_cons_succ, List.getElem_cons_zero])
            · rfl
            · intro W hSw; (try dsimp only at hSw); go_simp; (try with_reducible rfl)
            try simp only [Act.put, List.setIfInBounds_toArray, List.set_cons_zero, List.set_cons_succ]
            refine wpAnyH_ready (rs := [20]) (by kernel_rfl) (by simp) ?_
            refine AllReadyH.cons (o := _) rfl (fun K hK => ?_) AllReadyH.nil
            try simp only [List.getElem_toArray, List.getElem_cons_succ, List.getElem_cons_zero]
            go_simp
            refine (near_any x2 _ hy2 u HU.out).mono ?_; rintro e w5 ⟨rfl, rfl⟩
            go_wp2_with fail
            refine hK.out _ _ hHeld (fun hHeld => ?_)
            clear hK K
            try simp only [Act.put, List.setIfInBounds_toArray, List.set_cons_zero, List.set_cons_succ]
            refine' wpAnyH_take (i := 21) (oi := _) (v := _) rfl (by kernel_rfl) (by kernel_rfl) (by kernel_rfl) (fun _ _ _ h => h) (Or.inl ⟨?_, ?_⟩) (by assumption) ?_
            rotate_left
            all_goals (try simp only [List.getElem_toArray, List.getElem_cons_succ, List.getElem_cons_zero])
            · rfl
            · intro W hSw; (try dsimp only at hSw); go_simp; (try with_reducible rfl)
            try simp only [Act.put, List.setIfInBounds_toArray, List.set_cons_zero, List.set_cons_succ]
            refine' wpAnyH_take (i := 22) (oi := _) (v := _) rfl (by kernel_rfl) (by kernel_rfl) (by kernel_rfl) (fun _ _ _ h => h) (Or.inl ⟨?_, ?_⟩) (by assumption) ?_
            rotate_left
            all_goals (try simp only [List.getElem_toArray, List.getElem_cons_succ, List.getElem_cons_zero])
            · rfl
            · intro W hSw; (try dsimp only at hSw); go_simp; (try with_reducible rfl)
            try simp only [Act.put, List.setIfInBounds_toArray, List.set_cons_zero, List.set_cons_succ]
            refine wpAnyH_ready (rs := [23]) (by kernel_rfl) (by simp) ?_
            refine AllReadyH.cons (o := _) rfl (fun K hK => ?_) AllReadyH.nil
            try simp only [List.getElem_toArray, List.getElem_cons_succ, List.getElem_cons_zero]
            go_simp
            have HW2 := Lib.hid (show Arr .u64 79 (wr.setCell ⟨V, t, none⟩ (.int .u64 (s : Int))).drew V (L.set t s) from hst.out)
            refine hK.out _ _ ⟨(HW2.out.cell p16 (by rw [List.length_set, hl64.out]; exact hb16)).trans (by rw [HQ.out.1]), (HW2.out.cell p7 (by rw [List.length_set, hl64.out]; exact hb7)).trans (by rw [HQ.out.2.1]), (HW2.out.cell p15 (by rw [List.length_set, hl64.out]; exact hb15)).trans (by rw [HQ.out.2.2.1]), (HW2.out.cell p2 (by rw [List.length_set, hl64.out]; exact hb2)).trans (by rw [HQ.out.2.2.2])⟩ (fun hHeld => ?_)
            clear hK K hHeld
            try simp only [Act.put, List.setIfInBounds_toArray, List.set_cons_zero, List.set_cons_succ]
            refine wpAnyH_done (by kernel_rfl) ?_ _
            have HA2 := Lib.hid (show Arr .u64 79 (wr.setCell ⟨V, t, none⟩ (.int .u64 (s : Int))).drew V (extN (packN bl 128) (t + 1 - 16)) from HE2.out ▸ HW2.out)
            have HJ2 := Lib.hid (hI.out.2.elim fun pre hp => (⟨pre, hp.1, HJ.out _ wr _ (some V) hp.2 (grown_drew (grown_set (x := wr) (y := wr) (g := V) ⟨rfl, rfl, rfl, Nat.le_refl _, fun _ _ _ => rfl⟩ t (.int .u64 (s : Int)))) (fun q e => by cases e; exact ⟨by rw [HVW.out]; exact Nat.le_refl _, _, hI.out.1, .inr ⟨_, _, _, rfl, rfl⟩⟩)⟩ : ∃ pre : List (Pc C), pre.map (·.1) = toldN bl t ∧ J pre (wr.setCell ⟨V, t, none⟩ (.int .u64 (s : Int))).drew))
            generalize (wr.setCell ⟨V, t, none⟩ (.int .u64 (s : Int))).drew = W2 at *
            clear hk16 hk7 hk15 hk2 es1 es2 es3 hft hkt hst HW2 hI ew1 ew2 ew3 hwt hzt ls1 ls2 ls3 lf lu HF HU HQ HE2 hc16 hc7 hc15 hc2 hw16 hw7 hw15 hw2 hz16 hz7 hz15 hz2 hb16 hb7 hb15 hb2 hy16 hy7 hy15 hy2 hlt64 hl64 h16
            obtain ⟨pre, hpre, hj2⟩ := HJ2.out
            have HPRE := Lib.hid hpre
            have hCx := HC.out t hlt
            rw [show g0 (schedN bl) t = v from HT.out] at hCx
            obtain ⟨fn1, tmps, assign, body, hy, hR⟩ := hY pre ⟨(t, v), hCx⟩ W2 hj2
            clear hpre hj2
            dsimp only at hy
            have HR := Lib.hid hR
            clear hR
            have ct := HA2.out.cell t (by rw [extN_len _ (packN_len bl 128)]; omega)
            rw [show (extN (packN bl 128) (t + 1 - 16))[t]?.getD 0 = v from HV.out] at ct
            gi_wp2_with fail
            refine HR.out.mono ?_
            rintro e W3 (⟨rfl, hJ3, hk3⟩ | ⟨rfl, hx3⟩)
            · have HA3 := Lib.hid (show Arr .u64 79 W3 V (extN (packN bl 128) (t + 1 - 16)) from hk3.2 V _ _ _ rfl HA2.out)
              have HJ3 := Lib.hid (show ∃ pre : List (Pc C), pre.map (·.1) = toldN bl (t + 1) ∧ J pre W3 from ⟨_, by rw [List.map_append, HPRE.out, toldN_succ, show g0 (schedN bl) t = v from HT.out]; rfl, hJ3⟩)
              clear hJ3 hk3 ct
              gi_wp2
              exact ⟨⟨t + 1, by go_num, by omega, HA3.out, HJ3.out⟩, by simp [intOf]; omega⟩
            · have HX3 := Lib.hid hx3
              clear hx3 ct
              gi_wp2
              rw [Exit.noGoto_ret]
              refine bodyPost_ret (results_none rfl _ _ _) rfl ?_
              exact ⟨⟨_, rfl⟩, .inr ⟨_, trivial, HX3.out⟩⟩
        · obtain rfl : t = 80 := by omega
          have hd1 : decide (((80 : Nat) : Int) < 80) = false := by decide
          have hJ4 := Lib.hid hI.out.2
          clear hI
          gi_wp2
          rw [Exit.noGoto_normal]
          refine bodyPost_end (v := .tuple #[]) (by simp [results, Tryd.f70]) rfl ?_
          exact ⟨⟨_, rfl⟩, .inl (hJ4.out.elim fun pre hp => ⟨pre, hp.1, hp.2⟩)⟩

end Go.Proofs.YtmfjhgjplmpecaaDoor.L5
