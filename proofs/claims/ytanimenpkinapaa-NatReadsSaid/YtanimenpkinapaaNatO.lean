/-
  THE LAW NatCounts, walked. (Written by wip/gen_natO.py.)
-/
import Derived.Test.YtanimenpkinapaaNatN
namespace Go.Proofs.Ytanimenpkinapaa
open Go.RowKit

theorem ref_add (a a' : Option Addr) (n c n' c' : Nat) (l l' : List Nat) (w : World) (h : Reads .u32 w a n c l) (h' : Reads .u32 w a' n' c' l') (hL : Lim l) (hL' : Lim l') (hm : n ≤ 1000000000000) (hm' : n' ≤ 1000000000000) :
    Calls Try.prog 27 #[.slice a n c, .slice a' n' c'] w fun e w' => RetsQ2 .u32 54 w.heap.size w' (cutR32 (val32 l + val32 l')) e ∧ Below w.heap.size w w' := rf.add_any a a' n c n' c' l l' w h h' hL hL' hm hm'
theorem ref_sub (a a' : Option Addr) (n c n' c' : Nat) (l l' : List Nat) (w : World) (h : Reads .u32 w a n c l) (h' : Reads .u32 w a' n' c' l') (hL : Lim l) (hL' : Lim l') (hm : n ≤ 1000000000000) (hm' : n' ≤ 1000000000000) :
    Calls Try.prog 29 #[.slice a n c, .slice a' n' c'] w fun e w' => RetsQ2 .u32 54 w.heap.size w' (subR (val32 l) (val32 l')) e ∧ Below w.heap.size w w' := rf.sub_any a a' n c n' c' l l' w h h' hL hL' hm hm'
theorem ref_mul (a a' : Option Addr) (n c n' c' : Nat) (l l' : List Nat) (w : World) (h : Reads .u32 w a n c l) (h' : Reads .u32 w a' n' c' l') (hL : Lim l) (hL' : Lim l') (hm : n ≤ 1000000000000) (hm' : n' ≤ 1000000000000) :
    Calls Try.prog 31 #[.slice a n c, .slice a' n' c'] w fun e w' => RetsQ2 .u32 54 w.heap.size w' (mulR (val32 l) (val32 l')) e ∧ Below w.heap.size w w' := rf.mul_any a a' n c n' c' l l' w h h' hL hL' hm hm'

set_option maxRecDepth 100000 in
set_option maxHeartbeats 4000000 in
theorem counts_walk (a a' : Option Addr) (n c n' c' : Nat) (l l' : List Nat) (k : Int) (w : World) (hx : Reads .u32 w a n c l) (hL : Lim l) (hy : Reads .u32 w a' n' c' l') (hL' : Lim l') (hk : (Lit.int .i64 k).wf = true) :
    Calls Try.prog 4 #[.slice a n c, .slice a' n' c', .int .i64 k] w fun e w' => e = .returned (.bool true) ∧ Below w.heap.size w w' := by
  have hk2 : k ≤ 9223372036854775807 := by
    simp [Lit.wf, IntKind.min, IntKind.max, IntKind.signed, IntKind.bits] at hk
    omega
  have hml := hx.len_le
  have hml' := hy.len_le
  have HR := Lib.hid hx
  have HN := Lib.hid hx.length
  have HL := Lib.hid hL
  have HR' := Lib.hid hy
  have HN' := Lib.hid hy.length
  have HL' := Lib.hid hL'
  clear hx hL hy hL' hk
  have H1 := Lib.hid ((Below.refl w.heap.size w).alloc (Nat.le_refl _) (.cells #[.slice a n c, .slice a' n' c'] 23))
  have HC : Hid (∀ i, i < 2 → ∃ x z, (w.alloc (.cells #[.slice a n c, .slice a' n' c'] 23)).cell? ⟨w.heap.size, i, none⟩ = some (.slice x ((fun i => if i = 0 then n else n') i) z)) := Lib.hid (fun i hi => by
    rcases i with _ | _ | i
    · exact ⟨a, c, World.cell?_alloc_at _ _ _ _ rfl⟩
    · exact ⟨a', c', World.cell?_alloc_at _ _ _ _ rfl⟩
    · omega)
  have HSZ : Hid (∀ i, i < 2 → (fun i => if i = 0 then n else n') i ≤ maxLen) := Lib.hid (fun i hi => by
    show (if i = 0 then n else n') ≤ maxLen
    split <;> assumption)
  clear hml hml'
  by_cases h300 : n ≤ 300 ∧ n' ≤ 300
  · obtain ⟨hn3, hn3'⟩ := h300
    go_enter Try.func4, Try.ntmps4
    go_wp2_with fail
    refine (great_any _ 2 (fun i => if i = 0 then n else n') _ (by decide) HC.out HSZ.out false (.inr ⟨rfl, fun i _ => by show (if i = 0 then n else n') ≤ 300; split <;> assumption⟩)).mono ?_
    rintro e w1 ⟨rfl, rfl⟩
    clear HC HSZ
    go_wp2_with fail
    refine (twin_any a n c l _ (HR.out.below H1.out) (by omega)).mono ?_
    rintro e w2 ⟨⟨g, c2, rfl, ho2⟩, hb2⟩
    have H2 := Lib.hid (H1.out.trans (hb2.mono H1.out.size))
    have T2 := Lib.hid ho2
    clear ho2 hb2
    go_wp2_with fail
    refine (twin_any a' n' c' l' _ (HR'.out.below H2.out) (by omega)).mono ?_
    rintro e w3 ⟨⟨g', c3, rfl, ho3⟩, hb3⟩
    have H3 := Lib.hid (H2.out.trans (hb3.mono H2.out.size))
    have T3 := Lib.hid ho3.reads
    have HP := Lib.hid (twin_read (T2.out.below hb3) HN.out)
    have HQ := Lib.hid (twin_read ho3 HN'.out)
    replace T2 := Lib.hid (T2.out.below hb3).reads
    have HX := Lib.hid (HR.out.below H3.out)
    have HY := Lib.hid (HR'.out.below H3.out)
    have F3 := Lib.hid (Below.refl w3.heap.size w3)
    clear ho3 hb3
    have SA := Lib.hid (fun (w : World) (a a' : Option Addr) (n c n' c' : Nat) (h : Reads .u32 w a n c l) (h' : Reads .u32 w a' n' c' l') => add_any a a' n c n' c' l l' w h h' HL.out HL'.out)
    have TA := Lib.hid (fun (w : World) (h : Reads .u32 w a n c l) (h' : Reads .u32 w a' n' c' l') => ref_add a a' n c n' c' l l' w h h' HL.out HL'.out (by omega) (by omega))
    have SS := Lib.hid (fun (w : World) (a a' : Option Addr) (n c n' c' : Nat) (h : Reads .u32 w a n c l) (h' : Reads .u32 w a' n' c' l') => sub_any a a' n c n' c' l l' w h h' HL.out HL'.out)
    have TS := Lib.hid (fun (w : World) (h : Reads .u32 w a n c l) (h' : Reads .u32 w a' n' c' l') => ref_sub a a' n c n' c' l l' w h h' HL.out HL'.out (by omega) (by omega))
    have SM := Lib.hid (fun (w : World) (a a' : Option Addr) (n c n' c' : Nat) (h : Reads .u32 w a n c l) (h' : Reads .u32 w a' n' c' l') => mul_any a a' n c n' c' l l' w h h' HL.out HL'.out)
    have TM := Lib.hid (fun (w : World) (h : Reads .u32 w a n c l) (h' : Reads .u32 w a' n' c' l') => ref_mul a a' n c n' c' l l' w h h' HL.out HL'.out (by omega) (by omega))
    have SC := Lib.hid (fun (w : World) (a a' : Option Addr) (n c n' c' : Nat) (h : Reads .u32 w a n c l) (h' : Reads .u32 w a' n' c' l') => cmp_any a a' n c n' c' l l' w h h' HL.out HL'.out)
    have TC := Lib.hid (fun (w : World) (h : Reads .u32 w a n c l) (h' : Reads .u32 w a' n' c' l') => rf.cmp_any a a' n c n' c' l l' w h h' HL.out HL'.out (by omega) (by omega) (ordN (val32 l) (val32 l')) rfl)
    have SB := Lib.hid (fun (w : World) (a : Option Addr) (n c : Nat) (h : Reads .u32 w a n c l) (hn : n ≤ 288230376151711743) => bits_any a n c l w h HL.out hn)
    have TB := Lib.hid (fun (w : World) (h : Reads .u32 w a n c l) => rf.bits_any a n c l w h HL.out (by omega) (bitsN (val32 l)) rfl)
    have SI := Lib.hid (fun (w : World) (a : Option Addr) (n c : Nat) (h : Reads .u32 w a n c l) => bit_any a n c l w h HL.out k hk2)
    have TI := Lib.hid (fun (w : World) (h : Reads .u32 w a n c l) => rf.bit_any a n c l w h HL.out (by omega) k hk2 (decide (0 ≤ k) && (val32 l).testBit k.toNat) rfl)
    generalize (decide (0 ≤ k) && (val32 l).testBit k.toNat) = bt at SI TI
    generalize bitsN (val32 l) = bn at SB TB
    generalize ordN (val32 l) (val32 l') = od at SC TC
    generalize cutR32 (val32 l + val32 l') = R1 at SA TA
    generalize subR (val32 l) (val32 l') = R2 at SS TS
    generalize mulR (val32 l) (val32 l') = R3 at SM TM
    obtain ⟨O1, e1⟩ := R1
    obtain ⟨O2, e2⟩ := R2
    obtain ⟨O3, e3⟩ := R3
    go_wp2_with fail
    refine (SA.out w3 _ _ _ _ _ _ (HP.out.below F3.out) (HQ.out.below F3.out)).mono ?_
    rintro e w4 ⟨⟨v4, rfl, ho⟩, hb⟩
    have F4 := Lib.hid (F3.out.trans (hb.mono F3.out.size))
    have K4 := Lib.hid (ho.mono F3.out.size)
    clear ho hb
    go_wp2_with fail
    refine (TA.out w4 (HX.out.below F4.out) (HY.out.below F4.out)).mono ?_
    rintro e w5 ⟨⟨v5, rfl, ho⟩, hb⟩
    have F5 := Lib.hid (F4.out.trans (hb.mono F4.out.size))
    have K5 := Lib.hid (ho.mono F4.out.size)
    replace K4 := Lib.hid (K4.out.below hb)
    clear ho hb
    go_wp2_with fail
    refine (SS.out w5 _ _ _ _ _ _ (HP.out.below F5.out) (HQ.out.below F5.out)).mono ?_
    rintro e w6 ⟨⟨v6, rfl, ho⟩, hb⟩
    have F6 := Lib.hid (F5.out.trans (hb.mono F5.out.size))
    have A46 := Lib.hid (apart_of K4.out ho (Nat.le_refl _))
    have K6 := Lib.hid (ho.mono F5.out.size)
    replace K4 := Lib.hid (K4.out.below hb)
    replace K5 := Lib.hid (K5.out.below hb)
    clear ho hb
    go_wp2_with fail
    refine (TS.out w6 (HX.out.below F6.out) (HY.out.below F6.out)).mono ?_
    rintro e w7 ⟨⟨v7, rfl, ho⟩, hb⟩
    have F7 := Lib.hid (F6.out.trans (hb.mono F6.out.size))
    have K7 := Lib.hid (ho.mono F6.out.size)
    replace K4 := Lib.hid (K4.out.below hb)
    replace K5 := Lib.hid (K5.out.below hb)
    replace K6 := Lib.hid (K6.out.below hb)
    clear ho hb
    go_wp2_with fail
    refine (SM.out w7 _ _ _ _ _ _ (HP.out.below F7.out) (HQ.out.below F7.out)).mono ?_
    rintro e w8 ⟨⟨v8, rfl, ho⟩, hb⟩
    have F8 := Lib.hid (F7.out.trans (hb.mono F7.out.size))
    have A48 := Lib.hid (apart_of K4.out ho (Nat.le_refl _))
    have A68 := Lib.hid (apart_of K6.out ho (Nat.le_refl _))
    have K8 := Lib.hid (ho.mono F7.out.size)
    replace K4 := Lib.hid (K4.out.below hb)
    replace K5 := Lib.hid (K5.out.below hb)
    replace K6 := Lib.hid (K6.out.below hb)
    replace K7 := Lib.hid (K7.out.below hb)
    clear ho hb
    go_wp2_with fail
    refine (TM.out w8 (HX.out.below F8.out) (HY.out.below F8.out)).mono ?_
    rintro e w9 ⟨⟨v9, rfl, ho⟩, hb⟩
    have F9 := Lib.hid (F8.out.trans (hb.mono F8.out.size))
    have K9 := Lib.hid (ho.mono F8.out.size)
    replace K4 := Lib.hid (K4.out.below hb)
    replace K5 := Lib.hid (K5.out.below hb)
    replace K6 := Lib.hid (K6.out.below hb)
    replace K7 := Lib.hid (K7.out.below hb)
    replace K8 := Lib.hid (K8.out.below hb)
    clear ho hb
    obtain ⟨a4, n4, d4, rfl, -, o⟩ := K4.out.slice
    replace K4 := Lib.hid o
    clear o
    obtain ⟨a5, n5, d5, rfl, -, o⟩ := K5.out.slice
    replace K5 := Lib.hid o
    clear o
    obtain ⟨a6, n6, d6, rfl, -, o⟩ := K6.out.slice
    replace K6 := Lib.hid o
    clear o
    obtain ⟨a7, n7, d7, rfl, -, o⟩ := K7.out.slice
    replace K7 := Lib.hid o
    clear o
    obtain ⟨a8, n8, d8, rfl, -, o⟩ := K8.out.slice
    replace K8 := Lib.hid o
    clear o
    obtain ⟨a9, n9, d9, rfl, -, o⟩ := K9.out.slice
    replace K9 := Lib.hid o
    clear o
    clear SA TA SS TS SM TM
    go_wp2_with fail
    refine (SC.out w9 _ _ _ _ _ _ (HP.out.below F9.out) (HQ.out.below F9.out)).mono ?_
    rintro e w10 ⟨rfl, hb⟩
    have F10 := Lib.hid (F9.out.trans (hb.mono F9.out.size))
    replace K4 := Lib.hid (K4.out.below hb)
    replace K5 := Lib.hid (K5.out.below hb)
    replace K6 := Lib.hid (K6.out.below hb)
    replace K7 := Lib.hid (K7.out.below hb)
    replace K8 := Lib.hid (K8.out.below hb)
    replace K9 := Lib.hid (K9.out.below hb)
    clear hb
    go_wp2_with fail
    refine (TC.out w10 (HX.out.below F10.out) (HY.out.below F10.out)).mono ?_
    rintro e w11 ⟨rfl, hb⟩
    have F11 := Lib.hid (F10.out.trans (hb.mono F10.out.size))
    replace K4 := Lib.hid (K4.out.below hb)
    replace K5 := Lib.hid (K5.out.below hb)
    replace K6 := Lib.hid (K6.out.below hb)
    replace K7 := Lib.hid (K7.out.below hb)
    replace K8 := Lib.hid (K8.out.below hb)
    replace K9 := Lib.hid (K9.out.below hb)
    clear hb
    clear SC TC
    go_wp2_with fail
    refine (SB.out w11 _ _ _ (HP.out.below F11.out) (by omega)).mono ?_
    rintro e wz ⟨rfl, rfl⟩
    go_wp2_with fail
    refine (TB.out w11 (HX.out.below F11.out)).mono ?_
    rintro e w12 ⟨rfl, hb⟩
    have F12 := Lib.hid (F11.out.trans (hb.mono F11.out.size))
    replace K4 := Lib.hid (K4.out.below hb)
    replace K5 := Lib.hid (K5.out.below hb)
    replace K6 := Lib.hid (K6.out.below hb)
    replace K7 := Lib.hid (K7.out.below hb)
    replace K8 := Lib.hid (K8.out.below hb)
    replace K9 := Lib.hid (K9.out.below hb)
    clear hb
    clear SB TB
    go_wp2_with fail
    refine (SI.out w12 _ _ _ (HP.out.below F12.out)).mono ?_
    rintro e wz ⟨rfl, rfl⟩
    go_wp2_with fail
    refine (TI.out w12 (HX.out.below F12.out)).mono ?_
    rintro e w13 ⟨rfl, hb⟩
    have F13 := Lib.hid (F12.out.trans (hb.mono F12.out.size))
    replace K4 := Lib.hid (K4.out.below hb)
    replace K5 := Lib.hid (K5.out.below hb)
    replace K6 := Lib.hid (K6.out.below hb)
    replace K7 := Lib.hid (K7.out.below hb)
    replace K8 := Lib.hid (K8.out.below hb)
    replace K9 := Lib.hid (K9.out.below hb)
    clear hb
    clear SI TI
    go_wp2_with fail
    refine (same_any _ _ _ _ _ _ O1 O1 w13 K4.out.reads K5.out.reads true (by simp)).mono ?_
    rintro e w14 ⟨rfl, hb⟩
    have F14 := Lib.hid (F13.out.trans (hb.mono F13.out.size))
    replace K4 := Lib.hid (K4.out.below hb)
    replace K6 := Lib.hid (K6.out.below hb)
    replace K7 := Lib.hid (K7.out.below hb)
    replace K8 := Lib.hid (K8.out.below hb)
    replace K9 := Lib.hid (K9.out.below hb)
    clear hb
    clear K5
    go_wp2_with fail
    refine (same_any _ _ _ _ _ _ O2 O2 w14 K6.out.reads K7.out.reads true (by simp)).mono ?_
    rintro e w15 ⟨rfl, hb⟩
    have F15 := Lib.hid (F14.out.trans (hb.mono F14.out.size))
    replace K4 := Lib.hid (K4.out.below hb)
    replace K6 := Lib.hid (K6.out.below hb)
    replace K8 := Lib.hid (K8.out.below hb)
    replace K9 := Lib.hid (K9.out.below hb)
    clear hb
    clear K7
    go_wp2_with fail
    refine (same_any _ _ _ _ _ _ O3 O3 w15 K8.out.reads K9.out.reads true (by simp)).mono ?_
    rintro e w16 ⟨rfl, hb⟩
    have F16 := Lib.hid (F15.out.trans (hb.mono F15.out.size))
    replace K4 := Lib.hid (K4.out.below hb)
    replace K6 := Lib.hid (K6.out.below hb)
    replace K8 := Lib.hid (K8.out.below hb)
    clear hb
    clear K9
    go_wp2_with fail
    refine (kept_any w3 _ w3.heap.size w16.heap.size 3 23 [.slice a4 n4 d4, .slice a6 n6 d6, .slice a8 n8 d8] g n c2 a c l T2.out HX.out (F16.out.alloc F16.out.size _) (Nat.le_refl _) rfl (by decide) (fun _ => KeptI.start (fun v hv => by
      rcases List.mem_cons.1 hv with rfl | hv
      · exact ⟨_, K4.out⟩
      · rcases List.mem_cons.1 hv with rfl | hv
        · exact ⟨_, K6.out⟩
        · obtain rfl := List.mem_singleton.1 hv
          exact ⟨_, K8.out⟩)) (Apart.three A46.out A48.out A68.out) _ (.inl ⟨by decide, rfl⟩)).mono ?_
    rintro e w17 ⟨rfl, hb⟩
    have F17 := Lib.hid hb
    clear hb K4 K6 K8
    go_wp2_with fail
    refine (kept_any w3 w17 w3.heap.size 0 0 0 [] g' n' c3 a' c' l' T3.out HY.out F17.out (Nat.le_refl _) rfl (by decide) (fun h => absurd h (by decide)) Apart.none _ (.inr ⟨rfl, rfl⟩)).mono ?_
    rintro e w18 ⟨rfl, hb⟩
    go_wp2
    go_ret
    exact ⟨rfl, H3.out.trans (hb.mono H3.out.size)⟩
  · clear HR HN HL HR' HN' HL'
    go_enter Try.func4, Try.ntmps4
    go_wp2_with fail
    refine (great_any _ 2 (fun i => if i = 0 then n else n') _ (by decide) HC.out HSZ.out true (.inl ⟨rfl, by
      by_cases hn : n ≤ 300
      · exact ⟨1, by decide, by show 300 < (if 1 = 0 then n else n'); rw [if_neg (by decide)]; omega⟩
      · exact ⟨0, by decide, by show 300 < (if 0 = 0 then n else n'); rw [if_pos rfl]; omega⟩⟩)).mono ?_
    rintro e w1 ⟨rfl, rfl⟩
    go_wp2
    go_ret
    exact ⟨rfl, H1.out⟩

end Go.Proofs.Ytanimenpkinapaa
