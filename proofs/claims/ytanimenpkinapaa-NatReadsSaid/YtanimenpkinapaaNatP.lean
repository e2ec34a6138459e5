/-
  THE LAW NatReads, walked. (Written by wip/gen_natP.py.)
-/
import Derived.Test.YtanimenpkinapaaNatO
import Derived.Deep.RegionHeld3
namespace Go.Proofs.Ytanimenpkinapaa
open Go.RowKit

theorem bit_more (V k : Nat) : V % 2 ^ (k + 1) = V % 2 ^ k + if V.testBit k then 2 ^ k else 0 := by
  rw [Nat.mod_pow_succ, Nat.testBit_eq_decide_div_mod_eq]
  rcases Nat.mod_two_eq_zero_or_one (V / 2 ^ k) with e | e <;> rw [e] <;> simp

theorem or64_bit (v k : Nat) (hk : k < 64) (hv : v < 2 ^ k) : bits BinOp.or IntKind.u64 (v : Int) (IntKind.u64.wrap (2 ^ k)) = ((v + 2 ^ k : Nat) : Int) := by
  have h1 : 2 ^ k ≤ 2 ^ 63 := Nat.pow_le_pow_right (by decide) (by omega)
  have e : ((2 : Int) ^ k) = ((2 ^ k : Nat) : Int) := by simp
  have e2 : IntKind.u64.wrap ((2 ^ k : Nat) : Int) = ((2 ^ k : Nat) : Int) := by
    generalize 2 ^ k = y at *
    simp only [IntKind.wrap, IntKind.bits, IntKind.signed]
    simp
    omega
  rw [e, e2, u64_or_nat _ _ (by omega) (by omega)]
  have := shl_or v 1 k (2 ^ k) rfl hv
  rw [Nat.one_mul, Nat.mul_one] at this
  rw [this]

theorem uintV_yes {V : Nat} (h : V < 18446744073709551616) : uintV V = V := by simp [uintV, h]
theorem uintV_no {V : Nat} (h : ¬ V < 18446744073709551616) : uintV V = 0 := by simp [uintV, h]
theorem bits64 (V : Nat) : decide ((bitsN V : Int) ≤ 64) = decide (V < 18446744073709551616) := by
  have := bitsN_le V 64
  rw [show (2 : Nat) ^ 64 = 18446744073709551616 by decide] at this
  rw [decide_eq_decide]
  omega

set_option maxRecDepth 100000 in
set_option maxHeartbeats 8000000 in
theorem reads_walk (a a' : Option Addr) (n c m c' : Nat) (l lb : List Nat) (u : Int) (w : World) (hx : Reads .u32 w a n c l) (hL : Lim l) (hy : Reads .u8 w a' m c' lb) (hB : Byt lb) (hu : (Lit.int .u64 u).wf = true) :
    Calls Try.prog 3 #[.slice a n c, .slice a' m c', .int .u64 u] w fun e w' => e = .returned (.bool true) ∧ Below w.heap.size w w' := by
  have hu2 : 0 ≤ u ∧ u < 18446744073709551616 := by
    simp [Lit.wf, IntKind.min, IntKind.max, IntKind.signed, IntKind.bits] at hu
    omega
  obtain ⟨un, rfl⟩ := Int.eq_ofNat_of_zero_le hu2.1
  have hun : un < 18446744073709551616 := by omega
  have hml := hx.len_le
  have HR := Lib.hid hx
  have HN := Lib.hid hx.length
  have HL := Lib.hid hL
  have HR' := Lib.hid hy
  have HB := Lib.hid hB
  clear hx hL hy hB hu hu2
  have H1 := Lib.hid ((Below.refl w.heap.size w).alloc (Nat.le_refl _) (.cells #[.slice a n c] 23))
  by_cases h300 : n ≤ 300
  · by_cases hm15 : m ≤ 1500
    · have t1 : decide ((1500 : Int) < (m : Int)) = false := by simp; omega
      go_enter Try.func3, Try.ntmps3
      go_wp2_with fail
      refine (great_any _ 1 (fun _ => n) _ (by decide) (fun i hi => by obtain rfl : i = 0 := (by omega); exact ⟨a, c, World.cell?_alloc_at _ _ _ _ rfl⟩) (fun _ _ => hml) false (.inr ⟨rfl, fun _ _ => h300⟩)).mono ?_
      rintro e w1 ⟨rfl, rfl⟩
      go_wp2_with fail
      refine (twin_any a n c l _ (HR.out.below H1.out) (by omega)).mono ?_
      rintro e w2 ⟨⟨g, c2, rfl, ho2⟩, hb2⟩
      have H2 := Lib.hid (H1.out.trans (hb2.mono H1.out.size))
      have HP := Lib.hid (twin_read ho2 HN.out)
      have HT := Lib.hid ho2.reads
      have HX := Lib.hid (HR.out.below H2.out)
      have HY := Lib.hid (HR'.out.below H2.out)
      have F2 := Lib.hid (Below.refl w2.heap.size w2)
      clear ho2 hb2 HR HR' t1
      have ST := Lib.hid (fun (w : World) (a : Option Addr) (n c : Nat) (h : Reads .u32 w a n c l) => trim_any a n c l w h HL.out)
      have SY := Lib.hid (fun (w : World) (a : Option Addr) (n c : Nat) (h : Reads .u32 w a n c l) (hn : n ≤ 4398046511104) => bytes_any a n c l w h HL.out hn)
      have TY := Lib.hid (fun (w : World) (h : Reads .u32 w a n c l) => rf.bytes_any a n c l w h HL.out (by omega))
      have SU := Lib.hid (fun (w : World) (a : Option Addr) (n c : Nat) (h : Reads .u32 w a n c l) => uint_any a n c l w h HL.out)
      have TD := Lib.hid (fun (w : World) (h : Reads .u32 w a n c l) => rf.digits_any a n c l w h HL.out (by omega))
      have TC : Hid (∀ (w : World) (a : Option Addr) (n c : Nat) (h : Reads .i64 w a n c (natB 256 (val32 l))), Calls Try.prog 13 #[.slice a n c] w fun e w' => RetsQ2 .u32 54 w.heap.size w' (cutR32 (val32 l)) e ∧ Below w.heap.size w w') := Lib.hid (fun w a n c h => by
        have := rf.cut_any a n c _ w h (natB_digit (by decide) _)
        rwa [natB_val (by decide)] at this)
      have TB := Lib.hid (fun (w : World) (h : Reads .u32 w a n c l) => rf.bits_any a n c l w h HL.out (by omega) (bitsN (val32 l)) rfl)
      have TI := Lib.hid (fun (w : World) (h : Reads .u32 w a n c l) (k : Nat) (hk : (k : Int) ≤ 9223372036854775807) => rf.bit_any a n c l w h HL.out (by omega) (k : Int) hk ((val32 l).testBit k) (by simp))
      have SR := Lib.hid (fun (w : World) (h : Reads .u8 w a' m c' lb) => read_any a' m c' lb w h HB.out (by omega))
      have TR : Hid (∀ (w : World) (h : Reads .u8 w a' m c' lb), Calls Try.prog 16 #[.slice a' m c'] w fun e w' => RetsQ2 .u32 54 w.heap.size w' (cutR32 (valB 256 lb.reverse)) e ∧ Below w.heap.size w w') := Lib.hid (fun w h => rf.read_any a' m c' lb w h HB.out (by omega))
      have HBits := Lib.hid (bits64 (val32 l))
      have HDig := Lib.hid (show Byt (natB 256 (val32 l)).reverse from fun x hx => natB_digit (by decide) _ x (List.mem_reverse.1 hx))
      generalize hV : val32 l = V at ST SY TY SU TD TC TB TI HBits HDig
      clear hV
      generalize cutR32 V = R1 at ST TC
      generalize cutR32 (valB 256 lb.reverse) = R2 at SR TR
      obtain ⟨O1, e1⟩ := R1
      obtain ⟨O2, e2⟩ := R2
      go_wp2_with fail
      refine (ST.out w2 _ _ _ HP.out).mono ?_
      rintro e w3 ⟨⟨v3, rfl, ho⟩, hb⟩
      have F3 := Lib.hid (F2.out.trans (hb.mono F2.out.size))
      obtain ⟨a3, n3, d3, rfl, -, ho⟩ := ho.slice
      have K3 := Lib.hid (ho.mono F2.out.size)
      clear ho hb
      go_wp2_with fail
      refine (TD.out w3 (HX.out.below F3.out)).mono ?_
      rintro e w4 ⟨⟨v4, rfl, ho⟩, hb⟩
      have F4 := Lib.hid (F3.out.trans (hb.mono F3.out.size))
      obtain ⟨a4, n4, d4, rfl, -, ho⟩ := ho.slice
      have K4 := Lib.hid (ho.mono F3.out.size)
      replace K3 := Lib.hid (K3.out.below hb)
      clear ho hb
      go_wp2_with fail
      refine (TC.out w4 _ _ _ K4.out.reads).mono ?_
      rintro e w5 ⟨⟨v5, rfl, ho⟩, hb⟩
      have F5 := Lib.hid (F4.out.trans (hb.mono F4.out.size))
      obtain ⟨a5, n5, d5, rfl, -, ho⟩ := ho.slice
      have K5 := Lib.hid (ho.mono F4.out.size)
      replace K3 := Lib.hid (K3.out.below hb)
      replace K4 := Lib.hid (K4.out.below hb)
      clear ho hb
      clear K4
      go_wp2_with fail
      refine (SR.out w5 (HY.out.below F5.out)).mono ?_
      rintro e w6 ⟨⟨v6, rfl, ho⟩, hb⟩
      have F6 := Lib.hid (F5.out.trans (hb.mono F5.out.size))
      obtain ⟨a6, n6, d6, rfl, -, ho⟩ := ho.slice
      have K6 := Lib.hid (ho.mono F5.out.size)
      replace K3 := Lib.hid (K3.out.below hb)
      replace K5 := Lib.hid (K5.out.below hb)
      clear ho hb
      go_wp2_with fail
      refine (TR.out w6 (HY.out.below F6.out)).mono ?_
      rintro e w7 ⟨⟨v7, rfl, ho⟩, hb⟩
      have F7 := Lib.hid (F6.out.trans (hb.mono F6.out.size))
      obtain ⟨a7, n7, d7, rfl, -, ho⟩ := ho.slice
      have K7 := Lib.hid (ho.mono F6.out.size)
      replace K3 := Lib.hid (K3.out.below hb)
      replace K5 := Lib.hid (K5.out.below hb)
      replace K6 := Lib.hid (K6.out.below hb)
      clear ho hb
      go_wp2_with fail
      refine (SY.out w7 _ _ _ (HP.out.below F7.out) (by omega)).mono ?_
      rintro e w8 ⟨⟨v8, rfl, ho⟩, hb⟩
      have F8 := Lib.hid (F7.out.trans (hb.mono F7.out.size))
      obtain ⟨a8, n8, d8, rfl, -, ho⟩ := ho.slice
      have K8 := Lib.hid (ho.mono F7.out.size)
      replace K3 := Lib.hid (K3.out.below hb)
      replace K5 := Lib.hid (K5.out.below hb)
      replace K6 := Lib.hid (K6.out.below hb)
      replace K7 := Lib.hid (K7.out.below hb)
      clear ho hb
      go_wp2_with fail
      refine (SU.out w8 _ _ _ (HP.out.below F8.out)).mono ?_
      rintro e wz ⟨rfl, rfl⟩
      go_wp2_with fail
      refine (TB.out w8 (HX.out.below F8.out)).mono ?_
      rintro e w9 ⟨rfl, hb⟩
      have F9 := Lib.hid (F8.out.trans (hb.mono F8.out.size))
      replace K3 := Lib.hid (K3.out.below hb)
      replace K5 := Lib.hid (K5.out.below hb)
      replace K6 := Lib.hid (K6.out.below hb)
      replace K7 := Lib.hid (K7.out.below hb)
      replace K8 := Lib.hid (K8.out.below hb)
      clear hb ST TC SR TR SY SU TB
      have HUN : Hid (∀ w, Calls Try.prog 21 #[.int .u64 (un : Int)] w fun e w' => RetsQ .u32 54 w.heap.size w' (nat32 un) e ∧ Below w.heap.size w w') := Lib.hid (fun w => of_any _ un rfl w hun)
      have HUU : Hid (∀ (w : World) (a : Option Addr) (n c : Nat) (h : Reads .u32 w a n c (nat32 un)), Calls Try.prog 18 #[.slice a n c] w fun e w' => e = .returned (.tuple #[.int .u64 (un : Int), .bool true]) ∧ w = w') := Lib.hid (fun w a n c h => (uint_any a n c _ w h (natB_digit (by decide) _)).mono fun e w' ⟨he, hb⟩ => ⟨by
              rw [he, show val32 (nat32 un) = un from natB_val (by decide) un, uintV_yes hun, decide_eq_true hun], hb⟩)
      have HDU : Hid (∀ (w : World) (a : Option Addr) (n c : Nat) (h : Reads .u32 w a n c (nat32 un)) (hn : n ≤ 1000000000000), Calls Try.prog 14 #[.slice a n c] w fun e w' => RetsQ .i64 3 w.heap.size w' (natB 256 un) e ∧ Below w.heap.size w w') := Lib.hid (fun w a n c h hn => by
              have := rf.digits_any a n c _ w h (natB_digit (by decide) _) hn
              rwa [show val32 (nat32 un) = un from natB_val (by decide) un] at this)
      have HLU : Hid (∀ (w : World) (a : Option Addr) (n c : Nat) (h : Reads .i64 w a n c (natB 256 un)) (hn : n ≤ 1000000000000), Calls Try.prog 24 #[.slice a n c] w fun e w' => RetsQ .u32 54 w.heap.size w' (nat32 un) e ∧ Below w.heap.size w w') := Lib.hid (fun w a n c h hn => by
              have := rf.limbs_any a n c _ w h (natB_digit (by decide) _) hn
              rwa [natB_val (by decide)] at this)
      have HNU := Lib.hid (show (nat32 un).length ≤ 2 from (natB_length (by decide) un 2).2 (by omega))
      have HN8 := Lib.hid (show (natB 256 un).length ≤ 8 from (natB_length (by decide) un 8).2 (by omega))
      generalize hO : nat32 un = OU at HUN HUU HDU HNU HLU
      clear hO
      generalize hOD : natB 256 un = OD at HDU HLU HN8
      clear hOD
      generalize hDD : (natB 256 V).reverse = D at *
      clear hDD
      obtain ⟨z, hz⟩ : ∃ z, uintV V = z := ⟨_, rfl⟩
      obtain ⟨f, hf⟩ : ∃ f, decide (V < 18446744073709551616) = f := ⟨_, rfl⟩
      go_wp2
      rw [HBits.out, hf]
      have HZ := Lib.hid hz
      have HF := Lib.hid hf
      clear hz hf HBits TD
      cases f with
      | true =>
        have hlt := of_decide_eq_true HF.out
        have HLT := Lib.hid hlt
        clear hlt
        go_loopw [19, 21] (fun v i wr => ∃ k x : Nat, i = .int .i64 (k : Int) ∧ k ≤ 64 ∧ v = .int .u64 (x : Int) ∧ x < 18446744073709551616 ∧ Hid (x = V % 2 ^ k) ∧ Hid (Below w9.heap.size w9 wr)) (fun _ i _ => 64 - (intOf i).toNat)
        case atStart => exact ⟨0, 0, rfl, by omega, rfl, by decide, by unfold Hid; rw [Nat.pow_zero, Nat.mod_one], Below.refl _ _⟩
        case round =>
          obtain ⟨k, x, rfl, hk, rfl, hx64, hx, hbel⟩ := hrel
          obtain ⟨wo, rfl⟩ : ∃ wo : World, wo = wr := ⟨_, rfl⟩
          have Fb := Lib.hid (F9.out.trans (hbel.out.mono F9.out.size))
          by_cases hk64 : k < 64
          · have HC := Lib.hid (TI.out wo (HX.out.below Fb.out) k (by omega))
            have hmore := Lib.hid (bit_more V k)
            cases hbit : V.testBit k with
            | true =>
              rw [hbit] at HC hmore
              have hxk : x < 2 ^ k := by rw [hx.out]; exact Nat.mod_lt _ (Nat.pow_pos (by decide))
              have hp63 : 2 ^ k ≤ 2 ^ 63 := Nat.pow_le_pow_right (by decide) (by omega)
              have hsum := Lib.hid (show x + 2 ^ k < 18446744073709551616 by omega)
              have hor := or64_bit x k hk64 hxk
              have HOR := Lib.hid hor
              clear hor hbit hxk hp63
              go_wp2_with fail
              refine HC.out.mono ?_
              rintro e w10 ⟨rfl, hb⟩
              have HB10 := Lib.hid (hbel.out.trans (hb.mono hbel.out.size))
              clear hb
              go_wp2
              go_roundw
              case rel =>
                rw [HOR.out]
                exact ⟨k + 1, x + 2 ^ k, by go_num, by omega, rfl, hsum.out, by unfold Hid; rw [hmore.out, ← hx.out]; simp, HB10.out⟩
              case measure => simp [intOf] <;> omega
            | false =>
              rw [hbit] at HC hmore
              clear hbit
              go_wp2_with fail
              refine HC.out.mono ?_
              rintro e w10 ⟨rfl, hb⟩
              have HB10 := Lib.hid (hbel.out.trans (hb.mono hbel.out.size))
              clear hb
              go_wp2
              go_roundw
              case rel => exact ⟨k + 1, x, by go_num, by omega, rfl, hx64, by unfold Hid; rw [hmore.out, hx.out]; simp, HB10.out⟩
              case measure => simp [intOf] <;> omega
          · obtain rfl : k = 64 := by omega
            obtain rfl : x = z := by rw [hx.out, ← HZ.out, uintV_yes HLT.out]; exact Nat.mod_eq_of_lt HLT.out
            replace K3 := Lib.hid (K3.out.below hbel.out)
            replace K5 := Lib.hid (K5.out.below hbel.out)
            replace K6 := Lib.hid (K6.out.below hbel.out)
            replace K7 := Lib.hid (K7.out.below hbel.out)
            replace K8 := Lib.hid (K8.out.below hbel.out)
            clear hx hbel
            go_wp2_with fail
            refine (HUN.out _).mono ?_
            rintro e w11 ⟨⟨v11, rfl, ho⟩, hb⟩
            have F11 := Lib.hid (Fb.out.trans (hb.mono Fb.out.size))
            obtain ⟨a11, n11, d11, rfl, hn11, ho⟩ := ho.slice
            have hn11b : n11 ≤ 2 := by have := HNU.out; omega
            have K11 := Lib.hid ho
            replace K3 := Lib.hid (K3.out.below hb)
            replace K5 := Lib.hid (K5.out.below hb)
            replace K6 := Lib.hid (K6.out.below hb)
            replace K7 := Lib.hid (K7.out.below hb)
            replace K8 := Lib.hid (K8.out.below hb)
            clear ho hb hn11
            go_wp2_with fail
            refine (HUU.out _ _ _ _ K11.out.reads).mono ?_
            rintro e wz ⟨rfl, rfl⟩
            obtain ⟨S, hS⟩ : ∃ S, strOf (u8s D) = S := ⟨_, rfl⟩
            have kb0 := conv8 (OwnQ.drew K8.out).reads HDig.out
            rw [hS] at kb0
            have HS := Lib.hid hS
            clear hS
            go_wp2_with fail
            refine wp_region_held_drew (S := fun W => (convert 24 9 (.slice a8 n8 d8)).run Try.prog W = .ok (.string S) W) (by kernel_rfl) kb0 (fun hHeld => ?_)
            have F12 := Lib.hid (F11.out.drew)
            replace K3 := Lib.hid (OwnQ.drew K3.out)
            replace K5 := Lib.hid (OwnQ.drew K5.out)
            replace K6 := Lib.hid (OwnQ.drew K6.out)
            replace K7 := Lib.hid (OwnQ.drew K7.out)
            replace K8 := Lib.hid (OwnQ.drew K8.out)
            replace K11 := Lib.hid (OwnQ.drew K11.out)
            refine' wpAnyH_take (i := 0) (oi := _) (v := _) rfl (by kernel_rfl) (by kernel_rfl) (by kernel_rfl) (fun _ _ _ h => h) (Or.inl ⟨?_, ?_⟩) (by assumption) ?_
            rotate_left
            all_goals (try simp only [List.getElem_toArray, List.getElem_cons_succ, List.getElem_cons_zero])
            · rfl
            · intro W hSw; (try dsimp only at hSw); go_simp; (try with_reducible rfl)
            try simp only [Act.put, List.setIfInBounds_toArray, List.set_cons_zero, List.set_cons_succ]
            refine' wpAnyH_take (i := 1) (oi := _) (v := _) rfl (by kernel_rfl) (by kernel_rfl) (by kernel_rfl) (fun _ _ _ h => h) (Or.inl ⟨?_, ?_⟩) (by assumption) ?_
            rotate_left
            all_goals (try simp only [List.getElem_toArray, List.getElem_cons_succ, List.getElem_cons_zero])
            · rfl
            · intro W hSw; (try dsimp only at hSw); go_simp; (try with_reducible rfl)
            try simp only [Act.put, List.setIfInBounds_toArray, List.set_cons_zero, List.set_cons_succ]
            refine wpAnyH_ready (rs := [2]) (by kernel_rfl) (by simp) ?_
            refine AllReadyH.cons (o := _) rfl (fun K hK => ?_) AllReadyH.nil
            try simp only [List.getElem_toArray, List.getElem_cons_succ, List.getElem_cons_zero]
            go_simp
            refine (same_any _ _ _ _ _ _ O1 O1 _ K3.out.reads K5.out.reads true (by simp)).mono ?_
            rintro e w13 ⟨rfl, hb⟩
            have F13 := Lib.hid (F12.out.trans (hb.mono F12.out.size))
            replace K3 := Lib.hid (K3.out.below hb)
            replace K6 := Lib.hid (K6.out.below hb)
            replace K7 := Lib.hid (K7.out.below hb)
            replace K8 := Lib.hid (K8.out.below hb)
            replace K11 := Lib.hid (K11.out.below hb)
            have kb2 := conv8 K8.out.reads HDig.out
            rw [HS.out] at kb2
            clear hb
            go_wp2_with fail
            refine hK.out _ _ kb2 (fun hHeld => ?_)
            clear hK K
            try simp only [Act.put, List.setIfInBounds_toArray, List.set_cons_zero, List.set_cons_succ]
            refine' wpAnyH_take (i := 3) (oi := _) (v := _) rfl (by kernel_rfl) (by kernel_rfl) (by kernel_rfl) (fun _ _ _ h => h) (Or.inl ⟨?_, ?_⟩) (by assumption) ?_
            rotate_left
            all_goals (try simp only [List.getElem_toArray, List.getElem_cons_succ, List.getElem_cons_zero])
            · rfl
            · intro W hSw; (try dsimp only at hSw); go_simp; (try with_reducible rfl)
            try simp only [Act.put, List.setIfInBounds_toArray, List.set_cons_zero, List.set_cons_succ]
            refine' wpAnyH_take (i := 4) (oi := _) (v := _) rfl (by kernel_rfl) (by kernel_rfl) (by kernel_rfl) (fun _ _ _ h => h) (Or.inl ⟨?_, ?_⟩) (by assumption) ?_
            rotate_left
            all_goals (try simp only [List.getElem_toArray, List.getElem_cons_succ, List.getElem_cons_zero])
            · rfl
            · intro W hSw; (try dsimp only at hSw); go_simp; (try with_reducible rfl)
            try simp only [Act.put, List.setIfInBounds_toArray, List.set_cons_zero, List.set_cons_succ]
            refine' wpAnyH_take (i := 5) (oi := _) (v := _) rfl (by kernel_rfl) (by kernel_rfl) (by kernel_rfl) (fun _ _ _ h => h) (Or.inl ⟨?_, ?_⟩) (by assumption) ?_
            rotate_left
            all_goals (try simp only [List.getElem_toArray, List.getElem_cons_succ, List.getElem_cons_zero])
            · rfl
            · intro W hSw; (try dsimp only at hSw); go_simp; (try with_reducible rfl)
            try simp only [Act.put, List.setIfInBounds_toArray, List.set_cons_zero, List.set_cons_succ]
            refine' wpAnyH_take (i := 6) (oi := _) (v := _) rfl (by kernel_rfl) (by kernel_rfl) (by kernel_rfl) (fun _ _ _ h => h) (Or.inl ⟨?_, ?_⟩) (by assumption) ?_
            rotate_left
            all_goals (try simp only [List.getElem_toArray, List.getElem_cons_succ, List.getElem_cons_zero])
            · rfl
            · intro W hSw; (try dsimp only at hSw); go_simp; (try with_reducible rfl)
            try simp only [Act.put, List.setIfInBounds_toArray, List.set_cons_zero, List.set_cons_succ]
            refine' wpAnyH_take (i := 7) (oi := _) (v := _) rfl (by kernel_rfl) (by kernel_rfl) (by kernel_rfl) (fun _ _ _ h => h) (Or.inl ⟨?_, ?_⟩) (by assumption) ?_
            rotate_left
            all_goals (try simp only [List.getElem_toArray, List.getElem_cons_succ, List.getElem_cons_zero])
            · rfl
            · intro W hSw; (try dsimp only at hSw); go_simp; (try with_reducible rfl)
            try simp only [Act.put, List.setIfInBounds_toArray, List.set_cons_zero, List.set_cons_succ]
            refine' wpAnyH_take (i := 8) (oi := _) (v := _) rfl (by kernel_rfl) (by kernel_rfl) (by kernel_rfl) (fun _ _ _ h => h) (Or.inl ⟨?_, ?_⟩) (by assumption) ?_
            rotate_left
            all_goals (try simp only [List.getElem_toArray, List.getElem_cons_succ, List.getElem_cons_zero])
            · rfl
            · intro W hSw; (try dsimp only at hSw); go_simp; (try with_reducible rfl)
            try simp only [Act.put, List.setIfInBounds_toArray, List.set_cons_zero, List.set_cons_succ]
            refine' wpAnyH_take (i := 9) (oi := _) (v := _) rfl (by kernel_rfl) (by kernel_rfl) (by kernel_rfl) (fun _ _ _ h => h) (Or.inl ⟨?_, ?_⟩) (by assumption) ?_
            rotate_left
            all_goals (try simp only [List.getElem_toArray, List.getElem_cons_succ, List.getElem_cons_zero])
            · rfl
            · intro W hSw; (try dsimp only at hSw); go_simp; (try with_reducible rfl)
            try simp only [Act.put, List.setIfInBounds_toArray, List.set_cons_zero, List.set_cons_succ]
            refine' wpAnyH_take (i := 10) (oi := _) (v := _) rfl (by kernel_rfl) (by kernel_rfl) (by kernel_rfl) (fun _ _ _ h => h) (Or.inl ⟨?_, ?_⟩) (by assumption) ?_
            rotate_left
            all_goals (try simp only [List.getElem_toArray, List.getElem_cons_succ, List.getElem_cons_zero])
            · rfl
            · intro W hSw; (try dsimp only at hSw); go_simp; (try with_reducible rfl)
            try simp only [Act.put, List.setIfInBounds_toArray, List.set_cons_zero, List.set_cons_succ]
            refine' wpAnyH_take (i := 11) (oi := _) (v := _) rfl (by kernel_rfl) (by kernel_rfl) (by kernel_rfl) (fun _ _ _ h => h) (Or.inl ⟨?_, ?_⟩) (by assumption) ?_
            rotate_left
            all_goals (try simp only [List.getElem_toArray, List.getElem_cons_succ, List.getElem_cons_zero])
            · rfl
            · intro W hSw; (try dsimp only at hSw); go_simp; (try with_reducible rfl)
            try simp only [Act.put, List.setIfInBounds_toArray, List.set_cons_zero, List.set_cons_succ]
            refine wpAnyH_ready (rs := [12]) (by kernel_rfl) (by simp) ?_
            refine AllReadyH.cons (o := _) rfl (fun K hK => ?_) AllReadyH.nil
            try simp only [List.getElem_toArray, List.getElem_cons_succ, List.getElem_cons_zero]
            go_simp
            refine (same_any _ _ _ _ _ _ O2 O2 _ K6.out.reads K7.out.reads true (by simp)).mono ?_
            rintro e w14 ⟨rfl, hb⟩
            have F14 := Lib.hid (F13.out.trans (hb.mono F13.out.size))
            replace K3 := Lib.hid (K3.out.below hb)
            replace K8 := Lib.hid (K8.out.below hb)
            replace K11 := Lib.hid (K11.out.below hb)
            have kb12 := conv8 K8.out.reads HDig.out
            rw [HS.out] at kb12
            clear hb
            go_wp2_with fail
            refine hK.out _ _ kb12 (fun hHeld => ?_)
            clear hK K
            try simp only [Act.put, List.setIfInBounds_toArray, List.set_cons_zero, List.set_cons_succ]
            refine' wpAnyH_take (i := 13) (oi := _) (v := _) rfl (by kernel_rfl) (by kernel_rfl) (by kernel_rfl) (fun _ _ _ h => h) (Or.inl ⟨?_, ?_⟩) (by assumption) ?_
            rotate_left
            all_goals (try simp only [List.getElem_toArray, List.getElem_cons_succ, List.getElem_cons_zero])
            · rfl
            · intro W hSw; (try dsimp only at hSw); go_simp; (try with_reducible rfl)
            try simp only [Act.put, List.setIfInBounds_toArray, List.set_cons_zero, List.set_cons_succ]
            refine' wpAnyH_take (i := 14) (oi := _) (v := _) rfl (by kernel_rfl) (by kernel_rfl) (by kernel_rfl) (fun _ _ _ h => h) (Or.inl ⟨?_, ?_⟩) (by assumption) ?_
            rotate_left
            all_goals (try simp only [List.getElem_toArray, List.getElem_cons_succ, List.getElem_cons_zero])
            · rfl
            · intro W hSw; (try dsimp only at hSw); go_simp; (try with_reducible rfl)
            try simp only [Act.put, List.setIfInBounds_toArray, List.set_cons_zero, List.set_cons_succ]
            refine' wpAnyH_take (i := 15) (oi := _) (v := _) rfl (by kernel_rfl) (by kernel_rfl) (by kernel_rfl) (fun _ _ _ h => h) (Or.inl ⟨?_, ?_⟩) (by assumption) ?_
            rotate_left
            all_goals (try simp only [List.getElem_toArray, List.getElem_cons_succ, List.getElem_cons_zero])
            · rfl
            · intro W hSw; (try dsimp only at hSw); go_simp; (try with_reducible rfl)
            try simp only [Act.put, List.setIfInBounds_toArray, List.set_cons_zero, List.set_cons_succ]
            refine' wpAnyH_take (i := 16) (oi := _) (v := _) rfl (by kernel_rfl) (by kernel_rfl) (by kernel_rfl) (fun _ _ _ h => h) (Or.inl ⟨?_, ?_⟩) (by assumption) ?_
            rotate_left
            all_goals (try simp only [List.getElem_toArray, List.getElem_cons_succ, List.getElem_cons_zero])
            · rfl
            · intro W hSw; (try dsimp only at hSw); go_simp; (try with_reducible rfl)
            try simp only [Act.put, List.setIfInBounds_toArray, List.set_cons_zero, List.set_cons_succ]
            refine' wpAnyH_take (i := 17) (oi := _) (v := _) rfl (by kernel_rfl) (by kernel_rfl) (by kernel_rfl) (fun _ _ _ h => h) (Or.inl ⟨?_, ?_⟩) (by assumption) ?_
            rotate_left
            all_goals (try simp only [List.getElem_toArray, List.getElem_cons_succ, List.getElem_cons_zero])
            · rfl
            · intro W hSw; (try dsimp only at hSw); go_simp; (try with_reducible rfl)
            try simp only [Act.put, List.setIfInBounds_toArray, List.set_cons_zero, List.set_cons_succ]
            refine' wpAnyH_take (i := 18) (oi := _) (v := _) rfl (by kernel_rfl) (by kernel_rfl) (by kernel_rfl) (fun _ _ _ h => h) (Or.inl ⟨?_, ?_⟩) (by assumption) ?_
            rotate_left
            all_goals (try simp only [List.getElem_toArray, List.getElem_cons_succ, List.getElem_cons_zero])
            · rfl
            · intro W hSw; (try dsimp only at hSw); go_simp; (try with_reducible rfl)
            try simp only [Act.put, List.setIfInBounds_toArray, List.set_cons_zero, List.set_cons_succ]
            refine' wpAnyH_take (i := 19) (oi := _) (v := _) rfl (by kernel_rfl) (by kernel_rfl) (by kernel_rfl) (fun _ _ _ h => h) (Or.inl ⟨?_, ?_⟩) (by assumption) ?_
            rotate_left
            all_goals (try simp only [List.getElem_toArray, List.getElem_cons_succ, List.getElem_cons_zero])
            · rfl
            · intro W hSw; (try dsimp only at hSw); go_simp; (try with_reducible rfl)
            try simp only [Act.put, List.setIfInBounds_toArray, List.set_cons_zero, List.set_cons_succ]
            refine' wpAnyH_take (i := 20) (oi := _) (v := _) rfl (by kernel_rfl) (by kernel_rfl) (by kernel_rfl) (fun _ _ _ h => h) (Or.inl ⟨?_, ?_⟩) (by assumption) ?_
            rotate_left
            all_goals (try simp only [List.getElem_toArray, List.getElem_cons_succ, List.getElem_cons_zero])
            · rfl
            · intro W hSw; (try dsimp only at hSw); go_simp; (try with_reducible rfl)
            try simp only [Act.put, List.setIfInBounds_toArray, List.set_cons_zero, List.set_cons_succ]
            refine' wpAnyH_take (i := 21) (oi := _) (v := _) rfl (by kernel_rfl) (by kernel_rfl) (by kernel_rfl) (fun _ _ _ h => h) (Or.inl ⟨?_, ?_⟩) (by assumption) ?_
            rotate_left
            all_goals (try simp only [List.getElem_toArray, List.getElem_cons_succ, List.getElem_cons_zero])
            · rfl
            · intro W hSw; (try dsimp only at hSw); go_simp; (try with_reducible rfl)
            try simp only [Act.put, List.setIfInBounds_toArray, List.set_cons_zero, List.set_cons_succ]
            refine' wpAnyH_take (i := 22) (oi := _) (v := _) rfl (by kernel_rfl) (by kernel_rfl) (by kernel_rfl) (fun _ _ _ h => h) (Or.inl ⟨?_, ?_⟩) (by assumption) ?_
            rotate_left
            all_goals (try simp only [List.getElem_toArray, List.getElem_cons_succ, List.getElem_cons_zero])
            · rfl
            · intro W hSw; (try dsimp only at hSw); go_simp; (try with_reducible rfl)
            try simp only [Act.put, List.setIfInBounds_toArray, List.set_cons_zero, List.set_cons_succ]
            refine' wpAnyH_take (i := 23) (oi := _) (v := _) rfl (by kernel_rfl) (by kernel_rfl) (by kernel_rfl) (fun _ _ _ h => h) (Or.inl ⟨?_, ?_⟩) (by assumption) ?_
            rotate_left
            all_goals (try simp only [List.getElem_toArray, List.getElem_cons_succ, List.getElem_cons_zero])
            · rfl
            · intro W hSw; (try dsimp only at hSw); go_simp; (try with_reducible rfl)
            try simp only [Act.put, List.setIfInBounds_toArray, List.set_cons_zero, List.set_cons_succ]
            refine wpAnyH_ready (rs := [24]) (by kernel_rfl) (by simp) ?_
            refine AllReadyH.cons (o := _) rfl (fun K hK => ?_) AllReadyH.nil
            try simp only [List.getElem_toArray, List.getElem_cons_succ, List.getElem_cons_zero]
            go_simp
            refine (TY.out _ (HX.out.below F14.out)).mono ?_
            rintro e w15 ⟨⟨v15, rfl, ho⟩, hb⟩
            obtain ⟨a15, n15, d15, rfl, -, ho⟩ := ho.slice
            have F15 := Lib.hid (F14.out.trans (hb.mono F14.out.size))
            replace K3 := Lib.hid (K3.out.below hb)
            replace K8 := Lib.hid (K8.out.below hb)
            replace K11 := Lib.hid (K11.out.below hb)
            have kb24 := conv8 K8.out.reads HDig.out
            rw [HS.out] at kb24
            clear hb
            have ky := conv8 ho.reads HDig.out
            rw [HS.out] at ky
            clear ho
            go_wp2_with fail
            refine hK.out _ _ kb24 (fun hHeld => ?_)
            clear hK K
            try simp only [Act.put, List.setIfInBounds_toArray, List.set_cons_zero, List.set_cons_succ]
            refine wpAnyH_ready (rs := [25]) (by kernel_rfl) (by simp) ?_
            refine AllReadyH.cons (o := _) rfl (fun K hK => ?_) AllReadyH.nil
            try simp only [List.getElem_toArray, List.getElem_cons_succ, List.getElem_cons_zero]
            go_simp
            refine hK.out _ _ kb24 (fun hHeld => ?_)
            clear hK K
            try simp only [Act.put, List.setIfInBounds_toArray, List.set_cons_zero, List.set_cons_succ]
            refine' wpAnyH_take (i := 26) (oi := _) (v := _) rfl (by kernel_rfl) (by kernel_rfl) (by kernel_rfl) (fun _ _ _ h => h) (Or.inl ⟨?_, ?_⟩) (by assumption) ?_
            rotate_left
            all_goals (try simp only [List.getElem_toArray, List.getElem_cons_succ, List.getElem_cons_zero])
            · rfl
            · intro W hSw; (try dsimp only at hSw); go_simp; (try with_reducible rfl)
            try simp only [Act.put, List.setIfInBounds_toArray, List.set_cons_zero, List.set_cons_succ]
            refine' wpAnyH_take (i := 27) (oi := _) (v := _) rfl (by kernel_rfl) (by kernel_rfl) (by kernel_rfl) (fun _ _ _ h => h) (Or.inl ⟨?_, ?_⟩) (by assumption) ?_
            rotate_left
            all_goals (try simp only [List.getElem_toArray, List.getElem_cons_succ, List.getElem_cons_zero])
            · rfl
            · intro W hSw; (try dsimp only at hSw); go_simp; (try with_reducible rfl)
            try simp only [Act.put, List.setIfInBounds_toArray, List.set_cons_zero, List.set_cons_succ]
            refine' wpAnyH_take (i := 28) (oi := _) (v := _) rfl (by kernel_rfl) (by kernel_rfl) (by kernel_rfl) (fun _ _ _ h => h) (Or.inl ⟨?_, ?_⟩) (by assumption) ?_
            rotate_left
            all_goals (try simp only [List.getElem_toArray, List.getElem_cons_succ, List.getElem_cons_zero])
            · rfl
            · intro W hSw; (try dsimp only at hSw); go_simp; (try with_reducible rfl)
            try simp only [Act.put, List.setIfInBounds_toArray, List.set_cons_zero, List.set_cons_succ]
            refine' wpAnyH_take (i := 29) (oi := _) (v := _) rfl (by kernel_rfl) (by kernel_rfl) (by kernel_rfl) (fun _ _ _ h => h) (Or.inl ⟨?_, ?_⟩) (by assumption) ?_
            rotate_left
            all_goals (try simp only [List.getElem_toArray, List.getElem_cons_succ, List.getElem_cons_zero])
            · rfl
            · intro W hSw; (try dsimp only at hSw); go_simp; (try with_reducible rfl)
            try simp only [Act.put, List.setIfInBounds_toArray, List.set_cons_zero, List.set_cons_succ]
            refine' wpAnyH_take (i := 30) (oi := _) (v := _) rfl (by kernel_rfl) (by kernel_rfl) (by kernel_rfl) (fun _ _ _ h => h) (Or.inl ⟨?_, ?_⟩) (by assumption) ?_
            rotate_left
            all_goals (try simp only [List.getElem_toArray, List.getElem_cons_succ, List.getElem_cons_zero])
            · rfl
            · intro W hSw; (try dsimp only at hSw); go_simp; (try with_reducible rfl)
            try simp only [Act.put, List.setIfInBounds_toArray, List.set_cons_zero, List.set_cons_succ]
            refine' wpAnyH_take (i := 31) (oi := _) (v := _) rfl (by kernel_rfl) (by kernel_rfl) (by kernel_rfl) (fun _ _ _ h => h) (Or.inl ⟨?_, ?_⟩) (by assumption) ?_
            rotate_left
            all_goals (try simp only [List.getElem_toArray, List.getElem_cons_succ, List.getElem_cons_zero])
            · rfl
            · intro W hSw; (try dsimp only at hSw); go_simp; (try with_reducible rfl)
            try simp only [Act.put, List.setIfInBounds_toArray, List.set_cons_zero, List.set_cons_succ]
            refine' wpAnyH_take (i := 32) (oi := _) (v := _) rfl (by kernel_rfl) (by kernel_rfl) (by kernel_rfl) (fun _ _ _ h => h) (Or.inl ⟨?_, ?_⟩) (by assumption) ?_
            rotate_left
            all_goals (try simp only [List.getElem_toArray, List.getElem_cons_succ, List.getElem_cons_zero])
            · rfl
            · intro W hSw; (try dsimp only at hSw); go_simp; (try with_reducible rfl)
            try simp only [Act.put, List.setIfInBounds_toArray, List.set_cons_zero, List.set_cons_succ]
            refine' wpAnyH_take (i := 33) (oi := _) (v := _) rfl (by kernel_rfl) (by kernel_rfl) (by kernel_rfl) (fun _ _ _ h => h) (Or.inl ⟨?_, ?_⟩) (by assumption) ?_
            rotate_left
            all_goals (try simp only [List.getElem_toArray, List.getElem_cons_succ, List.getElem_cons_zero])
            · rfl
            · intro W hSw; (try dsimp only at hSw); go_simp; (try with_reducible rfl)
            try simp only [Act.put, List.setIfInBounds_toArray, List.set_cons_zero, List.set_cons_succ]
            refine' wpAnyH_take (i := 34) (oi := _) (v := _) rfl (by kernel_rfl) (by kernel_rfl) (by kernel_rfl) (fun _ _ _ h => h) (Or.inl ⟨?_, ?_⟩) (by assumption) ?_
            rotate_left
            all_goals (try simp only [List.getElem_toArray, List.getElem_cons_succ, List.getElem_cons_zero])
            · rfl
            · intro W hSw; (try dsimp only at hSw); go_simp; (try with_reducible rfl)
            try simp only [Act.put, List.setIfInBounds_toArray, List.set_cons_zero, List.set_cons_succ]
            refine' wpAnyH_take (i := 35) (oi := _) (v := _) rfl (by kernel_rfl) (by kernel_rfl) (by kernel_rfl) (fun _ _ _ h => h) (Or.inl ⟨?_, ?_⟩) (by assumption) ?_
            rotate_left
            all_goals (try simp only [List.getElem_toArray, List.getElem_cons_succ, List.getElem_cons_zero])
            · rfl
            · intro W hSw; (try dsimp only at hSw); go_simp; (try with_reducible rfl)
            try simp only [Act.put, List.setIfInBounds_toArray, List.set_cons_zero, List.set_cons_succ]
            refine' wpAnyH_take (i := 36) (oi := _) (v := _) rfl (by kernel_rfl) (by kernel_rfl) (by kernel_rfl) (fun _ _ _ h => h) (Or.inl ⟨?_, ?_⟩) (by assumption) ?_
            rotate_left
            all_goals (try simp only [List.getElem_toArray, List.getElem_cons_succ, List.getElem_cons_zero])
            · rfl
            · intro W hSw; (try dsimp only at hSw); go_simp; (try with_reducible rfl)
            try simp only [Act.put, List.setIfInBounds_toArray, List.set_cons_zero, List.set_cons_succ]
            refine' wpAnyH_take (i := 37) (oi := _) (v := _) rfl (by kernel_rfl) (by kernel_rfl) (by kernel_rfl) (fun _ _ _ h => h) (Or.inl ⟨?_, ?_⟩) (by assumption) ?_
            rotate_left
            all_goals (try simp only [List.getElem_toArray, List.getElem_cons_succ, List.getElem_cons_zero])
            · rfl
            · intro W hSw; (try dsimp only at hSw); go_simp; (try with_reducible rfl)
            try simp only [Act.put, List.setIfInBounds_toArray, List.set_cons_zero, List.set_cons_succ]
            refine' wpAnyH_take (i := 38) (oi := _) (v := _) rfl (by kernel_rfl) (by kernel_rfl) (by kernel_rfl) (fun _ _ _ h => h) (Or.inl ⟨?_, ?_⟩) (by assumption) ?_
            rotate_left
            all_goals (try simp only [List.getElem_toArray, List.getElem_cons_succ, List.getElem_cons_zero])
            · rfl
            · intro W hSw; (try dsimp only at hSw); go_simp; (try with_reducible rfl)
            try simp only [Act.put, List.setIfInBounds_toArray, List.set_cons_zero, List.set_cons_succ]
            refine' wpAnyH_take (i := 39) (oi := _) (v := _) rfl (by kernel_rfl) (by kernel_rfl) (by kernel_rfl) (fun _ _ _ h => h) (Or.inl ⟨?_, ?_⟩) (by assumption) ?_
            rotate_left
            all_goals (try simp only [List.getElem_toArray, List.getElem_cons_succ, List.getElem_cons_zero])
            · rfl
            · intro W hSw; (try dsimp only at hSw); go_simp; (try with_reducible rfl)
            try simp only [Act.put, List.setIfInBounds_toArray, List.set_cons_zero, List.set_cons_succ]
            refine' wpAnyH_take (i := 40) (oi := _) (v := _) rfl (by kernel_rfl) (by kernel_rfl) (by kernel_rfl) (fun _ _ _ h => h) (Or.inl ⟨?_, ?_⟩) (by assumption) ?_
            rotate_left
            all_goals (try simp only [List.getElem_toArray, List.getElem_cons_succ, List.getElem_cons_zero])
            · rfl
            · intro W hSw; (try dsimp only at hSw); go_simp; (try with_reducible rfl)
            try simp only [Act.put, List.setIfInBounds_toArray, List.set_cons_zero, List.set_cons_succ]
            refine' wpAnyH_take (i := 41) (oi := _) (v := _) rfl (by kernel_rfl) (by kernel_rfl) (by kernel_rfl) (fun _ _ _ h => h) (Or.inl ⟨?_, ?_⟩) (by assumption) ?_
            rotate_left
            all_goals (try simp only [List.getElem_toArray, List.getElem_cons_succ, List.getElem_cons_zero])
            · rfl
            · intro W hSw; (try dsimp only at hSw); go_simp; (try with_reducible rfl)
            try simp only [Act.put, List.setIfInBounds_toArray, List.set_cons_zero, List.set_cons_succ]
            refine' wpAnyH_take (i := 42) (oi := _) (v := _) rfl (by kernel_rfl) (by kernel_rfl) (by kernel_rfl) (fun _ _ _ h => h) (Or.inl ⟨?_, ?_⟩) (by assumption) ?_
            rotate_left
            all_goals (try simp only [List.getElem_toArray, List.getElem_cons_succ, List.getElem_cons_zero])
            · rfl
            · intro W hSw; (try dsimp only at hSw); go_simp; (try with_reducible rfl)
            try simp only [Act.put, List.setIfInBounds_toArray, List.set_cons_zero, List.set_cons_succ]
            refine' wpAnyH_take (i := 43) (oi := _) (v := _) rfl (by kernel_rfl) (by kernel_rfl) (by kernel_rfl) (fun _ _ _ h => h) (Or.inl ⟨?_, ?_⟩) (by assumption) ?_
            rotate_left
            all_goals (try simp only [List.getElem_toArray, List.getElem_cons_succ, List.getElem_cons_zero])
            · rfl
            · intro W hSw; (try dsimp only at hSw); go_simp; (try with_reducible rfl)
            try simp only [Act.put, List.setIfInBounds_toArray, List.set_cons_zero, List.set_cons_succ]
            refine' wpAnyH_take (i := 44) (oi := _) (v := _) rfl (by kernel_rfl) (by kernel_rfl) (by kernel_rfl) (fun _ _ _ h => h) (Or.inl ⟨?_, ?_⟩) (by assumption) ?_
            rotate_left
            all_goals (try simp only [List.getElem_toArray, List.getElem_cons_succ, List.getElem_cons_zero])
            · rfl
            · intro W hSw; (try dsimp only at hSw); go_simp; (try with_reducible rfl)
            try simp only [Act.put, List.setIfInBounds_toArray, List.set_cons_zero, List.set_cons_succ]
            refine' wpAnyH_take (i := 45) (oi := _) (v := _) rfl (by kernel_rfl) (by kernel_rfl) (by kernel_rfl) (fun _ _ _ h => h) (Or.inl ⟨?_, ?_⟩) (by assumption) ?_
            rotate_left
            all_goals (try simp only [List.getElem_toArray, List.getElem_cons_succ, List.getElem_cons_zero])
            · rfl
            · intro W hSw; (try dsimp only at hSw); go_simp; (try with_reducible rfl)
            try simp only [Act.put, List.setIfInBounds_toArray, List.set_cons_zero, List.set_cons_succ]
            refine wpAnyH_ready (rs := [46]) (by kernel_rfl) (by simp) ?_
            refine AllReadyH.cons (o := _) rfl (fun K hK => ?_) AllReadyH.nil
            try simp only [List.getElem_toArray, List.getElem_cons_succ, List.getElem_cons_zero]
            go_simp
            refine (HDU.out _ _ _ _ K11.out.reads (by omega)).mono ?_
            rintro e w16 ⟨⟨v16, rfl, ho⟩, hb⟩
            obtain ⟨a16, n16, d16, rfl, hn16, ho⟩ := ho.slice
            have hn16b : n16 ≤ 8 := by have := HN8.out; omega
            have K16 := Lib.hid ho
            clear ho hn16
            have F16 := Lib.hid (F15.out.trans (hb.mono F15.out.size))
            replace K3 := Lib.hid (K3.out.below hb)
            replace K8 := Lib.hid (K8.out.below hb)
            replace K11 := Lib.hid (K11.out.below hb)
            have kb46 := conv8 K8.out.reads HDig.out
            rw [HS.out] at kb46
            clear hb
            go_wp2_with fail
            refine hK.out _ _ kb46 (fun hHeld => ?_)
            clear hK K
            try simp only [Act.put, List.setIfInBounds_toArray, List.set_cons_zero, List.set_cons_succ]
            refine wpAnyH_ready (rs := [47]) (by kernel_rfl) (by simp) ?_
            refine AllReadyH.cons (o := _) rfl (fun K hK => ?_) AllReadyH.nil
            try simp only [List.getElem_toArray, List.getElem_cons_succ, List.getElem_cons_zero]
            go_simp
            refine (HLU.out _ _ _ _ K16.out.reads (by omega)).mono ?_
            rintro e w17 ⟨⟨v17, rfl, ho⟩, hb⟩
            obtain ⟨a17, n17, d17, rfl, -, ho⟩ := ho.slice
            have K17 := Lib.hid ho
            clear ho
            have F17 := Lib.hid (F16.out.trans (hb.mono F16.out.size))
            replace K3 := Lib.hid (K3.out.below hb)
            replace K8 := Lib.hid (K8.out.below hb)
            replace K11 := Lib.hid (K11.out.below hb)
            have kb47 := conv8 K8.out.reads HDig.out
            rw [HS.out] at kb47
            clear hb
            go_wp2_with fail
            refine hK.out _ _ kb47 (fun hHeld => ?_)
            clear hK K
            try simp only [Act.put, List.setIfInBounds_toArray, List.set_cons_zero, List.set_cons_succ]
            refine wpAnyH_ready (rs := [48]) (by kernel_rfl) (by simp) ?_
            refine AllReadyH.cons (o := _) rfl (fun K hK => ?_) AllReadyH.nil
            try simp only [List.getElem_toArray, List.getElem_cons_succ, List.getElem_cons_zero]
            go_simp
            refine (same_any _ _ _ _ _ _ OU OU _ K11.out.reads K17.out.reads true (by simp)).mono ?_
            rintro e w18 ⟨rfl, hb⟩
            have F18 := Lib.hid (F17.out.trans (hb.mono F17.out.size))
            replace K3 := Lib.hid (K3.out.below hb)
            replace K8 := Lib.hid (K8.out.below hb)
            have kb48 := conv8 K8.out.reads HDig.out
            rw [HS.out] at kb48
            clear hb
            go_wp2_with fail
            refine hK.out _ _ kb48 (fun hHeld => ?_)
            clear hK K
            try simp only [Act.put, List.setIfInBounds_toArray, List.set_cons_zero, List.set_cons_succ]
            refine' wpAnyH_take (i := 49) (oi := _) (v := _) rfl (by kernel_rfl) (by kernel_rfl) (by kernel_rfl) (fun _ _ _ h => h) (Or.inl ⟨?_, ?_⟩) (by assumption) ?_
            rotate_left
            all_goals (try simp only [List.getElem_toArray, List.getElem_cons_succ, List.getElem_cons_zero])
            · rfl
            · intro W hSw; (try dsimp only at hSw); go_simp; (try with_reducible rfl)
            try simp only [Act.put, List.setIfInBounds_toArray, List.set_cons_zero, List.set_cons_succ]
            refine' wpAnyH_take (i := 50) (oi := _) (v := _) rfl (by kernel_rfl) (by kernel_rfl) (by kernel_rfl) (fun _ _ _ h => h) (Or.inl ⟨?_, ?_⟩) (by assumption) ?_
            rotate_left
            all_goals (try simp only [List.getElem_toArray, List.getElem_cons_succ, List.getElem_cons_zero])
            · rfl
            · intro W hSw; (try dsimp only at hSw); go_simp; (try with_reducible rfl)
            try simp only [Act.put, List.setIfInBounds_toArray, List.set_cons_zero, List.set_cons_succ]
            refine wpAnyH_done (by kernel_rfl) ?_ _
            go_wp2_with fail
            refine (kept_any w2 _ w2.heap.size w18.heap.size 1 23 [.slice a3 n3 d3] g n c2 a c l HT.out HX.out (F18.out.alloc F18.out.size _) (Nat.le_refl _) rfl (by decide) (fun _ => KeptI.start (fun v hv => by
              obtain rfl := List.mem_singleton.1 hv
              exact ⟨_, K3.out⟩)) (Apart.one _) _ (.inl ⟨by decide, rfl⟩)).mono ?_
            rintro e w19 ⟨rfl, hb⟩
            go_wp2
            go_ret
            exact ⟨rfl, H2.out.trans (hb.mono H2.out.size)⟩
      | false =>
        have hlt := of_decide_eq_false HF.out
        obtain rfl : z = 0 := by rw [← HZ.out, uintV_no hlt]
        clear hlt
        go_loopw [19, 21] (fun v i wr => v = .int .u64 0 ∧ i = .int .i64 0 ∧ wr = w9) (fun _ _ _ => 0)
        case atStart => exact ⟨rfl, rfl, rfl⟩
        case round =>
          obtain ⟨rfl, rfl, rfl⟩ := hrel
          have Fb := F9
          go_wp2_with fail
          refine (HUN.out _).mono ?_
          rintro e w11 ⟨⟨v11, rfl, ho⟩, hb⟩
          have F11 := Lib.hid (Fb.out.trans (hb.mono Fb.out.size))
          obtain ⟨a11, n11, d11, rfl, hn11, ho⟩ := ho.slice
          have hn11b : n11 ≤ 2 := by have := HNU.out; omega
          have K11 := Lib.hid ho
          replace K3 := Lib.hid (K3.out.below hb)
          replace K5 := Lib.hid (K5.out.below hb)
          replace K6 := Lib.hid (K6.out.below hb)
          replace K7 := Lib.hid (K7.out.below hb)
          replace K8 := Lib.hid (K8.out.below hb)
          clear ho hb hn11
          go_wp2_with fail
          refine (HUU.out _ _ _ _ K11.out.reads).mono ?_
          rintro e wz ⟨rfl, rfl⟩
          obtain ⟨S, hS⟩ : ∃ S, strOf (u8s D) = S := ⟨_, rfl⟩
          have kb0 := conv8 (OwnQ.drew K8.out).reads HDig.out
          rw [hS] at kb0
          have HS := Lib.hid hS
          clear hS
          go_wp2_with fail
          refine wp_region_held_drew (S := fun W => (convert 24 9 (.slice a8 n8 d8)).run Try.prog W = .ok (.string S) W) (by kernel_rfl) kb0 (fun hHeld => ?_)
          have F12 := Lib.hid (F11.out.drew)
          replace K3 := Lib.hid (OwnQ.drew K3.out)
          replace K5 := Lib.hid (OwnQ.drew K5.out)
          replace K6 := Lib.hid (OwnQ.drew K6.out)
          replace K7 := Lib.hid (OwnQ.drew K7.out)
          replace K8 := Lib.hid (OwnQ.drew K8.out)
          replace K11 := Lib.hid (OwnQ.drew K11.out)
          refine' wpAnyH_take (i := 0) (oi := _) (v := _) rfl (by kernel_rfl) (by kernel_rfl) (by kernel_rfl) (fun _ _ _ h => h) (Or.inl ⟨?_, ?_⟩) (by assumption) ?_
          rotate_left
          all_goals (try simp only [List.getElem_toArray, List.getElem_cons_succ, List.getElem_cons_zero])
          · rfl
          · intro W hSw; (try dsimp only at hSw); go_simp; (try with_reducible rfl)
          try simp only [Act.put, List.setIfInBounds_toArray, List.set_cons_zero, List.set_cons_succ]
          refine' wpAnyH_take (i := 1) (oi := _) (v := _) rfl (by kernel_rfl) (by kernel_rfl) (by kernel_rfl) (fun _ _ _ h => h) (Or.inl ⟨?_, ?_⟩) (by assumption) ?_
          rotate_left
          all_goals (try simp only [List.getElem_toArray, List.getElem_cons_succ, List.getElem_cons_zero])
          · rfl
          · intro W hSw; (try dsimp only at hSw); go_simp; (try with_reducible rfl)
          try simp only [Act.put, List.setIfInBounds_toArray, List.set_cons_zero, List.set_cons_succ]
          refine wpAnyH_ready (rs := [2]) (by kernel_rfl) (by simp) ?_
          refine AllReadyH.cons (o := _) rfl (fun K hK => ?_) AllReadyH.nil
          try simp only [List.getElem_toArray, List.getElem_cons_succ, List.getElem_cons_zero]
          go_simp
          refine (same_any _ _ _ _ _ _ O1 O1 _ K3.out.reads K5.out.reads true (by simp)).mono ?_
          rintro e w13 ⟨rfl, hb⟩
          have F13 := Lib.hid (F12.out.trans (hb.mono F12.out.size))
          replace K3 := Lib.hid (K3.out.below hb)
          replace K6 := Lib.hid (K6.out.below hb)
          replace K7 := Lib.hid (K7.out.below hb)
          replace K8 := Lib.hid (K8.out.below hb)
          replace K11 := Lib.hid (K11.out.below hb)
          have kb2 := conv8 K8.out.reads HDig.out
          rw [HS.out] at kb2
          clear hb
          go_wp2_with fail
          refine hK.out _ _ kb2 (fun hHeld => ?_)
          clear hK K
          try simp only [Act.put, List.setIfInBounds_toArray, List.set_cons_zero, List.set_cons_succ]
          refine' wpAnyH_take (i := 3) (oi := _) (v := _) rfl (by kernel_rfl) (by kernel_rfl) (by kernel_rfl) (fun _ _ _ h => h) (Or.inl ⟨?_, ?_⟩) (by assumption) ?_
          rotate_left
          all_goals (try simp only [List.getElem_toArray, List.getElem_cons_succ, List.getElem_cons_zero])
          · rfl
          · intro W hSw; (try dsimp only at hSw); go_simp; (try with_reducible rfl)
          try simp only [Act.put, List.setIfInBounds_toArray, List.set_cons_zero, List.set_cons_succ]
          refine' wpAnyH_take (i := 4) (oi := _) (v := _) rfl (by kernel_rfl) (by kernel_rfl) (by kernel_rfl) (fun _ _ _ h => h) (Or.inl ⟨?_, ?_⟩) (by assumption) ?_
          rotate_left
          all_goals (try simp only [List.getElem_toArray, List.getElem_cons_succ, List.getElem_cons_zero])
          · rfl
          · intro W hSw; (try dsimp only at hSw); go_simp; (try with_reducible rfl)
          try simp only [Act.put, List.setIfInBounds_toArray, List.set_cons_zero, List.set_cons_succ]
          refine' wpAnyH_take (i := 5) (oi := _) (v := _) rfl (by kernel_rfl) (by kernel_rfl) (by kernel_rfl) (fun _ _ _ h => h) (Or.inl ⟨?_, ?_⟩) (by assumption) ?_
          rotate_left
          all_goals (try simp only [List.getElem_toArray, List.getElem_cons_succ, List.getElem_cons_zero])
          · rfl
          · intro W hSw; (try dsimp only at hSw); go_simp; (try with_reducible rfl)
          try simp only [Act.put, List.setIfInBounds_toArray, List.set_cons_zero, List.set_cons_succ]
          refine' wpAnyH_take (i := 6) (oi := _) (v := _) rfl (by kernel_rfl) (by kernel_rfl) (by kernel_rfl) (fun _ _ _ h => h) (Or.inl ⟨?_, ?_⟩) (by assumption) ?_
          rotate_left
          all_goals (try simp only [List.getElem_toArray, List.getElem_cons_succ, List.getElem_cons_zero])
          · rfl
          · intro W hSw; (try dsimp only at hSw); go_simp; (try with_reducible rfl)
          try simp only [Act.put, List.setIfInBounds_toArray, List.set_cons_zero, List.set_cons_succ]
          refine' wpAnyH_take (i := 7) (oi := _) (v := _) rfl (by kernel_rfl) (by kernel_rfl) (by kernel_rfl) (fun _ _ _ h => h) (Or.inl ⟨?_, ?_⟩) (by assumption) ?_
          rotate_left
          all_goals (try simp only [List.getElem_toArray, List.getElem_cons_succ, List.getElem_cons_zero])
          · rfl
          · intro W hSw; (try dsimp only at hSw); go_simp; (try with_reducible rfl)
          try simp only [Act.put, List.setIfInBounds_toArray, List.set_cons_zero, List.set_cons_succ]
          refine' wpAnyH_take (i := 8) (oi := _) (v := _) rfl (by kernel_rfl) (by kernel_rfl) (by kernel_rfl) (fun _ _ _ h => h) (Or.inl ⟨?_, ?_⟩) (by assumption) ?_
          rotate_left
          all_goals (try simp only [List.getElem_toArray, List.getElem_cons_succ, List.getElem_cons_zero])
          · rfl
          · intro W hSw; (try dsimp only at hSw); go_simp; (try with_reducible rfl)
          try simp only [Act.put, List.setIfInBounds_toArray, List.set_cons_zero, List.set_cons_succ]
          refine' wpAnyH_take (i := 9) (oi := _) (v := _) rfl (by kernel_rfl) (by kernel_rfl) (by kernel_rfl) (fun _ _ _ h => h) (Or.inl ⟨?_, ?_⟩) (by assumption) ?_
          rotate_left
          all_goals (try simp only [List.getElem_toArray, List.getElem_cons_succ, List.getElem_cons_zero])
          · rfl
          · intro W hSw; (try dsimp only at hSw); go_simp; (try with_reducible rfl)
          try simp only [Act.put, List.setIfInBounds_toArray, List.set_cons_zero, List.set_cons_succ]
          refine' wpAnyH_take (i := 10) (oi := _) (v := _) rfl (by kernel_rfl) (by kernel_rfl) (by kernel_rfl) (fun _ _ _ h => h) (Or.inl ⟨?_, ?_⟩) (by assumption) ?_
          rotate_left
          all_goals (try simp only [List.getElem_toArray, List.getElem_cons_succ, List.getElem_cons_zero])
          · rfl
          · intro W hSw; (try dsimp only at hSw); go_simp; (try with_reducible rfl)
          try simp only [Act.put, List.setIfInBounds_toArray, List.set_cons_zero, List.set_cons_succ]
          refine' wpAnyH_take (i := 11) (oi := _) (v := _) rfl (by kernel_rfl) (by kernel_rfl) (by kernel_rfl) (fun _ _ _ h => h) (Or.inl ⟨?_, ?_⟩) (by assumption) ?_
          rotate_left
          all_goals (try simp only [List.getElem_toArray, List.getElem_cons_succ, List.getElem_cons_zero])
          · rfl
          · intro W hSw; (try dsimp only at hSw); go_simp; (try with_reducible rfl)
          try simp only [Act.put, List.setIfInBounds_toArray, List.set_cons_zero, List.set_cons_succ]
          refine wpAnyH_ready (rs := [12]) (by kernel_rfl) (by simp) ?_
          refine AllReadyH.cons (o := _) rfl (fun K hK => ?_) AllReadyH.nil
          try simp only [List.getElem_toArray, List.getElem_cons_succ, List.getElem_cons_zero]
          go_simp
          refine (same_any _ _ _ _ _ _ O2 O2 _ K6.out.reads K7.out.reads true (by simp)).mono ?_
          rintro e w14 ⟨rfl, hb⟩
          have F14 := Lib.hid (F13.out.trans (hb.mono F13.out.size))
          replace K3 := Lib.hid (K3.out.below hb)
          replace K8 := Lib.hid (K8.out.below hb)
          replace K11 := Lib.hid (K11.out.below hb)
          have kb12 := conv8 K8.out.reads HDig.out
          rw [HS.out] at kb12
          clear hb
          go_wp2_with fail
          refine hK.out _ _ kb12 (fun hHeld => ?_)
          clear hK K
          try simp only [Act.put, List.setIfInBounds_toArray, List.set_cons_zero, List.set_cons_succ]
          refine' wpAnyH_take (i := 13) (oi := _) (v := _) rfl (by kernel_rfl) (by kernel_rfl) (by kernel_rfl) (fun _ _ _ h => h) (Or.inl ⟨?_, ?_⟩) (by assumption) ?_
          rotate_left
          all_goals (try simp only [List.getElem_toArray, List.getElem_cons_succ, List.getElem_cons_zero])
          · rfl
          · intro W hSw; (try dsimp only at hSw); go_simp; (try with_reducible rfl)
          try simp only [Act.put, List.setIfInBounds_toArray, List.set_cons_zero, List.set_cons_succ]
          refine' wpAnyH_take (i := 14) (oi := _) (v := _) rfl (by kernel_rfl) (by kernel_rfl) (by kernel_rfl) (fun _ _ _ h => h) (Or.inl ⟨?_, ?_⟩) (by assumption) ?_
          rotate_left
          all_goals (try simp only [List.getElem_toArray, List.getElem_cons_succ, List.getElem_cons_zero])
          · rfl
          · intro W hSw; (try dsimp only at hSw); go_simp; (try with_reducible rfl)
          try simp only [Act.put, List.setIfInBounds_toArray, List.set_cons_zero, List.set_cons_succ]
          refine' wpAnyH_take (i := 15) (oi := _) (v := _) rfl (by kernel_rfl) (by kernel_rfl) (by kernel_rfl) (fun _ _ _ h => h) (Or.inl ⟨?_, ?_⟩) (by assumption) ?_
          rotate_left
          all_goals (try simp only [List.getElem_toArray, List.getElem_cons_succ, List.getElem_cons_zero])
          · rfl
          · intro W hSw; (try dsimp only at hSw); go_simp; (try with_reducible rfl)
          try simp only [Act.put, List.setIfInBounds_toArray, List.set_cons_zero, List.set_cons_succ]
          refine' wpAnyH_take (i := 16) (oi := _) (v := _) rfl (by kernel_rfl) (by kernel_rfl) (by kernel_rfl) (fun _ _ _ h => h) (Or.inl ⟨?_, ?_⟩) (by assumption) ?_
          rotate_left
          all_goals (try simp only [List.getElem_toArray, List.getElem_cons_succ, List.getElem_cons_zero])
          · rfl
          · intro W hSw; (try dsimp only at hSw); go_simp; (try with_reducible rfl)
          try simp only [Act.put, List.setIfInBounds_toArray, List.set_cons_zero, List.set_cons_succ]
          refine' wpAnyH_take (i := 17) (oi := _) (v := _) rfl (by kernel_rfl) (by kernel_rfl) (by kernel_rfl) (fun _ _ _ h => h) (Or.inl ⟨?_, ?_⟩) (by assumption) ?_
          rotate_left
          all_goals (try simp only [List.getElem_toArray, List.getElem_cons_succ, List.getElem_cons_zero])
          · rfl
          · intro W hSw; (try dsimp only at hSw); go_simp; (try with_reducible rfl)
          try simp only [Act.put, List.setIfInBounds_toArray, List.set_cons_zero, List.set_cons_succ]
          refine' wpAnyH_take (i := 18) (oi := _) (v := _) rfl (by kernel_rfl) (by kernel_rfl) (by kernel_rfl) (fun _ _ _ h => h) (Or.inl ⟨?_, ?_⟩) (by assumption) ?_
          rotate_left
          all_goals (try simp only [List.getElem_toArray, List.getElem_cons_succ, List.getElem_cons_zero])
          · rfl
          · intro W hSw; (try dsimp only at hSw); go_simp; (try with_reducible rfl)
          try simp only [Act.put, List.setIfInBounds_toArray, List.set_cons_zero, List.set_cons_succ]
          refine' wpAnyH_take (i := 19) (oi := _) (v := _) rfl (by kernel_rfl) (by kernel_rfl) (by kernel_rfl) (fun _ _ _ h => h) (Or.inl ⟨?_, ?_⟩) (by assumption) ?_
          rotate_left
          all_goals (try simp only [List.getElem_toArray, List.getElem_cons_succ, List.getElem_cons_zero])
          · rfl
          · intro W hSw; (try dsimp only at hSw); go_simp; (try with_reducible rfl)
          try simp only [Act.put, List.setIfInBounds_toArray, List.set_cons_zero, List.set_cons_succ]
          refine' wpAnyH_take (i := 20) (oi := _) (v := _) rfl (by kernel_rfl) (by kernel_rfl) (by kernel_rfl) (fun _ _ _ h => h) (Or.inl ⟨?_, ?_⟩) (by assumption) ?_
          rotate_left
          all_goals (try simp only [List.getElem_toArray, List.getElem_cons_succ, List.getElem_cons_zero])
          · rfl
          · intro W hSw; (try dsimp only at hSw); go_simp; (try with_reducible rfl)
          try simp only [Act.put, List.setIfInBounds_toArray, List.set_cons_zero, List.set_cons_succ]
          refine' wpAnyH_take (i := 21) (oi := _) (v := _) rfl (by kernel_rfl) (by kernel_rfl) (by kernel_rfl) (fun _ _ _ h => h) (Or.inl ⟨?_, ?_⟩) (by assumption) ?_
          rotate_left
          all_goals (try simp only [List.getElem_toArray, List.getElem_cons_succ, List.getElem_cons_zero])
          · rfl
          · intro W hSw; (try dsimp only at hSw); go_simp; (try with_reducible rfl)
          try simp only [Act.put, List.setIfInBounds_toArray, List.set_cons_zero, List.set_cons_succ]
          refine' wpAnyH_take (i := 22) (oi := _) (v := _) rfl (by kernel_rfl) (by kernel_rfl) (by kernel_rfl) (fun _ _ _ h => h) (Or.inl ⟨?_, ?_⟩) (by assumption) ?_
          rotate_left
          all_goals (try simp only [List.getElem_toArray, List.getElem_cons_succ, List.getElem_cons_zero])
          · rfl
          · intro W hSw; (try dsimp only at hSw); go_simp; (try with_reducible rfl)
          try simp only [Act.put, List.setIfInBounds_toArray, List.set_cons_zero, List.set_cons_succ]
          refine' wpAnyH_take (i := 23) (oi := _) (v := _) rfl (by kernel_rfl) (by kernel_rfl) (by kernel_rfl) (fun _ _ _ h => h) (Or.inl ⟨?_, ?_⟩) (by assumption) ?_
          rotate_left
          all_goals (try simp only [List.getElem_toArray, List.getElem_cons_succ, List.getElem_cons_zero])
          · rfl
          · intro W hSw; (try dsimp only at hSw); go_simp; (try with_reducible rfl)
          try simp only [Act.put, List.setIfInBounds_toArray, List.set_cons_zero, List.set_cons_succ]
          refine wpAnyH_ready (rs := [24]) (by kernel_rfl) (by simp) ?_
          refine AllReadyH.cons (o := _) rfl (fun K hK => ?_) AllReadyH.nil
          try simp only [List.getElem_toArray, List.getElem_cons_succ, List.getElem_cons_zero]
          go_simp
          refine (TY.out _ (HX.out.below F14.out)).mono ?_
          rintro e w15 ⟨⟨v15, rfl, ho⟩, hb⟩
          obtain ⟨a15, n15, d15, rfl, -, ho⟩ := ho.slice
          have F15 := Lib.hid (F14.out.trans (hb.mono F14.out.size))
          replace K3 := Lib.hid (K3.out.below hb)
          replace K8 := Lib.hid (K8.out.below hb)
          replace K11 := Lib.hid (K11.out.below hb)
          have kb24 := conv8 K8.out.reads HDig.out
          rw [HS.out] at kb24
          clear hb
          have ky := conv8 ho.reads HDig.out
          rw [HS.out] at ky
          clear ho
          go_wp2_with fail
          refine hK.out _ _ kb24 (fun hHeld => ?_)
          clear hK K
          try simp only [Act.put, List.setIfInBounds_toArray, List.set_cons_zero, List.set_cons_succ]
          refine wpAnyH_ready (rs := [25]) (by kernel_rfl) (by simp) ?_
          refine AllReadyH.cons (o := _) rfl (fun K hK => ?_) AllReadyH.nil
          try simp only [List.getElem_toArray, List.getElem_cons_succ, List.getElem_cons_zero]
          go_simp
          refine hK.out _ _ kb24 (fun hHeld => ?_)
          clear hK K
          try simp only [Act.put, List.setIfInBounds_toArray, List.set_cons_zero, List.set_cons_succ]
          refine' wpAnyH_take (i := 26) (oi := _) (v := _) rfl (by kernel_rfl) (by kernel_rfl) (by kernel_rfl) (fun _ _ _ h => h) (Or.inl ⟨?_, ?_⟩) (by assumption) ?_
          rotate_left
          all_goals (try simp only [List.getElem_toArray, List.getElem_cons_succ, List.getElem_cons_zero])
          · rfl
          · intro W hSw; (try dsimp only at hSw); go_simp; (try with_reducible rfl)
          try simp only [Act.put, List.setIfInBounds_toArray, List.set_cons_zero, List.set_cons_succ]
          refine' wpAnyH_take (i := 27) (oi := _) (v := _) rfl (by kernel_rfl) (by kernel_rfl) (by kernel_rfl) (fun _ _ _ h => h) (Or.inl ⟨?_, ?_⟩) (by assumption) ?_
          rotate_left
          all_goals (try simp only [List.getElem_toArray, List.getElem_cons_succ, List.getElem_cons_zero])
          · rfl
          · intro W hSw; (try dsimp only at hSw); go_simp; (try with_reducible rfl)
          try simp only [Act.put, List.setIfInBounds_toArray, List.set_cons_zero, List.set_cons_succ]
          refine' wpAnyH_take (i := 28) (oi := _) (v := _) rfl (by kernel_rfl) (by kernel_rfl) (by kernel_rfl) (fun _ _ _ h => h) (Or.inl ⟨?_, ?_⟩) (by assumption) ?_
          rotate_left
          all_goals (try simp only [List.getElem_toArray, List.getElem_cons_succ, List.getElem_cons_zero])
          · rfl
          · intro W hSw; (try dsimp only at hSw); go_simp; (try with_reducible rfl)
          try simp only [Act.put, List.setIfInBounds_toArray, List.set_cons_zero, List.set_cons_succ]
          refine' wpAnyH_take (i := 29) (oi := _) (v := _) rfl (by kernel_rfl) (by kernel_rfl) (by kernel_rfl) (fun _ _ _ h => h) (Or.inl ⟨?_, ?_⟩) (by assumption) ?_
          rotate_left
          all_goals (try simp only [List.getElem_toArray, List.getElem_cons_succ, List.getElem_cons_zero])
          · rfl
          · intro W hSw; (try dsimp only at hSw); go_simp; (try with_reducible rfl)
          try simp only [Act.put, List.setIfInBounds_toArray, List.set_cons_zero, List.set_cons_succ]
          refine' wpAnyH_take (i := 30) (oi := _) (v := _) rfl (by kernel_rfl) (by kernel_rfl) (by kernel_rfl) (fun _ _ _ h => h) (Or.inl ⟨?_, ?_⟩) (by assumption) ?_
          rotate_left
          all_goals (try simp only [List.getElem_toArray, List.getElem_cons_succ, List.getElem_cons_zero])
          · rfl
          · intro W hSw; (try dsimp only at hSw); go_simp; (try with_reducible rfl)
          try simp only [Act.put, List.setIfInBounds_toArray, List.set_cons_zero, List.set_cons_succ]
          refine' wpAnyH_take (i := 31) (oi := _) (v := _) rfl (by kernel_rfl) (by kernel_rfl) (by kernel_rfl) (fun _ _ _ h => h) (Or.inl ⟨?_, ?_⟩) (by assumption) ?_
          rotate_left
          all_goals (try simp only [List.getElem_toArray, List.getElem_cons_succ, List.getElem_cons_zero])
          · rfl
          · intro W hSw; (try dsimp only at hSw); go_simp; (try with_reducible rfl)
          try simp only [Act.put, List.setIfInBounds_toArray, List.set_cons_zero, List.set_cons_succ]
          refine' wpAnyH_take (i := 32) (oi := _) (v := _) rfl (by kernel_rfl) (by kernel_rfl) (by kernel_rfl) (fun _ _ _ h => h) (Or.inl ⟨?_, ?_⟩) (by assumption) ?_
          rotate_left
          all_goals (try simp only [List.getElem_toArray, List.getElem_cons_succ, List.getElem_cons_zero])
          · rfl
          · intro W hSw; (try dsimp only at hSw); go_simp; (try with_reducible rfl)
          try simp only [Act.put, List.setIfInBounds_toArray, List.set_cons_zero, List.set_cons_succ]
          refine' wpAnyH_take (i := 33) (oi := _) (v := _) rfl (by kernel_rfl) (by kernel_rfl) (by kernel_rfl) (fun _ _ _ h => h) (Or.inl ⟨?_, ?_⟩) (by assumption) ?_
          rotate_left
          all_goals (try simp only [List.getElem_toArray, List.getElem_cons_succ, List.getElem_cons_zero])
          · rfl
          · intro W hSw; (try dsimp only at hSw); go_simp; (try with_reducible rfl)
          try simp only [Act.put, List.setIfInBounds_toArray, List.set_cons_zero, List.set_cons_succ]
          refine' wpAnyH_take (i := 34) (oi := _) (v := _) rfl (by kernel_rfl) (by kernel_rfl) (by kernel_rfl) (fun _ _ _ h => h) (Or.inl ⟨?_, ?_⟩) (by assumption) ?_
          rotate_left
          all_goals (try simp only [List.getElem_toArray, List.getElem_cons_succ, List.getElem_cons_zero])
          · rfl
          · intro W hSw; (try dsimp only at hSw); go_simp; (try with_reducible rfl)
          try simp only [Act.put, List.setIfInBounds_toArray, List.set_cons_zero, List.set_cons_succ]
          refine' wpAnyH_take (i := 35) (oi := _) (v := _) rfl (by kernel_rfl) (by kernel_rfl) (by kernel_rfl) (fun _ _ _ h => h) (Or.inl ⟨?_, ?_⟩) (by assumption) ?_
          rotate_left
          all_goals (try simp only [List.getElem_toArray, List.getElem_cons_succ, List.getElem_cons_zero])
          · rfl
          · intro W hSw; (try dsimp only at hSw); go_simp; (try with_reducible rfl)
          try simp only [Act.put, List.setIfInBounds_toArray, List.set_cons_zero, List.set_cons_succ]
          refine' wpAnyH_take (i := 36) (oi := _) (v := _) rfl (by kernel_rfl) (by kernel_rfl) (by kernel_rfl) (fun _ _ _ h => h) (Or.inl ⟨?_, ?_⟩) (by assumption) ?_
          rotate_left
          all_goals (try simp only [List.getElem_toArray, List.getElem_cons_succ, List.getElem_cons_zero])
          · rfl
          · intro W hSw; (try dsimp only at hSw); go_simp; (try with_reducible rfl)
          try simp only [Act.put, List.setIfInBounds_toArray, List.set_cons_zero, List.set_cons_succ]
          refine' wpAnyH_take (i := 37) (oi := _) (v := _) rfl (by kernel_rfl) (by kernel_rfl) (by kernel_rfl) (fun _ _ _ h => h) (Or.inl ⟨?_, ?_⟩) (by assumption) ?_
          rotate_left
          all_goals (try simp only [List.getElem_toArray, List.getElem_cons_succ, List.getElem_cons_zero])
          · rfl
          · intro W hSw; (try dsimp only at hSw); go_simp; (try with_reducible rfl)
          try simp only [Act.put, List.setIfInBounds_toArray, List.set_cons_zero, List.set_cons_succ]
          refine' wpAnyH_take (i := 38) (oi := _) (v := _) rfl (by kernel_rfl) (by kernel_rfl) (by kernel_rfl) (fun _ _ _ h => h) (Or.inl ⟨?_, ?_⟩) (by assumption) ?_
          rotate_left
          all_goals (try simp only [List.getElem_toArray, List.getElem_cons_succ, List.getElem_cons_zero])
          · rfl
          · intro W hSw; (try dsimp only at hSw); go_simp; (try with_reducible rfl)
          try simp only [Act.put, List.setIfInBounds_toArray, List.set_cons_zero, List.set_cons_succ]
          refine' wpAnyH_take (i := 39) (oi := _) (v := _) rfl (by kernel_rfl) (by kernel_rfl) (by kernel_rfl) (fun _ _ _ h => h) (Or.inl ⟨?_, ?_⟩) (by assumption) ?_
          rotate_left
          all_goals (try simp only [List.getElem_toArray, List.getElem_cons_succ, List.getElem_cons_zero])
          · rfl
          · intro W hSw; (try dsimp only at hSw); go_simp; (try with_reducible rfl)
          try simp only [Act.put, List.setIfInBounds_toArray, List.set_cons_zero, List.set_cons_succ]
          refine' wpAnyH_take (i := 40) (oi := _) (v := _) rfl (by kernel_rfl) (by kernel_rfl) (by kernel_rfl) (fun _ _ _ h => h) (Or.inl ⟨?_, ?_⟩) (by assumption) ?_
          rotate_left
          all_goals (try simp only [List.getElem_toArray, List.getElem_cons_succ, List.getElem_cons_zero])
          · rfl
          · intro W hSw; (try dsimp only at hSw); go_simp; (try with_reducible rfl)
          try simp only [Act.put, List.setIfInBounds_toArray, List.set_cons_zero, List.set_cons_succ]
          refine' wpAnyH_take (i := 41) (oi := _) (v := _) rfl (by kernel_rfl) (by kernel_rfl) (by kernel_rfl) (fun _ _ _ h => h) (Or.inl ⟨?_, ?_⟩) (by assumption) ?_
          rotate_left
          all_goals (try simp only [List.getElem_toArray, List.getElem_cons_succ, List.getElem_cons_zero])
          · rfl
          · intro W hSw; (try dsimp only at hSw); go_simp; (try with_reducible rfl)
          try simp only [Act.put, List.setIfInBounds_toArray, List.set_cons_zero, List.set_cons_succ]
          refine' wpAnyH_take (i := 42) (oi := _) (v := _) rfl (by kernel_rfl) (by kernel_rfl) (by kernel_rfl) (fun _ _ _ h => h) (Or.inl ⟨?_, ?_⟩) (by assumption) ?_
          rotate_left
          all_goals (try simp only [List.getElem_toArray, List.getElem_cons_succ, List.getElem_cons_zero])
          · rfl
          · intro W hSw; (try dsimp only at hSw); go_simp; (try with_reducible rfl)
          try simp only [Act.put, List.setIfInBounds_toArray, List.set_cons_zero, List.set_cons_succ]
          refine' wpAnyH_take (i := 43) (oi := _) (v := _) rfl (by kernel_rfl) (by kernel_rfl) (by kernel_rfl) (fun _ _ _ h => h) (Or.inl ⟨?_, ?_⟩) (by assumption) ?_
          rotate_left
          all_goals (try simp only [List.getElem_toArray, List.getElem_cons_succ, List.getElem_cons_zero])
          · rfl
          · intro W hSw; (try dsimp only at hSw); go_simp; (try with_reducible rfl)
          try simp only [Act.put, List.setIfInBounds_toArray, List.set_cons_zero, List.set_cons_succ]
          refine' wpAnyH_take (i := 44) (oi := _) (v := _) rfl (by kernel_rfl) (by kernel_rfl) (by kernel_rfl) (fun _ _ _ h => h) (Or.inl ⟨?_, ?_⟩) (by assumption) ?_
          rotate_left
          all_goals (try simp only [List.getElem_toArray, List.getElem_cons_succ, List.getElem_cons_zero])
          · rfl
          · intro W hSw; (try dsimp only at hSw); go_simp; (try with_reducible rfl)
          try simp only [Act.put, List.setIfInBounds_toArray, List.set_cons_zero, List.set_cons_succ]
          refine' wpAnyH_take (i := 45) (oi := _) (v := _) rfl (by kernel_rfl) (by kernel_rfl) (by kernel_rfl) (fun _ _ _ h => h) (Or.inl ⟨?_, ?_⟩) (by assumption) ?_
          rotate_left
          all_goals (try simp only [List.getElem_toArray, List.getElem_cons_succ, List.getElem_cons_zero])
          · rfl
          · intro W hSw; (try dsimp only at hSw); go_simp; (try with_reducible rfl)
          try simp only [Act.put, List.setIfInBounds_toArray, List.set_cons_zero, List.set_cons_succ]
          refine wpAnyH_ready (rs := [46]) (by kernel_rfl) (by simp) ?_
          refine AllReadyH.cons (o := _) rfl (fun K hK => ?_) AllReadyH.nil
          try simp only [List.getElem_toArray, List.getElem_cons_succ, List.getElem_cons_zero]
          go_simp
          refine (HDU.out _ _ _ _ K11.out.reads (by omega)).mono ?_
          rintro e w16 ⟨⟨v16, rfl, ho⟩, hb⟩
          obtain ⟨a16, n16, d16, rfl, hn16, ho⟩ := ho.slice
          have hn16b : n16 ≤ 8 := by have := HN8.out; omega
          have K16 := Lib.hid ho
          clear ho hn16
          have F16 := Lib.hid (F15.out.trans (hb.mono F15.out.size))
          replace K3 := Lib.hid (K3.out.below hb)
          replace K8 := Lib.hid (K8.out.below hb)
          replace K11 := Lib.hid (K11.out.below hb)
          have kb46 := conv8 K8.out.reads HDig.out
          rw [HS.out] at kb46
          clear hb
          go_wp2_with fail
          refine hK.out _ _ kb46 (fun hHeld => ?_)
          clear hK K
          try simp only [Act.put, List.setIfInBounds_toArray, List.set_cons_zero, List.set_cons_succ]
          refine wpAnyH_ready (rs := [47]) (by kernel_rfl) (by simp) ?_
          refine AllReadyH.cons (o := _) rfl (fun K hK => ?_) AllReadyH.nil
          try simp only [List.getElem_toArray, List.getElem_cons_succ, List.getElem_cons_zero]
          go_simp
          refine (HLU.out _ _ _ _ K16.out.reads (by omega)).mono ?_
          rintro e w17 ⟨⟨v17, rfl, ho⟩, hb⟩
          obtain ⟨a17, n17, d17, rfl, -, ho⟩ := ho.slice
          have K17 := Lib.hid ho
          clear ho
          have F17 := Lib.hid (F16.out.trans (hb.mono F16.out.size))
          replace K3 := Lib.hid (K3.out.below hb)
          replace K8 := Lib.hid (K8.out.below hb)
          replace K11 := Lib.hid (K11.out.below hb)
          have kb47 := conv8 K8.out.reads HDig.out
          rw [HS.out] at kb47
          clear hb
          go_wp2_with fail
          refine hK.out _ _ kb47 (fun hHeld => ?_)
          clear hK K
          try simp only [Act.put, List.setIfInBounds_toArray, List.set_cons_zero, List.set_cons_succ]
          refine wpAnyH_ready (rs := [48]) (by kernel_rfl) (by simp) ?_
          refine AllReadyH.cons (o := _) rfl (fun K hK => ?_) AllReadyH.nil
          try simp only [List.getElem_toArray, List.getElem_cons_succ, List.getElem_cons_zero]
          go_simp
          refine (same_any _ _ _ _ _ _ OU OU _ K11.out.reads K17.out.reads true (by simp)).mono ?_
          rintro e w18 ⟨rfl, hb⟩
          have F18 := Lib.hid (F17.out.trans (hb.mono F17.out.size))
          replace K3 := Lib.hid (K3.out.below hb)
          replace K8 := Lib.hid (K8.out.below hb)
          have kb48 := conv8 K8.out.reads HDig.out
          rw [HS.out] at kb48
          clear hb
          go_wp2_with fail
          refine hK.out _ _ kb48 (fun hHeld => ?_)
          clear hK K
          try simp only [Act.put, List.setIfInBounds_toArray, List.set_cons_zero, List.set_cons_succ]
          refine' wpAnyH_take (i := 49) (oi := _) (v := _) rfl (by kernel_rfl) (by kernel_rfl) (by kernel_rfl) (fun _ _ _ h => h) (Or.inl ⟨?_, ?_⟩) (by assumption) ?_
          rotate_left
          all_goals (try simp only [List.getElem_toArray, List.getElem_cons_succ, List.getElem_cons_zero])
          · rfl
          · intro W hSw; (try dsimp only at hSw); go_simp; (try with_reducible rfl)
          try simp only [Act.put, List.setIfInBounds_toArray, List.set_cons_zero, List.set_cons_succ]
          refine' wpAnyH_take (i := 50) (oi := _) (v := _) rfl (by kernel_rfl) (by kernel_rfl) (by kernel_rfl) (fun _ _ _ h => h) (Or.inl ⟨?_, ?_⟩) (by assumption) ?_
          rotate_left
          all_goals (try simp only [List.getElem_toArray, List.getElem_cons_succ, List.getElem_cons_zero])
          · rfl
          · intro W hSw; (try dsimp only at hSw); go_simp; (try with_reducible rfl)
          try simp only [Act.put, List.setIfInBounds_toArray, List.set_cons_zero, List.set_cons_succ]
          refine wpAnyH_done (by kernel_rfl) ?_ _
          go_wp2_with fail
          refine (kept_any w2 _ w2.heap.size w18.heap.size 1 23 [.slice a3 n3 d3] g n c2 a c l HT.out HX.out (F18.out.alloc F18.out.size _) (Nat.le_refl _) rfl (by decide) (fun _ => KeptI.start (fun v hv => by
            obtain rfl := List.mem_singleton.1 hv
            exact ⟨_, K3.out⟩)) (Apart.one _) _ (.inl ⟨by decide, rfl⟩)).mono ?_
          rintro e w19 ⟨rfl, hb⟩
          go_wp2
          go_ret
          exact ⟨rfl, H2.out.trans (hb.mono H2.out.size)⟩
    · have t1 : decide ((1500 : Int) < (m : Int)) = true := by simp; omega
      clear HR HN HL HR' HB
      go_enter Try.func3, Try.ntmps3
      go_wp2_with fail
      refine (great_any _ 1 (fun _ => n) _ (by decide) (fun i hi => by obtain rfl : i = 0 := (by omega); exact ⟨a, c, World.cell?_alloc_at _ _ _ _ rfl⟩) (fun _ _ => hml) false (.inr ⟨rfl, fun _ _ => h300⟩)).mono ?_
      rintro e w1 ⟨rfl, rfl⟩
      go_wp2
      go_ret
      exact ⟨rfl, H1.out⟩
  · clear HR HN HL HR' HB
    go_enter Try.func3, Try.ntmps3
    go_wp2_with fail
    refine (great_any _ 1 (fun _ => n) _ (by decide) (fun i hi => by obtain rfl : i = 0 := (by omega); exact ⟨a, c, World.cell?_alloc_at _ _ _ _ rfl⟩) (fun _ _ => hml) true (.inl ⟨rfl, 0, by decide, by omega⟩)).mono ?_
    rintro e w1 ⟨rfl, rfl⟩
    go_wp2
    go_ret
    exact ⟨rfl, H1.out⟩

end Go.Proofs.Ytanimenpkinapaa
