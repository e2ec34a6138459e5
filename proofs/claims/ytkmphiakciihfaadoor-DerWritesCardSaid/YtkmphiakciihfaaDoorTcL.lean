/-
  UTF-8 OF BYTES: unicode/utf8's Valid.
-/
import Derived.Test.YtkmphiakciihfaaDoorTcI
import Derived.Test.YtkmphiakciihfaaDoorTcK
import Derived.Shelf.Unicode.DecodeSlow
import Derived.Laws.BitsAllLaws
import Derived.Deep.LoopGhost
import Derived.Deep.CutBlock
import Derived.Deep.DeepCutAuto
namespace Go.Proofs.YtkmphiakciihfaaDoor
open Go.RowKit Go.Shelf

abbrev Tabs (w : World) : Prop := Lib.Utf8Tabs 1 2 w
theorem below_dr {B : Nat} {a w : World} (h : Below B a w) (n : Nat) : Below B a (w.drewN n) := h.trans ⟨rfl, rfl, rfl, Nat.le_refl _, fun _ _ => rfl⟩
theorem tabs_below {w w' : World} (h : Tabs w) (hb : Below w.heap.size w w') : Tabs w' := Utf8Tabs_below h hb

theorem alloc_cell (w : World) (cs : Array Value) (E : TypeId) (i : Nat) : (w.alloc (.cells cs E)).cell? ⟨w.heap.size, i, none⟩ = cs[i]? := by
  unfold World.cell?
  rw [show (w.alloc (.cells cs E)).heap[w.heap.size]? = some (.cells cs E) from World.alloc_heap_new w _]
  rfl
set_option maxRecDepth 100000 in
theorem and_seven : ∀ X : Fin 256, bits .and .u8 ((X.val : Nat) : Int) 7 = ((X.val % 8 : Nat) : Int) := by decide

set_option maxHeartbeats 16000000 in
set_option maxRecDepth 1000000 in
theorem valid_any (a : Option Addr) (len cap : Nat) (l : List Nat) (w : World) (h : Reads .u8 w a len cap l) (hx : Byt l) (hT : Tabs w) :
    Calls Tryd.prog 80 #[.slice a len cap] w fun e w' => e = .returned (.bool (validN l)) ∧ Below w.heap.size w w' := by
  have hm := h.len_le
  have hle := h.le
  unfold maxLen at hm
  obtain ⟨ANS, hANS⟩ : ∃ ANS, validN l = ANS := ⟨_, rfl⟩
  have HT := Lib.hid hT
  have HR := Lib.hid h.trim
  have HX := Lib.hid hx
  have HV := Lib.hid hANS
  rw [hANS]
  clear h hx hT hANS
  go_enter Tryd.func80, Tryd.ntmps80
  go_wp2_with fail
  go_loopg [0] (len + 1) (fun gk s0 wx => Below w.heap.size w wx ∧ ∃ (a' : Option Addr) (n' : Nat) (l' : List Nat), s0 = .slice a' n' n' ∧ Reads .u8 w a' n' n' l' ∧ Byt l' ∧ validN l' = ANS ∧ n' < gk)
  case atStart =>
    refine ⟨Below.refl _ _, _, len, l, rfl, ?_, HX.out, HV.out, by omega⟩
    exact HR.out
  case round =>
    obtain ⟨hbw, a', n, l', rfl, hR', hX', hV', hg⟩ := hrel
    have hTr := Lib.hid (tabs_below HT.out hbw)
    have hnm := hR'.len_le
    unfold maxLen at hnm
    have R0 := Lib.hid hR'
    have X0 := Lib.hid hX'
    have V0 := Lib.hid hV'
    clear hR' hX' hV' HR HX HV
    by_cases h0 : 0 < n
    · obtain ⟨g', rfl⟩ : ∃ g', gk = g' + 1 := ⟨gk - 1, by omega⟩
      have h0z : (0 : Int) < (n : Int) := by omega
      obtain ⟨b, off, rfl, hlt, hc⟩ := (R0.out.below hbw).cells h0
      obtain ⟨x0, hx0⟩ : ∃ z, gN l' 0 = z := ⟨_, rfl⟩
      have hc0 : wr.cell? ⟨b, off, none⟩ = some (.int .u8 (x0 : Nat)) := by have := hc 0 h0; rw [show (l'[0]?.getD 0) = x0 from hx0] at this; exact this
      have hx0lt : x0 < 256 := hx0 ▸ gN_lt X0.out 0
      have HC := Lib.hid hc
      clear hc
      by_cases hasc : x0 < 128
      · as_aux_lemma =>
        have hascz : (x0 : Int) < 128 := by omega
        have s1 := Lib.hid (asc_one (l := l') (by omega))
        clear hTr
        by_cases hn1 : n = 1
        · subst hn1
          have vE := Lib.hid (show validN [] = ANS by
            have : l'.drop 1 = [] := List.drop_of_length_le (by rw [R0.out.length]; exact Nat.le_refl _)
            rw [← this, valid_drop _ _ s1.out]; exact V0.out)
          clear HC s1 V0
          go_wp2_with fail
          go_roundg g'
          case measure => omega
          case rel => exact ⟨hbw, _, 0, [], rfl, Reads.empty _ _ _ (by unfold maxLen; omega) (fun h => by cases h), (fun y hy => by cases hy), vE.out, by omega⟩
        · have hcn : ¬ n = 1 := hn1
          clear HC hx0

          obtain ⟨m1, hm1⟩ : ∃ z, n - 1 = z := ⟨_, rfl⟩
          obtain ⟨o1, ho1⟩ : ∃ z, off + 1 = z := ⟨_, rfl⟩
          obtain ⟨l1, hl1⟩ : ∃ z, l'.drop 1 = z := ⟨_, rfl⟩
          have Rm1 := Lib.hid (show Reads .u8 w (some ⟨b, o1, none⟩) m1 m1 l1 by rw [← ho1, ← hm1, ← hl1]; exact R0.out.tail (by omega))
          have xm1 := Lib.hid (show Byt l1 by rw [← hl1]; exact fun y hy => X0.out y (List.mem_of_mem_drop hy))
          have vm1 := Lib.hid (show validN l1 = ANS by rw [← hl1, valid_drop _ _ s1.out]; exact V0.out)
          clear hl1
          clear V0 R0 X0 s1
          have z1 : m1 + 1 = n := by omega
          by_cases c8 : 8 < m1
          · have c8z : (8 : Int) < (m1 : Int) := by omega
            obtain ⟨A1, hA1⟩ : ∃ z, wordN l1 = z := ⟨_, rfl⟩
            have lA1 : A1 < 18446744073709551616 := hA1 ▸ word_lt _ xm1.out
            have kA1 := Lib.hid ((word_mask l1 (by rw [Rm1.out.length]; omega) xm1.out))
            have cA1 := Lib.hid (fun q => (word_any (some ⟨b, o1, none⟩) m1 m1 l1 (wr.drewN q) ((Rm1.out.below hbw).drewN q) xm1.out (by omega)))
            rw [hA1] at cA1 kA1
            clear hA1
            have hand1 : bits .and .u64 (A1 : Int) 9259542123273814144 = ((A1 &&& 9259542123273814144 : Nat) : Int) := u64_and_nat A1 9259542123273814144 lA1 (by omega)
            obtain ⟨Z1, hZ1⟩ : ∃ z, A1 &&& 9259542123273814144 = z := ⟨_, rfl⟩
            rw [hZ1] at hand1 kA1
            by_cases hz1 : Z1 = 0
            · have hz1b : ((Z1 : Int) == 0) = true := by simp [hz1]
              have s8 := Lib.hid (show Asc l1 8 from kA1.out.1 hz1)
              clear kA1 hZ1
              go_wp2_with fail
              refine (cA1.out 0).mono ?_
              rintro e W1 ⟨rfl, q1, rfl⟩
              have hb1 : Below w.heap.size w (((wr.drewN 0)).drewN q1) := below_dr (below_dr hbw 0) q1
              generalize (wr.drewN 0).drewN q1 = wq at hb1 ⊢
              clear cA1 hbw

              obtain ⟨m2, hm2⟩ : ∃ z, m1 - 8 = z := ⟨_, rfl⟩
              obtain ⟨o2, ho2⟩ : ∃ z, o1 + 8 = z := ⟨_, rfl⟩
              obtain ⟨l2, hl2⟩ : ∃ z, l1.drop 8 = z := ⟨_, rfl⟩
              have Rm2 := Lib.hid (show Reads .u8 w (some ⟨b, o2, none⟩) m2 m2 l2 by rw [← ho2, ← hm2, ← hl2]; exact Rm1.out.tail (by omega))
              have xm2 := Lib.hid (show Byt l2 by rw [← hl2]; exact fun y hy => xm1.out y (List.mem_of_mem_drop hy))
              have vm2 := Lib.hid (show validN l2 = ANS by rw [← hl2, valid_drop _ _ s8.out]; exact vm1.out)
              clear hl2
              clear vm1 s8
              have z2 : m2 + 8 = m1 := by omega
              have hcm1 : ¬ m1 = 8 := by omega
              have s8y : (8 : Int) ≤ (m1 : Int) := by omega
              go_wp2_with fail
              by_cases c16 : 16 < m2
              · have c16z : (16 : Int) < (m2 : Int) := by omega
                have c16b : decide ((16 : Int) < (m2 : Int)) = true := decide_eq_true c16z
                have s8z : (8 : Int) ≤ (m2 : Int) := by omega
                have hcm2 : ¬ m2 = 8 := by omega
                obtain ⟨mb, hmb⟩ : ∃ z, m2 - 8 = z := ⟨_, rfl⟩
                obtain ⟨ob, hob⟩ : ∃ z, o2 + 8 = z := ⟨_, rfl⟩
                obtain ⟨lb, hlb⟩ : ∃ z, l2.drop 8 = z := ⟨_, rfl⟩
                have Rmb := Lib.hid (show Reads .u8 w (some ⟨b, ob, none⟩) mb mb lb by rw [← hob, ← hmb, ← hlb]; exact Rm2.out.tail (by omega))
                have xmb := Lib.hid (show Byt lb by rw [← hlb]; exact fun y hy => xm2.out y (List.mem_of_mem_drop hy))
                have hlb := Lib.hid hlb
                obtain ⟨A2, hA2⟩ : ∃ z, wordN l2 = z := ⟨_, rfl⟩
                have lA2 : A2 < 18446744073709551616 := hA2 ▸ word_lt _ xm2.out
                have kA2 := Lib.hid ((word_mask l2 (by rw [Rm2.out.length]; omega) xm2.out))
                have cA2 := Lib.hid (fun q => (word_any (some ⟨b, o2, none⟩) m2 m2 l2 (wq.drewN q) ((Rm2.out.below hb1).drewN q) xm2.out (by omega)))
                rw [hA2] at cA2 kA2
                clear hA2
                obtain ⟨A3, hA3⟩ : ∃ z, wordN lb = z := ⟨_, rfl⟩
                have lA3 : A3 < 18446744073709551616 := hA3 ▸ word_lt _ xmb.out
                have kA3 := Lib.hid ((word_mask lb (by rw [Rmb.out.length]; omega) xmb.out))
                have cA3 := Lib.hid (fun q => (word_any (some ⟨b, ob, none⟩) mb mb lb (wq.drewN q) ((Rmb.out.below hb1).drewN q) xmb.out (by omega)))
                rw [hA3] at cA3 kA3
                clear hA3
                have hor2 : bits .or .u64 (A2 : Int) (A3 : Int) = ((A2 ||| A3 : Nat) : Int) := u64_or_nat A2 A3 lA2 lA3
                have lor2 : A2 ||| A3 < 18446744073709551616 := Nat.or_lt_two_pow (n := 64) lA2 lA3
                have hand2 : bits .and .u64 ((A2 ||| A3 : Nat) : Int) 9259542123273814144 = (((A2 ||| A3) &&& 9259542123273814144 : Nat) : Int) := u64_and_nat _ 9259542123273814144 lor2 (by omega)
                have k2 := Lib.hid (show (A2 ||| A3) &&& 9259542123273814144 = 0 → Asc l2 16 from fun h0' => by
                  obtain ⟨e1, e2⟩ := (Lib.or_mask A2 A3 _).1 h0'
                  exact asc_add (a := 8) (b := 8) (kA2.out.1 e1) (by rw [hlb.out]; exact kA3.out.1 e2))
                obtain ⟨O2, hO2⟩ : ∃ z, A2 ||| A3 = z := ⟨_, rfl⟩
                rw [hO2] at hor2 hand2 k2
                obtain ⟨Z2, hZ2⟩ : ∃ z, O2 &&& 9259542123273814144 = z := ⟨_, rfl⟩
                rw [hZ2] at hand2 k2
                clear kA2 kA3 lor2 hO2 hZ2
                by_cases hz2 : Z2 = 0
                · have hz2b : ((Z2 : Int) == 0) = true := by simp [hz2]
                  have s16 := Lib.hid (k2.out hz2)
                  clear k2
                  refine wp_region_quiet_lit (by kernel_rfl) (by kernel_rfl) ?_
                  go_big_quiet_step (fail)
                  go_big_quiet_step (fail)
                  go_big_quiet_step (fail)
                  go_big_quiet_step (fail)
                  go_big_quiet_step (fail)
                  go_big_quiet_step ((go_at_call 95; exact Calls.quiet_of (cA2.out _)))
                  go_big_quiet_step (fail)
                  go_big_quiet_step (fail)
                  go_big_quiet_step ((go_at_call 95; exact Calls.quiet_of (cA3.out _)))
                  go_big_quiet_step (fail)
                  go_big_quiet_step (fail)
                  go_big_quiet_step (fail)
                  go_big_quiet_step (fail)
                  refine wpQuiet_nil ?_
                  intro _ hw1
                  obtain ⟨nq, hw2⟩ := hw1
                  subst hw2
                  have hb2 : Below w.heap.size w (wq.drewN nq) := below_dr hb1 nq
                  generalize wq.drewN nq = wq2 at hb2 ⊢
                  clear cA2 cA3 hb1
                  obtain ⟨m3, hm3⟩ : ∃ z, m2 - 16 = z := ⟨_, rfl⟩
                  obtain ⟨o3, ho3⟩ : ∃ z, o2 + 16 = z := ⟨_, rfl⟩
                  obtain ⟨l3, hl3⟩ : ∃ z, l2.drop 16 = z := ⟨_, rfl⟩
                  have Rm3 := Lib.hid (show Reads .u8 w (some ⟨b, o3, none⟩) m3 m3 l3 by rw [← ho3, ← hm3, ← hl3]; exact Rm2.out.tail (by omega))
                  have xm3 := Lib.hid (show Byt l3 by rw [← hl3]; exact fun y hy => xm2.out y (List.mem_of_mem_drop hy))
                  have vm3 := Lib.hid (show validN l3 = ANS by rw [← hl3, valid_drop _ _ s16.out]; exact vm2.out)
                  clear hl3
                  have z3 : m3 + 16 = m2 := by omega
                  have hcm16 : ¬ m2 = 16 := by omega
                  clear vm2 s16
                  go_wp2
                  go_loopg [0] (m3 + 1) (fun g2 s0 wx => Below w.heap.size w wx ∧ ∃ (a' : Option Addr) (n' : Nat) (l' : List Nat), s0 = .slice a' n' n' ∧ Reads .u8 w a' n' n' l' ∧ Byt l' ∧ validN l' = ANS ∧ n' < g2 ∧ n' ≤ m3)
                  case atStart => exact ⟨hb2, _, m3, l3, rfl, Rm3.out, xm3.out, vm3.out, by omega, Nat.le_refl _⟩
                  case round =>
                    obtain ⟨hbu, a4, m4, l4, rfl, hR4, hX4, hV4, hgu, hut⟩ := hrel
                    have Rm4 := Lib.hid hR4
                    have xm4 := Lib.hid hX4
                    have vm4 := Lib.hid hV4
                    clear hR4 hX4 hV4
                    by_cases c32 : 32 < m4
                    · obtain ⟨g3, rfl⟩ : ∃ g3, gk = g3 + 1 := ⟨gk - 1, by omega⟩
                      obtain ⟨b, o4, rfl, -, -⟩ := Rm4.out.cells (by omega)
                      have c32z : (32 : Int) < (m4 : Int) := by omega
                      have c32b : decide ((32 : Int) < (m4 : Int)) = true := decide_eq_true c32z
                      have s8u : (8 : Int) ≤ (m4 : Int) := by omega
                      have s16u : (16 : Int) ≤ (m4 : Int) := by omega
                      have s24u : (24 : Int) ≤ (m4 : Int) := by omega
                      have hn8 : ¬ m4 = 8 := by omega
                      have hn16 : ¬ m4 = 16 := by omega
                      have hn24 : ¬ m4 = 24 := by omega
                      have hn32 : ¬ m4 = 32 := by omega

                      obtain ⟨mp, hmp⟩ : ∃ z, m4 - 8 = z := ⟨_, rfl⟩
                      obtain ⟨op, hop⟩ : ∃ z, o4 + 8 = z := ⟨_, rfl⟩
                      obtain ⟨lp, hlp⟩ : ∃ z, l4.drop 8 = z := ⟨_, rfl⟩
                      have Rmp := Lib.hid (show Reads .u8 w (some ⟨b, op, none⟩) mp mp lp by rw [← hop, ← hmp, ← hlp]; exact Rm4.out.tail (by omega))
                      have xmp := Lib.hid (show Byt lp by rw [← hlp]; exact fun y hy => xm4.out y (List.mem_of_mem_drop hy))
                      have hlp := Lib.hid hlp
                      obtain ⟨mq, hmq⟩ : ∃ z, m4 - 16 = z := ⟨_, rfl⟩
                      obtain ⟨oq, hoq⟩ : ∃ z, o4 + 16 = z := ⟨_, rfl⟩
                      obtain ⟨lq, hlq⟩ : ∃ z, l4.drop 16 = z := ⟨_, rfl⟩
                      have Rmq := Lib.hid (show Reads .u8 w (some ⟨b, oq, none⟩) mq mq lq by rw [← hoq, ← hmq, ← hlq]; exact Rm4.out.tail (by omega))
                      have xmq := Lib.hid (show Byt lq by rw [← hlq]; exact fun y hy => xm4.out y (List.mem_of_mem_drop hy))
                      have hlq := Lib.hid hlq
                      obtain ⟨mr, hmr⟩ : ∃ z, m4 - 24 = z := ⟨_, rfl⟩
                      obtain ⟨or, hor⟩ : ∃ z, o4 + 24 = z := ⟨_, rfl⟩
                      obtain ⟨lr, hlr⟩ : ∃ z, l4.drop 24 = z := ⟨_, rfl⟩
                      have Rmr := Lib.hid (show Reads .u8 w (some ⟨b, or, none⟩) mr mr lr by rw [← hor, ← hmr, ← hlr]; exact Rm4.out.tail (by omega))
                      have xmr := Lib.hid (show Byt lr by rw [← hlr]; exact fun y hy => xm4.out y (List.mem_of_mem_drop hy))
                      have hlr := Lib.hid hlr
                      obtain ⟨B0, hB0⟩ : ∃ z, wordN l4 = z := ⟨_, rfl⟩
                      have lB0 : B0 < 18446744073709551616 := hB0 ▸ word_lt _ xm4.out
                      have kB0 := Lib.hid ((word_mask l4 (by rw [Rm4.out.length]; omega) xm4.out))
                      have cB0 := Lib.hid (fun q => (word_any (some ⟨b, o4, none⟩) m4 m4 l4 (wr.drewN q) ((Rm4.out.below hbu).drewN q) xm4.out (by omega)))
                      rw [hB0] at cB0 kB0
                      clear hB0
                      obtain ⟨B1, hB1⟩ : ∃ z, wordN lp = z := ⟨_, rfl⟩
                      have lB1 : B1 < 18446744073709551616 := hB1 ▸ word_lt _ xmp.out
                      have kB1 := Lib.hid ((word_mask lp (by rw [Rmp.out.length]; omega) xmp.out))
                      have cB1 := Lib.hid (fun q => (word_any (some ⟨b, op, none⟩) mp mp lp (wr.drewN q) ((Rmp.out.below hbu).drewN q) xmp.out (by omega)))
                      rw [hB1] at cB1 kB1
                      clear hB1
                      obtain ⟨B2, hB2⟩ : ∃ z, wordN lq = z := ⟨_, rfl⟩
                      have lB2 : B2 < 18446744073709551616 := hB2 ▸ word_lt _ xmq.out
                      have kB2 := Lib.hid ((word_mask lq (by rw [Rmq.out.length]; omega) xmq.out))
                      have cB2 := Lib.hid (fun q => (word_any (some ⟨b, oq, none⟩) mq mq lq (wr.drewN q) ((Rmq.out.below hbu).drewN q) xmq.out (by omega)))
                      rw [hB2] at cB2 kB2
                      clear hB2
                      obtain ⟨B3, hB3⟩ : ∃ z, wordN lr = z := ⟨_, rfl⟩
                      have lB3 : B3 < 18446744073709551616 := hB3 ▸ word_lt _ xmr.out
                      have kB3 := Lib.hid ((word_mask lr (by rw [Rmr.out.length]; omega) xmr.out))
                      have cB3 := Lib.hid (fun q => (word_any (some ⟨b, or, none⟩) mr mr lr (wr.drewN q) ((Rmr.out.below hbu).drewN q) xmr.out (by omega)))
                      rw [hB3] at cB3 kB3
                      clear hB3
                      have ho1 : bits .or .u64 (B0 : Int) (B1 : Int) = ((B0 ||| B1 : Nat) : Int) := u64_or_nat B0 B1 lB0 lB1
                      have ho2 : bits .or .u64 (B2 : Int) (B3 : Int) = ((B2 ||| B3 : Nat) : Int) := u64_or_nat B2 B3 lB2 lB3
                      have lo1 : B0 ||| B1 < 18446744073709551616 := Nat.or_lt_two_pow (n := 64) lB0 lB1
                      have lo2 : B2 ||| B3 < 18446744073709551616 := Nat.or_lt_two_pow (n := 64) lB2 lB3
                      have ho3 : bits .or .u64 ((B0 ||| B1 : Nat) : Int) ((B2 ||| B3 : Nat) : Int) = (((B0 ||| B1) ||| (B2 ||| B3) : Nat) : Int) := u64_or_nat _ _ lo1 lo2
                      have lo3 : (B0 ||| B1) ||| (B2 ||| B3) < 18446744073709551616 := Nat.or_lt_two_pow (n := 64) lo1 lo2
                      have hand3 : bits .and .u64 (((B0 ||| B1) ||| (B2 ||| B3) : Nat) : Int) 9259542123273814144 = ((((B0 ||| B1) ||| (B2 ||| B3)) &&& 9259542123273814144 : Nat) : Int) := u64_and_nat _ 9259542123273814144 lo3 (by omega)
                      have k3 := Lib.hid (show ((B0 ||| B1) ||| (B2 ||| B3)) &&& 9259542123273814144 = 0 → Asc l4 32 from fun h0' => by
                        obtain ⟨e01, e23⟩ := (Lib.or_mask _ _ _).1 h0'
                        obtain ⟨e0, e1⟩ := (Lib.or_mask _ _ _).1 e01
                        obtain ⟨e2, e3⟩ := (Lib.or_mask _ _ _).1 e23
                        have s16 : Asc l4 16 := asc_add (a := 8) (b := 8) (kB0.out.1 e0) (by rw [hlp.out]; exact kB1.out.1 e1)
                        have s24 : Asc l4 24 := asc_add (a := 16) (b := 8) s16 (by rw [hlq.out]; exact kB2.out.1 e2)
                        exact asc_add (a := 24) (b := 8) s24 (by rw [hlr.out]; exact kB3.out.1 e3))
                      obtain ⟨P1, hP1⟩ : ∃ z, B0 ||| B1 = z := ⟨_, rfl⟩
                      obtain ⟨P2, hP2⟩ : ∃ z, B2 ||| B3 = z := ⟨_, rfl⟩
                      rw [hP1, hP2] at ho3 hand3 k3
                      rw [hP1] at ho1
                      rw [hP2] at ho2
                      obtain ⟨P3, hP3⟩ : ∃ z, P1 ||| P2 = z := ⟨_, rfl⟩
                      rw [hP3] at ho3 hand3 k3
                      obtain ⟨Z3, hZ3⟩ : ∃ z, P3 &&& 9259542123273814144 = z := ⟨_, rfl⟩
                      rw [hZ3] at hand3 k3
                      clear kB0 kB1 kB2 kB3 lo1 lo2 lo3 hP1 hP2 hP3 hZ3
                      by_cases hz3 : Z3 = 0
                      · have hz3b : ((Z3 : Int) == 0) = true := by simp [hz3]
                        have s32 := Lib.hid (k3.out hz3)
                        clear k3
                        obtain ⟨m5, hm5⟩ : ∃ z, m4 - 32 = z := ⟨_, rfl⟩
                        obtain ⟨o5, ho5⟩ : ∃ z, o4 + 32 = z := ⟨_, rfl⟩
                        obtain ⟨l5, hl5⟩ : ∃ z, l4.drop 32 = z := ⟨_, rfl⟩
                        have Rm5 := Lib.hid (show Reads .u8 w (some ⟨b, o5, none⟩) m5 m5 l5 by rw [← ho5, ← hm5, ← hl5]; exact Rm4.out.tail (by omega))
                        have xm5 := Lib.hid (show Byt l5 by rw [← hl5]; exact fun y hy => xm4.out y (List.mem_of_mem_drop hy))
                        have vm5 := Lib.hid (show validN l5 = ANS by rw [← hl5, valid_drop _ _ s32.out]; exact vm4.out)
                        clear hl5
                        go_wp2_with fail
                        refine wp_region_quiet_lit (by kernel_rfl) (by kernel_rfl) ?_
                        go_big_quiet_step (fail)
                        go_big_quiet_step (fail)
                        go_big_quiet_step (fail)
                        go_big_quiet_step (fail)
                        go_big_quiet_step (fail)
                        go_big_quiet_step ((go_at_call 95; exact Calls.quiet_of (cB0.out _)))
                        go_big_quiet_step (fail)
                        go_big_quiet_step (fail)
                        go_big_quiet_step ((go_at_call 95; exact Calls.quiet_of (cB1.out _)))
                        go_big_quiet_step (fail)
                        go_big_quiet_step (fail)
                        go_big_quiet_step (fail)
                        go_big_quiet_step ((go_at_call 95; exact Calls.quiet_of (cB2.out _)))
                        go_big_quiet_step (fail)
                        go_big_quiet_step (fail)
                        go_big_quiet_step ((go_at_call 95; exact Calls.quiet_of (cB3.out _)))
                        go_big_quiet_step (fail)
                        go_big_quiet_step (fail)
                        go_big_quiet_step (fail)
                        go_big_quiet_step (fail)
                        go_big_quiet_step (fail)
                        refine wpQuiet_nil ?_
                        intro _ hw1
                        obtain ⟨nq, hw2⟩ := hw1
                        subst hw2
                        go_wp2
                        go_roundg g3
                        case measure => omega
                        case rel => exact ⟨below_dr hbu nq, _, m5, l5, rfl, Rm5.out, xm5.out, vm5.out, by omega, by omega⟩
                      · have hz3b : ((Z3 : Int) == 0) = false := by simp; omega
                        clear k3

                        go_wp2_with fail
                        refine wp_region_quiet_lit (by kernel_rfl) (by kernel_rfl) ?_
                        go_big_quiet_step (fail)
                        go_big_quiet_step (fail)
                        go_big_quiet_step (fail)
                        go_big_quiet_step (fail)
                        go_big_quiet_step (fail)
                        go_big_quiet_step ((go_at_call 95; exact Calls.quiet_of (cB0.out _)))
                        go_big_quiet_step (fail)
                        go_big_quiet_step (fail)
                        go_big_quiet_step ((go_at_call 95; exact Calls.quiet_of (cB1.out _)))
                        go_big_quiet_step (fail)
                        go_big_quiet_step (fail)
                        go_big_quiet_step (fail)
                        go_big_quiet_step ((go_at_call 95; exact Calls.quiet_of (cB2.out _)))
                        go_big_quiet_step (fail)
                        go_big_quiet_step (fail)
                        go_big_quiet_step ((go_at_call 95; exact Calls.quiet_of (cB3.out _)))
                        go_big_quiet_step (fail)
                        go_big_quiet_step (fail)
                        go_big_quiet_step (fail)
                        go_big_quiet_step (fail)
                        go_big_quiet_step (fail)
                        refine wpQuiet_nil ?_
                        intro _ hw1
                        obtain ⟨nq, hw2⟩ := hw1
                        subst hw2
                        go_wp2
                        go_roundg g'
                        case measure => omega
                        case rel => exact ⟨below_dr hbu nq, _, m4, l4, rfl, Rm4.out, xm4.out, vm4.out, by omega⟩
                    · have c32z : ¬ ((32 : Int) < (m4 : Int)) := by omega
                      have c32b : decide ((32 : Int) < (m4 : Int)) = false := decide_eq_false c32z
                      go_wp2_with fail
                      go_big_quiet (fail)
                      go_wp2
                      go_roundg g'
                      case measure => omega
                      case rel => exact ⟨below_dr hbu nq, _, m4, l4, rfl, Rm4.out, xm4.out, vm4.out, by omega⟩
                · have hz2b : ((Z2 : Int) == 0) = false := by simp; omega
                  refine wp_region_quiet_lit (by kernel_rfl) (by kernel_rfl) ?_
                  go_big_quiet_step (fail)
                  go_big_quiet_step (fail)
                  go_big_quiet_step (fail)
                  go_big_quiet_step (fail)
                  go_big_quiet_step (fail)
                  go_big_quiet_step ((go_at_call 95; exact Calls.quiet_of (cA2.out _)))
                  go_big_quiet_step (fail)
                  go_big_quiet_step (fail)
                  go_big_quiet_step ((go_at_call 95; exact Calls.quiet_of (cA3.out _)))
                  go_big_quiet_step (fail)
                  go_big_quiet_step (fail)
                  go_big_quiet_step (fail)
                  go_big_quiet_step (fail)
                  refine wpQuiet_nil ?_
                  intro _ hw1
                  obtain ⟨nq, hw2⟩ := hw1
                  subst hw2
                  go_wp2
                  go_roundg g'
                  case measure => omega
                  case rel => exact ⟨below_dr hb1 nq, _, m2, l2, rfl, Rm2.out, xm2.out, vm2.out, by omega⟩
              · have c16z : ¬ ((16 : Int) < (m2 : Int)) := by omega
                have c16b : decide ((16 : Int) < (m2 : Int)) = false := decide_eq_false c16z
                go_big_quiet (fail)
                go_wp2
                go_roundg g'
                case measure => omega
                case rel => exact ⟨below_dr hb1 nq, _, m2, l2, rfl, Rm2.out, xm2.out, vm2.out, by omega⟩
            · have hz1b : ((Z1 : Int) == 0) = false := by simp; omega
              clear kA1 hZ1
              go_wp2_with fail
              refine (cA1.out 0).mono ?_
              rintro e W1 ⟨rfl, q1, rfl⟩
              go_wp2_with fail
              go_roundg g'
              case measure => omega
              case rel => exact ⟨below_dr (below_dr hbw 0) q1, _, m1, l1, rfl, Rm1.out, xm1.out, vm1.out, by omega⟩
          · have c8z : ¬ ((8 : Int) < (m1 : Int)) := by omega
            go_wp2_with fail
            go_roundg g'
            case measure => omega
            case rel => exact ⟨hbw, _, m1, l1, rfl, Rm1.out, xm1.out, vm1.out, by omega⟩
      · -- a lead byte from 128 on
        have hge : 128 ≤ x0 := by omega
        have hascz : ¬ ((x0 : Int) < 128) := by omega
        have hlead := valid_lead l' X0.out (by rw [R0.out.length]; exact h0) (by rw [hx0]; exact hge)
        obtain ⟨x1, hx1⟩ : ∃ z, gN l' 1 = z := ⟨_, rfl⟩
        obtain ⟨x2, hx2⟩ : ∃ z, gN l' 2 = z := ⟨_, rfl⟩
        obtain ⟨x3, hx3⟩ : ∃ z, gN l' 3 = z := ⟨_, rfl⟩
        have w1 := gN_lt X0.out 1
        have w2 := gN_lt X0.out 2
        have w3 := gN_lt X0.out 3
        rw [hx1] at w1
        rw [hx2] at w2
        rw [hx3] at w3
        rw [hx0, hx1, hx2, hx3, R0.out.length, V0.out] at hlead
        have ht0 := hTr.out.1 x0 hx0lt
        have hXlt : Lib.firstT x0 < 256 := by rcases Lib.firstT_cases x0 with h | h | h | h | h | h | h | h | h <;> omega
        obtain ⟨X, hX⟩ : ∃ z, Lib.firstT x0 = z := ⟨_, rfl⟩
        rw [hX] at ht0 hXlt hlead
        have h7 := and_seven ⟨X, hXlt⟩
        simp only at h7
        have ha0 : wr.cell? ⟨2, X / 16 * 2, none⟩ = some (.int .u8 (Lib.accLo (X / 16))) := by rw [Nat.mul_comm]; exact (hTr.out.2 (X / 16) (by omega)).1
        have ha1 : wr.cell? ⟨2, X / 16 * 2 + 1, none⟩ = some (.int .u8 (Lib.accHi (X / 16))) := by rw [Nat.mul_comm]; exact (hTr.out.2 (X / 16) (by omega)).2
        obtain ⟨LO, hLO⟩ : ∃ z, Lib.accLo (X / 16) = z := ⟨_, rfl⟩
        obtain ⟨HI, hHI⟩ : ∃ z, Lib.accHi (X / 16) = z := ⟨_, rfl⟩
        rw [hLO] at ha0 hlead
        rw [hHI] at ha1 hlead
        obtain ⟨SZ, hSZ⟩ : ∃ z, X % 8 = z := ⟨_, rfl⟩
        rw [hSZ] at hlead
        have HL := Lib.hid hlead
        clear hTr hX hLO hHI hlead V0 hx0

        by_cases s2 : SZ = 2
        · as_aux_lemma =>
          subst s2
          have hSZz : (X : Int) % 8 = 2 := by omega
          have HL2 := HL.out
          simp only [Lib.checkN, Nat.reduceEqDiff, if_true, if_false] at HL2
          have HLC := Lib.hid HL2
          clear HL HL2
          go_upto_region 18 with fail
          have hbq : Below w.heap.size w (wr.alloc (.cells #[.int .u8 (LO : Nat), .int .u8 (HI : Nat)] 109)) := hbw.alloc hbw.size _
          have ca0 := alloc_cell wr #[.int .u8 (LO : Nat), .int .u8 (HI : Nat)] 109 0
          have ca1 := alloc_cell wr #[.int .u8 (LO : Nat), .int .u8 (HI : Nat)] 109 1
          generalize wr.alloc (.cells #[.int .u8 (LO : Nat), .int .u8 (HI : Nat)] 109) = wq at hbq ca0 ca1 ⊢
          simp only [List.getElem?_toArray, List.getElem?_cons_zero, List.getElem?_cons_succ] at ca0 ca1
          generalize wr.heap.size = acc at ca0 ca1 ⊢
          clear ht0 ha0 ha1 hc0 HC
          go_cut [103] from 85 to 103 (fun c wx => c = .bool (decide (n < 2 ∨ x1 < LO ∨ HI < x1)) ∧ Below w.heap.size w wx)
          case first =>
            by_cases q0 : n < 2
            · have q0z : (n : Int) < 2 := by omega
              go_big_quiet (fail)
              go_wp2
              go_meet
              exact ⟨congrArg Value.bool (decide_eq_true (p := n < 2 ∨ x1 < LO ∨ HI < x1) (by omega)).symm, below_dr hbq _⟩
            · have q0z : ¬ ((n : Int) < 2) := by omega
              have HCq := ((R0.out.below hbq).cells (by omega))
              obtain ⟨b2, off2, hab, -, hcq⟩ := HCq
              obtain ⟨rfl, rfl⟩ : b = b2 ∧ off = off2 := by injection hab with h1; injection h1 with h1 h2; exact ⟨h1, h2⟩
              have hz1 : (1 : Int) < (n : Int) := by omega
              have hcc1 : wq.cell? ⟨b, off + 1, none⟩ = some (.int .u8 (x1 : Nat)) := by have := hcq 1 (by omega); rw [show (l'[1]?.getD 0) = x1 from hx1] at this; exact this
              clear hcq hab
              by_cases q1 : x1 < LO
              · have q1z : (x1 : Int) < (LO : Int) := by omega
                go_big_quiet (fail)
                go_wp2
                go_meet
                exact ⟨congrArg Value.bool (decide_eq_true (p := n < 2 ∨ x1 < LO ∨ HI < x1) (by omega)).symm, below_dr hbq _⟩
              · have q1z : ¬ ((x1 : Int) < (LO : Int)) := by omega
                by_cases q2 : HI < x1
                · have q2z : (HI : Int) < (x1 : Int) := by omega
                  go_big_quiet (fail)
                  go_wp2
                  go_meet
                  exact ⟨congrArg Value.bool (decide_eq_true (p := n < 2 ∨ x1 < LO ∨ HI < x1) (by omega)).symm, below_dr hbq _⟩
                · have q2z : ¬ ((HI : Int) < (x1 : Int)) := by omega
                  go_big_quiet (fail)
                  go_wp2
                  go_meet
                  exact ⟨congrArg Value.bool (decide_eq_false (p := n < 2 ∨ x1 < LO ∨ HI < x1) (by omega)).symm, below_dr hbq _⟩
          case rest =>
            obtain ⟨D, hD⟩ : ∃ D, decide (n < 2 ∨ x1 < LO ∨ HI < x1) = D := ⟨_, rfl⟩
            rw [hD] at hcut
            obtain ⟨rfl, hbc⟩ := hcut
            cases D with
            | true =>
              have hA := HLC.out
              rw [if_pos (of_decide_eq_true hD)] at hA
              change ANS = false at hA
              subst hA
              clear hD HLC
              go_wp2_with fail
              go_ret
              exact ⟨rfl, hbc⟩
            | false =>
              have hb := of_decide_eq_false hD
              have hA := HLC.out
              rw [if_neg hb] at hA
              have vA := Lib.hid (show ANS = validN (l'.drop 2) from hA)
              have hnk : 2 ≤ n := by omega
              clear hb hD HLC hA
              by_cases hnE : n = 2
              · subst hnE
                have vE := Lib.hid (show validN [] = ANS by rw [vA.out, List.drop_of_length_le (Nat.le_of_eq R0.out.length)])
                clear vA
                go_wp2_with fail
                go_roundg g'
                case measure => omega
                case rel => exact ⟨hbc, _, 0, [], rfl, Reads.empty _ _ _ (by unfold maxLen; omega) (fun h => by cases h), (fun y hy => by cases hy), vE.out, by omega⟩
              · have hnZ : (2 : Int) ≤ (n : Int) := by omega
                obtain ⟨m7, hm7⟩ : ∃ z, n - 2 = z := ⟨_, rfl⟩
                obtain ⟨o7, ho7⟩ : ∃ z, off + 2 = z := ⟨_, rfl⟩
                obtain ⟨l7, hl7⟩ : ∃ z, l'.drop 2 = z := ⟨_, rfl⟩
                have Rm7 := Lib.hid (show Reads .u8 w (some ⟨b, o7, none⟩) m7 m7 l7 by rw [← ho7, ← hm7, ← hl7]; exact R0.out.tail (by omega))
                have xm7 := Lib.hid (show Byt l7 by rw [← hl7]; exact fun y hy => X0.out y (List.mem_of_mem_drop hy))
                have hl7 := Lib.hid hl7
                have v7 := Lib.hid (show validN l7 = ANS by rw [← hl7.out]; exact vA.out.symm)
                clear vA
                go_wp2_with fail
                go_roundg g'
                case measure => omega
                case rel => exact ⟨hbc, _, m7, l7, rfl, Rm7.out, xm7.out, v7.out, by omega⟩
        by_cases s3 : SZ = 3
        · as_aux_lemma =>
          subst s3
          have hSZz : (X : Int) % 8 = 3 := by omega
          have HL2 := HL.out
          simp only [Lib.checkN, Nat.reduceEqDiff, if_true, if_false] at HL2
          have HLC := Lib.hid HL2
          clear HL HL2
          go_upto_region 22 with fail
          have hbq : Below w.heap.size w (wr.alloc (.cells #[.int .u8 (LO : Nat), .int .u8 (HI : Nat)] 109)) := hbw.alloc hbw.size _
          have ca0 := alloc_cell wr #[.int .u8 (LO : Nat), .int .u8 (HI : Nat)] 109 0
          have ca1 := alloc_cell wr #[.int .u8 (LO : Nat), .int .u8 (HI : Nat)] 109 1
          generalize wr.alloc (.cells #[.int .u8 (LO : Nat), .int .u8 (HI : Nat)] 109) = wq at hbq ca0 ca1 ⊢
          simp only [List.getElem?_toArray, List.getElem?_cons_zero, List.getElem?_cons_succ] at ca0 ca1
          generalize wr.heap.size = acc at ca0 ca1 ⊢
          clear ht0 ha0 ha1 hc0 HC
          go_cut [138] from 108 to 138 (fun c wx => c = .bool (decide (n < 3 ∨ x1 < LO ∨ HI < x1 ∨ x2 < 128 ∨ 191 < x2)) ∧ Below w.heap.size w wx)
          case first =>
            by_cases q0 : n < 3
            · have q0z : (n : Int) < 3 := by omega
              go_big_quiet (fail)
              go_wp2
              go_meet
              exact ⟨congrArg Value.bool (decide_eq_true (p := n < 3 ∨ x1 < LO ∨ HI < x1 ∨ x2 < 128 ∨ 191 < x2) (by omega)).symm, below_dr hbq _⟩
            · have q0z : ¬ ((n : Int) < 3) := by omega
              have HCq := ((R0.out.below hbq).cells (by omega))
              obtain ⟨b2, off2, hab, -, hcq⟩ := HCq
              obtain ⟨rfl, rfl⟩ : b = b2 ∧ off = off2 := by injection hab with h1; injection h1 with h1 h2; exact ⟨h1, h2⟩
              have hz1 : (1 : Int) < (n : Int) := by omega
              have hcc1 : wq.cell? ⟨b, off + 1, none⟩ = some (.int .u8 (x1 : Nat)) := by have := hcq 1 (by omega); rw [show (l'[1]?.getD 0) = x1 from hx1] at this; exact this
              have hz2 : (2 : Int) < (n : Int) := by omega
              have hcc2 : wq.cell? ⟨b, off + 2, none⟩ = some (.int .u8 (x2 : Nat)) := by have := hcq 2 (by omega); rw [show (l'[2]?.getD 0) = x2 from hx2] at this; exact this
              clear hcq hab
              by_cases q1 : x1 < LO
              · have q1z : (x1 : Int) < (LO : Int) := by omega
                go_big_quiet (fail)
                go_wp2
                go_meet
                exact ⟨congrArg Value.bool (decide_eq_true (p := n < 3 ∨ x1 < LO ∨ HI < x1 ∨ x2 < 128 ∨ 191 < x2) (by omega)).symm, below_dr hbq _⟩
              · have q1z : ¬ ((x1 : Int) < (LO : Int)) := by omega
                by_cases q2 : HI < x1
                · have q2z : (HI : Int) < (x1 : Int) := by omega
                  go_big_quiet (fail)
                  go_wp2
                  go_meet
                  exact ⟨congrArg Value.bool (decide_eq_true (p := n < 3 ∨ x1 < LO ∨ HI < x1 ∨ x2 < 128 ∨ 191 < x2) (by omega)).symm, below_dr hbq _⟩
                · have q2z : ¬ ((HI : Int) < (x1 : Int)) := by omega
                  by_cases q3 : x2 < 128
                  · have q3z : (x2 : Int) < 128 := by omega
                    go_big_quiet (fail)
                    go_wp2
                    go_meet
                    exact ⟨congrArg Value.bool (decide_eq_true (p := n < 3 ∨ x1 < LO ∨ HI < x1 ∨ x2 < 128 ∨ 191 < x2) (by omega)).symm, below_dr hbq _⟩
                  · have q3z : ¬ ((x2 : Int) < 128) := by omega
                    by_cases q4 : 191 < x2
                    · have q4z : (191 : Int) < (x2 : Int) := by omega
                      go_big_quiet (fail)
                      go_wp2
                      go_meet
                      exact ⟨congrArg Value.bool (decide_eq_true (p := n < 3 ∨ x1 < LO ∨ HI < x1 ∨ x2 < 128 ∨ 191 < x2) (by omega)).symm, below_dr hbq _⟩
                    · have q4z : ¬ ((191 : Int) < (x2 : Int)) := by omega
                      go_big_quiet (fail)
                      go_wp2
                      go_meet
                      exact ⟨congrArg Value.bool (decide_eq_false (p := n < 3 ∨ x1 < LO ∨ HI < x1 ∨ x2 < 128 ∨ 191 < x2) (by omega)).symm, below_dr hbq _⟩
          case rest =>
            obtain ⟨D, hD⟩ : ∃ D, decide (n < 3 ∨ x1 < LO ∨ HI < x1 ∨ x2 < 128 ∨ 191 < x2) = D := ⟨_, rfl⟩
            rw [hD] at hcut
            obtain ⟨rfl, hbc⟩ := hcut
            cases D with
            | true =>
              have hA := HLC.out
              rw [if_pos (of_decide_eq_true hD)] at hA
              change ANS = false at hA
              subst hA
              clear hD HLC
              go_wp2_with fail
              go_ret
              exact ⟨rfl, hbc⟩
            | false =>
              have hb := of_decide_eq_false hD
              have hA := HLC.out
              rw [if_neg hb] at hA
              have vA := Lib.hid (show ANS = validN (l'.drop 3) from hA)
              have hnk : 3 ≤ n := by omega
              clear hb hD HLC hA
              by_cases hnE : n = 3
              · subst hnE
                have vE := Lib.hid (show validN [] = ANS by rw [vA.out, List.drop_of_length_le (Nat.le_of_eq R0.out.length)])
                clear vA
                go_wp2_with fail
                go_roundg g'
                case measure => omega
                case rel => exact ⟨hbc, _, 0, [], rfl, Reads.empty _ _ _ (by unfold maxLen; omega) (fun h => by cases h), (fun y hy => by cases hy), vE.out, by omega⟩
              · have hnZ : (3 : Int) ≤ (n : Int) := by omega
                obtain ⟨m7, hm7⟩ : ∃ z, n - 3 = z := ⟨_, rfl⟩
                obtain ⟨o7, ho7⟩ : ∃ z, off + 3 = z := ⟨_, rfl⟩
                obtain ⟨l7, hl7⟩ : ∃ z, l'.drop 3 = z := ⟨_, rfl⟩
                have Rm7 := Lib.hid (show Reads .u8 w (some ⟨b, o7, none⟩) m7 m7 l7 by rw [← ho7, ← hm7, ← hl7]; exact R0.out.tail (by omega))
                have xm7 := Lib.hid (show Byt l7 by rw [← hl7]; exact fun y hy => X0.out y (List.mem_of_mem_drop hy))
                have hl7 := Lib.hid hl7
                have v7 := Lib.hid (show validN l7 = ANS by rw [← hl7.out]; exact vA.out.symm)
                clear vA
                go_wp2_with fail
                go_roundg g'
                case measure => omega
                case rel => exact ⟨hbc, _, m7, l7, rfl, Rm7.out, xm7.out, v7.out, by omega⟩
        by_cases s4 : SZ = 4
        · as_aux_lemma =>
          subst s4
          have hSZz : (X : Int) % 8 = 4 := by omega
          have HL2 := HL.out
          simp only [Lib.checkN, Nat.reduceEqDiff, if_true, if_false] at HL2
          have HLC := Lib.hid HL2
          clear HL HL2
          go_upto_region 26 with fail
          have hbq : Below w.heap.size w (wr.alloc (.cells #[.int .u8 (LO : Nat), .int .u8 (HI : Nat)] 109)) := hbw.alloc hbw.size _
          have ca0 := alloc_cell wr #[.int .u8 (LO : Nat), .int .u8 (HI : Nat)] 109 0
          have ca1 := alloc_cell wr #[.int .u8 (LO : Nat), .int .u8 (HI : Nat)] 109 1
          generalize wr.alloc (.cells #[.int .u8 (LO : Nat), .int .u8 (HI : Nat)] 109) = wq at hbq ca0 ca1 ⊢
          simp only [List.getElem?_toArray, List.getElem?_cons_zero, List.getElem?_cons_succ] at ca0 ca1
          generalize wr.heap.size = acc at ca0 ca1 ⊢
          clear ht0 ha0 ha1 hc0 HC
          go_cut [185] from 143 to 185 (fun c wx => c = .bool (decide (n < 4 ∨ x1 < LO ∨ HI < x1 ∨ x2 < 128 ∨ 191 < x2 ∨ x3 < 128 ∨ 191 < x3)) ∧ Below w.heap.size w wx)
          case first =>
            by_cases q0 : n < 4
            · have q0z : (n : Int) < 4 := by omega
              go_big_quiet (fail)
              go_wp2
              go_meet
              exact ⟨congrArg Value.bool (decide_eq_true (p := n < 4 ∨ x1 < LO ∨ HI < x1 ∨ x2 < 128 ∨ 191 < x2 ∨ x3 < 128 ∨ 191 < x3) (by omega)).symm, below_dr hbq _⟩
            · have q0z : ¬ ((n : Int) < 4) := by omega
              have HCq := ((R0.out.below hbq).cells (by omega))
              obtain ⟨b2, off2, hab, -, hcq⟩ := HCq
              obtain ⟨rfl, rfl⟩ : b = b2 ∧ off = off2 := by injection hab with h1; injection h1 with h1 h2; exact ⟨h1, h2⟩
              have hz1 : (1 : Int) < (n : Int) := by omega
              have hcc1 : wq.cell? ⟨b, off + 1, none⟩ = some (.int .u8 (x1 : Nat)) := by have := hcq 1 (by omega); rw [show (l'[1]?.getD 0) = x1 from hx1] at this; exact this
              have hz2 : (2 : Int) < (n : Int) := by omega
              have hcc2 : wq.cell? ⟨b, off + 2, none⟩ = some (.int .u8 (x2 : Nat)) := by have := hcq 2 (by omega); rw [show (l'[2]?.getD 0) = x2 from hx2] at this; exact this
              have hz3 : (3 : Int) < (n : Int) := by omega
              have hcc3 : wq.cell? ⟨b, off + 3, none⟩ = some (.int .u8 (x3 : Nat)) := by have := hcq 3 (by omega); rw [show (l'[3]?.getD 0) = x3 from hx3] at this; exact this
              clear hcq hab
              by_cases q1 : x1 < LO
              · have q1z : (x1 : Int) < (LO : Int) := by omega
                go_big_quiet (fail)
                go_wp2
                go_meet
                exact ⟨congrArg Value.bool (decide_eq_true (p := n < 4 ∨ x1 < LO ∨ HI < x1 ∨ x2 < 128 ∨ 191 < x2 ∨ x3 < 128 ∨ 191 < x3) (by omega)).symm, below_dr hbq _⟩
              · have q1z : ¬ ((x1 : Int) < (LO : Int)) := by omega
                by_cases q2 : HI < x1
                · have q2z : (HI : Int) < (x1 : Int) := by omega
                  go_big_quiet (fail)
                  go_wp2
                  go_meet
                  exact ⟨congrArg Value.bool (decide_eq_true (p := n < 4 ∨ x1 < LO ∨ HI < x1 ∨ x2 < 128 ∨ 191 < x2 ∨ x3 < 128 ∨ 191 < x3) (by omega)).symm, below_dr hbq _⟩
                · have q2z : ¬ ((HI : Int) < (x1 : Int)) := by omega
                  by_cases q3 : x2 < 128
                  · have q3z : (x2 : Int) < 128 := by omega
                    go_big_quiet (fail)
                    go_wp2
                    go_meet
                    exact ⟨congrArg Value.bool (decide_eq_true (p := n < 4 ∨ x1 < LO ∨ HI < x1 ∨ x2 < 128 ∨ 191 < x2 ∨ x3 < 128 ∨ 191 < x3) (by omega)).symm, below_dr hbq _⟩
                  · have q3z : ¬ ((x2 : Int) < 128) := by omega
                    by_cases q4 : 191 < x2
                    · have q4z : (191 : Int) < (x2 : Int) := by omega
                      go_big_quiet (fail)
                      go_wp2
                      go_meet
                      exact ⟨congrArg Value.bool (decide_eq_true (p := n < 4 ∨ x1 < LO ∨ HI < x1 ∨ x2 < 128 ∨ 191 < x2 ∨ x3 < 128 ∨ 191 < x3) (by omega)).symm, below_dr hbq _⟩
                    · have q4z : ¬ ((191 : Int) < (x2 : Int)) := by omega
                      by_cases q5 : x3 < 128
                      · have q5z : (x3 : Int) < 128 := by omega
                        go_big_quiet (fail)
                        go_wp2
                        go_meet
                        exact ⟨congrArg Value.bool (decide_eq_true (p := n < 4 ∨ x1 < LO ∨ HI < x1 ∨ x2 < 128 ∨ 191 < x2 ∨ x3 < 128 ∨ 191 < x3) (by omega)).symm, below_dr hbq _⟩
                      · have q5z : ¬ ((x3 : Int) < 128) := by omega
                        by_cases q6 : 191 < x3
                        · have q6z : (191 : Int) < (x3 : Int) := by omega
                          go_big_quiet (fail)
                          go_wp2
                          go_meet
                          exact ⟨congrArg Value.bool (decide_eq_true (p := n < 4 ∨ x1 < LO ∨ HI < x1 ∨ x2 < 128 ∨ 191 < x2 ∨ x3 < 128 ∨ 191 < x3) (by omega)).symm, below_dr hbq _⟩
                        · have q6z : ¬ ((191 : Int) < (x3 : Int)) := by omega
                          go_big_quiet (fail)
                          go_wp2
                          go_meet
                          exact ⟨congrArg Value.bool (decide_eq_false (p := n < 4 ∨ x1 < LO ∨ HI < x1 ∨ x2 < 128 ∨ 191 < x2 ∨ x3 < 128 ∨ 191 < x3) (by omega)).symm, below_dr hbq _⟩
          case rest =>
            obtain ⟨D, hD⟩ : ∃ D, decide (n < 4 ∨ x1 < LO ∨ HI < x1 ∨ x2 < 128 ∨ 191 < x2 ∨ x3 < 128 ∨ 191 < x3) = D := ⟨_, rfl⟩
            rw [hD] at hcut
            obtain ⟨rfl, hbc⟩ := hcut
            cases D with
            | true =>
              have hA := HLC.out
              rw [if_pos (of_decide_eq_true hD)] at hA
              change ANS = false at hA
              subst hA
              clear hD HLC
              go_wp2_with fail
              go_ret
              exact ⟨rfl, hbc⟩
            | false =>
              have hb := of_decide_eq_false hD
              have hA := HLC.out
              rw [if_neg hb] at hA
              have vA := Lib.hid (show ANS = validN (l'.drop 4) from hA)
              have hnk : 4 ≤ n := by omega
              clear hb hD HLC hA
              by_cases hnE : n = 4
              · subst hnE
                have vE := Lib.hid (show validN [] = ANS by rw [vA.out, List.drop_of_length_le (Nat.le_of_eq R0.out.length)])
                clear vA
                go_wp2_with fail
                go_roundg g'
                case measure => omega
                case rel => exact ⟨hbc, _, 0, [], rfl, Reads.empty _ _ _ (by unfold maxLen; omega) (fun h => by cases h), (fun y hy => by cases hy), vE.out, by omega⟩
              · have hnZ : (4 : Int) ≤ (n : Int) := by omega
                obtain ⟨m7, hm7⟩ : ∃ z, n - 4 = z := ⟨_, rfl⟩
                obtain ⟨o7, ho7⟩ : ∃ z, off + 4 = z := ⟨_, rfl⟩
                obtain ⟨l7, hl7⟩ : ∃ z, l'.drop 4 = z := ⟨_, rfl⟩
                have Rm7 := Lib.hid (show Reads .u8 w (some ⟨b, o7, none⟩) m7 m7 l7 by rw [← ho7, ← hm7, ← hl7]; exact R0.out.tail (by omega))
                have xm7 := Lib.hid (show Byt l7 by rw [← hl7]; exact fun y hy => X0.out y (List.mem_of_mem_drop hy))
                have hl7 := Lib.hid hl7
                have v7 := Lib.hid (show validN l7 = ANS by rw [← hl7.out]; exact vA.out.symm)
                clear vA
                go_wp2_with fail
                go_roundg g'
                case measure => omega
                case rel => exact ⟨hbc, _, m7, l7, rfl, Rm7.out, xm7.out, v7.out, by omega⟩
        have e2 : ¬ ((X : Int) % 8 = 2) := by omega
        have e3 : ¬ ((X : Int) % 8 = 3) := by omega
        have e4 : ¬ ((X : Int) % 8 = 4) := by omega
        have e2b : (((X : Int) % 8) == 2) = false := by simp; omega
        have e3b : (((X : Int) % 8) == 3) = false := by simp; omega
        have e4b : (((X : Int) % 8) == 4) = false := by simp; omega
        have hA := HL.out
        simp only [Lib.checkN, s2, s3, s4, if_false] at hA
        subst hA
        clear HL
        go_wp2
        all_goals (go_ret; exact ⟨rfl, hbw.alloc hbw.size _⟩)
    · obtain rfl : n = 0 := by omega
      have vE : ANS = true := by rw [← V0.out, List.eq_nil_of_length_eq_zero R0.out.length]; rfl
      subst vE
      go_wp2
      go_ret
      exact ⟨rfl, hbw⟩

end Go.Proofs.YtkmphiakciihfaaDoor
