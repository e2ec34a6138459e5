/-
  SHA-512: the law Sums. (Written by wip/gen_shbS2.py.)
-/
import Derived.Test.YtpfdehjllnhllaaSk1
import Derived.Test.YtpfdehjllnhllaaSk2
import Derived.Test.YtpfdehjllnhllaaShb2b
import Derived.Test.YtpfdehjllnhllaaShb7
namespace Go.Proofs.Ytpfdehjllnhllaa
open Go.RowKit Go.Shelf

set_option maxRecDepth 100000 in
theorem ref_no (b : Int) (h : b ≠ 384 ∧ b ≠ 512) (a : Option Addr) (n c : Nat) (w : World) : Calls Try.prog 9 #[.int .i64 b, .slice a n c] w fun e w' => e = .returned (.tuple #[.slice none 0 0, .int .i64 2]) ∧ w = w' := by
  have t1 : (b != 384) = true := by simp; exact h.1
  have t2 : (b != 512) = true := by simp; exact h.2
  clear h
  go_enter Try.func9, Try.ntmps9
  go_wp2
  go_ret2
  exact ⟨rfl, rfl⟩
theorem ref_hash (bt : Nat) (hbt : bt = 384 ∨ bt = 512) (a : Option Addr) (n c : Nat) (bl : List Nat) (w : World) (hr : Reads .u8 w a n c bl) (hb : ∀ x ∈ bl, x < 256) (hn : n ≤ 9000) :
    Calls Try.prog 9 #[.int .i64 (bt : Int), .slice a n c] w fun e w' => (∃ v, e = .returned (.tuple #[v, .int .i64 0]) ∧ OwnQ .u8 5 w.heap.size w' v (hashN bt bl)) ∧ Below w.heap.size w w' := by
  rcases hbt with rfl | rfl
  · exact ref_of384 a n c bl w hr hb hn
  · exact ref_of512 a n c bl w hr hb hn
/-- Rows that came in. -/
structure RowsIn (w : World) (a : Option Addr) (n cap : Nat) (R : Nat → Option Addr × Nat × Nat × List Nat) : Prop where
  le : n ≤ cap
  max : cap ≤ maxLen
  each : ∀ i, i < n → Reads .u8 w (R i).1 (R i).2.1 (R i).2.2.1 (R i).2.2.2 ∧ Byt (R i).2.2.2 ∧ (R i).2.1 ≤ 1048576
  cells : 0 < n → ∃ b off, a = some ⟨b, off, none⟩ ∧ b < w.heap.size ∧ ∀ i, i < n → w.cell? ⟨b, off + i, none⟩ = some (.slice (R i).1 (R i).2.1 (R i).2.2.1)
theorem OwnQ.keptG {q : IntKind} {E : TypeId} {B g n c : Nat} {w w' : World} {oa : Option Addr} {l : List Nat} (h : OwnQ q E B w (.slice oa n c) l) (hg : w.grownBy w' (some g)) (hne : ∀ x, oa = some x → x.block ≠ g) : OwnQ q E B w' (.slice oa n c) l := by
  obtain ⟨h1, h2⟩ := h
  refine ⟨h1, ?_⟩
  rcases h2 with h2 | ⟨g', cap', cur, e, hB, hh, r⟩
  · exact .inl h2
  · cases e
    exact .inr ⟨g', c, cur, rfl, hB, (hg.block g' (Array.getElem?_eq_some_iff.1 hh).1 (fun hc => hne _ rfl (Option.some.inj hc))).trans hh, r⟩
def flatN (R : Nat → Option Addr × Nat × Nat × List Nat) : Nat → List Nat
  | 0 => []
  | i + 1 => flatN R i ++ (R i).2.2.2
theorem flatN_byt {w : World} {a : Option Addr} {n cap : Nat} {R : Nat → Option Addr × Nat × Nat × List Nat} (h : RowsIn w a n cap R) : ∀ i, i ≤ n → Byt (flatN R i)
  | 0, _ => fun x hx => by cases hx
  | i + 1, hi => fun x hx => by
    rcases List.mem_append.1 hx with hx | hx
    · exact flatN_byt h i (by omega) x hx
    · exact (h.each i (by omega)).2.1 x hx
theorem flatN_le (R : Nat → Option Addr × Nat × Nat × List Nat) {i n : Nat} (h : i ≤ n) : ∃ t, flatN R n = flatN R i ++ t := by
  induction n with
  | zero => exact ⟨[], by rw [show i = 0 by omega, List.append_nil]⟩
  | succ n ih =>
    rcases Nat.lt_or_ge n i with hlt | hge
    · exact ⟨[], by rw [show i = n + 1 by omega, List.append_nil]⟩
    · obtain ⟨t, ht⟩ := ih hge
      exact ⟨t ++ (R n).2.2.2, by rw [flatN, ht, List.append_assoc]⟩

set_option maxRecDepth 100000 in
set_option maxHeartbeats 4000000 in
theorem sums_walk (bits : Int) (a : Option Addr) (n cap : Nat) (R : Nat → Option Addr × Nat × Nat × List Nat) (w : World) (hR : RowsIn w a n cap R) :
    Calls Try.prog 3 #[.int .i64 bits, .slice a n cap] w fun e w' => e = .returned (.bool true) ∧ Below w.heap.size w w' := by
  have HR := Lib.hid hR
  have hle := hR.le
  have hmx := hR.max
  unfold maxLen at hmx
  clear hR
  by_cases hbig : 20 < n
  · have d1 : decide ((20 : Int) < (n : Int)) = true := by simp; omega
    go_enter Try.func3, Try.ntmps3
    go_wp2
    go_ret
    exact ⟨rfl, Below.refl _ _⟩
  · have d1 : decide ((20 : Int) < (n : Int)) = false := by simp; omega
    obtain ⟨i0, hi0, hz0, hz1, hz2⟩ := info_parts infoB
    go_enter Try.func3, Try.ntmps3
    go_wp2_with fail
    go_loopw [5, 27] (fun sv iv wq => ∃ (i m c' : Nat) (a' : Option Addr), sv = .slice a' m c' ∧ iv = .int .i64 (i : Int) ∧ i ≤ n ∧ m ≤ 22020096 ∧ Hid (m = (flatN R i).length ∧ m ≤ 1048576 * i ∧ OwnQ .u8 5 w.heap.size wq (.slice a' m c') (flatN R i) ∧ Below w.heap.size w wq)) (fun _ iv _ => n - (intOf iv).toNat)
    case atStart => exact ⟨0, 0, 0, none, rfl, rfl, Nat.zero_le _, by decide, rfl, by decide, OwnQ.nil _ _ _ _, Below.refl _ _⟩
    case round =>
      obtain ⟨i, m, c', a', rfl, rfl, hi, hm, hI⟩ := hrel
      by_cases hlt : i < n
      · obtain ⟨b, off, rfl, hbk, hc⟩ := HR.out.cells (by omega)
        have hci := (World.cell?_of_block (a := ⟨b, off + i, none⟩) (hI.out.2.2.2.block b hbk)).trans (hc i hlt)
        have he := HR.out.each i hlt
        have HEL := Lib.hid (show flatN R (i + 1) = flatN R i ++ (R i).2.2.2 from rfl)
        obtain ⟨⟨ra, rl, rc, l⟩, hri⟩ : ∃ r, r = R i := ⟨_, rfl⟩
        rw [← hri] at hci he HEL
        have HE := Lib.hid he
        have hrl := he.2.2
        have HRL := Lib.hid (show l.length = rl from he.1.length)
        clear hc he hri
        dsimp only at hci hrl
        have hm2 := hI.out.2.1
        have tn : decide (i < n) = true := by simp; omega
        go_wp2_with (at_builtin; refine wpList_append_q .u8 _ rfl _ _ 23 rfl w.heap.size 5 1 i0 Try.underlying23 hi0 hz0 hz1 hz2 (by decide) _ (flatN R i) rfl hI.out.2.2.1 ra rl rc l rfl (HE.out.1.below hI.out.2.2.2) (by have := hI.out.1; omega) hI.out.2.2.2.size ?_; intro v2 w2 hown hgrow; obtain ⟨a2, n2, c2, rfl, hn2, ho2⟩ := own_sl hown; have HO2 := Lib.hid ho2; have HN2 := Lib.hid hn2; have HB2 := Lib.hid (hgrow w hI.out.2.2.2); clear hown hgrow hn2 ho2)
        go_roundw
        case rel => exact ⟨i + 1, n2, c2, a2, rfl, by go_num, by omega, by (have := HN2.out; rw [List.length_append, HRL.out, ← hI.out.1] at this; omega), by rw [HEL.out]; exact HN2.out, by (have := HN2.out; rw [List.length_append, HRL.out, ← hI.out.1] at this; omega), by rw [HEL.out]; exact HO2.out, HB2.out⟩
        case measure => simp [intOf] <;> omega
      · have hin : i = n := by omega
        have tn : decide (i < n) = false := by simp; omega
        have HA := Lib.hid (show OwnQ .u8 5 w.heap.size wr (.slice a' m c') (flatN R n) by have := hI.out.2.2.1; rw [hin] at this; exact this)
        have HML := Lib.hid (show m = (flatN R n).length by have := hI.out.1; rw [hin] at this; exact this)
        have HB := Lib.hid hI.out.2.2.2
        have HBY := Lib.hid (flatN_byt HR.out n (Nat.le_refl _))
        clear hI hin hlt hi
        by_cases hb2 : 1500 < m
        · have d2 : decide ((1500 : Int) < (m : Int)) = true := by simp; omega
          go_wp2
          go_ret
          exact ⟨rfl, HB.out⟩
        · have d2 : decide ((1500 : Int) < (m : Int)) = false := by simp; omega
          by_cases hbt : bits = 384 ∨ bits = 512
          · obtain ⟨bt, hbn, hbq⟩ : ∃ bt : Nat, bits = (bt : Int) ∧ (bt = 384 ∨ bt = 512) := by
              rcases hbt with rfl | rfl
              · exact ⟨384, rfl, .inl rfl⟩
              · exact ⟨512, rfl, .inr rfl⟩
            clear hbt
            subst hbn
            have HBT := Lib.hid hbq
            have hbt0 : bt ≠ 0 := by omega
            clear hbq
            go_wp2_with fail
            refine (of_hash bt HBT.out (flatN R n) a' m c' wr HA.out.reads HBY.out (by omega)).mono ?_
            rintro e w1 ⟨⟨ad, rfl, h1, h2⟩, h3⟩
            obtain ⟨q8, hq8⟩ : ∃ z, z = bt / 8 := ⟨_, rfl⟩
            rw [← hq8] at h1 ⊢
            have HQE := Lib.hid hq8
            have hq1 : Int.tdiv (bt : Int) 8 = (q8 : Int) := by rw [Int.tdiv_eq_ediv_of_nonneg (by omega)]; omega
            have hq32 : q8 ≤ 64 := by have := HBT.out; omega
            clear hq8
            have HX := Lib.hid h1
            have HA := Lib.hid (HA.out.below h3)
            have HB := Lib.hid (HB.out.trans (h3.mono HB.out.size))
            clear h1 h2 h3
            go_wp2_with fail
            refine (ref_hash bt HBT.out a' m c' (flatN R n) w1 HA.out.reads HBY.out (by omega)).mono ?_
            rintro e w2 ⟨⟨v, rfl, h1⟩, h3⟩
            obtain ⟨va, vn, vc, rfl, hvn, h1⟩ := own_sl h1
            have HV := Lib.hid (h1.mono HB.out.size)
            have HX := Lib.hid (HX.out.below h3)
            have HA := Lib.hid (HA.out.below h3)
            have HB := Lib.hid (HB.out.trans (h3.mono HB.out.size))
            clear h1 h3 hvn
            go_wp2_with fail
            refine (new_any bt HBT.out w2).mono ?_
            rintro e w3 ⟨rfl, h1, h3⟩
            have HGA := Lib.hid (show ∀ x, a' = some x → x.block ≠ w2.heap.size from fun x hx => by
              obtain ⟨a6, c6, e6, -, h6⟩ := HA.out.form
              cases e6
              have := (h6 x hx).2
              omega)
            have HGV := Lib.hid (show ∀ x, va = some x → x.block ≠ w2.heap.size from fun x hx => by
              obtain ⟨a6, c6, e6, -, h6⟩ := HV.out.form
              cases e6
              have := (h6 x hx).2
              omega)
            have hg2 := Lib.hid HB.out.size
            have HS := Lib.hid h1
            have HX := Lib.hid (HX.out.below h3)
            have HA := Lib.hid (HA.out.below h3)
            have HV := Lib.hid (HV.out.below h3)
            have HB := Lib.hid (HB.out.trans (h3.mono HB.out.size))
            have hc1 := convB (HX.out.bts (hashN_lt bt _))
            have hc2 := convB (HV.out.reads.bts (hashN_lt bt _))
            clear h1 h3
            generalize w2.heap.size = g at *
            go_wp2_with fail
            clear hc1 hc2
            have HG3 := Lib.hid (show w3.grownBy w3 (some g) from ⟨rfl, rfl, rfl, Nat.le_refl _, fun _ _ _ => rfl⟩)
            go_loopw [13, 83] (fun kv iv wq => ∃ i k : Nat, kv = .int .i64 (k : Int) ∧ iv = .int .i64 (i : Int) ∧ i ≤ n ∧ k ≤ 1500 ∧ Hid (k = (flatN R i).length ∧ StateOf wq g bt (flatN R i) ∧ w3.grownBy wq (some g))) (fun _ iv _ => n - (intOf iv).toNat)
            case atStart => exact ⟨0, 0, rfl, rfl, Nat.zero_le _, by decide, rfl, HS.out, HG3.out⟩
            case round =>
              obtain ⟨i2, k, rfl, rfl, hi2, hk, hI⟩ := hrel
              by_cases hlt2 : i2 < n
              · have tn2 : decide (i2 < n) = true := by simp; omega
                have HKL := Lib.hid hI.out.1
                have HST := Lib.hid hI.out.2.1
                have HG := Lib.hid hI.out.2.2
                have HBW := Lib.hid (HB.out.grown HG.out HB.out.size (fun r e => by cases e; exact hg2.out))
                clear hI
                obtain ⟨b, off, rfl, hbk, hc⟩ := HR.out.cells (by omega)
                have hci0 := hc i2 hlt2
                have he := HR.out.each i2 hlt2
                have HEL := Lib.hid (show flatN R (i2 + 1) = flatN R i2 ++ (R i2).2.2.2 from rfl)
                obtain ⟨⟨ra, rl, rc, l⟩, hri⟩ : ∃ r, r = R i2 := ⟨_, rfl⟩
                rw [← hri] at hci0 he HEL
                dsimp only at hci0 he HEL
                have HCI := Lib.hid hci0
                have HE := Lib.hid he
                have hrl := he.2.2
                have HRL := Lib.hid (show l.length = rl from he.1.length)
                obtain ⟨tl, htl⟩ := flatN_le R (show i2 + 1 ≤ n by omega)
                have hk1500 : k + rl ≤ 1500 := by
                  have h1 := HML.out
                  have h2 := HKL.out
                  rw [htl, HEL.out, List.length_append, List.length_append, HRL.out, ← h2] at h1
                  omega
                have HTL := Lib.hid htl
                have hbkh := Lib.hid hbk
                have hci := (World.cell?_of_block (a := ⟨b, off + i2, none⟩) (HBW.out.block b hbk)).trans hci0
                have hbwr : b < wr.heap.size := Nat.lt_of_lt_of_le hbk HBW.out.size
                have hci5 := (World.cell?_of_block (a := ⟨b, off + i2, none⟩) (((Below.refl wr.heap.size wr).alloc (Nat.le_refl _) (.cells #[] 5)).block b hbwr)).trans hci
                have HBWR := Lib.hid hbwr
                clear hc he hri htl hbk hci0 hbwr
                go_wp2_with (at_builtin; refine wpList_append_q .u8 _ rfl _ _ 23 rfl wr.heap.size 5 1 i0 Try.underlying23 hi0 hz0 hz1 hz2 (by decide) _ [] rfl (OwnQ.empty .u8 wr _ _ (Nat.le_refl _)) ra rl rc l rfl ((HE.out.1.below HBW.out).below ((Below.refl _ _).alloc (Nat.le_refl _) _)) (by simp; omega) (by simp) ?_; intro v5 w5 hown hgrow; rw [List.nil_append] at hown; obtain ⟨oa, on, oc, rfl, hon, ho5⟩ := own_sl hown; have HO5 := Lib.hid ho5; have HON := Lib.hid (show on = rl by rw [hon, HRL.out]); have HB5 := Lib.hid (hgrow wr ((Below.refl _ _).alloc (Nat.le_refl _) _)); clear hown hgrow hon ho5)
                clear hci5
                have HOL := Lib.hid (show Byt l from HE.out.2.1)
                have HOG := Lib.hid (show ∀ x, oa = some x → g < x.block by
                  intro x hx
                  obtain ⟨a6, c6, e6, -, h6⟩ := HO5.out.form
                  cases e6
                  have := (h6 x hx).1
                  have := HST.out.lt
                  omega)
                have HS5 := Lib.hid (HST.out.below HB5.out HST.out.lt)
                have HG5 := Lib.hid (grown_trans HG.out (grown_below HB5.out (some g)))
                go_wp2_with fail
                refine (write_any g bt (flatN R i2) l oa on oc w5 HS5.out hbt0 HO5.out.reads HOL.out (by have := HKL.out; have := HON.out; omega) (fun _ x hx => Nat.ne_of_gt (HOG.out x hx))).mono ?_
                rintro e w6 ⟨rfl, hs6, hg6⟩
                rw [← HEL.out] at hs6
                have HS6 := Lib.hid hs6
                have HO6 := Lib.hid (HO5.out.keptG hg6 (fun x hx => Nat.ne_of_gt (HOG.out x hx)))
                have HG6 := Lib.hid (grown_trans HG5.out hg6)
                have HBW6 := Lib.hid (HB.out.grown HG6.out HB.out.size (fun r e => by cases e; exact hg2.out))
                have hci6 := (World.cell?_of_block (a := ⟨b, off + i2, none⟩) (HBW6.out.block b hbkh.out)).trans HCI.out
                have hcv1 := convB ((HO6.out.reads.bts HOL.out).below (Below.refl _ _).drew)
                have hcv2 := convB (((HE.out.1.below HBW6.out).bts HOL.out).below (Below.refl _ _).drew)
                clear hs6 hg6 hci
                go_wp2_with fail
                go_region
                clear hcv1 hcv2 hci6
                have HS6 := Lib.hid (HS6.out.below (Below.refl _ _).drew HS6.out.lt)
                have HO6 := Lib.hid (show OwnQ .u8 5 wr.heap.size w6.drew (.slice oa on oc) l from HO6.out)
                have HG6 := Lib.hid (grown_drew HG6.out)
                generalize w6.drew = w7 at *
                have hoc : on ≤ oc := HO6.out.reads.le
                have hon5 : on ≤ 1500 := by have := HON.out; omega
                have HGS := Lib.hid HG.out.size
                generalize wr.heap.size = B5 at *
                go_wp2_with fail
                go_loopw [105] (fun qv wq => ∃ q : Nat, qv = .int .i64 (q : Int) ∧ q ≤ on ∧ Hid (∃ l', OwnQ .u8 5 B5 wq (.slice oa on oc) l' ∧ Byt l' ∧ l'.length = on ∧ StateOf wq g bt (flatN R (i2 + 1)) ∧ w3.grownBy wq (some g))) (fun qv _ => on - (intOf qv).toNat)
                case atStart => exact ⟨0, rfl, Nat.zero_le _, l, HO6.out, HOL.out, by rw [HRL.out, HON.out], HS6.out, HG6.out⟩
                case round =>
                  obtain ⟨q, rfl, hq, hI⟩ := hrel
                  obtain ⟨l', ho, hby, hll, hst, hgr⟩ := hI.out
                  by_cases hlt3 : q < on
                  · have tq : decide (q < on) = true := by simp; omega
                    obtain ⟨ob, oc', hov⟩ := ho.succ (by intro e; rw [e] at hll; simp at hll; omega)
                    cases hov
                    have hob := HOG.out _ rfl
                    have hob5 := (ho.lt ob rfl).1
                    have cq := ho.cellAt rfl q (by omega)
                    have fq := ho.frozenAt rfl q
                    have lx : g0 l' q < 256 := g0_lt hby (by decide) q
                    obtain ⟨x, hx⟩ : ∃ x, x = g0 l' q := ⟨_, rfl⟩
                    rw [show l'[q]?.getD 0 = x from hx.symm] at cq
                    rw [← hx] at lx
                    obtain ⟨y, hy⟩ : ∃ y, y = (x + 1) % 256 := ⟨_, rfl⟩
                    have hyi : ((x : Int) + 1) % 256 = (y : Int) := by omega
                    have hy2 : y < 256 := by omega
                    have HST2 := Lib.hid (ho.stored rfl q y (y : Int) rfl)
                    have HBY2 := Lib.hid (set_lt hby q y hy2)
                    have hgs := grown_set (x := wr) (y := wr) (g := ob) ⟨rfl, rfl, rfl, Nat.le_refl _, fun _ _ _ => rfl⟩ q (.int .u8 (y : Int))
                    have HSK := Lib.hid (hst.kept hgs (Nat.ne_of_lt hob))
                    have HGK := Lib.hid (grown_past hgr hgs (fun r e => by cases e; have := HGS.out; omega))
                    have HLL := Lib.hid hll
                    have hyw : IntKind.u8.wrap ((x : Int) + 1) = (y : Int) := by simp [IntKind.wrap, IntKind.bits, IntKind.signed]; omega
                    clear ho hby hst hgr hgs hx hy hI hll
                    go_wp2
                    go_roundw
                    case rel => exact ⟨q + 1, by go_num, by omega, _, HST2.out.1, HBY2.out, by rw [List.length_set], HSK.out, HGK.out⟩
                    case measure => simp [intOf] <;> omega
                  · have tq : decide (q < on) = false := by simp; omega
                    have HS7 := Lib.hid hst
                    have HG7 := Lib.hid hgr
                    obtain ⟨k2, hk2⟩ : ∃ z, z = k + on := ⟨_, rfl⟩
                    have hk2i : (k : Int) + (on : Int) = (k2 : Int) := by omega
                    have hk2b : k2 ≤ 1500 := by have := HON.out; omega
                    have HK2 := Lib.hid (show k2 = (flatN R (i2 + 1)).length by rw [HEL.out, List.length_append, HRL.out, hk2, HON.out, HKL.out])
                    have hmm : k2 ≤ m := by
                      have h1 := HML.out
                      rw [HTL.out, List.length_append, ← HK2.out] at h1
                      omega
                    have hmc : m ≤ c' := HA.out.reads.le
                    clear ho hby hll hst hgr hI hlt3 hq hk2
                    go_wp2_with fail
                    refine (sum_own g bt (flatN R (i2 + 1)) wr HS7.out HBT.out).mono ?_
                    rintro e w8 ⟨⟨h1, c1, rfl, ho8⟩, hb8⟩
                    rw [← HQE.out] at ho8 ⊢
                    have HRA := Lib.hid (HA.out.reads.grownNe HG7.out (fun _ x hx => fun e => HGA.out x hx (Option.some.inj e)))
                    have HO8 := Lib.hid ho8
                    have HS8 := Lib.hid (HS7.out.below hb8 HS7.out.lt)
                    have HG8 := Lib.hid (grown_trans HG7.out (grown_below hb8 (some g)))
                    have hra := (HRA.out.below hb8).upto k2 hmm
                    rw [HTL.out, HK2.out, List.take_left, ← HK2.out] at hra
                    have HR8 := Lib.hid hra
                    have hg8 := Lib.hid hb8.size
                    clear ho8 hb8 hra
                    go_wp2_with fail
                    refine (ref_hash bt HBT.out a' k2 c' (flatN R (i2 + 1)) w8 HR8.out (flatN_byt HR.out _ (by omega)) (by omega)).mono ?_
                    rintro e w9 ⟨⟨v9, rfl, ho9⟩, hb9⟩
                    obtain ⟨ya, yn, yc, rfl, hyn, ho9⟩ := own_sl ho9
                    have hcx := convB ((HO8.out.below hb9).reads.bts (hashN_lt bt _))
                    have hcy := convB (ho9.reads.bts (hashN_lt bt _))
                    have HO9 := Lib.hid (HO8.out.below hb9)
                    have HS9 := Lib.hid (HS8.out.below hb9 HS8.out.lt)
                    have HG9 := Lib.hid (grown_trans HG8.out (grown_below hb9 (some g)))
                    have hgB := Lib.hid HS7.out.lt
                    have h3B := Lib.hid HG7.out.size
                    obtain ⟨ws9, tl9, hst9, -⟩ := HS9.out
                    rw [← HK2.out] at hst9
                    have HST9 := Lib.hid hst9
                    generalize wr.heap.size = B8 at *
                    clear hb9 ho9 hyn hst9 HO8 HS8 HG8 HS7 HG7 HR8 hg8
                    go_wp2_with fail
                    refine (len_any g bt ws9 tl9 k2 w9 HST9.out hbt0).mono ?_
                    rintro e wz ⟨rfl, rfl⟩
                    go_wp2_with fail
                    clear hcx hcy
                    go_loopw [154] (fun qv wq => ∃ q : Nat, qv = .int .i64 (q : Int) ∧ q ≤ q8 ∧ Hid (∃ l', OwnQ .u8 5 B8 wq (.slice (some ⟨h1, 0, none⟩) q8 c1) l' ∧ Byt l' ∧ l'.length = q8 ∧ StateOf wq g bt (flatN R (i2 + 1)) ∧ w3.grownBy wq (some g))) (fun qv _ => q8 - (intOf qv).toNat)
                    case atStart => exact ⟨0, rfl, Nat.zero_le _, _, HO9.out, hashN_lt bt _, by rw [hashN_len _ HBT.out, HQE.out], HS9.out, HG9.out⟩
                    case round =>
                      obtain ⟨q2, rfl, hq2, hI⟩ := hrel
                      obtain ⟨l2, ho, hby, hll, hst, hgr⟩ := hI.out
                      by_cases hlt4 : q2 < q8
                      · have tq4 : decide (q2 < q8) = true := by simp; omega
                        have hob5 := (ho.lt h1 rfl).1
                        have cq := ho.cellAt hll.symm q2 hlt4
                        have fq := ho.frozenAt hll.symm q2
                        have lx : g0 l2 q2 < 256 := g0_lt hby (by decide) q2
                        obtain ⟨x, hx⟩ : ∃ x, x = g0 l2 q2 := ⟨_, rfl⟩
                        rw [show l2[q2]?.getD 0 = x from hx.symm] at cq
                        rw [← hx] at lx
                        obtain ⟨y, hy⟩ : ∃ y, y = (x + 1) % 256 := ⟨_, rfl⟩
                        have hyi : ((x : Int) + 1) % 256 = (y : Int) := by omega
                        have hy2 : y < 256 := by omega
                        have hyw : IntKind.u8.wrap ((x : Int) + 1) = (y : Int) := by simp [IntKind.wrap, IntKind.bits, IntKind.signed]; omega
                        have HST2 := Lib.hid (ho.stored hll.symm q2 y (y : Int) rfl)
                        have HBY2 := Lib.hid (set_lt hby q2 y hy2)
                        have hgs := grown_set (x := wr) (y := wr) (g := h1) ⟨rfl, rfl, rfl, Nat.le_refl _, fun _ _ _ => rfl⟩ q2 (.int .u8 (y : Int))
                        have HSK := Lib.hid (hst.kept hgs (by have := hgB.out; omega))
                        have HGK := Lib.hid (grown_past hgr hgs (fun r e => by cases e; have := h3B.out; omega))
                        have HLL := Lib.hid hll
                        clear ho hby hst hgr hgs hx hy hI hll
                        go_wp2
                        go_roundw
                        case rel => exact ⟨q2 + 1, by go_num, by omega, _, HST2.out.1, HBY2.out, by rw [List.length_set]; exact HLL.out, HSK.out, HGK.out⟩
                        case measure => simp [intOf] <;> omega
                      · have tq4 : decide (q2 < q8) = false := by simp; omega
                        have HSF := Lib.hid hst
                        have HGF := Lib.hid hgr
                        clear ho hby hll hst hgr hI hlt4 hq2
                        go_wp2
                        go_roundw
                        case rel => exact ⟨i2 + 1, k2, rfl, by go_num, by omega, hk2b, HK2.out, HSF.out, HGF.out⟩
                        case measure => simp [intOf] <;> omega
              · have hin2 : i2 = n := by omega
                have tn2 : decide (i2 < n) = false := by simp; omega
                have HSE := Lib.hid (show StateOf wr g bt (flatN R n) by have := hI.out.2.1; rw [hin2] at this; exact this)
                have HGE := Lib.hid hI.out.2.2
                clear hI hin2 hlt2 hi2
                go_wp2_with fail
                refine (sum_own g bt (flatN R n) wr HSE.out HBT.out).mono ?_
                rintro e w8 ⟨⟨h1, c1, rfl, ho8⟩, hb8⟩
                rw [← HQE.out] at ho8 ⊢
                have HBF := Lib.hid ((HB.out.grown HGE.out HB.out.size (fun r e => by cases e; exact hg2.out)).trans (hb8.mono (by have := HB.out.size; have := HGE.out.size; omega)))
                have hcx := convB (ho8.reads.bts (hashN_lt bt _))
                have hcy := convB (((HV.out.reads.grownNe HGE.out (fun _ x hx => fun e => HGV.out x hx (Option.some.inj e))).below hb8).bts (hashN_lt bt _))
                go_wp2
                go_ret
                exact ⟨by simp, HBF.out⟩
          · have HN := Lib.hid (show bits ≠ 384 ∧ bits ≠ 512 by omega)
            clear hbt
            have hcn := convB (Bts.none wr)
            go_wp2_with fail
            refine (of_no bits HN.out _ _ _ wr).mono ?_
            rintro e w1 ⟨rfl, rfl⟩
            go_wp2_with fail
            refine (ref_no bits HN.out _ _ _ wr).mono ?_
            rintro e w1 ⟨rfl, rfl⟩
            go_wp2_with fail
            refine (new_no bits HN.out wr).mono ?_
            rintro e w1 ⟨rfl, rfl⟩
            go_wp2
            go_ret
            exact ⟨rfl, HB.out⟩

end Go.Proofs.Ytpfdehjllnhllaa
