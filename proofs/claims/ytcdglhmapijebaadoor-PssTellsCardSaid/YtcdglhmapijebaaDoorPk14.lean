/-
  Texts of ours, one behind the other: Qb2b Qk3 Rm1 Rp1 PsA Rp2 Rp3 PsO Rp4
-/
import Derived.Test.YtcdglhmapijebaaDoorPk4
import Derived.Test.YtcdglhmapijebaaDoorPk5
import Derived.Test.YtcdglhmapijebaaDoorPk7
import Derived.Test.YtcdglhmapijebaaDoorPk11
import Derived.Test.YtcdglhmapijebaaDoorPk12
import Derived.Test.YtcdglhmapijebaaDoorPk13
import Derived.Maps.AppendAt
import Derived.BigQuiet
import Derived.Deep.RegionHeld
import Derived.OrdersHeld
set_option linter.unusedVariables false
set_option linter.unusedSimpArgs false

namespace Go.Proofs.YtcdglhmapijebaaDoor.L5
open Go.RowKit Go.Shelf

end Go.Proofs.YtcdglhmapijebaaDoor.L5

namespace Go.Proofs.YtcdglhmapijebaaDoor.L5
open Go.RowKit Go.Shelf

theorem ref_hash (bt : Nat) (hbt : bt = 384 ∨ bt = 512) (a : Option Addr) (n c : Nat) (bl : List Nat) (w : World) (hr : Reads .u8 w a n c bl) (hb : ∀ x ∈ bl, x < 256) (hn : n ≤ 9000) :
    Calls Tryd.prog 41 #[.int .i64 (bt : Int), .slice a n c] w fun e w' => (∃ v, e = .returned (.tuple #[v, .int .i64 0]) ∧ OwnQ .u8 5 w.heap.size w' v (hashN bt bl)) ∧ Below w.heap.size w w' := by
  rcases hbt with rfl | rfl
  · exact ref_of384 a n c bl w hr hb hn
  · exact ref_of512 a n c bl w hr hb hn
/-- Rows that came in. -/
structure RowsIn (w : World) (a : Option Addr) (n cap : Nat) (R : Nat → Option Addr × Nat × Nat × List Nat) : Prop where
  le : n ≤ cap
  max : cap ≤ maxLen
  each : ∀ i, i < n → Reads .u8 w (R i).1 (R i).2.1 (R i).2.2.1 (R i).2.2.2 ∧ Byt (R i).2.2.2 ∧ (R i).2.1 ≤ 1048576
  cells : 0 < n → ∃ b off, a = some ⟨b, off, none⟩ ∧ b < w.heap.size ∧ ∀ i, i < n → w.cell? ⟨b, off + i, none⟩ = some (.slice (R i).1 (R i).2.1 (R i).2.2.1)
def flatN (R : Nat → Option Addr × Nat × Nat × List Nat) : Nat → List Nat
  | 0 => []
  | i + 1 => flatN R i ++ (R i).2.2.2
end Go.Proofs.YtcdglhmapijebaaDoor.L5

namespace Go.Proofs.YtcdglhmapijebaaDoor
open Go.RowKit
set_option maxRecDepth 100000

set_option maxHeartbeats 2000000 in
theorem rjoin_any (l : Option Addr) (n c : Nat) (R : Nat → Option Addr × Nat × Nat × List Nat) (w : World) (hR : RowsM w l n R) (hn : n ≤ 1000) :
    Calls Tryd.prog 24 #[.slice l n c] w fun e w' => (∃ v, e = .returned v ∧ OwnQ .u8 5 w.heap.size w' v (flatM R n)) ∧ Below w.heap.size w w' := by
  obtain ⟨i0, hi, hz0, hz1, hz2⟩ := info_parts infoMk
  have HR := Lib.hid hR
  clear hR
  go_enter Tryd.func24, Tryd.ntmps24
  go_wp2_with fail
  go_loopw [3, 4] (fun o i wq => ∃ k : Nat, i = .int .i64 (k : Int) ∧ k ≤ n ∧ Hid (OwnQ .u8 5 w.heap.size wq o (flatM R k) ∧ Below w.heap.size w wq)) (fun _ i _ => n - (intOf i).toNat)
  case atStart => exact ⟨0, rfl, Nat.zero_le _, OwnQ.nil _ _ _ _, Below.refl _ _⟩
  case round =>
    obtain ⟨k, rfl, hk, hI⟩ := hrel
    by_cases hlt : k < n
    · obtain ⟨b, off, rfl, hbl, hcl⟩ := HR.out.cells (by omega)
      have hRk := HR.out.each k hlt
      have hfl := flatM_len HR.out k hk
      have hcell := (hI.out.2.cell (p := ⟨b, off + k, none⟩) hbl).trans (hcl k hlt)
      have HRK := Lib.hid (hRk.1.below hI.out.2)
      have hrl := hRk.2.2
      have hsz := hI.out.2.size
      have tl : decide ((k : Int) < (n : Int)) = true := by simp; omega
      clear hRk hcl
      go_wp2_with (at_builtin; refine wpList_append_q1 .u8 _ rfl _ _ 22 rfl w.heap.size 5 i0 Tryd.underlying22 hi hz0 hz1 hz2 _ (flatM R k) rfl hI.out.1 (R k).1 (R k).2.1 (R k).2.2.1 (R k).2.2.2 rfl HRK.out (by omega) hsz ?_; intro v2 w2 hown hgrow; have HO := Lib.hid hown; have HB := Lib.hid (hgrow w hI.out.2); clear hown hgrow)
      go_roundw
      case rel => exact ⟨k + 1, by go_num, by omega, HO.out, HB.out⟩
      case measure => simp [intOf]; omega
    · obtain rfl : k = n := by omega
      have tl : decide ((k : Int) < (k : Int)) = false := by simp
      go_wp2
      go_ret
      exact ⟨⟨_, rfl, hI.out.1⟩, hI.out.2⟩

theorem rsum_yes (h : Nat) (hh : IsHash h) (a : Option Addr) (n c : Nat) (bl : List Nat) (w : World) (hr : Reads .u8 w a n c bl) (hb : Byt bl) (hn : n ≤ 9000) :
    Calls Tryd.prog 35 #[.int .i64 (h : Int), .slice a n c] w fun e w' => (∃ v, e = .returned (.tuple #[v, .int .i64 0]) ∧ OwnQ .u8 5 w.heap.size w' v (mHash h bl)) ∧ Below w.heap.size w w' := by
  have HS := Lib.hid (rSize_yes hh)
  rcases hh with rfl | rfl | rfl | rfl
  · go_enter Tryd.func35, Tryd.ntmps35
    go_wp2_with fail
    refine (rsize_any 1 w).mono ?_
    rintro e w1 ⟨rfl, rfl⟩
    rw [show rSize 1 = 28 from HS.out]
    go_wp2_with fail
    refine (ref_hash 224 (.inl rfl) a n c bl w hr hb hn).mono ?_
    rintro e w1 ⟨⟨v, rfl, ho⟩, hb⟩
    go_wp2
    go_ret2
    exact ⟨⟨v, rfl, ho⟩, hb⟩
  · go_enter Tryd.func35, Tryd.ntmps35
    go_wp2_with fail
    refine (rsize_any 2 w).mono ?_
    rintro e w1 ⟨rfl, rfl⟩
    rw [show rSize 2 = 32 from HS.out]
    go_wp2_with fail
    refine (ref_hash 256 (.inr rfl) a n c bl w hr hb hn).mono ?_
    rintro e w1 ⟨⟨v, rfl, ho⟩, hb⟩
    go_wp2
    go_ret2
    exact ⟨⟨v, rfl, ho⟩, hb⟩
  · go_enter Tryd.func35, Tryd.ntmps35
    go_wp2_with fail
    refine (rsize_any 3 w).mono ?_
    rintro e w1 ⟨rfl, rfl⟩
    rw [show rSize 3 = 48 from HS.out]
    go_wp2_with fail
    refine (L5.ref_hash 384 (.inl rfl) a n c bl w hr hb hn).mono ?_
    rintro e w1 ⟨⟨v, rfl, ho⟩, hb⟩
    go_wp2
    go_ret2
    exact ⟨⟨v, rfl, ho⟩, hb⟩
  · go_enter Tryd.func35, Tryd.ntmps35
    go_wp2_with fail
    refine (rsize_any 4 w).mono ?_
    rintro e w1 ⟨rfl, rfl⟩
    rw [show rSize 4 = 64 from HS.out]
    go_wp2_with fail
    refine (L5.ref_hash 512 (.inr rfl) a n c bl w hr hb hn).mono ?_
    rintro e w1 ⟨⟨v, rfl, ho⟩, hb⟩
    go_wp2
    go_ret2
    exact ⟨⟨v, rfl, ho⟩, hb⟩
/-- The two rows that a piece is of. -/
def rowsR (a : Option Addr) (n c : Nat) (seed : List Nat) (g : Nat) (k : Nat) : Nat → Option Addr × Nat × Nat × List Nat
  | 0 => (a, n, c, seed)
  | _ => (some ⟨g, 0, none⟩, 4, 4, [0, 0, k / 256, k % 256])

set_option maxHeartbeats 4000000 in
theorem rmask_yes (h : Nat) (hh : IsHash h) (a : Option Addr) (n c : Nat) (seed : List Nat) (size : Nat) (w : World) (hr : Reads .u8 w a n c seed) (hb : Byt seed) (hn : n ≤ 8000) (hs : size ≤ 50000) :
    Calls Tryd.prog 36 #[.int .i64 (h : Int), .slice a n c, .int .i64 (size : Int)] w fun e w' => (∃ v, e = .returned (.tuple #[v, .int .i64 0]) ∧ OwnQ .u8 5 w.heap.size w' v (maskN h seed size)) ∧ Below w.heap.size w w' := by
  obtain ⟨i0, hi, hz0, hz1, hz2⟩ := info_parts infoMk
  have HR := Lib.hid hr
  have HRL := Lib.hid hr.length
  have HBY := Lib.hid hb
  have HH := Lib.hid hh
  have hsz := mSize_le hh
  obtain ⟨S, hS⟩ : ∃ S, mSize h = S := ⟨_, rfl⟩
  have HS := Lib.hid ((rSize_yes hh).trans (by rw [hS]))
  have HSS := Lib.hid hS
  rw [hS] at hsz
  have hS0 : ((S : Int) == 0) = false := by simp; omega
  clear hr hb hh hS
  go_enter Tryd.func36, Tryd.ntmps36
  go_wp2_with fail
  refine (rsize_any h w).mono ?_
  rintro e w1 ⟨rfl, rfl⟩
  rw [HS.out]
  go_wp2_with fail
  go_loopw [8, 9] (fun o i wq => ∃ (k m c' : Nat) (a' : Option Addr), i = .int .i64 (k : Int) ∧ o = .slice a' m c' ∧ m ≤ size ∧ k ≤ 2000 ∧ Hid (k * S < size + S ∧ m = min (k * S) size ∧ OwnQ .u8 5 w.heap.size wq o ((maskAll h seed k).take size) ∧ Below w.heap.size w wq)) (fun o _ _ => size - lenM o)
  case atStart => exact ⟨0, 0, 0, none, rfl, rfl, Nat.zero_le _, by omega, by omega, by simp, (by rw [maskAll, List.take_nil]; exact OwnQ.nil _ _ _ _), Below.refl _ _⟩
  case round =>
    obtain ⟨wq, hwq⟩ : ∃ x, x = wr := ⟨_, rfl⟩
    subst hwq
    obtain ⟨k, m, c', a', rfl, rfl, hms, hk2, hI⟩ := hrel
    by_cases hlt : m < size
    · have tl : decide ((m : Int) < (size : Int)) = true := by simp; omega
      have hkS : k * S < size := by have := hI.out.2.1; omega
      have hk3 : k ≤ 1999 := by
        have h1 : k * 28 ≤ k * S := Nat.mul_le_mul_left k hsz.1
        omega
      have HMK := Lib.hid (show m = k * S by have := hI.out.2.1; omega)
      have HO := Lib.hid (show OwnQ .u8 5 w.heap.size wq (.slice a' m c') (maskAll h seed k) from by
        have h1 := hI.out.2.2.1
        rwa [List.take_of_length_le (by rw [maskAll_len HH.out, HSS.out]; omega)] at h1)
      have HBq := Lib.hid hI.out.2.2.2
      obtain ⟨k1, hk1⟩ : ∃ k1, k / 256 = k1 := ⟨_, rfl⟩
      obtain ⟨k0, hk0⟩ : ∃ k0, k % 256 = k0 := ⟨_, rfl⟩
      have d1 : Int.tdiv (k : Int) 256 = (k1 : Int) := by rw [Int.tdiv_eq_ediv_of_nonneg (by omega)]; omega
      have d0 : Int.tmod (k : Int) 256 = (k0 : Int) := by rw [Int.tmod_eq_emod_of_nonneg (by omega)]; omega
      have hk1b : k1 < 256 := by omega
      have hk0b : k0 < 256 := by omega
      have HKK := Lib.hid (And.intro hk1 hk0)
      have hRows : ∀ (W : World), Below w.heap.size w W → RowsM ((W.alloc (.cells #[.int .u8 0, .int .u8 0, .int .u8 (k1 : Int), .int .u8 (k0 : Int)] 5)).alloc (.cells #[.slice a n c, .slice (some ⟨W.heap.size, 0, none⟩) 4 4] 22)) (some ⟨W.heap.size + 1, 0, none⟩) 2 (rowsR a n c seed W.heap.size k) := fun W hbW => by
        refine ⟨fun i hi => ?_, fun _ => ⟨_, 0, rfl, by simp, fun i hi => ?_⟩⟩
        · rcases (show i = 0 ∨ i = 1 by omega) with rfl | rfl
          · exact ⟨HR.out.below ((hbW.alloc hbW.size _).alloc (by have := hbW.size; simp; omega) _), HBY.out, show n ≤ 1048576 by omega⟩
          · refine ⟨?_, fun x hx => ?_, (by decide : 4 ≤ 1048576)⟩
            · exact (OwnQ.litM .u8 W 5 W.heap.size (Nat.le_refl _) [0, 0, k / 256, k % 256] _ 4 (by simp [num, HKK.out.1, HKK.out.2]) rfl (by simp [maxLen])).reads.below ((Below.refl _ _).alloc (Nat.le_refl _) _)
            · have : x = 0 ∨ x = k / 256 ∨ x = k % 256 := by simpa [rowsR] using hx
              rcases this with rfl | rfl | rfl <;> omega
        · have hsz2 : (W.alloc (.cells #[.int .u8 0, .int .u8 0, .int .u8 (k1 : Int), .int .u8 (k0 : Int)] 5)).heap.size = W.heap.size + 1 := World.size_alloc _ _
          have hq := World.alloc_heap_new (W.alloc (.cells #[.int .u8 0, .int .u8 0, .int .u8 (k1 : Int), .int .u8 (k0 : Int)] 5)) (.cells #[.slice a n c, .slice (some ⟨W.heap.size, 0, none⟩) 4 4] 22)
          rw [hsz2] at hq
          rw [Nat.zero_add, cellM hq]
          rcases (show i = 0 ∨ i = 1 by omega) with rfl | rfl <;> rfl
      have HRows := Lib.hid (hRows wq HBq.out)
      have HBal := Lib.hid ((HBq.out.alloc HBq.out.size (.cells #[.int .u8 0, .int .u8 0, .int .u8 (k1 : Int), .int .u8 (k0 : Int)] 5)).alloc (by have := HBq.out.size; simp; omega) (.cells #[.slice a n c, .slice (some ⟨wq.heap.size, 0, none⟩) 4 4] 22))
      have HBo := Lib.hid (((Below.refl wq.heap.size wq).alloc (Nat.le_refl _) (.cells #[.int .u8 0, .int .u8 0, .int .u8 (k1 : Int), .int .u8 (k0 : Int)] 5)).alloc (by simp) (.cells #[.slice a n c, .slice (some ⟨wq.heap.size, 0, none⟩) 4 4] 22))
      have HCT := Lib.hid (And.intro (And.intro hI.out.1 hI.out.2.1) trivial)
      clear hRows hI hk1 hk0
      go_wp2_with fail
      refine (rjoin_any _ 2 2 _ _ HRows.out (by decide)).mono ?_
      rintro e w2 ⟨⟨v2, rfl, hv⟩, hb⟩
      obtain ⟨ja, jn, jc, rfl, hjn, hj⟩ := own_slM hv
      rw [show flatM (rowsR a n c seed wq.heap.size k) 2 = seed ++ be4 k from rfl] at hjn hj
      have hjn2 : jn ≤ 8004 := by rw [hjn, List.length_append, HRL.out]; show n + 4 ≤ 8004; omega
      have HJ := Lib.hid hj
      have HB2 := Lib.hid (HBal.out.trans (hb.mono HBal.out.size))
      have HBo2 := Lib.hid (HBo.out.trans (hb.mono HBo.out.size))
      have HJB := Lib.hid (show Byt (seed ++ be4 k) from fun x hx => by
        rcases List.mem_append.1 hx with hx | hx
        · exact HBY.out x hx
        · exact be4_byt (by omega) x hx)
      clear hv hj hb hjn HBal HBo HRows
      go_wp2_with fail
      refine (rsum_yes h HH.out ja jn jc (seed ++ be4 k) _ HJ.out.reads HJB.out (by omega)).mono ?_
      rintro e w3 ⟨⟨v3, rfl, hv⟩, hb⟩
      obtain ⟨pa, pn, pc, rfl, hpn, hp⟩ := own_slM hv
      rw [mHash_len HH.out, HSS.out] at hpn
      subst hpn
      obtain ⟨pg, pc', hpe⟩ := hp.succ (by intro e; have := hp.cap.1; rw [e] at this; simp at this; omega)
      obtain ⟨rfl, rfl⟩ : pa = some ⟨pg, 0, none⟩ ∧ pc = pc' := by
        have := hp.cap.1
        rw [← this] at hpe
        simpa using hpe
      have hpg : w2.heap.size ≤ pg ∧ pg < w3.heap.size := World.ownsRow.lt hp pg (by simp [Value.ownBlock])
      change OwnQ .u8 _ _ _ _ (pieceN h seed k) at hp
      have hPB : Byt (pieceN h seed k) := mHash_byt HH.out _
      have HPB := Lib.hid hPB
      have hPL : pn = (pieceN h seed k).length := hp.cap.1
      have HPL := Lib.hid hPL
      have HOw := HO.out
      have hob : ∀ g, (Value.slice a' m c').ownBlock = some g → g < wq.heap.size := fun g e => (World.ownsRow.lt HOw g e).2
      have HB3 := Lib.hid (HB2.out.trans (hb.mono HB2.out.size))
      have HO3 := Lib.hid ((HO.out.below HBo2.out).below hb)
      have HP := Lib.hid hp
      have hw23 : wq.heap.size ≤ w2.heap.size := HBo2.out.size
      have HNE := Lib.hid (show ∀ g, (Value.slice a' m c').ownBlock = some g → g ≠ pg from fun g e => by have := hob g e; omega)
      generalize hPC : pieceN h seed k = PC at *
      have HPC := Lib.hid hPC
      have HAL := Lib.hid (show (maskAll h seed k).length = k * pn by rw [maskAll_len HH.out, HSS.out])
      generalize hAll : maskAll h seed k = AL at *
      have HALL := Lib.hid hAll
      clear hPC hv hb hp hob hPB hPL hpe HO HB2 HBo2 HOw hAll hw23
      go_wp2_with fail
      go_loopw [8, 12] (fun o i wr => ∃ (j m' c2 : Nat) (a2 : Option Addr), i = .int .i64 (j : Int) ∧ o = .slice a2 m' c2 ∧ j ≤ pn ∧ m' ≤ size ∧ Hid (m' = k * pn + j ∧ OwnQ .u8 5 w.heap.size wr o (AL ++ PC.take j) ∧ OwnQ .u8 5 w2.heap.size wr (.slice (some ⟨pg, 0, none⟩) pn pc) PC ∧ Below w.heap.size w wr ∧ pg < wr.heap.size ∧ ∀ g, o.ownBlock = some g → g ≠ pg)) (fun _ i _ => pn - (intOf i).toNat)
      case atStart => exact ⟨0, m, c', a', rfl, rfl, Nat.zero_le _, hms, HMK.out, by rw [List.take_zero, List.append_nil]; exact HO3.out, HP.out, HB3.out, hpg.2, HNE.out⟩
      case round =>
        obtain ⟨j, m', c2, a2, rfl, rfl, hj, hm', hI0⟩ := hrel
        have HMJ := Lib.hid hI0.out.1
        have hI := Lib.hid hI0.out.2
        clear hI0
        by_cases hj2 : j < pn
        · have tj : decide ((j : Int) < (pn : Int)) = true := by simp; omega
          by_cases hm2 : m' < size
          · have tm : decide ((m' : Int) < (size : Int)) = true := by simp; omega
            obtain ⟨x, hx⟩ : ∃ x, PC[j]?.getD 0 = x := ⟨_, rfl⟩
            have hc := hI.out.2.1.cellAt HPL.out j hj2
            rw [hx] at hc
            have hln : m' = (AL ++ PC.take j).length := hI.out.1.cap.1
            have HLN := Lib.hid hln
            have hsz2 := hI.out.2.2.1.size
            have HX := Lib.hid hx
            clear hln hx
            go_wp2_with (at_builtin; refine wpList_append_own_at _ rfl _ _ 22 rfl w.heap.size 5 i0 (.int .u8 0) 1 1 Tryd.underlying22 hi hz0 hz1 hz2 rfl (by decide) (.slice a2 m' c2) (AL ++ PC.take j).length ((AL ++ PC.take j).map (num .u8)) rfl (hI.out.1.alloc _) ⟨wr.heap.size, 0, none⟩ 1 1 [.int .u8 (x : Int)] rfl rfl (cell_one_new _ _ _) (by simp [Value.oneCell']) (by rw [← HLN.out]; unfold maxLen; omega) (by rw [← HLN.out]; omega) (by simp; omega) ?_; intro v5 w5 hown hgrow _ hblk; have HOW := Lib.hid hown; have HGR := Lib.hid hgrow; have HBL := Lib.hid hblk; clear hown hgrow hblk)
            have hjl : j < PC.length := by rw [← HPL.out]; exact hj2
            have hte : AL ++ PC.take (j + 1) = AL ++ PC.take j ++ [x] := by
              rw [← List.take_append_getElem hjl, ← List.append_assoc]
              have := HX.out
              rw [List.getElem?_eq_getElem hjl, Option.getD_some] at this
              rw [this]
            have ho5 : OwnQ .u8 5 w.heap.size w5 v5 (AL ++ PC.take (j + 1)) := by
              rw [hte]
              unfold OwnQ
              rw [List.map_append, List.length_append]
              exact HOW.out
            obtain ⟨a5, n5, c5, rfl, hn5, ho5'⟩ := own_slM ho5
            rw [hte, List.length_append, ← HLN.out] at hn5
            have HN5 := Lib.hid (show n5 = m' + 1 from hn5)
            have hn5b : n5 ≤ size := by have := HN5.out; omega
            have HO5 := Lib.hid ho5'
            have hal := (hI.out.2.2.1).alloc hsz2 (.cells #[.int .u8 (x : Int)] 5)
            have HB5 := Lib.hid (hal.grown HGR.out hal.size (fun g hg => (World.ownsRow.lt hI.out.1 g hg).1))
            have HP5 := Lib.hid (show OwnQ .u8 5 w2.heap.size w5 (.slice (some ⟨pg, 0, none⟩) pn pc) PC from World.ownsRow.kept (hI.out.2.1.alloc _) HGR.out (.inr fun e => hI.out.2.2.2.2 pg (by rw [← e]; simp [Value.ownBlock]) rfl))
            have hpg5 : pg < w5.heap.size := Nat.lt_of_lt_of_le (Nat.lt_of_lt_of_le hI.out.2.2.2.1 (by simp)) HGR.out.size
            have HNE5 := Lib.hid (show ∀ g, (Value.slice a5 n5 c5).ownBlock = some g → g ≠ pg from fun g e => by
              rcases HBL.out with h | h
              · exact hI.out.2.2.2.2 g (by rw [← h]; exact e)
              · rw [h] at e
                have := hI.out.2.2.2.1
                simp at e
                omega)
            clear ho5 ho5' hal hte hn5
            go_roundw
            case rel => exact ⟨j + 1, n5, c5, a5, by go_num, rfl, by omega, hn5b, by (have := HMJ.out; have := HN5.out; omega), HO5.out, HP5.out, HB5.out, hpg5, HNE5.out⟩
            case measure => simp [intOf]; omega
          · have tm : decide ((m' : Int) < (size : Int)) = false := by simp; omega
            have HF := Lib.hid (show OwnQ .u8 5 w.heap.size wr (.slice a2 m' c2) ((maskAll h seed (k + 1)).take size) ∧ Below w.heap.size w wr from by
              refine ⟨?_, hI.out.2.2.1⟩
              have h1 := hI.out.1
              rwa [maskAll, HALL.out, show pieceN h seed k = PC from HPC.out, List.take_append, List.take_of_length_le (by rw [HAL.out]; omega), HAL.out, show size - k * pn = j by (have := HMJ.out; omega)])
            have HMIN := Lib.hid (show m' = min ((k + 1) * pn) size by rw [Nat.succ_mul]; have := HMJ.out; omega)
            have hks : (k + 1) * pn < size + pn := by rw [Nat.succ_mul]; omega
            clear hI
            go_wp2
            go_roundw
            case rel => exact ⟨k + 1, m', c2, a2, by go_num, rfl, hm', by omega, hks, HMIN.out, HF.out.1, HF.out.2⟩
            case measure => simp [lenM]; omega
        · have tj : decide ((j : Int) < (pn : Int)) = false := by simp; omega
          have HF := Lib.hid (show OwnQ .u8 5 w.heap.size wr (.slice a2 m' c2) ((maskAll h seed (k + 1)).take size) ∧ Below w.heap.size w wr from by
            refine ⟨?_, hI.out.2.2.1⟩
            have h1 := hI.out.1
            have hjp : j = pn := by omega
            rw [hjp, HPL.out, List.take_length] at h1
            rwa [maskAll, HALL.out, show pieceN h seed k = PC from HPC.out, List.take_of_length_le (by rw [List.length_append, HAL.out, ← HPL.out]; have := HMJ.out; omega)])
          have HMIN := Lib.hid (show m' = min ((k + 1) * pn) size by rw [Nat.succ_mul]; have := HMJ.out; omega)
          have hks : (k + 1) * pn < size + pn := by rw [Nat.succ_mul]; omega
          clear hI
          go_wp2
          go_roundw
          case rel => exact ⟨k + 1, m', c2, a2, by go_num, rfl, hm', by omega, hks, HMIN.out, HF.out.1, HF.out.2⟩
          case measure => have h1 := HMJ.out; have h2 := HMK.out; simp [lenM]; omega
    · have hms2 : m = size := by omega
      subst hms2
      have tl : decide ((m : Int) < (m : Int)) = false := by simp
      have HF := Lib.hid (show OwnQ .u8 5 w.heap.size wq (.slice a' m c') (maskN h seed m) ∧ Below w.heap.size w wq from by
        refine ⟨?_, hI.out.2.2.2⟩
        have h1 := hI.out.2.2.1
        have hkm : m ≤ k * S := by have := hI.out.2.1; omega
        unfold maskN
        rwa [maskAll_take HH.out seed (k := k) (m := m) (by rw [HSS.out]; exact hkm) (by rw [HSS.out]; exact Nat.le_mul_of_pos_right m (by omega))] at h1)
      clear hI
      go_wp2
      go_ret2
      exact ⟨⟨_, rfl, HF.out.1⟩, HF.out.2⟩
end Go.Proofs.YtcdglhmapijebaaDoor

namespace Go.Proofs.YtcdglhmapijebaaDoor
open Go.RowKit
set_option maxRecDepth 100000

theorem rlong_any (n : Nat) (hn : n ≤ 1000000000) (w : World) : Calls Tryd.prog 25 #[.int .i64 (n : Int)] w fun e w' => e = .returned (.int .i64 (lenP n : Int)) ∧ w = w' := by
  obtain ⟨q, hq⟩ : ∃ q, q = n / 8 := ⟨_, rfl⟩
  obtain ⟨r, hr⟩ : ∃ r, r = n % 8 := ⟨_, rfl⟩
  have d1 : Int.tdiv (n : Int) 8 = (q : Int) := by rw [Int.tdiv_eq_ediv_of_nonneg (by omega)]; omega
  have d2 : Int.tmod (n : Int) 8 = (r : Int) := by rw [Int.tmod_eq_emod_of_nonneg (by omega)]; omega
  by_cases h0 : r = 0
  · have HE := Lib.hid (show lenP n = q by unfold lenP; omega)
    have t1 : decide ((0 : Int) < (r : Int)) = false := decide_eq_false (by omega)
    have t2 : decide (0 < r) = false := decide_eq_false (by omega)
    have t3 : ¬ 0 < r := by omega
    have hq9 : q ≤ 1000000000 := by omega
    clear h0 hq hr
    go_enter Tryd.func25, Tryd.ntmps25
    go_wp2
    go_ret
    exact ⟨by rw [HE.out]; rfl, rfl⟩
  · have HE := Lib.hid (show lenP n = q + 1 by unfold lenP; omega)
    have t1 : decide ((0 : Int) < (r : Int)) = true := decide_eq_true (by omega)
    have t2 : decide (0 < r) = true := decide_eq_true (by omega)
    have t3 : 0 < r := by omega
    have hq9 : q ≤ 1000000000 := by omega
    clear h0 hq hr
    go_enter Tryd.func25, Tryd.ntmps25
    go_wp2
    go_ret
    exact ⟨by rw [HE.out]; rfl, rfl⟩

theorem rroom_any (h s b : Int) (s0 : -9223372036854775808 ≤ s) (s1 : s ≤ 9223372036854775807) (w : World) :
    Calls Tryd.prog 16 #[.int .i64 h, .int .i64 s, .int .i64 b] w fun e w' => (∃ v : Bool, e = .returned (.bool v) ∧ (v = true ↔ RoomP h s b)) ∧ w = w' := by
  by_cases hh : IsHash h.toNat
  · obtain ⟨g, rfl⟩ : ∃ g : Nat, h = (g : Int) := ⟨h.toNat, by rcases hh with e | e | e | e <;> omega⟩
    rw [Int.toNat_natCast] at hh
    have hsz := mSize_le hh
    have HS := Lib.hid (rSize_yes hh)
    have HP := Lib.hid (show RoomP (g : Int) s b ↔ 0 ≤ s ∧ 0 ≤ b ∧ b ≤ 524288 ∧ s + (mSize g : Int) + 2 ≤ (lenP b.toNat : Int) from ⟨fun k => by have := k.2; rwa [Int.toNat_natCast] at this, fun k => ⟨by rwa [Int.toNat_natCast], by rwa [Int.toNat_natCast]⟩⟩)
    generalize mSize g = S at *
    have u1 : decide ((0 : Int) < (S : Int)) = true := decide_eq_true (by omega)
    have u2 : decide (0 < S) = true := decide_eq_true (by omega)
    have no : ∀ v : Bool, v = false → ¬ (0 ≤ s ∧ 0 ≤ b ∧ b ≤ 524288 ∧ s + (S : Int) + 2 ≤ (lenP b.toNat : Int)) → (v = true ↔ RoomP (g : Int) s b) := fun v hv hn => by subst hv; exact ⟨fun e => Bool.noConfusion e, fun k => absurd (HP.out.1 k) hn⟩
    have NO : Hid (∀ v : Bool, v = false → ¬ (0 ≤ s ∧ 0 ≤ b ∧ b ≤ 524288 ∧ s + (S : Int) + 2 ≤ (lenP b.toNat : Int)) → (v = true ↔ RoomP (g : Int) s b)) := Lib.hid no
    clear no hh
    by_cases h1 : 0 ≤ s
    · have t1 : decide ((0 : Int) ≤ s) = true := decide_eq_true h1
      by_cases h2 : s ≤ 524288
      · have t2 : decide (s ≤ (524288 : Int)) = true := decide_eq_true h2
        by_cases h3 : 0 ≤ b
        · have t3 : decide ((0 : Int) ≤ b) = true := decide_eq_true h3
          by_cases h4 : b ≤ 524288
          · have t4 : decide (b ≤ (524288 : Int)) = true := decide_eq_true h4
            obtain ⟨n, rfl⟩ : ∃ n : Nat, b = (n : Int) := ⟨b.toNat, by omega⟩
            have HLG := Lib.hid (fun (W : World) => rlong_any n (by omega) W)
            have HPP := HP.out
            rw [Int.toNat_natCast] at HPP
            have hL : lenP n ≤ 100000 := by unfold lenP; omega
            generalize lenP n = L at *
            go_enter Tryd.func16, Tryd.ntmps16
            go_wp2_with fail
            refine (rsize_any (g : Int) _).mono ?_
            rintro e w1 ⟨rfl, rfl⟩
            rw [HS.out]
            go_wp2_with fail
            refine (HLG.out _).mono ?_
            rintro e w1 ⟨rfl, rfl⟩
            by_cases h5 : s + (S : Int) + 2 ≤ (L : Int)
            · have t5 : decide ((S : Int) + s + 2 ≤ (L : Int)) = true := decide_eq_true (by omega)
              have HF := Lib.hid (show RoomP (g : Int) s (n : Int) from HPP.2 ⟨h1, h3, h4, h5⟩)
              clear h5 HPP
              go_wp2
              go_ret
              exact ⟨⟨_, rfl, ⟨fun _ => HF.out, fun _ => rfl⟩⟩, rfl⟩
            · have t5 : decide ((S : Int) + s + 2 ≤ (L : Int)) = false := decide_eq_false (by omega)
              have HF := Lib.hid (show ¬ RoomP (g : Int) s (n : Int) from fun k => absurd (HPP.1 k).2.2.2 h5)
              clear h5 HPP
              go_wp2
              go_ret
              exact ⟨⟨_, rfl, ⟨fun e => Bool.noConfusion e, fun k => absurd k HF.out⟩⟩, rfl⟩
          · have t4 : decide (b ≤ (524288 : Int)) = false := decide_eq_false h4
            go_enter Tryd.func16, Tryd.ntmps16
            go_wp2_with fail
            refine (rsize_any (g : Int) _).mono ?_
            rintro e w1 ⟨rfl, rfl⟩
            rw [HS.out]
            go_wp2
            go_ret
            exact ⟨⟨_, rfl, NO.out _ rfl fun k => by have := k.2.2.1; omega⟩, rfl⟩
        · have t3 : decide ((0 : Int) ≤ b) = false := decide_eq_false h3
          go_enter Tryd.func16, Tryd.ntmps16
          go_wp2_with fail
          refine (rsize_any (g : Int) _).mono ?_
          rintro e w1 ⟨rfl, rfl⟩
          rw [HS.out]
          go_wp2
          go_ret
          exact ⟨⟨_, rfl, NO.out _ rfl fun k => by have := k.2.1; omega⟩, rfl⟩
      · have t2 : decide (s ≤ (524288 : Int)) = false := decide_eq_false h2
        go_enter Tryd.func16, Tryd.ntmps16
        go_wp2_with fail
        refine (rsize_any (g : Int) _).mono ?_
        rintro e w1 ⟨rfl, rfl⟩
        rw [HS.out]
        go_wp2
        go_ret
        exact ⟨⟨_, rfl, NO.out _ rfl fun k => by have h9 := k.2.2.2; have h8 := k.2.2.1; unfold lenP at h9; omega⟩, rfl⟩
    · have t1 : decide ((0 : Int) ≤ s) = false := decide_eq_false h1
      go_enter Tryd.func16, Tryd.ntmps16
      go_wp2_with fail
      refine (rsize_any (g : Int) _).mono ?_
      rintro e w1 ⟨rfl, rfl⟩
      rw [HS.out]
      go_wp2
      go_ret
      exact ⟨⟨_, rfl, NO.out _ rfl fun k => by have := k.1; omega⟩, rfl⟩
  · have HS := Lib.hid (rSize_no hh)
    have HF := Lib.hid (show ¬ RoomP h s b from fun k => absurd k.1 hh)
    clear hh
    go_enter Tryd.func16, Tryd.ntmps16
    go_wp2_with fail
    refine (rsize_any h w).mono ?_
    rintro e w1 ⟨rfl, rfl⟩
    rw [HS.out]
    go_wp2
    go_ret
    exact ⟨⟨_, rfl, ⟨fun e => Bool.noConfusion e, fun k => absurd k HF.out⟩⟩, rfl⟩

set_option maxHeartbeats 1000000 in
theorem rinner_any (h : Nat) (hh : IsHash h) (da : Option Addr) (dn dc : Nat) (d : List Nat) (sa : Option Addr) (sn sc : Nat) (s : List Nat) (w : World) (hd : Reads .u8 w da dn dc d) (hs : Reads .u8 w sa sn sc s) (bd : Byt d) (bs : Byt s) (ld : dn ≤ 4000) (ls : sn ≤ 4000) :
    Calls Tryd.prog 23 #[.int .i64 (h : Int), .slice da dn dc, .slice sa sn sc] w fun e w' => (∃ v, e = .returned v ∧ OwnQ .u8 5 w.heap.size w' v (innerP h d s)) ∧ Below w.heap.size w w' := by
  obtain ⟨i0, hi, hz0, hz1, hz2⟩ := info_parts infoMk
  have HD := Lib.hid hd
  have HS := Lib.hid hs
  have HDL := Lib.hid hd.length
  have HSL := Lib.hid hs.length
  have HBD := Lib.hid (And.intro bd bs)
  clear hd hs bd bs
  go_enter Tryd.func23, Tryd.ntmps23
  go_wp2_with (at_make; refine wpList_make_full _ rfl _ _ 22 rfl w.heap.size 5 i0 (.int .u8 0) 1 Tryd.underlying22 hi hz0 hz1 _ _ _ _ 8 rfl rfl rfl rfl (by rw [hz2]; omega) (by unfold maxLen; omega) (Nat.le_refl _) ?_; intro w1 hown hgrow; have HO := Lib.hid (OwnQ.madeM hown rfl); have HB1 := Lib.hid (Below.grown (Below.refl w.heap.size w) hgrow (Nat.le_refl _) (fun _ e => by cases e)))
  have HR := Lib.hid (show RowsM (w1.alloc (.cells #[.slice (some ⟨w.heap.size, 0, none⟩) 8 8, .slice da dn dc, .slice sa sn sc] 22)) (some ⟨w1.heap.size, 0, none⟩) 3 (inR w.heap.size da dn dc d sa sn sc s) from by
    have hba := (Below.refl w1.heap.size w1).alloc (Nat.le_refl _) (.cells #[.slice (some ⟨w.heap.size, 0, none⟩) 8 8, .slice da dn dc, .slice sa sn sc] 22)
    refine ⟨fun i hi => ?_, fun _ => ⟨_, 0, rfl, by simp, fun i hi => ?_⟩⟩
    · rcases (show i = 0 ∨ i = 1 ∨ i = 2 by omega) with rfl | rfl | rfl
      · exact ⟨HO.out.reads.below hba, (by decide : Byt (List.replicate 8 0)), (by decide : 8 ≤ 1048576)⟩
      · exact ⟨(HD.out.below HB1.out).below hba, HBD.out.1, show dn ≤ 1048576 by omega⟩
      · exact ⟨(HS.out.below HB1.out).below hba, HBD.out.2, show sn ≤ 1048576 by omega⟩
    · rw [Nat.zero_add, World.cell?_alloc_new]
      rcases (show i = 0 ∨ i = 1 ∨ i = 2 by omega) with rfl | rfl | rfl <;> rfl)
  have HB2 := Lib.hid (HB1.out.alloc HB1.out.size (.cells #[.slice (some ⟨w.heap.size, 0, none⟩) 8 8, .slice da dn dc, .slice sa sn sc] 22))
  go_wp2_with fail
  refine (rjoin_any _ 3 3 _ _ HR.out (by decide)).mono ?_
  rintro e w3 ⟨⟨v, rfl, hv⟩, hb⟩
  rw [show flatM (inR w.heap.size da dn dc d sa sn sc s) 3 = List.replicate 8 0 ++ d ++ s from rfl] at hv
  obtain ⟨ja, jn, jc, rfl, hjn, hj⟩ := own_slM hv
  have hjl : jn ≤ 8008 := by rw [hjn, List.length_append, List.length_append, List.length_replicate, HDL.out, HSL.out]; omega
  have HJ := Lib.hid hj
  have HB3 := Lib.hid (HB2.out.trans (hb.mono HB2.out.size))
  clear hv hj hb hjn
  go_wp2_with fail
  refine (rsum_yes h hh ja jn jc _ _ HJ.out.reads (fun x hx => by
    rcases List.mem_append.1 hx with hx | hx
    · rcases List.mem_append.1 hx with hx | hx
      · exact (by rw [List.eq_of_mem_replicate hx]; decide)
      · exact HBD.out.1 x hx
    · exact HBD.out.2 x hx) (by omega)).mono ?_
  rintro e w4 ⟨⟨v, rfl, hv⟩, hb⟩
  have HV := Lib.hid (hv.mono HB3.out.size)
  have HB4 := Lib.hid (HB3.out.trans (hb.mono HB3.out.size))
  clear hv hb
  go_wp2
  go_ret
  exact ⟨⟨v, rfl, HV.out⟩, HB4.out⟩

theorem low_rest (x n : Nat) (hx : x < 256) (h1 : 1 ≤ n) : x &&& lowP n = x % 2 ^ (n - 8 * (lenP n - 1)) := by
  have h2 := lenP_bits n
  have h3 : ∀ k, k < 8 → 255 / 2 ^ k = 2 ^ (8 - k) - 1 := by decide
  unfold lowP
  rw [h3 _ h2.1, show n - 8 * (lenP n - 1) = 8 - (8 * lenP n - n) by unfold lenP; omega, Nat.and_two_pow_sub_one_eq_mod]

set_option maxHeartbeats 1000000 in
theorem rlow_any (x n : Nat) (hx : x < 256) (h1 : 1 ≤ n) (hn : n ≤ 1000000) (w : World) : Calls Tryd.prog 28 #[.int .u8 (x : Int), .int .i64 (n : Int)] w fun e w' => e = .returned (.int .u8 ((x &&& lowP n : Nat) : Int)) ∧ w = w' := by
  have HE := Lib.hid (low_rest x n hx h1)
  obtain ⟨L, hL⟩ : ∃ L, lenP n = L := ⟨_, rfl⟩
  obtain ⟨r, hr⟩ : ∃ r, n - 8 * (L - 1) = r := ⟨_, rfl⟩
  have hL1 : 1 ≤ L ∧ L ≤ 125001 ∧ 8 * (L - 1) < n ∧ n ≤ 8 * L := by rw [← hL]; unfold lenP; omega
  have HLG := Lib.hid (fun (W : World) => rlong_any n (by omega) W)
  rw [hL] at HLG HE
  rw [hr] at HE
  have e1 : (n : Int) - 8 * ((L : Int) - 1) = (r : Int) := by omega
  have hr8 : 1 ≤ r ∧ r ≤ 8 := by omega
  generalize x &&& lowP n = res at *
  clear hL hr
  go_enter Tryd.func28, Tryd.ntmps28
  go_wp2_with fail
  go_loopw [0, 5, 6] (fun cv wo kv wq => ∃ j c p : Nat, kv = .int .i64 (j : Int) ∧ cv = .int .u8 (c : Int) ∧ wo = .int .u8 (p : Int) ∧ r ≤ j ∧ j ≤ 8 ∧ c < 256 ∧ 1 ≤ p ∧ p ≤ 128 ∧ Hid (c = x % 2 ^ j ∧ p = 2 ^ (j - 1) ∧ wq = w)) (fun _ _ kv _ => (intOf kv).toNat)
  case atStart => exact ⟨8, x, 128, rfl, rfl, rfl, hr8.2, Nat.le_refl _, hx, by omega, by omega, (Nat.mod_eq_of_lt hx).symm, rfl, rfl⟩
  case round =>
    obtain ⟨j, c, p, rfl, rfl, rfl, hrj, hj8, hc, hp1, hp2, hI⟩ := hrel
    obtain rfl := hI.out.2.2
    go_wp2_with fail
    refine (HLG.out _).mono ?_
    rintro e w1 ⟨rfl, rfl⟩
    by_cases hlt : r < j
    · have tl : decide ((r : Int) < (j : Int)) = true := by simp; omega
      obtain ⟨c1, hc1⟩ : ∃ c1, c % p = c1 := ⟨_, rfl⟩
      obtain ⟨p1, hp3⟩ : ∃ p1, p / 2 = p1 := ⟨_, rfl⟩
      have d1 : Int.tmod (c : Int) (p : Int) = (c1 : Int) := by rw [Int.tmod_eq_emod_of_nonneg (by omega), ← hc1]; simp
      have d2 : Int.tdiv (p : Int) 2 = (p1 : Int) := by rw [Int.tdiv_eq_ediv_of_nonneg (by omega)]; omega
      have hp0 : ((p : Int) == 0) = false := by simp; omega
      have hp0' : (p : Int) ≠ 0 := by omega
      have hc1b : c1 < 256 := by rw [← hc1]; exact Nat.lt_of_le_of_lt (Nat.mod_le _ _) hc
      have hp1b : p1 ≤ 128 := by omega
      have e2 : (j : Int) - 1 = ((j - 1 : Nat) : Int) := by omega
      have HN := Lib.hid (show c1 = x % 2 ^ (j - 1) ∧ p1 = 2 ^ (j - 1 - 1) ∧ 1 ≤ p1 from by
        obtain ⟨h5, h6, -⟩ := hI.out
        obtain ⟨i, rfl⟩ : ∃ i, j = i + 2 := ⟨j - 2, by omega⟩
        refine ⟨?_, ?_, ?_⟩
        · rw [← hc1, h5, h6]
          exact Nat.mod_mod_of_dvd x ⟨2, by rw [show i + 2 = i + 2 - 1 + 1 by omega, Nat.pow_succ]; simp⟩
        · rw [← hp3, h6, show i + 2 - 1 = i + 1 by omega, show i + 1 - 1 = i by omega, Nat.pow_succ]; omega
        · rw [← hp3, h6, show i + 2 - 1 = i + 1 by omega, Nat.pow_succ]; have := Nat.pow_pos (n := i) (show 0 < 2 by decide); omega)
      generalize hj1 : j - 1 = j1 at *
      clear hc1 hp3 hI
      go_wp2
      go_roundw
      case rel => exact ⟨j1, c1, p1, rfl, rfl, rfl, by omega, by omega, hc1b, HN.out.2.2, hp1b, HN.out.1, HN.out.2.1, by trivial⟩
      case measure => simp [intOf]; omega
    · obtain rfl : j = r := by omega
      have tl : decide ((j : Int) < (j : Int)) = false := by simp
      have HF := Lib.hid (HE.out.trans hI.out.1.symm)
      clear hI
      go_wp2
      go_ret
      exact ⟨by rw [HF.out]; rfl, rfl⟩
end Go.Proofs.YtcdglhmapijebaaDoor

namespace Go.Proofs.YtcdglhmapijebaaDoor
open Go.RowKit
set_option maxRecDepth 100000

/-- A digest, cut, or filled up. -/
def fillP (g : Nat) (A : List Nat) : List Nat := (A ++ List.replicate 64 0).take (mSize g)
theorem encode_any (h : Int) (da : Option Addr) (dn dc : Nat) (d : List Nat) (sa : Option Addr) (sn sc : Nat) (s : List Nat) (n : Int) (n0 : -9223372036854775808 ≤ n) (n1 : n ≤ 9223372036854775807) (hn : n ≤ 100000 ∨ 524288 < n) (w : World) (hk : Kinds w) (hd : Reads .u8 w da dn dc d) (hs : Reads .u8 w sa sn sc s) (bd : Byt d) (bs : Byt s) :
    Calls Tryd.prog 9 #[.int .i64 h, .slice da dn dc, .slice sa sn sc, .int .i64 n] w fun e w' => Below w.heap.size w w' ∧
      (((RoomP h (sn : Int) n ∧ dn = mSize h.toNat) ∧ ∃ g, e = .returned (.tuple #[.slice (some ⟨g, 0, none⟩) (lenP n.toNat) (lenP n.toNat), .int .i64 0]) ∧ OwnQ .u8 5 w.heap.size w' (.slice (some ⟨g, 0, none⟩) (lenP n.toNat) (lenP n.toNat)) (emsP h.toNat d s n.toNat)) ∨
      (¬ (RoomP h (sn : Int) n ∧ dn = mSize h.toNat) ∧ e = .returned (.tuple #[.slice none 0 0, .int .i64 90]))) := by
  by_cases hr : RoomP h (sn : Int) n ∧ dn = mSize h.toNat
  · obtain ⟨hrm, hdn⟩ := hr
    have hrm' := hrm
    obtain ⟨hh, hs0, hn2, hn5, hfit⟩ := hrm
    obtain ⟨g, rfl⟩ : ∃ g : Nat, h = (g : Int) := ⟨h.toNat, by rcases hh with e | e | e | e <;> omega⟩
    obtain ⟨m, rfl⟩ : ∃ m : Nat, n = (m : Int) := ⟨n.toNat, by omega⟩
    simp only [Int.toNat_natCast] at hh hdn ⊢
    refine (encode_p g hh da dn dc d sa sn sc s m w hk hd hs bd bs hrm' hdn (by omega)).mono ?_
    rintro e w' ⟨he, hb⟩
    exact ⟨hb, .inl ⟨⟨hrm', hdn⟩, he⟩⟩
  · refine (encode_no h da dn dc sa sn sc n (by have := hd.len_le; unfold maxLen at this; exact this) (by have := hs.len_le; unfold maxLen at this; exact this) n0 n1 w hk hr).mono ?_
    rintro e w' ⟨he, hb⟩
    exact ⟨hb, .inr ⟨hr, he⟩⟩
theorem byt_rep (n : Nat) : Byt (List.replicate n 0) := fun x hx => by rw [List.eq_of_mem_replicate hx]; decide

end Go.Proofs.YtcdglhmapijebaaDoor

namespace Go.Proofs.YtcdglhmapijebaaDoor
open Go.RowKit
set_option maxRecDepth 100000

theorem xorN_at : ∀ (a b : List Nat) (i : Nat), a.length = b.length → (xorN a b)[i]?.getD 0 = a[i]?.getD 0 ^^^ b[i]?.getD 0
  | [], [], _, _ => by simp [xorN]
  | [], _ :: _, _, h => by simp at h
  | _ :: _, [], _, h => by simp at h
  | x :: a, y :: b, 0, _ => by simp [xorN]
  | x :: a, y :: b, i + 1, h => by
    have := xorN_at a b i (by simpa using h)
    simpa [xorN] using this
theorem headA_at (m : Nat) (l : List Nat) (i : Nat) : (headA m l)[i]?.getD 0 = if i = 0 then (l[0]?.getD 0) &&& m else l[i]?.getD 0 := by
  cases l with
  | nil => simp [headA]
  | cons x r => cases i with
    | zero => simp [headA]
    | succ i => simp [headA]
theorem take_next (l : List Nat) (i : Nat) (h : i < l.length) : l.take (i + 1) = l.take i ++ [l[i]?.getD 0] := by
  rw [← List.take_append_getElem h, List.getElem?_eq_getElem h, Option.getD_some]
theorem byt_get {l : List Nat} (h : Byt l) (j : Nat) : l[j]?.getD 0 < 256 := by
  by_cases hj : j < l.length
  · rw [List.getElem?_eq_getElem hj]; exact h _ (List.getElem_mem hj)
  · rw [List.getElem?_eq_none (by omega)]; decide

set_option maxHeartbeats 2000000 in
theorem rmasked_any (h : Nat) (hh : IsHash h) (ba : Option Addr) (bn bc : Nat) (B : List Nat) (ia : Option Addr) (iN ic : Nat) (I : List Nat) (n : Nat) (w : World) (hb : Reads .u8 w ba bn bc B) (hi : Reads .u8 w ia iN ic I) (bB : Byt B) (bI : Byt I) (hn : bn ≤ 50000) (hin : iN ≤ 8000) (hn1 : 1 ≤ n) (hn2 : n ≤ 1000000) :
    Calls Tryd.prog 26 #[.int .i64 (h : Int), .slice ba bn bc, .slice ia iN ic, .int .i64 (n : Int)] w fun e w' => (∃ v, e = .returned v ∧ OwnQ .u8 5 w.heap.size w' v (maskedP h B I n)) ∧ Below w.heap.size w w' := by
  obtain ⟨i0, hi0, hz0, hz1, hz2⟩ := info_parts infoMk
  have HBr := Lib.hid hb
  have HBL := Lib.hid hb.length
  have HBB := Lib.hid bB
  have hML := maskN_len hh I bn
  have HMB := Lib.hid (show Byt (maskN h I bn) from maskN_byt hh I bn)
  have HPL := Lib.hid (show (maskedP h B I n).length = bn by rw [masked_len hh, HBL.out])
  have HPA := Lib.hid (show ∀ i, (maskedP h B I n)[i]?.getD 0 = if i = 0 then ((B[i]?.getD 0) ^^^ ((maskN h I bn)[i]?.getD 0)) &&& lowP n else (B[i]?.getD 0) ^^^ ((maskN h I bn)[i]?.getD 0) from fun i => by
    unfold maskedP
    rw [HBL.out, headA_at]
    by_cases h0 : i = 0
    · rw [if_pos h0, if_pos h0, h0, xorN_at _ _ _ (by rw [HBL.out, hML])]
    · rw [if_neg h0, if_neg h0, xorN_at _ _ _ (by rw [HBL.out, hML])])
  have HLW := Lib.hid (fun (x : Nat) (hx : x < 256) (W : World) => rlow_any x n hx hn1 hn2 W)
  clear hb bB
  go_enter Tryd.func26, Tryd.ntmps26
  go_wp2_with fail
  refine (rmask_yes h hh ia iN ic I bn w hi bI hin hn).mono ?_
  rintro e w1 ⟨⟨v, rfl, hv⟩, hbw⟩
  obtain ⟨ma, mn, mc, rfl, hmn, hm⟩ := own_slM hv
  rw [hML] at hmn
  subst hmn
  have HM := Lib.hid hm
  have HBw := Lib.hid hbw
  have HMLn := Lib.hid hML
  clear hv hm hbw hi bI hML
  generalize maskN h I mn = M at *
  obtain ⟨PM, hPM⟩ : ∃ PM, maskedP h B I n = PM := ⟨_, rfl⟩
  rw [hPM] at HPL HPA
  have HPM := Lib.hid hPM
  clear hPM
  go_wp2_with fail
  go_loopw [11, 12] (fun ov iv wq => ∃ (i c2 : Nat) (a2 : Option Addr), iv = .int .i64 (i : Int) ∧ ov = .slice a2 i c2 ∧ i ≤ mn ∧ Hid (OwnQ .u8 5 w1.heap.size wq (.slice a2 i c2) (PM.take i) ∧ Below w1.heap.size w1 wq)) (fun _ iv _ => mn - (intOf iv).toNat)
  case atStart => exact ⟨0, 0, none, rfl, rfl, Nat.zero_le _, by rw [List.take_zero]; exact OwnQ.nil _ _ _ _, Below.refl _ _⟩
  case round =>
    obtain ⟨i, c2, a2, rfl, rfl, hi, hI⟩ := hrel
    have HI := Lib.hid hI.out
    clear hI
    by_cases hlt : i < mn
    · have tl : decide ((i : Int) < (mn : Int)) = true := by simp; omega
      obtain ⟨b, off, rfl, -, hcl⟩ := ((HBr.out.below HBw.out).below HI.out.2).cells (by omega)
      have cB := hcl i hlt
      obtain ⟨mg, mc', hmv⟩ := HM.out.succ (by intro e; have := HMLn.out; rw [e] at this; simp at this; omega)
      obtain ⟨rfl, rfl⟩ : ma = some ⟨mg, 0, none⟩ ∧ mc = mc' := by
        rw [HMLn.out] at hmv
        simpa using hmv
      have cM := (HM.out.below HI.out.2).cellAt HMLn.out.symm i hlt
      have hx := byt_get HBB.out i
      have hy := byt_get HMB.out i
      have HAT := Lib.hid (HPA.out i)
      have HNX := Lib.hid (take_next PM i (by rw [HPL.out]; exact hlt))
      generalize B[i]?.getD 0 = x at *
      generalize M[i]?.getD 0 = y at *
      have hxor := u8_xor_nat x y hx hy
      have hxy : x ^^^ y < 256 := xor_byte hx hy
      generalize x ^^^ y = z at *
      have hsz := HI.out.2.size
      clear hcl hmv
      go_wp2_with fail
      go_big_quiet (fail)
      simp only [Exit.then]
      have HI := Lib.hid (show OwnQ .u8 5 w1.heap.size (wr.drewN nq) (.slice a2 i c2) (PM.take i) ∧ Below w1.heap.size w1 (wr.drewN nq) from ⟨HI.out.1.drewN nq, HI.out.2.trans ⟨rfl, rfl, rfl, Nat.le_refl _, fun _ _ => rfl⟩⟩)
      have hsz2 : w1.heap.size ≤ (wr.drewN nq).heap.size := hsz
      clear cB cM
      generalize wr.drewN nq = w2 at *
      by_cases h0 : i = 0
      · subst h0
        have HCZ := Lib.hid (show PM[0]?.getD 0 = z &&& lowP n by rw [HAT.out, if_pos rfl])
        clear HAT
        go_wp2_with fail
        refine (HLW.out z hxy _).mono ?_
        rintro e w3 ⟨rfl, rfl⟩
        rw [← HCZ.out]
        generalize PM[0]?.getD 0 = cz at *
        go_wp2_with (at_builtin; refine wpList_append_q1 .u8 _ rfl _ _ 22 rfl w1.heap.size 5 i0 Tryd.underlying22 hi0 hz0 hz1 hz2 _ (PM.take 0) rfl (HI.out.1.alloc _) _ 1 1 [cz] rfl (Reads.one .u8 _ _ _ _ rfl) (by simp) (by simp; omega) ?_; intro v4 w4 hown hgrow; rw [← HNX.out] at hown; obtain ⟨a4, n4, c4, rfl, hn4, ho⟩ := own_slM hown; have HO4 := Lib.hid ho; have HN4 := Lib.hid (show n4 = 0 + 1 by rw [hn4, List.length_take, HPL.out]; omega); have HB4 := Lib.hid (hgrow w1 (HI.out.2.alloc HI.out.2.size _)); clear hown hgrow hn4 ho)
        obtain rfl := HN4.out
        go_roundw
        case rel => exact ⟨1, c4, a4, by go_num, rfl, by omega, HO4.out, HB4.out⟩
        case measure => simp [intOf]; omega
      · have h0' : ((i : Int) == 0) = false := by simp; omega
        have HCZ := Lib.hid (show PM[i]?.getD 0 = z by rw [HAT.out, if_neg h0])
        clear HAT
        rw [HCZ.out] at HNX
        go_wp2_with (at_builtin; refine wpList_append_q1 .u8 _ rfl _ _ 22 rfl w1.heap.size 5 i0 Tryd.underlying22 hi0 hz0 hz1 hz2 _ (PM.take i) rfl (HI.out.1.alloc _) _ 1 1 [z] rfl (Reads.one .u8 _ _ _ _ rfl) (by rw [List.length_take, HPL.out]; omega) (by simp; omega) ?_; intro v4 w4 hown hgrow; rw [← HNX.out] at hown; obtain ⟨a4, n4, c4, rfl, hn4, ho⟩ := own_slM hown; have HO4 := Lib.hid ho; have HN4 := Lib.hid (show n4 = i + 1 by rw [hn4, List.length_take, HPL.out]; omega); have HB4 := Lib.hid (hgrow w1 (HI.out.2.alloc HI.out.2.size _)); clear hown hgrow hn4 ho)
        obtain rfl := HN4.out
        go_roundw
        case rel => exact ⟨i + 1, c4, a4, by go_num, rfl, by omega, HO4.out, HB4.out⟩
        case measure => simp [intOf]; omega
    · obtain rfl : i = mn := by omega
      have tl : decide ((i : Int) < (i : Int)) = false := by simp
      have HF := Lib.hid (show OwnQ .u8 5 w.heap.size wr (.slice a2 i c2) (maskedP h B I n) from by
        rw [HPM.out]
        have h1 := HI.out.1.mono HBw.out.size
        rwa [List.take_of_length_le (by rw [HPL.out]; exact Nat.le_refl _)] at h1)
      have HBf := Lib.hid (HBw.out.trans (HI.out.2.mono HBw.out.size))
      clear HI
      go_wp2
      go_ret
      exact ⟨⟨.slice a2 i c2, rfl, HF.out⟩, HBf.out⟩

/-- Three rows. -/
def rows3 (x y z : Option Addr × Nat × Nat × List Nat) : Nat → Option Addr × Nat × Nat × List Nat
  | 0 => x
  | 1 => y
  | _ => z
theorem rows_three (W : World) {x y z : Option Addr × Nat × Nat × List Nat} (E : TypeId) (hx : Reads .u8 W x.1 x.2.1 x.2.2.1 x.2.2.2 ∧ Byt x.2.2.2 ∧ x.2.1 ≤ 1048576) (hy : Reads .u8 W y.1 y.2.1 y.2.2.1 y.2.2.2 ∧ Byt y.2.2.2 ∧ y.2.1 ≤ 1048576) (hz : Reads .u8 W z.1 z.2.1 z.2.2.1 z.2.2.2 ∧ Byt z.2.2.2 ∧ z.2.1 ≤ 1048576) :
    RowsM (W.alloc (.cells #[.slice x.1 x.2.1 x.2.2.1, .slice y.1 y.2.1 y.2.2.1, .slice z.1 z.2.1 z.2.2.1] E)) (some ⟨W.heap.size, 0, none⟩) 3 (rows3 x y z) := by
  have hb := (Below.refl W.heap.size W).alloc (Nat.le_refl _) (.cells #[.slice x.1 x.2.1 x.2.2.1, .slice y.1 y.2.1 y.2.2.1, .slice z.1 z.2.1 z.2.2.1] E)
  refine ⟨fun i hi => ?_, fun _ => ⟨_, 0, rfl, by simp, fun i hi => ?_⟩⟩
  · rcases (show i = 0 ∨ i = 1 ∨ i = 2 by omega) with rfl | rfl | rfl
    · exact ⟨hx.1.below hb, hx.2⟩
    · exact ⟨hy.1.below hb, hy.2⟩
    · exact ⟨hz.1.below hb, hz.2⟩
  · rw [Nat.zero_add, World.cell?_alloc_new]
    rcases (show i = 0 ∨ i = 1 ∨ i = 2 by omega) with rfl | rfl | rfl <;> rfl
theorem flat_three (x y z : Option Addr × Nat × Nat × List Nat) : flatM (rows3 x y z) 3 = x.2.2.2 ++ y.2.2.2 ++ z.2.2.2 := by
  simp [flatM, rows3]

set_option maxHeartbeats 4000000 in
theorem rencode_p (h : Nat) (hh : IsHash h) (da : Option Addr) (dn dc : Nat) (d : List Nat) (sa : Option Addr) (sn sc : Nat) (s : List Nat) (n : Nat) (w : World) (hd : Reads .u8 w da dn dc d) (hs : Reads .u8 w sa sn sc s) (bd : Byt d) (bs : Byt s) (hr : RoomP (h : Int) (sn : Int) (n : Int)) (hdn : dn = mSize h) (hn : n ≤ 20000) :
    Calls Tryd.prog 10 #[.int .i64 (h : Int), .slice da dn dc, .slice sa sn sc, .int .i64 (n : Int)] w fun e w' => (∃ v, e = .returned (.tuple #[v, .int .i64 0]) ∧ OwnQ .u8 5 w.heap.size w' v (emsP h d s n)) ∧ Below w.heap.size w w' := by
  obtain ⟨i0, hi0, hz0, hz1, hz2⟩ := info_parts infoMk
  have HD := Lib.hid hd
  have HS := Lib.hid hs
  have HSL := Lib.hid hs.length
  have HBD := Lib.hid (And.intro bd bs)
  have HH := Lib.hid hh
  have hsz := mSize_le hh
  have HRS := Lib.hid (rSize_yes hh)
  have HRM := Lib.hid hr
  obtain ⟨K, S, a, hS, hN, ha⟩ := room_parts hr
  have hn1 : 1 ≤ n := by
    by_cases h0 : n = 0
    · subst h0; have : lenP 0 = 0 := rfl; omega
    · omega
  have hIL := innerP_len hh d s
  have HIB := Lib.hid (show Byt (innerP h d s) from mHash_byt hh _)
  have HE := Lib.hid (show emsP h d s n = maskedP h (List.replicate a 0 ++ [1] ++ s) (innerP h d s) n ++ innerP h d s ++ [188] by
    unfold emsP blockP
    rw [hN, hS, HSL.out, show K + S + 1 - S - 1 - sn - 1 = a by omega])
  have HML := Lib.hid (masked_len hh (List.replicate a 0 ++ [1] ++ s) (innerP h d s) n)
  have HMB := Lib.hid (masked_byt hh (block := List.replicate a 0 ++ [1] ++ s) (innerP h d s) n)
  have HBK := Lib.hid (show Byt (List.replicate a 0 ++ [1] ++ s) from fun x hx => by
    rcases List.mem_append.1 hx with hx | hx
    · rcases List.mem_append.1 hx with hx | hx
      · rw [(List.mem_replicate.1 hx).2]; decide
      · rw [List.mem_singleton.1 hx]; decide
    · exact bs x hx)
  have HBL := Lib.hid (show (List.replicate a 0 ++ [1] ++ s).length = K by simp [HSL.out]; omega)
  have HLG := Lib.hid (fun (W : World) => rlong_any n (by omega) W)
  have hK2 : K ≤ 3000 := by have : lenP n ≤ 2501 := by (unfold lenP; omega)
                            omega
  rw [hN] at HLG
  rw [hS] at hsz hIL hdn HRS
  obtain ⟨L, hL⟩ : ∃ L, L = K + S + 1 := ⟨_, rfl⟩
  rw [← hL] at HLG
  have e1 : (L : Int) - (S : Int) - (sn : Int) - 2 = (a : Int) := by omega
  have hL9 : L ≤ 4000 := by omega
  have ha9 : a ≤ 4000 := by omega
  have hsn9 : sn ≤ 4000 := by omega
  have HKA := Lib.hid (And.intro ha hL)
  subst hdn
  clear hd hs bd bs hh hr hN hS hL ha
  go_enter Tryd.func10, Tryd.ntmps10
  go_wp2_with fail
  refine (rroom_any (h : Int) (sn : Int) (n : Int) (by omega) (by omega) _).mono ?_
  rintro e w' ⟨⟨v, rfl, hv⟩, rfl⟩
  obtain rfl : v = true := hv.2 HRM.out
  clear hv
  go_wp2_with fail
  refine (rsize_any (h : Int) _).mono ?_
  rintro e w' ⟨rfl, rfl⟩
  rw [HRS.out]
  go_wp2_with fail
  refine (rinner_any h HH.out da dn dc d sa sn sc s _ HD.out HS.out HBD.out.1 HBD.out.2 (by omega) (by omega)).mono ?_
  rintro e w1 ⟨⟨v, rfl, hv⟩, hb⟩
  obtain ⟨ia, iN, ic, rfl, hin, hI⟩ := own_slM hv
  rw [hIL] at hin
  subst hin
  have HI := Lib.hid hI
  have HB := Lib.hid hb
  clear hv hI hb
  generalize innerP h d s = I at *
  go_wp2_with fail
  refine (HLG.out _).mono ?_
  rintro e w' ⟨rfl, rfl⟩
  have HB1s := Lib.hid HB.out.size
  go_wp2_with (at_make; refine wpList_make_full _ rfl _ _ 22 rfl w1.heap.size 5 i0 (.int .u8 0) 1 Tryd.underlying22 hi0 hz0 hz1 _ _ _ _ a rfl rfl rfl rfl (by rw [hz2]; omega) (by unfold maxLen; omega) (Nat.le_refl _) ?_; intro w2 hown hgrow; have HZ := Lib.hid (OwnQ.madeM hown rfl); have HB2 := Lib.hid (Below.grown (Below.refl w1.heap.size w1) hgrow (Nat.le_refl _) (fun _ e => by cases e)); clear hown hgrow)
  have HBo := Lib.hid ((Below.refl w2.heap.size w2).alloc (Nat.le_refl _) (.cells #[.int .u8 1] 5))
  have HONE := Lib.hid (OwnQ.litM .u8 w2 5 w2.heap.size (Nat.le_refl _) [1] #[.int .u8 1] 1 (by simp [num]) rfl (by decide)).reads
  have HS2 := Lib.hid (((HS.out.below HB.out).below HB2.out).below HBo.out)
  have HRW := Lib.hid (rows_three (w2.alloc (.cells #[.int .u8 1] 5)) (x := (some ⟨w1.heap.size, 0, none⟩, a, a, List.replicate a 0)) (y := (some ⟨w2.heap.size, 0, none⟩, 1, 1, [1])) (z := (sa, sn, sc, s)) 22 ⟨HZ.out.reads.below HBo.out, byt_rep a, show a ≤ 1048576 by omega⟩ ⟨HONE.out, (by decide : Byt [1]), (by decide : 1 ≤ 1048576)⟩ ⟨HS2.out, HBD.out.2, show sn ≤ 1048576 by omega⟩)
  have hsz3 : (w2.alloc (.cells #[.int .u8 1] 5)).heap.size = w2.heap.size + 1 := World.size_alloc _ _
  have hrw := HRW.out
  rw [hsz3] at hrw
  dsimp only at hrw
  have HRW := Lib.hid hrw
  have HB3 := Lib.hid (((HB.out.trans (HB2.out.mono HB.out.size)).alloc (by have := HB.out.size; have := HB2.out.size; omega) (.cells #[.int .u8 1] 5)).alloc (by have := HB.out.size; have := HB2.out.size; simp; omega) (.cells #[.slice (some ⟨w1.heap.size, 0, none⟩) a a, .slice (some ⟨w2.heap.size, 0, none⟩) 1 1, .slice sa sn sc] 22))
  have HI3 := Lib.hid ((HI.out.below HB2.out).below (((Below.refl w2.heap.size w2).alloc (Nat.le_refl _) (.cells #[.int .u8 1] 5)).alloc (by simp) (.cells #[.slice (some ⟨w1.heap.size, 0, none⟩) a a, .slice (some ⟨w2.heap.size, 0, none⟩) 1 1, .slice sa sn sc] 22)))
  clear hrw hsz3 HS2 HONE HBo HZ
  go_wp2_with fail
  refine (rjoin_any _ 3 3 _ _ HRW.out (by decide)).mono ?_
  rintro e w4 ⟨⟨v, rfl, hv⟩, hb⟩
  obtain ⟨ka, kn, kc, rfl, hkn, hk⟩ := own_slM hv
  rw [show flatM (rows3 (some ⟨w1.heap.size, 0, none⟩, a, a, List.replicate a 0) (some ⟨w2.heap.size, 0, none⟩, 1, 1, [1]) (sa, sn, sc, s)) 3 = List.replicate a 0 ++ [1] ++ s from flat_three _ _ _] at hkn hk
  rw [HBL.out] at hkn
  subst hkn
  have HJ := Lib.hid hk
  have HB4 := Lib.hid (HB3.out.trans (hb.mono HB3.out.size))
  have HI4 := Lib.hid (HI3.out.below hb)
  clear hv hk hb HRW HB3 HI3 HB2 HB
  generalize List.replicate a 0 ++ [1] ++ s = BK at *
  go_wp2_with fail
  refine (rmasked_any h HH.out ka kn kc BK ia iN ic I n _ HJ.out.reads HI4.out.reads HBK.out HIB.out (by omega) (by omega) hn1 (by omega)).mono ?_
  rintro e w5 ⟨⟨v, rfl, hv⟩, hb⟩
  obtain ⟨qa, qn, qc, rfl, hqn, hq⟩ := own_slM hv
  rw [HML.out, HBL.out] at hqn
  subst hqn
  have HM := Lib.hid hq
  have HB5 := Lib.hid (HB4.out.trans (hb.mono HB4.out.size))
  have HI5 := Lib.hid (HI4.out.below hb)
  have HMb := Lib.hid (HMB.out HBK.out)
  clear hv hq hb HB4 HI4 HJ HMB
  generalize maskedP h BK I n = PM at *
  have HBo := Lib.hid ((Below.refl w5.heap.size w5).alloc (Nat.le_refl _) (.cells #[.int .u8 188] 5))
  have HONE := Lib.hid (OwnQ.litM .u8 w5 5 w5.heap.size (Nat.le_refl _) [188] #[.int .u8 188] 1 (by simp [num]) rfl (by decide)).reads
  have hrw := rows_three (w5.alloc (.cells #[.int .u8 188] 5)) (x := (qa, qn, qc, PM)) (y := (ia, iN, ic, I)) (z := (some ⟨w5.heap.size, 0, none⟩, 1, 1, [188])) 22 ⟨HM.out.reads.below HBo.out, HMb.out, show qn ≤ 1048576 by omega⟩ ⟨HI5.out.reads.below HBo.out, HIB.out, show iN ≤ 1048576 by omega⟩ ⟨HONE.out, (by decide : Byt [188]), (by decide : 1 ≤ 1048576)⟩
  have hsz3 : (w5.alloc (.cells #[.int .u8 188] 5)).heap.size = w5.heap.size + 1 := World.size_alloc _ _
  rw [hsz3] at hrw
  dsimp only at hrw
  have HRW := Lib.hid hrw
  have HB6 := Lib.hid ((HB5.out.alloc HB5.out.size (.cells #[.int .u8 188] 5)).alloc (by have := HB5.out.size; simp; omega) (.cells #[.slice qa qn qc, .slice ia iN ic, .slice (some ⟨w5.heap.size, 0, none⟩) 1 1] 22))
  clear hrw hsz3 HONE HBo HM HI5
  go_wp2_with fail
  refine (rjoin_any _ 3 3 _ _ HRW.out (by decide)).mono ?_
  rintro e w7 ⟨⟨v, rfl, hv⟩, hb⟩
  rw [show flatM (rows3 (qa, qn, qc, PM) (ia, iN, ic, I) (some ⟨w5.heap.size, 0, none⟩, 1, 1, [188])) 3 = PM ++ I ++ [188] from flat_three _ _ _, ← HE.out] at hv
  have HV := Lib.hid (hv.mono HB6.out.size)
  have HB7 := Lib.hid (HB6.out.trans (hb.mono HB6.out.size))
  clear hv hb
  go_wp2
  go_ret2
  exact ⟨⟨v, rfl, HV.out⟩, HB7.out⟩

theorem rencode_no (h : Int) (da : Option Addr) (dn dc : Nat) (sa : Option Addr) (sn sc : Nat) (n : Int) (hdn : dn ≤ 9223372036854775807) (hsn : sn ≤ 9223372036854775807) (w : World) (hno : ¬ (RoomP h (sn : Int) n ∧ dn = mSize h.toNat)) :
    Calls Tryd.prog 10 #[.int .i64 h, .slice da dn dc, .slice sa sn sc, .int .i64 n] w fun e w' => e = .returned (.tuple #[.slice none 0 0, .int .i64 90]) ∧ w = w' := by
  by_cases hr : RoomP h (sn : Int) n
  · have hne : dn ≠ mSize h.toNat := fun e => hno ⟨hr, e⟩
    obtain ⟨g, rfl⟩ : ∃ g : Nat, h = (g : Int) := ⟨h.toNat, by rcases hr.1 with e | e | e | e <;> omega⟩
    have hh := hr.1
    rw [Int.toNat_natCast] at hh hne
    have HRS := Lib.hid (rSize_yes hh)
    have hS := mSize_le hh
    have HRM := Lib.hid hr
    generalize mSize g = S at *
    have t1 : ((dn : Int) != (S : Int)) = true := by simp; omega
    clear hno hh hne hr
    go_enter Tryd.func10, Tryd.ntmps10
    go_wp2_with fail
    refine (rroom_any (g : Int) (sn : Int) n (by omega) (by omega) _).mono ?_
    rintro e w' ⟨⟨v, rfl, hv⟩, rfl⟩
    obtain rfl : v = true := hv.2 HRM.out
    clear hv
    go_wp2_with fail
    refine (rsize_any (g : Int) _).mono ?_
    rintro e w' ⟨rfl, rfl⟩
    rw [HRS.out]
    go_wp2
    go_ret2
    exact ⟨rfl, rfl⟩
  · have HRM := Lib.hid hr
    clear hr hno
    go_enter Tryd.func10, Tryd.ntmps10
    go_wp2_with fail
    refine (rroom_any h (sn : Int) n (by omega) (by omega) _).mono ?_
    rintro e w' ⟨⟨v, rfl, hv⟩, rfl⟩
    obtain rfl : v = false := Bool.eq_false_iff.2 fun e => HRM.out (hv.1 e)
    clear hv
    go_wp2
    go_ret2
    exact ⟨rfl, rfl⟩
end Go.Proofs.YtcdglhmapijebaaDoor

namespace Go.Proofs.YtcdglhmapijebaaDoor
open Go.RowKit
set_option maxRecDepth 100000

theorem noughts_iff (M : List Nat) (a : Nat) (h : a ≤ M.length) (hb : Byt M) : (Oc.bareL (u8s (M.take a))).length = 0 ↔ ∀ j, j < a → M[j]?.getD 0 = 0 := by
  rw [bare_noughts _ (byt_take hb a), List.length_take, Nat.min_eq_left h]
  constructor
  · intro e j hj
    have h1 := congrArg (fun l => l[j]?.getD 0) e
    simp only [List.getElem?_take, if_pos hj, List.getElem?_replicate] at h1
    rw [h1]
    simp
  · intro e
    apply List.ext_getElem
    · rw [List.length_take, List.length_replicate]; omega
    · intro j h1 h2
      rw [List.length_take] at h1
      have := e j (by omega)
      rw [List.getElem?_eq_getElem (by omega), Option.getD_some] at this
      rw [List.getElem_take, List.getElem_replicate]
      exact this
theorem good_iff {g n K S a : Nat} {X I : List Nat} (hh : IsHash g) (z sn : Nat) (hX : X.length = K) (hI : I.length = S) (hS : mSize g = S) (hN : lenP n = K + S + 1) (ha : K = a + 1 + sn) (bX : Byt X) (hr : RoomP (g : Int) (sn : Int) (n : Int)) :
    GoodP (g : Int) (sn : Int) (n : Int) (X ++ I ++ [z]) ↔ z = 188 ∧ (X[0]?.getD 0) &&& lowP n = X[0]?.getD 0 ∧ (∀ j, j < a → (maskedP g X I n)[j]?.getD 0 = 0) ∧ (maskedP g X I n)[a]?.getD 0 = 1 := by
  have hM := masked_len hh X I n
  have hMb := masked_byt hh I n bX
  have hx0 : X[0]?.getD 0 < 256 := byt_get bX 0
  have hd : (((maskedP g X I n).drop a).take 1)[0]?.getD 0 = (maskedP g X I n)[a]?.getD 0 := by simp
  unfold GoodP
  simp only [Int.toNat_natCast]
  rw [fine_cut z sn hX hI hS hN ha, noughts_iff _ a (by rw [hM, hX]; omega) hMb, hd]
  constructor
  · rintro ⟨-, -, h1, h2, h3, h4⟩
    exact ⟨h1, fits_of _ _ hx0 h2, h3, h4⟩
  · rintro ⟨h1, h2, h3, h4⟩
    refine ⟨hr, ?_, h1, of_fits _ _ hx0 h2, h3, h4⟩
    rw [List.length_append, List.length_append, hX, hI, hN]; rfl

set_option maxHeartbeats 8000000 in
theorem rsalt_any (h : Int) (ba : Option Addr) (bn bc : Nat) (b : List Nat) (sn n : Int) (s0 : -9223372036854775808 ≤ sn) (s1 : sn ≤ 9223372036854775807) (hn : n ≤ 20000 ∨ 524288 < n) (w : World) (hr : Reads .u8 w ba bn bc b) (hby : Byt b) :
    Calls Tryd.prog 12 #[.int .i64 h, .slice ba bn bc, .int .i64 sn, .int .i64 n] w fun e w' => Below w.heap.size w w' ∧
      ((GoodP h sn n b ∧ ∃ sa sc, e = .returned (.tuple #[.slice sa sn.toNat sc, .int .i64 0]) ∧ OwnQ .u8 5 w.heap.size w' (.slice sa sn.toNat sc) (partS h.toNat sn.toNat n.toNat b)) ∨
      (¬ GoodP h sn n b ∧ e = .returned (.tuple #[.slice none 0 0, .int .i64 90]))) := by
  have HR := Lib.hid hr
  have hble : bn ≤ 9223372036854775807 := by have := hr.len_le; unfold maxLen at this; exact this
  by_cases hrm : RoomP h sn n
  rotate_left
  · have HRM := Lib.hid hrm
    have HG := Lib.hid (show ¬ GoodP h sn n b from fun k => hrm k.1)
    clear hr hby hrm
    go_enter Tryd.func12, Tryd.ntmps12
    go_wp2_with fail
    refine (rroom_any h sn n s0 s1 _).mono ?_
    rintro e w' ⟨⟨v, rfl, hv⟩, rfl⟩
    obtain rfl : v = false := Bool.eq_false_iff.2 fun e => HRM.out (hv.1 e)
    clear hv
    go_wp2_with fail
    go_big_quiet (fail)
    simp only [Exit.then]
    go_wp2
    go_ret2
    exact ⟨⟨rfl, rfl, rfl, Nat.le_refl _, fun _ _ => rfl⟩, .inr ⟨HG.out, rfl⟩⟩
  have hrm' := hrm
  obtain ⟨hh, hs0, hn0, hn5, -⟩ := hrm'
  obtain ⟨g, rfl⟩ : ∃ g : Nat, h = (g : Int) := ⟨h.toNat, by rcases hh with e | e | e | e <;> omega⟩
  obtain ⟨s, rfl⟩ : ∃ s : Nat, sn = (s : Int) := ⟨sn.toNat, by omega⟩
  obtain ⟨m, rfl⟩ : ∃ m : Nat, n = (m : Int) := ⟨n.toNat, by omega⟩
  rw [Int.toNat_natCast] at hh
  simp only [Int.toNat_natCast]
  obtain ⟨KK, S, a, hS, hN, ha⟩ := room_parts hrm
  have HRM := Lib.hid hrm
  have HH := Lib.hid hh
  have hsz := mSize_le hh
  have HRS := Lib.hid (rSize_yes hh)
  rw [hS] at hsz HRS
  have HLG := Lib.hid (fun (W : World) => rlong_any m (by omega) W)
  obtain ⟨N, hNe⟩ : ∃ N, lenP m = N := ⟨_, rfl⟩
  have hNb : N ≤ 2501 := by rw [← hNe]; unfold lenP; omega
  rw [hNe] at HLG hN
  have hm1 : 1 ≤ m := by
    by_cases h0 : m = 0
    · subst h0; have : lenP 0 = 0 := rfl; omega
    · omega
  by_cases hbn : bn = N
  rotate_left
  · have t1 : ((bn : Int) != (N : Int)) = true := by simp; omega
    have HG := Lib.hid (show ¬ GoodP (g : Int) (s : Int) (m : Int) b from fun k => hbn (by have := k.2.1; rw [Int.toNat_natCast, hNe, hr.length] at this; exact this))
    clear hr hby hrm hh hS hN ha hNe hbn
    go_enter Tryd.func12, Tryd.ntmps12
    go_wp2_with fail
    refine (rroom_any (g : Int) (s : Int) (m : Int) s0 s1 _).mono ?_
    rintro e w' ⟨⟨v, rfl, hv⟩, rfl⟩
    obtain rfl : v = true := hv.2 HRM.out
    clear hv
    go_wp2_with fail
    go_big_quiet ((go_at_call 25; exact Calls.quiet_of_same ((HLG.out _).mono fun _ _ ⟨h1, h2⟩ => ⟨h1, h2.symm⟩)))
    simp only [Exit.then]
    go_wp2
    go_ret2
    exact ⟨⟨rfl, rfl, rfl, Nat.le_refl _, fun _ _ => rfl⟩, .inr ⟨HG.out, rfl⟩⟩
  subst hbn
  have hlc := hr.le
  have hmx := hr.max
  obtain ⟨X, I, z, hbx, hX, hI⟩ := list_parts b KK S (by rw [hr.length, hN])
  obtain ⟨bk, off, rfl, hbl, hcl⟩ := hr.cells (by omega)
  have bX : Byt X := fun x hx => hby x (by rw [hbx]; exact List.mem_append_left _ (List.mem_append_left _ hx))
  have bI : Byt I := fun x hx => hby x (by rw [hbx]; exact List.mem_append_left _ (List.mem_append_right _ hx))
  have hz : z < 256 := hby z (by rw [hbx]; exact List.mem_append_right _ (List.mem_singleton.2 rfl))
  have HGI := Lib.hid (good_iff hh z s hX hI hS (hNe.trans hN) ha bX hrm)
  rw [← hbx] at HGI
  have hc0 := hcl 0 (by omega)
  have hcz := hcl (bn - 1) (by omega)
  have hb0 : b[0]?.getD 0 = X[0]?.getD 0 := by rw [hbx, List.append_assoc, List.getElem?_append_left (by omega)]
  have hbz : b[bn - 1]?.getD 0 = z := by
    rw [hbx, List.getElem?_append_right (by rw [List.length_append]; omega), List.length_append, show bn - 1 - (X.length + I.length) = 0 by omega]
    rfl
  rw [hb0, Nat.add_zero] at hc0
  rw [hbz] at hcz
  have hx0 : X[0]?.getD 0 < 256 := byt_get bX 0
  obtain ⟨x0, hx0e⟩ : ∃ x0, X[0]?.getD 0 = x0 := ⟨_, rfl⟩
  rw [hx0e] at hc0 HGI hx0
  have HLW := Lib.hid (fun (W : World) => rlow_any x0 m hx0 hm1 (by omega) W)
  obtain ⟨lx, hlx⟩ : ∃ lx, x0 &&& lowP m = lx := ⟨_, rfl⟩
  rw [hlx] at HLW HGI
  obtain ⟨N1, hN1⟩ : ∃ N1, bn - 1 = N1 := ⟨_, rfl⟩
  rw [hN1] at hcz
  have i1 : (bn : Int) - 1 = (N1 : Int) := by omega
  have hN1b : N1 < bn := by omega
  have hbpos : 0 < bn := by omega
  have t1 : ((bn : Int) != (bn : Int)) = false := by simp
  have HX := Lib.hid (And.intro hX hI)
  have HBX := Lib.hid hbx
  have HBI := Lib.hid (And.intro bX bI)
  have HKS := Lib.hid (And.intro hN (And.intro ha (hNe.trans hN)))
  have HSS := Lib.hid hS
  have HBL := Lib.hid hbl
  clear hr hby hrm hh hS hN ha hNe hbx hX hI bX bI hcl hb0 hbz hx0e hlx hN1 hbl
  by_cases hz8 : z = 188
  rotate_left
  · have t2 : ((z : Int) != 188) = true := by simp; omega
    have HG := Lib.hid (show ¬ GoodP (g : Int) (s : Int) (m : Int) b from fun k => hz8 (HGI.out.1 k).1)
    clear hz8
    go_enter Tryd.func12, Tryd.ntmps12
    go_wp2_with fail
    refine (rroom_any (g : Int) (s : Int) (m : Int) s0 s1 _).mono ?_
    rintro e w' ⟨⟨v, rfl, hv⟩, rfl⟩
    obtain rfl : v = true := hv.2 HRM.out
    clear hv
    go_wp2_with fail
    go_big_quiet ((go_at_call 25; exact Calls.quiet_of_same ((HLG.out _).mono fun _ _ ⟨h1, h2⟩ => ⟨h1, h2.symm⟩)))
    simp only [Exit.then]
    go_wp2
    go_ret2
    exact ⟨⟨rfl, rfl, rfl, Nat.le_refl _, fun _ _ => rfl⟩, .inr ⟨HG.out, rfl⟩⟩
  have t2 : ((z : Int) != 188) = false := by rw [hz8]; rfl
  by_cases hl8 : lx = x0
  rotate_left
  · have t3 : ((lx : Int) != (x0 : Int)) = true := by simp; omega
    have HG := Lib.hid (show ¬ GoodP (g : Int) (s : Int) (m : Int) b from fun k => hl8 (HGI.out.1 k).2.1)
    clear hl8 hz8
    go_enter Tryd.func12, Tryd.ntmps12
    go_wp2_with fail
    refine (rroom_any (g : Int) (s : Int) (m : Int) s0 s1 _).mono ?_
    rintro e w' ⟨⟨v, rfl, hv⟩, rfl⟩
    obtain rfl : v = true := hv.2 HRM.out
    clear hv
    go_wp2_with fail
    go_big_quiet (first | (go_at_call 25; exact Calls.quiet_of_same ((HLG.out _).mono fun _ _ ⟨h1, h2⟩ => ⟨h1, h2.symm⟩)) | (go_at_call 28; exact Calls.quiet_of_same ((HLW.out _).mono fun _ _ ⟨h1, h2⟩ => ⟨h1, h2.symm⟩)))
    simp only [Exit.then]
    go_wp2
    go_ret2
    exact ⟨⟨rfl, rfl, rfl, Nat.le_refl _, fun _ _ => rfl⟩, .inr ⟨HG.out, rfl⟩⟩
  have t3 : ((lx : Int) != (x0 : Int)) = false := by rw [hl8]; simp
  have HGI2 := Lib.hid (show GoodP (g : Int) (s : Int) (m : Int) b ↔ (∀ j, j < a → (maskedP g X I m)[j]?.getD 0 = 0) ∧ (maskedP g X I m)[a]?.getD 0 = 1 from ⟨fun k => (HGI.out.1 k).2.2, fun k => HGI.out.2 ⟨hz8, hl8, k⟩⟩)
  clear hl8 hz8 HGI
  go_enter Tryd.func12, Tryd.ntmps12
  go_wp2_with fail
  refine (rroom_any (g : Int) (s : Int) (m : Int) s0 s1 _).mono ?_
  rintro e w' ⟨⟨v, rfl, hv⟩, rfl⟩
  obtain rfl : v = true := hv.2 HRM.out
  clear hv
  go_wp2_with fail
  go_big_quiet (first | (go_at_call 25; exact Calls.quiet_of_same ((HLG.out _).mono fun _ _ ⟨h1, h2⟩ => ⟨h1, h2.symm⟩)) | (go_at_call 28; exact Calls.quiet_of_same ((HLW.out _).mono fun _ _ ⟨h1, h2⟩ => ⟨h1, h2.symm⟩)))
  simp only [Exit.then]
  have HB1 := Lib.hid (show Below w.heap.size w (w.drewN nq) from ⟨rfl, rfl, rfl, Nat.le_refl _, fun _ _ => rfl⟩)
  clear hc0 hcz
  generalize w.drewN nq = w1 at *
  have i2 : (N1 : Int) - (S : Int) = (KK : Int) := by have := HKS.out.1; omega
  have hKle : KK ≤ bn := by have := HKS.out.1; omega
  have hKle1 : KK ≤ N1 := by have := HKS.out.1; omega
  go_wp2_with fail
  refine (rsize_any (g : Int) _).mono ?_
  rintro e w' ⟨rfl, rfl⟩
  rw [HRS.out]
  go_wp2_with fail
  obtain ⟨pi, hpi⟩ : ∃ p, p = (if bc = KK then (some ⟨bk, off, none⟩ : Option Addr) else (some ⟨bk, off, none⟩ : Option Addr).map (·.add KK)) := ⟨_, rfl⟩
  have hs1 : ∀ w, (sizeOf (Tryd.prog.elem 22)).run Tryd.prog w = .ok 1 w := fun _ => by kernel_rfl
  have sl1 : ∀ W, (Instr.sliceAt 22 (.slice (some ⟨bk, off, none⟩) bn bc) none (some (.int .i64 (KK : Int))) none).run Tryd.prog W = .ok (.slice (some ⟨bk, off, none⟩) KK bc) W := fun W => by
    rw [run_sliceAt_slice W _ _ _ _ _ (by kernel_rfl), run_slice_h W _ _ bn bc (by kernel_rfl) .i64 (KK : Int) (by omega) (by omega), hs1]
    simp [sliced, Result.andThen, Addr.add]
  have sl2 : ∀ W, (Instr.sliceAt 22 (.slice (some ⟨bk, off, none⟩) bn bc) (some (.int .i64 (KK : Int))) (some (.int .i64 (N1 : Int))) none).run Tryd.prog W = .ok (.slice pi S (bc - KK)) W := fun W => by
    rw [run_sliceAt_slice W _ _ _ _ _ (by kernel_rfl), run_slice_lh W _ _ bn bc (by kernel_rfl) .i64 .i64 (KK : Int) (N1 : Int) (by omega) (by omega) (by omega), hs1, hpi, show S = N1 - KK by omega]
    simp [sliced, Result.andThen]
  have HXr := Lib.hid (show Reads .u8 w1.drew (some ⟨bk, off, none⟩) KK bc X from by
    have h1 := ((HR.out.below HB1.out).below (Below.refl w1.heap.size w1).drew).upto KK hKle
    rwa [HBX.out, List.append_assoc, List.take_left' HX.out.1] at h1)
  have HIr := Lib.hid (show Reads .u8 w1.drew pi S (bc - KK) I from by
    have h1 := ((HR.out.below HB1.out).below (Below.refl w1.heap.size w1).drew).sub KK N1 hKle1 (by omega)
    rwa [HBX.out, List.take_left' (show (X ++ I).length = N1 by rw [List.length_append, HX.out.1, HX.out.2]; omega), List.drop_left' HX.out.1, ← hpi, show N1 - KK = S by omega] at h1)
  clear hpi
  have wN1 : IntKind.i64.wrap (N1 : Int) = (N1 : Int) := by rw [IntKind.wrap_i64]; omega
  refine wp_region_held_drew (S := fun _ => True) (by kernel_rfl) trivial (fun hHeld => ?_)
  refine' wpAnyH_take (i := 0) (oi := _) (v := _) rfl (by kernel_rfl) (by kernel_rfl) (by kernel_rfl) (fun _ _ _ h => h) (Or.inl ⟨?_, ?_⟩) (by assumption) ?_
  rotate_left
  all_goals (try simp only [List.getElem_toArray, List.getElem_cons_succ, List.getElem_cons_zero])
  · rfl
  · intro W hSw; (try dsimp only at hSw); go_simp; (try with_reducible rfl)
  try simp only [Act.put, List.setIfInBounds_toArray, List.set_cons_zero, List.set_cons_succ]
  refine' wpAnyH_take (i := 1) (oi := _) (v := _) rfl (by kernel_rfl) (by kernel_rfl) (by kernel_rfl) (fun _ _ _ h => h) (Or.inl ⟨?_, ?_⟩) (by assumption) ?_
  rotate_left
  all_goals (try simp only [List.getElem_toArray, List.getElem_cons_succ, List.getElem_cons_zero])
  · rfl
  · intro W hSw; (try dsimp only at hSw); go_simp; (try with_reducible rfl)
  try simp only [Act.put, List.setIfInBounds_toArray, List.set_cons_zero, List.set_cons_succ]
  refine' wpAnyH_take (i := 2) (oi := _) (v := _) rfl (by kernel_rfl) (by kernel_rfl) (by kernel_rfl) (fun _ _ _ h => h) (Or.inl ⟨?_, ?_⟩) (by assumption) ?_
  rotate_left
  all_goals (try simp only [List.getElem_toArray, List.getElem_cons_succ, List.getElem_cons_zero])
  · rfl
  · intro W hSw; (try dsimp only at hSw); go_simp; (try with_reducible rfl)
  try simp only [Act.put, List.setIfInBounds_toArray, List.set_cons_zero, List.set_cons_succ]
  refine' wpAnyH_take (i := 3) (oi := _) (v := .slice (some ⟨bk, off, none⟩) KK bc) rfl (by kernel_rfl) (by kernel_rfl) (by kernel_rfl) (fun _ _ _ h => h) (Or.inl ⟨?_, ?_⟩) (by assumption) ?_
  all_goals (try simp only [List.getElem_toArray, List.getElem_cons_succ, List.getElem_cons_zero])
  · rfl
  · intro W hSw; (try dsimp only at hSw); go_simp; (first | done | exact sl1 W)
  try simp only [Act.put, List.setIfInBounds_toArray, List.set_cons_zero, List.set_cons_succ]
  refine' wpAnyH_take (i := 4) (oi := _) (v := _) rfl (by kernel_rfl) (by kernel_rfl) (by kernel_rfl) (fun _ _ _ h => h) (Or.inl ⟨?_, ?_⟩) (by assumption) ?_
  rotate_left
  all_goals (try simp only [List.getElem_toArray, List.getElem_cons_succ, List.getElem_cons_zero])
  · rfl
  · intro W hSw; (try dsimp only at hSw); go_simp; (try with_reducible rfl)
  try simp only [Act.put, List.setIfInBounds_toArray, List.set_cons_zero, List.set_cons_succ]
  refine' wpAnyH_take (i := 5) (oi := _) (v := _) rfl (by kernel_rfl) (by kernel_rfl) (by kernel_rfl) (fun _ _ _ h => h) (Or.inl ⟨?_, ?_⟩) (by assumption) ?_
  rotate_left
  all_goals (try simp only [List.getElem_toArray, List.getElem_cons_succ, List.getElem_cons_zero])
  · rfl
  · intro W hSw; (try dsimp only at hSw); go_simp; (try with_reducible rfl)
  try simp only [Act.put, List.setIfInBounds_toArray, List.set_cons_zero, List.set_cons_succ]
  refine' wpAnyH_take (i := 6) (oi := _) (v := _) rfl (by kernel_rfl) (by kernel_rfl) (by kernel_rfl) (fun _ _ _ h => h) (Or.inl ⟨?_, ?_⟩) (by assumption) ?_
  rotate_left
  all_goals (try simp only [List.getElem_toArray, List.getElem_cons_succ, List.getElem_cons_zero])
  · rfl
  · intro W hSw; (try dsimp only at hSw); go_simp; (try with_reducible rfl)
  try simp only [Act.put, List.setIfInBounds_toArray, List.set_cons_zero, List.set_cons_succ]
  refine' wpAnyH_take (i := 7) (oi := _) (v := _) rfl (by kernel_rfl) (by kernel_rfl) (by kernel_rfl) (fun _ _ _ h => h) (Or.inl ⟨?_, ?_⟩) (by assumption) ?_
  rotate_left
  all_goals (try simp only [List.getElem_toArray, List.getElem_cons_succ, List.getElem_cons_zero])
  · rfl
  · intro W hSw; (try dsimp only at hSw); go_simp; (try with_reducible rfl)
  try simp only [Act.put, List.setIfInBounds_toArray, List.set_cons_zero, List.set_cons_succ]
  refine' wpAnyH_take (i := 8) (oi := _) (v := .int .i64 (N1 : Int)) rfl (by kernel_rfl) (by kernel_rfl) (by kernel_rfl) (fun _ _ _ h => h) (Or.inl ⟨?_, ?_⟩) (by assumption) ?_
  all_goals (try simp only [List.getElem_toArray, List.getElem_cons_succ, List.getElem_cons_zero])
  · rfl
  · intro W hSw; (try dsimp only at hSw); go_simp; (first | done | (rw [wN1]) | (simp only [wN1]) | go_num)
  try simp only [Act.put, List.setIfInBounds_toArray, List.set_cons_zero, List.set_cons_succ]
  refine' wpAnyH_take (i := 9) (oi := _) (v := .slice pi S (bc - KK)) rfl (by kernel_rfl) (by kernel_rfl) (by kernel_rfl) (fun _ _ _ h => h) (Or.inl ⟨?_, ?_⟩) (by assumption) ?_
  all_goals (try simp only [List.getElem_toArray, List.getElem_cons_succ, List.getElem_cons_zero])
  · rfl
  · intro W hSw; (try dsimp only at hSw); go_simp; (first | done | exact sl2 W)
  try simp only [Act.put, List.setIfInBounds_toArray, List.set_cons_zero, List.set_cons_succ]
  refine' wpAnyH_take (i := 10) (oi := _) (v := _) rfl (by kernel_rfl) (by kernel_rfl) (by kernel_rfl) (fun _ _ _ h => h) (Or.inl ⟨?_, ?_⟩) (by assumption) ?_
  rotate_left
  all_goals (try simp only [List.getElem_toArray, List.getElem_cons_succ, List.getElem_cons_zero])
  · rfl
  · intro W hSw; (try dsimp only at hSw); go_simp; (try with_reducible rfl)
  try simp only [Act.put, List.setIfInBounds_toArray, List.set_cons_zero, List.set_cons_succ]
  refine wpAnyH_ready (rs := [11]) (by kernel_rfl) (by simp) ?_
  refine AllReadyH.cons (o := _) rfl (fun K hK => ?_) AllReadyH.nil
  try simp only [List.getElem_toArray, List.getElem_cons_succ, List.getElem_cons_zero]
  go_simp
  refine (rmasked_any g HH.out (some ⟨bk, off, none⟩) KK bc X pi S (bc - KK) I m w1.drew HXr.out HIr.out HBI.out.1 HBI.out.2 (by omega) (by omega) hm1 (by omega)).mono ?_
  rintro e w2 ⟨⟨v, rfl, hv⟩, hb⟩
  obtain ⟨ma, mn, mc, rfl, hmn, hm⟩ := own_slM hv
  have hmn2 : KK = mn := by rw [hmn, masked_len HH.out, HX.out.1]
  subst hmn2
  obtain ⟨PM, hPM⟩ : ∃ PM, maskedP g X I m = PM := ⟨_, rfl⟩
  have HML := Lib.hid (show PM.length = KK by rw [← hPM, masked_len HH.out, HX.out.1])
  have HMB := Lib.hid (show Byt PM by rw [← hPM]; exact masked_byt HH.out _ _ HBI.out.1)
  rw [hPM] at hm HGI2
  have HPM := Lib.hid hPM
  have HM := Lib.hid hm
  have HB2 := Lib.hid (HB1.out.trans ((Below.refl w1.heap.size w1).drew.trans (hb.mono (Nat.le_refl _)) |>.mono HB1.out.size))
  clear hv hb hm hmn hPM
  go_wp2_with fail
  refine hK.out _ _ trivial (fun hHeld => ?_)
  clear hK K
  try simp only [Act.put, List.setIfInBounds_toArray, List.set_cons_zero, List.set_cons_succ]
  refine wpAnyH_ready (rs := [12]) (by kernel_rfl) (by simp) ?_
  refine AllReadyH.cons (o := _) rfl (fun K hK => ?_) AllReadyH.nil
  try simp only [List.getElem_toArray, List.getElem_cons_succ, List.getElem_cons_zero]
  go_simp
  refine hK.out _ _ trivial (fun hHeld => ?_)
  clear hK K
  try simp only [Act.put, List.setIfInBounds_toArray, List.set_cons_zero, List.set_cons_succ]
  refine wpAnyH_done (by kernel_rfl) ?_ _
  simp only [Exit.then]
  clear hHeld sl1 sl2 hs1 HXr HIr
  have hKb : KK ≤ 3000 := by omega
  have hKe := HKS.out.2.1
  obtain ⟨mg, mc', hmv⟩ := HM.out.succ (by intro e; have := HML.out; rw [e] at this; simp at this; omega)
  obtain ⟨rfl, rfl⟩ : ma = some ⟨mg, 0, none⟩ ∧ mc = mc' := by
    rw [HML.out] at hmv
    simpa using hmv
  clear hmv
  have e9 : (KK : Int) - (s : Int) - 1 = (a : Int) := by omega
  have HPS := Lib.hid (show partS g s m b = PM.drop (KK - s) from by rw [HBX.out, parts_cut z s HX.out.1 HX.out.2 HSS.out HKS.out.2.2, HPM.out])
  have haK : a < KK := by omega
  obtain ⟨T0, hT0⟩ : ∃ T0, KK - s = T0 := ⟨_, rfl⟩
  have e10 : (KK : Int) - (s : Int) = (T0 : Int) := by omega
  have hT0b : T0 ≤ KK := by omega
  have e11 : (T0 : Int) - 1 = (a : Int) := by omega
  have HT0 := Lib.hid (show KK - T0 = s by omega)
  rw [hT0] at HPS
  clear hKe hT0
  go_wp2_with fail
  go_loopw [13] (fun iv wq => ∃ i : Nat, iv = .int .i64 (i : Int) ∧ i ≤ a ∧ Hid (wq = w2 ∧ ∀ j, j < i → PM[j]?.getD 0 = 0)) (fun iv _ => a - (intOf iv).toNat)
  case atStart => exact ⟨0, rfl, Nat.zero_le _, rfl, fun j hj => by omega⟩
  case round =>
    obtain ⟨i, rfl, hia, hI⟩ := hrel
    obtain rfl := hI.out.1
    have HI := Lib.hid hI.out.2
    clear hI
    by_cases hlt : i < a
    · have tl : decide ((i : Int) < (a : Int)) = true := by simp; omega
      have cM := HM.out.cellAt HML.out.symm i (by omega)
      obtain ⟨x, hx⟩ : ∃ x, PM[i]?.getD 0 = x := ⟨_, rfl⟩
      rw [hx] at cM
      have HXE := Lib.hid hx
      clear hx
      by_cases hx0 : x = 0
      · have t5 : ((x : Int) != 0) = false := by simp; omega
        have HN := Lib.hid (show ∀ j, j < i + 1 → PM[j]?.getD 0 = 0 from fun j hj => by
          by_cases hj2 : j = i
          · rw [hj2, HXE.out, hx0]
          · exact HI.out j (by omega))
        clear hx0 HI
        go_wp2_with fail
        go_roundw
        case rel => exact ⟨i + 1, by go_num, by omega, by trivial, HN.out⟩
        case measure => simp [intOf]; omega
      · have t5 : ((x : Int) != 0) = true := by simp; omega
        have HG := Lib.hid (show ¬ GoodP (g : Int) (s : Int) (m : Int) b from fun k => hx0 (by rw [← HXE.out]; exact (HGI2.out.1 k).1 i hlt))
        clear hx0
        go_wp2
        go_ret2
        exact ⟨HB2.out, .inr ⟨HG.out, rfl⟩⟩
    · obtain rfl : i = a := by omega
      have tl : decide ((i : Int) < (i : Int)) = false := by simp
      have cM := HM.out.cellAt HML.out.symm i haK
      obtain ⟨x, hx⟩ : ∃ x, PM[i]?.getD 0 = x := ⟨_, rfl⟩
      rw [hx] at cM
      have HXE := Lib.hid hx
      clear hx
      by_cases hx1 : x = 1
      rotate_left
      · have t5 : ((x : Int) != 1) = true := by simp; omega
        have HG := Lib.hid (show ¬ GoodP (g : Int) (s : Int) (m : Int) b from fun k => hx1 (by rw [← HXE.out]; exact (HGI2.out.1 k).2))
        clear hx1
        go_wp2
        go_ret2
        exact ⟨HB2.out, .inr ⟨HG.out, rfl⟩⟩
      have t5 : ((x : Int) != 1) = false := by rw [hx1]; rfl
      have HG := Lib.hid (show GoodP (g : Int) (s : Int) (m : Int) b from HGI2.out.2 ⟨HI.out, by rw [HXE.out, hx1]⟩)
      obtain ⟨pk, hpk⟩ : ∃ p, p = (if mc = T0 then (some ⟨mg, 0, none⟩ : Option Addr) else (some ⟨mg, 0, none⟩ : Option Addr).map (·.add T0)) := ⟨_, rfl⟩
      have hmle := HM.out.reads.le
      have hs1 : ∀ w, (sizeOf (Tryd.prog.elem 22)).run Tryd.prog w = .ok 1 w := fun _ => by kernel_rfl
      have sl3 : ∀ W, (Instr.sliceAt 22 (.slice (some ⟨mg, 0, none⟩) KK mc) (some (.int .i64 (T0 : Int))) none none).run Tryd.prog W = .ok (.slice pk s (mc - T0)) W := fun W => by
        rw [run_sliceAt_slice W _ _ _ _ _ (by kernel_rfl), run_slice_l W _ _ KK mc (by kernel_rfl) .i64 (T0 : Int) (by omega) (by omega), hs1, hpk, show s = KK - T0 from HT0.out.symm]
        simp [sliced, Result.andThen]
      have HPr := Lib.hid (show Reads .u8 wr pk s (mc - T0) (PM.drop T0) from by
        have h1 := HM.out.reads.sub T0 KK hT0b (Nat.le_refl _)
        rwa [List.take_of_length_le (by rw [HML.out]; exact Nat.le_refl _), ← hpk, HT0.out] at h1)
      have HPB := Lib.hid (show Byt (PM.drop T0) from fun y hy => HMB.out y (List.mem_of_mem_drop hy))
      have hs9 : s ≤ 1048576 := by omega
      have HSz := Lib.hid HB2.out.size
      have HRW := Lib.hid (show RowsM (wr.alloc (.cells #[.slice pk s (mc - T0)] 22)) (some ⟨wr.heap.size, 0, none⟩) 1 (fun _ => (pk, s, mc - T0, PM.drop T0)) from by
        have hba := (Below.refl wr.heap.size wr).alloc (Nat.le_refl _) (.cells #[.slice pk s (mc - T0)] 22)
        refine ⟨fun i hi => ⟨HPr.out.below hba, HPB.out, hs9⟩, fun _ => ⟨_, 0, rfl, by simp, fun i hi => ?_⟩⟩
        obtain rfl : i = 0 := by omega
        rw [Nat.zero_add, World.cell?_alloc_new]
        rfl)
      have HB3 := Lib.hid (HB2.out.alloc HSz.out (.cells #[.slice pk s (mc - T0)] 22))
      clear hpk hx1 HI HXE HGI2 hs1
      go_wp2_with fail
      refine (rjoin_any _ 1 1 _ _ HRW.out (by decide)).mono ?_
      rintro e w5 ⟨⟨v, rfl, hv⟩, hb⟩
      rw [show flatM (fun _ => (pk, s, mc - T0, PM.drop T0)) 1 = partS g s m b from by rw [HPS.out]; simp [flatM]] at hv
      obtain ⟨qa, qn, qc, rfl, hqn, hq⟩ := own_slM hv
      have hqn2 : s = qn := by rw [hqn, HPS.out, List.length_drop, HML.out, HT0.out]
      subst hqn2
      have HV := Lib.hid (hq.mono HB3.out.size)
      have HB5 := Lib.hid (HB3.out.trans (hb.mono HB3.out.size))
      clear hv hb hq hqn
      go_wp2
      go_ret2
      exact ⟨HB5.out, .inl ⟨HG.out, qa, qc, rfl, HV.out⟩⟩

set_option maxHeartbeats 4000000 in
theorem rverify_any (h : Int) (da : Option Addr) (dn dc : Nat) (d : List Nat) (ba : Option Addr) (bn bc : Nat) (b : List Nat) (sn n : Int) (s0 : -9223372036854775808 ≤ sn) (s1 : sn ≤ 9223372036854775807) (hn : n ≤ 20000 ∨ 524288 < n) (w : World) (hd : Reads .u8 w da dn dc d) (bd : Byt d) (hr : Reads .u8 w ba bn bc b) (hby : Byt b) :
    Calls Tryd.prog 14 #[.int .i64 h, .slice da dn dc, .slice ba bn bc, .int .i64 sn, .int .i64 n] w fun e w' => (∃ v : Bool, e = .returned (.bool v) ∧ (v = true ↔ VerP h d sn n b)) ∧ Below w.heap.size w w' := by
  have HD := Lib.hid hd
  have HDL := Lib.hid hd.length
  have HBD := Lib.hid bd
  have hdle : dn ≤ 9223372036854775807 := by have := hd.len_le; unfold maxLen at this; exact this
  have HR := Lib.hid hr
  have HBB := Lib.hid hby
  clear bd
  go_enter Tryd.func14, Tryd.ntmps14
  go_wp2_with fail
  refine (rsalt_any h ba bn bc b sn n s0 s1 hn _ hr hby).mono ?_
  rintro e w1 ⟨hb, ⟨hg, sa, sc, rfl, hS⟩ | ⟨hg, rfl⟩⟩
  rotate_left
  · have HB := Lib.hid hb
    have HV := Lib.hid (show ¬ VerP h d sn n b from fun hv => hg hv.1)
    clear hb hg hd hr hby
    go_wp2
    go_ret
    exact ⟨⟨_, rfl, ⟨fun e => Bool.noConfusion e, fun k => absurd k HV.out⟩⟩, HB.out⟩
  have hgr := hg.1
  obtain ⟨hh, hs0, hn0, hn5, hfit⟩ := hgr
  obtain ⟨g, rfl⟩ : ∃ g : Nat, h = (g : Int) := ⟨h.toNat, by rcases hh with e | e | e | e <;> omega⟩
  obtain ⟨s, rfl⟩ : ∃ s : Nat, sn = (s : Int) := ⟨sn.toNat, by omega⟩
  obtain ⟨m, rfl⟩ : ∃ m : Nat, n = (m : Int) := ⟨n.toNat, by omega⟩
  simp only [Int.toNat_natCast] at hh hS
  have HG := Lib.hid hg
  have HB := Lib.hid hb
  have HS := Lib.hid hS
  have HH := Lib.hid hh
  have hsz := mSize_le hh
  have HRS := Lib.hid (rSize_yes hh)
  obtain ⟨KK, S, a, hSe, hN, ha⟩ := room_parts hg.1
  rw [hSe] at hsz HRS
  have hbn : bn = KK + S + 1 := by rw [← hN, ← hr.length, hg.2.1, Int.toNat_natCast]
  have hlen : lenP m ≤ 2501 := by unfold lenP; omega
  have hbb : bn ≤ 2501 := by omega
  have hsK : s ≤ 2501 := by omega
  have HBS := Lib.hid (show Byt (partS g s m b) from fun x hx => byt_drop (masked_byt hh _ _ (byt_take hby _)) _ x hx)
  have HPI := Lib.hid (show partI g m b = (b.take (bn - 1)).drop KK from by
    unfold partI
    rw [hN, hSe, show KK + S + 1 - S - 1 = KK by omega, List.drop_take, show bn - 1 - KK = S by omega])
  have HL := Lib.hid (And.intro hbn hSe)
  clear hb hg hd hr hby hh hS hfit hSe hN ha hlen hbn
  by_cases hdS : dn = S
  rotate_left
  · have t1 : ((dn : Int) != (S : Int)) = true := by simp; omega
    have HV := Lib.hid (show ¬ VerP (g : Int) d (s : Int) (m : Int) b from fun hv => hdS (by have := hv.2.1; rwa [Int.toNat_natCast, HL.out.2, HDL.out] at this))
    clear hdS
    go_wp2_with fail
    refine (rsize_any (g : Int) _).mono ?_
    rintro e w' ⟨rfl, rfl⟩
    rw [HRS.out]
    go_wp2
    go_ret
    exact ⟨⟨_, rfl, ⟨fun e => Bool.noConfusion e, fun k => absurd k HV.out⟩⟩, HB.out⟩
  subst hdS
  have t1 : ((dn : Int) != (dn : Int)) = false := by simp
  have hK := HL.out.1
  obtain ⟨N1, hN1⟩ : ∃ N1, bn - 1 = N1 := ⟨_, rfl⟩
  have i1 : (bn : Int) - 1 = (N1 : Int) := by omega
  have i2 : (N1 : Int) - (dn : Int) = (KK : Int) := by omega
  have hN1b : N1 < bn := by omega
  have hKN : KK ≤ N1 := by omega
  have HND := Lib.hid (show N1 - KK = dn by omega)
  have hKb : KK ≤ 2501 := by omega
  rw [hN1] at HPI
  clear hN1 hK
  go_wp2_with fail
  refine (rsize_any (g : Int) _).mono ?_
  rintro e w' ⟨rfl, rfl⟩
  rw [HRS.out]
  go_wp2_with fail
  refine (rinner_any g HH.out da dn dc d sa s sc (partS g s m b) _ (HD.out.below HB.out) HS.out.reads HBD.out HBS.out (by omega) (by omega)).mono ?_
  rintro e w2 ⟨⟨v, rfl, hv⟩, hb⟩
  obtain ⟨xa, xn, xc, rfl, hxn, hx⟩ := own_slM hv
  have hxn2 : dn = xn := by rw [hxn, innerP_len HH.out, HL.out.2]
  subst hxn2
  have HX := Lib.hid hx
  have HXB := Lib.hid (show Byt (innerP g d (partS g s m b)) from mHash_byt HH.out _)
  have HB2 := Lib.hid (HB.out.trans (hb.mono HB.out.size))
  clear hv hb hx hxn
  have hlc := HR.out.le
  have hmx := HR.out.max
  obtain ⟨pi, hpi⟩ : ∃ p, p = (if bc = KK then ba else ba.map (·.add KK)) := ⟨_, rfl⟩
  have hs1 : ∀ w, (sizeOf (Tryd.prog.elem 22)).run Tryd.prog w = .ok 1 w := fun _ => by kernel_rfl
  have sl2 : ∀ W, (Instr.sliceAt 22 (.slice ba bn bc) (some (.int .i64 (KK : Int))) (some (.int .i64 (N1 : Int))) none).run Tryd.prog W = .ok (.slice pi dn (bc - KK)) W := fun W => by
    rw [run_sliceAt_slice W _ _ _ _ _ (by kernel_rfl), run_slice_lh W _ _ bn bc (by kernel_rfl) .i64 .i64 (KK : Int) (N1 : Int) (by omega) (by omega) (by omega), hs1, hpi, show dn = N1 - KK from HND.out.symm]
    simp [sliced, Result.andThen]
  have HIr := Lib.hid (show Reads .u8 w2 pi dn (bc - KK) (partI g m b) from by
    have h1 := (HR.out.below HB2.out).sub KK N1 hKN (by omega)
    rwa [← HPI.out, ← hpi, HND.out] at h1)
  have HIB := Lib.hid (show Byt (partI g m b) from byt_take (byt_drop HBB.out _) _)
  clear hpi hs1
  have wN1 : IntKind.i64.wrap (N1 : Int) = (N1 : Int) := by rw [IntKind.wrap_i64]; omega
  have dN : ∀ n, Below w2.heap.size w2 (w2.drewN n) := fun _ => ⟨rfl, rfl, rfl, Nat.le_refl _, fun _ _ => rfl⟩
  have c1 : ∀ n, (convert 22 9 (.slice xa dn xc)).run Tryd.prog (w2.drewN n) = .ok (.string (strOf (u8s (innerP g d (partS g s m b))))) (w2.drewN n) := fun n => convB ((HX.out.reads.below (dN n)).bts HXB.out)
  have c2 : ∀ n, (convert 22 9 (.slice pi dn (bc - KK))).run Tryd.prog (w2.drewN n) = .ok (.string (strOf (u8s (partI g m b)))) (w2.drewN n) := fun n => convB ((HIr.out.below (dN n)).bts HIB.out)
  have HDN : Hid (∀ n, Below w2.heap.size w2 (w2.drewN n)) := Lib.hid dN
  clear dN
  by_cases heq : innerP g d (partS g s m b) = partI g m b
  · have HV := Lib.hid (show VerP (g : Int) d (s : Int) (m : Int) b from ⟨HG.out, by rw [Int.toNat_natCast, HL.out.2, HDL.out], by simp only [Int.toNat_natCast]; exact heq⟩)
    rw [heq] at c1
    clear heq
    go_wp2_with fail
    go_big_quiet (fail)
    simp only [Exit.then]
    go_wp2
    go_ret
    exact ⟨⟨_, rfl, ⟨fun _ => HV.out, fun _ => rfl⟩⟩, HB2.out.trans ((HDN.out _).mono HB2.out.size)⟩
  · have HV := Lib.hid (show ¬ VerP (g : Int) d (s : Int) (m : Int) b from fun hv => heq (by have := hv.2.2; simpa only [Int.toNat_natCast] using this))
    have hst := strOf_neP HXB.out HIB.out heq
    clear heq
    go_wp2_with fail
    go_big_quiet (fail)
    simp only [Exit.then]
    go_wp2
    go_ret
    exact ⟨⟨_, rfl, ⟨fun e => Bool.noConfusion e, fun k => absurd k HV.out⟩⟩, HB2.out.trans ((HDN.out _).mono HB2.out.size)⟩
end Go.Proofs.YtcdglhmapijebaaDoor

namespace Go.Proofs.YtcdglhmapijebaaDoor
open Go.RowKit
set_option maxRecDepth 100000

/-- More than statements go through. -/
def BigAsk (dn sn bn : Nat) (n : Int) : Prop := 2000 < dn + sn + bn ∨ (5000 < n ∧ n ≤ 524288)
instance (dn sn bn : Nat) (n : Int) : Decidable (BigAsk dn sn bn n) := inferInstanceAs (Decidable (_ ∨ _))

theorem great_any (h : Int) (da : Option Addr) (dn dc : Nat) (sa : Option Addr) (sn sc : Nat) (ba : Option Addr) (bn bc : Nat) (S n : Int) (hd : dn ≤ 140737488351232) (hs : sn ≤ 140737488351232) (hb : bn ≤ 140737488351232) (w : World) (r : Int) (hr : r = if BigAsk dn sn bn n then 1 else 0) :
    Calls Tryd.prog 8 #[.agg #[.int .i64 h, .slice da dn dc, .slice sa sn sc, .slice ba bn bc, .int .i64 S, .int .i64 n]] w fun e w' => e = .returned (.int .i64 r) ∧ Below w.heap.size w w' := by
  by_cases h1 : 2000 < dn + sn + bn
  · have HR := Lib.hid (show r = 1 from hr.trans (if_pos (show BigAsk dn sn bn n from .inl h1)))
    have t1 : decide ((2000 : Int) < (dn : Int) + (sn : Int) + (bn : Int)) = true := decide_eq_true (by omega)
    clear h1 hr
    go_enter Tryd.func8, Tryd.ntmps8
    go_wp2
    go_ret
    exact ⟨by rw [HR.out]; rfl, (Below.refl _ w).alloc (Nat.le_refl _) _⟩
  · have t1 : decide ((2000 : Int) < (dn : Int) + (sn : Int) + (bn : Int)) = false := decide_eq_false (by omega)
    by_cases h2 : 5000 < n
    · have t2 : decide ((5000 : Int) < n) = true := decide_eq_true h2
      by_cases h3 : n ≤ 524288
      · have HR := Lib.hid (show r = 1 from hr.trans (if_pos (show BigAsk dn sn bn n from .inr ⟨h2, h3⟩)))
        have t3 : decide (n ≤ (524288 : Int)) = true := decide_eq_true h3
        clear h1 h2 h3 hr
        go_enter Tryd.func8, Tryd.ntmps8
        go_wp2
        go_ret
        exact ⟨by rw [HR.out]; rfl, (Below.refl _ w).alloc (Nat.le_refl _) _⟩
      · have HR := Lib.hid (show r = 0 from hr.trans (if_neg (show ¬ BigAsk dn sn bn n from fun k => k.elim h1 (fun k => h3 k.2))))
        have t3 : decide (n ≤ (524288 : Int)) = false := decide_eq_false h3
        clear h1 h2 h3 hr
        go_enter Tryd.func8, Tryd.ntmps8
        go_wp2
        go_ret
        exact ⟨by rw [HR.out]; rfl, (Below.refl _ w).alloc (Nat.le_refl _) _⟩
    · have HR := Lib.hid (show r = 0 from hr.trans (if_neg (show ¬ BigAsk dn sn bn n from fun k => k.elim h1 (fun k => h2 k.1))))
      have t2 : decide ((5000 : Int) < n) = false := decide_eq_false h2
      clear h1 h2 hr
      go_enter Tryd.func8, Tryd.ntmps8
      go_wp2
      go_ret
      exact ⟨by rw [HR.out]; rfl, (Below.refl _ w).alloc (Nat.le_refl _) _⟩

theorem ask_cells {X : World} {P : Nat} {c0 c1 c2 c3 c4 c5 : Value} {t : TypeId} (h : X.heap[P]? = some (.cells #[c0, c1, c2, c3, c4, c5] t)) : X.cell? ⟨P, 0, none⟩ = some c0 ∧ X.cell? ⟨P, 1, none⟩ = some c1 ∧ X.cell? ⟨P, 2, none⟩ = some c2 ∧ X.cell? ⟨P, 3, none⟩ = some c3 ∧ X.cell? ⟨P, 4, none⟩ = some c4 ∧ X.cell? ⟨P, 5, none⟩ = some c5 := by
  simp [World.cell?, h]

end Go.Proofs.YtcdglhmapijebaaDoor

namespace Go.Proofs.YtcdglhmapijebaaDoor
open Go.RowKit
set_option maxRecDepth 100000

/-- A result of bytes and an error, on a row of its own. -/
def BytsErr (F : List Nat) (fe : Int) (w : World) (e : Ending) (w' : World) : Prop :=
  (∃ (a1 : Option Addr) (n1 c1 : Nat), e = .returned (.tuple #[.slice a1 n1 c1, .int .i64 fe]) ∧ OwnQ .u8 5 w.heap.size w' (.slice a1 n1 c1) F) ∧ Below w.heap.size w w'

theorem enc_pair (h : Int) (D S : List Nat) (n : Int) (n0 : -9223372036854775808 ≤ n) (n1 : n ≤ 9223372036854775807) (hn : n ≤ 5000 ∨ 524288 < n) (bD : Byt D) (bS : Byt S) :
    ∃ F fe, Byt F ∧ F.length ≤ 3000 ∧
      (∀ (da : Option Addr) (dn dc : Nat) (sa : Option Addr) (sn sc : Nat) (w : World), Kinds w → Reads .u8 w da dn dc D → Reads .u8 w sa sn sc S →
        Calls Tryd.prog 9 #[.int .i64 h, .slice da dn dc, .slice sa sn sc, .int .i64 n] w (BytsErr F fe w)) ∧
      (∀ (da : Option Addr) (dn dc : Nat) (sa : Option Addr) (sn sc : Nat) (w : World), Reads .u8 w da dn dc D → Reads .u8 w sa sn sc S →
        Calls Tryd.prog 10 #[.int .i64 h, .slice da dn dc, .slice sa sn sc, .int .i64 n] w (BytsErr F fe w)) := by
  by_cases hg : RoomP h (S.length : Int) n ∧ D.length = mSize h.toNat
  · obtain ⟨hrm, hdl⟩ := hg
    obtain ⟨hh, hs0, hn0, hn5, -⟩ := id hrm
    obtain ⟨g, rfl⟩ : ∃ g : Nat, h = (g : Int) := ⟨h.toNat, by rcases hh with e | e | e | e <;> omega⟩
    obtain ⟨m, rfl⟩ : ∃ m : Nat, n = (m : Int) := ⟨n.toNat, by omega⟩
    rw [Int.toNat_natCast] at hh hdl
    have hE := ems_fine hh D S (sn := S.length) (n := m) rfl bS hrm
    refine ⟨emsP g D S m, 0, hE.2.2.2.2, by rw [hE.2.2.2.1]; unfold lenP; omega, ?_, ?_⟩
    · intro da dn dc sa sn sc w hk hd hs
      refine (encode_any (g : Int) da dn dc D sa sn sc S (m : Int) n0 n1 (by omega) w hk hd hs bD bS).mono ?_
      rintro e w' ⟨hb, ⟨-, gE, rfl, hE⟩ | ⟨hno, -⟩⟩
      · exact ⟨⟨_, _, _, rfl, by simpa only [Int.toNat_natCast] using hE⟩, hb⟩
      · exact absurd ⟨by rw [← hs.length]; exact hrm, by rw [← hd.length, Int.toNat_natCast]; exact hdl⟩ hno
    · intro da dn dc sa sn sc w hd hs
      refine (rencode_p g hh da dn dc D sa sn sc S m w hd hs bD bS (by rw [← hs.length]; exact hrm) (by rw [← hd.length]; exact hdl) (by omega)).mono ?_
      rintro e w' ⟨⟨v, rfl, hv⟩, hb⟩
      obtain ⟨a1, n1, c1, rfl, -, h4⟩ := own_slM hv
      exact ⟨⟨a1, n1, c1, rfl, h4⟩, hb⟩
  · refine ⟨[], 90, fun x hx => (by cases hx), Nat.zero_le _, ?_, ?_⟩
    · intro da dn dc sa sn sc w hk hd hs
      refine (encode_any h da dn dc D sa sn sc S n n0 n1 (by omega) w hk hd hs bD bS).mono ?_
      rintro e w' ⟨hb, ⟨hyes, -⟩ | ⟨-, rfl⟩⟩
      · exact absurd ⟨by rw [hs.length]; exact hyes.1, by rw [hd.length]; exact hyes.2⟩ hg
      · exact ⟨⟨none, 0, 0, rfl, OwnQ.nil _ _ _ _⟩, hb⟩
    · intro da dn dc sa sn sc w hd hs
      have h1 := hd.len_le
      have h2 := hs.len_le
      unfold maxLen at h1 h2
      refine (rencode_no h da dn dc sa sn sc n h1 h2 w (fun k => hg ⟨by rw [hs.length]; exact k.1, by rw [hd.length]; exact k.2⟩)).mono ?_
      rintro e w' ⟨rfl, rfl⟩
      exact ⟨⟨none, 0, 0, rfl, OwnQ.nil _ _ _ _⟩, Below.refl _ _⟩

theorem sal_pair (h : Int) (B : List Nat) (sn n : Int) (s0 : -9223372036854775808 ≤ sn) (s1 : sn ≤ 9223372036854775807) (n0 : -9223372036854775808 ≤ n) (n1 : n ≤ 9223372036854775807) (hn : n ≤ 5000 ∨ 524288 < n) (bB : Byt B) :
    ∃ F fe, Byt F ∧ F.length ≤ 3000 ∧
      (∀ (ba : Option Addr) (bn bc : Nat) (w : World), Kinds w → Reads .u8 w ba bn bc B →
        Calls Tryd.prog 11 #[.int .i64 h, .slice ba bn bc, .int .i64 sn, .int .i64 n] w (BytsErr F fe w)) ∧
      (∀ (ba : Option Addr) (bn bc : Nat) (w : World), Reads .u8 w ba bn bc B →
        Calls Tryd.prog 12 #[.int .i64 h, .slice ba bn bc, .int .i64 sn, .int .i64 n] w (BytsErr F fe w)) := by
  by_cases hg : GoodP h sn n B
  · obtain ⟨hh, hs0, hn0, hn5, -⟩ := id hg.1
    have hfo : Byt (partS h.toNat sn.toNat n.toNat B) := fun x hx => byt_drop (masked_byt hh _ _ (byt_take bB _)) _ x hx
    refine ⟨partS h.toNat sn.toNat n.toNat B, 0, hfo, ?_, ?_, ?_⟩
    · have h2 := hg.2.1
      unfold partS
      rw [List.length_drop, masked_len hh, List.length_take]
      have : lenP n.toNat ≤ 700 := by unfold lenP; omega
      omega
    · intro ba bn bc w hk hr
      refine (salt_any h ba bn bc B sn n s0 s1 n0 n1 (by omega) w hk hr bB).mono ?_
      rintro e w' ⟨hb, ⟨-, sa, sc, rfl, hS⟩ | ⟨hno, -⟩⟩
      · exact ⟨⟨_, _, _, rfl, hS⟩, hb⟩
      · exact absurd hg hno
    · intro ba bn bc w hr
      refine (rsalt_any h ba bn bc B sn n s0 s1 (by omega) w hr bB).mono ?_
      rintro e w' ⟨hb, ⟨-, sa, sc, rfl, hS⟩ | ⟨hno, -⟩⟩
      · exact ⟨⟨_, _, _, rfl, hS⟩, hb⟩
      · exact absurd hg hno
  · refine ⟨[], 90, fun x hx => (by cases hx), Nat.zero_le _, ?_, ?_⟩
    · intro ba bn bc w hk hr
      refine (salt_any h ba bn bc B sn n s0 s1 n0 n1 (by omega) w hk hr bB).mono ?_
      rintro e w' ⟨hb, ⟨hy, -⟩ | ⟨-, rfl⟩⟩
      · exact absurd hy hg
      · exact ⟨⟨none, 0, 0, rfl, OwnQ.nil _ _ _ _⟩, hb⟩
    · intro ba bn bc w hr
      refine (rsalt_any h ba bn bc B sn n s0 s1 (by omega) w hr bB).mono ?_
      rintro e w' ⟨hb, ⟨hy, -⟩ | ⟨-, rfl⟩⟩
      · exact absurd hy hg
      · exact ⟨⟨none, 0, 0, rfl, OwnQ.nil _ _ _ _⟩, hb⟩

theorem ver_pair (h : Int) (D B : List Nat) (sn n : Int) (s0 : -9223372036854775808 ≤ sn) (s1 : sn ≤ 9223372036854775807) (n0 : -9223372036854775808 ≤ n) (n1 : n ≤ 9223372036854775807) (hn : n ≤ 5000 ∨ 524288 < n) (bD : Byt D) (bB : Byt B) :
    ∃ v : Bool, (∀ (da : Option Addr) (dn dc : Nat) (ba : Option Addr) (bn bc : Nat) (w : World), Kinds w → Reads .u8 w da dn dc D → Reads .u8 w ba bn bc B →
        Calls Tryd.prog 13 #[.int .i64 h, .slice da dn dc, .slice ba bn bc, .int .i64 sn, .int .i64 n] w fun e w' => e = .returned (.bool v) ∧ Below w.heap.size w w') ∧
      (∀ (da : Option Addr) (dn dc : Nat) (ba : Option Addr) (bn bc : Nat) (w : World), Reads .u8 w da dn dc D → Reads .u8 w ba bn bc B →
        Calls Tryd.prog 14 #[.int .i64 h, .slice da dn dc, .slice ba bn bc, .int .i64 sn, .int .i64 n] w fun e w' => e = .returned (.bool v) ∧ Below w.heap.size w w') := by
  have key : ∃ v : Bool, v = true ↔ VerP h D sn n B := by
    by_cases hg : VerP h D sn n B
    · exact ⟨true, fun _ => hg, fun _ => rfl⟩
    · exact ⟨false, fun e => Bool.noConfusion e, fun k => absurd k hg⟩
  obtain ⟨v, hv⟩ := key
  have one : ∀ v' : Bool, (v' = true ↔ VerP h D sn n B) → v' = v := fun v' h' => by
    cases v <;> cases v' <;> simp_all
  refine ⟨v, ?_, ?_⟩
  · intro da dn dc ba bn bc w hk hd hr
    refine (verify_any h da dn dc D ba bn bc B sn n s0 s1 n0 n1 (by omega) w hk hd bD hr bB).mono ?_
    rintro e w' ⟨⟨v', rfl, h'⟩, hb⟩
    exact ⟨by rw [one v' h'], hb⟩
  · intro da dn dc ba bn bc w hd hr
    refine (rverify_any h da dn dc D ba bn bc B sn n s0 s1 (by omega) w hd bD hr bB).mono ?_
    rintro e w' ⟨⟨v', rfl, h'⟩, hb⟩
    exact ⟨by rw [one v' h'], hb⟩

theorem room_pair (h s b : Int) (s0 : -9223372036854775808 ≤ s) (s1 : s ≤ 9223372036854775807) (w : World) :
    Calls Tryd.prog 16 #[.int .i64 h, .int .i64 s, .int .i64 b] w fun e w' => e = .returned (.bool (decide (RoomP h s b))) ∧ w = w' :=
  (rroom_any h s b s0 s1 w).mono fun e w' ⟨⟨v, h1, h2⟩, h3⟩ => ⟨by
    rw [h1]
    by_cases hg : RoomP h s b
    · rw [h2.2 hg, decide_eq_true hg]
    · rw [Bool.eq_false_iff.2 fun e => hg (h2.1 e), decide_eq_false hg], h3⟩
end Go.Proofs.YtcdglhmapijebaaDoor
