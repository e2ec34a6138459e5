/-
  Layer 8: the law MaskSums. (Written by wip/gen_rm4.py.)
-/
import Derived.Test.YtmfjhgjplmpecaaDoorPk1
import Derived.Test.YtmfjhgjplmpecaaDoorPk2
import Derived.Test.YtmfjhgjplmpecaaDoorPk3
import Derived.Test.YtmfjhgjplmpecaaDoorPk4
import Derived.Test.YtmfjhgjplmpecaaDoorPk5
import Derived.Test.YtmfjhgjplmpecaaDoorPk6
import Derived.Test.YtmfjhgjplmpecaaDoorPk7
import Derived.Test.YtmfjhgjplmpecaaDoorPk8
import Derived.Test.YtmfjhgjplmpecaaDoorPk9
import Derived.Test.YtmfjhgjplmpecaaDoorPk10
import Derived.Test.YtmfjhgjplmpecaaDoorPk11
import Derived.Test.YtmfjhgjplmpecaaDoorPk12
import Derived.Test.YtmfjhgjplmpecaaDoorPk13
import Derived.Maps.AppendAt
import Derived.BigQuiet
set_option linter.unusedVariables false
set_option linter.unusedSimpArgs false
namespace Go.Proofs.YtmfjhgjplmpecaaDoor
open Go.RowKit
set_option maxRecDepth 100000

theorem infoSl : (Tryd.prog.info? 23).map (fun i => (i.zero, i.size, i.bytes)) = some (some (.slice none 0 0), 1, 24) := by kernel_rfl
/-- A row's slice. -/
def slcM (x : Option Addr × Nat × Nat) : Value := .slice x.1 x.2.1 x.2.2
/-- What a slice of rows of the law's own holds. -/
def OwnRows (B : Nat) (R : Nat → Option Addr × Nat × Nat × List Nat) (i : Nat) (L : List (Option Addr × Nat × Nat)) (ov : Value) (W : World) : Prop :=
  L.length = i ∧ W.ownsRow B 23 1 ov i (L.map slcM) ∧ ∀ j x, L[j]? = some x → OwnQ .u8 5 B W (slcM x) (R j).2.2.2
theorem OwnRows.below {B i : Nat} {R : Nat → Option Addr × Nat × Nat × List Nat} {L : List (Option Addr × Nat × Nat)} {ov : Value} {W W' : World} (h : OwnRows B R i L ov W) (hb : Below W.heap.size W W') : OwnRows B R i L ov W' :=
  ⟨h.1, by
    obtain ⟨h1, h2⟩ := h.2.1
    refine ⟨h1, ?_⟩
    rcases h2 with h2 | ⟨g, cap, cur, rfl, hB, hg, rest⟩
    · exact .inl h2
    · exact .inr ⟨g, cap, cur, rfl, hB, by rw [hb.block g (Array.getElem?_eq_some_iff.1 hg).1]; exact hg, rest⟩, fun j x hj => (h.2.2 j x hj).below hb⟩
theorem row_apart {B B' : Nat} {W : World} {v ov : Value} {l : List Nat} {n : Nat} {xs : List Value} (h : OwnQ .u8 5 B W v l) (ho : W.ownsRow B' 23 1 ov n xs) : v.ownBlock = none ∨ v.ownBlock ≠ ov.ownBlock := by
  rcases h.2 with ⟨rfl, _⟩ | ⟨g, cap, cur, rfl, _, hg, _⟩
  · exact .inl rfl
  · refine .inr fun e => ?_
    rcases ho.2 with ⟨rfl, _⟩ | ⟨g', cap', cur', rfl, _, hg', _⟩
    · simp [Value.ownBlock] at e
    · simp [Value.ownBlock] at e
      subst e
      rw [hg] at hg'
      simp at hg'
theorem flat_congr {R R' : Nat → Option Addr × Nat × Nat × List Nat} : ∀ n, (∀ j, j < n → (R j).2.2.2 = (R' j).2.2.2) → flatM R n = flatM R' n
  | 0, _ => rfl
  | n + 1, h => by rw [flatM, flatM, flat_congr n (fun j hj => h j (by omega)), h n (by omega)]
/-- The rows of the law's own, as rows that a hash is of. -/
def ownR (R : Nat → Option Addr × Nat × Nat × List Nat) (L : List (Option Addr × Nat × Nat)) (j : Nat) : Option Addr × Nat × Nat × List Nat := ((L.getD j (none, 0, 0)).1, (L.getD j (none, 0, 0)).2.1, (L.getD j (none, 0, 0)).2.2, (R j).2.2.2)
theorem OwnRows.rows {B n : Nat} {R : Nat → Option Addr × Nat × Nat × List Nat} {L : List (Option Addr × Nat × Nat)} {oa : Option Addr} {m c : Nat} {W W0 : World} {a0 : Option Addr} (h : OwnRows B R n L (.slice oa m c) W) (hR : RowsM W0 a0 n R) : RowsM W oa n (ownR R L) := by
  have hget : ∀ j, j < n → L[j]? = some (L.getD j (none, 0, 0)) := fun j hj => by
    rw [List.getD_eq_getElem?_getD, List.getElem?_eq_getElem (by rw [h.1]; exact hj)]; rfl
  refine ⟨fun j hj => ?_, fun hp => ?_⟩
  · have h1 := h.2.2 j _ (hget j hj)
    have h2 := hR.each j hj
    refine ⟨h1.reads, h2.2.1, ?_⟩
    have h3 := h1.cap.1
    have h4 := h2.1.length
    have h5 := h2.2.2
    show (L.getD j (none, 0, 0)).2.1 ≤ 1048576
    omega
  · rcases h.2.1.2 with ⟨e, h0⟩ | ⟨g, cap, cur, e, -, hg, -⟩
    · omega
    · cases e
      refine ⟨g, 0, rfl, (Array.getElem?_eq_some_iff.1 hg).1, fun j hj => ?_⟩
      have := World.ownsRow.cellAt h.2.1 j (by rw [Nat.mul_one]; exact hj)
      rw [Nat.zero_add, this, List.getElem?_map, hget j hj]
      rfl
theorem OwnQ.kpB {q : IntKind} {E B : Nat} {w X : World} {v : Value} {l : List Nat} {Ex : Nat → Prop} (h : OwnQ q E B w v l) (hk : KpV Ex w X) (hn : ∀ g, v.ownBlock = some g → ¬ Ex g) : OwnQ q E B X v l := by
  obtain ⟨h1, h2⟩ := h
  refine ⟨h1, ?_⟩
  rcases h2 with h2 | ⟨g, cap, cur, rfl, hB, hg, rest⟩
  · exact .inl h2
  · exact .inr ⟨g, cap, cur, rfl, hB, by rw [hk.2 g (Array.getElem?_eq_some_iff.1 hg).1 (hn g (by simp [Value.ownBlock]))]; exact hg, rest⟩
theorem sumL_byt (h : Int) (m : List Nat) : Byt (sumL h m) := by
  unfold sumL
  split
  · rename_i hh; exact mHash_byt hh m
  · exact fun x hx => by cases hx
theorem maskL_byt (h : Int) (m : List Nat) (s : Int) : Byt (maskL h m s) := by
  unfold maskL
  split
  · rename_i hh; exact fun x hx => maskAll_byt hh.1 m _ x (List.mem_of_mem_take hx)
  · exact fun x hx => by cases hx
theorem sumL_len (h : Int) (m : List Nat) : (sumL h m).length ≤ 64 := by
  unfold sumL
  split
  · rename_i hh; rw [mHash_len hh]; exact (mSize_le hh).2
  · exact Nat.zero_le _
theorem maskL_len (h : Int) (m : List Nat) (s : Int) (hs : s ≤ 600 ∨ 65536 < s) : (maskL h m s).length ≤ 600 := by
  unfold maskL
  split
  · rename_i hh
    unfold maskN
    rw [List.length_take]
    omega
  · exact Nat.zero_le _
theorem grown_cellM (W : World) (a : Addr) (v : Value) : W.grownBy (W.setCell a v) (some a.block) :=
  ⟨rfl, rfl, rfl, (KeepsWalks.setCell W _ v).size, fun k _ hk => Below.heap_setCell _ _ _ k (fun e => hk (by rw [e]))⟩
theorem byt_set {l : List Nat} (h : Byt l) (j x : Nat) (hx : x < 256) : Byt (l.set j x) := fun y hy => by
  rcases List.mem_or_eq_of_mem_set hy with h1 | h1
  · exact h y h1
  · rw [h1]; exact hx
theorem byt_at {l : List Nat} (h : Byt l) (j : Nat) : l[j]?.getD 0 < 256 := by
  by_cases hj : j < l.length
  · rw [List.getElem?_eq_getElem hj]; exact h _ (List.getElem_mem hj)
  · rw [List.getElem?_eq_none (by omega)]; decide
theorem nameB_at (j : Nat) (hj : j < 4) : nameB ((j + 1 : Nat) : Int) = strOf (mName (j + 1)) := by
  unfold nameB
  rw [Int.toNat_natCast, if_pos (by unfold IsHash; omega)]

set_option maxHeartbeats 8000000 in
theorem msums_1 (h : Int) (nm : ByteArray) (l : Option Addr) (n c : Nat) (R : Nat → Option Addr × Nat × Nat × List Nat) (size : Int) (w : World) (hk : Kinds w) (hR : RowsM w l n R) (hn : n ≤ 20) (hz : size ≤ 600) :
    Calls Tryd.prog 3 #[.int .i64 h, .string nm, .slice l n c, .int .i64 size] w fun e w' => e = .returned (.bool true) ∧ Below w.heap.size w w' := by
  obtain ⟨i0, hi0, hz0, hz1, hz2⟩ := info_parts infoMk
  obtain ⟨j0, hj0, hy0, hy1, hy2⟩ := info_parts infoSl
  have HR := Lib.hid hR
  have HK := Lib.hid hk
  have HFB := Lib.hid (flatM_byt hR n (Nat.le_refl _))
  have HZ := Lib.hid (show size ≤ 600 ∨ 65536 < size by omega)
  have t1 : decide ((20 : Int) < (n : Int)) = false := decide_eq_false (by omega)
  clear hR hk
  have t2 : decide ((600 : Int) < size) = false := decide_eq_false (by omega)
  clear hz
  go_enter Tryd.func3, Tryd.ntmps3
  go_wp2_with fail
  refine (rjoin_any l n c R w HR.out (by omega)).mono ?_
  rintro e w1 ⟨⟨v, rfl, hv⟩, hb⟩
  obtain ⟨aa, an, ac, rfl, han, ha⟩ := own_slM hv
  have HA := Lib.hid ha.reads
  have HAN := Lib.hid han
  have HB1 := Lib.hid hb
  clear hv ha han hb
  by_cases hbig : 1500 < an
  · have t4 : decide ((1500 : Int) < (an : Int)) = true := decide_eq_true (by omega)
    go_wp2
    go_ret
    exact ⟨rfl, HB1.out⟩
  have t4 : decide ((1500 : Int) < (an : Int)) = false := decide_eq_false (by omega)
  have HK1 := Lib.hid (HK.out.below HB1.out)
  have HR1 := Lib.hid (HR.out.below HB1.out)
  clear HK HR
  go_wp2_with fail
  go_loopw [10, 45] (fun ov iv wq => ∃ (i : Nat) (oa : Option Addr) (oc : Nat), iv = .int .i64 (i : Int) ∧ i ≤ n ∧ ov = .slice oa i oc ∧ Hid ((∃ L, OwnRows w1.heap.size R i L (.slice oa i oc) wq) ∧ Below w1.heap.size w1 wq)) (fun _ iv _ => n - (intOf iv).toNat)
  case atStart => exact ⟨0, none, 0, rfl, Nat.zero_le _, rfl, ⟨[], rfl, World.ownsRow_nil _ _ _ _, fun j x hx => by simp at hx⟩, Below.refl _ _⟩
  case round =>
    obtain ⟨i, oa, oc, rfl, hi, rfl, hI⟩ := hrel
    obtain ⟨L, hL⟩ := hI.out.1
    have HL := Lib.hid hL
    have HBq := Lib.hid hI.out.2
    clear hL hI
    by_cases hlt : i < n
    · have tl : decide (i < n) = true := by simp; omega
      obtain ⟨b, off, rfl, hbl, hcl⟩ := HR1.out.cells (by omega)
      have hE := HR1.out.each i hlt
      have hci := (HBq.out.cell (p := ⟨b, off + i, none⟩) hbl).trans (hcl i hlt)
      have hcie := (((Below.refl wr.heap.size wr).alloc (Nat.le_refl _) (.cells #[] 5)).cell (p := ⟨b, off + i, none⟩) (Nat.lt_of_lt_of_le hbl HBq.out.size)).trans hci
      obtain ⟨⟨ra, rl, rc, lst⟩, hri⟩ : ∃ r, r = R i := ⟨_, rfl⟩
      rw [← hri] at hci hcie hE
      dsimp only at hci hcie hE
      have HE := Lib.hid hE
      have hrl := hE.2.2
      have HRI := Lib.hid hri
      clear hE hcl hri
      have hsz := HBq.out.size
      go_wp2_with (at_builtin; first
        | (refine wpList_append_q1 .u8 _ rfl _ _ 23 rfl wr.heap.size 5 i0 Tryd.underlying23 hi0 hz0 hz1 hz2 _ [] rfl (OwnQ.empty .u8 wr _ _ (Nat.le_refl _)) ra rl rc lst rfl ((HE.out.1.below HBq.out).below ((Below.refl _ _).alloc (Nat.le_refl _) _)) (by simp; omega) (by simp) ?_; intro v5 w5 hown hgrow; rw [List.nil_append] at hown; obtain ⟨na, nn, nc, rfl, hnn, ho5⟩ := own_slM hown; have HO5 := Lib.hid ho5; have HB5 := Lib.hid (hgrow wr ((Below.refl _ _).alloc (Nat.le_refl _) _)); have HL5 := Lib.hid (HL.out.below HB5.out); clear hown hgrow ho5 hnn)
        | (refine wpList_append_own_at _ rfl _ _ 22 rfl w1.heap.size 23 j0 (.slice none 0 0) 1 24 Tryd.underlying22 hj0 hy0 hy1 hy2 rfl (by decide) (.slice oa i oc) i (L.map slcM) rfl (World.ownsRow.alloc HL5.out.2.1 _) ⟨w5.heap.size, 0, none⟩ 1 1 [.slice na nn nc] rfl rfl (cell_one_new _ _ _) (by simp [Value.oneCell']) (by unfold maxLen; omega) (by omega) (by have := HB5.out.size; simp; omega) ?_; intro v6 w6 hown hgrow _ hblk; have HOW := Lib.hid hown; have HGR := Lib.hid hgrow; have HBL := Lib.hid hblk; clear hown hgrow hblk))
      clear hci hcie
      obtain ⟨oa6, oc6, hv6⟩ : ∃ oa6 oc6, v6 = .slice oa6 (i + 1) oc6 := by
        rcases HOW.out.2 with ⟨rfl, h0⟩ | ⟨g, cap, cur, rfl, _⟩
        · omega
        · exact ⟨_, _, rfl⟩
      subst hv6
      have hal5 := (HBq.out.trans (HB5.out.mono HBq.out.size)).alloc (by have := HB5.out.size; omega) (.cells #[.slice na nn nc] 23)
      have HB6 := Lib.hid (hal5.grown HGR.out hal5.size (fun g hg => (World.ownsRow.lt HL5.out.2.1 g hg).1))
      have HL6 := Lib.hid (show OwnRows w1.heap.size R (i + 1) (L ++ [(na, nn, nc)]) (.slice oa6 (i + 1) oc6) w6 from by
        refine ⟨by rw [List.length_append, HL.out.1]; rfl, ?_, fun j x hx => ?_⟩
        · rw [List.map_append]
          exact HOW.out
        · by_cases hj : j < L.length
          · rw [List.getElem?_append_left hj] at hx
            have h1 := (HL5.out.2.2 j x hx).alloc (.cells #[.slice na nn nc] 23)
            exact World.ownsRow.kept h1 HGR.out (row_apart (HL5.out.2.2 j x hx) HL5.out.2.1)
          · rw [List.getElem?_append_right (by omega)] at hx
            have hj0' : j - L.length = 0 := by
              by_cases hz : j - L.length = 0
              · exact hz
              · rw [List.getElem?_eq_none (by simp; omega)] at hx
                cases hx
            rw [hj0'] at hx
            cases hx
            have hji : j = i := by have := HL.out.1; omega
            rw [hji, ← HRI.out]
            have h1 := (HO5.out.mono hsz).alloc (.cells #[.slice na nn nc] 23)
            exact World.ownsRow.kept h1 HGR.out (row_apart HO5.out HL5.out.2.1))
      clear hal5
      go_roundw
      case rel => exact ⟨i + 1, oa6, oc6, by go_num, by omega, rfl, ⟨_, HL6.out⟩, HB6.out⟩
      case measure => simp [intOf] <;> omega
    · obtain rfl : i = n := by omega
      have tl : decide (i < i) = false := by simp
      have HK2 := Lib.hid (HK1.out.below HBq.out)
      have HR2 := Lib.hid (HR1.out.below HBq.out)
      have HA2 := Lib.hid (HA.out.below HBq.out)
      have HB2 := Lib.hid (HB1.out.trans (HBq.out.mono HB1.out.size))
      have HOR := Lib.hid (HL.out.rows HR1.out)
      have HFE := Lib.hid (show flatM (ownR R L) i = flatM R i from flat_congr i (fun j hj => rfl))
      obtain ⟨w2, hw2⟩ : ∃ x, x = wr := ⟨_, rfl⟩
      subst hw2
      clear HK1 HR1 HA HB1 hlt
      go_wp2_with fail
      refine (msum_any h oa i oc (ownR R L) _ HK2.out HOR.out (by omega)).mono ?_
      rintro e w3 ⟨⟨sa, sm, s2, sc, rfl, hsr, hs⟩, hb⟩
      rw [HFE.out] at hs hsr
      have HSR := Lib.hid hsr
      clear hsr
      have HS := Lib.hid hs
      have HK3 := Lib.hid (HK2.out.below hb)
      have HR3 := Lib.hid (HR2.out.below hb)
      have HA3 := Lib.hid (HA2.out.below hb)
      have HL3 := Lib.hid (HL.out.below hb)
      have HB3 := Lib.hid (HB2.out.trans (hb.mono HB2.out.size))
      have hs23 := hb.size
      have BLa := Lib.hid (show ∀ g, (Value.slice sa sm sc).ownBlock = some g → w2.heap.size ≤ g ∧ g < w3.heap.size from fun g e => World.ownsRow.lt HS.out g e)
      have HB23 := Lib.hid hb
      clear hs hb HOR
      go_wp2_with fail
      refine (mrsum_any h aa an ac (flatM R i) _ HA3.out HFB.out (by omega)).mono ?_
      rintro e w4 ⟨⟨ta, tm, tc, rfl, ht⟩, hb⟩
      have HT := Lib.hid ht
      have HS := Lib.hid (HS.out.below hb)
      have HSR := Lib.hid (HSR.out.below hb)
      have HK4 := Lib.hid (HK3.out.below hb)
      have HR4 := Lib.hid (HR3.out.below hb)
      have HA4 := Lib.hid (HA3.out.below hb)
      have HL4 := Lib.hid (HL3.out.below hb)
      have HB4 := Lib.hid (HB3.out.trans (hb.mono HB3.out.size))
      have hs34 := hb.size
      have BLb := Lib.hid (show ∀ g, (Value.slice ta tm tc).ownBlock = some g → w3.heap.size ≤ g ∧ g < w4.heap.size from fun g e => World.ownsRow.lt HT.out g e)
      have HB24 := Lib.hid (HB23.out.trans (hb.mono hs23))
      clear ht hb HK3 HR3 HA3 HL3 HB3
      go_wp2_with fail
      refine (mmask_any h aa an ac (flatM R i) size _ HK4.out HA4.out HFB.out (by omega) HZ.out).mono ?_
      rintro e w5 ⟨⟨ka, km, kc, rfl, hq⟩, hb⟩
      have HQ := Lib.hid hq
      have HT := Lib.hid (HT.out.below hb)
      have HS := Lib.hid (HS.out.below hb)
      have HSR := Lib.hid (HSR.out.below hb)
      have HK5 := Lib.hid (HK4.out.below hb)
      have HR5 := Lib.hid (HR4.out.below hb)
      have HA5 := Lib.hid (HA4.out.below hb)
      have HL5 := Lib.hid (HL4.out.below hb)
      have HB5 := Lib.hid (HB4.out.trans (hb.mono HB4.out.size))
      have hs45 := hb.size
      have BLc := Lib.hid (show ∀ g, (Value.slice ka km kc).ownBlock = some g → w4.heap.size ≤ g ∧ g < w5.heap.size from fun g e => World.ownsRow.lt HQ.out g e)
      have HB25 := Lib.hid (HB24.out.trans (hb.mono (by omega)))
      clear hq hb HK4 HR4 HA4 HL4 HB4
      go_wp2_with fail
      refine (mrmask_any h aa an ac (flatM R i) size _ HA5.out HFB.out (by omega) HZ.out).mono ?_
      rintro e w6 ⟨⟨ua, um, uc, rfl, hu⟩, hb⟩
      have HU := Lib.hid hu
      have HQ := Lib.hid (HQ.out.below hb)
      have HT := Lib.hid (HT.out.below hb)
      have HS := Lib.hid (HS.out.below hb)
      have HSR := Lib.hid (HSR.out.below hb)
      have HK6 := Lib.hid (HK5.out.below hb)
      have HR6 := Lib.hid (HR5.out.below hb)
      have HA6 := Lib.hid (HA5.out.below hb)
      have HL6 := Lib.hid (HL5.out.below hb)
      have HB6 := Lib.hid (HB5.out.trans (hb.mono HB5.out.size))
      have HB26 := Lib.hid (HB25.out.trans (hb.mono (by omega)))
      have hs56 := hb.size
      clear hu hb HK5 HR5 HA5 HL5 HB5
      go_wp2_with fail
      go_loopw [20, 21] (fun nv kv wq => ∃ (kk : Nat) (z : Int), kv = .int .i64 (kk : Int) ∧ 1 ≤ kk ∧ kk ≤ 5 ∧ nv = .int .i64 z ∧ Hid (z = nmU nm (kk - 1) ∧ Below w6.heap.size w6 wq)) (fun _ kv _ => 6 - (intOf kv).toNat)
      case atStart => exact ⟨1, 0, rfl, Nat.le_refl _, by omega, rfl, rfl, Below.refl _ _⟩
      case round =>
        obtain ⟨kk, z, rfl, hk1, hk5, rfl, hI⟩ := hrel
        by_cases hk4 : kk ≤ 4
        · have tk : decide ((kk : Int) ≤ 4) = true := by simp; omega
          have HI := Lib.hid hI.out
          have HNU := Lib.hid (show nmU nm kk = if eqS kk nm = true then (kk : Int) else nmU nm (kk - 1) by
            obtain ⟨k, rfl⟩ : ∃ k, kk = k + 1 := ⟨kk - 1, by omega⟩
            rfl)
          have HNB := Lib.hid (show nameB (kk : Int) = strOf (mName kk) by
            obtain ⟨k, rfl⟩ : ∃ k, kk = k + 1 := ⟨kk - 1, by omega⟩
            exact nameB_at k (by omega))
          clear hI
          go_wp2_with fail
          refine (rname_any (kk : Int) _).mono ?_
          rintro e wn ⟨rfl, hb⟩
          rw [HNB.out]
          have HBn := Lib.hid (HI.out.2.trans (hb.mono HI.out.2.size))
          clear hb
          by_cases he : eqS kk nm = true
          · have e1 : ((strOf (mName kk)).toList == nm.toList) = true := he
            have HZ2 := Lib.hid (show (kk : Int) = nmU nm kk by rw [HNU.out, if_pos he])
            clear he
            generalize strOf (mName kk) = sb at *
            go_wp2
            go_roundw
            case rel => exact ⟨kk + 1, (kk : Int), by go_num, by omega, by omega, rfl, HZ2.out, HBn.out⟩
            case measure => simp [intOf] <;> omega
          · have e1 : ((strOf (mName kk)).toList == nm.toList) = false := by
              have : eqS kk nm = false := Bool.eq_false_iff.2 he
              exact this
            have HZ2 := Lib.hid (show z = nmU nm kk by rw [HNU.out, if_neg he]; exact HI.out.1)
            clear he
            generalize strOf (mName kk) = sb at *
            go_wp2
            go_roundw
            case rel => exact ⟨kk + 1, z, by go_num, by omega, by omega, rfl, HZ2.out, HBn.out⟩
            case measure => simp [intOf] <;> omega
        · obtain rfl : kk = 5 := by omega
          have tk : decide (((5 : Nat) : Int) ≤ 4) = false := by decide
          have HZN := Lib.hid (hI.out.1.trans (nmU_four nm))
          have HBr := Lib.hid hI.out.2
          clear hI
          obtain ⟨w7, hw7⟩ : ∃ x, x = wr := ⟨_, rfl⟩
          subst hw7
          have HSR7 := Lib.hid (HSR.out.below HBr.out)
          have HS7 := Lib.hid (HS.out.below HBr.out)
          have HT7 := Lib.hid (HT.out.below HBr.out)
          have HQ7 := Lib.hid (HQ.out.below HBr.out)
          have HU7 := Lib.hid (HU.out.below HBr.out)
          have HK7 := Lib.hid (HK6.out.below HBr.out)
          have HB27 := Lib.hid (HB26.out.trans (HBr.out.mono (by omega)))
          have cv1 := convB (HSR7.out.bts (sumL_byt h (flatM R i)))
          have cv2 := convB (HT7.out.reads.bts (sumL_byt h (flatM R i)))
          have cv3 := convB (HQ7.out.reads.bts (maskL_byt h (flatM R i) size))
          have cv4 := convB (HU7.out.reads.bts (maskL_byt h (flatM R i) size))
          have hs67 : w6.heap.size ≤ w7.heap.size := HBr.out.size
          clear HSR HS HT HQ HU HK6 HBr HR6 HA6 HL6
          generalize sumE h = eS at *
          generalize maskE h size = eM at *
          obtain ⟨zS, hzS⟩ : ∃ z, rSize h = z := ⟨_, rfl⟩
          obtain ⟨sN, hsN⟩ : ∃ z, nameB h = z := ⟨_, rfl⟩
          have HZS := Lib.hid hzS
          have HSN := Lib.hid hsN
          clear hzS hsN
          go_wp2_with fail
          refine (msize_any h _ HK7.out).mono ?_
          rintro e w8 ⟨rfl, hb⟩
          rw [HZS.out]
          have HC := Lib.hid hb
          clear hb
          go_wp2_with fail
          refine (rsize_any h _).mono ?_
          rintro e w8' ⟨rfl, rfl⟩
          rw [HZS.out]
          go_wp2_with fail
          refine (mname_any h _ (HK7.out.below HC.out)).mono ?_
          rintro e w9 ⟨rfl, hb⟩
          rw [HSN.out]
          have HC := Lib.hid (HC.out.trans (hb.mono HC.out.size))
          clear hb
          go_wp2_with fail
          refine (rname_any h _).mono ?_
          rintro e w10 ⟨rfl, hb⟩
          rw [HSN.out]
          have HC := Lib.hid (HC.out.trans (hb.mono HC.out.size))
          clear hb
          go_wp2_with fail
          refine (named_any nm _ (HK7.out.below HC.out)).mono ?_
          rintro e w11 ⟨rfl, hb⟩
          rw [← HZN.out]
          have HC := Lib.hid (HC.out.trans (hb.mono HC.out.size))
          clear hb cv1 cv2 cv3 cv4
          have HS := Lib.hid (HS7.out.below HC.out)
          have HT := Lib.hid (HT7.out.below HC.out)
          have HQ := Lib.hid (HQ7.out.below HC.out)
          have HK := Lib.hid (HK7.out.below HC.out)
          have HBX := Lib.hid (HB27.out.trans (HC.out.mono (by omega)))
          clear HSR7 HS7 HT7 HQ7 HU7 HK7 HB27 HC
          have hSL : (sumL h (flatM R i)).length = sm := HS.out.cap.1.symm
          have hQL : (maskL h (flatM R i) size).length = km := HQ.out.cap.1.symm
          have HSL := Lib.hid hSL
          have HQL := Lib.hid hQL
          have hsm : sm ≤ 100000 := by have := hSL; have hl := sumL_len h (flatM R i); omega
          have hkm : km ≤ 100000 := by have := hQL; have hl := maskL_len h (flatM R i) size HZ.out; omega
          clear hSL hQL
          go_wp2_with fail
          go_loopw [137] (fun qv wq => ∃ q : Nat, qv = .int .i64 (q : Int) ∧ q ≤ sm ∧ Hid (∃ l', OwnQ .u8 5 w2.heap.size wq (.slice sa sm sc) l' ∧ Byt l' ∧ l'.length = sm ∧ KpV (fun k => (Value.slice sa sm sc).ownBlock = some k) w11 wq ∧ Below w2.heap.size w11 wq)) (fun qv _ => sm - (intOf qv).toNat)
          case atStart => exact ⟨0, rfl, Nat.zero_le _, _, HS.out, sumL_byt _ _, HSL.out, KpV.refl _ _, (Below.refl _ _)⟩
          case round =>
            obtain ⟨q, rfl, hq, hI⟩ := hrel
            obtain ⟨l', hI⟩ := hI.out
            have HI := Lib.hid hI
            clear hI
            by_cases hltq : q < sm
            · have tq : decide (q < sm) = true := by simp; omega
              obtain ⟨ob, rfl⟩ : ∃ ob, sa = some ⟨ob, 0, none⟩ := by
                obtain ⟨ob, oc', hov⟩ := HI.out.1.succ (by intro e; have := HI.out.2.2.1; rw [e] at this; simp at this; omega)
                injection hov with h1
                exact ⟨ob, h1⟩
              have cq := HI.out.1.cellAt HI.out.2.2.1.symm q (by omega)
              have fq := HI.out.1.frozenAt HI.out.2.2.1.symm q
              have lx := byt_at HI.out.2.1 q
              generalize l'[q]?.getD 0 = x at *
              obtain ⟨y, hy⟩ : ∃ y, y = (x + 1) % 256 := ⟨_, rfl⟩
              have hyi : ((x : Int) + 1) % 256 = (y : Int) := by omega
              have hyb : y < 256 := by omega
              have hyw : IntKind.u8.wrap ((x : Int) + 1) = (y : Int) := by simp [IntKind.wrap, IntKind.bits, IntKind.signed]; omega
              have HST := Lib.hid (HI.out.1.stored HI.out.2.2.1.symm q y (y : Int) rfl)
              have HBY := Lib.hid (byt_set HI.out.2.1 q y hyb)
              have HKP := Lib.hid (HI.out.2.2.2.1.trans (KpV.grown (E := fun k => (Value.slice (some ⟨ob, 0, none⟩) sm sc).ownBlock = some k) (grown_cellM wr ⟨ob, q, none⟩ (.int .u8 (y : Int))) (fun r e => by simp [Value.ownBlock]; cases e; rfl)))
              clear hy
              go_wp2
              go_roundw
              case rel => exact ⟨q + 1, by go_num, by omega, _, HST.out.1, HBY.out, by rw [List.length_set]; exact HI.out.2.2.1, HKP.out, HST.out.2 _ HI.out.2.2.2.2⟩
              case measure => simp [intOf] <;> omega
            · obtain rfl : q = sm := by omega
              have tq : decide (q < q) = false := by simp
              have HT := Lib.hid (HT.out.kpB HI.out.2.2.2.1 (fun g e1 e2 => by have h1 := BLb.out g e1; have h2 := BLa.out g e2; omega))
              have HQ := Lib.hid (HQ.out.kpB HI.out.2.2.2.1 (fun g e1 e2 => by have h1 := BLc.out g e1; have h2 := BLa.out g e2; omega))
              have HBX := Lib.hid (HBX.out.trans HI.out.2.2.2.2)
              obtain ⟨w12, hw12⟩ : ∃ x, x = wr := ⟨_, rfl⟩
              subst hw12
              clear HI HS HK HSL
              go_wp2_with fail
              go_loopw [149] (fun qv wq => ∃ q2 : Nat, qv = .int .i64 (q2 : Int) ∧ q2 ≤ km ∧ Hid (∃ l', OwnQ .u8 5 w4.heap.size wq (.slice ka km kc) l' ∧ Byt l' ∧ l'.length = km ∧ KpV (fun k => (Value.slice ka km kc).ownBlock = some k) w12 wq ∧ Below w4.heap.size w12 wq)) (fun qv _ => km - (intOf qv).toNat)
              case atStart => exact ⟨0, rfl, Nat.zero_le _, _, HQ.out, maskL_byt _ _ _, HQL.out, KpV.refl _ _, (Below.refl _ _)⟩
              case round =>
                obtain ⟨q2, rfl, hq, hI⟩ := hrel
                obtain ⟨l', hI⟩ := hI.out
                have HI := Lib.hid hI
                clear hI
                by_cases hltq2 : q2 < km
                · have tq : decide (q2 < km) = true := by simp; omega
                  obtain ⟨ob, rfl⟩ : ∃ ob, ka = some ⟨ob, 0, none⟩ := by
                    obtain ⟨ob, oc', hov⟩ := HI.out.1.succ (by intro e; have := HI.out.2.2.1; rw [e] at this; simp at this; omega)
                    injection hov with h1
                    exact ⟨ob, h1⟩
                  have cq := HI.out.1.cellAt HI.out.2.2.1.symm q2 (by omega)
                  have fq := HI.out.1.frozenAt HI.out.2.2.1.symm q2
                  have lx := byt_at HI.out.2.1 q2
                  generalize l'[q2]?.getD 0 = x at *
                  obtain ⟨y, hy⟩ : ∃ y, y = (x + 1) % 256 := ⟨_, rfl⟩
                  have hyi : ((x : Int) + 1) % 256 = (y : Int) := by omega
                  have hyb : y < 256 := by omega
                  have hyw : IntKind.u8.wrap ((x : Int) + 1) = (y : Int) := by simp [IntKind.wrap, IntKind.bits, IntKind.signed]; omega
                  have HST := Lib.hid (HI.out.1.stored HI.out.2.2.1.symm q2 y (y : Int) rfl)
                  have HBY := Lib.hid (byt_set HI.out.2.1 q2 y hyb)
                  have HKP := Lib.hid (HI.out.2.2.2.1.trans (KpV.grown (E := fun k => (Value.slice (some ⟨ob, 0, none⟩) km kc).ownBlock = some k) (grown_cellM wr ⟨ob, q2, none⟩ (.int .u8 (y : Int))) (fun r e => by simp [Value.ownBlock]; cases e; rfl)))
                  clear hy
                  go_wp2
                  go_roundw
                  case rel => exact ⟨q2 + 1, by go_num, by omega, _, HST.out.1, HBY.out, by rw [List.length_set]; exact HI.out.2.2.1, HKP.out, HST.out.2 _ HI.out.2.2.2.2⟩
                  case measure => simp [intOf] <;> omega
                · obtain rfl : q2 = km := by omega
                  have tq2 : decide (q2 < q2) = false := by simp
                  have HT := Lib.hid (HT.out.kpB HI.out.2.2.2.1 (fun g e1 e2 => by have h1 := BLb.out g e1; have h2 := BLc.out g e2; omega))
                  have HBX := Lib.hid (HBX.out.trans (HI.out.2.2.2.2.mono (by omega)))
                  obtain ⟨w13, hw13⟩ : ∃ x, x = wr := ⟨_, rfl⟩
                  subst hw13
                  have HK := Lib.hid (HK2.out.below HBX.out)
                  have HA := Lib.hid (HA2.out.below HBX.out)
                  have HRl := Lib.hid (HR2.out.below HBX.out)
                  have HRo := Lib.hid ((HL.out.rows HRl.out).below HBX.out)
                  have HBf := Lib.hid (HB2.out.trans (HBX.out.mono (by have := HB2.out.size; omega)))
                  clear HI HQ HQL HBX HK2 HA2 HR2 HL HB2
                  go_wp2_with fail
                  go_loopw [161] (fun jv wq => ∃ k : Nat, jv = .int .i64 (k : Int) ∧ k ≤ i ∧ Hid (Below w13.heap.size w13 wq)) (fun jv _ => i - (intOf jv).toNat)
                  case atStart => exact ⟨0, rfl, Nat.zero_le _, Below.refl _ _⟩
                  case round =>
                    obtain ⟨k, rfl, hk, hI⟩ := hrel
                    have HI := Lib.hid hI.out
                    clear hI
                    by_cases hlt5 : k < i
                    · have t5 : decide (k < i) = true := by simp; omega
                      have HR9 := Lib.hid (HRl.out.below HI.out)
                      have HO9 := Lib.hid (HRo.out.below HI.out)
                      obtain ⟨b1, o1, rfl, -, hc1⟩ := HO9.out.cells (by omega)
                      obtain ⟨b2, o2, rfl, -, hc2⟩ := HR9.out.cells (by omega)
                      have c1 := hc1 k hlt5
                      have c2 := hc2 k hlt5
                      have e1 := HO9.out.each k hlt5
                      have e2 := HR9.out.each k hlt5
                      have hlist : (ownR R L k).2.2.2 = (R k).2.2.2 := rfl
                      rw [hlist] at e1
                      generalize (ownR R L k).1 = x1 at *
                      generalize (ownR R L k).2.1 = x2 at *
                      generalize (ownR R L k).2.2.1 = x3 at *
                      generalize (R k).1 = y1 at *
                      generalize (R k).2.1 = y2 at *
                      generalize (R k).2.2.1 = y3 at *
                      generalize (R k).2.2.2 = lst at *
                      have cvo := fun N => convB ((e1.1.drewN N).bts e1.2.1)
                      have cvl := fun N => convB ((e2.1.drewN N).bts e2.2.1)
                      clear hc1 hc2 e1 e2 hlist
                      go_wp2_with fail
                      go_big_quiet (fail)
                      simp only [Exit.then]
                      have HI := Lib.hid (show Below w13.heap.size w13 (wr.drewN nq) from HI.out.trans ⟨rfl, rfl, rfl, Nat.le_refl _, fun _ _ => rfl⟩)
                      clear cvo cvl c1 c2
                      generalize wr.drewN nq = w14 at *
                      go_wp2
                      go_roundw
                      case rel => exact ⟨k + 1, by go_num, by omega, HI.out⟩
                      case measure => simp [intOf] <;> omega
                    · obtain rfl : k = i := by omega
                      have t5 : decide (k < k) = false := by simp
                      have HT := Lib.hid (HT.out.below HI.out)
                      have HK := Lib.hid (HK.out.below HI.out)
                      have HA := Lib.hid (HA.out.below HI.out)
                      have HBf := Lib.hid (HBf.out.trans (HI.out.mono (by have := HBf.out.size; omega)))
                      obtain ⟨w14, hw14⟩ : ∃ x, x = wr := ⟨_, rfl⟩
                      subst hw14
                      have hone : RowsM (w14.alloc (.cells #[.slice aa an ac] 23)) (some ⟨w14.heap.size, 0, none⟩) 1 (fun _ => (aa, an, ac, flatM R k)) := by
                        refine ⟨fun j hj => ⟨HA.out.below ((Below.refl _ _).alloc (Nat.le_refl _) _), HFB.out, show an ≤ 1048576 by omega⟩, fun _ => ⟨_, 0, rfl, by simp, fun j hj => ?_⟩⟩
                        obtain rfl : j = 0 := by omega
                        rw [Nat.zero_add, cellM (World.alloc_heap_new w14 _)]
                        rfl
                      have HONE := Lib.hid hone
                      have HBa := Lib.hid ((Below.refl w14.heap.size w14).alloc (Nat.le_refl _) (.cells #[.slice aa an ac] 23))
                      have HFO := Lib.hid (show flatM (fun _ => (aa, an, ac, flatM R k)) 1 = flatM R k from List.nil_append _)
                      clear hone HI
                      go_wp2_with fail
                      refine (msum_any h _ 1 1 _ _ (HK.out.below HBa.out) HONE.out (by decide)).mono ?_
                      rintro e w15 ⟨⟨xa, xm, x2, xc, rfl, hxr, -⟩, hb⟩
                      rw [HFO.out] at hxr
                      have HT := Lib.hid ((HT.out.below HBa.out).below hb)
                      have HBf := Lib.hid (HBf.out.trans ((HBa.out.trans (hb.mono HBa.out.size)).mono HBf.out.size))
                      have cv1 := convB (hxr.bts (sumL_byt h (flatM R k)))
                      have cv2 := convB (HT.out.reads.bts (sumL_byt h (flatM R k)))
                      clear hxr hb
                      go_wp2
                      go_ret
                      exact ⟨by simp, HBf.out⟩
set_option maxHeartbeats 8000000 in
theorem msums_2 (h : Int) (nm : ByteArray) (l : Option Addr) (n c : Nat) (R : Nat → Option Addr × Nat × Nat × List Nat) (size : Int) (w : World) (hk : Kinds w) (hR : RowsM w l n R) (hn : n ≤ 20) (hz : 65536 < size) :
    Calls Tryd.prog 3 #[.int .i64 h, .string nm, .slice l n c, .int .i64 size] w fun e w' => e = .returned (.bool true) ∧ Below w.heap.size w w' := by
  obtain ⟨i0, hi0, hz0, hz1, hz2⟩ := info_parts infoMk
  obtain ⟨j0, hj0, hy0, hy1, hy2⟩ := info_parts infoSl
  have HR := Lib.hid hR
  have HK := Lib.hid hk
  have HFB := Lib.hid (flatM_byt hR n (Nat.le_refl _))
  have HZ := Lib.hid (show size ≤ 600 ∨ 65536 < size by omega)
  have t1 : decide ((20 : Int) < (n : Int)) = false := decide_eq_false (by omega)
  clear hR hk
  have t2 : decide ((600 : Int) < size) = true := decide_eq_true (by omega)
  have t3 : decide (size ≤ (65536 : Int)) = false := decide_eq_false (by omega)
  clear hz
  go_enter Tryd.func3, Tryd.ntmps3
  go_wp2_with fail
  refine (rjoin_any l n c R w HR.out (by omega)).mono ?_
  rintro e w1 ⟨⟨v, rfl, hv⟩, hb⟩
  obtain ⟨aa, an, ac, rfl, han, ha⟩ := own_slM hv
  have HA := Lib.hid ha.reads
  have HAN := Lib.hid han
  have HB1 := Lib.hid hb
  clear hv ha han hb
  by_cases hbig : 1500 < an
  · have t4 : decide ((1500 : Int) < (an : Int)) = true := decide_eq_true (by omega)
    go_wp2
    go_ret
    exact ⟨rfl, HB1.out⟩
  have t4 : decide ((1500 : Int) < (an : Int)) = false := decide_eq_false (by omega)
  have HK1 := Lib.hid (HK.out.below HB1.out)
  have HR1 := Lib.hid (HR.out.below HB1.out)
  clear HK HR
  go_wp2_with fail
  go_loopw [10, 45] (fun ov iv wq => ∃ (i : Nat) (oa : Option Addr) (oc : Nat), iv = .int .i64 (i : Int) ∧ i ≤ n ∧ ov = .slice oa i oc ∧ Hid ((∃ L, OwnRows w1.heap.size R i L (.slice oa i oc) wq) ∧ Below w1.heap.size w1 wq)) (fun _ iv _ => n - (intOf iv).toNat)
  case atStart => exact ⟨0, none, 0, rfl, Nat.zero_le _, rfl, ⟨[], rfl, World.ownsRow_nil _ _ _ _, fun j x hx => by simp at hx⟩, Below.refl _ _⟩
  case round =>
    obtain ⟨i, oa, oc, rfl, hi, rfl, hI⟩ := hrel
    obtain ⟨L, hL⟩ := hI.out.1
    have HL := Lib.hid hL
    have HBq := Lib.hid hI.out.2
    clear hL hI
    by_cases hlt : i < n
    · have tl : decide (i < n) = true := by simp; omega
      obtain ⟨b, off, rfl, hbl, hcl⟩ := HR1.out.cells (by omega)
      have hE := HR1.out.each i hlt
      have hci := (HBq.out.cell (p := ⟨b, off + i, none⟩) hbl).trans (hcl i hlt)
      have hcie := (((Below.refl wr.heap.size wr).alloc (Nat.le_refl _) (.cells #[] 5)).cell (p := ⟨b, off + i, none⟩) (Nat.lt_of_lt_of_le hbl HBq.out.size)).trans hci
      obtain ⟨⟨ra, rl, rc, lst⟩, hri⟩ : ∃ r, r = R i := ⟨_, rfl⟩
      rw [← hri] at hci hcie hE
      dsimp only at hci hcie hE
      have HE := Lib.hid hE
      have hrl := hE.2.2
      have HRI := Lib.hid hri
      clear hE hcl hri
      have hsz := HBq.out.size
      go_wp2_with (at_builtin; first
        | (refine wpList_append_q1 .u8 _ rfl _ _ 23 rfl wr.heap.size 5 i0 Tryd.underlying23 hi0 hz0 hz1 hz2 _ [] rfl (OwnQ.empty .u8 wr _ _ (Nat.le_refl _)) ra rl rc lst rfl ((HE.out.1.below HBq.out).below ((Below.refl _ _).alloc (Nat.le_refl _) _)) (by simp; omega) (by simp) ?_; intro v5 w5 hown hgrow; rw [List.nil_append] at hown; obtain ⟨na, nn, nc, rfl, hnn, ho5⟩ := own_slM hown; have HO5 := Lib.hid ho5; have HB5 := Lib.hid (hgrow wr ((Below.refl _ _).alloc (Nat.le_refl _) _)); have HL5 := Lib.hid (HL.out.below HB5.out); clear hown hgrow ho5 hnn)
        | (refine wpList_append_own_at _ rfl _ _ 22 rfl w1.heap.size 23 j0 (.slice none 0 0) 1 24 Tryd.underlying22 hj0 hy0 hy1 hy2 rfl (by decide) (.slice oa i oc) i (L.map slcM) rfl (World.ownsRow.alloc HL5.out.2.1 _) ⟨w5.heap.size, 0, none⟩ 1 1 [.slice na nn nc] rfl rfl (cell_one_new _ _ _) (by simp [Value.oneCell']) (by unfold maxLen; omega) (by omega) (by have := HB5.out.size; simp; omega) ?_; intro v6 w6 hown hgrow _ hblk; have HOW := Lib.hid hown; have HGR := Lib.hid hgrow; have HBL := Lib.hid hblk; clear hown hgrow hblk))
      clear hci hcie
      obtain ⟨oa6, oc6, hv6⟩ : ∃ oa6 oc6, v6 = .slice oa6 (i + 1) oc6 := by
        rcases HOW.out.2 with ⟨rfl, h0⟩ | ⟨g, cap, cur, rfl, _⟩
        · omega
        · exact ⟨_, _, rfl⟩
      subst hv6
      have hal5 := (HBq.out.trans (HB5.out.mono HBq.out.size)).alloc (by have := HB5.out.size; omega) (.cells #[.slice na nn nc] 23)
      have HB6 := Lib.hid (hal5.grown HGR.out hal5.size (fun g hg => (World.ownsRow.lt HL5.out.2.1 g hg).1))
      have HL6 := Lib.hid (show OwnRows w1.heap.size R (i + 1) (L ++ [(na, nn, nc)]) (.slice oa6 (i + 1) oc6) w6 from by
        refine ⟨by rw [List.length_append, HL.out.1]; rfl, ?_, fun j x hx => ?_⟩
        · rw [List.map_append]
          exact HOW.out
        · by_cases hj : j < L.length
          · rw [List.getElem?_append_left hj] at hx
            have h1 := (HL5.out.2.2 j x hx).alloc (.cells #[.slice na nn nc] 23)
            exact World.ownsRow.kept h1 HGR.out (row_apart (HL5.out.2.2 j x hx) HL5.out.2.1)
          · rw [List.getElem?_append_right (by omega)] at hx
            have hj0' : j - L.length = 0 := by
              by_cases hz : j - L.length = 0
              · exact hz
              · rw [List.getElem?_eq_none (by simp; omega)] at hx
                cases hx
            rw [hj0'] at hx
            cases hx
            have hji : j = i := by have := HL.out.1; omega
            rw [hji, ← HRI.out]
            have h1 := (HO5.out.mono hsz).alloc (.cells #[.slice na nn nc] 23)
            exact World.ownsRow.kept h1 HGR.out (row_apart HO5.out HL5.out.2.1))
      clear hal5
      go_roundw
      case rel => exact ⟨i + 1, oa6, oc6, by go_num, by omega, rfl, ⟨_, HL6.out⟩, HB6.out⟩
      case measure => simp [intOf] <;> omega
    · obtain rfl : i = n := by omega
      have tl : decide (i < i) = false := by simp
      have HK2 := Lib.hid (HK1.out.below HBq.out)
      have HR2 := Lib.hid (HR1.out.below HBq.out)
      have HA2 := Lib.hid (HA.out.below HBq.out)
      have HB2 := Lib.hid (HB1.out.trans (HBq.out.mono HB1.out.size))
      have HOR := Lib.hid (HL.out.rows HR1.out)
      have HFE := Lib.hid (show flatM (ownR R L) i = flatM R i from flat_congr i (fun j hj => rfl))
      obtain ⟨w2, hw2⟩ : ∃ x, x = wr := ⟨_, rfl⟩
      subst hw2
      clear HK1 HR1 HA HB1 hlt
      go_wp2_with fail
      refine (msum_any h oa i oc (ownR R L) _ HK2.out HOR.out (by omega)).mono ?_
      rintro e w3 ⟨⟨sa, sm, s2, sc, rfl, hsr, hs⟩, hb⟩
      rw [HFE.out] at hs hsr
      have HSR := Lib.hid hsr
      clear hsr
      have HS := Lib.hid hs
      have HK3 := Lib.hid (HK2.out.below hb)
      have HR3 := Lib.hid (HR2.out.below hb)
      have HA3 := Lib.hid (HA2.out.below hb)
      have HL3 := Lib.hid (HL.out.below hb)
      have HB3 := Lib.hid (HB2.out.trans (hb.mono HB2.out.size))
      have hs23 := hb.size
      have BLa := Lib.hid (show ∀ g, (Value.slice sa sm sc).ownBlock = some g → w2.heap.size ≤ g ∧ g < w3.heap.size from fun g e => World.ownsRow.lt HS.out g e)
      have HB23 := Lib.hid hb
      clear hs hb HOR
      go_wp2_with fail
      refine (mrsum_any h aa an ac (flatM R i) _ HA3.out HFB.out (by omega)).mono ?_
      rintro e w4 ⟨⟨ta, tm, tc, rfl, ht⟩, hb⟩
      have HT := Lib.hid ht
      have HS := Lib.hid (HS.out.below hb)
      have HSR := Lib.hid (HSR.out.below hb)
      have HK4 := Lib.hid (HK3.out.below hb)
      have HR4 := Lib.hid (HR3.out.below hb)
      have HA4 := Lib.hid (HA3.out.below hb)
      have HL4 := Lib.hid (HL3.out.below hb)
      have HB4 := Lib.hid (HB3.out.trans (hb.mono HB3.out.size))
      have hs34 := hb.size
      have BLb := Lib.hid (show ∀ g, (Value.slice ta tm tc).ownBlock = some g → w3.heap.size ≤ g ∧ g < w4.heap.size from fun g e => World.ownsRow.lt HT.out g e)
      have HB24 := Lib.hid (HB23.out.trans (hb.mono hs23))
      clear ht hb HK3 HR3 HA3 HL3 HB3
      go_wp2_with fail
      refine (mmask_any h aa an ac (flatM R i) size _ HK4.out HA4.out HFB.out (by omega) HZ.out).mono ?_
      rintro e w5 ⟨⟨ka, km, kc, rfl, hq⟩, hb⟩
      have HQ := Lib.hid hq
      have HT := Lib.hid (HT.out.below hb)
      have HS := Lib.hid (HS.out.below hb)
      have HSR := Lib.hid (HSR.out.below hb)
      have HK5 := Lib.hid (HK4.out.below hb)
      have HR5 := Lib.hid (HR4.out.below hb)
      have HA5 := Lib.hid (HA4.out.below hb)
      have HL5 := Lib.hid (HL4.out.below hb)
      have HB5 := Lib.hid (HB4.out.trans (hb.mono HB4.out.size))
      have hs45 := hb.size
      have BLc := Lib.hid (show ∀ g, (Value.slice ka km kc).ownBlock = some g → w4.heap.size ≤ g ∧ g < w5.heap.size from fun g e => World.ownsRow.lt HQ.out g e)
      have HB25 := Lib.hid (HB24.out.trans (hb.mono (by omega)))
      clear hq hb HK4 HR4 HA4 HL4 HB4
      go_wp2_with fail
      refine (mrmask_any h aa an ac (flatM R i) size _ HA5.out HFB.out (by omega) HZ.out).mono ?_
      rintro e w6 ⟨⟨ua, um, uc, rfl, hu⟩, hb⟩
      have HU := Lib.hid hu
      have HQ := Lib.hid (HQ.out.below hb)
      have HT := Lib.hid (HT.out.below hb)
      have HS := Lib.hid (HS.out.below hb)
      have HSR := Lib.hid (HSR.out.below hb)
      have HK6 := Lib.hid (HK5.out.below hb)
      have HR6 := Lib.hid (HR5.out.below hb)
      have HA6 := Lib.hid (HA5.out.below hb)
      have HL6 := Lib.hid (HL5.out.below hb)
      have HB6 := Lib.hid (HB5.out.trans (hb.mono HB5.out.size))
      have HB26 := Lib.hid (HB25.out.trans (hb.mono (by omega)))
      have hs56 := hb.size
      clear hu hb HK5 HR5 HA5 HL5 HB5
      go_wp2_with fail
      go_loopw [20, 21] (fun nv kv wq => ∃ (kk : Nat) (z : Int), kv = .int .i64 (kk : Int) ∧ 1 ≤ kk ∧ kk ≤ 5 ∧ nv = .int .i64 z ∧ Hid (z = nmU nm (kk - 1) ∧ Below w6.heap.size w6 wq)) (fun _ kv _ => 6 - (intOf kv).toNat)
      case atStart => exact ⟨1, 0, rfl, Nat.le_refl _, by omega, rfl, rfl, Below.refl _ _⟩
      case round =>
        obtain ⟨kk, z, rfl, hk1, hk5, rfl, hI⟩ := hrel
        by_cases hk4 : kk ≤ 4
        · have tk : decide ((kk : Int) ≤ 4) = true := by simp; omega
          have HI := Lib.hid hI.out
          have HNU := Lib.hid (show nmU nm kk = if eqS kk nm = true then (kk : Int) else nmU nm (kk - 1) by
            obtain ⟨k, rfl⟩ : ∃ k, kk = k + 1 := ⟨kk - 1, by omega⟩
            rfl)
          have HNB := Lib.hid (show nameB (kk : Int) = strOf (mName kk) by
            obtain ⟨k, rfl⟩ : ∃ k, kk = k + 1 := ⟨kk - 1, by omega⟩
            exact nameB_at k (by omega))
          clear hI
          go_wp2_with fail
          refine (rname_any (kk : Int) _).mono ?_
          rintro e wn ⟨rfl, hb⟩
          rw [HNB.out]
          have HBn := Lib.hid (HI.out.2.trans (hb.mono HI.out.2.size))
          clear hb
          by_cases he : eqS kk nm = true
          · have e1 : ((strOf (mName kk)).toList == nm.toList) = true := he
            have HZ2 := Lib.hid (show (kk : Int) = nmU nm kk by rw [HNU.out, if_pos he])
            clear he
            generalize strOf (mName kk) = sb at *
            go_wp2
            go_roundw
            case rel => exact ⟨kk + 1, (kk : Int), by go_num, by omega, by omega, rfl, HZ2.out, HBn.out⟩
            case measure => simp [intOf] <;> omega
          · have e1 : ((strOf (mName kk)).toList == nm.toList) = false := by
              have : eqS kk nm = false := Bool.eq_false_iff.2 he
              exact this
            have HZ2 := Lib.hid (show z = nmU nm kk by rw [HNU.out, if_neg he]; exact HI.out.1)
            clear he
            generalize strOf (mName kk) = sb at *
            go_wp2
            go_roundw
            case rel => exact ⟨kk + 1, z, by go_num, by omega, by omega, rfl, HZ2.out, HBn.out⟩
            case measure => simp [intOf] <;> omega
        · obtain rfl : kk = 5 := by omega
          have tk : decide (((5 : Nat) : Int) ≤ 4) = false := by decide
          have HZN := Lib.hid (hI.out.1.trans (nmU_four nm))
          have HBr := Lib.hid hI.out.2
          clear hI
          obtain ⟨w7, hw7⟩ : ∃ x, x = wr := ⟨_, rfl⟩
          subst hw7
          have HSR7 := Lib.hid (HSR.out.below HBr.out)
          have HS7 := Lib.hid (HS.out.below HBr.out)
          have HT7 := Lib.hid (HT.out.below HBr.out)
          have HQ7 := Lib.hid (HQ.out.below HBr.out)
          have HU7 := Lib.hid (HU.out.below HBr.out)
          have HK7 := Lib.hid (HK6.out.below HBr.out)
          have HB27 := Lib.hid (HB26.out.trans (HBr.out.mono (by omega)))
          have cv1 := convB (HSR7.out.bts (sumL_byt h (flatM R i)))
          have cv2 := convB (HT7.out.reads.bts (sumL_byt h (flatM R i)))
          have cv3 := convB (HQ7.out.reads.bts (maskL_byt h (flatM R i) size))
          have cv4 := convB (HU7.out.reads.bts (maskL_byt h (flatM R i) size))
          have hs67 : w6.heap.size ≤ w7.heap.size := HBr.out.size
          clear HSR HS HT HQ HU HK6 HBr HR6 HA6 HL6
          generalize sumE h = eS at *
          generalize maskE h size = eM at *
          obtain ⟨zS, hzS⟩ : ∃ z, rSize h = z := ⟨_, rfl⟩
          obtain ⟨sN, hsN⟩ : ∃ z, nameB h = z := ⟨_, rfl⟩
          have HZS := Lib.hid hzS
          have HSN := Lib.hid hsN
          clear hzS hsN
          go_wp2_with fail
          refine (msize_any h _ HK7.out).mono ?_
          rintro e w8 ⟨rfl, hb⟩
          rw [HZS.out]
          have HC := Lib.hid hb
          clear hb
          go_wp2_with fail
          refine (rsize_any h _).mono ?_
          rintro e w8' ⟨rfl, rfl⟩
          rw [HZS.out]
          go_wp2_with fail
          refine (mname_any h _ (HK7.out.below HC.out)).mono ?_
          rintro e w9 ⟨rfl, hb⟩
          rw [HSN.out]
          have HC := Lib.hid (HC.out.trans (hb.mono HC.out.size))
          clear hb
          go_wp2_with fail
          refine (rname_any h _).mono ?_
          rintro e w10 ⟨rfl, hb⟩
          rw [HSN.out]
          have HC := Lib.hid (HC.out.trans (hb.mono HC.out.size))
          clear hb
          go_wp2_with fail
          refine (named_any nm _ (HK7.out.below HC.out)).mono ?_
          rintro e w11 ⟨rfl, hb⟩
          rw [← HZN.out]
          have HC := Lib.hid (HC.out.trans (hb.mono HC.out.size))
          clear hb cv1 cv2 cv3 cv4
          have HS := Lib.hid (HS7.out.below HC.out)
          have HT := Lib.hid (HT7.out.below HC.out)
          have HQ := Lib.hid (HQ7.out.below HC.out)
          have HK := Lib.hid (HK7.out.below HC.out)
          have HBX := Lib.hid (HB27.out.trans (HC.out.mono (by omega)))
          clear HSR7 HS7 HT7 HQ7 HU7 HK7 HB27 HC
          have hSL : (sumL h (flatM R i)).length = sm := HS.out.cap.1.symm
          have hQL : (maskL h (flatM R i) size).length = km := HQ.out.cap.1.symm
          have HSL := Lib.hid hSL
          have HQL := Lib.hid hQL
          have hsm : sm ≤ 100000 := by have := hSL; have hl := sumL_len h (flatM R i); omega
          have hkm : km ≤ 100000 := by have := hQL; have hl := maskL_len h (flatM R i) size HZ.out; omega
          clear hSL hQL
          go_wp2_with fail
          go_loopw [137] (fun qv wq => ∃ q : Nat, qv = .int .i64 (q : Int) ∧ q ≤ sm ∧ Hid (∃ l', OwnQ .u8 5 w2.heap.size wq (.slice sa sm sc) l' ∧ Byt l' ∧ l'.length = sm ∧ KpV (fun k => (Value.slice sa sm sc).ownBlock = some k) w11 wq ∧ Below w2.heap.size w11 wq)) (fun qv _ => sm - (intOf qv).toNat)
          case atStart => exact ⟨0, rfl, Nat.zero_le _, _, HS.out, sumL_byt _ _, HSL.out, KpV.refl _ _, (Below.refl _ _)⟩
          case round =>
            obtain ⟨q, rfl, hq, hI⟩ := hrel
            obtain ⟨l', hI⟩ := hI.out
            have HI := Lib.hid hI
            clear hI
            by_cases hltq : q < sm
            · have tq : decide (q < sm) = true := by simp; omega
              obtain ⟨ob, rfl⟩ : ∃ ob, sa = some ⟨ob, 0, none⟩ := by
                obtain ⟨ob, oc', hov⟩ := HI.out.1.succ (by intro e; have := HI.out.2.2.1; rw [e] at this; simp at this; omega)
                injection hov with h1
                exact ⟨ob, h1⟩
              have cq := HI.out.1.cellAt HI.out.2.2.1.symm q (by omega)
              have fq := HI.out.1.frozenAt HI.out.2.2.1.symm q
              have lx := byt_at HI.out.2.1 q
              generalize l'[q]?.getD 0 = x at *
              obtain ⟨y, hy⟩ : ∃ y, y = (x + 1) % 256 := ⟨_, rfl⟩
              have hyi : ((x : Int) + 1) % 256 = (y : Int) := by omega
              have hyb : y < 256 := by omega
              have hyw : IntKind.u8.wrap ((x : Int) + 1) = (y : Int) := by simp [IntKind.wrap, IntKind.bits, IntKind.signed]; omega
              have HST := Lib.hid (HI.out.1.stored HI.out.2.2.1.symm q y (y : Int) rfl)
              have HBY := Lib.hid (byt_set HI.out.2.1 q y hyb)
              have HKP := Lib.hid (HI.out.2.2.2.1.trans (KpV.grown (E := fun k => (Value.slice (some ⟨ob, 0, none⟩) sm sc).ownBlock = some k) (grown_cellM wr ⟨ob, q, none⟩ (.int .u8 (y : Int))) (fun r e => by simp [Value.ownBlock]; cases e; rfl)))
              clear hy
              go_wp2
              go_roundw
              case rel => exact ⟨q + 1, by go_num, by omega, _, HST.out.1, HBY.out, by rw [List.length_set]; exact HI.out.2.2.1, HKP.out, HST.out.2 _ HI.out.2.2.2.2⟩
              case measure => simp [intOf] <;> omega
            · obtain rfl : q = sm := by omega
              have tq : decide (q < q) = false := by simp
              have HT := Lib.hid (HT.out.kpB HI.out.2.2.2.1 (fun g e1 e2 => by have h1 := BLb.out g e1; have h2 := BLa.out g e2; omega))
              have HQ := Lib.hid (HQ.out.kpB HI.out.2.2.2.1 (fun g e1 e2 => by have h1 := BLc.out g e1; have h2 := BLa.out g e2; omega))
              have HBX := Lib.hid (HBX.out.trans HI.out.2.2.2.2)
              obtain ⟨w12, hw12⟩ : ∃ x, x = wr := ⟨_, rfl⟩
              subst hw12
              clear HI HS HK HSL
              go_wp2_with fail
              go_loopw [149] (fun qv wq => ∃ q2 : Nat, qv = .int .i64 (q2 : Int) ∧ q2 ≤ km ∧ Hid (∃ l', OwnQ .u8 5 w4.heap.size wq (.slice ka km kc) l' ∧ Byt l' ∧ l'.length = km ∧ KpV (fun k => (Value.slice ka km kc).ownBlock = some k) w12 wq ∧ Below w4.heap.size w12 wq)) (fun qv _ => km - (intOf qv).toNat)
              case atStart => exact ⟨0, rfl, Nat.zero_le _, _, HQ.out, maskL_byt _ _ _, HQL.out, KpV.refl _ _, (Below.refl _ _)⟩
              case round =>
                obtain ⟨q2, rfl, hq, hI⟩ := hrel
                obtain ⟨l', hI⟩ := hI.out
                have HI := Lib.hid hI
                clear hI
                by_cases hltq2 : q2 < km
                · have tq : decide (q2 < km) = true := by simp; omega
                  obtain ⟨ob, rfl⟩ : ∃ ob, ka = some ⟨ob, 0, none⟩ := by
                    obtain ⟨ob, oc', hov⟩ := HI.out.1.succ (by intro e; have := HI.out.2.2.1; rw [e] at this; simp at this; omega)
                    injection hov with h1
                    exact ⟨ob, h1⟩
                  have cq := HI.out.1.cellAt HI.out.2.2.1.symm q2 (by omega)
                  have fq := HI.out.1.frozenAt HI.out.2.2.1.symm q2
                  have lx := byt_at HI.out.2.1 q2
                  generalize l'[q2]?.getD 0 = x at *
                  obtain ⟨y, hy⟩ : ∃ y, y = (x + 1) % 256 := ⟨_, rfl⟩
                  have hyi : ((x : Int) + 1) % 256 = (y : Int) := by omega
                  have hyb : y < 256 := by omega
                  have hyw : IntKind.u8.wrap ((x : Int) + 1) = (y : Int) := by simp [IntKind.wrap, IntKind.bits, IntKind.signed]; omega
                  have HST := Lib.hid (HI.out.1.stored HI.out.2.2.1.symm q2 y (y : Int) rfl)
                  have HBY := Lib.hid (byt_set HI.out.2.1 q2 y hyb)
                  have HKP := Lib.hid (HI.out.2.2.2.1.trans (KpV.grown (E := fun k => (Value.slice (some ⟨ob, 0, none⟩) km kc).ownBlock = some k) (grown_cellM wr ⟨ob, q2, none⟩ (.int .u8 (y : Int))) (fun r e => by simp [Value.ownBlock]; cases e; rfl)))
                  clear hy
                  go_wp2
                  go_roundw
                  case rel => exact ⟨q2 + 1, by go_num, by omega, _, HST.out.1, HBY.out, by rw [List.length_set]; exact HI.out.2.2.1, HKP.out, HST.out.2 _ HI.out.2.2.2.2⟩
                  case measure => simp [intOf] <;> omega
                · obtain rfl : q2 = km := by omega
                  have tq2 : decide (q2 < q2) = false := by simp
                  have HT := Lib.hid (HT.out.kpB HI.out.2.2.2.1 (fun g e1 e2 => by have h1 := BLb.out g e1; have h2 := BLc.out g e2; omega))
                  have HBX := Lib.hid (HBX.out.trans (HI.out.2.2.2.2.mono (by omega)))
                  obtain ⟨w13, hw13⟩ : ∃ x, x = wr := ⟨_, rfl⟩
                  subst hw13
                  have HK := Lib.hid (HK2.out.below HBX.out)
                  have HA := Lib.hid (HA2.out.below HBX.out)
                  have HRl := Lib.hid (HR2.out.below HBX.out)
                  have HRo := Lib.hid ((HL.out.rows HRl.out).below HBX.out)
                  have HBf := Lib.hid (HB2.out.trans (HBX.out.mono (by have := HB2.out.size; omega)))
                  clear HI HQ HQL HBX HK2 HA2 HR2 HL HB2
                  go_wp2_with fail
                  go_loopw [161] (fun jv wq => ∃ k : Nat, jv = .int .i64 (k : Int) ∧ k ≤ i ∧ Hid (Below w13.heap.size w13 wq)) (fun jv _ => i - (intOf jv).toNat)
                  case atStart => exact ⟨0, rfl, Nat.zero_le _, Below.refl _ _⟩
                  case round =>
                    obtain ⟨k, rfl, hk, hI⟩ := hrel
                    have HI := Lib.hid hI.out
                    clear hI
                    by_cases hlt5 : k < i
                    · have t5 : decide (k < i) = true := by simp; omega
                      have HR9 := Lib.hid (HRl.out.below HI.out)
                      have HO9 := Lib.hid (HRo.out.below HI.out)
                      obtain ⟨b1, o1, rfl, -, hc1⟩ := HO9.out.cells (by omega)
                      obtain ⟨b2, o2, rfl, -, hc2⟩ := HR9.out.cells (by omega)
                      have c1 := hc1 k hlt5
                      have c2 := hc2 k hlt5
                      have e1 := HO9.out.each k hlt5
                      have e2 := HR9.out.each k hlt5
                      have hlist : (ownR R L k).2.2.2 = (R k).2.2.2 := rfl
                      rw [hlist] at e1
                      generalize (ownR R L k).1 = x1 at *
                      generalize (ownR R L k).2.1 = x2 at *
                      generalize (ownR R L k).2.2.1 = x3 at *
                      generalize (R k).1 = y1 at *
                      generalize (R k).2.1 = y2 at *
                      generalize (R k).2.2.1 = y3 at *
                      generalize (R k).2.2.2 = lst at *
                      have cvo := fun N => convB ((e1.1.drewN N).bts e1.2.1)
                      have cvl := fun N => convB ((e2.1.drewN N).bts e2.2.1)
                      clear hc1 hc2 e1 e2 hlist
                      go_wp2_with fail
                      go_big_quiet (fail)
                      simp only [Exit.then]
                      have HI := Lib.hid (show Below w13.heap.size w13 (wr.drewN nq) from HI.out.trans ⟨rfl, rfl, rfl, Nat.le_refl _, fun _ _ => rfl⟩)
                      clear cvo cvl c1 c2
                      generalize wr.drewN nq = w14 at *
                      go_wp2
                      go_roundw
                      case rel => exact ⟨k + 1, by go_num, by omega, HI.out⟩
                      case measure => simp [intOf] <;> omega
                    · obtain rfl : k = i := by omega
                      have t5 : decide (k < k) = false := by simp
                      have HT := Lib.hid (HT.out.below HI.out)
                      have HK := Lib.hid (HK.out.below HI.out)
                      have HA := Lib.hid (HA.out.below HI.out)
                      have HBf := Lib.hid (HBf.out.trans (HI.out.mono (by have := HBf.out.size; omega)))
                      obtain ⟨w14, hw14⟩ : ∃ x, x = wr := ⟨_, rfl⟩
                      subst hw14
                      have hone : RowsM (w14.alloc (.cells #[.slice aa an ac] 23)) (some ⟨w14.heap.size, 0, none⟩) 1 (fun _ => (aa, an, ac, flatM R k)) := by
                        refine ⟨fun j hj => ⟨HA.out.below ((Below.refl _ _).alloc (Nat.le_refl _) _), HFB.out, show an ≤ 1048576 by omega⟩, fun _ => ⟨_, 0, rfl, by simp, fun j hj => ?_⟩⟩
                        obtain rfl : j = 0 := by omega
                        rw [Nat.zero_add, cellM (World.alloc_heap_new w14 _)]
                        rfl
                      have HONE := Lib.hid hone
                      have HBa := Lib.hid ((Below.refl w14.heap.size w14).alloc (Nat.le_refl _) (.cells #[.slice aa an ac] 23))
                      have HFO := Lib.hid (show flatM (fun _ => (aa, an, ac, flatM R k)) 1 = flatM R k from List.nil_append _)
                      clear hone HI
                      go_wp2_with fail
                      refine (msum_any h _ 1 1 _ _ (HK.out.below HBa.out) HONE.out (by decide)).mono ?_
                      rintro e w15 ⟨⟨xa, xm, x2, xc, rfl, hxr, -⟩, hb⟩
                      rw [HFO.out] at hxr
                      have HT := Lib.hid ((HT.out.below HBa.out).below hb)
                      have HBf := Lib.hid (HBf.out.trans ((HBa.out.trans (hb.mono HBa.out.size)).mono HBf.out.size))
                      have cv1 := convB (hxr.bts (sumL_byt h (flatM R k)))
                      have cv2 := convB (HT.out.reads.bts (sumL_byt h (flatM R k)))
                      clear hxr hb
                      go_wp2
                      go_ret
                      exact ⟨by simp, HBf.out⟩
theorem msums_walk (h : Int) (nm : ByteArray) (l : Option Addr) (n c : Nat) (R : Nat → Option Addr × Nat × Nat × List Nat) (size : Int) (w : World) (hk : Kinds w) (hR : RowsM w l n R) :
    Calls Tryd.prog 3 #[.int .i64 h, .string nm, .slice l n c, .int .i64 size] w fun e w' => e = .returned (.bool true) ∧ Below w.heap.size w w' := by
  by_cases h1 : 20 < n
  · have t1 : decide ((20 : Int) < (n : Int)) = true := decide_eq_true (by omega)
    go_enter Tryd.func3, Tryd.ntmps3
    go_wp2
    go_ret
    exact ⟨rfl, Below.refl _ _⟩
  · by_cases h2 : size ≤ 600
    · exact msums_1 h nm l n c R size w hk hR (by omega) h2
    · by_cases h3 : 65536 < size
      · exact msums_2 h nm l n c R size w hk hR (by omega) h3
      · have t1 : decide ((20 : Int) < (n : Int)) = false := decide_eq_false (by omega)
        have t2 : decide ((600 : Int) < size) = true := decide_eq_true (by omega)
        have t3 : decide (size ≤ (65536 : Int)) = true := decide_eq_true (by omega)
        clear h1 h2 h3
        go_enter Tryd.func3, Tryd.ntmps3
        go_wp2
        go_ret
        exact ⟨rfl, Below.refl _ _⟩
end Go.Proofs.YtmfjhgjplmpecaaDoor
