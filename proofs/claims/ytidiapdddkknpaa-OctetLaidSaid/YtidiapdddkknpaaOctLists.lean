/-
  THE WALK OF THE LAW OctetLists.
-/
import Derived.Test.YtidiapdddkknpaaOct9
namespace Go.Proofs.Ytidiapdddkknpaa
open Go.RowKit

theorem OwnL.same {E U B : Nat} {w w' : World} {v : Value} {X : List Row2} (h : OwnL E U B w v X) (hs : ∀ g, B ≤ g → g < w.heap.size → w'.heap[g]? = w.heap[g]?) : OwnL E U B w' v X := by
  refine ⟨?_, fun x hx => ?_⟩
  · obtain ⟨h1, h2⟩ := h.row
    refine ⟨h1, ?_⟩
    rcases h2 with h2 | ⟨g, cap, cur, rfl, hB, hg, rest⟩
    · exact .inl h2
    · exact .inr ⟨g, cap, cur, rfl, hB, by rw [hs g hB (Array.getElem?_eq_some_iff.1 hg).1]; exact hg, rest⟩
  · obtain ⟨h1, h2⟩ := h.each x hx
    refine ⟨h1, ?_⟩
    rcases h2 with h2 | ⟨g, cap, cur, hv, hB, hg, rest⟩
    · exact .inl h2
    · exact .inr ⟨g, cap, cur, hv, hB, by rw [hs g hB (Array.getElem?_eq_some_iff.1 hg).1]; exact hg, rest⟩

theorem RetsCut.form {B : Nat} {w : World} {r : List (List UInt8) × Int} {e : Ending} (h : RetsCut B w r e) : ∃ a cap X, e = .returned (.tuple #[.slice a X.length cap, .int .i64 r.2]) ∧ OwnL 22 5 B w (.slice a X.length cap) X ∧ X.map (·.2.2.2) = r.1 := by
  obtain ⟨v, X, rfl, ho, hx⟩ := h
  rcases ho.form with ⟨rfl, rfl⟩ | ⟨g, cap, rfl, _⟩
  · exact ⟨_, _, [], rfl, ho, hx⟩
  · exact ⟨_, _, X, rfl, ho, hx⟩

theorem rows2_lit3 (w : World) (T : TypeId) (x0 x1 x2 : Row2) (h0 : Bts w x0.1 x0.2.1 x0.2.2.1 x0.2.2.2) (h1 : Bts w x1.1 x1.2.1 x1.2.2.1 x1.2.2.2) (h2 : Bts w x2.1 x2.2.1 x2.2.2.1 x2.2.2.2) :
    Rows2 (w.alloc (.cells #[.slice x0.1 x0.2.1 x0.2.2.1, .slice x1.1 x1.2.1 x1.2.2.1, .slice x2.1 x2.2.1 x2.2.2.1] T)) (some ⟨w.heap.size, 0, none⟩) 3 3 [x0, x1, x2] := by
  have hb : Below w.heap.size w (w.alloc (.cells #[.slice x0.1 x0.2.1 x0.2.2.1, .slice x1.1 x1.2.1 x1.2.2.1, .slice x2.1 x2.2.1 x2.2.2.1] T)) := (Below.refl _ _).alloc (Nat.le_refl _) _
  refine ⟨rfl, by unfold maxLen; omega, fun _ => ⟨w.heap.size, 0, rfl, by simp, fun i hi => ?_⟩, fun x hx => ?_⟩
  · rw [Nat.zero_add]
    exact cells3 w T x0 x1 x2 i hi
  · rcases List.mem_cons.1 hx with rfl | hx
    · exact h0.below hb
    · rcases List.mem_cons.1 hx with rfl | hx
      · exact h1.below hb
      · obtain rfl := List.mem_singleton.1 hx
        exact h2.below hb

theorem cells2 (w : World) (T : TypeId) (x0 x1 : Row2) : ∀ i, i < 2 → (w.alloc (.cells #[.slice x0.1 x0.2.1 x0.2.2.1, .slice x1.1 x1.2.1 x1.2.2.1] T)).cell? ⟨w.heap.size, i, none⟩ = some (.slice ([x0, x1][i]?.getD (none, 0, 0, [])).1 ([x0, x1][i]?.getD (none, 0, 0, [])).2.1 ([x0, x1][i]?.getD (none, 0, 0, [])).2.2.1) := by
  intro i hi
  rw [World.cell?_alloc_at _ _ _ _ rfl]
  match i, hi with
  | 0, _ => rfl
  | 1, _ => rfl

theorem rows2_nil (w : World) (a : Option Addr) (c : Nat) : Rows2 w a 0 c [] := ⟨rfl, Nat.zero_le _, fun h => absurd h (by decide), fun _ h => by cases h⟩

theorem strOf_append (a b : List UInt8) : strOf a ++ strOf b = strOf (a ++ b) := ByteArray.ext (by simp [strOf, ByteArray.data_append])

theorem strOf_size (a : List UInt8) : (strOf a).size = a.length := by simp [strOf, ByteArray.size]

theorem kept_below (g cap : Nat) (a : Option Addr) (len cap' : Nat) (l : List UInt8) (w : World) (ho : Bts w (some ⟨g, 0, none⟩) (len + 1) cap (l ++ [7])) (h : Bts w a len cap' l) (hm : len ≤ 2000) (B : Nat) (w0 : World) (hb : Below B w0 w) :
    Calls Try.prog 15 #[.slice (some ⟨g, 0, none⟩) len cap, .slice a len cap'] w fun e w' => e = .returned (.bool true) ∧ Below B w0 w' ∧ Below w.heap.size w w' :=
  (kept_any g cap a len cap' l w ho h hm).mono fun e w' ⟨he, d, hd⟩ => ⟨he, by subst hd; exact below_drewN hb d, by subst hd; exact below_drewN (Below.refl _ _) d⟩

set_option maxHeartbeats 4000000 in
theorem lists_main (a b c : Option Addr) (ca cb cc : Nat) (A B C : List UInt8) (za : Option Addr) (zl zc : Nat) (zs : List Int) (w : World) (ha : Bts w a A.length ca A) (hb : Bts w b B.length cb B) (hc : Bts w c C.length cc C) (hz : Nums w za zl zc zs)
    (hA : A.length ≤ 2000) (hB : B.length ≤ 2000) (hC : C.length ≤ 2000) (hZ : zl ≤ 100) :
    Calls Try.prog 5 #[.slice a A.length ca, .slice b B.length cb, .slice c C.length cc, .slice za zl zc] w fun e w' => e = .returned (.bool true) ∧ Below w.heap.size w w' := by
  have HA := Lib.hid ha
  have HB := Lib.hid hb
  have HC := Lib.hid hc
  have HZ := Lib.hid hz
  clear ha hb hc hz
  go_enter Try.func5, Try.ntmps5
  go_wp2_with fail
  refine (twin_any _ _ _ A _ HA.out hA).mono ?_
  rintro e1 w1 ⟨⟨gu, cu, rfl, hcu, hU⟩, hb1⟩
  have HU := Lib.hid hU.bts
  have h01 := Lib.hid hb1
  clear hU hb1
  go_wp2_with fail
  refine (twin_any _ _ _ B _ (HB.out.below h01.out) hB).mono ?_
  rintro e2 w2 ⟨⟨gv, cv, rfl, hcv, hV⟩, hb2⟩
  have HV := Lib.hid hV.bts
  have h12 := Lib.hid hb2
  have h02 := Lib.hid (h01.out.trans (hb2.mono h01.out.size))
  clear hV hb2
  go_wp2_with fail
  refine (twin_any _ _ _ C _ (HC.out.below h02.out) hC).mono ?_
  rintro e3 w3 ⟨⟨gw, cw, rfl, hcw, hW⟩, hb3⟩
  have HW3 := Lib.hid hW.bts
  have h03 := Lib.hid (h02.out.trans (hb3.mono h02.out.size))
  have HV3 := Lib.hid (HV.out.below hb3)
  have HU3 := Lib.hid (HU.out.below (h12.out.trans (hb3.mono h12.out.size)))
  have hu3 := Lib.hid (show Bts w3 (some ⟨gu, 0, none⟩) A.length cu A by simpa using HU3.out.take (k := A.length) (by omega))
  have hv3 := Lib.hid (show Bts w3 (some ⟨gv, 0, none⟩) B.length cv B by simpa using HV3.out.take (k := B.length) (by omega))
  have hw3 := Lib.hid (show Bts w3 (some ⟨gw, 0, none⟩) C.length cw C by simpa using HW3.out.take (k := C.length) (by omega))
  clear hW hb3 HU HV h12 h01 h02
  go_wp2_with fail
  refine (xor_any _ _ _ _ _ _ A B _ hu3.out hv3.out (by omega)).mono ?_
  rintro e4 w4 ⟨hr, hb4⟩
  obtain ⟨xa, xc, rfl, hx⟩ := hr.form
  have HX := Lib.hid hx
  have h34 := Lib.hid hb4
  have h04 := Lib.hid (h03.out.trans (hb4.mono h03.out.size))
  clear hx hr hb4
  generalize hR : xorR A B = R at *
  have HR := Lib.hid hR
  clear hR
  go_wp2_with fail
  refine (refxor_any _ _ _ _ _ _ A B _ (HA.out.below h04.out) (HB.out.below h04.out) (by omega)).mono ?_
  rintro e5 w5 ⟨hr, hb5⟩
  rw [HR.out] at hr
  obtain ⟨ya, yc, rfl, hy⟩ := hr.form
  have HY := Lib.hid hy
  have h45 := Lib.hid hb5
  have h35 := Lib.hid (h34.out.trans (hb5.mono h34.out.size))
  have h05 := Lib.hid (h04.out.trans (hb5.mono h04.out.size))
  clear hy hr hb5
  go_wp2_with fail
  refine (cut_any _ _ _ C _ _ _ zs _ (hw3.out.below h35.out) (HZ.out.below h05.out) (by omega) (by omega)).mono ?_
  rintro e6 w6 ⟨hr, hb6⟩
  obtain ⟨la, lc, X, rfl, hl, hX⟩ := hr.form
  have HL := Lib.hid hl
  have h56 := Lib.hid hb6
  have h36 := Lib.hid (h35.out.trans (hb6.mono h35.out.size))
  have h46 := Lib.hid (h45.out.trans (hb6.mono h45.out.size))
  have h06 := Lib.hid (h05.out.trans (hb6.mono h05.out.size))
  clear hl hr hb6
  generalize hR2 : cutR C zs = R2 at *
  have HR2 := Lib.hid hR2
  have HX2 := Lib.hid hX
  clear hR2 hX
  go_wp2_with fail
  refine (refcut_any _ _ _ C _ _ _ zs _ (HC.out.below h06.out) (HZ.out.below h06.out) (by omega) (by omega)).mono ?_
  rintro e7 w7 ⟨hr, hb7⟩
  rw [HR2.out] at hr
  obtain ⟨ma, mc, Y, rfl, hm, hY⟩ := hr.form
  have HM := Lib.hid hm
  have HY2 := Lib.hid hY
  have h67 := Lib.hid hb7
  have h37 := Lib.hid (h36.out.trans (hb7.mono h36.out.size))
  have h47 := Lib.hid (h46.out.trans (hb7.mono h46.out.size))
  have h57 := Lib.hid (h56.out.trans (hb7.mono h56.out.size))
  have h07 := Lib.hid (h06.out.trans (hb7.mono h06.out.size))
  clear hm hr hb7 hY
  go_wp2_with fail
  refine (join_any _ _ _ [(some ⟨gu, 0, none⟩, A.length, cu, A), (some ⟨gv, 0, none⟩, B.length, cv, B), (some ⟨gw, 0, none⟩, C.length, cw, C)] _ (rows2_lit3 w7 22 _ _ _ (hu3.out.below h37.out) (hv3.out.below h37.out) (hw3.out.below h37.out)) (by simp [joined]; omega)).mono ?_
  rintro e8 w8 ⟨hr, hb8⟩
  dsimp only at hr hb8
  rw [show joined [(some (⟨gu, 0, none⟩ : Addr), A.length, cu, A), (some ⟨gv, 0, none⟩, B.length, cv, B), (some ⟨gw, 0, none⟩, C.length, cw, C)] = A ++ B ++ C from by simp [joined]] at hr
  have cat1 := strOf_append A B
  have cat2 := strOf_append (A ++ B) C
  have sp := strOf_size (A ++ B)
  rw [List.length_append] at sp
  generalize A ++ B = AB at hr cat1 cat2 sp
  generalize AB ++ C = T at hr cat2
  have Cat1 := Lib.hid cat1
  have Cat2 := Lib.hid cat2
  have Sp := Lib.hid sp
  clear cat1 cat2 sp
  obtain ⟨oa, oc, rfl, ho⟩ := hr.form
  have HO := Lib.hid ho
  have hsz7 : w7.heap.size + 1 = (w7.alloc (.cells #[.slice (some ⟨gu, 0, none⟩) A.length cu, .slice (some ⟨gv, 0, none⟩) B.length cv, .slice (some ⟨gw, 0, none⟩) C.length cw] 22)).heap.size := by simp
  have h78 := Lib.hid (show Below w7.heap.size w7 w8 from ((Below.refl _ _).alloc (Nat.le_refl _) _).trans (hb8.mono (by omega)))
  have hsz8 := hb8.size
  have HS8 := Lib.hid (show w7.heap.size + 1 ≤ w8.heap.size by omega)
  clear ho hr hb8 hsz8
  have h38 := Lib.hid (h37.out.trans (h78.out.mono h37.out.size))
  have h48 := Lib.hid (h47.out.trans (h78.out.mono h47.out.size))
  have h58 := Lib.hid (h57.out.trans (h78.out.mono h57.out.size))
  have h68 := Lib.hid (h67.out.trans (h78.out.mono h67.out.size))
  have h08 := Lib.hid (h07.out.trans (h78.out.mono h07.out.size))
  have kx := conv8 (HX.out.bts.below h48.out)
  have ky := conv8 (HY.out.bts.below h58.out)
  go_wp2_with fail
  refine (lists_yes _ _ _ _ _ _ X Y _ (HL.out.below h68.out).rows (HM.out.below h78.out).rows (by rw [HX2.out, HY2.out])).mono ?_
  rintro e9 w9 ⟨rfl, d9, h9⟩
  have h89 := Lib.hid (show Below w8.heap.size w8 w9 by rw [h9]; exact below_drewN (Below.refl _ _) d9)
  have h39 := Lib.hid (h38.out.trans (h89.out.mono h38.out.size))
  have h09 := Lib.hid (h08.out.trans (h89.out.mono h08.out.size))
  clear h9 kx ky
  go_wp2_with fail
  refine (cmp_any _ _ _ _ _ _ A B _ (hu3.out.below h39.out) (hv3.out.below h39.out)).mono ?_
  rintro e9 w9' ⟨rfl, rfl⟩
  generalize hQ : Lib.compareBytes A B = Q at *
  have HQ := Lib.hid hQ
  clear hQ
  go_wp2_with fail
  refine (refcmp_any _ _ _ _ _ _ A B _ (HA.out.below h09.out) (HB.out.below h09.out)).mono ?_
  rintro e10 w10 ⟨rfl, d10, h10⟩
  rw [HQ.out]
  have h910 := Lib.hid (show Below w9.heap.size w9 w10 by rw [h10]; exact below_drewN (Below.refl _ _) d10)
  have h810 := Lib.hid (h89.out.trans (h910.out.mono h89.out.size))
  have h010 := Lib.hid (h09.out.trans (h910.out.mono h09.out.size))
  clear h10
  have ka := conv8 (HA.out.below h010.out)
  have kb := conv8 (HB.out.below h010.out)
  have kc := conv8 (HC.out.below h010.out)
  have ko := conv8 (HO.out.bts.below h810.out)
  have sa := strOf_size A
  have sb := strOf_size B
  have sc := strOf_size C
  have cat1 := Cat1.out
  have cat2 := Cat2.out
  have sp := Sp.out
  go_wp2_with fail
  refine (join_any _ _ _ [] _ (rows2_nil _ _ _) (by simp [joined])).mono ?_
  rintro e11 w11 ⟨hr, hb11⟩
  obtain ⟨na, nc, rfl, -⟩ := hr.form
  have h1011 := Lib.hid hb11
  have h811 := Lib.hid (h810.out.trans (h1011.out.mono h810.out.size))
  have h011 := Lib.hid (h010.out.trans (h1011.out.mono h010.out.size))
  clear hr hb11
  rw [show (joined []).length = 0 from rfl]
  have h311 := Lib.hid (h38.out.trans (h811.out.mono h38.out.size))
  have h411 := Lib.hid (h48.out.trans (h811.out.mono h48.out.size))
  have h611 := Lib.hid (h68.out.trans (h811.out.mono h68.out.size))
  go_wp2_with fail
  clear ka kb kc ko sa sb sc cat1 cat2 sp
  have hal := Lib.hid ((Below.refl w11.heap.size w11).alloc (Nat.le_refl _) (.cells #[.slice xa R.1.length xc, .slice oa T.length oc] 22))
  have hxo := Lib.hid ((HX.out.below h411.out).below hal.out)
  have hoo := Lib.hid ((HO.out.below h811.out).below hal.out)
  have hxlt := Lib.hid fun g (hg : (Value.slice xa R.1.length xc).ownBlock = some g) => World.ownsRow.lt HX.out g hg
  have holt := Lib.hid fun g (hg : (Value.slice oa T.length oc).ownBlock = some g) => World.ownsRow.lt HO.out g hg
  have hz45 := h45.out.size
  have hz56 := h56.out.size
  have hz67 := h67.out.size
  have hz811 := h811.out.size
  have hz34 := h34.out.size
  have hz8 := HS8.out
  refine (spoil_only (fun k => (Value.slice xa R.1.length xc).ownBlock = some k ∨ (Value.slice oa T.length oc).ownBlock = some k) w11.heap.size 2 2 [(xa, R.1.length, xc, R.1), (oa, T.length, oc, T)] _ ?q1 ⟨rfl, by unfold maxLen; omega, cells2 w11 22 _ _, ?q2⟩).mono ?_
  case q1 =>
    rintro (h | h)
    · have := hxlt.out _ h; omega
    · have := holt.out _ h; omega
  case q2 =>
    intro i hi
    match i, hi with
    | 0, _ => exact LiveS.of_own hxo.out fun g hg => .inl hg
    | 1, _ => exact LiveS.of_own hoo.out fun g hg => .inr hg
  rintro e12 w12 ⟨rfl, ho12⟩
  have hl12 : OwnL 22 5 w5.heap.size w12 (.slice la X.length lc) X := HL.out.same fun g hg hlt => by
    rw [ho12.block g (by simp; omega) (by
      rintro (h | h)
      · have := hxlt.out _ h; omega
      · have := holt.out _ h; simp at this; omega), Below.heap_alloc _ _ _ (by omega), h611.out.block g hlt]
  have h312 := Lib.hid ((h311.out.trans (hal.out.mono (by omega))).trans (ho12.below w3.heap.size (by simp; omega) (by
      rintro k (h | h)
      · have := hxlt.out _ h; omega
      · have := holt.out _ h; simp at this; omega)))
  have hz12 := ho12.size
  simp only [World.size_alloc] at hz12
  clear ho12 hxo hoo hal hxlt holt
  go_wp2_with fail
  refine (spoil_list w5.heap.size _ X _ hl12 (by omega)).mono ?_
  rintro e13 w13 ⟨rfl, hb13⟩
  have h313 := Lib.hid (h312.out.trans (hb13.mono (by omega)))
  have h013 := Lib.hid (h03.out.trans (h313.out.mono h03.out.size))
  clear hb13 h312
  go_wp2_with fail
  refine (kept_below gu cu a A.length ca A _ (HU3.out.below h313.out) (HA.out.below h013.out) hA w3.heap.size w3 h313.out).mono ?_
  rintro e14 w14 ⟨rfl, h314, -⟩
  have h014 := Lib.hid (h03.out.trans (h314.mono h03.out.size))
  have H314 := Lib.hid h314
  clear h314
  go_wp2_with fail
  refine (kept_below gv cv b B.length cb B _ (HV3.out.below H314.out) (HB.out.below h014.out) hB w3.heap.size w3 H314.out).mono ?_
  rintro e15 w15 ⟨rfl, h315, -⟩
  have h015 := Lib.hid (h03.out.trans (h315.mono h03.out.size))
  have H315 := Lib.hid h315
  clear h315
  go_wp2_with fail
  refine (kept_below gw cw c C.length cc C _ (HW3.out.below H315.out) (HC.out.below h015.out) hC w3.heap.size w3 H315.out).mono ?_
  rintro e16 w16 ⟨rfl, h316, -⟩
  have h016 := Lib.hid (h03.out.trans (h316.mono h03.out.size))
  clear h316
  go_wp2_with fail
  go_ret
  exact ⟨rfl, h016.out⟩

theorem nums_of_row {w : World} {a : Option Addr} {len cap : Nat} {zs : List Int}
    (h : (a = .none ∧ len = 0 ∧ cap = 0 ∧ zs = []) ∨ ∃ x, a = some x ∧ len ≤ cap ∧ cap ≤ maxLen ∧ zs.length = cap ∧ (∀ i, i < zs.length → w.cell? (x.add i) = some (.int .i64 (zs.getD i 0))) ∧ ∀ n ∈ zs, (Lit.int .i64 n).wf = true) :
    ∃ l, Nums w a len cap l := by
  rcases h with ⟨rfl, rfl, rfl, rfl⟩ | ⟨x, rfl, hl, hm, hz, hc, hw⟩
  · exact ⟨[], rfl, Nat.le_refl _, by unfold maxLen; omega, fun h => by omega⟩
  · refine ⟨zs.take len, by simp; omega, hl, hm, fun hp => ?_⟩
    obtain ⟨b, off, spot⟩ := x
    have h0 := hc 0 (by omega)
    have hs : spot = .none := by simpa [Addr.add] using World.cell?_spot h0
    subst hs
    refine ⟨b, off, rfl, World.block_lt_of_cell? w _ (by simpa [Addr.add] using h0), fun i hi => ?_⟩
    have hci := hc i (by omega)
    have e : (⟨b, off, .none⟩ : Addr).add i = ⟨b, off + i, .none⟩ := by unfold Addr.add; split <;> simp_all
    rw [e] at hci
    rw [hci]
    have hlt : i < zs.length := by omega
    simp [List.getD, List.getElem?_take, hi, hlt]

set_option maxHeartbeats 400000 in
/-- THE WHOLE LAW: any three, and sizes. -/
theorem lists_walk (a : Option Addr) (la ca : Nat) (A : List UInt8) (b : Option Addr) (lb cb : Nat) (B : List UInt8) (c : Option Addr) (lc cc : Nat) (C : List UInt8) (za : Option Addr) (zl zc : Nat) (zs : List Int) (w : World)
    (ha : Bts w a la ca A) (hb : Bts w b lb cb B) (hc : Bts w c lc cc C) (hz : Nums w za zl zc zs) :
    Calls Try.prog 5 #[.slice a la ca, .slice b lb cb, .slice c lc cc, .slice za zl zc] w fun e w' => e = .returned (.bool true) ∧ Below w.heap.size w w' := by
  by_cases hs : la ≤ 2000 ∧ lb ≤ 2000 ∧ lc ≤ 2000 ∧ zl ≤ 100
  · obtain ⟨h1, h2, h3, h4⟩ := hs
    obtain rfl := ha.length
    obtain rfl := hb.length
    obtain rfl := hc.length
    exact lists_main a b c ca cb cc A B C za zl zc zs w ha hb hc hz h1 h2 h3 h4
  · have hm1 := ha.len_le
    have hm2 := hb.len_le
    have hm3 := hc.len_le
    have hm4 : zl ≤ maxLen := Nat.le_trans hz.le hz.max
    unfold maxLen at hm1 hm2 hm3 hm4
    clear ha hb hc hz
    by_cases h1 : la ≤ 2000
    · by_cases h2 : lb ≤ 2000
      · by_cases h3 : lc ≤ 2000
        · have h4 : 100 < zl := by omega
          clear hs
          go_enter Try.func5, Try.ntmps5
          go_wp2
          go_ret
          exact ⟨rfl, Below.refl _ _⟩
        · have h4 : 2000 < lc := by omega
          clear hs h3
          go_enter Try.func5, Try.ntmps5
          go_wp2
          go_ret
          exact ⟨rfl, Below.refl _ _⟩
      · have h4 : 2000 < lb := by omega
        clear hs h2
        go_enter Try.func5, Try.ntmps5
        go_wp2
        go_ret
        exact ⟨rfl, Below.refl _ _⟩
    · have h4 : 2000 < la := by omega
      clear hs h1
      go_enter Try.func5, Try.ntmps5
      go_wp2
      go_ret
      exact ⟨rfl, Below.refl _ _⟩

end Go.Proofs.Ytidiapdddkknpaa
