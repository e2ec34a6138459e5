/-
  WALKS OF THE LAW's alive AND OF OctetTexts.
-/
import Derived.Test.YtidiapdddkknpaaOctU
import Derived.Test.YtidiapdddkknpaaOctV
namespace Go.Proofs.Ytidiapdddkknpaa
open Go.RowKit

theorem Bts.lit (w : World) (E : TypeId) (l : List UInt8) (cs : Array Value) (h : cs = (l.map byt).toArray) (hm : l.length ≤ maxLen) : Bts (w.alloc (.cells cs E)) (some ⟨w.heap.size, 0, .none⟩) l.length l.length l := by
  subst h
  refine ⟨rfl, Nat.le_refl _, hm, (fun h => by cases h), fun _ => ⟨w.heap.size, 0, rfl, by simp, fun i hi => ?_⟩⟩
  rw [World.cell?_alloc_at _ _ _ _ (by simp)]
  simp [byt, hi]

theorem WholeIs.form {l : List UInt8} {e : Ending} (h : WholeIs l e) : e = .returned (.tuple #[.int .u64 (wVal l), .int .i64 (wErr l)]) := h

set_option maxHeartbeats 1600000 in
theorem alive_any (w : World) : Calls Try.prog 33 #[] w fun e w' => e = .returned (.bool true) ∧ Below w.heap.size w w' := by
  go_enter Try.func33, Try.ntmps33
  go_wp2_with fail
  refine (unhex_any [48, 48, 97, 98, 48, 57] _ (by decide)).mono ?_
  rintro e1 w1 ⟨hr, hb1⟩
  rw [show unhexR [48, 48, 97, 98, 48, 57] = ([0, 171, 9], 0) from by decide] at hr
  obtain ⟨ba, bc, rfl, hb⟩ := hr.form
  have HB := Lib.hid hb
  have H1 := Lib.hid hb1
  have hz1 := hb1.size
  clear hr hb hb1
  go_wp2_with fail
  refine (whole_any _ _ _ [0, 1, 2] _ (Bts.lit w1 5 [0, 1, 2] #[.int .u8 0, .int .u8 1, .int .u8 2] rfl (by decide))).mono ?_
  rintro e2 w2 ⟨he, rfl⟩
  have he' := he.form
  rw [show wVal [0, 1, 2] = 258 from by decide, show wErr [0, 1, 2] = 0 from by decide] at he'
  subst he'
  clear he
  have h2 := (Below.refl w1.heap.size w1).alloc (Nat.le_refl _) (.cells #[.int .u8 0, .int .u8 1, .int .u8 2] 5)
  obtain ⟨w2, hw2⟩ : ∃ w2, w1.alloc (.cells #[.int .u8 0, .int .u8 1, .int .u8 2] 5) = w2 := ⟨_, rfl⟩
  rw [hw2] at h2 ⊢
  have H2 := Lib.hid h2
  have hz2 := h2.size
  clear h2 hw2
  go_wp2_with fail
  refine (hex_any _ _ _ [0, 171, 9] _ (Bts.lit w2 5 [0, 171, 9] #[.int .u8 0, .int .u8 171, .int .u8 9] rfl (by decide)) (by decide)).mono ?_
  rintro e3 w3 ⟨rfl, hb3⟩
  have H3 := Lib.hid (show Below w2.heap.size w2 w3 from ((Below.refl _ _).alloc (Nat.le_refl _) _).trans (hb3.mono (by simp)))
  clear hb3
  rw [show strOf (hexL [0, 171, 9]) = ⟨#[48, 48, 97, 98, 48, 57]⟩ from by decide]
  have h13 := Lib.hid (H2.out.trans (H3.out.mono hz2))
  have kb : (convert 22 9 (.slice ba 3 bc)).run Try.prog w3 = .ok (.string ⟨#[0, 171, 9]⟩) w3 := conv8 (HB.out.bts.below h13.out)
  go_wp2_with fail
  go_ret
  exact ⟨rfl, H1.out.trans (h13.out.mono hz1)⟩

theorem kept_below2 (g cap : Nat) (a : Option Addr) (len cap' : Nat) (l : List UInt8) (w : World) (ho : Bts w (some ⟨g, 0, none⟩) (len + 1) cap (l ++ [7])) (h : Bts w a len cap' l) (hm : len ≤ 2000) :
    Calls Try.prog 15 #[.slice (some ⟨g, 0, none⟩) len cap, .slice a len cap'] w fun e w' => e = .returned (.bool true) ∧ Below w.heap.size w w' :=
  (kept_any g cap a len cap' l w ho h hm).mono fun e w' ⟨he, d, hd⟩ => ⟨he, by subst hd; exact below_drewN (Below.refl _ _) d⟩

set_option maxHeartbeats 1600000 in
theorem texts_main (a : Option Addr) (ca : Nat) (A : List UInt8) (l : List UInt8) (w : World) (ha : Bts w a A.length ca A) (hA : A.length ≤ 2000) (hl : l.length ≤ 2000) :
    Calls Try.prog 3 #[.slice a A.length ca, .string (strOf l)] w fun e w' => e = .returned (.bool true) ∧ Below w.heap.size w w' := by
  have HA := Lib.hid ha
  have hs := strOf_size' l
  clear ha
  go_enter Try.func3, Try.ntmps3
  go_wp2_with fail
  refine (twin_any _ _ _ A _ HA.out hA).mono ?_
  rintro e1 w1 ⟨⟨gu, cu, rfl, hcu, hU⟩, hb1⟩
  have HU := Lib.hid hU.bts
  have hu := Lib.hid (show Bts w1 (some ⟨gu, 0, none⟩) A.length cu A by simpa using hU.bts.take (k := A.length) (by omega))
  have h01 := Lib.hid hb1
  clear hU hb1
  go_wp2_with fail
  refine (unhex_any l _ (by omega)).mono ?_
  rintro e2 w2 ⟨hr, hb2⟩
  obtain ⟨xa, xc, rfl, hx⟩ := hr.form
  have HX := Lib.hid hx
  have h12 := Lib.hid hb2
  have h02 := Lib.hid (h01.out.trans (hb2.mono h01.out.size))
  clear hr hx hb2
  generalize hR : unhexR l = R at *
  have HR := Lib.hid hR
  clear hR
  go_wp2_with fail
  refine (refunhex_any l _ (by omega)).mono ?_
  rintro e3 w3 ⟨hr, hb3⟩
  rw [HR.out] at hr
  obtain ⟨ya, yc, rfl, hy⟩ := hr.form
  have HY := Lib.hid hy
  have h23 := Lib.hid hb3
  have h13 := Lib.hid (h12.out.trans (hb3.mono h12.out.size))
  have h03 := Lib.hid (h02.out.trans (hb3.mono h02.out.size))
  clear hr hy hb3
  go_wp2_with fail
  refine (hex_any _ _ _ A _ (hu.out.below h13.out) (by omega)).mono ?_
  rintro e4 w4 ⟨rfl, hb4⟩
  have h34 := Lib.hid hb4
  have h14 := Lib.hid (h13.out.trans (hb4.mono h13.out.size))
  have h24 := Lib.hid (h23.out.trans (hb4.mono h23.out.size))
  have h04 := Lib.hid (h03.out.trans (hb4.mono h03.out.size))
  clear hb4
  go_wp2_with fail
  refine (refhex_any _ _ _ A _ (HA.out.below h04.out) (by omega)).mono ?_
  rintro e5 w5 ⟨rfl, hb5⟩
  have h15 := Lib.hid (h14.out.trans (hb5.mono h14.out.size))
  have h25 := Lib.hid (h24.out.trans (hb5.mono h24.out.size))
  have h35 := Lib.hid (h34.out.trans (hb5.mono h34.out.size))
  have h05 := Lib.hid (h04.out.trans (hb5.mono h04.out.size))
  clear hb5
  have kx := conv8 (HX.out.bts.below h25.out)
  have ky := conv8 (HY.out.bts.below h35.out)
  go_wp2_with fail
  clear kx ky
  refine (kept_below2 gu cu a A.length ca A _ (HU.out.below h15.out) (HA.out.below h05.out) hA).mono ?_
  rintro e6 w6 ⟨rfl, hb6⟩
  have h06 := Lib.hid (h05.out.trans (hb6.mono h05.out.size))
  clear hb6
  go_wp2_with fail
  go_ret
  exact ⟨rfl, h06.out⟩

set_option maxHeartbeats 400000 in
/-- THE WHOLE LAW: any bytes and any text. -/
theorem texts_walk (a : Option Addr) (la ca : Nat) (A : List UInt8) (s : ByteArray) (w : World) (ha : Bts w a la ca A) (hsz : s.size ≤ maxLen) :
    Calls Try.prog 3 #[.slice a la ca, .string s] w fun e w' => e = .returned (.bool true) ∧ Below w.heap.size w w' := by
  have hm := ha.len_le
  unfold maxLen at hm hsz
  have hss : s.size = s.data.toList.length := Array.length_toList.symm
  by_cases h1 : la ≤ 2000
  · by_cases h2 : s.size ≤ 2000
    · obtain rfl := ha.length
      exact texts_main a ca A s.data.toList w ha h1 (by omega)
    · have h3 : 2000 < s.size := by omega
      clear h2 ha hss
      go_enter Try.func3, Try.ntmps3
      go_wp2
      go_ret
      exact ⟨rfl, Below.refl _ _⟩
  · have h3 : 2000 < la := by omega
    clear h1 ha hss
    go_enter Try.func3, Try.ntmps3
    go_wp2
    go_ret
    exact ⟨rfl, Below.refl _ _⟩

end Go.Proofs.Ytidiapdddkknpaa
