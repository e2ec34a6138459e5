/-
  TreeNames: the laws' is, fits; the chapter's examples, one by one; a chain of nodes, a row of nodes; the rules' names.
-/
import Derived.Test.YtbikghejedkkeaaDoorTpB
import Derived.Test.YtbikghejedkkeaaDoorTrO
import Derived.Test.YtbikghejedkkeaaDoorTxF
import Derived.KernelRfl
namespace Go.Proofs.YtbikghejedkkeaaDoor
open Go.RowKit

/-- A test of the laws: a tree that may be. -/
theorem isT_fine (V : NV) (T : Tr) (w : World) (hn : NodeAt w V T) (hN : T.cnt ≤ 1000000) (hd : T.dep ≤ 1000000) (hl : Tabs w) (h : wrongR qV T = (0, -1)) :
    Calls Tryd.prog 20 #[V.agg, .int .i64 0, .int .i64 (-1)] w fun e w' => e = .returned (.bool true) ∧ Below w.heap.size w w' := by
  have hb0 : Below w.heap.size w (w.alloc (.cells #[.int .i64 V.cls, .int .i64 V.tag, .bool V.cons, .slice V.ba V.bl V.bc, .slice V.ka V.kl V.kc] 25)) := (Below.refl _ _).alloc (Nat.le_refl _) _
  have HW := Lib.hid (wrong_v V T _ (hn.under hb0) hN hd (tabs_below hl hb0))
  have HC := Lib.hid (fun (W : World) (hB : Below w.heap.size w W) => check_any Tabs (fun _ _ h hb => tabs_below h hb) qV V T W (hn.under hB) hN hd (tabs_below hl hB) (fun p _ => wantedV p.2.tag))
  have hcs : CellsAt (w.alloc (.cells #[.int .i64 V.cls, .int .i64 V.tag, .bool V.cons, .slice V.ba V.bl V.bc, .slice V.ka V.kl V.kc] 25)) w.heap.size 0 V := by constructor <;> simp
  have HCS := Lib.hid hcs
  have HB0 := Lib.hid hb0
  rw [h] at HW
  simp only [h, if_pos] at HC
  obtain ⟨c, t, kk, ba, bl, bc, ka, kl, kc⟩ := V
  unfold NV.agg at HW HC ⊢
  dsimp only at HW HC ⊢
  clear hn hb0 hl hcs h
  go_enter Tryd.func20, Tryd.ntmps20
  go_wp2_with fail
  refine HW.out.mono ?_
  rintro e w2 ⟨rfl, hb⟩
  have HB := Lib.hid hb
  obtain ⟨p0, p1, p2, p3, p4⟩ := HCS.out.below hb (by simp)
  dsimp only at p0 p1 p2 p3 p4
  simp only [Nat.zero_add] at p0 p1 p2 p3 p4
  clear hb
  go_wp2_with fail
  refine (HC.out w2 (HB0.out.trans (HB.out.mono (by simp)))).mono ?_
  rintro e w3 ⟨rfl, hb3⟩
  have HB3 := Lib.hid (HB0.out.trans ((HB.out.mono (by simp)).trans (hb3.mono (by have := HB.out.size; simp at this; omega))))
  clear hb3
  go_wp2_with fail
  go_ret
  exact ⟨rfl, HB3.out⟩

/-- A test of the laws: a tree that may not be. -/
theorem isT_not (V : NV) (T : Tr) (w : World) (hn : NodeAt w V T) (hN : T.cnt ≤ 1000000) (hd : T.dep ≤ 1000000) (hl : Tabs w) (r a : Int) (h : wrongR qV T = (r, a)) (hr : ¬ r = 0) :
    Calls Tryd.prog 20 #[V.agg, .int .i64 r, .int .i64 a] w fun e w' => e = .returned (.bool true) ∧ Below w.heap.size w w' :=
  isT_yes Tabs (fun _ _ h hb => tabs_below h hb) qV V T w hn hN hd hl (fun p _ => wantedV p.2.tag) r a h hr

theorem wrong_yes_v (t : Int) (l : List Nat) (hl : Byt l) (hm : l.length ≤ 100000) (w : World) (hw : Tabs w) (hr : wrongR qV (.mk 0 t false l []) = (4, 0)) :
    Calls Tryd.prog 24 #[.int .i64 t, .string ⟨(u8s l).toArray⟩] w fun e w' => e = .returned (.bool true) ∧ Below w.heap.size w w' :=
  wrong_yes Tabs (fun _ _ h hb => tabs_below h hb) qV t l hl hm w hw (wantedV t) hr

set_option maxHeartbeats 1000000 in
/-- The law's test that a tag may have these bytes. -/
theorem fits_yes (t : Int) (l : List Nat) (hl : Byt l) (hm : l.length ≤ 100000) (w : World) (hw : Tabs w) (hr : wrongR qV (.mk 0 t false l []) = (0, -1)) :
    Calls Tryd.prog 23 #[.int .i64 t, .string ⟨(u8s l).toArray⟩] w fun e w' => e = .returned (.bool true) ∧ Below w.heap.size w w' := by
  have hcv := Lib.run_convert_string_bytes (P := Tryd.prog) w 9 22 5 ⟨(u8s l).toArray⟩ (u := .string) Tryd.underlying9 Tryd.underlying22 Tryd.underlying5
  rw [u8T_size] at hcv
  have HR := Lib.hid (bytesT_reads w 5 l hl (by omega))
  have HB := Lib.hid (bytesT_below w 5 ⟨(u8s l).toArray⟩)
  have HQ := Lib.hid (And.intro hw hr)
  clear hw hr
  go_enter Tryd.func23, Tryd.ntmps23
  go_wp2_with fail
  generalize Lib.bytesWorld w 5 ⟨(u8s l).toArray⟩ = w1 at *
  clear hcv
  refine (prim_any 0 t _ _ _ l w1 HR.out hl (by omega)).mono ?_
  rintro e w2 ⟨⟨V, rfl, hm2⟩, hb2⟩
  have HM := Lib.hid hm2.node
  have HB2 := Lib.hid (HB.out.trans (hb2.mono HB.out.size))
  obtain ⟨c, t', kk, ba, bl, bc, ka, kl, kc⟩ := V
  unfold NV.agg
  dsimp only
  clear hm2 hb2
  go_wp2_with fail
  refine (isT_fine ⟨c, t', kk, ba, bl, bc, ka, kl, kc⟩ _ w2 HM.out (by simp [Tr.cnt, cntL]) (by simp [Tr.dep, depL]) (tabs_below HQ.out.1 HB2.out) HQ.out.2).mono ?_
  rintro e w3 ⟨rfl, hb3⟩
  have HB3 := Lib.hid (HB2.out.trans (hb3.mono HB2.out.size))
  clear hb3
  go_wp2_with fail
  go_ret
  exact ⟨rfl, HB3.out⟩

set_option maxHeartbeats 2000000 in
/-- A number that is none: of another class, or too long. -/
theorem asInt_no (V : NV) (T : Tr) (w : World) (hn : NodeAt w V T) (h : T.cls ≠ 0 ∨ (T.cls = 0 ∧ T.tag = 2 ∧ 8 < T.b.length)) :
    Calls Tryd.prog 26 #[V.agg] w fun e w' => e = .returned (.tuple #[.int .i64 0, .int .i64 110]) ∧ Below w.heap.size w w' := by
  obtain ⟨w1, hw1⟩ : ∃ w1, w.alloc (.cells #[.int .i64 V.cls, .int .i64 V.tag, .bool V.cons, .slice V.ba V.bl V.bc, .slice V.ka V.kl V.kc] 25) = w1 := ⟨_, rfl⟩
  have hb1 : Below w.heap.size w w1 := by rw [← hw1]; exact (Below.refl _ _).alloc (Nat.le_refl _) _
  have hc1 : CellsAt w1 w.heap.size 0 V := by rw [← hw1]; constructor <;> simp
  have hc := hn.cls
  have ht := hn.tag
  have hl := hn.bytes.length
  have hle := hn.bytes.len_le
  unfold maxLen at hle
  rw [hc, ht, hl] at h
  obtain ⟨vc, vt, kk, ba, bl, bc, ka, kl, kc⟩ := V
  dsimp only at h hle
  have HB1 := Lib.hid hb1
  have HC1 := Lib.hid hc1
  obtain ⟨p0, p1, p2, p3, p4⟩ := hc1
  dsimp only at p0 p1 p2 p3 p4
  simp only [Nat.zero_add] at p0 p1 p2 p3 p4
  clear hb1 hc ht hl hn
  unfold NV.agg
  dsimp only
  rcases h with hc0 | ⟨rfl, rfl, h8⟩
  · have I0 := Lib.hid (fun W : World => is_any ⟨vc, vt, kk, ba, bl, bc, ka, kl, kc⟩ 0 2 W)
    have I1 := Lib.hid (fun W : World => is_any ⟨vc, vt, kk, ba, bl, bc, ka, kl, kc⟩ 0 10 W)
    simp only [decide_eq_false hc0, Bool.false_and] at I0 I1
    unfold NV.agg at I0 I1
    dsimp only at I0 I1
    clear hc0
    go_enter Tryd.func26, Tryd.ntmps26
    go_wp2_with fail
    clear hw1
    refine (I0.out w1).mono ?_
    rintro e w2 ⟨rfl, hb2⟩
    have HB2 := Lib.hid hb2
    clear p0 p1 p2 p3 p4 hb2
    obtain ⟨p0, p1, p2, p3, p4⟩ := HC1.out.below HB2.out HC1.out.lt
    dsimp only at p0 p1 p2 p3 p4
    simp only [Nat.zero_add] at p0 p1 p2 p3 p4
    go_wp2_with fail
    refine (I1.out w2).mono ?_
    rintro e w3 ⟨rfl, hb3⟩
    have HB3 := Lib.hid (HB2.out.trans (hb3.mono HB2.out.size))
    clear p0 p1 p2 p3 p4 hb3
    go_wp2_with fail
    go_ret2
    exact ⟨rfl, HB1.out.trans (HB3.out.mono HB1.out.size)⟩
  · have I0 := Lib.hid (fun W : World => is_any ⟨0, 2, kk, ba, bl, bc, ka, kl, kc⟩ 0 2 W)
    simp only [decide_true, Bool.true_and] at I0
    unfold NV.agg at I0
    dsimp only at I0
    have z8 : (8 : Int) < (bl : Int) := by omega
    go_enter Tryd.func26, Tryd.ntmps26
    go_wp2_with fail
    clear hw1
    refine (I0.out w1).mono ?_
    rintro e w2 ⟨rfl, hb2⟩
    have HB2 := Lib.hid hb2
    clear p0 p1 p2 p3 p4 hb2
    obtain ⟨p0, p1, p2, p3, p4⟩ := HC1.out.below HB2.out HC1.out.lt
    dsimp only at p0 p1 p2 p3 p4
    simp only [Nat.zero_add] at p0 p1 p2 p3 p4
    go_wp2_with fail
    go_ret2
    exact ⟨rfl, HB1.out.trans (HB2.out.mono HB1.out.size)⟩

section

set_option maxRecDepth 100000

theorem ex_a0 (w : World) (h : Tabs w) : Calls Tryd.prog 23 #[.int .i64 1, .string ⟨#[0]⟩] w fun e w' => e = .returned (.bool true) ∧ Below w.heap.size w w' :=
  fits_yes 1 [0] (by decide) (by decide) w h (show wrongR qV (.mk 0 1 false [0] []) = (0, -1) by kernel_rfl)
theorem ex_a1 (w : World) (h : Tabs w) : Calls Tryd.prog 23 #[.int .i64 1, .string ⟨#[255]⟩] w fun e w' => e = .returned (.bool true) ∧ Below w.heap.size w w' :=
  fits_yes 1 [255] (by decide) (by decide) w h (show wrongR qV (.mk 0 1 false [255] []) = (0, -1) by kernel_rfl)
theorem ex_a2 (w : World) (h : Tabs w) : Calls Tryd.prog 24 #[.int .i64 1, .string ⟨#[]⟩] w fun e w' => e = .returned (.bool true) ∧ Below w.heap.size w w' :=
  wrong_yes_v 1 [] (by decide) (by decide) w h (show wrongR qV (.mk 0 1 false [] []) = (4, 0) by kernel_rfl)
theorem ex_a3 (w : World) (h : Tabs w) : Calls Tryd.prog 24 #[.int .i64 2, .string ⟨#[]⟩] w fun e w' => e = .returned (.bool true) ∧ Below w.heap.size w w' :=
  wrong_yes_v 2 [] (by decide) (by decide) w h (show wrongR qV (.mk 0 2 false [] []) = (4, 0) by kernel_rfl)
theorem ex_a4 (w : World) (h : Tabs w) : Calls Tryd.prog 24 #[.int .i64 2, .string ⟨#[0, 127]⟩] w fun e w' => e = .returned (.bool true) ∧ Below w.heap.size w w' :=
  wrong_yes_v 2 [0, 127] (by decide) (by decide) w h (show wrongR qV (.mk 0 2 false [0, 127] []) = (4, 0) by kernel_rfl)
theorem ex_a5 (w : World) (h : Tabs w) : Calls Tryd.prog 24 #[.int .i64 10, .string ⟨#[255, 128]⟩] w fun e w' => e = .returned (.bool true) ∧ Below w.heap.size w w' :=
  wrong_yes_v 10 [255, 128] (by decide) (by decide) w h (show wrongR qV (.mk 0 10 false [255, 128] []) = (4, 0) by kernel_rfl)
theorem ex_a6 (w : World) (h : Tabs w) : Calls Tryd.prog 23 #[.int .i64 2, .string ⟨#[0, 128]⟩] w fun e w' => e = .returned (.bool true) ∧ Below w.heap.size w w' :=
  fits_yes 2 [0, 128] (by decide) (by decide) w h (show wrongR qV (.mk 0 2 false [0, 128] []) = (0, -1) by kernel_rfl)
theorem ex_a7 (w : World) (h : Tabs w) : Calls Tryd.prog 23 #[.int .i64 10, .string ⟨#[255, 127]⟩] w fun e w' => e = .returned (.bool true) ∧ Below w.heap.size w w' :=
  fits_yes 10 [255, 127] (by decide) (by decide) w h (show wrongR qV (.mk 0 10 false [255, 127] []) = (0, -1) by kernel_rfl)
theorem ex_a8 (w : World) (h : Tabs w) : Calls Tryd.prog 23 #[.int .i64 3, .string ⟨#[0]⟩] w fun e w' => e = .returned (.bool true) ∧ Below w.heap.size w w' :=
  fits_yes 3 [0] (by decide) (by decide) w h (show wrongR qV (.mk 0 3 false [0] []) = (0, -1) by kernel_rfl)
theorem ex_a9 (w : World) (h : Tabs w) : Calls Tryd.prog 24 #[.int .i64 3, .string ⟨#[1]⟩] w fun e w' => e = .returned (.bool true) ∧ Below w.heap.size w w' :=
  wrong_yes_v 3 [1] (by decide) (by decide) w h (show wrongR qV (.mk 0 3 false [1] []) = (4, 0) by kernel_rfl)
theorem ex_a10 (w : World) (h : Tabs w) : Calls Tryd.prog 24 #[.int .i64 3, .string ⟨#[]⟩] w fun e w' => e = .returned (.bool true) ∧ Below w.heap.size w w' :=
  wrong_yes_v 3 [] (by decide) (by decide) w h (show wrongR qV (.mk 0 3 false [] []) = (4, 0) by kernel_rfl)
theorem ex_a11 (w : World) (h : Tabs w) : Calls Tryd.prog 24 #[.int .i64 3, .string ⟨#[8, 0]⟩] w fun e w' => e = .returned (.bool true) ∧ Below w.heap.size w w' :=
  wrong_yes_v 3 [8, 0] (by decide) (by decide) w h (show wrongR qV (.mk 0 3 false [8, 0] []) = (4, 0) by kernel_rfl)
theorem ex_a12 (w : World) (h : Tabs w) : Calls Tryd.prog 23 #[.int .i64 3, .string ⟨#[4, 240]⟩] w fun e w' => e = .returned (.bool true) ∧ Below w.heap.size w w' :=
  fits_yes 3 [4, 240] (by decide) (by decide) w h (show wrongR qV (.mk 0 3 false [4, 240] []) = (0, -1) by kernel_rfl)
theorem ex_a13 (w : World) (h : Tabs w) : Calls Tryd.prog 24 #[.int .i64 3, .string ⟨#[4, 248]⟩] w fun e w' => e = .returned (.bool true) ∧ Below w.heap.size w w' :=
  wrong_yes_v 3 [4, 248] (by decide) (by decide) w h (show wrongR qV (.mk 0 3 false [4, 248] []) = (4, 0) by kernel_rfl)
theorem ex_a14 (w : World) (h : Tabs w) : Calls Tryd.prog 23 #[.int .i64 5, .string ⟨#[]⟩] w fun e w' => e = .returned (.bool true) ∧ Below w.heap.size w w' :=
  fits_yes 5 [] (by decide) (by decide) w h (show wrongR qV (.mk 0 5 false [] []) = (0, -1) by kernel_rfl)
theorem ex_a15 (w : World) (h : Tabs w) : Calls Tryd.prog 24 #[.int .i64 5, .string ⟨#[0]⟩] w fun e w' => e = .returned (.bool true) ∧ Below w.heap.size w w' :=
  wrong_yes_v 5 [0] (by decide) (by decide) w h (show wrongR qV (.mk 0 5 false [0] []) = (4, 0) by kernel_rfl)
theorem ex_a16 (w : World) (h : Tabs w) : Calls Tryd.prog 24 #[.int .i64 6, .string ⟨#[]⟩] w fun e w' => e = .returned (.bool true) ∧ Below w.heap.size w w' :=
  wrong_yes_v 6 [] (by decide) (by decide) w h (show wrongR qV (.mk 0 6 false [] []) = (4, 0) by kernel_rfl)
theorem ex_a17 (w : World) (h : Tabs w) : Calls Tryd.prog 24 #[.int .i64 6, .string ⟨#[128, 1]⟩] w fun e w' => e = .returned (.bool true) ∧ Below w.heap.size w w' :=
  wrong_yes_v 6 [128, 1] (by decide) (by decide) w h (show wrongR qV (.mk 0 6 false [128, 1] []) = (4, 0) by kernel_rfl)
theorem ex_a18 (w : World) (h : Tabs w) : Calls Tryd.prog 24 #[.int .i64 6, .string ⟨#[42, 128]⟩] w fun e w' => e = .returned (.bool true) ∧ Below w.heap.size w w' :=
  wrong_yes_v 6 [42, 128] (by decide) (by decide) w h (show wrongR qV (.mk 0 6 false [42, 128] []) = (4, 0) by kernel_rfl)
theorem ex_a19 (w : World) (h : Tabs w) : Calls Tryd.prog 23 #[.int .i64 6, .string ⟨#[42, 134, 72]⟩] w fun e w' => e = .returned (.bool true) ∧ Below w.heap.size w w' :=
  fits_yes 6 [42, 134, 72] (by decide) (by decide) w h (show wrongR qV (.mk 0 6 false [42, 134, 72] []) = (0, -1) by kernel_rfl)
theorem ex_a20 (w : World) (h : Tabs w) : Calls Tryd.prog 24 #[.int .i64 6, .string ⟨#[42, 128, 1]⟩] w fun e w' => e = .returned (.bool true) ∧ Below w.heap.size w w' :=
  wrong_yes_v 6 [42, 128, 1] (by decide) (by decide) w h (show wrongR qV (.mk 0 6 false [42, 128, 1] []) = (4, 0) by kernel_rfl)
theorem ex_a21 (w : World) (h : Tabs w) : Calls Tryd.prog 23 #[.int .i64 6, .string ⟨#[129, 128, 1]⟩] w fun e w' => e = .returned (.bool true) ∧ Below w.heap.size w w' :=
  fits_yes 6 [129, 128, 1] (by decide) (by decide) w h (show wrongR qV (.mk 0 6 false [129, 128, 1] []) = (0, -1) by kernel_rfl)
theorem ex_b0 (w : World) (h : Tabs w) : Calls Tryd.prog 23 #[.int .i64 12, .string ⟨#[97, 195, 169]⟩] w fun e w' => e = .returned (.bool true) ∧ Below w.heap.size w w' :=
  fits_yes 12 [97, 195, 169] (by decide) (by decide) w h (show wrongR qV (.mk 0 12 false [97, 195, 169] []) = (0, -1) by kernel_rfl)
theorem ex_b1 (w : World) (h : Tabs w) : Calls Tryd.prog 24 #[.int .i64 12, .string ⟨#[195]⟩] w fun e w' => e = .returned (.bool true) ∧ Below w.heap.size w w' :=
  wrong_yes_v 12 [195] (by decide) (by decide) w h (show wrongR qV (.mk 0 12 false [195] []) = (4, 0) by kernel_rfl)
theorem ex_b2 (w : World) (h : Tabs w) : Calls Tryd.prog 24 #[.int .i64 12, .string ⟨#[237, 160, 128]⟩] w fun e w' => e = .returned (.bool true) ∧ Below w.heap.size w w' :=
  wrong_yes_v 12 [237, 160, 128] (by decide) (by decide) w h (show wrongR qV (.mk 0 12 false [237, 160, 128] []) = (4, 0) by kernel_rfl)
theorem ex_b3 (w : World) (h : Tabs w) : Calls Tryd.prog 24 #[.int .i64 12, .string ⟨#[192, 128]⟩] w fun e w' => e = .returned (.bool true) ∧ Below w.heap.size w w' :=
  wrong_yes_v 12 [192, 128] (by decide) (by decide) w h (show wrongR qV (.mk 0 12 false [192, 128] []) = (4, 0) by kernel_rfl)
theorem ex_b4 (w : World) (h : Tabs w) : Calls Tryd.prog 23 #[.int .i64 19, .string ⟨#[65, 122, 32, 48, 57, 32, 39, 40, 41, 43, 44, 45, 46, 47, 58, 61, 63]⟩] w fun e w' => e = .returned (.bool true) ∧ Below w.heap.size w w' :=
  fits_yes 19 [65, 122, 32, 48, 57, 32, 39, 40, 41, 43, 44, 45, 46, 47, 58, 61, 63] (by decide) (by decide) w h (show wrongR qV (.mk 0 19 false [65, 122, 32, 48, 57, 32, 39, 40, 41, 43, 44, 45, 46, 47, 58, 61, 63] []) = (0, -1) by kernel_rfl)
theorem ex_b5 (w : World) (h : Tabs w) : Calls Tryd.prog 24 #[.int .i64 19, .string ⟨#[97, 64, 98]⟩] w fun e w' => e = .returned (.bool true) ∧ Below w.heap.size w w' :=
  wrong_yes_v 19 [97, 64, 98] (by decide) (by decide) w h (show wrongR qV (.mk 0 19 false [97, 64, 98] []) = (4, 0) by kernel_rfl)
theorem ex_b6 (w : World) (h : Tabs w) : Calls Tryd.prog 24 #[.int .i64 19, .string ⟨#[42]⟩] w fun e w' => e = .returned (.bool true) ∧ Below w.heap.size w w' :=
  wrong_yes_v 19 [42] (by decide) (by decide) w h (show wrongR qV (.mk 0 19 false [42] []) = (4, 0) by kernel_rfl)
theorem ex_b7 (w : World) (h : Tabs w) : Calls Tryd.prog 23 #[.int .i64 22, .string ⟨#[97, 64, 98, 0]⟩] w fun e w' => e = .returned (.bool true) ∧ Below w.heap.size w w' :=
  fits_yes 22 [97, 64, 98, 0] (by decide) (by decide) w h (show wrongR qV (.mk 0 22 false [97, 64, 98, 0] []) = (0, -1) by kernel_rfl)
theorem ex_b8 (w : World) (h : Tabs w) : Calls Tryd.prog 24 #[.int .i64 22, .string ⟨#[128]⟩] w fun e w' => e = .returned (.bool true) ∧ Below w.heap.size w w' :=
  wrong_yes_v 22 [128] (by decide) (by decide) w h (show wrongR qV (.mk 0 22 false [128] []) = (4, 0) by kernel_rfl)
theorem ex_c0 (w : World) (h : Tabs w) : Calls Tryd.prog 23 #[.int .i64 24, .string ⟨#[50, 48, 50, 52, 48, 50, 50, 57, 50, 51, 53, 57, 53, 57, 90]⟩] w fun e w' => e = .returned (.bool true) ∧ Below w.heap.size w w' :=
  fits_yes 24 [50, 48, 50, 52, 48, 50, 50, 57, 50, 51, 53, 57, 53, 57, 90] (by decide) (by decide) w h (show wrongR qV (.mk 0 24 false [50, 48, 50, 52, 48, 50, 50, 57, 50, 51, 53, 57, 53, 57, 90] []) = (0, -1) by kernel_rfl)
theorem ex_c1 (w : World) (h : Tabs w) : Calls Tryd.prog 24 #[.int .i64 24, .string ⟨#[50, 48, 50, 51, 48, 50, 50, 57, 48, 48, 48, 48, 48, 48, 90]⟩] w fun e w' => e = .returned (.bool true) ∧ Below w.heap.size w w' :=
  wrong_yes_v 24 [50, 48, 50, 51, 48, 50, 50, 57, 48, 48, 48, 48, 48, 48, 90] (by decide) (by decide) w h (show wrongR qV (.mk 0 24 false [50, 48, 50, 51, 48, 50, 50, 57, 48, 48, 48, 48, 48, 48, 90] []) = (4, 0) by kernel_rfl)
theorem ex_c2 (w : World) (h : Tabs w) : Calls Tryd.prog 24 #[.int .i64 24, .string ⟨#[50, 48, 50, 52, 48, 49, 48, 49, 48, 48, 48, 48, 48, 48, 46, 53, 48, 90]⟩] w fun e w' => e = .returned (.bool true) ∧ Below w.heap.size w w' :=
  wrong_yes_v 24 [50, 48, 50, 52, 48, 49, 48, 49, 48, 48, 48, 48, 48, 48, 46, 53, 48, 90] (by decide) (by decide) w h (show wrongR qV (.mk 0 24 false [50, 48, 50, 52, 48, 49, 48, 49, 48, 48, 48, 48, 48, 48, 46, 53, 48, 90] []) = (4, 0) by kernel_rfl)
theorem ex_c3 (w : World) (h : Tabs w) : Calls Tryd.prog 23 #[.int .i64 24, .string ⟨#[50, 48, 50, 52, 48, 49, 48, 49, 48, 48, 48, 48, 48, 48, 46, 53, 90]⟩] w fun e w' => e = .returned (.bool true) ∧ Below w.heap.size w w' :=
  fits_yes 24 [50, 48, 50, 52, 48, 49, 48, 49, 48, 48, 48, 48, 48, 48, 46, 53, 90] (by decide) (by decide) w h (show wrongR qV (.mk 0 24 false [50, 48, 50, 52, 48, 49, 48, 49, 48, 48, 48, 48, 48, 48, 46, 53, 90] []) = (0, -1) by kernel_rfl)
theorem ex_c4 (w : World) (h : Tabs w) : Calls Tryd.prog 24 #[.int .i64 24, .string ⟨#[50, 48, 50, 52, 48, 49, 48, 49, 48, 48, 48, 48, 48, 48, 46, 90]⟩] w fun e w' => e = .returned (.bool true) ∧ Below w.heap.size w w' :=
  wrong_yes_v 24 [50, 48, 50, 52, 48, 49, 48, 49, 48, 48, 48, 48, 48, 48, 46, 90] (by decide) (by decide) w h (show wrongR qV (.mk 0 24 false [50, 48, 50, 52, 48, 49, 48, 49, 48, 48, 48, 48, 48, 48, 46, 90] []) = (4, 0) by kernel_rfl)
theorem ex_c5 (w : World) (h : Tabs w) : Calls Tryd.prog 24 #[.int .i64 24, .string ⟨#[50, 48, 50, 52, 48, 49, 48, 49, 48, 48, 48, 48, 48, 48]⟩] w fun e w' => e = .returned (.bool true) ∧ Below w.heap.size w w' :=
  wrong_yes_v 24 [50, 48, 50, 52, 48, 49, 48, 49, 48, 48, 48, 48, 48, 48] (by decide) (by decide) w h (show wrongR qV (.mk 0 24 false [50, 48, 50, 52, 48, 49, 48, 49, 48, 48, 48, 48, 48, 48] []) = (4, 0) by kernel_rfl)
theorem ex_c6 (w : World) (h : Tabs w) : Calls Tryd.prog 24 #[.int .i64 24, .string ⟨#[50, 48, 50, 52, 48, 49, 48, 49, 50, 52, 48, 48, 48, 48, 90]⟩] w fun e w' => e = .returned (.bool true) ∧ Below w.heap.size w w' :=
  wrong_yes_v 24 [50, 48, 50, 52, 48, 49, 48, 49, 50, 52, 48, 48, 48, 48, 90] (by decide) (by decide) w h (show wrongR qV (.mk 0 24 false [50, 48, 50, 52, 48, 49, 48, 49, 50, 52, 48, 48, 48, 48, 90] []) = (4, 0) by kernel_rfl)
theorem ex_c7 (w : World) (h : Tabs w) : Calls Tryd.prog 24 #[.int .i64 24, .string ⟨#[50, 48, 50, 52, 48, 49, 48, 48, 48, 48, 48, 48, 48, 48, 90]⟩] w fun e w' => e = .returned (.bool true) ∧ Below w.heap.size w w' :=
  wrong_yes_v 24 [50, 48, 50, 52, 48, 49, 48, 48, 48, 48, 48, 48, 48, 48, 90] (by decide) (by decide) w h (show wrongR qV (.mk 0 24 false [50, 48, 50, 52, 48, 49, 48, 48, 48, 48, 48, 48, 48, 48, 90] []) = (4, 0) by kernel_rfl)
theorem ex_c8 (w : World) (h : Tabs w) : Calls Tryd.prog 24 #[.int .i64 24, .string ⟨#[49, 57, 48, 48, 48, 50, 50, 57, 48, 48, 48, 48, 48, 48, 90]⟩] w fun e w' => e = .returned (.bool true) ∧ Below w.heap.size w w' :=
  wrong_yes_v 24 [49, 57, 48, 48, 48, 50, 50, 57, 48, 48, 48, 48, 48, 48, 90] (by decide) (by decide) w h (show wrongR qV (.mk 0 24 false [49, 57, 48, 48, 48, 50, 50, 57, 48, 48, 48, 48, 48, 48, 90] []) = (4, 0) by kernel_rfl)
theorem ex_c9 (w : World) (h : Tabs w) : Calls Tryd.prog 23 #[.int .i64 24, .string ⟨#[50, 48, 48, 48, 48, 50, 50, 57, 48, 48, 48, 48, 48, 48, 90]⟩] w fun e w' => e = .returned (.bool true) ∧ Below w.heap.size w w' :=
  fits_yes 24 [50, 48, 48, 48, 48, 50, 50, 57, 48, 48, 48, 48, 48, 48, 90] (by decide) (by decide) w h (show wrongR qV (.mk 0 24 false [50, 48, 48, 48, 48, 50, 50, 57, 48, 48, 48, 48, 48, 48, 90] []) = (0, -1) by kernel_rfl)
theorem ex_c10 (w : World) (h : Tabs w) : Calls Tryd.prog 23 #[.int .i64 23, .string ⟨#[53, 48, 48, 50, 50, 56, 48, 48, 48, 48, 48, 48, 90]⟩] w fun e w' => e = .returned (.bool true) ∧ Below w.heap.size w w' :=
  fits_yes 23 [53, 48, 48, 50, 50, 56, 48, 48, 48, 48, 48, 48, 90] (by decide) (by decide) w h (show wrongR qV (.mk 0 23 false [53, 48, 48, 50, 50, 56, 48, 48, 48, 48, 48, 48, 90] []) = (0, -1) by kernel_rfl)
theorem ex_c11 (w : World) (h : Tabs w) : Calls Tryd.prog 24 #[.int .i64 23, .string ⟨#[53, 48, 48, 50, 50, 57, 48, 48, 48, 48, 48, 48, 90]⟩] w fun e w' => e = .returned (.bool true) ∧ Below w.heap.size w w' :=
  wrong_yes_v 23 [53, 48, 48, 50, 50, 57, 48, 48, 48, 48, 48, 48, 90] (by decide) (by decide) w h (show wrongR qV (.mk 0 23 false [53, 48, 48, 50, 50, 57, 48, 48, 48, 48, 48, 48, 90] []) = (4, 0) by kernel_rfl)
theorem ex_c12 (w : World) (h : Tabs w) : Calls Tryd.prog 23 #[.int .i64 23, .string ⟨#[52, 56, 48, 50, 50, 57, 48, 48, 48, 48, 48, 48, 90]⟩] w fun e w' => e = .returned (.bool true) ∧ Below w.heap.size w w' :=
  fits_yes 23 [52, 56, 48, 50, 50, 57, 48, 48, 48, 48, 48, 48, 90] (by decide) (by decide) w h (show wrongR qV (.mk 0 23 false [52, 56, 48, 50, 50, 57, 48, 48, 48, 48, 48, 48, 90] []) = (0, -1) by kernel_rfl)
theorem ex_c13 (w : World) (h : Tabs w) : Calls Tryd.prog 24 #[.int .i64 23, .string ⟨#[52, 56, 48, 50, 50, 57, 48, 48, 48, 48, 54, 48, 90]⟩] w fun e w' => e = .returned (.bool true) ∧ Below w.heap.size w w' :=
  wrong_yes_v 23 [52, 56, 48, 50, 50, 57, 48, 48, 48, 48, 54, 48, 90] (by decide) (by decide) w h (show wrongR qV (.mk 0 23 false [52, 56, 48, 50, 50, 57, 48, 48, 48, 48, 54, 48, 90] []) = (4, 0) by kernel_rfl)
theorem ex_c14 (w : World) (h : Tabs w) : Calls Tryd.prog 24 #[.int .i64 23, .string ⟨#[52, 56, 48, 50, 50, 57, 48, 48, 48, 48, 90]⟩] w fun e w' => e = .returned (.bool true) ∧ Below w.heap.size w w' :=
  wrong_yes_v 23 [52, 56, 48, 50, 50, 57, 48, 48, 48, 48, 90] (by decide) (by decide) w h (show wrongR qV (.mk 0 23 false [52, 56, 48, 50, 50, 57, 48, 48, 48, 48, 90] []) = (4, 0) by kernel_rfl)
theorem ex_c15 (w : World) (h : Tabs w) : Calls Tryd.prog 24 #[.int .i64 24, .string ⟨#[43, 48, 50, 52, 48, 49, 48, 49, 48, 48, 48, 48, 48, 48, 90]⟩] w fun e w' => e = .returned (.bool true) ∧ Below w.heap.size w w' :=
  wrong_yes_v 24 [43, 48, 50, 52, 48, 49, 48, 49, 48, 48, 48, 48, 48, 48, 90] (by decide) (by decide) w h (show wrongR qV (.mk 0 24 false [43, 48, 50, 52, 48, 49, 48, 49, 48, 48, 48, 48, 48, 48, 90] []) = (4, 0) by kernel_rfl)

end

def chainT : Nat → Tr
  | 0 => .mk 0 2 false [1] []
  | n + 1 => .mk 0 16 true [] [chainT n]
theorem chainT_cnt (n : Nat) : (chainT n).cnt = n + 1 := by
  induction n with
  | zero => rfl
  | succ n ih => simp only [chainT, Tr.cnt, cntL, ih]
theorem chainT_dep (n : Nat) : (chainT n).dep = n + 1 := by
  induction n with
  | zero => rfl
  | succ n ih => simp only [chainT, Tr.dep, depL, ih]; omega
theorem chainT_wt (n : Nat) : (chainT n).wt = n + 2 := by
  induction n with
  | zero => rfl
  | succ n ih => simp only [chainT, Tr.wt, wtL, ih, List.length_nil]
set_option maxRecDepth 100000 in
theorem chain_fine : wrongR qV (chainT 23) = (0, -1) := by kernel_rfl
set_option maxRecDepth 100000 in
theorem chain_deep : wrongR qV (.mk 0 16 true [] [chainT 23]) = (5, 0) := by kernel_rfl

def nullT : Tr := .mk 0 5 false [] []
def wideT (ks : List Tr) : Tr := .mk 0 16 true [] ks
theorem cntL_null (n : Nat) : cntL (List.replicate n nullT) = n := by
  induction n with
  | zero => rfl
  | succ n ih => rw [List.replicate_succ, cntL, ih]; simp only [nullT, Tr.cnt, cntL]; omega
theorem depL_null (n : Nat) : depL (List.replicate n nullT) ≤ 1 := by
  induction n with
  | zero => simp [depL]
  | succ n ih =>
    have e : nullT.dep = 1 := rfl
    rw [List.replicate_succ, depL, e]
    omega
theorem wtL_null (n : Nat) : wtL (List.replicate n nullT) = n := by
  induction n with
  | zero => rfl
  | succ n ih => rw [List.replicate_succ, wtL, ih]; simp only [nullT, Tr.wt, wtL, List.length_nil]; omega
theorem TsL_null (n : Nat) : TsL (List.replicate n nullT) = List.replicate n nullT := by
  induction n with
  | zero => rfl
  | succ n ih =>
    unfold TsL at ih ⊢
    rw [List.replicate_succ, nodesL, List.map_append, ih]
    rfl
theorem fbT_fine (q : Int → List Nat → Bool) (l : List Tr) (h : ∀ t ∈ l, brokenN q t = 0) : fbT q l = (0, -1) := by
  induction l with
  | nil => rfl
  | cons t ts ih => rw [fbT, if_pos (h t (by simp)), ih (fun x hx => h x (by simp [hx])), if_pos rfl]
theorem wide_cnt (n : Nat) : (wideT (List.replicate n nullT)).cnt = n + 1 := by unfold wideT; rw [Tr.cnt, cntL_null]
theorem wide_dep (n : Nat) : (wideT (List.replicate n nullT)).dep ≤ 2 := by unfold wideT; rw [Tr.dep]; have := depL_null n; omega
theorem wide_fine (n : Nat) (hn : n ≤ 3999) : wrongR qV (wideT (List.replicate n nullT)) = (0, -1) := by
  have hd := wide_dep n
  rw [wrongR_eq, if_neg (by omega), if_neg (by rw [wide_cnt]; omega)]
  refine fbT_fine _ _ fun t ht => ?_
  have e : (Tr.nodes 1 (wideT (List.replicate n nullT))).map (·.2) = wideT (List.replicate n nullT) :: List.replicate n nullT := by
    have := Ts_mk 0 16 true [] (List.replicate n nullT)
    rw [TsL_null] at this
    exact this
  rw [e] at ht
  rcases List.mem_cons.1 ht with rfl | ht
  · cases n <;> rfl
  · rw [(List.mem_replicate.1 ht).2]
    rfl
theorem wide_many : wrongR qV (wideT (List.replicate 4000 nullT)) = (6, 0) := by
  have hd := wide_dep 4000
  rw [wrongR_eq, if_neg (by omega), if_pos (by rw [wide_cnt]; omega)]

theorem nodes0 (w : World) : NodesAt w .none 0 0 [] := ⟨rfl, Nat.le_refl _, by unfold maxLen; omega, fun _ => rfl, fun _ => default, fun h => by omega, fun i h => by simp at h⟩
theorem nodes1 (w : World) (V : NV) (T : Tr) (h : NodeAt w V T) (E : TypeId) : NodesAt (w.alloc (.cells #[.int .i64 V.cls, .int .i64 V.tag, .bool V.cons, .slice V.ba V.bl V.bc, .slice V.ka V.kl V.kc] E)) (some ⟨w.heap.size, 0, .none⟩) 1 1 [T] := by
  have hb : Below w.heap.size w (w.alloc (.cells #[.int .i64 V.cls, .int .i64 V.tag, .bool V.cons, .slice V.ba V.bl V.bc, .slice V.ka V.kl V.kc] E)) := (Below.refl _ _).alloc (Nat.le_refl _) _
  refine ⟨rfl, Nat.le_refl _, by unfold maxLen; omega, (fun h => by cases h), fun _ => V, fun _ => ⟨w.heap.size, 0, rfl, by simp, fun i hi => ?_⟩, fun i hi => ?_⟩
  · obtain rfl : i = 0 := by omega
    constructor <;> simp
  · obtain rfl : i = 0 := by simp at hi; omega
    exact h.under hb

theorem Open5.put {w : World} {g : Nat} (h : Open5 w g) (b : Nat) (V : NV) : Open5 (putNode w b V) g := by
  unfold putNode
  exact ((((h.setCell _ _).setCell _ _).setCell _ _).setCell _ _).setCell _ _

/-- A row of null nodes, so far; the rest are not written yet. -/
def nullV : NV := ⟨0, 5, false, .none, 0, 0, .none, 0, 0⟩
def zeroV : NV := ⟨0, 0, false, .none, 0, 0, .none, 0, 0⟩
theorem null_at (w : World) : NodeAt w nullV nullT := NodeAt.of rfl rfl rfl (Reads.none .u8 w) (fun x hx => by cases hx) (nodes0 w)

/-- A row of null nodes is a row of nodes. -/
theorem nodes_null {w : World} {B g n cap : Nat} (h : RowN w B (.slice (some ⟨g, 0, .none⟩) n cap) (List.replicate n nullV)) : NodesAt w (some ⟨g, 0, .none⟩) n cap (List.replicate n nullT) := by
  have h' := h
  rcases h.2 with ⟨hx, _⟩ | ⟨g', cap', cur, hv, hB, hg, hle, hmx, -, -⟩
  · simp at hx
  · simp only [Value.slice.injEq, Option.some.injEq, Addr.mk.injEq, and_true] at hv
    obtain ⟨rfl, hn, rfl⟩ := hv
    rw [List.length_replicate] at hle
    refine ⟨by rw [List.length_replicate], hle, hmx, (fun h => by cases h), fun _ => nullV, fun hp => ⟨g, 0, rfl, (Array.getElem?_eq_some_iff.1 hg).1, fun i hi => ?_⟩, fun i hi => ?_⟩
    · have := h'.at i nullV (by rw [List.getElem?_replicate, if_pos hi])
      rw [Nat.zero_add]
      exact this
    · rw [List.getElem_replicate]
      exact null_at w


theorem made_flat (n : Nat) : (madeCells (Value.agg #[.int .i64 0, .int .i64 0, .bool false, .slice .none 0 0, .slice .none 0 0]).cells (n * 5)).toList = (List.replicate n zeroV).flatMap NV.cells := by
  apply List.ext_getElem?
  intro m
  by_cases hm : m < n * 5
  · have hq : m / 5 < n := by omega
    have e := flat5_get (List.replicate n zeroV) (m / 5) (m % 5) zeroV (by rw [List.getElem?_replicate, if_pos hq]) (Nat.mod_lt _ (by decide))
    rw [show m / 5 * 5 + m % 5 = m by omega] at e
    rw [e]
    have hr : m % 5 = 0 ∨ m % 5 = 1 ∨ m % 5 = 2 ∨ m % 5 = 3 ∨ m % 5 = 4 := by omega
    rcases hr with h | h | h | h | h <;> simp [madeCells, hm, Value.cells, NV.cells, zeroV, h]
  · have h1 : (madeCells (Value.agg #[.int .i64 0, .int .i64 0, .bool false, .slice .none 0 0, .slice .none 0 0]).cells (n * 5)).toList.length ≤ m := by rw [Array.length_toList, size_madeCells]; omega
    rw [List.getElem?_eq_none h1, List.getElem?_eq_none (by rw [flat5_length, List.length_replicate]; omega)]

/-- Five cells from a place on are stored. -/
def put5 (w : World) (g o : Nat) (V : NV) : World :=
  ((((w.setCell ⟨g, o, .none⟩ (.int .i64 V.cls)).setCell ⟨g, o + 1, .none⟩ (.int .i64 V.tag)).setCell ⟨g, o + 2, .none⟩ (.bool V.cons)).setCell ⟨g, o + 3, .none⟩ (.slice V.ba V.bl V.bc)).setCell ⟨g, o + 4, .none⟩ (.slice V.ka V.kl V.kc)

theorem flat5_set (Vs : List NV) (i : Nat) (V : NV) (hi : i < Vs.length) :
    (((((Vs.flatMap NV.cells).set (i * 5) (.int .i64 V.cls)).set (i * 5 + 1) (.int .i64 V.tag)).set (i * 5 + 2) (.bool V.cons)).set (i * 5 + 3) (.slice V.ba V.bl V.bc)).set (i * 5 + 4) (.slice V.ka V.kl V.kc) = (Vs.set i V).flatMap NV.cells := by
  apply List.ext_getElem?
  intro m
  have hl := flat5_length Vs
  by_cases hm : m < Vs.length * 5
  · have hq : m / 5 < Vs.length := by omega
    have hq2 : m / 5 < (Vs.set i V).length := by rw [List.length_set]; exact hq
    have e := flat5_get Vs (m / 5) (m % 5) _ (List.getElem?_eq_getElem hq) (Nat.mod_lt _ (by decide))
    have e2 := flat5_get (Vs.set i V) (m / 5) (m % 5) _ (List.getElem?_eq_getElem hq2) (Nat.mod_lt _ (by decide))
    rw [show m / 5 * 5 + m % 5 = m by omega] at e e2
    rw [e2, List.getElem_set]
    simp only [List.getElem?_set, List.length_set, hl]
    by_cases hqi : i = m / 5
    · rw [if_pos hqi]
      have hr : m = i * 5 ∨ m = i * 5 + 1 ∨ m = i * 5 + 2 ∨ m = i * 5 + 3 ∨ m = i * 5 + 4 := by omega
      rcases hr with rfl | rfl | rfl | rfl | rfl
      · rw [show i * 5 % 5 = 0 by omega]; simp [NV.cells, hm]
      · rw [show (i * 5 + 1) % 5 = 1 by omega]; simp [NV.cells, hm]
      · rw [show (i * 5 + 2) % 5 = 2 by omega]; simp [NV.cells, hm]
      · rw [show (i * 5 + 3) % 5 = 3 by omega]; simp [NV.cells, hm]
      · rw [show (i * 5 + 4) % 5 = 4 by omega]; simp [NV.cells, hm]
    · rw [if_neg hqi, if_neg (by omega), if_neg (by omega), if_neg (by omega), if_neg (by omega), if_neg (by omega), e]
  · rw [List.getElem?_eq_none (by simp only [List.length_set, hl]; omega), List.getElem?_eq_none (by rw [flat5_length, List.length_set]; omega)]

theorem RowN.put {w : World} {B g n cap : Nat} {Vs : List NV} (h : RowN w B (.slice (some ⟨g, 0, .none⟩) n cap) Vs) (i : Nat) (hi : i < Vs.length) (V : NV) : RowN (put5 w g (i * 5) V) B (.slice (some ⟨g, 0, .none⟩) n cap) (Vs.set i V) ∧ ∀ k, k ≠ g → (put5 w g (i * 5) V).heap[k]? = w.heap[k]? := by
  have hn : n = Vs.length := by
    rcases h.2 with ⟨h', _⟩ | ⟨_, _, _, h', _⟩
    · simp at h'
    · simp only [Value.slice.injEq] at h'; exact h'.2.1
  subst hn
  have h1 := (World.ownsRow.stored h (i * 5) (.int .i64 V.cls)).1
  have h2 := (World.ownsRow.stored h1 (i * 5 + 1) (.int .i64 V.tag)).1
  have h3 := (World.ownsRow.stored h2 (i * 5 + 2) (.bool V.cons)).1
  have h4 := (World.ownsRow.stored h3 (i * 5 + 3) (.slice V.ba V.bl V.bc)).1
  have h5 := (World.ownsRow.stored h4 (i * 5 + 4) (.slice V.ka V.kl V.kc)).1
  rw [flat5_set Vs i V hi] at h5
  refine ⟨?_, fun k hk => ?_⟩
  · unfold RowN
    rw [List.length_set]
    exact h5
  · unfold put5
    rw [Below.heap_setCell _ _ _ _ hk, Below.heap_setCell _ _ _ _ hk, Below.heap_setCell _ _ _ _ hk, Below.heap_setCell _ _ _ _ hk, Below.heap_setCell _ _ _ _ hk]

theorem RowN.freeAt {w : World} {B g n cap : Nat} {Vs : List NV} (h : RowN w B (.slice (some ⟨g, 0, .none⟩) n cap) Vs) (j : Nat) : w.frozen? ⟨g, j, .none⟩ = false := by
  have hn : n = Vs.length := by
    rcases h.2 with ⟨h', _⟩ | ⟨_, _, _, h', _⟩
    · simp at h'
    · simp only [Value.slice.injEq] at h'; exact h'.2.1
  subst hn
  exact World.ownsRow.frozenAt h j

/-- The first i are null nodes. -/
def wideV (n i : Nat) : List NV := List.replicate i nullV ++ List.replicate (n - i) zeroV
theorem wideV_length (n i : Nat) (h : i ≤ n) : (wideV n i).length = n := by unfold wideV; rw [List.length_append, List.length_replicate, List.length_replicate]; omega
theorem wideV_get (n i : Nat) (h : i < n) : (wideV n i)[i]? = some zeroV := by
  unfold wideV
  rw [List.getElem?_append_right (by rw [List.length_replicate]; exact Nat.le_refl _), List.length_replicate, Nat.sub_self, List.getElem?_replicate, if_pos (by omega)]
theorem wideV_set (n i : Nat) (h : i < n) : (wideV n i).set i nullV = wideV n (i + 1) := by
  unfold wideV
  obtain ⟨m, hm⟩ : ∃ m, n - i = m + 1 := ⟨n - i - 1, by omega⟩
  rw [hm, show n - (i + 1) = m by omega, List.replicate_succ, List.set_append_right _ _ (by rw [List.length_replicate]; exact Nat.le_refl _), List.length_replicate, Nat.sub_self, List.set_cons_zero, List.replicate_succ', List.append_assoc]
  rfl
theorem wideV_full (n : Nat) : wideV n n = List.replicate n nullV := by unfold wideV; rw [Nat.sub_self, List.replicate_zero, List.append_nil]

theorem made_row {w' : World} {B g : Nat} (n : Nat) (h : w'.ownsRow B 25 5 (.slice (some ⟨g, 0, .none⟩) n n) n (madeCells (Value.agg #[.int .i64 0, .int .i64 0, .bool false, .slice .none 0 0, .slice .none 0 0]).cells (n * 5)).toList) : RowN w' B (.slice (some ⟨g, 0, .none⟩) n n) (wideV n 0) := by
  unfold RowN
  rw [wideV_length n 0 (Nat.zero_le _), show wideV n 0 = List.replicate n zeroV from rfl, ← made_flat]
  exact h
theorem put5_below {B g : Nat} {w0 w : World} (h : Below B w0 w) (hg : B ≤ g) (o : Nat) (V : NV) : Below B w0 (put5 w g o V) :=
  ((((h.setCell (p := ⟨g, o, .none⟩) hg _).setCell (p := ⟨g, o + 1, .none⟩) hg _).setCell (p := ⟨g, o + 2, .none⟩) hg _).setCell (p := ⟨g, o + 3, .none⟩) hg _).setCell (p := ⟨g, o + 4, .none⟩) hg _
theorem null_news (w : World) (E : TypeId) : ∀ j u, (nullV.cells)[j]? = some u → (w.alloc (.cells #[.int .i64 0, .int .i64 5, .bool false, .slice .none 0 0, .slice .none 0 0] E)).cell? ((⟨w.heap.size, 0, .none⟩ : Addr).add j) = some u := by
  intro j u hu
  have hj : j < 5 := by have := (List.getElem?_eq_some_iff.1 hu).1; simpa [NV.cells] using this
  have h := World.ownsRow.cellAt (World.ownsRow_lit (base := 0) (size := 5) (e := E) w #[.int .i64 0, .int .i64 5, .bool false, .slice .none 0 0, .slice .none 0 0] 1 (Nat.zero_le _) (by unfold maxLen; omega) rfl) j (by omega)
  rw [show (⟨w.heap.size, 0, .none⟩ : Addr).add j = ⟨w.heap.size, j, .none⟩ by unfold Addr.add; split <;> simp_all, h]
  exact hu
theorem row_null {w : World} {B n : Nat} {v : Value} (h : RowN w B v (List.replicate n nullV)) : w.ownsRow B 25 5 v n ((List.replicate n nullV).flatMap NV.cells) := by
  unfold RowN at h
  rwa [List.length_replicate] at h
theorem nodes_more {w : World} {B g cap : Nat} (h : w.ownsRow B 25 5 (.slice (some ⟨g, 0, .none⟩) (3999 + 1) cap) (3999 + 1) ((List.replicate 3999 nullV).flatMap NV.cells ++ nullV.cells)) : NodesAt w (some ⟨g, 0, .none⟩) 4000 cap (List.replicate 4000 nullT) := by
  refine nodes_null (B := B) ?_
  unfold RowN
  rw [List.length_replicate, show List.replicate 4000 nullV = List.replicate 3999 nullV ++ [nullV] from List.replicate_succ' (n := 3999), List.flatMap_append]
  exact h

/-- An append whose run is known, guarded or not. -/
theorem oper_append {P : Program} {o : Oper} {s x : Operand} {t : TypeId} {a : Act} {w w' : World} {K : Act → World → Prop} {Q : Exit → Act → World → Prop} {v xv v' : Value}
    (hr : (Builtin.append_ #[t, t] o.type #[v, xv]).run P w = .ok v' w') (ho : o.op = .call { callee := .builtin .append, args := #[s, x], argTypes := #[t, t] }) (hs : a.eval s = v) (hx : a.eval x = xv) (hK : K (a.put o.dst v') w') : o.wp P a w K Q := by
  unfold Oper.wp execOp
  simp only [ho, resolve, invoke, builtin, Sem.run_bind, Sem.run_pure, Result.andThen_ok, List.map_toArray, List.map_cons, List.map_nil, hs, hx, hr]
  exact hK

/-- A rule's name. -/
def nameW (n : Int) : ByteArray := if n = 1 then ⟨#[99, 108, 97, 115, 115]⟩ else if n = 2 then ⟨#[102, 111, 114, 109]⟩ else if n = 3 then ⟨#[107, 105, 110, 100]⟩ else if n = 4 then ⟨#[99, 111, 110, 116, 101, 110, 116]⟩ else if n = 5 then ⟨#[100, 101, 101, 112]⟩ else if n = 6 then ⟨#[109, 97, 110, 121]⟩ else ⟨#[]⟩

theorem ret_strW {a b : ByteArray} (h : a = b) : Ending.returned (.string a) = .returned (.string b) := by rw [h]

set_option maxHeartbeats 1000000 in
theorem name_w (n : Int) (w : World) : Calls Tryd.prog 17 #[.int .i64 n] w fun e w' => e = .returned (.string (nameW n)) ∧ w' = w := by
  by_cases h : n = 1 ∨ n = 2 ∨ n = 3 ∨ n = 4 ∨ n = 5 ∨ n = 6
  · rcases h with rfl | rfl | rfl | rfl | rfl | rfl
    all_goals
      go_enter Tryd.func17, Tryd.ntmps17
      go_wp2_with fail
      go_ret
      exact ⟨rfl, rfl⟩
  · have HF := Lib.hid (show nameW n = ⟨#[]⟩ by unfold nameW; rw [if_neg (by omega), if_neg (by omega), if_neg (by omega), if_neg (by omega), if_neg (by omega), if_neg (by omega)])
    have n1 : (n == 1) = false := by simp; omega
    have n2 : (n == 2) = false := by simp; omega
    have n3 : (n == 3) = false := by simp; omega
    have n4 : (n == 4) = false := by simp; omega
    have n5 : (n == 5) = false := by simp; omega
    have n6 : (n == 6) = false := by simp; omega
    clear h
    go_enter Tryd.func17, Tryd.ntmps17
    go_wp2_with fail
    go_ret
    exact ⟨ret_strW HF.out.symm, rfl⟩


end Go.Proofs.YtbikghejedkkeaaDoor
