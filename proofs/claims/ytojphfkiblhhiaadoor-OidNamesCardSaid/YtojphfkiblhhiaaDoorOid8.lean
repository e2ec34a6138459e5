/-
  OID: form, AND alive.
-/
import Derived.Lib.ConvBytes
import Derived.Test.YtojphfkiblhhiaaDoorOid7
namespace Go.Proofs.YtojphfkiblhhiaaDoor
open Go.RowKit
set_option maxRecDepth 100000

theorem u8_size (l : List Nat) : (⟨(u8s l).toArray⟩ : ByteArray).size = l.length := by
  show (u8s l).toArray.size = _
  rw [List.size_toArray, u8s, List.length_map]
theorem bytes_below (w : World) (e : TypeId) (s : ByteArray) : Below w.heap.size w (Lib.bytesWorld w e s) := ⟨rfl, rfl, rfl, by rw [Lib.bytesWorld_size]; omega, fun j hj => Lib.bytesWorld_at_old w e s j hj⟩
theorem bytes_reads (w : World) (e : TypeId) (l : List Nat) (hl : Byt l) (hn : l.length < 1000) : Reads .u8 (Lib.bytesWorld w e ⟨(u8s l).toArray⟩) (some ⟨w.heap.size, 0, none⟩) l.length (grownCap w l.length 0 e) l := by
  refine ⟨rfl, grownCap_ge w l.length 0 e, grownCap_le_maxLen w l.length 0 e (by unfold maxLen; omega), (fun h => by cases h), fun _ => ⟨w.heap.size, 0, rfl, by rw [Lib.bytesWorld_size]; omega, fun i hi => ?_⟩⟩
  rw [Nat.zero_add, Lib.bytesWorld_cell w e _ i (by rw [u8_size]; exact hi)]
  have := u8s_get l hl i
  rw [← this]
  simp [List.getD]
theorem OwnQ.litO (q : IntKind) (w : World) (E : TypeId) (B : Nat) (hB : B ≤ w.heap.size) (l : List Nat) (cs : Array Value) (n : Nat) (h : cs = (l.map (num q)).toArray) (hn : n = l.length) (hm : l.length ≤ maxLen) : OwnQ q E B (w.alloc (.cells cs E)) (.slice (some ⟨w.heap.size, 0, .none⟩) n n) l := by
  subst h hn
  exact World.ownsRow_lit w _ l.length hB hm (by simp)
theorem Reads.litO (q : IntKind) (w : World) (E : TypeId) (l : List Nat) (cs : Array Value) (n : Nat) (h : cs = (l.map (num q)).toArray) (hn : n = l.length) (hm : l.length ≤ maxLen) : Reads q (w.alloc (.cells cs E)) (some ⟨w.heap.size, 0, .none⟩) n n l :=
  (OwnQ.litO q w E w.heap.size (Nat.le_refl _) l cs n h hn hm).reads

set_option maxHeartbeats 1000000 in
/-- What has this form says so. -/
theorem form_yes (bl : List Nat) (a : Option Addr) (n c : Nat) (l : List Nat) (w : World) (h : Reads .u64 w a n c l) (hok : OidOk l) (hb : bytesO l = bl) :
    Calls Tryd.prog 25 #[.string ⟨(u8s bl).toArray⟩, .slice a n c] w fun e w' => e = .returned (.bool true) ∧ Below w.heap.size w w' := by
  subst hb
  have H := Lib.hid h
  have hlen := (bytesO_len l).2
  have hl20 := hok.2.1
  have hB8 := Lib.hid (bytesO_byt l)
  have hr := Lib.hid (show bytesR l = (bytesO l, 0) from if_pos hok)
  have hq := Lib.hid (readO_yes hok)
  clear h hok
  generalize hbl : bytesO l = bl at *
  go_enter Tryd.func25, Tryd.ntmps25
  go_wp2_with fail
  refine (bytes_any a n c l _ H.out).mono ?_
  rintro e w1 ⟨⟨xa, xn, xc, rfl, hv⟩, hb1⟩
  rw [hr.out] at hv ⊢
  dsimp only at hv ⊢
  have HX := Lib.hid hv
  have HB := Lib.hid hb1
  have hcv := Lib.run_convert_string_bytes (P := Tryd.prog) w1 9 38 5 ⟨(u8s bl).toArray⟩ (u := .string) Tryd.underlying9 Tryd.underlying38 Tryd.underlying5
  rw [u8_size] at hcv
  have HR := Lib.hid (bytes_reads w1 5 bl hB8.out (by omega))
  have hbw := bytes_below w1 5 ⟨(u8s bl).toArray⟩
  have HX := Lib.hid (HX.out.below hbw)
  have HB := Lib.hid (HB.out.trans (hbw.mono HB.out.size))
  clear hv hb1 hbw
  go_wp2_with fail
  generalize Lib.bytesWorld w1 5 ⟨(u8s bl).toArray⟩ = w2 at *
  clear hcv
  refine (read_o _ _ _ bl w2 HR.out hB8.out (by omega)).mono ?_
  rintro e w3 ⟨⟨ya, yn, yc, rfl, hv⟩, hb1⟩
  rw [hq.out] at hv ⊢
  dsimp only at hv ⊢
  have HY := Lib.hid hv
  have HX := Lib.hid (HX.out.below hb1)
  have HB := Lib.hid (HB.out.trans (hb1.mono HB.out.size))
  have cx := convB (HX.out.reads.bts hB8.out)
  have HXR := Lib.hid (H.out.below HB.out)
  clear hv hb1
  go_wp2_with fail
  refine (same_any ya a yn yc n c l l _ HY.out.reads HXR.out).mono ?_
  rintro e w4 ⟨rfl, hb1⟩
  have HB := Lib.hid (HB.out.trans (hb1.mono HB.out.size))
  clear hb1 cx
  rw [decide_eq_true (rfl : l = l)]
  go_wp2
  go_ret
  exact ⟨rfl, HB.out⟩

theorem alive_o (w : World) : Calls Tryd.prog 23 #[] w fun e w' => e = .returned (.bool true) ∧ Below w.heap.size w w' := by
  go_enter Tryd.func23, Tryd.ntmps23
  have H0 := Lib.hid (Reads.litO .u64 w 36 [2, 100, 3] #[.int .u64 2, .int .u64 100, .int .u64 3] 3 rfl rfl (by decide))
  have B0 := Lib.hid ((Below.refl w.heap.size w).alloc (Nat.le_refl _) (.cells #[.int .u64 2, .int .u64 100, .int .u64 3] 36))
  go_wp2_with fail
  refine (form_yes [129, 52, 3] _ 3 3 [2, 100, 3] _ H0.out (by decide) (by kernel_rfl)).mono ?_
  rintro e w1 ⟨rfl, hb⟩
  have HB := Lib.hid (B0.out.trans (hb.mono B0.out.size))
  have H0 := Lib.hid (Reads.litO .u64 w1 36 [1, 2, 840, 113549] #[.int .u64 1, .int .u64 2, .int .u64 840, .int .u64 113549] 4 rfl rfl (by decide))
  have B0 := Lib.hid (HB.out.alloc HB.out.size (.cells #[.int .u64 1, .int .u64 2, .int .u64 840, .int .u64 113549] 36))
  clear hb
  go_wp2_with fail
  refine (form_yes [42, 134, 72, 134, 247, 13] _ 4 4 [1, 2, 840, 113549] _ H0.out (by decide) (by kernel_rfl)).mono ?_
  rintro e w2 ⟨rfl, hb⟩
  have HB := Lib.hid (B0.out.trans (hb.mono B0.out.size))
  have H0 := Lib.hid (Reads.litO .u64 w2 36 [2, 999, 3] #[.int .u64 2, .int .u64 999, .int .u64 3] 3 rfl rfl (by decide))
  have B0 := Lib.hid (HB.out.alloc HB.out.size (.cells #[.int .u64 2, .int .u64 999, .int .u64 3] 36))
  clear hb
  go_wp2_with fail
  refine (form_yes [136, 55, 3] _ 3 3 [2, 999, 3] _ H0.out (by decide) (by kernel_rfl)).mono ?_
  rintro e w3 ⟨rfl, hb⟩
  have HB := Lib.hid (B0.out.trans (hb.mono B0.out.size))
  clear hb
  go_wp2
  go_ret
  exact ⟨rfl, HB.out⟩

end Go.Proofs.YtojphfkiblhhiaaDoor
