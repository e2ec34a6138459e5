/-
  SHA-512: Of; the laws' hash and alive.
-/
import Derived.Test.YtpfdehjllnhllaaShbP
import Derived.Lib.ConvBytes
namespace Go.Proofs.Ytpfdehjllnhllaa
open Go.RowKit Go.Shelf

theorem of_hash (bt : Nat) (hbt : bt = 384 ∨ bt = 512) (bl : List Nat) (a : Option Addr) (n c : Nat) (w : World) (hr : Reads .u8 w a n c bl) (hb : Byt bl) (hn : n < 1152921504606846976) :
    Calls Try.prog 8 #[.int .i64 (bt : Int), .slice a n c] w fun e w' => (∃ ad : Addr × Nat, e = .returned (.tuple #[.slice (some ad.1) (bt / 8) ad.2, .int .i64 0]) ∧ Reads .u8 w' (some ad.1) (bt / 8) ad.2 (hashN bt bl) ∧ w.heap.size ≤ ad.1.block) ∧ Below w.heap.size w w' := by
  have HR := Lib.hid hr
  have HB := Lib.hid hb
  have hbt0 : bt ≠ 0 := by omega
  have HBT := Lib.hid hbt
  clear hr hb hbt
  go_enter Try.func8, Try.ntmps8
  go_wp2_with fail
  refine (new_any bt HBT.out w).mono ?_
  rintro e w1 ⟨rfl, hs1, hb1⟩
  have HS1 := Lib.hid hs1
  have HB1 := Lib.hid hb1
  clear hs1 hb1
  go_wp2_with fail
  refine (write_any w.heap.size bt [] bl a n c w1 HS1.out hbt0 (HR.out.below HB1.out) HB.out (by simpa using hn) (fun hp ad e => by subst e; obtain ⟨b, off, e, hlt, -⟩ := HR.out.cells hp; cases e; exact Nat.ne_of_lt hlt)).mono ?_
  rintro e w2 ⟨rfl, hs2, hg2⟩
  rw [List.nil_append] at hs2
  have hb2 := HB1.out.grown hg2 HB1.out.size (fun r e => by cases e; exact Nat.le_refl _)
  have HS2 := Lib.hid hs2
  have HB2 := Lib.hid hb2
  clear hs2 hg2 hb2
  go_wp2_with fail
  refine (sum_any w.heap.size bt bl w2 HS2.out HBT.out).mono ?_
  rintro e w3 ⟨⟨ad, rfl, h1, h2⟩, h3⟩
  have H1 := Lib.hid h1
  have H2 := Lib.hid h2
  have hb3 := HB2.out.trans (h3.mono HB2.out.size)
  have HB3 := Lib.hid hb3
  clear h1 h2 h3 hb3
  go_wp2
  go_ret2
  exact ⟨⟨ad, rfl, H1.out, by have := H2.out; have := HB2.out.size; omega⟩, HB3.out⟩
theorem strOf_size3 (a : List UInt8) : (strOf a).size = a.length := by simp [strOf, ByteArray.size]
theorem bytes_below (w : World) (e : TypeId) (s : ByteArray) : Below w.heap.size w (Lib.bytesWorld w e s) := ⟨rfl, rfl, rfl, by rw [Lib.bytesWorld_size]; omega, fun j hj => Lib.bytesWorld_at_old w e s j hj⟩
theorem bytes_reads (w : World) (e : TypeId) (l : List Nat) (hl : Byt l) (hn : l.length < 1000) : Reads .u8 (Lib.bytesWorld w e (strOf (u8s l))) (some ⟨w.heap.size, 0, none⟩) l.length (grownCap w l.length 0 e) l := by
  refine ⟨rfl, grownCap_ge w l.length 0 e, grownCap_le_maxLen w l.length 0 e (by unfold maxLen; omega), (fun h => by cases h), fun _ => ⟨w.heap.size, 0, rfl, by rw [Lib.bytesWorld_size]; omega, fun i hi => ?_⟩⟩
  rw [Nat.zero_add, Lib.bytesWorld_cell w e _ i (by rw [strOf_size3]; simpa [u8s] using hi)]
  have := u8s_get l hl i
  rw [← this]
  simp [strOf, List.getD]
theorem strOf_beq {A B : List UInt8} (h : A = B) : ((strOf A).toList == (strOf B).toList) = true := by rw [h]; simp
/-- The law's hash. -/
theorem hash_any (bt : Nat) (hbt : bt = 384 ∨ bt = 512) (l : List Nat) (hl : Byt l) (hn : l.length < 1000) (s v : ByteArray) (hs : s = strOf (u8s l)) (hv : v = strOf (hexL (u8s (hashN bt l)))) (w : World) :
    Calls Try.prog 14 #[.int .i64 (bt : Int), .string s, .string v] w fun e w' => e = .returned (.bool true) ∧ Below w.heap.size w w' := by
  subst hs
  subst hv
  have hcv := Lib.run_convert_string_bytes (P := Try.prog) w 9 23 5 (strOf (u8s l)) (u := .string) Try.underlying9 Try.underlying23 Try.underlying5
  rw [strOf_size3, show (u8s l).length = l.length by simp [u8s]] at hcv
  have HR := Lib.hid (bytes_reads w 5 l hl hn)
  have HBW := Lib.hid (bytes_below w 5 (strOf (u8s l)))
  go_enter Try.func14, Try.ntmps14
  go_wp2_with fail
  generalize Lib.bytesWorld w 5 (strOf (u8s l)) = w1 at *
  refine (of_hash bt hbt l _ _ _ w1 HR.out hl (by omega)).mono ?_
  rintro e w2 ⟨⟨ad, rfl, h1, h2⟩, h3⟩
  have H1 := Lib.hid h1
  have HB2 := Lib.hid (HBW.out.trans (h3.mono HBW.out.size))
  clear h1 h2 h3
  go_wp2_with fail
  refine (hex_any _ _ _ _ w2 (H1.out.bts (hashN_lt bt l)) (by omega)).mono ?_
  rintro e w3 ⟨rfl, h4⟩
  have HB3 := Lib.hid (HB2.out.trans (h4.mono HB2.out.size))
  clear h4
  go_wp2
  go_ret
  exact ⟨by simp, HB3.out⟩

theorem alive_any (w : World) : Calls Try.prog 15 #[] w fun e w' => e = .returned (.bool true) ∧ Below w.heap.size w w' := by
  go_enter Try.func15, Try.ntmps15
  go_wp2_with fail
  refine (hash_any 512 (by decide) [97, 98, 99] (by decide) (by decide) _ _ rfl (by kernel_rfl) w).mono ?_
  rintro e w1 ⟨rfl, h1⟩
  have H1 := Lib.hid h1
  clear h1
  go_wp2_with fail
  refine (hash_any 384 (by decide) [97, 98, 99] (by decide) (by decide) _ _ rfl (by kernel_rfl) w1).mono ?_
  rintro e w2 ⟨rfl, h2⟩
  have hb2 := H1.out.trans (h2.mono H1.out.size)
  clear h2
  go_wp2
  go_ret
  exact ⟨rfl, hb2⟩

end Go.Proofs.Ytpfdehjllnhllaa
