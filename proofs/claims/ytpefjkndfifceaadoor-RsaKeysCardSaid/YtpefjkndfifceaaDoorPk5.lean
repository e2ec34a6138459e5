/-
  Texts of ours, one behind the other: ShaC ShaD ShaE ShaF ShaG ShaH ShaI ShaJ ShaK ShaL
-/
import Derived.Test.YtpefjkndfifceaaDoorPk2
import Derived.Test.YtpefjkndfifceaaDoorPk3
import Derived.Test.YtpefjkndfifceaaDoorPk4
import Derived.Laws.CopyOwn
import Derived.BigRegion
import Derived.Deep.CutRange
import Derived.RangeFuncNested
import Derived.RangeFuncBound
import Derived.RangeFuncCalls
import Derived.RangeFuncLeaves
import Derived.RangeFuncBox
import Derived.Shelf.Abstract
import Derived.Shelf.RegionOpen
import Derived.WalkKit
import Derived.OwnWalkIn
import Derived.TacticsInMore
import Derived.LoopNIn
import Derived.LoopIn
import Derived.Lib.OthersKept
import Derived.WalkMore
import Derived.Lib.AppendZerosOnto
import Derived.Laws.OwnMore
set_option linter.unusedVariables false
set_option linter.unusedSimpArgs false

namespace Go.Proofs.YtpefjkndfifceaaDoor
open Go.RowKit

def g0 (l : List Nat) (i : Nat) : Nat := l[i]?.getD 0
theorem g0_lt {l : List Nat} {b : Nat} (h : ∀ x ∈ l, x < b) (hb : 0 < b) (i : Nat) : g0 l i < b := by
  unfold g0
  cases hi : l[i]? with
  | none => exact hb
  | some x => exact h x (List.mem_of_getElem? hi)
theorem set_lt {l : List Nat} {b : Nat} (h : ∀ x ∈ l, x < b) (i y : Nat) (hy : y < b) : ∀ x ∈ l.set i y, x < b := fun x hx => by
  rcases List.mem_or_eq_of_mem_set hx with hx | rfl
  · exact h x hx
  · exact hy
/-- A block's bytes laid into words, so many of them. -/
def packS (b : List Nat) (k : Nat) (l : List Nat) : List Nat := l.set (k / 4) (g0 l (k / 4) * 256 % 4294967296 ||| g0 b k)
def packN (b : List Nat) : Nat → List Nat
  | 0 => List.replicate 64 0
  | k + 1 => packS b k (packN b k)
def sigN (x r1 r2 s : Nat) : Nat := rotr x r1 ^^^ rotr x r2 ^^^ x / 2 ^ s
def extS (t : Nat) (l : List Nat) : List Nat := l.set t ((((g0 l (t - 16) + g0 l (t - 7)) % 4294967296 + sigN (g0 l (t - 15)) 7 18 3) % 4294967296 + sigN (g0 l (t - 2)) 17 19 10) % 4294967296)
def extN (l : List Nat) : Nat → List Nat
  | 0 => l
  | k + 1 => extS (16 + k) (extN l k)
/-- The words of a block. -/
def schedN (b : List Nat) : List Nat := extN (packN b 64) 48
theorem below_drewS {B : Nat} {a w : World} (h : Below B a w) (n : Nat) : Below B a (w.drewN n) := ⟨h.os, h.tape, h.output, h.size, h.block⟩
theorem Arr.drewN {q : IntKind} {E g : Nat} {w : World} {l : List Nat} (h : Arr q E w g l) (n : Nat) : Arr q E (w.drewN n) g l := h
theorem packN_len (b : List Nat) : ∀ k, (packN b k).length = 64
  | 0 => by simp [packN]
  | k + 1 => by simp [packN, packS, packN_len b k]
theorem extN_len (l : List Nat) (h : l.length = 64) : ∀ k, (extN l k).length = 64
  | 0 => h
  | k + 1 => by simp [extN, extS, extN_len l h k]
theorem schedN_len (b : List Nat) : (schedN b).length = 64 := extN_len _ (packN_len b 64) 48
theorem packN_lt (b : List Nat) (hb : ∀ x ∈ b, x < 256) : ∀ k, ∀ x ∈ packN b k, x < 4294967296
  | 0 => fun x hx => by rw [List.eq_of_mem_replicate hx]; decide
  | k + 1 => set_lt (packN_lt b hb k) _ _ (Nat.or_lt_two_pow (n := 32) (Nat.mod_lt _ (by decide)) (Nat.lt_trans (g0_lt hb (by decide) k) (by decide)))
theorem extN_lt (l : List Nat) (h : ∀ x ∈ l, x < 4294967296) : ∀ k, ∀ x ∈ extN l k, x < 4294967296
  | 0 => h
  | k + 1 => set_lt (extN_lt l h k) _ _ (Nat.mod_lt _ (by decide))
theorem schedN_lt (b : List Nat) (hb : ∀ x ∈ b, x < 256) : ∀ x ∈ schedN b, x < 4294967296 := extN_lt _ (packN_lt b hb 64) 48

theorem z64 : #[Value.int IntKind.u32 0, Value.int IntKind.u32 0, Value.int IntKind.u32 0, Value.int IntKind.u32 0, Value.int IntKind.u32 0, Value.int IntKind.u32 0, Value.int IntKind.u32 0, Value.int IntKind.u32 0, Value.int IntKind.u32 0, Value.int IntKind.u32 0, Value.int IntKind.u32 0, Value.int IntKind.u32 0, Value.int IntKind.u32 0, Value.int IntKind.u32 0, Value.int IntKind.u32 0, Value.int IntKind.u32 0, Value.int IntKind.u32 0, Value.int IntKind.u32 0, Value.int IntKind.u32 0, Value.int IntKind.u32 0, Value.int IntKind.u32 0, Value.int IntKind.u32 0, Value.int IntKind.u32 0, Value.int IntKind.u32 0, Value.int IntKind.u32 0, Value.int IntKind.u32 0, Value.int IntKind.u32 0, Value.int IntKind.u32 0, Value.int IntKind.u32 0, Value.int IntKind.u32 0, Value.int IntKind.u32 0, Value.int IntKind.u32 0, Value.int IntKind.u32 0, Value.int IntKind.u32 0, Value.int IntKind.u32 0, Value.int IntKind.u32 0, Value.int IntKind.u32 0, Value.int IntKind.u32 0, Value.int IntKind.u32 0, Value.int IntKind.u32 0, Value.int IntKind.u32 0, Value.int IntKind.u32 0, Value.int IntKind.u32 0, Value.int IntKind.u32 0, Value.int IntKind.u32 0, Value.int IntKind.u32 0, Value.int IntKind.u32 0, Value.int IntKind.u32 0, Value.int IntKind.u32 0, Value.int IntKind.u32 0, Value.int IntKind.u32 0, Value.int IntKind.u32 0, Value.int IntKind.u32 0, Value.int IntKind.u32 0, Value.int IntKind.u32 0, Value.int IntKind.u32 0, Value.int IntKind.u32 0, Value.int IntKind.u32 0, Value.int IntKind.u32 0, Value.int IntKind.u32 0, Value.int IntKind.u32 0, Value.int IntKind.u32 0, Value.int IntKind.u32 0, Value.int IntKind.u32 0] = arrC .u32 (List.replicate 64 0) := by kernel_rfl
theorem zeros64 : (Tryd.prog.info? 106).map (fun i => (i.zero, i.size)) = some (some (.agg (arrC .u32 (List.replicate 64 0))), 64) := by kernel_rfl

set_option maxRecDepth 100000 in
set_option maxHeartbeats 4000000 in
theorem schedule_any (a : Option Addr) (c : Nat) (bl : List Nat) (w : World) (hr : Reads .u8 w a 64 c bl) (hb : ∀ x ∈ bl, x < 256) :
    Calls Tryd.prog 82 #[.slice a 64 c] w fun e w' => e = .returned (.agg (arrC .u32 (schedN bl))) ∧ Below w.heap.size w w' := by
  have HR := Lib.hid hr
  have HB := Lib.hid hb
  have hc64 := hr.le
  clear hr hb
  go_enter Tryd.func82, Tryd.ntmps82
  go_wp2_with fail
  rw [z64]
  have hA0 : Arr .u32 106 (w.alloc (.cells (arrC .u32 (List.replicate 64 0)) 106)) w.heap.size (List.replicate 64 0) := Go.heap_alloc_new w _
  have hA := Lib.hid (hA0.alloc (.cells (arrC .u32 (List.replicate 64 0)) 106))
  have hB0 : Arr .u32 106 ((w.alloc (.cells (arrC .u32 (List.replicate 64 0)) 106)).alloc (.cells (arrC .u32 (List.replicate 64 0)) 106)) (w.heap.size + 1) (packN bl 0) := by
    have := Go.heap_alloc_new (w.alloc (.cells (arrC .u32 (List.replicate 64 0)) 106)) (.cells (arrC .u32 (List.replicate 64 0)) 106)
    rwa [World.size_alloc] at this
  have hB1 := Lib.hid hB0
  have F := Lib.hid (((Below.refl w.heap.size w).alloc (Nat.le_refl _) (.cells (arrC .u32 (List.replicate 64 0)) 106)).alloc (by simp) (.cells (arrC .u32 (List.replicate 64 0)) 106))
  clear hA0 hB0
  generalize (w.alloc (.cells (arrC .u32 (List.replicate 64 0)) 106)).alloc (.cells (arrC .u32 (List.replicate 64 0)) 106) = W0 at *
  obtain ⟨A, hAe⟩ : ∃ A, A = w.heap.size := ⟨_, rfl⟩
  rw [← hAe] at hA hB1 ⊢
  have HA := Lib.hid hAe
  clear hAe
  go_loopw [11] (fun iv wr => ∃ k : Nat, iv = .int .i64 (k : Int) ∧ k ≤ 64 ∧ Hid (Arr .u32 106 wr A (List.replicate 64 0) ∧ Arr .u32 106 wr (A + 1) (packN bl k) ∧ Below A w wr)) (fun iv _ => 64 - (intOf iv).toNat)
  case atStart => exact ⟨0, rfl, by decide, hA.out, hB1.out, HA.out ▸ F.out⟩
  case round =>
    obtain ⟨k, rfl, hk, hI⟩ := hrel
    rcases Nat.lt_or_ge k 64 with hlt | hge
    · obtain ⟨b, off, rfl, hbk, hc⟩ := (HR.out.below (HA.out ▸ hI.out.2.2)).cells (by decide)
      have hck := hc k hlt
      obtain ⟨y, hy⟩ : ∃ y, y = bl[k]?.getD 0 := ⟨_, rfl⟩
      have hy8 : y < 256 := hy ▸ g0_lt HB.out (by decide) k
      rw [← hy] at hck
      obtain ⟨j, hj⟩ : ∃ j, j = k / 4 := ⟨_, rfl⟩
      have hj16 : j < 16 := by omega
      have hjc : (k : Int) / 4 = (j : Int) := by omega
      obtain ⟨x, hx⟩ : ∃ x, x = g0 (packN bl k) j := ⟨_, rfl⟩
      have hx32 : x < 4294967296 := hx ▸ g0_lt (packN_lt bl HB.out k) (by decide) j
      have hcj := hI.out.2.1.cell j (by rw [packN_len]; omega)
      have hfj := hI.out.2.1.frozen j
      rw [show (packN bl k)[j]?.getD 0 = x from hx.symm] at hcj
      obtain ⟨r, hr⟩ : ∃ r, r = (x * 256 % 4294967296 ||| y) := ⟨_, rfl⟩
      have hor : bits BinOp.or IntKind.u32 ((x : Int) * 256 % 4294967296) (y : Int) = (r : Int) := by
        rw [show (x : Int) * 256 % 4294967296 = ((x * 256 % 4294967296 : Nat) : Int) by omega, u32_or_nat _ _ (Nat.mod_lt _ (by decide)) (by omega), hr]
      have HP := Lib.hid (show packN bl (k + 1) = (packN bl k).set j r by rw [hr, hx, hy, hj]; rfl)
      clear hc hy hj hx hr
      go_wp2
      go_roundw
      case rel => exact ⟨k + 1, by go_num, by omega, hI.out.1.other _ _ (by show A ≠ A + 1; omega), by rw [HP.out]; exact hI.out.2.1.stored j r _ rfl, hI.out.2.2.setCell (p := ⟨A + 1, j, none⟩) (by show A ≤ A + 1; omega) _⟩
      case measure => simp [intOf]; omega
    · obtain rfl : k = 64 := by omega
      go_wp2
      rw [show ((64 : Nat) : Int) = 64 from rfl]
      go_loopw [6] (fun iv wr => ∃ t : Nat, iv = .int .i64 (t : Int) ∧ 16 ≤ t ∧ t ≤ 64 ∧ Hid (Arr .u32 106 wr A (List.replicate 64 0) ∧ Arr .u32 106 wr (A + 1) (extN (packN bl 64) (t - 16)) ∧ Below A w wr)) (fun iv _ => 64 - (intOf iv).toNat)
      case atStart => exact ⟨16, rfl, by decide, by decide, hI.out⟩
      case round =>
        clear hI
        obtain ⟨t, rfl, ht1, ht2, hI⟩ := hrel
        have hl64 := Lib.hid (extN_len (packN bl 64) (packN_len bl 64) (t - 16))
        have hlt64 := Lib.hid (extN_lt (packN bl 64) (packN_lt bl HB.out 64) (t - 16))
        rcases Nat.lt_or_ge t 64 with hlt | hge
        · have HE := Lib.hid (show extN (packN bl 64) (t + 1 - 16) = extS t (extN (packN bl 64) (t - 16)) by
            rw [show t + 1 - 16 = (t - 16) + 1 by omega]
            show extS (16 + (t - 16)) _ = _
            rw [show 16 + (t - 16) = t by omega])
          generalize extN (packN bl 64) (t - 16) = L at *
          obtain ⟨p16, hp16⟩ : ∃ p, p = t - 16 := ⟨_, rfl⟩
          have hc16 : (t : Int) - 16 = (p16 : Int) := by omega
          have hb16 : p16 < 64 := by omega
          have hk16 := hI.out.2.1.cell p16 (by rw [hl64.out]; exact hb16)
          obtain ⟨x16, hx16⟩ : ∃ x, x = g0 L p16 := ⟨_, rfl⟩
          have hy16 : x16 < 4294967296 := hx16 ▸ g0_lt hlt64.out (by decide) p16
          rw [show L[p16]?.getD 0 = x16 from hx16.symm] at hk16
          obtain ⟨p7, hp7⟩ : ∃ p, p = t - 7 := ⟨_, rfl⟩
          have hc7 : (t : Int) - 7 = (p7 : Int) := by omega
          have hb7 : p7 < 64 := by omega
          have hk7 := hI.out.2.1.cell p7 (by rw [hl64.out]; exact hb7)
          obtain ⟨x7, hx7⟩ : ∃ x, x = g0 L p7 := ⟨_, rfl⟩
          have hy7 : x7 < 4294967296 := hx7 ▸ g0_lt hlt64.out (by decide) p7
          rw [show L[p7]?.getD 0 = x7 from hx7.symm] at hk7
          obtain ⟨p15, hp15⟩ : ∃ p, p = t - 15 := ⟨_, rfl⟩
          have hc15 : (t : Int) - 15 = (p15 : Int) := by omega
          have hb15 : p15 < 64 := by omega
          have hk15 := hI.out.2.1.cell p15 (by rw [hl64.out]; exact hb15)
          obtain ⟨x15, hx15⟩ : ∃ x, x = g0 L p15 := ⟨_, rfl⟩
          have hy15 : x15 < 4294967296 := hx15 ▸ g0_lt hlt64.out (by decide) p15
          rw [show L[p15]?.getD 0 = x15 from hx15.symm] at hk15
          obtain ⟨p2, hp2⟩ : ∃ p, p = t - 2 := ⟨_, rfl⟩
          have hc2 : (t : Int) - 2 = (p2 : Int) := by omega
          have hb2 : p2 < 64 := by omega
          have hk2 := hI.out.2.1.cell p2 (by rw [hl64.out]; exact hb2)
          obtain ⟨x2, hx2⟩ : ∃ x, x = g0 L p2 := ⟨_, rfl⟩
          have hy2 : x2 < 4294967296 := hx2 ▸ g0_lt hlt64.out (by decide) p2
          rw [show L[p2]?.getD 0 = x2 from hx2.symm] at hk2
          obtain ⟨f1, hf1⟩ : ∃ r, r = rotr x15 7 := ⟨_, rfl⟩
          obtain ⟨f2, hf2⟩ : ∃ r, r = rotr x15 18 := ⟨_, rfl⟩
          have lf1 : f1 < 4294967296 := hf1 ▸ rotr_lt hy15
          have lf2 : f2 < 4294967296 := hf2 ▸ rotr_lt hy15
          obtain ⟨f3, hf3⟩ : ∃ r, r = f1 ^^^ f2 := ⟨_, rfl⟩
          have lf3 : f3 < 4294967296 := hf3 ▸ Nat.xor_lt_two_pow (n := 32) lf1 lf2
          obtain ⟨f4, hf4⟩ : ∃ r, r = x15 / 8 := ⟨_, rfl⟩
          have lf4 : f4 < 4294967296 := by omega
          obtain ⟨f, hf⟩ : ∃ r, r = f3 ^^^ f4 := ⟨_, rfl⟩
          have lf : f < 4294967296 := hf ▸ Nat.xor_lt_two_pow (n := 32) lf3 lf4
          have ef3 : bits BinOp.xor IntKind.u32 (f1 : Int) (f2 : Int) = (f3 : Int) := by rw [u32_xor_nat _ _ lf1 lf2, hf3]
          have ef4 : (x15 : Int) / 8 = (f4 : Int) := by omega
          have ef : bits BinOp.xor IntKind.u32 (f3 : Int) (f4 : Int) = (f : Int) := by rw [u32_xor_nat _ _ lf3 lf4, hf]
          have Gf := Lib.hid (show sigN x15 7 18 3 = f by rw [hf, hf3, hf4, hf1, hf2]; rfl)
          have Rf1 := Lib.hid hf1
          have Rf2 := Lib.hid hf2
          clear hf hf1 hf2 hf3 hf4
          obtain ⟨u1, hu1⟩ : ∃ r, r = rotr x2 17 := ⟨_, rfl⟩
          obtain ⟨u2, hu2⟩ : ∃ r, r = rotr x2 19 := ⟨_, rfl⟩
          have lu1 : u1 < 4294967296 := hu1 ▸ rotr_lt hy2
          have lu2 : u2 < 4294967296 := hu2 ▸ rotr_lt hy2
          obtain ⟨u3, hu3⟩ : ∃ r, r = u1 ^^^ u2 := ⟨_, rfl⟩
          have lu3 : u3 < 4294967296 := hu3 ▸ Nat.xor_lt_two_pow (n := 32) lu1 lu2
          obtain ⟨u4, hu4⟩ : ∃ r, r = x2 / 1024 := ⟨_, rfl⟩
          have lu4 : u4 < 4294967296 := by omega
          obtain ⟨u, hu⟩ : ∃ r, r = u3 ^^^ u4 := ⟨_, rfl⟩
          have lu : u < 4294967296 := hu ▸ Nat.xor_lt_two_pow (n := 32) lu3 lu4
          have eu3 : bits BinOp.xor IntKind.u32 (u1 : Int) (u2 : Int) = (u3 : Int) := by rw [u32_xor_nat _ _ lu1 lu2, hu3]
          have eu4 : (x2 : Int) / 1024 = (u4 : Int) := by omega
          have eu : bits BinOp.xor IntKind.u32 (u3 : Int) (u4 : Int) = (u : Int) := by rw [u32_xor_nat _ _ lu3 lu4, hu]
          have Gu := Lib.hid (show sigN x2 17 19 10 = u by rw [hu, hu3, hu4, hu1, hu2]; rfl)
          have Ru1 := Lib.hid hu1
          have Ru2 := Lib.hid hu2
          clear hu hu1 hu2 hu3 hu4
          obtain ⟨s1, hs1⟩ : ∃ s, s = (x16 + x7) % 4294967296 := ⟨_, rfl⟩
          obtain ⟨s2, hs2⟩ : ∃ s, s = (s1 + f) % 4294967296 := ⟨_, rfl⟩
          obtain ⟨s3, hs3⟩ : ∃ s, s = (s2 + u) % 4294967296 := ⟨_, rfl⟩
          have es1 : ((x16 : Int) + (x7 : Int)) % 4294967296 = (s1 : Int) := by omega
          have es2 : ((s1 : Int) + (f : Int)) % 4294967296 = (s2 : Int) := by omega
          have es3 : ((s2 : Int) + (u : Int)) % 4294967296 = (s3 : Int) := by omega
          have ls1 : s1 < 4294967296 := by omega
          have ls2 : s2 < 4294967296 := by omega
          have HE2 := Lib.hid (show extN (packN bl 64) (t + 1 - 16) = L.set t s3 by
            rw [HE.out]
            unfold extS
            rw [← hp16, ← hp7, ← hp15, ← hp2, ← hx16, ← hx7, ← hx15, ← hx2, Gf.out, Gu.out, ← hs1, ← hs2, ← hs3])
          have hft := hI.out.2.1.frozen t
          have hkt := hI.out.2.1.cell t (by rw [hl64.out]; exact hlt)
          clear hs1 hs2 hs3 hp16 hp7 hp15 hp2 hx16 hx7 hx15 hx2 HE Gf Gu
          go_wp2_with fail
          go_quiet (fail)
          go_wp2_with fail
          refine (rot_any x15 7 _ _ rfl (by decide) (by decide) hy15 f1 Rf1.out).mono ?_
          rintro e w1 ⟨rfl, rfl⟩
          go_wp2_with fail
          refine (rot_any x15 18 _ _ rfl (by decide) (by decide) hy15 f2 Rf2.out).mono ?_
          rintro e w1 ⟨rfl, rfl⟩
          go_wp2_with fail
          refine (rot_any x2 17 _ _ rfl (by decide) (by decide) hy2 u1 Ru1.out).mono ?_
          rintro e w1 ⟨rfl, rfl⟩
          go_wp2_with fail
          refine (rot_any x2 19 _ _ rfl (by decide) (by decide) hy2 u2 Ru2.out).mono ?_
          rintro e w1 ⟨rfl, rfl⟩
          go_wp2_with fail
          go_region
          go_wp2
          go_roundw
          case rel => exact ⟨t + 1, by go_num, by omega, by omega, (hI.out.1.drewN nq).other _ _ (by show A ≠ A + 1; omega), by rw [HE2.out]; exact (hI.out.2.1.drewN nq).stored t s3 _ rfl, ((below_drewS hI.out.2.2 nq).setCell (p := ⟨A + 1, t, none⟩) (by show A ≤ A + 1; omega) _).drew⟩
          case measure => simp [intOf]; omega
        · obtain rfl : t = 64 := by omega
          have hrow : Arr .u32 106 wr (A + 1) (schedN bl) := hI.out.2.1
          have hres : Arr .u32 106 (wr.setRow A (arrC .u32 (schedN bl))) A (schedN bl) := setRow_heap wr A _ _ _ _ hI.out.1
          have hls := schedN_len bl
          go_wp2_with (first | (refine wpList_load_row rfl _ _ rfl (A + 1) rfl _ (arrC .u32 (schedN bl)) _ _ hrow Tryd.underlying106 rfl (by rw [arrC_size, hls]; kernel_rfl) ?_) | (refine wpList_store_row rfl _ _ _ rfl A (arrC .u32 (schedN bl)) rfl rfl _ _ hI.out.1 (by rw [arrC_size, hls]; kernel_rfl) (by rw [arrC_size, arrC_size, hls]; rfl) (arrC_one _ _) ?_))
          go_wp2
          refine bodyPost_ret (v := .agg (arrC .u32 (schedN bl))) (results_cell_row (ty := 106) (p := 2) (by kernel_rfl) _ _ A _ _ _ _ rfl hres Tryd.underlying106 rfl (by rw [arrC_size, hls]; kernel_rfl)) rfl ?_
          exact ⟨rfl, HA.out ▸ below_setRow hI.out.2.2 (Nat.le_refl _) _⟩

end Go.Proofs.YtpefjkndfifceaaDoor

namespace Go.Proofs.YtpefjkndfifceaaDoor
open Go.RowKit

/-- The numbers of the rounds, and both first states. -/
def kL : List Nat := [1116352408, 1899447441, 3049323471, 3921009573, 961987163, 1508970993, 2453635748, 2870763221, 3624381080, 310598401, 607225278, 1426881987, 1925078388, 2162078206, 2614888103, 3248222580, 3835390401, 4022224774, 264347078, 604807628, 770255983, 1249150122, 1555081692, 1996064986, 2554220882, 2821834349, 2952996808, 3210313671, 3336571891, 3584528711, 113926993, 338241895, 666307205, 773529912, 1294757372, 1396182291, 1695183700, 1986661051, 2177026350, 2456956037, 2730485921, 2820302411, 3259730800, 3345764771, 3516065817, 3600352804, 4094571909, 275423344, 430227734, 506948616, 659060556, 883997877, 958139571, 1322822218, 1537002063, 1747873779, 1955562222, 2024104815, 2227730452, 2361852424, 2428436474, 2756734187, 3204031479, 3329325298]
def startL : List Nat := [1779033703, 3144134277, 1013904242, 2773480762, 1359893119, 2600822924, 528734635, 1541459225, 3238371032, 914150663, 812702999, 4144912697, 4290775857, 1750603025, 1694076839, 3204075428]
def tabC : Array Value := arrC .u32 (kL ++ startL)
theorem kL_len : kL.length = 64 := rfl
theorem kL_lt : ∀ x ∈ kL, x < 4294967296 := by unfold kL; decide
theorem startL_lt : ∀ x ∈ startL, x < 4294967296 := by unfold startL; decide
theorem tabC_size : tabC.size = 80 := by kernel_rfl
theorem tabC_one : tabC.all (·.oneCell') = true := arrC_one _ _
theorem tab_field (w : World) : (Instr.field 109 (.agg tabC) 0).run Tryd.prog w = .ok (.agg (arrC .u32 kL)) w := by kernel_rfl

set_option maxRecDepth 100000 in
set_option maxHeartbeats 1000000 in
theorem written_any (w : World) : Calls Tryd.prog 67 #[] w fun e w' => e = .returned (.agg tabC) ∧ w' = w.alloc (.cells tabC 109) := by
  have hz : ∀ w, (zeroValue 109).run Tryd.prog w = .ok (.agg (arrC .u32 (List.replicate 80 0))) w := fun _ => by kernel_rfl
  go_enter Tryd.func67, Tryd.ntmps67
  go_wp2_with (first | (refine wpList_build rfl _ _ rfl (by kernel_rfl) ?_) | (refine wpList_store_row rfl _ _ _ rfl w.heap.size tabC rfl (by kernel_rfl) 109 _ (Go.heap_alloc_new w _) (by kernel_rfl) (by kernel_rfl) tabC_one ?_))
  rw [alloc_setRow]
  refine bodyPost_ret (v := .agg tabC) (results_cell_row (ty := 109) (p := 0) (by kernel_rfl) _ _ w.heap.size 109 tabC (0, 0) _ rfl (Go.heap_alloc_new w _) Tryd.underlying109 rfl (by kernel_rfl)) rfl ?_
  exact ⟨rfl, rfl⟩

end Go.Proofs.YtpefjkndfifceaaDoor

namespace Go.Proofs.YtpefjkndfifceaaDoor
open Go.RowKit

def yN (e f g h k w : Nat) : Nat := ((((h + k) % 4294967296 + w) % 4294967296 + laidN e 6 11 25) % 4294967296 + ((e &&& f) ^^^ ((4294967295 - e) &&& g))) % 4294967296
def zN (a b c : Nat) : Nat := (laidN a 2 13 22 + ((a &&& b) ^^^ (a &&& c) ^^^ (b &&& c))) % 4294967296
/-- One round. -/
def rd (v : List Nat) (k w : Nat) : List Nat :=
  [(yN (g0 v 4) (g0 v 5) (g0 v 6) (g0 v 7) k w + zN (g0 v 0) (g0 v 1) (g0 v 2)) % 4294967296, g0 v 0, g0 v 1, g0 v 2, (g0 v 3 + yN (g0 v 4) (g0 v 5) (g0 v 6) (g0 v 7) k w) % 4294967296, g0 v 4, g0 v 5, g0 v 6]
def rdsN (ws sc : List Nat) : Nat → List Nat
  | 0 => ws
  | i + 1 => rd (rdsN ws sc i) (g0 kL i) (g0 sc i)
def addTo (ws v : List Nat) : Nat → List Nat
  | 0 => ws
  | j + 1 => (addTo ws v j).set j ((g0 (addTo ws v j) j + g0 v j) % 4294967296)
/-- What a block makes of the words. -/
def turnN (ws b : List Nat) : List Nat := addTo ws (rdsN ws (schedN b) 64) 8
theorem rdsN_len (ws sc : List Nat) (h : ws.length = 8) : ∀ i, (rdsN ws sc i).length = 8
  | 0 => h
  | _ + 1 => rfl
theorem rd_lt {v : List Nat} (h : ∀ x ∈ v, x < 4294967296) (k w : Nat) : ∀ x ∈ rd v k w, x < 4294967296 := fun x hx => by
  have hg := fun i => g0_lt h (by decide) i
  unfold rd at hx
  simp only [List.mem_cons, List.not_mem_nil, or_false] at hx
  rcases hx with rfl | rfl | rfl | rfl | rfl | rfl | rfl | rfl
  · exact Nat.mod_lt _ (by decide)
  · exact hg _
  · exact hg _
  · exact hg _
  · exact Nat.mod_lt _ (by decide)
  · exact hg _
  · exact hg _
  · exact hg _
theorem rdsN_lt (ws sc : List Nat) (h : ∀ x ∈ ws, x < 4294967296) : ∀ i, ∀ x ∈ rdsN ws sc i, x < 4294967296
  | 0 => h
  | i + 1 => rd_lt (rdsN_lt ws sc h i) _ _
theorem addTo_len (ws v : List Nat) (h : ws.length = 8) : ∀ j, (addTo ws v j).length = 8
  | 0 => h
  | j + 1 => by simp [addTo, addTo_len ws v h j]
theorem addTo_lt (ws v : List Nat) (h : ∀ x ∈ ws, x < 4294967296) : ∀ j, ∀ x ∈ addTo ws v j, x < 4294967296
  | 0 => h
  | j + 1 => set_lt (addTo_lt ws v h j) _ _ (Nat.mod_lt _ (by decide))
theorem turnN_len {ws b : List Nat} (h : ws.length = 8) : (turnN ws b).length = 8 := addTo_len _ _ h 8
theorem turnN_lt {ws b : List Nat} (h : ∀ x ∈ ws, x < 4294967296) : ∀ x ∈ turnN ws b, x < 4294967296 := addTo_lt _ _ h 8

/-- A state's cells. -/
def stL (bits : Nat) (ws tail : List Nat) (taken : Nat) : List Value := .int .i64 (bits : Int) :: (ws.map (num .u32) ++ (tail.map (num .u8) ++ [.int .u64 (taken : Int)]))
/-- A block that holds a state. -/
structure StateAt (w : World) (g bits : Nat) (ws tail : List Nat) (taken : Nat) : Prop where
  heap : w.heap[g]? = some (.cells (stL bits ws tail taken).toArray 105 (0, 0))
  wlen : ws.length = 8
  tlen : tail.length = 64
  wlt : ∀ x ∈ ws, x < 4294967296
  tlt : ∀ x ∈ tail, x < 256
theorem StateAt.lt {w : World} {g bits : Nat} {ws tail : List Nat} {taken : Nat} (h : StateAt w g bits ws tail taken) : g < w.heap.size := (Array.getElem?_eq_some_iff.1 h.heap).1
theorem StateAt.frozen {w : World} {g bits : Nat} {ws tail : List Nat} {taken : Nat} (h : StateAt w g bits ws tail taken) (i : Nat) : w.frozen? ⟨g, i, none⟩ = false := frozen_of_row w g i _ _ h.heap
theorem StateAt.bits {w : World} {g bits : Nat} {ws tail : List Nat} {taken : Nat} (h : StateAt w g bits ws tail taken) : w.cell? ⟨g, 0, none⟩ = some (.int .i64 (bits : Int)) := by
  rw [cell_of_row w g 0 _ _ _ h.heap]; rfl
theorem StateAt.word {w : World} {g bits : Nat} {ws tail : List Nat} {taken : Nat} (h : StateAt w g bits ws tail taken) (i : Nat) (hi : i < 8) : w.cell? ⟨g, 1 + i, none⟩ = some (.int .u32 ((g0 ws i : Nat) : Int)) := by
  have hl := h.wlen
  rw [cell_of_row w g (1 + i) _ _ _ h.heap, List.getElem?_toArray, stL, show 1 + i = i + 1 by omega, List.getElem?_cons_succ, List.getElem?_append_left (by simp; omega), List.getElem?_map, List.getElem?_eq_getElem (show i < ws.length by omega)]
  simp [num, g0, List.getElem?_eq_getElem (show i < ws.length by omega)]
theorem StateAt.byte {w : World} {g bits : Nat} {ws tail : List Nat} {taken : Nat} (h : StateAt w g bits ws tail taken) (i : Nat) (hi : i < 64) : w.cell? ⟨g, 9 + i, none⟩ = some (.int .u8 ((g0 tail i : Nat) : Int)) := by
  have hl := h.wlen
  have hl2 := h.tlen
  rw [cell_of_row w g (9 + i) _ _ _ h.heap, List.getElem?_toArray, stL, show 9 + i = (8 + i) + 1 by omega, List.getElem?_cons_succ, List.getElem?_append_right (by simp; omega), List.getElem?_append_left (by simp; omega)]
  simp only [List.length_map, hl, Nat.add_sub_cancel_left, List.getElem?_map]
  simp [num, g0, List.getElem?_eq_getElem (show i < tail.length by omega)]
theorem StateAt.taken {w : World} {g bits : Nat} {ws tail : List Nat} {taken : Nat} (h : StateAt w g bits ws tail taken) : w.cell? ⟨g, 73, none⟩ = some (.int .u64 (taken : Int)) := by
  have hl := h.wlen
  have hl2 := h.tlen
  rw [cell_of_row w g 73 _ _ _ h.heap, List.getElem?_toArray, stL, show 73 = 72 + 1 by omega, List.getElem?_cons_succ, List.getElem?_append_right (by simp; omega), List.getElem?_append_right (by simp; omega)]
  simp [hl, hl2]
theorem StateAt.block {w w' : World} {g bits : Nat} {ws tail : List Nat} {taken : Nat} (h : StateAt w g bits ws tail taken) (hb : w'.heap[g]? = w.heap[g]?) : StateAt w' g bits ws tail taken := ⟨hb.trans h.heap, h.wlen, h.tlen, h.wlt, h.tlt⟩
theorem StateAt.below {w w' : World} {g bits B : Nat} {ws tail : List Nat} {taken : Nat} (h : StateAt w g bits ws tail taken) (hb : Below B w w') (hg : g < B) : StateAt w' g bits ws tail taken := h.block (hb.block g hg)
theorem StateAt.setWord {w : World} {g bits : Nat} {ws tail : List Nat} {taken : Nat} (h : StateAt w g bits ws tail taken) (i x : Nat) (hi : i < 8) (y : Int) (hy : y = (x : Int)) (hx : x < 4294967296) : StateAt (w.setCell ⟨g, 1 + i, none⟩ (.int .u32 y)) g bits (ws.set i x) tail taken := by
  subst hy
  have hl := h.wlen
  refine ⟨?_, by simp [hl], h.tlen, set_lt h.wlt i x hx, h.tlt⟩
  have := heap_setCell_same w g (1 + i) _ _ (num .u32 x) h.heap
  refine this.trans ?_
  congr 2
  apply Array.ext'
  rw [Array.toList_setIfInBounds]
  show (stL bits ws tail taken).set (1 + i) (num .u32 x) = stL bits (ws.set i x) tail taken
  unfold stL
  rw [show 1 + i = i + 1 by omega, List.set_cons_succ, List.set_append_left _ _ (by simp; omega), List.map_set]
theorem StateAt.tail {w : World} {g bits : Nat} {ws tail : List Nat} {taken : Nat} (h : StateAt w g bits ws tail taken) : Reads .u8 w (some ⟨g, 9, none⟩) 64 64 tail :=
  ⟨h.tlen, Nat.le_refl _, by unfold maxLen; omega, (fun e => by cases e), fun _ => ⟨g, 9, rfl, h.lt, fun i hi => h.byte i hi⟩⟩

end Go.Proofs.YtpefjkndfifceaaDoor

namespace Go.Proofs.YtpefjkndfifceaaDoor
open Go.RowKit

theorem grown_trans {x y z : World} {r : Option Nat} (h : x.grownBy y r) (k : y.grownBy z r) : x.grownBy z r :=
  ⟨k.os.trans h.os, k.tape.trans h.tape, k.output.trans h.output, Nat.le_trans h.size k.size, fun i hi hr => (k.block i (Nat.lt_of_lt_of_le hi h.size) hr).trans (h.block i hi hr)⟩
theorem grown_below {x y : World} (h : Below x.heap.size x y) (r : Option Nat) : x.grownBy y r := ⟨h.os, h.tape, h.output, h.size, fun i hi _ => h.block i hi⟩
theorem grown_drewN {x y : World} {r : Option Nat} (h : x.grownBy y r) (n : Nat) : x.grownBy (y.drewN n) r := ⟨h.os, h.tape, h.output, h.size, h.block⟩
theorem grown_drew {x y : World} {r : Option Nat} (h : x.grownBy y r) : x.grownBy y.drew r := ⟨h.os, h.tape, h.output, h.size, h.block⟩
theorem grown_set {x y : World} {g : Nat} (h : x.grownBy y (some g)) (i : Nat) (v : Value) : x.grownBy (y.setCell ⟨g, i, none⟩ v) (some g) :=
  ⟨h.os, h.tape, h.output, by simpa using h.size, fun k hk hr => (heap_setCell_other y ⟨g, i, none⟩ k v (fun e => hr (by rw [e]))).trans (h.block k hk hr)⟩

theorem kept2 (w W2 : World) (c d : Array Value) {T E : TypeId} (h : (w.alloc (.cells c T)).alloc (.cells d E) = W2) : Below w.heap.size w W2 ∧ W2.heap[w.heap.size + 1]? = some (.cells d E (0, 0)) ∧ W2.heap.size = w.heap.size + 2 := by
  subst h
  refine ⟨((Below.refl _ _).alloc (Nat.le_refl _) _).alloc (by simp) _, ?_, by simp⟩
  have := Go.heap_alloc_new (w.alloc (.cells c T)) (.cells d E)
  rwa [World.size_alloc] at this
theorem arrC_eight : ∀ (ws : List Nat), ws.length = 8 → #[Value.int .u32 ((g0 ws 0 : Nat) : Int), .int .u32 ((g0 ws 1 : Nat) : Int), .int .u32 ((g0 ws 2 : Nat) : Int), .int .u32 ((g0 ws 3 : Nat) : Int), .int .u32 ((g0 ws 4 : Nat) : Int), .int .u32 ((g0 ws 5 : Nat) : Int), .int .u32 ((g0 ws 6 : Nat) : Int), .int .u32 ((g0 ws 7 : Nat) : Int)] = arrC .u32 ws
  | [_, _, _, _, _, _, _, _], _ => rfl
theorem not_cast (e : Nat) (h : e < 4294967296) : bits BinOp.xor IntKind.u32 (if IntKind.u32.signed = true then -1 else IntKind.u32.max) (e : Int) = ((4294967295 - e : Nat) : Int) := by
  have e1 : (if IntKind.u32.signed = true then (-1 : Int) else IntKind.u32.max) = ((4294967295 : Nat) : Int) := rfl
  have e2 : (4294967295 ^^^ e : Nat) = 4294967295 - e := by
    have h1 := congrArg BitVec.toNat (BitVec.allOnes_xor (x := BitVec.ofNat 32 e))
    rw [BitVec.toNat_xor, BitVec.toNat_allOnes, BitVec.toNat_not, BitVec.toNat_ofNat, Nat.mod_eq_of_lt (by simpa using h)] at h1
    exact h1
  rw [e1, u32_xor_nat _ _ (by decide) h, e2]
theorem set8 : ∀ {l : List Nat}, l.length = 8 → ∀ (a b c d e f g h : Nat), (((((((l.set 0 a).set 1 b).set 2 c).set 3 d).set 4 e).set 5 f).set 6 g).set 7 h = [a, b, c, d, e, f, g, h]
  | [_, _, _, _, _, _, _, _], _, _, _, _, _, _, _, _, _ => rfl
theorem idx8 (l : List Nat) (i : Nat) (hi : i < 8) (hl : l.length = 8) (w : World) : (Instr.index 102 (.agg (arrC .u32 l)) (.int .i64 (i : Int))).run Tryd.prog w = .ok (.int .u32 ((l[i]?.getD 0 : Nat) : Int)) w := by
  have hu : ∀ w, (underlying 102).run Tryd.prog w = .ok (.array 8 64) w := fun _ => by kernel_rfl
  have hs : ∀ w, (sizeOf 64).run Tryd.prog w = .ok 1 w := fun _ => by kernel_rfl
  have ha : ∀ w, (isAgg 64).run Tryd.prog w = .ok false w := fun _ => by kernel_rfl
  have hg := arrC_get .u32 l i (by omega)
  have h1 : 0 ≤ (i : Int) ∧ (i : Int) < ((8 : Nat) : Int) := by omega
  unfold Instr.index
  simp only [asIntOf, Sem.run_bind, Sem.run_pure, Result.andThen_ok, hu, if_pos h1, hs, Int.toNat_natCast, Nat.mul_one, part, ha]
  rw [hg]
  rfl
theorem StateAt.drew' {w : World} {g bits : Nat} {ws tail : List Nat} {taken : Nat} (h : StateAt w g bits ws tail taken) : StateAt w.drew g bits ws tail taken := h.block rfl
theorem rdsN_zero (ws sc : List Nat) : rdsN ws sc 0 = ws := rfl
set_option maxRecDepth 100000 in
set_option maxHeartbeats 4000000 in
theorem turn_any (g bt : Nat) (ws tail : List Nat) (taken : Nat) (a : Option Addr) (cap : Nat) (bl : List Nat) (w : World) (h : StateAt w g bt ws tail taken) (hr : Reads .u8 w a 64 cap bl) (hb : ∀ x ∈ bl, x < 256) :
    Calls Tryd.prog 71 #[.pointer (some ⟨g, 0, none⟩), .slice a 64 cap] w fun e w' => e = .returned (.tuple #[]) ∧ StateAt w' g bt (turnN ws bl) tail taken ∧ w.grownBy w' (some g) := by
  have H := Lib.hid h
  have HR := Lib.hid hr
  have HB := Lib.hid hb
  have h0 : Tryd.f71.results = #[] := by kernel_rfl
  have H0 := Lib.hid h0
  clear h hr hb h0
  go_enter Tryd.func71, Tryd.ntmps71
  go_wp2_with fail
  refine (written_any w).mono ?_
  rintro e w1 ⟨rfl, rfl⟩
  have tf := tab_field (w.alloc (.cells tabC 109))
  go_wp2_with (refine wpList_store_row rfl _ _ _ rfl (w.heap.size + 1) (arrC .u32 kL) rfl rfl 106 (arrC .u32 (List.replicate 64 0)) (by rw [← z64, ← World.size_alloc w (.cells tabC 109)]; exact Go.heap_alloc_new _ _) (by kernel_rfl) (by kernel_rfl) (arrC_one _ _) ?_; generalize hW2 : World.setRow _ (w.heap.size + 1) (arrC .u32 kL) = W2; rw [z64, ← World.size_alloc w (.cells tabC 109), alloc_setRow] at hW2; have HF := Lib.hid (kept2 w W2 _ _ hW2); have H2 := Lib.hid (H.out.below HF.out.1 H.out.lt); have HR2 := Lib.hid (HR.out.below HF.out.1); have hK2 := Lib.hid (HF.out.2); clear hW2 tf; have c0 := H2.out.word 0 (by decide); have c1 := H2.out.word 1 (by decide); have c2 := H2.out.word 2 (by decide); have c3 := H2.out.word 3 (by decide); have c4 := H2.out.word 4 (by decide); have c5 := H2.out.word 5 (by decide); have c6 := H2.out.word 6 (by decide); have c7 := H2.out.word 7 (by decide); simp only [Nat.reduceAdd] at c0 c1 c2 c3 c4 c5 c6 c7)
  rw [arrC_eight ws H.out.wlen]
  have hb3 := (Below.refl W2.heap.size W2).alloc (Nat.le_refl _) (.cells (arrC .u32 ws) 102)
  have HV := Lib.hid (show Arr .u32 102 (W2.alloc (.cells (arrC .u32 ws) 102)) W2.heap.size (rdsN ws (schedN bl) 0) from Go.heap_alloc_new W2 _)
  have HK := Lib.hid (show Arr .u32 106 (W2.alloc (.cells (arrC .u32 ws) 102)) (w.heap.size + 1) kL from Arr.alloc hK2.out.1 _)
  have hzz := Lib.hid hK2.out.2
  have F := Lib.hid (HF.out.1.trans (hb3.mono HF.out.1.size))
  replace HR2 := Lib.hid (HR2.out.below hb3)
  have hV3 : W2.heap.size < (W2.alloc (.cells (arrC .u32 ws) 102)).heap.size := by simp
  generalize W2.alloc (.cells (arrC .u32 ws) 102) = W3 at *
  obtain ⟨V, hVe⟩ : ∃ V, V = W2.heap.size := ⟨_, rfl⟩
  obtain ⟨Kb, hKe⟩ : ∃ K, K = w.heap.size + 1 := ⟨_, rfl⟩
  rw [← hVe] at HV hV3 ⊢
  rw [← hKe] at HK ⊢
  have HKV := Lib.hid (show w.heap.size ≤ Kb ∧ Kb < V by have := hzz.out; omega)
  clear hb3 HF H2 hK2 hzz hVe hKe c0 c1 c2 c3 c4 c5 c6 c7
  refine (schedule_any a cap bl W3 HR2.out HB.out).mono ?_
  rintro e w4 ⟨rfl, hb4⟩
  replace HV := Lib.hid (HV.out.below hb4 hV3)
  replace HK := Lib.hid (HK.out.below hb4 (Nat.lt_trans HKV.out.2 hV3))
  replace F := Lib.hid (F.out.trans (hb4.mono F.out.size))
  have HSL := Lib.hid (schedN_len bl)
  have HSB := Lib.hid (schedN_lt bl HB.out)
  have HTN := Lib.hid (show turnN ws bl = addTo ws (rdsN ws (schedN bl) 64) 8 from rfl)
  clear hb4 HR2 hV3
  generalize schedN bl = sc at *
  go_wp2_with fail
  go_loopw [20] (fun iv wr => ∃ i : Nat, iv = .int .i64 (i : Int) ∧ i ≤ 64 ∧ Hid (Arr .u32 106 wr Kb kL ∧ Arr .u32 102 wr V (rdsN ws sc i) ∧ Below w.heap.size w wr)) (fun iv _ => 64 - (intOf iv).toNat)
  case atStart => exact ⟨0, rfl, by decide, HK.out, HV.out, F.out⟩
  case round =>
    obtain ⟨i, rfl, hi, hI⟩ := hrel
    rcases Nat.lt_or_ge i 64 with hlt | hge
    · skip
      have hVl := rdsN_len ws sc H.out.wlen i
      have hVb := rdsN_lt ws sc H.out.wlt i
      have cv0 := hI.out.2.1.cell 0 (by rw [hVl]; decide)
      obtain ⟨a, ha⟩ : ∃ x, x = g0 (rdsN ws sc i) 0 := ⟨_, rfl⟩
      have la : a < 4294967296 := ha ▸ g0_lt hVb (by decide) 0
      rw [show (rdsN ws sc i)[0]?.getD 0 = a from ha.symm] at cv0
      have cv1 := hI.out.2.1.cell 1 (by rw [hVl]; decide)
      obtain ⟨b, hb⟩ : ∃ x, x = g0 (rdsN ws sc i) 1 := ⟨_, rfl⟩
      have lb : b < 4294967296 := hb ▸ g0_lt hVb (by decide) 1
      rw [show (rdsN ws sc i)[1]?.getD 0 = b from hb.symm] at cv1
      have cv2 := hI.out.2.1.cell 2 (by rw [hVl]; decide)
      obtain ⟨c, hc⟩ : ∃ x, x = g0 (rdsN ws sc i) 2 := ⟨_, rfl⟩
      have lc : c < 4294967296 := hc ▸ g0_lt hVb (by decide) 2
      rw [show (rdsN ws sc i)[2]?.getD 0 = c from hc.symm] at cv2
      have cv3 := hI.out.2.1.cell 3 (by rw [hVl]; decide)
      obtain ⟨d, hd⟩ : ∃ x, x = g0 (rdsN ws sc i) 3 := ⟨_, rfl⟩
      have ld : d < 4294967296 := hd ▸ g0_lt hVb (by decide) 3
      rw [show (rdsN ws sc i)[3]?.getD 0 = d from hd.symm] at cv3
      have cv4 := hI.out.2.1.cell 4 (by rw [hVl]; decide)
      obtain ⟨e, he⟩ : ∃ x, x = g0 (rdsN ws sc i) 4 := ⟨_, rfl⟩
      have le : e < 4294967296 := he ▸ g0_lt hVb (by decide) 4
      rw [show (rdsN ws sc i)[4]?.getD 0 = e from he.symm] at cv4
      have cv5 := hI.out.2.1.cell 5 (by rw [hVl]; decide)
      obtain ⟨f, hf⟩ : ∃ x, x = g0 (rdsN ws sc i) 5 := ⟨_, rfl⟩
      have lf : f < 4294967296 := hf ▸ g0_lt hVb (by decide) 5
      rw [show (rdsN ws sc i)[5]?.getD 0 = f from hf.symm] at cv5
      have cv6 := hI.out.2.1.cell 6 (by rw [hVl]; decide)
      obtain ⟨m, hm⟩ : ∃ x, x = g0 (rdsN ws sc i) 6 := ⟨_, rfl⟩
      have lm : m < 4294967296 := hm ▸ g0_lt hVb (by decide) 6
      rw [show (rdsN ws sc i)[6]?.getD 0 = m from hm.symm] at cv6
      have cv7 := hI.out.2.1.cell 7 (by rw [hVl]; decide)
      obtain ⟨h, hh⟩ : ∃ x, x = g0 (rdsN ws sc i) 7 := ⟨_, rfl⟩
      have lh : h < 4294967296 := hh ▸ g0_lt hVb (by decide) 7
      rw [show (rdsN ws sc i)[7]?.getD 0 = h from hh.symm] at cv7
      have ck := hI.out.1.cell i (by rw [kL_len]; exact hlt)
      obtain ⟨k, hk⟩ : ∃ x, x = g0 kL i := ⟨_, rfl⟩
      have lk : k < 4294967296 := hk ▸ g0_lt kL_lt (by decide) i
      rw [show kL[i]?.getD 0 = k from hk.symm] at ck
      have ix := idx64 sc i hlt HSL.out wr
      obtain ⟨u, hu⟩ : ∃ x, x = g0 sc i := ⟨_, rfl⟩
      have lu : u < 4294967296 := hu ▸ g0_lt HSB.out (by decide) i
      rw [show sc[i]?.getD 0 = u from hu.symm] at ix
      have HE := Lib.hid (show rdsN ws sc (i + 1) = [(yN e f m h k u + zN a b c) % 4294967296, a, b, c, (d + yN e f m h k u) % 4294967296, e, f, m] by rw [ha, hb, hc, hd, he, hf, hm, hh, hk, hu]; rfl)
      clear ha hb hc hd he hf hm hh hk hu hVl hVb
      obtain ⟨L1, hL1⟩ : ∃ x, x = laidN e 6 11 25 := ⟨_, rfl⟩
      have lL1 : L1 < 4294967296 := by rw [hL1]; exact laidN_lt le
      obtain ⟨s1, hs1⟩ : ∃ x, x = (h + k) % 4294967296 := ⟨_, rfl⟩
      have ls1 : s1 < 4294967296 := by omega
      obtain ⟨s2, hs2⟩ : ∃ x, x = (s1 + u) % 4294967296 := ⟨_, rfl⟩
      have ls2 : s2 < 4294967296 := by omega
      obtain ⟨s3, hs3⟩ : ∃ x, x = (s2 + L1) % 4294967296 := ⟨_, rfl⟩
      have ls3 : s3 < 4294967296 := by omega
      obtain ⟨A1, hA1⟩ : ∃ x, x = e &&& f := ⟨_, rfl⟩
      have lA1 : A1 < 4294967296 := by rw [hA1]; exact Nat.and_lt_two_pow (n := 32) e lf
      obtain ⟨N1, hN1⟩ : ∃ x, x = 4294967295 - e := ⟨_, rfl⟩
      have lN1 : N1 < 4294967296 := by omega
      obtain ⟨A2, hA2⟩ : ∃ x, x = N1 &&& m := ⟨_, rfl⟩
      have lA2 : A2 < 4294967296 := by rw [hA2]; exact Nat.and_lt_two_pow (n := 32) N1 lm
      obtain ⟨X1, hX1⟩ : ∃ x, x = A1 ^^^ A2 := ⟨_, rfl⟩
      have lX1 : X1 < 4294967296 := by rw [hX1]; exact Nat.xor_lt_two_pow (n := 32) lA1 lA2
      obtain ⟨y, hy⟩ : ∃ x, x = (s3 + X1) % 4294967296 := ⟨_, rfl⟩
      have ly : y < 4294967296 := by omega
      obtain ⟨L2, hL2⟩ : ∃ x, x = laidN a 2 13 22 := ⟨_, rfl⟩
      have lL2 : L2 < 4294967296 := by rw [hL2]; exact laidN_lt la
      obtain ⟨B1, hB1⟩ : ∃ x, x = a &&& b := ⟨_, rfl⟩
      have lB1 : B1 < 4294967296 := by rw [hB1]; exact Nat.and_lt_two_pow (n := 32) a lb
      obtain ⟨B2, hB2⟩ : ∃ x, x = a &&& c := ⟨_, rfl⟩
      have lB2 : B2 < 4294967296 := by rw [hB2]; exact Nat.and_lt_two_pow (n := 32) a lc
      obtain ⟨B3, hB3⟩ : ∃ x, x = b &&& c := ⟨_, rfl⟩
      have lB3 : B3 < 4294967296 := by rw [hB3]; exact Nat.and_lt_two_pow (n := 32) b lc
      obtain ⟨X2, hX2⟩ : ∃ x, x = B1 ^^^ B2 := ⟨_, rfl⟩
      have lX2 : X2 < 4294967296 := by rw [hX2]; exact Nat.xor_lt_two_pow (n := 32) lB1 lB2
      obtain ⟨X3, hX3⟩ : ∃ x, x = X2 ^^^ B3 := ⟨_, rfl⟩
      have lX3 : X3 < 4294967296 := by rw [hX3]; exact Nat.xor_lt_two_pow (n := 32) lX2 lB3
      obtain ⟨z, hz⟩ : ∃ x, x = (L2 + X3) % 4294967296 := ⟨_, rfl⟩
      have lz : z < 4294967296 := by omega
      obtain ⟨n0, hn0⟩ : ∃ x, x = (y + z) % 4294967296 := ⟨_, rfl⟩
      have ln0 : n0 < 4294967296 := by omega
      obtain ⟨n4, hn4⟩ : ∃ x, x = (d + y) % 4294967296 := ⟨_, rfl⟩
      have ln4 : n4 < 4294967296 := by omega
      have es1 : ((h : Int) + (k : Int)) % 4294967296 = (s1 : Int) := by omega
      have es2 : ((s1 : Int) + (u : Int)) % 4294967296 = (s2 : Int) := by omega
      have es3 : ((s2 : Int) + (L1 : Int)) % 4294967296 = (s3 : Int) := by omega
      have ey : ((s3 : Int) + (X1 : Int)) % 4294967296 = (y : Int) := by omega
      have ez : ((L2 : Int) + (X3 : Int)) % 4294967296 = (z : Int) := by omega
      have en0 : ((y : Int) + (z : Int)) % 4294967296 = (n0 : Int) := by omega
      have en4 : ((d : Int) + (y : Int)) % 4294967296 = (n4 : Int) := by omega
      have eN1 : bits BinOp.xor IntKind.u32 (if IntKind.u32.signed = true then -1 else IntKind.u32.max) (e : Int) = (N1 : Int) := by rw [hN1]; exact not_cast e le
      have eA1 : bits BinOp.and IntKind.u32 (e : Int) (f : Int) = (A1 : Int) := by rw [u32_and_nat _ _ le lf, hA1]
      have eA2 : bits BinOp.and IntKind.u32 (N1 : Int) (m : Int) = (A2 : Int) := by rw [u32_and_nat _ _ lN1 lm, hA2]
      have eX1 : bits BinOp.xor IntKind.u32 (A1 : Int) (A2 : Int) = (X1 : Int) := by rw [u32_xor_nat _ _ lA1 lA2, hX1]
      have eB1 : bits BinOp.and IntKind.u32 (a : Int) (b : Int) = (B1 : Int) := by rw [u32_and_nat _ _ la lb, hB1]
      have eB2 : bits BinOp.and IntKind.u32 (a : Int) (c : Int) = (B2 : Int) := by rw [u32_and_nat _ _ la lc, hB2]
      have eB3 : bits BinOp.and IntKind.u32 (b : Int) (c : Int) = (B3 : Int) := by rw [u32_and_nat _ _ lb lc, hB3]
      have eX2 : bits BinOp.xor IntKind.u32 (B1 : Int) (B2 : Int) = (X2 : Int) := by rw [u32_xor_nat _ _ lB1 lB2, hX2]
      have eX3 : bits BinOp.xor IntKind.u32 (X2 : Int) (B3 : Int) = (X3 : Int) := by rw [u32_xor_nat _ _ lX2 lB3, hX3]
      have HE2 := Lib.hid (show rdsN ws sc (i + 1) = [n0, a, b, c, n4, e, f, m] by rw [HE.out, hn0, hn4, hy, hz, hX3, hX2, hX1, hs3, hs2, hs1, hA1, hA2, hN1, hB1, hB2, hB3, hL1, hL2]; rfl)
      have RL1 := Lib.hid hL1
      have RL2 := Lib.hid hL2
      clear HE hL1 hs1 hs2 hs3 hA1 hN1 hA2 hX1 hy hL2 hB1 hB2 hB3 hX2 hX3 hz hn0 hn4
      go_wp2_with fail
      go_quiet ((go_at_call 83; exact Calls.quiet_of_same ((laid_any e 6 11 25 _ _ _ _ rfl rfl rfl (by decide) (by decide) (by decide) le L1 RL1.out).mono fun _ _ ⟨h1, h2⟩ => ⟨h1, h2.symm⟩)))
      have q5 : Hid (Arr .u32 106 (wr.drewN nq) Kb kL ∧ Arr .u32 102 (wr.drewN nq) V (rdsN ws sc i) ∧ Below w.heap.size w (wr.drewN nq)) := ⟨hI.out.1, hI.out.2.1, below_drewS hI.out.2.2 nq⟩
      have d0 : (wr.drewN nq).cell? ⟨V, 0, none⟩ = some (.int .u32 (a : Int)) := cv0
      have d1 : (wr.drewN nq).cell? ⟨V, 1, none⟩ = some (.int .u32 (b : Int)) := cv1
      have d2 : (wr.drewN nq).cell? ⟨V, 2, none⟩ = some (.int .u32 (c : Int)) := cv2
      have d3 : (wr.drewN nq).cell? ⟨V, 3, none⟩ = some (.int .u32 (d : Int)) := cv3
      have d4 : (wr.drewN nq).cell? ⟨V, 4, none⟩ = some (.int .u32 (e : Int)) := cv4
      have d5 : (wr.drewN nq).cell? ⟨V, 5, none⟩ = some (.int .u32 (f : Int)) := cv5
      have d6 : (wr.drewN nq).cell? ⟨V, 6, none⟩ = some (.int .u32 (m : Int)) := cv6
      generalize wr.drewN nq = w5 at *
      clear cv0 cv1 cv2 cv3 cv4 cv5 cv6 cv7 ck ix hI
      have hff := q5.out.2.1.frozen
      have f0 := hff 0
      have f1 := hff 1
      have f2 := hff 2
      have f3 := hff 3
      have f4 := hff 4
      have f5 := hff 5
      have f6 := hff 6
      have f7 := hff 7
      have c7 := q5.out.2.1.cell 7 (by rw [rdsN_len ws sc H.out.wlen i]; decide)
      clear hff
      go_wp2_with fail
      go_quiet ((go_at_call 83; exact Calls.quiet_of_same ((laid_any a 2 13 22 _ _ _ _ rfl rfl rfl (by decide) (by decide) (by decide) la L2 RL2.out).mono fun _ _ ⟨h1, h2⟩ => ⟨h1, h2.symm⟩)))
      go_wp2
      go_roundw
      case rel =>
        refine ⟨i + 1, by go_num, by omega, ?_⟩
        rw [HE2.out, ← set8 (rdsN_len ws sc H.out.wlen i) n0 a b c n4 e f m]
        have hne : Kb ≠ V := by have := HKV.out.2; omega
        have hle : w.heap.size ≤ V := by have := HKV.out; omega
        exact ⟨((((((((q5.out.1.drewN nq).other _ _ hne).other _ _ hne).other _ _ hne).other _ _ hne).other _ _ hne).other _ _ hne).other _ _ hne).other _ _ hne, ((((((((q5.out.2.1.drewN nq).stored 0 n0 _ rfl).stored 1 a _ rfl).stored 2 b _ rfl).stored 3 c _ rfl).stored 4 n4 _ rfl).stored 5 e _ rfl).stored 6 f _ rfl).stored 7 m _ rfl, ((((((((below_drewS q5.out.2.2 nq).setCell (p := ⟨V, 0, none⟩) hle _).setCell (p := ⟨V, 1, none⟩) hle _).setCell (p := ⟨V, 2, none⟩) hle _).setCell (p := ⟨V, 3, none⟩) hle _).setCell (p := ⟨V, 4, none⟩) hle _).setCell (p := ⟨V, 5, none⟩) hle _).setCell (p := ⟨V, 6, none⟩) hle _).setCell (p := ⟨V, 7, none⟩) hle _⟩
      case measure => simp [intOf]; omega
    · obtain rfl : i = 64 := by omega
      have H4 := Lib.hid (H.out.below hI.out.2.2 H.out.lt)
      have G4 := Lib.hid (grown_below hI.out.2.2 (some g))
      have hv := hI.out.2.1
      have hvl := Lib.hid (rdsN_len ws sc H.out.wlen 64)
      have hvb := Lib.hid (rdsN_lt ws sc H.out.wlt 64)
      generalize rdsN ws sc 64 = v at *
      have hHv := Lib.hid hv
      clear hI hv
      go_wp2_with (refine wpList_load_row rfl _ _ rfl V rfl _ (arrC .u32 v) _ _ hHv.out Tryd.underlying102 rfl (by rw [arrC_size, hvl.out]; kernel_rfl) ?_)
      go_loopw [92] (fun iv wq => ∃ j : Nat, iv = .int .i64 (j : Int) ∧ j ≤ 8 ∧ Hid (StateAt wq g bt (addTo ws v j) tail taken ∧ w.grownBy wq (some g))) (fun iv _ => 8 - (intOf iv).toNat)
      case atStart => exact ⟨0, rfl, by decide, H4.out, G4.out⟩
      case round =>
        obtain ⟨j, rfl, hj, hI⟩ := hrel
        rcases Nat.lt_or_ge j 8 with hlt | hge
        · have cj := hI.out.1.word j hlt
          have fj := hI.out.1.frozen (1 + j)
          obtain ⟨x, hx⟩ : ∃ x, x = g0 (addTo ws v j) j := ⟨_, rfl⟩
          rw [← hx] at cj
          have lx : x < 4294967296 := hx ▸ g0_lt hI.out.1.wlt (by decide) j
          have ix := idx8 v j hlt hvl.out
          obtain ⟨u, hu⟩ : ∃ u, u = g0 v j := ⟨_, rfl⟩
          have lu : u < 4294967296 := hu ▸ g0_lt hvb.out (by decide) j
          rw [show v[j]?.getD 0 = u from hu.symm] at ix
          have ixw := ix wr
          obtain ⟨s, hs⟩ : ∃ s, s = (x + u) % 4294967296 := ⟨_, rfl⟩
          have ls : s < 4294967296 := by omega
          have es : ((x : Int) + (u : Int)) % 4294967296 = (s : Int) := by omega
          have HE := Lib.hid (show addTo ws v (j + 1) = (addTo ws v j).set j s by rw [hs, hx, hu]; rfl)
          clear hx hu hs ix
          go_wp2_with fail
          go_region
          go_wp2
          go_roundw
          case rel => exact ⟨j + 1, by go_num, by omega, by rw [HE.out]; exact (hI.out.1.drew').setWord j s hlt _ rfl ls, grown_set (grown_drew hI.out.2) _ _⟩
          case measure => simp [intOf]; omega
        · obtain rfl : j = 8 := by omega
          go_wp2
          refine bodyPost_end (v := .tuple #[]) (by simp [results, H0.out]) rfl ?_
          exact ⟨rfl, by rw [HTN.out]; exact hI.out.1, hI.out.2⟩

end Go.Proofs.YtpefjkndfifceaaDoor

namespace Go.Proofs.YtpefjkndfifceaaDoor
open Go.RowKit Go.Shelf
attribute [local go_sem] Oper.semAt_some

/-- Where piece number j begins. -/
def stP (n r : Nat) : Nat → Nat
  | 0 => 0
  | j + 1 => min n (r + 64 * j)
/-- How much room there is ahead of it. -/
def rmP (r : Nat) : Nat → Nat
  | 0 => r
  | _ + 1 => 64
theorem stP_le (n r : Nat) : ∀ j, stP n r j ≤ n
  | 0 => Nat.zero_le _
  | _ + 1 => Nat.min_le_left _ _
theorem stP_next (n r : Nat) : ∀ j, stP n r j < n → stP n r (j + 1) = stP n r j + min (rmP r j) (n - stP n r j)
  | 0, _ => by simp [stP, rmP]; omega
  | j + 1, h => by simp only [stP, rmP] at h ⊢; omega
/-- The first pieces. -/
def pcs (n r m : Nat) : List (Nat × Nat) := (List.range m).map fun j => (stP n r j, stP n r (j + 1) - stP n r j)
theorem pcs_succ (n r m : Nat) : pcs n r (m + 1) = pcs n r m ++ [(stP n r m, stP n r (m + 1) - stP n r m)] := by
  unfold pcs
  rw [List.range_succ, List.map_append]
  rfl
/-- What one round is handed: where its piece begins, and how long it is. -/
abbrev Pc (C : Nat × Nat → Prop) := { p : Nat × Nat // C p }
abbrev encP (blk off cap : Nat) {C : Nat × Nat → Prop} (x : Pc C) : Array Value := #[.slice (some ⟨blk, off + x.1.1, none⟩) x.1.2 (cap - x.1.1)]
def sliceLen : Option Value → Nat
  | some (.slice _ m _) => m
  | _ => 0

set_option maxRecDepth 100000 in
set_option maxHeartbeats 4000000 in
theorem pieces_come (fn : Nat) (hfn : 1 ≤ fn) (C : Nat × Nat → Prop) (bb br blk off n cap r : Nat) (a0 : Option Addr) (w : World) (hb : Boxed w bb 22 (.slice a0 n cap)) (hr : Boxed w br 3 (.int .i64 (r : Int))) (hne : bb ≠ br)
    (ha : 0 < n → a0 = some ⟨blk, off, none⟩) (hnc : n ≤ cap) (hcm : cap ≤ maxLen) (hr1 : 1 ≤ r) (hr2 : r ≤ 64) (hC : ∀ j, stP n r j < n → C (stP n r j, stP n r (j + 1) - stP n r j)) :
    SeqR (fun k => k = bb ∨ k = br) Fence.wide fn Tryd.prog 81 #[.pointer (some ⟨bb, 0, none⟩), .pointer (some ⟨br, 0, none⟩)] (encP blk off cap (C := C)) (fun xs => ∃ m, xs.map (·.1) = pcs n r m ∧ stP n r m = n) (fun pre => ∃ m, pre.map (·.1) = pcs n r (m + 1) ∧ stP n r m < n) w := fun lp J Jx W hW hJ hJx hY h0 => by
  have bB : Boxed W bb 22 (.slice a0 n cap) := (hW.block bb hb.lt).trans hb
  have bR : Boxed W br 3 (.int .i64 (r : Int)) := (hW.block br hr.lt).trans hr
  unfold maxLen at hcm
  have HJ := Lib.hid hJ
  have HA := Lib.hid ha
  have BB := Lib.hid bB
  have BR := Lib.hid bR
  have HC := Lib.hid hC
  clear hb hr hW hJ hJx ha bB bR hC
  refine callsIn_of_wp Tryd.func81 rfl trivial ?_ rfl
  simp only [Tryd.ntmps81, List.size_toArray, List.length_cons, List.length_nil, Nat.reduceAdd, Nat.reduceSub, Array.replicate_succ, Array.replicate_zero, List.push_toArray, List.append_toArray, List.nil_append, List.cons_append]
  gi_wp2
  gi_loopw [] (fun wr => ∃ (j m c ro : Nat) (a : Option Addr), Hid (Boxed wr bb 22 (.slice a m c) ∧ Boxed wr br 3 (.int .i64 (ro : Int)) ∧ m = n - stP n r j ∧ c = cap - stP n r j ∧ ro = rmP r j ∧ (0 < m → a = some ⟨blk, off + stP n r j, none⟩) ∧ ∃ pre : List (Pc C), pre.map (·.1) = pcs n r j ∧ J pre wr)) (fun wr => sliceLen (wr.cell? ⟨bb, 0, none⟩))
  case atStart => exact ⟨0, n, cap, r, a0, BB.out, BR.out, rfl, rfl, rfl, fun h => HA.out h, [], rfl, h0⟩
  case round =>
    obtain ⟨j, m, c, ro, a, hI⟩ := hrel
    obtain ⟨b1, b2, hm, hc, hro, had, pre, hpre, hj⟩ := hI.out
    clear hI
    have cb := b1.cell
    have cr := b2.cell
    have fb := b1.frozen
    have fr := b2.frozen
    have B1 := Lib.hid b1
    have B2 := Lib.hid b2
    have HRO := Lib.hid hro
    have HPRE := Lib.hid hpre
    have HJ1 := Lib.hid hj
    have hstn := stP_le n r j
    rcases Nat.eq_zero_or_pos m with h0m | hpos
    · subst h0m
      have HF := Lib.hid (show stP n r j = n by omega)
      clear hm hc hro had hpre hj
      gi_wp2
      go_end0
      exact ⟨⟨_, rfl⟩, .inl ⟨pre, ⟨j, HPRE.out, HF.out⟩, HJ1.out⟩⟩
    · obtain rfl := had hpos
      have hlt : stP n r j < n := by omega
      have hnx := stP_next n r j hlt
      rw [← hro, ← hm] at hnx
      have hro1 : 1 ≤ ro := by rw [hro]; cases j with | zero => exact hr1 | succ j => show 1 ≤ 64; decide
      have hmc : m ≤ c := by omega
      have hcm2 : c ≤ 9223372036854775807 := by omega
      have hro64 : ro ≤ 64 := by rw [hro]; cases j with | zero => exact hr2 | succ j => show 64 ≤ 64; decide
      obtain ⟨s, hs⟩ : ∃ s, s = stP n r j := ⟨_, rfl⟩
      rcases Nat.lt_or_ge m ro with hrm | hrm
      · have hz : min ro m = m := by omega
        rw [hz] at hnx
        have hz1 : 1 ≤ m := by omega
        have hCx : C (s, m) := by
          have := HC.out j hlt
          rw [hnx, Nat.add_sub_cancel_left, ← hs] at this
          exact this
        obtain ⟨fn1, tmps, assign, body, hy, hR⟩ := hY pre ⟨(s, m), hCx⟩ wr hj
        simp only [encP] at hy
        rw [← hs] at hnx hc hm cb hstn B1
        rw [← hc] at hy
        have HR := Lib.hid hR
        have HS := Lib.hid hs
        have HP1 := Lib.hid (show (pre ++ [(⟨(s, m), hCx⟩ : Pc C)]).map (·.1) = pcs n r (j + 1) by rw [List.map_append, pcs_succ, HPRE.out, hnx, ← hs, Nat.add_sub_cancel_left]; rfl)
        have HNX := Lib.hid hnx
        have HM := Lib.hid hm
        have HCC := Lib.hid hc
        clear hm hc hro hpre hj hnx hz hs had hR
        gi_wp2_with fail
        refine HR.out.mono ?_
        rintro e W3 (⟨rfl, hJ3, hk3⟩ | ⟨rfl, hx3⟩)
        · have b3 : Boxed W3 bb 22 (.slice (some ⟨blk, off + s, none⟩) m c) := (hk3.2 bb (.inl rfl)).trans B1.out
          have b4 : Boxed W3 br 3 (.int .i64 (ro : Int)) := (hk3.2 br (.inr rfl)).trans B2.out
          have c3 := b3.cell
          have f3 := b3.frozen
          have f4 := b4.frozen
          have c4 := b4.cell
          have hne2 := Ne.symm hne
          have B3 := Lib.hid b3
          have B4 := Lib.hid b4
          have J3 := Lib.hid hJ3
          clear hJ3 hk3 cb cr fb fr b3 b4 b1 b2
          have fin := Lib.hid (show ∀ (a' : Option Addr) (m' c' : Nat), m' = n - stP n r (j + 1) → c' = cap - stP n r (j + 1) → (0 < m' → a' = some ⟨blk, off + stP n r (j + 1), none⟩) → m' < m → (∃ (j m c ro : Nat) (a : Option Addr), Hid (Boxed ((W3.setCell ⟨bb, 0, none⟩ (.slice a' m' c')).setCell ⟨br, 0, none⟩ (.int .i64 64)) bb 22 (.slice a m c) ∧ Boxed ((W3.setCell ⟨bb, 0, none⟩ (.slice a' m' c')).setCell ⟨br, 0, none⟩ (.int .i64 64)) br 3 (.int .i64 (ro : Int)) ∧ m = n - stP n r j ∧ c = cap - stP n r j ∧ ro = rmP r j ∧ (0 < m → a = some ⟨blk, off + stP n r j, none⟩) ∧ ∃ pre : List (Pc C), pre.map (·.1) = pcs n r j ∧ J pre ((W3.setCell ⟨bb, 0, none⟩ (.slice a' m' c')).setCell ⟨br, 0, none⟩ (.int .i64 64)))) ∧ sliceLen (((W3.setCell ⟨bb, 0, none⟩ (.slice a' m' c')).setCell ⟨br, 0, none⟩ (.int .i64 64)).cell? ⟨bb, 0, none⟩) < sliceLen (wr.cell? ⟨bb, 0, none⟩) from fun a' m' c' h1 h2 h3 h4 => by
            have k1 : Boxed ((W3.setCell ⟨bb, 0, none⟩ (.slice a' m' c')).setCell ⟨br, 0, none⟩ (.int .i64 64)) bb 22 (.slice a' m' c') := (B3.out.set _).other hne _
            refine ⟨⟨j + 1, m', c', 64, a', k1, (B4.out.other hne2 _).set _, h1, h2, rfl, h3, _, HP1.out, ?_⟩, ?_⟩
            · exact HJ.out _ _ _ (some br) (HJ.out _ _ _ (some bb) J3.out (grownBy_setCell' W3 bb _) (fun r e => by cases e; exact .inl rfl)) (grownBy_setCell' _ br _) (fun r e => by cases e; exact .inr rfl)
            · rw [k1.cell, B1.out.cell]
              exact h4)
          by_cases hcz : c = m
          · have hmz : m = m := by omega
            have HZ := Lib.hid (show m = n - s ∧ m = cap - s by have h1 := HM.out; have h2 := HCC.out; omega)
            clear hmz
            subst hcz
            gi_wp2_with fail
            exact fin.out _ _ _ (by have e1 := HNX.out; have e2 := HM.out; have e3 := HCC.out; have e4 := HS.out; omega) (by have e1 := HNX.out; have e2 := HM.out; have e3 := HCC.out; have e4 := HS.out; omega) (fun h => by first | omega | (rw [HNX.out, Nat.add_assoc])) (by omega)
          · gi_wp2_with fail
            exact fin.out _ _ _ (by have e1 := HNX.out; have e2 := HM.out; have e3 := HCC.out; have e4 := HS.out; omega) (by have e1 := HNX.out; have e2 := HM.out; have e3 := HCC.out; have e4 := HS.out; omega) (fun h => by first | omega | (rw [HNX.out, Nat.add_assoc])) (by omega)
        · have HX3 := Lib.hid hx3
          clear hx3
          gi_wp2
          refine bodyPost_ret (results_none rfl _ _ _) rfl ?_
          exact ⟨⟨_, rfl⟩, .inr ⟨_, ⟨j, HP1.out, by rw [← HS.out]; have := HM.out; omega⟩, HX3.out⟩⟩
      · have hz : min ro m = ro := by omega
        rw [hz] at hnx
        have hz1 : 1 ≤ ro := by omega
        have hCx : C (s, ro) := by
          have := HC.out j hlt
          rw [hnx, Nat.add_sub_cancel_left, ← hs] at this
          exact this
        obtain ⟨fn1, tmps, assign, body, hy, hR⟩ := hY pre ⟨(s, ro), hCx⟩ wr hj
        simp only [encP] at hy
        rw [← hs] at hnx hc hm cb hstn B1
        rw [← hc] at hy
        have HR := Lib.hid hR
        have HS := Lib.hid hs
        have HP1 := Lib.hid (show (pre ++ [(⟨(s, ro), hCx⟩ : Pc C)]).map (·.1) = pcs n r (j + 1) by rw [List.map_append, pcs_succ, HPRE.out, hnx, ← hs, Nat.add_sub_cancel_left]; rfl)
        have HNX := Lib.hid hnx
        have HM := Lib.hid hm
        have HCC := Lib.hid hc
        clear hm hc hro hpre hj hnx hz hs had hR
        gi_wp2_with fail
        refine HR.out.mono ?_
        rintro e W3 (⟨rfl, hJ3, hk3⟩ | ⟨rfl, hx3⟩)
        · have b3 : Boxed W3 bb 22 (.slice (some ⟨blk, off + s, none⟩) m c) := (hk3.2 bb (.inl rfl)).trans B1.out
          have b4 : Boxed W3 br 3 (.int .i64 (ro : Int)) := (hk3.2 br (.inr rfl)).trans B2.out
          have c3 := b3.cell
          have f3 := b3.frozen
          have f4 := b4.frozen
          have c4 := b4.cell
          have hne2 := Ne.symm hne
          have B3 := Lib.hid b3
          have B4 := Lib.hid b4
          have J3 := Lib.hid hJ3
          clear hJ3 hk3 cb cr fb fr b3 b4 b1 b2
          have fin := Lib.hid (show ∀ (a' : Option Addr) (m' c' : Nat), m' = n - stP n r (j + 1) → c' = cap - stP n r (j + 1) → (0 < m' → a' = some ⟨blk, off + stP n r (j + 1), none⟩) → m' < m → (∃ (j m c ro : Nat) (a : Option Addr), Hid (Boxed ((W3.setCell ⟨bb, 0, none⟩ (.slice a' m' c')).setCell ⟨br, 0, none⟩ (.int .i64 64)) bb 22 (.slice a m c) ∧ Boxed ((W3.setCell ⟨bb, 0, none⟩ (.slice a' m' c')).setCell ⟨br, 0, none⟩ (.int .i64 64)) br 3 (.int .i64 (ro : Int)) ∧ m = n - stP n r j ∧ c = cap - stP n r j ∧ ro = rmP r j ∧ (0 < m → a = some ⟨blk, off + stP n r j, none⟩) ∧ ∃ pre : List (Pc C), pre.map (·.1) = pcs n r j ∧ J pre ((W3.setCell ⟨bb, 0, none⟩ (.slice a' m' c')).setCell ⟨br, 0, none⟩ (.int .i64 64)))) ∧ sliceLen (((W3.setCell ⟨bb, 0, none⟩ (.slice a' m' c')).setCell ⟨br, 0, none⟩ (.int .i64 64)).cell? ⟨bb, 0, none⟩) < sliceLen (wr.cell? ⟨bb, 0, none⟩) from fun a' m' c' h1 h2 h3 h4 => by
            have k1 : Boxed ((W3.setCell ⟨bb, 0, none⟩ (.slice a' m' c')).setCell ⟨br, 0, none⟩ (.int .i64 64)) bb 22 (.slice a' m' c') := (B3.out.set _).other hne _
            refine ⟨⟨j + 1, m', c', 64, a', k1, (B4.out.other hne2 _).set _, h1, h2, rfl, h3, _, HP1.out, ?_⟩, ?_⟩
            · exact HJ.out _ _ _ (some br) (HJ.out _ _ _ (some bb) J3.out (grownBy_setCell' W3 bb _) (fun r e => by cases e; exact .inl rfl)) (grownBy_setCell' _ br _) (fun r e => by cases e; exact .inr rfl)
            · rw [k1.cell, B1.out.cell]
              exact h4)
          by_cases hcz : c = ro
          · have hmz : m = ro := by omega
            have HZ := Lib.hid (show ro = n - s ∧ ro = cap - s by have h1 := HM.out; have h2 := HCC.out; omega)
            subst hmz
            subst hcz
            gi_wp2_with fail
            exact fin.out _ _ _ (by have e1 := HNX.out; have e2 := HM.out; have e3 := HCC.out; have e4 := HS.out; omega) (by have e1 := HNX.out; have e2 := HM.out; have e3 := HCC.out; have e4 := HS.out; omega) (fun h => by first | omega | (rw [HNX.out, Nat.add_assoc])) (by omega)
          · gi_wp2_with fail
            exact fin.out _ _ _ (by have e1 := HNX.out; have e2 := HM.out; have e3 := HCC.out; have e4 := HS.out; omega) (by have e1 := HNX.out; have e2 := HM.out; have e3 := HCC.out; have e4 := HS.out; omega) (fun h => by first | omega | (rw [HNX.out, Nat.add_assoc])) (by omega)
        · have HX3 := Lib.hid hx3
          clear hx3
          gi_wp2
          refine bodyPost_ret (results_none rfl _ _ _) rfl ?_
          exact ⟨⟨_, rfl⟩, .inr ⟨_, ⟨j, HP1.out, by rw [← HS.out]; have := HM.out; omega⟩, HX3.out⟩⟩

end Go.Proofs.YtpefjkndfifceaaDoor

namespace Go.Proofs.YtpefjkndfifceaaDoor
open Go.RowKit Go.Shelf

/-- The first state's words. -/
def startN (bt : Nat) : List Nat := if bt = 256 then startL.take 8 else startL.drop 8
/-- The words behind so many blocks of a message. -/
def wsK (bt : Nat) (m : List Nat) : Nat → List Nat
  | 0 => startN bt
  | k + 1 => turnN (wsK bt m k) ((m.drop (64 * k)).take 64)
theorem wsK_ext {bt : Nat} {m m' : List Nat} : ∀ k, m.take (64 * k) = m'.take (64 * k) → wsK bt m k = wsK bt m' k
  | 0, _ => rfl
  | k + 1, h => by
    have h1 : m.take (64 * k) = m'.take (64 * k) := by
      have := congrArg (List.take (64 * k)) h
      rwa [List.take_take, List.take_take, Nat.min_eq_left (by omega)] at this
    have h2 : (m.drop (64 * k)).take 64 = (m'.drop (64 * k)).take 64 := by
      have := congrArg (List.drop (64 * k)) h
      rwa [List.drop_take, List.drop_take, show 64 * (k + 1) - 64 * k = 64 by omega] at this
    show turnN _ _ = turnN _ _
    rw [wsK_ext k h1, h2]
theorem startN_len (bt : Nat) : (startN bt).length = 8 := by unfold startN; split <;> rfl
theorem startN_lt (bt : Nat) : ∀ x ∈ startN bt, x < 4294967296 := by
  unfold startN
  split
  · exact fun x hx => startL_lt x (List.mem_of_mem_take hx)
  · exact fun x hx => startL_lt x (List.mem_of_mem_drop hx)
theorem wsK_len (bt : Nat) (m : List Nat) : ∀ k, (wsK bt m k).length = 8
  | 0 => startN_len bt
  | k + 1 => turnN_len (wsK_len bt m k)
theorem wsK_lt (bt : Nat) (m : List Nat) : ∀ k, ∀ x ∈ wsK bt m k, x < 4294967296
  | 0 => startN_lt bt
  | k + 1 => turnN_lt (wsK_lt bt m k)

/-- Words and tail are those of all that the message has: its whole blocks, and what is behind. -/
def FinP (bt : Nat) (m ws tail : List Nat) : Prop := ws = wsK bt m (m.length / 64) ∧ tail.take (m.length % 64) = m.drop (64 * (m.length / 64))
/-- A state that took a message. -/
def StateOf (w : World) (g bt : Nat) (m : List Nat) : Prop := ∃ ws tail, StateAt w g bt ws tail m.length ∧ FinP bt m ws tail ∧ m.length < 1152921504606846976 ∧ ∀ x ∈ m, x < 256
/-- Ahead of piece number j (of n bytes behind k0 = 64 q0 + at0 that were there). -/
def SemP (bt : Nat) (m : List Nat) (k0 q0 n r j : Nat) (ws tail : List Nat) (at' : Nat) : Prop :=
  ws = wsK bt m (q0 + j) ∧ k0 + stP n r j = 64 * (q0 + j) + at' ∧ tail.take at' = (m.drop (64 * (q0 + j))).take at' ∧ rmP r j + at' = 64
/-- The tail with a piece laid in. -/
def laidIn (tail p : List Nat) (at' : Nat) : List Nat := tail.take at' ++ (p.take (64 - at') ++ tail.drop (at' + (p.take (64 - at')).length))
theorem laidIn_len {tail p : List Nat} {at' : Nat} (ht : tail.length = 64) (ha : at' ≤ 64) : (laidIn tail p at').length = 64 := by
  unfold laidIn
  simp only [List.length_append, List.length_take, List.length_drop, ht]
  omega
theorem laidIn_lt {tail p : List Nat} {at' b : Nat} (h1 : ∀ x ∈ tail, x < b) (h2 : ∀ x ∈ p, x < b) : ∀ x ∈ laidIn tail p at', x < b := fun x hx => by
  unfold laidIn at hx
  rcases List.mem_append.1 hx with h | h
  · exact h1 x (List.mem_of_mem_take h)
  · rcases List.mem_append.1 h with h | h
    · exact h2 x (List.mem_of_mem_take h)
    · exact h1 x (List.mem_of_mem_drop h)
theorem laidIn_take {tail p : List Nat} {at' : Nat} (ht : tail.length = 64) (ha : at' + p.length ≤ 64) : (laidIn tail p at').take (at' + p.length) = tail.take at' ++ p := by
  unfold laidIn
  rw [List.take_of_length_le (show p.length ≤ 64 - at' by omega), ← List.append_assoc, List.take_left' (by simp; omega)]

theorem piece_eq {m0 bl : List Nat} (s l : Nat) : (bl.drop s).take l = ((m0 ++ bl).drop (m0.length + s)).take l := by
  rw [List.drop_append (l₁ := m0), List.drop_of_length_le (l := m0) (by omega), List.nil_append, Nat.add_sub_cancel_left]
theorem join_take {m : List Nat} (k a l : Nat) : (m.drop k).take a ++ (m.drop (k + a)).take l = (m.drop k).take (a + l) := by
  rw [List.take_add, List.drop_drop]

variable {bt k0 q0 n r j at' : Nat} {m0 bl ws tail : List Nat}
theorem SemP.len (h : SemP bt (m0 ++ bl) m0.length q0 n r j ws tail at') (hn : n = bl.length) (hlt : stP n r j < n) :
    stP n r (j + 1) - stP n r j = min (64 - at') (n - stP n r j) := by
  have := stP_next n r j hlt
  have h4 := h.2.2.2
  omega
theorem SemP.laid (h : SemP bt (m0 ++ bl) m0.length q0 n r j ws tail at') (hn : n = bl.length) (ht : tail.length = 64) {l : Nat} (hl : l ≤ n - stP n r j) (hl2 : at' + l ≤ 64) :
    (laidIn tail ((bl.drop (stP n r j)).take l) at').take (at' + l) = ((m0 ++ bl).drop (64 * (q0 + j))).take (at' + l) := by
  obtain ⟨h1, h2, h3, h4⟩ := h
  have hlen : ((bl.drop (stP n r j)).take l).length = l := by simp; omega
  have := laidIn_take (p := (bl.drop (stP n r j)).take l) ht (by rw [hlen]; exact hl2)
  rw [hlen] at this
  rw [this, h3, piece_eq (m0 := m0) (bl := bl) (stP n r j) l, h2, join_take]
/-- A whole block goes on. -/
theorem SemP.next (h : SemP bt (m0 ++ bl) m0.length q0 n r j ws tail at') (hn : n = bl.length) (ht : tail.length = 64) (hlt : stP n r j < n) (hw : 64 ≤ at' + (stP n r (j + 1) - stP n r j)) :
    SemP bt (m0 ++ bl) m0.length q0 n r (j + 1) (turnN ws (laidIn tail ((bl.drop (stP n r j)).take (stP n r (j + 1) - stP n r j)) at')) (laidIn tail ((bl.drop (stP n r j)).take (stP n r (j + 1) - stP n r j)) at') 0 := by
  have hl := h.len hn hlt
  have hd := h.laid hn ht (l := stP n r (j + 1) - stP n r j) (by omega) (by have := h.2.2.2; omega)
  have hst := stP_le n r j
  have hst2 := stP_next n r j hlt
  have h64 : at' + (stP n r (j + 1) - stP n r j) = 64 := by have := h.2.2.2; omega
  rw [h64, List.take_of_length_le (by rw [laidIn_len ht (by omega)]; exact Nat.le_refl _)] at hd
  refine ⟨?_, ?_, rfl, rfl⟩
  · rw [hd, h.1]
    rfl
  · have := h.2.1
    have := h.2.2.2
    omega
/-- Less than a block: all is taken. -/
theorem SemP.fin (h : SemP bt (m0 ++ bl) m0.length q0 n r j ws tail at') (hn : n = bl.length) (ht : tail.length = 64) {l : Nat} (hl : l = n - stP n r j) (hw : at' + l < 64) :
    FinP bt (m0 ++ bl) ws (laidIn tail ((bl.drop (stP n r j)).take l) at') := by
  have hd := h.laid hn ht (l := l) (by omega) (by omega)
  have hst := stP_le n r j
  have hm : (m0 ++ bl).length = 64 * (q0 + j) + (at' + l) := by
    have := h.2.1
    simp
    omega
  have e1 : (m0 ++ bl).length / 64 = q0 + j := by omega
  have e2 : (m0 ++ bl).length % 64 = at' + l := by omega
  refine ⟨by rw [e1]; exact h.1, ?_⟩
  rw [e1, e2, hd, List.take_of_length_le (by rw [List.length_drop]; omega)]
theorem SemP.done (h : SemP bt (m0 ++ bl) m0.length q0 n r j ws tail at') (hn : n = bl.length) (hs : stP n r j = n) (ha : at' < 64) : FinP bt (m0 ++ bl) ws tail := by
  have hm : (m0 ++ bl).length = 64 * (q0 + j) + at' := by
    have := h.2.1
    simp
    omega
  have e1 : (m0 ++ bl).length / 64 = q0 + j := by omega
  have e2 : (m0 ++ bl).length % 64 = at' := by omega
  refine ⟨by rw [e1]; exact h.1, ?_⟩
  rw [e1, e2, h.2.2.1, List.take_of_length_le (by rw [List.length_drop]; omega)]
theorem SemP.start (h : FinP bt m0 ws tail) : SemP bt (m0 ++ bl) m0.length (m0.length / 64) n (64 - m0.length % 64) 0 ws tail (m0.length % 64) := by
  refine ⟨?_, by show m0.length + 0 = _; omega, ?_, by show 64 - m0.length % 64 + m0.length % 64 = 64; omega⟩
  · rw [h.1, Nat.add_zero]
    exact wsK_ext _ (by rw [List.take_append_of_le_length (by omega)])
  · rw [h.2, Nat.add_zero, List.drop_append_of_le_length (by omega), List.take_append_of_le_length (by rw [List.length_drop]; omega), List.take_of_length_le (by rw [List.length_drop]; omega)]

end Go.Proofs.YtpefjkndfifceaaDoor

namespace Go.Proofs.YtpefjkndfifceaaDoor
open Go.RowKit Go.Shelf
set_option maxRecDepth 100000
attribute [local go_sem] Oper.semAt_some

theorem made_yes (g bt : Nat) (ws tail : List Nat) (T : Nat) (w : World) (h : StateAt w g bt ws tail T) (hb : bt ≠ 0) : Calls Tryd.prog 69 #[.pointer (some ⟨g, 0, none⟩)] w fun e w' => e = .returned (.bool true) ∧ w = w' := by
  have h0 := h.bits
  have ht : ((bt : Int) != 0) = true := by simp; omega
  clear h
  go_enter Tryd.func69, Tryd.ntmps69
  go_wp2
  go_ret
  exact ⟨rfl, rfl⟩
theorem pieces_any (w : World) (a : Option Addr) (n c : Nat) (r : Int) : Calls Tryd.prog 70 #[.slice a n c, .int .i64 r] w fun e w' => e = .returned (.func (.func 81) #[] #[.pointer (some ⟨w.heap.size, 0, none⟩), .pointer (some ⟨w.heap.size + 1, 0, none⟩)]) ∧ w' = (w.alloc (.cells #[.slice a n c] 22)).alloc (.cells #[.int .i64 r] 3) := by
  go_enter Tryd.func70, Tryd.ntmps70
  go_wp2
  go_ret
  exact ⟨rfl, rfl⟩
theorem StateAt.setTaken {w : World} {g bits : Nat} {ws tail : List Nat} {taken : Nat} (h : StateAt w g bits ws tail taken) (T : Nat) (y : Int) (hy : y = (T : Int)) : StateAt (w.setCell ⟨g, 73, none⟩ (.int .u64 y)) g bits ws tail T := by
  subst hy
  have hl := h.wlen
  have hl2 := h.tlen
  refine ⟨?_, hl, hl2, h.wlt, h.tlt⟩
  have := heap_setCell_same w g 73 _ _ (num .u64 T) h.heap
  refine this.trans ?_
  congr 2
  apply Array.ext'
  rw [Array.toList_setIfInBounds]
  show (stL bits ws tail taken).set 73 (num .u64 T) = stL bits ws tail T
  unfold stL
  rw [show 73 = 72 + 1 by omega, List.set_cons_succ, List.set_append_right _ _ (by simp; omega), List.set_append_right _ _ (by simp; omega)]
  simp [hl, hl2, num]
theorem stL_splice {bt T at' : Nat} {ws tail q : List Nat} (hw : ws.length = 8) (ht : tail.length = 64) (hq : at' + q.length ≤ 64) :
    (stL bt ws tail T).take (9 + at') ++ q.map (num .u8) ++ (stL bt ws tail T).drop (9 + at' + q.length) = stL bt ws (tail.take at' ++ (q ++ tail.drop (at' + q.length))) T := by
  unfold stL
  rw [show 9 + at' = (8 + at') + 1 by omega, List.take_succ_cons, show 8 + at' + 1 + q.length = (8 + at' + q.length) + 1 by omega, List.drop_succ_cons, List.take_append, List.drop_append, List.take_append, List.drop_append]
  simp only [List.length_map, hw, ht, show 8 + at' - 8 = at' by omega, show 8 + at' + q.length - 8 = at' + q.length by omega, show at' - 64 = 0 by omega, show at' + q.length - 64 = 0 by omega]
  rw [List.take_of_length_le (by simp; omega), List.drop_of_length_le (by simp; omega)]
  simp [List.map_append, List.map_take, List.map_drop]
theorem StateAt.splice {w : World} {g bt : Nat} {ws tail : List Nat} {T : Nat} (h : StateAt w g bt ws tail T) (p : List Nat) (hp : ∀ x ∈ p, x < 256) (at' : Nat) (ha : at' ≤ 64) (blk o l c : Nat) (hr : Reads .u8 w (some ⟨blk, o, none⟩) l c p) :
    (Builtin.copy_ #[22, 22] 3 #[.slice (some ⟨g, 9 + at', none⟩) (64 - at') (64 - at'), .slice (some ⟨blk, o, none⟩) l c]).run Tryd.prog w = .ok (goInt (p.take (64 - at')).length) (w.setRow g (stL bt ws (laidIn tail p at') T).toArray) ∧ StateAt (w.setRow g (stL bt ws (laidIn tail p at') T).toArray) g bt ws (laidIn tail p at') T := by
  have hpl := hr.length
  have hws := h.wlen
  have htl := h.tlen
  have hsz : (stL bt ws tail T).toArray.size = 74 := by simp [stL, hws, htl]
  refine ⟨?_, setRow_heap w g _ _ _ _ h.heap, hws, laidIn_len htl ha, h.wlt, laidIn_lt h.tlt hp⟩
  have := run_copy_row Tryd.prog w 22 22 3 5 g (9 + at') (64 - at') (64 - at') ⟨blk, o, none⟩ l c _ _ ((p.take (64 - at')).map (num .u8)) Tryd.underlying22 (by kernel_rfl) h.heap (by simp [hpl, Nat.min_comm]) (fun j v hv => by
    rw [List.getElem?_map, List.getElem?_take] at hv
    split at hv
    · exact hr.news j v (by rw [List.getElem?_map]; exact hv)
    · cases hv) (by rw [hsz]; simp; omega) (fun u hu => nums_oneCell .u8 _ u hu)
  rw [List.length_map] at this
  rw [this]
  congr 2
  rw [stL_splice hws htl (by simp; omega)]
  rfl

end Go.Proofs.YtpefjkndfifceaaDoor

namespace Go.Proofs.YtpefjkndfifceaaDoor
open Go.RowKit Go.Shelf
set_option maxRecDepth 100000
attribute [local go_sem] Oper.semAt_some

theorem Reads.grownNe {q : IntKind} {w w' : World} {row : Option Nat} {a : Option Addr} {len cap : Nat} {l : List Nat} (h : Reads q w a len cap l) (hg : w.grownBy w' row) (hr : 0 < len → ∀ ad, a = some ad → some ad.block ≠ row) : Reads q w' a len cap l :=
  ⟨h.length, h.le, h.max, h.nil, fun hp => by
    obtain ⟨b, off, rfl, hb, hc⟩ := h.cells hp
    refine ⟨b, off, rfl, Nat.lt_of_lt_of_le hb hg.size, fun i hi => ?_⟩
    exact (World.cell?_of_block (hg.block b hb (hr hp _ rfl))).trans (hc i hi)⟩
theorem piece_reads {q : IntKind} {w : World} {a : Option Addr} {n c blk off : Nat} {bl : List Nat} (h : Reads q w a n c bl) (ha : 0 < n → a = some ⟨blk, off, none⟩) (s l : Nat) (hl : s + l ≤ n) : Reads q w (some ⟨blk, off + s, none⟩) l (c - s) ((bl.drop s).take l) := by
  have h1 := h.length
  have h2 := h.le
  have h3 := h.max
  refine ⟨by simp; omega, by omega, by omega, (fun e => by cases e), fun hp => ?_⟩
  obtain ⟨b, o, e, hb, hc⟩ := h.cells (by omega)
  rw [ha (by omega)] at e
  cases e
  refine ⟨_, _, rfl, hb, fun i hi => ?_⟩
  rw [Nat.add_assoc, hc (s + i) (by omega), List.getElem?_take, if_pos hi, List.getElem?_drop]
/-- Between two pieces; and where Write stops. -/
def WrI (w : World) (g bt b0 bA T1 k0 q0 n r : Nat) (m : List Nat) (pre : List (Nat × Nat)) (W : World) : Prop := ∃ ws tail at', Boxed W b0 94 (.pointer (some ⟨g, 0, none⟩)) ∧ Boxed W bA 3 (.int .i64 ((at' : Nat) : Int)) ∧ at' < 64 ∧ StateAt W g bt ws tail T1 ∧ (pre = pcs n r pre.length → SemP bt m k0 q0 n r pre.length ws tail at') ∧ w.grownBy W (some g) ∧ bA + 3 ≤ W.heap.size
def WrX (w : World) (g bt T1 n r : Nat) (m : List Nat) (pre : List (Nat × Nat)) (W : World) : Prop := ∃ ws tail, StateAt W g bt ws tail T1 ∧ (pre = pcs n r pre.length → FinP bt m ws tail) ∧ w.grownBy W (some g)
theorem grown_past {x y z : World} {g : Nat} {row : Option Nat} (h : x.grownBy y (some g)) (k : y.grownBy z row) (hr : ∀ r, row = some r → x.heap.size ≤ r) : x.grownBy z (some g) :=
  ⟨k.os.trans h.os, k.tape.trans h.tape, k.output.trans h.output, Nat.le_trans h.size k.size, fun i hi hn => (k.block i (Nat.lt_of_lt_of_le hi h.size) (fun e => by have := hr i e.symm; omega)).trans (h.block i hi hn)⟩
theorem pcs_len (n r m : Nat) : (pcs n r m).length = m := by simp [pcs]
theorem all_lt {l m : List Nat} {b : Nat} (h : ∀ x ∈ l, x < b) (k : ∀ x ∈ m, x < b) : ∀ x ∈ l ++ m, x < b := fun x hx => by
  rcases List.mem_append.1 hx with hx | hx
  · exact h x hx
  · exact k x hx
theorem SemP.done' {bt k0 q0 n r j at' : Nat} {m0 bl ws tail : List Nat} (h : SemP bt (m0 ++ bl) k0 q0 n r j ws tail at') (hs : stP n r j = n) (hk : k0 = m0.length) (hn : n = bl.length) (ha : at' < 64) : FinP bt (m0 ++ bl) ws tail := by
  subst hk
  exact h.done hn hs ha
theorem WrI.stays {w X X' : World} {g bt b0 bA T1 k0 q0 n r : Nat} {m : List Nat} {pre : List (Nat × Nat)} {row : Option Nat} (h : WrI w g bt b0 bA T1 k0 q0 n r m pre X) (hg : X.grownBy X' row) (hr : ∀ r, row = some r → w.heap.size ≤ r ∧ r ≠ b0 ∧ r ≠ bA ∧ r ≠ g) : WrI w g bt b0 bA T1 k0 q0 n r m pre X' := by
  obtain ⟨ws, tail, at', h1, h2, h3, h4, h5, h6, h7⟩ := h
  exact ⟨ws, tail, at', h1.kept hg (fun e => (hr _ e.symm).2.1 rfl), h2.kept hg (fun e => (hr _ e.symm).2.2.1 rfl), h3, h4.block (hg.block g h4.lt (fun e => (hr _ e.symm).2.2.2 rfl)), h5, grown_past h6 hg (fun r e => (hr r e).1), Nat.le_trans h7 hg.size⟩
theorem WrX.stays {w X X' : World} {g bt T1 n r : Nat} {m : List Nat} {pre : List (Nat × Nat)} {row : Option Nat} (h : WrX w g bt T1 n r m pre X) (hg : X.grownBy X' row) (hr : ∀ r, row = some r → w.heap.size ≤ r ∧ r ≠ g) : WrX w g bt T1 n r m pre X' := by
  obtain ⟨ws, tail, h4, h5, h6⟩ := h
  exact ⟨ws, tail, h4.block (hg.block g h4.lt (fun e => (hr _ e.symm).2 rfl)), h5, grown_past h6 hg (fun r e => (hr r e).1)⟩
theorem slice_whole (g : Nat) (W : World) : (Instr.sliceAt 103 (.pointer (some ⟨g, 9, none⟩)) none none none).run Tryd.prog W = .ok (.slice (some ⟨g, 9, none⟩) 64 64) W := by
  have hl : Tryd.prog.arrayLen 103 = 64 := by kernel_rfl
  have hs : ∀ w, (sizeOf (Tryd.prog.elem 103)).run Tryd.prog w = .ok 1 w := fun _ => by kernel_rfl
  rw [run_sliceAt_array_all W 103 ⟨g, 9, none⟩ (by kernel_rfl), hs]
  show Result.ok (slicedAt ⟨g, 9, none⟩ 0 (Tryd.prog.arrayLen 103) (Tryd.prog.arrayLen 103) 1) W = _
  rw [hl]
  rfl
theorem grown_setRow {x y : World} {g : Nat} (h : x.grownBy y (some g)) (cs : Array Value) : x.grownBy (y.setRow g cs) (some g) :=
  ⟨h.os, h.tape, h.output, by simpa using h.size, fun k hk hr => (setRow_other y g k cs (fun e => hr (by rw [e]))).trans (h.block k hk hr)⟩
theorem cell_grown {x y : World} {g b i : Nat} {v : Value} (h : x.grownBy y (some g)) (hb : b ≠ g) (hl : b < x.heap.size) (hc : x.cell? ⟨b, i, none⟩ = some v) : y.cell? ⟨b, i, none⟩ = some v :=
  (World.cell?_of_block (h.block b hl (fun e => hb (by cases e; rfl)))).trans hc
theorem keeps_state {W W' : World} {g bt T : Nat} {ws tail : List Nat} (h : StateAt W g bt ws tail T) (hg : W.grownBy W' (some g)) : KeepsOthers W W' :=
  KeepsOthers.of_grownBy hg fun j o ej hj => by
    cases ej
    rw [h.heap] at hj
    cases hj
    rfl
theorem grown_setCell' (W : World) (b : Nat) (v : Value) : W.grownBy (W.setCell ⟨b, 0, none⟩ v) (some b) := grownBy_setCell' W b v
theorem sem_split {n r : Nat} {pre : List (Nat × Nat)} {x : Nat × Nat} (he : pre ++ [x] = pcs n r (pre ++ [x]).length) : pre = pcs n r pre.length ∧ x = (stP n r pre.length, stP n r (pre.length + 1) - stP n r pre.length) := by
  rw [List.length_append, List.length_singleton, pcs_succ] at he
  obtain ⟨h1, h2⟩ := List.append_inj' he rfl
  exact ⟨h1, by simpa using h2⟩
theorem sem_fin {bt k0 q0 n r at' : Nat} {m0 bl ws tail : List Nat} {pre : List (Nat × Nat)} {x : Nat × Nat} (hs : pre = pcs n r pre.length → SemP bt (m0 ++ bl) k0 q0 n r pre.length ws tail at') (hk : k0 = m0.length) (hn : n = bl.length) (ht : tail.length = 64) (he : pre ++ [x] = pcs n r (pre ++ [x]).length) (hc : at' + x.2 < 64) :
    FinP bt (m0 ++ bl) ws (laidIn tail ((bl.drop x.1).take x.2) at') := by
  subst hk
  obtain ⟨h1, rfl⟩ := sem_split he
  have h2 := hs h1
  have h3 := stP_le n r pre.length
  have h4 := stP_le n r (pre.length + 1)
  refine h2.fin hn ht ?_ hc
  rcases Nat.lt_or_ge (stP n r pre.length) n with hlt | hge
  · have h5 := h2.len hn hlt
    simp only at hc
    omega
  · omega
theorem sem_next {bt k0 q0 n r at' : Nat} {m0 bl ws tail : List Nat} {pre : List (Nat × Nat)} {x : Nat × Nat} (hs : pre = pcs n r pre.length → SemP bt (m0 ++ bl) k0 q0 n r pre.length ws tail at') (hk : k0 = m0.length) (hn : n = bl.length) (ht : tail.length = 64) (hat : at' < 64) (he : pre ++ [x] = pcs n r (pre ++ [x]).length) (hc : ¬ at' + x.2 < 64) :
    SemP bt (m0 ++ bl) k0 q0 n r (pre ++ [x]).length (turnN ws (laidIn tail ((bl.drop x.1).take x.2) at')) (laidIn tail ((bl.drop x.1).take x.2) at') 0 := by
  subst hk
  obtain ⟨h1, rfl⟩ := sem_split he
  have h2 := hs h1
  have h4 := stP_le n r (pre.length + 1)
  simp only at hc
  rw [List.length_append, List.length_singleton]
  exact h2.next hn ht (by omega) (by omega)
theorem slice_tail (g at' : Nat) (h : at' < 64) (W : World) : (Instr.sliceAt 103 (.pointer (some ⟨g, 9, none⟩)) (some (.int .i64 (at' : Int))) none none).run Tryd.prog W = .ok (.slice (some ⟨g, 9 + at', none⟩) (64 - at') (64 - at')) W := by
  have hl : Tryd.prog.arrayLen 103 = 64 := by kernel_rfl
  have hs : ∀ w, (sizeOf (Tryd.prog.elem 103)).run Tryd.prog w = .ok 1 w := fun _ => by kernel_rfl
  rw [run_sliceAt_array_l W 103 ⟨g, 9, none⟩ (by kernel_rfl) .i64 (at' : Int) (by omega) (by rw [hl]; omega), hs]
  show Result.ok (slicedAt ⟨g, 9, none⟩ (at' : Int).toNat (Tryd.prog.arrayLen 103) (Tryd.prog.arrayLen 103) 1) W = _
  rw [hl]
  unfold slicedAt
  rw [Int.toNat_natCast, if_neg (by omega), Nat.mul_one]
  congr 3
  unfold Addr.add
  split <;> simp_all
theorem _root_.Go.Boxed.other' {W : World} {B g i : Nat} {t : TypeId} {v : Value} (h : Boxed W B t v) (hp : B ≠ g) (u : Value) : Boxed (W.setCell ⟨g, i, none⟩ u) B t v := (Below.heap_setCell W ⟨g, i, none⟩ u B hp).trans h
set_option maxRecDepth 100000 in
set_option maxHeartbeats 4000000 in
theorem write_any (g bt : Nat) (m0 bl : List Nat) (a : Option Addr) (n c : Nat) (w : World) (h : StateOf w g bt m0) (hbt : bt ≠ 0) (hr : Reads .u8 w a n c bl) (hb : ∀ x ∈ bl, x < 256) (hlen : m0.length + n < 1152921504606846976) (hne : 0 < n → ∀ ad, a = some ad → ad.block ≠ g) :
    Calls Tryd.prog 60 #[.pointer (some ⟨g, 0, none⟩), .slice a n c] w fun e w' => e = .returned (.tuple #[]) ∧ StateOf w' g bt (m0 ++ bl) ∧ w.grownBy w' (some g) := by
  obtain ⟨ws, tail, hst, hfin, -, hm0⟩ := h
  have h0 : Tryd.f60.results = #[] := by kernel_rfl
  have H0 := Lib.hid h0
  have HR := Lib.hid hr
  have HB := Lib.hid hb
  have HN := Lib.hid hne
  have HF := Lib.hid hfin
  have HM0 := Lib.hid hm0
  have hnl := Lib.hid hr.length
  obtain ⟨T0, hT0⟩ : ∃ T, T = m0.length := ⟨_, rfl⟩
  obtain ⟨at0, hat0⟩ : ∃ x, x = T0 % 64 := ⟨_, rfl⟩
  have hatc : (T0 : Int) % 64 = (at0 : Int) := by omega
  have hat64 : at0 < 64 := by omega
  have hb1 := (Below.refl w.heap.size w).alloc (Nat.le_refl _) (.cells #[.pointer (some ⟨g, 0, none⟩)] 94)
  have bS := Lib.hid (Boxed.new w 94 (.pointer (some ⟨g, 0, none⟩)))
  have F := Lib.hid hb1
  have H1 := Lib.hid (hst.below hb1 hst.lt)
  have hgw := hst.lt
  rw [← hT0] at H1 hlen
  have HT0 := Lib.hid hT0
  have HAT0 := Lib.hid hat0
  clear hr hb hne hst hfin hm0 h0 hT0 hat0 hb1
  refine (callsIn_wide (n := 3)).1 ?_
  refine callsIn_of_wp_marks Tryd.func60 rfl trivial ?_ rfl
  simp only [Tryd.ntmps60, List.size_toArray, List.length_cons, List.length_nil, Nat.reduceAdd, Nat.reduceSub, Array.replicate_succ, Array.replicate_zero, List.push_toArray, List.append_toArray, List.nil_append, List.cons_append]
  refine wpIn_wide.2 ?_
  have cS := bS.out.cell
  go_wp2_with fail
  refine wp_scope_straight ?_
  go_wp2_with fail
  generalize w.alloc (.cells #[.pointer (some ⟨g, 0, none⟩)] 94) = w1 at *
  obtain ⟨b0, hb0⟩ : ∃ b, b = w.heap.size := ⟨_, rfl⟩
  rw [← hb0] at bS cS ⊢
  have HB0 := Lib.hid hb0
  have hg1 := H1.out.lt
  have hgb : g ≠ b0 := by omega
  have hb01 := bS.out.lt
  clear hb0 hgw
  refine (made_yes g bt ws tail T0 w1 H1.out hbt).mono ?_
  rintro e w2 ⟨rfl, rfl⟩
  have cT := H1.out.taken
  have fT := H1.out.frozen 73
  obtain ⟨T1, hT1⟩ : ∃ T, T = T0 + n := ⟨_, rfl⟩
  have hsum : (T0 : Int) + (n : Int) = (T1 : Int) := by omega
  obtain ⟨r0, hr0⟩ : ∃ r, r = 64 - at0 := ⟨_, rfl⟩
  have hroom : 64 - (at0 : Int) = (r0 : Int) := by omega
  have HR0 := Lib.hid hr0
  clear hr0
  have HT1 := Lib.hid hT1
  clear hT1
  go_wp2_with fail
  refine (wpIn_wide (n := 3)).1 ?_
  refine wpIn_label ?_
  have bS2 := (bS.out.other' (g := g) (i := 73) (Ne.symm hgb) (.int .u64 (T1 : Int))).alloc (.cells #[.int .i64 (at0 : Int)] 3)
  have bA2 := Boxed.new (w1.setCell ⟨g, 73, none⟩ (.int .u64 (T1 : Int))) 3 (.int .i64 (at0 : Int))
  rw [World.size_setCell] at bA2
  have H2 := (H1.out.setTaken T1 (T1 : Int) rfl).block (Below.heap_alloc (w1.setCell ⟨g, 73, none⟩ (.int .u64 (T1 : Int))) (.cells #[.int .i64 (at0 : Int)] 3) g (by simpa using hg1))
  have G2 := Lib.hid (grown_trans (grown_set (grown_below F.out (some g)) 73 (.int .u64 (T1 : Int))) (grown_below ((Below.refl _ _).alloc (Nat.le_refl _) (.cells #[.int .i64 (at0 : Int)] 3)) (some g)))
  have HZ2 := Lib.hid (show ((w1.setCell ⟨g, 73, none⟩ (.int .u64 (T1 : Int))).alloc (.cells #[.int .i64 (at0 : Int)] 3)).heap.size = w1.heap.size + 1 by simp)
  generalize (w1.setCell ⟨g, 73, none⟩ (.int .u64 (T1 : Int))).alloc (.cells #[.int .i64 (at0 : Int)] 3) = w2 at *
  have cA2 := bA2.cell
  go_wp2_with fail
  refine (pieces_any _ _ _ _ _).mono ?_
  rintro e w3 ⟨rfl, rfl⟩
  go_wp2_with fail
  refine (wpIn_wide (n := 3)).1 ?_
  obtain ⟨blk, off, hbo⟩ : ∃ blk off, 0 < n → a = some ⟨blk, off, none⟩ := by
    rcases Nat.eq_zero_or_pos n with h | h
    · exact ⟨0, 0, fun h2 => by omega⟩
    · obtain ⟨b, o, h1, -⟩ := HR.out.cells h
      exact ⟨b, o, fun _ => h1⟩
  have HBO := Lib.hid hbo
  have bS3 := (bS2.alloc (.cells #[.slice a n c] 22)).alloc (.cells #[.int .i64 (r0 : Int)] 3)
  have bA3 := (bA2.alloc (.cells #[.slice a n c] 22)).alloc (.cells #[.int .i64 (r0 : Int)] 3)
  have bB3 := (Boxed.new w2 22 (.slice a n c)).alloc (.cells #[.int .i64 (r0 : Int)] 3)
  have bR3 := Boxed.new (w2.alloc (.cells #[.slice a n c] 22)) 3 (.int .i64 (r0 : Int))
  rw [World.size_alloc] at bR3
  have hb3 := ((Below.refl w2.heap.size w2).alloc (Nat.le_refl _) (.cells #[.slice a n c] 22)).alloc (by simp) (.cells #[.int .i64 (r0 : Int)] 3)
  have H3 := H2.below hb3 H2.lt
  have G3 := Lib.hid (grown_trans G2.out (grown_below hb3 (some g)))
  have hz3 : ((w2.alloc (.cells #[.slice a n c] 22)).alloc (.cells #[.int .i64 (r0 : Int)] 3)).heap.size = w2.heap.size + 2 := by simp
  generalize (w2.alloc (.cells #[.slice a n c] 22)).alloc (.cells #[.int .i64 (r0 : Int)] 3) = W0 at *
  obtain ⟨bA, hbA⟩ : ∃ b, b = w1.heap.size := ⟨_, rfl⟩
  obtain ⟨bb, hbb⟩ : ∃ b, b = w2.heap.size := ⟨_, rfl⟩
  rw [← hbA] at bA3 ⊢
  rw [← hbb] at bB3 bR3 ⊢
  have hz2 := HZ2.out
  have hord : Hid (b0 < bA ∧ bb = bA + 1 ∧ g < bA ∧ g ≠ b0 ∧ w.heap.size ≤ b0 ∧ W0.heap.size = bb + 2) := ⟨by omega, by omega, by omega, hgb, by rw [HB0.out]; exact Nat.le_refl _, by omega⟩
  have hcm := HR.out.max
  have hnc := HR.out.le
  have hr0 := HR0.out
  have hr0b : 1 ≤ r0 ∧ r0 ≤ 64 := by omega
  have hfit : Hid (r0 = 64 - m0.length % 64) := by show _ = _; rw [hr0, HAT0.out, HT0.out]
  have hsem := SemP.start (bl := bl) (n := n) HF.out
  rw [← hfit.out, ← HT0.out, ← HAT0.out] at hsem
  have HSM := Lib.hid hsem
  clear cS cT fT cA2 hsum hroom hr0 hbo bS2 bA2 hb3 hbA hbb hz2 HZ2 hz3 hsem hatc hg1 hgb hb01 H2 G2 H1 F
  refine wpIn_rangeR (F := Fence.wide) (R := fun k => k = bb ∨ k = bb + 1) rfl (show 1 ≤ 3 by decide) (gf := 81) (lb := #[.pointer (some ⟨bb, 0, none⟩), .pointer (some ⟨bb + 1, 0, none⟩)]) rfl trivial (enters_of Tryd.func81 (by kernel_rfl) rfl)
    (pieces_come (3 - 1) (by decide) (fun p => p.1 + p.2 ≤ n) bb (bb + 1) blk off n c r0 a W0 bB3 bR3 (by omega) HBO.out hnc hcm hr0b.1 hr0b.2 (fun j hj => by have := stP_le n r0 (j + 1); have := stP_le n r0 j; simp only; omega)) (fun k hk => by have := hord.out; rcases hk with rfl | rfl <;> omega) (Below.refl _ _) (fun _ => rfl)
    (fun pre W => WrI w g bt b0 bA T1 T0 (T0 / 64) n r0 (m0 ++ bl) (pre.map (·.1)) W)
    (fun cc pre W => cc = .exit 0 ∧ WrX w g bt T1 n r0 (m0 ++ bl) (pre.map (·.1)) W)
    ?_ ?_ ⟨ws, tail, at0, bS3, bA3, hat64, H3, fun _ => HSM.out, G3.out, by have := hord.out; omega⟩ ?_ ?_ ?_ ?_ ?_
  rotate_left 3
  · intro lp x W K hK
    gi_wp2
    exact hK
  · rintro lp pre ⟨⟨s, l⟩, hC⟩ W ⟨ws, tail, at', hbS, hbA, hat, hst, hsem, hgr, hWz⟩
    simp only at hC
    have hRp := piece_reads (HR.out.grownNe hgr (fun hp ad e h => HN.out hp ad e (by cases h; rfl))) HBO.out s l hC
    have hpb : ∀ x ∈ (bl.drop s).take l, x < 256 := fun x hx => HB.out x (List.mem_of_mem_drop (List.mem_of_mem_take hx))
    have hsp := hst.drew'.splice _ hpb at' (Nat.le_of_lt hat) blk (off + s) l (c - s) (hRp.below (Below.refl _ _).drew)
    have hcp := hsp.1
    have cS := hbS.cell
    have cA := hbA.cell
    have fA := hbA.frozen
    have BS := Lib.hid hbS
    have BA := Lib.hid hbA
    have hsl := slice_tail g at' hat
    have HST := Lib.hid hst
    have HSEM := Lib.hid hsem
    have HGR := Lib.hid hgr
    have HST6 := Lib.hid hsp.2
    have hog := hord.out
    have hgb0 : g ≠ b0 := by omega
    have hgbA : g ≠ bA := by omega
    have hpl : ((bl.drop s).take l).length = l := hRp.length
    have HPL := Lib.hid hpl
    clear hRp hsp hbS hbA hst hsem hgr hpl
    generalize hpe : (bl.drop s).take l = p at *
    have HPE := Lib.hid hpe
    clear hpe
    gi_wp2_with fail
    refine wpIn_region_held_drew (S := fun W => W.cell? ⟨b0, 0, none⟩ = some (.pointer (some ⟨g, 0, none⟩)) ∧ W.cell? ⟨bA, 0, none⟩ = some (.int .i64 ((at' : Nat) : Int))) (by kernel_rfl) (plain_of (by kernel_rfl)) ?_ ⟨cS, cA⟩ (fun hHeld => ?_)
    · rintro ⟨a, w, h⟩
      exact h
    refine' wpAnyH_take (i := 0) (oi := _) (v := _) rfl (by kernel_rfl) (by kernel_rfl) (by kernel_rfl) (fun _ _ _ h => h) (Or.inl ⟨?_, ?_⟩) (by assumption) ?_
    rotate_left
    all_goals (try simp only [List.getElem_toArray, List.getElem_cons_succ, List.getElem_cons_zero])
    · rfl
    · intro W hSw; (try dsimp only at hSw); go_simp; (try with_reducible rfl)
    try simp only [Act.put, List.setIfInBounds_toArray, List.set_cons_zero, List.set_cons_succ]
    refine' wpAnyH_take (i := 1) (oi := _) (v := _) rfl (by kernel_rfl) (by kernel_rfl) (by kernel_rfl) (fun _ _ _ h => h) (Or.inl ⟨?_, ?_⟩) (by assumption) ?_
    rotate_left
    all_goals (try simp only [List.getElem_toArray, List.getElem_cons_succ, List.getElem_cons_zero])
    · rfl
    · intro W hSw; (try dsimp only at hSw); go_simp; (try with_reducible rfl)
    try simp only [Act.put, List.setIfInBounds_toArray, List.set_cons_zero, List.set_cons_succ]
    refine' wpAnyH_take (i := 2) (oi := _) (v := _) rfl (by kernel_rfl) (by kernel_rfl) (by kernel_rfl) (fun _ _ _ h => h) (Or.inl ⟨?_, ?_⟩) (by assumption) ?_
    rotate_left
    all_goals (try simp only [List.getElem_toArray, List.getElem_cons_succ, List.getElem_cons_zero])
    · rfl
    · intro W hSw; (try dsimp only at hSw); go_simp; (try with_reducible rfl)
    try simp only [Act.put, List.setIfInBounds_toArray, List.set_cons_zero, List.set_cons_succ]
    refine' wpAnyH_take (i := 3) (oi := _) (v := _) rfl (by kernel_rfl) (by kernel_rfl) (by kernel_rfl) (fun _ _ _ h => h) (Or.inl ⟨?_, ?_⟩) (by assumption) ?_
    rotate_left
    all_goals (try simp only [List.getElem_toArray, List.getElem_cons_succ, List.getElem_cons_zero])
    · rfl
    · intro W hSw; (try dsimp only at hSw); go_simp; (try with_reducible rfl)
    try simp only [Act.put, List.setIfInBounds_toArray, List.set_cons_zero, List.set_cons_succ]
    refine' wpAnyH_take (i := 4) (oi := _) (v := _) rfl (by kernel_rfl) (by kernel_rfl) (by kernel_rfl) (fun _ _ _ h => h) (Or.inl ⟨?_, ?_⟩) (by assumption) ?_
    rotate_left
    all_goals (try simp only [List.getElem_toArray, List.getElem_cons_succ, List.getElem_cons_zero])
    · rfl
    · intro W hSw; (try dsimp only at hSw); go_simp; (try with_reducible rfl)
    try simp only [Act.put, List.setIfInBounds_toArray, List.set_cons_zero, List.set_cons_succ]
    refine' wpAnyH_take (i := 5) (oi := _) (v := _) rfl (by kernel_rfl) (by kernel_rfl) (by kernel_rfl) (fun _ _ _ h => h) (Or.inl ⟨?_, ?_⟩) (by assumption) ?_
    rotate_left
    all_goals (try simp only [List.getElem_toArray, List.getElem_cons_succ, List.getElem_cons_zero])
    · rfl
    · intro W hSw; (try dsimp only at hSw); go_simp; (try with_reducible rfl)
    try simp only [Act.put, List.setIfInBounds_toArray, List.set_cons_zero, List.set_cons_succ]
    refine wpAnyH_ready (rs := [6]) (by kernel_rfl) (by simp) ?_
    refine AllReadyH.cons (o := _) rfl (fun K hK => ?_) AllReadyH.nil
    try simp only [List.getElem_toArray, List.getElem_cons_succ, List.getElem_cons_zero]
    go_simp
    refine hK.out _ _ ⟨(cell_setRow_other _ g _ ⟨b0, 0, none⟩ (Ne.symm hgb0)).trans cS, (cell_setRow_other _ g _ ⟨bA, 0, none⟩ (Ne.symm hgbA)).trans cA⟩ (fun hHeld => ?_)
    clear hK K
    try simp only [Act.put, List.setIfInBounds_toArray, List.set_cons_zero, List.set_cons_succ]
    refine wpAnyH_done (by kernel_rfl) ?_ _
    have hg6 := Lib.hid (show W.grownBy (W.drew.setRow g (stL bt ws (laidIn tail p at') T1).toArray) (some g) from grown_setRow (grown_drew (x := W) (y := W) ⟨rfl, rfl, rfl, Nat.le_refl _, fun _ _ _ => rfl⟩) _)
    have cS6 : (W.drew.setRow g (stL bt ws (laidIn tail p at') T1).toArray).cell? ⟨b0, 0, none⟩ = some (.pointer (some ⟨g, 0, none⟩)) := (cell_setRow_other _ g _ ⟨b0, 0, none⟩ (Ne.symm hgb0)).trans cS
    have cA6 : (W.drew.setRow g (stL bt ws (laidIn tail p at') T1).toArray).cell? ⟨bA, 0, none⟩ = some (.int .i64 ((at' : Nat) : Int)) := (cell_setRow_other _ g _ ⟨bA, 0, none⟩ (Ne.symm hgbA)).trans cA
    have bS6 := Lib.hid (BS.out.kept hg6.out (fun e => hgb0 (by cases e; rfl)))
    have bA6 := Lib.hid (BA.out.kept hg6.out (fun e => hgbA (by cases e; rfl)))
    have hgl := HST.out.lt
    have hKO6 := Lib.hid (keeps_state HST.out hg6.out)
    generalize W.drew.setRow g (stL bt ws (laidIn tail p at') T1).toArray = w6 at *
    have hb06 := bS6.out.lt
    have hbA6 := bA6.out.lt
    have fA6 := bA6.out.frozen
    clear hcp hsl cS cA fA hHeld
    by_cases hc : at' + l < 64
    · have t1 : decide ((at' : Int) + (l : Int) < 64) = true := by simp; omega
      have HC := Lib.hid hc
      clear hc
      gi_wp2_with fail
      exact ⟨hKO6.out.from _, rfl, ws, laidIn tail p at', HST6.out, fun he => by
        rw [List.map_append] at he
        rw [← HPE.out]
        exact sem_fin HSEM.out HT0.out hnl.out.symm HST.out.tlen he HC.out, grown_trans HGR.out hg6.out⟩
    · have t1 : decide ((at' : Int) + (l : Int) < 64) = false := by simp; omega
      have HC := Lib.hid hc
      clear hc
      have hsl2 := slice_whole g
      gi_wp2_with fail
      refine wpIn_region_held_drew (S := fun W => W.cell? ⟨b0, 0, none⟩ = some (.pointer (some ⟨g, 0, none⟩))) (by kernel_rfl) (plain_of (by kernel_rfl)) ?_ cS6 (fun hHeld => ?_)
      · rintro ⟨a, w, h⟩
        exact h
      refine' wpAnyH_take (i := 0) (oi := _) (v := _) rfl (by kernel_rfl) (by kernel_rfl) (by kernel_rfl) (fun _ _ _ h => h) (Or.inl ⟨?_, ?_⟩) (by assumption) ?_
      rotate_left
      all_goals (try simp only [List.getElem_toArray, List.getElem_cons_succ, List.getElem_cons_zero])
      · rfl
      · intro W hSw; (try dsimp only at hSw); go_simp; (try with_reducible rfl)
      try simp only [Act.put, List.setIfInBounds_toArray, List.set_cons_zero, List.set_cons_succ]
      refine' wpAnyH_take (i := 1) (oi := _) (v := _) rfl (by kernel_rfl) (by kernel_rfl) (by kernel_rfl) (fun _ _ _ h => h) (Or.inl ⟨?_, ?_⟩) (by assumption) ?_
      rotate_left
      all_goals (try simp only [List.getElem_toArray, List.getElem_cons_succ, List.getElem_cons_zero])
      · rfl
      · intro W hSw; (try dsimp only at hSw); go_simp; (try with_reducible rfl)
      try simp only [Act.put, List.setIfInBounds_toArray, List.set_cons_zero, List.set_cons_succ]
      refine' wpAnyH_take (i := 2) (oi := _) (v := _) rfl (by kernel_rfl) (by kernel_rfl) (by kernel_rfl) (fun _ _ _ h => h) (Or.inl ⟨?_, ?_⟩) (by assumption) ?_
      rotate_left
      all_goals (try simp only [List.getElem_toArray, List.getElem_cons_succ, List.getElem_cons_zero])
      · rfl
      · intro W hSw; (try dsimp only at hSw); go_simp; (try with_reducible rfl)
      try simp only [Act.put, List.setIfInBounds_toArray, List.set_cons_zero, List.set_cons_succ]
      refine' wpAnyH_take (i := 3) (oi := _) (v := _) rfl (by kernel_rfl) (by kernel_rfl) (by kernel_rfl) (fun _ _ _ h => h) (Or.inl ⟨?_, ?_⟩) (by assumption) ?_
      rotate_left
      all_goals (try simp only [List.getElem_toArray, List.getElem_cons_succ, List.getElem_cons_zero])
      · rfl
      · intro W hSw; (try dsimp only at hSw); go_simp; (try with_reducible rfl)
      try simp only [Act.put, List.setIfInBounds_toArray, List.set_cons_zero, List.set_cons_succ]
      refine' wpAnyH_take (i := 4) (oi := _) (v := _) rfl (by kernel_rfl) (by kernel_rfl) (by kernel_rfl) (fun _ _ _ h => h) (Or.inl ⟨?_, ?_⟩) (by assumption) ?_
      rotate_left
      all_goals (try simp only [List.getElem_toArray, List.getElem_cons_succ, List.getElem_cons_zero])
      · rfl
      · intro W hSw; (try dsimp only at hSw); go_simp; (try with_reducible rfl)
      try simp only [Act.put, List.setIfInBounds_toArray, List.set_cons_zero, List.set_cons_succ]
      refine wpAnyH_ready (rs := [5]) (by kernel_rfl) (by simp) ?_
      refine AllReadyH.cons (o := _) rfl (fun K hK => ?_) AllReadyH.nil
      try simp only [List.getElem_toArray, List.getElem_cons_succ, List.getElem_cons_zero]
      go_simp
      refine (turn_any g bt ws (laidIn tail p at') T1 (some ⟨g, 9, none⟩) 64 (laidIn tail p at') _ HST6.out.drew' HST6.out.drew'.tail HST6.out.tlt).mono ?_; rintro e w7 ⟨rfl, hst7, hg7⟩; replace hg7 : w6.grownBy w7 (some g) := ⟨hg7.os, hg7.tape, hg7.output, hg7.size, hg7.block⟩; have HST7 := Lib.hid hst7; have HG7 := Lib.hid hg7; have cS7 := cell_grown hg7 (b := b0) (i := 0) (Ne.symm hgb0) hb06 cS6; have cA7 := cell_grown hg7 (b := bA) (i := 0) (Ne.symm hgbA) hbA6 cA6; clear hst7 hg7
      go_wp2_with fail
      refine hK.out _ _ cS7 (fun hHeld => ?_)
      clear hK K
      try simp only [Act.put, List.setIfInBounds_toArray, List.set_cons_zero, List.set_cons_succ]
      refine wpAnyH_done (by kernel_rfl) ?_ _
      have bA7 := bA6.out.kept HG7.out (fun e => hgbA (by cases e; rfl))
      have bS7 := bS6.out.kept HG7.out (fun e => hgb0 (by cases e; rfl))
      have fA7 := bA7.frozen
      have BA7 := Lib.hid bA7
      have BS7 := Lib.hid bS7
      clear bA7 bS7 cS6 cA6 fA6 hsl2
      gi_wp2_with fail
      have hgr7 := grown_trans HGR.out (grown_trans hg6.out HG7.out)
      have hg8 := grown_setCell' w7 bA (.int .i64 0)
      refine ⟨((hKO6.out.trans (keeps_state HST6.out HG7.out)).trans (KeepsOthers.setCell _ _ _)).from _, ?_, turnN ws (laidIn tail p at'), laidIn tail p at', 0, BS7.out.other (by omega) _, BA7.out.set _, by decide, HST7.out.block (hg8.block g HST7.out.lt (by intro e; cases e; omega)), ?_, ?_⟩
      · have hWz7 := (grown_trans hg6.out HG7.out).size
        exact (KpR.grown (grown_trans hg6.out HG7.out) (fun k hk => by rcases hk with rfl | rfl <;> omega) (fun r e hk => by cases e; rcases hk with h | h <;> omega)).trans (KpR.grown hg8 (fun k hk => by rcases hk with rfl | rfl <;> omega) (fun r e hk => by cases e; rcases hk with h | h <;> omega))
      · intro he
        rw [List.map_append] at he ⊢
        rw [← HPE.out]
        exact sem_next HSEM.out HT0.out hnl.out.symm HST.out.tlen hat he HC.out
      · exact ⟨grown_past hgr7 hg8 (fun r e => by cases e; omega), by have := (grown_trans hg6.out HG7.out).size; simp; omega⟩
  · rintro D xs W hD ⟨m, hmap, hst9⟩ ⟨ws', tail', at', -, -, hat, hst', hsem, hgr, -⟩ hK
    have hfin := (hsem (by rw [hmap, pcs_len])).done' (by rw [hmap, pcs_len]; exact hst9) HT0.out hnl.out.symm hat
    have HFN := Lib.hid hfin
    have HST := Lib.hid hst'
    have HGR := Lib.hid hgr
    clear hfin hst' hsem hgr hmap
    gi_wp2
    rw [Exit.noGoto_normal]
    refine ⟨by simp, .inl ⟨_, _, rfl, run_takeDeferred hK, ?_⟩⟩
    refine ⟨_, results_none H0.out _ _ _, rfl, ⟨ws', tail', ?_, HFN.out, by simp; have := HT0.out; have := hnl.out; omega, all_lt HM0.out HB.out⟩, grown_past HGR.out (grownBy_putObj' W D _) (fun r e => by cases e; have := hord.out; omega)⟩
    rw [List.length_append, hnl.out, ← HT0.out, ← HT1.out]
    exact HST.out.block (World.putObj_heap_other (by have := hord.out; omega))
  · rintro D cc pre W hD hSp ⟨rfl, ws', tail', hst', hfin, hgr⟩ hK
    obtain ⟨mm, hmap, -⟩ := hSp
    have HFN := Lib.hid (hfin (by rw [hmap, pcs_len]))
    have HST := Lib.hid hst'
    have HGR := Lib.hid hgr
    clear hfin hst' hgr
    gi_wp2
    rw [Exit.noGoto_normal]
    refine ⟨by simp, .inl ⟨_, _, rfl, run_takeDeferred hK, ?_⟩⟩
    refine ⟨_, results_none H0.out _ _ _, rfl, ⟨ws', tail', ?_, HFN.out, by simp; have := HT0.out; have := hnl.out; omega, all_lt HM0.out HB.out⟩, grown_past HGR.out (grownBy_putObj' W D _) (fun r e => by cases e; have := hord.out; omega)⟩
    rw [List.length_append, hnl.out, ← HT0.out, ← HT1.out]
    exact HST.out.block (World.putObj_heap_other (by have := hord.out; omega))
  · exact fun s X X' row h hg hr => WrI.stays h hg (fun r e => by
      have h2 := hord.out
      rcases hr r e with h3 | ⟨h3, -⟩
      · rcases h3 with rfl | rfl <;> omega
      · omega)
  · exact fun cc s X X' row h hg hr => ⟨h.1, WrX.stays h.2 hg (fun r e => by
      have h2 := hord.out
      rcases hr r e with h3 | ⟨h3, -⟩
      · rcases h3 with rfl | rfl <;> omega
      · omega)⟩

end Go.Proofs.YtpefjkndfifceaaDoor

namespace Go.Proofs.YtpefjkndfifceaaDoor
open Go.RowKit Go.Shelf
set_option maxRecDepth 100000

set_option maxHeartbeats 1000000 in
theorem start256_any (T : Nat) (w : World) : Calls Tryd.prog 68 #[.pointer (some ⟨T, 0, none⟩), .int .i64 256] w fun e w' => e = .returned (.slice (some ⟨T, 64, none⟩) 8 8) ∧ w = w' := by
  go_enter Tryd.func68, Tryd.ntmps68
  go_wp2
  go_ret
  exact ⟨rfl, rfl⟩
set_option maxHeartbeats 1000000 in
theorem start224_any (T : Nat) (w : World) : Calls Tryd.prog 68 #[.pointer (some ⟨T, 0, none⟩), .int .i64 224] w fun e w' => e = .returned (.slice (some ⟨T, 72, none⟩) 8 8) ∧ w = w' := by
  go_enter Tryd.func68, Tryd.ntmps68
  go_wp2
  go_ret
  exact ⟨rfl, rfl⟩

theorem known_yes (bt : Nat) (h : bt = 224 ∨ bt = 256) (w : World) : Calls Tryd.prog 66 #[.int .i64 (bt : Int)] w fun e w' => e = .returned (.bool true) ∧ w = w' := by
  rcases h with rfl | rfl
  · go_enter Tryd.func66, Tryd.ntmps66
    go_wp2
    go_ret
    exact ⟨rfl, rfl⟩
  · go_enter Tryd.func66, Tryd.ntmps66
    go_wp2
    go_ret
    exact ⟨rfl, rfl⟩
theorem known_no (b : Int) (h : b ≠ 224 ∧ b ≠ 256) (w : World) : Calls Tryd.prog 66 #[.int .i64 b] w fun e w' => e = .returned (.bool false) ∧ w = w' := by
  have h1 : (b == 224) = false := by simp; omega
  have h2 : (b == 256) = false := by simp; omega
  clear h
  go_enter Tryd.func66, Tryd.ntmps66
  go_wp2
  go_ret
  exact ⟨rfl, rfl⟩
theorem snew_no (b : Int) (h : b ≠ 224 ∧ b ≠ 256) (w : World) : Calls Tryd.prog 59 #[.int .i64 b] w fun e w' => e = .returned (.tuple #[.pointer none, .int .i64 2]) ∧ w = w' := by
  go_enter Tryd.func59, Tryd.ntmps59
  go_wp2_with fail
  refine (known_no b h w).mono ?_
  rintro e w1 ⟨rfl, rfl⟩
  go_wp2
  go_ret2
  exact ⟨rfl, rfl⟩
theorem slice_words (g : Nat) (W : World) : (Instr.sliceAt 102 (.pointer (some ⟨g, 1, none⟩)) none none none).run Tryd.prog W = .ok (.slice (some ⟨g, 1, none⟩) 8 8) W := by
  have hl : Tryd.prog.arrayLen 102 = 8 := by kernel_rfl
  have hs : ∀ w, (sizeOf (Tryd.prog.elem 102)).run Tryd.prog w = .ok 1 w := fun _ => by kernel_rfl
  rw [run_sliceAt_array_all W 102 ⟨g, 1, none⟩ (by kernel_rfl), hs]
  show Result.ok (slicedAt ⟨g, 1, none⟩ 0 (Tryd.prog.arrayLen 102) (Tryd.prog.arrayLen 102) 1) W = _
  rw [hl]
  rfl
theorem tab_cell (w : World) (T i : Nat) (hT : w.heap[T]? = some (.cells tabC 109 (0, 0))) (hi : i < 80) : w.cell? ⟨T, i, none⟩ = some (.int .u32 ((g0 (kL ++ startL) i : Nat) : Int)) := by
  rw [cell_of_row w T i _ _ _ hT]
  exact arrC_get .u32 (kL ++ startL) i hi
theorem start_copy (w : World) (g T o bt : Nat) (hg : w.heap[g]? = some (.cells (stL bt (List.replicate 8 0) (List.replicate 64 0) 0).toArray 105 (0, 0))) (hT : w.heap[T]? = some (.cells tabC 109 (0, 0))) (ho : o + 8 ≤ 80) (hst : ((kL ++ startL).drop o).take 8 = startN bt) :
    (Builtin.copy_ #[36, 36] 3 #[.slice (some ⟨g, 1, none⟩) 8 8, .slice (some ⟨T, o, none⟩) 8 8]).run Tryd.prog w = .ok (goInt 8) (w.setRow g (stL bt (startN bt) (List.replicate 64 0) 0).toArray) := by
  have hl : ((startN bt).map (num .u32)).length = 8 := by rw [List.length_map, startN_len]
  have := run_copy_row Tryd.prog w 36 36 3 64 g 1 8 8 ⟨T, o, none⟩ 8 8 _ _ ((startN bt).map (num .u32)) Tryd.underlying36 (by kernel_rfl) hg (by rw [hl]; rfl) (fun j v hv => by
    have hj : j < 8 := by
      have := (List.getElem?_eq_some_iff.1 hv).1
      rwa [hl] at this
    have e : (⟨T, o, none⟩ : Addr).add j = ⟨T, o + j, none⟩ := by unfold Addr.add; split <;> simp_all
    rw [e, tab_cell w T (o + j) hT (by omega)]
    rw [List.getElem?_map, ← hst, List.getElem?_take, if_pos hj, List.getElem?_drop] at hv
    have hlt : o + j < (kL ++ startL).length := by
      have : (kL ++ startL).length = 80 := rfl
      omega
    rw [List.getElem?_eq_getElem hlt] at hv
    simp only [Option.map_some, Option.some.injEq] at hv
    rw [← hv, g0, List.getElem?_eq_getElem hlt]
    rfl) (by rw [hl]; simp [stL]) (fun u hu => nums_oneCell .u32 _ u hu)
  rw [hl] at this
  rw [this]
  congr 2

theorem wpList_buildV {ops : Array Oper} {rest : List Oper} {o : Oper} {a : Act} {w : World} {Q : Exit → Act → World → Prop} (hg : o.guard = none) (t : TypeId) (parts : Array (Nat × Operand)) (ho : o.op = .build t parts) (cs : Array Value)
    (hv : Tryd.prog.built t (parts.map fun (i, x) => (i, a.eval x)).toList = some cs) (h : wpList Tryd.prog ops Q rest (a.put o.dst (.agg cs)) w) : wpList Tryd.prog ops Q (o :: rest) a w :=
  wpList_build hg t parts ho (by rw [hv]; rfl) (by rw [hv]; exact h)

/-- A state as it is built. -/
def st0 (bt : Nat) : Array Value := (stL bt (List.replicate 8 0) (List.replicate 64 0) 0).toArray
set_option maxRecDepth 100000 in
set_option maxHeartbeats 2000000 in
theorem new256_any (w : World) : Calls Tryd.prog 59 #[.int .i64 256] w fun e w' => e = .returned (.tuple #[.pointer (some ⟨w.heap.size, 0, none⟩), .int .i64 0]) ∧ StateOf w' w.heap.size 256 [] ∧ Below w.heap.size w w' := by
  have hz : ∀ w, (zeroValue 109).run Tryd.prog w = .ok (.agg (arrC .u32 (List.replicate 80 0))) w := fun _ => by kernel_rfl
  go_enter Tryd.func59, Tryd.ntmps59
  go_wp2_with fail
  refine (known_yes 256 (by decide) w).mono ?_
  rintro e w1 ⟨rfl, rfl⟩
  go_wp2_with (refine wpList_buildV rfl _ _ rfl (st0 256) (by kernel_rfl) ?_)
  have hg1 := Lib.hid (Go.heap_alloc_new w (.cells (st0 256) 105))
  have hB1 := Lib.hid (Below.alloc (Below.refl w.heap.size w) (Nat.le_refl _) (.cells (st0 256) 105))
  have hs1 := Lib.hid ((Array.getElem?_eq_some_iff.1 hg1.out).1)
  generalize w.alloc (.cells (st0 256) 105) = w1 at *
  refine (written_any w1).mono ?_
  rintro e w2 ⟨rfl, rfl⟩
  have hg2 := Lib.hid ((Below.heap_alloc w1 (.cells tabC 109) _ hs1.out).trans hg1.out)
  have hB2 := Lib.hid (Below.alloc hB1.out (Nat.le_of_lt hs1.out) (.cells tabC 109))
  have hs2 := Lib.hid ((Array.getElem?_eq_some_iff.1 hg2.out).1)
  generalize w1.alloc (.cells tabC 109) = w2 at *
  clear hg1 hB1 hs1
  go_wp2_with (refine wpList_store_row rfl _ _ _ rfl w2.heap.size tabC rfl (by kernel_rfl) 109 _ (Go.heap_alloc_new w2 _) (by kernel_rfl) (by kernel_rfl) tabC_one ?_)
  rw [alloc_setRow]
  have hg3 := Lib.hid ((Below.heap_alloc w2 (.cells tabC 109) _ hs2.out).trans hg2.out)
  have hT3 := Lib.hid (Go.heap_alloc_new w2 (.cells tabC 109))
  have hB3 := Lib.hid (Below.alloc hB2.out (Nat.le_of_lt hs2.out) (.cells tabC 109))
  generalize hTE : w2.heap.size = T at *
  generalize w2.alloc (.cells tabC 109) = w3 at *
  have hsl := slice_words w.heap.size
  have hgE := hs2
  clear hg2 hB2 hTE hs2
  generalize hge : w.heap.size = g at *
  have hcp := start_copy w3.drew g T 64 256 hg3.out hT3.out (by decide) rfl
  have HGE := Lib.hid hge
  clear hge
  go_wp2_with fail
  refine wp_region_held_drew (S := fun _ => True) (by kernel_rfl) trivial (fun hHeld => ?_)
  refine' wpAnyH_take (i := 0) (oi := _) (v := _) rfl (by kernel_rfl) (by kernel_rfl) (by kernel_rfl) (fun _ _ _ h => h) (Or.inl ⟨?_, ?_⟩) (by assumption) ?_
  rotate_left
  all_goals (try simp only [List.getElem_toArray, List.getElem_cons_succ, List.getElem_cons_zero])
  · rfl
  · intro W hSw; (try dsimp only at hSw); go_simp; (try with_reducible rfl)
  try simp only [Act.put, List.setIfInBounds_toArray, List.set_cons_zero, List.set_cons_succ]
  refine' wpAnyH_take (i := 1) (oi := _) (v := _) rfl (by kernel_rfl) (by kernel_rfl) (by kernel_rfl) (fun _ _ _ h => h) (Or.inl ⟨?_, ?_⟩) (by assumption) ?_
  rotate_left
  all_goals (try simp only [List.getElem_toArray, List.getElem_cons_succ, List.getElem_cons_zero])
  · rfl
  · intro W hSw; (try dsimp only at hSw); go_simp; (try with_reducible rfl)
  try simp only [Act.put, List.setIfInBounds_toArray, List.set_cons_zero, List.set_cons_succ]
  refine' wpAnyH_take (i := 2) (oi := _) (v := _) rfl (by kernel_rfl) (by kernel_rfl) (by kernel_rfl) (fun _ _ _ h => h) (Or.inl ⟨?_, ?_⟩) (by assumption) ?_
  rotate_left
  all_goals (try simp only [List.getElem_toArray, List.getElem_cons_succ, List.getElem_cons_zero])
  · rfl
  · intro W hSw; (try dsimp only at hSw); go_simp; (try with_reducible rfl)
  try simp only [Act.put, List.setIfInBounds_toArray, List.set_cons_zero, List.set_cons_succ]
  refine' wpAnyH_take (i := 3) (oi := _) (v := _) rfl (by kernel_rfl) (by kernel_rfl) (by kernel_rfl) (fun _ _ _ h => h) (Or.inl ⟨?_, ?_⟩) (by assumption) ?_
  rotate_left
  all_goals (try simp only [List.getElem_toArray, List.getElem_cons_succ, List.getElem_cons_zero])
  · rfl
  · intro W hSw; (try dsimp only at hSw); go_simp; (try with_reducible rfl)
  try simp only [Act.put, List.setIfInBounds_toArray, List.set_cons_zero, List.set_cons_succ]
  refine' wpAnyH_take (i := 4) (oi := _) (v := _) rfl (by kernel_rfl) (by kernel_rfl) (by kernel_rfl) (fun _ _ _ h => h) (Or.inl ⟨?_, ?_⟩) (by assumption) ?_
  rotate_left
  all_goals (try simp only [List.getElem_toArray, List.getElem_cons_succ, List.getElem_cons_zero])
  · rfl
  · intro W hSw; (try dsimp only at hSw); go_simp; (try with_reducible rfl)
  try simp only [Act.put, List.setIfInBounds_toArray, List.set_cons_zero, List.set_cons_succ]
  refine wpAnyH_ready (rs := [5]) (by kernel_rfl) (by simp) ?_
  refine AllReadyH.cons (o := _) rfl (fun K hK => ?_) AllReadyH.nil
  try simp only [List.getElem_toArray, List.getElem_cons_succ, List.getElem_cons_zero]
  go_simp
  refine (start256_any _ _).mono ?_; rintro e w5 ⟨rfl, rfl⟩
  go_wp2_with fail
  refine hK.out _ _ trivial (fun hHeld => ?_)
  clear hK K
  try simp only [Act.put, List.setIfInBounds_toArray, List.set_cons_zero, List.set_cons_succ]
  refine wpAnyH_ready (rs := [6]) (by kernel_rfl) (by simp) ?_
  refine AllReadyH.cons (o := _) rfl (fun K hK => ?_) AllReadyH.nil
  try simp only [List.getElem_toArray, List.getElem_cons_succ, List.getElem_cons_zero]
  go_simp
  refine hK.out _ _ trivial (fun hHeld => ?_)
  clear hK K
  try simp only [Act.put, List.setIfInBounds_toArray, List.set_cons_zero, List.set_cons_succ]
  refine wpAnyH_done (by kernel_rfl) ?_ _
  go_wp2
  go_ret2
  rw [HGE.out]
  have hgr : w3.grownBy (w3.drew.setRow g (stL 256 (startN 256) (List.replicate 64 0) 0).toArray) (some g) := grown_setRow (grown_drew (x := w3) (y := w3) ⟨rfl, rfl, rfl, Nat.le_refl _, fun _ _ _ => rfl⟩) _
  exact ⟨rfl, ⟨startN 256, List.replicate 64 0, ⟨setRow_heap _ g _ _ _ _ hg3.out, startN_len _, by simp, startN_lt _, fun x hx => by have := List.eq_of_mem_replicate hx; omega⟩, ⟨rfl, rfl⟩, by decide, fun x hx => by simp at hx⟩, hB3.out.grown hgr (Nat.le_of_lt (Array.getElem?_eq_some_iff.1 hg3.out).1) (fun k hk => by cases hk; exact Nat.le_refl _)⟩

set_option maxRecDepth 100000 in
set_option maxHeartbeats 2000000 in
theorem new224_any (w : World) : Calls Tryd.prog 59 #[.int .i64 224] w fun e w' => e = .returned (.tuple #[.pointer (some ⟨w.heap.size, 0, none⟩), .int .i64 0]) ∧ StateOf w' w.heap.size 224 [] ∧ Below w.heap.size w w' := by
  have hz : ∀ w, (zeroValue 109).run Tryd.prog w = .ok (.agg (arrC .u32 (List.replicate 80 0))) w := fun _ => by kernel_rfl
  go_enter Tryd.func59, Tryd.ntmps59
  go_wp2_with fail
  refine (known_yes 224 (by decide) w).mono ?_
  rintro e w1 ⟨rfl, rfl⟩
  go_wp2_with (refine wpList_buildV rfl _ _ rfl (st0 224) (by kernel_rfl) ?_)
  have hg1 := Lib.hid (Go.heap_alloc_new w (.cells (st0 224) 105))
  have hB1 := Lib.hid (Below.alloc (Below.refl w.heap.size w) (Nat.le_refl _) (.cells (st0 224) 105))
  have hs1 := Lib.hid ((Array.getElem?_eq_some_iff.1 hg1.out).1)
  generalize w.alloc (.cells (st0 224) 105) = w1 at *
  refine (written_any w1).mono ?_
  rintro e w2 ⟨rfl, rfl⟩
  have hg2 := Lib.hid ((Below.heap_alloc w1 (.cells tabC 109) _ hs1.out).trans hg1.out)
  have hB2 := Lib.hid (Below.alloc hB1.out (Nat.le_of_lt hs1.out) (.cells tabC 109))
  have hs2 := Lib.hid ((Array.getElem?_eq_some_iff.1 hg2.out).1)
  generalize w1.alloc (.cells tabC 109) = w2 at *
  clear hg1 hB1 hs1
  go_wp2_with (refine wpList_store_row rfl _ _ _ rfl w2.heap.size tabC rfl (by kernel_rfl) 109 _ (Go.heap_alloc_new w2 _) (by kernel_rfl) (by kernel_rfl) tabC_one ?_)
  rw [alloc_setRow]
  have hg3 := Lib.hid ((Below.heap_alloc w2 (.cells tabC 109) _ hs2.out).trans hg2.out)
  have hT3 := Lib.hid (Go.heap_alloc_new w2 (.cells tabC 109))
  have hB3 := Lib.hid (Below.alloc hB2.out (Nat.le_of_lt hs2.out) (.cells tabC 109))
  generalize hTE : w2.heap.size = T at *
  generalize w2.alloc (.cells tabC 109) = w3 at *
  have hsl := slice_words w.heap.size
  have hgE := hs2
  clear hg2 hB2 hTE hs2
  generalize hge : w.heap.size = g at *
  have hcp := start_copy w3.drew g T 72 224 hg3.out hT3.out (by decide) rfl
  have HGE := Lib.hid hge
  clear hge
  go_wp2_with fail
  refine wp_region_held_drew (S := fun _ => True) (by kernel_rfl) trivial (fun hHeld => ?_)
  refine' wpAnyH_take (i := 0) (oi := _) (v := _) rfl (by kernel_rfl) (by kernel_rfl) (by kernel_rfl) (fun _ _ _ h => h) (Or.inl ⟨?_, ?_⟩) (by assumption) ?_
  rotate_left
  all_goals (try simp only [List.getElem_toArray, List.getElem_cons_succ, List.getElem_cons_zero])
  · rfl
  · intro W hSw; (try dsimp only at hSw); go_simp; (try with_reducible rfl)
  try simp only [Act.put, List.setIfInBounds_toArray, List.set_cons_zero, List.set_cons_succ]
  refine' wpAnyH_take (i := 1) (oi := _) (v := _) rfl (by kernel_rfl) (by kernel_rfl) (by kernel_rfl) (fun _ _ _ h => h) (Or.inl ⟨?_, ?_⟩) (by assumption) ?_
  rotate_left
  all_goals (try simp only [List.getElem_toArray, List.getElem_cons_succ, List.getElem_cons_zero])
  · rfl
  · intro W hSw; (try dsimp only at hSw); go_simp; (try with_reducible rfl)
  try simp only [Act.put, List.setIfInBounds_toArray, List.set_cons_zero, List.set_cons_succ]
  refine' wpAnyH_take (i := 2) (oi := _) (v := _) rfl (by kernel_rfl) (by kernel_rfl) (by kernel_rfl) (fun _ _ _ h => h) (Or.inl ⟨?_, ?_⟩) (by assumption) ?_
  rotate_left
  all_goals (try simp only [List.getElem_toArray, List.getElem_cons_succ, List.getElem_cons_zero])
  · rfl
  · intro W hSw; (try dsimp only at hSw); go_simp; (try with_reducible rfl)
  try simp only [Act.put, List.setIfInBounds_toArray, List.set_cons_zero, List.set_cons_succ]
  refine' wpAnyH_take (i := 3) (oi := _) (v := _) rfl (by kernel_rfl) (by kernel_rfl) (by kernel_rfl) (fun _ _ _ h => h) (Or.inl ⟨?_, ?_⟩) (by assumption) ?_
  rotate_left
  all_goals (try simp only [List.getElem_toArray, List.getElem_cons_succ, List.getElem_cons_zero])
  · rfl
  · intro W hSw; (try dsimp only at hSw); go_simp; (try with_reducible rfl)
  try simp only [Act.put, List.setIfInBounds_toArray, List.set_cons_zero, List.set_cons_succ]
  refine' wpAnyH_take (i := 4) (oi := _) (v := _) rfl (by kernel_rfl) (by kernel_rfl) (by kernel_rfl) (fun _ _ _ h => h) (Or.inl ⟨?_, ?_⟩) (by assumption) ?_
  rotate_left
  all_goals (try simp only [List.getElem_toArray, List.getElem_cons_succ, List.getElem_cons_zero])
  · rfl
  · intro W hSw; (try dsimp only at hSw); go_simp; (try with_reducible rfl)
  try simp only [Act.put, List.setIfInBounds_toArray, List.set_cons_zero, List.set_cons_succ]
  refine wpAnyH_ready (rs := [5]) (by kernel_rfl) (by simp) ?_
  refine AllReadyH.cons (o := _) rfl (fun K hK => ?_) AllReadyH.nil
  try simp only [List.getElem_toArray, List.getElem_cons_succ, List.getElem_cons_zero]
  go_simp
  refine (start224_any _ _).mono ?_; rintro e w5 ⟨rfl, rfl⟩
  go_wp2_with fail
  refine hK.out _ _ trivial (fun hHeld => ?_)
  clear hK K
  try simp only [Act.put, List.setIfInBounds_toArray, List.set_cons_zero, List.set_cons_succ]
  refine wpAnyH_ready (rs := [6]) (by kernel_rfl) (by simp) ?_
  refine AllReadyH.cons (o := _) rfl (fun K hK => ?_) AllReadyH.nil
  try simp only [List.getElem_toArray, List.getElem_cons_succ, List.getElem_cons_zero]
  go_simp
  refine hK.out _ _ trivial (fun hHeld => ?_)
  clear hK K
  try simp only [Act.put, List.setIfInBounds_toArray, List.set_cons_zero, List.set_cons_succ]
  refine wpAnyH_done (by kernel_rfl) ?_ _
  go_wp2
  go_ret2
  rw [HGE.out]
  have hgr : w3.grownBy (w3.drew.setRow g (stL 224 (startN 224) (List.replicate 64 0) 0).toArray) (some g) := grown_setRow (grown_drew (x := w3) (y := w3) ⟨rfl, rfl, rfl, Nat.le_refl _, fun _ _ _ => rfl⟩) _
  exact ⟨rfl, ⟨startN 224, List.replicate 64 0, ⟨setRow_heap _ g _ _ _ _ hg3.out, startN_len _, by simp, startN_lt _, fun x hx => by have := List.eq_of_mem_replicate hx; omega⟩, ⟨rfl, rfl⟩, by decide, fun x hx => by simp at hx⟩, hB3.out.grown hgr (Nat.le_of_lt (Array.getElem?_eq_some_iff.1 hg3.out).1) (fun k hk => by cases hk; exact Nat.le_refl _)⟩


theorem new_any (bt : Nat) (h : bt = 224 ∨ bt = 256) (w : World) : Calls Tryd.prog 59 #[.int .i64 (bt : Int)] w fun e w' => e = .returned (.tuple #[.pointer (some ⟨w.heap.size, 0, none⟩), .int .i64 0]) ∧ StateOf w' w.heap.size bt [] ∧ Below w.heap.size w w' := by
  rcases h with rfl | rfl
  · exact new224_any w
  · exact new256_any w
set_option maxRecDepth 100000 in
theorem copy_any (g bt : Nat) (ws tail : List Nat) (T : Nat) (w : World) (h : StateAt w g bt ws tail T) (hb : bt ≠ 0) : Calls Tryd.prog 72 #[.pointer (some ⟨g, 0, none⟩)] w fun e w' => e = .returned (.pointer (some ⟨w.heap.size, 0, none⟩)) ∧ w' = w.alloc (.cells (stL bt ws tail T).toArray 105) := by
  have hz2 : ∀ w, (zeroValue 105).run Tryd.prog w = .ok (.agg (st0 0)) w := fun _ => by kernel_rfl
  have hsz : (stL bt ws tail T).toArray.size = 74 := by simp [stL, h.wlen, h.tlen]
  have hone : (stL bt ws tail T).toArray.all (·.oneCell') = true := by
    rw [Array.all_eq_true_iff_forall_mem]
    intro u hu
    simp only [stL, List.mem_toArray, List.mem_cons, List.mem_append] at hu
    rcases hu with rfl | hu | hu | hu
    · rfl
    · exact nums_oneCell .u32 _ u hu
    · exact nums_oneCell .u8 _ u hu
    · simp at hu
      rw [hu]
      rfl
  have hH := h.heap
  generalize (stL bt ws tail T).toArray = cs at *
  go_enter Tryd.func72, Tryd.ntmps72
  go_wp2_with fail
  refine (made_yes g bt ws tail T w h hb).mono ?_
  rintro e w1 ⟨rfl, rfl⟩
  go_wp2_with (first | (refine wpList_load_row rfl _ _ rfl g rfl _ _ _ _ hH Tryd.underlying105 rfl (by rw [hsz]; kernel_rfl) ?_) | (refine wpList_store_row rfl _ _ _ rfl w.heap.size cs rfl rfl 105 _ (Go.heap_alloc_new w _) (by rw [hsz]; kernel_rfl) (by rw [hsz]; kernel_rfl) hone ?_))
  go_ret
  rw [alloc_setRow]
  exact ⟨rfl, rfl⟩

end Go.Proofs.YtpefjkndfifceaaDoor

namespace Go.Proofs.YtpefjkndfifceaaDoor
open Go.RowKit Go.Shelf
set_option maxRecDepth 100000

theorem noughtCells (v : Value) (n : Nat) : (Builtin.zeroCells #[v] n).toList = List.replicate n v := by
  apply List.ext_getElem
  · simp [Builtin.zeroCells]
  · intro i h1 h2
    simp [Builtin.zeroCells, Nat.mod_one]
/-- 'append(s, make([]byte, k)...)' where s has room. -/
theorem run_append_room_zeros {P : Program} (w : World) (t tn ty e : TypeId) (i : TypeInfo) (z : Value) (kq kn : IntKind) (ht : P.underlying t = some (.slice e)) (htn : P.underlying tn = some (.int kn)) (hi : P.info? e = some i) (hz : i.zero = some z) (hzc : z.cells = #[z]) (hz1 : z.oneCell' = true) (hs : i.size = 1) (hby : i.bytes = 1)
    (g sLen sCap : Nat) (cur : Array Value) (hg : w.heap[g]? = some (.cells cur e (0, 0))) (k : Nat) (hroom : sLen + k ≤ sCap) (hc : cur.size = sCap) (hm : k ≤ 1000000) :
    (Builtin.append_ #[t, tn] ty #[.slice (some ⟨g, 0, none⟩) sLen sCap, .int kq k]).run P w =
      .ok (.slice (some ⟨g, 0, none⟩) (sLen + k) sCap) (w.setRow g (cur.toList.take sLen ++ List.replicate k z ++ cur.toList.drop (sLen + k)).toArray) := by
  have hw : IntKind.i64.wrap (k : Int) = k := by rw [IntKind.wrap_i64]; omega
  have hneg : ¬ ((k : Int) < 0) := by omega
  have h48i : ¬ (281474976710656 < (k : Int)) := by omega
  have hl : (List.replicate k z).length = k := by simp
  have hst := run_storeCells_at P g sLen e (List.replicate k z) 0 cur w hg (by rw [hl, hc]; omega) (fun v hv => by rw [List.eq_of_mem_replicate hv]; exact hz1)
  rw [hl] at hst
  simp only [Nat.add_zero] at hst
  rcases Nat.eq_zero_or_pos k with rfl | h0
  · have hw0 : IntKind.i64.wrap 0 = 0 := by rw [IntKind.wrap_i64]; rfl
    have hroom0 : sLen ≤ sCap := by omega
    have hst0 : Sem.run P (storeCells { block := g, off := sLen } []) w = Result.ok () (w.setRow g cur) := by simpa using hst
    simp [Builtin.append_, run_underlying ht, run_underlying htn, sizeOf, typeInfo, zeroValue, hi, hz, asInt, asIntOf, hw0, hs, hby, hroom0, Addr.add_lit, hst0]
  · have hk : k ≠ 0 := by omega
    have hcells : (Builtin.zeroCells #[z] k).toList = List.replicate k z := noughtCells z k
    simp [Builtin.append_, run_underlying ht, run_underlying htn, sizeOf, typeInfo, zeroValue, hi, hz, asInt, asIntOf, hw, hneg, hs, hby, hk, hroom, h48i, Addr.add_lit, hzc, hcells, hst]

theorem wpList_append_noughts {P : Program} (w : World) {ops : Array Oper} {rest : List Oper} {o : Oper} {a : Act} {Q : Exit → Act → World → Prop} (hgd : o.guard = .none) (s x : Operand) (t tn : TypeId)
    (ho : o.op = .call { callee := .builtin .append, args := #[s, x], argTypes := #[t, tn] })
    (B E : Nat) (i : TypeInfo) (ht : P.underlying t = some (.slice E)) (htn : P.underlying tn = some (.int .i64)) (hi : P.info? E = some i) (hz : i.zero = some (.int .u8 0)) (hsize : i.size = 1) (hby : i.bytes = 1)
    (v : Value) (l : List Nat) (hs : a.eval s = v) (hown : OwnQ .u8 E B w v l) (hl : l ≠ []) (k : Nat) (hx : a.eval x = .int .i64 (k : Int)) (hb : l.length + k ≤ 1000000) (hbase : B ≤ w.heap.size)
    (h : ∀ v' w', OwnQ .u8 E B w' v' (l ++ List.replicate k 0) → (∀ w0, Below B w0 w → Below B w0 w') → wpList P ops Q rest (a.put o.dst v') w') : wpList P ops Q (o :: rest) a w := by
  obtain ⟨g, c, rfl⟩ := hown.succ hl
  have hcap := hown.cap
  rcases Nat.lt_or_ge c (l.length + k) with hgr | hroom
  · have hold := run_firstCells_some (P := P) w.drew i.size l.length ⟨g, 0, .none⟩ l.length c (l.map (num .u8)) (by rw [hsize]; simp) (by
      intro j u hu
      have := hown.reads.news j u hu
      simpa using this)
    have hfit : Builtin.nextslicecap (l.length + k) c * i.bytes ≤ 281474976710656 := growslice_fits (by omega) (by rw [hby]; omega)
    have hrun := Lib.run_append_grow_zeros (P := P) w t tn o.type E i (.int .u8 0) .i64 .i64 ht htn hi hz (some ⟨g, 0, .none⟩) l.length c (l.map (num .u8)) hold k (by omega) (by omega) hgr (by omega) (by rw [hby]; omega) hfit
    have hge := grownCap_ge w (l.length + k) c E
    have hcm := grownCap_le_maxLen w (l.length + k) c E (by unfold maxLen; omega)
    refine wpList_plain hgd fun K hK' => ?_
    unfold Oper.wp
    simp only [execOp, ho, resolve, invoke, builtin, Sem.run_bind, Sem.run_pure, Result.andThen_ok, List.map_toArray, List.map_cons, List.map_nil, hs, hx, hrun]
    refine hK' _ _ (h _ _ ⟨by simp, .inr ⟨w.heap.size, _, _, ?_, hbase, heap_alloc_new w.drew _, ?_, hcm, ?_, ?_⟩⟩ (fun w0 hB => hB.drew.alloc (by simpa using hbase) _))
    · simp
    · simpa using hge
    · simp only [Array.size_append, List.size_toArray, size_zeroCells, List.length_map]
      simp [Value.cells]
      omega
    · rw [Array.toList_append, Array.toList_append, show (Value.int .u8 0).cells = #[Value.int .u8 0] from rfl, noughtCells]
      simp [num, List.take_append]
      exact List.take_of_length_le (by simp)
  · rcases hown.2 with ⟨h1, _⟩ | ⟨g', cap', cur, h1, hbg, hg, hnc, hcm, hcs, htake⟩
    · simp at h1
    · simp only [Value.slice.injEq, Option.some.injEq, Addr.mk.injEq, and_true, true_and] at h1
      obtain ⟨rfl, rfl⟩ := h1
      have hrun := run_append_room_zeros (P := P) w t tn o.type E i (.int .u8 0) .i64 .i64 ht htn hi hz rfl rfl hsize hby g l.length c cur hg k hroom (by omega) (by omega)
      refine wpList_plain hgd fun K hK' => ?_
      unfold Oper.wp
      simp only [execOp, ho, resolve, invoke, builtin, Sem.run_bind, Sem.run_pure, Result.andThen_ok, List.map_toArray, List.map_cons, List.map_nil, hs, hx, hrun]
      have hgrow : w.grownBy (w.setRow g (cur.toList.take l.length ++ List.replicate k (Value.int .u8 0) ++ cur.toList.drop (l.length + k)).toArray) (some g) := ⟨rfl, rfl, rfl, by simp, fun k' _ hk => setRow_other w g k' _ (fun e => hk (by simp [e]))⟩
      refine hK' _ _ (h _ _ ⟨by simp, .inr ⟨g, c, _, by simp, hbg, setRow_heap w g cur _ E _ hg, by simpa using hroom, hcm, ?_, ?_⟩⟩ (fun w0 hB => hB.grown hgrow hbase (fun r e => by cases e; exact hbg)))
      · simp
        omega
      · have : cur.toList.take l.length = l.map (num .u8) := by simpa using htake
        rw [this]
        simp [num, List.take_append]
        exact List.take_of_length_le (by simp)

theorem OwnQ.made {q : IntKind} {E : TypeId} {B : Nat} {w : World} {g n : Nat} {z : List Value} (h : w.ownsRow B E 1 (.slice (some ⟨g, 0, none⟩) n n) n z) (hz : z = (madeCells (Value.int q 0).cells (n * 1)).toList) : OwnQ q E B w (.slice (some ⟨g, 0, none⟩) n n) (List.replicate n 0) := by
  unfold OwnQ
  rw [← zeros_q, ← hz]
  simpa using h
/-- 'make' with room beyond its length. -/
theorem wpList_make_room {P : Program} (q : IntKind) (w : World) {ops : Array Oper} {rest : List Oper} {o : Oper} {a : Act} {Q : Exit → Act → World → Prop}
    (hg : o.guard = none) (l c : Operand) (t : TypeId) (hop : o.op = Op.makeSlice t l c)
    (base : Nat) (e : TypeId) (i : TypeInfo) (h1 : P.underlying t = some (.slice e)) (h2 : P.info? e = some i) (h3 : i.zero = some (.int q 0)) (h4 : i.size = 1)
    (kl kc : IntKind) (L C : Int) (m n : Nat) (hl : a.eval l = .int kl L) (hc : a.eval c = .int kc C) (hL : L = (m : Int)) (hC : C = (n : Int)) (hmn : m ≤ n) (b2 : i.bytes * n ≤ 281474976710656) (b3 : n ≤ maxLen) (b4 : base ≤ w.heap.size)
    (hK : ∀ w', OwnQ q e base w' (.slice (some ⟨w.heap.size, 0, none⟩) m n) (List.replicate m 0) → w.grownBy w' none → wpList P ops Q rest (a.put o.dst (.slice (some ⟨w.heap.size, 0, none⟩) m n)) w') :
    wpList P ops Q (o :: rest) a w := by
  refine wpList_plain hg fun K hK' => ?_
  subst hL
  subst hC
  have h63' : (n : Int) ≤ 9223372036854775807 := by
    have h := b3
    simp [maxLen] at h
    omega
  have hb' : (i.bytes : Int) * (n : Int) ≤ 281474976710656 := by
    have h : ((i.bytes * n : Nat) : Int) ≤ 281474976710656 := by omega
    rwa [Int.natCast_mul] at h
  have hr := run_make (P := P) w t e i (.int q 0) h1 h2 h3 kl kc m n (by omega) (by omega) hb' h63'
  simp only [Int.toNat_natCast] at hr
  have hown : OwnQ q e base (w.alloc (.cells (madeCells (Value.int q 0).cells (n * i.size)) e)) (.slice (some ⟨w.heap.size, 0, none⟩) n n) (List.replicate n 0) := by
    rw [h4]
    exact OwnQ.made (World.ownsRow_lit w _ n b4 b3 (size_madeCells _ _)) rfl
  have hup := hown.upto m hmn
  rw [List.take_replicate, Nat.min_eq_left hmn] at hup
  unfold Oper.wp
  simp [execOp, hop, hl, hc, hr, Result.andThen]
  exact hK' _ _ (hK _ hup (World.grownBy_alloc w _ none))

theorem reads_four (q : IntKind) (w : World) (E : TypeId) (x0 x1 x2 x3 : Int) (c0 c1 c2 c3 : Nat) (h0 : x0 = c0) (h1 : x1 = c1) (h2 : x2 = c2) (h3 : x3 = c3) : Reads q (w.alloc (.cells #[.int q x0, .int q x1, .int q x2, .int q x3] E)) (some ⟨w.heap.size, 0, .none⟩) 4 4 [c0, c1, c2, c3] := by
  subst h0 h1 h2 h3
  have h : OwnQ q E 0 (w.alloc (.cells #[.int q c0, .int q c1, .int q c2, .int q c3] E)) (.slice (some ⟨w.heap.size, 0, .none⟩) 4 4) [c0, c1, c2, c3] := World.ownsRow_lit w #[.int q c0, .int q c1, .int q c2, .int q c3] 4 (Nat.zero_le _) (by unfold maxLen; omega) rfl
  exact h.reads

/-- What fills a message up: a bit, noughts, and how many bits there are. -/
def lenB (T : Nat) (j : Nat) : List Nat := (List.range j).map fun i => T * 8 / 2 ^ (8 * (7 - i)) % 256
theorem lenB_succ (T j : Nat) : lenB T (j + 1) = lenB T j ++ [T * 8 / 2 ^ (8 * (7 - j)) % 256] := by
  unfold lenB
  rw [List.range_succ, List.map_append]
  rfl
theorem lenB_len (T j : Nat) : (lenB T j).length = j := by simp [lenB]
theorem lenB_lt (T j : Nat) : ∀ x ∈ lenB T j, x < 256 := fun x hx => by
  obtain ⟨i, -, rfl⟩ := List.mem_map.1 hx
  exact Nat.mod_lt _ (by decide)
def restN (m : List Nat) : List Nat := m.drop (64 * (m.length / 64)) ++ [128] ++ List.replicate ((119 - m.length % 64) % 64) 0 ++ lenB m.length 8
theorem restN_len (m : List Nat) : (restN m).length = 64 ∨ (restN m).length = 128 := by
  unfold restN
  simp only [List.length_append, List.length_drop, List.length_replicate, lenB_len, List.length_singleton]
  omega
theorem restN_lt {m : List Nat} (h : ∀ x ∈ m, x < 256) : ∀ x ∈ restN m, x < 256 := fun x hx => by
  unfold restN at hx
  simp only [List.mem_append, List.mem_singleton] at hx
  rcases hx with ((hx | rfl) | hx) | hx
  · exact h x (List.mem_of_mem_drop hx)
  · decide
  · have := List.eq_of_mem_replicate hx
    omega
  · exact lenB_lt _ _ x hx
/-- The words behind so many blocks of what fills it up. -/
def foldW (ws R : List Nat) : Nat → List Nat
  | 0 => ws
  | j + 1 => turnN (foldW ws R j) ((R.drop (64 * j)).take 64)
def sumW (bt : Nat) (m : List Nat) : List Nat := foldW (wsK bt m (m.length / 64)) (restN m) ((restN m).length / 64)
/-- A word's bytes. -/
def wordB (x : Nat) : List Nat := [x / 16777216 % 256, x / 65536 % 256, x / 256 % 256, x % 256]
def bytesW (ws : List Nat) (j : Nat) : List Nat := (List.range j).flatMap fun i => wordB (g0 ws i)
theorem bytesW_succ (ws : List Nat) (j : Nat) : bytesW ws (j + 1) = bytesW ws j ++ wordB (g0 ws j) := by
  unfold bytesW
  rw [List.range_succ, List.flatMap_append]
  simp
theorem bytesW_len (ws : List Nat) : ∀ j, (bytesW ws j).length = 4 * j
  | 0 => rfl
  | j + 1 => by rw [bytesW_succ, List.length_append, bytesW_len ws j]; simp [wordB]; omega
theorem bytesW_lt (ws : List Nat) (j : Nat) : ∀ x ∈ bytesW ws j, x < 256 := fun x hx => by
  unfold bytesW at hx
  obtain ⟨i, -, hx⟩ := List.mem_flatMap.1 hx
  unfold wordB at hx
  simp only [List.mem_cons, List.not_mem_nil, or_false] at hx
  rcases hx with rfl | rfl | rfl | rfl <;> exact Nat.mod_lt _ (by decide)
/-- The hash. -/
def hashN (bt : Nat) (m : List Nat) : List Nat := (bytesW (sumW bt m) 8).take (bt / 8)
theorem hashN_lt (bt : Nat) (m : List Nat) : ∀ x ∈ hashN bt m, x < 256 := fun x hx => bytesW_lt _ _ x (List.mem_of_mem_take hx)
theorem hashN_len {bt : Nat} (m : List Nat) (h : bt = 224 ∨ bt = 256) : (hashN bt m).length = bt / 8 := by
  unfold hashN
  rw [List.length_take, bytesW_len]
  omega
theorem foldW_len {ws : List Nat} (R : List Nat) (h : ws.length = 8) : ∀ j, (foldW ws R j).length = 8
  | 0 => h
  | j + 1 => turnN_len (foldW_len R h j)
theorem foldW_lt {ws : List Nat} (R : List Nat) (h : ∀ x ∈ ws, x < 4294967296) : ∀ j, ∀ x ∈ foldW ws R j, x < 4294967296
  | 0 => h
  | j + 1 => turnN_lt (foldW_lt R h j)

end Go.Proofs.YtpefjkndfifceaaDoor
