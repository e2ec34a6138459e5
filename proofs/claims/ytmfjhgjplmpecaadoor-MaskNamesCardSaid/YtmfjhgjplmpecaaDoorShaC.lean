/-
  SHA-256: schedule. (Written by wip/gen_shaC.py.)
-/
import Derived.Test.YtmfjhgjplmpecaaDoorShaB
import Derived.Laws.CopyOwn
import Derived.BigRegion
namespace Go.Proofs.YtmfjhgjplmpecaaDoor
open Go.RowKit

def g0 (l : List Nat) (i : Nat) : Nat := l[i]?.getD 0
theorem g0_lt {l : List Nat} {b : Nat} (h : ∀ x ∈ l, x < b) (hb : 0 < b) (i : Nat) : g0 l i < b := by
  unfold g0
  cases hi : l[i]? with
  | none => exact hb
  | some x => exact h x (List.mem_of_getElem? hi)
theorem set_lt {l : List Nat} {b : Nat} (h : ∀ x ∈ l, x < b) (i y : Nat) (hy : y < b) : ∀ x ∈ l.set i y, x < b := fun x hx => by
  rcases List.mem_or_eq_of_mem_set hx with hx | rfl
  · exact h x hx
  · exact hy
/-- A block's bytes laid into words, so many of them. -/
def packS (b : List Nat) (k : Nat) (l : List Nat) : List Nat := l.set (k / 4) (g0 l (k / 4) * 256 % 4294967296 ||| g0 b k)
def packN (b : List Nat) : Nat → List Nat
  | 0 => List.replicate 64 0
  | k + 1 => packS b k (packN b k)
def sigN (x r1 r2 s : Nat) : Nat := rotr x r1 ^^^ rotr x r2 ^^^ x / 2 ^ s
def extS (t : Nat) (l : List Nat) : List Nat := l.set t ((((g0 l (t - 16) + g0 l (t - 7)) % 4294967296 + sigN (g0 l (t - 15)) 7 18 3) % 4294967296 + sigN (g0 l (t - 2)) 17 19 10) % 4294967296)
def extN (l : List Nat) : Nat → List Nat
  | 0 => l
  | k + 1 => extS (16 + k) (extN l k)
/-- The words of a block. -/
def schedN (b : List Nat) : List Nat := extN (packN b 64) 48
theorem below_drewS {B : Nat} {a w : World} (h : Below B a w) (n : Nat) : Below B a (w.drewN n) := ⟨h.os, h.tape, h.output, h.size, h.block⟩
theorem Arr.drewN {q : IntKind} {E g : Nat} {w : World} {l : List Nat} (h : Arr q E w g l) (n : Nat) : Arr q E (w.drewN n) g l := h
theorem packN_len (b : List Nat) : ∀ k, (packN b k).length = 64
  | 0 => by simp [packN]
  | k + 1 => by simp [packN, packS, packN_len b k]
theorem extN_len (l : List Nat) (h : l.length = 64) : ∀ k, (extN l k).length = 64
  | 0 => h
  | k + 1 => by simp [extN, extS, extN_len l h k]
theorem schedN_len (b : List Nat) : (schedN b).length = 64 := extN_len _ (packN_len b 64) 48
theorem packN_lt (b : List Nat) (hb : ∀ x ∈ b, x < 256) : ∀ k, ∀ x ∈ packN b k, x < 4294967296
  | 0 => fun x hx => by rw [List.eq_of_mem_replicate hx]; decide
  | k + 1 => set_lt (packN_lt b hb k) _ _ (Nat.or_lt_two_pow (n := 32) (Nat.mod_lt _ (by decide)) (Nat.lt_trans (g0_lt hb (by decide) k) (by decide)))
theorem extN_lt (l : List Nat) (h : ∀ x ∈ l, x < 4294967296) : ∀ k, ∀ x ∈ extN l k, x < 4294967296
  | 0 => h
  | k + 1 => set_lt (extN_lt l h k) _ _ (Nat.mod_lt _ (by decide))
theorem schedN_lt (b : List Nat) (hb : ∀ x ∈ b, x < 256) : ∀ x ∈ schedN b, x < 4294967296 := extN_lt _ (packN_lt b hb 64) 48

theorem z64 : #[Value.int IntKind.u32 0, Value.int IntKind.u32 0, Value.int IntKind.u32 0, Value.int IntKind.u32 0, Value.int IntKind.u32 0, Value.int IntKind.u32 0, Value.int IntKind.u32 0, Value.int IntKind.u32 0, Value.int IntKind.u32 0, Value.int IntKind.u32 0, Value.int IntKind.u32 0, Value.int IntKind.u32 0, Value.int IntKind.u32 0, Value.int IntKind.u32 0, Value.int IntKind.u32 0, Value.int IntKind.u32 0, Value.int IntKind.u32 0, Value.int IntKind.u32 0, Value.int IntKind.u32 0, Value.int IntKind.u32 0, Value.int IntKind.u32 0, Value.int IntKind.u32 0, Value.int IntKind.u32 0, Value.int IntKind.u32 0, Value.int IntKind.u32 0, Value.int IntKind.u32 0, Value.int IntKind.u32 0, Value.int IntKind.u32 0, Value.int IntKind.u32 0, Value.int IntKind.u32 0, Value.int IntKind.u32 0, Value.int IntKind.u32 0, Value.int IntKind.u32 0, Value.int IntKind.u32 0, Value.int IntKind.u32 0, Value.int IntKind.u32 0, Value.int IntKind.u32 0, Value.int IntKind.u32 0, Value.int IntKind.u32 0, Value.int IntKind.u32 0, Value.int IntKind.u32 0, Value.int IntKind.u32 0, Value.int IntKind.u32 0, Value.int IntKind.u32 0, Value.int IntKind.u32 0, Value.int IntKind.u32 0, Value.int IntKind.u32 0, Value.int IntKind.u32 0, Value.int IntKind.u32 0, Value.int IntKind.u32 0, Value.int IntKind.u32 0, Value.int IntKind.u32 0, Value.int IntKind.u32 0, Value.int IntKind.u32 0, Value.int IntKind.u32 0, Value.int IntKind.u32 0, Value.int IntKind.u32 0, Value.int IntKind.u32 0, Value.int IntKind.u32 0, Value.int IntKind.u32 0, Value.int IntKind.u32 0, Value.int IntKind.u32 0, Value.int IntKind.u32 0, Value.int IntKind.u32 0] = arrC .u32 (List.replicate 64 0) := by kernel_rfl
theorem zeros64 : (Tryd.prog.info? 73).map (fun i => (i.zero, i.size)) = some (some (.agg (arrC .u32 (List.replicate 64 0))), 64) := by kernel_rfl

set_option maxRecDepth 100000 in
set_option maxHeartbeats 4000000 in
theorem schedule_any (a : Option Addr) (c : Nat) (bl : List Nat) (w : World) (hr : Reads .u8 w a 64 c bl) (hb : ∀ x ∈ bl, x < 256) :
    Calls Tryd.prog 65 #[.slice a 64 c] w fun e w' => e = .returned (.agg (arrC .u32 (schedN bl))) ∧ Below w.heap.size w w' := by
  have HR := Lib.hid hr
  have HB := Lib.hid hb
  have hc64 := hr.le
  clear hr hb
  go_enter Tryd.func65, Tryd.ntmps65
  go_wp2_with fail
  rw [z64]
  have hA0 : Arr .u32 73 (w.alloc (.cells (arrC .u32 (List.replicate 64 0)) 73)) w.heap.size (List.replicate 64 0) := Go.heap_alloc_new w _
  have hA := Lib.hid (hA0.alloc (.cells (arrC .u32 (List.replicate 64 0)) 73))
  have hB0 : Arr .u32 73 ((w.alloc (.cells (arrC .u32 (List.replicate 64 0)) 73)).alloc (.cells (arrC .u32 (List.replicate 64 0)) 73)) (w.heap.size + 1) (packN bl 0) := by
    have := Go.heap_alloc_new (w.alloc (.cells (arrC .u32 (List.replicate 64 0)) 73)) (.cells (arrC .u32 (List.replicate 64 0)) 73)
    rwa [World.size_alloc] at this
  have hB1 := Lib.hid hB0
  have F := Lib.hid (((Below.refl w.heap.size w).alloc (Nat.le_refl _) (.cells (arrC .u32 (List.replicate 64 0)) 73)).alloc (by simp) (.cells (arrC .u32 (List.replicate 64 0)) 73))
  clear hA0 hB0
  generalize (w.alloc (.cells (arrC .u32 (List.replicate 64 0)) 73)).alloc (.cells (arrC .u32 (List.replicate 64 0)) 73) = W0 at *
  obtain ⟨A, hAe⟩ : ∃ A, A = w.heap.size := ⟨_, rfl⟩
  rw [← hAe] at hA hB1 ⊢
  have HA := Lib.hid hAe
  clear hAe
  go_loopw [11] (fun iv wr => ∃ k : Nat, iv = .int .i64 (k : Int) ∧ k ≤ 64 ∧ Hid (Arr .u32 73 wr A (List.replicate 64 0) ∧ Arr .u32 73 wr (A + 1) (packN bl k) ∧ Below A w wr)) (fun iv _ => 64 - (intOf iv).toNat)
  case atStart => exact ⟨0, rfl, by decide, hA.out, hB1.out, HA.out ▸ F.out⟩
  case round =>
    obtain ⟨k, rfl, hk, hI⟩ := hrel
    rcases Nat.lt_or_ge k 64 with hlt | hge
    · obtain ⟨b, off, rfl, hbk, hc⟩ := (HR.out.below (HA.out ▸ hI.out.2.2)).cells (by decide)
      have hck := hc k hlt
      obtain ⟨y, hy⟩ : ∃ y, y = bl[k]?.getD 0 := ⟨_, rfl⟩
      have hy8 : y < 256 := hy ▸ g0_lt HB.out (by decide) k
      rw [← hy] at hck
      obtain ⟨j, hj⟩ : ∃ j, j = k / 4 := ⟨_, rfl⟩
      have hj16 : j < 16 := by omega
      have hjc : (k : Int) / 4 = (j : Int) := by omega
      obtain ⟨x, hx⟩ : ∃ x, x = g0 (packN bl k) j := ⟨_, rfl⟩
      have hx32 : x < 4294967296 := hx ▸ g0_lt (packN_lt bl HB.out k) (by decide) j
      have hcj := hI.out.2.1.cell j (by rw [packN_len]; omega)
      have hfj := hI.out.2.1.frozen j
      rw [show (packN bl k)[j]?.getD 0 = x from hx.symm] at hcj
      obtain ⟨r, hr⟩ : ∃ r, r = (x * 256 % 4294967296 ||| y) := ⟨_, rfl⟩
      have hor : bits BinOp.or IntKind.u32 ((x : Int) * 256 % 4294967296) (y : Int) = (r : Int) := by
        rw [show (x : Int) * 256 % 4294967296 = ((x * 256 % 4294967296 : Nat) : Int) by omega, u32_or_nat _ _ (Nat.mod_lt _ (by decide)) (by omega), hr]
      have HP := Lib.hid (show packN bl (k + 1) = (packN bl k).set j r by rw [hr, hx, hy, hj]; rfl)
      clear hc hy hj hx hr
      go_wp2
      go_roundw
      case rel => exact ⟨k + 1, by go_num, by omega, hI.out.1.other _ _ (by show A ≠ A + 1; omega), by rw [HP.out]; exact hI.out.2.1.stored j r _ rfl, hI.out.2.2.setCell (p := ⟨A + 1, j, none⟩) (by show A ≤ A + 1; omega) _⟩
      case measure => simp [intOf]; omega
    · obtain rfl : k = 64 := by omega
      go_wp2
      rw [show ((64 : Nat) : Int) = 64 from rfl]
      go_loopw [6] (fun iv wr => ∃ t : Nat, iv = .int .i64 (t : Int) ∧ 16 ≤ t ∧ t ≤ 64 ∧ Hid (Arr .u32 73 wr A (List.replicate 64 0) ∧ Arr .u32 73 wr (A + 1) (extN (packN bl 64) (t - 16)) ∧ Below A w wr)) (fun iv _ => 64 - (intOf iv).toNat)
      case atStart => exact ⟨16, rfl, by decide, by decide, hI.out⟩
      case round =>
        clear hI
        obtain ⟨t, rfl, ht1, ht2, hI⟩ := hrel
        have hl64 := Lib.hid (extN_len (packN bl 64) (packN_len bl 64) (t - 16))
        have hlt64 := Lib.hid (extN_lt (packN bl 64) (packN_lt bl HB.out 64) (t - 16))
        rcases Nat.lt_or_ge t 64 with hlt | hge
        · have HE := Lib.hid (show extN (packN bl 64) (t + 1 - 16) = extS t (extN (packN bl 64) (t - 16)) by
            rw [show t + 1 - 16 = (t - 16) + 1 by omega]
            show extS (16 + (t - 16)) _ = _
            rw [show 16 + (t - 16) = t by omega])
          generalize extN (packN bl 64) (t - 16) = L at *
          obtain ⟨p16, hp16⟩ : ∃ p, p = t - 16 := ⟨_, rfl⟩
          have hc16 : (t : Int) - 16 = (p16 : Int) := by omega
          have hb16 : p16 < 64 := by omega
          have hk16 := hI.out.2.1.cell p16 (by rw [hl64.out]; exact hb16)
          obtain ⟨x16, hx16⟩ : ∃ x, x = g0 L p16 := ⟨_, rfl⟩
          have hy16 : x16 < 4294967296 := hx16 ▸ g0_lt hlt64.out (by decide) p16
          rw [show L[p16]?.getD 0 = x16 from hx16.symm] at hk16
          obtain ⟨p7, hp7⟩ : ∃ p, p = t - 7 := ⟨_, rfl⟩
          have hc7 : (t : Int) - 7 = (p7 : Int) := by omega
          have hb7 : p7 < 64 := by omega
          have hk7 := hI.out.2.1.cell p7 (by rw [hl64.out]; exact hb7)
          obtain ⟨x7, hx7⟩ : ∃ x, x = g0 L p7 := ⟨_, rfl⟩
          have hy7 : x7 < 4294967296 := hx7 ▸ g0_lt hlt64.out (by decide) p7
          rw [show L[p7]?.getD 0 = x7 from hx7.symm] at hk7
          obtain ⟨p15, hp15⟩ : ∃ p, p = t - 15 := ⟨_, rfl⟩
          have hc15 : (t : Int) - 15 = (p15 : Int) := by omega
          have hb15 : p15 < 64 := by omega
          have hk15 := hI.out.2.1.cell p15 (by rw [hl64.out]; exact hb15)
          obtain ⟨x15, hx15⟩ : ∃ x, x = g0 L p15 := ⟨_, rfl⟩
          have hy15 : x15 < 4294967296 := hx15 ▸ g0_lt hlt64.out (by decide) p15
          rw [show L[p15]?.getD 0 = x15 from hx15.symm] at hk15
          obtain ⟨p2, hp2⟩ : ∃ p, p = t - 2 := ⟨_, rfl⟩
          have hc2 : (t : Int) - 2 = (p2 : Int) := by omega
          have hb2 : p2 < 64 := by omega
          have hk2 := hI.out.2.1.cell p2 (by rw [hl64.out]; exact hb2)
          obtain ⟨x2, hx2⟩ : ∃ x, x = g0 L p2 := ⟨_, rfl⟩
          have hy2 : x2 < 4294967296 := hx2 ▸ g0_lt hlt64.out (by decide) p2
          rw [show L[p2]?.getD 0 = x2 from hx2.symm] at hk2
          obtain ⟨f1, hf1⟩ : ∃ r, r = rotr x15 7 := ⟨_, rfl⟩
          obtain ⟨f2, hf2⟩ : ∃ r, r = rotr x15 18 := ⟨_, rfl⟩
          have lf1 : f1 < 4294967296 := hf1 ▸ rotr_lt hy15
          have lf2 : f2 < 4294967296 := hf2 ▸ rotr_lt hy15
          obtain ⟨f3, hf3⟩ : ∃ r, r = f1 ^^^ f2 := ⟨_, rfl⟩
          have lf3 : f3 < 4294967296 := hf3 ▸ Nat.xor_lt_two_pow (n := 32) lf1 lf2
          obtain ⟨f4, hf4⟩ : ∃ r, r = x15 / 8 := ⟨_, rfl⟩
          have lf4 : f4 < 4294967296 := by omega
          obtain ⟨f, hf⟩ : ∃ r, r = f3 ^^^ f4 := ⟨_, rfl⟩
          have lf : f < 4294967296 := hf ▸ Nat.xor_lt_two_pow (n := 32) lf3 lf4
          have ef3 : bits BinOp.xor IntKind.u32 (f1 : Int) (f2 : Int) = (f3 : Int) := by rw [u32_xor_nat _ _ lf1 lf2, hf3]
          have ef4 : (x15 : Int) / 8 = (f4 : Int) := by omega
          have ef : bits BinOp.xor IntKind.u32 (f3 : Int) (f4 : Int) = (f : Int) := by rw [u32_xor_nat _ _ lf3 lf4, hf]
          have Gf := Lib.hid (show sigN x15 7 18 3 = f by rw [hf, hf3, hf4, hf1, hf2]; rfl)
          have Rf1 := Lib.hid hf1
          have Rf2 := Lib.hid hf2
          clear hf hf1 hf2 hf3 hf4
          obtain ⟨u1, hu1⟩ : ∃ r, r = rotr x2 17 := ⟨_, rfl⟩
          obtain ⟨u2, hu2⟩ : ∃ r, r = rotr x2 19 := ⟨_, rfl⟩
          have lu1 : u1 < 4294967296 := hu1 ▸ rotr_lt hy2
          have lu2 : u2 < 4294967296 := hu2 ▸ rotr_lt hy2
          obtain ⟨u3, hu3⟩ : ∃ r, r = u1 ^^^ u2 := ⟨_, rfl⟩
          have lu3 : u3 < 4294967296 := hu3 ▸ Nat.xor_lt_two_pow (n := 32) lu1 lu2
          obtain ⟨u4, hu4⟩ : ∃ r, r = x2 / 1024 := ⟨_, rfl⟩
          have lu4 : u4 < 4294967296 := by omega
          obtain ⟨u, hu⟩ : ∃ r, r = u3 ^^^ u4 := ⟨_, rfl⟩
          have lu : u < 4294967296 := hu ▸ Nat.xor_lt_two_pow (n := 32) lu3 lu4
          have eu3 : bits BinOp.xor IntKind.u32 (u1 : Int) (u2 : Int) = (u3 : Int) := by rw [u32_xor_nat _ _ lu1 lu2, hu3]
          have eu4 : (x2 : Int) / 1024 = (u4 : Int) := by omega
          have eu : bits BinOp.xor IntKind.u32 (u3 : Int) (u4 : Int) = (u : Int) := by rw [u32_xor_nat _ _ lu3 lu4, hu]
          have Gu := Lib.hid (show sigN x2 17 19 10 = u by rw [hu, hu3, hu4, hu1, hu2]; rfl)
          have Ru1 := Lib.hid hu1
          have Ru2 := Lib.hid hu2
          clear hu hu1 hu2 hu3 hu4
          obtain ⟨s1, hs1⟩ : ∃ s, s = (x16 + x7) % 4294967296 := ⟨_, rfl⟩
          obtain ⟨s2, hs2⟩ : ∃ s, s = (s1 + f) % 4294967296 := ⟨_, rfl⟩
          obtain ⟨s3, hs3⟩ : ∃ s, s = (s2 + u) % 4294967296 := ⟨_, rfl⟩
          have es1 : ((x16 : Int) + (x7 : Int)) % 4294967296 = (s1 : Int) := by omega
          have es2 : ((s1 : Int) + (f : Int)) % 4294967296 = (s2 : Int) := by omega
          have es3 : ((s2 : Int) + (u : Int)) % 4294967296 = (s3 : Int) := by omega
          have ls1 : s1 < 4294967296 := by omega
          have ls2 : s2 < 4294967296 := by omega
          have HE2 := Lib.hid (show extN (packN bl 64) (t + 1 - 16) = L.set t s3 by
            rw [HE.out]
            unfold extS
            rw [← hp16, ← hp7, ← hp15, ← hp2, ← hx16, ← hx7, ← hx15, ← hx2, Gf.out, Gu.out, ← hs1, ← hs2, ← hs3])
          have hft := hI.out.2.1.frozen t
          have hkt := hI.out.2.1.cell t (by rw [hl64.out]; exact hlt)
          clear hs1 hs2 hs3 hp16 hp7 hp15 hp2 hx16 hx7 hx15 hx2 HE Gf Gu
          go_wp2_with fail
          go_quiet (fail)
          go_wp2_with fail
          refine (rot_any x15 7 _ _ rfl (by decide) (by decide) hy15 f1 Rf1.out).mono ?_
          rintro e w1 ⟨rfl, rfl⟩
          go_wp2_with fail
          refine (rot_any x15 18 _ _ rfl (by decide) (by decide) hy15 f2 Rf2.out).mono ?_
          rintro e w1 ⟨rfl, rfl⟩
          go_wp2_with fail
          refine (rot_any x2 17 _ _ rfl (by decide) (by decide) hy2 u1 Ru1.out).mono ?_
          rintro e w1 ⟨rfl, rfl⟩
          go_wp2_with fail
          refine (rot_any x2 19 _ _ rfl (by decide) (by decide) hy2 u2 Ru2.out).mono ?_
          rintro e w1 ⟨rfl, rfl⟩
          go_wp2_with fail
          go_region
          go_wp2
          go_roundw
          case rel => exact ⟨t + 1, by go_num, by omega, by omega, (hI.out.1.drewN nq).other _ _ (by show A ≠ A + 1; omega), by rw [HE2.out]; exact (hI.out.2.1.drewN nq).stored t s3 _ rfl, ((below_drewS hI.out.2.2 nq).setCell (p := ⟨A + 1, t, none⟩) (by show A ≤ A + 1; omega) _).drew⟩
          case measure => simp [intOf]; omega
        · obtain rfl : t = 64 := by omega
          have hrow : Arr .u32 73 wr (A + 1) (schedN bl) := hI.out.2.1
          have hres : Arr .u32 73 (wr.setRow A (arrC .u32 (schedN bl))) A (schedN bl) := setRow_heap wr A _ _ _ _ hI.out.1
          have hls := schedN_len bl
          go_wp2_with (first | (refine wpList_load_row rfl _ _ rfl (A + 1) rfl _ (arrC .u32 (schedN bl)) _ _ hrow Tryd.underlying73 rfl (by rw [arrC_size, hls]; kernel_rfl) ?_) | (refine wpList_store_row rfl _ _ _ rfl A (arrC .u32 (schedN bl)) rfl rfl _ _ hI.out.1 (by rw [arrC_size, hls]; kernel_rfl) (by rw [arrC_size, arrC_size, hls]; rfl) (arrC_one _ _) ?_))
          go_wp2
          refine bodyPost_ret (v := .agg (arrC .u32 (schedN bl))) (results_cell_row (ty := 73) (p := 2) (by kernel_rfl) _ _ A _ _ _ _ rfl hres Tryd.underlying73 rfl (by rw [arrC_size, hls]; kernel_rfl)) rfl ?_
          exact ⟨rfl, HA.out ▸ below_setRow hI.out.2.2 (Nat.le_refl _) _⟩

end Go.Proofs.YtmfjhgjplmpecaaDoor
