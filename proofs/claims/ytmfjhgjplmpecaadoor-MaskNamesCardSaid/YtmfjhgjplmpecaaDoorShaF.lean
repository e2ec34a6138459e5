/-
  SHA-256: turn. (Written by wip/gen_shaF.py.)
-/
import Derived.Test.YtmfjhgjplmpecaaDoorShaE
namespace Go.Proofs.YtmfjhgjplmpecaaDoor
open Go.RowKit

theorem grown_trans {x y z : World} {r : Option Nat} (h : x.grownBy y r) (k : y.grownBy z r) : x.grownBy z r :=
  ⟨k.os.trans h.os, k.tape.trans h.tape, k.output.trans h.output, Nat.le_trans h.size k.size, fun i hi hr => (k.block i (Nat.lt_of_lt_of_le hi h.size) hr).trans (h.block i hi hr)⟩
theorem grown_below {x y : World} (h : Below x.heap.size x y) (r : Option Nat) : x.grownBy y r := ⟨h.os, h.tape, h.output, h.size, fun i hi _ => h.block i hi⟩
theorem grown_drewN {x y : World} {r : Option Nat} (h : x.grownBy y r) (n : Nat) : x.grownBy (y.drewN n) r := ⟨h.os, h.tape, h.output, h.size, h.block⟩
theorem grown_drew {x y : World} {r : Option Nat} (h : x.grownBy y r) : x.grownBy y.drew r := ⟨h.os, h.tape, h.output, h.size, h.block⟩
theorem grown_set {x y : World} {g : Nat} (h : x.grownBy y (some g)) (i : Nat) (v : Value) : x.grownBy (y.setCell ⟨g, i, none⟩ v) (some g) :=
  ⟨h.os, h.tape, h.output, by simpa using h.size, fun k hk hr => (heap_setCell_other y ⟨g, i, none⟩ k v (fun e => hr (by rw [e]))).trans (h.block k hk hr)⟩

theorem kept2 (w W2 : World) (c d : Array Value) {T E : TypeId} (h : (w.alloc (.cells c T)).alloc (.cells d E) = W2) : Below w.heap.size w W2 ∧ W2.heap[w.heap.size + 1]? = some (.cells d E (0, 0)) ∧ W2.heap.size = w.heap.size + 2 := by
  subst h
  refine ⟨((Below.refl _ _).alloc (Nat.le_refl _) _).alloc (by simp) _, ?_, by simp⟩
  have := Go.heap_alloc_new (w.alloc (.cells c T)) (.cells d E)
  rwa [World.size_alloc] at this
theorem arrC_eight : ∀ (ws : List Nat), ws.length = 8 → #[Value.int .u32 ((g0 ws 0 : Nat) : Int), .int .u32 ((g0 ws 1 : Nat) : Int), .int .u32 ((g0 ws 2 : Nat) : Int), .int .u32 ((g0 ws 3 : Nat) : Int), .int .u32 ((g0 ws 4 : Nat) : Int), .int .u32 ((g0 ws 5 : Nat) : Int), .int .u32 ((g0 ws 6 : Nat) : Int), .int .u32 ((g0 ws 7 : Nat) : Int)] = arrC .u32 ws
  | [_, _, _, _, _, _, _, _], _ => rfl
theorem not_cast (e : Nat) (h : e < 4294967296) : bits BinOp.xor IntKind.u32 (if IntKind.u32.signed = true then -1 else IntKind.u32.max) (e : Int) = ((4294967295 - e : Nat) : Int) := by
  have e1 : (if IntKind.u32.signed = true then (-1 : Int) else IntKind.u32.max) = ((4294967295 : Nat) : Int) := rfl
  have e2 : (4294967295 ^^^ e : Nat) = 4294967295 - e := by
    have h1 := congrArg BitVec.toNat (BitVec.allOnes_xor (x := BitVec.ofNat 32 e))
    rw [BitVec.toNat_xor, BitVec.toNat_allOnes, BitVec.toNat_not, BitVec.toNat_ofNat, Nat.mod_eq_of_lt (by simpa using h)] at h1
    exact h1
  rw [e1, u32_xor_nat _ _ (by decide) h, e2]
theorem set8 : ∀ {l : List Nat}, l.length = 8 → ∀ (a b c d e f g h : Nat), (((((((l.set 0 a).set 1 b).set 2 c).set 3 d).set 4 e).set 5 f).set 6 g).set 7 h = [a, b, c, d, e, f, g, h]
  | [_, _, _, _, _, _, _, _], _, _, _, _, _, _, _, _, _ => rfl
theorem idx8 (l : List Nat) (i : Nat) (hi : i < 8) (hl : l.length = 8) (w : World) : (Instr.index 74 (.agg (arrC .u32 l)) (.int .i64 (i : Int))).run Tryd.prog w = .ok (.int .u32 ((l[i]?.getD 0 : Nat) : Int)) w := by
  have hu : ∀ w, (underlying 74).run Tryd.prog w = .ok (.array 8 72) w := fun _ => by kernel_rfl
  have hs : ∀ w, (sizeOf 72).run Tryd.prog w = .ok 1 w := fun _ => by kernel_rfl
  have ha : ∀ w, (isAgg 72).run Tryd.prog w = .ok false w := fun _ => by kernel_rfl
  have hg := arrC_get .u32 l i (by omega)
  have h1 : 0 ≤ (i : Int) ∧ (i : Int) < ((8 : Nat) : Int) := by omega
  unfold Instr.index
  simp only [asIntOf, Sem.run_bind, Sem.run_pure, Result.andThen_ok, hu, if_pos h1, hs, Int.toNat_natCast, Nat.mul_one, part, ha]
  rw [hg]
  rfl
theorem StateAt.drew' {w : World} {g bits : Nat} {ws tail : List Nat} {taken : Nat} (h : StateAt w g bits ws tail taken) : StateAt w.drew g bits ws tail taken := h.block rfl
theorem rdsN_zero (ws sc : List Nat) : rdsN ws sc 0 = ws := rfl
set_option maxRecDepth 100000 in
set_option maxHeartbeats 4000000 in
theorem turn_any (g bt : Nat) (ws tail : List Nat) (taken : Nat) (a : Option Addr) (cap : Nat) (bl : List Nat) (w : World) (h : StateAt w g bt ws tail taken) (hr : Reads .u8 w a 64 cap bl) (hb : ∀ x ∈ bl, x < 256) :
    Calls Tryd.prog 50 #[.pointer (some ⟨g, 0, none⟩), .slice a 64 cap] w fun e w' => e = .returned (.tuple #[]) ∧ StateAt w' g bt (turnN ws bl) tail taken ∧ w.grownBy w' (some g) := by
  have H := Lib.hid h
  have HR := Lib.hid hr
  have HB := Lib.hid hb
  have h0 : Tryd.f50.results = #[] := by kernel_rfl
  have H0 := Lib.hid h0
  clear h hr hb h0
  go_enter Tryd.func50, Tryd.ntmps50
  go_wp2_with fail
  refine (written_any w).mono ?_
  rintro e w1 ⟨rfl, rfl⟩
  have tf := tab_field (w.alloc (.cells tabC 89))
  go_wp2_with (refine wpList_store_row rfl _ _ _ rfl (w.heap.size + 1) (arrC .u32 kL) rfl rfl 73 (arrC .u32 (List.replicate 64 0)) (by rw [← z64, ← World.size_alloc w (.cells tabC 89)]; exact Go.heap_alloc_new _ _) (by kernel_rfl) (by kernel_rfl) (arrC_one _ _) ?_; generalize hW2 : World.setRow _ (w.heap.size + 1) (arrC .u32 kL) = W2; rw [z64, ← World.size_alloc w (.cells tabC 89), alloc_setRow] at hW2; have HF := Lib.hid (kept2 w W2 _ _ hW2); have H2 := Lib.hid (H.out.below HF.out.1 H.out.lt); have HR2 := Lib.hid (HR.out.below HF.out.1); have hK2 := Lib.hid (HF.out.2); clear hW2 tf; have c0 := H2.out.word 0 (by decide); have c1 := H2.out.word 1 (by decide); have c2 := H2.out.word 2 (by decide); have c3 := H2.out.word 3 (by decide); have c4 := H2.out.word 4 (by decide); have c5 := H2.out.word 5 (by decide); have c6 := H2.out.word 6 (by decide); have c7 := H2.out.word 7 (by decide); simp only [Nat.reduceAdd] at c0 c1 c2 c3 c4 c5 c6 c7)
  rw [arrC_eight ws H.out.wlen]
  have hb3 := (Below.refl W2.heap.size W2).alloc (Nat.le_refl _) (.cells (arrC .u32 ws) 74)
  have HV := Lib.hid (show Arr .u32 74 (W2.alloc (.cells (arrC .u32 ws) 74)) W2.heap.size (rdsN ws (schedN bl) 0) from Go.heap_alloc_new W2 _)
  have HK := Lib.hid (show Arr .u32 73 (W2.alloc (.cells (arrC .u32 ws) 74)) (w.heap.size + 1) kL from Arr.alloc hK2.out.1 _)
  have hzz := Lib.hid hK2.out.2
  have F := Lib.hid (HF.out.1.trans (hb3.mono HF.out.1.size))
  replace HR2 := Lib.hid (HR2.out.below hb3)
  have hV3 : W2.heap.size < (W2.alloc (.cells (arrC .u32 ws) 74)).heap.size := by simp
  generalize W2.alloc (.cells (arrC .u32 ws) 74) = W3 at *
  obtain ⟨V, hVe⟩ : ∃ V, V = W2.heap.size := ⟨_, rfl⟩
  obtain ⟨Kb, hKe⟩ : ∃ K, K = w.heap.size + 1 := ⟨_, rfl⟩
  rw [← hVe] at HV hV3 ⊢
  rw [← hKe] at HK ⊢
  have HKV := Lib.hid (show w.heap.size ≤ Kb ∧ Kb < V by have := hzz.out; omega)
  clear hb3 HF H2 hK2 hzz hVe hKe c0 c1 c2 c3 c4 c5 c6 c7
  refine (schedule_any a cap bl W3 HR2.out HB.out).mono ?_
  rintro e w4 ⟨rfl, hb4⟩
  replace HV := Lib.hid (HV.out.below hb4 hV3)
  replace HK := Lib.hid (HK.out.below hb4 (Nat.lt_trans HKV.out.2 hV3))
  replace F := Lib.hid (F.out.trans (hb4.mono F.out.size))
  have HSL := Lib.hid (schedN_len bl)
  have HSB := Lib.hid (schedN_lt bl HB.out)
  have HTN := Lib.hid (show turnN ws bl = addTo ws (rdsN ws (schedN bl) 64) 8 from rfl)
  clear hb4 HR2 hV3
  generalize schedN bl = sc at *
  go_wp2_with fail
  go_loopw [20] (fun iv wr => ∃ i : Nat, iv = .int .i64 (i : Int) ∧ i ≤ 64 ∧ Hid (Arr .u32 73 wr Kb kL ∧ Arr .u32 74 wr V (rdsN ws sc i) ∧ Below w.heap.size w wr)) (fun iv _ => 64 - (intOf iv).toNat)
  case atStart => exact ⟨0, rfl, by decide, HK.out, HV.out, F.out⟩
  case round =>
    obtain ⟨i, rfl, hi, hI⟩ := hrel
    rcases Nat.lt_or_ge i 64 with hlt | hge
    · skip
      have hVl := rdsN_len ws sc H.out.wlen i
      have hVb := rdsN_lt ws sc H.out.wlt i
      have cv0 := hI.out.2.1.cell 0 (by rw [hVl]; decide)
      obtain ⟨a, ha⟩ : ∃ x, x = g0 (rdsN ws sc i) 0 := ⟨_, rfl⟩
      have la : a < 4294967296 := ha ▸ g0_lt hVb (by decide) 0
      rw [show (rdsN ws sc i)[0]?.getD 0 = a from ha.symm] at cv0
      have cv1 := hI.out.2.1.cell 1 (by rw [hVl]; decide)
      obtain ⟨b, hb⟩ : ∃ x, x = g0 (rdsN ws sc i) 1 := ⟨_, rfl⟩
      have lb : b < 4294967296 := hb ▸ g0_lt hVb (by decide) 1
      rw [show (rdsN ws sc i)[1]?.getD 0 = b from hb.symm] at cv1
      have cv2 := hI.out.2.1.cell 2 (by rw [hVl]; decide)
      obtain ⟨c, hc⟩ : ∃ x, x = g0 (rdsN ws sc i) 2 := ⟨_, rfl⟩
      have lc : c < 4294967296 := hc ▸ g0_lt hVb (by decide) 2
      rw [show (rdsN ws sc i)[2]?.getD 0 = c from hc.symm] at cv2
      have cv3 := hI.out.2.1.cell 3 (by rw [hVl]; decide)
      obtain ⟨d, hd⟩ : ∃ x, x = g0 (rdsN ws sc i) 3 := ⟨_, rfl⟩
      have ld : d < 4294967296 := hd ▸ g0_lt hVb (by decide) 3
      rw [show (rdsN ws sc i)[3]?.getD 0 = d from hd.symm] at cv3
      have cv4 := hI.out.2.1.cell 4 (by rw [hVl]; decide)
      obtain ⟨e, he⟩ : ∃ x, x = g0 (rdsN ws sc i) 4 := ⟨_, rfl⟩
      have le : e < 4294967296 := he ▸ g0_lt hVb (by decide) 4
      rw [show (rdsN ws sc i)[4]?.getD 0 = e from he.symm] at cv4
      have cv5 := hI.out.2.1.cell 5 (by rw [hVl]; decide)
      obtain ⟨f, hf⟩ : ∃ x, x = g0 (rdsN ws sc i) 5 := ⟨_, rfl⟩
      have lf : f < 4294967296 := hf ▸ g0_lt hVb (by decide) 5
      rw [show (rdsN ws sc i)[5]?.getD 0 = f from hf.symm] at cv5
      have cv6 := hI.out.2.1.cell 6 (by rw [hVl]; decide)
      obtain ⟨m, hm⟩ : ∃ x, x = g0 (rdsN ws sc i) 6 := ⟨_, rfl⟩
      have lm : m < 4294967296 := hm ▸ g0_lt hVb (by decide) 6
      rw [show (rdsN ws sc i)[6]?.getD 0 = m from hm.symm] at cv6
      have cv7 := hI.out.2.1.cell 7 (by rw [hVl]; decide)
      obtain ⟨h, hh⟩ : ∃ x, x = g0 (rdsN ws sc i) 7 := ⟨_, rfl⟩
      have lh : h < 4294967296 := hh ▸ g0_lt hVb (by decide) 7
      rw [show (rdsN ws sc i)[7]?.getD 0 = h from hh.symm] at cv7
      have ck := hI.out.1.cell i (by rw [kL_len]; exact hlt)
      obtain ⟨k, hk⟩ : ∃ x, x = g0 kL i := ⟨_, rfl⟩
      have lk : k < 4294967296 := hk ▸ g0_lt kL_lt (by decide) i
      rw [show kL[i]?.getD 0 = k from hk.symm] at ck
      have ix := idx64 sc i hlt HSL.out wr
      obtain ⟨u, hu⟩ : ∃ x, x = g0 sc i := ⟨_, rfl⟩
      have lu : u < 4294967296 := hu ▸ g0_lt HSB.out (by decide) i
      rw [show sc[i]?.getD 0 = u from hu.symm] at ix
      have HE := Lib.hid (show rdsN ws sc (i + 1) = [(yN e f m h k u + zN a b c) % 4294967296, a, b, c, (d + yN e f m h k u) % 4294967296, e, f, m] by rw [ha, hb, hc, hd, he, hf, hm, hh, hk, hu]; rfl)
      clear ha hb hc hd he hf hm hh hk hu hVl hVb
      obtain ⟨L1, hL1⟩ : ∃ x, x = laidN e 6 11 25 := ⟨_, rfl⟩
      have lL1 : L1 < 4294967296 := by rw [hL1]; exact laidN_lt le
      obtain ⟨s1, hs1⟩ : ∃ x, x = (h + k) % 4294967296 := ⟨_, rfl⟩
      have ls1 : s1 < 4294967296 := by omega
      obtain ⟨s2, hs2⟩ : ∃ x, x = (s1 + u) % 4294967296 := ⟨_, rfl⟩
      have ls2 : s2 < 4294967296 := by omega
      obtain ⟨s3, hs3⟩ : ∃ x, x = (s2 + L1) % 4294967296 := ⟨_, rfl⟩
      have ls3 : s3 < 4294967296 := by omega
      obtain ⟨A1, hA1⟩ : ∃ x, x = e &&& f := ⟨_, rfl⟩
      have lA1 : A1 < 4294967296 := by rw [hA1]; exact Nat.and_lt_two_pow (n := 32) e lf
      obtain ⟨N1, hN1⟩ : ∃ x, x = 4294967295 - e := ⟨_, rfl⟩
      have lN1 : N1 < 4294967296 := by omega
      obtain ⟨A2, hA2⟩ : ∃ x, x = N1 &&& m := ⟨_, rfl⟩
      have lA2 : A2 < 4294967296 := by rw [hA2]; exact Nat.and_lt_two_pow (n := 32) N1 lm
      obtain ⟨X1, hX1⟩ : ∃ x, x = A1 ^^^ A2 := ⟨_, rfl⟩
      have lX1 : X1 < 4294967296 := by rw [hX1]; exact Nat.xor_lt_two_pow (n := 32) lA1 lA2
      obtain ⟨y, hy⟩ : ∃ x, x = (s3 + X1) % 4294967296 := ⟨_, rfl⟩
      have ly : y < 4294967296 := by omega
      obtain ⟨L2, hL2⟩ : ∃ x, x = laidN a 2 13 22 := ⟨_, rfl⟩
      have lL2 : L2 < 4294967296 := by rw [hL2]; exact laidN_lt la
      obtain ⟨B1, hB1⟩ : ∃ x, x = a &&& b := ⟨_, rfl⟩
      have lB1 : B1 < 4294967296 := by rw [hB1]; exact Nat.and_lt_two_pow (n := 32) a lb
      obtain ⟨B2, hB2⟩ : ∃ x, x = a &&& c := ⟨_, rfl⟩
      have lB2 : B2 < 4294967296 := by rw [hB2]; exact Nat.and_lt_two_pow (n := 32) a lc
      obtain ⟨B3, hB3⟩ : ∃ x, x = b &&& c := ⟨_, rfl⟩
      have lB3 : B3 < 4294967296 := by rw [hB3]; exact Nat.and_lt_two_pow (n := 32) b lc
      obtain ⟨X2, hX2⟩ : ∃ x, x = B1 ^^^ B2 := ⟨_, rfl⟩
      have lX2 : X2 < 4294967296 := by rw [hX2]; exact Nat.xor_lt_two_pow (n := 32) lB1 lB2
      obtain ⟨X3, hX3⟩ : ∃ x, x = X2 ^^^ B3 := ⟨_, rfl⟩
      have lX3 : X3 < 4294967296 := by rw [hX3]; exact Nat.xor_lt_two_pow (n := 32) lX2 lB3
      obtain ⟨z, hz⟩ : ∃ x, x = (L2 + X3) % 4294967296 := ⟨_, rfl⟩
      have lz : z < 4294967296 := by omega
      obtain ⟨n0, hn0⟩ : ∃ x, x = (y + z) % 4294967296 := ⟨_, rfl⟩
      have ln0 : n0 < 4294967296 := by omega
      obtain ⟨n4, hn4⟩ : ∃ x, x = (d + y) % 4294967296 := ⟨_, rfl⟩
      have ln4 : n4 < 4294967296 := by omega
      have es1 : ((h : Int) + (k : Int)) % 4294967296 = (s1 : Int) := by omega
      have es2 : ((s1 : Int) + (u : Int)) % 4294967296 = (s2 : Int) := by omega
      have es3 : ((s2 : Int) + (L1 : Int)) % 4294967296 = (s3 : Int) := by omega
      have ey : ((s3 : Int) + (X1 : Int)) % 4294967296 = (y : Int) := by omega
      have ez : ((L2 : Int) + (X3 : Int)) % 4294967296 = (z : Int) := by omega
      have en0 : ((y : Int) + (z : Int)) % 4294967296 = (n0 : Int) := by omega
      have en4 : ((d : Int) + (y : Int)) % 4294967296 = (n4 : Int) := by omega
      have eN1 : bits BinOp.xor IntKind.u32 (if IntKind.u32.signed = true then -1 else IntKind.u32.max) (e : Int) = (N1 : Int) := by rw [hN1]; exact not_cast e le
      have eA1 : bits BinOp.and IntKind.u32 (e : Int) (f : Int) = (A1 : Int) := by rw [u32_and_nat _ _ le lf, hA1]
      have eA2 : bits BinOp.and IntKind.u32 (N1 : Int) (m : Int) = (A2 : Int) := by rw [u32_and_nat _ _ lN1 lm, hA2]
      have eX1 : bits BinOp.xor IntKind.u32 (A1 : Int) (A2 : Int) = (X1 : Int) := by rw [u32_xor_nat _ _ lA1 lA2, hX1]
      have eB1 : bits BinOp.and IntKind.u32 (a : Int) (b : Int) = (B1 : Int) := by rw [u32_and_nat _ _ la lb, hB1]
      have eB2 : bits BinOp.and IntKind.u32 (a : Int) (c : Int) = (B2 : Int) := by rw [u32_and_nat _ _ la lc, hB2]
      have eB3 : bits BinOp.and IntKind.u32 (b : Int) (c : Int) = (B3 : Int) := by rw [u32_and_nat _ _ lb lc, hB3]
      have eX2 : bits BinOp.xor IntKind.u32 (B1 : Int) (B2 : Int) = (X2 : Int) := by rw [u32_xor_nat _ _ lB1 lB2, hX2]
      have eX3 : bits BinOp.xor IntKind.u32 (X2 : Int) (B3 : Int) = (X3 : Int) := by rw [u32_xor_nat _ _ lX2 lB3, hX3]
      have HE2 := Lib.hid (show rdsN ws sc (i + 1) = [n0, a, b, c, n4, e, f, m] by rw [HE.out, hn0, hn4, hy, hz, hX3, hX2, hX1, hs3, hs2, hs1, hA1, hA2, hN1, hB1, hB2, hB3, hL1, hL2]; rfl)
      have RL1 := Lib.hid hL1
      have RL2 := Lib.hid hL2
      clear HE hL1 hs1 hs2 hs3 hA1 hN1 hA2 hX1 hy hL2 hB1 hB2 hB3 hX2 hX3 hz hn0 hn4
      go_wp2_with fail
      go_quiet ((go_at_call 66; exact Calls.quiet_of_same ((laid_any e 6 11 25 _ _ _ _ rfl rfl rfl (by decide) (by decide) (by decide) le L1 RL1.out).mono fun _ _ ⟨h1, h2⟩ => ⟨h1, h2.symm⟩)))
      have q5 : Hid (Arr .u32 73 (wr.drewN nq) Kb kL ∧ Arr .u32 74 (wr.drewN nq) V (rdsN ws sc i) ∧ Below w.heap.size w (wr.drewN nq)) := ⟨hI.out.1, hI.out.2.1, below_drewS hI.out.2.2 nq⟩
      have d0 : (wr.drewN nq).cell? ⟨V, 0, none⟩ = some (.int .u32 (a : Int)) := cv0
      have d1 : (wr.drewN nq).cell? ⟨V, 1, none⟩ = some (.int .u32 (b : Int)) := cv1
      have d2 : (wr.drewN nq).cell? ⟨V, 2, none⟩ = some (.int .u32 (c : Int)) := cv2
      have d3 : (wr.drewN nq).cell? ⟨V, 3, none⟩ = some (.int .u32 (d : Int)) := cv3
      have d4 : (wr.drewN nq).cell? ⟨V, 4, none⟩ = some (.int .u32 (e : Int)) := cv4
      have d5 : (wr.drewN nq).cell? ⟨V, 5, none⟩ = some (.int .u32 (f : Int)) := cv5
      have d6 : (wr.drewN nq).cell? ⟨V, 6, none⟩ = some (.int .u32 (m : Int)) := cv6
      generalize wr.drewN nq = w5 at *
      clear cv0 cv1 cv2 cv3 cv4 cv5 cv6 cv7 ck ix hI
      have hff := q5.out.2.1.frozen
      have f0 := hff 0
      have f1 := hff 1
      have f2 := hff 2
      have f3 := hff 3
      have f4 := hff 4
      have f5 := hff 5
      have f6 := hff 6
      have f7 := hff 7
      have c7 := q5.out.2.1.cell 7 (by rw [rdsN_len ws sc H.out.wlen i]; decide)
      clear hff
      go_wp2_with fail
      go_quiet ((go_at_call 66; exact Calls.quiet_of_same ((laid_any a 2 13 22 _ _ _ _ rfl rfl rfl (by decide) (by decide) (by decide) la L2 RL2.out).mono fun _ _ ⟨h1, h2⟩ => ⟨h1, h2.symm⟩)))
      go_wp2
      go_roundw
      case rel =>
        refine ⟨i + 1, by go_num, by omega, ?_⟩
        rw [HE2.out, ← set8 (rdsN_len ws sc H.out.wlen i) n0 a b c n4 e f m]
        have hne : Kb ≠ V := by have := HKV.out.2; omega
        have hle : w.heap.size ≤ V := by have := HKV.out; omega
        exact ⟨((((((((q5.out.1.drewN nq).other _ _ hne).other _ _ hne).other _ _ hne).other _ _ hne).other _ _ hne).other _ _ hne).other _ _ hne).other _ _ hne, ((((((((q5.out.2.1.drewN nq).stored 0 n0 _ rfl).stored 1 a _ rfl).stored 2 b _ rfl).stored 3 c _ rfl).stored 4 n4 _ rfl).stored 5 e _ rfl).stored 6 f _ rfl).stored 7 m _ rfl, ((((((((below_drewS q5.out.2.2 nq).setCell (p := ⟨V, 0, none⟩) hle _).setCell (p := ⟨V, 1, none⟩) hle _).setCell (p := ⟨V, 2, none⟩) hle _).setCell (p := ⟨V, 3, none⟩) hle _).setCell (p := ⟨V, 4, none⟩) hle _).setCell (p := ⟨V, 5, none⟩) hle _).setCell (p := ⟨V, 6, none⟩) hle _).setCell (p := ⟨V, 7, none⟩) hle _⟩
      case measure => simp [intOf]; omega
    · obtain rfl : i = 64 := by omega
      have H4 := Lib.hid (H.out.below hI.out.2.2 H.out.lt)
      have G4 := Lib.hid (grown_below hI.out.2.2 (some g))
      have hv := hI.out.2.1
      have hvl := Lib.hid (rdsN_len ws sc H.out.wlen 64)
      have hvb := Lib.hid (rdsN_lt ws sc H.out.wlt 64)
      generalize rdsN ws sc 64 = v at *
      have hHv := Lib.hid hv
      clear hI hv
      go_wp2_with (refine wpList_load_row rfl _ _ rfl V rfl _ (arrC .u32 v) _ _ hHv.out Tryd.underlying74 rfl (by rw [arrC_size, hvl.out]; kernel_rfl) ?_)
      go_loopw [92] (fun iv wq => ∃ j : Nat, iv = .int .i64 (j : Int) ∧ j ≤ 8 ∧ Hid (StateAt wq g bt (addTo ws v j) tail taken ∧ w.grownBy wq (some g))) (fun iv _ => 8 - (intOf iv).toNat)
      case atStart => exact ⟨0, rfl, by decide, H4.out, G4.out⟩
      case round =>
        obtain ⟨j, rfl, hj, hI⟩ := hrel
        rcases Nat.lt_or_ge j 8 with hlt | hge
        · have cj := hI.out.1.word j hlt
          have fj := hI.out.1.frozen (1 + j)
          obtain ⟨x, hx⟩ : ∃ x, x = g0 (addTo ws v j) j := ⟨_, rfl⟩
          rw [← hx] at cj
          have lx : x < 4294967296 := hx ▸ g0_lt hI.out.1.wlt (by decide) j
          have ix := idx8 v j hlt hvl.out
          obtain ⟨u, hu⟩ : ∃ u, u = g0 v j := ⟨_, rfl⟩
          have lu : u < 4294967296 := hu ▸ g0_lt hvb.out (by decide) j
          rw [show v[j]?.getD 0 = u from hu.symm] at ix
          have ixw := ix wr
          obtain ⟨s, hs⟩ : ∃ s, s = (x + u) % 4294967296 := ⟨_, rfl⟩
          have ls : s < 4294967296 := by omega
          have es : ((x : Int) + (u : Int)) % 4294967296 = (s : Int) := by omega
          have HE := Lib.hid (show addTo ws v (j + 1) = (addTo ws v j).set j s by rw [hs, hx, hu]; rfl)
          clear hx hu hs ix
          go_wp2_with fail
          go_region
          go_wp2
          go_roundw
          case rel => exact ⟨j + 1, by go_num, by omega, by rw [HE.out]; exact (hI.out.1.drew').setWord j s hlt _ rfl ls, grown_set (grown_drew hI.out.2) _ _⟩
          case measure => simp [intOf]; omega
        · obtain rfl : j = 8 := by omega
          go_wp2
          refine bodyPost_end (v := .tuple #[]) (by simp [results, H0.out]) rfl ?_
          exact ⟨rfl, by rw [HTN.out]; exact hI.out.1, hI.out.2⟩

end Go.Proofs.YtmfjhgjplmpecaaDoor
