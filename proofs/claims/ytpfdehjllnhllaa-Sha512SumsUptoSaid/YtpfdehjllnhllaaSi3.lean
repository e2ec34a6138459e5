/-
  SHA-512, the reference: product.
-/
import Derived.Test.YtpfdehjllnhllaaSi2
namespace Go.Proofs.Ytpfdehjllnhllaa
open Go.RowKit Go.Shelf

/-- One step of a row's product. -/
def inS (a b : List Nat) (i : Nat) (st : List Nat × Nat) (k : Nat) : List Nat × Nat :=
  (st.1.set (i + k) ((g0 st.1 (i + k) + g0 a i * g0 b k + st.2) % 4294967296), (g0 st.1 (i + k) + g0 a i * g0 b k + st.2) / 4294967296)
def inN (a b : List Nat) (i : Nat) (out : List Nat) : Nat → List Nat × Nat
  | 0 => (out, 0)
  | k + 1 => inS a b i (inN a b i out k) k
def outN (a b : List Nat) : Nat → List Nat
  | 0 => List.replicate 8 0
  | i + 1 => (inN a b i (outN a b i) (8 - i)).1
def productN (a b : List Nat) : List Nat := outN a b 8
/-- Eight limbs. -/
def Eight (l : List Nat) : Prop := l.length = 8 ∧ ∀ x ∈ l, x < 4294967296
theorem step_lt {x y z c : Nat} (hx : x < 4294967296) (hy : y < 4294967296) (hz : z < 4294967296) (hc : c < 4294967296) : x * y ≤ 18446744065119617025 ∧ z + x * y + c < 18446744073709551616 := by
  have h : x * y ≤ 4294967295 * 4294967295 := Nat.mul_le_mul (by omega) (by omega)
  omega
theorem inS_ok {a b : List Nat} {i k : Nat} {st : List Nat × Nat} (ha : Eight a) (hb : Eight b) (h : Eight st.1) (hc : st.2 < 4294967296) : Eight (inS a b i st k).1 ∧ (inS a b i st k).2 < 4294967296 := by
  have := step_lt (g0_lt ha.2 (by decide) i) (g0_lt hb.2 (by decide) k) (g0_lt h.2 (by decide) (i + k)) hc
  refine ⟨⟨by simp [inS, h.1], set_lt h.2 _ _ (Nat.mod_lt _ (by decide))⟩, ?_⟩
  show _ / 4294967296 < 4294967296
  omega
theorem inN_ok {a b : List Nat} {i : Nat} {out : List Nat} (ha : Eight a) (hb : Eight b) (h : Eight out) : ∀ k, Eight (inN a b i out k).1 ∧ (inN a b i out k).2 < 4294967296
  | 0 => ⟨h, Nat.lt_of_lt_of_le (Nat.zero_lt_one) (by decide)⟩
  | k + 1 => inS_ok ha hb (inN_ok ha hb h k).1 (inN_ok ha hb h k).2
theorem outN_ok {a b : List Nat} (ha : Eight a) (hb : Eight b) : ∀ i, Eight (outN a b i)
  | 0 => ⟨by simp [outN], fun x hx => by have := List.eq_of_mem_replicate hx; omega⟩
  | i + 1 => (inN_ok ha hb (outN_ok ha hb i) (8 - i)).1
theorem productN_ok {a b : List Nat} (ha : Eight a) (hb : Eight b) : Eight (productN a b) := outN_ok ha hb 8
/-- What product's blocks hold. -/
structure Prd (w W : World) (h2 h3 h4 h5 : Nat) (a b out : List Nat) : Prop where
  one : Arr .u64 65 W h2 a
  two : Arr .u64 65 W h3 b
  res : Arr .u64 65 W h4 (List.replicate 8 0)
  out : Arr .u64 65 W h5 out
  below : Below w.heap.size w W
theorem Prd.drewN {w W : World} {h2 h3 h4 h5 : Nat} {a b out : List Nat} (h : Prd w W h2 h3 h4 h5 a b out) (n : Nat) : Prd w (W.drewN n) h2 h3 h4 h5 a b out := ⟨h.one, h.two, h.res, h.out, below_drewS h.below n⟩
theorem Prd.stored {w W : World} {h2 h3 h4 h5 : Nat} {a b out : List Nat} (h : Prd w W h2 h3 h4 h5 a b out) (hd : h2 ≠ h5 ∧ h3 ≠ h5 ∧ h4 ≠ h5 ∧ w.heap.size ≤ h5) (i x : Nat) (y : Int) (hy : y = (x : Int)) : Prd w (W.setCell ⟨h5, i, none⟩ (.int .u64 y)) h2 h3 h4 h5 a b (out.set i x) :=
  ⟨h.one.other _ _ hd.1, h.two.other _ _ hd.2.1, h.res.other _ _ hd.2.2.1, h.out.stored i x y hy, h.below.setCell hd.2.2.2 _⟩
theorem prd_start (a b : List Nat) (w : World) : Prd w ((((w.alloc (.cells (arrC .u64 a) 65)).alloc (.cells (arrC .u64 b) 65)).alloc (.cells (arrC .u64 [0, 0, 0, 0, 0, 0, 0, 0]) 65)).alloc (.cells (arrC .u64 [0, 0, 0, 0, 0, 0, 0, 0]) 65)) w.heap.size (w.heap.size + 1) (w.heap.size + 1 + 1) (w.heap.size + 1 + 1 + 1) a b (List.replicate 8 0) := by
  have h1 : Arr .u64 65 (w.alloc (.cells (arrC .u64 a) 65)) w.heap.size a := Go.heap_alloc_new w _
  have hb1 := (Below.refl w.heap.size w).alloc (Nat.le_refl _) (.cells (arrC .u64 a) 65)
  have s1 : (w.alloc (.cells (arrC .u64 a) 65)).heap.size = w.heap.size + 1 := World.size_alloc _ _
  generalize w.alloc (.cells (arrC .u64 a) 65) = w1 at *
  have h2 : Arr .u64 65 (w1.alloc (.cells (arrC .u64 b) 65)) (w.heap.size + 1) b := by rw [← s1]; exact Go.heap_alloc_new w1 _
  have h12 := h1.alloc (.cells (arrC .u64 b) 65)
  have hb2 := hb1.alloc (by omega) (.cells (arrC .u64 b) 65)
  have s2 : (w1.alloc (.cells (arrC .u64 b) 65)).heap.size = w.heap.size + 1 + 1 := by rw [World.size_alloc, s1]
  generalize w1.alloc (.cells (arrC .u64 b) 65) = w2 at *
  have h3 : Arr .u64 65 (w2.alloc (.cells (arrC .u64 [0, 0, 0, 0, 0, 0, 0, 0]) 65)) (w.heap.size + 1 + 1) [0, 0, 0, 0, 0, 0, 0, 0] := by rw [← s2]; exact Go.heap_alloc_new w2 _
  have h23 := h2.alloc (.cells (arrC .u64 [0, 0, 0, 0, 0, 0, 0, 0]) 65)
  have h13 := h12.alloc (.cells (arrC .u64 [0, 0, 0, 0, 0, 0, 0, 0]) 65)
  have hb3 := hb2.alloc (by omega) (.cells (arrC .u64 [0, 0, 0, 0, 0, 0, 0, 0]) 65)
  have s3 : (w2.alloc (.cells (arrC .u64 [0, 0, 0, 0, 0, 0, 0, 0]) 65)).heap.size = w.heap.size + 1 + 1 + 1 := by rw [World.size_alloc, s2]
  generalize w2.alloc (.cells (arrC .u64 [0, 0, 0, 0, 0, 0, 0, 0]) 65) = w3 at *
  refine ⟨h13.alloc _, h23.alloc _, h3.alloc _, ?_, hb3.alloc (by omega) _⟩
  rw [← s3]
  exact Go.heap_alloc_new w3 _
theorem out_ok {a b out : List Nat} {w W : World} {h2 h3 h4 h5 : Nat} (h : Prd w W h2 h3 h4 h5 a b out) (ho : Eight out) (i : Nat) (hi : i < 8) : W.cell? ⟨h5, i, none⟩ = some (.int .u64 ((g0 out i : Nat) : Int)) := h.out.cell i (by rw [ho.1]; exact hi)
set_option maxRecDepth 100000 in
set_option maxHeartbeats 2000000 in
theorem product_any (a b : List Nat) (ha : Eight a) (hb : Eight b) (w : World) :
    Calls Try.prog 33 #[.agg (arrC .u64 a), .agg (arrC .u64 b)] w fun e w' => e = .returned (.agg (arrC .u64 (productN a b))) ∧ Below w.heap.size w w' := by
  have hz : ∀ w, (zeroValue 65).run Try.prog w = .ok (.agg (arrC .u64 (List.replicate 8 0))) w := fun _ => by kernel_rfl
  have HA := Lib.hid ha
  have HB := Lib.hid hb
  clear ha hb
  go_enter Try.func33, Try.ntmps33
  go_wp2_with fail
  have HP := Lib.hid (prd_start a b w)
  generalize (((w.alloc (.cells (arrC .u64 a) 65)).alloc (.cells (arrC .u64 b) 65)).alloc (.cells (arrC .u64 [0, 0, 0, 0, 0, 0, 0, 0]) 65)).alloc (.cells (arrC .u64 [0, 0, 0, 0, 0, 0, 0, 0]) 65) = W at *
  obtain ⟨h5, e5⟩ : ∃ h, h = w.heap.size + 1 + 1 + 1 := ⟨_, rfl⟩
  obtain ⟨h4, e4⟩ : ∃ h, h = w.heap.size + 1 + 1 := ⟨_, rfl⟩
  obtain ⟨h3, e3⟩ : ∃ h, h = w.heap.size + 1 := ⟨_, rfl⟩
  obtain ⟨h2, e2⟩ : ∃ h, h = w.heap.size := ⟨_, rfl⟩
  have hd : Hid (h2 ≠ h5 ∧ h3 ≠ h5 ∧ h4 ≠ h5 ∧ w.heap.size ≤ h5) := ⟨by omega, by omega, by omega, by omega⟩
  have hd4 : Hid (w.heap.size ≤ h4) := by show _ ≤ _; omega
  rw [← e5, ← e4, ← e3] at HP ⊢
  have HP2 : Hid (Prd w W h2 h3 h4 h5 a b (List.replicate 8 0)) := by rw [e2]; exact HP
  rw [← e2]
  clear e5 e4 e3 e2 HP
  go_loopw [6] (fun iv wq => ∃ i : Nat, iv = .int .i64 (i : Int) ∧ i ≤ 8 ∧ Hid (Prd w wq h2 h3 h4 h5 a b (outN a b i))) (fun iv _ => 8 - (intOf iv).toNat)
  case atStart => exact ⟨0, rfl, by decide, HP2.out⟩
  case round =>
    obtain ⟨i, rfl, hi, hI⟩ := hrel
    rcases Nat.lt_or_ge i 8 with hlt | hge
    · have tI : decide ((i : Int) < 8) = true := by simp; omega
      go_wp2_with fail
      go_loopw [7, 8] (fun cv kv wq => ∃ k c : Nat, kv = .int .i64 (k : Int) ∧ cv = .int .u64 (c : Int) ∧ i + k ≤ 8 ∧ c < 4294967296 ∧ Hid (c = (inN a b i (outN a b i) k).2 ∧ Prd w wq h2 h3 h4 h5 a b (inN a b i (outN a b i) k).1)) (fun _ kv _ => 8 - (intOf kv).toNat)
      case atStart => exact ⟨0, 0, rfl, rfl, by omega, by decide, rfl, hI.out⟩
      case round =>
        obtain ⟨k, c, rfl, rfl, hk, hc, hJ⟩ := hrel
        have hok := inN_ok (i := i) HA.out HB.out (outN_ok HA.out HB.out i) k
        rcases Nat.lt_or_ge (i + k) 8 with hlt2 | hge2
        · have cO := out_ok hJ.out.2 hok.1 (i + k) hlt2
          have fO := hJ.out.2.out.frozen (i + k)
          have cA := hJ.out.2.one.cell i (by rw [HA.out.1]; omega)
          have cB := hJ.out.2.two.cell k (by rw [HB.out.1]; omega)
          have lx : g0 a i < 4294967296 := g0_lt HA.out.2 (by decide) i
          have ly : g0 b k < 4294967296 := g0_lt HB.out.2 (by decide) k
          have lz : g0 (inN a b i (outN a b i) k).1 (i + k) < 4294967296 := g0_lt hok.1.2 (by decide) _
          obtain ⟨z, hz1⟩ : ∃ z, z = g0 (inN a b i (outN a b i) k).1 (i + k) := ⟨_, rfl⟩
          obtain ⟨x, hx1⟩ : ∃ x, x = g0 a i := ⟨_, rfl⟩
          obtain ⟨y, hy1⟩ : ∃ y, y = g0 b k := ⟨_, rfl⟩
          change wr.cell? _ = some (.int .u64 ((g0 a i : Nat) : Int)) at cA
          change wr.cell? _ = some (.int .u64 ((g0 b k : Nat) : Int)) at cB
          rw [← hx1] at cA lx
          rw [← hy1] at cB ly
          rw [← hz1] at cO lz
          have hs := step_lt lx ly lz hc
          obtain ⟨p, hp⟩ : ∃ p, p = x * y := ⟨_, rfl⟩
          have hpi : (x : Int) * (y : Int) = (p : Int) := by rw [hp]; push_cast; rfl
          rw [← hp] at hs
          obtain ⟨hs1, hs2⟩ := hs
          have HZ := Lib.hid (show inS a b i (inN a b i (outN a b i) k) k = ((inN a b i (outN a b i) k).1.set (i + k) ((z + p + c) % 4294967296), (z + p + c) / 4294967296) by
            unfold inS
            rw [← hz1, ← hx1, ← hy1, ← hp, hJ.out.1])
          clear hp hz1 hx1 hy1 hok
          go_wp2_with fail
          have HN := Lib.hid (show inN a b i (outN a b i) (k + 1) = ((inN a b i (outN a b i) k).1.set (i + k) ((z + p + c) % 4294967296), (z + p + c) / 4294967296) from HZ.out)
          go_quiet (fail)
          go_wp2_with fail
          go_roundw
          case rel => exact ⟨k + 1, (z + p + c) / 4294967296, by go_num, by go_num, by omega, by omega, by
            rw [HN.out]
            exact ⟨rfl, (hJ.out.2.drewN nq).stored hd.out (i + k) ((z + p + c) % 4294967296) _ (by omega)⟩⟩
          case measure => simp [intOf] <;> omega
        · have hk8 : Hid (k = 8 - i) := by show k = 8 - i; omega
          go_wp2_with fail
          go_roundw
          case rel => exact ⟨i + 1, by go_num, by omega, by
            have := hJ.out.2
            rw [hk8.out] at this
            exact this⟩
          case measure => simp [intOf] <;> omega
    · obtain rfl : i = 8 := by omega
      have hO := outN_ok HA.out HB.out 8
      have hP8 := hI.out
      have HPN := Lib.hid (show productN a b = outN a b 8 from rfl)
      generalize outN a b 8 = o at *
      have hsz : (arrC .u64 o).size = 8 := by rw [arrC_size, hO.1]
      have HP8 := Lib.hid hP8
      have HSZ := Lib.hid hsz
      clear hP8 hO hI hsz
      go_wp2_with (first | (refine wpList_load_row rfl _ _ rfl h5 rfl _ (arrC .u64 o) _ _ HP8.out.out Try.underlying65 rfl (by rw [HSZ.out]; kernel_rfl) ?_) | (refine wpList_store_row rfl _ _ _ rfl h4 (arrC .u64 o) rfl rfl 65 _ HP8.out.res (by rw [HSZ.out]; kernel_rfl) (by rw [HSZ.out]; kernel_rfl) (arrC_one _ _) ?_))
      have hgr := grown_setRow (x := wr) (y := wr) (g := h4) ⟨rfl, rfl, rfl, Nat.le_refl _, fun _ _ _ => rfl⟩ (arrC .u64 o)
      refine bodyPost_ret (v := .agg (arrC .u64 o)) (results_cell_row (ty := 65) (p := 4) (by kernel_rfl) _ _ h4 65 (arrC .u64 o) (0, 0) _ rfl (setRow_heap wr h4 _ _ _ _ HP8.out.res) Try.underlying65 rfl (by rw [HSZ.out]; kernel_rfl)) rfl ?_
      exact ⟨by rw [HPN.out], HP8.out.below.grown hgr HP8.out.below.size (fun r e => by cases e; exact hd4.out)⟩

end Go.Proofs.Ytpfdehjllnhllaa
