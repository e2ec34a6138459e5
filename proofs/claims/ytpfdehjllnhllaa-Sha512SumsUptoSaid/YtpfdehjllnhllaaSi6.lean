/-
  SHA-512, the reference: Fraction.
-/
import Derived.Test.YtpfdehjllnhllaaSi5
namespace Go.Proofs.Ytpfdehjllnhllaa
open Go.RowKit Go.Shelf

theorem wpList_loadW {ops : Array Oper} {rest : List Oper} {o : Oper} {a : Act} {w : World} {Q : Exit → Act → World → Prop} (hgd : o.guard = none) (x : Operand) (ho : o.op = .load 65 x)
    (g : Nat) (l : List Nat) (hx : a.eval x = .pointer (some ⟨g, 0, none⟩)) (hA : Arr .u64 65 w g l) (h8 : l.length = 8)
    (h : wpList Try.prog ops Q rest (a.put o.dst (.agg (arrC .u64 l))) w) : wpList Try.prog ops Q (o :: rest) a w :=
  wpList_load_row hgd _ x ho g hx _ (arrC .u64 l) _ _ hA Try.underlying65 rfl (by rw [arrC_size, h8]; kernel_rfl) h
theorem wpList_storeW {ops : Array Oper} {rest : List Oper} {o : Oper} {a : Act} {w : World} {Q : Exit → Act → World → Prop} (hgd : o.guard = none) (x y : Operand) (ho : o.op = .store 65 x y)
    (g : Nat) (l m : List Nat) (hx : a.eval x = .pointer (some ⟨g, 0, none⟩)) (hy : a.eval y = .agg (arrC .u64 m)) (hA : Arr .u64 65 w g l) (hl8 : l.length = 8) (h8 : m.length = 8)
    (h : wpList Try.prog ops Q rest (a.put o.dst undef) (w.setRow g (arrC .u64 m))) : wpList Try.prog ops Q (o :: rest) a w :=
  wpList_store_row hgd _ _ _ ho g (arrC .u64 m) hx hy 65 _ hA (by rw [arrC_size, h8]; kernel_rfl) (by rw [arrC_size, arrC_size, h8, hl8]) (arrC_one _ _) h
theorem Arr.laid {q : IntKind} {E g : Nat} {w : World} {l : List Nat} (h : Arr q E w g l) (m : List Nat) : Arr q E (w.setRow g (arrC q m)) g m := setRow_heap w g _ _ _ _ h
theorem Arr.beside {q : IntKind} {E g : Nat} {w : World} {l : List Nat} (h : Arr q E w g l) (k : Nat) (cs : Array Value) (hk : g ≠ k) : Arr q E (w.setRow k cs) g l := (setRow_other w k g cs hk).trans h
theorem below_setRow {B : Nat} {w0 w : World} (h : Below B w0 w) (g : Nat) (cs : Array Value) (hg : B ≤ g) (hB : B ≤ w.heap.size) : Below B w0 (w.setRow g cs) :=
  h.grown (grown_setRow (x := w) (y := w) (g := g) ⟨rfl, rfl, rfl, Nat.le_refl _, fun _ _ _ => rfl⟩ cs) hB (fun r e => by cases e; exact hg)
theorem size_setRow (w : World) (g : Nat) (cs : Array Value) : (w.setRow g cs).heap.size = w.heap.size := by simp [World.setRow]
theorem Arr.fresh {q : IntKind} {E h : Nat} {W : World} {l : List Nat} (H : Arr q E W h l) (o : Obj) (cs : Array Value) : Arr q E ((W.alloc o).setRow W.heap.size cs) h l := (H.alloc o).beside _ _ (Nat.ne_of_lt H.lt)
theorem arr_fresh (W : World) (E : TypeId) (l t : List Nat) : Arr .u64 E ((W.alloc (.cells (arrC .u64 l) E)).setRow W.heap.size (arrC .u64 t)) W.heap.size t := Arr.laid (l := l) (Go.heap_alloc_new W _) t
theorem below_fresh {B : Nat} {w0 W : World} (h : Below B w0 W) (hB : B ≤ W.heap.size) (o : Obj) (cs : Array Value) : Below B w0 ((W.alloc o).setRow W.heap.size cs) := below_setRow (h.alloc hB o) _ _ hB (by rw [World.size_alloc]; omega)
theorem withN_len (a : List Nat) (i : Nat) : (withN a i).length = a.length := by simp [withN]
theorem Arr.new (w : World) (E : TypeId) (l : List Nat) : Arr .u64 E (w.alloc (.cells (arrC .u64 l) E)) w.heap.size l := Go.heap_alloc_new w _
def zero8 : List Nat := List.replicate 8 0
theorem eight_zero : Eight zero8 := ⟨rfl, fun x hx => by have := List.eq_of_mem_replicate hx; omega⟩
theorem xV_one {s f n : Nat} {x y : List Nat} (h : xV s (f + 1) n x = some y) (hn : n % 2 = 1) : Eight (withN x (s + (8 - f))) ∧ xV s f (n / 2) (withN x (s + (8 - f))) = some y := by
  rw [xV, show Nat.beq (n % 2) 1 = true by rw [hn]; rfl, cond_true] at h
  cases e : eightB (withN x (s + (8 - f))) with
  | true => rw [e, cond_true] at h; exact ⟨eight_of_B e, h⟩
  | false => rw [e, cond_false] at h; cases h
theorem xV_two {s f n : Nat} {x y : List Nat} (h : xV s (f + 1) n x = some y) (hn : n % 2 = 0) : xV s f (n / 2) x = some y := by
  rw [xV, show Nat.beq (n % 2) 1 = false by rw [hn]; rfl, cond_false] at h
  exact h
theorem rV_step {k X i : Nat} {r y : List Nat} (h : rV k X (i + 1) r = some y) : Eight (withN r i) ∧ rV k X i (bif Nat.blt X ((valB 4294967296 (withN r i)) ^ k % 4294967296 ^ 8) then r else withN r i) = some y := by
  rw [rV] at h
  cases e : eightB (withN r i) with
  | true => rw [e, cond_true] at h; exact ⟨eight_of_B e, h⟩
  | false => rw [e, cond_false] at h; cases h
/-- The power that is held against the number. -/
def powN (k : Nat) (t : List Nat) : List Nat := if k = 3 then productN (productN t t) t else productN t t
theorem powN_ok {k : Nat} {t : List Nat} (h : Eight t) : Eight (powN k t) := by
  unfold powN
  split
  · exact productN_ok (productN_ok h h) h
  · exact productN_ok h h
theorem powN_val {k : Nat} {t : List Nat} (hk : k = 2 ∨ k = 3) (h : Eight t) : valB 4294967296 (powN k t) = (valB 4294967296 t) ^ k % 4294967296 ^ 8 := by
  have h2 : valB 4294967296 (productN t t) = (valB 4294967296 t) ^ 2 % 4294967296 ^ 8 := by rw [productN_val h h, Nat.pow_two]
  rcases hk with rfl | rfl
  · exact h2
  · show valB 4294967296 (productN (productN t t) t) = _
    rw [productN_val (productN_ok h h) h, h2, Nat.mod_mul_mod, ← Nat.pow_succ]
theorem above_val {k : Nat} {t x : List Nat} (hk : k = 2 ∨ k = 3) (h : Eight t) (hx : Eight x) : moreN (powN k t) x 8 = Nat.blt (valB 4294967296 x) ((valB 4294967296 t) ^ k % 4294967296 ^ 8) := by
  rw [more_val (powN_ok h) hx, powN_val hk h]

set_option maxRecDepth 100000 in
set_option maxHeartbeats 4000000 in
theorem fraction_any (n k bits v : Nat) (hk : k = 2 ∨ k = 3) (hb : bits = 32 ∨ bits = 64) (hn : n < 512) (h : fracV n k bits = some v) (w : World) :
    Calls Try.prog 19 #[.int .i64 (n : Int), .int .i64 (k : Int), .int .i64 (bits : Int)] w fun e w' => e = .returned (.int .u64 (v : Int)) ∧ Below w.heap.size w w' := by
  have hz : ∀ w, (zeroValue 65).run Try.prog w = .ok (.agg (arrC .u64 (List.replicate 8 0))) w := fun _ => by kernel_rfl
  obtain ⟨p, hp⟩ : ∃ p, p = k * bits := ⟨_, rfl⟩
  have hpi : (k : Int) * (bits : Int) = (p : Int) := by rw [hp]; push_cast; rfl
  have hp200 : p ≤ 192 := by rw [hp]; rcases hk with rfl | rfl <;> rcases hb with rfl | rfl <;> decide
  unfold fracV at h
  rw [← hp] at h
  cases hx : xV p 9 n (List.replicate 8 0) with
  | none => rw [hx] at h; cases h
  | some X => ?_
  rw [hx] at h
  change (match rV k (valB 4294967296 X) (bits + 6) (List.replicate 8 0) with | none => none | some r => some (bif Nat.beq bits 32 then g0 r 0 else g0 r 0 + 4294967296 * g0 r 1)) = some v at h
  cases hr : rV k (valB 4294967296 X) (bits + 6) (List.replicate 8 0) with
  | none => rw [hr] at h; cases h
  | some R => ?_
  rw [hr] at h
  have hv := Option.some.inj h
  have HV := Lib.hid hv
  have HX := Lib.hid hx
  have HR := Lib.hid hr
  have HK := Lib.hid hk
  clear hp hx hr hv h
  have hb64 : bits ≤ 64 := by omega
  go_enter Try.func19, Try.ntmps19
  go_wp2_with fail
  have HA := Lib.hid (show Arr .u64 65 (w.alloc (.cells (arrC .u64 [0, 0, 0, 0, 0, 0, 0, 0]) 65)) w.heap.size zero8 from Arr.new _ _ _)
  have HB := Lib.hid ((Below.refl w.heap.size w).alloc (Nat.le_refl _) (.cells (arrC .u64 [0, 0, 0, 0, 0, 0, 0, 0]) 65))
  obtain ⟨hx, ehx⟩ : ∃ g, g = w.heap.size := ⟨_, rfl⟩
  have hxw : Hid (w.heap.size ≤ hx) := Nat.le_of_eq ehx.symm
  rw [← ehx] at HA ⊢
  generalize w.alloc (.cells (arrC .u64 [0, 0, 0, 0, 0, 0, 0, 0]) 65) = W at *
  clear ehx
  go_loopw [0, 8] (fun nv iv wq => ∃ (i m : Nat) (x : List Nat), nv = .int .i64 (m : Int) ∧ iv = .int .i64 (i : Int) ∧ i ≤ 9 ∧ m < 512 ∧ Hid (Arr .u64 65 wq hx x ∧ Eight x ∧ Below w.heap.size w wq ∧ xV p (9 - i) m x = some X)) (fun _ iv _ => 9 - (intOf iv).toNat)
  case atStart => exact ⟨0, n, zero8, rfl, rfl, by decide, hn, HA.out, eight_zero, HB.out, HX.out⟩
  case round =>
    obtain ⟨i, m, x, rfl, rfl, hi, hm, hI⟩ := hrel
    by_cases hlt : i < 9
    · obtain ⟨f, hf⟩ : ∃ f, 9 - i = f + 1 := ⟨8 - i, by omega⟩
      obtain ⟨m2, hm2⟩ : ∃ q, q = m / 2 := ⟨_, rfl⟩
      have hmd : Int.tdiv (m : Int) 2 = (m2 : Int) := by rw [Int.tdiv_eq_ediv_of_nonneg (by omega)]; omega
      have hm5 : m2 < 512 := by omega
      have hf2 : 9 - (i + 1) = f := by omega
      have hf3 : p + (8 - f) = p + i := by omega
      have HM := Lib.hid hm2
      have HF := Lib.hid hf
      have HF2 := Lib.hid hf2
      have HF3 := Lib.hid hf3
      clear hf hf2 hf3 hm2
      by_cases hodd : m % 2 = 1
      · have hmo : Int.tmod (m : Int) 2 = 1 := by rw [Int.tmod_eq_emod_of_nonneg (by omega)]; omega
        have hst := xV_one (by rw [← HF.out]; exact hI.out.2.2.2) hodd
        rw [HF3.out, ← HM.out] at hst
        have HST := Lib.hid hst
        have hx8 := Lib.hid hI.out.2.1.1
        clear hst hodd
        go_wp2_with (refine wpList_loadW rfl _ rfl hx x rfl hI.out.1 hx8.out ?_)
        refine (with_any x (p + i) _ hI.out.2.1 (by push_cast; rfl) (by omega) wr).mono ?_
        rintro e w2 ⟨rfl, hb2⟩
        have HA2 := Lib.hid (hI.out.1.below hb2 hI.out.1.lt)
        have HB2 := Lib.hid (hI.out.2.2.1.trans (hb2.mono hI.out.2.2.1.size))
        clear hb2
        go_wp2_with (refine wpList_storeW rfl _ _ rfl hx x (withN x (p + i)) rfl rfl HA2.out hx8.out HST.out.1.1 ?_)
        go_roundw
        case rel => exact ⟨i + 1, m2, withN x (p + i), rfl, by go_num, by omega, hm5, HA2.out.laid _, HST.out.1, below_setRow HB2.out hx _ hxw.out HB2.out.size, by rw [HF2.out]; exact HST.out.2⟩
        case measure => simp [intOf] <;> omega
      · have hmo : Int.tmod (m : Int) 2 = 0 := by rw [Int.tmod_eq_emod_of_nonneg (by omega)]; omega
        have hst := xV_two (by rw [← HF.out]; exact hI.out.2.2.2) (by omega)
        rw [← HM.out] at hst
        have HST := Lib.hid hst
        clear hst hodd
        go_wp2
        go_roundw
        case rel => exact ⟨i + 1, m2, x, rfl, by go_num, by omega, hm5, hI.out.1, hI.out.2.1, hI.out.2.2.1, by rw [HF2.out]; exact HST.out⟩
        case measure => simp [intOf] <;> omega
    · have hi9 : i = 9 := by omega
      obtain rfl : x = X := by have := hI.out.2.2.2; rw [hi9] at this; exact Option.some.inj this
      have t9 : decide ((i : Int) < 9) = false := by simp; omega
      clear hlt hi hi9
      have HAX := Lib.hid hI.out.1
      have HEX := Lib.hid hI.out.2.1
      have HBX := Lib.hid hI.out.2.2.1
      clear hI HX HA HB
      go_wp2_with fail
      have HA3 := Lib.hid (HAX.out.alloc (.cells (arrC .u64 [0, 0, 0, 0, 0, 0, 0, 0]) 65))
      have HR3 := Lib.hid (show Arr .u64 65 (wr.alloc (.cells (arrC .u64 [0, 0, 0, 0, 0, 0, 0, 0]) 65)) wr.heap.size zero8 from Arr.new _ _ _)
      have HB3 := Lib.hid (HBX.out.alloc HBX.out.size (.cells (arrC .u64 [0, 0, 0, 0, 0, 0, 0, 0]) 65))
      have hne : Hid (hx ≠ wr.heap.size) := Nat.ne_of_lt HAX.out.lt
      have hrw := Lib.hid HBX.out.size
      generalize wr.alloc (.cells (arrC .u64 [0, 0, 0, 0, 0, 0, 0, 0]) 65) = W3 at *
      generalize wr.heap.size = hr at *
      clear HAX HBX
      go_loopw [10] (fun iv wq => ∃ (i : Nat) (z : Int) (r : List Nat), iv = .int .i64 z ∧ z = (i : Int) - 1 ∧ i ≤ bits + 6 ∧ Hid (Arr .u64 65 wq hx x ∧ Arr .u64 65 wq hr r ∧ Eight r ∧ Below w.heap.size w wq ∧ rV k (valB 4294967296 x) i r = some R)) (fun iv _ => (intOf iv + 1).toNat)
      case atStart => exact ⟨bits + 6, _, zero8, by go_num, by push_cast; omega, Nat.le_refl _, HA3.out, HR3.out, eight_zero, HB3.out, HR.out⟩
      case round =>
        obtain ⟨i, z, r, rfl, hzi, hi, hI⟩ := hrel
        cases i with
        | zero =>
          have tz : decide ((0 : Int) ≤ z) = false := by simp; omega
          obtain rfl : r = R := by have := hI.out.2.2.2.2; exact Option.some.inj this
          have c0 := hI.out.2.1.cell 0 (by rw [hI.out.2.2.1.1]; decide)
          have c1 := hI.out.2.1.cell 1 (by rw [hI.out.2.2.1.1]; decide)
          have l0 : g0 r 0 < 4294967296 := g0_lt hI.out.2.2.1.2 (by decide) 0
          have l1 : g0 r 1 < 4294967296 := g0_lt hI.out.2.2.1.2 (by decide) 1
          have hv := HV.out
          change wr.cell? _ = some (.int .u64 ((g0 r 0 : Nat) : Int)) at c0
          change wr.cell? _ = some (.int .u64 ((g0 r 1 : Nat) : Int)) at c1
          generalize g0 r 0 = x0 at *
          generalize g0 r 1 = x1 at *
          have HBf := Lib.hid hI.out.2.2.2.1
          clear hI hzi hi
          rcases hb with hb | hb
          · have tb : ((bits : Int) == 32) = true := by rw [hb]; rfl
            obtain rfl : x0 = v := by rw [hb] at hv; exact hv
            clear hb hv
            go_wp2
            go_ret
            exact ⟨rfl, HBf.out⟩
          · have tb : ((bits : Int) == 32) = false := by rw [hb]; rfl
            have hv2 : x0 + 4294967296 * x1 = v := by rw [hb] at hv; exact hv
            obtain ⟨y1, hy⟩ : ∃ y, y = 4294967296 * x1 := ⟨_, rfl⟩
            have e1 : (4294967296 : Int) * (x1 : Int) = (y1 : Int) := by omega
            have e2 : (x0 : Int) + (y1 : Int) = (v : Int) := by omega
            have by1 : y1 < 18446744073709551616 := by omega
            have bv1 : v < 18446744073709551616 := by omega
            clear hb hv hv2 hy
            go_wp2
            go_ret
            exact ⟨rfl, HBf.out⟩
        | succ j =>
          obtain rfl : z = (j : Int) := by omega
          have hst := rV_step hI.out.2.2.2.2
          have HST := Lib.hid hst
          have HA := Lib.hid hI.out.1
          have HQ := Lib.hid hI.out.2.1
          have HE := Lib.hid hI.out.2.2.1
          have HB := Lib.hid hI.out.2.2.2.1
          have hnn : ¬ ((j : Int) < 0) := by omega
          clear hst hI hzi
          go_wp2_with (refine wpList_loadW rfl _ rfl hr r rfl HQ.out HE.out.1 ?_)
          refine (with_any r j _ HE.out rfl (by omega) wr).mono ?_
          rintro e w2 ⟨rfl, hb2⟩
          generalize hT : withN r j = T at *
          have HTE := Lib.hid hT.symm
          have HET := Lib.hid HST.out.1
          clear hT
          have HA := Lib.hid (HA.out.below hb2 HA.out.lt)
          have HQ := Lib.hid (HQ.out.below hb2 HQ.out.lt)
          have HB := Lib.hid (HB.out.trans (hb2.mono HB.out.size))
          clear hb2
          go_wp2_with (first | (refine wpList_storeW rfl _ _ rfl w2.heap.size zero8 T rfl rfl (Arr.new w2 _ zero8) rfl HET.out.1 ?_) | (refine wpList_loadW rfl _ rfl w2.heap.size T rfl (arr_fresh w2 _ zero8 T) HET.out.1 ?_))
          have HT := Lib.hid (show Arr .u64 65 ((w2.alloc (.cells (arrC .u64 [0, 0, 0, 0, 0, 0, 0, 0]) 65)).setRow w2.heap.size (arrC .u64 T)) w2.heap.size T from arr_fresh w2 _ _ T)
          have hf := Lib.hid (show hx ≠ w2.heap.size ∧ hr ≠ w2.heap.size from ⟨Nat.ne_of_lt HA.out.lt, Nat.ne_of_lt HQ.out.lt⟩)
          have HA := Lib.hid (HA.out.fresh (.cells (arrC .u64 [0, 0, 0, 0, 0, 0, 0, 0]) 65) (arrC .u64 T))
          have HQ := Lib.hid (HQ.out.fresh (.cells (arrC .u64 [0, 0, 0, 0, 0, 0, 0, 0]) 65) (arrC .u64 T))
          have HB := Lib.hid (below_fresh HB.out HB.out.size (.cells (arrC .u64 [0, 0, 0, 0, 0, 0, 0, 0]) 65) (arrC .u64 T))
          generalize (w2.alloc (.cells (arrC .u64 [0, 0, 0, 0, 0, 0, 0, 0]) 65)).setRow w2.heap.size (arrC .u64 T) = w3 at *
          generalize w2.heap.size = f at *
          refine (product_any T T HET.out HET.out w3).mono ?_
          rintro e w4 ⟨rfl, hb4⟩
          have HP8 := Lib.hid (productN_ok HET.out HET.out)
          generalize hP : productN T T = pp at *
          have HPP := Lib.hid hP.symm
          clear hP
          have HA := Lib.hid (HA.out.below hb4 HA.out.lt)
          have HQ := Lib.hid (HQ.out.below hb4 HQ.out.lt)
          have HT := Lib.hid (HT.out.below hb4 HT.out.lt)
          have HB := Lib.hid (HB.out.trans (hb4.mono HB.out.size))
          clear hb4
          rcases HK.out with hk | hk
          · have tk : ((k : Int) == 3) = false := by rw [hk]; rfl
            have HK2 := Lib.hid hk
            clear hk
            go_wp2_with (first | (refine wpList_storeW rfl _ _ rfl w4.heap.size zero8 pp rfl rfl (Arr.new w4 _ zero8) rfl HP8.out.1 ?_) | (refine wpList_loadW rfl _ rfl w4.heap.size pp rfl (arr_fresh w4 _ zero8 pp) HP8.out.1 ?_) | (refine wpList_loadW rfl _ rfl hx x rfl (HA.out.fresh _ _) HEX.out.1 ?_))
            have HP := Lib.hid (show Arr .u64 65 ((w4.alloc (.cells (arrC .u64 [0, 0, 0, 0, 0, 0, 0, 0]) 65)).setRow w4.heap.size (arrC .u64 pp)) w4.heap.size pp from arr_fresh w4 _ _ pp)
            have hg := Lib.hid (show hx ≠ w4.heap.size ∧ hr ≠ w4.heap.size ∧ f ≠ w4.heap.size ∧ w.heap.size ≤ w4.heap.size from ⟨Nat.ne_of_lt HA.out.lt, Nat.ne_of_lt HQ.out.lt, Nat.ne_of_lt HT.out.lt, HB.out.size⟩)
            have HA := Lib.hid (HA.out.fresh (.cells (arrC .u64 [0, 0, 0, 0, 0, 0, 0, 0]) 65) (arrC .u64 pp))
            have HQ := Lib.hid (HQ.out.fresh (.cells (arrC .u64 [0, 0, 0, 0, 0, 0, 0, 0]) 65) (arrC .u64 pp))
            have HT := Lib.hid (HT.out.fresh (.cells (arrC .u64 [0, 0, 0, 0, 0, 0, 0, 0]) 65) (arrC .u64 pp))
            have HB := Lib.hid (below_fresh HB.out HB.out.size (.cells (arrC .u64 [0, 0, 0, 0, 0, 0, 0, 0]) 65) (arrC .u64 pp))
            generalize (w4.alloc (.cells (arrC .u64 [0, 0, 0, 0, 0, 0, 0, 0]) 65)).setRow w4.heap.size (arrC .u64 pp) = w5 at *
            generalize w4.heap.size = g at *
            have HPW := Lib.hid (show pp = powN k T by rw [HK2.out]; exact HPP.out)
            have HP8 := Lib.hid (show Eight pp by rw [HPW.out]; exact powN_ok HET.out)
            refine (more_any pp x HP8.out.1 HEX.out.1 w5).mono ?_
            rintro e w6 ⟨rfl, hb6⟩
            have HT6 := Lib.hid (HT.out.below hb6 HT.out.lt)
            have HA6 := Lib.hid (HA.out.below hb6 HA.out.lt)
            have HQ6 := Lib.hid (HQ.out.below hb6 HQ.out.lt)
            have HB6 := Lib.hid (HB.out.trans (hb6.mono HB.out.size))
            have hab := above_val HK.out HET.out HEX.out
            rw [← HPW.out] at hab
            have hnx := HST.out.2
            rw [← hab] at hnx
            clear hb6 hab
            cases hmo : moreN pp x 8 with
            | true =>
              rw [hmo, cond_true] at hnx
              have HNX := Lib.hid hnx
              clear hnx hmo
              go_wp2
              go_roundw
              case rel => exact ⟨j, _, r, rfl, by go_num, by omega, HA6.out, HQ6.out, HE.out, HB6.out, HNX.out⟩
              case measure => simp [intOf] <;> omega
            | false =>
              rw [hmo, cond_false] at hnx
              have HNX := Lib.hid hnx
              clear hnx hmo
              go_wp2_with (first | (refine wpList_loadW rfl _ rfl f T rfl HT6.out HET.out.1 ?_) | (refine wpList_storeW rfl _ _ rfl hr r T rfl rfl HQ6.out HE.out.1 HET.out.1 ?_))
              go_roundw
              case rel => exact ⟨j, _, T, rfl, by go_num, by omega, HA6.out.beside _ _ hne.out, HQ6.out.laid _, HET.out, below_setRow HB6.out _ _ hrw.out HB6.out.size, HNX.out⟩
              case measure => simp [intOf] <;> omega
          · have tk : ((k : Int) == 3) = true := by rw [hk]; rfl
            have HK2 := Lib.hid hk
            clear hk
            go_wp2_with (first | (refine wpList_storeW rfl _ _ rfl w4.heap.size zero8 pp rfl rfl (Arr.new w4 _ zero8) rfl HP8.out.1 ?_) | (refine wpList_loadW rfl _ rfl w4.heap.size pp rfl (arr_fresh w4 _ zero8 pp) HP8.out.1 ?_) | (refine wpList_loadW rfl _ rfl f T rfl (HT.out.fresh _ _) HET.out.1 ?_))
            have HP := Lib.hid (show Arr .u64 65 ((w4.alloc (.cells (arrC .u64 [0, 0, 0, 0, 0, 0, 0, 0]) 65)).setRow w4.heap.size (arrC .u64 pp)) w4.heap.size pp from arr_fresh w4 _ _ pp)
            have hg := Lib.hid (show hx ≠ w4.heap.size ∧ hr ≠ w4.heap.size ∧ f ≠ w4.heap.size ∧ w.heap.size ≤ w4.heap.size from ⟨Nat.ne_of_lt HA.out.lt, Nat.ne_of_lt HQ.out.lt, Nat.ne_of_lt HT.out.lt, HB.out.size⟩)
            have HA := Lib.hid (HA.out.fresh (.cells (arrC .u64 [0, 0, 0, 0, 0, 0, 0, 0]) 65) (arrC .u64 pp))
            have HQ := Lib.hid (HQ.out.fresh (.cells (arrC .u64 [0, 0, 0, 0, 0, 0, 0, 0]) 65) (arrC .u64 pp))
            have HT := Lib.hid (HT.out.fresh (.cells (arrC .u64 [0, 0, 0, 0, 0, 0, 0, 0]) 65) (arrC .u64 pp))
            have HB := Lib.hid (below_fresh HB.out HB.out.size (.cells (arrC .u64 [0, 0, 0, 0, 0, 0, 0, 0]) 65) (arrC .u64 pp))
            generalize (w4.alloc (.cells (arrC .u64 [0, 0, 0, 0, 0, 0, 0, 0]) 65)).setRow w4.heap.size (arrC .u64 pp) = w5 at *
            generalize w4.heap.size = g at *
            refine (product_any pp T HP8.out HET.out w5).mono ?_
            rintro e w7 ⟨rfl, hb7⟩
            have HA := Lib.hid (HA.out.below hb7 HA.out.lt)
            have HQ := Lib.hid (HQ.out.below hb7 HQ.out.lt)
            have HT := Lib.hid (HT.out.below hb7 HT.out.lt)
            have HP := Lib.hid (HP.out.below hb7 HP.out.lt)
            have HB := Lib.hid (HB.out.trans (hb7.mono HB.out.size))
            have HP9 := Lib.hid (productN_ok HP8.out HET.out)
            generalize hP : productN pp T = pw at *
            have HPP := Lib.hid (show pw = productN (productN T T) T by rw [← HPP.out]; exact hP.symm)
            clear hP hb7
            go_wp2_with (first | (refine wpList_storeW rfl _ _ rfl g pp pw rfl rfl HP.out HP8.out.1 HP9.out.1 ?_) | (refine wpList_loadW rfl _ rfl g pw rfl (HP.out.laid pw) HP9.out.1 ?_) | (refine wpList_loadW rfl _ rfl hx x rfl (HA.out.beside _ _ hg.out.1) HEX.out.1 ?_))
            have HA := Lib.hid (HA.out.beside g (arrC .u64 pw) hg.out.1)
            have HQ := Lib.hid (HQ.out.beside g (arrC .u64 pw) hg.out.2.1)
            have HT := Lib.hid (HT.out.beside g (arrC .u64 pw) hg.out.2.2.1)
            have HB := Lib.hid (below_setRow HB.out g (arrC .u64 pw) hg.out.2.2.2 HB.out.size)
            generalize w7.setRow g (arrC .u64 pw) = w8 at *
            have HPW := Lib.hid (show pw = powN k T by rw [HK2.out]; exact HPP.out)
            have HP8 := Lib.hid (show Eight pw by rw [HPW.out]; exact powN_ok HET.out)
            refine (more_any pw x HP8.out.1 HEX.out.1 w8).mono ?_
            rintro e w6 ⟨rfl, hb6⟩
            have HT6 := Lib.hid (HT.out.below hb6 HT.out.lt)
            have HA6 := Lib.hid (HA.out.below hb6 HA.out.lt)
            have HQ6 := Lib.hid (HQ.out.below hb6 HQ.out.lt)
            have HB6 := Lib.hid (HB.out.trans (hb6.mono HB.out.size))
            have hab := above_val HK.out HET.out HEX.out
            rw [← HPW.out] at hab
            have hnx := HST.out.2
            rw [← hab] at hnx
            clear hb6 hab
            cases hmo : moreN pw x 8 with
            | true =>
              rw [hmo, cond_true] at hnx
              have HNX := Lib.hid hnx
              clear hnx hmo
              go_wp2
              go_roundw
              case rel => exact ⟨j, _, r, rfl, by go_num, by omega, HA6.out, HQ6.out, HE.out, HB6.out, HNX.out⟩
              case measure => simp [intOf] <;> omega
            | false =>
              rw [hmo, cond_false] at hnx
              have HNX := Lib.hid hnx
              clear hnx hmo
              go_wp2_with (first | (refine wpList_loadW rfl _ rfl f T rfl HT6.out HET.out.1 ?_) | (refine wpList_storeW rfl _ _ rfl hr r T rfl rfl HQ6.out HE.out.1 HET.out.1 ?_))
              go_roundw
              case rel => exact ⟨j, _, T, rfl, by go_num, by omega, HA6.out.beside _ _ hne.out, HQ6.out.laid _, HET.out, below_setRow HB6.out _ _ hrw.out HB6.out.size, HNX.out⟩
              case measure => simp [intOf] <;> omega

end Go.Proofs.Ytpfdehjllnhllaa
