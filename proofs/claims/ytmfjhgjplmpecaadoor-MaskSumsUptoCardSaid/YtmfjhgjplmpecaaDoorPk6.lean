/-
  Texts of ours, one behind the other: Sh6 Sh7 PriP Sh8 Sh9 Sj0 Sj1
-/
import Derived.Test.YtmfjhgjplmpecaaDoorPk1
import Derived.Test.YtmfjhgjplmpecaaDoorPk2
import Derived.Test.YtmfjhgjplmpecaaDoorPk3
import Derived.Test.YtmfjhgjplmpecaaDoorPk4
import Derived.Test.YtmfjhgjplmpecaaDoorPk5
import Derived.BigQuiet
import Derived.Deep.QuietTactic
import Derived.StillTailTactics
import Derived.BigRegion
import Derived.RegionTactic
import Derived.Deep.RegionHeld3
import Derived.ArgAppend
set_option linter.unusedVariables false
set_option linter.unusedSimpArgs false

namespace Go.Proofs.YtmfjhgjplmpecaaDoor
open Go.RowKit Go.Shelf

theorem wpList_loadW {ops : Array Oper} {rest : List Oper} {o : Oper} {a : Act} {w : World} {Q : Exit → Act → World → Prop} (hgd : o.guard = none) (x : Operand) (ho : o.op = .load 107 x)
    (g : Nat) (l : List Nat) (hx : a.eval x = .pointer (some ⟨g, 0, none⟩)) (hA : Arr .u64 107 w g l) (h8 : l.length = 8)
    (h : wpList Tryd.prog ops Q rest (a.put o.dst (.agg (arrC .u64 l))) w) : wpList Tryd.prog ops Q (o :: rest) a w :=
  wpList_load_row hgd _ x ho g hx _ (arrC .u64 l) _ _ hA Tryd.underlying107 rfl (by rw [arrC_size, h8]; kernel_rfl) h
theorem wpList_storeW {ops : Array Oper} {rest : List Oper} {o : Oper} {a : Act} {w : World} {Q : Exit → Act → World → Prop} (hgd : o.guard = none) (x y : Operand) (ho : o.op = .store 107 x y)
    (g : Nat) (l m : List Nat) (hx : a.eval x = .pointer (some ⟨g, 0, none⟩)) (hy : a.eval y = .agg (arrC .u64 m)) (hA : Arr .u64 107 w g l) (hl8 : l.length = 8) (h8 : m.length = 8)
    (h : wpList Tryd.prog ops Q rest (a.put o.dst undef) (w.setRow g (arrC .u64 m))) : wpList Tryd.prog ops Q (o :: rest) a w :=
  wpList_store_row hgd _ _ _ ho g (arrC .u64 m) hx hy 107 _ hA (by rw [arrC_size, h8]; kernel_rfl) (by rw [arrC_size, arrC_size, h8, hl8]) (arrC_one _ _) h
theorem Arr.laid {q : IntKind} {E g : Nat} {w : World} {l : List Nat} (h : Arr q E w g l) (m : List Nat) : Arr q E (w.setRow g (arrC q m)) g m := setRow_heap w g _ _ _ _ h
theorem Arr.beside {q : IntKind} {E g : Nat} {w : World} {l : List Nat} (h : Arr q E w g l) (k : Nat) (cs : Array Value) (hk : g ≠ k) : Arr q E (w.setRow k cs) g l := (setRow_other w k g cs hk).trans h
theorem below_setRow {B : Nat} {w0 w : World} (h : Below B w0 w) (g : Nat) (cs : Array Value) (hg : B ≤ g) (hB : B ≤ w.heap.size) : Below B w0 (w.setRow g cs) :=
  h.grown (grown_setRow (x := w) (y := w) (g := g) ⟨rfl, rfl, rfl, Nat.le_refl _, fun _ _ _ => rfl⟩ cs) hB (fun r e => by cases e; exact hg)
theorem size_setRow (w : World) (g : Nat) (cs : Array Value) : (w.setRow g cs).heap.size = w.heap.size := by simp [World.setRow]
theorem Arr.fresh {q : IntKind} {E h : Nat} {W : World} {l : List Nat} (H : Arr q E W h l) (o : Obj) (cs : Array Value) : Arr q E ((W.alloc o).setRow W.heap.size cs) h l := (H.alloc o).beside _ _ (Nat.ne_of_lt H.lt)
theorem arr_fresh (W : World) (E : TypeId) (l t : List Nat) : Arr .u64 E ((W.alloc (.cells (arrC .u64 l) E)).setRow W.heap.size (arrC .u64 t)) W.heap.size t := Arr.laid (l := l) (Go.heap_alloc_new W _) t
theorem below_fresh {B : Nat} {w0 W : World} (h : Below B w0 W) (hB : B ≤ W.heap.size) (o : Obj) (cs : Array Value) : Below B w0 ((W.alloc o).setRow W.heap.size cs) := below_setRow (h.alloc hB o) _ _ hB (by rw [World.size_alloc]; omega)
theorem withN_len (a : List Nat) (i : Nat) : (withN a i).length = a.length := by simp [withN]
theorem Arr.new (w : World) (E : TypeId) (l : List Nat) : Arr .u64 E (w.alloc (.cells (arrC .u64 l) E)) w.heap.size l := Go.heap_alloc_new w _
def zero8 : List Nat := List.replicate 8 0
theorem eight_zero : Eight zero8 := ⟨rfl, fun x hx => by have := List.eq_of_mem_replicate hx; omega⟩
theorem xV_one {s f n : Nat} {x y : List Nat} (h : xV s (f + 1) n x = some y) (hn : n % 2 = 1) : Eight (withN x (s + (8 - f))) ∧ xV s f (n / 2) (withN x (s + (8 - f))) = some y := by
  rw [xV, show Nat.beq (n % 2) 1 = true by rw [hn]; rfl, cond_true] at h
  cases e : eightB (withN x (s + (8 - f))) with
  | true => rw [e, cond_true] at h; exact ⟨eight_of_B e, h⟩
  | false => rw [e, cond_false] at h; cases h
theorem xV_two {s f n : Nat} {x y : List Nat} (h : xV s (f + 1) n x = some y) (hn : n % 2 = 0) : xV s f (n / 2) x = some y := by
  rw [xV, show Nat.beq (n % 2) 1 = false by rw [hn]; rfl, cond_false] at h
  exact h
theorem rV_step {k X i : Nat} {r y : List Nat} (h : rV k X (i + 1) r = some y) : Eight (withN r i) ∧ rV k X i (bif Nat.blt X ((valB 4294967296 (withN r i)) ^ k % 4294967296 ^ 8) then r else withN r i) = some y := by
  rw [rV] at h
  cases e : eightB (withN r i) with
  | true => rw [e, cond_true] at h; exact ⟨eight_of_B e, h⟩
  | false => rw [e, cond_false] at h; cases h
/-- The power that is held against the number. -/
def powN (k : Nat) (t : List Nat) : List Nat := if k = 3 then productN (productN t t) t else productN t t
theorem powN_ok {k : Nat} {t : List Nat} (h : Eight t) : Eight (powN k t) := by
  unfold powN
  split
  · exact productN_ok (productN_ok h h) h
  · exact productN_ok h h
theorem powN_val {k : Nat} {t : List Nat} (hk : k = 2 ∨ k = 3) (h : Eight t) : valB 4294967296 (powN k t) = (valB 4294967296 t) ^ k % 4294967296 ^ 8 := by
  have h2 : valB 4294967296 (productN t t) = (valB 4294967296 t) ^ 2 % 4294967296 ^ 8 := by rw [productN_val h h, Nat.pow_two]
  rcases hk with rfl | rfl
  · exact h2
  · show valB 4294967296 (productN (productN t t) t) = _
    rw [productN_val (productN_ok h h) h, h2, Nat.mod_mul_mod, ← Nat.pow_succ]
theorem above_val {k : Nat} {t x : List Nat} (hk : k = 2 ∨ k = 3) (h : Eight t) (hx : Eight x) : moreN (powN k t) x 8 = Nat.blt (valB 4294967296 x) ((valB 4294967296 t) ^ k % 4294967296 ^ 8) := by
  rw [more_val (powN_ok h) hx, powN_val hk h]

set_option maxRecDepth 100000 in
set_option maxHeartbeats 4000000 in
theorem fraction_any (n k bits v : Nat) (hk : k = 2 ∨ k = 3) (hb : bits = 32 ∨ bits = 64) (hn : n < 512) (h : fracV n k bits = some v) (w : World) :
    Calls Tryd.prog 38 #[.int .i64 (n : Int), .int .i64 (k : Int), .int .i64 (bits : Int)] w fun e w' => e = .returned (.int .u64 (v : Int)) ∧ Below w.heap.size w w' := by
  have hz : ∀ w, (zeroValue 107).run Tryd.prog w = .ok (.agg (arrC .u64 (List.replicate 8 0))) w := fun _ => by kernel_rfl
  obtain ⟨p, hp⟩ : ∃ p, p = k * bits := ⟨_, rfl⟩
  have hpi : (k : Int) * (bits : Int) = (p : Int) := by rw [hp]; push_cast; rfl
  have hp200 : p ≤ 192 := by rw [hp]; rcases hk with rfl | rfl <;> rcases hb with rfl | rfl <;> decide
  unfold fracV at h
  rw [← hp] at h
  cases hx : xV p 9 n (List.replicate 8 0) with
  | none => rw [hx] at h; cases h
  | some X => ?_
  rw [hx] at h
  change (match rV k (valB 4294967296 X) (bits + 6) (List.replicate 8 0) with | none => none | some r => some (bif Nat.beq bits 32 then g0 r 0 else g0 r 0 + 4294967296 * g0 r 1)) = some v at h
  cases hr : rV k (valB 4294967296 X) (bits + 6) (List.replicate 8 0) with
  | none => rw [hr] at h; cases h
  | some R => ?_
  rw [hr] at h
  have hv := Option.some.inj h
  have HV := Lib.hid hv
  have HX := Lib.hid hx
  have HR := Lib.hid hr
  have HK := Lib.hid hk
  clear hp hx hr hv h
  have hb64 : bits ≤ 64 := by omega
  go_enter Tryd.func38, Tryd.ntmps38
  go_wp2_with fail
  have HA := Lib.hid (show Arr .u64 107 (w.alloc (.cells (arrC .u64 [0, 0, 0, 0, 0, 0, 0, 0]) 107)) w.heap.size zero8 from Arr.new _ _ _)
  have HB := Lib.hid ((Below.refl w.heap.size w).alloc (Nat.le_refl _) (.cells (arrC .u64 [0, 0, 0, 0, 0, 0, 0, 0]) 107))
  obtain ⟨hx, ehx⟩ : ∃ g, g = w.heap.size := ⟨_, rfl⟩
  have hxw : Hid (w.heap.size ≤ hx) := Nat.le_of_eq ehx.symm
  rw [← ehx] at HA ⊢
  generalize w.alloc (.cells (arrC .u64 [0, 0, 0, 0, 0, 0, 0, 0]) 107) = W at *
  clear ehx
  go_loopw [0, 8] (fun nv iv wq => ∃ (i m : Nat) (x : List Nat), nv = .int .i64 (m : Int) ∧ iv = .int .i64 (i : Int) ∧ i ≤ 9 ∧ m < 512 ∧ Hid (Arr .u64 107 wq hx x ∧ Eight x ∧ Below w.heap.size w wq ∧ xV p (9 - i) m x = some X)) (fun _ iv _ => 9 - (intOf iv).toNat)
  case atStart => exact ⟨0, n, zero8, rfl, rfl, by decide, hn, HA.out, eight_zero, HB.out, HX.out⟩
  case round =>
    obtain ⟨i, m, x, rfl, rfl, hi, hm, hI⟩ := hrel
    by_cases hlt : i < 9
    · obtain ⟨f, hf⟩ : ∃ f, 9 - i = f + 1 := ⟨8 - i, by omega⟩
      obtain ⟨m2, hm2⟩ : ∃ q, q = m / 2 := ⟨_, rfl⟩
      have hmd : Int.tdiv (m : Int) 2 = (m2 : Int) := by rw [Int.tdiv_eq_ediv_of_nonneg (by omega)]; omega
      have hm5 : m2 < 512 := by omega
      have hf2 : 9 - (i + 1) = f := by omega
      have hf3 : p + (8 - f) = p + i := by omega
      have HM := Lib.hid hm2
      have HF := Lib.hid hf
      have HF2 := Lib.hid hf2
      have HF3 := Lib.hid hf3
      clear hf hf2 hf3 hm2
      by_cases hodd : m % 2 = 1
      · have hmo : Int.tmod (m : Int) 2 = 1 := by rw [Int.tmod_eq_emod_of_nonneg (by omega)]; omega
        have hst := xV_one (by rw [← HF.out]; exact hI.out.2.2.2) hodd
        rw [HF3.out, ← HM.out] at hst
        have HST := Lib.hid hst
        have hx8 := Lib.hid hI.out.2.1.1
        clear hst hodd
        go_wp2_with (refine wpList_loadW rfl _ rfl hx x rfl hI.out.1 hx8.out ?_)
        refine (with_any x (p + i) _ hI.out.2.1 (by push_cast; rfl) (by omega) wr).mono ?_
        rintro e w2 ⟨rfl, hb2⟩
        have HA2 := Lib.hid (hI.out.1.below hb2 hI.out.1.lt)
        have HB2 := Lib.hid (hI.out.2.2.1.trans (hb2.mono hI.out.2.2.1.size))
        clear hb2
        go_wp2_with (refine wpList_storeW rfl _ _ rfl hx x (withN x (p + i)) rfl rfl HA2.out hx8.out HST.out.1.1 ?_)
        go_roundw
        case rel => exact ⟨i + 1, m2, withN x (p + i), rfl, by go_num, by omega, hm5, HA2.out.laid _, HST.out.1, below_setRow HB2.out hx _ hxw.out HB2.out.size, by rw [HF2.out]; exact HST.out.2⟩
        case measure => simp [intOf] <;> omega
      · have hmo : Int.tmod (m : Int) 2 = 0 := by rw [Int.tmod_eq_emod_of_nonneg (by omega)]; omega
        have hst := xV_two (by rw [← HF.out]; exact hI.out.2.2.2) (by omega)
        rw [← HM.out] at hst
        have HST := Lib.hid hst
        clear hst hodd
        go_wp2
        go_roundw
        case rel => exact ⟨i + 1, m2, x, rfl, by go_num, by omega, hm5, hI.out.1, hI.out.2.1, hI.out.2.2.1, by rw [HF2.out]; exact HST.out⟩
        case measure => simp [intOf] <;> omega
    · have hi9 : i = 9 := by omega
      obtain rfl : x = X := by have := hI.out.2.2.2; rw [hi9] at this; exact Option.some.inj this
      have t9 : decide ((i : Int) < 9) = false := by simp; omega
      clear hlt hi hi9
      have HAX := Lib.hid hI.out.1
      have HEX := Lib.hid hI.out.2.1
      have HBX := Lib.hid hI.out.2.2.1
      clear hI HX HA HB
      go_wp2_with fail
      have HA3 := Lib.hid (HAX.out.alloc (.cells (arrC .u64 [0, 0, 0, 0, 0, 0, 0, 0]) 107))
      have HR3 := Lib.hid (show Arr .u64 107 (wr.alloc (.cells (arrC .u64 [0, 0, 0, 0, 0, 0, 0, 0]) 107)) wr.heap.size zero8 from Arr.new _ _ _)
      have HB3 := Lib.hid (HBX.out.alloc HBX.out.size (.cells (arrC .u64 [0, 0, 0, 0, 0, 0, 0, 0]) 107))
      have hne : Hid (hx ≠ wr.heap.size) := Nat.ne_of_lt HAX.out.lt
      have hrw := Lib.hid HBX.out.size
      generalize wr.alloc (.cells (arrC .u64 [0, 0, 0, 0, 0, 0, 0, 0]) 107) = W3 at *
      generalize wr.heap.size = hr at *
      clear HAX HBX
      go_loopw [10] (fun iv wq => ∃ (i : Nat) (z : Int) (r : List Nat), iv = .int .i64 z ∧ z = (i : Int) - 1 ∧ i ≤ bits + 6 ∧ Hid (Arr .u64 107 wq hx x ∧ Arr .u64 107 wq hr r ∧ Eight r ∧ Below w.heap.size w wq ∧ rV k (valB 4294967296 x) i r = some R)) (fun iv _ => (intOf iv + 1).toNat)
      case atStart => exact ⟨bits + 6, _, zero8, by go_num, by push_cast; omega, Nat.le_refl _, HA3.out, HR3.out, eight_zero, HB3.out, HR.out⟩
      case round =>
        obtain ⟨i, z, r, rfl, hzi, hi, hI⟩ := hrel
        cases i with
        | zero =>
          have tz : decide ((0 : Int) ≤ z) = false := by simp; omega
          obtain rfl : r = R := by have := hI.out.2.2.2.2; exact Option.some.inj this
          have c0 := hI.out.2.1.cell 0 (by rw [hI.out.2.2.1.1]; decide)
          have c1 := hI.out.2.1.cell 1 (by rw [hI.out.2.2.1.1]; decide)
          have l0 : g0 r 0 < 4294967296 := g0_lt hI.out.2.2.1.2 (by decide) 0
          have l1 : g0 r 1 < 4294967296 := g0_lt hI.out.2.2.1.2 (by decide) 1
          have hv := HV.out
          change wr.cell? _ = some (.int .u64 ((g0 r 0 : Nat) : Int)) at c0
          change wr.cell? _ = some (.int .u64 ((g0 r 1 : Nat) : Int)) at c1
          generalize g0 r 0 = x0 at *
          generalize g0 r 1 = x1 at *
          have HBf := Lib.hid hI.out.2.2.2.1
          clear hI hzi hi
          rcases hb with hb | hb
          · have tb : ((bits : Int) == 32) = true := by rw [hb]; rfl
            obtain rfl : x0 = v := by rw [hb] at hv; exact hv
            clear hb hv
            go_wp2
            go_ret
            exact ⟨rfl, HBf.out⟩
          · have tb : ((bits : Int) == 32) = false := by rw [hb]; rfl
            have hv2 : x0 + 4294967296 * x1 = v := by rw [hb] at hv; exact hv
            obtain ⟨y1, hy⟩ : ∃ y, y = 4294967296 * x1 := ⟨_, rfl⟩
            have e1 : (4294967296 : Int) * (x1 : Int) = (y1 : Int) := by omega
            have e2 : (x0 : Int) + (y1 : Int) = (v : Int) := by omega
            have by1 : y1 < 18446744073709551616 := by omega
            have bv1 : v < 18446744073709551616 := by omega
            clear hb hv hv2 hy
            go_wp2
            go_ret
            exact ⟨rfl, HBf.out⟩
        | succ j =>
          obtain rfl : z = (j : Int) := by omega
          have hst := rV_step hI.out.2.2.2.2
          have HST := Lib.hid hst
          have HA := Lib.hid hI.out.1
          have HQ := Lib.hid hI.out.2.1
          have HE := Lib.hid hI.out.2.2.1
          have HB := Lib.hid hI.out.2.2.2.1
          have hnn : ¬ ((j : Int) < 0) := by omega
          clear hst hI hzi
          go_wp2_with (refine wpList_loadW rfl _ rfl hr r rfl HQ.out HE.out.1 ?_)
          refine (with_any r j _ HE.out rfl (by omega) wr).mono ?_
          rintro e w2 ⟨rfl, hb2⟩
          generalize hT : withN r j = T at *
          have HTE := Lib.hid hT.symm
          have HET := Lib.hid HST.out.1
          clear hT
          have HA := Lib.hid (HA.out.below hb2 HA.out.lt)
          have HQ := Lib.hid (HQ.out.below hb2 HQ.out.lt)
          have HB := Lib.hid (HB.out.trans (hb2.mono HB.out.size))
          clear hb2
          go_wp2_with (first | (refine wpList_storeW rfl _ _ rfl w2.heap.size zero8 T rfl rfl (Arr.new w2 _ zero8) rfl HET.out.1 ?_) | (refine wpList_loadW rfl _ rfl w2.heap.size T rfl (arr_fresh w2 _ zero8 T) HET.out.1 ?_))
          have HT := Lib.hid (show Arr .u64 107 ((w2.alloc (.cells (arrC .u64 [0, 0, 0, 0, 0, 0, 0, 0]) 107)).setRow w2.heap.size (arrC .u64 T)) w2.heap.size T from arr_fresh w2 _ _ T)
          have hf := Lib.hid (show hx ≠ w2.heap.size ∧ hr ≠ w2.heap.size from ⟨Nat.ne_of_lt HA.out.lt, Nat.ne_of_lt HQ.out.lt⟩)
          have HA := Lib.hid (HA.out.fresh (.cells (arrC .u64 [0, 0, 0, 0, 0, 0, 0, 0]) 107) (arrC .u64 T))
          have HQ := Lib.hid (HQ.out.fresh (.cells (arrC .u64 [0, 0, 0, 0, 0, 0, 0, 0]) 107) (arrC .u64 T))
          have HB := Lib.hid (below_fresh HB.out HB.out.size (.cells (arrC .u64 [0, 0, 0, 0, 0, 0, 0, 0]) 107) (arrC .u64 T))
          generalize (w2.alloc (.cells (arrC .u64 [0, 0, 0, 0, 0, 0, 0, 0]) 107)).setRow w2.heap.size (arrC .u64 T) = w3 at *
          generalize w2.heap.size = f at *
          refine (product_any T T HET.out HET.out w3).mono ?_
          rintro e w4 ⟨rfl, hb4⟩
          have HP8 := Lib.hid (productN_ok HET.out HET.out)
          generalize hP : productN T T = pp at *
          have HPP := Lib.hid hP.symm
          clear hP
          have HA := Lib.hid (HA.out.below hb4 HA.out.lt)
          have HQ := Lib.hid (HQ.out.below hb4 HQ.out.lt)
          have HT := Lib.hid (HT.out.below hb4 HT.out.lt)
          have HB := Lib.hid (HB.out.trans (hb4.mono HB.out.size))
          clear hb4
          rcases HK.out with hk | hk
          · have tk : ((k : Int) == 3) = false := by rw [hk]; rfl
            have HK2 := Lib.hid hk
            clear hk
            go_wp2_with (first | (refine wpList_storeW rfl _ _ rfl w4.heap.size zero8 pp rfl rfl (Arr.new w4 _ zero8) rfl HP8.out.1 ?_) | (refine wpList_loadW rfl _ rfl w4.heap.size pp rfl (arr_fresh w4 _ zero8 pp) HP8.out.1 ?_) | (refine wpList_loadW rfl _ rfl hx x rfl (HA.out.fresh _ _) HEX.out.1 ?_))
            have HP := Lib.hid (show Arr .u64 107 ((w4.alloc (.cells (arrC .u64 [0, 0, 0, 0, 0, 0, 0, 0]) 107)).setRow w4.heap.size (arrC .u64 pp)) w4.heap.size pp from arr_fresh w4 _ _ pp)
            have hg := Lib.hid (show hx ≠ w4.heap.size ∧ hr ≠ w4.heap.size ∧ f ≠ w4.heap.size ∧ w.heap.size ≤ w4.heap.size from ⟨Nat.ne_of_lt HA.out.lt, Nat.ne_of_lt HQ.out.lt, Nat.ne_of_lt HT.out.lt, HB.out.size⟩)
            have HA := Lib.hid (HA.out.fresh (.cells (arrC .u64 [0, 0, 0, 0, 0, 0, 0, 0]) 107) (arrC .u64 pp))
            have HQ := Lib.hid (HQ.out.fresh (.cells (arrC .u64 [0, 0, 0, 0, 0, 0, 0, 0]) 107) (arrC .u64 pp))
            have HT := Lib.hid (HT.out.fresh (.cells (arrC .u64 [0, 0, 0, 0, 0, 0, 0, 0]) 107) (arrC .u64 pp))
            have HB := Lib.hid (below_fresh HB.out HB.out.size (.cells (arrC .u64 [0, 0, 0, 0, 0, 0, 0, 0]) 107) (arrC .u64 pp))
            generalize (w4.alloc (.cells (arrC .u64 [0, 0, 0, 0, 0, 0, 0, 0]) 107)).setRow w4.heap.size (arrC .u64 pp) = w5 at *
            generalize w4.heap.size = g at *
            have HPW := Lib.hid (show pp = powN k T by rw [HK2.out]; exact HPP.out)
            have HP8 := Lib.hid (show Eight pp by rw [HPW.out]; exact powN_ok HET.out)
            refine (more_any pp x HP8.out.1 HEX.out.1 w5).mono ?_
            rintro e w6 ⟨rfl, hb6⟩
            have HT6 := Lib.hid (HT.out.below hb6 HT.out.lt)
            have HA6 := Lib.hid (HA.out.below hb6 HA.out.lt)
            have HQ6 := Lib.hid (HQ.out.below hb6 HQ.out.lt)
            have HB6 := Lib.hid (HB.out.trans (hb6.mono HB.out.size))
            have hab := above_val HK.out HET.out HEX.out
            rw [← HPW.out] at hab
            have hnx := HST.out.2
            rw [← hab] at hnx
            clear hb6 hab
            cases hmo : moreN pp x 8 with
            | true =>
              rw [hmo, cond_true] at hnx
              have HNX := Lib.hid hnx
              clear hnx hmo
              go_wp2
              go_roundw
              case rel => exact ⟨j, _, r, rfl, by go_num, by omega, HA6.out, HQ6.out, HE.out, HB6.out, HNX.out⟩
              case measure => simp [intOf] <;> omega
            | false =>
              rw [hmo, cond_false] at hnx
              have HNX := Lib.hid hnx
              clear hnx hmo
              go_wp2_with (first | (refine wpList_loadW rfl _ rfl f T rfl HT6.out HET.out.1 ?_) | (refine wpList_storeW rfl _ _ rfl hr r T rfl rfl HQ6.out HE.out.1 HET.out.1 ?_))
              go_roundw
              case rel => exact ⟨j, _, T, rfl, by go_num, by omega, HA6.out.beside _ _ hne.out, HQ6.out.laid _, HET.out, below_setRow HB6.out _ _ hrw.out HB6.out.size, HNX.out⟩
              case measure => simp [intOf] <;> omega
          · have tk : ((k : Int) == 3) = true := by rw [hk]; rfl
            have HK2 := Lib.hid hk
            clear hk
            go_wp2_with (first | (refine wpList_storeW rfl _ _ rfl w4.heap.size zero8 pp rfl rfl (Arr.new w4 _ zero8) rfl HP8.out.1 ?_) | (refine wpList_loadW rfl _ rfl w4.heap.size pp rfl (arr_fresh w4 _ zero8 pp) HP8.out.1 ?_) | (refine wpList_loadW rfl _ rfl f T rfl (HT.out.fresh _ _) HET.out.1 ?_))
            have HP := Lib.hid (show Arr .u64 107 ((w4.alloc (.cells (arrC .u64 [0, 0, 0, 0, 0, 0, 0, 0]) 107)).setRow w4.heap.size (arrC .u64 pp)) w4.heap.size pp from arr_fresh w4 _ _ pp)
            have hg := Lib.hid (show hx ≠ w4.heap.size ∧ hr ≠ w4.heap.size ∧ f ≠ w4.heap.size ∧ w.heap.size ≤ w4.heap.size from ⟨Nat.ne_of_lt HA.out.lt, Nat.ne_of_lt HQ.out.lt, Nat.ne_of_lt HT.out.lt, HB.out.size⟩)
            have HA := Lib.hid (HA.out.fresh (.cells (arrC .u64 [0, 0, 0, 0, 0, 0, 0, 0]) 107) (arrC .u64 pp))
            have HQ := Lib.hid (HQ.out.fresh (.cells (arrC .u64 [0, 0, 0, 0, 0, 0, 0, 0]) 107) (arrC .u64 pp))
            have HT := Lib.hid (HT.out.fresh (.cells (arrC .u64 [0, 0, 0, 0, 0, 0, 0, 0]) 107) (arrC .u64 pp))
            have HB := Lib.hid (below_fresh HB.out HB.out.size (.cells (arrC .u64 [0, 0, 0, 0, 0, 0, 0, 0]) 107) (arrC .u64 pp))
            generalize (w4.alloc (.cells (arrC .u64 [0, 0, 0, 0, 0, 0, 0, 0]) 107)).setRow w4.heap.size (arrC .u64 pp) = w5 at *
            generalize w4.heap.size = g at *
            refine (product_any pp T HP8.out HET.out w5).mono ?_
            rintro e w7 ⟨rfl, hb7⟩
            have HA := Lib.hid (HA.out.below hb7 HA.out.lt)
            have HQ := Lib.hid (HQ.out.below hb7 HQ.out.lt)
            have HT := Lib.hid (HT.out.below hb7 HT.out.lt)
            have HP := Lib.hid (HP.out.below hb7 HP.out.lt)
            have HB := Lib.hid (HB.out.trans (hb7.mono HB.out.size))
            have HP9 := Lib.hid (productN_ok HP8.out HET.out)
            generalize hP : productN pp T = pw at *
            have HPP := Lib.hid (show pw = productN (productN T T) T by rw [← HPP.out]; exact hP.symm)
            clear hP hb7
            go_wp2_with (first | (refine wpList_storeW rfl _ _ rfl g pp pw rfl rfl HP.out HP8.out.1 HP9.out.1 ?_) | (refine wpList_loadW rfl _ rfl g pw rfl (HP.out.laid pw) HP9.out.1 ?_) | (refine wpList_loadW rfl _ rfl hx x rfl (HA.out.beside _ _ hg.out.1) HEX.out.1 ?_))
            have HA := Lib.hid (HA.out.beside g (arrC .u64 pw) hg.out.1)
            have HQ := Lib.hid (HQ.out.beside g (arrC .u64 pw) hg.out.2.1)
            have HT := Lib.hid (HT.out.beside g (arrC .u64 pw) hg.out.2.2.1)
            have HB := Lib.hid (below_setRow HB.out g (arrC .u64 pw) hg.out.2.2.2 HB.out.size)
            generalize w7.setRow g (arrC .u64 pw) = w8 at *
            have HPW := Lib.hid (show pw = powN k T by rw [HK2.out]; exact HPP.out)
            have HP8 := Lib.hid (show Eight pw by rw [HPW.out]; exact powN_ok HET.out)
            refine (more_any pw x HP8.out.1 HEX.out.1 w8).mono ?_
            rintro e w6 ⟨rfl, hb6⟩
            have HT6 := Lib.hid (HT.out.below hb6 HT.out.lt)
            have HA6 := Lib.hid (HA.out.below hb6 HA.out.lt)
            have HQ6 := Lib.hid (HQ.out.below hb6 HQ.out.lt)
            have HB6 := Lib.hid (HB.out.trans (hb6.mono HB.out.size))
            have hab := above_val HK.out HET.out HEX.out
            rw [← HPW.out] at hab
            have hnx := HST.out.2
            rw [← hab] at hnx
            clear hb6 hab
            cases hmo : moreN pw x 8 with
            | true =>
              rw [hmo, cond_true] at hnx
              have HNX := Lib.hid hnx
              clear hnx hmo
              go_wp2
              go_roundw
              case rel => exact ⟨j, _, r, rfl, by go_num, by omega, HA6.out, HQ6.out, HE.out, HB6.out, HNX.out⟩
              case measure => simp [intOf] <;> omega
            | false =>
              rw [hmo, cond_false] at hnx
              have HNX := Lib.hid hnx
              clear hnx hmo
              go_wp2_with (first | (refine wpList_loadW rfl _ rfl f T rfl HT6.out HET.out.1 ?_) | (refine wpList_storeW rfl _ _ rfl hr r T rfl rfl HQ6.out HE.out.1 HET.out.1 ?_))
              go_roundw
              case rel => exact ⟨j, _, T, rfl, by go_num, by omega, HA6.out.beside _ _ hne.out, HQ6.out.laid _, HET.out, below_setRow HB6.out _ _ hrw.out HB6.out.size, HNX.out⟩
              case measure => simp [intOf] <;> omega

end Go.Proofs.YtmfjhgjplmpecaaDoor

namespace Go.Proofs.YtmfjhgjplmpecaaDoor
open Go.RowKit Go.Shelf

/-- A number's last bytes, the highest one first. -/
def lbN (N : Nat) : Nat → List Nat
  | 0 => []
  | i + 1 => N / 256 ^ i % 256 :: lbN N i
theorem lbN_len (N : Nat) : ∀ i, (lbN N i).length = i
  | 0 => rfl
  | i + 1 => by rw [lbN, List.length_cons, lbN_len N i]
def lenV : Value → Nat
  | .slice _ m _ => m
  | _ => 0
theorem own_sl {q : IntKind} {E B : Nat} {w : World} {v : Value} {l : List Nat} (h : OwnQ q E B w v l) : ∃ a n cap, v = .slice a n cap ∧ n = l.length ∧ OwnQ q E B w (.slice a n cap) l := by
  obtain ⟨a, c, rfl, -, -⟩ := h.form
  exact ⟨a, _, c, rfl, rfl, h⟩
/-- A message, filled up. -/
def fillN (bl : List Nat) : List Nat := bl ++ [128] ++ List.replicate ((64 - (bl.length + 1 + 8) % 64) % 64) 0 ++ lbN (8 * bl.length) 8
theorem fillN_len (bl : List Nat) : (fillN bl).length = bl.length + 1 + (64 - (bl.length + 1 + 8) % 64) % 64 + 8 := by
  unfold fillN
  rw [List.length_append, List.length_append, List.length_append, List.length_replicate, lbN_len]
  rfl
theorem fillN_ne (bl : List Nat) : fillN bl ≠ [] := fun e => by
  have := fillN_len bl
  rw [e, List.length_nil] at this
  omega
theorem fillN_blocks (bl : List Nat) : ∃ q, (fillN bl).length = 64 * q ∧ 0 < q := ⟨(fillN bl).length / 64, by rw [fillN_len]; omega, by rw [fillN_len]; omega⟩
theorem lbN_lt (N : Nat) : ∀ i, ∀ x ∈ lbN N i, x < 256
  | 0 => fun x hx => by cases hx
  | i + 1 => fun x hx => by
    rcases List.mem_cons.1 hx with h | h
    · rw [h]
      exact Nat.mod_lt _ (by decide)
    · exact lbN_lt N i x h
theorem fillN_lt {bl : List Nat} (h : ∀ x ∈ bl, x < 256) : ∀ x ∈ fillN bl, x < 256 := fun x hx => by
  unfold fillN at hx
  simp only [List.mem_append, List.mem_singleton] at hx
  rcases hx with ((hx | hx) | hx) | hx
  · exact h x hx
  · omega
  · have := List.eq_of_mem_replicate hx
    omega
  · exact lbN_lt _ _ x hx
set_option maxRecDepth 1000000 in
set_option maxHeartbeats 2000000 in
theorem fill_any (a : Option Addr) (n c : Nat) (bl : List Nat) (w : World) (hr : Reads .u8 w a n c bl) (hn : n ≤ 10000) :
    Calls Tryd.prog 39 #[.slice a n c, .int .i64 64, .int .i64 8] w fun e w' => (∃ v, e = .returned v ∧ OwnQ .u8 5 w.heap.size w' v (fillN bl)) ∧ Below w.heap.size w w' := by
  obtain ⟨i0, hi, hz0, hz1, hz2'⟩ := info_parts infoB
  have HR := Lib.hid hr
  have HLN := Lib.hid hr.length
  obtain ⟨k, hk⟩ : ∃ k, k = (64 - (n + 1 + 8) % 64) % 64 := ⟨_, rfl⟩
  obtain ⟨N, hN⟩ : ∃ N, N = 8 * n := ⟨_, rfl⟩
  have hNi : (8 : Int) * (n : Int) = (N : Int) := by omega
  have hNb : N ≤ 80000 := by omega
  have hkb : k < 64 := by omega
  have HK := Lib.hid hk
  have HN := Lib.hid hN
  clear hr hk hN
  go_enter Tryd.func39, Tryd.ntmps39
  go_wp2_with (at_builtin; first
    | (refine wpList_append_q .u8 _ rfl _ _ 23 rfl w.heap.size 5 1 i0 Tryd.underlying23 hi hz0 hz1 hz2' (by decide) _ [] rfl (OwnQ.nil _ _ _ _) a n c bl rfl HR.out (by simp; omega) (Nat.le_refl _) ?_; intro v1 w1 hown1 hgrow1; rw [List.nil_append] at hown1; have HO1 := Lib.hid hown1; have HB1 := Lib.hid (hgrow1 _ (Below.refl _ _)); clear hown1 hgrow1)
    | (refine wpList_append_q .u8 _ rfl _ _ 23 rfl w.heap.size 5 1 i0 Tryd.underlying23 hi hz0 hz1 hz2' (by decide) _ bl rfl (HO1.out.alloc _) _ _ _ [128] rfl (Reads.one .u8 _ _ _ _ rfl) (by rw [HLN.out]; omega) (by have := HB1.out.size; simp; omega) ?_; intro v2 w2 hown2 hgrow2; have HO2 := Lib.hid hown2; have HB2 := Lib.hid (hgrow2 _ (HB1.out.alloc HB1.out.size _)); clear hown2 hgrow2))
  obtain ⟨a3, n3, c3, rfl, hn3, ho3⟩ := own_sl HO2.out
  rw [List.length_append, HLN.out] at hn3
  have HO3 := Lib.hid ho3
  have HN3 := Lib.hid hn3
  have hn3b : n3 ≤ 10001 := by rw [hn3]; simp; omega
  clear HO2 ho3 hn3
  go_loopw [7] (fun sv wq => ∃ (j m c' : Nat) (a' : Option Addr), sv = .slice a' m c' ∧ m ≤ 11000 ∧ j ≤ k ∧ Hid (m = n + 1 + j ∧ OwnQ .u8 5 w.heap.size wq (.slice a' m c') (bl ++ [128] ++ List.replicate j 0) ∧ Below w.heap.size w wq)) (fun sv _ => n + 1 + k - lenV sv)
  case atStart => exact ⟨0, n3, c3, a3, rfl, by omega, Nat.zero_le _, HN3.out, by rw [List.replicate_zero, List.append_nil]; exact HO3.out, HB2.out⟩
  case round =>
    obtain ⟨j, m, c', a', rfl, hm, hj, hI⟩ := hrel
    obtain ⟨r, hr⟩ : ∃ r, r = (m + 8) % 64 := ⟨_, rfl⟩
    have hri : Int.tmod ((m : Int) + 8) 64 = (r : Int) := by
      rw [Int.tmod_eq_emod_of_nonneg (by omega)]
      omega
    by_cases hlt : j < k
    · have hrn : ((r : Int) != 0) = true := by
        have h1 := hI.out.1
        have h2 := HK.out
        simp
        omega
      have hm2 : m ≤ 10001 + 64 := by have h1 := hI.out.1; omega
      clear hr
      go_wp2_with (at_builtin; refine wpList_append_q .u8 _ rfl _ _ 23 rfl w.heap.size 5 1 i0 Tryd.underlying23 hi hz0 hz1 hz2' (by decide) _ (bl ++ [128] ++ List.replicate j 0) rfl (hI.out.2.1.alloc _) _ _ _ [0] rfl (Reads.one .u8 _ _ _ _ rfl) (by rw [List.length_append, List.length_append, HLN.out, List.length_replicate]; simp; omega) (by have := hI.out.2.2.size; simp; omega) ?_; intro v4 w4 hown4 hgrow4; obtain ⟨a5, n5, c5, rfl, hn5, ho5⟩ := own_sl hown4; have HO5 := Lib.hid ho5; have HN5 := Lib.hid hn5; have HB5 := Lib.hid (hgrow4 _ (hI.out.2.2.alloc hI.out.2.2.size _)); clear hown4 hgrow4 hn5 ho5)
      have hn6 : n5 = n + 1 + (j + 1) := by rw [HN5.out, List.length_append, List.length_append, List.length_append, HLN.out, List.length_replicate]; simp; omega
      go_roundw
      case rel => exact ⟨j + 1, n5, c5, a5, rfl, by omega, by omega, hn6, by
        have h := HO5.out
        rw [List.append_assoc, ← List.replicate_succ'] at h
        exact h, HB5.out⟩
      case measure =>
        have h1 := hI.out.1
        simp [lenV]
        omega
    · obtain rfl : j = k := by omega
      have hrn : ((r : Int) != 0) = false := by
        have h1 := hI.out.1
        have h2 := HK.out
        simp
        omega
      have HOF := Lib.hid hI.out.2.1
      have HBF := Lib.hid hI.out.2.2
      clear hI hr
      have hnb : (n : Int) < 18446744073709551616 := by omega
      go_wp2_with fail
      clear hNi hri hrn hnb hj hlt
      go_loopw [8, 9, 10] (fun xv lv iv wq => ∃ (i x c9 : Nat) (a9 : Option Addr), xv = .int .u64 (x : Int) ∧ lv = .slice a9 i c9 ∧ iv = .int .i64 (i : Int) ∧ i ≤ 8 ∧ x ≤ 80000 ∧ Hid (x = N / 256 ^ i ∧ OwnQ .u8 5 w.heap.size wq (.slice a9 i c9) (lbN N i) ∧ OwnQ .u8 5 w.heap.size wq (.slice a' m c') (bl ++ [128] ++ List.replicate j 0) ∧ Below w.heap.size w wq)) (fun _ _ iv _ => 8 - (intOf iv).toNat)
      case atStart => exact ⟨0, N, 0, none, rfl, rfl, rfl, by decide, hNb, by simp, OwnQ.nil _ _ _ _, HOF.out, HBF.out⟩
      case round =>
        obtain ⟨i, x, c9, a9, rfl, rfl, rfl, hi9, hx9, hI⟩ := hrel
        by_cases hlt2 : i < 8
        · obtain ⟨y, hy⟩ : ∃ y, y = x % 256 := ⟨_, rfl⟩
          obtain ⟨z, hz⟩ : ∃ z, z = x / 256 := ⟨_, rfl⟩
          have hyi : (x : Int) % 256 = (y : Int) := by omega
          have hzi : (x : Int) / 256 = (z : Int) := by omega
          have hyw : IntKind.u8.wrap (y : Int) = (y : Int) := by simp [IntKind.wrap, IntKind.bits, IntKind.signed]; omega
          have hy2 : y < 256 := by omega
          have hz2 : z ≤ 80000 := by omega
          have HY := Lib.hid (show lbN N (i + 1) = [y] ++ lbN N i by rw [lbN, ← hI.out.1, ← hy]; rfl)
          have HZ := Lib.hid (show z = N / 256 ^ (i + 1) by rw [hz, hI.out.1, Nat.pow_succ, Nat.div_div_eq_div_mul])
          clear hy hz
          go_wp2_with (at_builtin; refine wpList_append_q .u8 _ rfl _ _ 23 rfl wr.heap.size 5 1 i0 Tryd.underlying23 hi hz0 hz1 hz2' (by decide) _ [y] rfl (World.ownsRow_lit wr #[.int .u8 (y : Int)] 1 (Nat.le_refl _) (by unfold maxLen; omega) rfl) a9 i c9 (lbN N i) rfl (hI.out.2.1.reads.below ((Below.refl _ _).alloc (Nat.le_refl _) _)) (by simp; omega) (by simp) ?_; intro v4 w4 hown4 hgrow4; have HB4 := Lib.hid (hgrow4 wr ((Below.refl _ _).alloc (Nat.le_refl _) _)); obtain ⟨a5, n5, c5, rfl, hn5, ho5⟩ := own_sl hown4; have HO5 := Lib.hid (ho5.mono hI.out.2.2.2.size); have hn6 : n5 = i + 1 := (by rw [hn5]; simp [lbN_len]); clear hown4 hgrow4 hn5 ho5)
          subst hn6
          go_roundw
          case rel => exact ⟨i + 1, z, c5, a5, rfl, rfl, by go_num, by omega, hz2, HZ.out, by rw [HY.out]; exact HO5.out, hI.out.2.2.1.below HB4.out, hI.out.2.2.2.trans (HB4.out.mono hI.out.2.2.2.size)⟩
          case measure => simp [intOf] <;> omega
        · have hiL : i = 8 := by omega
          have HF := Lib.hid (show bl ++ [128] ++ List.replicate j 0 ++ lbN N i = fillN bl by
            unfold fillN
            rw [hiL, HLN.out, ← HK.out, ← HN.out])
          have tL : decide ((i : Int) < 8) = false := by simp; omega
          have hmb : (bl ++ [128] ++ List.replicate j 0).length + i ≤ 20000 := by rw [List.length_append, List.length_append, HLN.out, List.length_replicate]; simp; omega
          clear hiL hlt2 hi9
          go_wp2_with (at_builtin; refine wpList_append_q .u8 _ rfl _ _ 23 rfl w.heap.size 5 1 i0 Tryd.underlying23 hi hz0 hz1 hz2' (by decide) _ (bl ++ [128] ++ List.replicate j 0) rfl hI.out.2.2.1 a9 i c9 (lbN N i) rfl hI.out.2.1.reads (by omega) hI.out.2.2.2.size ?_; intro v6 w6 hown6 hgrow6; have HO6 := Lib.hid hown6; have HB6 := Lib.hid (hgrow6 _ hI.out.2.2.2); clear hown6 hgrow6)
          go_ret
          exact ⟨⟨_, rfl, by rw [← HF.out]; exact HO6.out⟩, HB6.out⟩

end Go.Proofs.YtmfjhgjplmpecaaDoor

namespace Go.Proofs.YtmfjhgjplmpecaaDoor
open Go.RowKit

def PrimeN (n : Nat) : Prop := 2 ≤ n ∧ ∀ d, 2 ≤ d → d * d ≤ n → n % d ≠ 0

/-- Is there no divisor from d on, among k numbers? -/
def noDiv (n : Nat) : Nat → Nat → Bool
  | 0, _ => true
  | k + 1, d => if n < d * d then true else if n % d = 0 then false else noDiv n k (d + 1)
def isPrime (n : Nat) : Bool := decide (2 ≤ n) && noDiv n n 2
theorem noDiv_iff (n : Nat) : ∀ k d : Nat, noDiv n k d = true ↔ ∀ e, d ≤ e → e < d + k → e * e ≤ n → n % e ≠ 0 := by
  intro k
  induction k with
  | zero => exact fun d => ⟨fun _ e h1 h2 => by omega, fun _ => rfl⟩
  | succ k ih =>
    intro d
    unfold noDiv
    by_cases h1 : n < d * d
    · rw [if_pos h1]
      refine ⟨fun _ e he _ hee => ?_, fun _ => rfl⟩
      have := Nat.mul_le_mul he he
      omega
    · rw [if_neg h1]
      by_cases h2 : n % d = 0
      · rw [if_pos h2]
        exact ⟨fun h => (by cases h), fun h => absurd h2 (h d (Nat.le_refl _) (by omega) (by omega))⟩
      · rw [if_neg h2, ih]
        refine ⟨fun h e he hk hee => ?_, fun h e he hk hee => h e (by omega) (by omega) hee⟩
        rcases Nat.eq_or_lt_of_le he with rfl | hlt
        · exact h2
        · exact h e hlt (by omega) hee
theorem isPrime_iff (n : Nat) : isPrime n = true ↔ PrimeN n := by
  unfold isPrime PrimeN
  rw [Bool.and_eq_true, decide_eq_true_iff, noDiv_iff]
  refine ⟨fun ⟨a, h⟩ => ⟨a, fun d hd hdd => h d hd ?_ hdd⟩, fun ⟨a, h⟩ => ⟨a, fun d hd _ hdd => h d hd hdd⟩⟩
  have : d * 1 ≤ d * d := Nat.mul_le_mul_left _ (by omega)
  omega

theorem prime_div (n : Nat) : ∀ d, 2 ≤ d → d * d ≤ n → n % d = 0 → ∃ p, PrimeN p ∧ p * p ≤ n ∧ n % p = 0 := by
  intro d
  induction d using Nat.strongRecOn with
  | _ d ih =>
    intro h2 hd hm
    by_cases hp : PrimeN d
    · exact ⟨d, hp, hd, hm⟩
    · obtain ⟨e, he2, hee, hem⟩ : ∃ e, 2 ≤ e ∧ e * e ≤ d ∧ d % e = 0 := by
        refine Classical.byContradiction fun hc => hp ⟨h2, fun e h1 h3 h4 => hc ⟨e, h1, h3, h4⟩⟩
      have hlt : e < d := by
        have : e * 2 ≤ e * e := Nat.mul_le_mul_left _ he2
        omega
      refine ih e hlt he2 ?_ ?_
      · have : d * 1 ≤ d * d := Nat.mul_le_mul_left _ (by omega)
        omega
      · exact Nat.mod_eq_zero_of_dvd (Nat.dvd_trans (Nat.dvd_of_mod_eq_zero hem) (Nat.dvd_of_mod_eq_zero hm))
theorem not_prime {n : Nat} (h2 : 2 ≤ n) (h : ¬ PrimeN n) : ∃ p, PrimeN p ∧ p * p ≤ n ∧ n % p = 0 := by
  obtain ⟨e, he2, hee, hem⟩ : ∃ e, 2 ≤ e ∧ e * e ≤ n ∧ n % e = 0 := by
    refine Classical.byContradiction fun hc => h ⟨h2, fun e h1 h3 h4 => hc ⟨e, h1, h3, h4⟩⟩
  exact prime_div n e he2 hee hem

/-- A mark that is right ahead of the number n. -/
def MarkOk (n : Nat) (x : Nat × Nat) : Prop := PrimeN x.2 ∧ x.2 < n ∧ n ≤ x.1 ∧ x.2 * x.2 ≤ x.1 ∧ x.1 % x.2 = 0 ∧ (x.1 = x.2 * x.2 ∨ x.1 < n + x.2)
theorem MarkOk.stay {n : Nat} {x : Nat × Nat} (h : MarkOk n x) (hx : n < x.1) : MarkOk (n + 1) x := by
  obtain ⟨h1, h2, h3, h4, h5, h6⟩ := h
  exact ⟨h1, by omega, hx, h4, h5, h6.imp id (by omega)⟩
theorem MarkOk.move {n : Nat} {x : Nat × Nat} (h : MarkOk n x) (hx : x.1 = n) : MarkOk (n + 1) (x.1 + x.2, x.2) := by
  obtain ⟨h1, h2, h3, h4, h5, h6⟩ := h
  have := h1.1
  exact ⟨h1, by omega, by simp; omega, by simp; omega, by simp [h5], .inr (by simp; omega)⟩
theorem MarkOk.new {n : Nat} (h : PrimeN n) : MarkOk (n + 1) (n * n, n) := by
  have h1 := h.1
  have : n * 2 ≤ n * n := Nat.mul_le_mul_left _ h1
  exact ⟨h, by simp, by simp; omega, by simp, by simp, .inl rfl⟩
/-- All that is marked ahead of n. -/
def MarksOk (n : Nat) (L : List (Nat × Nat)) : Prop := (∀ x ∈ L, MarkOk n x) ∧ ∀ p, PrimeN p → p < n → ∃ a, (a, p) ∈ L
theorem MarksOk.hit {n : Nat} {L : List (Nat × Nat)} (h : MarksOk n L) (h2 : 2 ≤ n) : PrimeN n ↔ ∀ x ∈ L, x.1 ≠ n := by
  constructor
  · intro hp x hx e
    obtain ⟨h1, h3, _, h4, h5, _⟩ := h.1 x hx
    rw [e] at h4 h5
    exact hp.2 x.2 h1.1 h4 h5
  · intro hx
    refine Classical.byContradiction fun hp => ?_
    obtain ⟨p, h1, h3, h4⟩ := not_prime h2 hp
    have hlt : p < n := by
      have : p * 2 ≤ p * p := Nat.mul_le_mul_left _ h1.1
      have := h1.1
      omega
    obtain ⟨a, ha⟩ := h.2 p h1 hlt
    obtain ⟨_, _, g1, g2, g3, g4⟩ := h.1 _ ha
    refine hx _ ha ?_
    rcases g4 with g4 | g4
    · simp only at *; omega
    · simp only at *
      have e1 := Nat.div_add_mod a p
      have e2 := Nat.div_add_mod n p
      rw [g3] at e1
      rw [h4] at e2
      have hle : n / p ≤ a / p := Nat.div_le_div_right g1
      rcases Nat.eq_or_lt_of_le hle with e | hl
      · rw [e] at e2; omega
      · have : p * (n / p + 1) ≤ p * (a / p) := Nat.mul_le_mul_left _ hl
        rw [Nat.mul_add, Nat.mul_one] at this
        omega

/-- The primes below a number, and how many they are. -/
def primesTo (n : Nat) : List Nat := (List.range n).filter isPrime
theorem primesTo_succ (n : Nat) : primesTo (n + 1) = if isPrime n = true then primesTo n ++ [n] else primesTo n := by
  unfold primesTo
  rw [List.range_succ, List.filter_append]
  by_cases h : isPrime n = true
  · rw [if_pos h, List.filter_cons_of_pos h]; rfl
  · rw [if_neg h, List.filter_cons_of_neg h]; simp
theorem primesTo_mono (n : Nat) : ∀ k, ∃ t, primesTo (n + k) = primesTo n ++ t := by
  intro k
  induction k with
  | zero => exact ⟨[], by simp⟩
  | succ k ih =>
    obtain ⟨t, ht⟩ := ih
    rw [← Nat.add_assoc, primesTo_succ]
    split
    · exact ⟨t ++ [n + k], by rw [ht, List.append_assoc]⟩
    · exact ⟨t, ht⟩
theorem primesTo_take {n m : Nat} (h : n ≤ m) : (primesTo m).take (primesTo n).length = primesTo n := by
  obtain ⟨t, ht⟩ := primesTo_mono n (m - n)
  rw [show n + (m - n) = m by omega] at ht
  rw [ht, List.take_left']
  rfl
theorem primesTo_len {n m : Nat} (h : n ≤ m) : (primesTo n).length ≤ (primesTo m).length := by
  obtain ⟨t, ht⟩ := primesTo_mono n (m - n)
  rw [show n + (m - n) = m by omega] at ht
  rw [ht, List.length_append]
  omega

/-- How many primes there are among k numbers from n on, counted on from c. -/
def countP : Nat → Nat → Nat → Nat
  | 0, _, c => c
  | k + 1, n, c => match isPrime n with
    | true => countP k (n + 1) (c + 1)
    | false => countP k (n + 1) c
theorem countP_eq : ∀ k n, countP k n (primesTo n).length = (primesTo (n + k)).length := by
  intro k
  induction k with
  | zero => exact fun n => rfl
  | succ k ih =>
    intro n
    have e := primesTo_succ n
    unfold countP
    cases h : isPrime n with
    | true =>
      rw [if_pos h] at e
      show countP k (n + 1) ((primesTo n).length + 1) = _
      rw [show (primesTo n).length + 1 = (primesTo (n + 1)).length by rw [e]; simp, ih, show n + 1 + k = n + (k + 1) by omega]
    | false =>
      rw [if_neg (by rw [h]; decide)] at e
      show countP k (n + 1) (primesTo n).length = _
      rw [← e, ih, show n + 1 + k = n + (k + 1) by omega]
theorem count_step (n k c d m : Nat) (hm : m = n + k) (h : (primesTo n).length = c) (e : countP k n c = d) : (primesTo m).length = d := by
  subst hm
  rw [← countP_eq, h, e]
theorem thousand : (primesTo 7920).length = 1000 := by
  have h0 : (primesTo 0).length = 0 := rfl
  have h1 := count_step 0 990 0 _ 990 rfl h0 rfl
  have h2 := count_step 990 990 _ _ 1980 rfl h1 rfl
  have h3 := count_step 1980 990 _ _ 2970 rfl h2 rfl
  have h4 := count_step 2970 990 _ _ 3960 rfl h3 rfl
  have h5 := count_step 3960 990 _ _ 4950 rfl h4 rfl
  have h6 := count_step 4950 990 _ _ 5940 rfl h5 rfl
  have h7 := count_step 5940 990 _ _ 6930 rfl h6 rfl
  exact count_step 6930 990 _ 1000 7920 rfl h7 (by kernel_rfl)

end Go.Proofs.YtmfjhgjplmpecaaDoor

namespace Go.Proofs.YtmfjhgjplmpecaaDoor
open Go.RowKit

theorem div_le {p d : Nat} (hp : p < 100000) (h : ∀ e, 2 ≤ e → e < d → e * e ≤ p) : d ≤ 317 := by
  rcases Nat.lt_or_ge 317 d with hd | hd
  · have := h 317 (by decide) hd
    omega
  · exact hd
theorem div_next {p d : Nat} (h : ∀ e, 2 ≤ e → e < d → e * e ≤ p) (hd : d * d ≤ p) : ∀ e, 2 ≤ e → e < d + 1 → e * e ≤ p := fun e h1 h2 => by
  rcases Nat.lt_or_ge e d with h3 | h3
  · exact h e h1 h3
  · obtain rfl : e = d := by omega
    exact hd
theorem div_more {p d : Nat} (h : ∀ e, 2 ≤ e → e < d → p % e ≠ 0) (hd : p % d ≠ 0) : ∀ e, 2 ≤ e → e < d + 1 → p % e ≠ 0 := fun e h1 h2 => by
  rcases Nat.lt_or_ge e d with h3 | h3
  · exact h e h1 h3
  · obtain rfl : e = d := by omega
    exact hd
theorem prime_end {p d : Nat} (hp : 2 ≤ p) (h : ∀ e, 2 ≤ e → e < d → p % e ≠ 0) (hd : p < d * d) : isPrime p = true :=
  (isPrime_iff p).2 ⟨hp, fun e h1 h2 => h e h1 (by
    rcases Nat.lt_or_ge e d with h3 | h3
    · exact h3
    · have := Nat.mul_le_mul h3 h3
      omega)⟩
theorem prime_not {p d : Nat} (h2 : 2 ≤ d) (hd : d * d ≤ p) (h : p % d = 0) : isPrime p = false := by
  cases hi : isPrime p with
  | false => rfl
  | true => exact absurd h (((isPrime_iff p).1 hi).2 d h2 hd)

set_option maxHeartbeats 1000000 in
theorem prime_any (p : Nat) (w : World) (h2 : 2 ≤ p) (hp : p < 100000) (r : Bool) (hr : r = isPrime p) :
    Calls Tryd.prog 60 #[.int .i64 (p : Int)] w fun e w' => e = .returned (.bool r) ∧ w = w' := by
  have HR := Lib.hid hr
  clear hr
  go_enter Tryd.func60, Tryd.ntmps60
  go_wp2
  go_loop [3] (fun dv => ∃ d : Nat, dv = .int .i64 (d : Int) ∧ 2 ≤ d ∧ d ≤ 317 ∧ Hid ((∀ e, 2 ≤ e → e < d → e * e ≤ p) ∧ ∀ e, 2 ≤ e → e < d → p % e ≠ 0)) (fun dv => 400 - (intOf dv).toNat)
  case atStart => exact ⟨2, rfl, Nat.le_refl _, by decide, fun e h1 h2 => by omega, fun e h1 h2 => by omega⟩
  case round =>
    obtain ⟨d, rfl, hd2, hd3, hI⟩ := hrel
    obtain ⟨s, hs⟩ : ∃ s, s = d * d := ⟨_, rfl⟩
    have hcast : (d : Int) * (d : Int) = (s : Int) := by rw [hs, Int.natCast_mul]
    have hsb : s < 200000 := by
      rw [hs]
      exact Nat.lt_of_le_of_lt (Nat.mul_le_mul hd3 hd3) (by decide)
    have HS := Lib.hid hs
    clear hs
    rcases Nat.lt_or_ge p s with hlt | hge
    · have HE := Lib.hid (prime_end h2 hI.out.2 (HS.out ▸ hlt))
      go_wp2
      all_goals go_ret
      all_goals exact ⟨by rw [HR.out, HE.out]; rfl, rfl⟩
    · have HG := Lib.hid (show d * d ≤ p from HS.out ▸ hge)
      by_cases hm : p % d = 0
      · have HE := Lib.hid (prime_not hd2 HG.out hm)
        have t1 : ((p : Int) % (d : Int) == 0) = true := by rw [← Int.natCast_emod, hm]; rfl
        clear hm
        go_wp2
        all_goals go_ret
        all_goals exact ⟨by rw [HR.out, HE.out]; rfl, rfl⟩
      · have HM := Lib.hid hm
        have t1 : ((p : Int) % (d : Int) == 0) = false := by rw [← Int.natCast_emod]; simp; omega
        clear hm
        have HN := Lib.hid (div_next hI.out.1 HG.out)
        have HL := Lib.hid (div_le hp HN.out)
        go_wp2
        all_goals go_round
        case rel => exact ⟨d + 1, by go_num, by omega, HL.out, HN.out, div_more hI.out.2 HM.out⟩
        case measure => simp [intOf]; omega


def primesL : List Nat := [2,3,5,7,11,13,17,19,23,29,31,37,41,43,47,53,59,61,67,71,73,79,83,89,97,101,103,107,109,113,127,131,137,139,149,151,157,163,167,173,179,181,191,193,197,199,211,223,227,229,233,239,241,251,257,263,269,271,277,281,283,293,307,311]
theorem primesL_eq : primesTo 312 = primesL := eq_of_eqM (by kernel_rfl)
theorem primesL_len : primesL.length = 64 := rfl
theorem few_le {k : Nat} (h : (primesTo k).length < 64) : k < 312 := by
  rcases Nat.lt_or_ge k 312 with hk | hk
  · exact hk
  · have := primesTo_len hk
    rw [primesL_eq, primesL_len] at this
    omega
theorem infoI' : (Tryd.prog.info? 3).map (fun i => (i.zero, i.size, i.bytes)) = some (some (.int .i64 0), 1, 8) := by kernel_rfl
set_option maxRecDepth 100000 in
set_option maxHeartbeats 2000000 in
theorem first_any (w : World) :
    Calls Tryd.prog 37 #[.int .i64 64] w fun e w' => (∃ v, e = .returned (.tuple #[v, .int .i64 0]) ∧ OwnQ .i64 3 w.heap.size w' v primesL) ∧ Below w.heap.size w w' := by
  obtain ⟨i0, hi, hz0, hz1, hz2⟩ := info_parts infoI'
  go_enter Tryd.func37, Tryd.ntmps37
  go_wp2
  go_loopw [4, 5] (fun lv kv wr => ∃ (k m c : Nat) (a : Option Addr), lv = .slice a m c ∧ kv = .int .i64 (k : Int) ∧ 2 ≤ k ∧ k ≤ 312 ∧ m ≤ 64 ∧ Hid (OwnQ .i64 3 w.heap.size wr (.slice a m c) (primesTo k) ∧ m = (primesTo k).length ∧ Below w.heap.size w wr)) (fun _ kv _ => 9000 - (intOf kv).toNat)
  case atStart => exact ⟨2, 0, 0, none, rfl, rfl, Nat.le_refl _, by decide, Nat.zero_le _, OwnQ.nil _ _ _ _, rfl, Below.refl _ _⟩
  case round =>
    obtain ⟨k, m, c, a, rfl, rfl, hk2, hk8, hmN, hI⟩ := hrel
    rcases Nat.lt_or_ge m 64 with hlt | hge
    · have hk := few_le (k := k) (by rw [← hI.out.2.1]; exact hlt)
      cases hp : isPrime k with
      | false =>
        have HP := Lib.hid hp
        have HE := Lib.hid (show primesTo (k + 1) = primesTo k by rw [primesTo_succ, if_neg (by rw [HP.out]; decide)])
        clear hp
        go_wp2_with fail
        refine (prime_any k wr hk2 (by omega) false HP.out.symm).mono ?_
        rintro e w1 ⟨rfl, rfl⟩
        go_wp2
        go_roundw
        case rel => exact ⟨k + 1, m, c, a, rfl, by go_num, by omega, by omega, hmN, by rw [HE.out]; exact hI.out.1, by rw [HE.out]; exact hI.out.2.1, hI.out.2.2⟩
        case measure => simp [intOf]; omega
      | true =>
        have HP := Lib.hid hp
        have HE := Lib.hid (show primesTo (k + 1) = primesTo k ++ [k] by rw [primesTo_succ, if_pos HP.out])
        clear hp
        go_wp2_with fail
        refine (prime_any k wr hk2 (by omega) true HP.out.symm).mono ?_
        rintro e w1 ⟨rfl, rfl⟩
        go_wp2_with (at_builtin; refine wpList_append_q .i64 _ rfl _ _ 69 rfl w.heap.size 3 8 i0 Tryd.underlying69 hi hz0 hz1 hz2 (by decide) _ (primesTo k) rfl (hI.out.1.alloc _) _ _ _ [k] rfl (Reads.one .i64 _ _ _ _ rfl) (by rw [← hI.out.2.1]; omega) (by have := hI.out.2.2.size; simp; omega) ?_; intro v' w2 hown2 hgrow; obtain ⟨a2, n2, c2, rfl, hn2, hown3⟩ := own_sl hown2; have HO2 := Lib.hid hown3; have HN2 := Lib.hid hn2; have HB2 := Lib.hid (hgrow w (hI.out.2.2.alloc hI.out.2.2.size _)); clear hown2 hown3 hgrow hn2)
        go_roundw
        case rel => exact ⟨k + 1, _, _, _, rfl, by go_num, by omega, by omega, by rw [HN2.out, List.length_append, ← hI.out.2.1]; exact hlt, by rw [HE.out]; exact HO2.out, by rw [HE.out]; exact HN2.out, HB2.out⟩
        case measure => simp [intOf]; omega
    · have HE := Lib.hid (show primesTo k = primesL by
        have h1 := primesTo_take hk8
        rw [primesL_eq, ← hI.out.2.1, List.take_of_length_le (by rw [primesL_len]; exact hge)] at h1
        exact h1.symm)
      have t2 : decide ((m : Int) < 64) = false := by simp; omega
      go_wp2
      go_ret2
      exact ⟨⟨_, rfl, HE.out ▸ hI.out.1⟩, hI.out.2.2⟩

end Go.Proofs.YtmfjhgjplmpecaaDoor

namespace Go.Proofs.YtmfjhgjplmpecaaDoor
open Go.RowKit Go.Shelf

theorem reads_other {q : IntKind} {w : World} {a : Option Addr} {n c : Nat} {l : List Nat} (h : Reads q w a n c l) (g i : Nat) (v : Value) (hg : ∀ ad, a = some ad → ad.block ≠ g) : Reads q (w.setCell ⟨g, i, none⟩ v) a n c l :=
  h.grownNe (grown_set (x := w) (y := w) (g := g) ⟨rfl, rfl, rfl, Nat.le_refl _, fun _ _ _ => rfl⟩ i v) (fun _ ad e => fun hh => hg ad e (Option.some.inj hh))
theorem reads_cellG {q : IntKind} {w : World} {g n c : Nat} {l : List Nat} (h : Reads q w (some ⟨g, 0, none⟩) n c l) (i : Nat) (hi : i < n) : w.cell? ⟨g, i, none⟩ = some (.int q ((g0 l i : Nat) : Int)) := by
  obtain ⟨b, off, e, -, hc⟩ := h.cells (by omega)
  cases e
  have := hc i hi
  rwa [Nat.zero_add] at this
/-- A table that is written from its beginning on. -/
def fillT (T : List Nat) (n i : Nat) : List Nat := T.take i ++ List.replicate (n - i) 0
theorem fillT_len {T : List Nat} {n i : Nat} (h : i ≤ n) (hT : n ≤ T.length) : (fillT T n i).length = n := by
  unfold fillT
  rw [List.length_append, List.length_take, List.length_replicate]
  omega
theorem fillT_set {T : List Nat} {n i : Nat} (h : i < n) (hT : n ≤ T.length) : (fillT T n i).set i (g0 T i) = fillT T n (i + 1) := by
  unfold fillT
  have hl : (T.take i).length = i := by rw [List.length_take]; omega
  rw [List.set_append_right _ _ (by omega), hl, Nat.sub_self, take_snocN T i (by omega), List.append_assoc, show n - i = (n - (i + 1)) + 1 by omega, List.replicate_succ]
  rfl
theorem fillT_all {T : List Nat} {n : Nat} (hT : T.length = n) : fillT T n n = T := by
  unfold fillT
  rw [List.take_of_length_le (by omega), Nat.sub_self, List.replicate_zero, List.append_nil]
theorem fillT_lt {T : List Nat} {n i b : Nat} (hT : ∀ x ∈ T, x < b) (hb : 0 < b) : ∀ x ∈ fillT T n i, x < b := fun x hx => by
  unfold fillT at hx
  rcases List.mem_append.1 hx with hx | hx
  · exact hT x (List.mem_of_mem_take hx)
  · have := List.eq_of_mem_replicate hx
    omega
/-- What the blocks hold while the tables are written. -/
structure OfP (w W : World) (gp cp gk gh : Nat) (K H : List Nat) : Prop where
  p : Reads .i64 W (some ⟨gp, 0, none⟩) 64 cp primesL
  k : Arr .u32 73 W gk K
  h : Arr .u32 74 W gh H
  below : Below w.heap.size w W
  ne : gp ≠ gk ∧ gp ≠ gh ∧ gk ≠ gh ∧ w.heap.size ≤ gk ∧ w.heap.size ≤ gh
theorem OfP.on {w W W' : World} {gp cp gk gh : Nat} {K H : List Nat} (h : OfP w W gp cp gk gh K H) (hb : Below W.heap.size W W') : OfP w W' gp cp gk gh K H :=
  ⟨h.p.below hb, h.k.below hb h.k.lt, h.h.below hb h.h.lt, h.below.trans (hb.mono h.below.size), h.ne⟩
theorem OfP.setk {w W : World} {gp cp gk gh : Nat} {K H : List Nat} (h : OfP w W gp cp gk gh K H) (i x : Nat) (y : Int) (hy : y = x) : OfP w (W.setCell ⟨gk, i, none⟩ (.int .u32 y)) gp cp gk gh (K.set i x) H :=
  ⟨reads_other h.p _ _ _ (fun ad e => by cases e; exact h.ne.1), h.k.stored i x y hy, h.h.other _ _ (fun e => h.ne.2.2.1 e.symm), h.below.setCell (p := ⟨gk, i, none⟩) h.ne.2.2.2.1 _, h.ne⟩
theorem OfP.seth {w W : World} {gp cp gk gh : Nat} {K H : List Nat} (h : OfP w W gp cp gk gh K H) (i x : Nat) (y : Int) (hy : y = x) : OfP w (W.setCell ⟨gh, i, none⟩ (.int .u32 y)) gp cp gk gh K (H.set i x) :=
  ⟨reads_other h.p _ _ _ (fun ad e => by cases e; exact h.ne.2.1), h.k.other _ _ h.ne.2.2.1, h.h.stored i x y hy, h.below.setCell (p := ⟨gh, i, none⟩) h.ne.2.2.2.2 _, h.ne⟩
theorem frac_k : fracsB 3 32 4294967296 primesL kL = true := by kernel_rfl
theorem frac_h1 : fracsB 2 32 4294967296 (primesL.take 8) (startL.take 8) = true := by kernel_rfl
theorem frac_h2 : fracsB 2 64 4294967296 ((primesL.drop 8).take 8) (startL.drop 8) = true := by kernel_rfl
theorem prime_lt : ∀ x ∈ primesL, x < 512 := by unfold primesL; decide
theorem k_at (i : Nat) (hi : i < 64) : ∃ v, fracV (g0 primesL i) 3 32 = some v ∧ v % 4294967296 = g0 kL i := fracs_at frac_k i hi
theorem h1_at (i : Nat) (hi : i < 8) : ∃ v, fracV (g0 primesL i) 2 32 = some v ∧ v % 4294967296 = g0 (startN 256) i := by
  obtain ⟨v, h1, h2⟩ := fracs_at frac_h1 i hi
  refine ⟨v, ?_, h2⟩
  have : g0 (primesL.take 8) i = g0 primesL i := by unfold g0; rw [List.getElem?_take_of_lt hi]
  rw [← this]
  exact h1
theorem h2_at (i : Nat) (hi : i < 8) : ∃ v, fracV (g0 primesL (i + 8)) 2 64 = some v ∧ v % 4294967296 = g0 (startN 224) i := by
  obtain ⟨v, h1, h2⟩ := fracs_at frac_h2 i hi
  refine ⟨v, ?_, h2⟩
  have : g0 ((primesL.drop 8).take 8) i = g0 primesL (i + 8) := by unfold g0; rw [List.getElem?_take_of_lt hi, List.getElem?_drop, Nat.add_comm]
  rw [← this]
  exact h1

/-- What the blocks hold while the message is gone through. -/
structure OfS (w W : World) (gk gh gm ml cm : Nat) (H M : List Nat) : Prop where
  k : Arr .u32 73 W gk kL
  h : Arr .u32 74 W gh H
  m : Reads .u8 W (some ⟨gm, 0, none⟩) ml cm M
  below : Below w.heap.size w W
  ne : gk ≠ gh ∧ gm ≠ gh ∧ w.heap.size ≤ gh
theorem OfS.lt {w W : World} {gk gh gm ml cm : Nat} {H M : List Nat} (h : OfS w W gk gh gm ml cm H M) (hl : 0 < ml) : gm < W.heap.size := by
  obtain ⟨b, off, e, hlt, -⟩ := h.m.cells hl
  cases e
  exact hlt
theorem OfS.on {w W W' : World} {gk gh gm ml cm : Nat} {H M : List Nat} (h : OfS w W gk gh gm ml cm H M) (hb : Below W.heap.size W W') : OfS w W' gk gh gm ml cm H M :=
  ⟨h.k.below hb h.k.lt, h.h.below hb h.h.lt, h.m.below hb, h.below.trans (hb.mono h.below.size), h.ne⟩
theorem OfS.drew {w W : World} {gk gh gm ml cm : Nat} {H M : List Nat} (h : OfS w W gk gh gm ml cm H M) : OfS w W.drew gk gh gm ml cm H M := h.on (Below.refl _ _).drew
theorem OfS.drewN {w W : World} {gk gh gm ml cm : Nat} {H M : List Nat} (h : OfS w W gk gh gm ml cm H M) (n : Nat) : OfS w (W.drewN n) gk gh gm ml cm H M := h.on (below_drewS (Below.refl _ _) n)
theorem OfS.seth {w W : World} {gk gh gm ml cm : Nat} {H M : List Nat} (h : OfS w W gk gh gm ml cm H M) (i x : Nat) (y : Int) (hy : y = x) : OfS w (W.setCell ⟨gh, i, none⟩ (.int .u32 y)) gk gh gm ml cm (H.set i x) M :=
  ⟨h.k.other _ _ h.ne.1, h.h.stored i x y hy, reads_other h.m _ _ _ (fun ad e => by cases e; exact h.ne.2.1), h.below.setCell (p := ⟨gh, i, none⟩) h.ne.2.2 _, h.ne⟩
/-- A block beside these. -/
structure Own4 (w : World) (gk gh gm g : Nat) : Prop where
  ne : gk ≠ g ∧ gh ≠ g ∧ gm ≠ g ∧ w.heap.size ≤ g
theorem OfS.set {w W : World} {gk gh gm ml cm : Nat} {H M : List Nat} (h : OfS w W gk gh gm ml cm H M) {g : Nat} (hg : Own4 w gk gh gm g) (i : Nat) (v : Value) : OfS w (W.setCell ⟨g, i, none⟩ v) gk gh gm ml cm H M :=
  ⟨h.k.other _ _ hg.ne.1, h.h.other _ _ hg.ne.2.1, reads_other h.m _ _ _ (fun ad e => by cases e; exact hg.ne.2.2.1), h.below.setCell (p := ⟨g, i, none⟩) hg.ne.2.2.2 _, h.ne⟩
theorem OfS.beside {w W : World} {gk gh gm ml cm : Nat} {H M : List Nat} (h : OfS w W gk gh gm ml cm H M) (hl : 0 < ml) : Own4 w gk gh gm W.heap.size :=
  ⟨Nat.ne_of_lt h.k.lt, Nat.ne_of_lt h.h.lt, Nat.ne_of_lt (h.lt hl), h.below.size⟩
theorem or_add (x y : Nat) (hy : y < 256) : (x * 256 % 4294967296 ||| y) = (256 * x + y) % 4294967296 := by
  have e : x * 256 % 4294967296 = 2 ^ 8 * (x % 16777216) := by omega
  rw [e, ← Nat.two_pow_add_eq_or_of_lt (i := 8) (by omega)]
  omega
theorem pack_step (bl : List Nat) (i n x y : Nat) (hn : n < 4) (hx : x = g0 (packN bl (4 * i + n)) i) (hy : y = g0 bl (4 * i + n)) (h8 : y < 256) : packN bl (4 * i + (n + 1)) = (packN bl (4 * i + n)).set i ((256 * x + y) % 4294967296) := by
  show packS bl (4 * i + n) (packN bl (4 * i + n)) = _
  unfold packS
  rw [show (4 * i + n) / 4 = i by omega, ← hx, ← hy, or_add x y h8]

theorem fold_ws (bt : Nat) (m R : List Nat) (q : Nat) (hq : 64 * q ≤ m.length) : ∀ j, foldW (wsK bt m q) R j = wsK bt (m.take (64 * q) ++ R) (q + j)
  | 0 => wsK_ext q (by rw [List.take_append_of_le_length (by rw [List.length_take]; omega), List.take_take, Nat.min_self])
  | j + 1 => by
    show turnN (foldW (wsK bt m q) R j) ((R.drop (64 * j)).take 64) = turnN (wsK bt (m.take (64 * q) ++ R) (q + j)) (((m.take (64 * q) ++ R).drop (64 * (q + j))).take 64)
    rw [fold_ws bt m R q hq j, Nat.mul_add, List.drop_append (l₁ := m.take (64 * q)), List.drop_of_length_le (l := m.take (64 * q)) (by rw [List.length_take]; omega), List.nil_append, List.length_take, Nat.min_eq_left hq, Nat.add_sub_cancel_left]
theorem lb_len (T : Nat) : lbN (8 * T) 8 = lenB T 8 := by
  rw [Nat.mul_comm 8 T]
  rfl
theorem fill_rest (m : List Nat) : fillN m = m.take (64 * (m.length / 64)) ++ restN m := by
  unfold fillN restN
  rw [lb_len, show (64 - (m.length + 1 + 8) % 64) % 64 = (119 - m.length % 64) % 64 by omega, ← List.append_assoc, ← List.append_assoc, ← List.append_assoc, List.take_append_drop]
theorem sum_fill (bt : Nat) (m : List Nat) (nb : Nat) (h : (fillN m).length = 64 * nb) : sumW bt m = wsK bt (fillN m) nb := by
  unfold sumW
  rw [fold_ws bt m (restN m) (m.length / 64) (by omega), ← fill_rest]
  congr 1
  have h2 := congrArg List.length (fill_rest m)
  rw [h, List.length_append, List.length_take, Nat.min_eq_left (by omega)] at h2
  omega
theorem hash_ref (bt : Nat) (hbt : bt = 256 ∨ bt = 224) (m : List Nat) (nb : Nat) (h : (fillN m).length = 64 * nb) : bytesW (wsK bt (fillN m) nb) (bt / 32) = hashN bt m := by
  unfold hashN
  rw [← sum_fill bt m nb h]
  rcases hbt with rfl | rfl
  · exact (List.take_of_length_le (by rw [bytesW_len]; decide)).symm
  · show bytesW (sumW 224 m) 7 = (bytesW (sumW 224 m) 8).take 28
    rw [bytesW_succ (sumW 224 m) 7, List.take_append_of_le_length (by rw [bytesW_len]; decide), List.take_of_length_le (by rw [bytesW_len]; decide)]

end Go.Proofs.YtmfjhgjplmpecaaDoor

namespace Go.Proofs.YtmfjhgjplmpecaaDoor
open Go.RowKit Go.Shelf

def zR : List Nat := List.replicate 64 0
def z8 : List Nat := List.replicate 8 0
theorem of_start (w W : World) (gp cp : Nat) (H : List Nat) (HP : Reads .i64 W (some ⟨gp, 0, none⟩) 64 cp primesL) (hB : Below w.heap.size w W) (hgp : gp < W.heap.size) :
    OfP w ((W.alloc (.cells (arrC .u32 zR) 73)).alloc (.cells (arrC .u32 z8) 74)) gp cp W.heap.size (W.heap.size + 1) (fillT kL 64 0) (fillT H 8 0) := by
  have h1 : Arr .u32 73 (W.alloc (.cells (arrC .u32 zR) 73)) W.heap.size zR := Go.heap_alloc_new W _
  have hb := ((Below.refl W.heap.size W).alloc (Nat.le_refl _) (.cells (arrC .u32 zR) 73))
  have s1 : (W.alloc (.cells (arrC .u32 zR) 73)).heap.size = W.heap.size + 1 := World.size_alloc _ _
  generalize W.alloc (.cells (arrC .u32 zR) 73) = w1 at *
  have hb2 := hb.alloc (by omega) (.cells (arrC .u32 z8) 74)
  have h2 : Arr .u32 74 (w1.alloc (.cells (arrC .u32 z8) 74)) (W.heap.size + 1) z8 := by rw [← s1]; exact Go.heap_alloc_new w1 _
  refine ⟨HP.below hb2, ?_, ?_, hB.trans (hb2.mono hB.size), by omega, by omega, by omega, hB.size, by have := hB.size; omega⟩
  · rw [show fillT kL 64 0 = zR from rfl]
    exact h1.alloc _
  · rw [show fillT H 8 0 = z8 by unfold fillT; rfl]
    exact h2

theorem wpList_load8 {ops : Array Oper} {rest : List Oper} {o : Oper} {a : Act} {w : World} {Q : Exit → Act → World → Prop} (hgd : o.guard = none) (x : Operand) (ho : o.op = .load 74 x)
    (g : Nat) (l : List Nat) (hx : a.eval x = .pointer (some ⟨g, 0, none⟩)) (hA : Arr .u32 74 w g l) (h8 : l.length = 8)
    (h : wpList Tryd.prog ops Q rest (a.put o.dst (.agg (arrC .u32 l))) w) : wpList Tryd.prog ops Q (o :: rest) a w :=
  wpList_load_row hgd _ x ho g hx _ (arrC .u32 l) _ _ hA Tryd.underlying74 rfl (by rw [arrC_size, h8]; kernel_rfl) h
theorem wpList_store8 {ops : Array Oper} {rest : List Oper} {o : Oper} {a : Act} {w : World} {Q : Exit → Act → World → Prop} (hgd : o.guard = none) (x y : Operand) (ho : o.op = .store 74 x y)
    (g : Nat) (l m : List Nat) (hx : a.eval x = .pointer (some ⟨g, 0, none⟩)) (hy : a.eval y = .agg (arrC .u32 m)) (hA : Arr .u32 74 w g l) (hl8 : l.length = 8) (h8 : m.length = 8)
    (h : wpList Tryd.prog ops Q rest (a.put o.dst undef) (w.setRow g (arrC .u32 m))) : wpList Tryd.prog ops Q (o :: rest) a w :=
  wpList_store_row hgd _ _ _ ho g (arrC .u32 m) hx hy 74 _ hA (by rw [arrC_size, h8]; kernel_rfl) (by rw [arrC_size, arrC_size, h8, hl8]) (arrC_one _ _) h
theorem step_append_q {P : Program} (q : IntKind) (w : World) {o : Oper} {a : Act} {K : Act → World → Prop} {Q : Exit → Act → World → Prop} (s x : Operand) (t : TypeId)
    (ho : o.op = .call { callee := .builtin .append, args := #[s, x], argTypes := #[t, t] })
    (B E by' : Nat) (i : TypeInfo) (ht : P.underlying t = some (.slice E)) (hi : P.info? E = some i) (hz : i.zero = some (.int q 0)) (hsize : i.size = 1) (hby : i.bytes = by') (hby8 : by' ≤ 8)
    (v : Value) (l : List Nat) (hs : a.eval s = v) (hown : OwnQ q E B w v l) (ad : Addr) (m c : Nat) (l2 : List Nat) (hx : a.eval x = .slice (some ad) m c) (hb : Reads q w (some ad) m c l2)
    (hsum : l.length + m ≤ 17592186044416) (hbase : B ≤ w.heap.size)
    (h : ∀ v' w', OwnQ q E B w' v' (l ++ l2) → (∀ w0, Below B w0 w → Below B w0 w') → K (a.put o.dst v') w') : o.wp P a w K Q := by
  have hlen := hb.length
  have hbb : (l.length + m) * by' ≤ 140737488355328 := Nat.le_trans (Nat.mul_le_mul hsum hby8) (by decide)
  refine wp_append_own w s x t ho B E i (.int q 0) 1 by' ht hi hz hsize hby rfl (by decide) v l.length (l.map (num q)) hs hown ad m c (l2.map (num q)) hx (by simpa using hlen) hb.news (nums_oneCell _ _) (by unfold maxLen; omega) hbb hbase ?_
  intro v' w' ho' hg _
  refine h v' w' ?_ (fun w0 h0 => h0.grown hg hbase (fun k hk => (hown.lt k hk).1))
  unfold OwnQ
  rw [List.map_append, List.length_append, hlen]
  exact ho'
theorem right_s (x n r : Nat) (k : Int) (hn : n ≤ 31) (hk : k = n) (hx : x < 4294967296) (hr : r = rotr x n) (w : World) :
    Calls Tryd.prog 40 #[.int .u32 (x : Int), .int .i64 k] w fun e w' => e = .returned (.int .u32 (r : Int)) ∧ w' = w :=
  (right_any x n x k w rfl hk hx hn).mono fun e w' ⟨h1, h2⟩ => ⟨by rw [h1, hr, halfs_rot x n hx hn]; rfl, h2.symm⟩
theorem down_s (x n r : Nat) (k : Int) (hn : n ≤ 31) (hk : k = n) (hx : x < 4294967296) (hr : r = x / 2 ^ n) (w : World) :
    Calls Tryd.prog 41 #[.int .u32 (x : Int), .int .i64 k] w fun e w' => e = .returned (.int .u32 (r : Int)) ∧ w' = w :=
  (down_any x n x k w rfl hk hx hn).mono fun e w' ⟨h1, h2⟩ => ⟨by rw [h1, hr], h2.symm⟩

end Go.Proofs.YtmfjhgjplmpecaaDoor

namespace Go.Proofs.YtmfjhgjplmpecaaDoor
open Go.RowKit Go.Shelf

set_option maxRecDepth 100000 in
set_option maxHeartbeats 8000000 in
theorem ref_of256 (a : Option Addr) (n c : Nat) (bl : List Nat) (w : World) (hr : Reads .u8 w a n c bl) (hb : ∀ x ∈ bl, x < 256) (hn : n ≤ 9000) :
    Calls Tryd.prog 27 #[.int .i64 256, .slice a n c] w fun e w' => (∃ v, e = .returned (.tuple #[v, .int .i64 0]) ∧ OwnQ .u8 5 w.heap.size w' v (hashN 256 bl)) ∧ Below w.heap.size w w' := by
  have hzR : ∀ w, (zeroValue 73).run Tryd.prog w = .ok (.agg (arrC .u32 zR)) w := fun _ => by kernel_rfl
  have hz8 : ∀ w, (zeroValue 74).run Tryd.prog w = .ok (.agg (arrC .u32 z8)) w := fun _ => by kernel_rfl
  have HR := Lib.hid hr
  have HBL := Lib.hid hb
  clear hr hb
  go_enter Tryd.func27, Tryd.ntmps27
  go_wp2_with fail
  refine (first_any w).mono ?_
  rintro e w1 ⟨⟨v, rfl, hp⟩, hb1⟩
  obtain ⟨gp, cp, rfl⟩ := hp.succ (by decide)
  rw [primesL_len] at hp ⊢
  have HP := Lib.hid hp.reads
  have hgp := Lib.hid (hp.lt gp rfl)
  have HB1 := Lib.hid hb1
  clear hp hb1
  go_wp2_with fail
  have HO := Lib.hid (of_start w w1 gp cp (startN 256) HP.out HB1.out hgp.out.2)
  generalize (w1.alloc (.cells (arrC .u32 zR) 73)).alloc (.cells (arrC .u32 z8) 74) = W0 at *
  obtain ⟨gk, hgk⟩ : ∃ g, g = w1.heap.size := ⟨_, rfl⟩
  obtain ⟨gh, hgh⟩ : ∃ g, g = w1.heap.size + 1 := ⟨_, rfl⟩
  rw [← hgh, ← hgk] at HO
  rw [← hgh, ← hgk]
  clear hgk hgh hgp HP HB1
  go_loopw [10] (fun iv wq => ∃ i : Nat, iv = .int .i64 (i : Int) ∧ i ≤ 64 ∧ Hid (OfP w wq gp cp gk gh (fillT kL 64 i) (fillT (startN 256) 8 0))) (fun iv _ => 64 - (intOf iv).toNat)
  case atStart => exact ⟨0, rfl, by decide, HO.out⟩
  case round =>
    obtain ⟨i, rfl, hi, hI⟩ := hrel
    by_cases hlt : i < 64
    · have cp1 := reads_cellG hI.out.p i hlt
      obtain ⟨v, hv, hm⟩ := k_at i hlt
      have hp5 : g0 primesL i < 512 := g0_lt prime_lt (by decide) i
      generalize g0 primesL i = x at *
      obtain ⟨y, hy⟩ : ∃ y, y = g0 kL i := ⟨_, rfl⟩
      have hw : IntKind.u32.wrap (v : Int) = (y : Int) := by rw [← hy] at hm; simp [IntKind.wrap, IntKind.bits, IntKind.signed]; omega
      have HY := Lib.hid (show fillT kL 64 (i + 1) = (fillT kL 64 i).set i y by rw [hy]; exact (fillT_set hlt (by rw [kL_len]; exact Nat.le_refl _)).symm)
      have hcp := hI.out.p.le
      clear hy hm
      go_wp2_with fail
      refine (fraction_any x 3 32 v (by decide) (by decide) hp5 hv wr).mono ?_
      rintro e w2 ⟨rfl, hb2⟩
      have HO2 := Lib.hid (hI.out.on hb2)
      have ck := HO2.out.k.cell i (by rw [fillT_len hi (by rw [kL_len]; exact Nat.le_refl _)]; exact hlt)
      have fk := HO2.out.k.frozen i
      clear hb2 cp1
      go_wp2
      go_roundw
      case rel => exact ⟨i + 1, by go_num, by omega, by rw [HY.out]; exact HO2.out.setk i y _ rfl⟩
      case measure => simp [intOf] <;> omega
    · have hiR : i = 64 := by omega
      have tI : decide ((i : Int) < 64) = false := by simp; omega
      have HO2 := Lib.hid (show OfP w wr gp cp gk gh kL (fillT (startN 256) 8 0) by have := hI.out; rw [hiR, fillT_all kL_len] at this; exact this)
      clear hI hiR hlt hi HO
      go_wp2_with fail
      go_loopw [11] (fun iv wq => ∃ i : Nat, iv = .int .i64 (i : Int) ∧ i ≤ 8 ∧ Hid (OfP w wq gp cp gk gh kL (fillT (startN 256) 8 i))) (fun iv _ => 8 - (intOf iv).toNat)
      case atStart => exact ⟨0, rfl, by decide, HO2.out⟩
      case round =>
        obtain ⟨i2, rfl, hi, hI⟩ := hrel
        by_cases hlt : i2 < 8
        · obtain ⟨v, hv, hm⟩ := h1_at i2 hlt

          have cp1 := reads_cellG hI.out.p i2 (by omega)
          have hp5 : g0 primesL i2 < 512 := g0_lt prime_lt (by decide) _
          generalize g0 primesL i2 = x at *
          obtain ⟨y, hy⟩ : ∃ y, y = g0 (startN 256) i2 := ⟨_, rfl⟩
          have hw : IntKind.u32.wrap (v : Int) = (y : Int) := by rw [← hy] at hm; simp [IntKind.wrap, IntKind.bits, IntKind.signed]; omega
          have HY := Lib.hid (show fillT (startN 256) 8 (i2 + 1) = (fillT (startN 256) 8 i2).set i2 y by rw [hy]; exact (fillT_set hlt (by rw [startN_len]; exact Nat.le_refl _)).symm)
          have hcp := hI.out.p.le
          clear hy hm
          go_wp2_with fail
          refine (fraction_any x 2 32 v (by decide) (by decide) hp5 hv wr).mono ?_
          rintro e w2 ⟨rfl, hb2⟩
          have HO3 := Lib.hid (hI.out.on hb2)
          have ck := HO3.out.h.cell i2 (by rw [fillT_len hi (by rw [startN_len]; exact Nat.le_refl _)]; exact hlt)
          have fk := HO3.out.h.frozen i2
          clear hb2 cp1
          go_wp2
          go_roundw
          case rel => exact ⟨i2 + 1, by go_num, by omega, by rw [HY.out]; exact HO3.out.seth i2 y _ rfl⟩
          case measure => simp [intOf] <;> omega
        · have hiR : i2 = 8 := by omega
          have tI2 : decide ((i2 : Int) < 8) = false := by simp; omega
          have HO3 := Lib.hid (show OfP w wr gp cp gk gh kL (startN 256) by have := hI.out; rw [hiR, fillT_all (startN_len _)] at this; exact this)
          clear hI hiR hlt hi HO2
          go_wp2_with fail
          refine (fill_any a n c bl wr (HR.out.below HO3.out.below) (by omega)).mono ?_
          rintro e w3 ⟨⟨v3, rfl, ho3⟩, hb3⟩
          obtain ⟨gm, cm, rfl⟩ := ho3.succ (fillN_ne bl)
          have hgm := ho3.lt gm rfl
          have HS := Lib.hid (show OfS w w3 gk gh gm (fillN bl).length cm (startN 256) (fillN bl) from ⟨HO3.out.k.below hb3 HO3.out.k.lt, HO3.out.h.below hb3 HO3.out.h.lt, ho3.reads, HO3.out.below.trans (hb3.mono HO3.out.below.size), HO3.out.ne.2.2.1, (by have := HO3.out.h.lt; omega), HO3.out.ne.2.2.2.2⟩)
          obtain ⟨nb, hnb, hnb2⟩ := fillN_blocks bl
          have hml := fillN_len bl
          rw [HR.out.length] at hml
          have HMB := Lib.hid (fillN_lt HBL.out)
          have HFN := Lib.hid (show fillN bl = fillN bl from rfl)
          generalize hM : fillN bl = M at *
          have HM := Lib.hid hM.symm
          obtain ⟨ml, hml2⟩ : ∃ l, l = M.length := ⟨_, rfl⟩
          rw [← hml2] at HS hnb hml ⊢
          have HML := Lib.hid hml2
          have HNB := Lib.hid hnb
          clear hM hml2 ho3 hb3 hgm HO3 HFN hnb
          have hmlb : ml ≤ 9300 := by omega
          clear hml
          go_wp2_with fail
          go_loopw [13] (fun av wq => ∃ j at' : Nat, av = .int .i64 (at' : Int) ∧ at' ≤ 11000 ∧ j ≤ nb ∧ Hid (at' = 64 * j ∧ OfS w wq gk gh gm ml cm (wsK 256 M j) M)) (fun av _ => ml - (intOf av).toNat)
          case atStart => exact ⟨0, 0, rfl, by decide, Nat.zero_le _, rfl, HS.out⟩
          case round =>
            obtain ⟨j, at', rfl, hat, hj, hI⟩ := hrel
            by_cases hlt : j < nb
            · have hat2 : at' + 64 ≤ ml := by rw [hI.out.1, HNB.out]; omega
              have tJ : decide (at' < ml) = true := by simp; omega
              have HSS := Lib.hid hI.out.2
              have HAT := Lib.hid hI.out.1
              clear hI
              go_wp2_with fail
              have HO4 := Lib.hid (HSS.out.beside (by omega))
              have HW := Lib.hid (show Arr .u32 73 (wr.alloc (.cells (arrC .u32 zR) 73)) wr.heap.size zR from Go.heap_alloc_new wr _)
              have HSS := Lib.hid (HSS.out.on ((Below.refl _ _).alloc (Nat.le_refl _) (.cells (arrC .u32 zR) 73)))
              generalize wr.alloc (.cells (arrC .u32 zR) 73) = W2 at *
              generalize wr.heap.size = gw at *
              obtain ⟨bb, hbb⟩ : ∃ b, b = (M.drop at').take 64 := ⟨_, rfl⟩
              have HBB := Lib.hid hbb
              have HBY := Lib.hid (show ∀ x ∈ bb, x < 256 by rw [hbb]; exact fun x hx => HMB.out x (List.mem_of_mem_drop (List.mem_of_mem_take hx)))
              have HBG := Lib.hid (show ∀ k, k < 64 → g0 bb k = g0 M (at' + k) by
                intro k hk
                rw [hbb]
                unfold g0
                rw [List.getElem?_take_of_lt hk, List.getElem?_drop])
              clear hbb
              go_loopw [15] (fun iv wq => ∃ i : Nat, iv = .int .i64 (i : Int) ∧ i ≤ 16 ∧ Hid (OfS w wq gk gh gm ml cm (wsK 256 M j) M ∧ Arr .u32 73 wq gw (packN bb (4 * i)))) (fun iv _ => 16 - (intOf iv).toNat)
              case atStart => exact ⟨0, rfl, by decide, HSS.out, HW.out⟩
              case round =>
                obtain ⟨i, rfl, hi, hI⟩ := hrel
                by_cases hlt2 : i < 16
                · have HI := Lib.hid hI.out
                  clear hI HSS HW
                  go_wp2_with fail
                  go_loopw [16] (fun nv wq => ∃ m : Nat, nv = .int .i64 (m : Int) ∧ m ≤ 4 ∧ Hid (OfS w wq gk gh gm ml cm (wsK 256 M j) M ∧ Arr .u32 73 wq gw (packN bb (4 * i + m)))) (fun nv _ => 4 - (intOf nv).toNat)
                  case atStart => exact ⟨0, rfl, by decide, HI.out⟩
                  case round =>
                    obtain ⟨m, rfl, hm, hJ⟩ := hrel
                    by_cases hlt3 : m < 4
                    · have cw := hJ.out.2.cell i (by rw [packN_len]; omega)
                      have fw := hJ.out.2.frozen i
                      obtain ⟨x, hx⟩ : ∃ x, x = g0 (packN bb (4 * i + m)) i := ⟨_, rfl⟩
                      have lx : x < 4294967296 := hx ▸ g0_lt (packN_lt bb HBY.out _) (by decide) i
                      change wr.cell? _ = some (.int .u32 ((g0 (packN bb (4 * i + m)) i : Nat) : Int)) at cw
                      rw [← hx] at cw
                      obtain ⟨i4, hi4⟩ : ∃ k, k = 4 * i := ⟨_, rfl⟩
                      obtain ⟨ai, hai⟩ : ∃ k, k = at' + i4 := ⟨_, rfl⟩
                      obtain ⟨ix, hix⟩ : ∃ k, k = ai + m := ⟨_, rfl⟩
                      have ei4 : (4 : Int) * (i : Int) = (i4 : Int) := by omega
                      have eai : (at' : Int) + (i4 : Int) = (ai : Int) := by omega
                      have eix : (ai : Int) + (m : Int) = (ix : Int) := by omega
                      have lix : ix < ml := by omega
                      have lai : ai < ml := by omega
                      have li4 : i4 < 64 := by omega
                      have cy := reads_cellG hJ.out.1.m ix lix
                      have ly : g0 M ix < 256 := g0_lt HMB.out (by decide) ix
                      have hgy : g0 bb (4 * i + m) = g0 M ix := by rw [HBG.out _ (by omega), hix, hai, hi4, Nat.add_assoc]
                      generalize g0 M ix = y at *
                      have HST := Lib.hid (pack_step bb i m x y hlt3 hx hgy.symm ly)
                      have hcm := hJ.out.1.m.le
                      obtain ⟨x2, hx2⟩ : ∃ z, z = 256 * x % 4294967296 := ⟨_, rfl⟩
                      obtain ⟨r, hr⟩ : ∃ z, z = (256 * x + y) % 4294967296 := ⟨_, rfl⟩
                      have ex2 : (256 : Int) * (x : Int) % 4294967296 = (x2 : Int) := by omega
                      have er : ((x2 : Int) + (y : Int)) % 4294967296 = (r : Int) := by omega
                      have lx2 : x2 < 4294967296 := by omega
                      rw [← hr] at HST
                      clear hx hi4 hai hix hgy hx2 hr
                      have HJ := Lib.hid hJ.out
                      clear hJ HI
                      go_wp2_with fail
                      go_region
                      all_goals go_wp2
                      all_goals go_roundw
                      case rel => exact ⟨m + 1, by go_num, by omega, (HJ.out.1.set HO4.out i _).drew, by
                        rw [HST.out]
                        exact Arr.stored (w := wr) HJ.out.2 i r _ (by omega)⟩
                      case measure => simp [intOf] <;> omega
                    · have hmW : m = 4 := by omega
                      have tm : decide ((m : Int) < 4) = false := by simp; omega
                      have HJ := Lib.hid hJ.out
                      have HNX := Lib.hid (show Arr .u32 73 wr gw (packN bb (4 * (i + 1))) by have := hJ.out.2; rw [hmW] at this; exact this)
                      clear hJ HI hmW hlt3 hm
                      go_wp2
                      go_roundw
                      case rel => exact ⟨i + 1, by go_num, by omega, HJ.out.1, HNX.out⟩
                      case measure => simp [intOf] <;> omega
                · have hi16 : i = 16 := by omega
                  have ti : decide ((i : Int) < 16) = false := by simp; omega
                  have HP := Lib.hid hI.out.1
                  have HPA := Lib.hid (show Arr .u32 73 wr gw (extN (packN bb 64) 0) by have := hI.out.2; rw [hi16] at this; exact this)
                  clear hI hi16 hlt2 hi HSS HW
                  go_wp2_with fail
                  go_loopw [17] (fun tv wq => ∃ t : Nat, tv = .int .i64 (t : Int) ∧ 16 ≤ t ∧ t ≤ 64 ∧ Hid (OfS w wq gk gh gm ml cm (wsK 256 M j) M ∧ Arr .u32 73 wq gw (extN (packN bb 64) (t - 16)))) (fun tv _ => 64 - (intOf tv).toNat)
                  case atStart => exact ⟨16, rfl, by decide, by decide, HP.out, HPA.out⟩
                  case round =>
                    obtain ⟨t, rfl, ht1, ht2, hI⟩ := hrel
                    have hlR := Lib.hid (extN_len (packN bb 64) (packN_len bb 64) (t - 16))
                    have hltR := Lib.hid (extN_lt (packN bb 64) (packN_lt bb HBY.out 64) (t - 16))
                    by_cases hltt : t < 64
                    · have HE := Lib.hid (show extN (packN bb 64) (t + 1 - 16) = extS t (extN (packN bb 64) (t - 16)) by
                        rw [show t + 1 - 16 = (t - 16) + 1 by omega]
                        show extS (16 + (t - 16)) _ = _
                        rw [show 16 + (t - 16) = t by omega])
                      have HOS := Lib.hid hI.out.1
                      have HLA := Lib.hid hI.out.2
                      generalize extN (packN bb 64) (t - 16) = L at *
                      clear hI HP HPA
                      obtain ⟨p16, hp16⟩ : ∃ p, p = t - 16 := ⟨_, rfl⟩
                      have ep16 : (t : Int) - 16 = (p16 : Int) := by omega
                      have lp16 : p16 < 64 := by omega
                      have wp16 : IntKind.i64.wrap (p16 : Int) = (p16 : Int) := by simp [IntKind.wrap, IntKind.bits, IntKind.signed]; omega
                      have ip16 : (p16 : Int) < 64 := by omega
                      have cx16 := HLA.out.cell p16 (by rw [hlR.out]; omega)
                      obtain ⟨x16, hx16⟩ : ∃ zz, zz = g0 L p16 := ⟨_, rfl⟩
                      have lx16 : x16 < 4294967296 := hx16 ▸ g0_lt hltR.out (by decide) _
                      rw [show L[p16]?.getD 0 = x16 from hx16.symm] at cx16
                      obtain ⟨p7, hp7⟩ : ∃ p, p = t - 7 := ⟨_, rfl⟩
                      have ep7 : (t : Int) - 7 = (p7 : Int) := by omega
                      have lp7 : p7 < 64 := by omega
                      have wp7 : IntKind.i64.wrap (p7 : Int) = (p7 : Int) := by simp [IntKind.wrap, IntKind.bits, IntKind.signed]; omega
                      have ip7 : (p7 : Int) < 64 := by omega
                      have cx7 := HLA.out.cell p7 (by rw [hlR.out]; omega)
                      obtain ⟨x7, hx7⟩ : ∃ zz, zz = g0 L p7 := ⟨_, rfl⟩
                      have lx7 : x7 < 4294967296 := hx7 ▸ g0_lt hltR.out (by decide) _
                      rw [show L[p7]?.getD 0 = x7 from hx7.symm] at cx7
                      obtain ⟨p15, hp15⟩ : ∃ p, p = t - 15 := ⟨_, rfl⟩
                      have ep15 : (t : Int) - 15 = (p15 : Int) := by omega
                      have lp15 : p15 < 64 := by omega
                      have wp15 : IntKind.i64.wrap (p15 : Int) = (p15 : Int) := by simp [IntKind.wrap, IntKind.bits, IntKind.signed]; omega
                      have ip15 : (p15 : Int) < 64 := by omega
                      have cx15 := HLA.out.cell p15 (by rw [hlR.out]; omega)
                      obtain ⟨x15, hx15⟩ : ∃ zz, zz = g0 L p15 := ⟨_, rfl⟩
                      have lx15 : x15 < 4294967296 := hx15 ▸ g0_lt hltR.out (by decide) _
                      rw [show L[p15]?.getD 0 = x15 from hx15.symm] at cx15
                      obtain ⟨p2, hp2⟩ : ∃ p, p = t - 2 := ⟨_, rfl⟩
                      have ep2 : (t : Int) - 2 = (p2 : Int) := by omega
                      have lp2 : p2 < 64 := by omega
                      have wp2 : IntKind.i64.wrap (p2 : Int) = (p2 : Int) := by simp [IntKind.wrap, IntKind.bits, IntKind.signed]; omega
                      have ip2 : (p2 : Int) < 64 := by omega
                      have cx2 := HLA.out.cell p2 (by rw [hlR.out]; omega)
                      obtain ⟨x2, hx2⟩ : ∃ zz, zz = g0 L p2 := ⟨_, rfl⟩
                      have lx2 : x2 < 4294967296 := hx2 ▸ g0_lt hltR.out (by decide) _
                      rw [show L[p2]?.getD 0 = x2 from hx2.symm] at cx2
                      obtain ⟨f1, hf1⟩ : ∃ zz, zz = rotr x15 7 := ⟨_, rfl⟩
                      have lf1 : f1 < 4294967296 := hf1 ▸ rotr_lt lx15
                      have Rf1 := Lib.hid hf1
                      obtain ⟨f2, hf2⟩ : ∃ zz, zz = rotr x15 18 := ⟨_, rfl⟩
                      have lf2 : f2 < 4294967296 := hf2 ▸ rotr_lt lx15
                      have Rf2 := Lib.hid hf2
                      obtain ⟨f3, hf3⟩ : ∃ zz, zz = f1 ^^^ f2 := ⟨_, rfl⟩
                      have lf3 : f3 < 4294967296 := by rw [hf3]; exact Nat.xor_lt_two_pow (n := 32) lf1 lf2
                      have ef3 : bits BinOp.xor IntKind.u32 (f1 : Int) (f2 : Int) = (f3 : Int) := by rw [u32_xor_nat _ _ lf1 lf2, hf3]
                      obtain ⟨f4, hf4⟩ : ∃ zz, zz = x15 / 2 ^ 3 := ⟨_, rfl⟩
                      have lf4 : f4 < 4294967296 := by rw [hf4]; exact Nat.lt_of_le_of_lt (Nat.div_le_self _ _) lx15
                      have Rf4 := Lib.hid hf4
                      obtain ⟨f, hf⟩ : ∃ zz, zz = f3 ^^^ f4 := ⟨_, rfl⟩
                      have lf : f < 4294967296 := by rw [hf]; exact Nat.xor_lt_two_pow (n := 32) lf3 lf4
                      have ef : bits BinOp.xor IntKind.u32 (f3 : Int) (f4 : Int) = (f : Int) := by rw [u32_xor_nat _ _ lf3 lf4, hf]
                      obtain ⟨u1, hu1⟩ : ∃ zz, zz = rotr x2 17 := ⟨_, rfl⟩
                      have lu1 : u1 < 4294967296 := hu1 ▸ rotr_lt lx2
                      have Ru1 := Lib.hid hu1
                      obtain ⟨u2, hu2⟩ : ∃ zz, zz = rotr x2 19 := ⟨_, rfl⟩
                      have lu2 : u2 < 4294967296 := hu2 ▸ rotr_lt lx2
                      have Ru2 := Lib.hid hu2
                      obtain ⟨u3, hu3⟩ : ∃ zz, zz = u1 ^^^ u2 := ⟨_, rfl⟩
                      have lu3 : u3 < 4294967296 := by rw [hu3]; exact Nat.xor_lt_two_pow (n := 32) lu1 lu2
                      have eu3 : bits BinOp.xor IntKind.u32 (u1 : Int) (u2 : Int) = (u3 : Int) := by rw [u32_xor_nat _ _ lu1 lu2, hu3]
                      obtain ⟨u4, hu4⟩ : ∃ zz, zz = x2 / 2 ^ 10 := ⟨_, rfl⟩
                      have lu4 : u4 < 4294967296 := by rw [hu4]; exact Nat.lt_of_le_of_lt (Nat.div_le_self _ _) lx2
                      have Ru4 := Lib.hid hu4
                      obtain ⟨u, hu⟩ : ∃ zz, zz = u3 ^^^ u4 := ⟨_, rfl⟩
                      have lu : u < 4294967296 := by rw [hu]; exact Nat.xor_lt_two_pow (n := 32) lu3 lu4
                      have eu : bits BinOp.xor IntKind.u32 (u3 : Int) (u4 : Int) = (u : Int) := by rw [u32_xor_nat _ _ lu3 lu4, hu]
                      obtain ⟨s1, hs1⟩ : ∃ zz, zz = (x16 + x7) % 4294967296 := ⟨_, rfl⟩
                      have es1 : ((x16 : Int) + (x7 : Int)) % 4294967296 = (s1 : Int) := by omega
                      have ls1 : s1 < 4294967296 := by omega
                      have ws1 : IntKind.u32.wrap ((x16 : Int) + (x7 : Int)) = (s1 : Int) := by simp [IntKind.wrap, IntKind.bits, IntKind.signed]; omega
                      obtain ⟨s2, hs2⟩ : ∃ zz, zz = (s1 + f) % 4294967296 := ⟨_, rfl⟩
                      have es2 : ((s1 : Int) + (f : Int)) % 4294967296 = (s2 : Int) := by omega
                      have ls2 : s2 < 4294967296 := by omega
                      have ws2 : IntKind.u32.wrap ((s1 : Int) + (f : Int)) = (s2 : Int) := by simp [IntKind.wrap, IntKind.bits, IntKind.signed]; omega
                      obtain ⟨s3, hs3⟩ : ∃ zz, zz = (s2 + u) % 4294967296 := ⟨_, rfl⟩
                      have es3 : ((s2 : Int) + (u : Int)) % 4294967296 = (s3 : Int) := by omega
                      have ls3 : s3 < 4294967296 := by omega
                      have ws3 : IntKind.u32.wrap ((s2 : Int) + (u : Int)) = (s3 : Int) := by simp [IntKind.wrap, IntKind.bits, IntKind.signed]; omega
                      have HE2 := Lib.hid (show extN (packN bb 64) (t + 1 - 16) = L.set t s3 by
                        rw [HE.out]
                        unfold extS sigN
                        rw [← hp16, ← hp7, ← hp15, ← hp2, ← hx16, ← hx7, ← hx15, ← hx2, ← hf1, ← hf2, ← hf4, ← hf3, ← hf, ← hu1, ← hu2, ← hu4, ← hu3, ← hu, ← hs1, ← hs2, ← hs3])
                      have hft := HLA.out.frozen t
                      have hkt := HLA.out.cell t (by rw [hlR.out]; exact hltt)
                      have wt : IntKind.i64.wrap (t : Int) = (t : Int) := by simp [IntKind.wrap, IntKind.bits, IntKind.signed]; omega
                      have it : (t : Int) < 64 := by omega
                      clear hp16 hp7 hp15 hp2 hx16 hx7 hx15 hx2 hf1 hf2 hf3 hf4 hf hu1 hu2 hu3 hu4 hu hs1 hs2 hs3 HE
                      go_wp2_with fail
                      go_still_tail 29, (by kernel_rfl)
                      still_call (right_s x15 7 f1 _ (by decide) rfl lx15 Rf1.out _)
                      repeat still_step
                      still_call (right_s x15 18 f2 _ (by decide) rfl lx15 Rf2.out _)
                      repeat still_step
                      still_call (down_s x15 3 f4 _ (by decide) rfl lx15 Rf4.out _)
                      repeat still_step
                      still_call (right_s x2 17 u1 _ (by decide) rfl lx2 Ru1.out _)
                      repeat still_step
                      still_call (right_s x2 19 u2 _ (by decide) rfl lx2 Ru2.out _)
                      repeat still_step
                      still_call (down_s x2 10 u4 _ (by decide) rfl lx2 Ru4.out _)
                      repeat still_step
                      refine wpStill_nil ?_
                      change wpList _ _ _ _ _ wr.drew
                      have hkt2 : wr.drew.cell? ⟨gw, t, none⟩ = some (.int .u32 ((L[t]?.getD 0 : Nat) : Int)) := hkt
                      have hft2 : wr.drew.frozen? ⟨gw, t, none⟩ = false := hft
                      go_wp2
                      go_roundw
                      case rel => exact ⟨t + 1, by go_num, by omega, by omega, HOS.out.drew.set HO4.out t _, by rw [HE2.out]; exact Arr.stored (w := wr.drew) HLA.out t s3 _ rfl⟩
                      case measure => simp [intOf] <;> omega
                    · have htR : t = 64 := by omega
                      have tt : decide ((t : Int) < 64) = false := by simp; omega
                      have HP := Lib.hid hI.out.1
                      have HSC := Lib.hid (show Arr .u32 73 wr gw (schedN bb) by have := hI.out.2; rw [htR] at this; exact this)
                      have HSL := Lib.hid (schedN_len bb)
                      have HSB := Lib.hid (schedN_lt bb HBY.out)
                      have HWL := Lib.hid (wsK_len 256 M j)
                      have HWB := Lib.hid (wsK_lt 256 M j)
                      have HNXT := Lib.hid (show wsK 256 M (j + 1) = addTo (wsK 256 M j) (rdsN (wsK 256 M j) (schedN bb) 64) 8 by
                        rw [HBB.out, HAT.out]
                        rfl)
                      clear hI htR hltt ht1 ht2 hlR hltR HPA
                      generalize schedN bb = sc at *
                      generalize wsK 256 M j = H at *
                      go_wp2_with (first | (refine wpList_load8 rfl _ rfl gh H rfl HP.out.h HWL.out ?_) | (refine wpList_store8 rfl _ _ rfl wr.heap.size z8 H rfl rfl (Go.heap_alloc_new wr _) rfl HWL.out ?_))
                      have HFR := Lib.hid (below_fresh (Below.refl wr.heap.size wr) (Nat.le_refl _) (.cells (arrC .u32 z8) 74) (arrC .u32 H))
                      have HGS := Lib.hid (show Arr .u32 74 ((wr.alloc (.cells (arrC .u32 z8) 74)).setRow wr.heap.size (arrC .u32 H)) wr.heap.size H from Arr.laid (l := z8) (Go.heap_alloc_new wr _) H)
                      have HO5 := Lib.hid (HP.out.beside (by omega))
                      have hws := Lib.hid (show gw ≠ wr.heap.size from Nat.ne_of_lt HSC.out.lt)
                      have HSC := Lib.hid (HSC.out.below HFR.out HSC.out.lt)
                      have HP := Lib.hid (HP.out.on HFR.out)
                      clear HFR
                      generalize (wr.alloc (.cells (arrC .u32 z8) 74)).setRow wr.heap.size (arrC .u32 H) = W3 at *
                      generalize wr.heap.size = gs at *
                      go_wp2_with fail
                      go_loopw [21] (fun iv wq => ∃ i : Nat, iv = .int .i64 (i : Int) ∧ i ≤ 64 ∧ Hid (OfS w wq gk gh gm ml cm H M ∧ Arr .u32 73 wq gw sc ∧ Arr .u32 74 wq gs (rdsN H sc i))) (fun iv _ => 64 - (intOf iv).toNat)
                      case atStart => exact ⟨0, rfl, by decide, HP.out, HSC.out, HGS.out⟩
                      case round =>
                        obtain ⟨i, rfl, hii, hI⟩ := hrel
                        by_cases hlti : i < 64
                        · skip
                          have hVl := Lib.hid (rdsN_len H sc HWL.out i)
                          have hVb := Lib.hid (rdsN_lt H sc HWB.out i)
                          have cv0 := hI.out.2.2.cell 0 (by rw [hVl.out]; decide)
                          obtain ⟨a, ha⟩ : ∃ x, x = g0 (rdsN H sc i) 0 := ⟨_, rfl⟩
                          have la : a < 4294967296 := ha ▸ g0_lt hVb.out (by decide) 0
                          rw [show (rdsN H sc i)[0]?.getD 0 = a from ha.symm] at cv0
                          have cv1 := hI.out.2.2.cell 1 (by rw [hVl.out]; decide)
                          obtain ⟨b, hb⟩ : ∃ x, x = g0 (rdsN H sc i) 1 := ⟨_, rfl⟩
                          have lb : b < 4294967296 := hb ▸ g0_lt hVb.out (by decide) 1
                          rw [show (rdsN H sc i)[1]?.getD 0 = b from hb.symm] at cv1
                          have cv2 := hI.out.2.2.cell 2 (by rw [hVl.out]; decide)
                          obtain ⟨c, hc⟩ : ∃ x, x = g0 (rdsN H sc i) 2 := ⟨_, rfl⟩
                          have lc : c < 4294967296 := hc ▸ g0_lt hVb.out (by decide) 2
                          rw [show (rdsN H sc i)[2]?.getD 0 = c from hc.symm] at cv2
                          have cv3 := hI.out.2.2.cell 3 (by rw [hVl.out]; decide)
                          obtain ⟨d, hd⟩ : ∃ x, x = g0 (rdsN H sc i) 3 := ⟨_, rfl⟩
                          have ld : d < 4294967296 := hd ▸ g0_lt hVb.out (by decide) 3
                          rw [show (rdsN H sc i)[3]?.getD 0 = d from hd.symm] at cv3
                          have cv4 := hI.out.2.2.cell 4 (by rw [hVl.out]; decide)
                          obtain ⟨e, he⟩ : ∃ x, x = g0 (rdsN H sc i) 4 := ⟨_, rfl⟩
                          have le : e < 4294967296 := he ▸ g0_lt hVb.out (by decide) 4
                          rw [show (rdsN H sc i)[4]?.getD 0 = e from he.symm] at cv4
                          have cv5 := hI.out.2.2.cell 5 (by rw [hVl.out]; decide)
                          obtain ⟨f, hf⟩ : ∃ x, x = g0 (rdsN H sc i) 5 := ⟨_, rfl⟩
                          have lf : f < 4294967296 := hf ▸ g0_lt hVb.out (by decide) 5
                          rw [show (rdsN H sc i)[5]?.getD 0 = f from hf.symm] at cv5
                          have cv6 := hI.out.2.2.cell 6 (by rw [hVl.out]; decide)
                          obtain ⟨m, hm⟩ : ∃ x, x = g0 (rdsN H sc i) 6 := ⟨_, rfl⟩
                          have lm : m < 4294967296 := hm ▸ g0_lt hVb.out (by decide) 6
                          rw [show (rdsN H sc i)[6]?.getD 0 = m from hm.symm] at cv6
                          have cv7 := hI.out.2.2.cell 7 (by rw [hVl.out]; decide)
                          obtain ⟨h, hh⟩ : ∃ x, x = g0 (rdsN H sc i) 7 := ⟨_, rfl⟩
                          have lh : h < 4294967296 := hh ▸ g0_lt hVb.out (by decide) 7
                          rw [show (rdsN H sc i)[7]?.getD 0 = h from hh.symm] at cv7
                          have ck := hI.out.1.k.cell i (by rw [kL_len]; exact hlti)
                          obtain ⟨k, hk⟩ : ∃ x, x = g0 kL i := ⟨_, rfl⟩
                          have lk : k < 4294967296 := hk ▸ g0_lt kL_lt (by decide) i
                          rw [show kL[i]?.getD 0 = k from hk.symm] at ck
                          have cu := hI.out.2.1.cell i (by rw [HSL.out]; exact hlti)
                          obtain ⟨u, hu⟩ : ∃ x, x = g0 sc i := ⟨_, rfl⟩
                          have lu : u < 4294967296 := hu ▸ g0_lt HSB.out (by decide) i
                          rw [show sc[i]?.getD 0 = u from hu.symm] at cu
                          have HE := Lib.hid (show rdsN H sc (i + 1) = [(yN e f m h k u + zN a b c) % 4294967296, a, b, c, (d + yN e f m h k u) % 4294967296, e, f, m] by rw [ha, hb, hc, hd, he, hf, hm, hh, hk, hu]; rfl)
                          clear ha hb hc hd he hf hm hh hk hu
                          obtain ⟨r1, hr1⟩ : ∃ zz, zz = rotr e 6 := ⟨_, rfl⟩
                          have lr1 : r1 < 4294967296 := hr1 ▸ rotr_lt le
                          have Rr1 := Lib.hid hr1
                          obtain ⟨r2, hr2⟩ : ∃ zz, zz = rotr e 11 := ⟨_, rfl⟩
                          have lr2 : r2 < 4294967296 := hr2 ▸ rotr_lt le
                          have Rr2 := Lib.hid hr2
                          obtain ⟨r3, hr3⟩ : ∃ zz, zz = rotr e 25 := ⟨_, rfl⟩
                          have lr3 : r3 < 4294967296 := hr3 ▸ rotr_lt le
                          have Rr3 := Lib.hid hr3
                          obtain ⟨r4, hr4⟩ : ∃ zz, zz = r1 ^^^ r2 := ⟨_, rfl⟩
                          have lr4 : r4 < 4294967296 := by rw [hr4]; exact Nat.xor_lt_two_pow (n := 32) lr1 lr2
                          have er4 : bits BinOp.xor IntKind.u32 (r1 : Int) (r2 : Int) = (r4 : Int) := by rw [u32_xor_nat _ _ lr1 lr2, hr4]
                          obtain ⟨r5, hr5⟩ : ∃ zz, zz = r4 ^^^ r3 := ⟨_, rfl⟩
                          have lr5 : r5 < 4294967296 := by rw [hr5]; exact Nat.xor_lt_two_pow (n := 32) lr4 lr3
                          have er5 : bits BinOp.xor IntKind.u32 (r4 : Int) (r3 : Int) = (r5 : Int) := by rw [u32_xor_nat _ _ lr4 lr3, hr5]
                          obtain ⟨q1, hq1⟩ : ∃ zz, zz = rotr a 2 := ⟨_, rfl⟩
                          have lq1 : q1 < 4294967296 := hq1 ▸ rotr_lt la
                          have Rq1 := Lib.hid hq1
                          obtain ⟨q2, hq2⟩ : ∃ zz, zz = rotr a 13 := ⟨_, rfl⟩
                          have lq2 : q2 < 4294967296 := hq2 ▸ rotr_lt la
                          have Rq2 := Lib.hid hq2
                          obtain ⟨q3, hq3⟩ : ∃ zz, zz = rotr a 22 := ⟨_, rfl⟩
                          have lq3 : q3 < 4294967296 := hq3 ▸ rotr_lt la
                          have Rq3 := Lib.hid hq3
                          obtain ⟨q4, hq4⟩ : ∃ zz, zz = q1 ^^^ q2 := ⟨_, rfl⟩
                          have lq4 : q4 < 4294967296 := by rw [hq4]; exact Nat.xor_lt_two_pow (n := 32) lq1 lq2
                          have eq4 : bits BinOp.xor IntKind.u32 (q1 : Int) (q2 : Int) = (q4 : Int) := by rw [u32_xor_nat _ _ lq1 lq2, hq4]
                          obtain ⟨q5, hq5⟩ : ∃ zz, zz = q4 ^^^ q3 := ⟨_, rfl⟩
                          have lq5 : q5 < 4294967296 := by rw [hq5]; exact Nat.xor_lt_two_pow (n := 32) lq4 lq3
                          have eq5 : bits BinOp.xor IntKind.u32 (q4 : Int) (q3 : Int) = (q5 : Int) := by rw [u32_xor_nat _ _ lq4 lq3, hq5]
                          obtain ⟨s1, hs1⟩ : ∃ zz, zz = (h + k) % 4294967296 := ⟨_, rfl⟩
                          have es1 : ((h : Int) + (k : Int)) % 4294967296 = (s1 : Int) := by omega
                          have ls1 : s1 < 4294967296 := by omega
                          have ws1 : IntKind.u32.wrap ((h : Int) + (k : Int)) = (s1 : Int) := by simp [IntKind.wrap, IntKind.bits, IntKind.signed]; omega
                          obtain ⟨s2, hs2⟩ : ∃ zz, zz = (s1 + u) % 4294967296 := ⟨_, rfl⟩
                          have es2 : ((s1 : Int) + (u : Int)) % 4294967296 = (s2 : Int) := by omega
                          have ls2 : s2 < 4294967296 := by omega
                          have ws2 : IntKind.u32.wrap ((s1 : Int) + (u : Int)) = (s2 : Int) := by simp [IntKind.wrap, IntKind.bits, IntKind.signed]; omega
                          obtain ⟨s3, hs3⟩ : ∃ zz, zz = (s2 + r5) % 4294967296 := ⟨_, rfl⟩
                          have es3 : ((s2 : Int) + (r5 : Int)) % 4294967296 = (s3 : Int) := by omega
                          have ls3 : s3 < 4294967296 := by omega
                          have ws3 : IntKind.u32.wrap ((s2 : Int) + (r5 : Int)) = (s3 : Int) := by simp [IntKind.wrap, IntKind.bits, IntKind.signed]; omega
                          obtain ⟨A1, hA1⟩ : ∃ zz, zz = e &&& f := ⟨_, rfl⟩
                          have lA1 : A1 < 4294967296 := by rw [hA1]; exact Nat.and_lt_two_pow (n := 32) e lf
                          have eA1 : bits BinOp.and IntKind.u32 (e : Int) (f : Int) = (A1 : Int) := by rw [u32_and_nat _ _ le lf, hA1]
                          obtain ⟨N1, hN1⟩ : ∃ x, x = 4294967295 - e := ⟨_, rfl⟩
                          have lN1 : N1 < 4294967296 := by omega
                          have eN1 : (4294967295 : Int) - (e : Int) = (N1 : Int) := by omega
                          obtain ⟨A2, hA2⟩ : ∃ zz, zz = N1 &&& m := ⟨_, rfl⟩
                          have lA2 : A2 < 4294967296 := by rw [hA2]; exact Nat.and_lt_two_pow (n := 32) N1 lm
                          have eA2 : bits BinOp.and IntKind.u32 (N1 : Int) (m : Int) = (A2 : Int) := by rw [u32_and_nat _ _ lN1 lm, hA2]
                          obtain ⟨X1, hX1⟩ : ∃ zz, zz = A1 ||| A2 := ⟨_, rfl⟩
                          have lX1 : X1 < 4294967296 := by rw [hX1]; exact Nat.or_lt_two_pow (n := 32) lA1 lA2
                          have eX1 : bits BinOp.or IntKind.u32 (A1 : Int) (A2 : Int) = (X1 : Int) := by rw [u32_or_nat _ _ lA1 lA2, hX1]
                          obtain ⟨y, hy⟩ : ∃ zz, zz = (s3 + X1) % 4294967296 := ⟨_, rfl⟩
                          have ey : ((s3 : Int) + (X1 : Int)) % 4294967296 = (y : Int) := by omega
                          have ly : y < 4294967296 := by omega
                          have wy : IntKind.u32.wrap ((s3 : Int) + (X1 : Int)) = (y : Int) := by simp [IntKind.wrap, IntKind.bits, IntKind.signed]; omega
                          obtain ⟨B1, hB1⟩ : ∃ zz, zz = a &&& b := ⟨_, rfl⟩
                          have lB1 : B1 < 4294967296 := by rw [hB1]; exact Nat.and_lt_two_pow (n := 32) a lb
                          have eB1 : bits BinOp.and IntKind.u32 (a : Int) (b : Int) = (B1 : Int) := by rw [u32_and_nat _ _ la lb, hB1]
                          obtain ⟨B2, hB2⟩ : ∃ zz, zz = a &&& c := ⟨_, rfl⟩
                          have lB2 : B2 < 4294967296 := by rw [hB2]; exact Nat.and_lt_two_pow (n := 32) a lc
                          have eB2 : bits BinOp.and IntKind.u32 (a : Int) (c : Int) = (B2 : Int) := by rw [u32_and_nat _ _ la lc, hB2]
                          obtain ⟨B3, hB3⟩ : ∃ zz, zz = b &&& c := ⟨_, rfl⟩
                          have lB3 : B3 < 4294967296 := by rw [hB3]; exact Nat.and_lt_two_pow (n := 32) b lc
                          have eB3 : bits BinOp.and IntKind.u32 (b : Int) (c : Int) = (B3 : Int) := by rw [u32_and_nat _ _ lb lc, hB3]
                          obtain ⟨X2, hX2⟩ : ∃ zz, zz = B1 ||| B2 := ⟨_, rfl⟩
                          have lX2 : X2 < 4294967296 := by rw [hX2]; exact Nat.or_lt_two_pow (n := 32) lB1 lB2
                          have eX2 : bits BinOp.or IntKind.u32 (B1 : Int) (B2 : Int) = (X2 : Int) := by rw [u32_or_nat _ _ lB1 lB2, hX2]
                          obtain ⟨X3, hX3⟩ : ∃ zz, zz = X2 ||| B3 := ⟨_, rfl⟩
                          have lX3 : X3 < 4294967296 := by rw [hX3]; exact Nat.or_lt_two_pow (n := 32) lX2 lB3
                          have eX3 : bits BinOp.or IntKind.u32 (X2 : Int) (B3 : Int) = (X3 : Int) := by rw [u32_or_nat _ _ lX2 lB3, hX3]
                          obtain ⟨z, hz⟩ : ∃ zz, zz = (q5 + X3) % 4294967296 := ⟨_, rfl⟩
                          have ez : ((q5 : Int) + (X3 : Int)) % 4294967296 = (z : Int) := by omega
                          have lz : z < 4294967296 := by omega
                          have wz : IntKind.u32.wrap ((q5 : Int) + (X3 : Int)) = (z : Int) := by simp [IntKind.wrap, IntKind.bits, IntKind.signed]; omega
                          obtain ⟨n0, hn0⟩ : ∃ zz, zz = (y + z) % 4294967296 := ⟨_, rfl⟩
                          have en0 : ((y : Int) + (z : Int)) % 4294967296 = (n0 : Int) := by omega
                          have ln0 : n0 < 4294967296 := by omega
                          have wn0 : IntKind.u32.wrap ((y : Int) + (z : Int)) = (n0 : Int) := by simp [IntKind.wrap, IntKind.bits, IntKind.signed]; omega
                          obtain ⟨n4, hn4⟩ : ∃ zz, zz = (d + y) % 4294967296 := ⟨_, rfl⟩
                          have en4 : ((d : Int) + (y : Int)) % 4294967296 = (n4 : Int) := by omega
                          have ln4 : n4 < 4294967296 := by omega
                          have wn4 : IntKind.u32.wrap ((d : Int) + (y : Int)) = (n4 : Int) := by simp [IntKind.wrap, IntKind.bits, IntKind.signed]; omega
                          have HE2 := Lib.hid (show rdsN H sc (i + 1) = [n0, a, b, c, n4, e, f, m] by
                            have h1 : yN e f m h k u = y := by unfold yN laidN; rw [← ch_eq e f m le, ← hr1, ← hr2, ← hr3, ← hr4, ← hr5, ← hN1, ← hA1, ← hA2, ← hX1, ← hs1, ← hs2, ← hs3, ← hy]
                            have h2 : zN a b c = z := by unfold zN laidN; rw [← maj_eq a b c, ← hq1, ← hq2, ← hq3, ← hq4, ← hq5, ← hB1, ← hB2, ← hB3, ← hX2, ← hX3, ← hz]
                            rw [HE.out, h1, h2, ← hn0, ← hn4])
                          clear HE hr1 hr2 hr3 hr4 hr5 hq1 hq2 hq3 hq4 hq5 hs1 hs2 hs3 hA1 hN1 hA2 hX1 hy hB1 hB2 hB3 hX2 hX3 hz hn0 hn4
                          have HI := Lib.hid hI.out
                          clear hI
                          go_wp2_with fail
                          refine wp_region_quiet_lit (by kernel_rfl) (by kernel_rfl) ?_
                          go_big_quiet_step (fail)
                          go_big_quiet_step (fail)
                          go_big_quiet_step (fail)
                          go_big_quiet_step (fail)
                          go_big_quiet_step (fail)
                          go_big_quiet_step (fail)
                          go_big_quiet_step (fail)
                          go_big_quiet_step (fail)
                          go_big_quiet_step (fail)
                          go_big_quiet_step (fail)
                          go_big_quiet_step (fail)
                          go_big_quiet_step ((go_at_call 40; exact Calls.quiet_of_same (right_s e 6 r1 _ (by decide) rfl le Rr1.out _)))
                          go_big_quiet_step (fail)
                          go_big_quiet_step ((go_at_call 40; exact Calls.quiet_of_same (right_s e 11 r2 _ (by decide) rfl le Rr2.out _)))
                          go_big_quiet_step (fail)
                          go_big_quiet_step (fail)
                          go_big_quiet_step ((go_at_call 40; exact Calls.quiet_of_same (right_s e 25 r3 _ (by decide) rfl le Rr3.out _)))
                          go_big_quiet_step (fail)
                          go_big_quiet_step (fail)
                          go_big_quiet_step (fail)
                          go_big_quiet_step (fail)
                          go_big_quiet_step (fail)
                          go_big_quiet_step (fail)
                          go_big_quiet_step (fail)
                          go_big_quiet_step (fail)
                          go_big_quiet_step (fail)
                          go_big_quiet_step (fail)
                          go_big_quiet_step (fail)
                          go_big_quiet_step (fail)
                          go_big_quiet_step (fail)
                          go_big_quiet_step (fail)
                          refine wpQuiet_nil ?_
                          intro _ hw1
                          obtain ⟨nq, hw2⟩ := hw1
                          subst hw2
                          have q5 : Hid (OfS w (wr.drewN nq) gk gh gm ml cm H M ∧ Arr .u32 73 (wr.drewN nq) gw sc ∧ Arr .u32 74 (wr.drewN nq) gs (rdsN H sc i)) := ⟨HI.out.1.drewN nq, HI.out.2.1, HI.out.2.2⟩
                          have d0 : (wr.drewN nq).cell? ⟨gs, 0, none⟩ = some (.int .u32 (a : Int)) := cv0
                          have d1 : (wr.drewN nq).cell? ⟨gs, 1, none⟩ = some (.int .u32 (b : Int)) := cv1
                          have d2 : (wr.drewN nq).cell? ⟨gs, 2, none⟩ = some (.int .u32 (c : Int)) := cv2
                          have d3 : (wr.drewN nq).cell? ⟨gs, 3, none⟩ = some (.int .u32 (d : Int)) := cv3
                          have d4 : (wr.drewN nq).cell? ⟨gs, 4, none⟩ = some (.int .u32 (e : Int)) := cv4
                          have d5 : (wr.drewN nq).cell? ⟨gs, 5, none⟩ = some (.int .u32 (f : Int)) := cv5
                          have d6 : (wr.drewN nq).cell? ⟨gs, 6, none⟩ = some (.int .u32 (m : Int)) := cv6
                          generalize wr.drewN nq = w5 at *
                          clear cv0 cv1 cv2 cv3 cv4 cv5 cv6 cv7 ck cu HI
                          have hff := q5.out.2.2.frozen
                          have ff0 := hff 0
                          have ff1 := hff 1
                          have ff2 := hff 2
                          have ff3 := hff 3
                          have ff4 := hff 4
                          have ff5 := hff 5
                          have ff6 := hff 6
                          have ff7 := hff 7
                          have c7 := q5.out.2.2.cell 7 (by rw [hVl.out]; decide)
                          clear hff
                          go_wp2_with fail
                          refine wp_region_quiet_lit (by kernel_rfl) (by kernel_rfl) ?_
                          go_big_quiet_step (fail)
                          go_big_quiet_step ((go_at_call 40; exact Calls.quiet_of_same (right_s a 2 q1 _ (by decide) rfl la Rq1.out _)))
                          go_big_quiet_step (fail)
                          go_big_quiet_step ((go_at_call 40; exact Calls.quiet_of_same (right_s a 13 q2 _ (by decide) rfl la Rq2.out _)))
                          go_big_quiet_step (fail)
                          go_big_quiet_step (fail)
                          go_big_quiet_step ((go_at_call 40; exact Calls.quiet_of_same (right_s a 22 q3 _ (by decide) rfl la Rq3.out _)))
                          go_big_quiet_step (fail)
                          go_big_quiet_step (fail)
                          go_big_quiet_step (fail)
                          go_big_quiet_step (fail)
                          go_big_quiet_step (fail)
                          go_big_quiet_step (fail)
                          go_big_quiet_step (fail)
                          go_big_quiet_step (fail)
                          go_big_quiet_step (fail)
                          go_big_quiet_step (fail)
                          go_big_quiet_step (fail)
                          go_big_quiet_step (fail)
                          go_big_quiet_step (fail)
                          go_big_quiet_step (fail)
                          go_big_quiet_step (fail)
                          go_big_quiet_step (fail)
                          go_big_quiet_step (fail)
                          go_big_quiet_step (fail)
                          refine wpQuiet_nil ?_
                          intro _ hw1
                          obtain ⟨nq, hw2⟩ := hw1
                          subst hw2
                          clear hz8 hzR
                          go_wp2
                          go_roundw
                          case rel =>
                            refine ⟨i + 1, by go_num, by omega, ?_⟩
                            rw [HE2.out, ← set8 hVl.out n0 a b c n4 e f m]
                            exact ⟨(((((((((q5.out.1.drewN nq).set HO5.out 0 _).set HO5.out 1 _).set HO5.out 2 _).set HO5.out 3 _).set HO5.out 4 _).set HO5.out 5 _).set HO5.out 6 _).set HO5.out 7 _), (((((((((show Arr .u32 73 (w5.drewN nq) gw sc from q5.out.2.1).other _ _ hws.out).other _ _ hws.out).other _ _ hws.out).other _ _ hws.out).other _ _ hws.out).other _ _ hws.out).other _ _ hws.out).other _ _ hws.out), (((((((((show Arr .u32 74 (w5.drewN nq) gs (rdsN H sc i) from q5.out.2.2).stored 0 n0 _ rfl).stored 1 a _ rfl).stored 2 b _ rfl).stored 3 c _ rfl).stored 4 n4 _ rfl).stored 5 e _ rfl).stored 6 f _ rfl).stored 7 m _ rfl)⟩
                          case measure => simp [intOf] <;> omega
                        · have hiR : i = 64 := by omega
                          have tiR : decide ((i : Int) < 64) = false := by simp; omega
                          have HA8 := Lib.hid (show OfS w wr gk gh gm ml cm (addTo H (rdsN H sc 64) 0) M from hI.out.1)
                          have HGV := Lib.hid (show Arr .u32 74 wr gs (rdsN H sc 64) by have := hI.out.2.2; rw [hiR] at this; exact this)
                          have HVL := Lib.hid (rdsN_len H sc HWL.out 64)
                          have HVB := Lib.hid (rdsN_lt H sc HWB.out 64)
                          generalize rdsN H sc 64 = v at *
                          clear hI hiR hlti hii HP HSC HGS
                          go_wp2_with fail
                          go_loopw [26] (fun iv wq => ∃ g : Nat, iv = .int .i64 (g : Int) ∧ g ≤ 8 ∧ Hid (OfS w wq gk gh gm ml cm (addTo H v g) M ∧ Arr .u32 74 wq gs v)) (fun iv _ => 8 - (intOf iv).toNat)
                          case atStart => exact ⟨0, rfl, by decide, HA8.out, HGV.out⟩
                          case round =>
                            obtain ⟨g, rfl, hg, hI⟩ := hrel
                            by_cases hltg : g < 8
                            · have cx := hI.out.1.h.cell g (by rw [addTo_len H v HWL.out]; exact hltg)
                              have fx := hI.out.1.h.frozen g
                              have cy := hI.out.2.cell g (by rw [HVL.out]; exact hltg)
                              obtain ⟨x, hx⟩ : ∃ x, x = g0 (addTo H v g) g := ⟨_, rfl⟩
                              obtain ⟨y, hy⟩ : ∃ y, y = g0 v g := ⟨_, rfl⟩
                              have lx : x < 4294967296 := hx ▸ g0_lt (addTo_lt H v HWB.out g) (by decide) g
                              have ly : y < 4294967296 := hy ▸ g0_lt HVB.out (by decide) g
                              rw [show (addTo H v g)[g]?.getD 0 = x from hx.symm] at cx
                              rw [show v[g]?.getD 0 = y from hy.symm] at cy
                              obtain ⟨s, hs⟩ : ∃ s, s = (x + y) % 4294967296 := ⟨_, rfl⟩
                              have ls : s < 4294967296 := by omega
                              have es : ((x : Int) + (y : Int)) % 4294967296 = (s : Int) := by omega
                              have HE := Lib.hid (show addTo H v (g + 1) = (addTo H v g).set g s by rw [hs, hx, hy]; rfl)
                              have HI := Lib.hid hI.out
                              clear hx hy hs hI
                              go_wp2_with fail
                              go_region
                              all_goals go_wp2
                              all_goals go_roundw
                              case rel => exact ⟨g + 1, by go_num, by omega, by rw [HE.out]; exact (HI.out.1.seth g s _ rfl).drew, Arr.other (w := wr) HI.out.2 _ _ (fun e => HO5.out.ne.2.1 e.symm)⟩
                              case measure => simp [intOf] <;> omega
                            · have hg8 : g = 8 := by omega
                              have tg : decide ((g : Int) < 8) = false := by simp; omega
                              have HN := Lib.hid (show OfS w wr gk gh gm ml cm (wsK 256 M (j + 1)) M by have := hI.out.1; rw [hg8, ← HNXT.out] at this; exact this)
                              clear hI hg8 hltg hg
                              go_wp2
                              go_roundw
                              case rel => exact ⟨j + 1, at' + 64, by go_num, by omega, by omega, by show at' + 64 = 64 * (j + 1); rw [HAT.out]; omega, HN.out⟩
                              case measure => simp [intOf] <;> omega
            · have hjn : j = nb := by omega
              have hatm : at' = ml := by rw [hI.out.1, HNB.out, hjn]
              have tJ : decide (at' < ml) = false := by simp; omega
              have HF := Lib.hid (show OfS w wr gk gh gm ml cm (wsK 256 M nb) M by have := hI.out.2; rw [hjn] at this; exact this)
              have HHR := Lib.hid (show bytesW (wsK 256 M nb) (256 / 32) = hashN 256 bl by
                rw [HM.out]
                exact hash_ref 256 (by decide) bl nb (by rw [← HM.out, ← HML.out, HNB.out]))
              have HWL := Lib.hid (wsK_len 256 M nb)
              have HWB := Lib.hid (wsK_lt 256 M nb)
              generalize wsK 256 M nb = H at *
              clear hI hjn hatm hlt hj hat HS
              go_wp2_with fail
              obtain ⟨i0, hi0, hz0, hz1, hz2⟩ := info_parts infoB
              obtain ⟨wE, rfl⟩ : ∃ x, x = wr := ⟨_, rfl⟩
              go_loopw [27, 28] (fun ov iv wq => ∃ (i m9 c9 : Nat) (a9 : Option Addr), ov = .slice a9 m9 c9 ∧ iv = .int .i64 (i : Int) ∧ i ≤ 8 ∧ Hid (OwnQ .u8 5 wE.heap.size wq (.slice a9 m9 c9) (bytesW H i) ∧ Below wE.heap.size wE wq)) (fun _ iv _ => 8 - (intOf iv).toNat)
              case atStart => exact ⟨0, 0, 0, none, rfl, rfl, by decide, OwnQ.nil _ _ _ _, Below.refl _ _⟩
              case round =>
                obtain ⟨i, m9, c9, a9, rfl, rfl, hi, hI⟩ := hrel
                by_cases hlti : i < 8
                · have cx := (HF.out.on hI.out.2).h.cell i (by rw [HWL.out]; omega)
                  obtain ⟨x, hx⟩ : ∃ x, x = g0 H i := ⟨_, rfl⟩
                  have lx : x < 4294967296 := hx ▸ g0_lt HWB.out (by decide) i
                  have HX := Lib.hid (show H[i]?.getD 0 = x from hx.symm)
                  rw [HX.out] at cx
                  obtain ⟨y0, hy0⟩ : ∃ y, y = x / 16777216 := ⟨_, rfl⟩
                  obtain ⟨z1, hz1'⟩ : ∃ y, y = x / 65536 := ⟨_, rfl⟩
                  obtain ⟨y1, hy1⟩ : ∃ y, y = z1 % 256 := ⟨_, rfl⟩
                  obtain ⟨z2, hz2'⟩ : ∃ y, y = x / 256 := ⟨_, rfl⟩
                  obtain ⟨y2, hy2⟩ : ∃ y, y = z2 % 256 := ⟨_, rfl⟩
                  obtain ⟨y3, hy3⟩ : ∃ y, y = x % 256 := ⟨_, rfl⟩
                  have e0 : (x : Int) / 16777216 = (y0 : Int) := by omega
                  have e1 : (x : Int) / 65536 = (z1 : Int) := by omega
                  have e1' : (z1 : Int) % 256 = (y1 : Int) := by omega
                  have e2 : (x : Int) / 256 = (z2 : Int) := by omega
                  have e2' : (z2 : Int) % 256 = (y2 : Int) := by omega
                  have e3 : (x : Int) % 256 = (y3 : Int) := by omega
                  have w0 : IntKind.u8.wrap (y0 : Int) = (y0 : Int) := by simp [IntKind.wrap, IntKind.bits, IntKind.signed]; omega
                  have w1 : IntKind.u8.wrap (y1 : Int) = (y1 : Int) := by simp [IntKind.wrap, IntKind.bits, IntKind.signed]; omega
                  have w2 : IntKind.u8.wrap (y2 : Int) = (y2 : Int) := by simp [IntKind.wrap, IntKind.bits, IntKind.signed]; omega
                  have w3 : IntKind.u8.wrap (y3 : Int) = (y3 : Int) := by simp [IntKind.wrap, IntKind.bits, IntKind.signed]; omega
                  have u0 : IntKind.u32.wrap (y0 : Int) = (y0 : Int) := by simp [IntKind.wrap, IntKind.bits, IntKind.signed]; omega
                  have u1 : IntKind.u32.wrap (z1 : Int) = (z1 : Int) := by simp [IntKind.wrap, IntKind.bits, IntKind.signed]; omega
                  have u2 : IntKind.u32.wrap (z2 : Int) = (z2 : Int) := by simp [IntKind.wrap, IntKind.bits, IntKind.signed]; omega
                  have v0 : IntKind.u8.wrap (IntKind.u32.wrap (y0 : Int)) = (y0 : Int) := by rw [u0, w0]
                  have v1 : IntKind.u8.wrap ((IntKind.u32.wrap (z1 : Int)).tmod 256) = (y1 : Int) := by rw [u1, Int.tmod_eq_emod_of_nonneg (by omega), e1', w1]
                  have v2 : IntKind.u8.wrap ((IntKind.u32.wrap (z2 : Int)).tmod 256) = (y2 : Int) := by rw [u2, Int.tmod_eq_emod_of_nonneg (by omega), e2', w2]
                  have v3 : IntKind.u8.wrap ((x : Int).tmod 256) = (y3 : Int) := by rw [Int.tmod_eq_emod_of_nonneg (by omega), e3, w3]
                  clear u0 u1 u2
                  have wi : IntKind.i64.wrap (i : Int) = (i : Int) := by simp [IntKind.wrap, IntKind.bits, IntKind.signed]; omega
                  have ii : (i : Int) < 8 := by omega
                  have HBS := Lib.hid (show bytesW H (i + 1) = bytesW H i ++ [y0, y1, y2, y3] by
                    rw [bytesW_succ, ← hx]
                    unfold wordB
                    rw [show x / 16777216 % 256 = y0 by omega, show x / 65536 % 256 = y1 by omega, show x / 256 % 256 = y2 by omega, ← hy3])
                  have HI := Lib.hid hI.out
                  have HBL2 := Lib.hid (bytesW_len H i)
                  clear hx hy0 hz1' hy1 hz2' hy2 hy3 hI
                  have HB8 := Lib.hid (show Below wE.heap.size wE wr.drew from HI.out.2.trans ((Below.refl _ _).drew.mono HI.out.2.size))
                  have HC := Lib.hid (show ∀ W, Below wE.heap.size wE W → W.cell? ⟨gh, i, none⟩ = some (.int .u32 (x : Int)) from fun W hb => by
                    have := (HF.out.on hb).h.cell i (by rw [HWL.out]; omega)
                    rwa [HX.out] at this)
                  go_wp2_with fail
                  refine wp_region_held_drew (S := fun W => W.cell? ⟨gh, i, none⟩ = some (.int .u32 (x : Int))) (by kernel_rfl) (HC.out _ HB8.out) (fun hHeld => ?_)
                  refine' wpAnyH_take (i := 0) (oi := _) (v := _) rfl (by kernel_rfl) (by kernel_rfl) (by kernel_rfl) (fun _ _ _ h => h) (Or.inl ⟨?_, ?_⟩) (by assumption) ?_
                  rotate_left
                  all_goals (try simp only [List.getElem_toArray, List.getElem_cons_zero])
                  · rfl
                  · intro W hSw; (try dsimp only at hSw); go_simp; (try with_reducible rfl)
                  try simp only [Act.put, List.setIfInBounds_toArray, List.set_cons_zero, List.set_cons_succ]
                  refine' wpAnyH_take (i := 1) (oi := _) (v := _) rfl (by kernel_rfl) (by kernel_rfl) (by kernel_rfl) (fun _ _ _ h => h) (Or.inl ⟨?_, ?_⟩) (by assumption) ?_
                  rotate_left
                  all_goals (try simp only [List.getElem_toArray, List.getElem_cons_succ, List.getElem_cons_zero])
                  · rfl
                  · intro W hSw; (try dsimp only at hSw); go_simp; (try with_reducible rfl)
                  try simp only [Act.put, List.setIfInBounds_toArray, List.set_cons_zero, List.set_cons_succ]
                  refine' wpAnyH_take (i := 2) (oi := _) (v := _) rfl (by kernel_rfl) (by kernel_rfl) (by kernel_rfl) (fun _ _ _ h => h) (Or.inl ⟨?_, ?_⟩) (by assumption) ?_
                  rotate_left
                  all_goals (try simp only [List.getElem_toArray, List.getElem_cons_succ, List.getElem_cons_zero])
                  · rfl
                  · intro W hSw; (try dsimp only at hSw); go_simp; (try with_reducible rfl)
                  try simp only [Act.put, List.setIfInBounds_toArray, List.set_cons_zero, List.set_cons_succ]
                  refine' wpAnyH_take (i := 3) (oi := _) (v := _) rfl (by kernel_rfl) (by kernel_rfl) (by kernel_rfl) (fun _ _ _ h => h) (Or.inl ⟨?_, ?_⟩) (by assumption) ?_
                  rotate_left
                  all_goals (try simp only [List.getElem_toArray, List.getElem_cons_succ, List.getElem_cons_zero])
                  · rfl
                  · intro W hSw; (try dsimp only at hSw); go_simp; (try with_reducible rfl)
                  try simp only [Act.put, List.setIfInBounds_toArray, List.set_cons_zero, List.set_cons_succ]
                  refine' wpAnyH_take (i := 4) (oi := _) (v := _) rfl (by kernel_rfl) (by kernel_rfl) (by kernel_rfl) (fun _ _ _ h => h) (Or.inl ⟨?_, ?_⟩) (by assumption) ?_
                  rotate_left
                  all_goals (try simp only [List.getElem_toArray, List.getElem_cons_succ, List.getElem_cons_zero])
                  · rfl
                  · intro W hSw; (try dsimp only at hSw); go_simp; (try with_reducible rfl)
                  try simp only [Act.put, List.setIfInBounds_toArray, List.set_cons_zero, List.set_cons_succ]
                  refine' wpAnyH_take (i := 5) (oi := _) (v := _) rfl (by kernel_rfl) (by kernel_rfl) (by kernel_rfl) (fun _ _ _ h => h) (Or.inl ⟨?_, ?_⟩) (by assumption) ?_
                  rotate_left
                  all_goals (try simp only [List.getElem_toArray, List.getElem_cons_succ, List.getElem_cons_zero])
                  · rfl
                  · intro W hSw; (try dsimp only at hSw); go_simp; (try with_reducible rfl)
                  try simp only [Act.put, List.setIfInBounds_toArray, List.set_cons_zero, List.set_cons_succ]
                  refine' wpAnyH_take (i := 6) (oi := _) (v := _) rfl (by kernel_rfl) (by kernel_rfl) (by kernel_rfl) (fun _ _ _ h => h) (Or.inl ⟨?_, ?_⟩) (by assumption) ?_
                  rotate_left
                  all_goals (try simp only [List.getElem_toArray, List.getElem_cons_succ, List.getElem_cons_zero])
                  · rfl
                  · intro W hSw; (try dsimp only at hSw); go_simp; (try with_reducible rfl)
                  try simp only [Act.put, List.setIfInBounds_toArray, List.set_cons_zero, List.set_cons_succ]
                  refine' wpAnyH_take (i := 7) (oi := _) (v := _) rfl (by kernel_rfl) (by kernel_rfl) (by kernel_rfl) (fun _ _ _ h => h) (Or.inl ⟨?_, ?_⟩) (by assumption) ?_
                  rotate_left
                  all_goals (try simp only [List.getElem_toArray, List.getElem_cons_succ, List.getElem_cons_zero])
                  · rfl
                  · intro W hSw; (try dsimp only at hSw); go_simp; (try with_reducible rfl)
                  try simp only [Act.put, List.setIfInBounds_toArray, List.set_cons_zero, List.set_cons_succ]
                  refine' wpAnyH_take (i := 8) (oi := _) (v := _) rfl (by kernel_rfl) (by kernel_rfl) (by kernel_rfl) (fun _ _ _ h => h) (Or.inl ⟨?_, ?_⟩) (by assumption) ?_
                  rotate_left
                  all_goals (try simp only [List.getElem_toArray, List.getElem_cons_succ, List.getElem_cons_zero])
                  · rfl
                  · intro W hSw; (try dsimp only at hSw); go_simp; (try with_reducible rfl)
                  try simp only [Act.put, List.setIfInBounds_toArray, List.set_cons_zero, List.set_cons_succ]
                  refine' wpAnyH_take (i := 9) (oi := _) (v := _) rfl (by kernel_rfl) (by kernel_rfl) (by kernel_rfl) (fun _ _ _ h => h) (Or.inl ⟨?_, ?_⟩) (by assumption) ?_
                  rotate_left
                  all_goals (try simp only [List.getElem_toArray, List.getElem_cons_succ, List.getElem_cons_zero])
                  · rfl
                  · intro W hSw; (try dsimp only at hSw); go_simp; (try with_reducible rfl)
                  try simp only [Act.put, List.setIfInBounds_toArray, List.set_cons_zero, List.set_cons_succ]
                  refine' wpAnyH_take (i := 10) (oi := _) (v := _) rfl (by kernel_rfl) (by kernel_rfl) (by kernel_rfl) (fun _ _ _ h => h) (Or.inl ⟨?_, ?_⟩) (by assumption) ?_
                  rotate_left
                  all_goals (try simp only [List.getElem_toArray, List.getElem_cons_succ, List.getElem_cons_zero])
                  · rfl
                  · intro W hSw; (try dsimp only at hSw); go_simp; (try with_reducible rfl)
                  try simp only [Act.put, List.setIfInBounds_toArray, List.set_cons_zero, List.set_cons_succ]
                  refine' wpAnyH_take (i := 11) (oi := _) (v := _) rfl (by kernel_rfl) (by kernel_rfl) (by kernel_rfl) (fun _ _ _ h => h) (Or.inl ⟨?_, ?_⟩) (by assumption) ?_
                  rotate_left
                  all_goals (try simp only [List.getElem_toArray, List.getElem_cons_succ, List.getElem_cons_zero])
                  · rfl
                  · intro W hSw; (try dsimp only at hSw); go_simp; (try with_reducible rfl)
                  try simp only [Act.put, List.setIfInBounds_toArray, List.set_cons_zero, List.set_cons_succ]
                  refine' wpAnyH_take (i := 12) (oi := _) (v := _) rfl (by kernel_rfl) (by kernel_rfl) (by kernel_rfl) (fun _ _ _ h => h) (Or.inl ⟨?_, ?_⟩) (by assumption) ?_
                  rotate_left
                  all_goals (try simp only [List.getElem_toArray, List.getElem_cons_succ, List.getElem_cons_zero])
                  · rfl
                  · intro W hSw; (try dsimp only at hSw); go_simp; (try with_reducible rfl)
                  try simp only [Act.put, List.setIfInBounds_toArray, List.set_cons_zero, List.set_cons_succ]
                  refine' wpAnyH_take (i := 13) (oi := _) (v := _) rfl (by kernel_rfl) (by kernel_rfl) (by kernel_rfl) (fun _ _ _ h => h) (Or.inl ⟨?_, ?_⟩) (by assumption) ?_
                  rotate_left
                  all_goals (try simp only [List.getElem_toArray, List.getElem_cons_succ, List.getElem_cons_zero])
                  · rfl
                  · intro W hSw; (try dsimp only at hSw); go_simp; (try with_reducible rfl)
                  try simp only [Act.put, List.setIfInBounds_toArray, List.set_cons_zero, List.set_cons_succ]
                  refine' wpAnyH_take (i := 14) (oi := _) (v := _) rfl (by kernel_rfl) (by kernel_rfl) (by kernel_rfl) (fun _ _ _ h => h) (Or.inl ⟨?_, ?_⟩) (by assumption) ?_
                  rotate_left
                  all_goals (try simp only [List.getElem_toArray, List.getElem_cons_succ, List.getElem_cons_zero])
                  · rfl
                  · intro W hSw; (try dsimp only at hSw); go_simp; (try with_reducible rfl)
                  try simp only [Act.put, List.setIfInBounds_toArray, List.set_cons_zero, List.set_cons_succ]
                  refine' wpAnyH_take (i := 15) (oi := _) (v := _) rfl (by kernel_rfl) (by kernel_rfl) (by kernel_rfl) (fun _ _ _ h => h) (Or.inl ⟨?_, ?_⟩) (by assumption) ?_
                  rotate_left
                  all_goals (try simp only [List.getElem_toArray, List.getElem_cons_succ, List.getElem_cons_zero])
                  · rfl
                  · intro W hSw; (try dsimp only at hSw); go_simp; (try with_reducible rfl)
                  try simp only [Act.put, List.setIfInBounds_toArray, List.set_cons_zero, List.set_cons_succ]
                  refine' wpAnyH_take (i := 16) (oi := _) (v := _) rfl (by kernel_rfl) (by kernel_rfl) (by kernel_rfl) (fun _ _ _ h => h) (Or.inl ⟨?_, ?_⟩) (by assumption) ?_
                  rotate_left
                  all_goals (try simp only [List.getElem_toArray, List.getElem_cons_succ, List.getElem_cons_zero])
                  · rfl
                  · intro W hSw; (try dsimp only at hSw); go_simp; (try with_reducible rfl)
                  try simp only [Act.put, List.setIfInBounds_toArray, List.set_cons_zero, List.set_cons_succ]
                  refine' wpAnyH_take (i := 17) (oi := _) (v := _) rfl (by kernel_rfl) (by kernel_rfl) (by kernel_rfl) (fun _ _ _ h => h) (Or.inl ⟨?_, ?_⟩) (by assumption) ?_
                  rotate_left
                  all_goals (try simp only [List.getElem_toArray, List.getElem_cons_succ, List.getElem_cons_zero])
                  · rfl
                  · intro W hSw; (try dsimp only at hSw); go_simp; (try with_reducible rfl)
                  try simp only [Act.put, List.setIfInBounds_toArray, List.set_cons_zero, List.set_cons_succ]
                  refine' wpAnyH_take (i := 18) (oi := _) (v := _) rfl (by kernel_rfl) (by kernel_rfl) (by kernel_rfl) (fun _ _ _ h => h) (Or.inl ⟨?_, ?_⟩) (by assumption) ?_
                  rotate_left
                  all_goals (try simp only [List.getElem_toArray, List.getElem_cons_succ, List.getElem_cons_zero])
                  · rfl
                  · intro W hSw; (try dsimp only at hSw); go_simp; (try with_reducible rfl)
                  try simp only [Act.put, List.setIfInBounds_toArray, List.set_cons_zero, List.set_cons_succ]
                  refine' wpAnyH_take (i := 19) (oi := _) (v := _) rfl (by kernel_rfl) (by kernel_rfl) (by kernel_rfl) (fun _ _ _ h => h) (Or.inl ⟨?_, ?_⟩) (by assumption) ?_
                  rotate_left
                  all_goals (try simp only [List.getElem_toArray, List.getElem_cons_succ, List.getElem_cons_zero])
                  · rfl
                  · intro W hSw; (try dsimp only at hSw); go_simp; (try with_reducible rfl)
                  try simp only [Act.put, List.setIfInBounds_toArray, List.set_cons_zero, List.set_cons_succ]
                  refine' wpAnyH_take (i := 20) (oi := _) (v := _) rfl (by kernel_rfl) (by kernel_rfl) (by kernel_rfl) (fun _ _ _ h => h) (Or.inl ⟨?_, ?_⟩) (by assumption) ?_
                  rotate_left
                  all_goals (try simp only [List.getElem_toArray, List.getElem_cons_succ, List.getElem_cons_zero])
                  · rfl
                  · intro W hSw; (try dsimp only at hSw); go_simp; (try with_reducible rfl)
                  try simp only [Act.put, List.setIfInBounds_toArray, List.set_cons_zero, List.set_cons_succ]
                  refine' wpAnyH_take (i := 21) (oi := _) (v := _) rfl (by kernel_rfl) (by kernel_rfl) (by kernel_rfl) (fun _ _ _ h => h) (Or.inl ⟨?_, ?_⟩) (by assumption) ?_
                  rotate_left
                  all_goals (try simp only [List.getElem_toArray, List.getElem_cons_succ, List.getElem_cons_zero])
                  · rfl
                  · intro W hSw; (try dsimp only at hSw); go_simp; (try with_reducible rfl)
                  try simp only [Act.put, List.setIfInBounds_toArray, List.set_cons_zero, List.set_cons_succ]
                  refine' wpAnyH_take (i := 22) (oi := _) (v := _) rfl (by kernel_rfl) (by kernel_rfl) (by kernel_rfl) (fun _ _ _ h => h) (Or.inl ⟨?_, ?_⟩) (by assumption) ?_
                  rotate_left
                  all_goals (try simp only [List.getElem_toArray, List.getElem_cons_succ, List.getElem_cons_zero])
                  · rfl
                  · intro W hSw; (try dsimp only at hSw); go_simp; (try with_reducible rfl)
                  try simp only [Act.put, List.setIfInBounds_toArray, List.set_cons_zero, List.set_cons_succ]
                  refine wpAnyH_ready (rs := [23]) (by kernel_rfl) (by simp) ?_
                  refine AllReadyH.cons (o := _) rfl (fun K hK => ?_) AllReadyH.nil
                  try simp only [List.getElem_toArray, List.getElem_cons_succ, List.getElem_cons_zero]
                  go_simp
                  refine hK.out _ _ (HC.out _ (HB8.out.alloc HB8.out.size _)) (fun hHeld => ?_)
                  clear hK K
                  try simp only [Act.put, List.setIfInBounds_toArray, List.set_cons_zero, List.set_cons_succ]
                  refine wpAnyH_ready (rs := [24]) (by kernel_rfl) (by simp) ?_
                  refine AllReadyH.cons (o := _) rfl (fun K hK => ?_) AllReadyH.nil
                  try simp only [List.getElem_toArray, List.getElem_cons_succ, List.getElem_cons_zero]
                  rw [if_pos (by rfl)]
                  refine step_append_q .u8 _ (.tmp 249) (.tmp 272) 23 rfl wE.heap.size 5 1 i0 Tryd.underlying23 hi0 hz0 hz1 hz2 (by decide) _ (bytesW H i) rfl (show OwnQ .u8 5 wE.heap.size _ (.slice a9 m9 c9) (bytesW H i) from OwnQ.alloc (w := wr.drew) HI.out.1 _) _ _ _ [y0, y1, y2, y3] rfl (reads_four .u8 wr.drew _ _ _ _ _ y0 y1 y2 y3 (by omega) (by omega) (by omega) (by omega)) (by rw [HBL2.out]; omega) ((HB8.out.alloc HB8.out.size _).size) ?_; intro v' wA hown hgrow; obtain ⟨aA, nA, cA, rfl, hnA, hoA⟩ := own_sl hown; have HOA := Lib.hid hoA; have HBA := Lib.hid (hgrow wE (HB8.out.alloc HB8.out.size _)); clear hown hgrow hnA hoA
                  refine hK.out _ _ (HC.out _ HBA.out) (fun hHeld => ?_)
                  clear hK K
                  try simp only [Act.put, List.setIfInBounds_toArray, List.set_cons_zero, List.set_cons_succ]
                  refine' wpAnyH_take (i := 25) (oi := _) (v := _) rfl (by kernel_rfl) (by kernel_rfl) (by kernel_rfl) (fun _ _ _ h => h) (Or.inl ⟨?_, ?_⟩) (by assumption) ?_
                  rotate_left
                  all_goals (try simp only [List.getElem_toArray, List.getElem_cons_succ, List.getElem_cons_zero])
                  · rfl
                  · intro W hSw; (try dsimp only at hSw); go_simp; (try with_reducible rfl)
                  try simp only [Act.put, List.setIfInBounds_toArray, List.set_cons_zero, List.set_cons_succ]
                  refine wpAnyH_done (by kernel_rfl) ?_ _
                  go_wp2_with fail
                  go_roundw
                  case rel => exact ⟨i + 1, nA, cA, aA, rfl, by go_num, by omega, by rw [HBS.out]; exact HOA.out, HBA.out⟩
                  case measure => simp [intOf] <;> omega
                · have hi8 : i = 8 := by omega
                  have ti : decide ((i : Int) < 8) = false := by simp; omega
                  have HOF := Lib.hid (show OwnQ .u8 5 wE.heap.size wr (.slice a9 m9 c9) (hashN 256 bl) by have := hI.out.1; rw [hi8] at this; rw [← HHR.out]; exact this)
                  have HBF := Lib.hid hI.out.2
                  clear hI hi8 hlti hi
                  go_wp2
                  go_ret2
                  exact ⟨⟨_, rfl, HOF.out.mono HF.out.below.size⟩, HF.out.below.trans (HBF.out.mono HF.out.below.size)⟩

end Go.Proofs.YtmfjhgjplmpecaaDoor
