/-
  Texts of ours, one behind the other: Sh6 Sh7 PriP Sh8 Sh9 Sj0
-/
import Derived.Test.YtmfjhgjplmpecaaDoorPk5
import Derived.BigQuiet
import Derived.Deep.QuietTactic
import Derived.StillTailTactics
import Derived.BigRegion
import Derived.RegionTactic
import Derived.Deep.RegionHeld3
import Derived.ArgAppend
set_option linter.unusedVariables false
set_option linter.unusedSimpArgs false

namespace Go.Proofs.YtmfjhgjplmpecaaDoor
open Go.RowKit Go.Shelf

theorem wpList_loadW {ops : Array Oper} {rest : List Oper} {o : Oper} {a : Act} {w : World} {Q : Exit → Act → World → Prop} (hgd : o.guard = none) (x : Operand) (ho : o.op = .load 107 x)
    (g : Nat) (l : List Nat) (hx : a.eval x = .pointer (some ⟨g, 0, none⟩)) (hA : Arr .u64 107 w g l) (h8 : l.length = 8)
    (h : wpList Tryd.prog ops Q rest (a.put o.dst (.agg (arrC .u64 l))) w) : wpList Tryd.prog ops Q (o :: rest) a w :=
  wpList_load_row hgd _ x ho g hx _ (arrC .u64 l) _ _ hA Tryd.underlying107 rfl (by rw [arrC_size, h8]; kernel_rfl) h
theorem wpList_storeW {ops : Array Oper} {rest : List Oper} {o : Oper} {a : Act} {w : World} {Q : Exit → Act → World → Prop} (hgd : o.guard = none) (x y : Operand) (ho : o.op = .store 107 x y)
    (g : Nat) (l m : List Nat) (hx : a.eval x = .pointer (some ⟨g, 0, none⟩)) (hy : a.eval y = .agg (arrC .u64 m)) (hA : Arr .u64 107 w g l) (hl8 : l.length = 8) (h8 : m.length = 8)
    (h : wpList Tryd.prog ops Q rest (a.put o.dst undef) (w.setRow g (arrC .u64 m))) : wpList Tryd.prog ops Q (o :: rest) a w :=
  wpList_store_row hgd _ _ _ ho g (arrC .u64 m) hx hy 107 _ hA (by rw [arrC_size, h8]; kernel_rfl) (by rw [arrC_size, arrC_size, h8, hl8]) (arrC_one _ _) h
theorem Arr.laid {q : IntKind} {E g : Nat} {w : World} {l : List Nat} (h : Arr q E w g l) (m : List Nat) : Arr q E (w.setRow g (arrC q m)) g m := setRow_heap w g _ _ _ _ h
theorem Arr.beside {q : IntKind} {E g : Nat} {w : World} {l : List Nat} (h : Arr q E w g l) (k : Nat) (cs : Array Value) (hk : g ≠ k) : Arr q E (w.setRow k cs) g l := (setRow_other w k g cs hk).trans h
theorem below_setRow {B : Nat} {w0 w : World} (h : Below B w0 w) (g : Nat) (cs : Array Value) (hg : B ≤ g) (hB : B ≤ w.heap.size) : Below B w0 (w.setRow g cs) :=
  h.grown (grown_setRow (x := w) (y := w) (g := g) ⟨rfl, rfl, rfl, Nat.le_refl _, fun _ _ _ => rfl⟩ cs) hB (fun r e => by cases e; exact hg)
theorem size_setRow (w : World) (g : Nat) (cs : Array Value) : (w.setRow g cs).heap.size = w.heap.size := by simp [World.setRow]
theorem Arr.fresh {q : IntKind} {E h : Nat} {W : World} {l : List Nat} (H : Arr q E W h l) (o : Obj) (cs : Array Value) : Arr q E ((W.alloc o).setRow W.heap.size cs) h l := (H.alloc o).beside _ _ (Nat.ne_of_lt H.lt)
theorem arr_fresh (W : World) (E : TypeId) (l t : List Nat) : Arr .u64 E ((W.alloc (.cells (arrC .u64 l) E)).setRow W.heap.size (arrC .u64 t)) W.heap.size t := Arr.laid (l := l) (Go.heap_alloc_new W _) t
theorem below_fresh {B : Nat} {w0 W : World} (h : Below B w0 W) (hB : B ≤ W.heap.size) (o : Obj) (cs : Array Value) : Below B w0 ((W.alloc o).setRow W.heap.size cs) := below_setRow (h.alloc hB o) _ _ hB (by rw [World.size_alloc]; omega)
theorem withN_len (a : List Nat) (i : Nat) : (withN a i).length = a.length := by simp [withN]
theorem Arr.new (w : World) (E : TypeId) (l : List Nat) : Arr .u64 E (w.alloc (.cells (arrC .u64 l) E)) w.heap.size l := Go.heap_alloc_new w _
def zero8 : List Nat := List.replicate 8 0
theorem eight_zero : Eight zero8 := ⟨rfl, fun x hx => by have := List.eq_of_mem_replicate hx; omega⟩
theorem xV_one {s f n : Nat} {x y : List Nat} (h : xV s (f + 1) n x = some y) (hn : n % 2 = 1) : Eight (withN x (s + (8 - f))) ∧ xV s f (n / 2) (withN x (s + (8 - f))) = some y := by
  rw [xV, show Nat.beq (n % 2) 1 = true by rw [hn]; rfl, cond_true] at h
  cases e : eightB (withN x (s + (8 - f))) with
  | true => rw [e, cond_true] at h; exact ⟨eight_of_B e, h⟩
  | false => rw [e, cond_false] at h; cases h
theorem xV_two {s f n : Nat} {x y : List Nat} (h : xV s (f + 1) n x = some y) (hn : n % 2 = 0) : xV s f (n / 2) x = some y := by
  rw [xV, show Nat.beq (n % 2) 1 = false by rw [hn]; rfl, cond_false] at h
  exact h
theorem rV_step {k X i : Nat} {r y : List Nat} (h : rV k X (i + 1) r = some y) : Eight (withN r i) ∧ rV k X i (bif Nat.blt X ((valB 4294967296 (withN r i)) ^ k % 4294967296 ^ 8) then r else withN r i) = some y := by
  rw [rV] at h
  cases e : eightB (withN r i) with
  | true => rw [e, cond_true] at h; exact ⟨eight_of_B e, h⟩
  | false => rw [e, cond_false] at h; cases h
/-- The power that is held against the number. -/
def powN (k : Nat) (t : List Nat) : List Nat := if k = 3 then productN (productN t t) t else productN t t
theorem powN_ok {k : Nat} {t : List Nat} (h : Eight t) : Eight (powN k t) := by
  unfold powN
  split
  · exact productN_ok (productN_ok h h) h
  · exact productN_ok h h
theorem powN_val {k : Nat} {t : List Nat} (hk : k = 2 ∨ k = 3) (h : Eight t) : valB 4294967296 (powN k t) = (valB 4294967296 t) ^ k % 4294967296 ^ 8 := by
  have h2 : valB 4294967296 (productN t t) = (valB 4294967296 t) ^ 2 % 4294967296 ^ 8 := by rw [productN_val h h, Nat.pow_two]
  rcases hk with rfl | rfl
  · exact h2
  · show valB 4294967296 (productN (productN t t) t) = _
    rw [productN_val (productN_ok h h) h, h2, Nat.mod_mul_mod, ← Nat.pow_succ]
theorem above_val {k : Nat} {t x : List Nat} (hk : k = 2 ∨ k = 3) (h : Eight t) (hx : Eight x) : moreN (powN k t) x 8 = Nat.blt (valB 4294967296 x) ((valB 4294967296 t) ^ k % 4294967296 ^ 8) := by
  rw [more_val (powN_ok h) hx, powN_val hk h]

set_option maxRecDepth 100000 in
set_option maxHeartbeats 4000000 in
theorem fraction_any (n k bits v : Nat) (hk : k = 2 ∨ k = 3) (hb : bits = 32 ∨ bits = 64) (hn : n < 512) (h : fracV n k bits = some v) (w : World) :
    Calls Tryd.prog 38 #[.int .i64 (n : Int), .int .i64 (k : Int), .int .i64 (bits : Int)] w fun e w' => e = .returned (.int .u64 (v : Int)) ∧ Below w.heap.size w w' := by
  have hz : ∀ w, (zeroValue 107).run Tryd.prog w = .ok (.agg (arrC .u64 (List.replicate 8 0))) w := fun _ => by kernel_rfl
  obtain ⟨p, hp⟩ : ∃ p, p = k * bits := ⟨_, rfl⟩
  have hpi : (k : Int) * (bits : Int) = (p : Int) := by rw [hp]; push_cast; rfl
  have hp200 : p ≤ 192 := by rw [hp]; rcases hk with rfl | rfl <;> rcases hb with rfl | rfl <;> decide
  unfold fracV at h
  rw [← hp] at h
  cases hx : xV p 9 n (List.replicate 8 0) with
  | none => rw [hx] at h; cases h
  | some X => ?_
  rw [hx] at h
  change (match rV k (valB 4294967296 X) (bits + 6) (List.replicate 8 0) with | none => none | some r => some (bif Nat.beq bits 32 then g0 r 0 else g0 r 0 + 4294967296 * g0 r 1)) = some v at h
  cases hr : rV k (valB 4294967296 X) (bits + 6) (List.replicate 8 0) with
  | none => rw [hr] at h; cases h
  | some R => ?_
  rw [hr] at h
  have hv := Option.some.inj h
  have HV := Lib.hid hv
  have HX := Lib.hid hx
  have HR := Lib.hid hr
  have HK := Lib.hid hk
  clear hp hx hr hv h
  have hb64 : bits ≤ 64 := by omega
  go_enter Tryd.func38, Tryd.ntmps38
  go_wp2_with fail
  have HA := Lib.hid (show Arr .u64 107 (w.alloc (.cells (arrC .u64 [0, 0, 0, 0, 0, 0, 0, 0]) 107)) w.heap.size zero8 from Arr.new _ _ _)
  have HB := Lib.hid ((Below.refl w.heap.size w).alloc (Nat.le_refl _) (.cells (arrC .u64 [0, 0, 0, 0, 0, 0, 0, 0]) 107))
  obtain ⟨hx, ehx⟩ : ∃ g, g = w.heap.size := ⟨_, rfl⟩
  have hxw : Hid (w.heap.size ≤ hx) := Nat.le_of_eq ehx.symm
  rw [← ehx] at HA ⊢
  generalize w.alloc (.cells (arrC .u64 [0, 0, 0, 0, 0, 0, 0, 0]) 107) = W at *
  clear ehx
  go_loopw [0, 8] (fun nv iv wq => ∃ (i m : Nat) (x : List Nat), nv = .int .i64 (m : Int) ∧ iv = .int .i64 (i : Int) ∧ i ≤ 9 ∧ m < 512 ∧ Hid (Arr .u64 107 wq hx x ∧ Eight x ∧ Below w.heap.size w wq ∧ xV p (9 - i) m x = some X)) (fun _ iv _ => 9 - (intOf iv).toNat)
  case atStart => exact ⟨0, n, zero8, rfl, rfl, by decide, hn, HA.out, eight_zero, HB.out, HX.out⟩
  case round =>
    obtain ⟨i, m, x, rfl, rfl, hi, hm, hI⟩ := hrel
    by_cases hlt : i < 9
    · obtain ⟨f, hf⟩ : ∃ f, 9 - i = f + 1 := ⟨8 - i, by omega⟩
      obtain ⟨m2, hm2⟩ : ∃ q, q = m / 2 := ⟨_, rfl⟩
      have hmd : Int.tdiv (m : Int) 2 = (m2 : Int) := by rw [Int.tdiv_eq_ediv_of_nonneg (by omega)]; omega
      have hm5 : m2 < 512 := by omega
      have hf2 : 9 - (i + 1) = f := by omega
      have hf3 : p + (8 - f) = p + i := by omega
      have HM := Lib.hid hm2
      have HF := Lib.hid hf
      have HF2 := Lib.hid hf2
      have HF3 := Lib.hid hf3
      clear hf hf2 hf3 hm2
      by_cases hodd : m % 2 = 1
      · have hmo : Int.tmod (m : Int) 2 = 1 := by rw [Int.tmod_eq_emod_of_nonneg (by omega)]; omega
        have hst := xV_one (by rw [← HF.out]; exact hI.out.2.2.2) hodd
        rw [HF3.out, ← HM.out] at hst
        have HST := Lib.hid hst
        have hx8 := Lib.hid hI.out.2.1.1
        clear hst hodd
        go_wp2_with (refine wpList_loadW rfl _ rfl hx x rfl hI.out.1 hx8.out ?_)
        refine (with_any x (p + i) _ hI.out.2.1 (by push_cast; rfl) (by omega) wr).mono ?_
        rintro e w2 ⟨rfl, hb2⟩
        have HA2 := Lib.hid (hI.out.1.below hb2 hI.out.1.lt)
        have HB2 := Lib.hid (hI.out.2.2.1.trans (hb2.mono hI.out.2.2.1.size))
        clear hb2
        go_wp2_with (refine wpList_storeW rfl _ _ rfl hx x (withN x (p + i)) rfl rfl HA2.out hx8.out HST.out.1.1 ?_)
        go_roundw
        case rel => exact ⟨i + 1, m2, withN x (p + i), rfl, by go_num, by omega, hm5, HA2.out.laid _, HST.out.1, below_setRow HB2.out hx _ hxw.out HB2.out.size, by rw [HF2.out]; exact HST.out.2⟩
        case measure => simp [intOf] <;> omega
      · have hmo : Int.tmod (m : Int) 2 = 0 := by rw [Int.tmod_eq_emod_of_nonneg (by omega)]; omega
        have hst := xV_two (by rw [← HF.out]; exact hI.out.2.2.2) (by omega)
        rw [← HM.out] at hst
        have HST := Lib.hid hst
        clear hst hodd
        go_wp2
        go_roundw
        case rel => exact ⟨i + 1, m2, x, rfl, by go_num, by omega, hm5, hI.out.1, hI.out.2.1, hI.out.2.2.1, by rw [HF2.out]; exact HST.out⟩
        case measure => simp [intOf] <;> omega
    · have hi9 : i = 9 := by omega
      obtain rfl : x = X := by have := hI.out.2.2.2; rw [hi9] at this; exact Option.some.inj this
      have t9 : decide ((i : Int) < 9) = false := by simp; omega
      clear hlt hi hi9
      have HAX := Lib.hid hI.out.1
      have HEX := Lib.hid hI.out.2.1
      have HBX := Lib.hid hI.out.2.2.1
      clear hI HX HA HB
      go_wp2_with fail
      have HA3 := Lib.hid (HAX.out.alloc (.cells (arrC .u64 [0, 0, 0, 0, 0, 0, 0, 0]) 107))
      have HR3 := Lib.hid (show Arr .u64 107 (wr.alloc (.cells (arrC .u64 [0, 0, 0, 0, 0, 0, 0, 0]) 107)) wr.heap.size zero8 from Arr.new _ _ _)
      have HB3 := Lib.hid (HBX.out.alloc HBX.out.size (.cells (arrC .u64 [0, 0, 0, 0, 0, 0, 0, 0]) 107))
      have hne : Hid (hx ≠ wr.heap.size) := Nat.ne_of_lt HAX.out.lt
      have hrw := Lib.hid HBX.out.size
      generalize wr.alloc (.cells (arrC .u64 [0, 0, 0, 0, 0, 0, 0, 0]) 107) = W3 at *
      generalize wr.heap.size = hr at *
      clear HAX HBX
      go_loopw [10] (fun iv wq => ∃ (i : Nat) (z : Int) (r : List Nat), iv = .int .i64 z ∧ z = (i : Int) - 1 ∧ i ≤ bits + 6 ∧ Hid (Arr .u64 107 wq hx x ∧ Arr .u64 107 wq hr r ∧ Eight r ∧ Below w.heap.size w wq ∧ rV k (valB 4294967296 x) i r = some R)) (fun iv _ => (intOf iv + 1).toNat)
      case atStart => exact ⟨bits + 6, _, zero8, by go_num, by push_cast; omega, Nat.le_refl _, HA3.out, HR3.out, eight_zero, HB3.out, HR.out⟩
      case round =>
        obtain ⟨i, z, r, rfl, hzi, hi, hI⟩ := hrel
        cases i with
        | zero =>
          have tz : decide ((0 : Int) ≤ z) = false := by simp; omega
          obtain rfl : r = R := by have := hI.out.2.2.2.2; exact Option.some.inj this
          have c0 := hI.out.2.1.cell 0 (by rw [hI.out.2.2.1.1]; decide)
          have c1 := hI.out.2.1.cell 1 (by rw [hI.out.2.2.1.1]; decide)
          have l0 : g0 r 0 < 4294967296 := g0_lt hI.out.2.2.1.2 (by decide) 0
          have l1 : g0 r 1 < 4294967296 := g0_lt hI.out.2.2.1.2 (by decide) 1
          have hv := HV.out
          change wr.cell? _ = some (.int .u64 ((g0 r 0 : Nat) : Int)) at c0
          change wr.cell? _ = some (.int .u64 ((g0 r 1 : Nat) : Int)) at c1
          generalize g0 r 0 = x0 at *
          generalize g0 r 1 = x1 at *
          have HBf := Lib.hid hI.out.2.2.2.1
          clear hI hzi hi
          rcases hb with hb | hb
          · have tb : ((bits : Int) == 32) = true := by rw [hb]; rfl
            obtain rfl : x0 = v := by rw [hb] at hv; exact hv
            clear hb hv
            go_wp2
            go_ret
            exact ⟨rfl, HBf.out⟩
          · have tb : ((bits : Int) == 32) = false := by rw [hb]; rfl
            have hv2 : x0 + 4294967296 * x1 = v := by rw [hb] at hv; exact hv
            obtain ⟨y1, hy⟩ : ∃ y, y = 4294967296 * x1 := ⟨_, rfl⟩
            have e1 : (4294967296 : Int) * (x1 : Int) = (y1 : Int) := by omega
            have e2 : (x0 : Int) + (y1 : Int) = (v : Int) := by omega
            have by1 : y1 < 18446744073709551616 := by omega
            have bv1 : v < 18446744073709551616 := by omega
            clear hb hv hv2 hy
            go_wp2
            go_ret
            exact ⟨rfl, HBf.out⟩
        | succ j =>
          obtain rfl : z = (j : Int) := by omega
          have hst := rV_step hI.out.2.2.2.2
          have HST := Lib.hid hst
          have HA := Lib.hid hI.out.1
          have HQ := Lib.hid hI.out.2.1
          have HE := Lib.hid hI.out.2.2.1
          have HB := Lib.hid hI.out.2.2.2.1
          have hnn : ¬ ((j : Int) < 0) := by omega
          clear hst hI hzi
          go_wp2_with (refine wpList_loadW rfl _ rfl hr r rfl HQ.out HE.out.1 ?_)
          refine (with_any r j _ HE.out rfl (by omega) wr).mono ?_
          rintro e w2 ⟨rfl, hb2⟩
          generalize hT : withN r j = T at *
          have HTE := Lib.hid hT.symm
          have HET := Lib.hid HST.out.1
          clear hT
          have HA := Lib.hid (HA.out.below hb2 HA.out.lt)
          have HQ := Lib.hid (HQ.out.below hb2 HQ.out.lt)
          have HB := Lib.hid (HB.out.trans (hb2.mono HB.out.size))
          clear hb2
          go_wp2_with (first | (refine wpList_storeW rfl _ _ rfl w2.heap.size zero8 T rfl rfl (Arr.new w2 _ zero8) rfl HET.out.1 ?_) | (refine wpList_loadW rfl _ rfl w2.heap.size T rfl (arr_fresh w2 _ zero8 T) HET.out.1 ?_))
          have HT := Lib.hid (show Arr .u64 107 ((w2.alloc (.cells (arrC .u64 [0, 0, 0, 0, 0, 0, 0, 0]) 107)).setRow w2.heap.size (arrC .u64 T)) w2.heap.size T from arr_fresh w2 _ _ T)
          have hf := Lib.hid (show hx ≠ w2.heap.size ∧ hr ≠ w2.heap.size from ⟨Nat.ne_of_lt HA.out.lt, Nat.ne_of_lt HQ.out.lt⟩)
          have HA := Lib.hid (HA.out.fresh (.cells (arrC .u64 [0, 0, 0, 0, 0, 0, 0, 0]) 107) (arrC .u64 T))
          have HQ := Lib.hid (HQ.out.fresh (.cells (arrC .u64 [0, 0, 0, 0, 0, 0, 0, 0]) 107) (arrC .u64 T))
          have HB := Lib.hid (below_fresh HB.out HB.out.size (.cells (arrC .u64 [0, 0, 0, 0, 0, 0, 0, 0]) 107) (arrC .u64 T))
          generalize (w2.alloc (.cells (arrC .u64 [0, 0, 0, 0, 0, 0, 0, 0]) 107)).setRow w2.heap.size (arrC .u64 T) = w3 at *
          generalize w2.heap.size = f at *
          refine (product_any T T HET.out HET.out w3).mono ?_
          rintro e w4 ⟨rfl, hb4⟩
          have HP8 := Lib.hid (productN_ok HET.out HET.out)
          generalize hP : productN T T = pp at *
          have HPP := Lib.hid hP.symm
          clear hP
          have HA := Lib.hid (HA.out.below hb4 HA.out.lt)
          have HQ := Lib.hid (HQ.out.below hb4 HQ.out.lt)
          have HT := Lib.hid (HT.out.below hb4 HT.out.lt)
          have HB := Lib.hid (HB.out.trans (hb4.mono HB.out.size))
          clear hb4
          rcases HK.out with hk | hk
          · have tk : ((k : Int) == 3) = false := by rw [hk]; rfl
            have HK2 := Lib.hid hk
            clear hk
            go_wp2_with (first | (refine wpList_storeW rfl _ _ rfl w4.heap.size zero8 pp rfl rfl (Arr.new w4 _ zero8) rfl HP8.out.1 ?_) | (refine wpList_loadW rfl _ rfl w4.heap.size pp rfl (arr_fresh w4 _ zero8 pp) HP8.out.1 ?_) | (refine wpList_loadW rfl _ rfl hx x rfl (HA.out.fresh _ _) HEX.out.1 ?_))
            have HP := Lib.hid (show Arr .u64 107 ((w4.alloc (.cells (arrC .u64 [0, 0, 0, 0, 0, 0, 0, 0]) 107)).setRow w4.heap.size (arrC .u64 pp)) w4.heap.size pp from arr_fresh w4 _ _ pp)
            have hg := Lib.hid (show hx ≠ w4.heap.size ∧ hr ≠ w4.heap.size ∧ f ≠ w4.heap.size ∧ w.heap.size ≤ w4.heap.size from ⟨Nat.ne_of_lt HA.out.lt, Nat.ne_of_lt HQ.out.lt, Nat.ne_of_lt HT.out.lt, HB.out.size⟩)
            have HA := Lib.hid (HA.out.fresh (.cells (arrC .u64 [0, 0, 0, 0, 0, 0, 0, 0]) 107) (arrC .u64 pp))
            have HQ := Lib.hid (HQ.out.fresh (.cells (arrC .u64 [0, 0, 0, 0, 0, 0, 0, 0]) 107) (arrC .u64 pp))
            have HT := Lib.hid (HT.out.fresh (.cells (arrC .u64 [0, 0, 0, 0, 0, 0, 0, 0]) 107) (arrC .u64 pp))
            have HB := Lib.hid (below_fresh HB.out HB.out.size (.cells (arrC .u64 [0, 0, 0, 0, 0, 0, 0, 0]) 107) (arrC .u64 pp))
            generalize (w4.alloc (.cells (arrC .u64 [0, 0, 0, 0, 0, 0, 0, 0]) 107)).setRow w4.heap.size (arrC .u64 pp) = w5 at *
            generalize w4.heap.size = g at *
            have HPW := Lib.hid (show pp = powN k T by rw [HK2.out]; exact HPP.out)
            have HP8 := Lib.hid (show Eight pp by rw [HPW.out]; exact powN_ok HET.out)
            refine (more_any pp x HP8.out.1 HEX.out.1 w5).mono ?_
            rintro e w6 ⟨rfl, hb6⟩
            have HT6 := Lib.hid (HT.out.below hb6 HT.out.lt)
            have HA6 := Lib.hid (HA.out.below hb6 HA.out.lt)
            have HQ6 := Lib.hid (HQ.out.below hb6 HQ.out.lt)
            have HB6 := Lib.hid (HB.out.trans (hb6.mono HB.out.size))
            have hab := above_val HK.out HET.out HEX.out
            rw [← HPW.out] at hab
            have hnx := HST.out.2
            rw [← hab] at hnx
            clear hb6 hab
            cases hmo : moreN pp x 8 with
            | true =>
              rw [hmo, cond_true] at hnx
              have HNX := Lib.hid hnx
              clear hnx hmo
              go_wp2
              go_roundw
              case rel => exact ⟨j, _, r, rfl, by go_num, by omega, HA6.out, HQ6.out, HE.out, HB6.out, HNX.out⟩
              case measure => simp [intOf] <;> omega
            | false =>
              rw [hmo, cond_false] at hnx
              have HNX := Lib.hid hnx
              clear hnx hmo
              go_wp2_with (first | (refine wpList_loadW rfl _ rfl f T rfl HT6.out HET.out.1 ?_) | (refine wpList_storeW rfl _ _ rfl hr r T rfl rfl HQ6.out HE.out.1 HET.out.1 ?_))
              go_roundw
              case rel => exact ⟨j, _, T, rfl, by go_num, by omega, HA6.out.beside _ _ hne.out, HQ6.out.laid _, HET.out, below_setRow HB6.out _ _ hrw.out HB6.out.size, HNX.out⟩
              case measure => simp [intOf] <;> omega
          · have tk : ((k : Int) == 3) = true := by rw [hk]; rfl
            have HK2 := Lib.hid hk
            clear hk
            go_wp2_with (first | (refine wpList_storeW rfl _ _ rfl w4.heap.size zero8 pp rfl rfl (Arr.new w4 _ zero8) rfl HP8.out.1 ?_) | (refine wpList_loadW rfl _ rfl w4.heap.size pp rfl (arr_fresh w4 _ zero8 pp) HP8.out.1 ?_) | (refine wpList_loadW rfl _ rfl f T rfl (HT.out.fresh _ _) HET.out.1 ?_))
            have HP := Lib.hid (show Arr .u64 107 ((w4.alloc (.cells (arrC .u64 [0, 0, 0, 0, 0, 0, 0, 0]) 107)).setRow w4.heap.size (arrC .u64 pp)) w4.heap.size pp from arr_fresh w4 _ _ pp)
            have hg := Lib.hid (show hx ≠ w4.heap.size ∧ hr ≠ w4.heap.size ∧ f ≠ w4.heap.size ∧ w.heap.size ≤ w4.heap.size from ⟨Nat.ne_of_lt HA.out.lt, Nat.ne_of_lt HQ.out.lt, Nat.ne_of_lt HT.out.lt, HB.out.size⟩)
            have HA := Lib.hid (HA.out.fresh (.cells (arrC .u64 [0, 0, 0, 0, 0, 0, 0, 0]) 107) (arrC .u64 pp))
            have HQ := Lib.hid (HQ.out.fresh (.cells (arrC .u64 [0, 0, 0, 0, 0, 0, 0, 0]) 107) (arrC .u64 pp))
            have HT := Lib.hid (HT.out.fresh (.cells (arrC .u64 [0, 0, 0, 0, 0, 0, 0, 0]) 107) (arrC .u64 pp))
            have HB := Lib.hid (below_fresh HB.out HB.out.size (.cells (arrC .u64 [0, 0, 0, 0, 0, 0, 0, 0]) 107) (arrC .u64 pp))
            generalize (w4.alloc (.cells (arrC .u64 [0, 0, 0, 0, 0, 0, 0, 0]) 107)).setRow w4.heap.size (arrC .u64 pp) = w5 at *
            generalize w4.heap.size = g at *
            refine (product_any pp T HP8.out HET.out w5).mono ?_
            rintro e w7 ⟨rfl, hb7⟩
            have HA := Lib.hid (HA.out.below hb7 HA.out.lt)
            have HQ := Lib.hid (HQ.out.below hb7 HQ.out.lt)
            have HT := Lib.hid (HT.out.below hb7 HT.out.lt)
            have HP := Lib.hid (HP.out.below hb7 HP.out.lt)
            have HB := Lib.hid (HB.out.trans (hb7.mono HB.out.size))
            have HP9 := Lib.hid (productN_ok HP8.out HET.out)
            generalize hP : productN pp T = pw at *
            have HPP := Lib.hid (show pw = productN (productN T T) T by rw [← HPP.out]; exact hP.symm)
            clear hP hb7
            go_wp2_with (first | (refine wpList_storeW rfl _ _ rfl g pp pw rfl rfl HP.out HP8.out.1 HP9.out.1 ?_) | (refine wpList_loadW rfl _ rfl g pw rfl (HP.out.laid pw) HP9.out.1 ?_) | (refine wpList_loadW rfl _ rfl hx x rfl (HA.out.beside _ _ hg.out.1) HEX.out.1 ?_))
            have HA := Lib.hid (HA.out.beside g (arrC .u64 pw) hg.out.1)
            have HQ := Lib.hid (HQ.out.beside g (arrC .u64 pw) hg.out.2.1)
            have HT := Lib.hid (HT.out.beside g (arrC .u64 pw) hg.out.2.2.1)
            have HB := Lib.hid (below_setRow HB.out g (arrC .u64 pw) hg.out.2.2.2 HB.out.size)
            generalize w7.setRow g (arrC .u64 pw) = w8 at *
            have HPW := Lib.hid (show pw = powN k T by rw [HK2.out]; exact HPP.out)
            have HP8 := Lib.hid (show Eight pw by rw [HPW.out]; exact powN_ok HET.out)
            refine (more_any pw x HP8.out.1 HEX.out.1 w8).mono ?_
            rintro e w6 ⟨rfl, hb6⟩
            have HT6 := Lib.hid (HT.out.below hb6 HT.out.lt)
            have HA6 := Lib.hid (HA.out.below hb6 HA.out.lt)
            have HQ6 := Lib.hid (HQ.out.below hb6 HQ.out.lt)
            have HB6 := Lib.hid (HB.out.trans (hb6.mono HB.out.size))
            have hab := above_val HK.out HET.out HEX.out
            rw [← HPW.out] at hab
            have hnx := HST.out.2
            rw [← hab] at hnx
            clear hb6 hab
            cases hmo : moreN pw x 8 with
            | true =>
              rw [hmo, cond_true] at hnx
              have HNX := Lib.hid hnx
              clear hnx hmo
              go_wp2
              go_roundw
              case rel => exact ⟨j, _, r, rfl, by go_num, by omega, HA6.out, HQ6.out, HE.out, HB6.out, HNX.out⟩
              case measure => simp [intOf] <;> omega
            | false =>
              rw [hmo, cond_false] at hnx
              have HNX := Lib.hid hnx
              clear hnx hmo
              go_wp2_with (first | (refine wpList_loadW rfl _ rfl f T rfl HT6.out HET.out.1 ?_) | (refine wpList_storeW rfl _ _ rfl hr r T rfl rfl HQ6.out HE.out.1 HET.out.1 ?_))
              go_roundw
              case rel => exact ⟨j, _, T, rfl, by go_num, by omega, HA6.out.beside _ _ hne.out, HQ6.out.laid _, HET.out, below_setRow HB6.out _ _ hrw.out HB6.out.size, HNX.out⟩
              case measure => simp [intOf] <;> omega

end Go.Proofs.YtmfjhgjplmpecaaDoor

namespace Go.Proofs.YtmfjhgjplmpecaaDoor
open Go.RowKit Go.Shelf

/-- A number's last bytes, the highest one first. -/
def lbN (N : Nat) : Nat → List Nat
  | 0 => []
  | i + 1 => N / 256 ^ i % 256 :: lbN N i
theorem lbN_len (N : Nat) : ∀ i, (lbN N i).length = i
  | 0 => rfl
  | i + 1 => by rw [lbN, List.length_cons, lbN_len N i]
def lenV : Value → Nat
  | .slice _ m _ => m
  | _ => 0
theorem own_sl {q : IntKind} {E B : Nat} {w : World} {v : Value} {l : List Nat} (h : OwnQ q E B w v l) : ∃ a n cap, v = .slice a n cap ∧ n = l.length ∧ OwnQ q E B w (.slice a n cap) l := by
  obtain ⟨a, c, rfl, -, -⟩ := h.form
  exact ⟨a, _, c, rfl, rfl, h⟩
/-- A message, filled up. -/
def fillN (bl : List Nat) : List Nat := bl ++ [128] ++ List.replicate ((64 - (bl.length + 1 + 8) % 64) % 64) 0 ++ lbN (8 * bl.length) 8
theorem fillN_len (bl : List Nat) : (fillN bl).length = bl.length + 1 + (64 - (bl.length + 1 + 8) % 64) % 64 + 8 := by
  unfold fillN
  rw [List.length_append, List.length_append, List.length_append, List.length_replicate, lbN_len]
  rfl
theorem fillN_ne (bl : List Nat) : fillN bl ≠ [] := fun e => by
  have := fillN_len bl
  rw [e, List.length_nil] at this
  omega
theorem fillN_blocks (bl : List Nat) : ∃ q, (fillN bl).length = 64 * q ∧ 0 < q := ⟨(fillN bl).length / 64, by rw [fillN_len]; omega, by rw [fillN_len]; omega⟩
theorem lbN_lt (N : Nat) : ∀ i, ∀ x ∈ lbN N i, x < 256
  | 0 => fun x hx => by cases hx
  | i + 1 => fun x hx => by
    rcases List.mem_cons.1 hx with h | h
    · rw [h]
      exact Nat.mod_lt _ (by decide)
    · exact lbN_lt N i x h
theorem fillN_lt {bl : List Nat} (h : ∀ x ∈ bl, x < 256) : ∀ x ∈ fillN bl, x < 256 := fun x hx => by
  unfold fillN at hx
  simp only [List.mem_append, List.mem_singleton] at hx
  rcases hx with ((hx | hx) | hx) | hx
  · exact h x hx
  · omega
  · have := List.eq_of_mem_replicate hx
    omega
  · exact lbN_lt _ _ x hx
set_option maxRecDepth 1000000 in
set_option maxHeartbeats 2000000 in
theorem fill_any (a : Option Addr) (n c : Nat) (bl : List Nat) (w : World) (hr : Reads .u8 w a n c bl) (hn : n ≤ 10000) :
    Calls Tryd.prog 39 #[.slice a n c, .int .i64 64, .int .i64 8] w fun e w' => (∃ v, e = .returned v ∧ OwnQ .u8 5 w.heap.size w' v (fillN bl)) ∧ Below w.heap.size w w' := by
  obtain ⟨i0, hi, hz0, hz1, hz2'⟩ := info_parts infoB
  have HR := Lib.hid hr
  have HLN := Lib.hid hr.length
  obtain ⟨k, hk⟩ : ∃ k, k = (64 - (n + 1 + 8) % 64) % 64 := ⟨_, rfl⟩
  obtain ⟨N, hN⟩ : ∃ N, N = 8 * n := ⟨_, rfl⟩
  have hNi : (8 : Int) * (n : Int) = (N : Int) := by omega
  have hNb : N ≤ 80000 := by omega
  have hkb : k < 64 := by omega
  have HK := Lib.hid hk
  have HN := Lib.hid hN
  clear hr hk hN
  go_enter Tryd.func39, Tryd.ntmps39
  go_wp2_with (at_builtin; first
    | (refine wpList_append_q .u8 _ rfl _ _ 23 rfl w.heap.size 5 1 i0 Tryd.underlying23 hi hz0 hz1 hz2' (by decide) _ [] rfl (OwnQ.nil _ _ _ _) a n c bl rfl HR.out (by simp; omega) (Nat.le_refl _) ?_; intro v1 w1 hown1 hgrow1; rw [List.nil_append] at hown1; have HO1 := Lib.hid hown1; have HB1 := Lib.hid (hgrow1 _ (Below.refl _ _)); clear hown1 hgrow1)
    | (refine wpList_append_q .u8 _ rfl _ _ 23 rfl w.heap.size 5 1 i0 Tryd.underlying23 hi hz0 hz1 hz2' (by decide) _ bl rfl (HO1.out.alloc _) _ _ _ [128] rfl (Reads.one .u8 _ _ _ _ rfl) (by rw [HLN.out]; omega) (by have := HB1.out.size; simp; omega) ?_; intro v2 w2 hown2 hgrow2; have HO2 := Lib.hid hown2; have HB2 := Lib.hid (hgrow2 _ (HB1.out.alloc HB1.out.size _)); clear hown2 hgrow2))
  obtain ⟨a3, n3, c3, rfl, hn3, ho3⟩ := own_sl HO2.out
  rw [List.length_append, HLN.out] at hn3
  have HO3 := Lib.hid ho3
  have HN3 := Lib.hid hn3
  have hn3b : n3 ≤ 10001 := by rw [hn3]; simp; omega
  clear HO2 ho3 hn3
  go_loopw [7] (fun sv wq => ∃ (j m c' : Nat) (a' : Option Addr), sv = .slice a' m c' ∧ m ≤ 11000 ∧ j ≤ k ∧ Hid (m = n + 1 + j ∧ OwnQ .u8 5 w.heap.size wq (.slice a' m c') (bl ++ [128] ++ List.replicate j 0) ∧ Below w.heap.size w wq)) (fun sv _ => n + 1 + k - lenV sv)
  case atStart => exact ⟨0, n3, c3, a3, rfl, by omega, Nat.zero_le _, HN3.out, by rw [List.replicate_zero, List.append_nil]; exact HO3.out, HB2.out⟩
  case round =>
    obtain ⟨j, m, c', a', rfl, hm, hj, hI⟩ := hrel
    obtain ⟨r, hr⟩ : ∃ r, r = (m + 8) % 64 := ⟨_, rfl⟩
    have hri : Int.tmod ((m : Int) + 8) 64 = (r : Int) := by
      rw [Int.tmod_eq_emod_of_nonneg (by omega)]
      omega
    by_cases hlt : j < k
    · have hrn : ((r : Int) != 0) = true := by
        have h1 := hI.out.1
        have h2 := HK.out
        simp
        omega
      have hm2 : m ≤ 10001 + 64 := by have h1 := hI.out.1; omega
      clear hr
      go_wp2_with (at_builtin; refine wpList_append_q .u8 _ rfl _ _ 23 rfl w.heap.size 5 1 i0 Tryd.underlying23 hi hz0 hz1 hz2' (by decide) _ (bl ++ [128] ++ List.replicate j 0) rfl (hI.out.2.1.alloc _) _ _ _ [0] rfl (Reads.one .u8 _ _ _ _ rfl) (by rw [List.length_append, List.length_append, HLN.out, List.length_replicate]; simp; omega) (by have := hI.out.2.2.size; simp; omega) ?_; intro v4 w4 hown4 hgrow4; obtain ⟨a5, n5, c5, rfl, hn5, ho5⟩ := own_sl hown4; have HO5 := Lib.hid ho5; have HN5 := Lib.hid hn5; have HB5 := Lib.hid (hgrow4 _ (hI.out.2.2.alloc hI.out.2.2.size _)); clear hown4 hgrow4 hn5 ho5)
      have hn6 : n5 = n + 1 + (j + 1) := by rw [HN5.out, List.length_append, List.length_append, List.length_append, HLN.out, List.length_replicate]; simp; omega
      go_roundw
      case rel => exact ⟨j + 1, n5, c5, a5, rfl, by omega, by omega, hn6, by
        have h := HO5.out
        rw [List.append_assoc, ← List.replicate_succ'] at h
        exact h, HB5.out⟩
      case measure =>
        have h1 := hI.out.1
        simp [lenV]
        omega
    · obtain rfl : j = k := by omega
      have hrn : ((r : Int) != 0) = false := by
        have h1 := hI.out.1
        have h2 := HK.out
        simp
        omega
      have HOF := Lib.hid hI.out.2.1
      have HBF := Lib.hid hI.out.2.2
      clear hI hr
      have hnb : (n : Int) < 18446744073709551616 := by omega
      go_wp2_with fail
      clear hNi hri hrn hnb hj hlt
      go_loopw [8, 9, 10] (fun xv lv iv wq => ∃ (i x c9 : Nat) (a9 : Option Addr), xv = .int .u64 (x : Int) ∧ lv = .slice a9 i c9 ∧ iv = .int .i64 (i : Int) ∧ i ≤ 8 ∧ x ≤ 80000 ∧ Hid (x = N / 256 ^ i ∧ OwnQ .u8 5 w.heap.size wq (.slice a9 i c9) (lbN N i) ∧ OwnQ .u8 5 w.heap.size wq (.slice a' m c') (bl ++ [128] ++ List.replicate j 0) ∧ Below w.heap.size w wq)) (fun _ _ iv _ => 8 - (intOf iv).toNat)
      case atStart => exact ⟨0, N, 0, none, rfl, rfl, rfl, by decide, hNb, by simp, OwnQ.nil _ _ _ _, HOF.out, HBF.out⟩
      case round =>
        obtain ⟨i, x, c9, a9, rfl, rfl, rfl, hi9, hx9, hI⟩ := hrel
        by_cases hlt2 : i < 8
        · obtain ⟨y, hy⟩ : ∃ y, y = x % 256 := ⟨_, rfl⟩
          obtain ⟨z, hz⟩ : ∃ z, z = x / 256 := ⟨_, rfl⟩
          have hyi : (x : Int) % 256 = (y : Int) := by omega
          have hzi : (x : Int) / 256 = (z : Int) := by omega
          have hyw : IntKind.u8.wrap (y : Int) = (y : Int) := by simp [IntKind.wrap, IntKind.bits, IntKind.signed]; omega
          have hy2 : y < 256 := by omega
          have hz2 : z ≤ 80000 := by omega
          have HY := Lib.hid (show lbN N (i + 1) = [y] ++ lbN N i by rw [lbN, ← hI.out.1, ← hy]; rfl)
          have HZ := Lib.hid (show z = N / 256 ^ (i + 1) by rw [hz, hI.out.1, Nat.pow_succ, Nat.div_div_eq_div_mul])
          clear hy hz
          go_wp2_with (at_builtin; refine wpList_append_q .u8 _ rfl _ _ 23 rfl wr.heap.size 5 1 i0 Tryd.underlying23 hi hz0 hz1 hz2' (by decide) _ [y] rfl (World.ownsRow_lit wr #[.int .u8 (y : Int)] 1 (Nat.le_refl _) (by unfold maxLen; omega) rfl) a9 i c9 (lbN N i) rfl (hI.out.2.1.reads.below ((Below.refl _ _).alloc (Nat.le_refl _) _)) (by simp; omega) (by simp) ?_; intro v4 w4 hown4 hgrow4; have HB4 := Lib.hid (hgrow4 wr ((Below.refl _ _).alloc (Nat.le_refl _) _)); obtain ⟨a5, n5, c5, rfl, hn5, ho5⟩ := own_sl hown4; have HO5 := Lib.hid (ho5.mono hI.out.2.2.2.size); have hn6 : n5 = i + 1 := (by rw [hn5]; simp [lbN_len]); clear hown4 hgrow4 hn5 ho5)
          subst hn6
          go_roundw
          case rel => exact ⟨i + 1, z, c5, a5, rfl, rfl, by go_num, by omega, hz2, HZ.out, by rw [HY.out]; exact HO5.out, hI.out.2.2.1.below HB4.out, hI.out.2.2.2.trans (HB4.out.mono hI.out.2.2.2.size)⟩
          case measure => simp [intOf] <;> omega
        · have hiL : i = 8 := by omega
          have HF := Lib.hid (show bl ++ [128] ++ List.replicate j 0 ++ lbN N i = fillN bl by
            unfold fillN
            rw [hiL, HLN.out, ← HK.out, ← HN.out])
          have tL : decide ((i : Int) < 8) = false := by simp; omega
          have hmb : (bl ++ [128] ++ List.replicate j 0).length + i ≤ 20000 := by rw [List.length_append, List.length_append, HLN.out, List.length_replicate]; simp; omega
          clear hiL hlt2 hi9
          go_wp2_with (at_builtin; refine wpList_append_q .u8 _ rfl _ _ 23 rfl w.heap.size 5 1 i0 Tryd.underlying23 hi hz0 hz1 hz2' (by decide) _ (bl ++ [128] ++ List.replicate j 0) rfl hI.out.2.2.1 a9 i c9 (lbN N i) rfl hI.out.2.1.reads (by omega) hI.out.2.2.2.size ?_; intro v6 w6 hown6 hgrow6; have HO6 := Lib.hid hown6; have HB6 := Lib.hid (hgrow6 _ hI.out.2.2.2); clear hown6 hgrow6)
          go_ret
          exact ⟨⟨_, rfl, by rw [← HF.out]; exact HO6.out⟩, HB6.out⟩

end Go.Proofs.YtmfjhgjplmpecaaDoor

namespace Go.Proofs.YtmfjhgjplmpecaaDoor
open Go.RowKit

def PrimeN (n : Nat) : Prop := 2 ≤ n ∧ ∀ d, 2 ≤ d → d * d ≤ n → n % d ≠ 0

/-- Is there no divisor from d on, among k numbers? -/
def noDiv (n : Nat) : Nat → Nat → Bool
  | 0, _ => true
  | k + 1, d => if n < d * d then true else if n % d = 0 then false else noDiv n k (d + 1)
def isPrime (n : Nat) : Bool := decide (2 ≤ n) && noDiv n n 2
theorem noDiv_iff (n : Nat) : ∀ k d : Nat, noDiv n k d = true ↔ ∀ e, d ≤ e → e < d + k → e * e ≤ n → n % e ≠ 0 := by
  intro k
  induction k with
  | zero => exact fun d => ⟨fun _ e h1 h2 => by omega, fun _ => rfl⟩
  | succ k ih =>
    intro d
    unfold noDiv
    by_cases h1 : n < d * d
    · rw [if_pos h1]
      refine ⟨fun _ e he _ hee => ?_, fun _ => rfl⟩
      have := Nat.mul_le_mul he he
      omega
    · rw [if_neg h1]
      by_cases h2 : n % d = 0
      · rw [if_pos h2]
        exact ⟨fun h => (by cases h), fun h => absurd h2 (h d (Nat.le_refl _) (by omega) (by omega))⟩
      · rw [if_neg h2, ih]
        refine ⟨fun h e he hk hee => ?_, fun h e he hk hee => h e (by omega) (by omega) hee⟩
        rcases Nat.eq_or_lt_of_le he with rfl | hlt
        · exact h2
        · exact h e hlt (by omega) hee
theorem isPrime_iff (n : Nat) : isPrime n = true ↔ PrimeN n := by
  unfold isPrime PrimeN
  rw [Bool.and_eq_true, decide_eq_true_iff, noDiv_iff]
  refine ⟨fun ⟨a, h⟩ => ⟨a, fun d hd hdd => h d hd ?_ hdd⟩, fun ⟨a, h⟩ => ⟨a, fun d hd _ hdd => h d hd hdd⟩⟩
  have : d * 1 ≤ d * d := Nat.mul_le_mul_left _ (by omega)
  omega

theorem prime_div (n : Nat) : ∀ d, 2 ≤ d → d * d ≤ n → n % d = 0 → ∃ p, PrimeN p ∧ p * p ≤ n ∧ n % p = 0 := by
  intro d
  induction d using Nat.strongRecOn with
  | _ d ih =>
    intro h2 hd hm
    by_cases hp : PrimeN d
    · exact ⟨d, hp, hd, hm⟩
    · obtain ⟨e, he2, hee, hem⟩ : ∃ e, 2 ≤ e ∧ e * e ≤ d ∧ d % e = 0 := by
        refine Classical.byContradiction fun hc => hp ⟨h2, fun e h1 h3 h4 => hc ⟨e, h1, h3, h4⟩⟩
      have hlt : e < d := by
        have : e * 2 ≤ e * e := Nat.mul_le_mul_left _ he2
        omega
      refine ih e hlt he2 ?_ ?_
      · have : d * 1 ≤ d * d := Nat.mul_le_mul_left _ (by omega)
        omega
      · exact Nat.mod_eq_zero_of_dvd (Nat.dvd_trans (Nat.dvd_of_mod_eq_zero hem) (Nat.dvd_of_mod_eq_zero hm))
theorem not_prime {n : Nat} (h2 : 2 ≤ n) (h : ¬ PrimeN n) : ∃ p, PrimeN p ∧ p * p ≤ n ∧ n % p = 0 := by
  obtain ⟨e, he2, hee, hem⟩ : ∃ e, 2 ≤ e ∧ e * e ≤ n ∧ n % e = 0 := by
    refine Classical.byContradiction fun hc => h ⟨h2, fun e h1 h3 h4 => hc ⟨e, h1, h3, h4⟩⟩
  exact prime_div n e he2 hee hem

/-- A mark that is right ahead of the number n. -/
def MarkOk (n : Nat) (x : Nat × Nat) : Prop := PrimeN x.2 ∧ x.2 < n ∧ n ≤ x.1 ∧ x.2 * x.2 ≤ x.1 ∧ x.1 % x.2 = 0 ∧ (x.1 = x.2 * x.2 ∨ x.1 < n + x.2)
theorem MarkOk.stay {n : Nat} {x : Nat × Nat} (h : MarkOk n x) (hx : n < x.1) : MarkOk (n + 1) x := by
  obtain ⟨h1, h2, h3, h4, h5, h6⟩ := h
  exact ⟨h1, by omega, hx, h4, h5, h6.imp id (by omega)⟩
theorem MarkOk.move {n : Nat} {x : Nat × Nat} (h : MarkOk n x) (hx : x.1 = n) : MarkOk (n + 1) (x.1 + x.2, x.2) := by
  obtain ⟨h1, h2, h3, h4, h5, h6⟩ := h
  have := h1.1
  exact ⟨h1, by omega, by simp; omega, by simp; omega, by simp [h5], .inr (by simp; omega)⟩
theorem MarkOk.new {n : Nat} (h : PrimeN n) : MarkOk (n + 1) (n * n, n) := by
  have h1 := h.1
  have : n * 2 ≤ n * n := Nat.mul_le_mul_left _ h1
  exact ⟨h, by simp, by simp; omega, by simp, by simp, .inl rfl⟩
/-- All that is marked ahead of n. -/
def MarksOk (n : Nat) (L : List (Nat × Nat)) : Prop := (∀ x ∈ L, MarkOk n x) ∧ ∀ p, PrimeN p → p < n → ∃ a, (a, p) ∈ L
theorem MarksOk.hit {n : Nat} {L : List (Nat × Nat)} (h : MarksOk n L) (h2 : 2 ≤ n) : PrimeN n ↔ ∀ x ∈ L, x.1 ≠ n := by
  constructor
  · intro hp x hx e
    obtain ⟨h1, h3, _, h4, h5, _⟩ := h.1 x hx
    rw [e] at h4 h5
    exact hp.2 x.2 h1.1 h4 h5
  · intro hx
    refine Classical.byContradiction fun hp => ?_
    obtain ⟨p, h1, h3, h4⟩ := not_prime h2 hp
    have hlt : p < n := by
      have : p * 2 ≤ p * p := Nat.mul_le_mul_left _ h1.1
      have := h1.1
      omega
    obtain ⟨a, ha⟩ := h.2 p h1 hlt
    obtain ⟨_, _, g1, g2, g3, g4⟩ := h.1 _ ha
    refine hx _ ha ?_
    rcases g4 with g4 | g4
    · simp only at *; omega
    · simp only at *
      have e1 := Nat.div_add_mod a p
      have e2 := Nat.div_add_mod n p
      rw [g3] at e1
      rw [h4] at e2
      have hle : n / p ≤ a / p := Nat.div_le_div_right g1
      rcases Nat.eq_or_lt_of_le hle with e | hl
      · rw [e] at e2; omega
      · have : p * (n / p + 1) ≤ p * (a / p) := Nat.mul_le_mul_left _ hl
        rw [Nat.mul_add, Nat.mul_one] at this
        omega

/-- The primes below a number, and how many they are. -/
def primesTo (n : Nat) : List Nat := (List.range n).filter isPrime
theorem primesTo_succ (n : Nat) : primesTo (n + 1) = if isPrime n = true then primesTo n ++ [n] else primesTo n := by
  unfold primesTo
  rw [List.range_succ, List.filter_append]
  by_cases h : isPrime n = true
  · rw [if_pos h, List.filter_cons_of_pos h]; rfl
  · rw [if_neg h, List.filter_cons_of_neg h]; simp
theorem primesTo_mono (n : Nat) : ∀ k, ∃ t, primesTo (n + k) = primesTo n ++ t := by
  intro k
  induction k with
  | zero => exact ⟨[], by simp⟩
  | succ k ih =>
    obtain ⟨t, ht⟩ := ih
    rw [← Nat.add_assoc, primesTo_succ]
    split
    · exact ⟨t ++ [n + k], by rw [ht, List.append_assoc]⟩
    · exact ⟨t, ht⟩
theorem primesTo_take {n m : Nat} (h : n ≤ m) : (primesTo m).take (primesTo n).length = primesTo n := by
  obtain ⟨t, ht⟩ := primesTo_mono n (m - n)
  rw [show n + (m - n) = m by omega] at ht
  rw [ht, List.take_left']
  rfl
theorem primesTo_len {n m : Nat} (h : n ≤ m) : (primesTo n).length ≤ (primesTo m).length := by
  obtain ⟨t, ht⟩ := primesTo_mono n (m - n)
  rw [show n + (m - n) = m by omega] at ht
  rw [ht, List.length_append]
  omega

/-- How many primes there are among k numbers from n on, counted on from c. -/
def countP : Nat → Nat → Nat → Nat
  | 0, _, c => c
  | k + 1, n, c => match isPrime n with
    | true => countP k (n + 1) (c + 1)
    | false => countP k (n + 1) c
theorem countP_eq : ∀ k n, countP k n (primesTo n).length = (primesTo (n + k)).length := by
  intro k
  induction k with
  | zero => exact fun n => rfl
  | succ k ih =>
    intro n
    have e := primesTo_succ n
    unfold countP
    cases h : isPrime n with
    | true =>
      rw [if_pos h] at e
      show countP k (n + 1) ((primesTo n).length + 1) = _
      rw [show (primesTo n).length + 1 = (primesTo (n + 1)).length by rw [e]; simp, ih, show n + 1 + k = n + (k + 1) by omega]
    | false =>
      rw [if_neg (by rw [h]; decide)] at e
      show countP k (n + 1) (primesTo n).length = _
      rw [← e, ih, show n + 1 + k = n + (k + 1) by omega]
theorem count_step (n k c d m : Nat) (hm : m = n + k) (h : (primesTo n).length = c) (e : countP k n c = d) : (primesTo m).length = d := by
  subst hm
  rw [← countP_eq, h, e]
theorem thousand : (primesTo 7920).length = 1000 := by
  have h0 : (primesTo 0).length = 0 := rfl
  have h1 := count_step 0 990 0 _ 990 rfl h0 rfl
  have h2 := count_step 990 990 _ _ 1980 rfl h1 rfl
  have h3 := count_step 1980 990 _ _ 2970 rfl h2 rfl
  have h4 := count_step 2970 990 _ _ 3960 rfl h3 rfl
  have h5 := count_step 3960 990 _ _ 4950 rfl h4 rfl
  have h6 := count_step 4950 990 _ _ 5940 rfl h5 rfl
  have h7 := count_step 5940 990 _ _ 6930 rfl h6 rfl
  exact count_step 6930 990 _ 1000 7920 rfl h7 (by kernel_rfl)

end Go.Proofs.YtmfjhgjplmpecaaDoor

namespace Go.Proofs.YtmfjhgjplmpecaaDoor
open Go.RowKit

theorem div_le {p d : Nat} (hp : p < 100000) (h : ∀ e, 2 ≤ e → e < d → e * e ≤ p) : d ≤ 317 := by
  rcases Nat.lt_or_ge 317 d with hd | hd
  · have := h 317 (by decide) hd
    omega
  · exact hd
theorem div_next {p d : Nat} (h : ∀ e, 2 ≤ e → e < d → e * e ≤ p) (hd : d * d ≤ p) : ∀ e, 2 ≤ e → e < d + 1 → e * e ≤ p := fun e h1 h2 => by
  rcases Nat.lt_or_ge e d with h3 | h3
  · exact h e h1 h3
  · obtain rfl : e = d := by omega
    exact hd
theorem div_more {p d : Nat} (h : ∀ e, 2 ≤ e → e < d → p % e ≠ 0) (hd : p % d ≠ 0) : ∀ e, 2 ≤ e → e < d + 1 → p % e ≠ 0 := fun e h1 h2 => by
  rcases Nat.lt_or_ge e d with h3 | h3
  · exact h e h1 h3
  · obtain rfl : e = d := by omega
    exact hd
theorem prime_end {p d : Nat} (hp : 2 ≤ p) (h : ∀ e, 2 ≤ e → e < d → p % e ≠ 0) (hd : p < d * d) : isPrime p = true :=
  (isPrime_iff p).2 ⟨hp, fun e h1 h2 => h e h1 (by
    rcases Nat.lt_or_ge e d with h3 | h3
    · exact h3
    · have := Nat.mul_le_mul h3 h3
      omega)⟩
theorem prime_not {p d : Nat} (h2 : 2 ≤ d) (hd : d * d ≤ p) (h : p % d = 0) : isPrime p = false := by
  cases hi : isPrime p with
  | false => rfl
  | true => exact absurd h (((isPrime_iff p).1 hi).2 d h2 hd)

set_option maxHeartbeats 1000000 in
theorem prime_any (p : Nat) (w : World) (h2 : 2 ≤ p) (hp : p < 100000) (r : Bool) (hr : r = isPrime p) :
    Calls Tryd.prog 60 #[.int .i64 (p : Int)] w fun e w' => e = .returned (.bool r) ∧ w = w' := by
  have HR := Lib.hid hr
  clear hr
  go_enter Tryd.func60, Tryd.ntmps60
  go_wp2
  go_loop [3] (fun dv => ∃ d : Nat, dv = .int .i64 (d : Int) ∧ 2 ≤ d ∧ d ≤ 317 ∧ Hid ((∀ e, 2 ≤ e → e < d → e * e ≤ p) ∧ ∀ e, 2 ≤ e → e < d → p % e ≠ 0)) (fun dv => 400 - (intOf dv).toNat)
  case atStart => exact ⟨2, rfl, Nat.le_refl _, by decide, fun e h1 h2 => by omega, fun e h1 h2 => by omega⟩
  case round =>
    obtain ⟨d, rfl, hd2, hd3, hI⟩ := hrel
    obtain ⟨s, hs⟩ : ∃ s, s = d * d := ⟨_, rfl⟩
    have hcast : (d : Int) * (d : Int) = (s : Int) := by rw [hs, Int.natCast_mul]
    have hsb : s < 200000 := by
      rw [hs]
      exact Nat.lt_of_le_of_lt (Nat.mul_le_mul hd3 hd3) (by decide)
    have HS := Lib.hid hs
    clear hs
    rcases Nat.lt_or_ge p s with hlt | hge
    · have HE := Lib.hid (prime_end h2 hI.out.2 (HS.out ▸ hlt))
      go_wp2
      all_goals go_ret
      all_goals exact ⟨by rw [HR.out, HE.out]; rfl, rfl⟩
    · have HG := Lib.hid (show d * d ≤ p from HS.out ▸ hge)
      by_cases hm : p % d = 0
      · have HE := Lib.hid (prime_not hd2 HG.out hm)
        have t1 : ((p : Int) % (d : Int) == 0) = true := by rw [← Int.natCast_emod, hm]; rfl
        clear hm
        go_wp2
        all_goals go_ret
        all_goals exact ⟨by rw [HR.out, HE.out]; rfl, rfl⟩
      · have HM := Lib.hid hm
        have t1 : ((p : Int) % (d : Int) == 0) = false := by rw [← Int.natCast_emod]; simp; omega
        clear hm
        have HN := Lib.hid (div_next hI.out.1 HG.out)
        have HL := Lib.hid (div_le hp HN.out)
        go_wp2
        all_goals go_round
        case rel => exact ⟨d + 1, by go_num, by omega, HL.out, HN.out, div_more hI.out.2 HM.out⟩
        case measure => simp [intOf]; omega


def primesL : List Nat := [2,3,5,7,11,13,17,19,23,29,31,37,41,43,47,53,59,61,67,71,73,79,83,89,97,101,103,107,109,113,127,131,137,139,149,151,157,163,167,173,179,181,191,193,197,199,211,223,227,229,233,239,241,251,257,263,269,271,277,281,283,293,307,311]
theorem primesL_eq : primesTo 312 = primesL := eq_of_eqM (by kernel_rfl)
theorem primesL_len : primesL.length = 64 := rfl
theorem few_le {k : Nat} (h : (primesTo k).length < 64) : k < 312 := by
  rcases Nat.lt_or_ge k 312 with hk | hk
  · exact hk
  · have := primesTo_len hk
    rw [primesL_eq, primesL_len] at this
    omega
theorem infoI' : (Tryd.prog.info? 3).map (fun i => (i.zero, i.size, i.bytes)) = some (some (.int .i64 0), 1, 8) := by kernel_rfl
set_option maxRecDepth 100000 in
set_option maxHeartbeats 2000000 in
theorem first_any (w : World) :
    Calls Tryd.prog 37 #[.int .i64 64] w fun e w' => (∃ v, e = .returned (.tuple #[v, .int .i64 0]) ∧ OwnQ .i64 3 w.heap.size w' v primesL) ∧ Below w.heap.size w w' := by
  obtain ⟨i0, hi, hz0, hz1, hz2⟩ := info_parts infoI'
  go_enter Tryd.func37, Tryd.ntmps37
  go_wp2
  go_loopw [4, 5] (fun lv kv wr => ∃ (k m c : Nat) (a : Option Addr), lv = .slice a m c ∧ kv = .int .i64 (k : Int) ∧ 2 ≤ k ∧ k ≤ 312 ∧ m ≤ 64 ∧ Hid (OwnQ .i64 3 w.heap.size wr (.slice a m c) (primesTo k) ∧ m = (primesTo k).length ∧ Below w.heap.size w wr)) (fun _ kv _ => 9000 - (intOf kv).toNat)
  case atStart => exact ⟨2, 0, 0, none, rfl, rfl, Nat.le_refl _, by decide, Nat.zero_le _, OwnQ.nil _ _ _ _, rfl, Below.refl _ _⟩
  case round =>
    obtain ⟨k, m, c, a, rfl, rfl, hk2, hk8, hmN, hI⟩ := hrel
    rcases Nat.lt_or_ge m 64 with hlt | hge
    · have hk := few_le (k := k) (by rw [← hI.out.2.1]; exact hlt)
      cases hp : isPrime k with
      | false =>
        have HP := Lib.hid hp
        have HE := Lib.hid (show primesTo (k + 1) = primesTo k by rw [primesTo_succ, if_neg (by rw [HP.out]; decide)])
        clear hp
        go_wp2_with fail
        refine (prime_any k wr hk2 (by omega) false HP.out.symm).mono ?_
        rintro e w1 ⟨rfl, rfl⟩
        go_wp2
        go_roundw
        case rel => exact ⟨k + 1, m, c, a, rfl, by go_num, by omega, by omega, hmN, by rw [HE.out]; exact hI.out.1, by rw [HE.out]; exact hI.out.2.1, hI.out.2.2⟩
        case measure => simp [intOf]; omega
      | true =>
        have HP := Lib.hid hp
        have HE := Lib.hid (show primesTo (k + 1) = primesTo k ++ [k] by rw [primesTo_succ, if_pos HP.out])
        clear hp
        go_wp2_with fail
        refine (prime_any k wr hk2 (by omega) true HP.out.symm).mono ?_
        rintro e w1 ⟨rfl, rfl⟩
        go_wp2_with (at_builtin; refine wpList_append_q .i64 _ rfl _ _ 69 rfl w.heap.size 3 8 i0 Tryd.underlying69 hi hz0 hz1 hz2 (by decide) _ (primesTo k) rfl (hI.out.1.alloc _) _ _ _ [k] rfl (Reads.one .i64 _ _ _ _ rfl) (by rw [← hI.out.2.1]; omega) (by have := hI.out.2.2.size; simp; omega) ?_; intro v' w2 hown2 hgrow; obtain ⟨a2, n2, c2, rfl, hn2, hown3⟩ := own_sl hown2; have HO2 := Lib.hid hown3; have HN2 := Lib.hid hn2; have HB2 := Lib.hid (hgrow w (hI.out.2.2.alloc hI.out.2.2.size _)); clear hown2 hown3 hgrow hn2)
        go_roundw
        case rel => exact ⟨k + 1, _, _, _, rfl, by go_num, by omega, by omega, by rw [HN2.out, List.length_append, ← hI.out.2.1]; exact hlt, by rw [HE.out]; exact HO2.out, by rw [HE.out]; exact HN2.out, HB2.out⟩
        case measure => simp [intOf]; omega
    · have HE := Lib.hid (show primesTo k = primesL by
        have h1 := primesTo_take hk8
        rw [primesL_eq, ← hI.out.2.1, List.take_of_length_le (by rw [primesL_len]; exact hge)] at h1
        exact h1.symm)
      have t2 : decide ((m : Int) < 64) = false := by simp; omega
      go_wp2
      go_ret2
      exact ⟨⟨_, rfl, HE.out ▸ hI.out.1⟩, hI.out.2.2⟩

end Go.Proofs.YtmfjhgjplmpecaaDoor

namespace Go.Proofs.YtmfjhgjplmpecaaDoor
open Go.RowKit Go.Shelf

theorem reads_other {q : IntKind} {w : World} {a : Option Addr} {n c : Nat} {l : List Nat} (h : Reads q w a n c l) (g i : Nat) (v : Value) (hg : ∀ ad, a = some ad → ad.block ≠ g) : Reads q (w.setCell ⟨g, i, none⟩ v) a n c l :=
  h.grownNe (grown_set (x := w) (y := w) (g := g) ⟨rfl, rfl, rfl, Nat.le_refl _, fun _ _ _ => rfl⟩ i v) (fun _ ad e => fun hh => hg ad e (Option.some.inj hh))
theorem reads_cellG {q : IntKind} {w : World} {g n c : Nat} {l : List Nat} (h : Reads q w (some ⟨g, 0, none⟩) n c l) (i : Nat) (hi : i < n) : w.cell? ⟨g, i, none⟩ = some (.int q ((g0 l i : Nat) : Int)) := by
  obtain ⟨b, off, e, -, hc⟩ := h.cells (by omega)
  cases e
  have := hc i hi
  rwa [Nat.zero_add] at this
/-- A table that is written from its beginning on. -/
def fillT (T : List Nat) (n i : Nat) : List Nat := T.take i ++ List.replicate (n - i) 0
theorem fillT_len {T : List Nat} {n i : Nat} (h : i ≤ n) (hT : n ≤ T.length) : (fillT T n i).length = n := by
  unfold fillT
  rw [List.length_append, List.length_take, List.length_replicate]
  omega
theorem fillT_set {T : List Nat} {n i : Nat} (h : i < n) (hT : n ≤ T.length) : (fillT T n i).set i (g0 T i) = fillT T n (i + 1) := by
  unfold fillT
  have hl : (T.take i).length = i := by rw [List.length_take]; omega
  rw [List.set_append_right _ _ (by omega), hl, Nat.sub_self, take_snocN T i (by omega), List.append_assoc, show n - i = (n - (i + 1)) + 1 by omega, List.replicate_succ]
  rfl
theorem fillT_all {T : List Nat} {n : Nat} (hT : T.length = n) : fillT T n n = T := by
  unfold fillT
  rw [List.take_of_length_le (by omega), Nat.sub_self, List.replicate_zero, List.append_nil]
theorem fillT_lt {T : List Nat} {n i b : Nat} (hT : ∀ x ∈ T, x < b) (hb : 0 < b) : ∀ x ∈ fillT T n i, x < b := fun x hx => by
  unfold fillT at hx
  rcases List.mem_append.1 hx with hx | hx
  · exact hT x (List.mem_of_mem_take hx)
  · have := List.eq_of_mem_replicate hx
    omega
/-- What the blocks hold while the tables are written. -/
structure OfP (w W : World) (gp cp gk gh : Nat) (K H : List Nat) : Prop where
  p : Reads .i64 W (some ⟨gp, 0, none⟩) 64 cp primesL
  k : Arr .u32 73 W gk K
  h : Arr .u32 74 W gh H
  below : Below w.heap.size w W
  ne : gp ≠ gk ∧ gp ≠ gh ∧ gk ≠ gh ∧ w.heap.size ≤ gk ∧ w.heap.size ≤ gh
theorem OfP.on {w W W' : World} {gp cp gk gh : Nat} {K H : List Nat} (h : OfP w W gp cp gk gh K H) (hb : Below W.heap.size W W') : OfP w W' gp cp gk gh K H :=
  ⟨h.p.below hb, h.k.below hb h.k.lt, h.h.below hb h.h.lt, h.below.trans (hb.mono h.below.size), h.ne⟩
theorem OfP.setk {w W : World} {gp cp gk gh : Nat} {K H : List Nat} (h : OfP w W gp cp gk gh K H) (i x : Nat) (y : Int) (hy : y = x) : OfP w (W.setCell ⟨gk, i, none⟩ (.int .u32 y)) gp cp gk gh (K.set i x) H :=
  ⟨reads_other h.p _ _ _ (fun ad e => by cases e; exact h.ne.1), h.k.stored i x y hy, h.h.other _ _ (fun e => h.ne.2.2.1 e.symm), h.below.setCell (p := ⟨gk, i, none⟩) h.ne.2.2.2.1 _, h.ne⟩
theorem OfP.seth {w W : World} {gp cp gk gh : Nat} {K H : List Nat} (h : OfP w W gp cp gk gh K H) (i x : Nat) (y : Int) (hy : y = x) : OfP w (W.setCell ⟨gh, i, none⟩ (.int .u32 y)) gp cp gk gh K (H.set i x) :=
  ⟨reads_other h.p _ _ _ (fun ad e => by cases e; exact h.ne.2.1), h.k.other _ _ h.ne.2.2.1, h.h.stored i x y hy, h.below.setCell (p := ⟨gh, i, none⟩) h.ne.2.2.2.2 _, h.ne⟩
theorem frac_k : fracsB 3 32 4294967296 primesL kL = true := by kernel_rfl
theorem frac_h1 : fracsB 2 32 4294967296 (primesL.take 8) (startL.take 8) = true := by kernel_rfl
theorem frac_h2 : fracsB 2 64 4294967296 ((primesL.drop 8).take 8) (startL.drop 8) = true := by kernel_rfl
theorem prime_lt : ∀ x ∈ primesL, x < 512 := by unfold primesL; decide
theorem k_at (i : Nat) (hi : i < 64) : ∃ v, fracV (g0 primesL i) 3 32 = some v ∧ v % 4294967296 = g0 kL i := fracs_at frac_k i hi
theorem h1_at (i : Nat) (hi : i < 8) : ∃ v, fracV (g0 primesL i) 2 32 = some v ∧ v % 4294967296 = g0 (startN 256) i := by
  obtain ⟨v, h1, h2⟩ := fracs_at frac_h1 i hi
  refine ⟨v, ?_, h2⟩
  have : g0 (primesL.take 8) i = g0 primesL i := by unfold g0; rw [List.getElem?_take_of_lt hi]
  rw [← this]
  exact h1
theorem h2_at (i : Nat) (hi : i < 8) : ∃ v, fracV (g0 primesL (i + 8)) 2 64 = some v ∧ v % 4294967296 = g0 (startN 224) i := by
  obtain ⟨v, h1, h2⟩ := fracs_at frac_h2 i hi
  refine ⟨v, ?_, h2⟩
  have : g0 ((primesL.drop 8).take 8) i = g0 primesL (i + 8) := by unfold g0; rw [List.getElem?_take_of_lt hi, List.getElem?_drop, Nat.add_comm]
  rw [← this]
  exact h1

/-- What the blocks hold while the message is gone through. -/
structure OfS (w W : World) (gk gh gm ml cm : Nat) (H M : List Nat) : Prop where
  k : Arr .u32 73 W gk kL
  h : Arr .u32 74 W gh H
  m : Reads .u8 W (some ⟨gm, 0, none⟩) ml cm M
  below : Below w.heap.size w W
  ne : gk ≠ gh ∧ gm ≠ gh ∧ w.heap.size ≤ gh
theorem OfS.lt {w W : World} {gk gh gm ml cm : Nat} {H M : List Nat} (h : OfS w W gk gh gm ml cm H M) (hl : 0 < ml) : gm < W.heap.size := by
  obtain ⟨b, off, e, hlt, -⟩ := h.m.cells hl
  cases e
  exact hlt
theorem OfS.on {w W W' : World} {gk gh gm ml cm : Nat} {H M : List Nat} (h : OfS w W gk gh gm ml cm H M) (hb : Below W.heap.size W W') : OfS w W' gk gh gm ml cm H M :=
  ⟨h.k.below hb h.k.lt, h.h.below hb h.h.lt, h.m.below hb, h.below.trans (hb.mono h.below.size), h.ne⟩
theorem OfS.drew {w W : World} {gk gh gm ml cm : Nat} {H M : List Nat} (h : OfS w W gk gh gm ml cm H M) : OfS w W.drew gk gh gm ml cm H M := h.on (Below.refl _ _).drew
theorem OfS.drewN {w W : World} {gk gh gm ml cm : Nat} {H M : List Nat} (h : OfS w W gk gh gm ml cm H M) (n : Nat) : OfS w (W.drewN n) gk gh gm ml cm H M := h.on (below_drewS (Below.refl _ _) n)
theorem OfS.seth {w W : World} {gk gh gm ml cm : Nat} {H M : List Nat} (h : OfS w W gk gh gm ml cm H M) (i x : Nat) (y : Int) (hy : y = x) : OfS w (W.setCell ⟨gh, i, none⟩ (.int .u32 y)) gk gh gm ml cm (H.set i x) M :=
  ⟨h.k.other _ _ h.ne.1, h.h.stored i x y hy, reads_other h.m _ _ _ (fun ad e => by cases e; exact h.ne.2.1), h.below.setCell (p := ⟨gh, i, none⟩) h.ne.2.2 _, h.ne⟩
/-- A block beside these. -/
structure Own4 (w : World) (gk gh gm g : Nat) : Prop where
  ne : gk ≠ g ∧ gh ≠ g ∧ gm ≠ g ∧ w.heap.size ≤ g
theorem OfS.set {w W : World} {gk gh gm ml cm : Nat} {H M : List Nat} (h : OfS w W gk gh gm ml cm H M) {g : Nat} (hg : Own4 w gk gh gm g) (i : Nat) (v : Value) : OfS w (W.setCell ⟨g, i, none⟩ v) gk gh gm ml cm H M :=
  ⟨h.k.other _ _ hg.ne.1, h.h.other _ _ hg.ne.2.1, reads_other h.m _ _ _ (fun ad e => by cases e; exact hg.ne.2.2.1), h.below.setCell (p := ⟨g, i, none⟩) hg.ne.2.2.2 _, h.ne⟩
theorem OfS.beside {w W : World} {gk gh gm ml cm : Nat} {H M : List Nat} (h : OfS w W gk gh gm ml cm H M) (hl : 0 < ml) : Own4 w gk gh gm W.heap.size :=
  ⟨Nat.ne_of_lt h.k.lt, Nat.ne_of_lt h.h.lt, Nat.ne_of_lt (h.lt hl), h.below.size⟩
theorem or_add (x y : Nat) (hy : y < 256) : (x * 256 % 4294967296 ||| y) = (256 * x + y) % 4294967296 := by
  have e : x * 256 % 4294967296 = 2 ^ 8 * (x % 16777216) := by omega
  rw [e, ← Nat.two_pow_add_eq_or_of_lt (i := 8) (by omega)]
  omega
theorem pack_step (bl : List Nat) (i n x y : Nat) (hn : n < 4) (hx : x = g0 (packN bl (4 * i + n)) i) (hy : y = g0 bl (4 * i + n)) (h8 : y < 256) : packN bl (4 * i + (n + 1)) = (packN bl (4 * i + n)).set i ((256 * x + y) % 4294967296) := by
  show packS bl (4 * i + n) (packN bl (4 * i + n)) = _
  unfold packS
  rw [show (4 * i + n) / 4 = i by omega, ← hx, ← hy, or_add x y h8]

theorem fold_ws (bt : Nat) (m R : List Nat) (q : Nat) (hq : 64 * q ≤ m.length) : ∀ j, foldW (wsK bt m q) R j = wsK bt (m.take (64 * q) ++ R) (q + j)
  | 0 => wsK_ext q (by rw [List.take_append_of_le_length (by rw [List.length_take]; omega), List.take_take, Nat.min_self])
  | j + 1 => by
    show turnN (foldW (wsK bt m q) R j) ((R.drop (64 * j)).take 64) = turnN (wsK bt (m.take (64 * q) ++ R) (q + j)) (((m.take (64 * q) ++ R).drop (64 * (q + j))).take 64)
    rw [fold_ws bt m R q hq j, Nat.mul_add, List.drop_append (l₁ := m.take (64 * q)), List.drop_of_length_le (l := m.take (64 * q)) (by rw [List.length_take]; omega), List.nil_append, List.length_take, Nat.min_eq_left hq, Nat.add_sub_cancel_left]
theorem lb_len (T : Nat) : lbN (8 * T) 8 = lenB T 8 := by
  rw [Nat.mul_comm 8 T]
  rfl
theorem fill_rest (m : List Nat) : fillN m = m.take (64 * (m.length / 64)) ++ restN m := by
  unfold fillN restN
  rw [lb_len, show (64 - (m.length + 1 + 8) % 64) % 64 = (119 - m.length % 64) % 64 by omega, ← List.append_assoc, ← List.append_assoc, ← List.append_assoc, List.take_append_drop]
theorem sum_fill (bt : Nat) (m : List Nat) (nb : Nat) (h : (fillN m).length = 64 * nb) : sumW bt m = wsK bt (fillN m) nb := by
  unfold sumW
  rw [fold_ws bt m (restN m) (m.length / 64) (by omega), ← fill_rest]
  congr 1
  have h2 := congrArg List.length (fill_rest m)
  rw [h, List.length_append, List.length_take, Nat.min_eq_left (by omega)] at h2
  omega
theorem hash_ref (bt : Nat) (hbt : bt = 256 ∨ bt = 224) (m : List Nat) (nb : Nat) (h : (fillN m).length = 64 * nb) : bytesW (wsK bt (fillN m) nb) (bt / 32) = hashN bt m := by
  unfold hashN
  rw [← sum_fill bt m nb h]
  rcases hbt with rfl | rfl
  · exact (List.take_of_length_le (by rw [bytesW_len]; decide)).symm
  · show bytesW (sumW 224 m) 7 = (bytesW (sumW 224 m) 8).take 28
    rw [bytesW_succ (sumW 224 m) 7, List.take_append_of_le_length (by rw [bytesW_len]; decide), List.take_of_length_le (by rw [bytesW_len]; decide)]

end Go.Proofs.YtmfjhgjplmpecaaDoor

namespace Go.Proofs.YtmfjhgjplmpecaaDoor
open Go.RowKit Go.Shelf

def zR : List Nat := List.replicate 64 0
def z8 : List Nat := List.replicate 8 0
theorem of_start (w W : World) (gp cp : Nat) (H : List Nat) (HP : Reads .i64 W (some ⟨gp, 0, none⟩) 64 cp primesL) (hB : Below w.heap.size w W) (hgp : gp < W.heap.size) :
    OfP w ((W.alloc (.cells (arrC .u32 zR) 73)).alloc (.cells (arrC .u32 z8) 74)) gp cp W.heap.size (W.heap.size + 1) (fillT kL 64 0) (fillT H 8 0) := by
  have h1 : Arr .u32 73 (W.alloc (.cells (arrC .u32 zR) 73)) W.heap.size zR := Go.heap_alloc_new W _
  have hb := ((Below.refl W.heap.size W).alloc (Nat.le_refl _) (.cells (arrC .u32 zR) 73))
  have s1 : (W.alloc (.cells (arrC .u32 zR) 73)).heap.size = W.heap.size + 1 := World.size_alloc _ _
  generalize W.alloc (.cells (arrC .u32 zR) 73) = w1 at *
  have hb2 := hb.alloc (by omega) (.cells (arrC .u32 z8) 74)
  have h2 : Arr .u32 74 (w1.alloc (.cells (arrC .u32 z8) 74)) (W.heap.size + 1) z8 := by rw [← s1]; exact Go.heap_alloc_new w1 _
  refine ⟨HP.below hb2, ?_, ?_, hB.trans (hb2.mono hB.size), by omega, by omega, by omega, hB.size, by have := hB.size; omega⟩
  · rw [show fillT kL 64 0 = zR from rfl]
    exact h1.alloc _
  · rw [show fillT H 8 0 = z8 by unfold fillT; rfl]
    exact h2

theorem wpList_load8 {ops : Array Oper} {rest : List Oper} {o : Oper} {a : Act} {w : World} {Q : Exit → Act → World → Prop} (hgd : o.guard = none) (x : Operand) (ho : o.op = .load 74 x)
    (g : Nat) (l : List Nat) (hx : a.eval x = .pointer (some ⟨g, 0, none⟩)) (hA : Arr .u32 74 w g l) (h8 : l.length = 8)
    (h : wpList Tryd.prog ops Q rest (a.put o.dst (.agg (arrC .u32 l))) w) : wpList Tryd.prog ops Q (o :: rest) a w :=
  wpList_load_row hgd _ x ho g hx _ (arrC .u32 l) _ _ hA Tryd.underlying74 rfl (by rw [arrC_size, h8]; kernel_rfl) h
theorem wpList_store8 {ops : Array Oper} {rest : List Oper} {o : Oper} {a : Act} {w : World} {Q : Exit → Act → World → Prop} (hgd : o.guard = none) (x y : Operand) (ho : o.op = .store 74 x y)
    (g : Nat) (l m : List Nat) (hx : a.eval x = .pointer (some ⟨g, 0, none⟩)) (hy : a.eval y = .agg (arrC .u32 m)) (hA : Arr .u32 74 w g l) (hl8 : l.length = 8) (h8 : m.length = 8)
    (h : wpList Tryd.prog ops Q rest (a.put o.dst undef) (w.setRow g (arrC .u32 m))) : wpList Tryd.prog ops Q (o :: rest) a w :=
  wpList_store_row hgd _ _ _ ho g (arrC .u32 m) hx hy 74 _ hA (by rw [arrC_size, h8]; kernel_rfl) (by rw [arrC_size, arrC_size, h8, hl8]) (arrC_one _ _) h
theorem step_append_q {P : Program} (q : IntKind) (w : World) {o : Oper} {a : Act} {K : Act → World → Prop} {Q : Exit → Act → World → Prop} (s x : Operand) (t : TypeId)
    (ho : o.op = .call { callee := .builtin .append, args := #[s, x], argTypes := #[t, t] })
    (B E by' : Nat) (i : TypeInfo) (ht : P.underlying t = some (.slice E)) (hi : P.info? E = some i) (hz : i.zero = some (.int q 0)) (hsize : i.size = 1) (hby : i.bytes = by') (hby8 : by' ≤ 8)
    (v : Value) (l : List Nat) (hs : a.eval s = v) (hown : OwnQ q E B w v l) (ad : Addr) (m c : Nat) (l2 : List Nat) (hx : a.eval x = .slice (some ad) m c) (hb : Reads q w (some ad) m c l2)
    (hsum : l.length + m ≤ 17592186044416) (hbase : B ≤ w.heap.size)
    (h : ∀ v' w', OwnQ q E B w' v' (l ++ l2) → (∀ w0, Below B w0 w → Below B w0 w') → K (a.put o.dst v') w') : o.wp P a w K Q := by
  have hlen := hb.length
  have hbb : (l.length + m) * by' ≤ 140737488355328 := Nat.le_trans (Nat.mul_le_mul hsum hby8) (by decide)
  refine wp_append_own w s x t ho B E i (.int q 0) 1 by' ht hi hz hsize hby rfl (by decide) v l.length (l.map (num q)) hs hown ad m c (l2.map (num q)) hx (by simpa using hlen) hb.news (nums_oneCell _ _) (by unfold maxLen; omega) hbb hbase ?_
  intro v' w' ho' hg _
  refine h v' w' ?_ (fun w0 h0 => h0.grown hg hbase (fun k hk => (hown.lt k hk).1))
  unfold OwnQ
  rw [List.map_append, List.length_append, hlen]
  exact ho'
theorem right_s (x n r : Nat) (k : Int) (hn : n ≤ 31) (hk : k = n) (hx : x < 4294967296) (hr : r = rotr x n) (w : World) :
    Calls Tryd.prog 40 #[.int .u32 (x : Int), .int .i64 k] w fun e w' => e = .returned (.int .u32 (r : Int)) ∧ w' = w :=
  (right_any x n x k w rfl hk hx hn).mono fun e w' ⟨h1, h2⟩ => ⟨by rw [h1, hr, halfs_rot x n hx hn]; rfl, h2.symm⟩
theorem down_s (x n r : Nat) (k : Int) (hn : n ≤ 31) (hk : k = n) (hx : x < 4294967296) (hr : r = x / 2 ^ n) (w : World) :
    Calls Tryd.prog 41 #[.int .u32 (x : Int), .int .i64 k] w fun e w' => e = .returned (.int .u32 (r : Int)) ∧ w' = w :=
  (down_any x n x k w rfl hk hx hn).mono fun e w' ⟨h1, h2⟩ => ⟨by rw [h1, hr], h2.symm⟩

end Go.Proofs.YtmfjhgjplmpecaaDoor
