/-
  Texts of ours, one behind the other: QbO Qb1 QbK QbL Qb2 Mk3
-/
import Derived.Test.YtpefjkndfifceaaDoorPk4
import Derived.Test.YtpefjkndfifceaaDoorPk6
import Derived.Laws.IdiomCopy
import Derived.Deep.RegionHeld
import Derived.OrdersHeld
import Derived.Laws.Tables
import Derived.BigQuiet
import Derived.Deep.QuietTactic
import Derived.Laws.EntriesVeiled
import Derived.Laws.ResultCell
set_option linter.unusedVariables false
set_option linter.unusedSimpArgs false

namespace Go.Proofs.YtpefjkndfifceaaDoor.L5
open Go.RowKit Go.Shelf
set_option maxRecDepth 100000
attribute [local go_sem] Oper.semAt_some

section
variable {P : Program}
theorem run_loadVar_part (w : World) (g k : Nat) (ty : TypeId) (cs : Array Value) (d : TypeDesc) (hg : ∀ j v, cs[j]? = some v → w.cell? ⟨g, k + j, none⟩ = some v)
    (hu : P.underlying ty = some d) (hd : (match d with | .struct _ | .array _ _ => true | _ => false) = true) (hi : (P.info? ty).map (·.size) = some cs.size) :
    (loadVar ty ⟨g, k, none⟩).run P w = .ok (.agg cs) w := by
  have hl : (loadCells ⟨g, k, none⟩ cs.toList.length).run P w = .ok cs.toList.toArray w :=
    run_loadCells_list (P := P) w ⟨g, k, none⟩ cs.toList (fun j v hv => by
      have hadd : (⟨g, k, none⟩ : Addr).add j = ⟨g, k + j, none⟩ := by unfold Addr.add; split <;> simp_all
      rw [hadd]
      exact hg j v (by simpa using hv))
  cases hq : P.info? ty with
  | none => simp [hq] at hi
  | some i =>
    have hs : i.size = cs.size := by simpa [hq] using hi
    have hagg : (isAgg ty).run P w = .ok true w := by
      unfold isAgg
      rw [Sem.run_bind, run_underlying hu w]
      cases d <;> simp_all
    simp only [Array.length_toList, Array.toArray_toList] at hl
    simp [loadVar, Sem.run_bind, hagg, sizeOf, typeInfo, hq, hs, hl]
theorem wpList_load_part {ops : Array Oper} {rest : List Oper} {o : Oper} {a : Act} {w : World} {Q : Exit → Act → World → Prop} (hgd : o.guard = none) (ty : TypeId) (x : Operand) (ho : o.op = .load ty x)
    (g k : Nat) (hx : a.eval x = .pointer (some ⟨g, k, none⟩)) (cs : Array Value) (d : TypeDesc) (hg : ∀ j v, cs[j]? = some v → w.cell? ⟨g, k + j, none⟩ = some v)
    (hu : P.underlying ty = some d) (hd : (match d with | .struct _ | .array _ _ => true | _ => false) = true) (hi : (P.info? ty).map (·.size) = some cs.size)
    (h : wpList P ops Q rest (a.put o.dst (.agg cs)) w) : wpList P ops Q (o :: rest) a w :=
  wpList_plain hgd fun K hK => by
    unfold Oper.wp execOp
    simp only [ho, hx, Instr.loadAt, Instr.sureAddr, Sem.run_bind, Sem.run_pure, Result.andThen_ok, run_loadVar_part w g k ty cs d hg hu hd hi]
    exact hK _ _ h
end
theorem StateAt.alloc {w : World} {g bt : Nat} {ws tail : List Nat} {T : Nat} (h : StateAt w g bt ws tail T) (o : Obj) : StateAt (w.alloc o) g bt ws tail T := h.block (Below.heap_alloc w o g h.lt)
theorem StateAt.tailC {w : World} {g bt : Nat} {ws tail : List Nat} {T : Nat} (h : StateAt w g bt ws tail T) : ∀ j v, (arrC .u8 tail)[j]? = some v → w.cell? ⟨g, 9 + j, none⟩ = some v := fun j v hv => by
  have hj : j < tail.length := by
    have := (Array.getElem?_eq_some_iff.1 hv).1
    rwa [arrC_size] at this
  rw [arrC_get .u8 tail j hj] at hv
  cases hv
  exact h.byte j (by have := h.tlen; omega)
/-- Between two rounds. -/
def TuI (w : World) (g bt T Kb V : Nat) (ws tail : List Nat) (pre : List (Nat × Nat)) (W : World) : Prop := Arr .u64 119 W Kb kL ∧ (∃ vs, Arr .u64 115 W V vs ∧ vs.length = 8 ∧ (∀ x ∈ vs, x < 18446744073709551616) ∧ (pre = toldN tail pre.length → vs = rdsN ws (schedN tail) pre.length)) ∧ StateAt W g bt ws tail T ∧ Below w.heap.size w W
theorem TuI.stays {w X X' : World} {g bt T Kb V : Nat} {ws tail : List Nat} {pre : List (Nat × Nat)} {row : Option Nat} (h : TuI w g bt T Kb V ws tail pre X) (hg : X.grownBy X' row) (hr : ∀ r, row = some r → w.heap.size ≤ r ∧ r ≠ Kb ∧ r ≠ V ∧ r ≠ g) : TuI w g bt T Kb V ws tail pre X' := by
  obtain ⟨h1, ⟨vs, h2, h3, h4, h5⟩, h6, h7⟩ := h
  exact ⟨(hg.block Kb h1.lt (fun e => (hr _ e.symm).2.1 rfl)).trans h1, ⟨vs, (hg.block V h2.lt (fun e => (hr _ e.symm).2.2.1 rfl)).trans h2, h3, h4, h5⟩, h6.block (hg.block g h6.lt (fun e => (hr _ e.symm).2.2.2 rfl)), h7.grown hg h7.size (fun r e => (hr r e).1)⟩
theorem rdsN_succ (ws sc : List Nat) (i : Nat) : rdsN ws sc (i + 1) = rd (rdsN ws sc i) (g0 kL i) (g0 sc i) := rfl
theorem told_len (b : List Nat) (t : Nat) : (toldN b t).length = t := by simp [toldN]
theorem grown_past {x y z : World} {g : Nat} {row : Option Nat} (h : x.grownBy y (some g)) (k : y.grownBy z row) (hr : ∀ r, row = some r → x.heap.size ≤ r) : x.grownBy z (some g) :=
  ⟨k.os.trans h.os, k.tape.trans h.tape, k.output.trans h.output, Nat.le_trans h.size k.size, fun i hi hn => (k.block i (Nat.lt_of_lt_of_le hi h.size) (fun e => by have := hr i e.symm; omega)).trans (h.block i hi hn)⟩
theorem told_split {b : List Nat} {pre : List (Nat × Nat)} {x : Nat × Nat} (he : pre ++ [x] = toldN b (pre ++ [x]).length) : pre = toldN b pre.length ∧ x = (pre.length, g0 (schedN b) pre.length) := by
  rw [List.length_append, List.length_singleton, toldN_succ] at he
  have := List.append_inj' he rfl
  exact ⟨this.1, by simpa using this.2⟩
theorem keeps_arr {W W' : World} {q : IntKind} {E : TypeId} {g : Nat} {l : List Nat} (h : Arr q E W g l) (hg : W.grownBy W' (some g)) : KeepsOthers W W' :=
  KeepsOthers.of_grownBy hg fun j o ej hj => by
    cases ej
    rw [h] at hj
    cases hj
    rfl
def CT (p : Nat × Nat) : Prop := p.1 < 80 ∧ p.2 < 18446744073709551616
theorem ct_of {b : List Nat} (hb : ∀ x ∈ b, x < 256) (t : Nat) (ht : t < 80) : CT (t, g0 (schedN b) t) := by
  have h2 : g0 (schedN b) t < 18446744073709551616 := g0_lt (schedN_lt b hb) (by decide) t
  generalize g0 (schedN b) t = v at *
  exact And.intro ht h2
theorem sched_seq (bb : Nat) (b : List Nat) (w : World) (hA : Arr .u8 116 w bb b) (hl : b.length = 128) (hb : ∀ x ∈ b, x < 256) :
    SeqU TW Fence.wide (3 - 1) Tryd.prog 87 #[.pointer (some ⟨bb, 0, none⟩)] (fun x : Pc CT => #[.int .i64 (x.1.1 : Int), .int .u64 (x.1.2 : Int)]) (fun xs => xs.map (·.1) = toldN b 80) (fun _ => True) w :=
  scheduled_comes (3 - 1) (by decide) CT bb b w hA hl hb (ct_of hb)
theorem infoV : (Tryd.prog.info? 119).map (fun i => (i.zero, i.size)) = some (some (.agg (arrC .u64 (List.replicate 80 0))), 80) := by kernel_rfl

set_option maxRecDepth 100000 in
set_option maxHeartbeats 8000000 in
theorem turn_any (g bt : Nat) (ws tail : List Nat) (taken : Nat) (w : World) (h : StateAt w g bt ws tail taken) :
    Calls Tryd.prog 77 #[.pointer (some ⟨g, 0, none⟩)] w fun e w' => e = .returned (.tuple #[]) ∧ StateAt w' g bt (turnN ws tail) tail taken ∧ w.grownBy w' (some g) := by
  have H := Lib.hid h
  have h0 : Tryd.f77.results = #[] := by kernel_rfl
  have H0 := Lib.hid h0
  have hts : (arrC .u8 tail).size = 128 := by rw [arrC_size, h.tlen]
  have HTS := Lib.hid hts
  clear h h0 hts
  refine (callsIn_wide (n := 3)).1 ?_
  refine callsIn_of_wp_marks Tryd.func77 rfl trivial ?_ rfl
  simp only [Tryd.ntmps77, List.size_toArray, List.length_cons, List.length_nil, Nat.reduceAdd, Nat.reduceSub, Array.replicate_succ, Array.replicate_zero, List.push_toArray, List.append_toArray, List.nil_append, List.cons_append]
  have hz : ∀ w, (zeroValue 119).run Tryd.prog w = .ok (.agg (arrC .u64 (List.replicate 80 0))) w := fun _ => by kernel_rfl
  refine wpIn_wide.2 ?_
  go_wp2_with fail
  refine (written_any w).mono ?_
  rintro e w1 ⟨rfl, rfl⟩
  have tf := tab_field (w.alloc (.cells tabC 122))
  go_wp2_with (first
    | (refine wpList_store_row rfl _ _ _ rfl (w.heap.size + 1) (arrC .u64 kL) rfl rfl 119 (arrC .u64 (List.replicate 80 0)) (by rw [← World.size_alloc w (.cells tabC 122)]; exact Go.heap_alloc_new _ _) (by kernel_rfl) (by kernel_rfl) (arrC_one _ _) ?_; generalize hW2 : World.setRow _ (w.heap.size + 1) (arrC .u64 kL) = W2; rw [← World.size_alloc w (.cells tabC 122), alloc_setRow] at hW2; have HF := Lib.hid (kept2 w W2 _ _ hW2); have H2 := Lib.hid (H.out.below HF.out.1 H.out.lt); have hK2 := Lib.hid (HF.out.2); clear hW2 tf; have c0 := H2.out.word 0 (by decide); have c1 := H2.out.word 1 (by decide); have c2 := H2.out.word 2 (by decide); have c3 := H2.out.word 3 (by decide); have c4 := H2.out.word 4 (by decide); have c5 := H2.out.word 5 (by decide); have c6 := H2.out.word 6 (by decide); have c7 := H2.out.word 7 (by decide); simp only [Nat.reduceAdd] at c0 c1 c2 c3 c4 c5 c6 c7)
    | (refine wpList_load_part rfl 116 _ rfl g 9 rfl (arrC .u8 tail) _ (fun j v hv => (H2.out.alloc _).tailC j v hv) Tryd.underlying116 rfl (by rw [HTS.out]; kernel_rfl) ?_))
  rw [arrC_eight ws H.out.wlen]
  have hb3 := (Below.refl W2.heap.size W2).alloc (Nat.le_refl _) (.cells (arrC .u64 ws) 115)
  have HV := Lib.hid (show Arr .u64 115 (W2.alloc (.cells (arrC .u64 ws) 115)) W2.heap.size ws from Go.heap_alloc_new W2 _)
  have HKB := Lib.hid (show Arr .u64 119 (W2.alloc (.cells (arrC .u64 ws) 115)) (w.heap.size + 1) kL from Arr.alloc hK2.out.1 _)
  have hzz := Lib.hid hK2.out.2
  have F := Lib.hid (HF.out.1.trans (hb3.mono HF.out.1.size))
  have H3 := Lib.hid (H2.out.alloc (.cells (arrC .u64 ws) 115))
  have hV3 : W2.heap.size < (W2.alloc (.cells (arrC .u64 ws) 115)).heap.size := by simp
  generalize W2.alloc (.cells (arrC .u64 ws) 115) = W3 at *
  obtain ⟨V, hVe⟩ : ∃ V, V = W2.heap.size := ⟨_, rfl⟩
  obtain ⟨Kb, hKe⟩ : ∃ K, K = w.heap.size + 1 := ⟨_, rfl⟩
  rw [← hVe] at HV hV3 ⊢
  rw [← hKe] at HKB ⊢
  have HKV := Lib.hid (show w.heap.size ≤ Kb ∧ Kb < V ∧ g < w.heap.size by have := hzz.out; have := H.out.lt; omega)
  clear hb3 HF H2 hK2 hzz hVe hKe c0 c1 c2 c3 c4 c5 c6 c7
  refine (scheduled_any tail W3).mono ?_
  rintro e w4 ⟨rfl, rfl⟩
  have HA4 := Lib.hid (show Arr .u8 116 (W3.alloc (.cells (arrC .u8 tail) 116)) W3.heap.size tail from Go.heap_alloc_new W3 _)
  have H4 := Lib.hid (show TuI w g bt taken Kb V ws tail [] (W3.alloc (.cells (arrC .u8 tail) 116)) from ⟨HKB.out.alloc _, ⟨ws, HV.out.alloc _, H.out.wlen, H.out.wlt, fun _ => rfl⟩, H3.out.alloc _, F.out.alloc F.out.size _⟩)
  have hz4 := Lib.hid (show V < (W3.alloc (.cells (arrC .u8 tail) 116)).heap.size by rw [World.size_alloc]; omega)
  obtain ⟨bb, hbb⟩ : ∃ b, b = W3.heap.size := ⟨_, rfl⟩
  rw [← hbb] at HA4 ⊢
  generalize W3.alloc (.cells (arrC .u8 tail) 116) = W4 at *
  clear hbb hV3 HV HKB H3 F
  go_wp2_with fail
  refine (wpIn_wide (n := 3)).1 ?_
  have hsq := sched_seq bb tail W4 HA4.out H.out.tlen H.out.tlt
  refine wpIn_rangeU (α := Pc CT) (F := Fence.wide) (n := 3) (T := TW) rfl (show 1 ≤ 3 by decide) (gf := 87) (lb := #[.pointer (some ⟨bb, 0, none⟩)]) rfl trivial (enters_of Tryd.func87 (by kernel_rfl) rfl)
    hsq (Below.refl _ _) (fun _ => rfl)
    (fun pre W => TuI w g bt taken Kb V ws tail (pre.map (·.1)) W)
    (fun _ _ _ => False)
    ?_ ?_ H4.out ?_ ?_ ?_ ?_ ?_
  rotate_left 3
  · intro lp x W K hK
    gi_wp2
    exact hK
  · rintro lp pre ⟨⟨i, u⟩, hlt, lu⟩ W ⟨hkb, ⟨vs, hv, hvl, hvb, hsem⟩, hst, hbel⟩
    replace hlt : i < 80 := hlt
    replace lu : u < 18446744073709551616 := lu
    have HKB := Lib.hid hkb
    have HV := Lib.hid hv
    have hVl := Lib.hid hvl
    have hVb := Lib.hid hvb
    have HSEM := Lib.hid hsem
    have HST := Lib.hid hst
    have HBL := Lib.hid hbel
    clear hkb hv hvl hvb hsem hst hbel
    have cv0 := HV.out.cell 0 (by rw [hVl.out]; decide)
    obtain ⟨a, ha⟩ : ∃ x, x = g0 (vs) 0 := ⟨_, rfl⟩
    have la : a < 18446744073709551616 := ha ▸ g0_lt hVb.out (by decide) 0
    rw [show (vs)[0]?.getD 0 = a from ha.symm] at cv0
    have cv1 := HV.out.cell 1 (by rw [hVl.out]; decide)
    obtain ⟨b, hb⟩ : ∃ x, x = g0 (vs) 1 := ⟨_, rfl⟩
    have lb : b < 18446744073709551616 := hb ▸ g0_lt hVb.out (by decide) 1
    rw [show (vs)[1]?.getD 0 = b from hb.symm] at cv1
    have cv2 := HV.out.cell 2 (by rw [hVl.out]; decide)
    obtain ⟨c, hc⟩ : ∃ x, x = g0 (vs) 2 := ⟨_, rfl⟩
    have lc : c < 18446744073709551616 := hc ▸ g0_lt hVb.out (by decide) 2
    rw [show (vs)[2]?.getD 0 = c from hc.symm] at cv2
    have cv3 := HV.out.cell 3 (by rw [hVl.out]; decide)
    obtain ⟨d, hd⟩ : ∃ x, x = g0 (vs) 3 := ⟨_, rfl⟩
    have ld : d < 18446744073709551616 := hd ▸ g0_lt hVb.out (by decide) 3
    rw [show (vs)[3]?.getD 0 = d from hd.symm] at cv3
    have cv4 := HV.out.cell 4 (by rw [hVl.out]; decide)
    obtain ⟨e, he⟩ : ∃ x, x = g0 (vs) 4 := ⟨_, rfl⟩
    have le : e < 18446744073709551616 := he ▸ g0_lt hVb.out (by decide) 4
    rw [show (vs)[4]?.getD 0 = e from he.symm] at cv4
    have cv5 := HV.out.cell 5 (by rw [hVl.out]; decide)
    obtain ⟨f, hf⟩ : ∃ x, x = g0 (vs) 5 := ⟨_, rfl⟩
    have lf : f < 18446744073709551616 := hf ▸ g0_lt hVb.out (by decide) 5
    rw [show (vs)[5]?.getD 0 = f from hf.symm] at cv5
    have cv6 := HV.out.cell 6 (by rw [hVl.out]; decide)
    obtain ⟨m, hm⟩ : ∃ x, x = g0 (vs) 6 := ⟨_, rfl⟩
    have lm : m < 18446744073709551616 := hm ▸ g0_lt hVb.out (by decide) 6
    rw [show (vs)[6]?.getD 0 = m from hm.symm] at cv6
    have cv7 := HV.out.cell 7 (by rw [hVl.out]; decide)
    obtain ⟨h, hh⟩ : ∃ x, x = g0 (vs) 7 := ⟨_, rfl⟩
    have lh : h < 18446744073709551616 := hh ▸ g0_lt hVb.out (by decide) 7
    rw [show (vs)[7]?.getD 0 = h from hh.symm] at cv7
    have ck := HKB.out.cell i (by rw [kL_len]; exact hlt)
    obtain ⟨k, hk⟩ : ∃ x, x = g0 kL i := ⟨_, rfl⟩
    have lk : k < 18446744073709551616 := hk ▸ g0_lt kL_lt (by decide) i
    rw [show kL[i]?.getD 0 = k from hk.symm] at ck
    have HE := Lib.hid (show rd vs (g0 kL i) u = [(yN e f m h k u + zN a b c) % 18446744073709551616, a, b, c, (d + yN e f m h k u) % 18446744073709551616, e, f, m] by rw [ha, hb, hc, hd, he, hf, hm, hh, hk]; rfl)
    have HC0 := Lib.hid ha
    have HC1 := Lib.hid hb
    have HC2 := Lib.hid hc
    have HC3 := Lib.hid hd
    have HC4 := Lib.hid he
    have HC5 := Lib.hid hf
    have HC6 := Lib.hid hm
    have HC7 := Lib.hid hh
    clear ha hb hc hd he hf hm hh hk
    obtain ⟨L1, hL1⟩ : ∃ x, x = laidN e 14 18 41 := ⟨_, rfl⟩
    have lL1 : L1 < 18446744073709551616 := by rw [hL1]; exact laidN_lt le
    obtain ⟨s1, hs1⟩ : ∃ x, x = (h + k) % 18446744073709551616 := ⟨_, rfl⟩
    have ls1 : s1 < 18446744073709551616 := by omega
    obtain ⟨s2, hs2⟩ : ∃ x, x = (s1 + u) % 18446744073709551616 := ⟨_, rfl⟩
    have ls2 : s2 < 18446744073709551616 := by omega
    obtain ⟨s3, hs3⟩ : ∃ x, x = (s2 + L1) % 18446744073709551616 := ⟨_, rfl⟩
    have ls3 : s3 < 18446744073709551616 := by omega
    obtain ⟨A1, hA1⟩ : ∃ x, x = e &&& f := ⟨_, rfl⟩
    have lA1 : A1 < 18446744073709551616 := by rw [hA1]; exact Nat.and_lt_two_pow (n := 64) e lf
    obtain ⟨N1, hN1⟩ : ∃ x, x = 18446744073709551615 - e := ⟨_, rfl⟩
    have lN1 : N1 < 18446744073709551616 := by omega
    obtain ⟨A2, hA2⟩ : ∃ x, x = N1 &&& m := ⟨_, rfl⟩
    have lA2 : A2 < 18446744073709551616 := by rw [hA2]; exact Nat.and_lt_two_pow (n := 64) N1 lm
    obtain ⟨X1, hX1⟩ : ∃ x, x = A1 ^^^ A2 := ⟨_, rfl⟩
    have lX1 : X1 < 18446744073709551616 := by rw [hX1]; exact Nat.xor_lt_two_pow (n := 64) lA1 lA2
    obtain ⟨y, hy⟩ : ∃ x, x = (s3 + X1) % 18446744073709551616 := ⟨_, rfl⟩
    have ly : y < 18446744073709551616 := by omega
    obtain ⟨L2, hL2⟩ : ∃ x, x = laidN a 28 34 39 := ⟨_, rfl⟩
    have lL2 : L2 < 18446744073709551616 := by rw [hL2]; exact laidN_lt la
    obtain ⟨B1, hB1⟩ : ∃ x, x = a &&& b := ⟨_, rfl⟩
    have lB1 : B1 < 18446744073709551616 := by rw [hB1]; exact Nat.and_lt_two_pow (n := 64) a lb
    obtain ⟨B2, hB2⟩ : ∃ x, x = a &&& c := ⟨_, rfl⟩
    have lB2 : B2 < 18446744073709551616 := by rw [hB2]; exact Nat.and_lt_two_pow (n := 64) a lc
    obtain ⟨B3, hB3⟩ : ∃ x, x = b &&& c := ⟨_, rfl⟩
    have lB3 : B3 < 18446744073709551616 := by rw [hB3]; exact Nat.and_lt_two_pow (n := 64) b lc
    obtain ⟨X2, hX2⟩ : ∃ x, x = B1 ^^^ B2 := ⟨_, rfl⟩
    have lX2 : X2 < 18446744073709551616 := by rw [hX2]; exact Nat.xor_lt_two_pow (n := 64) lB1 lB2
    obtain ⟨X3, hX3⟩ : ∃ x, x = X2 ^^^ B3 := ⟨_, rfl⟩
    have lX3 : X3 < 18446744073709551616 := by rw [hX3]; exact Nat.xor_lt_two_pow (n := 64) lX2 lB3
    obtain ⟨z, hz⟩ : ∃ x, x = (L2 + X3) % 18446744073709551616 := ⟨_, rfl⟩
    have lz : z < 18446744073709551616 := by omega
    obtain ⟨n0, hn0⟩ : ∃ x, x = (y + z) % 18446744073709551616 := ⟨_, rfl⟩
    have ln0 : n0 < 18446744073709551616 := by omega
    obtain ⟨n4, hn4⟩ : ∃ x, x = (d + y) % 18446744073709551616 := ⟨_, rfl⟩
    have ln4 : n4 < 18446744073709551616 := by omega
    have es1 : ((h : Int) + (k : Int)) % 18446744073709551616 = (s1 : Int) := by omega
    have es2 : ((s1 : Int) + (u : Int)) % 18446744073709551616 = (s2 : Int) := by omega
    have es3 : ((s2 : Int) + (L1 : Int)) % 18446744073709551616 = (s3 : Int) := by omega
    have ey : ((s3 : Int) + (X1 : Int)) % 18446744073709551616 = (y : Int) := by omega
    have ez : ((L2 : Int) + (X3 : Int)) % 18446744073709551616 = (z : Int) := by omega
    have en0 : ((y : Int) + (z : Int)) % 18446744073709551616 = (n0 : Int) := by omega
    have en4 : ((d : Int) + (y : Int)) % 18446744073709551616 = (n4 : Int) := by omega
    have eN1 : bits BinOp.xor IntKind.u64 (if IntKind.u64.signed = true then -1 else IntKind.u64.max) (e : Int) = (N1 : Int) := by rw [hN1]; exact not_cast e le
    have eA1 : bits BinOp.and IntKind.u64 (e : Int) (f : Int) = (A1 : Int) := by rw [u64_and_nat _ _ le lf, hA1]
    have eA2 : bits BinOp.and IntKind.u64 (N1 : Int) (m : Int) = (A2 : Int) := by rw [u64_and_nat _ _ lN1 lm, hA2]
    have eX1 : bits BinOp.xor IntKind.u64 (A1 : Int) (A2 : Int) = (X1 : Int) := by rw [u64_xor_nat _ _ lA1 lA2, hX1]
    have eB1 : bits BinOp.and IntKind.u64 (a : Int) (b : Int) = (B1 : Int) := by rw [u64_and_nat _ _ la lb, hB1]
    have eB2 : bits BinOp.and IntKind.u64 (a : Int) (c : Int) = (B2 : Int) := by rw [u64_and_nat _ _ la lc, hB2]
    have eB3 : bits BinOp.and IntKind.u64 (b : Int) (c : Int) = (B3 : Int) := by rw [u64_and_nat _ _ lb lc, hB3]
    have eX2 : bits BinOp.xor IntKind.u64 (B1 : Int) (B2 : Int) = (X2 : Int) := by rw [u64_xor_nat _ _ lB1 lB2, hX2]
    have eX3 : bits BinOp.xor IntKind.u64 (X2 : Int) (B3 : Int) = (X3 : Int) := by rw [u64_xor_nat _ _ lX2 lB3, hX3]
    have HE2 := Lib.hid (show rd vs (g0 kL i) u = [n0, a, b, c, n4, e, f, m] by rw [HE.out, hn0, hn4, hy, hz, hX3, hX2, hX1, hs3, hs2, hs1, hA1, hA2, hN1, hB1, hB2, hB3, hL1, hL2]; rfl)
    have RL1 := Lib.hid hL1
    have RL2 := Lib.hid hL2
    clear HE hL1 hs1 hs2 hs3 hA1 hN1 hA2 hX1 hy hL2 hB1 hB2 hB3 hX2 hX3 hz hn0 hn4
    have hwi : IntKind.i64.wrap (i : Int) = (i : Int) := by rw [IntKind.wrap_i64]; omega
    have hzi : 0 ≤ (i : Int) ∧ (i : Int) < 80 := by omega
    have ews1 : IntKind.u64.wrap ((h : Int) + (k : Int)) = (s1 : Int) := by simp [IntKind.wrap, IntKind.bits, IntKind.signed]; omega
    have ews2 : IntKind.u64.wrap ((s1 : Int) + (u : Int)) = (s2 : Int) := by simp [IntKind.wrap, IntKind.bits, IntKind.signed]; omega
    have ews3 : IntKind.u64.wrap ((s2 : Int) + (L1 : Int)) = (s3 : Int) := by simp [IntKind.wrap, IntKind.bits, IntKind.signed]; omega
    have ewy : IntKind.u64.wrap ((s3 : Int) + (X1 : Int)) = (y : Int) := by simp [IntKind.wrap, IntKind.bits, IntKind.signed]; omega
    have ewz : IntKind.u64.wrap ((L2 : Int) + (X3 : Int)) = (z : Int) := by simp [IntKind.wrap, IntKind.bits, IntKind.signed]; omega
    have ewn0 : IntKind.u64.wrap ((y : Int) + (z : Int)) = (n0 : Int) := by simp [IntKind.wrap, IntKind.bits, IntKind.signed]; omega
    have ewn4 : IntKind.u64.wrap ((d : Int) + (y : Int)) = (n4 : Int) := by simp [IntKind.wrap, IntKind.bits, IntKind.signed]; omega
    have ff := HV.out.frozen
    have f0 := ff 0
    have f1 := ff 1
    have f2 := ff 2
    have f3 := ff 3
    have f4 := ff 4
    have f5 := ff 5
    have f6 := ff 6
    have f7 := ff 7
    clear ff
    gi_wp2_with fail
    refine wpIn_region_held_drew (S := fun W => W.cell? ⟨V, 0, none⟩ = some (.int .u64 (a : Int)) ∧ W.cell? ⟨V, 1, none⟩ = some (.int .u64 (b : Int)) ∧ W.cell? ⟨V, 2, none⟩ = some (.int .u64 (c : Int)) ∧ W.cell? ⟨V, 3, none⟩ = some (.int .u64 (d : Int)) ∧ W.cell? ⟨V, 4, none⟩ = some (.int .u64 (e : Int)) ∧ W.cell? ⟨V, 5, none⟩ = some (.int .u64 (f : Int)) ∧ W.cell? ⟨V, 6, none⟩ = some (.int .u64 (m : Int)) ∧ W.cell? ⟨V, 7, none⟩ = some (.int .u64 (h : Int)) ∧ W.cell? ⟨Kb, i, none⟩ = some (.int .u64 (k : Int))) (by kernel_rfl) (plain_of (by kernel_rfl)) ?_ ⟨cv0, cv1, cv2, cv3, cv4, cv5, cv6, cv7, ck⟩ (fun hHeld => ?_)
    · rintro ⟨a, w, h⟩
      exact h
    refine' wpAnyH_take (i := 0) (oi := _) (v := _) rfl (by kernel_rfl) (by kernel_rfl) (by kernel_rfl) (fun _ _ _ h => h) (Or.inl ⟨?_, ?_⟩) (by assumption) ?_
    rotate_left
    all_goals (try simp only [List.getElem_toArray, List.getElem_cons_succ, List.getElem_cons_zero])
    · rfl
    · intro W hSw; (try dsimp only at hSw); go_simp; (try with_reducible rfl)
    try simp only [Act.put, List.setIfInBounds_toArray, List.set_cons_zero, List.set_cons_succ]
    refine' wpAnyH_take (i := 1) (oi := _) (v := _) rfl (by kernel_rfl) (by kernel_rfl) (by kernel_rfl) (fun _ _ _ h => h) (Or.inl ⟨?_, ?_⟩) (by assumption) ?_
    rotate_left
    all_goals (try simp only [List.getElem_toArray, List.getElem_cons_succ, List.getElem_cons_zero])
    · rfl
    · intro W hSw; (try dsimp only at hSw); go_simp; (try with_reducible rfl)
    try simp only [Act.put, List.setIfInBounds_toArray, List.set_cons_zero, List.set_cons_succ]
    refine' wpAnyH_take (i := 2) (oi := _) (v := _) rfl (by kernel_rfl) (by kernel_rfl) (by kernel_rfl) (fun _ _ _ h => h) (Or.inl ⟨?_, ?_⟩) (by assumption) ?_
    rotate_left
    all_goals (try simp only [List.getElem_toArray, List.getElem_cons_succ, List.getElem_cons_zero])
    · rfl
    · intro W hSw; (try dsimp only at hSw); go_simp; (try with_reducible rfl)
    try simp only [Act.put, List.setIfInBounds_toArray, List.set_cons_zero, List.set_cons_succ]
    refine' wpAnyH_take (i := 3) (oi := _) (v := _) rfl (by kernel_rfl) (by kernel_rfl) (by kernel_rfl) (fun _ _ _ h => h) (Or.inl ⟨?_, ?_⟩) (by assumption) ?_
    rotate_left
    all_goals (try simp only [List.getElem_toArray, List.getElem_cons_succ, List.getElem_cons_zero])
    · rfl
    · intro W hSw; (try dsimp only at hSw); go_simp; (try with_reducible rfl)
    try simp only [Act.put, List.setIfInBounds_toArray, List.set_cons_zero, List.set_cons_succ]
    refine' wpAnyH_take (i := 4) (oi := _) (v := _) rfl (by kernel_rfl) (by kernel_rfl) (by kernel_rfl) (fun _ _ _ h => h) (Or.inl ⟨?_, ?_⟩) (by assumption) ?_
    rotate_left
    all_goals (try simp only [List.getElem_toArray, List.getElem_cons_succ, List.getElem_cons_zero])
    · rfl
    · intro W hSw; (try dsimp only at hSw); go_simp; (try with_reducible rfl)
    try simp only [Act.put, List.setIfInBounds_toArray, List.set_cons_zero, List.set_cons_succ]
    refine' wpAnyH_take (i := 5) (oi := _) (v := _) rfl (by kernel_rfl) (by kernel_rfl) (by kernel_rfl) (fun _ _ _ h => h) (Or.inl ⟨?_, ?_⟩) (by assumption) ?_
    rotate_left
    all_goals (try simp only [List.getElem_toArray, List.getElem_cons_succ, List.getElem_cons_zero])
    · rfl
    · intro W hSw; (try dsimp only at hSw); go_simp; (try with_reducible rfl)
    try simp only [Act.put, List.setIfInBounds_toArray, List.set_cons_zero, List.set_cons_succ]
    refine' wpAnyH_take (i := 6) (oi := _) (v := _) rfl (by kernel_rfl) (by kernel_rfl) (by kernel_rfl) (fun _ _ _ h => h) (Or.inl ⟨?_, ?_⟩) (by assumption) ?_
    rotate_left
    all_goals (try simp only [List.getElem_toArray, List.getElem_cons_succ, List.getElem_cons_zero])
    · rfl
    · intro W hSw; (try dsimp only at hSw); go_simp; (try with_reducible rfl)
    try simp only [Act.put, List.setIfInBounds_toArray, List.set_cons_zero, List.set_cons_succ]
    refine' wpAnyH_take (i := 7) (oi := _) (v := _) rfl (by kernel_rfl) (by kernel_rfl) (by kernel_rfl) (fun _ _ _ h => h) (Or.inl ⟨?_, ?_⟩) (by assumption) ?_
    rotate_left
    all_goals (try simp only [List.getElem_toArray, List.getElem_cons_succ, List.getElem_cons_zero])
    · rfl
    · intro W hSw; (try dsimp only at hSw); go_simp; (try with_reducible rfl)
    try simp only [Act.put, List.setIfInBounds_toArray, List.set_cons_zero, List.set_cons_succ]
    refine' wpAnyH_take (i := 8) (oi := _) (v := _) rfl (by kernel_rfl) (by kernel_rfl) (by kernel_rfl) (fun _ _ _ h => h) (Or.inl ⟨?_, ?_⟩) (by assumption) ?_
    rotate_left
    all_goals (try simp only [List.getElem_toArray, List.getElem_cons_succ, List.getElem_cons_zero])
    · rfl
    · intro W hSw; (try dsimp only at hSw); go_simp; (try with_reducible rfl)
    try simp only [Act.put, List.setIfInBounds_toArray, List.set_cons_zero, List.set_cons_succ]
    refine' wpAnyH_take (i := 9) (oi := _) (v := _) rfl (by kernel_rfl) (by kernel_rfl) (by kernel_rfl) (fun _ _ _ h => h) (Or.inl ⟨?_, ?_⟩) (by assumption) ?_
    rotate_left
    all_goals (try simp only [List.getElem_toArray, List.getElem_cons_succ, List.getElem_cons_zero])
    · rfl
    · intro W hSw; (try dsimp only at hSw); go_simp; (try with_reducible rfl)
    try simp only [Act.put, List.setIfInBounds_toArray, List.set_cons_zero, List.set_cons_succ]
    refine' wpAnyH_take (i := 12) (oi := _) (v := _) rfl (by kernel_rfl) (by kernel_rfl) (by kernel_rfl) (fun _ _ _ h => h) (Or.inl ⟨?_, ?_⟩) (by assumption) ?_
    rotate_left
    all_goals (try simp only [List.getElem_toArray, List.getElem_cons_succ, List.getElem_cons_zero])
    · rfl
    · intro W hSw; (try dsimp only at hSw); go_simp; (try with_reducible rfl)
    try simp only [Act.put, List.setIfInBounds_toArray, List.set_cons_zero, List.set_cons_succ]
    refine' wpAnyH_take (i := 13) (oi := _) (v := _) rfl (by kernel_rfl) (by kernel_rfl) (by kernel_rfl) (fun _ _ _ h => h) (Or.inl ⟨?_, ?_⟩) (by assumption) ?_
    rotate_left
    all_goals (try simp only [List.getElem_toArray, List.getElem_cons_succ, List.getElem_cons_zero])
    · rfl
    · intro W hSw; (try dsimp only at hSw); go_simp; (try with_reducible rfl)
    try simp only [Act.put, List.setIfInBounds_toArray, List.set_cons_zero, List.set_cons_succ]
    refine' wpAnyH_take (i := 14) (oi := _) (v := _) rfl (by kernel_rfl) (by kernel_rfl) (by kernel_rfl) (fun _ _ _ h => h) (Or.inl ⟨?_, ?_⟩) (by assumption) ?_
    rotate_left
    all_goals (try simp only [List.getElem_toArray, List.getElem_cons_succ, List.getElem_cons_zero])
    · rfl
    · intro W hSw; (try dsimp only at hSw); go_simp; (try with_reducible rfl)
    try simp only [Act.put, List.setIfInBounds_toArray, List.set_cons_zero, List.set_cons_succ]
    refine' wpAnyH_take (i := 15) (oi := _) (v := _) rfl (by kernel_rfl) (by kernel_rfl) (by kernel_rfl) (fun _ _ _ h => h) (Or.inl ⟨?_, ?_⟩) (by assumption) ?_
    rotate_left
    all_goals (try simp only [List.getElem_toArray, List.getElem_cons_succ, List.getElem_cons_zero])
    · rfl
    · intro W hSw; (try dsimp only at hSw); go_simp; (try with_reducible rfl)
    try simp only [Act.put, List.setIfInBounds_toArray, List.set_cons_zero, List.set_cons_succ]
    refine' wpAnyH_take (i := 16) (oi := _) (v := _) rfl (by kernel_rfl) (by kernel_rfl) (by kernel_rfl) (fun _ _ _ h => h) (Or.inl ⟨?_, ?_⟩) (by assumption) ?_
    rotate_left
    all_goals (try simp only [List.getElem_toArray, List.getElem_cons_succ, List.getElem_cons_zero])
    · rfl
    · intro W hSw; (try dsimp only at hSw); go_simp; (try with_reducible rfl)
    try simp only [Act.put, List.setIfInBounds_toArray, List.set_cons_zero, List.set_cons_succ]
    refine' wpAnyH_take (i := 17) (oi := _) (v := _) rfl (by kernel_rfl) (by kernel_rfl) (by kernel_rfl) (fun _ _ _ h => h) (Or.inl ⟨?_, ?_⟩) (by assumption) ?_
    rotate_left
    all_goals (try simp only [List.getElem_toArray, List.getElem_cons_succ, List.getElem_cons_zero])
    · rfl
    · intro W hSw; (try dsimp only at hSw); go_simp; (try with_reducible rfl)
    try simp only [Act.put, List.setIfInBounds_toArray, List.set_cons_zero, List.set_cons_succ]
    refine' wpAnyH_take (i := 18) (oi := _) (v := _) rfl (by kernel_rfl) (by kernel_rfl) (by kernel_rfl) (fun _ _ _ h => h) (Or.inl ⟨?_, ?_⟩) (by assumption) ?_
    rotate_left
    all_goals (try simp only [List.getElem_toArray, List.getElem_cons_succ, List.getElem_cons_zero])
    · rfl
    · intro W hSw; (try dsimp only at hSw); go_simp; (try with_reducible rfl)
    try simp only [Act.put, List.setIfInBounds_toArray, List.set_cons_zero, List.set_cons_succ]
    refine' wpAnyH_take (i := 19) (oi := _) (v := _) rfl (by kernel_rfl) (by kernel_rfl) (by kernel_rfl) (fun _ _ _ h => h) (Or.inl ⟨?_, ?_⟩) (by assumption) ?_
    rotate_left
    all_goals (try simp only [List.getElem_toArray, List.getElem_cons_succ, List.getElem_cons_zero])
    · rfl
    · intro W hSw; (try dsimp only at hSw); go_simp; (try with_reducible rfl)
    try simp only [Act.put, List.setIfInBounds_toArray, List.set_cons_zero, List.set_cons_succ]
    refine' wpAnyH_take (i := 20) (oi := _) (v := _) rfl (by kernel_rfl) (by kernel_rfl) (by kernel_rfl) (fun _ _ _ h => h) (Or.inl ⟨?_, ?_⟩) (by assumption) ?_
    rotate_left
    all_goals (try simp only [List.getElem_toArray, List.getElem_cons_succ, List.getElem_cons_zero])
    · rfl
    · intro W hSw; (try dsimp only at hSw); go_simp; (try with_reducible rfl)
    try simp only [Act.put, List.setIfInBounds_toArray, List.set_cons_zero, List.set_cons_succ]
    refine' wpAnyH_take (i := 21) (oi := _) (v := _) rfl (by kernel_rfl) (by kernel_rfl) (by kernel_rfl) (fun _ _ _ h => h) (Or.inl ⟨?_, ?_⟩) (by assumption) ?_
    rotate_left
    all_goals (try simp only [List.getElem_toArray, List.getElem_cons_succ, List.getElem_cons_zero])
    · rfl
    · intro W hSw; (try dsimp only at hSw); go_simp; (try with_reducible rfl)
    try simp only [Act.put, List.setIfInBounds_toArray, List.set_cons_zero, List.set_cons_succ]
    refine' wpAnyH_take (i := 22) (oi := _) (v := _) rfl (by kernel_rfl) (by kernel_rfl) (by kernel_rfl) (fun _ _ _ h => h) (Or.inl ⟨?_, ?_⟩) (by assumption) ?_
    rotate_left
    all_goals (try simp only [List.getElem_toArray, List.getElem_cons_succ, List.getElem_cons_zero])
    · rfl
    · intro W hSw; (try dsimp only at hSw); go_simp; (try with_reducible rfl)
    try simp only [Act.put, List.setIfInBounds_toArray, List.set_cons_zero, List.set_cons_succ]
    refine' wpAnyH_take (i := 23) (oi := _) (v := _) rfl (by kernel_rfl) (by kernel_rfl) (by kernel_rfl) (fun _ _ _ h => h) (Or.inl ⟨?_, ?_⟩) (by assumption) ?_
    rotate_left
    all_goals (try simp only [List.getElem_toArray, List.getElem_cons_succ, List.getElem_cons_zero])
    · rfl
    · intro W hSw; (try dsimp only at hSw); go_simp; (try with_reducible rfl)
    try simp only [Act.put, List.setIfInBounds_toArray, List.set_cons_zero, List.set_cons_succ]
    refine wpAnyH_ready (rs := [10]) (by kernel_rfl) (by simp) ?_
    refine AllReadyH.cons (o := _) rfl (fun K hK => ?_) AllReadyH.nil
    try simp only [List.getElem_toArray, List.getElem_cons_succ, List.getElem_cons_zero]
    go_simp
    refine (laid_any e 14 18 41 _ _ _ _ rfl rfl rfl (by decide) (by decide) (by decide) le L1 RL1.out).mono ?_; rintro e5 w5 ⟨rfl, rfl⟩
    go_wp2_with fail
    refine hK.out _ _ hHeld (fun hHeld => ?_)
    clear hK K
    try simp only [Act.put, List.setIfInBounds_toArray, List.set_cons_zero, List.set_cons_succ]
    refine' wpAnyH_take (i := 11) (oi := _) (v := _) rfl (by kernel_rfl) (by kernel_rfl) (by kernel_rfl) (fun _ _ _ h => h) (Or.inl ⟨?_, ?_⟩) (by assumption) ?_
    rotate_left
    all_goals (try simp only [List.getElem_toArray, List.getElem_cons_succ, List.getElem_cons_zero])
    · rfl
    · intro W hSw; (try dsimp only at hSw); go_simp; (try with_reducible rfl)
    try simp only [Act.put, List.setIfInBounds_toArray, List.set_cons_zero, List.set_cons_succ]
    refine' wpAnyH_take (i := 24) (oi := _) (v := _) rfl (by kernel_rfl) (by kernel_rfl) (by kernel_rfl) (fun _ _ _ h => h) (Or.inl ⟨?_, ?_⟩) (by assumption) ?_
    rotate_left
    all_goals (try simp only [List.getElem_toArray, List.getElem_cons_succ, List.getElem_cons_zero])
    · rfl
    · intro W hSw; (try dsimp only at hSw); go_simp; (try with_reducible rfl)
    try simp only [Act.put, List.setIfInBounds_toArray, List.set_cons_zero, List.set_cons_succ]
    refine' wpAnyH_take (i := 25) (oi := _) (v := _) rfl (by kernel_rfl) (by kernel_rfl) (by kernel_rfl) (fun _ _ _ h => h) (Or.inl ⟨?_, ?_⟩) (by assumption) ?_
    rotate_left
    all_goals (try simp only [List.getElem_toArray, List.getElem_cons_succ, List.getElem_cons_zero])
    · rfl
    · intro W hSw; (try dsimp only at hSw); go_simp; (try with_reducible rfl)
    try simp only [Act.put, List.setIfInBounds_toArray, List.set_cons_zero, List.set_cons_succ]
    refine wpAnyH_done (by kernel_rfl) ?_ _
    gi_wp2_with fail
    refine wpIn_region_held_drew (S := fun W => W.cell? ⟨V, 0, none⟩ = some (.int .u64 (a : Int)) ∧ W.cell? ⟨V, 1, none⟩ = some (.int .u64 (b : Int)) ∧ W.cell? ⟨V, 2, none⟩ = some (.int .u64 (c : Int)) ∧ W.cell? ⟨V, 3, none⟩ = some (.int .u64 (d : Int)) ∧ W.cell? ⟨V, 4, none⟩ = some (.int .u64 (e : Int)) ∧ W.cell? ⟨V, 5, none⟩ = some (.int .u64 (f : Int)) ∧ W.cell? ⟨V, 6, none⟩ = some (.int .u64 (m : Int)) ∧ W.cell? ⟨V, 7, none⟩ = some (.int .u64 (h : Int)) ∧ W.cell? ⟨Kb, i, none⟩ = some (.int .u64 (k : Int))) (by kernel_rfl) (plain_of (by kernel_rfl)) ?_ ⟨cv0, cv1, cv2, cv3, cv4, cv5, cv6, cv7, ck⟩ (fun hHeld => ?_)
    · rintro ⟨a, w, h⟩
      exact h
    refine' wpAnyH_take (i := 0) (oi := _) (v := _) rfl (by kernel_rfl) (by kernel_rfl) (by kernel_rfl) (fun _ _ _ h => h) (Or.inl ⟨?_, ?_⟩) (by assumption) ?_
    rotate_left
    all_goals (try simp only [List.getElem_toArray, List.getElem_cons_succ, List.getElem_cons_zero])
    · rfl
    · intro W hSw; (try dsimp only at hSw); go_simp; (try with_reducible rfl)
    try simp only [Act.put, List.setIfInBounds_toArray, List.set_cons_zero, List.set_cons_succ]
    refine' wpAnyH_take (i := 1) (oi := _) (v := _) rfl (by kernel_rfl) (by kernel_rfl) (by kernel_rfl) (fun _ _ _ h => h) (Or.inl ⟨?_, ?_⟩) (by assumption) ?_
    rotate_left
    all_goals (try simp only [List.getElem_toArray, List.getElem_cons_succ, List.getElem_cons_zero])
    · rfl
    · intro W hSw; (try dsimp only at hSw); go_simp; (try with_reducible rfl)
    try simp only [Act.put, List.setIfInBounds_toArray, List.set_cons_zero, List.set_cons_succ]
    refine' wpAnyH_take (i := 3) (oi := _) (v := _) rfl (by kernel_rfl) (by kernel_rfl) (by kernel_rfl) (fun _ _ _ h => h) (Or.inl ⟨?_, ?_⟩) (by assumption) ?_
    rotate_left
    all_goals (try simp only [List.getElem_toArray, List.getElem_cons_succ, List.getElem_cons_zero])
    · rfl
    · intro W hSw; (try dsimp only at hSw); go_simp; (try with_reducible rfl)
    try simp only [Act.put, List.setIfInBounds_toArray, List.set_cons_zero, List.set_cons_succ]
    refine' wpAnyH_take (i := 4) (oi := _) (v := _) rfl (by kernel_rfl) (by kernel_rfl) (by kernel_rfl) (fun _ _ _ h => h) (Or.inl ⟨?_, ?_⟩) (by assumption) ?_
    rotate_left
    all_goals (try simp only [List.getElem_toArray, List.getElem_cons_succ, List.getElem_cons_zero])
    · rfl
    · intro W hSw; (try dsimp only at hSw); go_simp; (try with_reducible rfl)
    try simp only [Act.put, List.setIfInBounds_toArray, List.set_cons_zero, List.set_cons_succ]
    refine' wpAnyH_take (i := 5) (oi := _) (v := _) rfl (by kernel_rfl) (by kernel_rfl) (by kernel_rfl) (fun _ _ _ h => h) (Or.inl ⟨?_, ?_⟩) (by assumption) ?_
    rotate_left
    all_goals (try simp only [List.getElem_toArray, List.getElem_cons_succ, List.getElem_cons_zero])
    · rfl
    · intro W hSw; (try dsimp only at hSw); go_simp; (try with_reducible rfl)
    try simp only [Act.put, List.setIfInBounds_toArray, List.set_cons_zero, List.set_cons_succ]
    refine' wpAnyH_take (i := 6) (oi := _) (v := _) rfl (by kernel_rfl) (by kernel_rfl) (by kernel_rfl) (fun _ _ _ h => h) (Or.inl ⟨?_, ?_⟩) (by assumption) ?_
    rotate_left
    all_goals (try simp only [List.getElem_toArray, List.getElem_cons_succ, List.getElem_cons_zero])
    · rfl
    · intro W hSw; (try dsimp only at hSw); go_simp; (try with_reducible rfl)
    try simp only [Act.put, List.setIfInBounds_toArray, List.set_cons_zero, List.set_cons_succ]
    refine' wpAnyH_take (i := 7) (oi := _) (v := _) rfl (by kernel_rfl) (by kernel_rfl) (by kernel_rfl) (fun _ _ _ h => h) (Or.inl ⟨?_, ?_⟩) (by assumption) ?_
    rotate_left
    all_goals (try simp only [List.getElem_toArray, List.getElem_cons_succ, List.getElem_cons_zero])
    · rfl
    · intro W hSw; (try dsimp only at hSw); go_simp; (try with_reducible rfl)
    try simp only [Act.put, List.setIfInBounds_toArray, List.set_cons_zero, List.set_cons_succ]
    refine' wpAnyH_take (i := 8) (oi := _) (v := _) rfl (by kernel_rfl) (by kernel_rfl) (by kernel_rfl) (fun _ _ _ h => h) (Or.inl ⟨?_, ?_⟩) (by assumption) ?_
    rotate_left
    all_goals (try simp only [List.getElem_toArray, List.getElem_cons_succ, List.getElem_cons_zero])
    · rfl
    · intro W hSw; (try dsimp only at hSw); go_simp; (try with_reducible rfl)
    try simp only [Act.put, List.setIfInBounds_toArray, List.set_cons_zero, List.set_cons_succ]
    refine' wpAnyH_take (i := 9) (oi := _) (v := _) rfl (by kernel_rfl) (by kernel_rfl) (by kernel_rfl) (fun _ _ _ h => h) (Or.inl ⟨?_, ?_⟩) (by assumption) ?_
    rotate_left
    all_goals (try simp only [List.getElem_toArray, List.getElem_cons_succ, List.getElem_cons_zero])
    · rfl
    · intro W hSw; (try dsimp only at hSw); go_simp; (try with_reducible rfl)
    try simp only [Act.put, List.setIfInBounds_toArray, List.set_cons_zero, List.set_cons_succ]
    refine' wpAnyH_take (i := 10) (oi := _) (v := _) rfl (by kernel_rfl) (by kernel_rfl) (by kernel_rfl) (fun _ _ _ h => h) (Or.inl ⟨?_, ?_⟩) (by assumption) ?_
    rotate_left
    all_goals (try simp only [List.getElem_toArray, List.getElem_cons_succ, List.getElem_cons_zero])
    · rfl
    · intro W hSw; (try dsimp only at hSw); go_simp; (try with_reducible rfl)
    try simp only [Act.put, List.setIfInBounds_toArray, List.set_cons_zero, List.set_cons_succ]
    refine' wpAnyH_take (i := 11) (oi := _) (v := _) rfl (by kernel_rfl) (by kernel_rfl) (by kernel_rfl) (fun _ _ _ h => h) (Or.inl ⟨?_, ?_⟩) (by assumption) ?_
    rotate_left
    all_goals (try simp only [List.getElem_toArray, List.getElem_cons_succ, List.getElem_cons_zero])
    · rfl
    · intro W hSw; (try dsimp only at hSw); go_simp; (try with_reducible rfl)
    try simp only [Act.put, List.setIfInBounds_toArray, List.set_cons_zero, List.set_cons_succ]
    refine' wpAnyH_take (i := 12) (oi := _) (v := _) rfl (by kernel_rfl) (by kernel_rfl) (by kernel_rfl) (fun _ _ _ h => h) (Or.inl ⟨?_, ?_⟩) (by assumption) ?_
    rotate_left
    all_goals (try simp only [List.getElem_toArray, List.getElem_cons_succ, List.getElem_cons_zero])
    · rfl
    · intro W hSw; (try dsimp only at hSw); go_simp; (try with_reducible rfl)
    try simp only [Act.put, List.setIfInBounds_toArray, List.set_cons_zero, List.set_cons_succ]
    refine' wpAnyH_take (i := 13) (oi := _) (v := _) rfl (by kernel_rfl) (by kernel_rfl) (by kernel_rfl) (fun _ _ _ h => h) (Or.inl ⟨?_, ?_⟩) (by assumption) ?_
    rotate_left
    all_goals (try simp only [List.getElem_toArray, List.getElem_cons_succ, List.getElem_cons_zero])
    · rfl
    · intro W hSw; (try dsimp only at hSw); go_simp; (try with_reducible rfl)
    try simp only [Act.put, List.setIfInBounds_toArray, List.set_cons_zero, List.set_cons_succ]
    refine' wpAnyH_take (i := 14) (oi := _) (v := _) rfl (by kernel_rfl) (by kernel_rfl) (by kernel_rfl) (fun _ _ _ h => h) (Or.inl ⟨?_, ?_⟩) (by assumption) ?_
    rotate_left
    all_goals (try simp only [List.getElem_toArray, List.getElem_cons_succ, List.getElem_cons_zero])
    · rfl
    · intro W hSw; (try dsimp only at hSw); go_simp; (try with_reducible rfl)
    try simp only [Act.put, List.setIfInBounds_toArray, List.set_cons_zero, List.set_cons_succ]
    refine' wpAnyH_take (i := 15) (oi := _) (v := _) rfl (by kernel_rfl) (by kernel_rfl) (by kernel_rfl) (fun _ _ _ h => h) (Or.inl ⟨?_, ?_⟩) (by assumption) ?_
    rotate_left
    all_goals (try simp only [List.getElem_toArray, List.getElem_cons_succ, List.getElem_cons_zero])
    · rfl
    · intro W hSw; (try dsimp only at hSw); go_simp; (try with_reducible rfl)
    try simp only [Act.put, List.setIfInBounds_toArray, List.set_cons_zero, List.set_cons_succ]
    refine' wpAnyH_take (i := 16) (oi := _) (v := _) rfl (by kernel_rfl) (by kernel_rfl) (by kernel_rfl) (fun _ _ _ h => h) (Or.inl ⟨?_, ?_⟩) (by assumption) ?_
    rotate_left
    all_goals (try simp only [List.getElem_toArray, List.getElem_cons_succ, List.getElem_cons_zero])
    · rfl
    · intro W hSw; (try dsimp only at hSw); go_simp; (try with_reducible rfl)
    try simp only [Act.put, List.setIfInBounds_toArray, List.set_cons_zero, List.set_cons_succ]
    refine' wpAnyH_take (i := 17) (oi := _) (v := _) rfl (by kernel_rfl) (by kernel_rfl) (by kernel_rfl) (fun _ _ _ h => h) (Or.inl ⟨?_, ?_⟩) (by assumption) ?_
    rotate_left
    all_goals (try simp only [List.getElem_toArray, List.getElem_cons_succ, List.getElem_cons_zero])
    · rfl
    · intro W hSw; (try dsimp only at hSw); go_simp; (try with_reducible rfl)
    try simp only [Act.put, List.setIfInBounds_toArray, List.set_cons_zero, List.set_cons_succ]
    refine' wpAnyH_take (i := 18) (oi := _) (v := _) rfl (by kernel_rfl) (by kernel_rfl) (by kernel_rfl) (fun _ _ _ h => h) (Or.inl ⟨?_, ?_⟩) (by assumption) ?_
    rotate_left
    all_goals (try simp only [List.getElem_toArray, List.getElem_cons_succ, List.getElem_cons_zero])
    · rfl
    · intro W hSw; (try dsimp only at hSw); go_simp; (try with_reducible rfl)
    try simp only [Act.put, List.setIfInBounds_toArray, List.set_cons_zero, List.set_cons_succ]
    refine' wpAnyH_take (i := 19) (oi := _) (v := _) rfl (by kernel_rfl) (by kernel_rfl) (by kernel_rfl) (fun _ _ _ h => h) (Or.inl ⟨?_, ?_⟩) (by assumption) ?_
    rotate_left
    all_goals (try simp only [List.getElem_toArray, List.getElem_cons_succ, List.getElem_cons_zero])
    · rfl
    · intro W hSw; (try dsimp only at hSw); go_simp; (try with_reducible rfl)
    try simp only [Act.put, List.setIfInBounds_toArray, List.set_cons_zero, List.set_cons_succ]
    refine wpAnyH_ready (rs := [2]) (by kernel_rfl) (by simp) ?_
    refine AllReadyH.cons (o := _) rfl (fun K hK => ?_) AllReadyH.nil
    try simp only [List.getElem_toArray, List.getElem_cons_succ, List.getElem_cons_zero]
    go_simp
    refine (laid_any a 28 34 39 _ _ _ _ rfl rfl rfl (by decide) (by decide) (by decide) la L2 RL2.out).mono ?_; rintro e5 w5 ⟨rfl, rfl⟩
    go_wp2_with fail
    refine hK.out _ _ hHeld (fun hHeld => ?_)
    clear hK K
    try simp only [Act.put, List.setIfInBounds_toArray, List.set_cons_zero, List.set_cons_succ]
    refine' wpAnyH_take (i := 20) (oi := _) (v := _) rfl (by kernel_rfl) (by kernel_rfl) (by kernel_rfl) (fun _ _ _ h => h) (Or.inl ⟨?_, ?_⟩) (by assumption) ?_
    rotate_left
    all_goals (try simp only [List.getElem_toArray, List.getElem_cons_succ, List.getElem_cons_zero])
    · rfl
    · intro W hSw; (try dsimp only at hSw); go_simp; (try with_reducible rfl)
    try simp only [Act.put, List.setIfInBounds_toArray, List.set_cons_zero, List.set_cons_succ]
    refine' wpAnyH_take (i := 21) (oi := _) (v := _) rfl (by kernel_rfl) (by kernel_rfl) (by kernel_rfl) (fun _ _ _ h => h) (Or.inl ⟨?_, ?_⟩) (by assumption) ?_
    rotate_left
    all_goals (try simp only [List.getElem_toArray, List.getElem_cons_succ, List.getElem_cons_zero])
    · rfl
    · intro W hSw; (try dsimp only at hSw); go_simp; (try with_reducible rfl)
    try simp only [Act.put, List.setIfInBounds_toArray, List.set_cons_zero, List.set_cons_succ]
    refine wpAnyH_done (by kernel_rfl) ?_ _
    clear cv0 cv1 cv2 cv3 cv4 cv5 cv6 cv7 ck
    have HG5 := Lib.hid (show W.grownBy W.drew.drew (some V) from ⟨rfl, rfl, rfl, Nat.le_refl _, fun _ _ _ => rfl⟩)
    have HV5 := Lib.hid (show Arr .u64 115 W.drew.drew V vs from HV.out)
    clear f0 f1 f2 f3 f4 f5 f6 f7
    generalize W.drew.drew = W5 at *
    have ff := HV5.out.frozen
    have f0 := ff 0
    have f1 := ff 1
    have f2 := ff 2
    have f3 := ff 3
    have f4 := ff 4
    have f5 := ff 5
    have f6 := ff 6
    have f7 := ff 7
    clear ff
    have d0 : W5.cell? ⟨V, 0, none⟩ = some (.int .u64 (a : Int)) := (HV5.out.cell 0 (by rw [hVl.out]; decide)).trans (by rw [show vs[0]?.getD 0 = a from HC0.out.symm])
    have d1 : W5.cell? ⟨V, 1, none⟩ = some (.int .u64 (b : Int)) := (HV5.out.cell 1 (by rw [hVl.out]; decide)).trans (by rw [show vs[1]?.getD 0 = b from HC1.out.symm])
    have d2 : W5.cell? ⟨V, 2, none⟩ = some (.int .u64 (c : Int)) := (HV5.out.cell 2 (by rw [hVl.out]; decide)).trans (by rw [show vs[2]?.getD 0 = c from HC2.out.symm])
    have d3 : W5.cell? ⟨V, 3, none⟩ = some (.int .u64 (d : Int)) := (HV5.out.cell 3 (by rw [hVl.out]; decide)).trans (by rw [show vs[3]?.getD 0 = d from HC3.out.symm])
    have d4 : W5.cell? ⟨V, 4, none⟩ = some (.int .u64 (e : Int)) := (HV5.out.cell 4 (by rw [hVl.out]; decide)).trans (by rw [show vs[4]?.getD 0 = e from HC4.out.symm])
    have d5 : W5.cell? ⟨V, 5, none⟩ = some (.int .u64 (f : Int)) := (HV5.out.cell 5 (by rw [hVl.out]; decide)).trans (by rw [show vs[5]?.getD 0 = f from HC5.out.symm])
    have d6 : W5.cell? ⟨V, 6, none⟩ = some (.int .u64 (m : Int)) := (HV5.out.cell 6 (by rw [hVl.out]; decide)).trans (by rw [show vs[6]?.getD 0 = m from HC6.out.symm])
    have d7 : W5.cell? ⟨V, 7, none⟩ = some (.int .u64 (h : Int)) := (HV5.out.cell 7 (by rw [hVl.out]; decide)).trans (by rw [show vs[7]?.getD 0 = h from HC7.out.symm])
    have HLT := Lib.hid (show ∀ x ∈ [n0, a, b, c, n4, e, f, m], x < 18446744073709551616 by intro x hx; simp at hx; omega)
    clear ews1 ews2 ews3 ewy ewz es1 es2 es3 ey ez eN1 eA1 eA2 eX1 eB1 eB2 eB3 eX2 eX3 lL1 ls1 ls2 ls3 lA1 lN1 lA2 lX1 lL2 lB1 lB2 lB3 lX2 lX3 hwi hzi
    gi_wp2_with fail
    have hg8 : W.grownBy ((((((((W5.setCell ⟨V, 0, none⟩ (.int .u64 (n0 : Int))).setCell ⟨V, 1, none⟩ (.int .u64 (a : Int))).setCell ⟨V, 2, none⟩ (.int .u64 (b : Int))).setCell ⟨V, 3, none⟩ (.int .u64 (c : Int))).setCell ⟨V, 4, none⟩ (.int .u64 (n4 : Int))).setCell ⟨V, 5, none⟩ (.int .u64 (e : Int))).setCell ⟨V, 6, none⟩ (.int .u64 (f : Int))).setCell ⟨V, 7, none⟩ (.int .u64 (m : Int))) (some V) := grown_set (grown_set (grown_set (grown_set (grown_set (grown_set (grown_set (grown_set (HG5.out) _ _) _ _) _ _) _ _) _ _) _ _) _ _) _ _
    have hVw := HV.out.lt
    have hkv := HKV.out
    refine ⟨(keeps_arr HV.out hg8).from _, KpT.grown hg8 (fun r e => by cases e; exact ⟨_, _, _, HV.out, by decide⟩), (hg8.block Kb HKB.out.lt (by intro e; cases e; omega)).trans HKB.out, ⟨[n0, a, b, c, n4, e, f, m], ?_, rfl, HLT.out, ?_⟩, HST.out.block (hg8.block g HST.out.lt (by intro e; cases e; omega)), HBL.out.grown hg8 HBL.out.size (fun r e => by cases e; omega)⟩
    · rw [← set8 hVl.out n0 a b c n4 e f m]
      exact ((((((((HV5.out).stored 0 n0 _ rfl).stored 1 a _ rfl).stored 2 b _ rfl).stored 3 c _ rfl).stored 4 n4 _ rfl).stored 5 e _ rfl).stored 6 f _ rfl).stored 7 m _ rfl
    · intro he
      rw [List.map_append] at he ⊢
      obtain ⟨h1, h2⟩ := told_split he
      rw [List.length_append, show ([(⟨(i, u), ⟨hlt, lu⟩⟩ : Pc CT)].map (·.1)).length = 1 from rfl, rdsN_succ]
      obtain ⟨e1, e2⟩ := Prod.mk.inj h2
      rw [← HSEM.out h1, ← e2, ← e1, HE2.out]
  · rintro D xs W hD hS ⟨hkb, ⟨vs, hv, hvl, hvb, hsem⟩, hst, hbel⟩ hK
    have hvs := hsem (by rw [hS, told_len])
    rw [hS, told_len] at hvs
    have HV := Lib.hid hv
    have hVl := Lib.hid hvl
    have hVb := Lib.hid hvb
    have HVS := Lib.hid hvs
    have HST := Lib.hid hst
    have HBL := Lib.hid hbel
    have HK := Lib.hid hK
    have HD := Lib.hid hD
    have HTN := Lib.hid (show turnN ws tail = addTo ws (rdsN ws (schedN tail) 80) 8 from rfl)
    have HG0 := Lib.hid (show W.grownBy W (some g) from ⟨rfl, rfl, rfl, Nat.le_refl _, fun _ _ _ => rfl⟩)
    clear hkb hv hvl hvb hsem hst hbel hK hD hS hvs
    go_wp2_with (refine wpList_load_row rfl _ _ rfl V rfl _ (arrC .u64 vs) _ _ HV.out Tryd.underlying115 rfl (by rw [arrC_size, hVl.out]; kernel_rfl) ?_)
    go_loopw [90] (fun iv wq => ∃ j : Nat, iv = .int .i64 (j : Int) ∧ j ≤ 8 ∧ Hid (StateAt wq g bt (addTo ws vs j) tail taken ∧ W.grownBy wq (some g))) (fun iv _ => 8 - (intOf iv).toNat)
    case atStart => exact ⟨0, rfl, by decide, HST.out, HG0.out⟩
    case round =>
      obtain ⟨j, rfl, hj, hI⟩ := hrel
      rcases Nat.lt_or_ge j 8 with hlt | hge
      · have hd : decide ((j : Int) < 8) = true := by simp; omega
        have cj := hI.out.1.word j hlt
        have fj := hI.out.1.frozen (1 + j)
        obtain ⟨x, hx⟩ : ∃ x, x = g0 (addTo ws vs j) j := ⟨_, rfl⟩
        rw [← hx] at cj
        have lx : x < 18446744073709551616 := hx ▸ g0_lt hI.out.1.wlt (by decide) j
        have ix := idx8 vs j hlt hVl.out
        obtain ⟨u, hu⟩ : ∃ u, u = g0 vs j := ⟨_, rfl⟩
        have lu : u < 18446744073709551616 := hu ▸ g0_lt hVb.out (by decide) j
        rw [show vs[j]?.getD 0 = u from hu.symm] at ix
        have ixw := ix wr
        obtain ⟨s, hs⟩ : ∃ s, s = (x + u) % 18446744073709551616 := ⟨_, rfl⟩
        have ls : s < 18446744073709551616 := by omega
        have es : ((x : Int) + (u : Int)) % 18446744073709551616 = (s : Int) := by omega
        have HE := Lib.hid (show addTo ws vs (j + 1) = (addTo ws vs j).set j s by rw [hs, hx, hu]; rfl)
        clear hx hu hs ix
        go_wp2_with fail
        go_region
        go_wp2
        go_roundw
        case rel => exact ⟨j + 1, by go_num, by omega, by rw [HE.out]; exact (hI.out.1.drew').setWord j s hlt _ (by simp [IntKind.wrap, IntKind.bits, IntKind.signed]; omega) ls, grown_set (grown_drew hI.out.2) _ _⟩
        case measure => simp [intOf]; omega
      · obtain rfl : j = 8 := by omega
        have hd : decide (((8 : Nat) : Int) < 8) = false := by decide
        have hkv := HKV.out
        have hzz := hz4.out
        have hDD := HD.out
        have hKr := (hI.out.2.block D (Array.getElem?_eq_some_iff.1 HK.out).1 (by intro e; cases e; omega)).trans HK.out
        have HKr := Lib.hid hKr
        clear hKr hkv hzz hDD
        go_wp2
        refine ⟨by simp, .inl ⟨_, _, rfl, run_takeDeferred HKr.out, ?_⟩⟩
        have hkv := HKV.out
        have hzz := hz4.out
        have hDD := HD.out
        refine ⟨_, results_none H0.out _ _ _, rfl, ?_, grown_past (grown_trans (grown_below HBL.out (some g)) hI.out.2) (grownBy_putObj' wr D _) (fun r e => by cases e; omega)⟩
        rw [HTN.out, ← HVS.out]
        exact hI.out.1.block (World.putObj_heap_other (by omega))
  · rintro D cc pre W hD hSp h
    exact h.elim
  · exact fun s X X' row h hg hr => h.stays hg (fun r e => by
      have h2 := HKV.out
      have h3 := hz4.out
      rcases hr r e with ⟨h4, -⟩
      omega)
  · exact fun cc s X X' row h hg hr => h

end Go.Proofs.YtpefjkndfifceaaDoor.L5

namespace Go.Proofs.YtpefjkndfifceaaDoor.L5
open Go.RowKit Go.Shelf
set_option maxRecDepth 100000

theorem _root_.Go.Proofs.YtpefjkndfifceaaDoor.Reads.from5 {q : IntKind} {w : World} {a : Option Addr} {len cap : Nat} {l : List Nat} (h : Reads q w a len cap l) (k : Nat) (hk : k ≤ len) : Reads q w (if cap = k then a else a.map (·.add k)) (len - k) (cap - k) (l.drop k) := by
  have := h.sub k len hk (Nat.le_refl _)
  rwa [List.take_of_length_le (by rw [h.length]; exact Nat.le_refl _)] at this
theorem join_take {m : List Nat} (k a l : Nat) : (m.drop k).take a ++ (m.drop (k + a)).take l = (m.drop k).take (a + l) := by
  rw [List.take_add, List.drop_drop]
theorem all_lt {l m : List Nat} {b : Nat} (h : ∀ x ∈ l, x < b) (k : ∀ x ∈ m, x < b) : ∀ x ∈ l ++ m, x < b := fun x hx => by
  rcases List.mem_append.1 hx with hx | hx
  · exact h x hx
  · exact k x hx
def slLen : Value → Nat
  | .slice _ m _ => m
  | _ => 0
/-- With so many blocks done. -/
def SemW (bt : Nat) (M : List Nat) (k0 s q : Nat) (ws tail : List Nat) (at' : Nat) : Prop := ws = wsK bt M q ∧ k0 + s = 128 * q + at' ∧ tail.take at' = (M.drop (128 * q)).take at'
theorem SemW.start {bt : Nat} {m0 bl ws tail : List Nat} (h : FinP bt m0 ws tail) : SemW bt (m0 ++ bl) m0.length 0 (m0.length / 128) ws tail (m0.length % 128) := by
  refine ⟨?_, by omega, ?_⟩
  · rw [h.1]
    exact wsK_ext _ (by rw [List.take_append_of_le_length (by omega)])
  · rw [h.2, List.drop_append_of_le_length (by omega), List.take_append_of_le_length (by rw [List.length_drop]; omega), List.take_of_length_le (by rw [List.length_drop]; omega)]
theorem SemW.next {bt s q at' : Nat} {m0 bl ws tail : List Nat} (h : SemW bt (m0 ++ bl) m0.length s q ws tail at') (ht : tail.length = 128) (ha : at' < 128) (hs : s ≤ bl.length) (hm : 128 ≤ at' + (bl.length - s)) :
    SemW bt (m0 ++ bl) m0.length (s + (128 - at')) (q + 1) (turnN ws (laidIn tail (bl.drop s) at')) (laidIn tail (bl.drop s) at') 0 := by
  obtain ⟨h1, h2, h3⟩ := h
  have hl : ((bl.drop s).take (128 - at')).length = 128 - at' := by rw [List.length_take, List.length_drop]; omega
  have hd : laidIn tail (bl.drop s) at' = ((m0 ++ bl).drop (128 * q)).take 128 := by
    unfold laidIn
    rw [hl, show tail.drop (at' + (128 - at')) = [] from List.drop_of_length_le (by omega), List.append_nil, h3, piece_eq (m0 := m0) s (128 - at'), h2, join_take, show at' + (128 - at') = 128 by omega]
  refine ⟨?_, by omega, rfl⟩
  rw [hd, h1]
  rfl
theorem SemW.fin {bt s q at' : Nat} {m0 bl ws tail : List Nat} (h : SemW bt (m0 ++ bl) m0.length s q ws tail at') (ht : tail.length = 128) (hs : s ≤ bl.length) (hm : at' + (bl.length - s) < 128) :
    FinP bt (m0 ++ bl) ws (laidIn tail (bl.drop s) at') := by
  obtain ⟨h1, h2, h3⟩ := h
  have hM : (m0 ++ bl).length = 128 * q + (at' + (bl.length - s)) := by rw [List.length_append]; omega
  have e1 : (m0 ++ bl).length / 128 = q := by omega
  have e2 : (m0 ++ bl).length % 128 = at' + (bl.drop s).length := by rw [List.length_drop]; omega
  refine ⟨by rw [e1]; exact h1, ?_⟩
  rw [e1, e2, laidIn_take ht (by rw [List.length_drop]; omega), h3]
  have hp := piece_eq (m0 := m0) (bl := bl) s (bl.length - s)
  rw [List.take_of_length_le (by rw [List.length_drop]; omega)] at hp
  rw [hp, h2, join_take, List.take_of_length_le (by rw [List.length_drop]; omega)]
/-- 'copy(s.tail[at:], b)'. -/
theorem StateAt.lay {w : World} {g bt : Nat} {ws tail : List Nat} {T : Nat} (h : StateAt w g bt ws tail T) (p : List Nat) (hp : ∀ x ∈ p, x < 256) (at' : Nat) (ha : at' < 128) (a : Option Addr) (l c : Nat) (hr : Reads .u8 w a l c p) (n : Nat) (hn : n = (p.take (128 - at')).length) :
    ∃ w', (Builtin.copy_ #[22, 22] 3 #[.slice (some ⟨g, 9 + at', none⟩) (128 - at') (128 - at'), .slice a l c]).run Tryd.prog w = .ok (.int .i64 (n : Int)) w' ∧ StateAt w' g bt ws (laidIn tail p at') T ∧ w.grownBy w' (some g) := by
  subst hn
  rcases Nat.eq_zero_or_pos l with rfl | hpos
  · have hp0 : p = [] := List.eq_nil_of_length_eq_zero hr.length
    subst hp0
    refine ⟨w, ?_, ?_, ⟨rfl, rfl, rfl, Nat.le_refl _, fun _ _ _ => rfl⟩⟩
    · have := run_copy_none (P := Tryd.prog) w 22 22 3 5 (some ⟨g, 9 + at', none⟩) a (128 - at') (128 - at') 0 c Tryd.underlying22 (by kernel_rfl) (Nat.zero_min _)
      rw [this]
      simp [goInt]
    · have e : laidIn tail [] at' = tail := by unfold laidIn; simp
      rw [e]
      exact h
  · obtain ⟨b, o, rfl, -, -⟩ := hr.cells hpos
    obtain ⟨h1, h2⟩ := h.splice p hp at' (Nat.le_of_lt ha) b o l c hr
    exact ⟨_, h1, h2, grown_setRow ⟨rfl, rfl, rfl, Nat.le_refl _, fun _ _ _ => rfl⟩ _⟩

set_option maxRecDepth 100000 in
set_option maxHeartbeats 4000000 in
theorem write_core (g bt : Nat) (ws tail m0 bl : List Nat) (a : Option Addr) (n c : Nat) (w : World) (h : StateAt w g bt ws tail m0.length) (hf : FinP bt m0 ws tail) (hbt : bt ≠ 0) (hr : Reads .u8 w a n c bl) (hb : ∀ x ∈ bl, x < 256) (hlen : m0.length + n < 2305843009213693952) (hne : 0 < n → ∀ ad, a = some ad → ad.block ≠ g) :
    Calls Tryd.prog 63 #[.pointer (some ⟨g, 0, none⟩), .slice a n c] w fun e w' => e = .returned (.tuple #[]) ∧ (∃ ws' tail', StateAt w' g bt ws' tail' (m0 ++ bl).length ∧ FinP bt (m0 ++ bl) ws' tail') ∧ w.grownBy w' (some g) := by
  have h0 : Tryd.f63.results = #[] := by kernel_rfl
  have H0 := Lib.hid h0
  have H := Lib.hid h
  have HR := Lib.hid hr
  have HB := Lib.hid hb
  have HN := Lib.hid hne
  have HF := Lib.hid hf
  have hnl := Lib.hid hr.length
  obtain ⟨T0, hT0⟩ : ∃ T, T = m0.length := ⟨_, rfl⟩
  obtain ⟨at0, hat0⟩ : ∃ x, x = T0 % 128 := ⟨_, rfl⟩
  have hatc : (T0 : Int) % 128 = (at0 : Int) := by omega
  have hat128 : at0 < 128 := by omega
  have hst := h
  rw [← hT0] at hst hlen
  have HST := Lib.hid hst
  have cT := hst.taken
  have fT := hst.frozen 137
  obtain ⟨T1, hT1⟩ : ∃ T, T = T0 + n := ⟨_, rfl⟩
  have hsum : (T0 : Int) + (n : Int) = (T1 : Int) := by omega
  have hT1b : T1 < 2305843009213693952 := by omega
  have hT0b : T0 < 2305843009213693952 := by omega
  have hnb : n < 2305843009213693952 := by omega
  have HT0 := Lib.hid hT0
  have HT1 := Lib.hid hT1
  have HAT0 := Lib.hid hat0
  clear h hr hb hne hf h0 hT0 hT1 hat0 hst hlen
  go_enter Tryd.func63, Tryd.ntmps63
  go_wp2_with fail
  refine (made_yes g bt ws tail T0 w HST.out hbt).mono ?_
  rintro e w1 ⟨rfl, rfl⟩
  go_wp2_with fail
  have hg1 := Lib.hid (grown_set (x := w) (y := w) (g := g) ⟨rfl, rfl, rfl, Nat.le_refl _, fun _ _ _ => rfl⟩ 137 (.int .u64 (T1 : Int)))
  have hs1 := Lib.hid (HST.out.setTaken T1 (T1 : Int) rfl)
  have hr1 := Lib.hid (HR.out.grownNe5 hg1.out (fun hp ad e h => HN.out hp ad e (Option.some.inj h)))
  have hsem := Lib.hid (SemW.start (bl := bl) HF.out)
  clear cT fT hatc hsum
  generalize w.setCell ⟨g, 137, none⟩ (.int .u64 (T1 : Int)) = w1 at *
  go_loopw [1, 4] (fun bv av wr => ∃ (s m c' at' q : Nat) (a' : Option Addr), bv = .slice a' m c' ∧ av = .int .i64 (at' : Int) ∧ at' < 128 ∧ m < 2305843009213693952 ∧ c' ≤ 9223372036854775807 ∧ Hid (s + m = n ∧ Reads .u8 wr a' m c' (bl.drop s) ∧ (0 < m → ∀ ad, a' = some ad → ad.block ≠ g) ∧ (∃ ws tail, StateAt wr g bt ws tail T1 ∧ SemW bt (m0 ++ bl) m0.length s q ws tail at') ∧ w.grownBy wr (some g))) (fun bv _ _ => slLen bv)
  case atStart => exact ⟨0, n, c, at0, m0.length / 128, a, rfl, rfl, hat128, hnb, by have := hr1.out.max; unfold maxLen at this; omega, by omega, hr1.out, HN.out, ⟨ws, tail, hs1.out, by rw [HAT0.out, HT0.out]; exact hsem.out⟩, hg1.out⟩
  case round =>
    obtain ⟨s, m, c', at', q, a', rfl, rfl, hat, hmb, hcb, hI⟩ := hrel
    obtain ⟨hsm, hrd, hblk, ⟨wz, tz, hst, hsm2⟩, hgr⟩ := hI.out
    have HSM := Lib.hid hsm
    have HRD := Lib.hid hrd
    have HBLK := Lib.hid hblk
    have HS := Lib.hid hst
    have HSEM := Lib.hid hsm2
    have HGR := Lib.hid hgr
    have HBP := Lib.hid (show ∀ x ∈ bl.drop s, x < 256 from fun x hx => HB.out x (List.mem_of_mem_drop hx))
    clear hsm hrd hblk hst hsm2 hgr hI hg1 hs1 hr1 hsem
    have hsl := slice_tail g at' hat
    by_cases hc : 128 ≤ at' + m
    · have hd : decide (128 ≤ (at' : Int) + (m : Int)) = true := by simp; omega
      obtain ⟨u, hu⟩ : ∃ u, u = 128 - at' := ⟨_, rfl⟩
      have hu1 : 1 ≤ u := by omega
      have hu2 : u ≤ 128 := by omega
      have hum : u ≤ m := by omega
      have hlu : ((bl.drop s).take (128 - at')).length = u := by
        have := HSM.out
        have := hnl.out
        rw [List.length_take, List.length_drop]
        omega
      obtain ⟨w2, hcp, hs2, hg2⟩ := HS.out.lay (bl.drop s) HBP.out at' hat a' m c' HRD.out u hlu.symm
      have HS2 := Lib.hid hs2
      have HG2 := Lib.hid hg2
      have HU := Lib.hid hu
      obtain ⟨blk, o, rfl, -, -⟩ := HRD.out.cells (by omega)
      have hfr := HRD.out.from5 u hum
      rw [List.drop_drop] at hfr
      have hc1 := HRD.out.le
      have HC := Lib.hid hc
      clear hs2 hg2 hu hlu hc
      by_cases hck : c' = u
      · have hck2 := hck.symm
        clear hck
        subst hck2
        rw [if_pos rfl, Nat.sub_self, show m - u = 0 by omega] at hfr
        have HFR := Lib.hid hfr
        have HM0 := Lib.hid (show m = u by omega)
        clear hfr
        go_wp2_with fail
        refine (turn_any g bt wz (laidIn tz (bl.drop s) at') T1 w2 HS2.out).mono ?_
        rintro e w3 ⟨rfl, hs3, hg3⟩
        have HS3 := Lib.hid hs3
        have HG3 := Lib.hid (grown_trans HG2.out hg3)
        clear hs3 hg3 hcp hsl
        go_wp2
        go_roundw
        case rel => exact ⟨s + u, 0, 0, 0, q + 1, _, rfl, by go_num, by decide, by decide, by decide, by have := HSM.out; have := HM0.out; omega, (HFR.out.grownNe5 HG3.out (fun h => by omega)), (fun h => by omega), ⟨_, _, HS3.out, by have := HSEM.out.next HS.out.tlen hat (by have := HSM.out; have := hnl.out; omega) (by have := HSM.out; have := hnl.out; have := HC.out; omega); rw [HU.out]; exact this⟩, grown_trans HGR.out HG3.out⟩
        case measure => simp [slLen]; omega
      · rw [if_neg hck, show ((some ⟨blk, o, none⟩ : Option Addr).map (·.add u)) = some ⟨blk, o + u, none⟩ by simp only [Option.map_some]; congr 1; unfold Addr.add; split <;> simp_all] at hfr
        have HFR := Lib.hid hfr
        clear hfr
        go_wp2_with fail
        refine (turn_any g bt wz (laidIn tz (bl.drop s) at') T1 w2 HS2.out).mono ?_
        rintro e w3 ⟨rfl, hs3, hg3⟩
        have HS3 := Lib.hid hs3
        have HG3 := Lib.hid (grown_trans HG2.out hg3)
        clear hs3 hg3 hcp hsl
        go_wp2
        go_roundw
        case rel => exact ⟨s + u, m - u, c' - u, 0, q + 1, _, rfl, by go_num, by decide, by omega, by omega, by have := HSM.out; omega, (HFR.out.grownNe5 HG3.out (fun h ad e => by cases e; intro e2; exact HBLK.out (by omega) ⟨blk, o, none⟩ rfl (Option.some.inj e2))), (fun h ad e => by cases e; exact HBLK.out (by omega) ⟨blk, o, none⟩ rfl), ⟨_, _, HS3.out, by have := HSEM.out.next HS.out.tlen hat (by have := HSM.out; have := hnl.out; omega) (by have := HSM.out; have := hnl.out; have := HC.out; omega); rw [HU.out]; exact this⟩, grown_trans HGR.out HG3.out⟩
        case measure => simp [slLen]; omega
    · have hd : decide (128 ≤ (at' : Int) + (m : Int)) = false := by simp; omega
      have HC := Lib.hid hc
      clear hc
      obtain ⟨u, hu⟩ : ∃ u, u = ((bl.drop s).take (128 - at')).length := ⟨_, rfl⟩
      obtain ⟨w2, hcp, hs2, hg2⟩ := HS.out.lay (bl.drop s) HBP.out at' hat a' m c' HRD.out u hu
      have HS2 := Lib.hid hs2
      have HG2 := Lib.hid hg2
      clear hs2 hg2 hu
      go_wp2
      refine bodyPost_end (v := .tuple #[]) (by simp [results, H0.out]) rfl ?_
      refine ⟨rfl, ⟨wz, _, ?_, HSEM.out.fin HS.out.tlen (by have := HSM.out; have := hnl.out; omega) (by have := HSM.out; have := hnl.out; have := HC.out; omega)⟩, grown_trans HGR.out HG2.out⟩
      rw [List.length_append, hnl.out, ← HT0.out, ← HT1.out]
      exact HS2.out

theorem write_any (g bt : Nat) (m0 bl : List Nat) (a : Option Addr) (n c : Nat) (w : World) (h : StateOf w g bt m0) (hbt : bt ≠ 0) (hr : Reads .u8 w a n c bl) (hb : ∀ x ∈ bl, x < 256) (hlen : m0.length + n < 1152921504606846976) (hne : 0 < n → ∀ ad, a = some ad → ad.block ≠ g) :
    Calls Tryd.prog 63 #[.pointer (some ⟨g, 0, none⟩), .slice a n c] w fun e w' => e = .returned (.tuple #[]) ∧ StateOf w' g bt (m0 ++ bl) ∧ w.grownBy w' (some g) := by
  obtain ⟨ws, tail, hst, hfin, -, hm0⟩ := h
  have hnl := hr.length
  exact (write_core g bt ws tail m0 bl a n c w hst hfin hbt hr hb (by omega) hne).mono fun _ _ ⟨h1, ⟨ws', tail', h2, h3⟩, h4⟩ => ⟨h1, ⟨ws', tail', h2, h3, by rw [List.length_append]; omega, all_lt hm0 hb⟩, h4⟩

end Go.Proofs.YtpefjkndfifceaaDoor.L5

namespace Go.Proofs.YtpefjkndfifceaaDoor.L5
open Go.RowKit Go.Shelf
set_option maxRecDepth 100000

set_option maxHeartbeats 1000000 in
theorem start512_any (T : Nat) (w : World) : Calls Tryd.prog 75 #[.pointer (some ⟨T, 0, none⟩), .int .i64 512] w fun e w' => e = .returned (.slice (some ⟨T, 80, none⟩) 8 16) ∧ w = w' := by
  go_enter Tryd.func75, Tryd.ntmps75
  go_wp2
  go_ret
  exact ⟨rfl, rfl⟩
set_option maxHeartbeats 1000000 in
theorem start384_any (T : Nat) (w : World) : Calls Tryd.prog 75 #[.pointer (some ⟨T, 0, none⟩), .int .i64 384] w fun e w' => e = .returned (.slice (some ⟨T, 88, none⟩) 8 8) ∧ w = w' := by
  go_enter Tryd.func75, Tryd.ntmps75
  go_wp2
  go_ret
  exact ⟨rfl, rfl⟩

theorem known_yes (bt : Nat) (h : bt = 384 ∨ bt = 512) (w : World) : Calls Tryd.prog 73 #[.int .i64 (bt : Int)] w fun e w' => e = .returned (.bool true) ∧ w = w' := by
  rcases h with rfl | rfl
  · go_enter Tryd.func73, Tryd.ntmps73
    go_wp2
    go_ret
    exact ⟨rfl, rfl⟩
  · go_enter Tryd.func73, Tryd.ntmps73
    go_wp2
    go_ret
    exact ⟨rfl, rfl⟩
theorem known_no (b : Int) (h : b ≠ 384 ∧ b ≠ 512) (w : World) : Calls Tryd.prog 73 #[.int .i64 b] w fun e w' => e = .returned (.bool false) ∧ w = w' := by
  have h1 : (b == 384) = false := by simp; omega
  have h2 : (b == 512) = false := by simp; omega
  clear h
  go_enter Tryd.func73, Tryd.ntmps73
  go_wp2
  go_ret
  exact ⟨rfl, rfl⟩
theorem snew_no (b : Int) (h : b ≠ 384 ∧ b ≠ 512) (w : World) : Calls Tryd.prog 62 #[.int .i64 b] w fun e w' => e = .returned (.tuple #[.pointer none, .int .i64 2]) ∧ w = w' := by
  go_enter Tryd.func62, Tryd.ntmps62
  go_wp2_with fail
  refine (known_no b h w).mono ?_
  rintro e w1 ⟨rfl, rfl⟩
  go_wp2
  go_ret2
  exact ⟨rfl, rfl⟩
theorem slice_words (g : Nat) (W : World) : (Instr.sliceAt 115 (.pointer (some ⟨g, 1, none⟩)) none none none).run Tryd.prog W = .ok (.slice (some ⟨g, 1, none⟩) 8 8) W := by
  have hl : Tryd.prog.arrayLen 115 = 8 := by kernel_rfl
  have hs : ∀ w, (sizeOf (Tryd.prog.elem 115)).run Tryd.prog w = .ok 1 w := fun _ => by kernel_rfl
  rw [run_sliceAt_array_all W 115 ⟨g, 1, none⟩ (by kernel_rfl), hs]
  show Result.ok (slicedAt ⟨g, 1, none⟩ 0 (Tryd.prog.arrayLen 115) (Tryd.prog.arrayLen 115) 1) W = _
  rw [hl]
  rfl
theorem tab_cell (w : World) (T i : Nat) (hT : w.heap[T]? = some (.cells tabC 122 (0, 0))) (hi : i < 96) : w.cell? ⟨T, i, none⟩ = some (.int .u64 ((g0 (kL ++ startL) i : Nat) : Int)) := by
  rw [cell_of_row w T i _ _ _ hT]
  exact arrC_get .u64 (kL ++ startL) i hi
theorem start_copy (w : World) (g T o bt cc : Nat) (hg : w.heap[g]? = some (.cells (stL bt (List.replicate 8 0) (List.replicate 128 0) 0).toArray 118 (0, 0))) (hT : w.heap[T]? = some (.cells tabC 122 (0, 0))) (ho : o + 8 ≤ 96) (hst : ((kL ++ startL).drop o).take 8 = startN bt) :
    (Builtin.copy_ #[124, 124] 3 #[.slice (some ⟨g, 1, none⟩) 8 8, .slice (some ⟨T, o, none⟩) 8 cc]).run Tryd.prog w = .ok (goInt 8) (w.setRow g (stL bt (startN bt) (List.replicate 128 0) 0).toArray) := by
  have hl : ((startN bt).map (num .u64)).length = 8 := by rw [List.length_map, startN_len]
  have := run_copy_row Tryd.prog w 124 124 3 49 g 1 8 8 ⟨T, o, none⟩ 8 cc _ _ ((startN bt).map (num .u64)) Tryd.underlying124 (by kernel_rfl) hg (by rw [hl]; rfl) (fun j v hv => by
    have hj : j < 8 := by
      have := (List.getElem?_eq_some_iff.1 hv).1
      rwa [hl] at this
    have e : (⟨T, o, none⟩ : Addr).add j = ⟨T, o + j, none⟩ := by unfold Addr.add; split <;> simp_all
    rw [e, tab_cell w T (o + j) hT (by omega)]
    rw [List.getElem?_map, ← hst, List.getElem?_take, if_pos hj, List.getElem?_drop] at hv
    have hlt : o + j < (kL ++ startL).length := by
      have : (kL ++ startL).length = 96 := rfl
      omega
    rw [List.getElem?_eq_getElem hlt] at hv
    simp only [Option.map_some, Option.some.injEq] at hv
    rw [← hv, g0, List.getElem?_eq_getElem hlt]
    rfl) (by rw [hl]; simp [stL]) (fun u hu => nums_oneCell .u64 _ u hu)
  rw [hl] at this
  rw [this]
  congr 2

theorem wpList_buildV {ops : Array Oper} {rest : List Oper} {o : Oper} {a : Act} {w : World} {Q : Exit → Act → World → Prop} (hg : o.guard = none) (t : TypeId) (parts : Array (Nat × Operand)) (ho : o.op = .build t parts) (cs : Array Value)
    (hv : Tryd.prog.built t (parts.map fun (i, x) => (i, a.eval x)).toList = some cs) (h : wpList Tryd.prog ops Q rest (a.put o.dst (.agg cs)) w) : wpList Tryd.prog ops Q (o :: rest) a w :=
  wpList_build hg t parts ho (by rw [hv]; rfl) (by rw [hv]; exact h)

/-- A state as it is built. -/
def st0 (bt : Nat) : Array Value := (stL bt (List.replicate 8 0) (List.replicate 128 0) 0).toArray
set_option maxRecDepth 100000 in
set_option maxHeartbeats 2000000 in
theorem new512_any (w : World) : Calls Tryd.prog 62 #[.int .i64 512] w fun e w' => e = .returned (.tuple #[.pointer (some ⟨w.heap.size, 0, none⟩), .int .i64 0]) ∧ StateOf w' w.heap.size 512 [] ∧ Below w.heap.size w w' := by
  have hz : ∀ w, (zeroValue 122).run Tryd.prog w = .ok (.agg (arrC .u64 (List.replicate 96 0))) w := fun _ => by kernel_rfl
  go_enter Tryd.func62, Tryd.ntmps62
  go_wp2_with fail
  refine (known_yes 512 (by decide) w).mono ?_
  rintro e w1 ⟨rfl, rfl⟩
  go_wp2_with (refine wpList_buildV rfl _ _ rfl (st0 512) (by kernel_rfl) ?_)
  have hg1 := Lib.hid (Go.heap_alloc_new w (.cells (st0 512) 118))
  have hB1 := Lib.hid (Below.alloc (Below.refl w.heap.size w) (Nat.le_refl _) (.cells (st0 512) 118))
  have hs1 := Lib.hid ((Array.getElem?_eq_some_iff.1 hg1.out).1)
  generalize w.alloc (.cells (st0 512) 118) = w1 at *
  refine (written_any w1).mono ?_
  rintro e w2 ⟨rfl, rfl⟩
  have hg2 := Lib.hid ((Below.heap_alloc w1 (.cells tabC 122) _ hs1.out).trans hg1.out)
  have hB2 := Lib.hid (Below.alloc hB1.out (Nat.le_of_lt hs1.out) (.cells tabC 122))
  have hs2 := Lib.hid ((Array.getElem?_eq_some_iff.1 hg2.out).1)
  generalize w1.alloc (.cells tabC 122) = w2 at *
  clear hg1 hB1 hs1
  go_wp2_with (refine wpList_store_row rfl _ _ _ rfl w2.heap.size tabC rfl (by kernel_rfl) 122 _ (Go.heap_alloc_new w2 _) (by kernel_rfl) (by kernel_rfl) tabC_one ?_)
  rw [alloc_setRow]
  have hg3 := Lib.hid ((Below.heap_alloc w2 (.cells tabC 122) _ hs2.out).trans hg2.out)
  have hT3 := Lib.hid (Go.heap_alloc_new w2 (.cells tabC 122))
  have hB3 := Lib.hid (Below.alloc hB2.out (Nat.le_of_lt hs2.out) (.cells tabC 122))
  generalize hTE : w2.heap.size = T at *
  generalize w2.alloc (.cells tabC 122) = w3 at *
  have hsl := slice_words w.heap.size
  have hgE := hs2
  clear hg2 hB2 hTE hs2
  generalize hge : w.heap.size = g at *
  have hcp := start_copy w3.drew g T 80 512 16 hg3.out hT3.out (by decide) rfl
  have HGE := Lib.hid hge
  clear hge
  go_wp2_with fail
  refine wp_region_held_drew (S := fun _ => True) (by kernel_rfl) trivial (fun hHeld => ?_)
  refine' wpAnyH_take (i := 0) (oi := _) (v := _) rfl (by kernel_rfl) (by kernel_rfl) (by kernel_rfl) (fun _ _ _ h => h) (Or.inl ⟨?_, ?_⟩) (by assumption) ?_
  rotate_left
  all_goals (try simp only [List.getElem_toArray, List.getElem_cons_succ, List.getElem_cons_zero])
  · rfl
  · intro W hSw; (try dsimp only at hSw); go_simp; (try with_reducible rfl)
  try simp only [Act.put, List.setIfInBounds_toArray, List.set_cons_zero, List.set_cons_succ]
  refine' wpAnyH_take (i := 1) (oi := _) (v := _) rfl (by kernel_rfl) (by kernel_rfl) (by kernel_rfl) (fun _ _ _ h => h) (Or.inl ⟨?_, ?_⟩) (by assumption) ?_
  rotate_left
  all_goals (try simp only [List.getElem_toArray, List.getElem_cons_succ, List.getElem_cons_zero])
  · rfl
  · intro W hSw; (try dsimp only at hSw); go_simp; (try with_reducible rfl)
  try simp only [Act.put, List.setIfInBounds_toArray, List.set_cons_zero, List.set_cons_succ]
  refine' wpAnyH_take (i := 2) (oi := _) (v := _) rfl (by kernel_rfl) (by kernel_rfl) (by kernel_rfl) (fun _ _ _ h => h) (Or.inl ⟨?_, ?_⟩) (by assumption) ?_
  rotate_left
  all_goals (try simp only [List.getElem_toArray, List.getElem_cons_succ, List.getElem_cons_zero])
  · rfl
  · intro W hSw; (try dsimp only at hSw); go_simp; (try with_reducible rfl)
  try simp only [Act.put, List.setIfInBounds_toArray, List.set_cons_zero, List.set_cons_succ]
  refine' wpAnyH_take (i := 3) (oi := _) (v := _) rfl (by kernel_rfl) (by kernel_rfl) (by kernel_rfl) (fun _ _ _ h => h) (Or.inl ⟨?_, ?_⟩) (by assumption) ?_
  rotate_left
  all_goals (try simp only [List.getElem_toArray, List.getElem_cons_succ, List.getElem_cons_zero])
  · rfl
  · intro W hSw; (try dsimp only at hSw); go_simp; (try with_reducible rfl)
  try simp only [Act.put, List.setIfInBounds_toArray, List.set_cons_zero, List.set_cons_succ]
  refine' wpAnyH_take (i := 4) (oi := _) (v := _) rfl (by kernel_rfl) (by kernel_rfl) (by kernel_rfl) (fun _ _ _ h => h) (Or.inl ⟨?_, ?_⟩) (by assumption) ?_
  rotate_left
  all_goals (try simp only [List.getElem_toArray, List.getElem_cons_succ, List.getElem_cons_zero])
  · rfl
  · intro W hSw; (try dsimp only at hSw); go_simp; (try with_reducible rfl)
  try simp only [Act.put, List.setIfInBounds_toArray, List.set_cons_zero, List.set_cons_succ]
  refine wpAnyH_ready (rs := [5]) (by kernel_rfl) (by simp) ?_
  refine AllReadyH.cons (o := _) rfl (fun K hK => ?_) AllReadyH.nil
  try simp only [List.getElem_toArray, List.getElem_cons_succ, List.getElem_cons_zero]
  go_simp
  refine (start512_any _ _).mono ?_; rintro e w5 ⟨rfl, rfl⟩
  go_wp2_with fail
  refine hK.out _ _ trivial (fun hHeld => ?_)
  clear hK K
  try simp only [Act.put, List.setIfInBounds_toArray, List.set_cons_zero, List.set_cons_succ]
  refine wpAnyH_ready (rs := [6]) (by kernel_rfl) (by simp) ?_
  refine AllReadyH.cons (o := _) rfl (fun K hK => ?_) AllReadyH.nil
  try simp only [List.getElem_toArray, List.getElem_cons_succ, List.getElem_cons_zero]
  go_simp
  refine hK.out _ _ trivial (fun hHeld => ?_)
  clear hK K
  try simp only [Act.put, List.setIfInBounds_toArray, List.set_cons_zero, List.set_cons_succ]
  refine wpAnyH_done (by kernel_rfl) ?_ _
  go_wp2
  go_ret2
  rw [HGE.out]
  have hgr : w3.grownBy (w3.drew.setRow g (stL 512 (startN 512) (List.replicate 128 0) 0).toArray) (some g) := grown_setRow (grown_drew (x := w3) (y := w3) ⟨rfl, rfl, rfl, Nat.le_refl _, fun _ _ _ => rfl⟩) _
  exact ⟨rfl, ⟨startN 512, List.replicate 128 0, ⟨setRow_heap _ g _ _ _ _ hg3.out, startN_len _, by simp, startN_lt _, fun x hx => by have := List.eq_of_mem_replicate hx; omega⟩, ⟨rfl, rfl⟩, by decide, fun x hx => by simp at hx⟩, hB3.out.grown hgr (Nat.le_of_lt (Array.getElem?_eq_some_iff.1 hg3.out).1) (fun k hk => by cases hk; exact Nat.le_refl _)⟩

set_option maxRecDepth 100000 in
set_option maxHeartbeats 2000000 in
theorem new384_any (w : World) : Calls Tryd.prog 62 #[.int .i64 384] w fun e w' => e = .returned (.tuple #[.pointer (some ⟨w.heap.size, 0, none⟩), .int .i64 0]) ∧ StateOf w' w.heap.size 384 [] ∧ Below w.heap.size w w' := by
  have hz : ∀ w, (zeroValue 122).run Tryd.prog w = .ok (.agg (arrC .u64 (List.replicate 96 0))) w := fun _ => by kernel_rfl
  go_enter Tryd.func62, Tryd.ntmps62
  go_wp2_with fail
  refine (known_yes 384 (by decide) w).mono ?_
  rintro e w1 ⟨rfl, rfl⟩
  go_wp2_with (refine wpList_buildV rfl _ _ rfl (st0 384) (by kernel_rfl) ?_)
  have hg1 := Lib.hid (Go.heap_alloc_new w (.cells (st0 384) 118))
  have hB1 := Lib.hid (Below.alloc (Below.refl w.heap.size w) (Nat.le_refl _) (.cells (st0 384) 118))
  have hs1 := Lib.hid ((Array.getElem?_eq_some_iff.1 hg1.out).1)
  generalize w.alloc (.cells (st0 384) 118) = w1 at *
  refine (written_any w1).mono ?_
  rintro e w2 ⟨rfl, rfl⟩
  have hg2 := Lib.hid ((Below.heap_alloc w1 (.cells tabC 122) _ hs1.out).trans hg1.out)
  have hB2 := Lib.hid (Below.alloc hB1.out (Nat.le_of_lt hs1.out) (.cells tabC 122))
  have hs2 := Lib.hid ((Array.getElem?_eq_some_iff.1 hg2.out).1)
  generalize w1.alloc (.cells tabC 122) = w2 at *
  clear hg1 hB1 hs1
  go_wp2_with (refine wpList_store_row rfl _ _ _ rfl w2.heap.size tabC rfl (by kernel_rfl) 122 _ (Go.heap_alloc_new w2 _) (by kernel_rfl) (by kernel_rfl) tabC_one ?_)
  rw [alloc_setRow]
  have hg3 := Lib.hid ((Below.heap_alloc w2 (.cells tabC 122) _ hs2.out).trans hg2.out)
  have hT3 := Lib.hid (Go.heap_alloc_new w2 (.cells tabC 122))
  have hB3 := Lib.hid (Below.alloc hB2.out (Nat.le_of_lt hs2.out) (.cells tabC 122))
  generalize hTE : w2.heap.size = T at *
  generalize w2.alloc (.cells tabC 122) = w3 at *
  have hsl := slice_words w.heap.size
  have hgE := hs2
  clear hg2 hB2 hTE hs2
  generalize hge : w.heap.size = g at *
  have hcp := start_copy w3.drew g T 88 384 8 hg3.out hT3.out (by decide) rfl
  have HGE := Lib.hid hge
  clear hge
  go_wp2_with fail
  refine wp_region_held_drew (S := fun _ => True) (by kernel_rfl) trivial (fun hHeld => ?_)
  refine' wpAnyH_take (i := 0) (oi := _) (v := _) rfl (by kernel_rfl) (by kernel_rfl) (by kernel_rfl) (fun _ _ _ h => h) (Or.inl ⟨?_, ?_⟩) (by assumption) ?_
  rotate_left
  all_goals (try simp only [List.getElem_toArray, List.getElem_cons_succ, List.getElem_cons_zero])
  · rfl
  · intro W hSw; (try dsimp only at hSw); go_simp; (try with_reducible rfl)
  try simp only [Act.put, List.setIfInBounds_toArray, List.set_cons_zero, List.set_cons_succ]
  refine' wpAnyH_take (i := 1) (oi := _) (v := _) rfl (by kernel_rfl) (by kernel_rfl) (by kernel_rfl) (fun _ _ _ h => h) (Or.inl ⟨?_, ?_⟩) (by assumption) ?_
  rotate_left
  all_goals (try simp only [List.getElem_toArray, List.getElem_cons_succ, List.getElem_cons_zero])
  · rfl
  · intro W hSw; (try dsimp only at hSw); go_simp; (try with_reducible rfl)
  try simp only [Act.put, List.setIfInBounds_toArray, List.set_cons_zero, List.set_cons_succ]
  refine' wpAnyH_take (i := 2) (oi := _) (v := _) rfl (by kernel_rfl) (by kernel_rfl) (by kernel_rfl) (fun _ _ _ h => h) (Or.inl ⟨?_, ?_⟩) (by assumption) ?_
  rotate_left
  all_goals (try simp only [List.getElem_toArray, List.getElem_cons_succ, List.getElem_cons_zero])
  · rfl
  · intro W hSw; (try dsimp only at hSw); go_simp; (try with_reducible rfl)
  try simp only [Act.put, List.setIfInBounds_toArray, List.set_cons_zero, List.set_cons_succ]
  refine' wpAnyH_take (i := 3) (oi := _) (v := _) rfl (by kernel_rfl) (by kernel_rfl) (by kernel_rfl) (fun _ _ _ h => h) (Or.inl ⟨?_, ?_⟩) (by assumption) ?_
  rotate_left
  all_goals (try simp only [List.getElem_toArray, List.getElem_cons_succ, List.getElem_cons_zero])
  · rfl
  · intro W hSw; (try dsimp only at hSw); go_simp; (try with_reducible rfl)
  try simp only [Act.put, List.setIfInBounds_toArray, List.set_cons_zero, List.set_cons_succ]
  refine' wpAnyH_take (i := 4) (oi := _) (v := _) rfl (by kernel_rfl) (by kernel_rfl) (by kernel_rfl) (fun _ _ _ h => h) (Or.inl ⟨?_, ?_⟩) (by assumption) ?_
  rotate_left
  all_goals (try simp only [List.getElem_toArray, List.getElem_cons_succ, List.getElem_cons_zero])
  · rfl
  · intro W hSw; (try dsimp only at hSw); go_simp; (try with_reducible rfl)
  try simp only [Act.put, List.setIfInBounds_toArray, List.set_cons_zero, List.set_cons_succ]
  refine wpAnyH_ready (rs := [5]) (by kernel_rfl) (by simp) ?_
  refine AllReadyH.cons (o := _) rfl (fun K hK => ?_) AllReadyH.nil
  try simp only [List.getElem_toArray, List.getElem_cons_succ, List.getElem_cons_zero]
  go_simp
  refine (start384_any _ _).mono ?_; rintro e w5 ⟨rfl, rfl⟩
  go_wp2_with fail
  refine hK.out _ _ trivial (fun hHeld => ?_)
  clear hK K
  try simp only [Act.put, List.setIfInBounds_toArray, List.set_cons_zero, List.set_cons_succ]
  refine wpAnyH_ready (rs := [6]) (by kernel_rfl) (by simp) ?_
  refine AllReadyH.cons (o := _) rfl (fun K hK => ?_) AllReadyH.nil
  try simp only [List.getElem_toArray, List.getElem_cons_succ, List.getElem_cons_zero]
  go_simp
  refine hK.out _ _ trivial (fun hHeld => ?_)
  clear hK K
  try simp only [Act.put, List.setIfInBounds_toArray, List.set_cons_zero, List.set_cons_succ]
  refine wpAnyH_done (by kernel_rfl) ?_ _
  go_wp2
  go_ret2
  rw [HGE.out]
  have hgr : w3.grownBy (w3.drew.setRow g (stL 384 (startN 384) (List.replicate 128 0) 0).toArray) (some g) := grown_setRow (grown_drew (x := w3) (y := w3) ⟨rfl, rfl, rfl, Nat.le_refl _, fun _ _ _ => rfl⟩) _
  exact ⟨rfl, ⟨startN 384, List.replicate 128 0, ⟨setRow_heap _ g _ _ _ _ hg3.out, startN_len _, by simp, startN_lt _, fun x hx => by have := List.eq_of_mem_replicate hx; omega⟩, ⟨rfl, rfl⟩, by decide, fun x hx => by simp at hx⟩, hB3.out.grown hgr (Nat.le_of_lt (Array.getElem?_eq_some_iff.1 hg3.out).1) (fun k hk => by cases hk; exact Nat.le_refl _)⟩


theorem new_any (bt : Nat) (h : bt = 384 ∨ bt = 512) (w : World) : Calls Tryd.prog 62 #[.int .i64 (bt : Int)] w fun e w' => e = .returned (.tuple #[.pointer (some ⟨w.heap.size, 0, none⟩), .int .i64 0]) ∧ StateOf w' w.heap.size bt [] ∧ Below w.heap.size w w' := by
  rcases h with rfl | rfl
  · exact new384_any w
  · exact new512_any w
set_option maxRecDepth 100000 in
theorem copy_any (g bt : Nat) (ws tail : List Nat) (T : Nat) (w : World) (h : StateAt w g bt ws tail T) (hb : bt ≠ 0) : Calls Tryd.prog 78 #[.pointer (some ⟨g, 0, none⟩)] w fun e w' => e = .returned (.pointer (some ⟨w.heap.size, 0, none⟩)) ∧ w' = w.alloc (.cells (stL bt ws tail T).toArray 118) := by
  have hz2 : ∀ w, (zeroValue 118).run Tryd.prog w = .ok (.agg (st0 0)) w := fun _ => by kernel_rfl
  have hsz : (stL bt ws tail T).toArray.size = 138 := by simp [stL, h.wlen, h.tlen]
  have hone : (stL bt ws tail T).toArray.all (·.oneCell') = true := by
    rw [Array.all_eq_true_iff_forall_mem]
    intro u hu
    simp only [stL, List.mem_toArray, List.mem_cons, List.mem_append] at hu
    rcases hu with rfl | hu | hu | hu
    · rfl
    · exact nums_oneCell .u64 _ u hu
    · exact nums_oneCell .u8 _ u hu
    · simp at hu
      rw [hu]
      rfl
  have hH := h.heap
  generalize (stL bt ws tail T).toArray = cs at *
  go_enter Tryd.func78, Tryd.ntmps78
  go_wp2_with fail
  refine (made_yes g bt ws tail T w h hb).mono ?_
  rintro e w1 ⟨rfl, rfl⟩
  go_wp2_with (first | (refine wpList_load_row rfl _ _ rfl g rfl _ _ _ _ hH Tryd.underlying118 rfl (by rw [hsz]; kernel_rfl) ?_) | (refine wpList_store_row rfl _ _ _ rfl w.heap.size cs rfl rfl 118 _ (Go.heap_alloc_new w _) (by rw [hsz]; kernel_rfl) (by rw [hsz]; kernel_rfl) hone ?_))
  go_ret
  rw [alloc_setRow]
  exact ⟨rfl, rfl⟩

end Go.Proofs.YtpefjkndfifceaaDoor.L5

namespace Go.Proofs.YtpefjkndfifceaaDoor.L5
open Go.RowKit
set_option maxRecDepth 100000

/-- What fills a message up. -/
def endN (T : Nat) : List Nat := [128] ++ List.replicate ((239 - T % 128) % 128) 0 ++ wd 0 8 ++ wd (T * 8) 8
def dwN (t : Nat) : Nat → List Nat
  | 0 => []
  | j + 1 => dwN t j ++ wd (g0 [0, t] j) 8
theorem dwN_len (t : Nat) : ∀ j, (dwN t j).length = 8 * j
  | 0 => rfl
  | j + 1 => by rw [dwN, List.length_append, dwN_len t j, wd_len]; omega
set_option maxRecDepth 100000 in
set_option maxHeartbeats 2000000 in
theorem ending_any (T : Nat) (y : Int) (hy : y = T) (hT : T < 1152921504606846976) (w : World) :
    Calls Tryd.prog 79 #[.int .u64 y] w fun e w' => (∃ v, e = .returned v ∧ OwnQ .u8 5 w.heap.size w' v (endN T)) ∧ Below w.heap.size w w' := by
  subst hy
  obtain ⟨i0, hi, hz0, hz1, hz2⟩ := info_parts infoB
  obtain ⟨us, hus⟩ : ∃ x, x = T % 128 := ⟨_, rfl⟩
  have hatc : (T : Int) % 128 = (us : Int) := by omega
  have hus64 : us < 128 := by omega
  obtain ⟨k, hk⟩ : ∃ k, k = (239 - us) % 128 := ⟨_, rfl⟩
  have hkc : Int.tmod (239 - (us : Int)) 128 = (k : Int) := by
    rw [Int.tmod_eq_emod_of_nonneg (by omega)]
    omega
  have hk128 : k < 128 := by omega
  obtain ⟨t8, ht8⟩ : ∃ t, t = T * 8 := ⟨_, rfl⟩
  have ht8b : t8 < 18446744073709551616 := by omega
  have hs1 : (T : Int) / 2305843009213693952 = 0 := by omega
  have hs2 : IntKind.u64.wrap ((T : Int) * 8) = (t8 : Int) := by simp [IntKind.wrap, IntKind.bits, IntKind.signed]; omega
  have HU := Lib.hid hus
  have HK := Lib.hid hk
  have HT8 := Lib.hid ht8
  clear hus hk ht8
  go_enter Tryd.func79, Tryd.ntmps79
  go_wp2_with (first
    | (at_builtin; refine wpList_append_noughts _ rfl _ _ 22 3 rfl w.heap.size 5 i0 Tryd.underlying22 Tryd.underlying3 hi hz0 hz1 hz2 _ [128] rfl (World.ownsRow_lit w #[.int .u8 128] 1 (Nat.le_refl _) (by unfold maxLen; omega) rfl) (by simp) k rfl (by simp; omega) (by simp) ?_; intro v2 w2 hown2 hgrow2; have HO2 := Lib.hid hown2; have HB2 := Lib.hid (hgrow2 _ ((Below.refl _ _).alloc (Nat.le_refl _) _)); clear hown2 hgrow2))
  rw [show #[Value.int .u64 0, Value.int .u64 (t8 : Int)] = arrC .u64 [0, t8] from rfl]
  obtain ⟨R0, hR0⟩ : ∃ R, R = [128] ++ List.replicate k 0 := ⟨_, rfl⟩
  rw [← hR0] at HO2
  have hRl : R0.length ≤ 200 := by rw [hR0]; simp; omega
  have HR0 := Lib.hid hR0
  clear hR0
  go_loopw [20, 4] (fun iv sv wq => ∃ j : Nat, iv = .int .i64 (j : Int) ∧ j ≤ 2 ∧ Hid (OwnQ .u8 5 w.heap.size wq sv (R0 ++ dwN t8 j) ∧ Below w.heap.size w wq)) (fun iv _ _ => 2 - (intOf iv).toNat)
  case atStart => exact ⟨0, rfl, by decide, by rw [show dwN t8 0 = [] from rfl, List.append_nil]; exact HO2.out, HB2.out⟩
  case round =>
    obtain ⟨j, rfl, hj, hI⟩ := hrel
    by_cases hlt : j < 2
    · have ix := idx2 [0, t8] j hlt rfl
      have lx : g0 [0, t8] j < 18446744073709551616 := g0_lt (by intro x hx; simp at hx; rcases hx with rfl | rfl <;> omega) (by decide) j
      have HD := Lib.hid (show dwN t8 (j + 1) = dwN t8 j ++ wd (g0 [0, t8] j) 8 from rfl)
      unfold g0 at lx HD
      generalize [0, t8][j]?.getD 0 = x at *
      go_wp2_with fail
      refine (appended_any w.heap.size _ _ x _ wr hI.out.1 (by rw [List.length_append, dwN_len]; omega) hI.out.2.size rfl lx).mono ?_
      rintro e w5 ⟨⟨v5, rfl, h5⟩, h6⟩
      rw [List.append_assoc, ← HD.out] at h5
      have H5 := Lib.hid h5
      have H6 := Lib.hid (h6 _ hI.out.2)
      clear h5 h6
      go_wp2
      go_roundw
      case rel => exact ⟨j + 1, by go_num, by omega, H5.out, H6.out⟩
      case measure => simp [intOf] <;> omega
    · obtain rfl : j = 2 := by omega
      have hE : R0 ++ dwN t8 2 = endN T := by
        unfold endN
        rw [← HU.out, ← HK.out, ← HT8.out, ← HR0.out, List.append_assoc]
        rfl
      have ho := hI.out.1
      rw [hE] at ho
      have HOO := Lib.hid ho
      clear ho hE
      go_wp2
      go_ret
      exact ⟨⟨_, rfl, HOO.out⟩, hI.out.2⟩

end Go.Proofs.YtpefjkndfifceaaDoor.L5

namespace Go.Proofs.YtpefjkndfifceaaDoor.L5
open Go.RowKit Go.Shelf
set_option maxRecDepth 100000

/-- The words behind all. -/
def sumW (bt : Nat) (m : List Nat) : List Nat := wsK bt (m ++ endN m.length) ((m ++ endN m.length).length / 128)
def bytesW (ws : List Nat) (j : Nat) : List Nat := (List.range j).flatMap fun i => wd (g0 ws i) 8
theorem bytesW_succ (ws : List Nat) (j : Nat) : bytesW ws (j + 1) = bytesW ws j ++ wd (g0 ws j) 8 := by
  unfold bytesW
  rw [List.range_succ, List.flatMap_append]
  simp
theorem bytesW_len (ws : List Nat) : ∀ j, (bytesW ws j).length = 8 * j
  | 0 => rfl
  | j + 1 => by rw [bytesW_succ, List.length_append, bytesW_len ws j, wd_len]; omega
theorem bytesW_lt (ws : List Nat) (j : Nat) : ∀ x ∈ bytesW ws j, x < 256 := fun x hx => by
  unfold bytesW at hx
  obtain ⟨i, -, hx⟩ := List.mem_flatMap.1 hx
  exact wd_lt _ _ x hx
/-- The hash. -/
def hashN (bt : Nat) (m : List Nat) : List Nat := bytesW (sumW bt m) (bt / 64)
theorem hashN_lt (bt : Nat) (m : List Nat) : ∀ x ∈ hashN bt m, x < 256 := bytesW_lt _ _
theorem hashN_len {bt : Nat} (m : List Nat) (h : bt = 384 ∨ bt = 512) : (hashN bt m).length = bt / 8 := by
  unfold hashN
  rw [bytesW_len]
  omega
theorem endN_len (T : Nat) : (endN T).length = 1 + (239 - T % 128) % 128 + 8 + 8 := by
  unfold endN
  simp only [List.length_append, List.length_replicate, List.length_singleton, wd_len]
theorem endN_lt (T : Nat) : ∀ x ∈ endN T, x < 256 := fun x hx => by
  unfold endN at hx
  simp only [List.mem_append, List.mem_singleton] at hx
  rcases hx with ((rfl | hx) | hx) | hx
  · decide
  · have := List.eq_of_mem_replicate hx
    omega
  · exact wd_lt _ _ x hx
  · exact wd_lt _ _ x hx
theorem slice_upto (g q : Nat) (h : q ≤ 8) (W : World) : (Instr.sliceAt 115 (.pointer (some ⟨g, 1, none⟩)) none (some (.int .i64 (q : Int))) none).run Tryd.prog W = .ok (.slice (some ⟨g, 1, none⟩) q 8) W := by
  have hl : Tryd.prog.arrayLen 115 = 8 := by kernel_rfl
  have hs : ∀ w, (sizeOf (Tryd.prog.elem 115)).run Tryd.prog w = .ok 1 w := fun _ => by kernel_rfl
  rw [run_sliceAt_array_h W 115 ⟨g, 1, none⟩ (by kernel_rfl) .i64 (q : Int) (by omega) (by rw [hl]; omega), hs]
  show Result.ok (slicedAt ⟨g, 1, none⟩ 0 (q : Int).toNat (Tryd.prog.arrayLen 115) 1) W = _
  rw [hl]
  unfold slicedAt
  rw [Int.toNat_natCast]
  simp [Addr.add]

set_option maxRecDepth 100000 in
set_option maxHeartbeats 4000000 in
theorem sum_any (g bt : Nat) (m : List Nat) (w : World) (h : StateOf w g bt m) (hbt : bt = 384 ∨ bt = 512) :
    Calls Tryd.prog 64 #[.pointer (some ⟨g, 0, none⟩)] w fun e w' => (∃ ad : Addr × Nat, e = .returned (.slice (some ad.1) (bt / 8) ad.2) ∧ Reads .u8 w' (some ad.1) (bt / 8) ad.2 (hashN bt m) ∧ w.heap.size ≤ ad.1.block) ∧ Below w.heap.size w w' := by
  obtain ⟨ws, tail, hst, hfin, hmb, hm0⟩ := h
  have HM0 := Lib.hid hm0
  have HF := Lib.hid hfin
  have HS := Lib.hid hst
  have hgw := Lib.hid hst.lt
  have hbt0 : bt ≠ 0 := by omega
  have HBT := Lib.hid hbt
  have cT := hst.taken
  obtain ⟨T, hT⟩ : ∃ T, T = m.length := ⟨_, rfl⟩
  have HT := Lib.hid hT
  rw [← hT] at cT hmb
  obtain ⟨q, hq⟩ : ∃ q, q = bt / 64 := ⟨_, rfl⟩
  have hq1 : Int.tdiv (bt : Int) 64 = (q : Int) := by
    rw [Int.tdiv_eq_ediv_of_nonneg (by omega)]
    omega
  have hq8 : q ≤ 8 ∧ 6 ≤ q := by omega
  have hq9 : 8 * q = bt / 8 := by omega
  have HQ := Lib.hid hq
  have HQ9 := Lib.hid hq9
  clear hm0 hfin hst hbt hT hq hq9
  go_enter Tryd.func64, Tryd.ntmps64
  go_wp2_with fail
  refine (made_yes g bt ws tail _ w HS.out hbt0).mono ?_
  rintro e w1 ⟨rfl, rfl⟩
  go_wp2_with fail
  refine (copy_any g bt ws tail _ w HS.out hbt0).mono ?_
  rintro e w3 ⟨rfl, rfl⟩
  have hs3 := Lib.hid (show StateAt (w.alloc (.cells (stL bt ws tail m.length).toArray 118)) w.heap.size bt ws tail m.length from ⟨Go.heap_alloc_new w _, HS.out.wlen, HS.out.tlen, HS.out.wlt, HS.out.tlt⟩)
  have hb3 := Lib.hid ((Below.refl w.heap.size w).alloc (Nat.le_refl _) (.cells (stL bt ws tail m.length).toArray 118))
  have cT3 := (HS.out.below hb3.out hgw.out).taken
  have hz3 := Lib.hid (show (w.alloc (.cells (stL bt ws tail m.length).toArray 118)).heap.size = w.heap.size + 1 by simp)
  obtain ⟨f, hf⟩ : ∃ f, f = w.heap.size := ⟨_, rfl⟩
  rw [← hf] at hs3 ⊢
  have HFE := Lib.hid hf
  clear hf cT
  generalize w.alloc (.cells (stL bt ws tail m.length).toArray 118) = w3 at *
  rw [← HT.out] at cT3
  go_wp2_with fail
  refine (ending_any T _ rfl hmb w3).mono ?_
  rintro e w4 ⟨⟨v, rfl, ho4⟩, hb4⟩
  have HO4 := Lib.hid ho4
  have HB4 := Lib.hid hb4
  obtain ⟨g1, c1, rfl⟩ := ho4.succ (by intro e; have := endN_len T; rw [e] at this; simp at this)
  have hlt1 := Lib.hid (ho4.lt g1 rfl)
  have hs4 := Lib.hid (hs3.out.below hb4 hs3.out.lt)
  obtain ⟨N, hN⟩ : ∃ N, N = (endN T).length := ⟨_, rfl⟩
  have hel := endN_len T
  rw [← hN] at hel HO4 ⊢
  have HN := Lib.hid hN
  clear ho4 hb4 hN cT3
  have hNb : N ≤ 200 := by omega
  clear hel
  have HR4 : Reads .u8 w4 (some ⟨g1, 0, none⟩) N c1 (endN T) := by
    have h := HO4.out
    rw [HN.out] at h ⊢
    exact h.reads
  have HWC := Lib.hid (write_core f bt ws tail m (endN T) (some ⟨g1, 0, none⟩) N c1 w4 hs4.out HF.out hbt0 HR4 (endN_lt T) (by rw [← HT.out]; omega) (fun _ ad e => by cases e; have := hlt1.out.1; have := hs3.out.lt; show g1 ≠ f; omega))
  clear HR4
  generalize hET : endN T = ET at *
  have HET := Lib.hid hET
  clear hET
  go_wp2_with fail
  refine (HWC.out).mono ?_
  rintro e w5 ⟨rfl, ⟨ws5, tail5, hs5, hf5⟩, hg5⟩
  have HS5 := Lib.hid hs5
  have HZ := Lib.hid (show ws5 = sumW bt m by rw [hf5.1]; unfold sumW; rw [← HT.out, HET.out])
  have hfw : w.heap.size ≤ f := by rw [HFE.out]; exact Nat.le_refl _
  have HB5 := Lib.hid (show Below w.heap.size w w5 from ((hb3.out.trans (HB4.out.mono (by have := hz3.out; omega))).grown hg5 (by have := HB4.out.size; have := hz3.out; omega) (fun r e => by cases e; exact hfw)))
  have cB := (HS.out.below HB5.out hgw.out).bits
  have hsl := slice_upto f q hq8.1
  clear hs5 hf5 hg5
  go_wp2_with fail
  go_quiet (fail)
  have HS6 := Lib.hid (show StateAt (w5.drewN nq) f bt ws5 tail5 (m ++ ET).length from HS5.out.block rfl)
  have HB6 := Lib.hid (show Below w.heap.size w (w5.drewN nq) from below_drewS HB5.out nq)
  generalize w5.drewN nq = w6 at *
  clear cB hsl
  go_wp2_with fail
  go_loopw [29, 4] (fun iv sv wq => ∃ j : Nat, iv = .int .i64 (j : Int) ∧ j ≤ q ∧ Hid (OwnQ .u8 5 w6.heap.size wq sv (bytesW ws5 j) ∧ Below w6.heap.size w6 wq)) (fun iv _ _ => q - (intOf iv).toNat)
  case atStart => exact ⟨0, rfl, Nat.zero_le _, OwnQ.nil _ _ _ _, Below.refl _ _⟩
  case round =>
    obtain ⟨j, rfl, hj, hI⟩ := hrel
    by_cases hlt : j < q
    · have cw := (HS6.out.below hI.out.2 HS6.out.lt).word j (by omega)
      have lx : g0 ws5 j < 18446744073709551616 := g0_lt HS6.out.wlt (by decide) j
      have hbs := Lib.hid (bytesW_succ ws5 j)
      have hbl := Lib.hid (bytesW_len ws5 j)
      generalize g0 ws5 j = x at *
      have hjq : decide ((j : Int) < (q : Int)) = true := by simp; exact hlt
      go_wp2_with fail
      refine (appended_any w6.heap.size _ (bytesW ws5 j) x _ wr hI.out.1 (by rw [hbl.out]; omega) hI.out.2.size rfl lx).mono ?_
      rintro e w7 ⟨⟨v7, rfl, ho7⟩, hb7⟩
      rw [← hbs.out] at ho7
      have HO7 := Lib.hid ho7
      have HB7 := Lib.hid (hb7 _ hI.out.2)
      clear ho7 hb7
      go_wp2
      go_roundw
      case rel => exact ⟨j + 1, by go_num, by omega, HO7.out, HB7.out⟩
      case measure => simp [intOf] <;> omega
    · obtain rfl : j = q := by omega
      have ho := hI.out.1
      rw [show bytesW ws5 j = hashN bt m by unfold hashN; rw [← HQ.out, ← HZ.out]] at ho
      have HO := Lib.hid ho
      have HBf := Lib.hid (HB6.out.trans (hI.out.2.mono HB6.out.size))
      obtain ⟨h1, c9, hv⟩ := ho.succ (by intro e; have h8 := hashN_len m HBT.out; rw [e, List.length_nil] at h8; have := HQ9.out; omega)
      rw [hashN_len m HBT.out] at hv
      subst hv
      have hh1 := Lib.hid (ho.lt h1 rfl)
      clear ho hI
      have hjq : decide ((j : Int) < (j : Int)) = false := by simp
      go_wp2
      go_ret
      exact ⟨⟨(⟨h1, 0, none⟩, c9), rfl, HO.out.reads, by have := hh1.out.1; have := HB6.out.size; show w.heap.size ≤ h1; omega⟩, HBf.out⟩

end Go.Proofs.YtpefjkndfifceaaDoor.L5

namespace Go.Proofs.YtpefjkndfifceaaDoor
open Go.RowKit Go.Shelf
set_option maxRecDepth 100000

theorem stM_lt {w : World} {g bt : Nat} {m : List Nat} (h : StateOf w g bt m) : g < w.heap.size := by
  obtain ⟨ws, tail, h, -⟩ := h
  exact h.lt
theorem stM_below {w w' : World} {g bt B : Nat} {m : List Nat} (h : StateOf w g bt m) (hb : Below B w w') (hg : g < B) : StateOf w' g bt m := by
  obtain ⟨ws, tail, h, k⟩ := h
  exact ⟨ws, tail, h.below hb hg, k⟩
theorem stM_kept {W W' : World} {g1 g2 bt : Nat} {l : List Nat} (h : StateOf W g1 bt l) (hg : W.grownBy W' (some g2)) (hne : g1 ≠ g2) : StateOf W' g1 bt l := by
  obtain ⟨ws, tail, h, k⟩ := h
  exact ⟨ws, tail, h.block (hg.block g1 h.lt (fun e => hne (Option.some.inj e))), k⟩
theorem L5.stM_kept {W W' : World} {g1 g2 bt : Nat} {l : List Nat} (h : L5.StateOf W g1 bt l) (hg : W.grownBy W' (some g2)) (hne : g1 ≠ g2) : L5.StateOf W' g1 bt l := by
  obtain ⟨ws, tail, h, k⟩ := h
  exact ⟨ws, tail, h.block (hg.block g1 h.lt (fun e => hne (Option.some.inj e))), k⟩
theorem L5.stM_lt {w : World} {g bt : Nat} {m : List Nat} (h : L5.StateOf w g bt m) : g < w.heap.size := by
  obtain ⟨ws, tail, h, -⟩ := h
  exact h.lt
theorem L5.stM_below {w w' : World} {g bt B : Nat} {m : List Nat} (h : L5.StateOf w g bt m) (hb : Below B w w') (hg : g < B) : L5.StateOf w' g bt m := by
  obtain ⟨ws, tail, h, k⟩ := h
  exact ⟨ws, tail, h.below hb hg, k⟩

theorem open_1 (w : World) (hk : Kinds w) : Calls Tryd.prog 57 #[.int .i64 1] w fun e w' => (∃ g, e = .returned (.tuple #[.agg #[.func (.func 60) #[.pointer (some ⟨g, 0, none⟩)] #[], .func (.func 61) #[.pointer (some ⟨g, 0, none⟩)] #[]], .bool true]) ∧ w.heap.size ≤ g ∧ StateOf w' g 224 []) ∧ Below w.heap.size w w' := by
  have HK := Lib.hid hk
  clear hk
  go_enter Tryd.func57, Tryd.ntmps57
  go_wp2_with fail
  refine (known_yesM 1 (by simp [IsHash]) _ (HK.out.below ((Below.refl _ _).alloc (Nat.le_refl _) _))).mono ?_
  rintro e w1 ⟨rfl, h1⟩
  have hz1 : w.heap.size + 1 ≤ w1.heap.size := by have := h1.size; simpa using this
  have B1 := Lib.hid (((Below.refl w.heap.size w).alloc (Nat.le_refl _) (.cells #[.nilFunc, .nilFunc] 88)).trans (h1.mono (by simp)))
  have c0 : w1.cell? ⟨w.heap.size, 0, none⟩ = some .nilFunc := (h1.cell (p := ⟨w.heap.size, 0, none⟩) (by simp)).trans (by simp)
  have c1 : w1.cell? ⟨w.heap.size, 1, none⟩ = some .nilFunc := (h1.cell (p := ⟨w.heap.size, 1, none⟩) (by simp)).trans (by simp)
  have f0 : w1.frozen? ⟨w.heap.size, 0, none⟩ = false := (h1.frozen (p := ⟨w.heap.size, 0, none⟩) (by simp)).trans (by simp)
  have f1 : w1.frozen? ⟨w.heap.size, 1, none⟩ = false := (h1.frozen (p := ⟨w.heap.size, 1, none⟩) (by simp)).trans (by simp)
  unfold kindV
  rw [show mSize 1 = 28 from rfl, show mMark 1 = 4 from rfl]
  clear h1
  go_wp2_with fail
  refine (new224_any _).mono ?_
  rintro e w2 ⟨rfl, hs, h2⟩
  rw [World.size_alloc] at h2
  have hz2 : w1.heap.size + 1 ≤ w2.heap.size := by have := h2.size; simpa using this
  have B2 := Lib.hid (B1.out.trans ((((Below.refl w1.heap.size w1).alloc (Nat.le_refl _) _).trans (h2.mono (by simp))).mono (by omega)))
  have c0' : w2.cell? ⟨w.heap.size, 0, none⟩ = some .nilFunc := (h2.cell (p := ⟨w.heap.size, 0, none⟩) (by simp; omega)).trans ((((Below.refl w1.heap.size w1).alloc (Nat.le_refl _) _).cell (p := ⟨w.heap.size, 0, none⟩) (by simp; omega)).trans c0)
  have c1' : w2.cell? ⟨w.heap.size, 1, none⟩ = some .nilFunc := (h2.cell (p := ⟨w.heap.size, 1, none⟩) (by simp; omega)).trans ((((Below.refl w1.heap.size w1).alloc (Nat.le_refl _) _).cell (p := ⟨w.heap.size, 1, none⟩) (by simp; omega)).trans c1)
  have f0' : w2.frozen? ⟨w.heap.size, 0, none⟩ = false := (h2.frozen (p := ⟨w.heap.size, 0, none⟩) (by simp; omega)).trans ((((Below.refl w1.heap.size w1).alloc (Nat.le_refl _) _).frozen (p := ⟨w.heap.size, 0, none⟩) (by simp; omega)).trans f0)
  have f1' : w2.frozen? ⟨w.heap.size, 1, none⟩ = false := (h2.frozen (p := ⟨w.heap.size, 1, none⟩) (by simp; omega)).trans ((((Below.refl w1.heap.size w1).alloc (Nat.le_refl _) _).frozen (p := ⟨w.heap.size, 1, none⟩) (by simp; omega)).trans f1)
  rw [World.size_alloc] at hs ⊢
  have HS := Lib.hid hs
  have hgl := stM_lt hs
  clear c0 c1 f0 f1 hs h2
  have hgw : w.heap.size < w1.heap.size + 1 := by omega
  generalize w1.heap.size + 1 = g at *
  go_wp2
  refine bodyPost_ret (v := .tuple #[.agg #[.func (.func 60) #[.pointer (some ⟨g, 0, none⟩)] #[], .func (.func 61) #[.pointer (some ⟨g, 0, none⟩)] #[]], .bool true]) ?_ rfl ⟨⟨g, rfl, by omega, stM_kept HS.out (grown_set (grown_set (grown_below (Below.refl _ w2) (some w.heap.size)) 0 _) 1 _) (by omega)⟩, (B2.out.setCell (p := ⟨w.heap.size, 0, none⟩) (Nat.le_refl _) _).setCell (p := ⟨w.heap.size, 1, none⟩) (Nat.le_refl _) _⟩
  rw [results_cell_tmp rfl]
  go_simp

theorem open_2 (w : World) (hk : Kinds w) : Calls Tryd.prog 57 #[.int .i64 2] w fun e w' => (∃ g, e = .returned (.tuple #[.agg #[.func (.func 60) #[.pointer (some ⟨g, 0, none⟩)] #[], .func (.func 61) #[.pointer (some ⟨g, 0, none⟩)] #[]], .bool true]) ∧ w.heap.size ≤ g ∧ StateOf w' g 256 []) ∧ Below w.heap.size w w' := by
  have HK := Lib.hid hk
  clear hk
  go_enter Tryd.func57, Tryd.ntmps57
  go_wp2_with fail
  refine (known_yesM 2 (by simp [IsHash]) _ (HK.out.below ((Below.refl _ _).alloc (Nat.le_refl _) _))).mono ?_
  rintro e w1 ⟨rfl, h1⟩
  have hz1 : w.heap.size + 1 ≤ w1.heap.size := by have := h1.size; simpa using this
  have B1 := Lib.hid (((Below.refl w.heap.size w).alloc (Nat.le_refl _) (.cells #[.nilFunc, .nilFunc] 88)).trans (h1.mono (by simp)))
  have c0 : w1.cell? ⟨w.heap.size, 0, none⟩ = some .nilFunc := (h1.cell (p := ⟨w.heap.size, 0, none⟩) (by simp)).trans (by simp)
  have c1 : w1.cell? ⟨w.heap.size, 1, none⟩ = some .nilFunc := (h1.cell (p := ⟨w.heap.size, 1, none⟩) (by simp)).trans (by simp)
  have f0 : w1.frozen? ⟨w.heap.size, 0, none⟩ = false := (h1.frozen (p := ⟨w.heap.size, 0, none⟩) (by simp)).trans (by simp)
  have f1 : w1.frozen? ⟨w.heap.size, 1, none⟩ = false := (h1.frozen (p := ⟨w.heap.size, 1, none⟩) (by simp)).trans (by simp)
  unfold kindV
  rw [show mSize 2 = 32 from rfl, show mMark 2 = 1 from rfl]
  clear h1
  go_wp2_with fail
  refine (new256_any _).mono ?_
  rintro e w2 ⟨rfl, hs, h2⟩
  rw [World.size_alloc] at h2
  have hz2 : w1.heap.size + 1 ≤ w2.heap.size := by have := h2.size; simpa using this
  have B2 := Lib.hid (B1.out.trans ((((Below.refl w1.heap.size w1).alloc (Nat.le_refl _) _).trans (h2.mono (by simp))).mono (by omega)))
  have c0' : w2.cell? ⟨w.heap.size, 0, none⟩ = some .nilFunc := (h2.cell (p := ⟨w.heap.size, 0, none⟩) (by simp; omega)).trans ((((Below.refl w1.heap.size w1).alloc (Nat.le_refl _) _).cell (p := ⟨w.heap.size, 0, none⟩) (by simp; omega)).trans c0)
  have c1' : w2.cell? ⟨w.heap.size, 1, none⟩ = some .nilFunc := (h2.cell (p := ⟨w.heap.size, 1, none⟩) (by simp; omega)).trans ((((Below.refl w1.heap.size w1).alloc (Nat.le_refl _) _).cell (p := ⟨w.heap.size, 1, none⟩) (by simp; omega)).trans c1)
  have f0' : w2.frozen? ⟨w.heap.size, 0, none⟩ = false := (h2.frozen (p := ⟨w.heap.size, 0, none⟩) (by simp; omega)).trans ((((Below.refl w1.heap.size w1).alloc (Nat.le_refl _) _).frozen (p := ⟨w.heap.size, 0, none⟩) (by simp; omega)).trans f0)
  have f1' : w2.frozen? ⟨w.heap.size, 1, none⟩ = false := (h2.frozen (p := ⟨w.heap.size, 1, none⟩) (by simp; omega)).trans ((((Below.refl w1.heap.size w1).alloc (Nat.le_refl _) _).frozen (p := ⟨w.heap.size, 1, none⟩) (by simp; omega)).trans f1)
  rw [World.size_alloc] at hs ⊢
  have HS := Lib.hid hs
  have hgl := stM_lt hs
  clear c0 c1 f0 f1 hs h2
  have hgw : w.heap.size < w1.heap.size + 1 := by omega
  generalize w1.heap.size + 1 = g at *
  go_wp2
  refine bodyPost_ret (v := .tuple #[.agg #[.func (.func 60) #[.pointer (some ⟨g, 0, none⟩)] #[], .func (.func 61) #[.pointer (some ⟨g, 0, none⟩)] #[]], .bool true]) ?_ rfl ⟨⟨g, rfl, by omega, stM_kept HS.out (grown_set (grown_set (grown_below (Below.refl _ w2) (some w.heap.size)) 0 _) 1 _) (by omega)⟩, (B2.out.setCell (p := ⟨w.heap.size, 0, none⟩) (Nat.le_refl _) _).setCell (p := ⟨w.heap.size, 1, none⟩) (Nat.le_refl _) _⟩
  rw [results_cell_tmp rfl]
  go_simp

theorem open_3 (w : World) (hk : Kinds w) : Calls Tryd.prog 57 #[.int .i64 3] w fun e w' => (∃ g, e = .returned (.tuple #[.agg #[.func (.func 63) #[.pointer (some ⟨g, 0, none⟩)] #[], .func (.func 64) #[.pointer (some ⟨g, 0, none⟩)] #[]], .bool true]) ∧ w.heap.size ≤ g ∧ L5.StateOf w' g 384 []) ∧ Below w.heap.size w w' := by
  have HK := Lib.hid hk
  clear hk
  go_enter Tryd.func57, Tryd.ntmps57
  go_wp2_with fail
  refine (known_yesM 3 (by simp [IsHash]) _ (HK.out.below ((Below.refl _ _).alloc (Nat.le_refl _) _))).mono ?_
  rintro e w1 ⟨rfl, h1⟩
  have hz1 : w.heap.size + 1 ≤ w1.heap.size := by have := h1.size; simpa using this
  have B1 := Lib.hid (((Below.refl w.heap.size w).alloc (Nat.le_refl _) (.cells #[.nilFunc, .nilFunc] 88)).trans (h1.mono (by simp)))
  have c0 : w1.cell? ⟨w.heap.size, 0, none⟩ = some .nilFunc := (h1.cell (p := ⟨w.heap.size, 0, none⟩) (by simp)).trans (by simp)
  have c1 : w1.cell? ⟨w.heap.size, 1, none⟩ = some .nilFunc := (h1.cell (p := ⟨w.heap.size, 1, none⟩) (by simp)).trans (by simp)
  have f0 : w1.frozen? ⟨w.heap.size, 0, none⟩ = false := (h1.frozen (p := ⟨w.heap.size, 0, none⟩) (by simp)).trans (by simp)
  have f1 : w1.frozen? ⟨w.heap.size, 1, none⟩ = false := (h1.frozen (p := ⟨w.heap.size, 1, none⟩) (by simp)).trans (by simp)
  unfold kindV
  rw [show mSize 3 = 48 from rfl, show mMark 3 = 2 from rfl]
  clear h1
  go_wp2_with fail
  refine (L5.new384_any _).mono ?_
  rintro e w2 ⟨rfl, hs, h2⟩
  rw [World.size_alloc] at h2
  have hz2 : w1.heap.size + 1 ≤ w2.heap.size := by have := h2.size; simpa using this
  have B2 := Lib.hid (B1.out.trans ((((Below.refl w1.heap.size w1).alloc (Nat.le_refl _) _).trans (h2.mono (by simp))).mono (by omega)))
  have c0' : w2.cell? ⟨w.heap.size, 0, none⟩ = some .nilFunc := (h2.cell (p := ⟨w.heap.size, 0, none⟩) (by simp; omega)).trans ((((Below.refl w1.heap.size w1).alloc (Nat.le_refl _) _).cell (p := ⟨w.heap.size, 0, none⟩) (by simp; omega)).trans c0)
  have c1' : w2.cell? ⟨w.heap.size, 1, none⟩ = some .nilFunc := (h2.cell (p := ⟨w.heap.size, 1, none⟩) (by simp; omega)).trans ((((Below.refl w1.heap.size w1).alloc (Nat.le_refl _) _).cell (p := ⟨w.heap.size, 1, none⟩) (by simp; omega)).trans c1)
  have f0' : w2.frozen? ⟨w.heap.size, 0, none⟩ = false := (h2.frozen (p := ⟨w.heap.size, 0, none⟩) (by simp; omega)).trans ((((Below.refl w1.heap.size w1).alloc (Nat.le_refl _) _).frozen (p := ⟨w.heap.size, 0, none⟩) (by simp; omega)).trans f0)
  have f1' : w2.frozen? ⟨w.heap.size, 1, none⟩ = false := (h2.frozen (p := ⟨w.heap.size, 1, none⟩) (by simp; omega)).trans ((((Below.refl w1.heap.size w1).alloc (Nat.le_refl _) _).frozen (p := ⟨w.heap.size, 1, none⟩) (by simp; omega)).trans f1)
  rw [World.size_alloc] at hs ⊢
  have HS := Lib.hid hs
  have hgl := L5.stM_lt hs
  clear c0 c1 f0 f1 hs h2
  have hgw : w.heap.size < w1.heap.size + 1 := by omega
  generalize w1.heap.size + 1 = g at *
  go_wp2
  refine bodyPost_ret (v := .tuple #[.agg #[.func (.func 63) #[.pointer (some ⟨g, 0, none⟩)] #[], .func (.func 64) #[.pointer (some ⟨g, 0, none⟩)] #[]], .bool true]) ?_ rfl ⟨⟨g, rfl, by omega, L5.stM_kept HS.out (grown_set (grown_set (grown_below (Below.refl _ w2) (some w.heap.size)) 0 _) 1 _) (by omega)⟩, (B2.out.setCell (p := ⟨w.heap.size, 0, none⟩) (Nat.le_refl _) _).setCell (p := ⟨w.heap.size, 1, none⟩) (Nat.le_refl _) _⟩
  rw [results_cell_tmp rfl]
  go_simp

theorem open_4 (w : World) (hk : Kinds w) : Calls Tryd.prog 57 #[.int .i64 4] w fun e w' => (∃ g, e = .returned (.tuple #[.agg #[.func (.func 63) #[.pointer (some ⟨g, 0, none⟩)] #[], .func (.func 64) #[.pointer (some ⟨g, 0, none⟩)] #[]], .bool true]) ∧ w.heap.size ≤ g ∧ L5.StateOf w' g 512 []) ∧ Below w.heap.size w w' := by
  have HK := Lib.hid hk
  clear hk
  go_enter Tryd.func57, Tryd.ntmps57
  go_wp2_with fail
  refine (known_yesM 4 (by simp [IsHash]) _ (HK.out.below ((Below.refl _ _).alloc (Nat.le_refl _) _))).mono ?_
  rintro e w1 ⟨rfl, h1⟩
  have hz1 : w.heap.size + 1 ≤ w1.heap.size := by have := h1.size; simpa using this
  have B1 := Lib.hid (((Below.refl w.heap.size w).alloc (Nat.le_refl _) (.cells #[.nilFunc, .nilFunc] 88)).trans (h1.mono (by simp)))
  have c0 : w1.cell? ⟨w.heap.size, 0, none⟩ = some .nilFunc := (h1.cell (p := ⟨w.heap.size, 0, none⟩) (by simp)).trans (by simp)
  have c1 : w1.cell? ⟨w.heap.size, 1, none⟩ = some .nilFunc := (h1.cell (p := ⟨w.heap.size, 1, none⟩) (by simp)).trans (by simp)
  have f0 : w1.frozen? ⟨w.heap.size, 0, none⟩ = false := (h1.frozen (p := ⟨w.heap.size, 0, none⟩) (by simp)).trans (by simp)
  have f1 : w1.frozen? ⟨w.heap.size, 1, none⟩ = false := (h1.frozen (p := ⟨w.heap.size, 1, none⟩) (by simp)).trans (by simp)
  unfold kindV
  rw [show mSize 4 = 64 from rfl, show mMark 4 = 3 from rfl]
  clear h1
  go_wp2_with fail
  refine (L5.new512_any _).mono ?_
  rintro e w2 ⟨rfl, hs, h2⟩
  rw [World.size_alloc] at h2
  have hz2 : w1.heap.size + 1 ≤ w2.heap.size := by have := h2.size; simpa using this
  have B2 := Lib.hid (B1.out.trans ((((Below.refl w1.heap.size w1).alloc (Nat.le_refl _) _).trans (h2.mono (by simp))).mono (by omega)))
  have c0' : w2.cell? ⟨w.heap.size, 0, none⟩ = some .nilFunc := (h2.cell (p := ⟨w.heap.size, 0, none⟩) (by simp; omega)).trans ((((Below.refl w1.heap.size w1).alloc (Nat.le_refl _) _).cell (p := ⟨w.heap.size, 0, none⟩) (by simp; omega)).trans c0)
  have c1' : w2.cell? ⟨w.heap.size, 1, none⟩ = some .nilFunc := (h2.cell (p := ⟨w.heap.size, 1, none⟩) (by simp; omega)).trans ((((Below.refl w1.heap.size w1).alloc (Nat.le_refl _) _).cell (p := ⟨w.heap.size, 1, none⟩) (by simp; omega)).trans c1)
  have f0' : w2.frozen? ⟨w.heap.size, 0, none⟩ = false := (h2.frozen (p := ⟨w.heap.size, 0, none⟩) (by simp; omega)).trans ((((Below.refl w1.heap.size w1).alloc (Nat.le_refl _) _).frozen (p := ⟨w.heap.size, 0, none⟩) (by simp; omega)).trans f0)
  have f1' : w2.frozen? ⟨w.heap.size, 1, none⟩ = false := (h2.frozen (p := ⟨w.heap.size, 1, none⟩) (by simp; omega)).trans ((((Below.refl w1.heap.size w1).alloc (Nat.le_refl _) _).frozen (p := ⟨w.heap.size, 1, none⟩) (by simp; omega)).trans f1)
  rw [World.size_alloc] at hs ⊢
  have HS := Lib.hid hs
  have hgl := L5.stM_lt hs
  clear c0 c1 f0 f1 hs h2
  have hgw : w.heap.size < w1.heap.size + 1 := by omega
  generalize w1.heap.size + 1 = g at *
  go_wp2
  refine bodyPost_ret (v := .tuple #[.agg #[.func (.func 63) #[.pointer (some ⟨g, 0, none⟩)] #[], .func (.func 64) #[.pointer (some ⟨g, 0, none⟩)] #[]], .bool true]) ?_ rfl ⟨⟨g, rfl, by omega, L5.stM_kept HS.out (grown_set (grown_set (grown_below (Below.refl _ w2) (some w.heap.size)) 0 _) 1 _) (by omega)⟩, (B2.out.setCell (p := ⟨w.heap.size, 0, none⟩) (Nat.le_refl _) _).setCell (p := ⟨w.heap.size, 1, none⟩) (Nat.le_refl _) _⟩
  rw [results_cell_tmp rfl]
  go_simp

end Go.Proofs.YtpefjkndfifceaaDoor

namespace Go.Proofs.YtpefjkndfifceaaDoor
open Go.RowKit Go.Shelf
set_option maxRecDepth 100000

/-- Rows that came in, or were made. -/
structure RowsM (w : World) (a : Option Addr) (n : Nat) (R : Nat → Option Addr × Nat × Nat × List Nat) : Prop where
  each : ∀ i, i < n → Reads .u8 w (R i).1 (R i).2.1 (R i).2.2.1 (R i).2.2.2 ∧ Byt (R i).2.2.2 ∧ (R i).2.1 ≤ 1048576
  cells : 0 < n → ∃ b off, a = some ⟨b, off, none⟩ ∧ b < w.heap.size ∧ ∀ i, i < n → w.cell? ⟨b, off + i, none⟩ = some (.slice (R i).1 (R i).2.1 (R i).2.2.1)
def flatM (R : Nat → Option Addr × Nat × Nat × List Nat) : Nat → List Nat
  | 0 => []
  | i + 1 => flatM R i ++ (R i).2.2.2
theorem flatM_byt {w : World} {a : Option Addr} {n : Nat} {R : Nat → Option Addr × Nat × Nat × List Nat} (h : RowsM w a n R) : ∀ i, i ≤ n → Byt (flatM R i)
  | 0, _ => fun x hx => by cases hx
  | i + 1, hi => fun x hx => by
    rcases List.mem_append.1 hx with hx | hx
    · exact flatM_byt h i (by omega) x hx
    · exact (h.each i (by omega)).2.1 x hx
theorem RowsM.below {w w' : World} {a : Option Addr} {n : Nat} {R : Nat → Option Addr × Nat × Nat × List Nat} (h : RowsM w a n R) (hb : Below w.heap.size w w') : RowsM w' a n R :=
  ⟨fun i hi => ⟨(h.each i hi).1.below hb, (h.each i hi).2⟩, fun hp => by
    obtain ⟨b, off, ha, hlt, hc⟩ := h.cells hp
    exact ⟨b, off, ha, Nat.lt_of_lt_of_le hlt hb.size, fun i hi => (hb.cell (p := ⟨b, off + i, .none⟩) hlt).trans (hc i hi)⟩⟩
theorem flatM_len {w : World} {a : Option Addr} {n : Nat} {R : Nat → Option Addr × Nat × Nat × List Nat} (h : RowsM w a n R) : ∀ i, i ≤ n → (flatM R i).length ≤ 1048576 * i
  | 0, _ => Nat.zero_le _
  | i + 1, hi => by
    have h1 := flatM_len h i (by omega)
    obtain ⟨h2, -, h3⟩ := h.each i (by omega)
    have h4 := h2.length
    rw [flatM, List.length_append]
    omega
def mHash (h : Nat) (m : List Nat) : List Nat := match h with
  | 1 => hashN 224 m
  | 2 => hashN 256 m
  | 3 => L5.hashN 384 m
  | 4 => L5.hashN 512 m
  | _ => []

theorem open_A (h bt : Nat) (hh : h = 1 ∧ bt = 224 ∨ h = 2 ∧ bt = 256) (w : World) (hk : Kinds w) : Calls Tryd.prog 57 #[.int .i64 (h : Int)] w fun e w' => (∃ g, e = .returned (.tuple #[.agg #[.func (.func 60) #[.pointer (some ⟨g, 0, none⟩)] #[], .func (.func 61) #[.pointer (some ⟨g, 0, none⟩)] #[]], .bool true]) ∧ w.heap.size ≤ g ∧ StateOf w' g bt []) ∧ Below w.heap.size w w' := by
  rcases hh with ⟨rfl, rfl⟩ | ⟨rfl, rfl⟩
  · exact open_1 w hk
  · exact open_2 w hk
set_option maxHeartbeats 1000000 in
theorem sum_A (h bt : Nat) (hh : h = 1 ∧ bt = 224 ∨ h = 2 ∧ bt = 256) (a : Option Addr) (n cap : Nat) (R : Nat → Option Addr × Nat × Nat × List Nat) (w : World) (hk : Kinds w) (hR : RowsM w a n R) (hn : n ≤ 1000) :
    Calls Tryd.prog 53 #[.int .i64 (h : Int), .slice a n cap] w fun e w' => (∃ ad c, e = .returned (.tuple #[.slice (some ad) (bt / 8) c, .int .i64 0]) ∧ Reads .u8 w' (some ad) (bt / 8) c (hashN bt (flatM R n)) ∧ w.heap.size ≤ ad.block) ∧ Below w.heap.size w w' := by
  have HR := Lib.hid hR
  have HH := Lib.hid hh
  have HBT := Lib.hid (show bt = 224 ∨ bt = 256 by omega)
  have hbt0 : bt ≠ 0 := by omega
  clear hR hh
  go_enter Tryd.func53, Tryd.ntmps53
  go_wp2_with fail
  refine (open_A h bt HH.out w hk).mono ?_
  rintro e w1 ⟨⟨g, rfl, hg, hs⟩, h1⟩
  have hgl := stM_lt hs
  have HB1 := Lib.hid h1
  have HGW := Lib.hid hg
  have HS1 := Lib.hid (stM_below hs ((Below.refl w1.heap.size w1).alloc (Nat.le_refl _) (.cells #[.func (.func 60) #[.pointer (some ⟨g, 0, none⟩)] #[], .func (.func 61) #[.pointer (some ⟨g, 0, none⟩)] #[]] 88)) hgl)
  have HB2 := Lib.hid (h1.alloc h1.size (.cells #[.func (.func 60) #[.pointer (some ⟨g, 0, none⟩)] #[], .func (.func 61) #[.pointer (some ⟨g, 0, none⟩)] #[]] 88))
  have cF0 : (w1.alloc (.cells #[.func (.func 60) #[.pointer (some ⟨g, 0, none⟩)] #[], .func (.func 61) #[.pointer (some ⟨g, 0, none⟩)] #[]] 88)).cell? ⟨w1.heap.size, 0, none⟩ = some (.func (.func 60) #[.pointer (some ⟨g, 0, none⟩)] #[]) := by simp
  have cF1 : (w1.alloc (.cells #[.func (.func 60) #[.pointer (some ⟨g, 0, none⟩)] #[], .func (.func 61) #[.pointer (some ⟨g, 0, none⟩)] #[]] 88)).cell? ⟨w1.heap.size, 1, none⟩ = some (.func (.func 61) #[.pointer (some ⟨g, 0, none⟩)] #[]) := by simp
  have CF0 := Lib.hid cF0
  have CF1 := Lib.hid cF1
  have hfs : w1.heap.size < (w1.alloc (.cells #[.func (.func 60) #[.pointer (some ⟨g, 0, none⟩)] #[], .func (.func 61) #[.pointer (some ⟨g, 0, none⟩)] #[]] 88)).heap.size := by simp
  clear hs h1 hg cF0 cF1 hk
  go_wp2_with fail
  generalize w1.alloc (.cells #[.func (.func 60) #[.pointer (some ⟨g, 0, none⟩)] #[], .func (.func 61) #[.pointer (some ⟨g, 0, none⟩)] #[]] 88) = w2 at *
  have hz02 := HB2.out.size
  clear HB1
  generalize w1.heap.size = fb at *
  have HG2 := Lib.hid (show w2.grownBy w2 (some g) from ⟨rfl, rfl, rfl, Nat.le_refl _, fun _ _ _ => rfl⟩)
  go_loopw [19] (fun iv wq => ∃ i : Nat, iv = .int .i64 (i : Int) ∧ i ≤ n ∧ Hid (StateOf wq g bt (flatM R i) ∧ w2.grownBy wq (some g))) (fun iv _ => n - (intOf iv).toNat)
  case atStart => exact ⟨0, rfl, Nat.zero_le _, HS1.out, HG2.out⟩
  case round =>
    obtain ⟨i, rfl, hi, hI⟩ := hrel
    have HST := Lib.hid hI.out.1
    have HG := Lib.hid hI.out.2
    have cF0 := (World.cell?_of_block (a := ⟨fb, 0, none⟩) (HG.out.block fb hfs (fun e => by have := Option.some.inj e; omega))).trans CF0.out
    have cF1 := (World.cell?_of_block (a := ⟨fb, 1, none⟩) (HG.out.block fb hfs (fun e => by have := Option.some.inj e; omega))).trans CF1.out
    clear hI
    by_cases hlt : i < n
    · have tn : decide (i < n) = true := by simp; omega
      obtain ⟨b, off, rfl, hbk, hc⟩ := HR.out.cells (by omega)
      have HBW := Lib.hid (HB2.out.grown HG.out HB2.out.size (fun r e => by cases e; exact HGW.out))
      have hci := (World.cell?_of_block (a := ⟨b, off + i, none⟩) (HBW.out.block b hbk)).trans (hc i hlt)
      have he := HR.out.each i hlt
      have HEL := Lib.hid (show flatM R (i + 1) = flatM R i ++ (R i).2.2.2 from rfl)
      have HLN := Lib.hid (flatM_len HR.out i (by omega))
      obtain ⟨⟨ra, rl, rc, l⟩, hri⟩ : ∃ r, r = R i := ⟨_, rfl⟩
      rw [← hri] at hci he HEL
      dsimp only at hci he HEL
      have HE := Lib.hid he
      have hrl := he.2.2
      clear hc he hri
      go_wp2_with fail
      refine (write_any g bt (flatM R i) l ra rl rc wr HST.out hbt0 (HE.out.1.below HBW.out) HE.out.2.1 (by have := HLN.out; omega) (fun hp ad e => by
        subst e
        obtain ⟨b', off', e, hb', -⟩ := HE.out.1.cells hp
        cases e
        have := HGW.out
        exact Nat.ne_of_lt (Nat.lt_of_lt_of_le hb' this))).mono ?_
      rintro e w6 ⟨rfl, hs6, hg6⟩
      rw [← HEL.out] at hs6
      have HS6 := Lib.hid hs6
      have HG6 := Lib.hid (grown_trans HG.out hg6)
      clear hs6 hg6 hci cF0 cF1
      go_wp2
      go_roundw
      case rel => exact ⟨i + 1, by go_num, by omega, HS6.out, HG6.out⟩
      case measure => simp [intOf] <;> omega
    · have hin : i = n := by omega
      have tn : decide (i < n) = false := by simp; omega
      have HBW := Lib.hid (HB2.out.grown HG.out HB2.out.size (fun r e => by cases e; exact HGW.out))
      subst hin
      clear hlt
      go_wp2_with fail
      refine (sum_any g bt (flatM R i) wr HST.out HBT.out).mono ?_
      rintro e w7 ⟨⟨ad, rfl, h7, h8⟩, h9⟩
      try dsimp only at h7 h8
      have H7 := Lib.hid h7
      have HB7 := Lib.hid (HBW.out.trans (h9.mono HBW.out.size))
      have had : w.heap.size ≤ ad.block := Nat.le_trans HBW.out.size h8
      clear h7 h8 h9 cF0 cF1
      go_wp2
      go_ret2
      exact ⟨⟨ad, _, rfl, H7.out, had⟩, HB7.out⟩

theorem open_B (h bt : Nat) (hh : h = 3 ∧ bt = 384 ∨ h = 4 ∧ bt = 512) (w : World) (hk : Kinds w) : Calls Tryd.prog 57 #[.int .i64 (h : Int)] w fun e w' => (∃ g, e = .returned (.tuple #[.agg #[.func (.func 63) #[.pointer (some ⟨g, 0, none⟩)] #[], .func (.func 64) #[.pointer (some ⟨g, 0, none⟩)] #[]], .bool true]) ∧ w.heap.size ≤ g ∧ L5.StateOf w' g bt []) ∧ Below w.heap.size w w' := by
  rcases hh with ⟨rfl, rfl⟩ | ⟨rfl, rfl⟩
  · exact open_3 w hk
  · exact open_4 w hk
set_option maxHeartbeats 1000000 in
theorem sum_B (h bt : Nat) (hh : h = 3 ∧ bt = 384 ∨ h = 4 ∧ bt = 512) (a : Option Addr) (n cap : Nat) (R : Nat → Option Addr × Nat × Nat × List Nat) (w : World) (hk : Kinds w) (hR : RowsM w a n R) (hn : n ≤ 1000) :
    Calls Tryd.prog 53 #[.int .i64 (h : Int), .slice a n cap] w fun e w' => (∃ ad c, e = .returned (.tuple #[.slice (some ad) (bt / 8) c, .int .i64 0]) ∧ Reads .u8 w' (some ad) (bt / 8) c (L5.hashN bt (flatM R n)) ∧ w.heap.size ≤ ad.block) ∧ Below w.heap.size w w' := by
  have HR := Lib.hid hR
  have HH := Lib.hid hh
  have HBT := Lib.hid (show bt = 384 ∨ bt = 512 by omega)
  have hbt0 : bt ≠ 0 := by omega
  clear hR hh
  go_enter Tryd.func53, Tryd.ntmps53
  go_wp2_with fail
  refine (open_B h bt HH.out w hk).mono ?_
  rintro e w1 ⟨⟨g, rfl, hg, hs⟩, h1⟩
  have hgl := L5.stM_lt hs
  have HB1 := Lib.hid h1
  have HGW := Lib.hid hg
  have HS1 := Lib.hid (L5.stM_below hs ((Below.refl w1.heap.size w1).alloc (Nat.le_refl _) (.cells #[.func (.func 63) #[.pointer (some ⟨g, 0, none⟩)] #[], .func (.func 64) #[.pointer (some ⟨g, 0, none⟩)] #[]] 88)) hgl)
  have HB2 := Lib.hid (h1.alloc h1.size (.cells #[.func (.func 63) #[.pointer (some ⟨g, 0, none⟩)] #[], .func (.func 64) #[.pointer (some ⟨g, 0, none⟩)] #[]] 88))
  have cF0 : (w1.alloc (.cells #[.func (.func 63) #[.pointer (some ⟨g, 0, none⟩)] #[], .func (.func 64) #[.pointer (some ⟨g, 0, none⟩)] #[]] 88)).cell? ⟨w1.heap.size, 0, none⟩ = some (.func (.func 63) #[.pointer (some ⟨g, 0, none⟩)] #[]) := by simp
  have cF1 : (w1.alloc (.cells #[.func (.func 63) #[.pointer (some ⟨g, 0, none⟩)] #[], .func (.func 64) #[.pointer (some ⟨g, 0, none⟩)] #[]] 88)).cell? ⟨w1.heap.size, 1, none⟩ = some (.func (.func 64) #[.pointer (some ⟨g, 0, none⟩)] #[]) := by simp
  have CF0 := Lib.hid cF0
  have CF1 := Lib.hid cF1
  have hfs : w1.heap.size < (w1.alloc (.cells #[.func (.func 63) #[.pointer (some ⟨g, 0, none⟩)] #[], .func (.func 64) #[.pointer (some ⟨g, 0, none⟩)] #[]] 88)).heap.size := by simp
  clear hs h1 hg cF0 cF1 hk
  go_wp2_with fail
  generalize w1.alloc (.cells #[.func (.func 63) #[.pointer (some ⟨g, 0, none⟩)] #[], .func (.func 64) #[.pointer (some ⟨g, 0, none⟩)] #[]] 88) = w2 at *
  have hz02 := HB2.out.size
  clear HB1
  generalize w1.heap.size = fb at *
  have HG2 := Lib.hid (show w2.grownBy w2 (some g) from ⟨rfl, rfl, rfl, Nat.le_refl _, fun _ _ _ => rfl⟩)
  go_loopw [19] (fun iv wq => ∃ i : Nat, iv = .int .i64 (i : Int) ∧ i ≤ n ∧ Hid (L5.StateOf wq g bt (flatM R i) ∧ w2.grownBy wq (some g))) (fun iv _ => n - (intOf iv).toNat)
  case atStart => exact ⟨0, rfl, Nat.zero_le _, HS1.out, HG2.out⟩
  case round =>
    obtain ⟨i, rfl, hi, hI⟩ := hrel
    have HST := Lib.hid hI.out.1
    have HG := Lib.hid hI.out.2
    have cF0 := (World.cell?_of_block (a := ⟨fb, 0, none⟩) (HG.out.block fb hfs (fun e => by have := Option.some.inj e; omega))).trans CF0.out
    have cF1 := (World.cell?_of_block (a := ⟨fb, 1, none⟩) (HG.out.block fb hfs (fun e => by have := Option.some.inj e; omega))).trans CF1.out
    clear hI
    by_cases hlt : i < n
    · have tn : decide (i < n) = true := by simp; omega
      obtain ⟨b, off, rfl, hbk, hc⟩ := HR.out.cells (by omega)
      have HBW := Lib.hid (HB2.out.grown HG.out HB2.out.size (fun r e => by cases e; exact HGW.out))
      have hci := (World.cell?_of_block (a := ⟨b, off + i, none⟩) (HBW.out.block b hbk)).trans (hc i hlt)
      have he := HR.out.each i hlt
      have HEL := Lib.hid (show flatM R (i + 1) = flatM R i ++ (R i).2.2.2 from rfl)
      have HLN := Lib.hid (flatM_len HR.out i (by omega))
      obtain ⟨⟨ra, rl, rc, l⟩, hri⟩ : ∃ r, r = R i := ⟨_, rfl⟩
      rw [← hri] at hci he HEL
      dsimp only at hci he HEL
      have HE := Lib.hid he
      have hrl := he.2.2
      clear hc he hri
      go_wp2_with fail
      refine (L5.write_any g bt (flatM R i) l ra rl rc wr HST.out hbt0 (HE.out.1.below HBW.out) HE.out.2.1 (by have := HLN.out; omega) (fun hp ad e => by
        subst e
        obtain ⟨b', off', e, hb', -⟩ := HE.out.1.cells hp
        cases e
        have := HGW.out
        exact Nat.ne_of_lt (Nat.lt_of_lt_of_le hb' this))).mono ?_
      rintro e w6 ⟨rfl, hs6, hg6⟩
      rw [← HEL.out] at hs6
      have HS6 := Lib.hid hs6
      have HG6 := Lib.hid (grown_trans HG.out hg6)
      clear hs6 hg6 hci cF0 cF1
      go_wp2
      go_roundw
      case rel => exact ⟨i + 1, by go_num, by omega, HS6.out, HG6.out⟩
      case measure => simp [intOf] <;> omega
    · have hin : i = n := by omega
      have tn : decide (i < n) = false := by simp; omega
      have HBW := Lib.hid (HB2.out.grown HG.out HB2.out.size (fun r e => by cases e; exact HGW.out))
      subst hin
      clear hlt
      go_wp2_with fail
      refine (L5.sum_any g bt (flatM R i) wr HST.out HBT.out).mono ?_
      rintro e w7 ⟨⟨⟨ad, cc⟩, rfl, h7, h8⟩, h9⟩
      try dsimp only at h7 h8
      have H7 := Lib.hid h7
      have HB7 := Lib.hid (HBW.out.trans (h9.mono HBW.out.size))
      have had : w.heap.size ≤ ad.block := Nat.le_trans HBW.out.size h8
      clear h7 h8 h9 cF0 cF1
      go_wp2
      go_ret2
      exact ⟨⟨ad, _, rfl, H7.out, had⟩, HB7.out⟩

end Go.Proofs.YtpefjkndfifceaaDoor

namespace Go.Proofs.YtpefjkndfifceaaDoor
open Go.RowKit Go.Shelf
set_option maxRecDepth 100000

theorem sum_yes (h : Nat) (hh : IsHash h) (a : Option Addr) (n cap : Nat) (R : Nat → Option Addr × Nat × Nat × List Nat) (w : World) (hk : Kinds w) (hR : RowsM w a n R) (hn : n ≤ 1000) :
    Calls Tryd.prog 53 #[.int .i64 (h : Int), .slice a n cap] w fun e w' => (∃ ad c, e = .returned (.tuple #[.slice (some ad) (mSize h) c, .int .i64 0]) ∧ Reads .u8 w' (some ad) (mSize h) c (mHash h (flatM R n)) ∧ w.heap.size ≤ ad.block) ∧ Below w.heap.size w w' := by
  rcases hh with rfl | rfl | rfl | rfl
  · exact sum_A 1 224 (.inl ⟨rfl, rfl⟩) a n cap R w hk hR hn
  · exact sum_A 2 256 (.inr ⟨rfl, rfl⟩) a n cap R w hk hR hn
  · exact sum_B 3 384 (.inl ⟨rfl, rfl⟩) a n cap R w hk hR hn
  · exact sum_B 4 512 (.inr ⟨rfl, rfl⟩) a n cap R w hk hR hn
theorem open_no (h : Int) (hn : h < 1 ∨ 4 < h) (w : World) : Calls Tryd.prog 57 #[.int .i64 h] w fun e w' => e = .returned (.tuple #[.agg #[.nilFunc, .nilFunc], .bool false]) ∧ Below w.heap.size w w' := by
  go_enter Tryd.func57, Tryd.ntmps57
  go_wp2_with fail
  refine (known_noM h hn _).mono ?_
  rintro e w1 ⟨rfl, h1⟩
  have hz1 : w.heap.size + 1 ≤ w1.heap.size := by have := h1.size; simpa using this
  have B1 := Lib.hid (((Below.refl w.heap.size w).alloc (Nat.le_refl _) (.cells #[.nilFunc, .nilFunc] 88)).trans (h1.mono (by simp)))
  have c0 : w1.cell? ⟨w.heap.size, 0, none⟩ = some .nilFunc := (h1.cell (p := ⟨w.heap.size, 0, none⟩) (by simp)).trans (by simp)
  have c1 : w1.cell? ⟨w.heap.size, 1, none⟩ = some .nilFunc := (h1.cell (p := ⟨w.heap.size, 1, none⟩) (by simp)).trans (by simp)
  have f0 : w1.frozen? ⟨w.heap.size, 0, none⟩ = false := (h1.frozen (p := ⟨w.heap.size, 0, none⟩) (by simp)).trans (by simp)
  have f1 : w1.frozen? ⟨w.heap.size, 1, none⟩ = false := (h1.frozen (p := ⟨w.heap.size, 1, none⟩) (by simp)).trans (by simp)
  clear h1 hn
  have hz1' : w.heap.size < w1.heap.size := by omega
  go_wp2
  refine bodyPost_ret (v := .tuple #[.agg #[.nilFunc, .nilFunc], .bool false]) ?_ rfl ⟨rfl, ?_⟩
  · rw [results_cell_tmp rfl]
    go_simp
  · have h := B1.out
    have hs := h.size
    (repeat' (first | exact h | exact (h.setCell (p := ⟨w.heap.size, 0, none⟩) (Nat.le_refl _) _).setCell (p := ⟨w.heap.size, 1, none⟩) (Nat.le_refl _) _ | exact ((h.alloc hs _).setCell (p := ⟨w.heap.size, 0, none⟩) (Nat.le_refl _) _).setCell (p := ⟨w.heap.size, 1, none⟩) (Nat.le_refl _) _ | refine Below.drew ?_ | refine Below.alloc ?_ (by first | omega | (simp; omega)) _))
theorem sum_noM (h : Int) (hn : h < 1 ∨ 4 < h) (a : Option Addr) (n cap : Nat) (w : World) : Calls Tryd.prog 53 #[.int .i64 h, .slice a n cap] w fun e w' => e = .returned (.tuple #[.slice none 0 0, .int .i64 80]) ∧ Below w.heap.size w w' := by
  go_enter Tryd.func53, Tryd.ntmps53
  go_wp2_with fail
  refine (open_no h hn w).mono ?_
  rintro e w1 ⟨rfl, h1⟩
  have H1 := Lib.hid h1
  clear h1 hn
  go_wp2
  go_ret2
  exact ⟨rfl, H1.out.alloc H1.out.size _⟩
theorem mHash_byt {h : Nat} (hh : IsHash h) (m : List Nat) : Byt (mHash h m) := by
  rcases hh with rfl | rfl | rfl | rfl
  · exact hashN_lt 224 m
  · exact hashN_lt 256 m
  · exact L5.hashN_lt 384 m
  · exact L5.hashN_lt 512 m

end Go.Proofs.YtpefjkndfifceaaDoor
