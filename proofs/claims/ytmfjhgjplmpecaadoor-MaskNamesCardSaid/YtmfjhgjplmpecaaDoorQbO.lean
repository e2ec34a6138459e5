/-
  SHA-512: turn. (Written by wip/gen_shbO.py.)
-/
import Derived.Test.YtmfjhgjplmpecaaDoorQbN
import Derived.Test.YtmfjhgjplmpecaaDoorQbJ
namespace Go.Proofs.YtmfjhgjplmpecaaDoor.L5
open Go.RowKit Go.Shelf
set_option maxRecDepth 100000
attribute [local go_sem] Oper.semAt_some

section
variable {P : Program}
theorem run_loadVar_part (w : World) (g k : Nat) (ty : TypeId) (cs : Array Value) (d : TypeDesc) (hg : ∀ j v, cs[j]? = some v → w.cell? ⟨g, k + j, none⟩ = some v)
    (hu : P.underlying ty = some d) (hd : (match d with | .struct _ | .array _ _ => true | _ => false) = true) (hi : (P.info? ty).map (·.size) = some cs.size) :
    (loadVar ty ⟨g, k, none⟩).run P w = .ok (.agg cs) w := by
  have hl : (loadCells ⟨g, k, none⟩ cs.toList.length).run P w = .ok cs.toList.toArray w :=
    run_loadCells_list (P := P) w ⟨g, k, none⟩ cs.toList (fun j v hv => by
      have hadd : (⟨g, k, none⟩ : Addr).add j = ⟨g, k + j, none⟩ := by unfold Addr.add; split <;> simp_all
      rw [hadd]
      exact hg j v (by simpa using hv))
  cases hq : P.info? ty with
  | none => simp [hq] at hi
  | some i =>
    have hs : i.size = cs.size := by simpa [hq] using hi
    have hagg : (isAgg ty).run P w = .ok true w := by
      unfold isAgg
      rw [Sem.run_bind, run_underlying hu w]
      cases d <;> simp_all
    simp only [Array.length_toList, Array.toArray_toList] at hl
    simp [loadVar, Sem.run_bind, hagg, sizeOf, typeInfo, hq, hs, hl]
theorem wpList_load_part {ops : Array Oper} {rest : List Oper} {o : Oper} {a : Act} {w : World} {Q : Exit → Act → World → Prop} (hgd : o.guard = none) (ty : TypeId) (x : Operand) (ho : o.op = .load ty x)
    (g k : Nat) (hx : a.eval x = .pointer (some ⟨g, k, none⟩)) (cs : Array Value) (d : TypeDesc) (hg : ∀ j v, cs[j]? = some v → w.cell? ⟨g, k + j, none⟩ = some v)
    (hu : P.underlying ty = some d) (hd : (match d with | .struct _ | .array _ _ => true | _ => false) = true) (hi : (P.info? ty).map (·.size) = some cs.size)
    (h : wpList P ops Q rest (a.put o.dst (.agg cs)) w) : wpList P ops Q (o :: rest) a w :=
  wpList_plain hgd fun K hK => by
    unfold Oper.wp execOp
    simp only [ho, hx, Instr.loadAt, Instr.sureAddr, Sem.run_bind, Sem.run_pure, Result.andThen_ok, run_loadVar_part w g k ty cs d hg hu hd hi]
    exact hK _ _ h
end
theorem StateAt.alloc {w : World} {g bt : Nat} {ws tail : List Nat} {T : Nat} (h : StateAt w g bt ws tail T) (o : Obj) : StateAt (w.alloc o) g bt ws tail T := h.block (Below.heap_alloc w o g h.lt)
theorem StateAt.tailC {w : World} {g bt : Nat} {ws tail : List Nat} {T : Nat} (h : StateAt w g bt ws tail T) : ∀ j v, (arrC .u8 tail)[j]? = some v → w.cell? ⟨g, 9 + j, none⟩ = some v := fun j v hv => by
  have hj : j < tail.length := by
    have := (Array.getElem?_eq_some_iff.1 hv).1
    rwa [arrC_size] at this
  rw [arrC_get .u8 tail j hj] at hv
  cases hv
  exact h.byte j (by have := h.tlen; omega)
/-- Between two rounds. -/
def TuI (w : World) (g bt T Kb V : Nat) (ws tail : List Nat) (pre : List (Nat × Nat)) (W : World) : Prop := Arr .u64 79 W Kb kL ∧ (∃ vs, Arr .u64 80 W V vs ∧ vs.length = 8 ∧ (∀ x ∈ vs, x < 18446744073709551616) ∧ (pre = toldN tail pre.length → vs = rdsN ws (schedN tail) pre.length)) ∧ StateAt W g bt ws tail T ∧ Below w.heap.size w W
theorem TuI.stays {w X X' : World} {g bt T Kb V : Nat} {ws tail : List Nat} {pre : List (Nat × Nat)} {row : Option Nat} (h : TuI w g bt T Kb V ws tail pre X) (hg : X.grownBy X' row) (hr : ∀ r, row = some r → w.heap.size ≤ r ∧ r ≠ Kb ∧ r ≠ V ∧ r ≠ g) : TuI w g bt T Kb V ws tail pre X' := by
  obtain ⟨h1, ⟨vs, h2, h3, h4, h5⟩, h6, h7⟩ := h
  exact ⟨(hg.block Kb h1.lt (fun e => (hr _ e.symm).2.1 rfl)).trans h1, ⟨vs, (hg.block V h2.lt (fun e => (hr _ e.symm).2.2.1 rfl)).trans h2, h3, h4, h5⟩, h6.block (hg.block g h6.lt (fun e => (hr _ e.symm).2.2.2 rfl)), h7.grown hg h7.size (fun r e => (hr r e).1)⟩
theorem rdsN_succ (ws sc : List Nat) (i : Nat) : rdsN ws sc (i + 1) = rd (rdsN ws sc i) (g0 kL i) (g0 sc i) := rfl
theorem told_len (b : List Nat) (t : Nat) : (toldN b t).length = t := by simp [toldN]
theorem grown_past {x y z : World} {g : Nat} {row : Option Nat} (h : x.grownBy y (some g)) (k : y.grownBy z row) (hr : ∀ r, row = some r → x.heap.size ≤ r) : x.grownBy z (some g) :=
  ⟨k.os.trans h.os, k.tape.trans h.tape, k.output.trans h.output, Nat.le_trans h.size k.size, fun i hi hn => (k.block i (Nat.lt_of_lt_of_le hi h.size) (fun e => by have := hr i e.symm; omega)).trans (h.block i hi hn)⟩
theorem told_split {b : List Nat} {pre : List (Nat × Nat)} {x : Nat × Nat} (he : pre ++ [x] = toldN b (pre ++ [x]).length) : pre = toldN b pre.length ∧ x = (pre.length, g0 (schedN b) pre.length) := by
  rw [List.length_append, List.length_singleton, toldN_succ] at he
  have := List.append_inj' he rfl
  exact ⟨this.1, by simpa using this.2⟩
theorem keeps_arr {W W' : World} {q : IntKind} {E : TypeId} {g : Nat} {l : List Nat} (h : Arr q E W g l) (hg : W.grownBy W' (some g)) : KeepsOthers W W' :=
  KeepsOthers.of_grownBy hg fun j o ej hj => by
    cases ej
    rw [h] at hj
    cases hj
    rfl
def CT (p : Nat × Nat) : Prop := p.1 < 80 ∧ p.2 < 18446744073709551616
theorem ct_of {b : List Nat} (hb : ∀ x ∈ b, x < 256) (t : Nat) (ht : t < 80) : CT (t, g0 (schedN b) t) := by
  have h2 : g0 (schedN b) t < 18446744073709551616 := g0_lt (schedN_lt b hb) (by decide) t
  generalize g0 (schedN b) t = v at *
  exact And.intro ht h2
theorem sched_seq (bb : Nat) (b : List Nat) (w : World) (hA : Arr .u8 95 w bb b) (hl : b.length = 128) (hb : ∀ x ∈ b, x < 256) :
    SeqU TW Fence.wide (3 - 1) Tryd.prog 70 #[.pointer (some ⟨bb, 0, none⟩)] (fun x : Pc CT => #[.int .i64 (x.1.1 : Int), .int .u64 (x.1.2 : Int)]) (fun xs => xs.map (·.1) = toldN b 80) (fun _ => True) w :=
  scheduled_comes (3 - 1) (by decide) CT bb b w hA hl hb (ct_of hb)
theorem infoV : (Tryd.prog.info? 79).map (fun i => (i.zero, i.size)) = some (some (.agg (arrC .u64 (List.replicate 80 0))), 80) := by kernel_rfl

set_option maxRecDepth 100000 in
set_option maxHeartbeats 8000000 in
theorem turn_any (g bt : Nat) (ws tail : List Nat) (taken : Nat) (w : World) (h : StateAt w g bt ws tail taken) :
    Calls Tryd.prog 56 #[.pointer (some ⟨g, 0, none⟩)] w fun e w' => e = .returned (.tuple #[]) ∧ StateAt w' g bt (turnN ws tail) tail taken ∧ w.grownBy w' (some g) := by
  have H := Lib.hid h
  have h0 : Tryd.f56.results = #[] := by kernel_rfl
  have H0 := Lib.hid h0
  have hts : (arrC .u8 tail).size = 128 := by rw [arrC_size, h.tlen]
  have HTS := Lib.hid hts
  clear h h0 hts
  refine (callsIn_wide (n := 3)).1 ?_
  refine callsIn_of_wp_marks Tryd.func56 rfl trivial ?_ rfl
  simp only [Tryd.ntmps56, List.size_toArray, List.length_cons, List.length_nil, Nat.reduceAdd, Nat.reduceSub, Array.replicate_succ, Array.replicate_zero, List.push_toArray, List.append_toArray, List.nil_append, List.cons_append]
  have hz : ∀ w, (zeroValue 79).run Tryd.prog w = .ok (.agg (arrC .u64 (List.replicate 80 0))) w := fun _ => by kernel_rfl
  refine wpIn_wide.2 ?_
  go_wp2_with fail
  refine (written_any w).mono ?_
  rintro e w1 ⟨rfl, rfl⟩
  have tf := tab_field (w.alloc (.cells tabC 100))
  go_wp2_with (first
    | (refine wpList_store_row rfl _ _ _ rfl (w.heap.size + 1) (arrC .u64 kL) rfl rfl 79 (arrC .u64 (List.replicate 80 0)) (by rw [← World.size_alloc w (.cells tabC 100)]; exact Go.heap_alloc_new _ _) (by kernel_rfl) (by kernel_rfl) (arrC_one _ _) ?_; generalize hW2 : World.setRow _ (w.heap.size + 1) (arrC .u64 kL) = W2; rw [← World.size_alloc w (.cells tabC 100), alloc_setRow] at hW2; have HF := Lib.hid (kept2 w W2 _ _ hW2); have H2 := Lib.hid (H.out.below HF.out.1 H.out.lt); have hK2 := Lib.hid (HF.out.2); clear hW2 tf; have c0 := H2.out.word 0 (by decide); have c1 := H2.out.word 1 (by decide); have c2 := H2.out.word 2 (by decide); have c3 := H2.out.word 3 (by decide); have c4 := H2.out.word 4 (by decide); have c5 := H2.out.word 5 (by decide); have c6 := H2.out.word 6 (by decide); have c7 := H2.out.word 7 (by decide); simp only [Nat.reduceAdd] at c0 c1 c2 c3 c4 c5 c6 c7)
    | (refine wpList_load_part rfl 95 _ rfl g 9 rfl (arrC .u8 tail) _ (fun j v hv => (H2.out.alloc _).tailC j v hv) Tryd.underlying95 rfl (by rw [HTS.out]; kernel_rfl) ?_))
  rw [arrC_eight ws H.out.wlen]
  have hb3 := (Below.refl W2.heap.size W2).alloc (Nat.le_refl _) (.cells (arrC .u64 ws) 80)
  have HV := Lib.hid (show Arr .u64 80 (W2.alloc (.cells (arrC .u64 ws) 80)) W2.heap.size ws from Go.heap_alloc_new W2 _)
  have HKB := Lib.hid (show Arr .u64 79 (W2.alloc (.cells (arrC .u64 ws) 80)) (w.heap.size + 1) kL from Arr.alloc hK2.out.1 _)
  have hzz := Lib.hid hK2.out.2
  have F := Lib.hid (HF.out.1.trans (hb3.mono HF.out.1.size))
  have H3 := Lib.hid (H2.out.alloc (.cells (arrC .u64 ws) 80))
  have hV3 : W2.heap.size < (W2.alloc (.cells (arrC .u64 ws) 80)).heap.size := by simp
  generalize W2.alloc (.cells (arrC .u64 ws) 80) = W3 at *
  obtain ⟨V, hVe⟩ : ∃ V, V = W2.heap.size := ⟨_, rfl⟩
  obtain ⟨Kb, hKe⟩ : ∃ K, K = w.heap.size + 1 := ⟨_, rfl⟩
  rw [← hVe] at HV hV3 ⊢
  rw [← hKe] at HKB ⊢
  have HKV := Lib.hid (show w.heap.size ≤ Kb ∧ Kb < V ∧ g < w.heap.size by have := hzz.out; have := H.out.lt; omega)
  clear hb3 HF H2 hK2 hzz hVe hKe c0 c1 c2 c3 c4 c5 c6 c7
  refine (scheduled_any tail W3).mono ?_
  rintro e w4 ⟨rfl, rfl⟩
  have HA4 := Lib.hid (show Arr .u8 95 (W3.alloc (.cells (arrC .u8 tail) 95)) W3.heap.size tail from Go.heap_alloc_new W3 _)
  have H4 := Lib.hid (show TuI w g bt taken Kb V ws tail [] (W3.alloc (.cells (arrC .u8 tail) 95)) from ⟨HKB.out.alloc _, ⟨ws, HV.out.alloc _, H.out.wlen, H.out.wlt, fun _ => rfl⟩, H3.out.alloc _, F.out.alloc F.out.size _⟩)
  have hz4 := Lib.hid (show V < (W3.alloc (.cells (arrC .u8 tail) 95)).heap.size by rw [World.size_alloc]; omega)
  obtain ⟨bb, hbb⟩ : ∃ b, b = W3.heap.size := ⟨_, rfl⟩
  rw [← hbb] at HA4 ⊢
  generalize W3.alloc (.cells (arrC .u8 tail) 95) = W4 at *
  clear hbb hV3 HV HKB H3 F
  go_wp2_with fail
  refine (wpIn_wide (n := 3)).1 ?_
  have hsq := sched_seq bb tail W4 HA4.out H.out.tlen H.out.tlt
  refine wpIn_rangeU (α := Pc CT) (F := Fence.wide) (n := 3) (T := TW) rfl (show 1 ≤ 3 by decide) (gf := 70) (lb := #[.pointer (some ⟨bb, 0, none⟩)]) rfl trivial (enters_of Tryd.func70 (by kernel_rfl) rfl)
    hsq (Below.refl _ _) (fun _ => rfl)
    (fun pre W => TuI w g bt taken Kb V ws tail (pre.map (·.1)) W)
    (fun _ _ _ => False)
    ?_ ?_ H4.out ?_ ?_ ?_ ?_ ?_
  rotate_left 3
  · intro lp x W K hK
    gi_wp2
    exact hK
  · rintro lp pre ⟨⟨i, u⟩, hlt, lu⟩ W ⟨hkb, ⟨vs, hv, hvl, hvb, hsem⟩, hst, hbel⟩
    replace hlt : i < 80 := hlt
    replace lu : u < 18446744073709551616 := lu
    have HKB := Lib.hid hkb
    have HV := Lib.hid hv
    have hVl := Lib.hid hvl
    have hVb := Lib.hid hvb
    have HSEM := Lib.hid hsem
    have HST := Lib.hid hst
    have HBL := Lib.hid hbel
    clear hkb hv hvl hvb hsem hst hbel
    have cv0 := HV.out.cell 0 (by rw [hVl.out]; decide)
    obtain ⟨a, ha⟩ : ∃ x, x = g0 (vs) 0 := ⟨_, rfl⟩
    have la : a < 18446744073709551616 := ha ▸ g0_lt hVb.out (by decide) 0
    rw [show (vs)[0]?.getD 0 = a from ha.symm] at cv0
    have cv1 := HV.out.cell 1 (by rw [hVl.out]; decide)
    obtain ⟨b, hb⟩ : ∃ x, x = g0 (vs) 1 := ⟨_, rfl⟩
    have lb : b < 18446744073709551616 := hb ▸ g0_lt hVb.out (by decide) 1
    rw [show (vs)[1]?.getD 0 = b from hb.symm] at cv1
    have cv2 := HV.out.cell 2 (by rw [hVl.out]; decide)
    obtain ⟨c, hc⟩ : ∃ x, x = g0 (vs) 2 := ⟨_, rfl⟩
    have lc : c < 18446744073709551616 := hc ▸ g0_lt hVb.out (by decide) 2
    rw [show (vs)[2]?.getD 0 = c from hc.symm] at cv2
    have cv3 := HV.out.cell 3 (by rw [hVl.out]; decide)
    obtain ⟨d, hd⟩ : ∃ x, x = g0 (vs) 3 := ⟨_, rfl⟩
    have ld : d < 18446744073709551616 := hd ▸ g0_lt hVb.out (by decide) 3
    rw [show (vs)[3]?.getD 0 = d from hd.symm] at cv3
    have cv4 := HV.out.cell 4 (by rw [hVl.out]; decide)
    obtain ⟨e, he⟩ : ∃ x, x = g0 (vs) 4 := ⟨_, rfl⟩
    have le : e < 18446744073709551616 := he ▸ g0_lt hVb.out (by decide) 4
    rw [show (vs)[4]?.getD 0 = e from he.symm] at cv4
    have cv5 := HV.out.cell 5 (by rw [hVl.out]; decide)
    obtain ⟨f, hf⟩ : ∃ x, x = g0 (vs) 5 := ⟨_, rfl⟩
    have lf : f < 18446744073709551616 := hf ▸ g0_lt hVb.out (by decide) 5
    rw [show (vs)[5]?.getD 0 = f from hf.symm] at cv5
    have cv6 := HV.out.cell 6 (by rw [hVl.out]; decide)
    obtain ⟨m, hm⟩ : ∃ x, x = g0 (vs) 6 := ⟨_, rfl⟩
    have lm : m < 18446744073709551616 := hm ▸ g0_lt hVb.out (by decide) 6
    rw [show (vs)[6]?.getD 0 = m from hm.symm] at cv6
    have cv7 := HV.out.cell 7 (by rw [hVl.out]; decide)
    obtain ⟨h, hh⟩ : ∃ x, x = g0 (vs) 7 := ⟨_, rfl⟩
    have lh : h < 18446744073709551616 := hh ▸ g0_lt hVb.out (by decide) 7
    rw [show (vs)[7]?.getD 0 = h from hh.symm] at cv7
    have ck := HKB.out.cell i (by rw [kL_len]; exact hlt)
    obtain ⟨k, hk⟩ : ∃ x, x = g0 kL i := ⟨_, rfl⟩
    have lk : k < 18446744073709551616 := hk ▸ g0_lt kL_lt (by decide) i
    rw [show kL[i]?.getD 0 = k from hk.symm] at ck
    have HE := Lib.hid (show rd vs (g0 kL i) u = [(yN e f m h k u + zN a b c) % 18446744073709551616, a, b, c, (d + yN e f m h k u) % 18446744073709551616, e, f, m] by rw [ha, hb, hc, hd, he, hf, hm, hh, hk]; rfl)
    have HC0 := Lib.hid ha
    have HC1 := Lib.hid hb
    have HC2 := Lib.hid hc
    have HC3 := Lib.hid hd
    have HC4 := Lib.hid he
    have HC5 := Lib.hid hf
    have HC6 := Lib.hid hm
    have HC7 := Lib.hid hh
    clear ha hb hc hd he hf hm hh hk
    obtain ⟨L1, hL1⟩ : ∃ x, x = laidN e 14 18 41 := ⟨_, rfl⟩
    have lL1 : L1 < 18446744073709551616 := by rw [hL1]; exact laidN_lt le
    obtain ⟨s1, hs1⟩ : ∃ x, x = (h + k) % 18446744073709551616 := ⟨_, rfl⟩
    have ls1 : s1 < 18446744073709551616 := by omega
    obtain ⟨s2, hs2⟩ : ∃ x, x = (s1 + u) % 18446744073709551616 := ⟨_, rfl⟩
    have ls2 : s2 < 18446744073709551616 := by omega
    obtain ⟨s3, hs3⟩ : ∃ x, x = (s2 + L1) % 18446744073709551616 := ⟨_, rfl⟩
    have ls3 : s3 < 18446744073709551616 := by omega
    obtain ⟨A1, hA1⟩ : ∃ x, x = e &&& f := ⟨_, rfl⟩
    have lA1 : A1 < 18446744073709551616 := by rw [hA1]; exact Nat.and_lt_two_pow (n := 64) e lf
    obtain ⟨N1, hN1⟩ : ∃ x, x = 18446744073709551615 - e := ⟨_, rfl⟩
    have lN1 : N1 < 18446744073709551616 := by omega
    obtain ⟨A2, hA2⟩ : ∃ x, x = N1 &&& m := ⟨_, rfl⟩
    have lA2 : A2 < 18446744073709551616 := by rw [hA2]; exact Nat.and_lt_two_pow (n := 64) N1 lm
    obtain ⟨X1, hX1⟩ : ∃ x, x = A1 ^^^ A2 := ⟨_, rfl⟩
    have lX1 : X1 < 18446744073709551616 := by rw [hX1]; exact Nat.xor_lt_two_pow (n := 64) lA1 lA2
    obtain ⟨y, hy⟩ : ∃ x, x = (s3 + X1) % 18446744073709551616 := ⟨_, rfl⟩
    have ly : y < 18446744073709551616 := by omega
    obtain ⟨L2, hL2⟩ : ∃ x, x = laidN a 28 34 39 := ⟨_, rfl⟩
    have lL2 : L2 < 18446744073709551616 := by rw [hL2]; exact laidN_lt la
    obtain ⟨B1, hB1⟩ : ∃ x, x = a &&& b := ⟨_, rfl⟩
    have lB1 : B1 < 18446744073709551616 := by rw [hB1]; exact Nat.and_lt_two_pow (n := 64) a lb
    obtain ⟨B2, hB2⟩ : ∃ x, x = a &&& c := ⟨_, rfl⟩
    have lB2 : B2 < 18446744073709551616 := by rw [hB2]; exact Nat.and_lt_two_pow (n := 64) a lc
    obtain ⟨B3, hB3⟩ : ∃ x, x = b &&& c := ⟨_, rfl⟩
    have lB3 : B3 < 18446744073709551616 := by rw [hB3]; exact Nat.and_lt_two_pow (n := 64) b lc
    obtain ⟨X2, hX2⟩ : ∃ x, x = B1 ^^^ B2 := ⟨_, rfl⟩
    have lX2 : X2 < 18446744073709551616 := by rw [hX2]; exact Nat.xor_lt_two_pow (n := 64) lB1 lB2
    obtain ⟨X3, hX3⟩ : ∃ x, x = X2 ^^^ B3 := ⟨_, rfl⟩
    have lX3 : X3 < 18446744073709551616 := by rw [hX3]; exact Nat.xor_lt_two_pow (n := 64) lX2 lB3
    obtain ⟨z, hz⟩ : ∃ x, x = (L2 + X3) % 18446744073709551616 := ⟨_, rfl⟩
    have lz : z < 18446744073709551616 := by omega
    obtain ⟨n0, hn0⟩ : ∃ x, x = (y + z) % 18446744073709551616 := ⟨_, rfl⟩
    have ln0 : n0 < 18446744073709551616 := by omega
    obtain ⟨n4, hn4⟩ : ∃ x, x = (d + y) % 18446744073709551616 := ⟨_, rfl⟩
    have ln4 : n4 < 18446744073709551616 := by omega
    have es1 : ((h : Int) + (k : Int)) % 18446744073709551616 = (s1 : Int) := by omega
    have es2 : ((s1 : Int) + (u : Int)) % 18446744073709551616 = (s2 : Int) := by omega
    have es3 : ((s2 : Int) + (L1 : Int)) % 18446744073709551616 = (s3 : Int) := by omega
    have ey : ((s3 : Int) + (X1 : Int)) % 18446744073709551616 = (y : Int) := by omega
    have ez : ((L2 : Int) + (X3 : Int)) % 18446744073709551616 = (z : Int) := by omega
    have en0 : ((y : Int) + (z : Int)) % 18446744073709551616 = (n0 : Int) := by omega
    have en4 : ((d : Int) + (y : Int)) % 18446744073709551616 = (n4 : Int) := by omega
    have eN1 : bits BinOp.xor IntKind.u64 (if IntKind.u64.signed = true then -1 else IntKind.u64.max) (e : Int) = (N1 : Int) := by rw [hN1]; exact not_cast e le
    have eA1 : bits BinOp.and IntKind.u64 (e : Int) (f : Int) = (A1 : Int) := by rw [u64_and_nat _ _ le lf, hA1]
    have eA2 : bits BinOp.and IntKind.u64 (N1 : Int) (m : Int) = (A2 : Int) := by rw [u64_and_nat _ _ lN1 lm, hA2]
    have eX1 : bits BinOp.xor IntKind.u64 (A1 : Int) (A2 : Int) = (X1 : Int) := by rw [u64_xor_nat _ _ lA1 lA2, hX1]
    have eB1 : bits BinOp.and IntKind.u64 (a : Int) (b : Int) = (B1 : Int) := by rw [u64_and_nat _ _ la lb, hB1]
    have eB2 : bits BinOp.and IntKind.u64 (a : Int) (c : Int) = (B2 : Int) := by rw [u64_and_nat _ _ la lc, hB2]
    have eB3 : bits BinOp.and IntKind.u64 (b : Int) (c : Int) = (B3 : Int) := by rw [u64_and_nat _ _ lb lc, hB3]
    have eX2 : bits BinOp.xor IntKind.u64 (B1 : Int) (B2 : Int) = (X2 : Int) := by rw [u64_xor_nat _ _ lB1 lB2, hX2]
    have eX3 : bits BinOp.xor IntKind.u64 (X2 : Int) (B3 : Int) = (X3 : Int) := by rw [u64_xor_nat _ _ lX2 lB3, hX3]
    have HE2 := Lib.hid (show rd vs (g0 kL i) u = [n0, a, b, c, n4, e, f, m] by rw [HE.out, hn0, hn4, hy, hz, hX3, hX2, hX1, hs3, hs2, hs1, hA1, hA2, hN1, hB1, hB2, hB3, hL1, hL2]; rfl)
    have RL1 := Lib.hid hL1
    have RL2 := Lib.hid hL2
    clear HE hL1 hs1 hs2 hs3 hA1 hN1 hA2 hX1 hy hL2 hB1 hB2 hB3 hX2 hX3 hz hn0 hn4
    have hwi : IntKind.i64.wrap (i : Int) = (i : Int) := by rw [IntKind.wrap_i64]; omega
    have hzi : 0 ≤ (i : Int) ∧ (i : Int) < 80 := by omega
    have ews1 : IntKind.u64.wrap ((h : Int) + (k : Int)) = (s1 : Int) := by simp [IntKind.wrap, IntKind.bits, IntKind.signed]; omega
    have ews2 : IntKind.u64.wrap ((s1 : Int) + (u : Int)) = (s2 : Int) := by simp [IntKind.wrap, IntKind.bits, IntKind.signed]; omega
    have ews3 : IntKind.u64.wrap ((s2 : Int) + (L1 : Int)) = (s3 : Int) := by simp [IntKind.wrap, IntKind.bits, IntKind.signed]; omega
    have ewy : IntKind.u64.wrap ((s3 : Int) + (X1 : Int)) = (y : Int) := by simp [IntKind.wrap, IntKind.bits, IntKind.signed]; omega
    have ewz : IntKind.u64.wrap ((L2 : Int) + (X3 : Int)) = (z : Int) := by simp [IntKind.wrap, IntKind.bits, IntKind.signed]; omega
    have ewn0 : IntKind.u64.wrap ((y : Int) + (z : Int)) = (n0 : Int) := by simp [IntKind.wrap, IntKind.bits, IntKind.signed]; omega
    have ewn4 : IntKind.u64.wrap ((d : Int) + (y : Int)) = (n4 : Int) := by simp [IntKind.wrap, IntKind.bits, IntKind.signed]; omega
    have ff := HV.out.frozen
    have f0 := ff 0
    have f1 := ff 1
    have f2 := ff 2
    have f3 := ff 3
    have f4 := ff 4
    have f5 := ff 5
    have f6 := ff 6
    have f7 := ff 7
    clear ff
    gi_wp2_with fail
    refine wpIn_region_held_drew (S := fun W => W.cell? ⟨V, 0, none⟩ = some (.int .u64 (a : Int)) ∧ W.cell? ⟨V, 1, none⟩ = some (.int .u64 (b : Int)) ∧ W.cell? ⟨V, 2, none⟩ = some (.int .u64 (c : Int)) ∧ W.cell? ⟨V, 3, none⟩ = some (.int .u64 (d : Int)) ∧ W.cell? ⟨V, 4, none⟩ = some (.int .u64 (e : Int)) ∧ W.cell? ⟨V, 5, none⟩ = some (.int .u64 (f : Int)) ∧ W.cell? ⟨V, 6, none⟩ = some (.int .u64 (m : Int)) ∧ W.cell? ⟨V, 7, none⟩ = some (.int .u64 (h : Int)) ∧ W.cell? ⟨Kb, i, none⟩ = some (.int .u64 (k : Int))) (by kernel_rfl) (plain_of (by kernel_rfl)) ?_ ⟨cv0, cv1, cv2, cv3, cv4, cv5, cv6, cv7, ck⟩ (fun hHeld => ?_)
    · rintro ⟨a, w, h⟩
      exact h
    refine' wpAnyH_take (i := 0) (oi := _) (v := _) rfl (by kernel_rfl) (by kernel_rfl) (by kernel_rfl) (fun _ _ _ h => h) (Or.inl ⟨?_, ?_⟩) (by assumption) ?_
    rotate_left
    all_goals (try simp only [List.getElem_toArray, List.getElem_cons_succ, List.getElem_cons_zero])
    · rfl
    · intro W hSw; (try dsimp only at hSw); go_simp; (try with_reducible rfl)
    try simp only [Act.put, List.setIfInBounds_toArray, List.set_cons_zero, List.set_cons_succ]
    refine' wpAnyH_take (i := 1) (oi := _) (v := _) rfl (by kernel_rfl) (by kernel_rfl) (by kernel_rfl) (fun _ _ _ h => h) (Or.inl ⟨?_, ?_⟩) (by assumption) ?_
    rotate_left
    all_goals (try simp only [List.getElem_toArray, List.getElem_cons_succ, List.getElem_cons_zero])
    · rfl
    · intro W hSw; (try dsimp only at hSw); go_simp; (try with_reducible rfl)
    try simp only [Act.put, List.setIfInBounds_toArray, List.set_cons_zero, List.set_cons_succ]
    refine' wpAnyH_take (i := 2) (oi := _) (v := _) rfl (by kernel_rfl) (by kernel_rfl) (by kernel_rfl) (fun _ _ _ h => h) (Or.inl ⟨?_, ?_⟩) (by assumption) ?_
    rotate_left
    all_goals (try simp only [List.getElem_toArray, List.getElem_cons_succ, List.getElem_cons_zero])
    · rfl
    · intro W hSw; (try dsimp only at hSw); go_simp; (try with_reducible rfl)
    try simp only [Act.put, List.setIfInBounds_toArray, List.set_cons_zero, List.set_cons_succ]
    refine' wpAnyH_take (i := 3) (oi := _) (v := _) rfl (by kernel_rfl) (by kernel_rfl) (by kernel_rfl) (fun _ _ _ h => h) (Or.inl ⟨?_, ?_⟩) (by assumption) ?_
    rotate_left
    all_goals (try simp only [List.getElem_toArray, List.getElem_cons_succ, List.getElem_cons_zero])
    · rfl
    · intro W hSw; (try dsimp only at hSw); go_simp; (try with_reducible rfl)
    try simp only [Act.put, List.setIfInBounds_toArray, List.set_cons_zero, List.set_cons_succ]
    refine' wpAnyH_take (i := 4) (oi := _) (v := _) rfl (by kernel_rfl) (by kernel_rfl) (by kernel_rfl) (fun _ _ _ h => h) (Or.inl ⟨?_, ?_⟩) (by assumption) ?_
    rotate_left
    all_goals (try simp only [List.getElem_toArray, List.getElem_cons_succ, List.getElem_cons_zero])
    · rfl
    · intro W hSw; (try dsimp only at hSw); go_simp; (try with_reducible rfl)
    try simp only [Act.put, List.setIfInBounds_toArray, List.set_cons_zero, List.set_cons_succ]
    refine' wpAnyH_take (i := 5) (oi := _) (v := _) rfl (by kernel_rfl) (by kernel_rfl) (by kernel_rfl) (fun _ _ _ h => h) (Or.inl ⟨?_, ?_⟩) (by assumption) ?_
    rotate_left
    all_goals (try simp only [List.getElem_toArray, List.getElem_cons_succ, List.getElem_cons_zero])
    · rfl
    · intro W hSw; (try dsimp only at hSw); go_simp; (try with_reducible rfl)
    try simp only [Act.put, List.setIfInBounds_toArray, List.set_cons_zero, List.set_cons_succ]
    refine' wpAnyH_take (i := 6) (oi := _) (v := _) rfl (by kernel_rfl) (by kernel_rfl) (by kernel_rfl) (fun _ _ _ h => h) (Or.inl ⟨?_, ?_⟩) (by assumption) ?_
    rotate_left
    all_goals (try simp only [List.getElem_toArray, List.getElem_cons_succ, List.getElem_cons_zero])
    · rfl
    · intro W hSw; (try dsimp only at hSw); go_simp; (try with_reducible rfl)
    try simp only [Act.put, List.setIfInBounds_toArray, List.set_cons_zero, List.set_cons_succ]
    refine' wpAnyH_take (i := 7) (oi := _) (v := _) rfl (by kernel_rfl) (by kernel_rfl) (by kernel_rfl) (fun _ _ _ h => h) (Or.inl ⟨?_, ?_⟩) (by assumption) ?_
    rotate_left
    all_goals (try simp only [List.getElem_toArray, List.getElem_cons_succ, List.getElem_cons_zero])
    · rfl
    · intro W hSw; (try dsimp only at hSw); go_simp; (try with_reducible rfl)
    try simp only [Act.put, List.setIfInBounds_toArray, List.set_cons_zero, List.set_cons_succ]
    refine' wpAnyH_take (i := 8) (oi := _) (v := _) rfl (by kernel_rfl) (by kernel_rfl) (by kernel_rfl) (fun _ _ _ h => h) (Or.inl ⟨?_, ?_⟩) (by assumption) ?_
    rotate_left
    all_goals (try simp only [List.getElem_toArray, List.getElem_cons_succ, List.getElem_cons_zero])
    · rfl
    · intro W hSw; (try dsimp only at hSw); go_simp; (try with_reducible rfl)
    try simp only [Act.put, List.setIfInBounds_toArray, List.set_cons_zero, List.set_cons_succ]
    refine' wpAnyH_take (i := 9) (oi := _) (v := _) rfl (by kernel_rfl) (by kernel_rfl) (by kernel_rfl) (fun _ _ _ h => h) (Or.inl ⟨?_, ?_⟩) (by assumption) ?_
    rotate_left
    all_goals (try simp only [List.getElem_toArray, List.getElem_cons_succ, List.getElem_cons_zero])
    · rfl
    · intro W hSw; (try dsimp only at hSw); go_simp; (try with_reducible rfl)
    try simp only [Act.put, List.setIfInBounds_toArray, List.set_cons_zero, List.set_cons_succ]
    refine' wpAnyH_take (i := 12) (oi := _) (v := _) rfl (by kernel_rfl) (by kernel_rfl) (by kernel_rfl) (fun _ _ _ h => h) (Or.inl ⟨?_, ?_⟩) (by assumption) ?_
    rotate_left
    all_goals (try simp only [List.getElem_toArray, List.getElem_cons_succ, List.getElem_cons_zero])
    · rfl
    · intro W hSw; (try dsimp only at hSw); go_simp; (try with_reducible rfl)
    try simp only [Act.put, List.setIfInBounds_toArray, List.set_cons_zero, List.set_cons_succ]
    refine' wpAnyH_take (i := 13) (oi := _) (v := _) rfl (by kernel_rfl) (by kernel_rfl) (by kernel_rfl) (fun _ _ _ h => h) (Or.inl ⟨?_, ?_⟩) (by assumption) ?_
    rotate_left
    all_goals (try simp only [List.getElem_toArray, List.getElem_cons_succ, List.getElem_cons_zero])
    · rfl
    · intro W hSw; (try dsimp only at hSw); go_simp; (try with_reducible rfl)
    try simp only [Act.put, List.setIfInBounds_toArray, List.set_cons_zero, List.set_cons_succ]
    refine' wpAnyH_take (i := 14) (oi := _) (v := _) rfl (by kernel_rfl) (by kernel_rfl) (by kernel_rfl) (fun _ _ _ h => h) (Or.inl ⟨?_, ?_⟩) (by assumption) ?_
    rotate_left
    all_goals (try simp only [List.getElem_toArray, List.getElem_cons_succ, List.getElem_cons_zero])
    · rfl
    · intro W hSw; (try dsimp only at hSw); go_simp; (try with_reducible rfl)
    try simp only [Act.put, List.setIfInBounds_toArray, List.set_cons_zero, List.set_cons_succ]
    refine' wpAnyH_take (i := 15) (oi := _) (v := _) rfl (by kernel_rfl) (by kernel_rfl) (by kernel_rfl) (fun _ _ _ h => h) (Or.inl ⟨?_, ?_⟩) (by assumption) ?_
    rotate_left
    all_goals (try simp only [List.getElem_toArray, List.getElem_cons_succ, List.getElem_cons_zero])
    · rfl
    · intro W hSw; (try dsimp only at hSw); go_simp; (try with_reducible rfl)
    try simp only [Act.put, List.setIfInBounds_toArray, List.set_cons_zero, List.set_cons_succ]
    refine' wpAnyH_take (i := 16) (oi := _) (v := _) rfl (by kernel_rfl) (by kernel_rfl) (by kernel_rfl) (fun _ _ _ h => h) (Or.inl ⟨?_, ?_⟩) (by assumption) ?_
    rotate_left
    all_goals (try simp only [List.getElem_toArray, List.getElem_cons_succ, List.getElem_cons_zero])
    · rfl
    · intro W hSw; (try dsimp only at hSw); go_simp; (try with_reducible rfl)
    try simp only [Act.put, List.setIfInBounds_toArray, List.set_cons_zero, List.set_cons_succ]
    refine' wpAnyH_take (i := 17) (oi := _) (v := _) rfl (by kernel_rfl) (by kernel_rfl) (by kernel_rfl) (fun _ _ _ h => h) (Or.inl ⟨?_, ?_⟩) (by assumption) ?_
    rotate_left
    all_goals (try simp only [List.getElem_toArray, List.getElem_cons_succ, List.getElem_cons_zero])
    · rfl
    · intro W hSw; (try dsimp only at hSw); go_simp; (try with_reducible rfl)
    try simp only [Act.put, List.setIfInBounds_toArray, List.set_cons_zero, List.set_cons_succ]
    refine' wpAnyH_take (i := 18) (oi := _) (v := _) rfl (by kernel_rfl) (by kernel_rfl) (by kernel_rfl) (fun _ _ _ h => h) (Or.inl ⟨?_, ?_⟩) (by assumption) ?_
    rotate_left
    all_goals (try simp only [List.getElem_toArray, List.getElem_cons_succ, List.getElem_cons_zero])
    · rfl
    · intro W hSw; (try dsimp only at hSw); go_simp; (try with_reducible rfl)
    try simp only [Act.put, List.setIfInBounds_toArray, List.set_cons_zero, List.set_cons_succ]
    refine' wpAnyH_take (i := 19) (oi := _) (v := _) rfl (by kernel_rfl) (by kernel_rfl) (by kernel_rfl) (fun _ _ _ h => h) (Or.inl ⟨?_, ?_⟩) (by assumption) ?_
    rotate_left
    all_goals (try simp only [List.getElem_toArray, List.getElem_cons_succ, List.getElem_cons_zero])
    · rfl
    · intro W hSw; (try dsimp only at hSw); go_simp; (try with_reducible rfl)
    try simp only [Act.put, List.setIfInBounds_toArray, List.set_cons_zero, List.set_cons_succ]
    refine' wpAnyH_take (i := 20) (oi := _) (v := _) rfl (by kernel_rfl) (by kernel_rfl) (by kernel_rfl) (fun _ _ _ h => h) (Or.inl ⟨?_, ?_⟩) (by assumption) ?_
    rotate_left
    all_goals (try simp only [List.getElem_toArray, List.getElem_cons_succ, List.getElem_cons_zero])
    · rfl
    · intro W hSw; (try dsimp only at hSw); go_simp; (try with_reducible rfl)
    try simp only [Act.put, List.setIfInBounds_toArray, List.set_cons_zero, List.set_cons_succ]
    refine' wpAnyH_take (i := 21) (oi := _) (v := _) rfl (by kernel_rfl) (by kernel_rfl) (by kernel_rfl) (fun _ _ _ h => h) (Or.inl ⟨?_, ?_⟩) (by assumption) ?_
    rotate_left
    all_goals (try simp only [List.getElem_toArray, List.getElem_cons_succ, List.getElem_cons_zero])
    · rfl
    · intro W hSw; (try dsimp only at hSw); go_simp; (try with_reducible rfl)
    try simp only [Act.put, List.setIfInBounds_toArray, List.set_cons_zero, List.set_cons_succ]
    refine' wpAnyH_take (i := 22) (oi := _) (v := _) rfl (by kernel_rfl) (by kernel_rfl) (by kernel_rfl) (fun _ _ _ h => h) (Or.inl ⟨?_, ?_⟩) (by assumption) ?_
    rotate_left
    all_goals (try simp only [List.getElem_toArray, List.getElem_cons_succ, List.getElem_cons_zero])
    · rfl
    · intro W hSw; (try dsimp only at hSw); go_simp; (try with_reducible rfl)
    try simp only [Act.put, List.setIfInBounds_toArray, List.set_cons_zero, List.set_cons_succ]
    refine' wpAnyH_take (i := 23) (oi := _) (v := _) rfl (by kernel_rfl) (by kernel_rfl) (by kernel_rfl) (fun _ _ _ h => h) (Or.inl ⟨?_, ?_⟩) (by assumption) ?_
    rotate_left
    all_goals (try simp only [List.getElem_toArray, List.getElem_cons_succ, List.getElem_cons_zero])
    · rfl
    · intro W hSw; (try dsimp only at hSw); go_simp; (try with_reducible rfl)
    try simp only [Act.put, List.setIfInBounds_toArray, List.set_cons_zero, List.set_cons_succ]
    refine wpAnyH_ready (rs := [10]) (by kernel_rfl) (by simp) ?_
    refine AllReadyH.cons (o := _) rfl (fun K hK => ?_) AllReadyH.nil
    try simp only [List.getElem_toArray, List.getElem_cons_succ, List.getElem_cons_zero]
    go_simp
    refine (laid_any e 14 18 41 _ _ _ _ rfl rfl rfl (by decide) (by decide) (by decide) le L1 RL1.out).mono ?_; rintro e5 w5 ⟨rfl, rfl⟩
    go_wp2_with fail
    refine hK.out _ _ hHeld (fun hHeld => ?_)
    clear hK K
    try simp only [Act.put, List.setIfInBounds_toArray, List.set_cons_zero, List.set_cons_succ]
    refine' wpAnyH_take (i := 11) (oi := _) (v := _) rfl (by kernel_rfl) (by kernel_rfl) (by kernel_rfl) (fun _ _ _ h => h) (Or.inl ⟨?_, ?_⟩) (by assumption) ?_
    rotate_left
    all_goals (try simp only [List.getElem_toArray, List.getElem_cons_succ, List.getElem_cons_zero])
    · rfl
    · intro W hSw; (try dsimp only at hSw); go_simp; (try with_reducible rfl)
    try simp only [Act.put, List.setIfInBounds_toArray, List.set_cons_zero, List.set_cons_succ]
    refine' wpAnyH_take (i := 24) (oi := _) (v := _) rfl (by kernel_rfl) (by kernel_rfl) (by kernel_rfl) (fun _ _ _ h => h) (Or.inl ⟨?_, ?_⟩) (by assumption) ?_
    rotate_left
    all_goals (try simp only [List.getElem_toArray, List.getElem_cons_succ, List.getElem_cons_zero])
    · rfl
    · intro W hSw; (try dsimp only at hSw); go_simp; (try with_reducible rfl)
    try simp only [Act.put, List.setIfInBounds_toArray, List.set_cons_zero, List.set_cons_succ]
    refine' wpAnyH_take (i := 25) (oi := _) (v := _) rfl (by kernel_rfl) (by kernel_rfl) (by kernel_rfl) (fun _ _ _ h => h) (Or.inl ⟨?_, ?_⟩) (by assumption) ?_
    rotate_left
    all_goals (try simp only [List.getElem_toArray, List.getElem_cons_succ, List.getElem_cons_zero])
    · rfl
    · intro W hSw; (try dsimp only at hSw); go_simp; (try with_reducible rfl)
    try simp only [Act.put, List.setIfInBounds_toArray, List.set_cons_zero, List.set_cons_succ]
    refine wpAnyH_done (by kernel_rfl) ?_ _
    gi_wp2_with fail
    refine wpIn_region_held_drew (S := fun W => W.cell? ⟨V, 0, none⟩ = some (.int .u64 (a : Int)) ∧ W.cell? ⟨V, 1, none⟩ = some (.int .u64 (b : Int)) ∧ W.cell? ⟨V, 2, none⟩ = some (.int .u64 (c : Int)) ∧ W.cell? ⟨V, 3, none⟩ = some (.int .u64 (d : Int)) ∧ W.cell? ⟨V, 4, none⟩ = some (.int .u64 (e : Int)) ∧ W.cell? ⟨V, 5, none⟩ = some (.int .u64 (f : Int)) ∧ W.cell? ⟨V, 6, none⟩ = some (.int .u64 (m : Int)) ∧ W.cell? ⟨V, 7, none⟩ = some (.int .u64 (h : Int)) ∧ W.cell? ⟨Kb, i, none⟩ = some (.int .u64 (k : Int))) (by kernel_rfl) (plain_of (by kernel_rfl)) ?_ ⟨cv0, cv1, cv2, cv3, cv4, cv5, cv6, cv7, ck⟩ (fun hHeld => ?_)
    · rintro ⟨a, w, h⟩
      exact h
    refine' wpAnyH_take (i := 0) (oi := _) (v := _) rfl (by kernel_rfl) (by kernel_rfl) (by kernel_rfl) (fun _ _ _ h => h) (Or.inl ⟨?_, ?_⟩) (by assumption) ?_
    rotate_left
    all_goals (try simp only [List.getElem_toArray, List.getElem_cons_succ, List.getElem_cons_zero])
    · rfl
    · intro W hSw; (try dsimp only at hSw); go_simp; (try with_reducible rfl)
    try simp only [Act.put, List.setIfInBounds_toArray, List.set_cons_zero, List.set_cons_succ]
    refine' wpAnyH_take (i := 1) (oi := _) (v := _) rfl (by kernel_rfl) (by kernel_rfl) (by kernel_rfl) (fun _ _ _ h => h) (Or.inl ⟨?_, ?_⟩) (by assumption) ?_
    rotate_left
    all_goals (try simp only [List.getElem_toArray, List.getElem_cons_succ, List.getElem_cons_zero])
    · rfl
    · intro W hSw; (try dsimp only at hSw); go_simp; (try with_reducible rfl)
    try simp only [Act.put, List.setIfInBounds_toArray, List.set_cons_zero, List.set_cons_succ]
    refine' wpAnyH_take (i := 3) (oi := _) (v := _) rfl (by kernel_rfl) (by kernel_rfl) (by kernel_rfl) (fun _ _ _ h => h) (Or.inl ⟨?_, ?_⟩) (by assumption) ?_
    rotate_left
    all_goals (try simp only [List.getElem_toArray, List.getElem_cons_succ, List.getElem_cons_zero])
    · rfl
    · intro W hSw; (try dsimp only at hSw); go_simp; (try with_reducible rfl)
    try simp only [Act.put, List.setIfInBounds_toArray, List.set_cons_zero, List.set_cons_succ]
    refine' wpAnyH_take (i := 4) (oi := _) (v := _) rfl (by kernel_rfl) (by kernel_rfl) (by kernel_rfl) (fun _ _ _ h => h) (Or.inl ⟨?_, ?_⟩) (by assumption) ?_
    rotate_left
    all_goals (try simp only [List.getElem_toArray, List.getElem_cons_succ, List.getElem_cons_zero])
    · rfl
    · intro W hSw; (try dsimp only at hSw); go_simp; (try with_reducible rfl)
    try simp only [Act.put, List.setIfInBounds_toArray, List.set_cons_zero, List.set_cons_succ]
    refine' wpAnyH_take (i := 5) (oi := _) (v := _) rfl (by kernel_rfl) (by kernel_rfl) (by kernel_rfl) (fun _ _ _ h => h) (Or.inl ⟨?_, ?_⟩) (by assumption) ?_
    rotate_left
    all_goals (try simp only [List.getElem_toArray, List.getElem_cons_succ, List.getElem_cons_zero])
    · rfl
    · intro W hSw; (try dsimp only at hSw); go_simp; (try with_reducible rfl)
    try simp only [Act.put, List.setIfInBounds_toArray, List.set_cons_zero, List.set_cons_succ]
    refine' wpAnyH_take (i := 6) (oi := _) (v := _) rfl (by kernel_rfl) (by kernel_rfl) (by kernel_rfl) (fun _ _ _ h => h) (Or.inl ⟨?_, ?_⟩) (by assumption) ?_
    rotate_left
    all_goals (try simp only [List.getElem_toArray, List.getElem_cons_succ, List.getElem_cons_zero])
    · rfl
    · intro W hSw; (try dsimp only at hSw); go_simp; (try with_reducible rfl)
    try simp only [Act.put, List.setIfInBounds_toArray, List.set_cons_zero, List.set_cons_succ]
    refine' wpAnyH_take (i := 7) (oi := _) (v := _) rfl (by kernel_rfl) (by kernel_rfl) (by kernel_rfl) (fun _ _ _ h => h) (Or.inl ⟨?_, ?_⟩) (by assumption) ?_
    rotate_left
    all_goals (try simp only [List.getElem_toArray, List.getElem_cons_succ, List.getElem_cons_zero])
    · rfl
    · intro W hSw; (try dsimp only at hSw); go_simp; (try with_reducible rfl)
    try simp only [Act.put, List.setIfInBounds_toArray, List.set_cons_zero, List.set_cons_succ]
    refine' wpAnyH_take (i := 8) (oi := _) (v := _) rfl (by kernel_rfl) (by kernel_rfl) (by kernel_rfl) (fun _ _ _ h => h) (Or.inl ⟨?_, ?_⟩) (by assumption) ?_
    rotate_left
    all_goals (try simp only [List.getElem_toArray, List.getElem_cons_succ, List.getElem_cons_zero])
    · rfl
    · intro W hSw; (try dsimp only at hSw); go_simp; (try with_reducible rfl)
    try simp only [Act.put, List.setIfInBounds_toArray, List.set_cons_zero, List.set_cons_succ]
    refine' wpAnyH_take (i := 9) (oi := _) (v := _) rfl (by kernel_rfl) (by kernel_rfl) (by kernel_rfl) (fun _ _ _ h => h) (Or.inl ⟨?_, ?_⟩) (by assumption) ?_
    rotate_left
    all_goals (try simp only [List.getElem_toArray, List.getElem_cons_succ, List.getElem_cons_zero])
    · rfl
    · intro W hSw; (try dsimp only at hSw); go_simp; (try with_reducible rfl)
    try simp only [Act.put, List.setIfInBounds_toArray, List.set_cons_zero, List.set_cons_succ]
    refine' wpAnyH_take (i := 10) (oi := _) (v := _) rfl (by kernel_rfl) (by kernel_rfl) (by kernel_rfl) (fun _ _ _ h => h) (Or.inl ⟨?_, ?_⟩) (by assumption) ?_
    rotate_left
    all_goals (try simp only [List.getElem_toArray, List.getElem_cons_succ, List.getElem_cons_zero])
    · rfl
    · intro W hSw; (try dsimp only at hSw); go_simp; (try with_reducible rfl)
    try simp only [Act.put, List.setIfInBounds_toArray, List.set_cons_zero, List.set_cons_succ]
    refine' wpAnyH_take (i := 11) (oi := _) (v := _) rfl (by kernel_rfl) (by kernel_rfl) (by kernel_rfl) (fun _ _ _ h => h) (Or.inl ⟨?_, ?_⟩) (by assumption) ?_
    rotate_left
    all_goals (try simp only [List.getElem_toArray, List.getElem_cons_succ, List.getElem_cons_zero])
    · rfl
    · intro W hSw; (try dsimp only at hSw); go_simp; (try with_reducible rfl)
    try simp only [Act.put, List.setIfInBounds_toArray, List.set_cons_zero, List.set_cons_succ]
    refine' wpAnyH_take (i := 12) (oi := _) (v := _) rfl (by kernel_rfl) (by kernel_rfl) (by kernel_rfl) (fun _ _ _ h => h) (Or.inl ⟨?_, ?_⟩) (by assumption) ?_
    rotate_left
    all_goals (try simp only [List.getElem_toArray, List.getElem_cons_succ, List.getElem_cons_zero])
    · rfl
    · intro W hSw; (try dsimp only at hSw); go_simp; (try with_reducible rfl)
    try simp only [Act.put, List.setIfInBounds_toArray, List.set_cons_zero, List.set_cons_succ]
    refine' wpAnyH_take (i := 13) (oi := _) (v := _) rfl (by kernel_rfl) (by kernel_rfl) (by kernel_rfl) (fun _ _ _ h => h) (Or.inl ⟨?_, ?_⟩) (by assumption) ?_
    rotate_left
    all_goals (try simp only [List.getElem_toArray, List.getElem_cons_succ, List.getElem_cons_zero])
    · rfl
    · intro W hSw; (try dsimp only at hSw); go_simp; (try with_reducible rfl)
    try simp only [Act.put, List.setIfInBounds_toArray, List.set_cons_zero, List.set_cons_succ]
    refine' wpAnyH_take (i := 14) (oi := _) (v := _) rfl (by kernel_rfl) (by kernel_rfl) (by kernel_rfl) (fun _ _ _ h => h) (Or.inl ⟨?_, ?_⟩) (by assumption) ?_
    rotate_left
    all_goals (try simp only [List.getElem_toArray, List.getElem_cons_succ, List.getElem_cons_zero])
    · rfl
    · intro W hSw; (try dsimp only at hSw); go_simp; (try with_reducible rfl)
    try simp only [Act.put, List.setIfInBounds_toArray, List.set_cons_zero, List.set_cons_succ]
    refine' wpAnyH_take (i := 15) (oi := _) (v := _) rfl (by kernel_rfl) (by kernel_rfl) (by kernel_rfl) (fun _ _ _ h => h) (Or.inl ⟨?_, ?_⟩) (by assumption) ?_
    rotate_left
    all_goals (try simp only [List.getElem_toArray, List.getElem_cons_succ, List.getElem_cons_zero])
    · rfl
    · intro W hSw; (try dsimp only at hSw); go_simp; (try with_reducible rfl)
    try simp only [Act.put, List.setIfInBounds_toArray, List.set_cons_zero, List.set_cons_succ]
    refine' wpAnyH_take (i := 16) (oi := _) (v := _) rfl (by kernel_rfl) (by kernel_rfl) (by kernel_rfl) (fun _ _ _ h => h) (Or.inl ⟨?_, ?_⟩) (by assumption) ?_
    rotate_left
    all_goals (try simp only [List.getElem_toArray, List.getElem_cons_succ, List.getElem_cons_zero])
    · rfl
    · intro W hSw; (try dsimp only at hSw); go_simp; (try with_reducible rfl)
    try simp only [Act.put, List.setIfInBounds_toArray, List.set_cons_zero, List.set_cons_succ]
    refine' wpAnyH_take (i := 17) (oi := _) (v := _) rfl (by kernel_rfl) (by kernel_rfl) (by kernel_rfl) (fun _ _ _ h => h) (Or.inl ⟨?_, ?_⟩) (by assumption) ?_
    rotate_left
    all_goals (try simp only [List.getElem_toArray, List.getElem_cons_succ, List.getElem_cons_zero])
    · rfl
    · intro W hSw; (try dsimp only at hSw); go_simp; (try with_reducible rfl)
    try simp only [Act.put, List.setIfInBounds_toArray, List.set_cons_zero, List.set_cons_succ]
    refine' wpAnyH_take (i := 18) (oi := _) (v := _) rfl (by kernel_rfl) (by kernel_rfl) (by kernel_rfl) (fun _ _ _ h => h) (Or.inl ⟨?_, ?_⟩) (by assumption) ?_
    rotate_left
    all_goals (try simp only [List.getElem_toArray, List.getElem_cons_succ, List.getElem_cons_zero])
    · rfl
    · intro W hSw; (try dsimp only at hSw); go_simp; (try with_reducible rfl)
    try simp only [Act.put, List.setIfInBounds_toArray, List.set_cons_zero, List.set_cons_succ]
    refine' wpAnyH_take (i := 19) (oi := _) (v := _) rfl (by kernel_rfl) (by kernel_rfl) (by kernel_rfl) (fun _ _ _ h => h) (Or.inl ⟨?_, ?_⟩) (by assumption) ?_
    rotate_left
    all_goals (try simp only [List.getElem_toArray, List.getElem_cons_succ, List.getElem_cons_zero])
    · rfl
    · intro W hSw; (try dsimp only at hSw); go_simp; (try with_reducible rfl)
    try simp only [Act.put, List.setIfInBounds_toArray, List.set_cons_zero, List.set_cons_succ]
    refine wpAnyH_ready (rs := [2]) (by kernel_rfl) (by simp) ?_
    refine AllReadyH.cons (o := _) rfl (fun K hK => ?_) AllReadyH.nil
    try simp only [List.getElem_toArray, List.getElem_cons_succ, List.getElem_cons_zero]
    go_simp
    refine (laid_any a 28 34 39 _ _ _ _ rfl rfl rfl (by decide) (by decide) (by decide) la L2 RL2.out).mono ?_; rintro e5 w5 ⟨rfl, rfl⟩
    go_wp2_with fail
    refine hK.out _ _ hHeld (fun hHeld => ?_)
    clear hK K
    try simp only [Act.put, List.setIfInBounds_toArray, List.set_cons_zero, List.set_cons_succ]
    refine' wpAnyH_take (i := 20) (oi := _) (v := _) rfl (by kernel_rfl) (by kernel_rfl) (by kernel_rfl) (fun _ _ _ h => h) (Or.inl ⟨?_, ?_⟩) (by assumption) ?_
    rotate_left
    all_goals (try simp only [List.getElem_toArray, List.getElem_cons_succ, List.getElem_cons_zero])
    · rfl
    · intro W hSw; (try dsimp only at hSw); go_simp; (try with_reducible rfl)
    try simp only [Act.put, List.setIfInBounds_toArray, List.set_cons_zero, List.set_cons_succ]
    refine' wpAnyH_take (i := 21) (oi := _) (v := _) rfl (by kernel_rfl) (by kernel_rfl) (by kernel_rfl) (fun _ _ _ h => h) (Or.inl ⟨?_, ?_⟩) (by assumption) ?_
    rotate_left
    all_goals (try simp only [List.getElem_toArray, List.getElem_cons_succ, List.getElem_cons_zero])
    · rfl
    · intro W hSw; (try dsimp only at hSw); go_simp; (try with_reducible rfl)
    try simp only [Act.put, List.setIfInBounds_toArray, List.set_cons_zero, List.set_cons_succ]
    refine wpAnyH_done (by kernel_rfl) ?_ _
    clear cv0 cv1 cv2 cv3 cv4 cv5 cv6 cv7 ck
    have HG5 := Lib.hid (show W.grownBy W.drew.drew (some V) from ⟨rfl, rfl, rfl, Nat.le_refl _, fun _ _ _ => rfl⟩)
    have HV5 := Lib.hid (show Arr .u64 80 W.drew.drew V vs from HV.out)
    clear f0 f1 f2 f3 f4 f5 f6 f7
    generalize W.drew.drew = W5 at *
    have ff := HV5.out.frozen
    have f0 := ff 0
    have f1 := ff 1
    have f2 := ff 2
    have f3 := ff 3
    have f4 := ff 4
    have f5 := ff 5
    have f6 := ff 6
    have f7 := ff 7
    clear ff
    have d0 : W5.cell? ⟨V, 0, none⟩ = some (.int .u64 (a : Int)) := (HV5.out.cell 0 (by rw [hVl.out]; decide)).trans (by rw [show vs[0]?.getD 0 = a from HC0.out.symm])
    have d1 : W5.cell? ⟨V, 1, none⟩ = some (.int .u64 (b : Int)) := (HV5.out.cell 1 (by rw [hVl.out]; decide)).trans (by rw [show vs[1]?.getD 0 = b from HC1.out.symm])
    have d2 : W5.cell? ⟨V, 2, none⟩ = some (.int .u64 (c : Int)) := (HV5.out.cell 2 (by rw [hVl.out]; decide)).trans (by rw [show vs[2]?.getD 0 = c from HC2.out.symm])
    have d3 : W5.cell? ⟨V, 3, none⟩ = some (.int .u64 (d : Int)) := (HV5.out.cell 3 (by rw [hVl.out]; decide)).trans (by rw [show vs[3]?.getD 0 = d from HC3.out.symm])
    have d4 : W5.cell? ⟨V, 4, none⟩ = some (.int .u64 (e : Int)) := (HV5.out.cell 4 (by rw [hVl.out]; decide)).trans (by rw [show vs[4]?.getD 0 = e from HC4.out.symm])
    have d5 : W5.cell? ⟨V, 5, none⟩ = some (.int .u64 (f : Int)) := (HV5.out.cell 5 (by rw [hVl.out]; decide)).trans (by rw [show vs[5]?.getD 0 = f from HC5.out.symm])
    have d6 : W5.cell? ⟨V, 6, none⟩ = some (.int .u64 (m : Int)) := (HV5.out.cell 6 (by rw [hVl.out]; decide)).trans (by rw [show vs[6]?.getD 0 = m from HC6.out.symm])
    have d7 : W5.cell? ⟨V, 7, none⟩ = some (.int .u64 (h : Int)) := (HV5.out.cell 7 (by rw [hVl.out]; decide)).trans (by rw [show vs[7]?.getD 0 = h from HC7.out.symm])
    have HLT := Lib.hid (show ∀ x ∈ [n0, a, b, c, n4, e, f, m], x < 18446744073709551616 by intro x hx; simp at hx; omega)
    clear ews1 ews2 ews3 ewy ewz es1 es2 es3 ey ez eN1 eA1 eA2 eX1 eB1 eB2 eB3 eX2 eX3 lL1 ls1 ls2 ls3 lA1 lN1 lA2 lX1 lL2 lB1 lB2 lB3 lX2 lX3 hwi hzi
    gi_wp2_with fail
    have hg8 : W.grownBy ((((((((W5.setCell ⟨V, 0, none⟩ (.int .u64 (n0 : Int))).setCell ⟨V, 1, none⟩ (.int .u64 (a : Int))).setCell ⟨V, 2, none⟩ (.int .u64 (b : Int))).setCell ⟨V, 3, none⟩ (.int .u64 (c : Int))).setCell ⟨V, 4, none⟩ (.int .u64 (n4 : Int))).setCell ⟨V, 5, none⟩ (.int .u64 (e : Int))).setCell ⟨V, 6, none⟩ (.int .u64 (f : Int))).setCell ⟨V, 7, none⟩ (.int .u64 (m : Int))) (some V) := grown_set (grown_set (grown_set (grown_set (grown_set (grown_set (grown_set (grown_set (HG5.out) _ _) _ _) _ _) _ _) _ _) _ _) _ _) _ _
    have hVw := HV.out.lt
    have hkv := HKV.out
    refine ⟨(keeps_arr HV.out hg8).from _, KpT.grown hg8 (fun r e => by cases e; exact ⟨_, _, _, HV.out, by decide⟩), (hg8.block Kb HKB.out.lt (by intro e; cases e; omega)).trans HKB.out, ⟨[n0, a, b, c, n4, e, f, m], ?_, rfl, HLT.out, ?_⟩, HST.out.block (hg8.block g HST.out.lt (by intro e; cases e; omega)), HBL.out.grown hg8 HBL.out.size (fun r e => by cases e; omega)⟩
    · rw [← set8 hVl.out n0 a b c n4 e f m]
      exact ((((((((HV5.out).stored 0 n0 _ rfl).stored 1 a _ rfl).stored 2 b _ rfl).stored 3 c _ rfl).stored 4 n4 _ rfl).stored 5 e _ rfl).stored 6 f _ rfl).stored 7 m _ rfl
    · intro he
      rw [List.map_append] at he ⊢
      obtain ⟨h1, h2⟩ := told_split he
      rw [List.length_append, show ([(⟨(i, u), ⟨hlt, lu⟩⟩ : Pc CT)].map (·.1)).length = 1 from rfl, rdsN_succ]
      obtain ⟨e1, e2⟩ := Prod.mk.inj h2
      rw [← HSEM.out h1, ← e2, ← e1, HE2.out]
  · rintro D xs W hD hS ⟨hkb, ⟨vs, hv, hvl, hvb, hsem⟩, hst, hbel⟩ hK
    have hvs := hsem (by rw [hS, told_len])
    rw [hS, told_len] at hvs
    have HV := Lib.hid hv
    have hVl := Lib.hid hvl
    have hVb := Lib.hid hvb
    have HVS := Lib.hid hvs
    have HST := Lib.hid hst
    have HBL := Lib.hid hbel
    have HK := Lib.hid hK
    have HD := Lib.hid hD
    have HTN := Lib.hid (show turnN ws tail = addTo ws (rdsN ws (schedN tail) 80) 8 from rfl)
    have HG0 := Lib.hid (show W.grownBy W (some g) from ⟨rfl, rfl, rfl, Nat.le_refl _, fun _ _ _ => rfl⟩)
    clear hkb hv hvl hvb hsem hst hbel hK hD hS hvs
    go_wp2_with (refine wpList_load_row rfl _ _ rfl V rfl _ (arrC .u64 vs) _ _ HV.out Tryd.underlying80 rfl (by rw [arrC_size, hVl.out]; kernel_rfl) ?_)
    go_loopw [90] (fun iv wq => ∃ j : Nat, iv = .int .i64 (j : Int) ∧ j ≤ 8 ∧ Hid (StateAt wq g bt (addTo ws vs j) tail taken ∧ W.grownBy wq (some g))) (fun iv _ => 8 - (intOf iv).toNat)
    case atStart => exact ⟨0, rfl, by decide, HST.out, HG0.out⟩
    case round =>
      obtain ⟨j, rfl, hj, hI⟩ := hrel
      rcases Nat.lt_or_ge j 8 with hlt | hge
      · have hd : decide ((j : Int) < 8) = true := by simp; omega
        have cj := hI.out.1.word j hlt
        have fj := hI.out.1.frozen (1 + j)
        obtain ⟨x, hx⟩ : ∃ x, x = g0 (addTo ws vs j) j := ⟨_, rfl⟩
        rw [← hx] at cj
        have lx : x < 18446744073709551616 := hx ▸ g0_lt hI.out.1.wlt (by decide) j
        have ix := idx8 vs j hlt hVl.out
        obtain ⟨u, hu⟩ : ∃ u, u = g0 vs j := ⟨_, rfl⟩
        have lu : u < 18446744073709551616 := hu ▸ g0_lt hVb.out (by decide) j
        rw [show vs[j]?.getD 0 = u from hu.symm] at ix
        have ixw := ix wr
        obtain ⟨s, hs⟩ : ∃ s, s = (x + u) % 18446744073709551616 := ⟨_, rfl⟩
        have ls : s < 18446744073709551616 := by omega
        have es : ((x : Int) + (u : Int)) % 18446744073709551616 = (s : Int) := by omega
        have HE := Lib.hid (show addTo ws vs (j + 1) = (addTo ws vs j).set j s by rw [hs, hx, hu]; rfl)
        clear hx hu hs ix
        go_wp2_with fail
        go_region
        go_wp2
        go_roundw
        case rel => exact ⟨j + 1, by go_num, by omega, by rw [HE.out]; exact (hI.out.1.drew').setWord j s hlt _ (by simp [IntKind.wrap, IntKind.bits, IntKind.signed]; omega) ls, grown_set (grown_drew hI.out.2) _ _⟩
        case measure => simp [intOf]; omega
      · obtain rfl : j = 8 := by omega
        have hd : decide (((8 : Nat) : Int) < 8) = false := by decide
        have hkv := HKV.out
        have hzz := hz4.out
        have hDD := HD.out
        have hKr := (hI.out.2.block D (Array.getElem?_eq_some_iff.1 HK.out).1 (by intro e; cases e; omega)).trans HK.out
        have HKr := Lib.hid hKr
        clear hKr hkv hzz hDD
        go_wp2
        refine ⟨by simp, .inl ⟨_, _, rfl, run_takeDeferred HKr.out, ?_⟩⟩
        have hkv := HKV.out
        have hzz := hz4.out
        have hDD := HD.out
        refine ⟨_, results_none H0.out _ _ _, rfl, ?_, grown_past (grown_trans (grown_below HBL.out (some g)) hI.out.2) (grownBy_putObj' wr D _) (fun r e => by cases e; omega)⟩
        rw [HTN.out, ← HVS.out]
        exact hI.out.1.block (World.putObj_heap_other (by omega))
  · rintro D cc pre W hD hSp h
    exact h.elim
  · exact fun s X X' row h hg hr => h.stays hg (fun r e => by
      have h2 := HKV.out
      have h3 := hz4.out
      rcases hr r e with ⟨h4, -⟩
      omega)
  · exact fun cc s X X' row h hg hr => h

end Go.Proofs.YtmfjhgjplmpecaaDoor.L5
