/-
  THE WALK OF OCTET's Unhex: a range over an iterator.
-/
import Derived.Test.YtidiapdddkknpaaOctR
import Derived.WalkMore
namespace Go.Proofs.Ytidiapdddkknpaa
open Go.RowKit Go.Shelf
attribute [local go_sem] Oper.semAt_some

theorem wpListIn_make_full {F : Fence} {n : Nat} {P : Program} (w : World) {ops : Array Oper} {rest : List Oper} {o : Oper} {a : Act} {Q : Exit → Act → World → Prop}
    (hg : o.guard = none) (l c : Operand) (t : TypeId) (hop : o.op = Op.makeSlice t l c)
    (base : Nat) (e : TypeId) (i : TypeInfo) (z : Value) (size : Nat) (h1 : P.underlying t = some (.slice e)) (h2 : P.info? e = some i) (h3 : i.zero = some z) (h4 : i.size = size)
    (kl kc : IntKind) (L C : Int) (m : Nat) (hl : a.eval l = .int kl L) (hc : a.eval c = .int kc C) (hL : L = (m : Int)) (hC : C = (m : Int)) (b2 : i.bytes * m ≤ 281474976710656) (b3 : m ≤ maxLen) (b4 : base ≤ w.heap.size)
    (hK : ∀ w', w'.ownsRow base e size (.slice (some ⟨w.heap.size, 0, none⟩) m m) m (madeCells z.cells (m * size)).toList → w.grownBy w' none → wpListIn F n P ops Q rest (a.put o.dst (.slice (some ⟨w.heap.size, 0, none⟩) m m)) w') :
    wpListIn F n P ops Q (o :: rest) a w := by
  refine wpListIn_plain hg fun K hK' => ?_
  obtain ⟨w', hrun, r1, r2⟩ := run_make_full (P := P) w base t e i z size h1 h2 h3 h4 kl kc m b2 b3 b4
  subst hL
  subst hC
  unfold Oper.wpIn
  refine ⟨?_, ?_⟩
  · simp [Oper.about, hop]
  · rw [Oper.semAt_plain F _ _ (by rw [hop]; intro c hc'; cases hc')]
    simp [execOp, hop, hl, hc, hrun, Result.andThen]
    exact hK' _ _ (hK w' r1 r2)

def valW (pre : List Wd) (j : Nat) : Nat := (pre[j]?.map (·.1.1)).getD 0
theorem valW_lt (pre : List Wd) (j : Nat) : valW pre j < 16 := by
  unfold valW
  cases h : pre[j]? with
  | none => simp
  | some x => simpa using x.2
theorem valW_snoc (pre : List Wd) (x : Wd) (j : Nat) : valW (pre ++ [x]) j = if j = pre.length then x.1.1 else valW pre j := by
  unfold valW
  by_cases h : j < pre.length
  · rw [List.getElem?_append_left h, if_neg (by omega)]
  · rw [List.getElem?_append_right (by omega)]
    by_cases e : j = pre.length
    · simp [e]
    · rw [if_neg e, List.getElem?_eq_none (by simp; omega), List.getElem?_eq_none (by omega)]
theorem valW_out (pre : List Wd) (j : Nat) (h : pre.length ≤ j) : valW pre j = 0 := by
  unfold valW; rw [List.getElem?_eq_none h]; rfl

/-- What lies in n bytes when pre has come. -/
def fillB (n : Nat) (pre : List Wd) : List UInt8 := (List.range n).map fun k => UInt8.ofNat (16 * valW pre (2 * k) + valW pre (2 * k + 1))
theorem fillB_length (n : Nat) (pre : List Wd) : (fillB n pre).length = n := by simp [fillB]
theorem fillB_get (n : Nat) (pre : List Wd) (k : Nat) (hk : k < n) : (fillB n pre)[k]?.getD 0 = UInt8.ofNat (16 * valW pre (2 * k) + valW pre (2 * k + 1)) := by simp [fillB, hk]

theorem fillB_set (n : Nat) (pre : List Wd) (x : Wd) (k : Nat) (c : UInt8) (h2 : pre.length / 2 = k) (hc : c = UInt8.ofNat (16 * valW (pre ++ [x]) (2 * k) + valW (pre ++ [x]) (2 * k + 1))) : (fillB n pre).set k c = fillB n (pre ++ [x]) := by
  apply List.ext_getElem
  · simp [fillB]
  · intro j h3 h4
    simp only [fillB, List.length_map, List.length_range] at h4
    rw [List.getElem_set]
    by_cases e : k = j
    · subst e
      rw [if_pos rfl, hc]
      simp [fillB]
    · rw [if_neg e]
      simp only [fillB, List.getElem_map, List.getElem_range]
      rw [valW_snoc, valW_snoc, if_neg (by omega), if_neg (by omega)]

theorem fillB_even (n : Nat) (pre : List Wd) (x : Wd) (k : Nat) (h : pre.length = 2 * k) : (fillB n pre).set k (UInt8.ofNat (16 * x.1.1)) = fillB n (pre ++ [x]) :=
  fillB_set n pre x k _ (by omega) (by rw [valW_snoc, valW_snoc, if_pos h.symm, if_neg (by omega), valW_out pre _ (by omega)]; rfl)
theorem fillB_odd (n : Nat) (pre : List Wd) (x : Wd) (k : Nat) (h : pre.length = 2 * k + 1) : (fillB n pre).set k (UInt8.ofNat (16 * valW pre (2 * k) + x.1.1)) = fillB n (pre ++ [x]) :=
  fillB_set n pre x k _ (by omega) (by rw [valW_snoc, valW_snoc, if_neg (by omega), if_pos h.symm])

theorem fillB_all (l : List UInt8) (n : Nat) (h : l.length = 2 * n) (hall : ∀ k, k < l.length → isDig (l[k]?.getD 0).toNat = true) : fillB n (wds l) = unhexB l n := by
  unfold fillB unhexB
  apply List.map_congr_left
  intro k hk
  rw [List.mem_range] at hk
  have hv : ∀ j, j < l.length → valW (wds l) j = digV (l[j]?.getD 0).toNat := fun j hj => by
    have h1 := hall j hj
    rw [List.getElem?_eq_getElem hj] at h1 ⊢
    simp only [Option.getD_some] at h1 ⊢
    unfold valW wds
    rw [List.getElem?_map, List.getElem?_eq_getElem hj]
    simp [wd, h1]
  rw [hv _ (by omega), hv _ (by omega)]

theorem or4 (v x : Nat) (hv : v < 16) (hx : x < 16) : bits BinOp.or IntKind.u8 ((16 * v : Nat) : Int) (x : Int) = ((16 * v + x : Nat) : Int) := by
  rw [u8_or_nat _ _ (by omega) (by omega), show 16 * v = v * 16 from by omega, nat_join 4 _ _ (by omega) (by omega)]

theorem Own8.keptCells {E B : Nat} {W W' : World} {row : Option Nat} {v : Value} {l : List UInt8} (h : Own8 E B W v l) (hg : W.grownBy W' row) (hr : ∀ r, row = some r → ∃ o : Obj, W.heap[r]? = some o ∧ o.isCells = false) : Own8 E B W' v l := by
  refine World.ownsRow.kept h hg ?_
  rcases h.2 with ⟨rfl, _⟩ | ⟨g, cap, cur, rfl, _, hgb, _⟩
  · exact .inl rfl
  · refine .inr fun e' => ?_
    obtain ⟨o, ho, hc⟩ := hr g (by simpa [Value.ownBlock] using e'.symm)
    rw [hgb] at ho; cases ho; cases hc

theorem Boxed.keptCells {W W' : World} {row : Option Nat} {B : Nat} {t : TypeId} {v : Value} (h : Boxed W B t v) (hg : W.grownBy W' row) (hr : ∀ r, row = some r → ∃ o : Obj, W.heap[r]? = some o ∧ o.isCells = false) : Boxed W' B t v :=
  Boxed.kept h hg fun e' => by obtain ⟨o, ho, hc⟩ := hr B e'.symm; rw [show W.heap[B]? = _ from h] at ho; cases ho; cases hc

theorem boxed_other {W : World} {B : Nat} {t : TypeId} {v : Value} (h : Boxed W B t v) (p : Addr) (u : Value) (hp : B ≠ p.block) : Boxed (W.setCell p u) B t v := (Below.heap_setCell W p u B hp).trans h

theorem worths_any (s : ByteArray) (w : World) : Calls Try.prog 34 #[.string s] w fun e w' => e = .returned (.func (.func 40) #[] #[.pointer (some ⟨w.heap.size, 0, none⟩)]) ∧ w' = w.alloc (.cells #[.string s] 9) := by
  go_enter Try.func34, Try.ntmps34
  go_wp2
  go_ret
  exact ⟨rfl, rfl⟩

set_option maxRecDepth 100000 in
set_option maxHeartbeats 4000000 in
theorem unhex_any (l : List UInt8) (w : World) (hm : l.length ≤ 70368744177) :
    Calls Try.prog 11 #[.string (strOf l)] w fun e w' => RetsOwn2 w.heap.size w' (unhexR l) e ∧ Below w.heap.size w w' := by
  obtain ⟨i0, hi, hz0, hz1, hz2⟩ := info_parts Try.info8
  have hs := strOf_size' l
  generalize hL : l.length = m at *
  have L := Lib.hid hL
  clear hL
  by_cases hodd : m % 2 = 1
  · have hr := Lib.hid (unhexR_odd (l := l) (by rw [L.out]; omega))
    have ht : ((m : Int).tmod 2 != 0) = true := by rw [Int.tmod_eq_emod_of_nonneg (by omega)]; simp; omega
    go_enter Try.func11, Try.ntmps11
    go_wp2
    go_step3
    go_wp2
    rw [Exit.noGoto_ret]
    go_ret2
    exact ⟨⟨_, by rw [hr.out]; rfl, by rw [hr.out]; exact Own8.nil _ _ _⟩, Below.refl _ _⟩
  · have ht : ((m : Int).tmod 2 != 0) = false := by rw [Int.tmod_eq_emod_of_nonneg (by omega)]; simp; omega
    obtain ⟨n, rfl⟩ : ∃ n, m = 2 * n := ⟨m / 2, by omega⟩
    clear hodd
    refine (callsIn_wide (n := 3)).1 ?_
    refine callsIn_of_wp_marks Try.func11 rfl trivial ?_ rfl
    simp only [Try.ntmps11, List.size_toArray, List.length_cons, List.length_nil, Nat.reduceAdd, Nat.reduceSub, Array.replicate_succ, Array.replicate_zero, List.push_toArray, List.append_toArray, List.nil_append, List.cons_append]
    gi_wp2
    refine wpIn_wide.2 (wp_scope_straight ((wpIn_wide (n := 3)).1 ?_))
    gi_wp2_with (first | (gi_at_make; go_loud (refine wpListIn_make_full _ rfl _ _ 22 rfl w.heap.size 5 i0 (.int .u8 0) 1 Try.underlying22 hi hz0 hz1 _ _ _ _ n rfl rfl (by omega) (by omega) (by rw [hz2]; omega) (by unfold maxLen; omega) (Nat.le_refl _) ?_; intro w1 hown hgrow)) | (refine ⟨trivial, ?_⟩; gi_at_call 34; refine (callsIn_wide.2 (worths_any _ _)).mono ?_; rintro e w' ⟨rfl, rfl⟩))
    refine wpIn_label ?_
    gi_wp2_with (refine ⟨trivial, ?_⟩; gi_at_call 34; refine (callsIn_wide.2 (worths_any _ _)).mono ?_; rintro e w' ⟨rfl, rfl⟩)
    have hown0 : Own8 5 w.heap.size w1 (.slice (some ⟨w.heap.size, 0, none⟩) n n) (List.replicate n 0) := by
      unfold Own8
      rw [← zeros_byt]
      simpa using hown
    have hlt0 : w.heap.size < w1.heap.size := (World.ownsRow.lt hown0 w.heap.size rfl).2
    have hb1 : Below w.heap.size w w1 := (Below.refl _ _).grown hgrow (Nat.le_refl _) (fun _ h => by cases h)
    clear hown hgrow
    have bA := (((Boxed.new w1 22 (.slice (some ⟨w.heap.size, 0, none⟩) n n)).alloc (.cells #[.int .i64 0] 3)).alloc (.cells #[.bool true] 4)).alloc (.cells #[.string (strOf l)] 9)
    have bB := ((Boxed.new (w1.alloc (.cells #[.slice (some ⟨w.heap.size, 0, none⟩) n n] 22)) 3 (.int .i64 0)).alloc (.cells #[.bool true] 4)).alloc (.cells #[.string (strOf l)] 9)
    have bC := (Boxed.new ((w1.alloc (.cells #[.slice (some ⟨w.heap.size, 0, none⟩) n n] 22)).alloc (.cells #[.int .i64 0] 3)) 4 (.bool true)).alloc (.cells #[.string (strOf l)] 9)
    have bD := Boxed.new (((w1.alloc (.cells #[.slice (some ⟨w.heap.size, 0, none⟩) n n] 22)).alloc (.cells #[.int .i64 0] 3)).alloc (.cells #[.bool true] 4)) 9 (.string (strOf l))
    have hO := (((hown0.alloc (.cells #[.slice (some ⟨w.heap.size, 0, none⟩) n n] 22)).alloc (.cells #[.int .i64 0] 3)).alloc (.cells #[.bool true] 4)).alloc (.cells #[.string (strOf l)] 9)
    have hBW := (((hb1.alloc hb1.size (.cells #[.slice (some ⟨w.heap.size, 0, none⟩) n n] 22)).alloc (by simp only [World.size_alloc]; omega) (.cells #[.int .i64 0] 3)).alloc (by simp only [World.size_alloc]; omega) (.cells #[.bool true] 4)).alloc (by simp only [World.size_alloc]; omega) (.cells #[.string (strOf l)] 9)
    simp only [World.size_alloc] at bB bC bD
    obtain ⟨W0, hW0⟩ : ∃ W0, ((((w1.alloc (.cells #[.slice (some ⟨w.heap.size, 0, none⟩) n n] 22)).alloc (.cells #[.int .i64 0] 3)).alloc (.cells #[.bool true] 4)).alloc (.cells #[.string (strOf l)] 9)) = W0 := ⟨_, rfl⟩
    rw [hW0] at bA bB bC bD hO hBW ⊢
    have hsz0 : w.heap.size ≤ W0.heap.size := hBW.size
    clear hW0 hown0
    generalize w1.heap.size = A at *
    have h1 : 1 ≤ 3 := by decide
    refine wpIn_rangeFunc_ownF (F := Fence.wide) rfl h1 (gf := 40) (lb := #[.pointer (some ⟨A + 1 + 1 + 1, 0, none⟩)]) rfl trivial (enters_of Try.func40 (by kernel_rfl) rfl)
      (worths_stops (3 - 1) (by decide) l (A + 1 + 1 + 1) W0 bD.cell bD.lt) walksK_t walksK_b (Below.refl _ _) (fun _ => rfl)
      (fun pre W => (Boxed W A 22 (.slice (some ⟨w.heap.size, 0, none⟩) n n) ∧ Boxed W (A + 1) 3 (.int .i64 (pre.length : Nat)) ∧ Boxed W (A + 1 + 1) 4 (.bool true) ∧ Own8 5 w.heap.size W (.slice (some ⟨w.heap.size, 0, none⟩) n n) (fillB n pre) ∧ Hid (∀ x ∈ pre, x.1.2 = true)) ∧ Below w.heap.size w W)
      (fun c pre W => (c = .exit 0 ∧ Boxed W (A + 1 + 1) 4 (.bool false) ∧ Hid (∃ x ∈ pre, x.1.2 = false)) ∧ Below w.heap.size w W)
      (OwnFrom.and (fun s X Y row hs hg hr => ⟨Boxed.keptCells hs.1 hg (fun r e => (hr r e).2), Boxed.keptCells hs.2.1 hg (fun r e => (hr r e).2), Boxed.keptCells hs.2.2.1 hg (fun r e => (hr r e).2), hs.2.2.2.1.keptCells hg (fun r e => (hr r e).2), hs.2.2.2.2⟩) (ownFrom_below (Nat.le_refl _) hsz0))
      (fun c => OwnFrom.and (fun s X Y row hs hg hr => ⟨hs.1, Boxed.keptCells hs.2.1 hg (fun r e => (hr r e).2), hs.2.2⟩) (ownFrom_below (Nat.le_refl _) hsz0))
      ⟨⟨bA, bB, bC, by rw [show fillB n [] = List.replicate n 0 from by simp [fillB, valW, List.map_const']]; exact hO, fun _ h => by cases h⟩, hBW⟩
      (fun x => { tmps := #[.string (strOf l), undef, .slice none 0 0, .int .i64 0, .pointer (some ⟨A, 0, none⟩), .pointer (some ⟨A + 1, 0, none⟩), .pointer (some ⟨A + 1 + 1, 0, none⟩), .int .u8 (x.1.1 : Int), .bool x.1.2, .string (strOf l), .int .i64 (2 * (n : Int)), .int .i64 0, .bool false, .string (strOf l), .int .i64 (2 * (n : Int)), .int .i64 (n : Int), .slice (some ⟨w.heap.size, 0, none⟩) n n, .string (strOf l), .func (.func 40) #[] #[.pointer (some ⟨A + 1 + 1 + 1, 0, none⟩)], .int .u8 (x.1.1 : Int), .bool x.1.2, undef, undef, undef, undef, undef, undef, undef, undef, undef, undef, undef, undef, undef, undef, undef, undef, undef, undef, undef, undef, undef, undef, undef, undef, undef, undef], defers := [] }) ?assign ?body ?done ?stop
    case assign =>
      intro lp x W K hK
      gi_wp2
      exact hK
    case body =>
      rintro lp pre x W ⟨⟨bA, bB, bC, hown, hok⟩, hB⟩ hlt
      have cA := bA.cell
      have cB := bB.cell
      have cC := bC.cell
      have fB := bB.frozen
      have fC := bC.frozen
      have BA := Lib.hid bA
      have BB := Lib.hid bB
      have BC := Lib.hid bC
      have HO := Lib.hid hown
      rw [L.out] at hlt
      clear bA bB bC
      cases hx : x.1.2 with
      | false =>
        have HX := Lib.hid hx
        clear hown
        gi_wp2
        exact ⟨KeepsOthers.setCell _ _ _, ⟨rfl, BC.out.set _, ⟨x, by simp, HX.out⟩⟩, hB.setCell (p := ⟨A + 1 + 1, 0, none⟩) (by show w.heap.size ≤ A + 1 + 1; omega) _⟩
      | true =>
        have hok2 : Hid (∀ y ∈ pre ++ [x], y.1.2 = true) := fun y hy => by
          rcases List.mem_append.1 hy with h | h
          · exact hok.out y h
          · obtain rfl := List.mem_singleton.1 h; exact hx
        by_cases hpar : pre.length % 2 = 0
        · obtain ⟨k, hk⟩ : ∃ k, pre.length = 2 * k := ⟨pre.length / 2, by omega⟩
          have hkn : k < n := by omega
          have hst := Lib.hid (fillB_even n pre x k hk)
          have hcell := hown.cellAt (fillB_length n pre).symm k hkn
          have hfr := hown.frozenAt (fillB_length n pre).symm k
          have hx16 := x.2
          have hsnoc : Hid ((pre ++ [x]).length = 2 * k + 1) := by unfold Hid; simp; omega
          have HK := Lib.hid hk
          rw [hk] at cB BB
          have t1 : ((2 * (k : Int)).tmod 2 == 0) = true := by rw [Int.tmod_eq_emod_of_nonneg (by omega)]; simp
          clear hown hpar hlt hk
          gi_wp2
          have hs1 := HO.out.stored (fillB_length n pre).symm k (UInt8.ofNat (16 * x.1.1)) ((x.1.1 : Int) * 16) (by simp [UInt8.toNat_ofNat'] <;> omega)
          rw [hst.out] at hs1
          refine ⟨(KeepsOthers.setCell _ _ _).trans (KeepsOthers.setCell _ _ _), (KeepsWalks.setCell _ _ _).trans (KeepsWalks.setCell _ _ _), ⟨⟨boxed_other (boxed_other BA.out _ _ (by show A ≠ w.heap.size; omega)) _ _ (by show A ≠ A + 1; omega), ?_, boxed_other (boxed_other BC.out _ _ (by show A + 1 + 1 ≠ w.heap.size; omega)) _ _ (by show A + 1 + 1 ≠ A + 1; omega), ownsRow_setCell_other hs1.1 (by intro e; simp [Value.ownBlock] at e; omega) _, hok2⟩, (hB.setCell (p := ⟨w.heap.size, k, none⟩) (Nat.le_refl _) _).setCell (p := ⟨A + 1, 0, none⟩) (by show w.heap.size ≤ A + 1; omega) _⟩⟩
          rw [hsnoc.out, show ((2 * k + 1 : Nat) : Int) = 2 * (k : Int) + 1 from by omega]
          exact Boxed.set _ (boxed_other BB.out _ _ (by show A + 1 ≠ w.heap.size; omega))
        · obtain ⟨k, hk⟩ : ∃ k, pre.length = 2 * k + 1 := ⟨pre.length / 2, by omega⟩
          have hkn : k < n := by omega
          have hst := Lib.hid (fillB_odd n pre x k hk)
          have hcell := hown.cellAt (fillB_length n pre).symm k hkn
          have hfr := hown.frozenAt (fillB_length n pre).symm k
          have hx16 := x.2
          have hv16 := valW_lt pre (2 * k)
          have hget : ((fillB n pre)[k]?.getD 0).toNat = 16 * valW pre (2 * k) := by
            rw [fillB_get n pre k hkn, valW_out pre (2 * k + 1) (by omega)]
            simp [UInt8.toNat_ofNat'] <;> omega
          rw [hget] at hcell
          generalize valW pre (2 * k) = v at *
          have hor : bits BinOp.or IntKind.u8 (16 * (v : Int)) (x.1.1 : Int) = 16 * (v : Int) + (x.1.1 : Int) := by
            have := or4 v x.1.1 hv16 hx16
            simpa using this
          rw [show ((16 * v : Nat) : Int) = 16 * (v : Int) from by omega] at hcell
          have hsnoc : Hid ((pre ++ [x]).length = 2 * k + 2) := by unfold Hid; simp; omega
          have HK := Lib.hid hk
          rw [hk, show ((2 * k + 1 : Nat) : Int) = 2 * (k : Int) + 1 from by omega] at cB BB
          have t1 : ((2 * (k : Int) + 1).tmod 2 == 0) = false := by rw [Int.tmod_eq_emod_of_nonneg (by omega)]; simp <;> omega
          have d1 : (2 * (k : Int) + 1) / 2 = (k : Int) := by omega
          clear hown hpar hlt hk hget
          gi_wp2
          have hs1 := HO.out.stored (fillB_length n pre).symm k (UInt8.ofNat (16 * v + x.1.1)) (16 * (v : Int) + (x.1.1 : Int)) (by simp [UInt8.toNat_ofNat'] <;> omega)
          rw [hst.out] at hs1
          refine ⟨(KeepsOthers.setCell _ _ _).trans (KeepsOthers.setCell _ _ _), (KeepsWalks.setCell _ _ _).trans (KeepsWalks.setCell _ _ _), ⟨⟨boxed_other (boxed_other BA.out _ _ (by show A ≠ w.heap.size; omega)) _ _ (by show A ≠ A + 1; omega), ?_, boxed_other (boxed_other BC.out _ _ (by show A + 1 + 1 ≠ w.heap.size; omega)) _ _ (by show A + 1 + 1 ≠ A + 1; omega), ownsRow_setCell_other hs1.1 (by intro e; simp [Value.ownBlock] at e; omega) _, hok2⟩, (hB.setCell (p := ⟨w.heap.size, k, none⟩) (Nat.le_refl _) _).setCell (p := ⟨A + 1, 0, none⟩) (by show w.heap.size ≤ A + 1; omega) _⟩⟩
          rw [hsnoc.out, show ((2 * k + 2 : Nat) : Int) = 2 * (k : Int) + 1 + 1 from by omega]
          exact Boxed.set _ (boxed_other BB.out _ _ (by show A + 1 ≠ w.heap.size; omega))
    case done =>
      rintro D xs W hD hS ⟨⟨bA, bB, bC, hown, hok⟩, hB⟩ hK
      have hxs := hS hok.out
      have cA := bA.cell
      have cC := bC.cell
      have HO := Lib.hid hown
      have hall : ∀ k, k < l.length → isDig (l[k]?.getD 0).toNat = true := fun k hk => by
        have h5 := hok.out (wd (l[k]?.getD 0).toNat) (by
          rw [hxs, List.getElem?_eq_getElem hk]
          exact List.mem_map.2 ⟨l[k], List.getElem_mem hk, rfl⟩)
        exact h5
      have hyes := Lib.hid (show unhexR l = (unhexB l n, 0) by rw [unhexR_yes (by rw [L.out]; omega) hall, L.out, show 2 * n / 2 = n from by omega])
      have hfin := Lib.hid (show fillB n xs = unhexB l n by rw [hxs]; exact fillB_all l n L.out hall)
      clear hown hxs hall
      gi_wp2
      rw [Exit.noGoto_ret]
      refine ⟨by simp, .inl ⟨_, _, rfl, run_takeDeferred hK, ?_⟩⟩
      have hB2 : Below w.heap.size w (W.putObj D (.deferred none)) := hB.trans (belowK_b (w := w) (Nat.le_refl _) W D _ _ (by omega) hK rfl rfl)
      exact ⟨_, results_tmp2 rfl _ _ _, ⟨_, by rw [hyes.out]; rfl, by rw [hyes.out, ← hfin.out]; have h9 := ownsRow_putObj HO.out (.deferred none) hK rfl; exact fillB_length n xs ▸ h9⟩, hB2⟩
    case stop =>
      rintro D c pre W hD hS ⟨⟨rfl, bC, hbad⟩, hB⟩ hK
      have cC := bC.cell
      have hb := hS hbad.out
      have hno := Lib.hid (show unhexR l = ([], 10) by obtain ⟨k, hk, hf⟩ := hb; exact unhexR_bad k hk hf)
      clear hb
      gi_wp2
      rw [Exit.noGoto_ret]
      refine ⟨by simp, .inl ⟨_, _, rfl, run_takeDeferred hK, ?_⟩⟩
      have hB2 : Below w.heap.size w (W.putObj D (.deferred none)) := hB.trans (belowK_b (w := w) (Nat.le_refl _) W D _ _ (by omega) hK rfl rfl)
      exact ⟨_, results_tmp2 rfl _ _ _, ⟨_, by rw [hno.out]; rfl, by rw [hno.out]; exact Own8.nil _ _ _⟩, hB2⟩

end Go.Proofs.Ytidiapdddkknpaa
