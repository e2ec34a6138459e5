/-
  RATIO's work: A RANGE OVER falling.
-/
import Derived.Test.YtebfoalcmnpghaaDivD
import Derived.Test.YtebfoalcmnpghaaFence
namespace Go.Proofs.Ytebfoalcmnpghaa
open Go.RowKit Go.Shelf
attribute [local go_sem] Oper.semAt_some

theorem places_zero {X v q m : Nat} {L Q A W Z : List Nat} {t : Nat} (h : Places X v q m L Q (t + 1)) (hw : Window L A W Z t q) (hv : 0 < v) (hvq : v < 4294967296 ^ q) (h0 : val32 W / v = 0) : Places X v q m L Q t := by
  have hlt : val32 W < v := by
    have h1 := Nat.mod_add_div (val32 W) v
    have h2 := Nat.mod_lt (val32 W) hv
    rw [h0, Nat.mul_zero] at h1
    omega
  have hs := h.step (W' := W) hw hw.wlen (hw.lim h.llim).2.1 hv (low_window (hw.lim h.llim).2.1 hw.wlen hvq hlt)
  rw [← hw.eq, h0] at hs
  have hz := h.zeros t (by omega)
  have ht : t < Q.length := by have := h.le; have := h.qlen; omega
  have he : Q.set t 0 = Q := by
    apply List.ext_getElem?
    intro i
    rw [List.getElem?_set]
    split
    · next e =>
      subst e
      rw [List.getElem?_eq_getElem ht] at hz ⊢
      simp only [Option.getD_some] at hz
      simp [ht, hz]
    · rfl
  rwa [he] at hs

theorem falls_prefix {m : Nat} {pre : List (Place m)} {x : Place m} (h : (pre ++ [x]).map (·.1) = falls m (pre ++ [x]).length) : pre.map (·.1) = falls m pre.length ∧ x.1 = m - 1 - pre.length := by
  rw [List.length_append, List.length_singleton, falls_succ m pre.length _ rfl, List.map_append] at h
  obtain ⟨h1, h2⟩ := List.append_inj' h rfl
  exact ⟨h1, by simpa using h2⟩

/-- A block holds just that. -/
def HeldW (W : World) (D : Nat) (cs : Array Value) (t : TypeId) : Prop := W.heap[D]? = some (.cells cs t (0, 0))
theorem HeldW.lt {W : World} {D : Nat} {cs : Array Value} {t : TypeId} (h : HeldW W D cs t) : D < W.heap.size := (Array.getElem?_eq_some_iff.1 h).1
theorem HeldW.cell {W : World} {D : Nat} {cs : Array Value} {t : TypeId} (h : HeldW W D cs t) (i : Nat) {v : Value} (hi : cs[i]? = some v) : W.cell? ⟨D, i, none⟩ = some v := by
  rw [cell_of_row W D i cs t (0, 0) h, hi]
theorem HeldW.keptCells {W W' : World} {row : Option Nat} {D : Nat} {cs : Array Value} {t : TypeId} (h : HeldW W D cs t) (hg : W.grownBy W' row) (hr : ∀ r, row = some r → ∃ o : Obj, W.heap[r]? = some o ∧ o.isCells = false) : HeldW W' D cs t := by
  refine (hg.block D h.lt fun e' => ?_).trans h
  obtain ⟨o, ho, hc⟩ := hr D e'.symm
  rw [show W.heap[D]? = _ from h] at ho; cases ho; cases hc
theorem HeldW.touch {W W' : World} {g D : Nat} {cs : Array Value} {t : TypeId} (h : HeldW W D cs t) (ht : Touch g W W') (hn : D ≠ g) : HeldW W' D cs t := (ht.block D h.lt hn).trans h
theorem HeldW.alloc {W : World} {D : Nat} {cs : Array Value} {t : TypeId} (h : HeldW W D cs t) (o : Obj) : HeldW (W.alloc o) D cs t := (Below.heap_alloc W o D h.lt).trans h
theorem HeldW.below {W W' : World} {D : Nat} {cs : Array Value} {t : TypeId} (h : HeldW W D cs t) (hb : Below W.heap.size W W') : HeldW W' D cs t := (hb.block D h.lt).trans h
theorem boxed_touch {W W' : World} {g b : Nat} {t : TypeId} {v : Value} (h : Boxed W b t v) (ht : Touch g W W') (hn : b ≠ g) : Boxed W' b t v := (ht.block b h.lt hn).trans h
theorem OwnQ.touch {q : IntKind} {E B g h : Nat} {W W' : World} {n c : Nat} {l : List Nat} (ho : OwnQ q E B W (.slice (some ⟨h, 0, none⟩) n c) l) (ht : Touch g W W') (hn : h ≠ g) : OwnQ q E B W' (.slice (some ⟨h, 0, none⟩) n c) l := by
  obtain ⟨h1, h2⟩ := ho
  refine ⟨h1, ?_⟩
  rcases h2 with h2 | ⟨g', cap, cur, he, hB, hg, rest⟩
  · exact .inl h2
  · cases he
    exact .inr ⟨_, _, cur, rfl, hB, by rw [ht.block _ (Array.getElem?_eq_some_iff.1 hg).1 hn]; exact hg, rest⟩
theorem touch_keeps {W W' : World} {g n c E B : Nat} {k : IntKind} {l : List Nat} (h : Touch g W W') (ho : OwnQ k E B W (.slice (some ⟨g, 0, none⟩) n c) l) : KeepsOthers W W' := by
  refine ⟨h.size, fun j o hj hc => ?_⟩
  by_cases hg : j = g
  · subst hg
    rcases ho.2 with ⟨h1, _⟩ | ⟨g', cap, cur, he, hB, hgb, _⟩
    · cases h1
    · cases he
      rw [hgb] at hj; cases hj; cases hc
  · exact (h.block j (Array.getElem?_eq_some_iff.1 hj).1 hg).trans hj

/-- A division, between two places. -/
def WorkI (n₀ D g1 g2 g3 b0 nl c1 cv c3 m k X : Nat) (V : List Nat) (pre : List (Place m)) (W : World) : Prop :=
  ∃ L Q : List Nat, HeldW W D #[.slice (some ⟨g1, 0, none⟩) nl c1, .slice (some ⟨g2, 0, none⟩) (k + 1) cv, .slice (some ⟨g3, 0, none⟩) m c3] 93 ∧ OwnQ .u32 41 n₀ W (.slice (some ⟨g1, 0, none⟩) nl c1) L ∧ OwnQ .u32 41 n₀ W (.slice (some ⟨g2, 0, none⟩) (k + 1) cv) V ∧ OwnQ .u32 41 n₀ W (.slice (some ⟨g3, 0, none⟩) m c3) Q ∧
    Boxed W b0 91 (.pointer (some ⟨D, 0, none⟩)) ∧ Boxed W (b0 + 1) 95 (.func (.func 78) #[.pointer (some ⟨D, 0, none⟩)] #[]) ∧ Boxed W (b0 + 1 + 1) 96 (.func (.func 79) #[.pointer (some ⟨D, 0, none⟩)] #[]) ∧
    Hid (Lim L ∧ Lim Q ∧ (pre.map (·.1) = falls m pre.length → Places X (val32 V) (k + 1) m L Q (m - pre.length)))

theorem workI_own (n₀ D g1 g2 g3 b0 nl c1 cv c3 m k X : Nat) (V : List Nat) : Own (WorkI n₀ D g1 g2 g3 b0 nl c1 cv c3 m k X V) := fun s X Y row hs hg hr => by
  obtain ⟨L, Q, h0, h1, h2, h3, h4, h5, h6, h7⟩ := hs
  exact ⟨L, Q, h0.keptCells hg hr, h1.keptCells hg hr, h2.keptCells hg hr, h3.keptCells hg hr, Boxed.keptCells h4 hg hr, Boxed.keptCells h5 hg hr, Boxed.keptCells h6 hg hr, h7⟩

/-- A division that is done. -/
def Worked (n₀ D g1 g2 g3 nl c1 cv c3 m k X : Nat) (V : List Nat) (w' : World) : Prop :=
  ∃ L Q : List Nat, HeldW w' D #[.slice (some ⟨g1, 0, none⟩) nl c1, .slice (some ⟨g2, 0, none⟩) (k + 1) cv, .slice (some ⟨g3, 0, none⟩) m c3] 93 ∧ OwnQ .u32 41 n₀ w' (.slice (some ⟨g1, 0, none⟩) nl c1) L ∧ OwnQ .u32 41 n₀ w' (.slice (some ⟨g3, 0, none⟩) m c3) Q ∧ Places X (val32 V) (k + 1) m L Q 0

set_option maxRecDepth 100000 in
set_option maxHeartbeats 1000000 in
theorem work_any (n₀ D g1 g2 g3 nl c1 cv c3 m k X : Nat) (L V Q : List Nat) (w : World)
    (hD : HeldW w D #[.slice (some ⟨g1, 0, none⟩) nl c1, .slice (some ⟨g2, 0, none⟩) (k + 1) cv, .slice (some ⟨g3, 0, none⟩) m c3] 93) (hL : OwnQ .u32 41 n₀ w (.slice (some ⟨g1, 0, none⟩) nl c1) L) (hV : OwnQ .u32 41 n₀ w (.slice (some ⟨g2, 0, none⟩) (k + 1) cv) V) (hQ : OwnQ .u32 41 n₀ w (.slice (some ⟨g3, 0, none⟩) m c3) Q)
    (hne : D ≠ g1 ∧ D ≠ g3 ∧ g2 ≠ g1 ∧ g2 ≠ g3 ∧ g3 ≠ g1) (hVl : Lim V) (hhi : 4294967296 ≤ 2 * (V[k]?.getD 0)) (hp : Places X (val32 V) (k + 1) m L Q m) (hnl : nl = m + (k + 1)) (hb : nl ≤ 1000) (hn₀ : n₀ ≤ w.heap.size) :
    Calls Try.prog 77 #[.pointer (some ⟨D, 0, none⟩), .func (.func 78) #[.pointer (some ⟨D, 0, none⟩)] #[], .func (.func 79) #[.pointer (some ⟨D, 0, none⟩)] #[]] w fun e w' => (∃ v, e = .returned v) ∧ Worked n₀ D g1 g2 g3 nl c1 cv c3 m k X V w' ∧ Below n₀ w w' := by
  have hDlt := hD.lt
  have hg1 := World.ownsRow.lt hL g1 rfl
  have hg2 := World.ownsRow.lt hV g2 rfl
  have hg3 := World.ownsRow.lt hQ g3 rfl
  have HP := Lib.hid hp
  have HVL := Lib.hid hVl
  have HHI := Lib.hid hhi
  have HNE := Lib.hid hne
  have HNL := Lib.hid hnl
  have cD0 := hD.cell 0 rfl
  have cD1 := hD.cell 1 rfl
  have cD2 := hD.cell 2 rfl
  have HD := Lib.hid hD
  have HL := Lib.hid hL
  have HV := Lib.hid hV
  have HQ := Lib.hid hQ
  have hm : m ≤ 1000 := by omega
  clear hp hVl hhi hne hD hL hV hQ hnl
  refine (callsIn_wide (n := 3)).1 ?_
  refine callsIn_of_wp_marks Try.func77 rfl trivial ?_ rfl
  simp only [Try.ntmps77, List.size_toArray, List.length_cons, List.length_nil, Nat.reduceAdd, Nat.reduceSub, Array.replicate_succ, Array.replicate_zero, List.push_toArray, List.append_toArray, List.nil_append, List.cons_append]
  gi_wp2
  refine wpIn_wide.2 (wp_scope_straight ((wpIn_wide (n := 3)).1 ?_))
  gi_wp2
  refine wpIn_label ?_
  have bD := ((Boxed.new w 91 (.pointer (some ⟨D, 0, none⟩))).alloc (.cells #[.func (.func 78) #[.pointer (some ⟨D, 0, none⟩)] #[]] 95)).alloc (.cells #[.func (.func 79) #[.pointer (some ⟨D, 0, none⟩)] #[]] 96)
  have bG := (Boxed.new (w.alloc (.cells #[.pointer (some ⟨D, 0, none⟩)] 91)) 95 (.func (.func 78) #[.pointer (some ⟨D, 0, none⟩)] #[])).alloc (.cells #[.func (.func 79) #[.pointer (some ⟨D, 0, none⟩)] #[]] 96)
  have bT := Boxed.new ((w.alloc (.cells #[.pointer (some ⟨D, 0, none⟩)] 91)).alloc (.cells #[.func (.func 78) #[.pointer (some ⟨D, 0, none⟩)] #[]] 95)) 96 (.func (.func 79) #[.pointer (some ⟨D, 0, none⟩)] #[])
  simp only [World.size_alloc] at bG bT
  have hD0 := ((HD.out.alloc (.cells #[.pointer (some ⟨D, 0, none⟩)] 91)).alloc (.cells #[.func (.func 78) #[.pointer (some ⟨D, 0, none⟩)] #[]] 95)).alloc (.cells #[.func (.func 79) #[.pointer (some ⟨D, 0, none⟩)] #[]] 96)
  have hB0 := (((Below.refl w.heap.size w).alloc (Nat.le_refl _) (.cells #[.pointer (some ⟨D, 0, none⟩)] 91)).alloc (by simp) (.cells #[.func (.func 78) #[.pointer (some ⟨D, 0, none⟩)] #[]] 95)).alloc (by simp; omega) (.cells #[.func (.func 79) #[.pointer (some ⟨D, 0, none⟩)] #[]] 96)
  obtain ⟨W0, hW0⟩ : ∃ W0, ((w.alloc (.cells #[.pointer (some ⟨D, 0, none⟩)] 91)).alloc (.cells #[.func (.func 78) #[.pointer (some ⟨D, 0, none⟩)] #[]] 95)).alloc (.cells #[.func (.func 79) #[.pointer (some ⟨D, 0, none⟩)] #[]] 96) = W0 := ⟨_, rfl⟩
  have hs0 : W0.heap.size = w.heap.size + 3 := by rw [← hW0]; simp
  rw [hW0] at bD bG bT hD0 hB0 ⊢
  clear hW0
  have cB0 := bD.cell
  have cD2' := hD0.cell 2 rfl
  gi_wp2_with (refine ⟨trivial, ?_⟩; gi_at_call 87; refine (callsIn_wide.2 (falling_any _ _)).mono ?_; rintro e w' ⟨rfl, rfl⟩)
  have bN := Boxed.new W0 3 (.int .i64 (m : Int))
  have bD1 := bD.alloc (.cells #[.int .i64 (m : Int)] 3)
  have bG1 := bG.alloc (.cells #[.int .i64 (m : Int)] 3)
  have bT1 := bT.alloc (.cells #[.int .i64 (m : Int)] 3)
  have hD1 := hD0.alloc (.cells #[.int .i64 (m : Int)] 3)
  have hB1 := hB0.alloc (by omega) (.cells #[.int .i64 (m : Int)] 3)
  clear cB0 cD2' bD bG bT hD0 hB0
  obtain ⟨W1, hW1⟩ : ∃ W1, W0.alloc (.cells #[.int .i64 (m : Int)] 3) = W1 := ⟨_, rfl⟩
  have hs1 : W1.heap.size = w.heap.size + 4 := by rw [← hW1]; simp [hs0]
  rw [hW1] at bN bD1 bG1 bT1 hD1 hB1 ⊢
  rw [hs0] at bN
  clear hW1 hs0
  have h1 : 1 ≤ 3 := by decide
  have hn₀' := hn₀
  generalize hbs : w.heap.size = b0 at *
  refine wpIn_rangeFunc_ownF (F := Fence.wide) rfl h1 (gf := 89) (lb := #[.pointer (some ⟨b0 + 3, 0, none⟩)]) rfl trivial (enters_of Try.func89 (by kernel_rfl) rfl)
    (falls_stops (3 - 1) (by decide) (fun _ _ => True) (b0 + 3) m W1 bN hm) (fun _ _ => trivial) (fun _ _ _ _ _ _ _ _ => trivial) (Below.refl _ _) (fun _ => rfl)
    (fun pre W => WorkI n₀ D g1 g2 g3 b0 nl c1 cv c3 m k X V pre W ∧ Below n₀ w W) (fun _ _ _ => False)
    (OwnFrom.and (Own.from (workI_own _ _ _ _ _ _ _ _ _ _ _ _ _ _) _) (ownFrom_below (by omega) (by omega))) (fun _ _ _ _ _ hs _ _ => hs)
    ⟨⟨L, Q, hD1, HL.out.below (by rw [hbs]; exact hB1), HV.out.below (by rw [hbs]; exact hB1), HQ.out.below (by rw [hbs]; exact hB1), bD1, bG1, bT1, HP.out.llim, HP.out.qlim, fun _ => HP.out⟩, hB1.mono hn₀⟩ ?_ ?_ ?_ ?_ ?_
  rotate_left 1
  · intro lp x W K hK
    gi_wp2
    exact hK
  · rintro lp pre x W ⟨⟨L1, Q1, hD2, hL2, hV2, hQ2, bD2, bG2, bT2, hI⟩, hB⟩ hlt
    obtain ⟨t, hx⟩ := x
    obtain ⟨hI1, hI2, hI3⟩ := hI.out
    have hLl := hL2.cap.1
    have hQl := hQ2.cap.1
    have hVlen := hV2.cap.1
    have hnl := HNL.out
    have hW := window_of (L := L1) (t := t) (q := k + 1) (by omega)
    have hWl := hW.lim hI1
    have hGW : GuessW V ((L1.drop t).take (k + 1 + 1)) k := ⟨HVL.out, hWl.2.1, hVlen.symm, hW.wlen, HHI.out⟩
    have hG := Lib.hid (guess_any D t k nl c1 cv _ _ L1 V _ _ _ _ W (hD2.cell 0 rfl) (hD2.cell 1 rfl) (hD2.cell 2 rfl) hL2.reads hV2.reads hW hGW (by omega) (by omega))
    have HW := Lib.hid hW
    have HGW := Lib.hid hGW
    have HWL := Lib.hid hWl
    have HL2 := Lib.hid hL2
    have HV2 := Lib.hid hV2
    have HQ2 := Lib.hid hQ2
    have HD2 := Lib.hid hD2
    have HLs := Lib.hid (show L1.length = m + (k + 1) ∧ Q1.length = m by omega)
    have cG := bG2.cell
    have BD2 := Lib.hid bD2
    have BG2 := Lib.hid bG2
    have BT2 := Lib.hid bT2
    have HB := Lib.hid hB
    clear hLl hQl hVlen hnl hW hWl hGW hL2 hV2 hQ2 hD2 bD2 bG2 bT2 hB hI1 hI2 hI3
    generalize L1.take t = A at *
    generalize (L1.drop t).take (k + 1 + 1) = Wn at *
    generalize L1.drop (t + (k + 1 + 1)) = Z at *
    gi_wp2_with fail
    refine ⟨trivial, ?_⟩
    refine (CallsIn.inRound lp (callsIn_wide.2 hG.out)).mono ?_
    rintro e w2 ⟨d, nq, rfl, hdb, hgi, rfl⟩
    have HGI := Lib.hid hgi
    have hT := Lib.hid ((Touch.refl g1 W).drewN nq)
    clear hgi hG cG
    rcases Nat.eq_zero_or_pos d with hd | hd
    · subst hd
      gi_wp2
      have hz := Lib.hid (show (pre ++ [(⟨t, hx⟩ : Place m)]).map (·.1) = falls m (pre ++ [(⟨t, hx⟩ : Place m)]).length → Places X (val32 V) (k + 1) m L1 Q1 (m - (pre ++ [(⟨t, hx⟩ : Place m)]).length) from fun hf => by
        obtain ⟨hf1, hf2⟩ := falls_prefix hf
        replace hf2 : t = m - 1 - pre.length := hf2
        have hP := hI.out.2.2 hf1
        rw [show m - pre.length = t + 1 by omega] at hP
        have hg := HGI.out (hP.window HW.out)
        rw [show m - (pre ++ [(⟨t, hx⟩ : Place m)]).length = t by simp; omega]
        refine places_zero hP HW.out HGW.out.pos ?_ (Nat.le_zero.1 hg.1)
        have := valB_lt (b := 4294967296) (by decide) HGW.out.vlim
        rwa [HGW.out.vlen] at this)
      exact ⟨touch_keeps hT.out HL2.out, trivial, ⟨L1, Q1, HD2.out, HL2.out, HV2.out, HQ2.out, BD2.out, BG2.out, BT2.out, hI.out.1, hI.out.2.1, hz.out⟩, below_drewN HB.out nq⟩
    · have hdz : ((d : Int) == 0) = false := by simp; omega
      have hTk := Lib.hid (take_any D t k nl c1 cv n₀ g1 d _ L1 V A Wn Z _ (W.drewN nq).drew (HD2.out.cell 0 rfl) (HD2.out.cell 1 rfl) (HD2.out.cell 2 rfl) ((HL2.out.drewN nq).drewN 1) ((HV2.out.reads.drewN nq).drewN 1) HNE.out.1 (fun ad e _ => by cases e; exact HNE.out.2.2.1) HW.out HGW.out hdb (by have := HNL.out; omega) (by have := HNL.out; omega))
      have BD3 := Lib.hid (show Boxed (W.drewN nq).drew b0 _ _ from BD2.out)
      have BG3 := Lib.hid (show Boxed (W.drewN nq).drew (b0 + 1) _ _ from BG2.out)
      have BT3 := Lib.hid (show Boxed (W.drewN nq).drew (b0 + 1 + 1) _ _ from BT2.out)
      have HD3 := Lib.hid (show HeldW (W.drewN nq).drew D _ _ from HD2.out)
      have HV3 := Lib.hid ((HV2.out.drewN nq).drewN 1)
      have HQ3 := Lib.hid ((HQ2.out.drewN nq).drewN 1)
      have HL3 := Lib.hid ((HL2.out.drewN nq).drewN 1)
      have hT3 := Lib.hid (show Touch g1 W (W.drewN nq).drew from ((Touch.refl g1 W).drewN nq).drewN 1)
      generalize W.drewN nq = W2 at hTk BD3 BG3 BT3 HD3 HV3 HQ3 HL3 hT3 ⊢
      have q1 := BD3.out.cell
      have q2 := BT3.out.cell
      have q3 := HD3.out.cell 2 rfl
      have hltG := Lib.hid (show b0 + 1 + 1 ≠ g1 ∧ b0 ≠ g1 ∧ g3 ≠ b0 ∧ g3 ≠ b0 + 1 + 1 by omega)
      have hltG2 := Lib.hid (show b0 + 1 ≠ g1 ∧ b0 + 1 ≠ g3 by omega)
      have hg1n := hg1.1
      have HBS := Lib.hid hbs
      have HS1 := Lib.hid hs1
      have HN0 := Lib.hid hn₀
      clear hbs hs1 bN h1 hDlt hg1 hg2 hg3 cD0 cD1 cD2 hT
      gi_wp2
      refine wpIn_region_held_drew (S := fun W => W.cell? ⟨b0, 0, none⟩ = some (.pointer (some ⟨D, 0, none⟩)) ∧ W.cell? ⟨b0 + 1 + 1, 0, none⟩ = some (.func (.func 79) #[.pointer (some ⟨D, 0, none⟩)] #[]) ∧ W.cell? ⟨D, 2, none⟩ = some (.slice (some ⟨g3, 0, none⟩) m c3)) (by kernel_rfl) (plain_of (by kernel_rfl)) ?_ ⟨q1, q2, q3⟩ (fun hHeld => ?_)
      · rintro ⟨a, w, h⟩
        exact h
      refine' wpAnyH_take (i := 0) (oi := _) (v := _) rfl (by kernel_rfl) (by kernel_rfl) (by kernel_rfl) (fun _ _ _ h => h) (Or.inl ⟨?_, ?_⟩) (by assumption) ?_
      rotate_left
      all_goals (try simp only [List.getElem_toArray, List.getElem_cons_succ, List.getElem_cons_zero])
      · rfl
      · intro W hSw; (try dsimp only at hSw); go_simp; (try with_reducible rfl)
      try simp only [Act.put, List.setIfInBounds_toArray, List.set_cons_zero, List.set_cons_succ]
      refine' wpAnyH_take (i := 1) (oi := _) (v := _) rfl (by kernel_rfl) (by kernel_rfl) (by kernel_rfl) (fun _ _ _ h => h) (Or.inl ⟨?_, ?_⟩) (by assumption) ?_
      rotate_left
      all_goals (try simp only [List.getElem_toArray, List.getElem_cons_succ, List.getElem_cons_zero])
      · rfl
      · intro W hSw; (try dsimp only at hSw); go_simp; (try with_reducible rfl)
      try simp only [Act.put, List.setIfInBounds_toArray, List.set_cons_zero, List.set_cons_succ]
      refine' wpAnyH_take (i := 2) (oi := _) (v := _) rfl (by kernel_rfl) (by kernel_rfl) (by kernel_rfl) (fun _ _ _ h => h) (Or.inl ⟨?_, ?_⟩) (by assumption) ?_
      rotate_left
      all_goals (try simp only [List.getElem_toArray, List.getElem_cons_succ, List.getElem_cons_zero])
      · rfl
      · intro W hSw; (try dsimp only at hSw); go_simp; (try with_reducible rfl)
      try simp only [Act.put, List.setIfInBounds_toArray, List.set_cons_zero, List.set_cons_succ]
      refine' wpAnyH_take (i := 3) (oi := _) (v := _) rfl (by kernel_rfl) (by kernel_rfl) (by kernel_rfl) (fun _ _ _ h => h) (Or.inl ⟨?_, ?_⟩) (by assumption) ?_
      rotate_left
      all_goals (try simp only [List.getElem_toArray, List.getElem_cons_succ, List.getElem_cons_zero])
      · rfl
      · intro W hSw; (try dsimp only at hSw); go_simp; (try with_reducible rfl)
      try simp only [Act.put, List.setIfInBounds_toArray, List.set_cons_zero, List.set_cons_succ]
      refine' wpAnyH_take (i := 4) (oi := _) (v := _) rfl (by kernel_rfl) (by kernel_rfl) (by kernel_rfl) (fun _ _ _ h => h) (Or.inl ⟨?_, ?_⟩) (by assumption) ?_
      rotate_left
      all_goals (try simp only [List.getElem_toArray, List.getElem_cons_succ, List.getElem_cons_zero])
      · rfl
      · intro W hSw; (try dsimp only at hSw); go_simp; (try with_reducible rfl)
      try simp only [Act.put, List.setIfInBounds_toArray, List.set_cons_zero, List.set_cons_succ]
      refine' wpAnyH_take (i := 5) (oi := _) (v := _) rfl (by kernel_rfl) (by kernel_rfl) (by kernel_rfl) (fun _ _ _ h => h) (Or.inl ⟨?_, ?_⟩) (by assumption) ?_
      rotate_left
      all_goals (try simp only [List.getElem_toArray, List.getElem_cons_succ, List.getElem_cons_zero])
      · rfl
      · intro W hSw; (try dsimp only at hSw); go_simp; (try with_reducible rfl)
      try simp only [Act.put, List.setIfInBounds_toArray, List.set_cons_zero, List.set_cons_succ]
      refine' wpAnyH_take (i := 6) (oi := _) (v := _) rfl (by kernel_rfl) (by kernel_rfl) (by kernel_rfl) (fun _ _ _ h => h) (Or.inl ⟨?_, ?_⟩) (by assumption) ?_
      rotate_left
      all_goals (try simp only [List.getElem_toArray, List.getElem_cons_succ, List.getElem_cons_zero])
      · rfl
      · intro W hSw; (try dsimp only at hSw); go_simp; (try with_reducible rfl)
      try simp only [Act.put, List.setIfInBounds_toArray, List.set_cons_zero, List.set_cons_succ]
      refine' wpAnyH_take (i := 7) (oi := _) (v := _) rfl (by kernel_rfl) (by kernel_rfl) (by kernel_rfl) (fun _ _ _ h => h) (Or.inl ⟨?_, ?_⟩) (by assumption) ?_
      rotate_left
      all_goals (try simp only [List.getElem_toArray, List.getElem_cons_succ, List.getElem_cons_zero])
      · rfl
      · intro W hSw; (try dsimp only at hSw); go_simp; (try with_reducible rfl)
      try simp only [Act.put, List.setIfInBounds_toArray, List.set_cons_zero, List.set_cons_succ]
      refine wpAnyH_ready (rs := [8]) (by kernel_rfl) (by simp) ?_
      refine AllReadyH.cons (o := _) rfl (fun K hK => ?_) AllReadyH.nil
      try simp only [List.getElem_toArray, List.getElem_cons_succ, List.getElem_cons_zero]
      go_simp
      refine hTk.out.mono ?_
      rintro e w3 ⟨W', r, rfl, hr, hgood, ho, hl, hlim, htch⟩
      have HGD := Lib.hid hgood
      have HLN := Lib.hid hl
      have HLM := Lib.hid hlim
      have HTC := Lib.hid htch
      have HO3 := Lib.hid ho
      clear hgood hl hlim htch ho
      have HQ4 := Lib.hid (HQ3.out.touch HTC.out HNE.out.2.2.2.2)
      have q4 := (boxed_touch BD3.out HTC.out hltG.out.2.1).cell
      have q5 := (boxed_touch BT3.out HTC.out hltG.out.1).cell
      have q6 := (HD3.out.touch HTC.out HNE.out.1).cell 2 rfl
      have q7 := HQ4.out.cellAt HLs.out.2.symm t hx
      have q8 := HQ4.out.frozenAt HLs.out.2.symm t
      generalize Q1[t]?.getD 0 = z at q7
      go_wp2_with fail
      refine hK.out _ _ ⟨q4, q5, q6⟩ (fun hHeld => ?_)
      clear hK K
      try simp only [Act.put, List.setIfInBounds_toArray, List.set_cons_zero, List.set_cons_succ]
      refine wpAnyH_ready (rs := [9]) (by kernel_rfl) (by simp) ?_
      refine AllReadyH.cons (o := _) rfl (fun K hK => ?_) AllReadyH.nil
      try simp only [List.getElem_toArray, List.getElem_cons_succ, List.getElem_cons_zero]
      go_simp
      refine hK.out _ _ ⟨q4, q5, q6⟩ (fun hHeld => ?_)
      clear hK K
      try simp only [Act.put, List.setIfInBounds_toArray, List.set_cons_zero, List.set_cons_succ]
      refine wpAnyH_ready (rs := [10]) (by kernel_rfl) (by simp) ?_
      refine AllReadyH.cons (o := _) rfl (fun K hK => ?_) AllReadyH.nil
      try simp only [List.getElem_toArray, List.getElem_cons_succ, List.getElem_cons_zero]
      go_simp
      refine hK.out _ _ ⟨(World.cell?_setCell_far _ _ _ _ hltG.out.2.2.1).trans q4, (World.cell?_setCell_far _ _ _ _ hltG.out.2.2.2).trans q5, (World.cell?_setCell_far _ _ _ _ HNE.out.2.1.symm).trans q6⟩ (fun hHeld => ?_)
      clear hK K
      try simp only [Act.put, List.setIfInBounds_toArray, List.set_cons_zero, List.set_cons_succ]
      refine wpAnyH_done (by kernel_rfl) ?_ _
      have hS3 := (Touch.refl g3 w3).setCell t (.int .u32 (r : Int))
      have s1 := HQ4.out.stored HLs.out.2.symm t r _ rfl
      have hTW := hT3.out.trans HTC.out
      have hB3 : Below n₀ w w3 := HB.out.trans (hTW.below (by have := HB.out.size; have := HBS.out; omega) hg1n)
      refine ⟨(touch_keeps hTW HL2.out).trans (KeepsOthers.setCell _ _ _), trivial, ⟨A ++ (W' ++ Z), Q1.set t r, (HD3.out.touch HTC.out HNE.out.1).touch hS3 HNE.out.2.1, HO3.out.touch hS3 HNE.out.2.2.2.2.symm, (HV3.out.touch HTC.out HNE.out.2.2.1).touch hS3 HNE.out.2.2.2.1, s1.1, boxed_touch (boxed_touch BD3.out HTC.out hltG.out.2.1) hS3 hltG.out.2.2.1.symm, boxed_touch (boxed_touch BG3.out HTC.out hltG2.out.1) hS3 hltG2.out.2, boxed_touch (boxed_touch BT3.out HTC.out hltG.out.1) hS3 hltG.out.2.2.2.symm, ?_, mem_set hI.out.2.1 hr, fun hf => ?_⟩, s1.2 _ hB3⟩
      · intro y hy
        rcases List.mem_append.1 hy with hy | hy
        · exact HWL.out.1 y hy
        · rcases List.mem_append.1 hy with hy | hy
          · exact HLM.out y hy
          · exact HWL.out.2.2 y hy
      · obtain ⟨hf1, hf2⟩ := falls_prefix hf
        replace hf2 : t = m - 1 - pre.length := hf2
        have hP := hI.out.2.2 hf1
        rw [show m - pre.length = t + 1 by omega] at hP
        have hlw := hP.window HW.out
        have hgd := HGD.out hlw (HGI.out hlw)
        rw [show m - (pre ++ [(⟨t, hx⟩ : Place m)]).length = t by simp; omega, hgd.1]
        exact hP.step HW.out HLN.out HLM.out HGW.out.pos hgd.2
  · rintro D' xs W hD' hxs ⟨⟨L1, Q1, hD2, hL2, hV2, hQ2, bD2, bG2, bT2, hI⟩, hB⟩ hK
    have HI := Lib.hid (hI.out.2.2 (by
      have := congrArg List.length hxs
      rw [falls_length, List.length_map] at this
      rw [this]; exact hxs))
    have HXL := Lib.hid (show xs.length = m by
      have := congrArg List.length hxs
      rwa [falls_length, List.length_map] at this)
    have HD2 := Lib.hid hD2
    have HL2 := Lib.hid hL2
    have HQ2 := Lib.hid hQ2
    have HB := Lib.hid hB
    clear hI hD2 hL2 hQ2 hV2 hB hxs bD2 bG2 bT2
    gi_wp2
    rw [Exit.noGoto_normal]
    refine ⟨by simp, .inl ⟨_, _, rfl, run_takeDeferred hK, ?_⟩⟩
    have hg := grownBy_putObj' W D' (.deferred none)
    have hr : ∀ r, some D' = some r → ∃ o : Obj, W.heap[r]? = some o ∧ o.isCells = false := fun r e => by cases e; exact ⟨_, hK, rfl⟩
    refine ⟨_, results_none rfl _ _ _, ⟨_, rfl⟩, ⟨L1, Q1, HD2.out.keptCells hg hr, HL2.out.keptCells hg hr, HQ2.out.keptCells hg hr, ?_⟩, HB.out.trans (belowK_b (w := w) (by omega) W D' _ _ (by omega) hK rfl rfl)⟩
    have := HI.out
    rwa [HXL.out, Nat.sub_self] at this
  · rintro D' c pre W _ _ h _
    exact h.elim

end Go.Proofs.Ytebfoalcmnpghaa
