/-
  HOUR: read.
-/
import Derived.BigQuiet
import Derived.Deep.RegionHeld
import Derived.OrdersHeld
import Derived.Test.YtholkbgkkfndhaaDoorHourM
import Derived.Test.YtholkbgkkfndhaaDoorHourF
namespace Go.Proofs.YtholkbgkkfndhaaDoor
open Go.RowKit Go.Shelf
attribute [local go_sem] Oper.semAt_some
set_option maxRecDepth 100000

theorem pu_small : ∀ (l : List UInt8) (acc : Nat), (acc + 1) * 10 ^ l.length ≤ 1000000000000000 → Lib.parseUint10 acc l ≠ .range ∧ ∀ u, Lib.parseUint10 acc l = .ok u → u < (acc + 1) * 10 ^ l.length
  | [], acc, _ => ⟨(fun h => by cases h), fun u h => by cases h; simp⟩
  | c :: r, acc, h => by
    rw [Lib.parseUint10]
    by_cases hc : 48 ≤ c.toNat ∧ c.toNat ≤ 57
    · have h1 : (acc + 1) * 10 * 10 ^ r.length ≤ 1000000000000000 := by
        rw [Nat.mul_assoc, Nat.mul_comm 10, ← Nat.pow_succ]; exact h
      have h3 : 0 < 10 ^ r.length := Nat.pow_pos (by decide)
      have h4 : (acc + 1) * 10 ≤ (acc + 1) * 10 * 10 ^ r.length := Nat.le_mul_of_pos_right _ h3
      have h2 : (acc * 10 + (c.toNat - 48) + 1) * 10 ^ r.length ≤ (acc + 1) * 10 * 10 ^ r.length := Nat.mul_le_mul_right _ (by omega)
      rw [if_pos hc, if_neg (by omega), if_neg (by omega)]
      obtain ⟨h5, h6⟩ := pu_small r _ (Nat.le_trans h2 h1)
      refine ⟨h5, fun u hu => ?_⟩
      have h7 : (acc + 1) * 10 ^ (c :: r).length = (acc + 1) * 10 * 10 ^ r.length := by
        rw [Nat.mul_assoc, Nat.mul_comm 10, ← Nat.pow_succ]; rfl
      rw [h7]
      exact Nat.lt_of_lt_of_le (h6 u hu) h2
    · rw [if_neg hc]; exact ⟨(fun h => by cases h), fun u h => by cases h⟩

theorem atoi_small (l : List UInt8) (h : l.length ≤ 4) : -9999 ≤ (atoiR l).1 ∧ (atoiR l).1 ≤ 9999 := by
  have key : ∀ m : List UInt8, m.length ≤ 4 → Lib.parseMag m ≠ .range ∧ ∀ u, Lib.parseMag m = .ok u → u ≤ 9999 := fun m hm => by
    unfold Lib.parseMag
    by_cases h0 : m = []
    · rw [if_pos h0]; exact ⟨(fun h => by cases h), fun u h => by cases h⟩
    · rw [if_neg h0]
      have hp : 10 ^ m.length ≤ 10 ^ 4 := Nat.pow_le_pow_right (by decide) hm
      obtain ⟨h1, h2⟩ := pu_small m 0 (by omega)
      exact ⟨h1, fun u hu => by have := h2 u hu; omega⟩
  cases l with
  | nil => decide
  | cons c r =>
    have hr : (if c.toNat = 43 ∨ c.toNat = 45 then r else c :: r).length ≤ 4 := by
      split
      · simp at h; omega
      · exact h
    obtain ⟨k1, k2⟩ := key _ hr
    unfold atoiR Lib.atoiAll
    rcases hp : Lib.parseMag (if c.toNat = 43 ∨ c.toNat = 45 then r else c :: r) with u | _ | _
    · have h2 := k2 u hp
      simp only [hp]
      by_cases hn : c.toNat = 45
      · rw [if_neg (by omega), if_neg (by omega), if_pos hn]
        simp only
        omega
      · rw [if_neg (by omega), if_neg (by omega), if_neg hn]
        simp only
        omega
    · simp only [hp]; decide
    · exact absurd hp k1

theorem seqF_small : ∀ (k size : Nat) (s : List UInt8), size ≤ 4 → ∀ x ∈ seqF k size s, -9999 ≤ x.1 ∧ x.1 ≤ 9999
  | 0, _, _, _, x, hx => by cases hx
  | k + 1, size, s, h, x, hx => by
    unfold seqF at hx
    split at hx
    · obtain rfl := List.mem_singleton.1 hx
      decide
    · rcases List.mem_cons.1 hx with rfl | hx
      · exact atoi_small _ (by rw [List.length_take]; omega)
      · exact seqF_small k 2 _ (by decide) x hx

theorem parts_small (s : List UInt8) : -9999 ≤ partsR s ∧ partsR s ≤ 9999 := by
  unfold partsR
  split
  · decide
  · refine atoi_small _ ?_
    rw [List.length_append, List.length_drop]
    simp only [List.length_cons, List.length_nil]
    omega

theorem list_six {α : Type} : ∀ (l : List α), l.length = 6 → ∃ a b c d e f, l = [a, b, c, d, e, f]
  | [a, b, c, d, e, f], _ => ⟨a, b, c, d, e, f, rfl⟩

theorem Libs.low {w : World} (h : Libs w) : 0 < w.heap.size ∧ 4 < w.heap.size ∧ 5 < w.heap.size := by
  obtain ⟨v, hv, _⟩ := h.syn
  obtain ⟨u, hu, _⟩ := h.rng
  exact ⟨h.tab.lt, World.block_lt_of_cell? w ⟨_, 0, none⟩ hv, World.block_lt_of_cell? w ⟨_, 0, none⟩ hu⟩

abbrev numV (pre : List (Int × Bool)) : List Value := pre.map fun x => .int .i64 x.1
/-- Between two fields. -/
def RdI (w : World) (A : Nat) (pre : List (Int × Bool)) (W : World) : Prop :=
  (∃ v, Boxed W A 76 v ∧ W.ownsRow w.heap.size 3 1 v pre.length (numV pre) ∧ ∀ g, v.ownBlock = some g → g = w.heap.size ∨ A + 4 ≤ g) ∧ Boxed W (A + 1) 4 (.bool true) ∧ (∀ x ∈ pre, x.2 = true) ∧ A + 4 ≤ W.heap.size ∧ Below w.heap.size w W
def RdX (w : World) (A : Nat) (c : Code) (pre : List (Int × Bool)) (W : World) : Prop :=
  c = .exit 0 ∧ Boxed W (A + 1) 4 (.bool false) ∧ (∃ x ∈ pre, x.2 = false) ∧ A + 4 ≤ W.heap.size ∧ Below w.heap.size w W

theorem boxed_st {w : World} {A k : Nat} {t : TypeId} {v : Value} {W W' : World} {row : Option Nat} (h : Boxed W k t v) (hk : k < A + 2) (hg : W.grownBy W' row) (hr : ∀ r, row = some r → r = A + 2 ∨ A + 4 ≤ r ∧ ∃ o : Obj, W.heap[r]? = some o ∧ o.isCells = false) : Boxed W' k t v :=
  h.kept hg fun e => by rcases hr k e.symm with h | h <;> omega

theorem RdI.st {w : World} {A : Nat} (hA : w.heap.size < A) {pre : List (Int × Bool)} {W W' : World} {row : Option Nat} (h : RdI w A pre W) (hg : W.grownBy W' row) (hr : ∀ r, row = some r → r = A + 2 ∨ A + 4 ≤ r ∧ ∃ o : Obj, W.heap[r]? = some o ∧ o.isCells = false) : RdI w A pre W' := by
  obtain ⟨⟨v, h1, h2, h3⟩, h4, h5, h6, h7⟩ := h
  refine ⟨⟨v, boxed_st (w := w) h1 (by omega) hg hr, World.ownsRow.kept h2 hg ?_, h3⟩, boxed_st (w := w) h4 (by omega) hg hr, h5, Nat.le_trans h6 hg.size, h7.grown hg h7.size fun r e => ?_⟩
  · rcases h2.2 with ⟨rfl, _⟩ | ⟨g, cap, cur, rfl, _, hgb, _⟩
    · exact .inl rfl
    · refine .inr fun e' => ?_
      have hb : (Value.slice (some ⟨g, 0, none⟩) pre.length cap).ownBlock = some g := by simp [Value.ownBlock]
      rcases hr g (by rw [← e', hb]) with h | ⟨h, o, ho, hc⟩
      · rcases h3 g hb with h | h <;> omega
      · rw [hgb] at ho
        cases ho
        cases hc
  · rcases hr r e with h | ⟨h, _⟩ <;> omega
theorem RdX.st {w : World} {A : Nat} (hA : w.heap.size < A) {c : Code} {pre : List (Int × Bool)} {W W' : World} {row : Option Nat} (h : RdX w A c pre W) (hg : W.grownBy W' row) (hr : ∀ r, row = some r → r = A + 2 ∨ A + 4 ≤ r ∧ ∃ o : Obj, W.heap[r]? = some o ∧ o.isCells = false) : RdX w A c pre W' := by
  obtain ⟨h1, h4, h5, h6, h7⟩ := h
  refine ⟨h1, boxed_st (w := w) h4 (by omega) hg hr, h5, Nat.le_trans h6 hg.size, h7.grown hg h7.size fun r e => ?_⟩
  rcases hr r e with h | ⟨h, _⟩ <;> omega

theorem wpIn_cut {F : Fence} {n : Nat} {P : Program} {c : Code} {Q : Exit → Act → World → Prop} {a : Act} {w : World} (R : World → Prop) (h : ∃ ac : Act, c.wpIn F n P (fun ex a' w' => ex = .normal ∧ a' = ac ∧ R w') a w ∧ ∀ w', R w' → Q .normal ac w') : c.wpIn F n P Q a w := by
  obtain ⟨ac, h, h2⟩ := h
  exact wpIn_mono h fun e a' w' ⟨h1, h3, h4⟩ => by subst h1; subst h3; exact h2 w' h4

theorem row_below {w w' : World} {B E : Nat} {v : Value} {n : Nat} {xs : List Value} (h : w.ownsRow B E 1 v n xs) (hb : Below w.heap.size w w') : w'.ownsRow B E 1 v n xs := by
  obtain ⟨h1, h2⟩ := h
  refine ⟨h1, ?_⟩
  rcases h2 with h2 | ⟨g, cap, cur, rfl, hB, hg, rest⟩
  · exact .inl h2
  · exact .inr ⟨g, cap, cur, rfl, hB, by rw [hb.block g (Array.getElem?_eq_some_iff.1 hg).1]; exact hg, rest⟩

theorem days_le (y m d : Int) : 0 ≤ (daysR y m d).1 ∧ (daysR y m d).1 ≤ 2932896 ∧ 0 ≤ (daysR y m d).2 ∧ (daysR y m d).2 ≤ 150 := by
  by_cases h : DateOk y m d
  · rw [daysR_yes h]
    obtain ⟨a, b, c, e, f, g⟩ := h
    have := longN_ge y m
    have := num_range y m d a b c e f (by omega)
    exact ⟨this.1, this.2, Int.le_refl _, (by decide : (0 : Int) ≤ 150)⟩
  · rw [daysR_no h]; decide

theorem read_bad {yd : Nat} {s : List UInt8} {x : Int × Bool} (h : x ∈ seqF 6 yd s) (h2 : x.2 = false) : readR yd s = (0, false) := by
  unfold readR
  rw [if_neg]
  intro h3
  have := List.all_eq_true.1 h3 x h
  rw [h2] at this
  cases this

set_option maxHeartbeats 800000 in
theorem read_any (yd : Nat) (h1 : 1 ≤ yd) (h2 : yd ≤ 4) (s : List UInt8) (hs : s.length ≤ 1000) (w : World) (hL : Libs w) :
    Calls Tryd.prog 28 #[.string ⟨s.toArray⟩, .int .i64 (yd : Int)] w fun e w' => e = .returned (.tuple #[.int .i64 (readR yd s).1, .bool (readR yd s).2]) ∧ Below w.heap.size w w' := by
  obtain ⟨i0, hi, hz0, hz1, hz2⟩ := info_parts infoI
  have HL := Lib.hid hL
  have HLW := Lib.hid hL.low
  clear hL
  refine (callsIn_wide (n := 3)).1 ?_
  refine callsIn_of_wp_marks Tryd.func28 rfl trivial ?_ rfl
  simp only [Tryd.ntmps28, List.size_toArray, List.length_cons, List.length_nil, Nat.reduceAdd, Nat.reduceSub, Array.replicate_succ, Array.replicate_zero, List.push_toArray, List.append_toArray, List.nil_append, List.cons_append]
  gi_wp2_with fail
  refine wpIn_wide.2 (wp_scope_straight ((wpIn_wide (n := 3)).1 ?_))
  gi_wp2_with (gi_at_make; refine wpListIn_make_own _ rfl _ _ 76 rfl w.heap.size 3 i0 (.int .i64 0) 1 Tryd.underlying76 hi hz0 hz1 _ _ _ 6 rfl rfl rfl (by rw [hz2]; omega) (by unfold maxLen; omega) (by simp) ?_; intro w1 hown hgrow; have HOW := Lib.hid hown; have HB1 := Lib.hid ((Below.refl w.heap.size w).grown hgrow (Nat.le_refl _) (fun _ h => by cases h)); clear hown hgrow)
  refine wpIn_label ?_
  gi_wp2_with fail
  refine ⟨trivial, ?_⟩
  refine (callsIn_wide.2 (fields_m _ s yd)).mono ?_
  rintro e w' ⟨rfl, rfl⟩
  gi_wp2_with fail
  have hA : w.heap.size < w1.heap.size := (World.ownsRow.lt HOW.out w.heap.size rfl).2
  generalize hAA : w1.heap.size = A at *
  have bA := ((Boxed.new w1 76 (.slice (some ⟨w.heap.size, 0, none⟩) 0 6)).alloc (.cells #[.bool true] 4)).alloc (.cells #[.string ⟨s.toArray⟩] 9) |>.alloc (.cells #[.int .i64 (yd : Int)] 3)
  have bB := ((Boxed.new (w1.alloc (.cells #[.slice (some ⟨w.heap.size, 0, none⟩) 0 6] 76)) 4 (.bool true)).alloc (.cells #[.string ⟨s.toArray⟩] 9)).alloc (.cells #[.int .i64 (yd : Int)] 3)
  have bC := (Boxed.new ((w1.alloc (.cells #[.slice (some ⟨w.heap.size, 0, none⟩) 0 6] 76)).alloc (.cells #[.bool true] 4)) 9 (.string ⟨s.toArray⟩)).alloc (.cells #[.int .i64 (yd : Int)] 3)
  have bD := Boxed.new (((w1.alloc (.cells #[.slice (some ⟨w.heap.size, 0, none⟩) 0 6] 76)).alloc (.cells #[.bool true] 4)).alloc (.cells #[.string ⟨s.toArray⟩] 9)) 3 (.int .i64 (yd : Int))
  have hO := World.ownsRow.alloc (World.ownsRow.alloc (World.ownsRow.alloc (World.ownsRow.alloc HOW.out (.cells #[.slice (some ⟨w.heap.size, 0, none⟩) 0 6] 76)) (.cells #[.bool true] 4)) (.cells #[.string ⟨s.toArray⟩] 9)) (.cells #[.int .i64 (yd : Int)] 3)
  have hBW := (((HB1.out.alloc HB1.out.size (.cells #[.slice (some ⟨w.heap.size, 0, none⟩) 0 6] 76)).alloc (by simp only [World.size_alloc]; omega) (.cells #[.bool true] 4)).alloc (by simp only [World.size_alloc]; omega) (.cells #[.string ⟨s.toArray⟩] 9)).alloc (by simp only [World.size_alloc]; omega) (.cells #[.int .i64 (yd : Int)] 3)
  simp only [World.size_alloc, hAA, Nat.add_assoc, Nat.reduceAdd] at bA bB bC bD ⊢
  obtain ⟨W0, hW0⟩ : ∃ W0, ((((w1.alloc (.cells #[.slice (some ⟨w.heap.size, 0, none⟩) 0 6] 76)).alloc (.cells #[.bool true] 4)).alloc (.cells #[.string ⟨s.toArray⟩] 9)).alloc (.cells #[.int .i64 (yd : Int)] 3)) = W0 := ⟨_, rfl⟩
  have hzW : W0.heap.size = A + 4 := by rw [← hW0]; simp only [World.size_alloc, hAA]
  rw [hW0] at bA bB bC bD hO hBW ⊢
  clear hW0 HOW HB1 hAA
  have hLL := HLW.out
  have hLb := HL.out.below hBW
  have HLS := Lib.hid (fields_come (3 - 1) (by decide) s yd h1 (by omega) hs w.heap.size (A + 3) (A + 2) W0 hLb hLL.1 hLL.2.1 hLL.2.2 bD bC (by omega) (by omega) hBW.size)
  clear hLb hLL
  refine wpIn_rangeW (F := Fence.wide) rfl (show 1 ≤ 3 by decide) (gf := 55) (lb := #[.pointer (some ⟨A + 3, 0, none⟩), .pointer (some ⟨A + 2, 0, none⟩)]) rfl trivial (enters_of Tryd.func55 (by kernel_rfl) rfl) HLS.out
    (fun k hk => .inr (.inr hk)) (fun k hk => by rcases hk with h | h | h <;> omega) (Below.refl _ _) (fun _ => rfl)
    (fun pre W => RdI w A pre W) (fun c pre W => RdX w A c pre W)
    (fun s X X' row h hg hr => h.st hA hg (fun r e => by rcases hr r e with h | ⟨h, h2⟩; exact .inl h; exact .inr ⟨by omega, h2⟩))
    (fun c s X X' row h hg hr => h.st hA hg (fun r e => by rcases hr r e with h | ⟨h, h2⟩; exact .inl h; exact .inr ⟨by omega, h2⟩))
    ⟨⟨_, bA, hO, fun g hg => .inl (by simpa [Value.ownBlock] using hg.symm)⟩, bB, (fun x hx => by cases hx), by omega, hBW⟩ ?_ ?_ ?_ ?_ ?_
  rotate_left 1
  · intro lp x W K hK
    gi_wp2
    exact hK
  · rintro lp pre x W hpl ⟨⟨v, bA, hown, hne⟩, bB, hall, hsz, hB⟩
    obtain ⟨xv, xb⟩ := x
    dsimp only [encF]
    obtain ⟨av, cv, rfl, -, -⟩ : ∃ (a : Option Addr) (c : Nat), v = .slice a pre.length c ∧ True ∧ True := by
      rcases hown.2 with ⟨rfl, h0⟩ | ⟨g, cap, cur, rfl, _⟩
      · exact ⟨none, 0, by rw [h0], trivial, trivial⟩
      · exact ⟨_, _, rfl, trivial, trivial⟩
    have cA := bA.cell
    have fA := bA.frozen
    have cB := bB.cell
    have fB := bB.frozen
    have BA := Lib.hid bA
    have BB := Lib.hid bB
    have HO := Lib.hid hown
    have HNE := Lib.hid hne
    have HB := Lib.hid hB
    have HALL := Lib.hid hall
    have hmx : pre.length < 6 := hpl
    clear bA bB hown hne hB hall
    cases xb with
    | false =>
      gi_wp2
      exact ⟨(KeepsOthers.setCell W ⟨A + 1, 0, none⟩ _).from W0.heap.size, rfl, BB.out.set _, ⟨(xv, false), by simp, rfl⟩, by rw [World.size_setCell]; exact hsz, HB.out.setCell (p := ⟨A + 1, 0, none⟩) (by show w.heap.size ≤ A + 1; omega) _⟩
    | true =>
      gi_wp2_with (gi_at_builtin; go_loud (refine wpListIn_append_own_at _ rfl _ _ 76 rfl w.heap.size 3 i0 (.int .i64 0) 1 8 Tryd.underlying76 hi hz0 hz1 hz2 rfl (by decide) _ _ _ rfl (World.ownsRow.alloc HO.out _) ⟨W.heap.size, 0, none⟩ 1 1 [.int .i64 xv] rfl rfl (cell_oneH _ _ _ _ (by simp)) (by simp [Value.oneCell']) (by unfold maxLen; omega) (by omega) (by have := HB.out.size; simp; omega) ?_); intro v' w1 hown' hgrow _ hblk; obtain ⟨g', cap', rfl⟩ := ownsRow_succ hown'; have hp := appendedV HO.out HB.out.size hgrow; have hneA : (Value.slice av pre.length cv).ownBlock ≠ some A := (fun e => by rcases HNE.out A e with h | h <;> omega); have bA1 := hp.2.2 A _ _ BA.out hneA; have cA1 := bA1.cell; have fA1 := bA1.frozen; have BA1 := Lib.hid bA1; have BB1 := Lib.hid (hp.2.2 (A + 1) _ _ BB.out (fun e => by rcases HNE.out (A + 1) e with h | h <;> omega)); have HP := Lib.hid hp; have HOW := Lib.hid hown'; have HBL := Lib.hid hblk; have HGR := Lib.hid hgrow; clear bA1 hp hown' hgrow hblk hneA)
      have hg : g' = w.heap.size ∨ A + 4 ≤ g' := by
        rcases HBL.out with e | e
        · exact HNE.out g' e.symm
        · simp [Value.ownBlock] at e
          omega
      have hO2 := ownsRow_setCell_other HOW.out (a := ⟨A, 0, none⟩) (fun e => by simp [Value.ownBlock] at e; omega) (.slice (some ⟨g', 0, none⟩) (pre.length + 1) cap')
      have hKF := (HP.out.1.trans (KeepsOthers.setCell w1 ⟨A, 0, none⟩ (.slice (some ⟨g', 0, none⟩) (pre.length + 1) cap'))).from W0.heap.size
      have hBB := (HP.out.2.1 _ HB.out).setCell (p := ⟨A, 0, none⟩) (by show w.heap.size ≤ A; omega) (.slice (some ⟨g', 0, none⟩) (pre.length + 1) cap')
      refine ⟨hKF, ?_, ⟨⟨_, BA1.out.set _, ?_, fun g e => by simp [Value.ownBlock] at e; omega⟩, BB1.out.other (by omega) _, ?_, ?_, hBB⟩⟩
      · refine (show KpR _ W w1 from ⟨Nat.le_trans (by simp) HGR.out.size, fun k hk => ?_⟩).trans ?_
        · have hkl : k < W.heap.size := by rcases hk with h | h | h <;> omega
          have hko : (Value.slice av pre.length cv).ownBlock ≠ some k := fun e => by
            have h9 := World.ownsRow.lt HO.out k e
            rcases HNE.out k e with h | h <;> rcases hk with h' | h' | h' <;> omega
          exact (HGR.out.block k (by simp; omega) (fun e => hko e.symm)).trans (Below.heap_alloc _ _ _ hkl)
        · exact KpR.grown (grownBy_setCell' w1 A _) (fun k hk => Nat.lt_of_lt_of_le (by rcases hk with h | h | h <;> omega) (Nat.le_trans hsz (HP.out.2.1 W (Below.refl _ _)).size)) (fun r e => by cases e; rintro (h | h | h) <;> omega)
      · rw [numV, List.map_append, List.length_append]
        exact hO2
      · intro y hy
        rcases List.mem_append.1 hy with h | h
        · exact HALL.out y h
        · obtain rfl := List.mem_singleton.1 h
          rfl
      · rw [World.size_setCell]
        exact Nat.le_trans hsz (HP.out.2.1 W (Below.refl _ _)).size
  · rintro D xs W hD rfl ⟨⟨v, bA, hown, hne⟩, bB, hall, hsz, hB⟩ hK
    have hl6 := seqF_long 6 yd s hall
    have hsm := seqF_small 6 yd s h2
    have hrd : readR yd s = timeV yd s ((seqF 6 yd s).map (·.1)) := by
      unfold readR
      rw [if_pos (List.all_eq_true.2 hall)]
    obtain ⟨⟨y, q1⟩, ⟨m, q2⟩, ⟨d, q3⟩, ⟨ho, q4⟩, ⟨mi, q5⟩, ⟨sc, q6⟩, hx6⟩ := list_six _ hl6.1
    rw [hx6] at hown hsm hrd
    have sy := hsm _ (List.mem_cons_self)
    have sm := hsm (m, q2) (by simp)
    have sd := hsm (d, q3) (by simp)
    have sh := hsm (ho, q4) (by simp)
    have smi := hsm (mi, q5) (by simp)
    have ss := hsm (sc, q6) (by simp)
    have hlen : yd + 10 ≤ s.length := hl6.2 (by decide)
    simp only [List.length_cons, List.length_nil, Nat.reduceAdd, numV, List.map_cons, List.map_nil] at hown hrd
    obtain ⟨g, cap, rfl⟩ := ownsRow_succ hown
    have cB := bB.cell
    have cA := bA.cell
    have z0 := World.ownsRow.cellAt hown 0 (by decide)
    have z1 := World.ownsRow.cellAt hown 1 (by decide)
    have z2 := World.ownsRow.cellAt hown 2 (by decide)
    have z3 := World.ownsRow.cellAt hown 3 (by decide)
    have z4 := World.ownsRow.cellAt hown 4 (by decide)
    have z5 := World.ownsRow.cellAt hown 5 (by decide)
    have BA := Lib.hid bA
    have HO := Lib.hid hown
    have HB := Lib.hid hB
    have HR := Lib.hid hrd
    have HK := Lib.hid hK
    have hcap : 6 ≤ cap := by
      rcases hown.2 with ⟨h, _⟩ | ⟨g, cap, cur, h, _, _, hc, _⟩
      · cases h
      · cases h; exact hc
    clear bA bB hown hne hB hall hl6 hsm hrd hx6 hK
    have hyr : ∃ Y : Int, yearR yd y = Y ∧ -20000 ≤ Y ∧ Y ≤ 20000 := ⟨_, rfl, by unfold yearR; split <;> (try split) <;> omega, by unfold yearR; split <;> (try split) <;> omega⟩
    obtain ⟨Y, hY, hY1, hY2⟩ := hyr
    rcases (show yd = 2 ∨ yd ≠ 2 by omega) with hyd | hyd
    · subst hyd
      have HY := Lib.hid hY
      clear hY
      rcases (show y < 50 ∨ ¬ y < 50 by omega) with h50 | h50
      · skip
        have hYY := HY.out
        unfold yearR at hYY
        rw [if_pos rfl, if_pos h50] at hYY
        gi_wp2_with fail
        have hbd := (Below.refl W.heap.size W).drew
        have BA := Lib.hid (show Boxed W.drew A 76 _ from (hbd.block A BA.out.lt).trans BA.out)
        have HO := Lib.hid (row_below HO.out hbd)
        have HB := Lib.hid (HB.out.trans (hbd.mono HB.out.size))
        have HK := Lib.hid ((hbd.block D (Array.getElem?_eq_some_iff.1 HK.out).1).trans HK.out)
        clear z0 z1 z2 z3 z4 z5 cA cB hbd
        have cA := BA.out.cell
        have z1 : W.drew.cell? ⟨g, 1, none⟩ = some (.int .i64 m) := World.ownsRow.cellAt HO.out 1 (by decide)
        have z2 : W.drew.cell? ⟨g, 2, none⟩ = some (.int .i64 d) := World.ownsRow.cellAt HO.out 2 (by decide)
        refine wpIn_cut (fun wc => Boxed wc A 76 (.slice (some ⟨g, 0, none⟩) 6 cap) ∧ wc.ownsRow w.heap.size 3 1 (.slice (some ⟨g, 0, none⟩) 6 cap) 6 [.int .i64 y, .int .i64 m, .int .i64 d, .int .i64 ho, .int .i64 mi, .int .i64 sc] ∧ Below w.heap.size w wc ∧ wc.heap[D]? = some (.deferred (some []))) ?_
        apply Exists.intro
        apply And.intro
        case left =>
          refine wpIn_wide.2 (wp_region_held_drew (S := fun X => X.cell? ⟨A, 0, none⟩ = some (.slice (some ⟨g, 0, none⟩) 6 cap) ∧ X.cell? ⟨g, 1, none⟩ = some (.int .i64 m) ∧ X.cell? ⟨g, 2, none⟩ = some (.int .i64 d)) (by kernel_rfl) ⟨cA, z1, z2⟩ (fun hHeld => ?_))
          refine' wpAnyH_take (i := 0) (oi := _) (v := _) rfl (by kernel_rfl) (by kernel_rfl) (by kernel_rfl) (fun _ _ _ h => (by cases h.1)) (Or.inl ⟨?_, ?_⟩) (by assumption) ?_
          rotate_left
          all_goals (try simp only [List.getElem_toArray, List.getElem_cons_succ, List.getElem_cons_zero])
          · rfl
          · intro W hSw; (try dsimp only at hSw); go_simp; (try with_reducible rfl)
          try simp only [Act.put, List.setIfInBounds_toArray, List.set_cons_zero, List.set_cons_succ]
          refine' wpAnyH_take (i := 1) (oi := _) (v := _) rfl (by kernel_rfl) (by kernel_rfl) (by kernel_rfl) (fun _ _ _ h => (by cases h.1)) (Or.inl ⟨?_, ?_⟩) (by assumption) ?_
          rotate_left
          all_goals (try simp only [List.getElem_toArray, List.getElem_cons_succ, List.getElem_cons_zero])
          · rfl
          · intro W hSw; (try dsimp only at hSw); go_simp; (try with_reducible rfl)
          try simp only [Act.put, List.setIfInBounds_toArray, List.set_cons_zero, List.set_cons_succ]
          refine' wpAnyH_take (i := 2) (oi := _) (v := _) rfl (by kernel_rfl) (by kernel_rfl) (by kernel_rfl) (fun _ _ _ h => (by cases h.1)) (Or.inl ⟨?_, ?_⟩) (by assumption) ?_
          rotate_left
          all_goals (try simp only [List.getElem_toArray, List.getElem_cons_succ, List.getElem_cons_zero])
          · rfl
          · intro W hSw; (try dsimp only at hSw); go_simp; (try with_reducible rfl)
          try simp only [Act.put, List.setIfInBounds_toArray, List.set_cons_zero, List.set_cons_succ]
          refine' wpAnyH_take (i := 3) (oi := _) (v := _) rfl (by kernel_rfl) (by kernel_rfl) (by kernel_rfl) (fun _ _ _ h => (by cases h.1)) (Or.inl ⟨?_, ?_⟩) (by assumption) ?_
          rotate_left
          all_goals (try simp only [List.getElem_toArray, List.getElem_cons_succ, List.getElem_cons_zero])
          · rfl
          · intro W hSw; (try dsimp only at hSw); go_simp; (try with_reducible rfl)
          try simp only [Act.put, List.setIfInBounds_toArray, List.set_cons_zero, List.set_cons_succ]
          refine' wpAnyH_take (i := 4) (oi := _) (v := _) rfl (by kernel_rfl) (by kernel_rfl) (by kernel_rfl) (fun _ _ _ h => (by cases h.1)) (Or.inl ⟨?_, ?_⟩) (by assumption) ?_
          rotate_left
          all_goals (try simp only [List.getElem_toArray, List.getElem_cons_succ, List.getElem_cons_zero])
          · rfl
          · intro W hSw; (try dsimp only at hSw); go_simp; (try with_reducible rfl)
          try simp only [Act.put, List.setIfInBounds_toArray, List.set_cons_zero, List.set_cons_succ]
          refine' wpAnyH_take (i := 5) (oi := _) (v := _) rfl (by kernel_rfl) (by kernel_rfl) (by kernel_rfl) (fun _ _ _ h => (by cases h.1)) (Or.inl ⟨?_, ?_⟩) (by assumption) ?_
          rotate_left
          all_goals (try simp only [List.getElem_toArray, List.getElem_cons_succ, List.getElem_cons_zero])
          · rfl
          · intro W hSw; (try dsimp only at hSw); go_simp; (try with_reducible rfl)
          try simp only [Act.put, List.setIfInBounds_toArray, List.set_cons_zero, List.set_cons_succ]
          refine' wpAnyH_take (i := 6) (oi := _) (v := _) rfl (by kernel_rfl) (by kernel_rfl) (by kernel_rfl) (fun _ _ _ h => (by cases h.1)) (Or.inl ⟨?_, ?_⟩) (by assumption) ?_
          rotate_left
          all_goals (try simp only [List.getElem_toArray, List.getElem_cons_succ, List.getElem_cons_zero])
          · rfl
          · intro W hSw; (try dsimp only at hSw); go_simp; (try with_reducible rfl)
          try simp only [Act.put, List.setIfInBounds_toArray, List.set_cons_zero, List.set_cons_succ]
          refine wpAnyH_ready (rs := [7]) (by kernel_rfl) (by simp) ?_
          refine AllReadyH.cons (o := _) rfl (fun K hK => ?_) AllReadyH.nil
          try simp only [List.getElem_toArray, List.getElem_cons_succ, List.getElem_cons_zero]
          go_simp
          refine (days_any Y m d _).mono ?_; rintro e V2 ⟨rfl, hb⟩; have BA := Lib.hid (show Boxed V2 A 76 _ from (hb.block A BA.out.lt).trans BA.out); have HO := Lib.hid (row_below HO.out hb); have HB := Lib.hid (HB.out.trans (hb.mono HB.out.size)); have HK := Lib.hid ((hb.block D (Array.getElem?_eq_some_iff.1 HK.out).1).trans HK.out); have cA := BA.out.cell; have z1 : V2.cell? ⟨g, 1, none⟩ = some (.int .i64 m) := World.ownsRow.cellAt HO.out 1 (by decide); have z2 : V2.cell? ⟨g, 2, none⟩ = some (.int .i64 d) := World.ownsRow.cellAt HO.out 2 (by decide); clear hb
          go_wp2_with fail
          refine hK.out _ _ ⟨cA, z1, z2⟩ (fun hHeld => ?_)
          clear hK K
          try simp only [Act.put, List.setIfInBounds_toArray, List.set_cons_zero, List.set_cons_succ]
          refine' wpAnyH_take (i := 8) (oi := _) (v := _) rfl (by kernel_rfl) (by kernel_rfl) (by kernel_rfl) (fun _ _ _ h => (by cases h.1)) (Or.inl ⟨?_, ?_⟩) (by assumption) ?_
          rotate_left
          all_goals (try simp only [List.getElem_toArray, List.getElem_cons_succ, List.getElem_cons_zero])
          · rfl
          · intro W hSw; (try dsimp only at hSw); go_simp; (try with_reducible rfl)
          try simp only [Act.put, List.setIfInBounds_toArray, List.set_cons_zero, List.set_cons_succ]
          refine' wpAnyH_take (i := 9) (oi := _) (v := _) rfl (by kernel_rfl) (by kernel_rfl) (by kernel_rfl) (fun _ _ _ h => (by cases h.1)) (Or.inl ⟨?_, ?_⟩) (by assumption) ?_
          rotate_left
          all_goals (try simp only [List.getElem_toArray, List.getElem_cons_succ, List.getElem_cons_zero])
          · rfl
          · intro W hSw; (try dsimp only at hSw); go_simp; (try with_reducible rfl)
          try simp only [Act.put, List.setIfInBounds_toArray, List.set_cons_zero, List.set_cons_succ]
          refine' wpAnyH_take (i := 10) (oi := _) (v := _) rfl (by kernel_rfl) (by kernel_rfl) (by kernel_rfl) (fun _ _ _ h => (by cases h.1)) (Or.inl ⟨?_, ?_⟩) (by assumption) ?_
          rotate_left
          all_goals (try simp only [List.getElem_toArray, List.getElem_cons_succ, List.getElem_cons_zero])
          · rfl
          · intro W hSw; (try dsimp only at hSw); go_simp; (try with_reducible rfl)
          try simp only [Act.put, List.setIfInBounds_toArray, List.set_cons_zero, List.set_cons_succ]
          refine' wpAnyH_take (i := 11) (oi := _) (v := _) rfl (by kernel_rfl) (by kernel_rfl) (by kernel_rfl) (fun _ _ _ h => (by cases h.1)) (Or.inl ⟨?_, ?_⟩) (by assumption) ?_
          rotate_left
          all_goals (try simp only [List.getElem_toArray, List.getElem_cons_succ, List.getElem_cons_zero])
          · rfl
          · intro W hSw; (try dsimp only at hSw); go_simp; (try with_reducible rfl)
          try simp only [Act.put, List.setIfInBounds_toArray, List.set_cons_zero, List.set_cons_succ]
          refine' wpAnyH_take (i := 12) (oi := _) (v := _) rfl (by kernel_rfl) (by kernel_rfl) (by kernel_rfl) (fun _ _ _ h => (by cases h.1)) (Or.inl ⟨?_, ?_⟩) (by assumption) ?_
          rotate_left
          all_goals (try simp only [List.getElem_toArray, List.getElem_cons_succ, List.getElem_cons_zero])
          · rfl
          · intro W hSw; (try dsimp only at hSw); go_simp; (try with_reducible rfl)
          try simp only [Act.put, List.setIfInBounds_toArray, List.set_cons_zero, List.set_cons_succ]
          refine wpAnyH_done (by kernel_rfl) ?_ _
          exact ⟨rfl, rfl, BA.out, HO.out, HB.out, HK.out⟩
        case right =>
          rintro V2 ⟨hbA, hO, hBB, h1⟩
          have cA := hbA.cell
          have z3 := World.ownsRow.cellAt hO 3 (by decide)
          have z4 := World.ownsRow.cellAt hO 4 (by decide)
          have z5 := World.ownsRow.cellAt hO 5 (by decide)
          have hdr := days_le Y m d
          have HDY := Lib.hid (show readR 2 s = ((daysR Y m d).1 * 86400000 + ho * 3600000 + mi * 60000 + sc * 1000 + partsR (s.drop (2 + 10)), decide ((daysR Y m d).2 = 0)) by rw [HR.out, timeV, HY.out])
          have HB := Lib.hid hBB
          have HK := Lib.hid h1
          clear HR hbA hO hBB h1 BA HO z1 z2
          generalize (daysR Y m d).1 = dn at *
          generalize (daysR Y m d).2 = de at *
          have z3 : V2.cell? ⟨g, 3, none⟩ = some (.int .i64 ho) := z3
          have z4 : V2.cell? ⟨g, 4, none⟩ = some (.int .i64 mi) := z4
          have z5 : V2.cell? ⟨g, 5, none⟩ = some (.int .i64 sc) := z5
          gi_wp2_with fail
          refine wpIn_cut (fun wc => ∃ nq, wc = V2.drewN nq) ?_
          apply Exists.intro
          apply And.intro
          case left =>
            refine wpIn_wide.2 ?_
            go_big_quiet (fail)
            exact ⟨rfl, rfl, nq, rfl⟩
          case right =>
            rintro _ ⟨nq, rfl⟩
            have hdr3 : Below V2.heap.size V2 (V2.drewN nq) := ⟨rfl, rfl, rfl, Nat.le_refl _, fun _ _ => rfl⟩
            have HB := Lib.hid (HB.out.trans (hdr3.mono HB.out.size))
            have HK := Lib.hid ((hdr3.block D (Array.getElem?_eq_some_iff.1 HK.out).1).trans HK.out)
            have hps := parts_small (s.drop (2 + 10))
            have hss : (⟨s.toArray⟩ : ByteArray).size = s.length := by show s.toArray.size = _; rw [List.size_toArray]
            clear hdr3 z3 z4 z5 cA
            generalize V2.drewN nq = V3 at *
            gi_wp2_with fail
            refine ⟨trivial, ?_⟩
            rw [str_from]
            refine (callsIn_wide.2 (parts_any (s.drop (2 + 10)) (by rw [List.length_drop]; omega) _ (HL.out.below HB.out))).mono ?_
            rintro e V4 ⟨rfl, hb⟩
            have HB := Lib.hid (HB.out.trans (hb.mono HB.out.size))
            have hK := (hb.block D (Array.getElem?_eq_some_iff.1 HK.out).1).trans HK.out
            clear hb
            generalize partsR (s.drop (2 + 10)) = pz at *
            gi_wp2
            rw [Exit.noGoto_ret]
            refine ⟨by simp, .inl ⟨_, _, rfl, run_takeDeferred hK, ?_⟩⟩
            exact ⟨_, results_tmp2 rfl _ _ _, by rw [HDY.out]; rfl, HB.out.trans (belowK_b (w := w) (Nat.le_refl _) V4 D _ _ (by omega) hK rfl rfl)⟩
      · skip
        have hYY := HY.out
        unfold yearR at hYY
        rw [if_pos rfl, if_neg h50] at hYY
        gi_wp2_with fail
        have hbd := (Below.refl W.heap.size W).drew
        have BA := Lib.hid (show Boxed W.drew A 76 _ from (hbd.block A BA.out.lt).trans BA.out)
        have HO := Lib.hid (row_below HO.out hbd)
        have HB := Lib.hid (HB.out.trans (hbd.mono HB.out.size))
        have HK := Lib.hid ((hbd.block D (Array.getElem?_eq_some_iff.1 HK.out).1).trans HK.out)
        clear z0 z1 z2 z3 z4 z5 cA cB hbd
        have cA := BA.out.cell
        have z1 : W.drew.cell? ⟨g, 1, none⟩ = some (.int .i64 m) := World.ownsRow.cellAt HO.out 1 (by decide)
        have z2 : W.drew.cell? ⟨g, 2, none⟩ = some (.int .i64 d) := World.ownsRow.cellAt HO.out 2 (by decide)
        refine wpIn_cut (fun wc => Boxed wc A 76 (.slice (some ⟨g, 0, none⟩) 6 cap) ∧ wc.ownsRow w.heap.size 3 1 (.slice (some ⟨g, 0, none⟩) 6 cap) 6 [.int .i64 y, .int .i64 m, .int .i64 d, .int .i64 ho, .int .i64 mi, .int .i64 sc] ∧ Below w.heap.size w wc ∧ wc.heap[D]? = some (.deferred (some []))) ?_
        apply Exists.intro
        apply And.intro
        case left =>
          refine wpIn_wide.2 (wp_region_held_drew (S := fun X => X.cell? ⟨A, 0, none⟩ = some (.slice (some ⟨g, 0, none⟩) 6 cap) ∧ X.cell? ⟨g, 1, none⟩ = some (.int .i64 m) ∧ X.cell? ⟨g, 2, none⟩ = some (.int .i64 d)) (by kernel_rfl) ⟨cA, z1, z2⟩ (fun hHeld => ?_))
          refine' wpAnyH_take (i := 0) (oi := _) (v := _) rfl (by kernel_rfl) (by kernel_rfl) (by kernel_rfl) (fun _ _ _ h => (by cases h.1)) (Or.inl ⟨?_, ?_⟩) (by assumption) ?_
          rotate_left
          all_goals (try simp only [List.getElem_toArray, List.getElem_cons_succ, List.getElem_cons_zero])
          · rfl
          · intro W hSw; (try dsimp only at hSw); go_simp; (try with_reducible rfl)
          try simp only [Act.put, List.setIfInBounds_toArray, List.set_cons_zero, List.set_cons_succ]
          refine' wpAnyH_take (i := 1) (oi := _) (v := _) rfl (by kernel_rfl) (by kernel_rfl) (by kernel_rfl) (fun _ _ _ h => (by cases h.1)) (Or.inl ⟨?_, ?_⟩) (by assumption) ?_
          rotate_left
          all_goals (try simp only [List.getElem_toArray, List.getElem_cons_succ, List.getElem_cons_zero])
          · rfl
          · intro W hSw; (try dsimp only at hSw); go_simp; (try with_reducible rfl)
          try simp only [Act.put, List.setIfInBounds_toArray, List.set_cons_zero, List.set_cons_succ]
          refine' wpAnyH_take (i := 2) (oi := _) (v := _) rfl (by kernel_rfl) (by kernel_rfl) (by kernel_rfl) (fun _ _ _ h => (by cases h.1)) (Or.inl ⟨?_, ?_⟩) (by assumption) ?_
          rotate_left
          all_goals (try simp only [List.getElem_toArray, List.getElem_cons_succ, List.getElem_cons_zero])
          · rfl
          · intro W hSw; (try dsimp only at hSw); go_simp; (try with_reducible rfl)
          try simp only [Act.put, List.setIfInBounds_toArray, List.set_cons_zero, List.set_cons_succ]
          refine' wpAnyH_take (i := 3) (oi := _) (v := _) rfl (by kernel_rfl) (by kernel_rfl) (by kernel_rfl) (fun _ _ _ h => (by cases h.1)) (Or.inl ⟨?_, ?_⟩) (by assumption) ?_
          rotate_left
          all_goals (try simp only [List.getElem_toArray, List.getElem_cons_succ, List.getElem_cons_zero])
          · rfl
          · intro W hSw; (try dsimp only at hSw); go_simp; (try with_reducible rfl)
          try simp only [Act.put, List.setIfInBounds_toArray, List.set_cons_zero, List.set_cons_succ]
          refine' wpAnyH_take (i := 4) (oi := _) (v := _) rfl (by kernel_rfl) (by kernel_rfl) (by kernel_rfl) (fun _ _ _ h => (by cases h.1)) (Or.inl ⟨?_, ?_⟩) (by assumption) ?_
          rotate_left
          all_goals (try simp only [List.getElem_toArray, List.getElem_cons_succ, List.getElem_cons_zero])
          · rfl
          · intro W hSw; (try dsimp only at hSw); go_simp; (try with_reducible rfl)
          try simp only [Act.put, List.setIfInBounds_toArray, List.set_cons_zero, List.set_cons_succ]
          refine' wpAnyH_take (i := 5) (oi := _) (v := _) rfl (by kernel_rfl) (by kernel_rfl) (by kernel_rfl) (fun _ _ _ h => (by cases h.1)) (Or.inl ⟨?_, ?_⟩) (by assumption) ?_
          rotate_left
          all_goals (try simp only [List.getElem_toArray, List.getElem_cons_succ, List.getElem_cons_zero])
          · rfl
          · intro W hSw; (try dsimp only at hSw); go_simp; (try with_reducible rfl)
          try simp only [Act.put, List.setIfInBounds_toArray, List.set_cons_zero, List.set_cons_succ]
          refine' wpAnyH_take (i := 6) (oi := _) (v := _) rfl (by kernel_rfl) (by kernel_rfl) (by kernel_rfl) (fun _ _ _ h => (by cases h.1)) (Or.inl ⟨?_, ?_⟩) (by assumption) ?_
          rotate_left
          all_goals (try simp only [List.getElem_toArray, List.getElem_cons_succ, List.getElem_cons_zero])
          · rfl
          · intro W hSw; (try dsimp only at hSw); go_simp; (try with_reducible rfl)
          try simp only [Act.put, List.setIfInBounds_toArray, List.set_cons_zero, List.set_cons_succ]
          refine wpAnyH_ready (rs := [7]) (by kernel_rfl) (by simp) ?_
          refine AllReadyH.cons (o := _) rfl (fun K hK => ?_) AllReadyH.nil
          try simp only [List.getElem_toArray, List.getElem_cons_succ, List.getElem_cons_zero]
          go_simp
          refine (days_any Y m d _).mono ?_; rintro e V2 ⟨rfl, hb⟩; have BA := Lib.hid (show Boxed V2 A 76 _ from (hb.block A BA.out.lt).trans BA.out); have HO := Lib.hid (row_below HO.out hb); have HB := Lib.hid (HB.out.trans (hb.mono HB.out.size)); have HK := Lib.hid ((hb.block D (Array.getElem?_eq_some_iff.1 HK.out).1).trans HK.out); have cA := BA.out.cell; have z1 : V2.cell? ⟨g, 1, none⟩ = some (.int .i64 m) := World.ownsRow.cellAt HO.out 1 (by decide); have z2 : V2.cell? ⟨g, 2, none⟩ = some (.int .i64 d) := World.ownsRow.cellAt HO.out 2 (by decide); clear hb
          go_wp2_with fail
          refine hK.out _ _ ⟨cA, z1, z2⟩ (fun hHeld => ?_)
          clear hK K
          try simp only [Act.put, List.setIfInBounds_toArray, List.set_cons_zero, List.set_cons_succ]
          refine' wpAnyH_take (i := 8) (oi := _) (v := _) rfl (by kernel_rfl) (by kernel_rfl) (by kernel_rfl) (fun _ _ _ h => (by cases h.1)) (Or.inl ⟨?_, ?_⟩) (by assumption) ?_
          rotate_left
          all_goals (try simp only [List.getElem_toArray, List.getElem_cons_succ, List.getElem_cons_zero])
          · rfl
          · intro W hSw; (try dsimp only at hSw); go_simp; (try with_reducible rfl)
          try simp only [Act.put, List.setIfInBounds_toArray, List.set_cons_zero, List.set_cons_succ]
          refine' wpAnyH_take (i := 9) (oi := _) (v := _) rfl (by kernel_rfl) (by kernel_rfl) (by kernel_rfl) (fun _ _ _ h => (by cases h.1)) (Or.inl ⟨?_, ?_⟩) (by assumption) ?_
          rotate_left
          all_goals (try simp only [List.getElem_toArray, List.getElem_cons_succ, List.getElem_cons_zero])
          · rfl
          · intro W hSw; (try dsimp only at hSw); go_simp; (try with_reducible rfl)
          try simp only [Act.put, List.setIfInBounds_toArray, List.set_cons_zero, List.set_cons_succ]
          refine' wpAnyH_take (i := 10) (oi := _) (v := _) rfl (by kernel_rfl) (by kernel_rfl) (by kernel_rfl) (fun _ _ _ h => (by cases h.1)) (Or.inl ⟨?_, ?_⟩) (by assumption) ?_
          rotate_left
          all_goals (try simp only [List.getElem_toArray, List.getElem_cons_succ, List.getElem_cons_zero])
          · rfl
          · intro W hSw; (try dsimp only at hSw); go_simp; (try with_reducible rfl)
          try simp only [Act.put, List.setIfInBounds_toArray, List.set_cons_zero, List.set_cons_succ]
          refine' wpAnyH_take (i := 11) (oi := _) (v := _) rfl (by kernel_rfl) (by kernel_rfl) (by kernel_rfl) (fun _ _ _ h => (by cases h.1)) (Or.inl ⟨?_, ?_⟩) (by assumption) ?_
          rotate_left
          all_goals (try simp only [List.getElem_toArray, List.getElem_cons_succ, List.getElem_cons_zero])
          · rfl
          · intro W hSw; (try dsimp only at hSw); go_simp; (try with_reducible rfl)
          try simp only [Act.put, List.setIfInBounds_toArray, List.set_cons_zero, List.set_cons_succ]
          refine' wpAnyH_take (i := 12) (oi := _) (v := _) rfl (by kernel_rfl) (by kernel_rfl) (by kernel_rfl) (fun _ _ _ h => (by cases h.1)) (Or.inl ⟨?_, ?_⟩) (by assumption) ?_
          rotate_left
          all_goals (try simp only [List.getElem_toArray, List.getElem_cons_succ, List.getElem_cons_zero])
          · rfl
          · intro W hSw; (try dsimp only at hSw); go_simp; (try with_reducible rfl)
          try simp only [Act.put, List.setIfInBounds_toArray, List.set_cons_zero, List.set_cons_succ]
          refine wpAnyH_done (by kernel_rfl) ?_ _
          exact ⟨rfl, rfl, BA.out, HO.out, HB.out, HK.out⟩
        case right =>
          rintro V2 ⟨hbA, hO, hBB, h2⟩
          have cA := hbA.cell
          have z3 := World.ownsRow.cellAt hO 3 (by decide)
          have z4 := World.ownsRow.cellAt hO 4 (by decide)
          have z5 := World.ownsRow.cellAt hO 5 (by decide)
          have hdr := days_le Y m d
          have HDY := Lib.hid (show readR 2 s = ((daysR Y m d).1 * 86400000 + ho * 3600000 + mi * 60000 + sc * 1000 + partsR (s.drop (2 + 10)), decide ((daysR Y m d).2 = 0)) by rw [HR.out, timeV, HY.out])
          have HB := Lib.hid hBB
          have HK := Lib.hid h2
          clear HR hbA hO hBB h2 BA HO z1 z2
          generalize (daysR Y m d).1 = dn at *
          generalize (daysR Y m d).2 = de at *
          have z3 : V2.cell? ⟨g, 3, none⟩ = some (.int .i64 ho) := z3
          have z4 : V2.cell? ⟨g, 4, none⟩ = some (.int .i64 mi) := z4
          have z5 : V2.cell? ⟨g, 5, none⟩ = some (.int .i64 sc) := z5
          gi_wp2_with fail
          refine wpIn_cut (fun wc => ∃ nq, wc = V2.drewN nq) ?_
          apply Exists.intro
          apply And.intro
          case left =>
            refine wpIn_wide.2 ?_
            go_big_quiet (fail)
            exact ⟨rfl, rfl, nq, rfl⟩
          case right =>
            rintro _ ⟨nq, rfl⟩
            have hdr3 : Below V2.heap.size V2 (V2.drewN nq) := ⟨rfl, rfl, rfl, Nat.le_refl _, fun _ _ => rfl⟩
            have HB := Lib.hid (HB.out.trans (hdr3.mono HB.out.size))
            have HK := Lib.hid ((hdr3.block D (Array.getElem?_eq_some_iff.1 HK.out).1).trans HK.out)
            have hps := parts_small (s.drop (2 + 10))
            have hss : (⟨s.toArray⟩ : ByteArray).size = s.length := by show s.toArray.size = _; rw [List.size_toArray]
            clear hdr3 z3 z4 z5 cA
            generalize V2.drewN nq = V3 at *
            gi_wp2_with fail
            refine ⟨trivial, ?_⟩
            rw [str_from]
            refine (callsIn_wide.2 (parts_any (s.drop (2 + 10)) (by rw [List.length_drop]; omega) _ (HL.out.below HB.out))).mono ?_
            rintro e V4 ⟨rfl, hb⟩
            have HB := Lib.hid (HB.out.trans (hb.mono HB.out.size))
            have hK := (hb.block D (Array.getElem?_eq_some_iff.1 HK.out).1).trans HK.out
            clear hb
            generalize partsR (s.drop (2 + 10)) = pz at *
            gi_wp2
            rw [Exit.noGoto_ret]
            refine ⟨by simp, .inl ⟨_, _, rfl, run_takeDeferred hK, ?_⟩⟩
            exact ⟨_, results_tmp2 rfl _ _ _, by rw [HDY.out]; rfl, HB.out.trans (belowK_b (w := w) (Nat.le_refl _) V4 D _ _ (by omega) hK rfl rfl)⟩
    · have hY2 := hY
      unfold yearR at hY2
      rw [if_neg hyd] at hY2
      subst hY2
      have HY := Lib.hid hY
      clear hY
      have hyb : ((yd : Int) == 2) = false := by simp; omega
      · skip
        gi_wp2_with fail
        have hbd := (Below.refl W.heap.size W).drew
        have BA := Lib.hid (show Boxed W.drew A 76 _ from (hbd.block A BA.out.lt).trans BA.out)
        have HO := Lib.hid (row_below HO.out hbd)
        have HB := Lib.hid (HB.out.trans (hbd.mono HB.out.size))
        have HK := Lib.hid ((hbd.block D (Array.getElem?_eq_some_iff.1 HK.out).1).trans HK.out)
        clear z0 z1 z2 z3 z4 z5 cA cB hbd
        have cA := BA.out.cell
        have z1 : W.drew.cell? ⟨g, 1, none⟩ = some (.int .i64 m) := World.ownsRow.cellAt HO.out 1 (by decide)
        have z2 : W.drew.cell? ⟨g, 2, none⟩ = some (.int .i64 d) := World.ownsRow.cellAt HO.out 2 (by decide)
        refine wpIn_cut (fun wc => Boxed wc A 76 (.slice (some ⟨g, 0, none⟩) 6 cap) ∧ wc.ownsRow w.heap.size 3 1 (.slice (some ⟨g, 0, none⟩) 6 cap) 6 [.int .i64 y, .int .i64 m, .int .i64 d, .int .i64 ho, .int .i64 mi, .int .i64 sc] ∧ Below w.heap.size w wc ∧ wc.heap[D]? = some (.deferred (some []))) ?_
        apply Exists.intro
        apply And.intro
        case left =>
          refine wpIn_wide.2 (wp_region_held_drew (S := fun X => X.cell? ⟨A, 0, none⟩ = some (.slice (some ⟨g, 0, none⟩) 6 cap) ∧ X.cell? ⟨g, 1, none⟩ = some (.int .i64 m) ∧ X.cell? ⟨g, 2, none⟩ = some (.int .i64 d)) (by kernel_rfl) ⟨cA, z1, z2⟩ (fun hHeld => ?_))
          refine' wpAnyH_take (i := 0) (oi := _) (v := _) rfl (by kernel_rfl) (by kernel_rfl) (by kernel_rfl) (fun _ _ _ h => (by cases h.1)) (Or.inl ⟨?_, ?_⟩) (by assumption) ?_
          rotate_left
          all_goals (try simp only [List.getElem_toArray, List.getElem_cons_succ, List.getElem_cons_zero])
          · rfl
          · intro W hSw; (try dsimp only at hSw); go_simp; (try with_reducible rfl)
          try simp only [Act.put, List.setIfInBounds_toArray, List.set_cons_zero, List.set_cons_succ]
          refine' wpAnyH_take (i := 1) (oi := _) (v := _) rfl (by kernel_rfl) (by kernel_rfl) (by kernel_rfl) (fun _ _ _ h => (by cases h.1)) (Or.inl ⟨?_, ?_⟩) (by assumption) ?_
          rotate_left
          all_goals (try simp only [List.getElem_toArray, List.getElem_cons_succ, List.getElem_cons_zero])
          · rfl
          · intro W hSw; (try dsimp only at hSw); go_simp; (try with_reducible rfl)
          try simp only [Act.put, List.setIfInBounds_toArray, List.set_cons_zero, List.set_cons_succ]
          refine' wpAnyH_take (i := 2) (oi := _) (v := _) rfl (by kernel_rfl) (by kernel_rfl) (by kernel_rfl) (fun _ _ _ h => (by cases h.1)) (Or.inl ⟨?_, ?_⟩) (by assumption) ?_
          rotate_left
          all_goals (try simp only [List.getElem_toArray, List.getElem_cons_succ, List.getElem_cons_zero])
          · rfl
          · intro W hSw; (try dsimp only at hSw); go_simp; (try with_reducible rfl)
          try simp only [Act.put, List.setIfInBounds_toArray, List.set_cons_zero, List.set_cons_succ]
          refine' wpAnyH_take (i := 3) (oi := _) (v := _) rfl (by kernel_rfl) (by kernel_rfl) (by kernel_rfl) (fun _ _ _ h => (by cases h.1)) (Or.inl ⟨?_, ?_⟩) (by assumption) ?_
          rotate_left
          all_goals (try simp only [List.getElem_toArray, List.getElem_cons_succ, List.getElem_cons_zero])
          · rfl
          · intro W hSw; (try dsimp only at hSw); go_simp; (try with_reducible rfl)
          try simp only [Act.put, List.setIfInBounds_toArray, List.set_cons_zero, List.set_cons_succ]
          refine' wpAnyH_take (i := 4) (oi := _) (v := _) rfl (by kernel_rfl) (by kernel_rfl) (by kernel_rfl) (fun _ _ _ h => (by cases h.1)) (Or.inl ⟨?_, ?_⟩) (by assumption) ?_
          rotate_left
          all_goals (try simp only [List.getElem_toArray, List.getElem_cons_succ, List.getElem_cons_zero])
          · rfl
          · intro W hSw; (try dsimp only at hSw); go_simp; (try with_reducible rfl)
          try simp only [Act.put, List.setIfInBounds_toArray, List.set_cons_zero, List.set_cons_succ]
          refine' wpAnyH_take (i := 5) (oi := _) (v := _) rfl (by kernel_rfl) (by kernel_rfl) (by kernel_rfl) (fun _ _ _ h => (by cases h.1)) (Or.inl ⟨?_, ?_⟩) (by assumption) ?_
          rotate_left
          all_goals (try simp only [List.getElem_toArray, List.getElem_cons_succ, List.getElem_cons_zero])
          · rfl
          · intro W hSw; (try dsimp only at hSw); go_simp; (try with_reducible rfl)
          try simp only [Act.put, List.setIfInBounds_toArray, List.set_cons_zero, List.set_cons_succ]
          refine' wpAnyH_take (i := 6) (oi := _) (v := _) rfl (by kernel_rfl) (by kernel_rfl) (by kernel_rfl) (fun _ _ _ h => (by cases h.1)) (Or.inl ⟨?_, ?_⟩) (by assumption) ?_
          rotate_left
          all_goals (try simp only [List.getElem_toArray, List.getElem_cons_succ, List.getElem_cons_zero])
          · rfl
          · intro W hSw; (try dsimp only at hSw); go_simp; (try with_reducible rfl)
          try simp only [Act.put, List.setIfInBounds_toArray, List.set_cons_zero, List.set_cons_succ]
          refine wpAnyH_ready (rs := [7]) (by kernel_rfl) (by simp) ?_
          refine AllReadyH.cons (o := _) rfl (fun K hK => ?_) AllReadyH.nil
          try simp only [List.getElem_toArray, List.getElem_cons_succ, List.getElem_cons_zero]
          go_simp
          refine (days_any y m d _).mono ?_; rintro e V2 ⟨rfl, hb⟩; have BA := Lib.hid (show Boxed V2 A 76 _ from (hb.block A BA.out.lt).trans BA.out); have HO := Lib.hid (row_below HO.out hb); have HB := Lib.hid (HB.out.trans (hb.mono HB.out.size)); have HK := Lib.hid ((hb.block D (Array.getElem?_eq_some_iff.1 HK.out).1).trans HK.out); have cA := BA.out.cell; have z1 : V2.cell? ⟨g, 1, none⟩ = some (.int .i64 m) := World.ownsRow.cellAt HO.out 1 (by decide); have z2 : V2.cell? ⟨g, 2, none⟩ = some (.int .i64 d) := World.ownsRow.cellAt HO.out 2 (by decide); clear hb
          go_wp2_with fail
          refine hK.out _ _ ⟨cA, z1, z2⟩ (fun hHeld => ?_)
          clear hK K
          try simp only [Act.put, List.setIfInBounds_toArray, List.set_cons_zero, List.set_cons_succ]
          refine' wpAnyH_take (i := 8) (oi := _) (v := _) rfl (by kernel_rfl) (by kernel_rfl) (by kernel_rfl) (fun _ _ _ h => (by cases h.1)) (Or.inl ⟨?_, ?_⟩) (by assumption) ?_
          rotate_left
          all_goals (try simp only [List.getElem_toArray, List.getElem_cons_succ, List.getElem_cons_zero])
          · rfl
          · intro W hSw; (try dsimp only at hSw); go_simp; (try with_reducible rfl)
          try simp only [Act.put, List.setIfInBounds_toArray, List.set_cons_zero, List.set_cons_succ]
          refine' wpAnyH_take (i := 9) (oi := _) (v := _) rfl (by kernel_rfl) (by kernel_rfl) (by kernel_rfl) (fun _ _ _ h => (by cases h.1)) (Or.inl ⟨?_, ?_⟩) (by assumption) ?_
          rotate_left
          all_goals (try simp only [List.getElem_toArray, List.getElem_cons_succ, List.getElem_cons_zero])
          · rfl
          · intro W hSw; (try dsimp only at hSw); go_simp; (try with_reducible rfl)
          try simp only [Act.put, List.setIfInBounds_toArray, List.set_cons_zero, List.set_cons_succ]
          refine' wpAnyH_take (i := 10) (oi := _) (v := _) rfl (by kernel_rfl) (by kernel_rfl) (by kernel_rfl) (fun _ _ _ h => (by cases h.1)) (Or.inl ⟨?_, ?_⟩) (by assumption) ?_
          rotate_left
          all_goals (try simp only [List.getElem_toArray, List.getElem_cons_succ, List.getElem_cons_zero])
          · rfl
          · intro W hSw; (try dsimp only at hSw); go_simp; (try with_reducible rfl)
          try simp only [Act.put, List.setIfInBounds_toArray, List.set_cons_zero, List.set_cons_succ]
          refine' wpAnyH_take (i := 11) (oi := _) (v := _) rfl (by kernel_rfl) (by kernel_rfl) (by kernel_rfl) (fun _ _ _ h => (by cases h.1)) (Or.inl ⟨?_, ?_⟩) (by assumption) ?_
          rotate_left
          all_goals (try simp only [List.getElem_toArray, List.getElem_cons_succ, List.getElem_cons_zero])
          · rfl
          · intro W hSw; (try dsimp only at hSw); go_simp; (try with_reducible rfl)
          try simp only [Act.put, List.setIfInBounds_toArray, List.set_cons_zero, List.set_cons_succ]
          refine' wpAnyH_take (i := 12) (oi := _) (v := _) rfl (by kernel_rfl) (by kernel_rfl) (by kernel_rfl) (fun _ _ _ h => (by cases h.1)) (Or.inl ⟨?_, ?_⟩) (by assumption) ?_
          rotate_left
          all_goals (try simp only [List.getElem_toArray, List.getElem_cons_succ, List.getElem_cons_zero])
          · rfl
          · intro W hSw; (try dsimp only at hSw); go_simp; (try with_reducible rfl)
          try simp only [Act.put, List.setIfInBounds_toArray, List.set_cons_zero, List.set_cons_succ]
          refine wpAnyH_done (by kernel_rfl) ?_ _
          exact ⟨rfl, rfl, BA.out, HO.out, HB.out, HK.out⟩
        case right =>
          rintro V2 ⟨hbA, hO, hBB, h3⟩
          have cA := hbA.cell
          have z3 := World.ownsRow.cellAt hO 3 (by decide)
          have z4 := World.ownsRow.cellAt hO 4 (by decide)
          have z5 := World.ownsRow.cellAt hO 5 (by decide)
          have hdr := days_le y m d
          have HDY := Lib.hid (show readR yd s = ((daysR y m d).1 * 86400000 + ho * 3600000 + mi * 60000 + sc * 1000 + partsR (s.drop (yd + 10)), decide ((daysR y m d).2 = 0)) by rw [HR.out, timeV, HY.out])
          have HB := Lib.hid hBB
          have HK := Lib.hid h3
          clear HR hbA hO hBB h3 BA HO z1 z2
          generalize (daysR y m d).1 = dn at *
          generalize (daysR y m d).2 = de at *
          have z3 : V2.cell? ⟨g, 3, none⟩ = some (.int .i64 ho) := z3
          have z4 : V2.cell? ⟨g, 4, none⟩ = some (.int .i64 mi) := z4
          have z5 : V2.cell? ⟨g, 5, none⟩ = some (.int .i64 sc) := z5
          gi_wp2_with fail
          refine wpIn_cut (fun wc => ∃ nq, wc = V2.drewN nq) ?_
          apply Exists.intro
          apply And.intro
          case left =>
            refine wpIn_wide.2 ?_
            go_big_quiet (fail)
            exact ⟨rfl, rfl, nq, rfl⟩
          case right =>
            rintro _ ⟨nq, rfl⟩
            have hdr3 : Below V2.heap.size V2 (V2.drewN nq) := ⟨rfl, rfl, rfl, Nat.le_refl _, fun _ _ => rfl⟩
            have HB := Lib.hid (HB.out.trans (hdr3.mono HB.out.size))
            have HK := Lib.hid ((hdr3.block D (Array.getElem?_eq_some_iff.1 HK.out).1).trans HK.out)
            have hps := parts_small (s.drop (yd + 10))
            have hss : (⟨s.toArray⟩ : ByteArray).size = s.length := by show s.toArray.size = _; rw [List.size_toArray]
            clear hdr3 z3 z4 z5 cA
            generalize V2.drewN nq = V3 at *
            gi_wp2_with fail
            refine ⟨trivial, ?_⟩
            rw [str_from]
            refine (callsIn_wide.2 (parts_any (s.drop (yd + 10)) (by rw [List.length_drop]; omega) _ (HL.out.below HB.out))).mono ?_
            rintro e V4 ⟨rfl, hb⟩
            have HB := Lib.hid (HB.out.trans (hb.mono HB.out.size))
            have hK := (hb.block D (Array.getElem?_eq_some_iff.1 HK.out).1).trans HK.out
            clear hb
            generalize partsR (s.drop (yd + 10)) = pz at *
            gi_wp2
            rw [Exit.noGoto_ret]
            refine ⟨by simp, .inl ⟨_, _, rfl, run_takeDeferred hK, ?_⟩⟩
            exact ⟨_, results_tmp2 rfl _ _ _, by rw [HDY.out]; rfl, HB.out.trans (belowK_b (w := w) (Nat.le_refl _) V4 D _ _ (by omega) hK rfl rfl)⟩
  · rintro D c pre W hD ⟨r, hr⟩ ⟨rfl, bB, ⟨x, hx, hx2⟩, hsz, hB⟩ hK
    have cB := bB.cell
    have HR := Lib.hid (read_bad (yd := yd) (s := s) (x := x) (by rw [← hr]; exact List.mem_append_left _ hx) hx2)
    have HB := Lib.hid hB
    clear bB hx hx2 hB hr
    gi_wp2
    rw [Exit.noGoto_ret]
    refine ⟨by simp, .inl ⟨_, _, rfl, run_takeDeferred hK, ?_⟩⟩
    exact ⟨_, results_tmp2 rfl _ _ _, by rw [HR.out]; rfl, HB.out.trans (belowK_b (w := w) (Nat.le_refl _) W D _ _ (by omega) hK rfl rfl)⟩

end Go.Proofs.YtholkbgkkfndhaaDoor
