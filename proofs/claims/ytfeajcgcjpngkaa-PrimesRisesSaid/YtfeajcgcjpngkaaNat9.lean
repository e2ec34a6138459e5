/-
  THE WALK OF NAT's Cmp: a range over down.
-/
import Derived.Test.YtfeajcgcjpngkaaNat8
namespace Go.Proofs.Ytfeajcgcjpngkaa
open Go.RowKit Go.Shelf
attribute [local go_sem] Oper.semAt_some

theorem boxed_other {W : World} {B : Nat} {t : TypeId} {v : Value} (h : Boxed W B t v) (p : Addr) (u : Value) (hp : B ≠ p.block) : Boxed (W.setCell p u) B t v := (Below.heap_setCell W p u B hp).trans h
theorem Boxed.keptCells {W W' : World} {row : Option Nat} {B : Nat} {t : TypeId} {v : Value} (h : Boxed W B t v) (hg : W.grownBy W' row) (hr : ∀ r, row = some r → ∃ o : Obj, W.heap[r]? = some o ∧ o.isCells = false) : Boxed W' B t v :=
  Boxed.kept h hg fun e' => by obtain ⟨o, ho, hc⟩ := hr B e'.symm; rw [show W.heap[B]? = _ from h] at ho; cases ho; cases hc
theorem boxed_same {W W' : World} {B : Nat} {t t' : TypeId} {v v' : Value} (h : Boxed W B t v) (k : Boxed W' B t v) (g : Boxed W B t' v') : Boxed W' B t' v' := by
  have e : W'.heap[B]? = W.heap[B]? := Eq.trans k (Eq.symm h)
  exact e.trans g

set_option maxRecDepth 100000 in
set_option maxHeartbeats 2000000 in
theorem cmp_any (a a' : Option Addr) (nx cx ny cy : Nat) (lx ly : List Nat) (w : World) (hx : Reads .u32 w a nx cx lx) (hy : Reads .u32 w a' ny cy ly) (hLx : Lim lx) (hLy : Lim ly) :
    Calls Try.prog 27 #[.slice a nx cx, .slice a' ny cy] w fun e w' => e = .returned (.int .i64 (ordN (val32 lx) (val32 ly))) ∧ Below w.heap.size w w' := by
  have HX := Lib.hid hx
  have HY := Lib.hid hy
  clear hx hy
  refine (callsIn_wide (n := 3)).1 ?_
  refine callsIn_of_wp_marks Try.func27 rfl trivial ?_ rfl
  simp only [Try.ntmps27, List.size_toArray, List.length_cons, List.length_nil, Nat.reduceAdd, Nat.reduceSub, Array.replicate_succ, Array.replicate_zero, List.push_toArray, List.append_toArray, List.nil_append, List.cons_append]
  gi_wp2
  refine wpIn_wide.2 (wp_scope_straight ((wpIn_wide (n := 3)).1 ?_))
  gi_wp2
  refine wpIn_label ?_
  gi_wp2_with (refine ⟨trivial, ?_⟩; gi_at_call 51; refine (callsIn_wide.2 (down_any _ _ _ _ _ _ _)).mono ?_; rintro e w' ⟨rfl, rfl⟩)
  have bA := ((Boxed.new w 3 (.int .i64 0)).alloc (.cells #[.slice a nx cx] 37)).alloc (.cells #[.slice a' ny cy] 37)
  have bX := (Boxed.new (w.alloc (.cells #[.int .i64 0] 3)) 37 (.slice a nx cx)).alloc (.cells #[.slice a' ny cy] 37)
  have bY := Boxed.new ((w.alloc (.cells #[.int .i64 0] 3)).alloc (.cells #[.slice a nx cx] 37)) 37 (.slice a' ny cy)
  have hBW := (((Below.refl w.heap.size w).alloc (Nat.le_refl _) (.cells #[.int .i64 0] 3)).alloc (by simp only [World.size_alloc]; omega) (.cells #[.slice a nx cx] 37)).alloc (by simp only [World.size_alloc]; omega) (.cells #[.slice a' ny cy] 37)
  simp only [World.size_alloc] at bX bY
  obtain ⟨W0, hW0⟩ : ∃ W0, ((w.alloc (.cells #[.int .i64 0] 3)).alloc (.cells #[.slice a nx cx] 37)).alloc (.cells #[.slice a' ny cy] 37) = W0 := ⟨_, rfl⟩
  have hsz1 : W0.heap.size = w.heap.size + 3 := by rw [← hW0]; simp
  rw [hW0] at bA bX bY hBW ⊢
  clear hW0
  have h1 : 1 ≤ 3 := by decide
  obtain ⟨m, hm⟩ : ∃ m, m = max nx ny := ⟨_, rfl⟩
  refine wpIn_rangeFunc_ownF (F := Fence.wide) rfl h1 (gf := 65) (lb := #[.pointer (some ⟨w.heap.size + 1, 0, none⟩), .pointer (some ⟨w.heap.size + 1 + 1, 0, none⟩)]) rfl trivial (enters_of Try.func65 (by kernel_rfl) rfl)
    (down_stops (3 - 1) (by decide) w.heap.size (w.heap.size + 1) (w.heap.size + 1 + 1) a a' nx cx ny cy lx ly hLx hLy W0 bX bY (HX.out.below hBW) (HY.out.below hBW) HX.out.block HY.out.block (by omega) m hm) kpUp_t (kpUp_b (by omega)) (Below.refl _ _) (fun _ => rfl)
    (fun pre W => (Boxed W w.heap.size 3 (.int .i64 0) ∧ Boxed W (w.heap.size + 1) 37 (.slice a nx cx) ∧ Boxed W (w.heap.size + 1 + 1) 37 (.slice a' ny cy) ∧ Hid (∀ p ∈ pre, p.1.1 = p.1.2)) ∧ Below w.heap.size w W)
    (fun c pre W => (c = .exit 0 ∧ ∃ r : Int, Boxed W w.heap.size 3 (.int .i64 r) ∧ Hid (Broke pre r)) ∧ Below w.heap.size w W)
    (OwnFrom.and (fun s X Y row hs hg hr => ⟨Boxed.keptCells hs.1 hg (fun r e => (hr r e).2), Boxed.keptCells hs.2.1 hg (fun r e => (hr r e).2), Boxed.keptCells hs.2.2.1 hg (fun r e => (hr r e).2), hs.2.2.2⟩) (ownFrom_below (Nat.le_refl _) (by omega)))
    (fun c => OwnFrom.and (fun s X Y row hs hg hr => ⟨hs.1, hs.2.elim fun r hr2 => ⟨r, Boxed.keptCells hr2.1 hg (fun r e => (hr r e).2), hr2.2⟩⟩) (ownFrom_below (Nat.le_refl _) (by omega)))
    ⟨⟨bA, bX, bY, fun _ h => by cases h⟩, hBW⟩
    (fun x => { tmps := #[.slice a nx cx, .slice a' ny cy, undef, undef, .int .i64 0, .pointer (some ⟨w.heap.size, 0, none⟩), .int .u32 (x.1.1 : Int), .int .u32 (x.1.2 : Int), .slice a nx cx, .slice a' ny cy, .func (.func 65) #[] #[.pointer (some ⟨w.heap.size + 1, 0, none⟩), .pointer (some ⟨w.heap.size + 1 + 1, 0, none⟩)], .int .u32 (x.1.1 : Int), .int .u32 (x.1.2 : Int), undef, undef, undef, undef, undef, undef, undef, undef, undef], defers := [] }) ?assign ?body ?done ?stop
  case assign =>
    intro lp x W K hK
    gi_wp2
    exact hK
  case body =>
    rintro lp pre x W ⟨⟨bA, bX, bY, hok⟩, hB⟩ hlt
    have cA := bA.cell
    have fA := bA.frozen
    have BA := Lib.hid bA
    have BX := Lib.hid bX
    have BY := Lib.hid bY
    clear bA bX bY
    rcases Nat.lt_trichotomy x.1.1 x.1.2 with hc | hc | hc
    · have HC := Lib.hid hc
      gi_wp2
      exact ⟨KeepsOthers.setCell _ _ _, ⟨rfl, _, BA.out.set _, ⟨pre, x, rfl, hok.out, .inl ⟨HC.out, rfl⟩⟩⟩, hB.setCell (p := ⟨w.heap.size, 0, none⟩) (Nat.le_refl _) _⟩
    · have HC := Lib.hid hc
      have t1 : decide (x.1.1 < x.1.2) = false := by simp; omega
      have t2 : decide (x.1.2 < x.1.1) = false := by simp; omega
      clear hc
      gi_wp2
      exact ⟨KeepsOthers.refl _, ⟨Below.refl _ _, fun _ _ h => h, fun _ _ h => h⟩, ⟨BA.out, BX.out, BY.out, fun p hp => by
        rcases List.mem_append.1 hp with h | h
        · exact hok.out p h
        · obtain rfl := List.mem_singleton.1 h; exact HC.out⟩, hB⟩
    · have HC := Lib.hid hc
      have t1 : decide (x.1.1 < x.1.2) = false := by simp; omega
      gi_wp2
      exact ⟨KeepsOthers.setCell _ _ _, ⟨rfl, _, BA.out.set _, ⟨pre, x, rfl, hok.out, .inr ⟨HC.out, rfl⟩⟩⟩, hB.setCell (p := ⟨w.heap.size, 0, none⟩) (Nat.le_refl _) _⟩
  case done =>
    rintro D xs W hD rfl ⟨⟨bA, bX, bY, hok⟩, hB⟩ hK
    have cA := bA.cell
    have he := Lib.hid (show (0 : Int) = ordN (val32 lx) (val32 ly) from (ordN_eq (valB_ext _ _ _ fun i => down_eq (Nat.le_refl m) (by rw [HX.out.length]; omega) (by rw [HY.out.length]; omega) hok.out i (by omega))).symm)
    clear bA bX bY
    gi_wp2
    rw [Exit.noGoto_ret]
    refine ⟨by simp, .inl ⟨_, _, rfl, run_takeDeferred hK, ?_⟩⟩
    exact ⟨_, results_tmp rfl _ _ _, by rw [← he.out]; rfl, hB.trans (belowK_b (w := w) (Nat.le_refl _) W D _ _ (by omega) hK rfl rfl)⟩
  case stop =>
    rintro D c pre W hD ⟨k, hk, rfl⟩ ⟨⟨rfl, r, bA, hbr⟩, hB⟩ hK
    have cA := bA.cell
    have he := Lib.hid (broke_ord hk (by rw [HX.out.length]; omega) (by rw [HY.out.length]; omega) hbr.out)
    clear bA
    gi_wp2
    rw [Exit.noGoto_ret]
    refine ⟨by simp, .inl ⟨_, _, rfl, run_takeDeferred hK, ?_⟩⟩
    exact ⟨_, results_tmp rfl _ _ _, by rw [← he.out]; rfl, hB.trans (belowK_b (w := w) (Nat.le_refl _) W D _ _ (by omega) hK rfl rfl)⟩

end Go.Proofs.Ytfeajcgcjpngkaa
