/-
  Texts of ours, one behind the other: NatC NatD Nat9 NatA NatE NatF NatG NatH Refs Rsa1
-/
import Derived.Test.YtpefjkndfifceaaDoorPk1
import Derived.Test.YtpefjkndfifceaaDoorPk2
import Derived.Test.YtpefjkndfifceaaDoorPk7
import Derived.Maps.OwnIn
import Derived.Maps.AppendAt
import Derived.Test.YtpefjkndfifceaaDoorRows
import Derived.WalkKit
import Derived.Deep.QuietTactic
import Derived.BigQuiet
import Derived.BigRegion
import Derived.Outline
import Derived.Lib.Hide
import Derived.Lib.OwnKind
set_option linter.unusedVariables false
set_option linter.unusedSimpArgs false

namespace Go.Proofs.YtpefjkndfifceaaDoor
open Go.RowKit

theorem bit_eq (v d q r k : Nat) (hd : d = v / 4294967296 ^ q % 4294967296) (hr : r < 32) (hk : k = 32 * q + r) : (bits BinOp.and IntKind.u32 ((d : Int) / 2 ^ r) 1 == 1) = v.testBit k := by
  have hlt : d < 4294967296 := by rw [hd]; exact Nat.mod_lt _ (by decide)
  have e1 : ((d : Int) / 2 ^ r) = ((d / 2 ^ r : Nat) : Int) := by rw [Int.natCast_ediv]; simp
  have e2 : d / 2 ^ r < 4294967296 := Nat.lt_of_le_of_lt (Nat.div_le_self _ _) hlt
  rw [e1, show (1 : Int) = ((1 : Nat) : Int) from rfl, u32_and_nat _ 1 e2 (by decide), Nat.and_one_is_mod]
  have e3 : v.testBit k = d.testBit r := by
    rw [hd, show (4294967296 : Nat) ^ q = 2 ^ (32 * q) by rw [Nat.pow_mul], show (4294967296 : Nat) = 2 ^ 32 from rfl, Nat.testBit_mod_two_pow, Nat.testBit_div_two_pow, hk]
    simp [hr, Nat.add_comm]
  rw [e3, Nat.testBit_eq_decide_div_mod_eq]
  rw [Bool.eq_iff_iff]
  simp
  omega

set_option maxHeartbeats 400000 in
theorem bit_any (a : Option Addr) (len cap : Nat) (l : List Nat) (w : World) (h : Reads .u32 w a len cap l) (hL : Lim l) (i : Int) (hi : i ≤ 9223372036854775807) :
    Calls Tryd.prog 25 #[.slice a len cap, .int .i64 i] w fun e w' => e = .returned (.bool (decide (0 ≤ i) && (val32 l).testBit i.toNat)) ∧ w = w' := by
  by_cases h0 : i < 0
  · have e := Lib.hid (show (decide (0 ≤ i) && (val32 l).testBit i.toNat) = false by simp; omega)
    go_enter Tryd.func25, Tryd.ntmps25
    go_wp2
    go_ret
    exact ⟨by rw [e.out]; rfl, rfl⟩
  · obtain ⟨k, rfl⟩ := Int.eq_ofNat_of_zero_le (show 0 ≤ i by omega)
    have hq : (k : Int) / 32 = ((k / 32 : Nat) : Int) := by omega
    have hr : (k : Int) % 32 = ((k % 32 : Nat) : Int) := by omega
    have hr2 : k % 32 < 32 := by omega
    have hbe := fun d hd => bit_eq (val32 l) d (k / 32) (k % 32) k hd (by omega) (by omega)
    have hg := valB_get (b := 4294967296) (by decide) hL (k / 32)
    have HB := Lib.hid (hbe _ hg)
    clear hbe hg
    generalize k / 32 = q at *
    generalize k % 32 = r at *
    go_enter Tryd.func25, Tryd.ntmps25
    go_wp2_with fail
    refine (limb_any a len cap l _ h q q rfl).mono ?_
    rintro e w1 ⟨rfl, rfl⟩
    have hd := lim_get hL q
    generalize l[q]?.getD 0 = d at *
    go_wp2
    go_ret
    exact ⟨by have := HB.out; simp only [show decide (0 ≤ (k : Int)) = true from decide_eq_true (by omega), Bool.true_and, Int.toNat_natCast]; rw [← this]; rfl, rfl⟩

/-- 'make' with room beyond its length. -/
theorem wpList_make_lc {P : Program} (q : IntKind) (w : World) {ops : Array Oper} {rest : List Oper} {o : Oper} {a : Act} {Q : Exit → Act → World → Prop}
    (hg : o.guard = none) (l c : Operand) (t : TypeId) (hop : o.op = Op.makeSlice t l c)
    (base : Nat) (e : TypeId) (i : TypeInfo) (h1 : P.underlying t = some (.slice e)) (h2 : P.info? e = some i) (h3 : i.zero = some (.int q 0)) (h4 : i.size = 1)
    (kl kc : IntKind) (L C : Int) (m n : Nat) (hl : a.eval l = .int kl L) (hc : a.eval c = .int kc C) (hL : L = (m : Int)) (hC : C = (n : Int)) (hmn : m ≤ n) (b2 : i.bytes * n ≤ 281474976710656) (b3 : n ≤ maxLen) (b4 : base ≤ w.heap.size)
    (hK : ∀ w', OwnQ q e base w' (.slice (some ⟨w.heap.size, 0, none⟩) m n) (List.replicate m 0) → w.grownBy w' none → wpList P ops Q rest (a.put o.dst (.slice (some ⟨w.heap.size, 0, none⟩) m n)) w') :
    wpList P ops Q (o :: rest) a w := by
  refine wpList_plain hg fun K hK' => ?_
  subst hL
  subst hC
  have h63' : (n : Int) ≤ 9223372036854775807 := by
    have h := b3
    simp [maxLen] at h
    omega
  have hb' : (i.bytes : Int) * (n : Int) ≤ 281474976710656 := by
    have h : ((i.bytes * n : Nat) : Int) ≤ 281474976710656 := by omega
    rwa [Int.natCast_mul] at h
  have hr := run_make (P := P) w t e i (.int q 0) h1 h2 h3 kl kc m n (by omega) (by omega) hb' h63'
  simp only [Int.toNat_natCast] at hr
  have hown : OwnQ q e base (w.alloc (.cells (madeCells (Value.int q 0).cells (n * i.size)) e)) (.slice (some ⟨w.heap.size, 0, none⟩) n n) (List.replicate n 0) := by
    rw [h4]
    exact OwnQ.made (World.ownsRow_lit w _ n b4 b3 (size_madeCells _ _)) rfl
  have hup := hown.upto m hmn
  rw [List.take_replicate, Nat.min_eq_left hmn] at hup
  unfold Oper.wp
  simp [execOp, hop, hl, hc, hr, Result.andThen]
  exact hK' _ _ (hK _ hup (World.grownBy_alloc w _ none))

def shlR (v : Nat) (n : Int) : List Nat × Int := if n < 0 then ([], 2) else cutR32 (v * 2 ^ n.toNat)
def shrR (v : Nat) (n : Int) : List Nat × Int := if n < 0 then ([], 2) else if v < topN then (nat32 (v / 2 ^ n.toNat), 0) else ([], 20)

theorem topN_pos : 0 < topN := by unfold topN; exact Nat.pow_pos (by decide)
theorem topN_two : topN = 2 ^ 8192 := by
  have h : ∀ a b c d e : Nat, a = b ^ c → e = c * d → a ^ d = b ^ e := by
    rintro a b c d e rfl rfl
    exact (Nat.pow_mul b c d).symm
  exact h 4294967296 2 32 256 8192 (by decide) (by decide)

theorem shl_small {v n : Nat} (hv : 0 < v) : v * 2 ^ n < topN ↔ n + bitsN v ≤ 8192 := by
  rw [topN_two]
  have h := bitsN_top 0 v n hv (Nat.pow_pos (by decide))
  rw [Nat.zero_add, Nat.mul_comm] at h
  rw [← h, bitsN_le]

theorem shl_step (v low x r : Nat) (B : Nat) : v + B * ((low + x * 2 ^ r) % 4294967296) + B * 4294967296 * ((low + x * 2 ^ r) / 4294967296) = v + B * low + B * x * 2 ^ r := by
  have h := Nat.mod_add_div (low + x * 2 ^ r) 4294967296
  have h2 : B * ((low + x * 2 ^ r) % 4294967296 + 4294967296 * ((low + x * 2 ^ r) / 4294967296)) = B * (low + x * 2 ^ r) := by rw [h]
  rw [Nat.mul_add, Nat.mul_add] at h2
  rw [Nat.mul_assoc B x, Nat.mul_assoc B 4294967296]
  omega

theorem or64 (low x r : Nat) (hr : r < 32) (hl : low < 2 ^ r) (hx : x < 4294967296) : bits BinOp.or IntKind.u64 (low : Int) (IntKind.u64.wrap ((x : Int) * 2 ^ r)) = ((low + x * 2 ^ r : Nat) : Int) := by
  have h1 : 2 ^ r ≤ 2 ^ 31 := Nat.pow_le_pow_right (by decide) (by omega)
  have h2 : x * 2 ^ r ≤ 4294967295 * 2 ^ 31 := Nat.mul_le_mul (by omega) h1
  have e : ((x : Int) * 2 ^ r) = ((x * 2 ^ r : Nat) : Int) := by simp
  have e2 : IntKind.u64.wrap ((x * 2 ^ r : Nat) : Int) = ((x * 2 ^ r : Nat) : Int) := by
    generalize x * 2 ^ r = y at *
    simp only [IntKind.wrap, IntKind.bits, IntKind.signed]
    simp
    omega
  rw [e, e2, u64_or_nat _ _ (by omega) (by omega), shl_or low x r _ rfl hl, Nat.mul_comm]

end Go.Proofs.YtpefjkndfifceaaDoor

namespace Go.Proofs.YtpefjkndfifceaaDoor
open Go.RowKit

theorem below_drewN {B : Nat} {a w : World} (h : Below B a w) (n : Nat) : Below B a (w.drewN n) := h.trans ⟨rfl, rfl, rfl, Nat.le_refl _, fun _ _ => rfl⟩

theorem shr_digit (v q r t : Nat) (hr : r < 32) : ((v / 4294967296 ^ (q + t + 1) % 4294967296 * 4294967296 + v / 4294967296 ^ (q + t) % 4294967296) / 2 ^ r) % 4294967296 = v / 2 ^ (32 * q + r) / 4294967296 ^ t % 4294967296 := by
  have e1 : v / 4294967296 ^ (q + t + 1) = v / 4294967296 ^ (q + t) / 4294967296 := by rw [Nat.pow_succ, Nat.div_div_eq_div_mul]
  have e3 : v / 2 ^ (32 * q + r) / 4294967296 ^ t = v / 4294967296 ^ (q + t) / 2 ^ r := by
    rw [Nat.div_div_eq_div_mul, Nat.div_div_eq_div_mul, Nat.pow_add, Nat.pow_mul, Nat.pow_add]
    congr 1
    rw [show (2 : Nat) ^ 32 = 4294967296 from rfl]
    rw [Nat.mul_assoc, Nat.mul_assoc, Nat.mul_comm (2 ^ r)]
  rw [e1, e3]
  generalize v / 4294967296 ^ (q + t) = y
  have e2 : y / 4294967296 % 4294967296 * 4294967296 + y % 4294967296 = y % (2 ^ r * 2 ^ (64 - r)) := by
    rw [← Nat.pow_add, show r + (64 - r) = 64 from by omega, show (2 : Nat) ^ 64 = 4294967296 * 4294967296 from rfl, Nat.mod_mul]
    omega
  rw [e2, Nat.mod_mul_right_div_self]
  exact Nat.mod_mod_of_dvd _ ⟨2 ^ (32 - r), by rw [show (4294967296 : Nat) = 2 ^ 32 from rfl, ← Nat.pow_add]; congr 1; omega⟩

theorem shr_end (v q r M f : Nat) (hv : v < 4294967296 ^ M) (hf : f = min q M) : bareN (padN (nat32 (v / 2 ^ (32 * q + r))) (M - f)) = nat32 (v / 2 ^ (32 * q + r)) := by
  have hlt : v / 2 ^ (32 * q + r) < 4294967296 ^ (M - f) := by
    rw [Nat.div_lt_iff_lt_mul (Nat.pow_pos (by decide)), Nat.pow_add, Nat.pow_mul, show (2 : Nat) ^ 32 = 4294967296 from rfl, ← Nat.mul_assoc, ← Nat.pow_add]
    refine Nat.lt_of_lt_of_le hv ?_
    refine Nat.le_trans (Nat.pow_le_pow_right (by decide) (show M ≤ M - f + q by omega)) (Nat.le_mul_of_pos_right _ (Nat.pow_pos (by decide)))
  have hle := (natB_length (b := 4294967296) (by decide) (v / 2 ^ (32 * q + r)) (M - f)).2 hlt
  rw [bareN_nat (fun x hx => by
    obtain ⟨k, _, rfl⟩ := List.mem_map.1 hx
    exact lim_get (natB_digit (by decide) _) k)]
  rw [show val32 (padN (nat32 (v / 2 ^ (32 * q + r))) (M - f)) = val32 (nat32 (v / 2 ^ (32 * q + r))) from padN_val _ _ _ hle, show val32 (nat32 (v / 2 ^ (32 * q + r))) = _ from natB_val (by decide) _]

theorem or_lo (x y : Nat) (hx : x < 4294967296) (hy : y < 4294967296) : bits BinOp.or IntKind.u64 ((x : Int) * 4294967296) (y : Int) = ((x * 4294967296 + y : Nat) : Int) := by
  rw [or32 x y hx hy]; congr 1; omega

end Go.Proofs.YtpefjkndfifceaaDoor

namespace Go.Proofs.YtpefjkndfifceaaDoor
open Go.RowKit Go.Shelf
attribute [local go_sem] Oper.semAt_some

theorem boxed_other {W : World} {B : Nat} {t : TypeId} {v : Value} (h : Boxed W B t v) (p : Addr) (u : Value) (hp : B ≠ p.block) : Boxed (W.setCell p u) B t v := (Below.heap_setCell W p u B hp).trans h
theorem Boxed.keptCells {W W' : World} {row : Option Nat} {B : Nat} {t : TypeId} {v : Value} (h : Boxed W B t v) (hg : W.grownBy W' row) (hr : ∀ r, row = some r → ∃ o : Obj, W.heap[r]? = some o ∧ o.isCells = false) : Boxed W' B t v :=
  Boxed.kept h hg fun e' => by obtain ⟨o, ho, hc⟩ := hr B e'.symm; rw [show W.heap[B]? = _ from h] at ho; cases ho; cases hc
theorem boxed_same {W W' : World} {B : Nat} {t t' : TypeId} {v v' : Value} (h : Boxed W B t v) (k : Boxed W' B t v) (g : Boxed W B t' v') : Boxed W' B t' v' := by
  have e : W'.heap[B]? = W.heap[B]? := Eq.trans k (Eq.symm h)
  exact e.trans g

set_option maxRecDepth 100000 in
set_option maxHeartbeats 2000000 in
theorem cmp_any (a a' : Option Addr) (nx cx ny cy : Nat) (lx ly : List Nat) (w : World) (hx : Reads .u32 w a nx cx lx) (hy : Reads .u32 w a' ny cy ly) (hLx : Lim lx) (hLy : Lim ly) :
    Calls Tryd.prog 26 #[.slice a nx cx, .slice a' ny cy] w fun e w' => e = .returned (.int .i64 (ordN (val32 lx) (val32 ly))) ∧ Below w.heap.size w w' := by
  have HX := Lib.hid hx
  have HY := Lib.hid hy
  clear hx hy
  refine (callsIn_wide (n := 3)).1 ?_
  refine callsIn_of_wp_marks Tryd.func26 rfl trivial ?_ rfl
  simp only [Tryd.ntmps26, List.size_toArray, List.length_cons, List.length_nil, Nat.reduceAdd, Nat.reduceSub, Array.replicate_succ, Array.replicate_zero, List.push_toArray, List.append_toArray, List.nil_append, List.cons_append]
  gi_wp2
  refine wpIn_wide.2 (wp_scope_straight ((wpIn_wide (n := 3)).1 ?_))
  gi_wp2
  refine wpIn_label ?_
  gi_wp2_with (refine ⟨trivial, ?_⟩; gi_at_call 40; refine (callsIn_wide.2 (down_any _ _ _ _ _ _ _)).mono ?_; rintro e w' ⟨rfl, rfl⟩)
  have bA := ((Boxed.new w 3 (.int .i64 0)).alloc (.cells #[.slice a nx cx] 37)).alloc (.cells #[.slice a' ny cy] 37)
  have bX := (Boxed.new (w.alloc (.cells #[.int .i64 0] 3)) 37 (.slice a nx cx)).alloc (.cells #[.slice a' ny cy] 37)
  have bY := Boxed.new ((w.alloc (.cells #[.int .i64 0] 3)).alloc (.cells #[.slice a nx cx] 37)) 37 (.slice a' ny cy)
  have hBW := (((Below.refl w.heap.size w).alloc (Nat.le_refl _) (.cells #[.int .i64 0] 3)).alloc (by simp only [World.size_alloc]; omega) (.cells #[.slice a nx cx] 37)).alloc (by simp only [World.size_alloc]; omega) (.cells #[.slice a' ny cy] 37)
  simp only [World.size_alloc] at bX bY
  obtain ⟨W0, hW0⟩ : ∃ W0, ((w.alloc (.cells #[.int .i64 0] 3)).alloc (.cells #[.slice a nx cx] 37)).alloc (.cells #[.slice a' ny cy] 37) = W0 := ⟨_, rfl⟩
  have hsz1 : W0.heap.size = w.heap.size + 3 := by rw [← hW0]; simp
  rw [hW0] at bA bX bY hBW ⊢
  clear hW0
  have h1 : 1 ≤ 3 := by decide
  obtain ⟨m, hm⟩ : ∃ m, m = max nx ny := ⟨_, rfl⟩
  refine wpIn_rangeFunc_ownF (F := Fence.wide) rfl h1 (gf := 51) (lb := #[.pointer (some ⟨w.heap.size + 1, 0, none⟩), .pointer (some ⟨w.heap.size + 1 + 1, 0, none⟩)]) rfl trivial (enters_of Tryd.func51 (by kernel_rfl) rfl)
    (down_stops (3 - 1) (by decide) w.heap.size (w.heap.size + 1) (w.heap.size + 1 + 1) a a' nx cx ny cy lx ly hLx hLy W0 bX bY (HX.out.below hBW) (HY.out.below hBW) HX.out.block HY.out.block (by omega) m hm) kpUp_t (kpUp_b (by omega)) (Below.refl _ _) (fun _ => rfl)
    (fun pre W => (Boxed W w.heap.size 3 (.int .i64 0) ∧ Boxed W (w.heap.size + 1) 37 (.slice a nx cx) ∧ Boxed W (w.heap.size + 1 + 1) 37 (.slice a' ny cy) ∧ Hid (∀ p ∈ pre, p.1.1 = p.1.2)) ∧ Below w.heap.size w W)
    (fun c pre W => (c = .exit 0 ∧ ∃ r : Int, Boxed W w.heap.size 3 (.int .i64 r) ∧ Hid (Broke pre r)) ∧ Below w.heap.size w W)
    (OwnFrom.and (fun s X Y row hs hg hr => ⟨Boxed.keptCells hs.1 hg (fun r e => (hr r e).2), Boxed.keptCells hs.2.1 hg (fun r e => (hr r e).2), Boxed.keptCells hs.2.2.1 hg (fun r e => (hr r e).2), hs.2.2.2⟩) (ownFrom_below (Nat.le_refl _) (by omega)))
    (fun c => OwnFrom.and (fun s X Y row hs hg hr => ⟨hs.1, hs.2.elim fun r hr2 => ⟨r, Boxed.keptCells hr2.1 hg (fun r e => (hr r e).2), hr2.2⟩⟩) (ownFrom_below (Nat.le_refl _) (by omega)))
    ⟨⟨bA, bX, bY, fun _ h => by cases h⟩, hBW⟩
    (fun x => { tmps := #[.slice a nx cx, .slice a' ny cy, undef, undef, .int .i64 0, .pointer (some ⟨w.heap.size, 0, none⟩), .int .u32 (x.1.1 : Int), .int .u32 (x.1.2 : Int), .slice a nx cx, .slice a' ny cy, .func (.func 51) #[] #[.pointer (some ⟨w.heap.size + 1, 0, none⟩), .pointer (some ⟨w.heap.size + 1 + 1, 0, none⟩)], .int .u32 (x.1.1 : Int), .int .u32 (x.1.2 : Int), undef, undef, undef, undef, undef, undef, undef, undef, undef], defers := [] }) ?assign ?body ?done ?stop
  case assign =>
    intro lp x W K hK
    gi_wp2
    exact hK
  case body =>
    rintro lp pre x W ⟨⟨bA, bX, bY, hok⟩, hB⟩ hlt
    have cA := bA.cell
    have fA := bA.frozen
    have BA := Lib.hid bA
    have BX := Lib.hid bX
    have BY := Lib.hid bY
    clear bA bX bY
    rcases Nat.lt_trichotomy x.1.1 x.1.2 with hc | hc | hc
    · have HC := Lib.hid hc
      gi_wp2
      exact ⟨KeepsOthers.setCell _ _ _, ⟨rfl, _, BA.out.set _, ⟨pre, x, rfl, hok.out, .inl ⟨HC.out, rfl⟩⟩⟩, hB.setCell (p := ⟨w.heap.size, 0, none⟩) (Nat.le_refl _) _⟩
    · have HC := Lib.hid hc
      have t1 : decide (x.1.1 < x.1.2) = false := by simp; omega
      have t2 : decide (x.1.2 < x.1.1) = false := by simp; omega
      clear hc
      gi_wp2
      exact ⟨KeepsOthers.refl _, ⟨Below.refl _ _, fun _ _ h => h, fun _ _ h => h⟩, ⟨BA.out, BX.out, BY.out, fun p hp => by
        rcases List.mem_append.1 hp with h | h
        · exact hok.out p h
        · obtain rfl := List.mem_singleton.1 h; exact HC.out⟩, hB⟩
    · have HC := Lib.hid hc
      have t1 : decide (x.1.1 < x.1.2) = false := by simp; omega
      gi_wp2
      exact ⟨KeepsOthers.setCell _ _ _, ⟨rfl, _, BA.out.set _, ⟨pre, x, rfl, hok.out, .inr ⟨HC.out, rfl⟩⟩⟩, hB.setCell (p := ⟨w.heap.size, 0, none⟩) (Nat.le_refl _) _⟩
  case done =>
    rintro D xs W hD rfl ⟨⟨bA, bX, bY, hok⟩, hB⟩ hK
    have cA := bA.cell
    have he := Lib.hid (show (0 : Int) = ordN (val32 lx) (val32 ly) from (ordN_eq (valB_ext _ _ _ fun i => down_eq (Nat.le_refl m) (by rw [HX.out.length]; omega) (by rw [HY.out.length]; omega) hok.out i (by omega))).symm)
    clear bA bX bY
    gi_wp2
    rw [Exit.noGoto_ret]
    refine ⟨by simp, .inl ⟨_, _, rfl, run_takeDeferred hK, ?_⟩⟩
    exact ⟨_, results_tmp rfl _ _ _, by rw [← he.out]; rfl, hB.trans (belowK_b (w := w) (Nat.le_refl _) W D _ _ (by omega) hK rfl rfl)⟩
  case stop =>
    rintro D c pre W hD ⟨k, hk, rfl⟩ ⟨⟨rfl, r, bA, hbr⟩, hB⟩ hK
    have cA := bA.cell
    have he := Lib.hid (broke_ord hk (by rw [HX.out.length]; omega) (by rw [HY.out.length]; omega) hbr.out)
    clear bA
    gi_wp2
    rw [Exit.noGoto_ret]
    refine ⟨by simp, .inl ⟨_, _, rfl, run_takeDeferred hK, ?_⟩⟩
    exact ⟨_, results_tmp rfl _ _ _, by rw [← he.out]; rfl, hB.trans (belowK_b (w := w) (Nat.le_refl _) W D _ _ (by omega) hK rfl rfl)⟩

end Go.Proofs.YtpefjkndfifceaaDoor

namespace Go.Proofs.YtpefjkndfifceaaDoor
open Go.RowKit Go.Shelf
attribute [local go_sem] Oper.semAt_some

theorem OwnQ.keptCells {q : IntKind} {E B : Nat} {W W' : World} {row : Option Nat} {v : Value} {l : List Nat} (h : OwnQ q E B W v l) (hg : W.grownBy W' row) (hr : ∀ r, row = some r → ∃ o : Obj, W.heap[r]? = some o ∧ o.isCells = false) : OwnQ q E B W' v l := by
  refine World.ownsRow.kept h hg ?_
  rcases h.2 with ⟨rfl, _⟩ | ⟨g, cap, cur, rfl, _, hgb, _⟩
  · exact .inl rfl
  · refine .inr fun e' => ?_
    obtain ⟨o, ho, hc⟩ := hr g (by simpa [Value.ownBlock] using e'.symm)
    rw [hgb] at ho; cases ho; cases hc

theorem OwnQ.setOther {q : IntKind} {E B : Nat} {W : World} {v : Value} {l : List Nat} (h : OwnQ q E B W v l) {b : Nat} (hne : v.ownBlock ≠ some b) (u : Value) : OwnQ q E B (W.setCell ⟨b, 0, none⟩ u) v l := ownsRow_setCell_other (a := ⟨b, 0, none⟩) h hne u

theorem OwnQ.ownLt {q : IntKind} {E B : Nat} {W : World} {v : Value} {l : List Nat} (h : OwnQ q E B W v l) {b : Nat} (hb : W.heap.size ≤ b) : v.ownBlock ≠ some b := by
  rcases h.2 with ⟨rfl, _⟩ | ⟨g, cap, cur, rfl, _, hgb, _⟩
  · simp [Value.ownBlock]
  · have := (Array.getElem?_eq_some_iff.1 hgb).1
    simp only [Value.ownBlock, ne_eq, Option.some.injEq]
    omega

/-- What an append of one number, laid in a block of its own, leaves. -/
theorem appended {q : IntKind} {E n₀ : Nat} {W w1 : World} {v : Value} {l : List Nat} {tmp : Obj} (hrow : OwnQ q E n₀ W v l) (hn₀ : n₀ ≤ W.heap.size) (hgrow : (W.alloc tmp).grownBy w1 v.ownBlock) :
    KeepsOthers W w1 ∧ (∀ w0, Below n₀ w0 W → Below n₀ w0 w1) ∧ (∀ b t u, Boxed W b t u → v.ownBlock ≠ some b → Boxed w1 b t u) := by
  refine ⟨?_, ?_, fun b t u hb hne => (hb.alloc tmp).kept hgrow (fun e => hne e.symm)⟩
  · refine (KeepsOthers.alloc W tmp).trans (KeepsOthers.of_grownBy hgrow fun j o ej hj => ?_)
    rcases (World.ownsRow.alloc hrow tmp).2 with ⟨rfl, _⟩ | ⟨g, cap, cur, rfl, _, hgb, _⟩
    · simp [Value.ownBlock] at ej
    · obtain rfl : g = j := by simpa [Value.ownBlock] using ej
      rw [hgb] at hj; cases hj; rfl
  · intro w0 h0
    refine (h0.alloc hn₀ tmp).grown hgrow (by simp; omega) fun j ej => ?_
    rcases hrow.2 with ⟨rfl, _⟩ | ⟨g, cap, cur, rfl, hb, _, _⟩
    · simp [Value.ownBlock] at ej
    · obtain rfl : g = j := by simpa [Value.ownBlock] using ej
      exact hb

theorem cell_one_at (w : World) (x : Value) (t : TypeId) (n : Nat) (h : n = w.heap.size) : ∀ j u, [x][j]? = some u → (w.alloc (.cells #[x] t)).cell? ((⟨n, 0, none⟩ : Addr).add j) = some u := by subst h; exact cell_one_new w x t

/-- A sum's limbs so far, and what is carried. -/
def AddInv (pre : List Two) (O : List Nat) (c : Nat) : Prop := O.length = pre.length ∧ Lim O ∧ c ≤ 1 ∧ val32 O + 4294967296 ^ pre.length * c = val32 (pre.map (·.1.1)) + val32 (pre.map (·.1.2))

theorem addInv_nil : AddInv [] [] 0 := ⟨rfl, fun _ h => (by cases h), by omega, rfl⟩
theorem addInv_step {pre : List Two} {O : List Nat} {c : Nat} (h : AddInv pre O c) (x : Two) : AddInv (pre ++ [x]) (O ++ [(c + (x.1.1 + x.1.2)) % 4294967296]) ((c + (x.1.1 + x.1.2)) / 4294967296) := by
  obtain ⟨h1, h2, h3, h4⟩ := h
  have hx := x.2
  refine ⟨by simp [h1], ?_, by omega, ?_⟩
  · intro y hy
    rcases List.mem_append.1 hy with hy | hy
    · exact h2 y hy
    · obtain rfl := List.mem_singleton.1 hy; omega
  · simp only [val32, List.map_append, List.map_cons, List.map_nil, valB_snoc, List.length_map, h1, List.length_append, List.length_cons, List.length_nil, Nat.zero_add] at h4 ⊢
    obtain ⟨s, hs⟩ : ∃ s, c + (x.1.1 + x.1.2) = s := ⟨_, rfl⟩
    rw [hs]
    have e : 4294967296 ^ (pre.length + 1) * (s / 4294967296) = 4294967296 ^ pre.length * (4294967296 * (s / 4294967296)) := by rw [Nat.pow_succ, Nat.mul_assoc]
    have e2 : 4294967296 ^ pre.length * (s % 4294967296) + 4294967296 ^ pre.length * (4294967296 * (s / 4294967296)) = 4294967296 ^ pre.length * s := by rw [← Nat.mul_add, Nat.mod_add_div]
    have e3 : 4294967296 ^ pre.length * s = 4294967296 ^ pre.length * c + (4294967296 ^ pre.length * x.1.1 + 4294967296 ^ pre.length * x.1.2) := by rw [← hs, Nat.mul_add, Nat.mul_add]
    rw [e]
    omega

theorem upTo_fst (lx ly : List Nat) (hx : Lim lx) (hy : Lim ly) (m : Nat) (h : lx.length ≤ m) : val32 ((upTo lx ly hx hy m).map (·.1.1)) = val32 lx := by
  conv => rhs; rw [val32, ← padN_val _ lx m h]
  simp only [upTo, List.map_map, padN]
  rfl
theorem upTo_snd (lx ly : List Nat) (hx : Lim lx) (hy : Lim ly) (m : Nat) (h : ly.length ≤ m) : val32 ((upTo lx ly hx hy m).map (·.1.2)) = val32 ly := by
  conv => rhs; rw [val32, ← padN_val _ ly m h]
  simp only [upTo, List.map_map, padN]
  rfl
theorem upTo_length (lx ly : List Nat) (hx : Lim lx) (hy : Lim ly) (m : Nat) : (upTo lx ly hx hy m).length = m := by simp [upTo]

/-- Between two rounds of Add. -/
def AddI (n₀ A : Nat) (x y : Value) (pre : List Two) (W : World) : Prop :=
  ∃ (v : Value) (O : List Nat) (c : Nat), Boxed W A 37 v ∧ Boxed W (A + 1) 49 (.int .u64 (c : Int)) ∧ Boxed W (A + 1 + 1) 37 x ∧ Boxed W (A + 1 + 1 + 1) 37 y ∧ OwnQ .u32 64 n₀ W v O ∧ Hid (AddInv pre O c) ∧ Hid (∀ b, A ≤ b → b ≤ A + 1 + 1 + 1 → v.ownBlock ≠ some b)

theorem addI_own (n₀ A : Nat) (x y : Value) : Own (AddI n₀ A x y) := fun s X Y row hs hg hr => by
  obtain ⟨v, O, c, h1, h2, h3, h4, h5, h6, h7⟩ := hs
  exact ⟨v, O, c, Boxed.keptCells h1 hg hr, Boxed.keptCells h2 hg hr, Boxed.keptCells h3 hg hr, Boxed.keptCells h4 hg hr, h5.keptCells hg hr, h6, h7⟩

end Go.Proofs.YtpefjkndfifceaaDoor

namespace Go.Proofs.YtpefjkndfifceaaDoor
open Go.RowKit Go.Shelf
attribute [local go_sem] Oper.semAt_some

def subR (x y : Nat) : List Nat × Int := if x < topN ∧ y < topN ∧ y ≤ x then (nat32 (x - y), 0) else ([], 20)
theorem subR_yes {x y : Nat} (h : x < topN ∧ y < topN ∧ y ≤ x) : subR x y = (nat32 (x - y), 0) := if_pos h
theorem subR_no {x y : Nat} (h : ¬ (x < topN ∧ y < topN ∧ y ≤ x)) : subR x y = ([], 20) := if_neg h

/-- A difference's limbs so far, and what is borrowed. -/
def SubInv (pre : List Two) (O : List Nat) (c : Nat) : Prop := O.length = pre.length ∧ Lim O ∧ c ≤ 1 ∧ val32 O + val32 (pre.map (·.1.2)) = val32 (pre.map (·.1.1)) + 4294967296 ^ pre.length * c

theorem subInv_nil : SubInv [] [] 0 := ⟨rfl, fun _ h => (by cases h), by omega, rfl⟩
theorem subInv_step {pre : List Two} {O : List Nat} {c : Nat} (h : SubInv pre O c) (x : Two) : SubInv (pre ++ [x]) (O ++ [subD x.1.1 x.1.2 c]) (subB x.1.1 x.1.2 c) := by
  obtain ⟨h1, h2, h3, h4⟩ := h
  have hx := x.2
  have hd : subD x.1.1 x.1.2 c + x.1.2 + c = x.1.1 + 4294967296 * subB x.1.1 x.1.2 c := by unfold subD subB; split <;> omega
  have hd2 : subD x.1.1 x.1.2 c < 4294967296 := by unfold subD; split <;> omega
  have hb2 : subB x.1.1 x.1.2 c ≤ 1 := by unfold subB; split <;> omega
  generalize subD x.1.1 x.1.2 c = d at *
  generalize subB x.1.1 x.1.2 c = b at *
  refine ⟨by simp [h1], ?_, hb2, ?_⟩
  · intro y hy
    rcases List.mem_append.1 hy with hy | hy
    · exact h2 y hy
    · obtain rfl := List.mem_singleton.1 hy; exact hd2
  · simp only [val32, List.map_append, List.map_cons, List.map_nil, valB_snoc, List.length_map, h1, List.length_append, List.length_cons, List.length_nil, Nat.zero_add] at h4 ⊢
    have e : 4294967296 ^ (pre.length + 1) * b = 4294967296 ^ pre.length * (4294967296 * b) := by rw [Nat.pow_succ, Nat.mul_assoc]
    have e2 : 4294967296 ^ pre.length * (d + x.1.2 + c) = 4294967296 ^ pre.length * (x.1.1 + 4294967296 * b) := by rw [hd]
    rw [Nat.mul_add, Nat.mul_add, Nat.mul_add] at e2
    rw [e]
    omega

/-- Between two rounds of Sub. -/
def SubI (n₀ A : Nat) (x y : Value) (pre : List Two) (W : World) : Prop :=
  ∃ (v : Value) (O : List Nat) (c : Nat), Boxed W A 37 v ∧ Boxed W (A + 1) 64 (.int .u32 (c : Int)) ∧ Boxed W (A + 1 + 1) 37 x ∧ Boxed W (A + 1 + 1 + 1) 37 y ∧ OwnQ .u32 64 n₀ W v O ∧ Hid (SubInv pre O c) ∧ Hid (∀ b, A ≤ b → b ≤ A + 1 + 1 + 1 → v.ownBlock ≠ some b)

theorem subI_own (n₀ A : Nat) (x y : Value) : Own (SubI n₀ A x y) := fun s X Y row hs hg hr => by
  obtain ⟨v, O, c, h1, h2, h3, h4, h5, h6, h7⟩ := hs
  exact ⟨v, O, c, Boxed.keptCells h1 hg hr, Boxed.keptCells h2 hg hr, Boxed.keptCells h3 hg hr, Boxed.keptCells h4 hg hr, h5.keptCells hg hr, h6, h7⟩

end Go.Proofs.YtpefjkndfifceaaDoor

namespace Go.Proofs.YtpefjkndfifceaaDoor
open Go.RowKit

def mulR (x y : Nat) : List Nat × Int := if x < topN ∧ y < topN then cutR32 (x * y) else ([], 20)
theorem mulR_yes {x y : Nat} (h : x < topN) (k : y < topN) : mulR x y = cutR32 (x * y) := if_pos ⟨h, k⟩
theorem mulR_no {x y : Nat} (h : ¬ (x < topN ∧ y < topN)) : mulR x y = ([], 20) := if_neg h

/-- Product so far: x's first i limbs times y. -/
def MulOut (x y P : List Nat) (i : Nat) : Prop := P.length = x.length + y.length ∧ Lim P ∧ val32 P = val32 (x.take i) * val32 y ∧ (∀ t, i + y.length ≤ t → P[t]?.getD 0 = 0)
def MulIn (x y P : List Nat) (i j c : Nat) : Prop := P.length = x.length + y.length ∧ Lim P ∧ c < 4294967296 ∧ val32 P + 4294967296 ^ (i + j) * c = val32 (x.take i) * val32 y + 4294967296 ^ i * (x[i]?.getD 0) * val32 (y.take j) ∧ (∀ t, i + y.length ≤ t → P[t]?.getD 0 = 0)

theorem mulOut_start (x y : List Nat) : MulOut x y (List.replicate (x.length + y.length) 0) 0 :=
  ⟨by simp, fun t ht => by rw [List.eq_of_mem_replicate ht]; decide, by rw [List.take_zero, val32, valB_zeros]; simp [val32, valB], fun t _ => by
    by_cases h : t < x.length + y.length
    · simp [h]
    · simp [h]⟩

theorem mulIn_start {x y P : List Nat} {i : Nat} (h : MulOut x y P i) : MulIn x y P i 0 0 := by
  obtain ⟨h1, h2, h3, h4⟩ := h
  exact ⟨h1, h2, by decide, by rw [List.take_zero, h3]; simp [val32, valB], h4⟩

theorem getD_set (P : List Nat) (t d s : Nat) (h : t < P.length) : (P.set t d)[s]?.getD 0 = if t = s then d else P[s]?.getD 0 := by
  rw [List.getElem?_set]
  by_cases e : t = s
  · subst e; simp [h]
  · simp [e]

theorem val_set {P : List Nat} (t d : Nat) (h : t < P.length) : val32 (P.set t d) + 4294967296 ^ t * (P[t]?.getD 0) = val32 P + 4294967296 ^ t * d := valB_set _ P t d h

theorem mul_bound (a b p c : Nat) (ha : a < 4294967296) (hb : b < 4294967296) (hp : p < 4294967296) (hc : c < 4294967296) : c + (a * b + p) < 18446744073709551616 := by
  have h : a * b ≤ 4294967295 * 4294967295 := Nat.mul_le_mul (by omega) (by omega)
  omega

theorem mulIn_step {x y P : List Nat} {i j c : Nat} (h : MulIn x y P i j c) (hx : Lim x) (hy : Lim y) (hi : i < x.length) (hj : j < y.length) :
    MulIn x y (P.set (i + j) ((c + ((x[i]?.getD 0) * (y[j]?.getD 0) + P[i + j]?.getD 0)) % 4294967296)) i (j + 1) ((c + ((x[i]?.getD 0) * (y[j]?.getD 0) + P[i + j]?.getD 0)) / 4294967296) := by
  obtain ⟨h1, h2, h3, h4, h5⟩ := h
  have hb := mul_bound _ _ _ c (lim_get hx i) (lim_get hy j) (lim_get h2 (i + j)) h3
  have hv := val_set (i + j) ((c + ((x[i]?.getD 0) * (y[j]?.getD 0) + P[i + j]?.getD 0)) % 4294967296) (show i + j < P.length by omega)
  have hs := valB_succ (b := 4294967296) y j
  refine ⟨by simp [h1], mem_set h2 (Nat.mod_lt _ (by decide)), by omega, ?_, fun t ht => by rw [getD_set _ _ _ _ (by omega), if_neg (by omega)]; exact h5 t ht⟩
  generalize hS : c + ((x[i]?.getD 0) * (y[j]?.getD 0) + P[i + j]?.getD 0) = S at *
  have e1 : 4294967296 ^ (i + (j + 1)) * (S / 4294967296) = 4294967296 ^ (i + j) * (4294967296 * (S / 4294967296)) := by rw [← Nat.add_assoc, Nat.pow_succ, Nat.mul_assoc]
  have e2 : 4294967296 ^ (i + j) * (S % 4294967296) + 4294967296 ^ (i + j) * (4294967296 * (S / 4294967296)) = 4294967296 ^ (i + j) * S := by rw [← Nat.mul_add, Nat.mod_add_div]
  have e3 : 4294967296 ^ (i + j) * S = 4294967296 ^ (i + j) * c + (4294967296 ^ (i + j) * ((x[i]?.getD 0) * (y[j]?.getD 0)) + 4294967296 ^ (i + j) * (P[i + j]?.getD 0)) := by rw [← hS, Nat.mul_add, Nat.mul_add]
  have e4 : 4294967296 ^ i * (x[i]?.getD 0) * (4294967296 ^ j * (y[j]?.getD 0)) = 4294967296 ^ (i + j) * ((x[i]?.getD 0) * (y[j]?.getD 0)) := by
    rw [Nat.pow_add]
    simp only [Nat.mul_assoc, Nat.mul_left_comm]
  simp only [val32] at *
  rw [hs, Nat.mul_add, e4, e1]
  omega

theorem mulIn_end {x y P : List Nat} {i c : Nat} (h : MulIn x y P i y.length c) (hi : i < x.length) : MulOut x y (P.set (i + y.length) c) (i + 1) := by
  obtain ⟨h1, h2, h3, h4, h5⟩ := h
  have hv := val_set (i + y.length) c (show i + y.length < P.length by omega)
  rw [h5 _ (Nat.le_refl _)] at hv
  have hs := valB_succ (b := 4294967296) x i
  refine ⟨by simp [h1], mem_set h2 h3, ?_, fun t ht => by rw [getD_set _ _ _ _ (by omega), if_neg (by omega)]; exact h5 t (by omega)⟩
  rw [List.take_length] at h4
  simp only [val32] at *
  rw [hs, Nat.add_mul]
  omega

end Go.Proofs.YtpefjkndfifceaaDoor

namespace Go.Proofs.YtpefjkndfifceaaDoor
open Go.RowKit

theorem lt_top {n : Nat} (h : n < 4294967296 ^ 2) : n < topN := Nat.lt_of_lt_of_le h (by unfold topN; exact Nat.pow_le_pow_right (by decide) (by decide))

theorem nat32_lit (l : List Nat) (v : Nat) (h : Lim l) (hb : bareN l = l) (hv : val32 l = v) : nat32 v = l := by rw [← hv, ← bareN_nat h, hb]
theorem nat8_lit (l : List Nat) (v : Nat) (h : Byt l) (hb : bareN l = l) (hv : valB 256 l = v) : natB 256 v = l := by rw [← hv, ← bareN_eq (by decide) h, hb]

theorem conv8 {w : World} {a : Option Addr} {n c : Nat} {l : List Nat} (h : Reads .u8 w a n c l) (hB : Byt l) :
    (convert 22 9 (.slice a n c)).run Tryd.prog w = .ok (.string (strOf (u8s l))) w :=
  (h.bts hB).convert (P := Tryd.prog) _ _ _ Tryd.underlying22 Tryd.underlying5 Tryd.underlying9

theorem OwnQ.one (q : IntKind) (w : World) (E : TypeId) (B : Nat) (hB : B ≤ w.heap.size) (x : Int) (c : Nat) (hx : x = c) : OwnQ q E B (w.alloc (.cells #[.int q x] E)) (.slice (some ⟨w.heap.size, 0, .none⟩) 1 1) [c] := by
  subst hx
  exact World.ownsRow_lit w #[.int q c] 1 hB (by unfold maxLen; omega) rfl

end Go.Proofs.YtpefjkndfifceaaDoor

namespace Go.Proofs.YtpefjkndfifceaaDoor
open Go.RowKit

/-- A value that reads as the number n, with or without noughts at its end. -/
def NatAt (w : World) (v : Value) (n : Nat) : Prop := ∃ a len cap l, v = .slice a len cap ∧ Reads .u32 w a len cap l ∧ Lim l ∧ val32 l = n
/-- A value that reads as just the number n's limbs. -/
def NatC (w : World) (v : Value) (n : Nat) : Prop := ∃ a len cap, v = .slice a len cap ∧ Reads .u32 w a len cap (nat32 n)

theorem val_nat (n : Nat) : val32 (nat32 n) = n := natB_val (by decide) n
theorem lim_nat (n : Nat) : Lim (nat32 n) := natB_digit (by decide) n
theorem NatC.at {w : World} {v : Value} {n : Nat} (h : NatC w v n) : NatAt w v n := by
  obtain ⟨a, len, cap, rfl, hr⟩ := h
  exact ⟨a, len, cap, _, rfl, hr, lim_nat n, val_nat n⟩
theorem NatAt.below {w w' : World} {v : Value} {n : Nat} (h : NatAt w v n) (hb : Below w.heap.size w w') : NatAt w' v n := by
  obtain ⟨a, len, cap, l, rfl, hr, hl, hv⟩ := h
  exact ⟨a, len, cap, l, rfl, hr.below hb, hl, hv⟩
theorem NatC.below {w w' : World} {v : Value} {n : Nat} (h : NatC w v n) (hb : Below w.heap.size w w') : NatC w' v n := by
  obtain ⟨a, len, cap, rfl, hr⟩ := h
  exact ⟨a, len, cap, rfl, hr.below hb⟩
theorem NatC.of {E : TypeId} {B : Nat} {w : World} {v : Value} {n : Nat} (h : OwnQ .u32 E B w v (nat32 n)) : NatC w v n := by
  obtain ⟨a, len, cap, rfl, _, ho⟩ := h.slice
  exact ⟨a, len, cap, rfl, ho.reads⟩
theorem NatAt.lt {w : World} {a : Option Addr} {len cap n k : Nat} (h : NatAt w (.slice a len cap) n) (hk : len ≤ k) : n < 4294967296 ^ k := by
  obtain ⟨a', len', cap', l, he, hr, hl, rfl⟩ := h
  cases he
  exact Nat.lt_of_lt_of_le (valB_lt (by decide) hl) (Nat.pow_le_pow_right (by decide) (by rw [hr.length]; exact hk))
theorem top_le {n k : Nat} (h : n < 4294967296 ^ k) (hk : k ≤ 256) : n < topN := Nat.lt_of_lt_of_le h (by unfold topN; exact Nat.pow_le_pow_right (by decide) hk)
theorem add_lt {n m k : Nat} (h : n < 4294967296 ^ k) (g : m < 4294967296 ^ k) : n + m < 4294967296 ^ (k + 1) := by rw [Nat.pow_succ]; omega
theorem mul_lt {n m k j : Nat} (h : n < 4294967296 ^ k) (g : m < 4294967296 ^ j) : n * m < 4294967296 ^ (k + j) := by
  rw [Nat.pow_add]
  exact Nat.mul_lt_mul'' h g

def RetN (w' : World) (n : Nat) (e : Ending) : Prop := ∃ v, e = .returned (.tuple #[v, .int .i64 0]) ∧ NatC w' v n
def RetErr (c : Int) (e : Ending) : Prop := ∃ v, e = .returned (.tuple #[v, .int .i64 c])
theorem RetsQ2.num {B : Nat} {w : World} {n : Nat} {e : Ending} (h : RetsQ2 .u32 64 B w (nat32 n, 0) e) : RetN w n e := by
  obtain ⟨v, rfl, ho⟩ := h
  exact ⟨v, rfl, NatC.of ho⟩

theorem cmp_nat {x y : Value} {n m : Nat} {w : World} (hx : NatAt w x n) (hy : NatAt w y m) (o : Int) (ho : o = ordN n m) : Calls Tryd.prog 26 #[x, y] w fun e w' => e = .returned (.int .i64 o) ∧ Below w.heap.size w w' := by
  obtain ⟨a, len, cap, l, rfl, hr, hl, rfl⟩ := hx
  obtain ⟨a', len', cap', l', rfl, hr', hl', rfl⟩ := hy
  subst ho
  exact cmp_any _ _ _ _ _ _ _ _ w hr hr' hl hl'
theorem bits_nat {x : Value} {n : Nat} {w : World} (hx : NatAt w x n) (hlen : ∀ a len cap, x = .slice a len cap → len ≤ 288230376151711743) (b : Nat) (hb : b = bitsN n) : Calls Tryd.prog 24 #[x] w fun e w' => e = .returned (.int .i64 (b : Int)) ∧ w = w' := by
  obtain ⟨a, len, cap, l, rfl, hr, hl, rfl⟩ := hx
  subst hb
  exact bits_any _ _ _ _ w hr hl (hlen _ _ _ rfl)
theorem bit_nat {x : Value} {n : Nat} {w : World} (hx : NatAt w x n) (i : Int) (hi : i ≤ 9223372036854775807) (b : Bool) (hb : b = (decide (0 ≤ i) && n.testBit i.toNat)) : Calls Tryd.prog 25 #[x, .int .i64 i] w fun e w' => e = .returned (.bool b) ∧ w = w' := by
  obtain ⟨a, len, cap, l, rfl, hr, hl, rfl⟩ := hx
  subst hb
  exact bit_any _ _ _ _ w hr hl i hi
/-- Writing what already stands there turns nothing. -/
theorem setCell_id {w : World} {B : Nat} {t : TypeId} {v : Value} (h : Boxed w B t v) : w.setCell ⟨B, 0, none⟩ v = w := by
  have e : w.heap[B]? = some (.cells #[v] t (0, 0)) := h
  have h2 : (w.setCell ⟨B, 0, none⟩ v).heap = w.heap := by
    unfold World.setCell
    apply Array.ext_getElem?
    intro i
    rw [Array.getElem?_modify]
    by_cases hi : B = i
    · subst hi
      rw [if_pos rfl, e]
      rfl
    · rw [if_neg hi]
  cases w
  unfold World.setCell at *
  simp only at h2 ⊢
  rw [h2]

/-- A value that may be looked at: a slice of so many limbs at most. -/
def Short (v : Value) (k : Nat) : Prop := ∃ a len cap, v = .slice a len cap ∧ len ≤ k

theorem boxed_below {w w' : World} {B : Nat} {t : TypeId} {v : Value} (h : Boxed w B t v) (hb : Below w.heap.size w w') : Boxed w' B t v := (hb.block B h.lt).trans h

end Go.Proofs.YtpefjkndfifceaaDoor

namespace Go.Proofs.YtpefjkndfifceaaDoor
open Go.RowKit

namespace rf

abbrev Byt (l : List Nat) : Prop := ∀ x ∈ l, x < 256

theorem get_lt {b : Nat} {l : List Nat} (hb : 0 < b) (h : ∀ x ∈ l, x < b) (k : Nat) : l[k]?.getD 0 < b := by
  by_cases hk : k < l.length
  · rw [List.getElem?_eq_getElem hk]; exact h _ (List.getElem_mem _)
  · rw [List.getElem?_eq_none (by omega)]; exact hb

theorem valB_succ {b : Nat} (l : List Nat) (k : Nat) : valB b (l.take (k + 1)) = valB b (l.take k) + b ^ k * (l[k]?.getD 0) := by
  by_cases hk : k < l.length
  · rw [take_snocN l k hk, valB_snoc, List.length_take, Nat.min_eq_left (by omega)]
  · rw [List.take_of_length_le (by omega), List.take_of_length_le (by omega), List.getElem?_eq_none (by omega)]; simp

theorem pow32 (t : Nat) : (4294967296 : Nat) ^ t = 256 ^ (4 * t) := by rw [Nat.pow_mul]

theorem bare_len_eq {X : List Nat} (h : (bareN X).length = X.length) : bareN X = X := by
  have := bareN_prefix X
  rw [h, List.take_length] at this
  exact this

theorem bareN_nat {l : List Nat} (h : Lim l) : bareN l = nat32 (val32 l) := bareN_eq (by decide) h

theorem read_end (X m : List Nat) (v : Nat) (hX : Lim X) (hm : m = natB 256 v) (hL : X.length = (m.length + 3) / 4) (hv : val32 X = v) : X = nat32 v := by
  have h1 := bareN_nat hX
  rw [hv] at h1
  have h2 : ∀ k, (nat32 v).length ≤ k ↔ m.length ≤ 4 * k := fun k => by
    rw [hm, natB_length (by decide), natB_length (by decide), pow32]
  have h3 : (bareN X).length = X.length := by
    rw [h1, hL]
    have a := (h2 ((m.length + 3) / 4)).2 (by omega)
    have b := (h2 (nat32 v).length).1 (Nat.le_refl _)
    omega
  rw [← h1, bare_len_eq h3]

def four (d : Nat) : List Nat := [d % 256, d / 256 % 256, d / 65536 % 256, d / 16777216 % 256]
def fours (l : List Nat) : List Nat := l.flatMap four

theorem fours_snoc (l : List Nat) (k : Nat) (hk : k < l.length) : fours (l.take (k + 1)) = fours (l.take k) ++ four (l[k]?.getD 0) := by
  rw [take_snocN l k hk, fours, List.flatMap_append, List.flatMap_singleton]; rfl

theorem fours_val {l : List Nat} (h : Lim l) : valB 256 (fours l) = val32 l := by
  induction l with
  | nil => rfl
  | cons d t ih =>
    have h1 := ih (fun x hx => h x (List.mem_cons_of_mem _ hx))
    have h2 := h d List.mem_cons_self
    rw [fours, List.flatMap_cons, valB_append, show List.flatMap four t = fours t from rfl, h1]
    simp only [four, valB, List.length_cons, List.length_nil, val32]
    omega

theorem fours_byt (l : List Nat) : Byt (fours l) := by
  intro x hx
  obtain ⟨d, _, hd⟩ := List.mem_flatMap.1 hx
  simp only [four, List.mem_cons, List.not_mem_nil, or_false] at hd
  omega

theorem fours_len (l : List Nat) : (fours l).length = 4 * l.length := by
  induction l with
  | nil => rfl
  | cons d t ih => rw [fours, List.flatMap_cons, List.length_append, show List.flatMap four t = fours t from rfl, ih]; simp [four]; omega

theorem four_take (d j : Nat) (h : j < 4) : (four d).take (j + 1) = (four d).take j ++ [d / 256 ^ j % 256] := by
  match j, h with
  | 0, _ => simp [four]
  | 1, _ => simp [four]
  | 2, _ => simp [four]
  | 3, _ => simp [four]

/-- A limb out of four digits. -/
def limbAt (m : List Nat) (t : Nat) : Nat := (m[4 * t]?.getD 0) + 256 * (m[4 * t + 1]?.getD 0) + 65536 * (m[4 * t + 2]?.getD 0) + 16777216 * (m[4 * t + 3]?.getD 0)
def limbsOf (m : List Nat) (k : Nat) : List Nat := (List.range k).map (limbAt m)
theorem limbsOf_succ (m : List Nat) (k : Nat) : limbsOf m (k + 1) = limbsOf m k ++ [limbAt m k] := by rw [limbsOf, List.range_succ, List.map_append]; rfl
theorem limbsOf_length (m : List Nat) (k : Nat) : (limbsOf m k).length = k := by simp [limbsOf]
theorem limbAt_lt {m : List Nat} (h : Byt m) (t : Nat) : limbAt m t < 4294967296 := by
  have h0 := get_lt (by decide) h (4 * t)
  have h1 := get_lt (by decide) h (4 * t + 1)
  have h2 := get_lt (by decide) h (4 * t + 2)
  have h3 := get_lt (by decide) h (4 * t + 3)
  unfold limbAt
  omega
theorem limbsOf_lim {m : List Nat} (h : Byt m) (k : Nat) : Lim (limbsOf m k) := fun x hx => by
  obtain ⟨t, _, rfl⟩ := List.mem_map.1 hx
  exact limbAt_lt h t
theorem limbsOf_val (m : List Nat) (k : Nat) : val32 (limbsOf m k) = valB 256 (m.take (4 * k)) := by
  induction k with
  | zero => simp [limbsOf, valB]
  | succ k ih =>
    have e := limbsOf_succ m k
    simp only [val32] at ih ⊢
    rw [e, valB_snoc, limbsOf_length, ih, show 4 * (k + 1) = 4 * k + 1 + 1 + 1 + 1 by omega, valB_succ, valB_succ, valB_succ, valB_succ, pow32]
    simp only [limbAt, Nat.pow_succ]
    generalize 256 ^ (4 * k) = B
    generalize m[4 * k]?.getD 0 = a
    generalize m[4 * k + 1]?.getD 0 = b
    generalize m[4 * k + 1 + 1]?.getD 0 = c
    generalize m[4 * k + 1 + 1 + 1]?.getD 0 = d
    simp only [Nat.mul_add, Nat.mul_assoc]
    have e1 : B * (256 * b) = B * 256 * b := by rw [Nat.mul_assoc]
    have e2 : B * (65536 * c) = B * (256 * (256 * c)) := by rw [show 65536 * c = 256 * (256 * c) by omega]
    have e3 : B * (16777216 * d) = B * (256 * (256 * (256 * d))) := by rw [show 16777216 * d = 256 * (256 * (256 * d)) by omega]
    omega

theorem limbs_end {m : List Nat} (v : Nat) (hm : m = natB 256 v) : limbsOf m ((m.length + 3) / 4) = nat32 v := by
  have hb : Byt m := by rw [hm]; exact natB_digit (by decide) v
  refine read_end _ m v (limbsOf_lim hb _) hm (limbsOf_length _ _) ?_
  rw [limbsOf_val, List.take_of_length_le (by omega), hm, natB_val (by decide)]

end rf

end Go.Proofs.YtpefjkndfifceaaDoor

namespace Go.Proofs.YtpefjkndfifceaaDoor
open Go.RowKit
namespace rf

theorem info32 : (Tryd.prog.info? 64).map (fun i => (i.zero, i.size, i.bytes)) = some (some (.int .u32 0), 1, 4) := by kernel_rfl
theorem infoI : (Tryd.prog.info? 3).map (fun i => (i.zero, i.size, i.bytes)) = some (some (.int .i64 0), 1, 8) := by kernel_rfl

def RetsQ (q : IntKind) (E : TypeId) (B : Nat) (w' : World) (l : List Nat) (e : Ending) : Prop := ∃ v, e = .returned v ∧ OwnQ q E B w' v l
def RetsQ2 (q : IntKind) (E : TypeId) (B : Nat) (w' : World) (r : List Nat × Int) (e : Ending) : Prop := ∃ v, e = .returned (.tuple #[v, .int .i64 r.2]) ∧ OwnQ q E B w' v r.1

theorem own_slice {q : IntKind} {E : TypeId} {B : Nat} {w : World} {v : Value} {l : List Nat} (h : OwnQ q E B w v l) : ∃ a n cap, v = .slice a n cap ∧ n = l.length ∧ OwnQ q E B w (.slice a n cap) l := by
  obtain ⟨a, cap, rfl, _, _⟩ := h.form
  exact ⟨a, _, cap, rfl, rfl, h⟩

def lenOf : Value → Nat
  | .slice _ n _ => n
  | _ => 0

theorem bareN_len {l : List Nat} {k : Nat} (hk : k ≤ l.length) (h : bareN l = l.take k) : k = (bareN l).length := by
  rw [h, List.length_take]; omega

set_option maxHeartbeats 400000 in
theorem short_any (a : Option Addr) (len cap : Nat) (l : List Nat) (w : World) (h : Reads .i64 w a len cap l) (n : Nat) (hn : n = (bareN l).length) :
    Calls Tryd.prog 42 #[.slice a len cap] w fun e w' => e = .returned (.slice a n cap) ∧ w = w' := by
  have hm := h.len_le
  unfold maxLen at hm
  have hcm := h.max
  unfold maxLen at hcm
  have hle := h.le
  have hl := Lib.hid h.length
  have H := Lib.hid h
  have HN := Lib.hid hn
  clear hn h
  go_enter Tryd.func42, Tryd.ntmps42
  go_wp2
  go_loop [3] (fun v => ∃ k : Nat, k ≤ len ∧ v = .int .i64 k ∧ Hid (bareN l = bareN (l.take k))) (fun v => (intOf v).toNat)
  case atStart => exact ⟨len, Nat.le_refl _, rfl, by unfold Hid; rw [List.take_of_length_le (by rw [hl.out]; exact Nat.le_refl _)]⟩
  case round =>
    obtain ⟨k, hk, rfl, hrest⟩ := hrel
    rcases Nat.eq_zero_or_pos k with rfl | hp
    · go_wp2
      go_ret
      have e : (0 : Nat) = n := by rw [HN.out, hrest.out]; rfl
      exact ⟨by rw [← e]; rfl, rfl⟩
    · obtain ⟨j, rfl⟩ : ∃ j, k = j + 1 := ⟨k - 1, by omega⟩
      clear hp
      obtain ⟨b, off, rfl, hbl, hc⟩ := H.out.cells (by omega)
      have hcj := hc j (by omega)
      have hst := Lib.hid (bareN_step l j (by have := hl.out; omega))
      clear hc
      generalize l[j]?.getD 0 = x at *
      by_cases hx0 : x = 0
      · subst hx0
        go_wp2
        go_round
        case rel => exact ⟨j, by omega, by go_num, by have := hst.out; rw [if_pos rfl] at this; unfold Hid; rw [hrest.out, this]⟩
        case measure => simp [intOf]
      · have hx1 : ((x : Int) == 0) = false := by simp; omega
        have e : j + 1 = n := by
          have := hst.out
          rw [if_neg hx0] at this
          rw [HN.out]
          exact bareN_len (by have := hl.out; omega) (by rw [hrest.out, this])
        have E := Lib.hid e
        clear e
        go_wp2
        go_ret
        exact ⟨by rw [← E.out]; rfl, rfl⟩

set_option maxRecDepth 100000 in
set_option maxHeartbeats 1000000 in
theorem digits_any (a : Option Addr) (len cap : Nat) (l : List Nat) (w : World) (h : Reads .u32 w a len cap l) (hL : Lim l) (hm : len ≤ 1000000000000) :
    Calls Tryd.prog 30 #[.slice a len cap] w fun e w' => RetsQ .i64 3 w.heap.size w' (natB 256 (val32 l)) e ∧ Below w.heap.size w w' := by
  obtain ⟨i0, hi, hz0, hz1, hz2⟩ := info_parts infoI
  have HR := Lib.hid h
  have HM := Lib.hid h.length
  have HL := Lib.hid hL
  have HF := Lib.hid (fours_val hL)
  clear h hL
  go_enter Tryd.func30, Tryd.ntmps30
  go_wp2
  go_loopw [3, 4] (fun v i wr => ∃ k : Nat, k ≤ len ∧ i = .int .i64 k ∧ OwnQ .i64 3 w.heap.size wr v (fours (l.take k)) ∧ Hid (Below w.heap.size w wr)) (fun _ i _ => len - (intOf i).toNat)
  case atStart => exact ⟨0, Nat.zero_le _, rfl, OwnQ.nil _ _ _ _, Below.refl _ _⟩
  case round =>
    obtain ⟨k, hk, rfl, hown, hb⟩ := hrel
    obtain ⟨wo, rfl⟩ : ∃ wo : World, wo = wr := ⟨_, rfl⟩
    obtain ⟨v1, n1, c1, rfl, -, hown⟩ := own_slice hown
    by_cases hlt : k < len
    · obtain ⟨b, off, rfl, hbl, hc⟩ := (HR.out.below hb.out).cells (by omega)
      have hck := hc k hlt
      have hst := Lib.hid (fours_snoc l k (by rw [HM.out]; exact hlt))
      have hlen := fours_len (l.take k)
      rw [List.length_take, HM.out, Nat.min_eq_left (by omega)] at hlen
      have HLN := Lib.hid hlen
      have hd := get_lt (by decide) HL.out k
      clear hc hlen
      generalize l[k]?.getD 0 = d at *
      have HO1 := Lib.hid hown
      clear hown
      go_wp2
      go_loopw [3, 5, 6] (fun v x i wr => ∃ j y : Nat, j ≤ 4 ∧ i = .int .i64 j ∧ x = .int .i64 (y : Int) ∧ y < 4294967296 ∧ Hid (y = d / 256 ^ j) ∧ OwnQ .i64 3 w.heap.size wr v (fours (l.take k) ++ (four d).take j) ∧ Hid (Below w.heap.size w wr)) (fun _ _ i _ => 4 - (intOf i).toNat)
      case atStart => exact ⟨0, d, by omega, rfl, rfl, hd, by simp [Hid], by simpa using HO1.out, hb.out⟩
      case round =>
        obtain ⟨j, y, hj, rfl, rfl, hy, hyd, hown, hb2⟩ := hrel
        obtain ⟨v2, n2, c2, rfl, -, hown⟩ := own_slice hown
        by_cases hj4 : j < 4
        · have hsz := hb2.out.size
          have HO2 := Lib.hid hown
          have hft := Lib.hid (four_take d j hj4)
          have hlen2 := Lib.hid (show (fours (l.take k) ++ (four d).take j).length ≤ 4 * k + 4 by rw [List.length_append, HLN.out, List.length_take]; omega)
          clear hown
          go_wp2_with (at_builtin; refine wpList_append_q .i64 _ rfl _ _ 52 rfl w.heap.size 3 8 i0 Tryd.underlying52 hi hz0 hz1 hz2 (by decide) _ (fours (l.take k) ++ (four d).take j) rfl (HO2.out.alloc _) _ _ _ [y % 256] rfl (Reads.one .i64 _ _ _ _ (by omega)) (by have := hlen2.out; omega) (by simp; omega) ?_; intro v' w2 hown2 hgrow)
          go_roundw
          case rel =>
            refine ⟨j + 1, y / 256, by omega, by go_num, by go_num, by omega, ?_, ?_, hgrow _ (hb2.out.alloc hsz _)⟩
            · unfold Hid; rw [hyd.out, Nat.div_div_eq_div_mul, Nat.pow_succ]
            · rw [hft.out, ← List.append_assoc, ← hyd.out]; exact hown2
          case measure => simp [intOf] <;> omega
        · obtain rfl : j = 4 := by omega
          go_wp2
          go_roundw
          case rel => exact ⟨k + 1, by omega, by go_num, by rw [hst.out]; exact hown, hb2.out⟩
          case measure => simp [intOf] <;> omega
    · obtain rfl : k = len := by omega
      rw [List.take_of_length_le (by rw [HM.out]; exact Nat.le_refl _)] at hown
      have HN1 := Lib.hid (show n1 = (fours l).length from hown.cap.1)
      have hbf := bareN_le (fours l)
      have HP := Lib.hid (bareN_prefix (fours l))
      have HE := Lib.hid (bareN_eq (b := 256) (by decide) (fours_byt l))
      have HS := Lib.hid (short_any _ _ _ _ wo hown.reads _ rfl)
      have ho2 := Lib.hid (hown.upto (bareN (fours l)).length (by rw [HN1.out]; exact hbf))
      rw [← HP.out] at ho2
      clear hown hbf
      go_wp2_with fail
      refine HS.out.mono ?_
      rintro e w3 ⟨rfl, rfl⟩
      go_wp2
      go_ret
      have e : natB 256 (val32 l) = bareN (fours l) := by rw [HE.out, HF.out]
      exact ⟨⟨_, rfl, by rw [e]; exact ho2.out⟩, hb.out⟩

set_option maxRecDepth 100000 in
set_option maxHeartbeats 2000000 in
theorem limbs_any (a : Option Addr) (len cap : Nat) (l : List Nat) (w : World) (h : Reads .i64 w a len cap l) (hL : Byt l) (hm : len ≤ 1000000000000) :
    Calls Tryd.prog 52 #[.slice a len cap] w fun e w' => RetsQ .u32 64 w.heap.size w' (nat32 (valB 256 l)) e ∧ Below w.heap.size w w' := by
  obtain ⟨i0, hi, hz0, hz1, hz2⟩ := info_parts info32
  have HS := Lib.hid (short_any a len cap l w h _ rfl)
  have hbl := bareN_le l
  rw [h.length] at hbl
  have hr := h.upto (bareN l).length (by rw [← h.length]; exact bareN_le l)
  rw [← bareN_prefix] at hr
  have hend := limbs_end (m := bareN l) (valB 256 l) (bareN_eq (by decide) hL)
  have hBm : Byt (bareN l) := fun x hx => hL x (bareN_mem hx)
  clear h hL
  generalize bareN l = m at *
  generalize hMM : m.length = M at *
  have HM := Lib.hid hMM
  have HR := Lib.hid hr
  have HB := Lib.hid hBm
  have HE := Lib.hid hend
  clear hMM hr hBm hend
  go_enter Tryd.func52, Tryd.ntmps52
  go_wp2_with fail
  refine HS.out.mono ?_
  rintro e w1 ⟨rfl, rfl⟩
  go_wp2
  go_loopw [3, 4] (fun v i wr => ∃ t : Nat, 4 * t ≤ M + 3 ∧ i = .int .i64 (4 * (t : Int)) ∧ OwnQ .u32 64 w.heap.size wr v (limbsOf m t) ∧ Hid (Below w.heap.size w wr)) (fun _ i _ => M + 4 - (intOf i).toNat)
  case atStart => exact ⟨0, by omega, rfl, OwnQ.nil _ _ _ _, Below.refl _ _⟩
  case round =>
    obtain ⟨t, ht, rfl, hown, hb⟩ := hrel
    obtain ⟨wo, rfl⟩ : ∃ wo : World, wo = wr := ⟨_, rfl⟩
    obtain ⟨v1, n1, c1, rfl, -, hown⟩ := own_slice hown
    by_cases hlt : 4 * t < M
    · obtain ⟨b, off, rfl, hbl2, hc⟩ := (HR.out.below hb.out).cells (by omega)
      have hd0 := get_lt (by decide) HB.out (4 * t)
      have hd1 := get_lt (by decide) HB.out (4 * t + 1)
      have hd2 := get_lt (by decide) HB.out (4 * t + 2)
      have hd3 := get_lt (by decide) HB.out (4 * t + 3)
      have hla := Lib.hid (show limbAt m t = _ from rfl)
      unfold limbAt at hla
      have c0 := hc (4 * t) hlt
      have c1' : 4 * t + 1 < M → wo.cell? ⟨b, off + (4 * t + 1), none⟩ = some (.int .i64 ((m[4 * t + 1]?.getD 0 : Nat) : Int)) := fun h => hc _ h
      have c2' : 4 * t + 2 < M → wo.cell? ⟨b, off + (4 * t + 2), none⟩ = some (.int .i64 ((m[4 * t + 2]?.getD 0 : Nat) : Int)) := fun h => hc _ h
      have c3' : 4 * t + 3 < M → wo.cell? ⟨b, off + (4 * t + 3), none⟩ = some (.int .i64 ((m[4 * t + 3]?.getD 0 : Nat) : Int)) := fun h => hc _ h
      have z1 : ¬ 4 * t + 1 < M → m[4 * t + 1]?.getD 0 = 0 := fun h => by rw [List.getElem?_eq_none (by rw [HM.out]; omega)]; rfl
      have z2 : ¬ 4 * t + 2 < M → m[4 * t + 2]?.getD 0 = 0 := fun h => by rw [List.getElem?_eq_none (by rw [HM.out]; omega)]; rfl
      have z3 : ¬ 4 * t + 3 < M → m[4 * t + 3]?.getD 0 = 0 := fun h => by rw [List.getElem?_eq_none (by rw [HM.out]; omega)]; rfl
      have hls := Lib.hid (limbsOf_succ m t)
      have hll := Lib.hid (limbsOf_length m t)
      have HLA := Lib.hid (show limbAt m t = (m[4 * t]?.getD 0) + 256 * (m[4 * t + 1]?.getD 0) + 65536 * (m[4 * t + 2]?.getD 0) + 16777216 * (m[4 * t + 3]?.getD 0) from rfl)
      clear hc hla
      generalize m[4 * t]?.getD 0 = d0 at *
      generalize m[4 * t + 1]?.getD 0 = d1 at *
      generalize m[4 * t + 2]?.getD 0 = d2 at *
      generalize m[4 * t + 3]?.getD 0 = d3 at *
      have HO1 := Lib.hid hown
      have C1 := Lib.hid c1'
      have C2 := Lib.hid c2'
      have C3 := Lib.hid c3'
      have Z1 := Lib.hid z1
      have Z2 := Lib.hid z2
      have Z3 := Lib.hid z3
      clear hown c1' c2' c3' z1 z2 z3
      go_wp2
      go_loop [5, 6] (fun x k => (k = .int .i64 3 ∧ x = .int .i64 0) ∨ (k = .int .i64 2 ∧ x = .int .i64 (d3 : Int)) ∨ (k = .int .i64 1 ∧ x = .int .i64 ((256 * d3 + d2 : Nat) : Int)) ∨ (k = .int .i64 0 ∧ x = .int .i64 ((256 * (256 * d3 + d2) + d1 : Nat) : Int)) ∨ (k = .int .i64 (-1) ∧ x = .int .i64 ((256 * (256 * (256 * d3 + d2) + d1) + d0 : Nat) : Int))) (fun _ k => (intOf k + 1).toNat)
      case atStart => exact .inl ⟨rfl, rfl⟩
      case round =>
        rcases hrel with ⟨rfl, rfl⟩ | ⟨rfl, rfl⟩ | ⟨rfl, rfl⟩ | ⟨rfl, rfl⟩ | ⟨rfl, rfl⟩
        · by_cases hin : 4 * t + 3 < M
          · have hcc := C3.out hin
            go_wp2
            go_round
            case rel => exact .inr (.inl ⟨rfl, by congr 1 <;> omega⟩)
            case measure => simp [intOf]
          · have hz := Z3.out hin
            subst hz
            go_wp2
            go_round
            case rel => exact .inr (.inl ⟨rfl, by congr 1 <;> omega⟩)
            case measure => simp [intOf]
        · by_cases hin : 4 * t + 2 < M
          · have hcc := C2.out hin
            go_wp2
            go_round
            case rel => exact .inr (.inr (.inl ⟨rfl, by congr 1 <;> omega⟩))
            case measure => simp [intOf]
          · have hz := Z2.out hin
            subst hz
            go_wp2
            go_round
            case rel => exact .inr (.inr (.inl ⟨rfl, by congr 1 <;> omega⟩))
            case measure => simp [intOf]
        · by_cases hin : 4 * t + 1 < M
          · have hcc := C1.out hin
            go_wp2
            go_round
            case rel => exact .inr (.inr (.inr (.inl ⟨rfl, by congr 1 <;> omega⟩)))
            case measure => simp [intOf]
          · have hz := Z1.out hin
            subst hz
            go_wp2
            go_round
            case rel => exact .inr (.inr (.inr (.inl ⟨rfl, by congr 1 <;> omega⟩)))
            case measure => simp [intOf]
        · go_wp2
          go_round
          case rel => exact .inr (.inr (.inr (.inr ⟨rfl, by congr 1 <;> omega⟩)))
          case measure => simp [intOf]
        · go_wp2_with (at_builtin; refine wpList_append_q .u32 _ rfl _ _ 37 rfl w.heap.size 64 4 i0 Tryd.underlying37 hi hz0 hz1 hz2 (by decide) _ (limbsOf m t) rfl (HO1.out.alloc _) _ _ _ [256 * (256 * (256 * d3 + d2) + d1) + d0] rfl (Reads.one .u32 _ _ _ _ (by omega)) (by have := hll.out; omega) (by have := hb.out.size; simp; omega) ?_; intro v' w2 hown2 hgrow)
          go_roundw
          case rel =>
            refine ⟨t + 1, by omega, by congr 1 <;> omega, ?_, hgrow _ (hb.out.alloc hb.out.size _)⟩
            rw [hls.out, HLA.out, show d0 + 256 * d1 + 65536 * d2 + 16777216 * d3 = 256 * (256 * (256 * d3 + d2) + d1) + d0 by omega]
            exact hown2
          case measure => simp [intOf] <;> omega
    · have et : t = (M + 3) / 4 := by omega
      have ET := Lib.hid et
      clear et
      go_wp2
      go_ret
      rw [ET.out, HE.out] at hown
      exact ⟨⟨_, rfl, hown⟩, hb.out⟩

end rf

end Go.Proofs.YtpefjkndfifceaaDoor

namespace Go.Proofs.YtpefjkndfifceaaDoor
open Go.RowKit
namespace rf

set_option maxHeartbeats 400000 in
theorem cut_any (a : Option Addr) (len cap : Nat) (l : List Nat) (w : World) (h : Reads .i64 w a len cap l) (hL : Byt l) :
    Calls Tryd.prog 41 #[.slice a len cap] w fun e w' => RetsQ2 .u32 64 w.heap.size w' (cutR32 (valB 256 l)) e ∧ Below w.heap.size w w' := by
  have HS := Lib.hid (short_any a len cap l w h _ rfl)
  have hmx := h.len_le
  unfold maxLen at hmx
  have hbl := bareN_le l
  rw [h.length] at hbl
  have hr := h.upto (bareN l).length (by rw [← h.length]; exact bareN_le l)
  rw [← bareN_prefix] at hr
  have hci := cut_iff8 l hL
  have HV := Lib.hid (bareN_val 256 l)
  have hBm : Byt (bareN l) := fun x hx => hL x (bareN_mem hx)
  clear h hL
  generalize bareN l = m at *
  have HR := Lib.hid hr
  clear hr
  by_cases hc : m.length ≤ 1024
  · have hres := Lib.hid (show cutR32 (valB 256 l) = (nat32 (valB 256 l), 0) from cutR_small (hci.1 hc))
    have hdec : decide ((1024 : Int) < (m.length : Int)) = false := by simp; omega
    have HB := Lib.hid (limbs_any a m.length cap m w HR.out hBm (by omega))
    rw [HV.out] at HB
    clear hci hBm
    go_enter Tryd.func41, Tryd.ntmps41
    go_wp2_with fail
    refine HS.out.mono ?_
    rintro e w1 ⟨rfl, rfl⟩
    go_wp2_with fail
    refine HB.out.mono ?_
    rintro e w2 ⟨⟨v, rfl, ho⟩, hb⟩
    go_wp2
    go_ret2
    exact ⟨⟨_, by rw [hres.out]; rfl, by rw [hres.out]; exact ho⟩, hb⟩
  · have hres := Lib.hid (show cutR32 (valB 256 l) = ([], 20) from cutR_large (fun h => hc (hci.2 h)))
    have hdec : decide ((1024 : Int) < (m.length : Int)) = true := by simp; omega
    clear hci hBm
    go_enter Tryd.func41, Tryd.ntmps41
    go_wp2_with fail
    refine HS.out.mono ?_
    rintro e w1 ⟨rfl, rfl⟩
    go_wp2
    go_ret2
    exact ⟨⟨_, by rw [hres.out]; rfl, by rw [hres.out]; exact OwnQ.nil _ _ _ _⟩, Below.refl _ _⟩

theorem nat256_le (v : Nat) : (natB 256 v).length ≤ 1024 ↔ v < topN := by rw [natB_length (by decide), topN_256]

theorem info8 : (Tryd.prog.info? 5).map (fun i => (i.zero, i.size, i.bytes)) = some (some (.int .u8 0), 1, 1) := by kernel_rfl

theorem down_start (m : Nat) : (∃ j : Nat, Value.int IntKind.i64 ((m : Int) - 1) = .int .i64 j ∧ j + 0 + 1 = m) ∨ (Value.int IntKind.i64 ((m : Int) - 1) = .int .i64 (-1) ∧ 0 = m) := by
  rcases Nat.eq_zero_or_pos m with h | h
  · exact .inr ⟨by rw [h]; rfl, h.symm⟩
  · exact .inl ⟨m - 1, by congr 1; omega, by omega⟩
theorem down_next {j k m : Nat} (h : j + k + 1 = m) : (∃ i : Nat, Value.int IntKind.i64 ((j : Int) - 1) = .int .i64 i ∧ i + (k + 1) + 1 = m) ∨ (Value.int IntKind.i64 ((j : Int) - 1) = .int .i64 (-1) ∧ k + 1 = m) := by
  rcases Nat.eq_zero_or_pos j with e | e
  · exact .inr ⟨by rw [e]; rfl, by omega⟩
  · exact .inl ⟨j - 1, by congr 1; omega, by omega⟩

theorem rev_succ (l : List Nat) (j k : Nat) (h : j + k + 1 = l.length) : l.reverse.take (k + 1) = l.reverse.take k ++ [l[j]?.getD 0] := by
  rw [take_snocN _ _ (by simp; omega), List.getElem?_reverse (by omega)]
  congr 4
  omega

set_option maxRecDepth 100000 in
set_option maxHeartbeats 1000000 in
theorem bytes_any (a : Option Addr) (len cap : Nat) (l : List Nat) (w : World) (h : Reads .u32 w a len cap l) (hL : Lim l) (hm : len ≤ 1000000000000) :
    Calls Tryd.prog 31 #[.slice a len cap] w fun e w' => RetsQ .u8 5 w.heap.size w' (natB 256 (val32 l)).reverse e ∧ Below w.heap.size w w' := by
  obtain ⟨i0, hi, hz0, hz1, hz2⟩ := info_parts info8
  have HD := Lib.hid (digits_any a len cap l w h hL hm)
  have hlb : (natB 256 (val32 l)).length ≤ 4 * len := by
    rw [natB_length (by decide), ← pow32, ← h.length]
    exact valB_lt (by decide) hL
  have hbt : Byt (natB 256 (val32 l)) := natB_digit (by decide) _
  clear h hL
  generalize natB 256 (val32 l) = m at *
  have HBT := Lib.hid hbt
  clear hbt
  go_enter Tryd.func31, Tryd.ntmps31
  go_wp2_with fail
  refine HD.out.mono ?_
  rintro e w1 ⟨⟨v, rfl, ho⟩, hb⟩
  obtain ⟨a1, n1, c1, rfl, hn1, ho1⟩ := own_slice ho
  have HN := Lib.hid hn1
  have HRD := Lib.hid ho1.reads
  have HB := Lib.hid hb
  have hn4 : n1 ≤ 4000000000000 := by omega
  clear ho hn1 ho1 hb hlb
  go_wp2
  go_loopw [4, 5] (fun v i wr => ∃ k : Nat, ((∃ j : Nat, i = .int .i64 j ∧ j + k + 1 = n1) ∨ (i = .int .i64 (-1) ∧ k = n1)) ∧ OwnQ .u8 5 w1.heap.size wr v (m.reverse.take k) ∧ Hid (Below w1.heap.size w1 wr)) (fun _ i _ => (intOf i + 1).toNat)
  case atStart => exact ⟨0, down_start n1, by simpa using OwnQ.nil _ _ _ _, Below.refl _ _⟩
  case round =>
    obtain ⟨k, hj, hown, hbel⟩ := hrel
    obtain ⟨v2, n2, c2, rfl, -, hown⟩ := own_slice hown
    rcases hj with ⟨j, rfl, hjk⟩ | ⟨rfl, hkn⟩
    · obtain ⟨b, off, rfl, hbk, hc⟩ := (HRD.out.below hbel.out).cells (by omega)
      have hck := hc j (by omega)
      have hd := get_lt (by decide) HBT.out j
      have hrs := Lib.hid (rev_succ m j k (by rw [← HN.out]; exact hjk))
      have hsz := hbel.out.size
      have HO := Lib.hid hown
      have HJK := Lib.hid hjk
      have hjn : j < n1 := by omega
      have hlen := Lib.hid (show (m.reverse.take k).length ≤ n1 by rw [List.length_take, List.length_reverse, ← HN.out]; omega)
      clear hc hown hjk
      generalize m[j]?.getD 0 = d at *
      go_wp2_with (at_builtin; refine wpList_append_q .u8 _ rfl _ _ 22 rfl w1.heap.size 5 1 i0 Tryd.underlying22 hi hz0 hz1 hz2 (by decide) _ (m.reverse.take k) rfl (HO.out.alloc _) _ _ _ [d] rfl (Reads.one .u8 _ _ _ _ rfl) (by have := hlen.out; omega) (by simp; omega) ?_; intro v' w2 hown2 hgrow)
      go_roundw
      case rel => exact ⟨k + 1, down_next HJK.out, by rw [hrs.out]; exact hown2, hgrow _ (hbel.out.alloc hsz _)⟩
      case measure => simp [intOf] <;> omega
    · have hfin := Lib.hid (show m.reverse.take k = m.reverse by rw [List.take_of_length_le]; rw [List.length_reverse, ← HN.out]; omega)
      clear hkn
      go_wp2
      go_ret
      rw [hfin.out] at hown
      exact ⟨⟨_, rfl, hown.mono HB.out.size⟩, HB.out.trans (hbel.out.mono HB.out.size)⟩

end rf

end Go.Proofs.YtpefjkndfifceaaDoor

namespace Go.Proofs.YtpefjkndfifceaaDoor
open Go.RowKit
namespace rf

theorem bit_digit (v k : Nat) : v.testBit k = decide ((natB 256 v)[k / 8]?.getD 0 / 2 ^ (k % 8) % 2 = 1) := by
  rw [natB_get (by decide), show (256 : Nat) ^ (k / 8) = 2 ^ (8 * (k / 8)) by rw [Nat.pow_mul]]
  have e : v.testBit k = (v / 2 ^ (8 * (k / 8)) % 2 ^ 8).testBit (k % 8) := by
    rw [Nat.testBit_mod_two_pow, Nat.testBit_div_two_pow, show k % 8 + 8 * (k / 8) = k by omega]
    simp [Nat.mod_lt]
  rw [e, Nat.testBit_eq_decide_div_mod_eq]

set_option maxRecDepth 100000 in
set_option maxHeartbeats 1000000 in
theorem bit_any (a : Option Addr) (len cap : Nat) (l : List Nat) (w : World) (h : Reads .u32 w a len cap l) (hL : Lim l) (hm : len ≤ 1000000000000) (i : Int) (hi : i ≤ 9223372036854775807) (r : Bool) (hr : r = (decide (0 ≤ i) && (val32 l).testBit i.toNat)) :
    Calls Tryd.prog 16 #[.slice a len cap, .int .i64 i] w fun e w' => e = .returned (.bool r) ∧ Below w.heap.size w w' := by
  have HD := Lib.hid (digits_any a len cap l w h hL hm)
  have HRR := Lib.hid hr
  have hbt : Byt (natB 256 (val32 l)) := natB_digit (by decide) _
  have hbd := fun k => bit_digit (val32 l) k
  have hlb : (natB 256 (val32 l)).length ≤ 4 * len := by
    rw [natB_length (by decide), ← pow32, ← h.length]
    exact valB_lt (by decide) hL
  clear h hL hr
  generalize natB 256 (val32 l) = m at *
  have HBT := Lib.hid hbt
  have HBD := Lib.hid hbd
  clear hbt hbd
  by_cases h0 : i < 0
  · have hrf := Lib.hid (show r = false by rw [HRR.out, decide_eq_false (by omega)]; rfl)
    go_enter Tryd.func16, Tryd.ntmps16
    go_wp2_with fail
    refine HD.out.mono ?_
    rintro e w1 ⟨⟨v, rfl, ho⟩, hb⟩
    obtain ⟨a1, n1, c1, rfl, hn1, -⟩ := own_slice ho
    have HB := Lib.hid hb
    clear ho hn1 hb
    go_wp2
    go_ret
    exact ⟨by rw [hrf.out]; rfl, HB.out⟩
  · obtain ⟨k, rfl⟩ := Int.eq_ofNat_of_zero_le (show 0 ≤ i by omega)
    have hrk := Lib.hid (show r = decide (m[k / 8]?.getD 0 / 2 ^ (k % 8) % 2 = 1) by rw [HRR.out, decide_eq_true (by omega), Bool.true_and, Int.toNat_natCast, HBD.out])
    have hq : (k : Int) / 8 = ((k / 8 : Nat) : Int) := by omega
    have hrm : (k : Int) % 8 = ((k % 8 : Nat) : Int) := by omega
    have hr8 : k % 8 < 8 := by omega
    clear h0
    generalize k / 8 = q at *
    generalize k % 8 = s at *
    go_enter Tryd.func16, Tryd.ntmps16
    go_wp2_with fail
    refine HD.out.mono ?_
    rintro e w1 ⟨⟨v, rfl, ho⟩, hb⟩
    obtain ⟨a1, n1, c1, rfl, hn1, ho1⟩ := own_slice ho
    have HN := Lib.hid hn1
    have HRD := Lib.hid ho1.reads
    have HB := Lib.hid hb
    have hn4 : n1 ≤ 4000000000000 := by omega
    clear ho hn1 ho1 hb hlb
    by_cases hlt : q < n1
    · obtain ⟨b, off, rfl, hbk, hc⟩ := HRD.out.cells (by omega)
      have hck := hc q hlt
      have hd := get_lt (by decide) HBT.out q
      clear hc
      generalize m[q]?.getD 0 = d at *
      go_wp2
      go_loop [6, 7] (fun x i => ∃ j y : Nat, j ≤ s ∧ i = .int .i64 j ∧ x = .int .i64 (y : Int) ∧ y < 256 ∧ Hid (y = d / 2 ^ j)) (fun _ i => s - (intOf i).toNat)
      case atStart => exact ⟨0, d, Nat.zero_le _, rfl, rfl, hd, by simp [Hid]⟩
      case round =>
        obtain ⟨j, y, hj, rfl, rfl, hy, hyd⟩ := hrel
        by_cases hjs : j < s
        · go_wp2
          go_round
          case rel => exact ⟨j + 1, y / 2, by omega, by go_num, by go_num, by omega, by unfold Hid; rw [hyd.out, Nat.div_div_eq_div_mul, Nat.pow_succ]⟩
          case measure => simp [intOf] <;> omega
        · obtain rfl : j = s := by omega
          have hfin := Lib.hid (show r = decide (y % 2 = 1) by rw [hrk.out, hyd.out])
          go_wp2
          go_ret
          refine ⟨?_, HB.out⟩
          rw [hfin.out]
          show Ending.returned (.bool ((y : Int) % 2 == 1)) = _
          congr 2
          rw [Bool.eq_iff_iff]
          simp
          omega
    · have hz := Lib.hid (show r = false by rw [hrk.out, List.getElem?_eq_none (by rw [← HN.out]; omega)]; simp)
      have hge : n1 ≤ q := by omega
      clear hlt
      go_wp2
      go_ret
      exact ⟨by rw [hz.out]; rfl, HB.out⟩

def bitsN (n : Nat) : Nat := if n = 0 then 0 else Nat.log2 n + 1
theorem bitsN_le (n k : Nat) : bitsN n ≤ k ↔ n < 2 ^ k := by
  unfold bitsN
  by_cases h : n = 0
  · simp [h, Nat.pow_pos]
  · rw [if_neg h, ← Nat.log2_lt h]; omega

theorem bit_step (v n : Nat) (h : v < 2 ^ (n + 1)) (hb : v.testBit n = false) : v < 2 ^ n := by
  rw [Nat.testBit_eq_decide_div_mod_eq] at hb
  rw [Nat.pow_succ] at h
  have h1 : v / 2 ^ n < 2 := by rw [Nat.div_lt_iff_lt_mul (Nat.pow_pos (by decide))]; omega
  have h3 := of_decide_eq_false hb
  have h2 : v / 2 ^ n = 0 := by
    generalize v / 2 ^ n = y at h1 h3
    omega
  exact Nat.lt_of_div_eq_zero (Nat.pow_pos (by decide)) h2

theorem bit_last (v n : Nat) (h : v < 2 ^ (n + 1)) (hb : v.testBit n = true) : bitsN v = n + 1 := by
  have h1 := (bitsN_le v (n + 1)).2 h
  have h2 : ¬ bitsN v ≤ n := fun hc => by
    have h3 := (bitsN_le v n).1 hc
    rw [Nat.testBit_eq_decide_div_mod_eq, Nat.div_eq_of_lt h3] at hb
    simp at hb
  omega

set_option maxRecDepth 100000 in
set_option maxHeartbeats 1000000 in
theorem bits_any (a : Option Addr) (len cap : Nat) (l : List Nat) (w : World) (h : Reads .u32 w a len cap l) (hL : Lim l) (hm : len ≤ 1000000000000) (b : Nat) (hb : b = bitsN (val32 l)) :
    Calls Tryd.prog 15 #[.slice a len cap] w fun e w' => e = .returned (.int .i64 (b : Int)) ∧ Below w.heap.size w w' := by
  have HD := Lib.hid (digits_any a len cap l w h hL hm)
  have HR := Lib.hid h
  have HL := Lib.hid hL
  have HBB := Lib.hid hb
  have hlb : (natB 256 (val32 l)).length ≤ 4 * len := by
    rw [natB_length (by decide), ← pow32, ← h.length]
    exact valB_lt (by decide) hL
  have hv := Lib.hid ((natB_length (b := 256) (by decide) (val32 l) _).1 (Nat.le_refl _))
  clear h hL hb
  go_enter Tryd.func15, Tryd.ntmps15
  go_wp2_with fail
  refine HD.out.mono ?_
  rintro e w1 ⟨⟨v, rfl, ho⟩, hb1⟩
  obtain ⟨a1, n1, c1, rfl, hn1, -⟩ := own_slice ho
  have HN := Lib.hid hn1
  have HB := Lib.hid hb1
  have hn4 : n1 ≤ 4000000000000 := by omega
  clear ho hn1 hb1 hlb
  go_wp2
  go_loopw [4] (fun x wr => ∃ k : Nat, k ≤ 8 * n1 ∧ x = .int .i64 (k : Int) ∧ Hid (val32 l < 2 ^ k) ∧ Hid (Below w.heap.size w wr)) (fun x _ => (intOf x).toNat)
  case atStart => exact ⟨8 * n1, Nat.le_refl _, by go_num, by unfold Hid; rw [HN.out, Nat.pow_mul]; exact hv.out, HB.out⟩
  case round =>
    obtain ⟨k, hk, rfl, hlt, hbel⟩ := hrel
    rcases Nat.eq_zero_or_pos k with rfl | hp
    · have hz := Lib.hid (show b = 0 by rw [HBB.out]; have := hlt.out; rw [Nat.pow_zero] at this; rw [show val32 l = 0 by omega]; rfl)
      go_wp2
      go_ret
      exact ⟨by rw [hz.out]; rfl, hbel.out⟩
    · obtain ⟨j, rfl⟩ : ∃ j, k = j + 1 := ⟨k - 1, by omega⟩
      clear hp
      cases hbit : (val32 l).testBit j with
      | true =>
        have hz := Lib.hid (show b = j + 1 by rw [HBB.out]; exact bit_last _ _ hlt.out hbit)
        have HC := Lib.hid (bit_any a len cap l wr (HR.out.below hbel.out) HL.out hm (j : Int) (by omega) true (by simp [hbit]))
        clear hbit
        go_wp2_with (go_at_call 16; refine HC.out.mono ?_; rintro e w2 ⟨rfl, hb2⟩)
        go_ret
        exact ⟨by rw [hz.out]; go_num, hbel.out.trans (hb2.mono hbel.out.size)⟩
      | false =>
        have hz := Lib.hid (bit_step _ _ hlt.out hbit)
        have HC := Lib.hid (bit_any a len cap l wr (HR.out.below hbel.out) HL.out hm (j : Int) (by omega) false (by simp [hbit]))
        clear hbit
        go_wp2_with (go_at_call 16; refine HC.out.mono ?_; rintro e w2 ⟨rfl, hb2⟩)
        go_roundw
        case rel => exact ⟨j, by omega, by go_num, hz.out, hbel.out.trans (hb2.mono hbel.out.size)⟩
        case measure => simp [intOf] <;> omega

end rf

end Go.Proofs.YtpefjkndfifceaaDoor

namespace Go.Proofs.YtpefjkndfifceaaDoor
open Go.RowKit
namespace rf

theorem below_drewN {B : Nat} {a w : World} (h : Below B a w) (n : Nat) : Below B a (w.drewN n) := h.trans ⟨rfl, rfl, rfl, Nat.le_refl _, fun _ _ => rfl⟩

def ordR (x y : Nat) : Int := if x < y then -1 else if y < x then 1 else 0
theorem ordR_lt {x y : Nat} (h : x < y) : ordR x y = -1 := by simp [ordR, h]
theorem ordR_gt {x y : Nat} (h : y < x) : ordR x y = 1 := by simp [ordR, h]; omega
theorem ordR_eq {x y : Nat} (h : x = y) : ordR x y = 0 := by simp [ordR, h]

theorem rev_digit (x k j : Nat) (h : k + j + 1 = (natB 256 x).length) : (natB 256 x).reverse[k]?.getD 0 = x / 256 ^ j % 256 := by
  rw [List.getElem?_reverse (by omega), show (natB 256 x).length - 1 - k = j by omega, natB_get (by decide)]

theorem digit_up {x y j : Nat} (h : x / 256 ^ (j + 1) = y / 256 ^ (j + 1)) : (x / 256 ^ j % 256 < y / 256 ^ j % 256 → x < y) ∧ (x / 256 ^ j % 256 = y / 256 ^ j % 256 → x / 256 ^ j = y / 256 ^ j) := by
  rw [Nat.pow_succ, ← Nat.div_div_eq_div_mul, ← Nat.div_div_eq_div_mul] at h
  constructor
  · intro hl
    have : x / 256 ^ j < y / 256 ^ j := by
      generalize x / 256 ^ j = p at *
      generalize y / 256 ^ j = q at *
      omega
    exact Nat.lt_of_not_le fun hc => by
      have := Nat.div_le_div_right (c := 256 ^ j) hc
      omega
  · intro he
    generalize x / 256 ^ j = p at *
    generalize y / 256 ^ j = q at *
    omega

theorem longer {x y : Nat} (h : (natB 256 x).length < (natB 256 y).length) : x < y := by
  have h1 := (natB_length (b := 256) (by decide) x _).1 (Nat.le_refl _)
  have h2 := (natB_len_lt (b := 256) (by decide) y _).1 h
  omega

theorem top_zero (x : Nat) : x / 256 ^ (natB 256 x).length = 0 := Nat.div_eq_of_lt ((natB_length (b := 256) (by decide) x _).1 (Nat.le_refl _))

set_option maxRecDepth 100000 in
set_option maxHeartbeats 1000000 in
theorem cmp_any (a a' : Option Addr) (n c n' c' : Nat) (l l' : List Nat) (w : World) (h : Reads .u32 w a n c l) (h' : Reads .u32 w a' n' c' l') (hL : Lim l) (hL' : Lim l') (hm : n ≤ 1000000000000) (hm' : n' ≤ 1000000000000) (r : Int) (hr : r = ordR (val32 l) (val32 l')) :
    Calls Tryd.prog 17 #[.slice a n c, .slice a' n' c'] w fun e w' => e = .returned (.int .i64 r) ∧ Below w.heap.size w w' := by
  have HD := Lib.hid (bytes_any a n c l w h hL hm)
  have HR := Lib.hid h'
  have HL := Lib.hid hL'
  have hlb : (natB 256 (val32 l)).length ≤ 4 * n := by
    rw [natB_length (by decide), ← pow32, ← h.length]
    exact valB_lt (by decide) hL
  have hlb' : (natB 256 (val32 l')).length ≤ 4 * n' := by
    rw [natB_length (by decide), ← pow32, ← h'.length]
    exact valB_lt (by decide) hL'
  clear h h' hL hL'
  go_enter Tryd.func17, Tryd.ntmps17
  go_wp2_with fail
  refine HD.out.mono ?_
  rintro e w1 ⟨⟨v, rfl, ho⟩, hb⟩
  obtain ⟨a1, n1, c1, rfl, hn1, ho1⟩ := own_slice ho
  rw [List.length_reverse] at hn1
  have HB := Lib.hid hb
  have HO1 := Lib.hid ho1.reads
  have hx1 : n1 ≤ 4000000000000 := by omega
  have HN1 := Lib.hid hn1
  clear ho ho1 hb hn1 hlb
  go_wp2_with fail
  refine (bytes_any a' n' c' l' _ (HR.out.below HB.out) HL.out hm').mono ?_
  rintro e w2 ⟨⟨v, rfl, ho⟩, hb⟩
  obtain ⟨a2, n2, c2, rfl, hn2, ho2⟩ := own_slice ho
  rw [List.length_reverse] at hn2
  have HB2 := Lib.hid (HB.out.trans (hb.mono HB.out.size))
  have R1 := Lib.hid (HO1.out.below hb)
  have R2 := Lib.hid ho2.reads
  have hx2 : n2 ≤ 4000000000000 := by omega
  have HN2 := Lib.hid hn2
  clear ho ho2 hb hn2 hlb'
  clear HO1 HB HD HR HL
  generalize val32 l = x at *
  generalize val32 l' = y at *
  have HRR := Lib.hid hr
  clear hr
  rcases Nat.lt_trichotomy n1 n2 with hc | rfl | hc
  · have hres := Lib.hid (show r = -1 by rw [HRR.out]; exact ordR_lt (longer (by rw [← HN1.out, ← HN2.out]; exact hc)))
    have t1 : ((n1 : Int) == n2) = false := by simp; omega
    go_wp2
    go_ret
    exact ⟨by rw [hres.out]; rfl, HB2.out⟩
  · go_wp2
    go_loopw [7] (fun i wr => ∃ k j : Nat, i = .int .i64 (k : Int) ∧ k + j = n1 ∧ Hid (x / 256 ^ j = y / 256 ^ j) ∧ Hid (Below w.heap.size w wr) ∧ Hid (Below w2.heap.size w2 wr)) (fun i _ => n1 - (intOf i).toNat)
    case atStart => exact ⟨0, n1, rfl, by omega, by unfold Hid; rw [HN1.out, top_zero, ← HN1.out, HN2.out, top_zero], HB2.out, Below.refl _ _⟩
    case round =>
      obtain ⟨k, j, rfl, hkj, hq, hbel, hbw⟩ := hrel
      rcases Nat.eq_zero_or_pos j with rfl | hp
      · have hres := Lib.hid (show r = 0 by rw [HRR.out]; exact ordR_eq (by simpa using hq.out))
        obtain rfl : k = n1 := by omega
        go_wp2
        go_ret
        exact ⟨by rw [hres.out]; rfl, hbel.out⟩
      · obtain ⟨i, rfl⟩ : ∃ i, j = i + 1 := ⟨j - 1, by omega⟩
        clear hp
        obtain ⟨b, off, rfl, hbk, hcl⟩ := (R1.out.below hbw.out).cells (by omega)
        obtain ⟨b', off', rfl, hbk', hcl'⟩ := (R2.out.below hbw.out).cells (by omega)
        have hck := hcl k (by omega)
        have hck' := hcl' k (by omega)
        rw [rev_digit x k i (by rw [← HN1.out]; omega)] at hck
        rw [rev_digit y k i (by rw [← HN2.out]; omega)] at hck'
        obtain ⟨hlt, heq⟩ := digit_up hq.out
        have hgt := (digit_up hq.out.symm).1
        have hd1 : x / 256 ^ i % 256 < 256 := Nat.mod_lt _ (by decide)
        have hd2 : y / 256 ^ i % 256 < 256 := Nat.mod_lt _ (by decide)
        have HLT := Lib.hid hlt
        have HEQ := Lib.hid heq
        have HGT := Lib.hid hgt
        have hkn : k < n1 := by omega
        clear hcl hcl' hlt heq hgt
        generalize x / 256 ^ i % 256 = d at *
        generalize y / 256 ^ i % 256 = d' at *
        rcases Nat.lt_trichotomy d d' with h1 | h1 | h1
        · have hres := Lib.hid (show r = -1 by rw [HRR.out]; exact ordR_lt (HLT.out h1))
          have t1 : decide (d < d') = true := decide_eq_true h1
          clear HLT HEQ HGT
          go_wp2_with go_quiet (fail)
          go_ret
          exact ⟨by rw [hres.out]; rfl, below_drewN hbel.out _⟩
        · have hq2 := Lib.hid (HEQ.out h1)
          subst h1
          clear HLT HEQ HGT
          go_wp2_with go_quiet (fail)
          go_roundw
          case rel => exact ⟨k + 1, i, by go_num, by omega, hq2.out, below_drewN hbel.out _, below_drewN hbw.out _⟩
          case measure => simp [intOf] <;> omega
        · have hres := Lib.hid (show r = 1 by rw [HRR.out]; exact ordR_gt (HGT.out h1))
          have t1 : decide (d < d') = false := decide_eq_false (by omega)
          have t2 : decide (d' < d) = true := decide_eq_true h1
          clear HLT HEQ HGT
          go_wp2_with go_quiet (fail)
          go_ret
          exact ⟨by rw [hres.out]; rfl, below_drewN (below_drewN hbel.out _) _⟩
  · have hres := Lib.hid (show r = 1 by rw [HRR.out]; exact ordR_gt (longer (by rw [← HN1.out, ← HN2.out]; exact hc)))
    have t1 : ((n1 : Int) == n2) = false := by simp; omega
    have t2 : decide ((n1 : Int) < n2) = false := by simp; omega
    go_wp2
    go_ret
    exact ⟨by rw [hres.out]; rfl, HB2.out⟩

end rf

end Go.Proofs.YtpefjkndfifceaaDoor

namespace Go.Proofs.YtpefjkndfifceaaDoor
open Go.RowKit
namespace rf

def AddI (A B : List Nat) (k : Nat) (O : List Nat) (c : Nat) : Prop := O.length = k ∧ Byt O ∧ c ≤ 1 ∧ valB 256 O + 256 ^ k * c = valB 256 (A.take k) + valB 256 (B.take k)

theorem addI_nil (A B : List Nat) : AddI A B 0 [] 0 := ⟨rfl, fun _ h => (by cases h), by omega, rfl⟩

theorem addI_step {A B : List Nat} {k : Nat} {O : List Nat} {c : Nat} (hA : Byt A) (hB : Byt B) (h : AddI A B k O c) (s : Nat) (hs : s = c + A[k]?.getD 0 + B[k]?.getD 0) : AddI A B (k + 1) (O ++ [s % 256]) (s / 256) := by
  obtain ⟨h1, h2, h3, h4⟩ := h
  have ha := get_lt (by decide) hA k
  have hb := get_lt (by decide) hB k
  refine ⟨by rw [List.length_append, h1]; rfl, ?_, by omega, ?_⟩
  · intro x hx
    rcases List.mem_append.1 hx with h | h
    · exact h2 x h
    · obtain rfl := List.mem_singleton.1 h; exact Nat.mod_lt _ (by decide)
  · rw [valB_snoc, valB_succ, valB_succ, h1, Nat.pow_succ]
    generalize 256 ^ k = p at *
    generalize A[k]?.getD 0 = a at *
    generalize B[k]?.getD 0 = b at *
    have e : p * (s % 256) + p * 256 * (s / 256) = p * s := by
      rw [Nat.mul_assoc, ← Nat.mul_add]; congr 1; omega
    have e2 : p * s = p * c + p * a + p * b := by rw [hs, Nat.mul_add, Nat.mul_add]
    omega

theorem addI_end {A B : List Nat} {k : Nat} {O : List Nat} (h : AddI A B k O 0) (hA : A.length ≤ k) (hB : B.length ≤ k) : valB 256 O = valB 256 A + valB 256 B := by
  obtain ⟨-, -, -, h4⟩ := h
  rw [List.take_of_length_le hA, List.take_of_length_le hB] at h4
  simpa using h4

theorem sum_large {x y : Nat} (h : ¬ (x < topN ∧ y < topN)) : cutR32 (x + y) = ([], 20) := cutR_large (by omega)

end rf
end Go.Proofs.YtpefjkndfifceaaDoor
namespace Go.Proofs.YtpefjkndfifceaaDoor
open Go.RowKit
namespace rf
theorem OwnQ.made {q : IntKind} {E : TypeId} {B : Nat} {w : World} {g n : Nat} {z : List Value} (h : w.ownsRow B E 1 (.slice (some ⟨g, 0, none⟩) n n) n z) (hz : z = (madeCells (Value.int q 0).cells (n * 1)).toList) : OwnQ q E B w (.slice (some ⟨g, 0, none⟩) n n) (List.replicate n 0) := by
  unfold OwnQ
  rw [← zeros_q, ← hz]
  simpa using h

theorem wpList_make_lc {P : Program} (q : IntKind) (w : World) {ops : Array Oper} {rest : List Oper} {o : Oper} {a : Act} {Q : Exit → Act → World → Prop}
    (hg : o.guard = none) (l c : Operand) (t : TypeId) (hop : o.op = Op.makeSlice t l c)
    (base : Nat) (e : TypeId) (i : TypeInfo) (h1 : P.underlying t = some (.slice e)) (h2 : P.info? e = some i) (h3 : i.zero = some (.int q 0)) (h4 : i.size = 1)
    (kl kc : IntKind) (L C : Int) (m n : Nat) (hl : a.eval l = .int kl L) (hc : a.eval c = .int kc C) (hL : L = (m : Int)) (hC : C = (n : Int)) (hmn : m ≤ n) (b2 : i.bytes * n ≤ 281474976710656) (b3 : n ≤ maxLen) (b4 : base ≤ w.heap.size)
    (hK : ∀ w', OwnQ q e base w' (.slice (some ⟨w.heap.size, 0, none⟩) m n) (List.replicate m 0) → w.grownBy w' none → wpList P ops Q rest (a.put o.dst (.slice (some ⟨w.heap.size, 0, none⟩) m n)) w') :
    wpList P ops Q (o :: rest) a w := by
  refine wpList_plain hg fun K hK' => ?_
  subst hL
  subst hC
  have h63' : (n : Int) ≤ 9223372036854775807 := by
    have h := b3
    simp [maxLen] at h
    omega
  have hb' : (i.bytes : Int) * (n : Int) ≤ 281474976710656 := by
    have h : ((i.bytes * n : Nat) : Int) ≤ 281474976710656 := by omega
    rwa [Int.natCast_mul] at h
  have hr := run_make (P := P) w t e i (.int q 0) h1 h2 h3 kl kc m n (by omega) (by omega) hb' h63'
  simp only [Int.toNat_natCast] at hr
  have hown : OwnQ q e base (w.alloc (.cells (madeCells (Value.int q 0).cells (n * i.size)) e)) (.slice (some ⟨w.heap.size, 0, none⟩) n n) (List.replicate n 0) := by
    rw [h4]
    exact OwnQ.made (World.ownsRow_lit w _ n b4 b3 (size_madeCells _ _)) rfl
  have hup := hown.upto m hmn
  rw [List.take_replicate, Nat.min_eq_left hmn] at hup
  unfold Oper.wp
  simp [execOp, hop, hl, hc, hr, Result.andThen]
  exact hK' _ _ (hK _ hup (World.grownBy_alloc w _ none))

theorem valB_set (b : Nat) : ∀ (l : List Nat) (t d : Nat), t < l.length → valB b (l.set t d) + b ^ t * (l[t]?.getD 0) = valB b l + b ^ t * d
  | [], t, d, h => by simp at h
  | c :: l, 0, d, _ => by simp [valB]; omega
  | c :: l, t + 1, d, h => by
    have := valB_set b l t d (by simpa using h)
    simp only [List.set_cons_succ, valB, List.getElem?_cons_succ, Nat.pow_succ]
    have e1 : b ^ t * b * (l[t]?.getD 0) = b * (b ^ t * (l[t]?.getD 0)) := by rw [Nat.mul_comm (b ^ t) b, Nat.mul_assoc]
    have e2 : b ^ t * b * d = b * (b ^ t * d) := by rw [Nat.mul_comm (b ^ t) b, Nat.mul_assoc]
    have e3 : b * (valB b (l.set t d) + b ^ t * (l[t]?.getD 0)) = b * (valB b l + b ^ t * d) := by rw [this]
    rw [Nat.mul_add, Nat.mul_add] at e3
    omega

theorem getD_set (P : List Nat) (t d s : Nat) (h : t < P.length) : (P.set t d)[s]?.getD 0 = if t = s then d else P[s]?.getD 0 := by
  rw [List.getElem?_set]
  by_cases e : t = s
  · subst e; simp [h]
  · simp [e]

def mulR (x y : Nat) : List Nat × Int := if x < topN ∧ y < topN then cutR32 (x * y) else ([], 20)
theorem mulR_yes {x y : Nat} (h : x < topN ∧ y < topN) : mulR x y = cutR32 (x * y) := if_pos h
theorem mulR_no {x y : Nat} (h : ¬ (x < topN ∧ y < topN)) : mulR x y = ([], 20) := if_neg h

/-- `i` whole rows are in, and of the next one `j` digits. -/
def MulI (A B P : List Nat) (N i j : Nat) : Prop := P.length = N ∧ (∀ t : Nat, P[t]?.getD 0 ≤ 65025 * i + 65025) ∧ (∀ t : Nat, i + j ≤ t → P[t]?.getD 0 ≤ 65025 * i) ∧ valB 256 P = valB 256 (A.take i) * valB 256 B + 256 ^ i * (A[i]?.getD 0) * valB 256 (B.take j)
def MulO (A B P : List Nat) (N i : Nat) : Prop := P.length = N ∧ (∀ t : Nat, P[t]?.getD 0 ≤ 65025 * i) ∧ valB 256 P = valB 256 (A.take i) * valB 256 B

theorem mulO_start (A B : List Nat) (N : Nat) : MulO A B (List.replicate N 0) N 0 := ⟨by simp, fun t => by
  have h : (List.replicate N 0)[t]?.getD 0 = 0 := by
    rw [List.getElem?_replicate]; split <;> rfl
  omega, by rw [valB_zeros, List.take_zero]; simp [valB]⟩
theorem mulI_start {A B P : List Nat} {N i : Nat} (h : MulO A B P N i) : MulI A B P N i 0 := by
  obtain ⟨h1, h2, h3⟩ := h
  refine ⟨h1, fun t => by have := h2 t; omega, fun t _ => h2 t, ?_⟩
  rw [List.take_zero, show valB 256 [] = 0 from rfl, Nat.mul_zero, Nat.add_zero]; exact h3
theorem mulI_end {A B P : List Nat} {N i j : Nat} (h : MulI A B P N i j) (hj : B.length ≤ j) : MulO A B P N (i + 1) := by
  obtain ⟨h1, h2, -, h4⟩ := h
  refine ⟨h1, fun t => by have := h2 t; omega, ?_⟩
  rw [List.take_of_length_le hj] at h4
  rw [h4, valB_succ, Nat.add_mul]
theorem mulI_step {A B P : List Nat} {N i j : Nat} (hA : Byt A) (hB : Byt B) (h : MulI A B P N i j) (hN : i + j < N) (s : Nat) (hs : s = P[i + j]?.getD 0 + A[i]?.getD 0 * B[j]?.getD 0) : MulI A B (P.set (i + j) s) N i (j + 1) := by
  obtain ⟨h1, h2, h3, h4⟩ := h
  have ha := get_lt (by decide) hA i
  have hb := get_lt (by decide) hB j
  have hab : A[i]?.getD 0 * B[j]?.getD 0 ≤ 255 * 255 := Nat.mul_le_mul (by omega) (by omega)
  have hz := h3 (i + j) (Nat.le_refl _)
  have hv := valB_set 256 P (i + j) s (by omega)
  refine ⟨by rw [List.length_set]; exact h1, fun t => ?_, fun t ht => ?_, ?_⟩
  · rw [getD_set _ _ _ _ (by omega)]
    split
    · omega
    · exact h2 t
  · rw [getD_set _ _ _ _ (by omega), if_neg (by omega)]
    exact h3 t (by omega)
  · rw [valB_succ]
    rw [hs, Nat.mul_add] at hv
    rw [Nat.mul_add, ← Nat.add_assoc, ← h4]
    have e : 256 ^ i * (A[i]?.getD 0) * (256 ^ j * (B[j]?.getD 0)) = 256 ^ (i + j) * (A[i]?.getD 0 * (B[j]?.getD 0)) := by
      rw [Nat.pow_add]
      simp only [Nat.mul_assoc, Nat.mul_left_comm]
    rw [e]
    rw [hs]
    omega

/-- Carried up to `k`. -/
def CarI (P : List Nat) (N v M k : Nat) : Prop := P.length = N ∧ valB 256 P = v ∧ (∀ t : Nat, t < k → P[t]?.getD 0 < 256) ∧ (∀ t : Nat, k < t → P[t]?.getD 0 ≤ M) ∧ P[k]?.getD 0 ≤ 2 * M

theorem carI_start {A B P : List Nat} {N i : Nat} (h : MulO A B P N i) (hi : A.length ≤ i) (M : Nat) (hM : 65025 * i ≤ M) : CarI P N (valB 256 A * valB 256 B) M 0 := by
  obtain ⟨h1, h2, h3⟩ := h
  rw [List.take_of_length_le hi] at h3
  exact ⟨h1, h3, fun t ht => by omega, fun t _ => by have := h2 t; omega, by have := h2 0; omega⟩

theorem carI_step {P : List Nat} {N v M k : Nat} (h : CarI P N v M k) (hk : k + 1 < N) (s u : Nat) (hs : s = P[k + 1]?.getD 0 + P[k]?.getD 0 / 256) (hu : u = P[k]?.getD 0 % 256) : CarI ((P.set (k + 1) s).set k u) N v M (k + 1) := by
  obtain ⟨h1, h2, h3, h4, h5⟩ := h
  have hz := h4 (k + 1) (by omega)
  have v1 := valB_set 256 P (k + 1) s (by omega)
  have v2 := valB_set 256 (P.set (k + 1) s) k u (by rw [List.length_set]; omega)
  rw [getD_set _ _ _ _ (by omega), if_neg (by omega)] at v2
  have hget : ∀ t : Nat, ((P.set (k + 1) s).set k u)[t]?.getD 0 = if k = t then u else if k + 1 = t then s else P[t]?.getD 0 := fun t => by
    rw [getD_set _ _ _ _ (by rw [List.length_set]; omega), getD_set _ _ _ _ (by omega)]
  refine ⟨by simp [h1], ?_, fun t ht => ?_, fun t ht => ?_, ?_⟩
  · rw [← h2]
    rw [Nat.pow_succ] at v1
    generalize 256 ^ k = p at *
    generalize P[k]?.getD 0 = a at *
    generalize P[k + 1]?.getD 0 = b at *
    have e1 : p * 256 * s = p * 256 * b + p * 256 * (a / 256) := by rw [hs, Nat.mul_add]
    have e2 : p * a = p * 256 * (a / 256) + p * u := by rw [hu, Nat.mul_assoc, ← Nat.mul_add]; congr 1; omega
    omega
  · rw [hget]
    by_cases e : k = t
    · rw [if_pos e, hu]; exact Nat.mod_lt _ (by decide)
    · rw [if_neg e, if_neg (by omega)]; exact h3 t (by omega)
  · rw [hget, if_neg (by omega), if_neg (by omega)]; exact h4 t (by omega)
  · rw [hget, if_neg (by omega), if_pos rfl, hs]; omega

theorem carI_end {P : List Nat} {N v M k : Nat} (h : CarI P N v M k) (hk : k + 1 = N) (hv : v < 256 ^ k) : Byt P := by
  obtain ⟨h1, h2, h3, -, -⟩ := h
  intro x hx
  obtain ⟨t, ht, rfl⟩ := List.getElem_of_mem hx
  have e : P[t]?.getD 0 = P[t] := by rw [List.getElem?_eq_getElem ht]; rfl
  rw [← e]
  rcases Nat.lt_or_ge t k with h | h
  · exact h3 t h
  · obtain rfl : t = k := by omega
    have hs := valB_succ (b := 256) P t
    rw [List.take_of_length_le (by omega), h2] at hs
    rcases Nat.eq_zero_or_pos (P[t]?.getD 0) with h0 | h0
    · omega
    · have := Nat.mul_le_mul_left (256 ^ t) h0
      omega

theorem fun_below {B : Nat} {w wr w' : World} (h : Below B w wr) (g : ∀ w0, Below B w0 wr → Below B w0 w') : Below B w w'.drew := (g w h).drew

theorem mul_small {x y a b : Nat} (hx : x < 256 ^ a) (hy : y < 256 ^ b) (c : Nat) : x * y < 256 ^ (a + b + c) := by
  rw [Nat.pow_add, Nat.pow_add]
  have h1 : x * y < 256 ^ a * 256 ^ b := Nat.mul_lt_mul'' hx hy
  exact Nat.lt_of_lt_of_le h1 (Nat.le_mul_of_pos_right _ (Nat.pow_pos (by decide)))

end rf

end Go.Proofs.YtpefjkndfifceaaDoor

namespace Go.Proofs.YtpefjkndfifceaaDoor
open Go.RowKit
namespace rf

end rf
end Go.Proofs.YtpefjkndfifceaaDoor
namespace Go.Proofs.YtpefjkndfifceaaDoor
open Go.RowKit
namespace rf
theorem topN_pos : 0 < topN := by unfold topN; exact Nat.pow_pos (by decide)
theorem topN_two : topN = 2 ^ 8192 := by
  have h : ∀ a b c d e : Nat, a = b ^ c → e = c * d → a ^ d = b ^ e := by
    rintro a b c d e rfl rfl
    exact (Nat.pow_mul b c d).symm
  exact h 4294967296 2 32 256 8192 (by decide) (by decide)
theorem two_lt_at {e n : Nat} (he : topN = 2 ^ e) (h : n < e) : 2 ^ n < topN := by
  rw [he]; exact Nat.pow_lt_pow_right (by decide) h
theorem two_lt {n : Nat} (h : n < 8192) : 2 ^ n < topN := two_lt_at topN_two h
theorem two_ge_at {e v n : Nat} (he : topN = 2 ^ e) (hv : 0 < v) (h : e ≤ n) : ¬ v * 2 ^ n < topN := by
  rw [he, Nat.not_lt]
  exact Nat.le_trans (Nat.pow_le_pow_right (by decide) h) (Nat.le_mul_of_pos_left _ hv)
theorem two_ge {v n : Nat} (hv : 0 < v) (h : 8192 ≤ n) : ¬ v * 2 ^ n < topN := two_ge_at topN_two hv h
theorem cut_zero : cutR32 0 = ([], 0) := by rw [cutR_small topN_pos, show nat32 0 = [] from natB_zero _]
theorem mul_ge {v n : Nat} (h : ¬ v < topN) : ¬ v * 2 ^ n < topN := by
  rw [Nat.not_lt] at h ⊢
  exact Nat.le_trans h (Nat.le_mul_of_pos_right _ (Nat.pow_pos (by decide)))

def shlR (v : Nat) (n : Int) : List Nat × Int := if n < 0 then ([], 2) else cutR32 (v * 2 ^ n.toNat)

theorem power_val (q r : Nat) (hr : r < 32) : val32 ((List.replicate (q + 1) 0).set q (2 ^ r)) = 2 ^ (32 * q + r) ∧ Lim ((List.replicate (q + 1) 0).set q (2 ^ r)) := by
  have h := valB_set 4294967296 (List.replicate (q + 1) 0) q (2 ^ r) (by simp)
  have e : (List.replicate (q + 1) 0)[q]?.getD 0 = 0 := by rw [List.getElem?_replicate]; split <;> rfl
  rw [e, valB_zeros, Nat.mul_zero, Nat.zero_add, Nat.add_zero] at h
  refine ⟨?_, fun x hx => ?_⟩
  · show valB 4294967296 _ = _
    rw [h, Nat.pow_add, Nat.pow_mul]
  · have h2 : 2 ^ r ≤ 2 ^ 31 := Nat.pow_le_pow_right (by decide) (by omega)
    rcases List.mem_or_eq_of_mem_set hx with h | h
    · rw [List.eq_of_mem_replicate h]; decide
    · rw [h]; omega

def PowR (B : Nat) (w' : World) (n : Nat) (e : Ending) : Prop := ∃ v, ∃ l : List Nat, e = .returned v ∧ OwnQ .u32 64 B w' v l ∧ l.length ≤ 257 ∧ Lim l ∧ val32 l = 2 ^ n

theorem bits_zero (v : Nat) : bitsN v = 0 ↔ v = 0 := by
  have := bitsN_le v 0
  rw [Nat.pow_zero] at this
  omega

end rf
end Go.Proofs.YtpefjkndfifceaaDoor
namespace Go.Proofs.YtpefjkndfifceaaDoor
open Go.RowKit
namespace rf
def shrR (v : Nat) (n : Int) : List Nat × Int := if n < 0 then ([], 2) else if v < topN then (nat32 (v / 2 ^ n.toNat), 0) else ([], 20)

/-- The next bit is `i = n + 8 * K + s`; `K` digits are out, `acc` holds the next one's low bits. -/
def ShrG (v n b : Nat) (O : List Nat) (K s i place acc : Nat) : Prop := i = n + 8 * K + s ∧ s < 8 ∧ i < b ∧ place = 2 ^ s ∧ acc = v / 2 ^ (n + 8 * K) % 2 ^ s ∧ O.length = K ∧ Byt O ∧ valB 256 O = v / 2 ^ n % 256 ^ K
def ShrI (v n b : Nat) (O : List Nat) (i place acc : Nat) : Prop := (∃ K s, ShrG v n b O K s i place acc) ∨ (b ≤ i ∧ Byt O ∧ valB 256 O = v / 2 ^ n)

theorem pow8 (K : Nat) : (256 : Nat) ^ K = 2 ^ (8 * K) := by rw [Nat.pow_mul]
theorem shr_split (v n K : Nat) : v / 2 ^ (n + 8 * K) = v / 2 ^ n / 256 ^ K := by rw [pow8, Nat.pow_add, Nat.div_div_eq_div_mul]

theorem shrI_start {v n b : Nat} (hv : v < 2 ^ b) : ShrI v n b [] n 1 0 := by
  rcases Nat.lt_or_ge n b with h | h
  · exact .inl ⟨0, 0, by omega, by omega, h, rfl, by rw [Nat.pow_zero, Nat.mod_one], rfl, fun _ h => (by cases h), by rw [Nat.pow_zero, Nat.mod_one]; rfl⟩
  · refine .inr ⟨h, fun _ h => (by cases h), ?_⟩
    have : v < 2 ^ n := Nat.lt_of_lt_of_le hv (Nat.pow_le_pow_right (by decide) h)
    rw [Nat.div_eq_of_lt this]; rfl

theorem acc_next {v n b : Nat} {O : List Nat} {K s i place acc : Nat} (h : ShrG v n b O K s i place acc) (x : Nat) (hx : x = acc + if v.testBit i then place else 0) : x = v / 2 ^ (n + 8 * K) % 2 ^ (s + 1) := by
  obtain ⟨rfl, -, -, rfl, rfl, -⟩ := h
  rw [hx, Nat.mod_pow_succ, Nat.div_div_eq_div_mul, ← Nat.pow_add, Nat.testBit_eq_decide_div_mod_eq]
  have := Nat.mod_two_eq_zero_or_one (v / 2 ^ (n + 8 * K + s))
  rcases this with e | e <;> rw [e] <;> simp

theorem shr_push {v n b : Nat} {O : List Nat} {K s i place acc : Nat} (hv : v < 2 ^ b) (h : ShrG v n b O K s i place acc) (he : s = 7 ∨ i + 1 = b) (x : Nat) (hx : x = acc + if v.testBit i then place else 0) : x < 256 ∧ ShrI v n b (O ++ [x]) (i + 1) 1 0 := by
  have hacc := acc_next h x hx
  obtain ⟨hi, hs, hb, -, -, h5, h6, h7⟩ := h
  have h256 : 2 ^ (s + 1) ≤ 2 ^ 8 := Nat.pow_le_pow_right (by decide) (by omega)
  have hxl : x < 2 ^ (s + 1) := by rw [hacc]; exact Nat.mod_lt _ (Nat.pow_pos (by decide))
  have hx2 : x < 256 := by omega
  have hby : Byt (O ++ [x]) := fun y hy => by
    rcases List.mem_append.1 hy with h | h
    · exact h6 y h
    · obtain rfl := List.mem_singleton.1 h; exact hx2
  have hy : v / 2 ^ n < 2 ^ (b - n) := by
    rw [Nat.div_lt_iff_lt_mul (Nat.pow_pos (by decide)), ← Nat.pow_add, show b - n + n = b by omega]; exact hv
  rw [shr_split] at hacc
  generalize hyy : v / 2 ^ n = y at *
  have hval : valB 256 (O ++ [x]) = y % 256 ^ K + 256 ^ K * x := by rw [valB_snoc, h5, h7]
  refine ⟨hx2, ?_⟩
  rcases Nat.lt_or_ge (i + 1) b with hlt | hge
  · have e7 : s = 7 := by omega
    refine .inl ⟨K + 1, 0, by omega, by omega, hlt, rfl, by rw [Nat.pow_zero, Nat.mod_one], by rw [List.length_append, h5]; rfl, hby, ?_⟩
    rw [hval, hacc, e7, hyy, Nat.mod_pow_succ (b := 256)]
  · refine .inr ⟨hge, hby, ?_⟩
    have hyl : y / 256 ^ K < 2 ^ (s + 1) := by
      rw [Nat.div_lt_iff_lt_mul (Nat.pow_pos (by decide)), pow8, ← Nat.pow_add]
      exact Nat.lt_of_lt_of_le hy (Nat.pow_le_pow_right (by decide) (by omega))
    rw [hval, hacc, hyy, Nat.mod_eq_of_lt hyl, Nat.mod_add_div]

theorem shr_go {v n b : Nat} {O : List Nat} {K s i place acc : Nat} (h : ShrG v n b O K s i place acc) (hs : s < 7) (hi : i + 1 < b) (x : Nat) (hx : x = acc + if v.testBit i then place else 0) : ShrI v n b O (i + 1) (2 * place) x := by
  have hacc := acc_next h x hx
  obtain ⟨h1, h2, h3, h4, -, h5, h6, h7⟩ := h
  exact .inl ⟨K, s + 1, by omega, by omega, hi, by rw [h4, Nat.pow_succ, Nat.mul_comm], hacc, h5, h6, h7⟩

theorem shr_place {v n b : Nat} {O : List Nat} {K s i place acc : Nat} (h : ShrG v n b O K s i place acc) : (s = 7 ∧ place = 128 ∨ s < 7 ∧ place ≤ 64) ∧ acc < 256 := by
  obtain ⟨-, h2, -, h4, h5, -⟩ := h
  have hp : place ≤ 128 := by
    rw [h4]; exact Nat.pow_le_pow_right (show 0 < 2 by decide) (show s ≤ 7 by omega)
  refine ⟨?_, ?_⟩
  · rcases Nat.lt_or_ge s 7 with h | h
    · exact .inr ⟨h, by rw [h4]; exact Nat.pow_le_pow_right (show 0 < 2 by decide) (show s ≤ 6 by omega)⟩
    · exact .inl ⟨by omega, by rw [h4, show s = 7 by omega]⟩
  · have : acc < 2 ^ s := by rw [h5]; exact Nat.mod_lt _ (Nat.pow_pos (by decide))
    omega

theorem shr_len {v n b : Nat} {O : List Nat} {K s i place acc : Nat} (h : ShrG v n b O K s i place acc) : 8 * O.length ≤ b := by
  obtain ⟨h1, -, h3, -, -, h5, -⟩ := h
  omega

end rf

end Go.Proofs.YtpefjkndfifceaaDoor

namespace Go.Proofs.YtpefjkndfifceaaDoor
open Go.RowKit
namespace rf

end rf
end Go.Proofs.YtpefjkndfifceaaDoor
namespace Go.Proofs.YtpefjkndfifceaaDoor
open Go.RowKit
namespace rf
set_option maxRecDepth 100000 in
set_option maxHeartbeats 1000000 in
theorem read_any (a : Option Addr) (len cap : Nat) (l : List Nat) (w : World) (h : Reads .u8 w a len cap l) (hL : Byt l) (hm : len ≤ 1000000000000) :
    Calls Tryd.prog 29 #[.slice a len cap] w fun e w' => RetsQ2 .u32 64 w.heap.size w' (cutR32 (valB 256 l.reverse)) e ∧ Below w.heap.size w w' := by
  obtain ⟨i0, hi, hz0, hz1, hz2⟩ := info_parts infoI
  have HN := Lib.hid h.length
  have HRD := Lib.hid h
  have HBT := Lib.hid hL
  have HBR := Lib.hid (show Byt l.reverse from fun x hx => hL x (List.mem_reverse.1 hx))
  clear h hL
  go_enter Tryd.func29, Tryd.ntmps29
  go_wp2
  go_loopw [4, 5] (fun v i wr => ∃ k : Nat, ((∃ j : Nat, i = .int .i64 j ∧ j + k + 1 = len) ∨ (i = .int .i64 (-1) ∧ k = len)) ∧ OwnQ .i64 3 w.heap.size wr v (l.reverse.take k) ∧ Hid (Below w.heap.size w wr)) (fun _ i _ => (intOf i + 1).toNat)
  case atStart => exact ⟨0, down_start len, by simpa using OwnQ.nil _ _ _ _, Below.refl _ _⟩
  case round =>
    obtain ⟨k, hj, hown, hbel⟩ := hrel
    obtain ⟨wo, rfl⟩ : ∃ wo : World, wo = wr := ⟨_, rfl⟩
    obtain ⟨v2, n2, c2, rfl, -, hown⟩ := own_slice hown
    rcases hj with ⟨j, rfl, hjk⟩ | ⟨rfl, hkn⟩
    · obtain ⟨b, off, rfl, hbk, hc⟩ := (HRD.out.below hbel.out).cells (by omega)
      have hck := hc j (by omega)
      have hd := get_lt (by decide) HBT.out j
      have hrs := Lib.hid (rev_succ l j k (by rw [HN.out]; exact hjk))
      have hsz := hbel.out.size
      have HO := Lib.hid hown
      have HJK := Lib.hid hjk
      have hjn : j < len := by omega
      have hlen := Lib.hid (show (l.reverse.take k).length ≤ len by rw [List.length_take, List.length_reverse, HN.out]; omega)
      clear hc hown hjk
      generalize l[j]?.getD 0 = d at *
      go_wp2_with (at_builtin; refine wpList_append_q .i64 _ rfl _ _ 52 rfl w.heap.size 3 8 i0 Tryd.underlying52 hi hz0 hz1 hz2 (by decide) _ (l.reverse.take k) rfl (HO.out.alloc _) _ _ _ [d] rfl (Reads.one .i64 _ _ _ _ (by omega)) (by have := hlen.out; omega) (by simp; omega) ?_; intro v' w2 hown2 hgrow)
      go_roundw
      case rel => exact ⟨k + 1, down_next HJK.out, by rw [hrs.out]; exact hown2, hgrow _ (hbel.out.alloc hsz _)⟩
      case measure => simp [intOf] <;> omega
    · have hfin := Lib.hid (show l.reverse.take k = l.reverse by rw [List.take_of_length_le]; rw [List.length_reverse, HN.out]; omega)
      rw [hfin.out] at hown
      have HC := Lib.hid (cut_any _ _ _ l.reverse _ hown.reads HBR.out)
      have hsz := hbel.out.size
      clear hkn hown
      go_wp2_with fail
      refine HC.out.mono ?_
      rintro e w3 ⟨⟨v3, rfl, ho3⟩, hb3⟩
      have HBZ := Lib.hid (hbel.out.trans (hb3.mono hsz))
      go_wp2
      go_ret2
      exact ⟨⟨_, rfl, ho3.mono hsz⟩, HBZ.out⟩

end rf

end Go.Proofs.YtpefjkndfifceaaDoor

namespace Go.Proofs.YtpefjkndfifceaaDoor
open Go.RowKit
namespace rf

def subR (x y : Nat) : List Nat × Int := if x < topN ∧ y < topN ∧ y ≤ x then (nat32 (x - y), 0) else ([], 20)
theorem subR_yes {x y : Nat} (h : x < topN ∧ y < topN ∧ y ≤ x) : subR x y = (nat32 (x - y), 0) := if_pos h
theorem subR_no {x y : Nat} (h : ¬ (x < topN ∧ y < topN ∧ y ≤ x)) : subR x y = ([], 20) := if_neg h

def SubI (A B : List Nat) (k : Nat) (O : List Nat) (c : Nat) : Prop := O.length = k ∧ Byt O ∧ c ≤ 1 ∧ valB 256 O + valB 256 (B.take k) = valB 256 (A.take k) + 256 ^ k * c

theorem subI_nil (A B : List Nat) : SubI A B 0 [] 0 := ⟨rfl, fun _ h => (by cases h), by omega, rfl⟩

theorem subI_step {A B : List Nat} {k : Nat} {O : List Nat} {c : Nat} (h : SubI A B k O c) (s c' : Nat) (hc' : c' ≤ 1) (hs : s + c + B[k]?.getD 0 = A[k]?.getD 0 + 256 * c') (hs2 : s < 256) : SubI A B (k + 1) (O ++ [s]) c' := by
  obtain ⟨h1, h2, h3, h4⟩ := h
  refine ⟨by rw [List.length_append, h1]; rfl, ?_, hc', ?_⟩
  · intro x hx
    rcases List.mem_append.1 hx with h | h
    · exact h2 x h
    · obtain rfl := List.mem_singleton.1 h; exact hs2
  · rw [valB_snoc, valB_succ, valB_succ, h1, Nat.pow_succ]
    generalize 256 ^ k = p at *
    generalize A[k]?.getD 0 = a at *
    generalize B[k]?.getD 0 = b at *
    have e : p * (s + c + b) = p * (a + 256 * c') := by rw [hs]
    rw [Nat.mul_add, Nat.mul_add, Nat.mul_add, ← Nat.mul_assoc p 256 c'] at e
    omega

theorem subI_end {A B : List Nat} {k c : Nat} {O : List Nat} (h : SubI A B k O c) (hA : A.length ≤ k) (hB : B.length ≤ k) (hle : valB 256 B ≤ valB 256 A) : valB 256 O = valB 256 A - valB 256 B := by
  obtain ⟨h1, h2, h3, h4⟩ := h
  rw [List.take_of_length_le hA, List.take_of_length_le hB] at h4
  have hv := valB_lt (b := 256) (by decide) h2
  rw [h1] at hv
  have : c = 0 := by
    rcases Nat.eq_zero_or_pos c with h | h
    · exact h
    · obtain rfl : c = 1 := by omega
      omega
  subst this
  omega

end rf
end Go.Proofs.YtpefjkndfifceaaDoor
namespace Go.Proofs.YtpefjkndfifceaaDoor
open Go.RowKit
namespace rf
theorem natB_short (x : Nat) : bareN (natB 256 x) = natB 256 x := by
  rw [bareN_eq (by decide) (natB_digit (by decide) x), natB_val (by decide)]

theorem longer_le {x y : Nat} (h : (natB 256 x).length < (natB 256 y).length) : decide (x < y) = true := decide_eq_true (longer h)
theorem shorter_le {x y : Nat} (h : (natB 256 y).length < (natB 256 x).length) : decide (x < y) = false := decide_eq_false (by have := longer h; omega)

end rf
end Go.Proofs.YtpefjkndfifceaaDoor
namespace Go.Proofs.YtpefjkndfifceaaDoor
open Go.RowKit
namespace rf
theorem natB_of_val {l : List Nat} {v : Nat} (hb : Byt l) (hv : valB 256 l = v) : natB 256 v = l.take (bareN l).length := by
  rw [← bareN_prefix, bareN_eq (by decide) hb, hv]

def TwI (A : List Nat) (k : Nat) (O : List Nat) (c : Nat) : Prop := O.length = k ∧ Byt O ∧ c ≤ 1 ∧ valB 256 O + 256 ^ k * c = 2 * valB 256 (A.take k)

theorem twI_nil (A : List Nat) : TwI A 0 [] 0 := ⟨rfl, fun _ h => (by cases h), by omega, rfl⟩

theorem twI_step {A : List Nat} {k : Nat} {O : List Nat} {c : Nat} (hA : Byt A) (h : TwI A k O c) (s : Nat) (hs : s = c + 2 * (A[k]?.getD 0)) : TwI A (k + 1) (O ++ [s % 256]) (s / 256) := by
  obtain ⟨h1, h2, h3, h4⟩ := h
  have ha := get_lt (by decide) hA k
  refine ⟨by rw [List.length_append, h1]; rfl, ?_, by omega, ?_⟩
  · intro x hx
    rcases List.mem_append.1 hx with h | h
    · exact h2 x h
    · obtain rfl := List.mem_singleton.1 h; exact Nat.mod_lt _ (by decide)
  · rw [valB_snoc, valB_succ, h1, Nat.pow_succ]
    generalize 256 ^ k = p at *
    generalize A[k]?.getD 0 = a at *
    have e : p * (s % 256) + p * 256 * (s / 256) = p * s := by
      rw [Nat.mul_assoc, ← Nat.mul_add]; congr 1; omega
    have e2 : p * s = p * c + 2 * (p * a) := by rw [hs, Nat.mul_add, Nat.mul_left_comm]
    omega

theorem twI_end {A : List Nat} {k c : Nat} {O : List Nat} (h : TwI A k O c) (hA : A.length ≤ k) : Byt (O ++ [c]) ∧ valB 256 (O ++ [c]) = 2 * valB 256 A := by
  obtain ⟨h1, h2, h3, h4⟩ := h
  rw [List.take_of_length_le hA] at h4
  refine ⟨?_, by rw [valB_snoc, h1, h4]⟩
  intro x hx
  rcases List.mem_append.1 hx with h | h
  · exact h2 x h
  · obtain rfl := List.mem_singleton.1 h; omega

end rf
end Go.Proofs.YtpefjkndfifceaaDoor
namespace Go.Proofs.YtpefjkndfifceaaDoor
open Go.RowKit
namespace rf
theorem valB_drop (b : Nat) (l : List Nat) (i : Nat) : valB b (l.drop i) = l[i]?.getD 0 + b * valB b (l.drop (i + 1)) := by
  by_cases h : i < l.length
  · rw [List.drop_eq_getElem_cons h, List.getElem?_eq_getElem h]; rfl
  · rw [List.drop_eq_nil_of_le (by omega), List.drop_eq_nil_of_le (by omega), List.getElem?_eq_none (by omega)]; simp [valB]

/-- The digits from `j` on are divided: `Q` holds the quotient, `R` is the rest. -/
def PaO (x y n j : Nat) (Q : List Nat) (R : Nat) : Prop := Q.length = n ∧ (∀ t : Nat, t < j → Q[t]?.getD 0 = 0) ∧ Byt Q ∧ x / 256 ^ j = valB 256 (Q.drop j) * y + R ∧ R < y
/-- Within digit `i`: the multiples by `2 ^ k` and less are still to be tried. -/
def PaI (x y n i k : Nat) (Q : List Nat) (r : Nat) : Prop := Q.length = n ∧ (∀ t : Nat, t < i → Q[t]?.getD 0 = 0) ∧ Byt Q ∧ Q[i]?.getD 0 + 2 ^ k ≤ 256 ∧ x / 256 ^ i = valB 256 (Q.drop i) * y + r ∧ r < 2 ^ k * y

theorem paO_start (x y n : Nat) (hy : 0 < y) (hx : x < 256 ^ n) : PaO x y n n (List.replicate n 0) 0 := by
  refine ⟨by simp, fun t ht => ?_, fun u hu => ?_, ?_, hy⟩
  · rw [List.getElem?_replicate]; split <;> rfl
  · rw [List.eq_of_mem_replicate hu]; decide
  · rw [List.drop_eq_nil_of_le (by simp), Nat.div_eq_of_lt hx]; simp [valB]

theorem paI_start {x y n i : Nat} {Q : List Nat} {R : Nat} (h : PaO x y n (i + 1) Q R) : PaI x y n i 8 Q (x / 256 ^ i % 256 + 256 * R) := by
  obtain ⟨h1, h2, h3, h4, h5⟩ := h
  have hz := h2 i (by omega)
  refine ⟨h1, fun t ht => h2 t (by omega), h3, by rw [hz]; decide, ?_, ?_⟩
  · rw [valB_drop, hz, Nat.zero_add]
    rw [Nat.pow_succ, ← Nat.div_div_eq_div_mul] at h4
    generalize valB 256 (Q.drop (i + 1)) = v at *
    generalize x / 256 ^ i = u at *
    have e : 256 * v * y = 256 * (v * y) := Nat.mul_assoc _ _ _
    omega
  · have hd : x / 256 ^ i % 256 < 256 := Nat.mod_lt _ (by decide)
    generalize x / 256 ^ i % 256 = d at *
    rw [show (2 : Nat) ^ 8 = 256 by decide]
    omega

theorem paI_less {x y n i k : Nat} {Q : List Nat} {r : Nat} (h : PaI x y n i (k + 1) Q r) (hr : r < 2 ^ k * y) : PaI x y n i k Q r := by
  obtain ⟨h1, h2, h3, h4, h5, -⟩ := h
  have : 2 ^ k ≤ 2 ^ (k + 1) := Nat.pow_le_pow_right (by decide) (by omega)
  exact ⟨h1, h2, h3, by omega, h5, hr⟩

theorem valB_drop_set (b : Nat) (l : List Nat) (i d : Nat) (h : i < l.length) : valB b ((l.set i d).drop i) = d + b * valB b (l.drop (i + 1)) := by
  rw [valB_drop, getD_set _ _ _ _ h, if_pos rfl, List.drop_set_of_lt (by omega)]

theorem paI_take {x y n i k : Nat} {Q : List Nat} {r : Nat} (h : PaI x y n i (k + 1) Q r) (hi : i < n) (hr : 2 ^ k * y ≤ r) : PaI x y n i k (Q.set i (Q[i]?.getD 0 + 2 ^ k)) (r - 2 ^ k * y) := by
  obtain ⟨h1, h2, h3, h4, h5, h6⟩ := h
  have hp : 0 < 2 ^ k := Nat.pow_pos (by decide)
  rw [Nat.pow_succ] at h4 h6
  rw [valB_drop] at h5
  refine ⟨by rw [List.length_set]; exact h1, fun t ht => ?_, fun u hu => ?_, ?_, ?_, ?_⟩
  · rw [getD_set _ _ _ _ (by omega), if_neg (by omega)]; exact h2 t ht
  · rcases List.mem_or_eq_of_mem_set hu with h | rfl
    · exact h3 u h
    · omega
  · rw [getD_set _ _ _ _ (by omega), if_pos rfl]; omega
  · rw [valB_drop_set _ _ _ _ (by omega), h5]
    generalize valB 256 (Q.drop (i + 1)) = v at *
    generalize Q[i]?.getD 0 = a at *
    generalize 2 ^ k = p at *
    rw [Nat.add_mul, Nat.add_mul, Nat.add_mul]
    omega
  · generalize 2 ^ k = p at *
    have e : p * 2 * y = 2 * (p * y) := by rw [Nat.mul_comm p 2, Nat.mul_assoc]
    omega

theorem paI_end {x y n i : Nat} {Q : List Nat} {r : Nat} (h : PaI x y n i 0 Q r) : PaO x y n i Q r := by
  obtain ⟨h1, h2, h3, -, h5, h6⟩ := h
  exact ⟨h1, h2, h3, h5, by simpa using h6⟩

theorem paO_end {x y n : Nat} {Q : List Nat} {R : Nat} (h : PaO x y n 0 Q R) : Byt Q ∧ valB 256 Q = x / y ∧ R = x % y := by
  obtain ⟨h1, h2, h3, h4, h5⟩ := h
  rw [List.drop_zero, Nat.pow_zero, Nat.div_one] at h4
  subst h4
  refine ⟨h3, ?_, ?_⟩
  · rw [Nat.mul_comm, Nat.mul_add_div (by omega), Nat.div_eq_of_lt h5, Nat.add_zero]
  · rw [Nat.mul_comm, Nat.mul_add_mod, Nat.mod_eq_of_lt h5]

/-- A digit put ahead. -/
theorem natB_cons (d R : Nat) (hd : d < 256) : bareN (d :: natB 256 R) = natB 256 (d + 256 * R) := by
  rw [bareN_eq (b := 256) (by decide)]
  · rw [show valB 256 (d :: natB 256 R) = d + 256 * valB 256 (natB 256 R) from rfl, natB_val (by decide)]
  · intro u hu
    rcases List.mem_cons.1 hu with rfl | h
    · exact hd
    · exact natB_digit (by decide) _ u h

end rf

end Go.Proofs.YtpefjkndfifceaaDoor

namespace Go.Proofs.YtpefjkndfifceaaDoor
open Go.RowKit
namespace rf

abbrev Row3 : Type := Option Addr × Nat × Nat × List Nat
abbrev sl3 (x : Row3) : Value := .slice x.1 x.2.1 x.2.2.1

theorem infoS : (Tryd.prog.info? 52).map (fun i => (i.zero, i.size, i.bytes)) = some (some (.slice .none 0 0), 1, 24) := by kernel_rfl

/-- One that reads as digits, and lies elsewhere than any list of slices that the call owns from B on. -/
def El (U B : Nat) (w : World) (x : Row3) : Prop := Reads .i64 w x.1 x.2.1 x.2.2.1 x.2.2.2 ∧ (0 < x.2.1 → ∀ ad, x.1 = some ad → ad.block < B ∨ ∃ c fz, w.heap[ad.block]? = some (.cells c U fz))

theorem El.of {U B : Nat} {w : World} {a : Option Addr} {n c : Nat} {l : List Nat} (h : Reads .i64 w a n c l) (hB : w.heap.size ≤ B) : El U B w (a, n, c, l) := by
  refine ⟨h, fun hn ad ha => ?_⟩
  obtain ⟨b, off, e, hb, -⟩ := h.cells hn
  rw [show a = some ad from ha] at e
  cases e
  exact .inl (Nat.lt_of_lt_of_le hb hB)

theorem El.own {U B B' : Nat} {w : World} {a : Option Addr} {n c : Nat} {l : List Nat} (h : OwnQ .i64 U B' w (.slice a n c) l) : El U B w (a, n, c, l) := by
  refine ⟨h.reads, fun hn ad ha => .inr ?_⟩
  obtain ⟨b, off, e, hb, -⟩ := h.reads.cells hn
  obtain rfl : a = some ad := ha
  cases e
  rcases h.2 with ⟨h3, -⟩ | ⟨g, cap, cur, h3, -⟩
  · cases h3
  · cases h3
    exact Lib.ownsRow_kind h _ rfl

theorem El.below {U B : Nat} {w w' : World} {x : Row3} (h : El U B w x) (hb : Below w.heap.size w w') : El U B w' x := by
  refine ⟨h.1.below hb, fun hn ad ha => ?_⟩
  rcases h.2 hn ad ha with h | ⟨c, fz, h⟩
  · exact .inl h
  · exact .inr ⟨c, fz, by rw [hb.block _ (Array.getElem?_eq_some_iff.1 h).1]; exact h⟩

theorem El.grown {E U B : Nat} {w w' : World} {x : Row3} {row : Option Nat} (h : El U B w x) (hg : w.grownBy w' row) (hEU : U ≠ E) (hrow : ∀ g, row = some g → B ≤ g ∧ ∃ c fz, w.heap[g]? = some (.cells c E fz)) : El U B w' x := by
  by_cases hn : 0 < x.2.1
  · obtain ⟨b, off, e, hb, hc⟩ := h.1.cells hn
    have hk := h.2 hn _ e
    have hne : some b ≠ row := by
      intro er
      obtain ⟨h1, c, fz, h2⟩ := hrow b er.symm
      rcases hk with hk | ⟨c', fz', hk⟩
      · exact absurd h1 (Nat.not_le.2 hk)
      · have hk' : w.heap[b]? = some (.cells c' U fz') := hk
        rw [h2] at hk'
        simp at hk'
        exact hEU hk'.2.1.symm
    have hbl := hg.block b hb hne
    refine ⟨⟨h.1.length, h.1.le, h.1.max, h.1.nil, fun _ => ⟨b, off, e, ?_, fun i hi => ?_⟩⟩, fun _ ad ha => ?_⟩
    · exact Nat.lt_of_lt_of_le hb hg.size
    · rw [← hc i hi]; unfold World.cell?; rw [hbl]
    · rw [e] at ha
      cases ha
      rcases hk with hk | ⟨c', fz', hk⟩
      · exact .inl hk
      · exact .inr ⟨c', fz', hbl.trans hk⟩
  · exact ⟨⟨h.1.length, h.1.le, h.1.max, h.1.nil, fun hp => absurd hp hn⟩, fun hp => absurd hp hn⟩

/-- A list of such slices, the list of the call's own. -/
structure OwnT (E U B : Nat) (w : World) (v : Value) (X : List Row3) : Prop where
  row : w.ownsRow B E 1 v X.length (X.map sl3)
  each : ∀ x ∈ X, El U B w x

theorem OwnT.below {E U B : Nat} {w w' : World} {v : Value} {X : List Row3} (h : OwnT E U B w v X) (hb : Below w.heap.size w w') : OwnT E U B w' v X := by
  refine ⟨?_, fun x hx => (h.each x hx).below hb⟩
  obtain ⟨h1, h2⟩ := h.row
  refine ⟨h1, ?_⟩
  rcases h2 with h2 | ⟨g, cap, cur, rfl, hB, hg, rest⟩
  · exact .inl h2
  · exact .inr ⟨g, cap, cur, rfl, hB, by rw [hb.block g (Array.getElem?_eq_some_iff.1 hg).1]; exact hg, rest⟩

theorem OwnT.one {E U B : Nat} {w : World} {x : Row3} (h : El U B w x) (hB : B ≤ w.heap.size) : OwnT E U B (w.alloc (.cells #[sl3 x] E)) (.slice (some ⟨w.heap.size, 0, .none⟩) 1 1) [x] := by
  refine ⟨World.ownsRow_lit w _ 1 hB (by unfold maxLen; omega) rfl, fun y hy => ?_⟩
  obtain rfl := List.mem_singleton.1 hy
  exact h.below ((Below.refl _ _).alloc (Nat.le_refl _) _)

theorem OwnT.form {E U B : Nat} {w : World} {v : Value} {X : List Row3} (h : OwnT E U B w v X) (hX : 0 < X.length) : ∃ g cap, v = .slice (some ⟨g, 0, .none⟩) X.length cap ∧ g < w.heap.size ∧ OwnT E U B w (.slice (some ⟨g, 0, .none⟩) X.length cap) X := by
  have h0 := h
  obtain ⟨h1, h2⟩ := h.row
  rcases h2 with ⟨h2, h0⟩ | ⟨g, cap, cur, rfl, hb, hg, hn, hc, hs, ht⟩
  · omega
  · exact ⟨g, cap, rfl, (Array.getElem?_eq_some_iff.1 hg).1, h0⟩

theorem OwnT.cellAt {E U B : Nat} {w : World} {g cap n : Nat} {X : List Row3} (h : OwnT E U B w (.slice (some ⟨g, 0, .none⟩) n cap) X) (hn : n = X.length) (j : Nat) (hj : j < X.length) (x : Row3) (hx : X[j]? = some x) : w.cell? ⟨g, j, .none⟩ = some (sl3 x) := by
  subst hn
  rw [World.ownsRow.cellAt h.row j (by omega), List.getElem?_map, hx]
  rfl

theorem wpList_append_t {P : Program} (w : World) {ops : Array Oper} {rest : List Oper} {o : Oper} {a : Act} {Q : Exit → Act → World → Prop} (hgd : o.guard = .none) (s x : Operand) (t : TypeId)
    (ho : o.op = .call { callee := .builtin .append, args := #[s, x], argTypes := #[t, t] })
    (B E U : Nat) (hEU : U ≠ E) (i : TypeInfo) (ht : P.underlying t = some (.slice E)) (hi : P.info? E = some i) (hz : i.zero = some (.slice .none 0 0)) (hsize : i.size = 1) (hby : i.bytes = 24)
    (v : Value) (X : List Row3) (hs : a.eval s = v) (hown : OwnT E U B w v X) (ad : Addr) (y : Row3) (hx : a.eval x = .slice (some ad) 1 1) (hcell : w.cell? ad = some (sl3 y)) (hy : El U B w y)
    (hsum : X.length ≤ 100000) (hbase : B ≤ w.heap.size)
    (h : ∀ v' w', OwnT E U B w' v' (X ++ [y]) → (∀ w0, Below B w0 w → Below B w0 w') → wpList P ops Q rest (a.put o.dst v') w') : wpList P ops Q (o :: rest) a w := by
  refine wpList_append_own w hgd s x t ho B E i (.slice .none 0 0) 1 24 ht hi hz hsize hby rfl (by decide) v X.length (X.map sl3) hs hown.row ad 1 1 [sl3 y] hx rfl (fun j u hu => ?_) (by simp [Value.oneCell']) (by unfold maxLen; omega) (by omega) hbase ?_
  · cases j with
    | zero =>
      simp at hu
      subst hu
      rw [show ad.add 0 = ad from by cases ad; unfold Addr.add; split <;> simp_all]
      exact hcell
    | succ j => simp at hu
  · intro v' w' ho' hg _
    have hrow : ∀ g, v.ownBlock = some g → B ≤ g ∧ ∃ c fz, w.heap[g]? = some (.cells c E fz) := fun g e => ⟨(hown.row.lt g e).1, Lib.ownsRow_kind hown.row g e⟩
    refine h v' w' ⟨by simpa using ho', fun u hu => ?_⟩ (fun w0 h0 => h0.grown hg hbase (fun k hk => (hown.row.lt k hk).1))
    rcases List.mem_append.1 hu with hu | hu
    · exact (hown.each u hu).grown hg hEU hrow
    · obtain rfl := List.mem_singleton.1 hu
      exact hy.grown hg hEU hrow

end rf

end Go.Proofs.YtpefjkndfifceaaDoor

namespace Go.Proofs.YtpefjkndfifceaaDoor
open Go.RowKit
namespace rf

theorem OwnQ.one (q : IntKind) (w : World) (E : TypeId) (B : Nat) (hB : B ≤ w.heap.size) (x : Int) (c : Nat) (hx : x = c) : OwnQ q E B (w.alloc (.cells #[.int q x] E)) (.slice (some ⟨w.heap.size, 0, .none⟩) 1 1) [c] := by
  subst hx
  exact World.ownsRow_lit w #[.int q c] 1 hB (by unfold maxLen; omega) rfl

theorem len_mult {y m k z : Nat} (hy : y < 256 ^ m) (hk : k ≤ 8) (hz : z ≤ 2 ^ k * y) : (natB 256 z).length ≤ m + 1 := by
  rw [natB_length (by decide), Nat.pow_succ]
  have h1 : 2 ^ k ≤ 2 ^ 8 := Nat.pow_le_pow_right (by decide) hk
  have h2 : 2 ^ k * y ≤ 2 ^ 8 * y := Nat.mul_le_mul_right _ h1
  rw [show (2 : Nat) ^ 8 = 256 by decide] at h2
  generalize 2 ^ k * y = u at *
  generalize 256 ^ m = p at *
  omega

theorem twice_mult (j y : Nat) : 2 * (2 ^ j * y) = 2 ^ (j + 1) * y := by
  rw [Nat.pow_succ, Nat.mul_comm (2 ^ j) 2, Nat.mul_assoc]

/-- The multiples by 1, 2, 4, ... -/
def Man (y k : Nat) (X : List Row3) : Prop := X.length = k ∧ ∀ j : Nat, j < k → ∃ x, X[j]? = some x ∧ x ∈ X ∧ x.2.2.2 = natB 256 (2 ^ j * y)

theorem man_one {y : Nat} {x : Row3} (h : x.2.2.2 = natB 256 y) : Man y 1 [x] := ⟨rfl, fun j hj => by
  obtain rfl : j = 0 := by omega
  exact ⟨x, rfl, List.mem_cons_self, by rw [h]; simp⟩⟩

theorem man_snoc {y k : Nat} {X : List Row3} {x : Row3} (h : Man y k X) (hx : x.2.2.2 = natB 256 (2 ^ k * y)) : Man y (k + 1) (X ++ [x]) := by
  obtain ⟨h1, h2⟩ := h
  refine ⟨by rw [List.length_append, h1]; rfl, fun j hj => ?_⟩
  by_cases e : j < k
  · obtain ⟨z, hz, hm, hv⟩ := h2 j e
    exact ⟨z, by rw [List.getElem?_append_left (by omega)]; exact hz, List.mem_append_left _ hm, hv⟩
  · obtain rfl : j = k := by omega
    exact ⟨x, by rw [List.getElem?_append_right (by omega), h1]; simp, List.mem_append_right _ List.mem_cons_self, hx⟩

def RetsP (B : Nat) (w' : World) (p q : Nat) (e : Ending) : Prop := ∃ v u, e = .returned (.tuple #[v, u]) ∧ OwnQ .i64 3 B w' v (natB 256 p) ∧ OwnQ .i64 3 B w' u (natB 256 q)

end rf
end Go.Proofs.YtpefjkndfifceaaDoor
namespace Go.Proofs.YtpefjkndfifceaaDoor
open Go.RowKit
namespace rf
def divR (x y : Nat) : List Nat × List Nat × Int := if x < topN ∧ y < topN then (if y = 0 then ([], [], 60) else (nat32 (x / y), nat32 (x % y), 0)) else ([], [], 20)
theorem divR_no {x y : Nat} (h : ¬ (x < topN ∧ y < topN)) : divR x y = ([], [], 20) := if_neg h
theorem divR_zero {x y : Nat} (h : x < topN ∧ y < topN) (hy : y = 0) : divR x y = ([], [], 60) := by unfold divR; rw [if_pos h, if_pos hy]
theorem divR_yes {x y : Nat} (h : x < topN ∧ y < topN) (hy : y ≠ 0) : divR x y = (nat32 (x / y), nat32 (x % y), 0) := by unfold divR; rw [if_pos h, if_neg hy]

def RetsD (B : Nat) (w' : World) (r : List Nat × List Nat × Int) (e : Ending) : Prop := ∃ v u, e = .returned (.tuple #[v, u, .int .i64 r.2.2]) ∧ OwnQ .u32 64 B w' v r.1 ∧ OwnQ .u32 64 B w' u r.2.1

end rf
end Go.Proofs.YtpefjkndfifceaaDoor

namespace Go.Proofs.YtpefjkndfifceaaDoor
open Go.RowKit
set_option maxRecDepth 100000

theorem top_of {n k j : Nat} (hj : topN = 256 ^ j) (hk : k ≤ j) (h : n < 256 ^ k) : n < topN := by
  rw [hj]
  exact Nat.lt_of_lt_of_le h (Nat.pow_le_pow_right (show 0 < 256 by decide) hk)
theorem key_small {l : List Nat} (hb : Byt l) (h : l.length ≤ 700) : valB 256 l.reverse < topN := by
  have h1 := valB_lt (b := 256) (by decide) (l := l.reverse) (fun x hx => hb x (List.mem_reverse.1 hx))
  rw [List.length_reverse] at h1
  exact top_of topN_256 (by omega) h1

/-- No nought stands ahead. -/
def numOk (l : List Nat) : Bool := decide (l.length = 0) || decide (0 < l[0]?.getD 0)
/-- The number of a key's bytes (the code's: 0 where it is refused). -/
def numV (l : List Nat) : Nat := if numOk l then valB 256 l.reverse else 0

set_option maxHeartbeats 1000000 in
theorem number_c (a : Option Addr) (n c : Nat) (l : List Nat) (w : World) (hr : Reads .u8 w a n c l) (hb : Byt l) (hn : n ≤ 700) :
    Calls Tryd.prog 23 #[.slice a n c] w fun e w' => (∃ v, e = .returned (.tuple #[v, .bool (numOk l)]) ∧ OwnQ .u32 64 w.heap.size w' v (nat32 (numV l))) ∧ Below w.heap.size w w' := by
  have HR := Lib.hid hr
  have hl := hr.length
  have HB := Lib.hid hb
  have HS := Lib.hid (key_small hb (by omega))
  by_cases h0 : n = 0
  · have t1 : decide ((0 : Int) < (n : Int)) = false := decide_eq_false (by omega)
    have t2 : decide (0 < n) = false := decide_eq_false (by omega)
    have hok : numOk l = true := by unfold numOk; simp; left; exact List.eq_nil_of_length_eq_zero (by omega)
    have HV := Lib.hid (show numV l = valB 256 l.reverse by unfold numV; rw [hok]; rfl)
    have HO := Lib.hid hok
    clear hr hb hl hok h0
    go_enter Tryd.func23, Tryd.ntmps23
    go_wp2_with fail
    refine (read_any a n c l w HR.out HB.out (by omega)).mono ?_
    rintro e w1 ⟨⟨v, rfl, hv⟩, hbw⟩
    rw [cutR_small HS.out] at hv ⊢
    have HW := Lib.hid hv
    have HBW := Lib.hid hbw
    clear hv hbw
    go_wp2
    go_ret2
    exact ⟨⟨v, by rw [HO.out]; rfl, by rw [HV.out]; exact HW.out⟩, HBW.out⟩
  · have t1 : decide ((0 : Int) < (n : Int)) = true := decide_eq_true (by omega)
    have t2 : decide (0 < n) = true := decide_eq_true (by omega)
    obtain ⟨bk, off, rfl, hbl, hcl⟩ := hr.cells (by omega)
    have hc0 := hcl 0 (by omega)
    rw [Nat.add_zero] at hc0
    have hpos : 0 < n := by omega
    obtain ⟨x, hx⟩ : ∃ x, l[0]?.getD 0 = x := ⟨_, rfl⟩
    rw [hx] at hc0
    have hxb : x < 256 := by
      rw [← hx, List.getElem?_eq_getElem (by omega)]
      exact hb _ (List.getElem_mem (by omega))
    by_cases hx0 : x = 0
    · have t3 : ((x : Int) == 0) = true := by simp; omega
      have hok : numOk l = false := by unfold numOk; rw [hx, decide_eq_false (show ¬ l.length = 0 by omega), decide_eq_false (show ¬ 0 < x by omega)]; rfl
      have HV := Lib.hid (show numV l = 0 by unfold numV; rw [hok]; rfl)
      have HO := Lib.hid hok
      clear hr hb hl hok hcl hx hx0
      go_enter Tryd.func23, Tryd.ntmps23
      go_wp2
      go_ret2
      exact ⟨⟨.slice none 0 0, by rw [HO.out]; rfl, by rw [HV.out, show nat32 0 = [] from natB_zero _]; exact OwnQ.nil _ _ _ _⟩, Below.refl _ _⟩
    · have t3 : ((x : Int) == 0) = false := by simp; omega
      have hok : numOk l = true := by unfold numOk; rw [hx, decide_eq_true (show 0 < x by omega), Bool.or_true]
      have HV := Lib.hid (show numV l = valB 256 l.reverse by unfold numV; rw [hok]; rfl)
      have HO := Lib.hid hok
      clear hr hb hl hok hcl hx hx0
      go_enter Tryd.func23, Tryd.ntmps23
      go_wp2_with fail
      refine (read_any _ n c l w HR.out HB.out (by omega)).mono ?_
      rintro e w1 ⟨⟨v, rfl, hv⟩, hbw⟩
      rw [cutR_small HS.out] at hv ⊢
      have HW := Lib.hid hv
      have HBW := Lib.hid hbw
      clear hv hbw hc0
      go_wp2
      go_ret2
      exact ⟨⟨v, by rw [HO.out]; rfl, by rw [HV.out]; exact HW.out⟩, HBW.out⟩

set_option maxHeartbeats 1000000 in
theorem number_r (a : Option Addr) (n c : Nat) (l : List Nat) (w : World) (hr : Reads .u8 w a n c l) (hb : Byt l) (hn : n ≤ 700) :
    Calls Tryd.prog 14 #[.slice a n c] w fun e w' => (∃ v, e = .returned (.tuple #[v, .bool (numOk l)]) ∧ OwnQ .u32 64 w.heap.size w' v (nat32 (valB 256 l.reverse))) ∧ Below w.heap.size w w' := by
  have HR := Lib.hid hr
  have hl := hr.length
  have HB := Lib.hid hb
  have HS := Lib.hid (key_small hb (by omega))
  go_enter Tryd.func14, Tryd.ntmps14
  go_wp2_with fail
  refine (rf.read_any a n c l w HR.out HB.out (by omega)).mono ?_
  rintro e w1 ⟨⟨v, rfl, hv⟩, hbw⟩
  rw [cutR_small HS.out] at hv ⊢
  have HW := Lib.hid hv
  have HBW := Lib.hid hbw
  have hr1 := hr.below hbw
  clear hv hbw
  by_cases h0 : n = 0
  · have t1 : ((n : Int) == 0) = true := by simp; omega
    have hok : numOk l = true := by unfold numOk; simp; left; exact List.eq_nil_of_length_eq_zero (by omega)
    have HO := Lib.hid hok
    clear hr hb hl hok hr1 h0
    go_wp2_with fail
    go_big_quiet (fail)
    simp only [Exit.then]
    go_wp2
    go_ret2
    exact ⟨⟨v, by rw [HO.out]; rfl, HW.out.drewN _⟩, HBW.out.trans ⟨rfl, rfl, rfl, Nat.le_refl _, fun _ _ => rfl⟩⟩
  · have t1 : ((n : Int) == 0) = false := by simp; omega
    obtain ⟨bk, off, rfl, hbl, hcl⟩ := hr1.cells (by omega)
    have hc0 := hcl 0 (by omega)
    rw [Nat.add_zero] at hc0
    have hpos : 0 < n := by omega
    obtain ⟨x, hx⟩ : ∃ x, l[0]?.getD 0 = x := ⟨_, rfl⟩
    rw [hx] at hc0
    have hxb : x < 256 := by
      rw [← hx, List.getElem?_eq_getElem (by omega)]
      exact hb _ (List.getElem_mem (by omega))
    have HO := Lib.hid (show numOk l = decide (0 < x) by unfold numOk; rw [hx, decide_eq_false (show ¬ l.length = 0 by omega), Bool.false_or])
    by_cases hx0 : 0 < x
    · have t3 : decide ((0 : Int) < (x : Int)) = true := decide_eq_true (by omega)
      have t4 : decide (0 < x) = true := decide_eq_true hx0
      have HO2 := Lib.hid (HO.out.trans t4)
      clear hr hb hl hcl hx hr1 h0 HO
      go_wp2_with fail
      go_big_quiet (fail)
      simp only [Exit.then]
      go_wp2
      go_ret2
      exact ⟨⟨v, by rw [HO2.out]; rfl, HW.out.drewN _⟩, HBW.out.trans ⟨rfl, rfl, rfl, Nat.le_refl _, fun _ _ => rfl⟩⟩
    · have t3 : decide ((0 : Int) < (x : Int)) = false := decide_eq_false (by omega)
      have t4 : decide (0 < x) = false := decide_eq_false hx0
      have HO2 := Lib.hid (HO.out.trans t4)
      clear hr hb hl hcl hx hr1 h0 HO
      go_wp2_with fail
      go_big_quiet (fail)
      simp only [Exit.then]
      go_wp2
      go_ret2
      exact ⟨⟨v, by rw [HO2.out]; rfl, HW.out.drewN _⟩, HBW.out.trans ⟨rfl, rfl, rfl, Nat.le_refl _, fun _ _ => rfl⟩⟩
end Go.Proofs.YtpefjkndfifceaaDoor
