/-
  Texts of ours, one behind the other: Oc2 Oc3 Oc4 Oc5 Oc6 Oc7 Oc8 Ps2 Ps3 SeqW SeqV Ps4 Ps5 Ps6 Ps7 Ps8 Ps9 PsA Shelf NatB
-/
import Derived.Test.YtpefjkndfifceaaDoorPk1
import Derived.Test.YtpefjkndfifceaaDoorPk3
import Derived.Test.YtpefjkndfifceaaDoorPk6
import Derived.Lib.Bytealg
import Derived.Laws.Externs
import Derived.WalkSmall
import Derived.Lib.OwnKind
import Derived.StillTactics
import Derived.StillTailTactics
import Derived.Stop.RegionWithIn
import Derived.BigRegionIn
import Derived.Laws.ResultCell
import Derived.BigQuiet
import Derived.Deep.RegionHeld
import Derived.OrdersHeld
import Derived.Shelf.Small.Bits
import Derived.Test.YtpefjkndfifceaaDoorProg
import Derived.Lib.ItoaNum
set_option linter.unusedVariables false
set_option linter.unusedSimpArgs false

namespace Go.Proofs.YtpefjkndfifceaaDoor.Oc
open Go.RowKit

def wholeL (l : List UInt8) : Nat := l.foldl (fun n c => 256 * n + c.toNat) 0

theorem wholeL_snoc (l : List UInt8) (c : UInt8) : wholeL (l ++ [c]) = 256 * wholeL l + c.toNat := by simp [wholeL]

theorem take_snoc8 (l : List UInt8) (k : Nat) (hk : k < l.length) : l.take (k + 1) = l.take k ++ [l[k]?.getD 0] := by
  rw [List.take_add_one, List.getElem?_eq_getElem hk]; rfl

theorem wholeL_step (l : List UInt8) (k : Nat) (hk : k < l.length) : wholeL (l.take (k + 1)) = 256 * wholeL (l.take k) + (l[k]?.getD 0).toNat := by
  rw [take_snoc8 l k hk, wholeL_snoc]

theorem wholeL_lt (l : List UInt8) : wholeL l < 256 ^ l.length := by
  suffices h : ∀ (l : List UInt8) (n k : Nat), n < 256 ^ k → l.foldl (fun n c => 256 * n + c.toNat) n < 256 ^ (k + l.length) by
    simpa [wholeL] using h l 0 0 (by decide)
  intro l
  induction l with
  | nil => intro n k h; simpa using h
  | cons c l ih =>
    intro n k h
    have hc := UInt8.toNat_lt c
    have := ih (256 * n + c.toNat) (k + 1) (by rw [Nat.pow_succ]; omega)
    simpa [Nat.add_assoc, Nat.add_comm 1] using this

theorem wholeL_append (a b : List UInt8) : wholeL (a ++ b) = wholeL a * 256 ^ b.length + wholeL b := by
  suffices h : ∀ (b : List UInt8) (n : Nat), b.foldl (fun n c => 256 * n + c.toNat) n = n * 256 ^ b.length + b.foldl (fun n c => 256 * n + c.toNat) 0 by
    rw [wholeL, List.foldl_append, h]; rfl
  intro b
  induction b with
  | nil => intro n; simp
  | cons c b ih =>
    intro n
    rw [List.foldl_cons, ih, List.foldl_cons, ih (256 * 0 + c.toNat), List.length_cons, Nat.pow_succ]
    have : (256 * n + c.toNat) * 256 ^ b.length = n * (256 ^ b.length * 256) + (256 * 0 + c.toNat) * 256 ^ b.length := by
      rw [Nat.add_mul, Nat.mul_zero, Nat.zero_add, Nat.mul_comm 256 n, Nat.mul_assoc, Nat.mul_comm 256 (256 ^ b.length)]
    omega

theorem wholeL_bare (l : List UInt8) : wholeL (bareL l) = wholeL l := by
  induction l with
  | nil => rfl
  | cons c l ih =>
    rw [bareL, List.dropWhile_cons]
    by_cases h : c = 0
    · subst h
      rw [if_pos (by rfl)]
      rw [show List.dropWhile (fun x => x == 0) l = bareL l from rfl, ih]
      simp [wholeL]
    · rw [if_neg (by simpa using h)]

theorem wholeL_ge (c : UInt8) (l : List UInt8) (hc : c ≠ 0) : 256 ^ l.length ≤ wholeL (c :: l) := by
  have h := wholeL_append [c] l
  have h1 : wholeL [c] = c.toNat := by simp [wholeL]
  have h2 : c.toNat ≠ 0 := fun e => hc (UInt8.toNat_inj.1 (by simpa using e))
  rw [h1] at h
  have h3 : 1 * 256 ^ l.length ≤ c.toNat * 256 ^ l.length := Nat.mul_le_mul_right _ (by omega)
  rw [show [c] ++ l = c :: l from rfl] at h
  omega

theorem bareL_head (l : List UInt8) (c : UInt8) (m : List UInt8) (h : bareL l = c :: m) : c ≠ 0 := by
  intro e
  have := List.head?_dropWhile_not (fun x : UInt8 => x == 0) l
  rw [show List.dropWhile (fun x : UInt8 => x == 0) l = c :: m from h] at this
  simp [e] at this

theorem big_iff (l : List UInt8) : 8 < (bareL l).length ↔ 256 ^ 8 ≤ wholeL l := by
  rw [← wholeL_bare]
  constructor
  · intro h
    cases hb : bareL l with
    | nil => rw [hb] at h; simp at h
    | cons c m =>
      rw [hb] at h
      have h1 := wholeL_ge c m (bareL_head l c m hb)
      have h2 : 256 ^ 8 ≤ 256 ^ m.length := Nat.pow_le_pow_right (by decide) (by simp at h; omega)
      omega
  · intro h
    have h1 := wholeL_lt (bareL l)
    by_cases hc : 8 < (bareL l).length
    · exact hc
    · have h2 : 256 ^ (bareL l).length ≤ 256 ^ 8 := Nat.pow_le_pow_right (by decide) (by omega)
      omega

def wVal (l : List UInt8) : Int := if 8 < (bareL l).length then 0 else wholeL l
def wErr (l : List UInt8) : Int := if 8 < (bareL l).length then 10 else 0
def WholeIs (l : List UInt8) (e : Ending) : Prop := e = .returned (.tuple #[.int .u64 (wVal l), .int .i64 (wErr l)])

theorem WholeIs.big {l : List UInt8} (h : 8 < (bareL l).length) : WholeIs l (.returned (.tuple #[.int .u64 0, .int .i64 10])) := by simp [WholeIs, wVal, wErr, h]
theorem WholeIs.fits {l : List UInt8} {n : Nat} (h : ¬ 8 < (bareL l).length) (hn : n = wholeL l) : WholeIs l (.returned (.tuple #[.int .u64 (n : Int), .int .i64 0])) := by simp [WholeIs, wVal, wErr, h, hn]

theorem or8 (v x : Nat) (hv : v ≤ 72057594037927935) (hx : x < 256) : bits BinOp.or IntKind.u64 ((v : Int) * 256) (x : Int) = ((256 * v + x : Nat) : Int) := by
  rw [show ((v : Int) * 256) = ((v * 256 : Nat) : Int) from by omega, u64_or_nat _ _ (by omega) (by omega), nat_join 8 _ _ (by omega) (by omega)]
  omega

theorem wrap8 (v x : Nat) (hv : v ≤ 72057594037927935) (hx : x < 256) : IntKind.u64.wrap (IntKind.u64.wrap (256 * (v : Int)) + (x : Int)) = ((256 * v + x : Nat) : Int) := by
  simp only [IntKind.wrap, IntKind.bits, IntKind.signed]
  simp
  omega

end Go.Proofs.YtpefjkndfifceaaDoor.Oc

namespace Go.Proofs.YtpefjkndfifceaaDoor.Oc
set_option maxRecDepth 100000
open Go.RowKit

/-- The lowest bytes of a number, so many, the highest first. -/
def bigL (n : Nat) : Nat → List UInt8
  | 0 => []
  | k + 1 => UInt8.ofNat (n / 256 ^ k % 256) :: bigL n k

theorem bigL_length (n k : Nat) : (bigL n k).length = k := by induction k <;> simp [bigL, *]

theorem set_zero_big (n m j : Nat) (hj : j < m) : (List.replicate (m - j) (0 : UInt8) ++ bigL n j).set (m - j - 1) (UInt8.ofNat (n / 256 ^ j % 256)) = List.replicate (m - (j + 1)) (0 : UInt8) ++ bigL n (j + 1) := by
  obtain ⟨d, rfl⟩ : ∃ d, m = d + j + 1 := ⟨m - j - 1, by omega⟩
  rw [show d + j + 1 - j = d + 1 from by omega, show d + 1 - 1 = d from by omega, show d + j + 1 - (j + 1) = d from by omega, List.replicate_succ', List.append_assoc]
  rw [List.set_append_right _ _ (by simp)]
  simp [bigL]

/-- What is handed back with an error's number: it reads as l, in memory of the call's own. -/
def RetsOwn2 (B : Nat) (w' : World) (r : List UInt8 × Int) (e : Ending) : Prop := ∃ v, e = .returned (.tuple #[v, .int .i64 r.2]) ∧ Own8 5 B w' v r.1

def bigR (n : Nat) (s : Int) : List UInt8 × Int := if 0 ≤ s ∧ s ≤ 65536 then (if n < 256 ^ s.toNat then (bigL n s.toNat, 0) else ([], 10)) else ([], 2)

theorem div_pow (n j : Nat) : n / 256 ^ j / 256 = n / 256 ^ (j + 1) := by rw [Nat.div_div_eq_div_mul, Nat.pow_succ]

def padR (l : List UInt8) (s : Int) : List UInt8 × Int := if 0 ≤ s ∧ s ≤ 65536 then (if (bareL l).length ≤ s.toNat then (List.replicate (s.toNat - (bareL l).length) 0 ++ bareL l, 0) else ([], 10)) else ([], 2)

theorem padR_no {l : List UInt8} {s : Int} (h : ¬ (0 ≤ s ∧ s ≤ 65536)) : padR l s = ([], 2) := by rw [padR, if_neg h]
theorem padR_long {l : List UInt8} {m : Nat} (h : m ≤ 65536) (h2 : m < (bareL l).length) : padR l m = ([], 10) := by rw [padR, if_pos ⟨by omega, by omega⟩, if_neg (by simp; omega)]
theorem padR_yes {l : List UInt8} {m : Nat} (h : m ≤ 65536) (h2 : (bareL l).length ≤ m) : padR l m = (List.replicate (m - (bareL l).length) 0 ++ bareL l, 0) := by rw [padR, if_pos ⟨by omega, by omega⟩, if_pos (by simpa using h2)]; simp

end Go.Proofs.YtpefjkndfifceaaDoor.Oc

namespace Go.Proofs.YtpefjkndfifceaaDoor.Oc
open Go.RowKit

abbrev Row2 := Option Addr × Nat × Nat × List UInt8

/-- All bytes of the first k rows. -/
def joined (L : List Row2) : List UInt8 := L.flatMap (·.2.2.2)

theorem joined_step (L : List Row2) (k : Nat) (hk : k < L.length) : joined (L.take (k + 1)) = joined (L.take k) ++ (L[k]?.getD (none, 0, 0, [])).2.2.2 := by
  have e : L.take (k + 1) = L.take k ++ [L[k]] := by rw [List.take_add_one, List.getElem?_eq_getElem hk]; rfl
  rw [e, List.getElem?_eq_getElem hk]
  unfold joined
  rw [List.flatMap_append, List.flatMap_singleton]
  rfl

theorem joined_le (L : List Row2) (k : Nat) : (joined (L.take k)).length ≤ (joined L).length := by
  have e : (joined L).length = (joined (L.take k ++ L.drop k)).length := by rw [List.take_append_drop]
  unfold joined at *
  rw [List.flatMap_append, List.length_append] at e
  omega

/-- A list of slices that has just been laid. -/
theorem rows2_lit2 (w : World) (T : TypeId) (a1 a2 : Option Addr) (n1 c1 n2 c2 : Nat) (l1 l2 : List UInt8) (h1 : Bts w a1 n1 c1 l1) (h2 : Bts w a2 n2 c2 l2) :
    Rows2 (w.alloc (.cells #[.slice a1 n1 c1, .slice a2 n2 c2] T)) (some ⟨w.heap.size, 0, none⟩) 2 2 [(a1, n1, c1, l1), (a2, n2, c2, l2)] := by
  refine ⟨rfl, by unfold maxLen; omega, fun _ => ⟨w.heap.size, 0, rfl, by simp, fun i hi => ?_⟩, fun x hx => ?_⟩
  · rw [World.cell?_alloc_at _ _ _ _ rfl]
    match i, hi with
    | 0, _ => rfl
    | 1, _ => rfl
  · have hb : Below w.heap.size w (w.alloc (.cells #[.slice a1 n1 c1, .slice a2 n2 c2] T)) := (Below.refl _ _).alloc (Nat.le_refl _) _
    rcases List.mem_cons.1 hx with rfl | hx
    · exact h1.below hb
    · obtain rfl := List.mem_singleton.1 hx
      exact h2.below hb

theorem bigL_val (n k : Nat) : wholeL (bigL n k) = n % 256 ^ k := by
  induction k with
  | zero => simp [bigL, wholeL, Nat.mod_one]
  | succ k ih =>
    have h := wholeL_append [UInt8.ofNat (n / 256 ^ k % 256)] (bigL n k)
    rw [show [UInt8.ofNat (n / 256 ^ k % 256)] ++ bigL n k = bigL n (k + 1) from rfl, bigL_length, ih] at h
    have h1 : wholeL [UInt8.ofNat (n / 256 ^ k % 256)] = n / 256 ^ k % 256 := by simp [wholeL, UInt8.toNat_ofNat']
    rw [h, h1, Nat.pow_succ, Nat.mod_mul, Nat.mul_comm]
    omega

theorem wholeL_inj : ∀ (l m : List UInt8), l.length = m.length → wholeL l = wholeL m → l = m
  | [], [], _, _ => rfl
  | [], _ :: _, h, _ => by simp at h
  | _ :: _, [], h, _ => by simp at h
  | c :: l, d :: m, h, e => by
    have hl : l.length = m.length := by simpa using h
    have h1 := wholeL_append [c] l
    have h2 := wholeL_append [d] m
    have h3 : wholeL [c] = c.toNat := by simp [wholeL]
    have h4 : wholeL [d] = d.toNat := by simp [wholeL]
    have h5 := wholeL_lt l
    have h6 := wholeL_lt m
    rw [show [c] ++ l = c :: l from rfl, h3] at h1
    rw [show [d] ++ m = d :: m from rfl, h4, ← e, h1, ← hl] at h2
    rw [← hl] at h6
    have hp : 0 < 256 ^ l.length := Nat.pow_pos (by decide)
    have hcd : c.toNat = d.toNat := by
      have a1 := congrArg (· / 256 ^ l.length) h2
      simp only [Nat.mul_comm _ (256 ^ l.length), Nat.mul_add_div hp, Nat.div_eq_of_lt h5, Nat.div_eq_of_lt h6] at a1
      omega
    obtain rfl := UInt8.toNat_inj.1 hcd
    rw [wholeL_inj l m hl (by omega)]

theorem wholeL_zeros (k : Nat) (l : List UInt8) : wholeL (List.replicate k 0 ++ l) = wholeL l := by
  have h : wholeL (List.replicate k 0) = 0 := by
    induction k with
    | zero => rfl
    | succ k ih => rw [List.replicate_succ', wholeL_snoc, ih]; rfl
  rw [wholeL_append, h]
  omega

theorem bare_len_iff (l : List UInt8) (k : Nat) : (bareL l).length ≤ k ↔ wholeL l < 256 ^ k := by
  rw [← wholeL_bare]
  constructor
  · intro h
    exact Nat.lt_of_lt_of_le (wholeL_lt _) (Nat.pow_le_pow_right (by decide) h)
  · intro h
    cases hb : bareL l with
    | nil => simp
    | cons c m =>
      rw [hb] at h
      have h1 := wholeL_ge c m (bareL_head l c m hb)
      have h2 : 256 ^ m.length < 256 ^ k := by omega
      have := (Nat.pow_lt_pow_iff_right (by decide : 1 < 256)).1 h2
      simp
      omega

/-- A number's bytes are the padded bytes of its eight. -/
theorem padR_big (n : Nat) (s : Int) (hn : n < 256 ^ 8) : padR (bigL n 8) s = bigR n s := by
  unfold padR bigR
  by_cases hs : 0 ≤ s ∧ s ≤ 65536
  · rw [if_pos hs, if_pos hs]
    have hv : wholeL (bigL n 8) = n := by rw [bigL_val, Nat.mod_eq_of_lt hn]
    have hiff := bare_len_iff (bigL n 8) s.toNat
    rw [hv] at hiff
    by_cases hf : n < 256 ^ s.toNat
    · rw [if_pos hf, if_pos (hiff.2 hf)]
      congr 1
      apply wholeL_inj
      · have := hiff.2 hf
        simp [bigL_length]
        omega
      · rw [wholeL_zeros, wholeL_bare, hv, bigL_val, Nat.mod_eq_of_lt hf]
    · rw [if_neg hf, if_neg (fun h => hf (hiff.1 h))]
  · rw [if_neg hs, if_neg hs]

theorem wrap_div (v : Nat) (h : v < 256 ^ 8) : IntKind.u64.wrap ((v : Int) / 256) = ((v / 256 : Nat) : Int) := by
  simp only [IntKind.wrap, IntKind.bits, IntKind.signed]
  simp
  omega

end Go.Proofs.YtpefjkndfifceaaDoor.Oc

namespace Go.Proofs.YtpefjkndfifceaaDoor.Oc
open Go.RowKit

/-- A row that may be written over: empty, or in a block from B on that is not block lb. -/
def LiveRow (B lb : Nat) (w : World) (x : Row2) : Prop :=
  x.2.1 = 0 ∨ ∃ g, x.1 = some ⟨g, 0, none⟩ ∧ B ≤ g ∧ g ≠ lb ∧ x.2.1 ≤ maxLen ∧ ∀ i, i < x.2.1 → ∃ n : Nat, n < 256 ∧ w.cell? ⟨g, i, none⟩ = some (.int .u8 (n : Int)) ∧ w.frozen? ⟨g, i, none⟩ = false

structure Spoils (B : Nat) (w : World) (lb n : Nat) (L : List Row2) : Prop where
  length : L.length = n
  max : n ≤ maxLen
  cells : ∀ i, i < n → w.cell? ⟨lb, i, none⟩ = some (.slice (L[i]?.getD (none, 0, 0, [])).1 (L[i]?.getD (none, 0, 0, [])).2.1 (L[i]?.getD (none, 0, 0, [])).2.2.1)
  live : ∀ i, i < n → LiveRow B lb w (L[i]?.getD (none, 0, 0, []))

theorem cell_after (w : World) (g i g' i' : Nat) (n m : Nat) (hn : n < 256) (hm : m < 256) (h : w.cell? ⟨g', i', none⟩ = some (.int .u8 (n : Int))) :
    ∃ k : Nat, k < 256 ∧ (w.setCell ⟨g, i, none⟩ (.int .u8 (m : Int))).cell? ⟨g', i', none⟩ = some (.int .u8 (k : Int)) := by
  by_cases e : (⟨g', i', none⟩ : Addr) = ⟨g, i, none⟩
  · rw [← e]
    exact ⟨m, hm, World.cell?_setCell_same _ _ _ h⟩
  · exact ⟨n, hn, (World.cell?_setCell_other _ _ _ _ (fun h' => e h'.symm)).trans h⟩

theorem LiveRow.set {B lb : Nat} {w : World} {x : Row2} (h : LiveRow B lb w x) (g i m : Nat) (hm : m < 256) : LiveRow B lb (w.setCell ⟨g, i, none⟩ (.int .u8 (m : Int))) x := by
  rcases h with h | ⟨g', h1, h2, h3, h4, h5⟩
  · exact .inl h
  · refine .inr ⟨g', h1, h2, h3, h4, fun j hj => ?_⟩
    obtain ⟨n, hn, hc, hf⟩ := h5 j hj
    obtain ⟨k, hk, hc'⟩ := cell_after w g i g' j n m hn hm hc
    exact ⟨k, hk, hc', (World.frozen?_setCell _ _ _ _).trans hf⟩

theorem Spoils.set {B : Nat} {w : World} {lb n : Nat} {L : List Row2} (h : Spoils B w lb n L) (g i m : Nat) (hm : m < 256) (hg : g ≠ lb) : Spoils B (w.setCell ⟨g, i, none⟩ (.int .u8 (m : Int))) lb n L :=
  ⟨h.length, h.max, fun j hj => (World.cell?_setCell_other _ _ _ _ (by intro e; cases e; exact hg rfl)).trans (h.cells j hj), fun j hj => (h.live j hj).set g i m hm⟩

theorem Spoils.drew {B : Nat} {w : World} {lb n : Nat} {L : List Row2} (h : Spoils B w lb n L) : Spoils B w.drew lb n L := ⟨h.length, h.max, h.cells, h.live⟩

theorem LiveRow.of_own {E B lb : Nat} {w w' : World} {a : Option Addr} {n cap : Nat} {l : List UInt8} (h : Own8 E B w (.slice a n cap) l) (hb : Below w.heap.size w w') (hlb : w.heap.size ≤ lb) : LiveRow B lb w' (a, n, cap, l) := by
  by_cases h0 : n = 0
  · exact .inl h0
  · obtain ⟨hn, hc, hm⟩ := h.cap
    obtain ⟨g, cap', he⟩ := h.succ (by intro e; subst e; simp at hn; exact h0 hn)
    cases he
    obtain ⟨_, _, _, _, hlt⟩ := h.form
    have hg := World.ownsRow.lt h g rfl
    have h' := h.below hb
    refine .inr ⟨g, rfl, hg.1, by omega, Nat.le_trans hc hm, fun i hi => ⟨_, UInt8.toNat_lt _, h'.cellAt hn i hi, h'.frozenAt hn i⟩⟩

theorem cells3 (w : World) (T : TypeId) (x0 x1 x2 : Row2) : ∀ i, i < 3 → (w.alloc (.cells #[.slice x0.1 x0.2.1 x0.2.2.1, .slice x1.1 x1.2.1 x1.2.2.1, .slice x2.1 x2.2.1 x2.2.2.1] T)).cell? ⟨w.heap.size, i, none⟩ = some (.slice ([x0, x1, x2][i]?.getD (none, 0, 0, [])).1 ([x0, x1, x2][i]?.getD (none, 0, 0, [])).2.1 ([x0, x1, x2][i]?.getD (none, 0, 0, [])).2.2.1) := by
  intro i hi
  rw [World.cell?_alloc_at _ _ _ _ rfl]
  match i, hi with
  | 0, _ => rfl
  | 1, _ => rfl
  | 2, _ => rfl

theorem conv8 {w : World} {a : Option Addr} {len cap : Nat} {l : List UInt8} (h : Bts w a len cap l) :
    (convert 22 9 (.slice a len cap)).run Tryd.prog w = .ok (.string (strOf l)) w :=
  h.convert (P := Tryd.prog) _ _ _ Tryd.underlying22 Tryd.underlying5 Tryd.underlying9

theorem RetsOwn2.form {B : Nat} {w : World} {r : List UInt8 × Int} {e : Ending} (h : RetsOwn2 B w r e) : ∃ a cap, e = .returned (.tuple #[.slice a r.1.length cap, .int .i64 r.2]) ∧ Own8 5 B w (.slice a r.1.length cap) r.1 := by
  obtain ⟨v, rfl, ho⟩ := h
  obtain ⟨a, cap, rfl, _, _⟩ := ho.form
  exact ⟨a, cap, rfl, ho⟩

theorem RetsOwn.form {B : Nat} {w : World} {l : List UInt8} {e : Ending} (h : RetsOwn B w l e) : ∃ a cap, e = .returned (.slice a l.length cap) ∧ Own8 5 B w (.slice a l.length cap) l := by
  obtain ⟨v, rfl, ho⟩ := h
  obtain ⟨a, cap, rfl, _, _⟩ := ho.form
  exact ⟨a, cap, rfl, ho⟩

end Go.Proofs.YtpefjkndfifceaaDoor.Oc

namespace Go.Proofs.YtpefjkndfifceaaDoor.Oc
open Go.RowKit

theorem run_loadBytes {P : Program} {w : World} (b off len cap : Nat) (l : List UInt8) (h : Bts w (some ⟨b, off, none⟩) len cap l) :
    ∀ (n k : Nat) (acc : ByteArray), k + n = len → (Extern.Bytes.loadBytes ⟨b, off + k, none⟩ n acc).run P w = .ok ⟨acc.data ++ (l.drop k).toArray⟩ w
  | 0, k, acc, hk => by
    rw [List.drop_eq_nil_of_le (by have := h.length; omega)]
    simp [Extern.Bytes.loadBytes, Sem.run_pure]
  | n + 1, k, acc, hk => by
    obtain ⟨b', off', he, hlt, hc⟩ := h.cells (by omega)
    cases he
    have hck := hc k (by omega)
    have hl : k < l.length := by have := h.length; omega
    have e : (⟨b, off + k, none⟩ : Addr).add 1 = ⟨b, off + (k + 1), none⟩ := by unfold Addr.add; split <;> simp_all <;> omega
    have ih := run_loadBytes (P := P) b off len cap l h n (k + 1) (acc.push l[k]) (by omega)
    have hb : ((l[k].toNat : Int)).toNat.toUInt8 = l[k] := by simp
    simp only [Extern.Bytes.loadBytes, Sem.run_bind]
    rw [List.getElem?_eq_getElem hl] at hck
    simp only [Option.getD_some] at hck
    have hrun : (load ⟨b, off + k, none⟩).run P w = .ok (.int .u8 (l[k].toNat : Int)) w := by simp [go_sem, hck]
    rw [hrun]
    simp only [Result.andThen, e, hb, ih]
    rw [List.drop_eq_getElem_cons hl]
    simp [ByteArray.push]

theorem run_bytesOf {P : Program} {w : World} {a : Option Addr} {len cap : Nat} {l : List UInt8} (h : Bts w a len cap l) : (Extern.Bytes.bytesOf (.slice a len cap)).run P w = .ok (strOf l) w := by
  by_cases hp : 0 < len
  · obtain ⟨b, off, rfl, _, _⟩ := h.cells hp
    have := run_loadBytes (P := P) b off len cap l h len 0 .empty (by omega)
    simpa [Extern.Bytes.bytesOf, strOf] using this
  · obtain rfl : len = 0 := by omega
    obtain rfl : l = [] := List.eq_nil_of_length_eq_zero h.length
    cases a with
    | none => rfl
    | some a => rfl

theorem run_compare {P : Program} {w : World} {a1 a2 : Option Addr} {n1 c1 n2 c2 : Nat} {l1 l2 : List UInt8} (h1 : Bts w a1 n1 c1 l1) (h2 : Bts w a2 n2 c2 l2) :
    (Extern.BytealgCompare.compare #[.slice a1 n1 c1, .slice a2 n2 c2]).run P w = .ok (.int .i64 (Lib.compareBytes l1 l2)) w := by
  change Sem.run P (do pure (goInt (Extern.BytealgCompare.cmp (← Extern.Bytes.bytesOf (.slice a1 n1 c1)) (← Extern.Bytes.bytesOf (.slice a2 n2 c2))))) w = _
  simp only [Sem.run_bind, run_bytesOf h1, run_bytesOf h2, Sem.run_pure, Result.andThen, Lib.cmp_eq]
  rfl

theorem compare_step : ∀ (k : Nat) (a b : List UInt8), k < a.length → k < b.length → a.take k = b.take k → Lib.compareBytes a b = if (a[k]?.getD 0).toNat < (b[k]?.getD 0).toNat then -1 else if (b[k]?.getD 0).toNat < (a[k]?.getD 0).toNat then 1 else Lib.compareBytes a b
  | 0, x :: a, y :: b, _, _, _ => by
    simp only [List.getElem?_cons_zero, Option.getD_some, Lib.compareBytes, UInt8.lt_iff_toNat_lt]
    split <;> simp_all
  | k + 1, x :: a, y :: b, ha, hb, he => by
    simp only [List.take_succ_cons, List.cons.injEq] at he
    obtain ⟨rfl, he⟩ := he
    have := compare_step k a b (by simpa using ha) (by simpa using hb) he
    simp only [List.getElem?_cons_succ, Lib.compareBytes, UInt8.lt_irrefl, if_false]
    exact this
  | _, [], _, ha, _, _ => by simp at ha
  | _, _ :: _, [], _, hb, _ => by simp at hb

theorem compare_end : ∀ (a b : List UInt8), a.take (min a.length b.length) = b.take (min a.length b.length) → Lib.compareBytes a b = if a.length < b.length then -1 else if b.length < a.length then 1 else 0
  | [], [], _ => rfl
  | [], _ :: _, _ => by simp [Lib.compareBytes]
  | _ :: _, [], _ => by simp [Lib.compareBytes]
  | x :: a, y :: b, h => by
    simp only [List.length_cons, Nat.succ_min_succ, List.take_succ_cons, List.cons.injEq] at h
    obtain ⟨rfl, h⟩ := h
    have := compare_end a b h
    simp only [Lib.compareBytes, UInt8.lt_irrefl, if_false, List.length_cons, Nat.succ_lt_succ_iff]
    exact this

/-- Bytes laid over others. -/
def xorL (a b : List UInt8) : List UInt8 := List.zipWith (· ^^^ ·) a b
def xorR (a b : List UInt8) : List UInt8 × Int := if a.length = b.length then (xorL a b, 0) else ([], 2)

theorem xorL_step (a b : List UInt8) (k : Nat) (ha : k < a.length) (hb : k < b.length) : xorL (a.take (k + 1)) (b.take (k + 1)) = xorL (a.take k) (b.take k) ++ [a[k]?.getD 0 ^^^ b[k]?.getD 0] := by
  rw [take_snoc8 a k ha, take_snoc8 b k hb]
  unfold xorL
  rw [List.zipWith_append (by simp; omega)]
  rfl

theorem xor8 (x y : UInt8) : bits BinOp.xor IntKind.u8 (x.toNat : Int) (y.toNat : Int) = ((x ^^^ y).toNat : Int) := by
  rw [u8_xor_nat _ _ (UInt8.toNat_lt x) (UInt8.toNat_lt y), UInt8.toNat_xor]

theorem xor_fill (a b : List UInt8) (n k : Nat) (hk : k < n) (ha : a.length = n) (hb : b.length = n) :
    (xorL (a.take k) (b.take k) ++ List.replicate (n - k) 0).set k (a[k]?.getD 0 ^^^ b[k]?.getD 0) = xorL (a.take (k + 1)) (b.take (k + 1)) ++ List.replicate (n - (k + 1)) 0 := by
  have hl : (xorL (a.take k) (b.take k)).length = k := by simp [xorL]; omega
  rw [xorL_step a b k (by omega) (by omega), List.set_append_right _ _ (by omega), hl, Nat.sub_self, show n - k = n - (k + 1) + 1 from by omega, List.replicate_succ]
  simp

set_option maxHeartbeats 800000 in
theorem xor_any (a1 a2 : Option Addr) (n1 c1 n2 c2 : Nat) (l1 l2 : List UInt8) (w : World) (h1 : Bts w a1 n1 c1 l1) (h2 : Bts w a2 n2 c2 l2) (hm : n1 ≤ 140737488355328) :
    Calls Tryd.prog 55 #[.slice a1 n1 c1, .slice a2 n2 c2] w fun e w' => RetsOwn2 w.heap.size w' (xorR l1 l2) e ∧ Below w.heap.size w w' := by
  obtain ⟨i0, hi, hz0, hz1, hz2⟩ := info_parts Tryd.info8
  have H1 := Lib.hid h1
  have H2 := Lib.hid h2
  have L1 := Lib.hid h1.length
  have L2 := Lib.hid h2.length
  have hm2 := h2.len_le
  unfold maxLen at hm2
  clear h1 h2
  by_cases hn : n1 = n2
  · subst hn
    have hR := Lib.hid (show xorR l1 l2 = (xorL l1 l2, 0) by rw [xorR, if_pos (by rw [L1.out, L2.out])])
    go_enter Tryd.func55, Tryd.ntmps55
    go_wp2_with (at_make; refine wpList_make_full _ rfl _ _ 22 rfl w.heap.size 5 i0 (.int .u8 0) 1 Tryd.underlying22 hi hz0 hz1 _ _ _ _ n1 rfl rfl rfl rfl (by rw [hz2]; omega) (by unfold maxLen; omega) (Nat.le_refl _) ?_; intro w1 hown hgrow)
    have hown1 : Own8 5 w.heap.size w1 (.slice (some ⟨w.heap.size, 0, none⟩) n1 n1) (List.replicate n1 0) := by
      unfold Own8
      rw [← zeros_byt]
      simpa using hown
    have hb1 : Below w.heap.size w w1 := (Below.refl _ _).grown hgrow (Nat.le_refl _) (fun _ h => by cases h)
    clear hown hgrow
    go_loopw [18] (fun i wr => ∃ k : Nat, k ≤ n1 ∧ i = .int .i64 k ∧ Own8 5 w.heap.size wr (.slice (some ⟨w.heap.size, 0, none⟩) n1 n1) (xorL (l1.take k) (l2.take k) ++ List.replicate (n1 - k) 0) ∧ Below w.heap.size w wr) (fun i _ => n1 - (intOf i).toNat)
    case atStart => exact ⟨0, Nat.zero_le _, rfl, by simpa [xorL] using hown1, hb1⟩
    case round =>
      obtain ⟨k, hk, rfl, hown, hb⟩ := hrel
      have HO := Lib.hid hown
      by_cases hlt : k < n1
      · obtain ⟨b1, o1, rfl, _, hc1⟩ := (H1.out.below hb).cells (by omega)
        obtain ⟨b2, o2, rfl, _, hc2⟩ := (H2.out.below hb).cells (by omega)
        have hx := hc1 k hlt
        have hy := hc2 k hlt
        have hlen : n1 = (xorL (l1.take k) (l2.take k) ++ List.replicate (n1 - k) 0).length := by
          have := L1.out; have := L2.out; simp [xorL]; omega
        have hcell := hown.cellAt hlen k hlt
        have hfr := hown.frozenAt hlen k
        have HX := Lib.hid (xor8 (l1[k]?.getD 0) (l2[k]?.getD 0))
        have HF := Lib.hid (xor_fill l1 l2 n1 k hlt L1.out L2.out)
        have HL := Lib.hid hlen
        clear hc1 hc2 hown hlen hown1 hb1
        generalize l1[k]?.getD 0 = x at *
        generalize l2[k]?.getD 0 = y at *
        go_wp2
        go_region
        go_wp2
        rw [HX.out]
        have hst := HO.out.stored HL.out k (x ^^^ y) _ rfl
        rw [HF.out] at hst
        go_roundw
        case rel => exact ⟨k + 1, by omega, by go_num, hst.1, (hst.2 _ hb).drew⟩
        case measure => simp [intOf] <;> omega
      · obtain rfl : k = n1 := by omega
        go_wp2
        go_ret2
        rw [hR.out]
        rw [List.take_of_length_le (by rw [L1.out]; omega), List.take_of_length_le (by rw [L2.out]; omega), Nat.sub_self] at hown
        exact ⟨⟨_, rfl, by simpa using hown⟩, hb⟩
  · have hR := Lib.hid (show xorR l1 l2 = ([], 2) by rw [xorR, if_neg (by rw [L1.out, L2.out]; exact hn)])
    have hne : ((n1 : Int) != (n2 : Int)) = true := by simp; omega
    go_enter Tryd.func55, Tryd.ntmps55
    go_wp2
    go_ret2
    rw [hR.out]
    exact ⟨⟨_, rfl, Own8.nil _ _ _⟩, Below.refl _ _⟩

theorem xor_bit (x y k : Nat) : (x ^^^ y) % 2 ^ (k + 1) = (x ^^^ y) % 2 ^ k + if x / 2 ^ k % 2 = y / 2 ^ k % 2 then 0 else 2 ^ k := by
  rw [Nat.mod_pow_succ]
  have h := Nat.testBit_xor x y k
  simp only [Nat.testBit_eq_decide_div_mod_eq] at h
  have hx := Nat.mod_lt (x / 2 ^ k) (show 0 < 2 by decide)
  have hy := Nat.mod_lt (y / 2 ^ k) (show 0 < 2 by decide)
  have hz := Nat.mod_lt ((x ^^^ y) / 2 ^ k) (show 0 < 2 by decide)
  congr 1
  generalize x / 2 ^ k % 2 = p at *
  generalize y / 2 ^ k % 2 = q at *
  generalize (x ^^^ y) / 2 ^ k % 2 = r at *
  have hp : p = 0 ∨ p = 1 := by omega
  have hq : q = 0 ∨ q = 1 := by omega
  have hr : r = 0 ∨ r = 1 := by omega
  rcases hp with rfl | rfl <;> rcases hq with rfl | rfl <;> rcases hr with rfl | rfl <;> simp at h ⊢

theorem bit_test (x y p : Nat) (hx : x < 256) (hy : y < 256) : ((wrap64 ((x : Int) / (p : Int))).tmod 2 != (wrap64 ((y : Int) / (p : Int))).tmod 2) = decide (¬ x / p % 2 = y / p % 2) := by
  have e : ∀ z : Nat, z < 256 → (wrap64 ((z : Int) / (p : Int))).tmod 2 = ((z / p % 2 : Nat) : Int) := fun z hz => by
    have hd := Nat.div_le_self z p
    rw [show (z : Int) / (p : Int) = ((z / p : Nat) : Int) from by simp]
    generalize z / p = q at *
    rw [IntWalk.wrap64_in _ (by omega)]
    rw [Int.tmod_eq_emod_of_nonneg (by omega)]
    simp
  rw [e x hx, e y hy, Bool.eq_iff_iff, bne_iff_ne, decide_eq_true_iff]
  omega

end Go.Proofs.YtpefjkndfifceaaDoor.Oc

namespace Go.Proofs.YtpefjkndfifceaaDoor.Oc
open Go.RowKit

/-- The slice (a, len, cap) reads, in w, as the numbers z. -/
structure Nums (w : World) (a : Option Addr) (len cap : Nat) (z : List Int) : Prop where
  length : z.length = len
  le : len ≤ cap
  max : cap ≤ maxLen
  cells : 0 < len → ∃ b off, a = some ⟨b, off, none⟩ ∧ b < w.heap.size ∧ ∀ i, i < len → w.cell? ⟨b, off + i, none⟩ = some (.int .i64 (z[i]?.getD 0))

theorem Nums.below {w w' : World} {a : Option Addr} {len cap : Nat} {z : List Int} (h : Nums w a len cap z) (hb : Below w.heap.size w w') : Nums w' a len cap z :=
  ⟨h.length, h.le, h.max, fun hp => by
    obtain ⟨b, off, rfl, hlt, hc⟩ := h.cells hp
    exact ⟨b, off, rfl, Nat.lt_of_lt_of_le hlt hb.size, fun i hi => (hb.cell (p := ⟨b, off + i, none⟩) hlt).trans (hc i hi)⟩⟩

theorem _root_.Go.Proofs.YtpefjkndfifceaaDoor.Bts.sub {w : World} {a : Option Addr} {len cap : Nat} {l : List UInt8} (h : Bts w a len cap l) (k m : Nat) (hkm : k ≤ m) (hm : m ≤ len) : Bts w (if cap = k then a else a.map (·.add k)) (m - k) (cap - k) ((l.take m).drop k) := by
  have hl := h.length
  have hle := h.le
  have hmax := h.max
  refine ⟨by rw [List.length_drop, List.length_take]; omega, by omega, by omega, fun hn => ?_, fun hp => ?_⟩
  · by_cases hc : cap = k
    · omega
    · rw [if_neg hc] at hn
      have := h.nil (by simpa using hn)
      omega
  · obtain ⟨b, off, rfl, hlt, hc⟩ := h.cells (by omega)
    refine ⟨b, off + k, ?_, hlt, fun i hi => ?_⟩
    · rw [if_neg (by omega)]
      simp only [Option.map_some]
      congr 1
      unfold Addr.add
      split <;> simp_all
    · rw [show off + k + i = off + (k + i) from by omega, hc (k + i) (by omega), List.getElem?_drop, List.getElem?_take, if_pos (by omega)]

theorem _root_.Go.Proofs.YtpefjkndfifceaaDoor.Bts.upto {w : World} {a : Option Addr} {len cap : Nat} {l : List UInt8} (h : Bts w a len cap l) (m : Nat) (hm : m ≤ len) : Bts w a m cap (l.take m) := by
  refine ⟨by rw [List.length_take, h.length]; omega, by have := h.le; omega, h.max, h.nil, fun hp => ?_⟩
  obtain ⟨b, off, rfl, hlt, hc⟩ := h.cells (by omega)
  refine ⟨b, off, rfl, hlt, fun i hi => ?_⟩
  rw [hc i (by omega), List.getElem?_take, if_pos hi]

theorem _root_.Go.Proofs.YtpefjkndfifceaaDoor.Bts.from {w : World} {a : Option Addr} {len cap : Nat} {l : List UInt8} (h : Bts w a len cap l) (k : Nat) (hk : k ≤ len) : Bts w (if cap = k then a else a.map (·.add k)) (len - k) (cap - k) (l.drop k) := by
  have := h.sub k len hk (Nat.le_refl _)
  rwa [List.take_of_length_le (by rw [h.length]; omega)] at this

def restL (l : List UInt8) : List Int → List UInt8
  | [] => l
  | s :: ss => restL (l.drop s.toNat) ss

def partsL (l : List UInt8) : List Int → List (List UInt8)
  | [] => []
  | s :: ss => l.take s.toNat :: partsL (l.drop s.toNat) ss

def cutOk (l : List UInt8) : List Int → Bool
  | [] => l.isEmpty
  | s :: ss => decide (0 ≤ s ∧ s ≤ l.length) && cutOk (l.drop s.toNat) ss

theorem restL_snoc : ∀ (xs : List Int) (l : List UInt8) (s : Int), restL l (xs ++ [s]) = (restL l xs).drop s.toNat
  | [], _, _ => rfl
  | _ :: xs, _, s => restL_snoc xs _ s

theorem partsL_snoc : ∀ (xs : List Int) (l : List UInt8) (s : Int), partsL l (xs ++ [s]) = partsL l xs ++ [(restL l xs).take s.toNat]
  | [], _, _ => rfl
  | x :: xs, l, s => by
    have := partsL_snoc xs (l.drop x.toNat) s
    simp [partsL, restL, this]

theorem take_snocI (z : List Int) (k : Nat) (hk : k < z.length) : z.take (k + 1) = z.take k ++ [z[k]?.getD 0] := by
  rw [List.take_add_one, List.getElem?_eq_getElem hk]; rfl

theorem restL_step (l : List UInt8) (z : List Int) (k : Nat) (hk : k < z.length) : restL l (z.take (k + 1)) = (restL l (z.take k)).drop (z[k]?.getD 0).toNat := by rw [take_snocI z k hk, restL_snoc]
theorem partsL_step (l : List UInt8) (z : List Int) (k : Nat) (hk : k < z.length) : partsL l (z.take (k + 1)) = partsL l (z.take k) ++ [(restL l (z.take k)).take (z[k]?.getD 0).toNat] := by rw [take_snocI z k hk, partsL_snoc]

theorem cutOk_step (l : List UInt8) (z : List Int) (k : Nat) (hk : k < z.length) :
    cutOk l (z.drop k) = (decide (0 ≤ z[k]?.getD 0 ∧ z[k]?.getD 0 ≤ l.length) && cutOk (l.drop (z[k]?.getD 0).toNat) (z.drop (k + 1))) := by
  rw [List.drop_eq_getElem_cons hk, List.getElem?_eq_getElem hk]
  rfl

theorem cutOk_at : ∀ (z : List Int) (l : List UInt8), cutOk l z = true → (∀ k, k < z.length → 0 ≤ z[k]?.getD 0 ∧ z[k]?.getD 0 ≤ (restL l (z.take k)).length) ∧ restL l z = []
  | [], l, h => ⟨fun k hk => by simp at hk, by simpa [cutOk, restL] using h⟩
  | s :: ss, l, h => by
    simp only [cutOk, Bool.and_eq_true, decide_eq_true_eq] at h
    have := cutOk_at ss (l.drop s.toNat) h.2
    refine ⟨fun k hk => ?_, this.2⟩
    cases k with
    | zero => simpa [restL] using h.1
    | succ k => simpa [restL] using this.1 k (by simpa using hk)

def cutR (l : List UInt8) (z : List Int) : List (List UInt8) × Int := if cutOk l z = true then (partsL l z, 0) else ([], 2)
theorem cutR_yes {l : List UInt8} {z : List Int} (h : cutOk l z = true) : cutR l z = (partsL l z, 0) := by rw [cutR, if_pos h]
theorem cutR_no {l : List UInt8} {z : List Int} (h : cutOk l z = false) : cutR l z = ([], 2) := by rw [cutR, if_neg (by simp [h])]

abbrev slc (x : Row2) : Value := .slice x.1 x.2.1 x.2.2.1

/-- A list of slices of bytes, all of it the call's own. -/
structure OwnL (E U B : Nat) (w : World) (v : Value) (X : List Row2) : Prop where
  row : w.ownsRow B E 1 v X.length (X.map slc)
  each : ∀ x ∈ X, Own8 U B w (slc x) x.2.2.2

theorem OwnL.nil (E U B : Nat) (w : World) : OwnL E U B w (.slice .none 0 0) [] := ⟨World.ownsRow_nil _ _ _ _, fun _ h => by cases h⟩

theorem OwnL.below {E U B : Nat} {w w' : World} {v : Value} {X : List Row2} (h : OwnL E U B w v X) (hb : Below w.heap.size w w') : OwnL E U B w' v X := by
  refine ⟨?_, fun x hx => (h.each x hx).below hb⟩
  obtain ⟨h1, h2⟩ := h.row
  refine ⟨h1, ?_⟩
  rcases h2 with h2 | ⟨g, cap, cur, rfl, hB, hg, rest⟩
  · exact .inl h2
  · exact .inr ⟨g, cap, cur, rfl, hB, by rw [hb.block g (Array.getElem?_eq_some_iff.1 hg).1]; exact hg, rest⟩

theorem OwnL.mono {E U B B' : Nat} {w : World} {v : Value} {X : List Row2} (h : OwnL E U B w v X) (hB : B' ≤ B) : OwnL E U B' w v X := by
  refine ⟨?_, fun x hx => (h.each x hx).mono hB⟩
  obtain ⟨h1, h2⟩ := h.row
  refine ⟨h1, ?_⟩
  rcases h2 with h2 | ⟨g, cap, cur, rfl, hb, rest⟩
  · exact .inl h2
  · exact .inr ⟨g, cap, cur, rfl, Nat.le_trans hB hb, rest⟩

theorem OwnL.form {E U B : Nat} {w : World} {v : Value} {X : List Row2} (h : OwnL E U B w v X) : (v = .slice .none 0 0 ∧ X = []) ∨ ∃ g cap, v = .slice (some ⟨g, 0, .none⟩) X.length cap ∧ X.length ≤ cap ∧ cap ≤ maxLen ∧ B ≤ g ∧ g < w.heap.size := by
  obtain ⟨h1, h2⟩ := h.row
  rcases h2 with ⟨h2, h0⟩ | ⟨g, cap, cur, rfl, hb, hg, hn, hc, hs, ht⟩
  · exact .inl ⟨h2, List.eq_nil_of_length_eq_zero h0⟩
  · exact .inr ⟨g, cap, rfl, hn, hc, hb, (Array.getElem?_eq_some_iff.1 hg).1⟩

theorem OwnL.apart {E U B : Nat} {w : World} {v : Value} {X : List Row2} (h : OwnL E U B w v X) (hEU : U ≠ E) : ∀ x ∈ X, (slc x).ownBlock = .none ∨ (slc x).ownBlock ≠ v.ownBlock := by
  intro x hx
  cases hv : (slc x).ownBlock with
  | none => exact .inl rfl
  | some g =>
    refine .inr fun e => ?_
    obtain ⟨c, fz, h1⟩ := Lib.ownsRow_kind (h.each x hx) g hv
    obtain ⟨c', fz', h2⟩ := Lib.ownsRow_kind h.row g e.symm
    rw [h1] at h2
    simp at h2
    exact hEU h2.2.1

theorem slcs_oneCell (X : List Row2) : ∀ u ∈ X.map slc, u.oneCell' = true := by
  intro u hu
  obtain ⟨_, _, rfl⟩ := List.mem_map.1 hu
  rfl

/-- 'append(l, x)': one slice of bytes of the call's own more. -/
theorem wpList_append_row {P : Program} (w : World) {ops : Array Oper} {rest : List Oper} {o : Oper} {a : Act} {Q : Exit → Act → World → Prop} (hgd : o.guard = .none) (s x : Operand) (t : TypeId)
    (ho : o.op = .call { callee := .builtin .append, args := #[s, x], argTypes := #[t, t] })
    (B E U : Nat) (hEU : U ≠ E) (i : TypeInfo) (ht : P.underlying t = some (.slice E)) (hi : P.info? E = some i) (hz : i.zero = some (.slice .none 0 0)) (hsize : i.size = 1) (hby : i.bytes = 24)
    (v : Value) (X : List Row2) (hs : a.eval s = v) (hown : OwnL E U B w v X) (ad : Addr) (y : Row2) (hx : a.eval x = .slice (some ad) 1 1) (hcell : w.cell? ad = some (slc y)) (hy : Own8 U B w (slc y) y.2.2.2)
    (hsum : X.length ≤ 100000) (hbase : B ≤ w.heap.size)
    (h : ∀ v' w', OwnL E U B w' v' (X ++ [y]) → (∀ w0, Below B w0 w → Below B w0 w') → wpList P ops Q rest (a.put o.dst v') w') : wpList P ops Q (o :: rest) a w := by
  refine wpList_append_own w hgd s x t ho B E i (.slice .none 0 0) 1 24 ht hi hz hsize hby rfl (by decide) v X.length (X.map slc) hs hown.row ad 1 1 [slc y] hx rfl (fun j u hu => ?_) (by simp [Value.oneCell']) (by unfold maxLen; omega) (by omega) hbase ?_
  · cases j with
    | zero =>
      simp at hu
      subst hu
      rw [show ad.add 0 = ad from by cases ad; unfold Addr.add; split <;> simp_all]
      exact hcell
    | succ j => simp at hu
  · intro v' w' ho' hg _
    have hap := hown.apart hEU
    have hyo : (slc y).ownBlock = .none ∨ (slc y).ownBlock ≠ v.ownBlock := by
      cases hv : (slc y).ownBlock with
      | none => exact .inl rfl
      | some g =>
        refine .inr fun e => ?_
        obtain ⟨c, fz, h1⟩ := Lib.ownsRow_kind hy g hv
        obtain ⟨c', fz', h2⟩ := Lib.ownsRow_kind hown.row g e.symm
        rw [h1] at h2
        simp at h2
        exact hEU h2.2.1
    refine h v' w' ⟨by simpa using ho', fun u hu => ?_⟩ (fun w0 h0 => h0.grown hg hbase (fun k hk => (hown.row.lt k hk).1))
    rcases List.mem_append.1 hu with hu | hu
    · exact World.ownsRow.kept (hown.each u hu) hg (hap u hu)
    · obtain rfl := List.mem_singleton.1 hu
      exact World.ownsRow.kept hy hg hyo

def RetsCut (B : Nat) (w' : World) (r : List (List UInt8) × Int) (e : Ending) : Prop := ∃ v X, e = .returned (.tuple #[v, .int .i64 r.2]) ∧ OwnL 22 5 B w' v X ∧ X.map (·.2.2.2) = r.1

theorem RetsCut.no {B : Nat} {w' : World} {r : List (List UInt8) × Int} (h : r = ([], 2)) : RetsCut B w' r (.returned (.tuple #[.slice none 0 0, .int .i64 2])) := by
  subst h
  exact ⟨_, [], rfl, OwnL.nil _ _ _ _, rfl⟩

end Go.Proofs.YtpefjkndfifceaaDoor.Oc

namespace Go.Proofs.YtpefjkndfifceaaDoor.Oc
open Go.RowKit

theorem Tryd.infoS : (Tryd.prog.info? 22).map (fun i => (i.zero, i.size, i.bytes)) = some (some (.slice none 0 0), 1, 24) := by kernel_rfl

end Go.Proofs.YtpefjkndfifceaaDoor.Oc

namespace Go.Proofs.YtpefjkndfifceaaDoor
open Go.RowKit
set_option maxRecDepth 100000

theorem length_p (n : Nat) (hn : n ≤ 1000000000) (w : World) : Calls Tryd.prog 46 #[.int .i64 (n : Int)] w fun e w' => e = .returned (.int .i64 (lenP n : Int)) ∧ w = w' := by
  obtain ⟨q, hq⟩ : ∃ q, lenP n = q := ⟨_, rfl⟩
  have e1 : ((n : Int) + 7) / 8 = (q : Int) := by rw [← hq]; unfold lenP; omega
  rw [hq]
  clear hq
  go_enter Tryd.func46, Tryd.ntmps46
  go_wp2
  go_ret
  exact ⟨by show Ending.returned (.int .i64 (((n : Int) + 7) / 8)) = _; rw [e1], rfl⟩
theorem length_neg (b : Int) (h0 : -9223372036854775808 ≤ b) (h1 : b < 0) (w : World) : Calls Tryd.prog 46 #[.int .i64 b] w fun e w' => (∃ q : Int, e = .returned (.int .i64 q) ∧ -9223372036854775000 ≤ q ∧ q ≤ 0) ∧ w = w' := by
  obtain ⟨q, hq⟩ : ∃ q, Int.tdiv (b + 7) 8 = q := ⟨_, rfl⟩
  have hb : -9223372036854775000 ≤ q ∧ q ≤ 0 := by
    rw [← hq]
    by_cases h : 0 ≤ b + 7
    · rw [Int.tdiv_eq_ediv_of_nonneg h]; omega
    · obtain ⟨m, hm⟩ : ∃ m : Nat, b + 7 = -(m : Int) := ⟨(-(b + 7)).toNat, by omega⟩
      rw [hm, Int.neg_tdiv, Int.tdiv_eq_ediv_of_nonneg (by omega)]
      omega
  have hw : wrap64 q = q := by unfold wrap64; omega
  have HB := Lib.hid hb
  clear hb
  go_enter Tryd.func46, Tryd.ntmps46
  go_wp2
  go_ret
  exact ⟨⟨q, by show Ending.returned (.int .i64 (wrap64 q)) = _; rw [hw], HB.out.1, HB.out.2⟩, rfl⟩
theorem low_p (n : Nat) (hn : n ≤ 1000000000) (w : World) : Calls Tryd.prog 56 #[.int .i64 (n : Int)] w fun e w' => e = .returned (.int .u8 (lowP n : Int)) ∧ w = w' := by
  have hb := lenP_bits n
  have hl : lenP n ≤ 1000000000 := by unfold lenP; omega
  obtain ⟨k, hk⟩ : ∃ k, 8 * lenP n - n = k := ⟨_, rfl⟩
  have HK := Lib.hid (show lowP n = 255 / 2 ^ k by unfold lowP; rw [hk])
  have e1 : 8 * (lenP n : Int) - (n : Int) = (k : Int) := by omega
  have hk8 : k < 8 := by omega
  clear hk hb
  rw [HK.out]
  rcases (show k = 0 ∨ k = 1 ∨ k = 2 ∨ k = 3 ∨ k = 4 ∨ k = 5 ∨ k = 6 ∨ k = 7 by omega) with rfl | rfl | rfl | rfl | rfl | rfl | rfl | rfl
  all_goals (go_enter Tryd.func56, Tryd.ntmps56; go_wp2_with fail; refine (length_p n hn _).mono ?_; rintro e w1 ⟨rfl, rfl⟩; generalize lenP n = q at *; clear HK hk8; go_wp2; go_ret; exact ⟨by first | rfl | simp, rfl⟩)
set_option maxHeartbeats 1000000 in
theorem room_p (h s b : Int) (hs0 : -9223372036854775808 ≤ s) (hs1 : s ≤ 9223372036854775807) (hb0 : -9223372036854775808 ≤ b) (hb1 : b ≤ 9223372036854775807) (w : World) (hk : Kinds w) :
    Calls Tryd.prog 44 #[.int .i64 h, .int .i64 s, .int .i64 b] w fun e w' => e = .returned (.bool (decide (RoomP h s b))) ∧ Below w.heap.size w w' := by
  have HK := Lib.hid hk
  clear hk
  by_cases hh : IsHash h.toNat
  rotate_left
  · have HR := Lib.hid (show decide (RoomP h s b) = false from decide_eq_false fun k => hh k.1)
    have HN := Lib.hid (show h < 1 ∨ 4 < h from by unfold IsHash at hh; omega)
    clear hh
    go_enter Tryd.func44, Tryd.ntmps44
    go_wp2_with fail
    refine (size_no h HN.out _).mono ?_
    rintro e w1 ⟨rfl, hb⟩
    have HB := Lib.hid hb
    clear hb
    go_wp2
    go_ret
    exact ⟨by rw [HR.out]; rfl, HB.out⟩
  obtain ⟨n, rfl⟩ : ∃ n : Nat, h = (n : Int) := ⟨h.toNat, by unfold IsHash at hh; omega⟩
  rw [Int.toNat_natCast] at hh
  have hS := mSize_le hh
  have HRO := Lib.hid (show RoomP (n : Int) s b ↔ (0 ≤ s ∧ 0 ≤ b ∧ b ≤ 524288 ∧ s + (mSize n : Int) + 2 ≤ (lenP b.toNat : Int)) from ⟨fun k => k.2, fun k => ⟨hh, k⟩⟩)
  have HH := Lib.hid hh
  clear hh
  by_cases c1 : s < 0
  · have HR := Lib.hid (show decide (RoomP (n : Int) s b) = false from decide_eq_false fun k => by have := HRO.out.1 k; omega)
    have g1 : decide ((0 : Int) ≤ s) = false := decide_eq_false (by omega)
    go_enter Tryd.func44, Tryd.ntmps44
    go_wp2_with fail
    refine (size_yes n HH.out _ HK.out).mono ?_
    rintro e w1 ⟨rfl, hb⟩
    have HB := Lib.hid hb
    clear hb
    generalize mSize n = S at *
    have g0 : decide ((0 : Int) < (S : Int)) = true := decide_eq_true (by omega)
    go_wp2
    go_ret
    exact ⟨by rw [HR.out]; rfl, HB.out⟩
  have g1 : decide ((0 : Int) ≤ s) = true := decide_eq_true (by omega)
  by_cases c2 : 524288 < b
  · have HR := Lib.hid (show decide (RoomP (n : Int) s b) = false from decide_eq_false fun k => by have := HRO.out.1 k; omega)
    have g2 : decide (b ≤ (524288 : Int)) = false := decide_eq_false (by omega)
    go_enter Tryd.func44, Tryd.ntmps44
    go_wp2_with fail
    refine (size_yes n HH.out _ HK.out).mono ?_
    rintro e w1 ⟨rfl, hb⟩
    have HB := Lib.hid hb
    clear hb
    generalize mSize n = S at *
    have g0 : decide ((0 : Int) < (S : Int)) = true := decide_eq_true (by omega)
    go_wp2
    go_ret
    exact ⟨by rw [HR.out]; rfl, HB.out⟩
  have g2 : decide (b ≤ (524288 : Int)) = true := decide_eq_true (by omega)
  by_cases c3 : b < 0
  · have HR := Lib.hid (show decide (RoomP (n : Int) s b) = false from decide_eq_false fun k => by have := HRO.out.1 k; omega)
    skip
    go_enter Tryd.func44, Tryd.ntmps44
    go_wp2_with fail
    refine (size_yes n HH.out _ HK.out).mono ?_
    rintro e w1 ⟨rfl, hb⟩
    have HB := Lib.hid hb
    clear hb
    generalize mSize n = S at *
    have g0 : decide ((0 : Int) < (S : Int)) = true := decide_eq_true (by omega)
    go_wp2_with fail
    refine (length_neg b hb0 c3 _).mono ?_
    rintro e w2 ⟨⟨q, rfl, q1, q2⟩, rfl⟩
    have g3 : decide (s ≤ q - (S : Int) - 2) = false := decide_eq_false (by omega)
    go_wp2
    go_ret
    exact ⟨by rw [HR.out]; rfl, HB.out⟩
  obtain ⟨m, rfl⟩ : ∃ m : Nat, b = (m : Int) := ⟨b.toNat, by omega⟩
  rw [Int.toNat_natCast] at HRO
  have hm : m ≤ 524288 := by omega
  have hlm : lenP m ≤ 65536 := by unfold lenP; omega
  go_enter Tryd.func44, Tryd.ntmps44
  go_wp2_with fail
  refine (size_yes n HH.out _ HK.out).mono ?_
  rintro e w1 ⟨rfl, hb⟩
  have HB := Lib.hid hb
  clear hb
  generalize mSize n = S at *
  have g0 : decide ((0 : Int) < (S : Int)) = true := decide_eq_true (by omega)
  go_wp2_with fail
  refine (length_p m (by omega) _).mono ?_
  rintro e w2 ⟨rfl, rfl⟩
  generalize lenP m = q at *
  by_cases c4 : s + (S : Int) + 2 ≤ (q : Int)
  · have HR := Lib.hid (show decide (RoomP (n : Int) s (m : Int)) = true from decide_eq_true (HRO.out.2 ⟨by omega, by omega, by omega, c4⟩))
    have g3 : decide (s ≤ (q : Int) - (S : Int) - 2) = true := decide_eq_true (by omega)
    clear c4
    go_wp2
    go_ret
    exact ⟨by rw [HR.out]; rfl, HB.out⟩
  · have HR := Lib.hid (show decide (RoomP (n : Int) s (m : Int)) = false from decide_eq_false fun k => c4 (HRO.out.1 k).2.2.2)
    have g3 : decide (s ≤ (q : Int) - (S : Int) - 2) = false := decide_eq_false (by omega)
    clear c4
    go_wp2
    go_ret
    exact ⟨by rw [HR.out]; rfl, HB.out⟩
/-- The three rows that the inner hash is of. -/
def inRp (g : Nat) (da : Option Addr) (dn dc : Nat) (d : List Nat) (sa : Option Addr) (sn sc : Nat) (s : List Nat) : Nat → Option Addr × Nat × Nat × List Nat
  | 0 => (some ⟨g, 0, none⟩, 8, 8, List.replicate 8 0)
  | 1 => (da, dn, dc, d)
  | _ => (sa, sn, sc, s)

set_option maxHeartbeats 1000000 in
theorem inner_p (h : Nat) (hh : IsHash h) (da : Option Addr) (dn dc : Nat) (d : List Nat) (sa : Option Addr) (sn sc : Nat) (s : List Nat) (w : World) (hk : Kinds w) (hd : Reads .u8 w da dn dc d) (hs : Reads .u8 w sa sn sc s) (bd : Byt d) (bs : Byt s) (ld : dn ≤ 1048576) (ls : sn ≤ 1048576) :
    Calls Tryd.prog 45 #[.int .i64 (h : Int), .slice da dn dc, .slice sa sn sc] w fun e w' => (∃ ad c, e = .returned (.slice (some ad) (mSize h) c) ∧ Reads .u8 w' (some ad) (mSize h) c (innerP h d s) ∧ w.heap.size ≤ ad.block) ∧ Below w.heap.size w w' := by
  obtain ⟨i0, hi, hz0, hz1, hz2⟩ := info_parts infoMk
  have HK := Lib.hid hk
  have HD := Lib.hid hd
  have HS := Lib.hid hs
  have HBD := Lib.hid (And.intro bd bs)
  clear hk hd hs bd bs
  go_enter Tryd.func45, Tryd.ntmps45
  go_wp2_with (at_make; refine wpList_make_full _ rfl _ _ 22 rfl w.heap.size 5 i0 (.int .u8 0) 1 Tryd.underlying22 hi hz0 hz1 _ _ _ _ 8 rfl rfl rfl rfl (by rw [hz2]; omega) (by unfold maxLen; omega) (Nat.le_refl _) ?_; intro w1 hown hgrow; have HO := Lib.hid (OwnQ.madeM hown rfl); have HB1 := Lib.hid (Below.grown (Below.refl w.heap.size w) hgrow (Nat.le_refl _) (fun _ e => by cases e)); clear hown hgrow)
  have HR := Lib.hid (show RowsM (w1.alloc (.cells #[.slice (some ⟨w.heap.size, 0, none⟩) 8 8, .slice da dn dc, .slice sa sn sc] 22)) (some ⟨w1.heap.size, 0, none⟩) 3 (inRp w.heap.size da dn dc d sa sn sc s) from by
    have hba := (Below.refl w1.heap.size w1).alloc (Nat.le_refl _) (.cells #[.slice (some ⟨w.heap.size, 0, none⟩) 8 8, .slice da dn dc, .slice sa sn sc] 22)
    refine ⟨fun i hi => ?_, fun _ => ⟨_, 0, rfl, by simp, fun i hi => ?_⟩⟩
    · rcases (show i = 0 ∨ i = 1 ∨ i = 2 by omega) with rfl | rfl | rfl
      · exact ⟨HO.out.reads.below hba, (by decide : Byt (List.replicate 8 0)), (by decide : 8 ≤ 1048576)⟩
      · exact ⟨(HD.out.below HB1.out).below hba, HBD.out.1, ld⟩
      · exact ⟨(HS.out.below HB1.out).below hba, HBD.out.2, ls⟩
    · rw [Nat.zero_add, World.cell?_alloc_new]
      rcases (show i = 0 ∨ i = 1 ∨ i = 2 by omega) with rfl | rfl | rfl <;> rfl)
  have HB2 := Lib.hid (HB1.out.alloc HB1.out.size (.cells #[.slice (some ⟨w.heap.size, 0, none⟩) 8 8, .slice da dn dc, .slice sa sn sc] 22))
  have HF := Lib.hid (show flatM (inRp w.heap.size da dn dc d sa sn sc s) 3 = List.replicate 8 0 ++ d ++ s from rfl)
  go_wp2_with fail
  refine (sum_yes h hh _ 3 3 _ _ (HK.out.below HB2.out) HR.out (by decide)).mono ?_
  rintro e w3 ⟨⟨ad, c, rfl, h1, h2⟩, hb⟩
  rw [HF.out] at h1
  have H1 := Lib.hid h1
  have HB3 := Lib.hid (HB2.out.trans (hb.mono HB2.out.size))
  have HAD := Lib.hid (show w.heap.size ≤ ad.block from Nat.le_trans HB2.out.size h2)
  clear h1 h2 hb
  go_wp2
  go_ret
  exact ⟨⟨ad, c, rfl, H1.out, HAD.out⟩, HB3.out⟩
theorem own_of8 {E B : Nat} {w : World} {v : Value} {l : List UInt8} {m : List Nat} (h : Own8 E B w v l) (he : l.map byt = m.map (num .u8)) : OwnQ .u8 E B w v m := by
  unfold OwnQ
  unfold Own8 at h
  have hl : l.length = m.length := by simpa using congrArg List.length he
  rw [← hl, ← he]
  exact h
theorem xor_map : ∀ {a b : List Nat}, Byt a → Byt b → (Oc.xorL (u8s a) (u8s b)).map byt = (xorN a b).map (num .u8)
  | [], _, _, _ => rfl
  | _ :: _, [], _, _ => rfl
  | x :: a, y :: b, ha, hb => by
    have ih := xor_map (a := a) (b := b) (fun z hz => ha z (List.mem_cons_of_mem _ hz)) (fun z hz => hb z (List.mem_cons_of_mem _ hz))
    unfold Oc.xorL xorN u8s at ih ⊢
    rw [List.map_cons, List.map_cons, List.zipWith_cons_cons, List.zipWith_cons_cons, List.map_cons, List.map_cons, ih]
    congr 1
    have hx := ha x List.mem_cons_self
    have hy := hb y List.mem_cons_self
    unfold byt num
    rw [UInt8.toNat_xor, UInt8.toNat_ofNat', UInt8.toNat_ofNat', Nat.mod_eq_of_lt (show x < 2 ^ 8 from hx), Nat.mod_eq_of_lt (show y < 2 ^ 8 from hy)]

set_option maxHeartbeats 1000000 in
theorem masked_p (h : Nat) (hh : IsHash h) (ba : Option Addr) (bn bc : Nat) (B : List Nat) (ia : Option Addr) (iN ic : Nat) (I : List Nat) (n : Nat) (w : World) (hk : Kinds w) (hb : Reads .u8 w ba bn bc B) (hi : Reads .u8 w ia iN ic I) (bB : Byt B) (bI : Byt I) (h1 : 1 ≤ bn) (hn : bn ≤ 50000) (hin : iN ≤ 1048000) (hbits : n ≤ 1000000000) :
    Calls Tryd.prog 47 #[.int .i64 (h : Int), .slice ba bn bc, .slice ia iN ic, .int .i64 (n : Int)] w fun e w' => (∃ g c, e = .returned (.slice (some ⟨g, 0, none⟩) bn c) ∧ OwnQ .u8 5 w.heap.size w' (.slice (some ⟨g, 0, none⟩) bn c) (maskedP h B I n)) ∧ Below w.heap.size w w' := by
  have HK := Lib.hid hk
  have HBR := Lib.hid hb
  have HBN := Lib.hid hb.length
  have HI := Lib.hid hi
  have HBB := Lib.hid (And.intro bB bI)
  have HMM := Lib.hid (maskN_len hh I bn)
  have HMB := Lib.hid (maskN_byt hh I bn)
  have HH := Lib.hid hh
  have HMP := Lib.hid (show maskedP h B I n = headA (lowP n) (xorN B (maskN h I bn)) by unfold maskedP; rw [HBN.out])
  clear hk hb hi bB bI hh
  go_enter Tryd.func47, Tryd.ntmps47
  go_wp2_with fail
  refine (mask_yes h HH.out ia iN ic I bn _ HK.out HI.out HBB.out.2 hin hn).mono ?_
  rintro e w1 ⟨⟨v, rfl, hv⟩, hb⟩
  obtain ⟨ma, mn, mc, rfl, hmn, hv⟩ := own_slM hv
  have HM := Lib.hid hv
  have HB1 := Lib.hid hb
  have hmn2 : mn = bn := by rw [hmn, HMM.out]
  subst hmn2
  clear hv hb hmn
  generalize maskN h I mn = M at *
  go_wp2_with fail
  refine (Oc.xor_any ba ma mn bc mn mc (u8s B) (u8s M) _ ((HBR.out.below HB1.out).bts HBB.out.1) (HM.out.reads.bts HMB.out) (by omega)).mono ?_
  rintro e w2 ⟨⟨v, rfl, hv⟩, hb⟩
  have hx : Oc.xorR (u8s B) (u8s M) = (Oc.xorL (u8s B) (u8s M), 0) := if_pos (by rw [u8s, u8s, List.length_map, List.length_map, HBN.out, HMM.out])
  rw [hx] at hv ⊢
  dsimp only at hv ⊢
  have hv2 := own_of8 hv (xor_map HBB.out.1 HMB.out)
  have hxl : (xorN B M).length = mn := by rw [xorN_len _ _ (by rw [HBN.out, HMM.out]), HBN.out]
  have hxb := xorN_byt HBB.out.1 HMB.out
  obtain ⟨g, c, hg⟩ := hv2.succ (by intro e; rw [e] at hxl; simp at hxl; omega)
  rw [hxl] at hg
  subst hg
  have HX := Lib.hid (hv2.mono HB1.out.size)
  have HXL := Lib.hid hxl
  have HB2 := Lib.hid (HB1.out.trans (hb.mono HB1.out.size))
  obtain ⟨x, hx0⟩ : ∃ x, (xorN B M)[0]?.getD 0 = x := ⟨_, rfl⟩
  have hx256 : x < 256 := by
    rw [← hx0, List.getElem?_eq_getElem (by omega)]
    exact hxb _ (List.getElem_mem _)
  have c0 : w2.cell? ⟨g, 0, none⟩ = some (.int .u8 (x : Int)) := by
    rw [← hx0]
    exact HX.out.cellAt hxl.symm 0 (by omega)
  have f0 : w2.frozen? ⟨g, 0, none⟩ = false := HX.out.frozenAt hxl.symm 0
  have HST := Lib.hid (show headA (lowP n) (xorN B M) = (xorN B M).set 0 (x &&& lowP n) by rw [headA_set _ _ (by omega), hx0])
  have hlow := lowP_lt n
  obtain ⟨m, hm⟩ : ∃ m, lowP n = m := ⟨_, rfl⟩
  obtain ⟨y, hy⟩ : ∃ y, x &&& m = y := ⟨_, rfl⟩
  have hand : bits BinOp.and IntKind.u8 (x : Int) (m : Int) = (y : Int) := by
    rw [← hy]
    exact u8_and_nat x m hx256 (by omega)
  have hy256 : y < 256 := by rw [← hy]; exact Nat.lt_of_le_of_lt Nat.and_le_left hx256
  have HLW := Lib.hid (fun (W : World) => (low_p n hbits W).mono fun e w' h => And.intro h.1 h.2.symm)
  rw [hm] at HST HLW
  have HMM2 := Lib.hid hm
  rw [hy] at HST
  clear hv hv2 hb hx hxl hxb hx0 hm hy hlow
  have hmp : 0 < mn := h1
  go_wp2_with fail
  go_still_tail 7, (by kernel_rfl)
  repeat still_step
  still_call (HLW.out _)
  repeat still_step
  refine wpStill_nil ?_
  change wpList _ _ _ _ _ w2.drew
  have c0 : w2.drew.cell? ⟨g, 0, none⟩ = some (.int .u8 (x : Int)) := c0
  have f0 : w2.drew.frozen? ⟨g, 0, none⟩ = false := f0
  go_wp2
  go_ret
  refine ⟨⟨g, c, rfl, ?_⟩, ?_⟩
  · rw [HMP.out, HMM2.out, HST.out]
    exact ((OwnQ.stored HX.out HXL.out.symm 0 y _ rfl).1).drew
  · exact ((OwnQ.stored HX.out HXL.out.symm 0 y _ rfl).2 _ HB2.out).drew
end Go.Proofs.YtpefjkndfifceaaDoor

namespace Go.Proofs.YtpefjkndfifceaaDoor
open Go.RowKit
set_option maxRecDepth 100000

/-- 'copy' into a row of one's own, from some place on. -/
theorem run_copy_at {P : Program} (q : IntKind) (E : TypeId) (B : Nat) (w : World) (dT sT ty elem : TypeId) (hu : P.underlying dT = some (.slice elem)) (hsz : (P.info? elem).map (·.size) = some 1)
    (g n o dLen dCap : Nat) (sp : Option Addr) (sLen sCap : Nat) (L l : List Nat) (hO : OwnQ q E B w (.slice (some ⟨g, 0, none⟩) n n) L) (hr : Reads q w sp sLen sCap l) (hle : sLen ≤ dLen) (hfit : o + dLen ≤ n) :
    ∃ w', (Builtin.copy_ #[dT, sT] ty #[.slice (some ⟨g, o, none⟩) dLen dCap, .slice sp sLen sCap]).run P w = .ok (goInt sLen) w' ∧ OwnQ q E B w' (.slice (some ⟨g, 0, none⟩) n n) (L.take o ++ l ++ L.drop (o + sLen)) ∧ ∀ w0, Below B w0 w → Below B w0 w' := by
  have hl := hr.length
  rcases Nat.eq_zero_or_pos sLen with rfl | hp
  · obtain rfl : l = [] := List.eq_nil_of_length_eq_zero hl
    exact ⟨w, run_copy_none (P := P) w dT sT ty elem _ sp dLen dCap 0 sCap hu hsz (by simp), by simpa using hO, fun _ h => h⟩
  · have hn := hO.cap.1
    have hmax := hO.cap.2.2
    obtain ⟨-, h2⟩ := hO
    rcases h2 with ⟨h2, -⟩ | ⟨g', cap, cur, he, hBg, hg, hnc, hcm, hcs, hct⟩
    · cases h2
    · obtain ⟨rfl, e2, e3⟩ : g' = g ∧ L.length = n ∧ cap = n := by
        injection he with e1 e2 e3
        injection e1 with e1
        injection e1 with e1
        exact ⟨e1.symm, by omega, by omega⟩
      subst e3
      have hcur : cur.toList = L.map (num q) := by
        rw [← hct, List.take_of_length_le (by simp; omega)]
      have hcl : cur.size = cap := by
        have := congrArg List.length hcur
        simp at this
        omega
      obtain ⟨ad, rfl⟩ : ∃ ad, sp = some ad := by
        cases sp with
        | none =>
          have h0 := hr.nil rfl
          have h1 := hr.le
          omega
        | some ad => exact ⟨ad, rfl⟩
      have hrun := run_copy_row (P := P) w dT sT ty elem g' o dLen dCap ad sLen sCap cur E (l.map (num q)) hu hsz hg (by rw [List.length_map, hl]; exact (Nat.min_eq_left hle).symm) hr.news (by rw [List.length_map, hl, hcl]; omega) (nums_oneCell q l)
      rw [List.length_map, hl] at hrun
      refine ⟨_, hrun, ?_, fun w0 hb => below_setRow hb hBg _⟩
      have hlen : (L.take o ++ l ++ L.drop (o + sLen)).length = cap := by simp; omega
      show World.ownsRow _ _ _ _ _ _ _
      rw [hlen]
      refine ⟨by rw [List.length_map, hlen, Nat.mul_one], .inr ⟨g', cap, _, rfl, hBg, setRow_heap w g' _ _ E _ hg, Nat.le_refl _, hmax, ?_, ?_⟩⟩
      · simp; omega
      · rw [List.take_of_length_le (by simp; omega), hcur, List.map_append, List.map_append, List.map_take, List.map_drop]

/-! ### the lists on the way -/
theorem em_one : ∀ (a b : Nat), (List.replicate (a + 1 + b) 0).set a 1 = List.replicate a 0 ++ [1] ++ List.replicate b 0
  | 0, b => by rw [Nat.zero_add, Nat.add_comm, List.replicate_succ]; rfl
  | a + 1, b => by
    rw [show a + 1 + 1 + b = (a + 1 + b) + 1 by omega, List.replicate_succ, List.set_cons_succ, em_one a b, List.replicate_succ]
    rfl
theorem em_two (a b c : Nat) (s : List Nat) (hs : s.length = b) : (List.replicate a 0 ++ [1] ++ List.replicate (b + c) 0).take (a + 1) ++ s ++ (List.replicate a 0 ++ [1] ++ List.replicate (b + c) 0).drop (a + 1 + b) = List.replicate a 0 ++ [1] ++ s ++ List.replicate c 0 := by
  have h1 : (List.replicate a 0 ++ [1] : List Nat).length = a + 1 := by simp
  rw [List.take_left' h1, List.drop_append, h1, List.drop_eq_nil_of_le (by rw [h1]; omega), List.drop_replicate, show b + c - (a + 1 + b - (a + 1)) = c by omega]
  simp
theorem em_three (X M : List Nat) (k c : Nat) (hX : X.length = k) (hM : M.length = k) : (X ++ List.replicate c 0).take 0 ++ M ++ (X ++ List.replicate c 0).drop (0 + k) = M ++ List.replicate c 0 := by
  rw [Nat.zero_add, List.drop_left' hX]
  simp
theorem em_four (M I : List Nat) (k c : Nat) (hM : M.length = k) (hI : I.length = c) : (M ++ List.replicate (c + 1) 0).take k ++ I ++ (M ++ List.replicate (c + 1) 0).drop (k + c) = M ++ I ++ [0] := by
  rw [List.take_left' hM, List.drop_append, hM, List.drop_eq_nil_of_le (by omega), List.drop_replicate, show c + 1 - (k + c - k) = 1 by omega]
  rfl
theorem em_five (M I : List Nat) (k : Nat) (hk : (M ++ I).length = k) : (M ++ I ++ [0]).set k 188 = M ++ I ++ [188] := by
  rw [List.set_append_right _ _ (by omega), hk, Nat.sub_self]
  rfl

set_option maxHeartbeats 4000000 in
theorem encode_p (h : Nat) (hh : IsHash h) (da : Option Addr) (dn dc : Nat) (d : List Nat) (sa : Option Addr) (sn sc : Nat) (s : List Nat) (n : Nat) (w : World) (hk : Kinds w) (hd : Reads .u8 w da dn dc d) (hs : Reads .u8 w sa sn sc s) (bd : Byt d) (bs : Byt s) (hr : RoomP (h : Int) (sn : Int) (n : Int)) (hdn : dn = mSize h) (hn : n ≤ 100000) :
    Calls Tryd.prog 34 #[.int .i64 (h : Int), .slice da dn dc, .slice sa sn sc, .int .i64 (n : Int)] w fun e w' => (∃ g, e = .returned (.tuple #[.slice (some ⟨g, 0, none⟩) (lenP n) (lenP n), .int .i64 0]) ∧ OwnQ .u8 5 w.heap.size w' (.slice (some ⟨g, 0, none⟩) (lenP n) (lenP n)) (emsP h d s n)) ∧ Below w.heap.size w w' := by
  obtain ⟨i0, hi, hz0, hz1, hz2⟩ := info_parts infoMk
  have HK := Lib.hid hk
  have HD := Lib.hid hd
  have HS := Lib.hid hs
  have HSL := Lib.hid hs.length
  have HBD := Lib.hid (And.intro bd bs)
  have HH := Lib.hid hh
  have hS := mSize_le hh
  have HRD := Lib.hid (show decide (RoomP (h : Int) (sn : Int) (n : Int)) = true from decide_eq_true hr)
  obtain ⟨-, -, -, -, hfit⟩ := hr
  rw [Int.toNat_natCast, Int.toNat_natCast] at hfit
  obtain ⟨N, hN⟩ : ∃ N, lenP n = N := ⟨_, rfl⟩
  obtain ⟨S, hSS⟩ : ∃ S, mSize h = S := ⟨_, rfl⟩
  have hN2 : N ≤ 20000 := by rw [← hN]; unfold lenP; omega
  have hIL := innerP_len hh d s
  rw [hN, hSS] at hfit
  rw [hSS] at hdn hS hIL
  obtain ⟨K, hK⟩ : ∃ K, N = K + S + 1 := ⟨N - S - 1, by omega⟩
  obtain ⟨a, ha⟩ : ∃ a, K = a + 1 + sn := ⟨K - sn - 1, by omega⟩
  have HE := Lib.hid (show emsP h d s n = maskedP h (List.replicate a 0 ++ [1] ++ s) (innerP h d s) n ++ innerP h d s ++ [188] by
    unfold emsP blockP
    rw [hN, hSS, HSL.out, show N - S - 1 - sn - 1 = a by omega])
  have HML := Lib.hid (masked_len hh (List.replicate a 0 ++ [1] ++ s) (innerP h d s) n)
  have HMB := Lib.hid (masked_byt hh (block := List.replicate a 0 ++ [1] ++ s) (innerP h d s) n)
  have HBK := Lib.hid (show Byt (List.replicate a 0 ++ [1] ++ s) from fun x hx => by
    rcases List.mem_append.1 hx with hx | hx
    · rcases List.mem_append.1 hx with hx | hx
      · rw [(List.mem_replicate.1 hx).2]; decide
      · rw [List.mem_singleton.1 hx]; decide
    · exact bs x hx)
  have HBL := Lib.hid (show (List.replicate a 0 ++ [1] ++ s).length = K by simp [HSL.out]; omega)
  have HIB := Lib.hid (show Byt (innerP h d s) from mHash_byt hh _)
  have HNN := Lib.hid hN
  have HSS := Lib.hid hSS
  have HLP := Lib.hid (fun (W : World) => length_p n (by omega) W)
  rw [hN] at HLP
  subst hdn
  obtain ⟨tt, htt⟩ : ∃ tt, tt = a + 1 := ⟨_, rfl⟩
  obtain ⟨N1, hN1⟩ : ∃ N1, N1 = K + dn := ⟨_, rfl⟩
  have e1 : (N : Int) - (dn : Int) - 1 = (K : Int) := by omega
  have e2 : (K : Int) - (sn : Int) = (tt : Int) := by omega
  have e3 : (tt : Int) - 1 = (a : Int) := by omega
  have e4 : (N : Int) - 1 = (N1 : Int) := by omega
  have b1 : K < N := by omega
  have b2 : tt ≤ K := by omega
  have b3 : a < K := by omega
  have b4 : N1 < N := by omega
  have b5 : tt < N := by omega
  have b6 : tt + (K - tt) ≤ N := by omega
  have b7 : sn ≤ K - tt := by omega
  have b8 : dn ≤ N - K := by omega
  have hNpos : 0 < N := by omega
  have HQ := Lib.hid (show N = K + dn + 1 ∧ K = a + 1 + sn ∧ tt = a + 1 ∧ N1 = K + dn from ⟨hK, ha, htt, hN1⟩)
  clear hk hd hs bd bs hh hN hSS hK ha htt hN1 hfit
  go_enter Tryd.func34, Tryd.ntmps34
  go_wp2_with fail
  refine (room_p (h : Int) (sn : Int) (n : Int) (by omega) (by omega) (by omega) (by omega) _ HK.out).mono ?_
  rintro e w1 ⟨rfl, hb⟩
  rw [HRD.out]
  have HB := Lib.hid hb
  clear hb
  go_wp2_with fail
  refine (size_yes h HH.out _ (HK.out.below HB.out)).mono ?_
  rintro e w2 ⟨rfl, hb⟩
  rw [HSS.out]
  have HB := Lib.hid (HB.out.trans (hb.mono HB.out.size))
  clear hb
  go_wp2_with fail
  refine (inner_p h HH.out da dn dc d sa sn sc s _ (HK.out.below HB.out) (HD.out.below HB.out) (HS.out.below HB.out) HBD.out.1 HBD.out.2 (by omega) (by omega)).mono ?_
  rintro e w3 ⟨⟨ad, ic, rfl, hv, hab⟩, hb⟩
  rw [HSS.out] at hv ⊢
  have HI := Lib.hid hv
  have HB := Lib.hid (HB.out.trans (hb.mono HB.out.size))
  clear hv hab hb
  generalize innerP h d s = I at *
  go_wp2_with fail
  refine (HLP.out _).mono ?_
  rintro e w4 ⟨rfl, rfl⟩
  go_wp2_with (at_make; refine wpList_make_full _ rfl _ _ 22 rfl w3.heap.size 5 i0 (.int .u8 0) 1 Tryd.underlying22 hi hz0 hz1 _ _ _ _ N rfl rfl rfl rfl (by rw [hz2]; omega) (by unfold maxLen; omega) (Nat.le_refl _) ?_; intro w5 hown hgrow; have HO := Lib.hid (OwnQ.madeM hown rfl); have HW5 := Lib.hid (Below.grown (Below.refl w3.heap.size w3) hgrow (Nat.le_refl _) (fun _ e => by cases e)); have hc := HO.out.cellAt (by simp) a (by omega); rw [List.getElem?_replicate, if_pos (by omega)] at hc; have c0 : w5.cell? ⟨w3.heap.size, a, none⟩ = some (.int .u8 0) := hc; have f0 : w5.frozen? ⟨w3.heap.size, a, none⟩ = false := HO.out.frozenAt (by simp) a; have HO1 := Lib.hid (OwnQ.stored HO.out (by simp) a 1 1 rfl); clear hown hgrow hc)
  have HW6 := Lib.hid (HO1.out.2 w3 HW5.out)
  have HO6 := Lib.hid HO1.out.1
  clear c0 f0 HO HO1 HW5
  generalize w5.setCell ⟨w3.heap.size, a, none⟩ (.int .u8 1) = w6 at *
  have HL1 := Lib.hid (show (List.replicate N 0).set a 1 = List.replicate a 0 ++ [1] ++ List.replicate (sn + (dn + 1)) 0 by
    rw [← em_one, show N = a + 1 + (sn + (dn + 1)) by have := HQ.out; omega])
  rw [HL1.out] at HO6
  have HS6 := Lib.hid ((HS.out.below HB.out).below HW6.out)
  obtain ⟨w7, hrun, hO7, hB7⟩ := run_copy_at (P := Tryd.prog) .u8 5 w3.heap.size w6 22 22 3 5 Tryd.underlying22 (by kernel_rfl) _ _ tt (K - tt) (N - tt) sa sn sc _ s HO6.out HS6.out b7 b6
  rw [show tt = a + 1 from HQ.out.2.2.1, em_two a sn (dn + 1) s HSL.out] at hO7
  have HO7 := Lib.hid hO7
  have HW7 := Lib.hid (hB7 w3 HW6.out)
  rw [hrun]
  clear hrun hO7 hB7 HO6 HS6 HW6 HL1
  have HBL7 := Lib.hid (show Reads .u8 w7 (some ⟨w3.heap.size, 0, none⟩) K N (List.replicate a 0 ++ [1] ++ s) from by
    have h9 := HO7.out.reads.upto K (by omega)
    rw [List.take_left' HBL.out] at h9
    exact h9)
  obtain ⟨Bk, hBk⟩ : ∃ Bk, List.replicate a 0 ++ [1] ++ s = Bk := ⟨_, rfl⟩
  rw [hBk] at HO7 HBL7 HBK HBL HML HMB HE
  clear hBk
  have HMB2 := Lib.hid (HMB.out HBK.out)
  have HML2 := Lib.hid (show (maskedP h Bk I n).length = K by rw [HML.out, HBL.out])
  go_wp2_with fail
  refine (masked_p h HH.out _ K N Bk (some ad) dn ic I n _ ((HK.out.below HB.out).below HW7.out) HBL7.out (HI.out.below HW7.out) HBK.out HIB.out (by omega) (by omega) (by omega) (by omega)).mono ?_
  rintro e w8 ⟨⟨mg, mc, rfl, hv⟩, hb⟩
  have HM := Lib.hid hv
  have HO8 := Lib.hid (HO7.out.below hb)
  have HW8 := Lib.hid (HW7.out.trans (hb.mono HW7.out.size))
  clear hv hb HBL7 HO7 HW7 HML HMB
  generalize maskedP h Bk I n = M at *
  go_wp2_with fail
  obtain ⟨w9, hrun, hO9, hB9⟩ := run_copy_at (P := Tryd.prog) .u8 5 w3.heap.size w8 22 22 3 5 Tryd.underlying22 (by kernel_rfl) _ _ 0 K N _ K mc _ M HO8.out HM.out.reads (Nat.le_refl _) (by omega)
  rw [em_three Bk M K (dn + 1) HBL.out HML2.out] at hO9
  have HO9 := Lib.hid hO9
  have HW9 := Lib.hid (hB9 w3 HW8.out)
  have HI9 := Lib.hid (HI.out.below HW9.out)
  rw [hrun]
  clear hrun hO9 hB9 HO8 HM HW8
  go_wp2_with fail
  obtain ⟨wa, hrun, hOa, hBa⟩ := run_copy_at (P := Tryd.prog) .u8 5 w3.heap.size w9 22 22 3 5 Tryd.underlying22 (by kernel_rfl) _ _ K (N - K) (N - K) _ dn ic _ I HO9.out HI9.out b8 (by omega)
  rw [em_four M I K dn HML2.out hIL] at hOa
  have HOa := Lib.hid hOa
  have HWa := Lib.hid (hBa w3 HW9.out)
  rw [hrun]
  clear hrun hOa hBa HO9 HI9 HW9
  have hMI := Lib.hid (show (M ++ I).length = N1 by rw [List.length_append, HML2.out, hIL]; have := HQ.out; omega)
  have hc := HOa.out.cellAt HOa.out.cap.1 N1 b4
  have c0 : wa.cell? ⟨w3.heap.size, N1, none⟩ = some (.int .u8 0) := by
    rw [hc]
    congr 2
    rw [List.getElem?_append_right (by rw [hMI.out]; exact Nat.le_refl _), hMI.out, Nat.sub_self]
    rfl
  have f0 : wa.frozen? ⟨w3.heap.size, N1, none⟩ = false := HOa.out.frozenAt HOa.out.cap.1 N1
  have HOb := Lib.hid (OwnQ.stored HOa.out HOa.out.cap.1 N1 188 188 rfl)
  rw [em_five M I N1 hMI.out] at HOb
  have HNX := Lib.hid HNN.out
  clear hc
  go_wp2
  go_ret2
  refine ⟨⟨w3.heap.size, by rw [HNX.out]; rfl, ?_⟩, HB.out.trans ((HOb.out.2 w3 HWa.out).mono HB.out.size)⟩
  rw [HE.out, HNX.out]
  exact HOb.out.1.mono HB.out.size
end Go.Proofs.YtpefjkndfifceaaDoor

namespace Go.Proofs.YtpefjkndfifceaaDoor
open Go.RowKit

/-- The contract. -/
def SeqW {α : Type} (R V : Nat → Prop) (F : Fence) (n : Nat) (P : Program) (g : Nat) (lb : Array Value) (encs : α → Array Value) (S Sp : List α → Prop) (N : Nat) (w : World) : Prop :=
  ∀ (l : Nat) (J Jx : List α → World → Prop) (W : World), Below w.heap.size w W → (∀ s X X' row, J s X → X.grownBy X' row → (∀ r, row = some r → V r) → J s X') →
    (∀ s X X' row, Jx s X → X.grownBy X' row → (∀ r, row = some r → V r) → Jx s X') →
    (∀ pre x X, pre.length < N → J pre X → YieldAt F (n - 1) P l (encs x) X fun e X' => (e = .returned (.bool true) ∧ J (pre ++ [x]) X' ∧ KpR R X X') ∨ (e = .returned (.bool false) ∧ Jx (pre ++ [x]) X')) →
    J [] W → CallsIn F n P g (#[.func (.yield l) #[] #[]] ++ lb) W fun e X => (∃ v, e = .returned v) ∧ ((∃ xs, S xs ∧ J xs X) ∨ ∃ pre, Sp pre ∧ Jx pre X)
set_option maxHeartbeats 1000000 in
/-- The caller's law. -/
theorem wpIn_rangeW {α : Type} {F : Fence} {n : Nat} {P : Program} {R V : Nat → Prop} {g : Operand} {ps : Array Tmp} {assign body : Code} {Q : Exit → Act → World → Prop} {a : Act} {w : World}
    (hro : F.round = none) (h1 : 1 ≤ n) {gf : Nat} {lb : Array Value} (hg : a.eval g = .func (.func gf) #[] lb) (hFg : F.fn gf) (eg : ∀ args w, (callFunc gf args).run P w = .ok (.enter gf args) w)
    {encs : α → Array Value} {S Sp : List α → Prop} {N : Nat} {w0 : World} (hseq : SeqW R V F (n - 1) P gf lb encs S Sp N w0) (hVR : ∀ k, V k → R k) (hRl : ∀ k, R k → k < w.heap.size) (hb0 : Below w0.heap.size w0 w) (hps : ∀ x, (encs x).size = ps.size)
    (I : List α → World → Prop) (Ix : Code → List α → World → Prop) (hI : StaysR V w.heap.size I) (hIx : ∀ c, StaysR V w.heap.size (Ix c)) (h0 : I [] w) (a₁ : α → Act)
    (hassign : ∀ (l : Nat) (x : α) (W : World) (K : Act → World → Prop), K (a₁ x) W →
      assign.wpIn (F.inRound l) (n - 1 - 1) P (Exit.then K (fun _ _ _ => False)) { tmps := (ps.zip (encs x)).foldl (fun t (p, v) => t.setIfInBounds p v) a.tmps, defers := [] } W)
    (hbody : ∀ (l : Nat) (pre : List α) (x : α) (W : World), pre.length < N → I pre W → body.wpIn (F.inRound l) (n - 1 - 1) P (ownPostG w.heap.size (KpR R) I Ix (pre ++ [x]) W) (a₁ x) W)
    (hdone : ∀ (D : Nat) (xs : List α) (W : World), w.heap.size ≤ D → S xs → I xs W → W.heap[D]? = some (.deferred (some [])) → Q .normal { a with defers := { target := .collected D, args := #[] } :: a.defers } W)
    (hstop : ∀ (D : Nat) (c : Code) (pre : List α) (W : World), w.heap.size ≤ D → Sp pre → Ix c pre W → W.heap[D]? = some (.deferred (some [])) → c.wpIn F n P Q { a with defers := { target := .collected D, args := #[] } :: a.defers } W) :
    (Code.rangeFunc g ps assign body).wpIn F n P Q a w := by
  refine wpIn_rangeFunc fun fn hfn => ?_
  rw [hro]
  generalize hB : w.heap.size = B at *
  obtain ⟨rc, hrc⟩ : ∃ rc : LoopState → Option Code → Loop, rc = fun st pe => { state := st, pending := pe, fn, tmps := a.tmps, params := ps, assign, body, defers := B } := ⟨_, rfl⟩
  obtain ⟨W1, hW1⟩ : ∃ W1, (w.alloc (.deferred (some []))).alloc (.loop (rc .ready none)) = W1 := ⟨_, rfl⟩
  have bel1 : Below B w W1 := by rw [← hW1]; exact ((Below.refl _ w).alloc (Nat.le_of_eq hB.symm) _).alloc (by simp; omega) _
  have hD1 : W1.heap[B]? = some (.deferred (some [])) := by
    rw [← hW1]
    refine (Below.heap_alloc _ _ _ (by simp; omega)).trans ?_
    have := World.alloc_heap_new w (.deferred (some []))
    rwa [hB] at this
  have hL1 : W1.heap[B + 1]? = some (.loop (rc .ready none)) := by
    have := World.alloc_heap_new (w.alloc (.deferred (some []))) (.loop (rc .ready none))
    rwa [World.size_alloc, hB, hW1] at this
  have hz1 : W1.heap.size = B + 2 := by rw [← hW1]; simp; omega
  have hi1 : I [] W1 := by
    rw [← hW1]
    exact hI _ _ _ none (hI _ _ _ none h0 (World.grownBy_alloc w _ none) (fun r e => by cases e)) (World.grownBy_alloc _ _ none) (fun r e => by cases e)
  have put : ∀ {G : List α → World → Prop} (_ : StaysR V B G) {s : List α} {W : World} {r : Loop} (o : Obj), G s W → W.heap[B + 1]? = some (.loop r) → G s (W.putObj (B + 1) o) := fun hG s W r o hs hl =>
    hG s W _ (some (B + 1)) hs (grownBy_putObj' W (B + 1) o) (fun k e => by cases e; exact .inr ⟨by omega, _, hl, rfl⟩)
  refine ⟨B + 1, [{ target := .collected B, args := #[] }], W1, { target := .fn (.func gf) lb, args := #[.func (.yield (B + 1)) #[] #[]] }, W1, gf, #[.func (.yield (B + 1)) #[] #[]] ++ lb, W1, ?_, by simp only [resolve, hg]; simp [go_sem], ?_, by simp [invoke, go_sem, eg], fun _ => h1, ?_⟩
  · rw [← hW1, hrc, ← hB]
    exact run_enterLoop_outer _ _ _ _ _
  · intro f' hf'
    simp [Target.leads] at hf'
    subst hf'
    exact hFg
  have stay : ∀ {G : List α → World → Prop} (_ : StaysR V B G) (ro : Loop) (s : List α) (X X' : World) (row : Option Nat), (G s X ∧ X.heap[B + 1]? = some (.loop ro) ∧ X.heap[B]? = some (.deferred (some []))) → X.grownBy X' row → (∀ r, row = some r → V r) → G s X' ∧ X'.heap[B + 1]? = some (.loop ro) ∧ X'.heap[B]? = some (.deferred (some [])) := fun hG ro s X X' row h hgr hr =>
    ⟨hG s X X' row h.1 hgr (fun r e => .inl (hr r e)), (hgr.block _ (Array.getElem?_eq_some_iff.1 h.2.1).1 (fun e => by have := hRl _ (hVR _ (hr _ e.symm)); omega)).trans h.2.1, (hgr.block _ (Array.getElem?_eq_some_iff.1 h.2.2).1 (fun e => by have := hRl _ (hVR _ (hr _ e.symm)); omega)).trans h.2.2⟩
  refine (hseq (B + 1) (fun s X => I s X ∧ X.heap[B + 1]? = some (.loop (rc .ready none)) ∧ X.heap[B]? = some (.deferred (some [])))
    (fun s X => ∃ c, Ix c s X ∧ X.heap[B + 1]? = some (.loop (rc .done (some c))) ∧ X.heap[B]? = some (.deferred (some []))) W1 (hb0.trans (bel1.mono (by rw [← hB]; exact hb0.size)))
    (fun s X X' row h hgr hr => stay hI _ s X X' row h hgr hr) (fun s X X' row ⟨c, h⟩ hgr hr => ⟨c, stay (hIx c) _ s X X' row h hgr hr⟩) ?_ ⟨hi1, hL1, hD1⟩).mono ?_
  · rintro pre x X hN ⟨hi, hl, hd⟩
    have hlt : B + 1 < X.heap.size := (Array.getElem?_eq_some_iff.1 hl).1
    have hy := run_yield (P := P) (args := encs x) hl (by rw [hrc]; exact hps x)
    rw [hrc] at hy
    refine ⟨fn, _, assign, body, hy, roundIn_of_wpIn hfn (hassign _ x X _ ⟨_, run_beginRound hl (by rw [hrc]), wpIn_mono (hbody _ pre x _ hN (put hI _ hi hl)) ?_⟩)⟩
    obtain ⟨X2, hX2⟩ : ∃ X2, X.putObj (B + 1) (.loop { rc .ready none with state := .busy }) = X2 := ⟨_, rfl⟩
    rw [hX2]
    have hl2 : X2.heap[B + 1]? = some (.loop { rc .ready none with state := .busy }) := by rw [← hX2]; exact World.putObj_heap_same hlt
    have hd2 : X2.heap[B]? = some (.deferred (some [])) := by rw [← hX2]; exact (World.putObj_heap_other (by omega)).trans hd
    have kp2 : KpR R X X2 := by rw [← hX2]; exact KpR.put X _ _ (fun h => by have := hRl _ h; omega)
    have last : ∀ (j : Option Code) (X3 : World), KeepsFrom B X2 X3 → (Instr.endRound (B + 1) j).run P X3 = .ok (.bool j.isNone) (X3.putObj (B + 1) (.loop (rc (if j.isNone then .ready else .done) j))) ∧ X3.heap[B + 1]? = some (.loop { rc .ready none with state := .busy }) ∧ (X3.putObj (B + 1) (.loop (rc (if j.isNone then .ready else .done) j))).heap[B + 1]? = some (.loop (rc (if j.isNone then .ready else .done) j)) ∧ (X3.putObj (B + 1) (.loop (rc (if j.isNone then .ready else .done) j))).heap[B]? = some (.deferred (some [])) := fun j X3 hk => by
      have hl3 := hk.same _ _ (by omega) hl2 rfl
      have hr := run_endRound (P := P) j hl3
      rw [hrc] at hr hl3 ⊢
      exact ⟨hr, hl3, World.putObj_heap_same (Array.getElem?_eq_some_iff.1 hl3).1, (World.putObj_heap_other (by omega)).trans (hk.same _ _ (Nat.le_refl _) hd2 rfl)⟩
    rintro e a3 X3 hp
    cases e with
    | normal =>
      obtain ⟨hk, kp3, hi3⟩ := hp
      obtain ⟨hr, hl3, hl4, hd4⟩ := last none X3 hk
      exact ⟨_, _, hr, .inl ⟨rfl, ⟨put hI _ hi3 hl3, hl4, hd4⟩, (kp2.trans kp3).trans (KpR.put X3 _ _ (fun h => by have := hRl _ h; omega))⟩⟩
    | ret =>
      obtain ⟨hr, hl3, hl4, hd4⟩ := last (some .ret) X3 hp.1
      exact ⟨_, _, hr, .inr ⟨rfl, .ret, put (hIx _) _ hp.2 hl3, hl4, hd4⟩⟩
    | exit id =>
      obtain ⟨hr, hl3, hl4, hd4⟩ := last (some (.exit id)) X3 hp.1
      exact ⟨_, _, hr, .inr ⟨rfl, .exit id, put (hIx _) _ hp.2 hl3, hl4, hd4⟩⟩
    | goto t =>
      obtain ⟨hr, hl3, hl4, hd4⟩ := last (some (.goto t)) X3 hp.1
      exact ⟨_, _, hr, .inr ⟨rfl, .goto t, put (hIx _) _ hp.2 hl3, hl4, hd4⟩⟩
    | panic ch => exact hp.elim
    | outgrown => exact hp.elim
  · rintro e X2 ⟨⟨v, rfl⟩, (⟨xs, hS, hi, hl, hd⟩ | ⟨pre, hSp, c, hi, hl, hd⟩)⟩
    · refine ⟨none, X2.putObj (B + 1) (.loop { rc .ready none with state := .exhausted }), ?_, hdone _ xs _ (Nat.le_refl _) hS (put hI _ hi hl) ((World.putObj_heap_other (by omega)).trans hd)⟩
      have := run_endLoop (P := P) hl (by rw [hrc]; simp)
      rw [hrc] at this ⊢
      exact this
    · refine ⟨some c, X2.putObj (B + 1) (.loop { rc .done (some c) with state := .exhausted }), ?_, hstop _ c pre _ (Nat.le_refl _) hSp (put (hIx c) _ hi hl) ((World.putObj_heap_other (by omega)).trans hd)⟩
      have := run_endLoop (P := P) hl (by rw [hrc]; simp)
      rw [hrc] at this ⊢
      exact this

end Go.Proofs.YtpefjkndfifceaaDoor

namespace Go.Proofs.YtpefjkndfifceaaDoor
open Go.RowKit

/-- What a round keeps: all but the blocks that E names. -/
def KpV (E : Nat → Prop) (W W' : World) : Prop := W.heap.size ≤ W'.heap.size ∧ ∀ (k : Nat), k < W.heap.size → ¬ E k → W'.heap[k]? = W.heap[k]?
theorem KpV.refl (E : Nat → Prop) (W : World) : KpV E W W := ⟨Nat.le_refl _, fun _ _ _ => rfl⟩
theorem KpV.trans {E : Nat → Prop} {X Y Z : World} (h : KpV E X Y) (k : KpV E Y Z) : KpV E X Z := ⟨Nat.le_trans h.1 k.1, fun i hi he => (k.2 i (Nat.lt_of_lt_of_le hi h.1) he).trans (h.2 i hi he)⟩
theorem KpV.mono {E E' : Nat → Prop} {X Y : World} (h : KpV E X Y) (hE : ∀ k, E k → E' k) : KpV E' X Y := ⟨h.1, fun i hi he => h.2 i hi fun k => he (hE i k)⟩
theorem KpV.grown {E : Nat → Prop} {W W' : World} {row : Option Nat} (hg : W.grownBy W' row) (hr : ∀ r, row = some r → E r) : KpV E W W' :=
  ⟨hg.size, fun k hk he => hg.block k hk fun e => he (hr k e.symm)⟩
theorem KpV.put {E : Nat → Prop} (W : World) (l : Nat) (o : Obj) (hl : E l) : KpV E W (W.putObj l o) :=
  ⟨(grownBy_putObj' W l o).size, fun k _ he => World.putObj_heap_other fun e => he (e ▸ hl)⟩

/-- The contract. -/
def SeqV {α : Type} (V E : Nat → Prop) (F : Fence) (n : Nat) (P : Program) (g : Nat) (lb : Array Value) (encs : α → Array Value) (G : α → Prop) (S Sp : List α → Prop) (T : World → Prop) (w : World) : Prop :=
  ∀ (l : Nat) (J Jx : List α → World → Prop) (W : World), w.heap.size ≤ l → l < W.heap.size → Below w.heap.size w W → (∀ s X X' row, J s X → X.grownBy X' row → (∀ r, row = some r → V r) → J s X') →
    (∀ s X X' row, Jx s X → X.grownBy X' row → (∀ r, row = some r → V r) → Jx s X') →
    (∀ pre x X, J pre X → YieldAt F (n - 1) P l (encs x) X fun e X' => (e = .returned (.bool true) ∧ G x ∧ J (pre ++ [x]) X' ∧ KpV (fun k => k = l ∨ E k) X X') ∨ (e = .returned (.bool false) ∧ Jx (pre ++ [x]) X')) →
    J [] W → CallsIn F n P g (#[.func (.yield l) #[] #[]] ++ lb) W fun e X => (∃ v, e = .returned v) ∧ ((∃ xs, S xs ∧ J xs X ∧ T X) ∨ ∃ pre, Sp pre ∧ Jx pre X)
set_option maxHeartbeats 1000000 in
/-- The caller's law. -/
theorem wpIn_rangeV {α : Type} {F : Fence} {n : Nat} {P : Program} {V E : Nat → Prop} {g : Operand} {ps : Array Tmp} {assign body : Code} {Q : Exit → Act → World → Prop} {a : Act} {w : World}
    (hro : F.round = none) (h1 : 1 ≤ n) {gf : Nat} {lb : Array Value} (hg : a.eval g = .func (.func gf) #[] lb) (hFg : F.fn gf) (eg : ∀ args w, (callFunc gf args).run P w = .ok (.enter gf args) w)
    {encs : α → Array Value} {G : α → Prop} {S Sp : List α → Prop} {T : World → Prop} {w0 : World} (hseq : SeqV V E F (n - 1) P gf lb encs G S Sp T w0) (hVl : ∀ k, V k → k < w.heap.size) (hb0 : Below w0.heap.size w0 w) (hps : ∀ x, (encs x).size = ps.size)
    (I : List α → World → Prop) (Ix : Code → List α → World → Prop) (hI : StaysR V w.heap.size I) (hIx : ∀ c, StaysR V w.heap.size (Ix c)) (hG : ∀ pre x X, I (pre ++ [x]) X → G x) (hT : StaysR (fun _ => False) w.heap.size (fun (_ : Unit) => T)) (h0 : I [] w) (a₁ : α → Act)
    (hassign : ∀ (l : Nat) (x : α) (W : World) (K : Act → World → Prop), K (a₁ x) W →
      assign.wpIn (F.inRound l) (n - 1 - 1) P (Exit.then K (fun _ _ _ => False)) { tmps := (ps.zip (encs x)).foldl (fun t (p, v) => t.setIfInBounds p v) a.tmps, defers := [] } W)
    (hbody : ∀ (l : Nat) (pre : List α) (x : α) (W : World), I pre W → body.wpIn (F.inRound l) (n - 1 - 1) P (ownPostG w.heap.size (KpV E) I Ix (pre ++ [x]) W) (a₁ x) W)
    (hdone : ∀ (D : Nat) (xs : List α) (W : World), w.heap.size ≤ D → S xs → I xs W → T W → W.heap[D]? = some (.deferred (some [])) → Q .normal { a with defers := { target := .collected D, args := #[] } :: a.defers } W)
    (hstop : ∀ (D : Nat) (c : Code) (pre : List α) (W : World), w.heap.size ≤ D → Sp pre → Ix c pre W → W.heap[D]? = some (.deferred (some [])) → c.wpIn F n P Q { a with defers := { target := .collected D, args := #[] } :: a.defers } W) :
    (Code.rangeFunc g ps assign body).wpIn F n P Q a w := by
  refine wpIn_rangeFunc fun fn hfn => ?_
  rw [hro]
  generalize hB : w.heap.size = B at *
  obtain ⟨rc, hrc⟩ : ∃ rc : LoopState → Option Code → Loop, rc = fun st pe => { state := st, pending := pe, fn, tmps := a.tmps, params := ps, assign, body, defers := B } := ⟨_, rfl⟩
  obtain ⟨W1, hW1⟩ : ∃ W1, (w.alloc (.deferred (some []))).alloc (.loop (rc .ready none)) = W1 := ⟨_, rfl⟩
  have bel1 : Below B w W1 := by rw [← hW1]; exact ((Below.refl _ w).alloc (Nat.le_of_eq hB.symm) _).alloc (by simp; omega) _
  have hD1 : W1.heap[B]? = some (.deferred (some [])) := by
    rw [← hW1]
    refine (Below.heap_alloc _ _ _ (by simp; omega)).trans ?_
    have := World.alloc_heap_new w (.deferred (some []))
    rwa [hB] at this
  have hL1 : W1.heap[B + 1]? = some (.loop (rc .ready none)) := by
    have := World.alloc_heap_new (w.alloc (.deferred (some []))) (.loop (rc .ready none))
    rwa [World.size_alloc, hB, hW1] at this
  have hz1 : W1.heap.size = B + 2 := by rw [← hW1]; simp; omega
  have hi1 : I [] W1 := by
    rw [← hW1]
    exact hI _ _ _ none (hI _ _ _ none h0 (World.grownBy_alloc w _ none) (fun r e => by cases e)) (World.grownBy_alloc _ _ none) (fun r e => by cases e)
  have put : ∀ {G : List α → World → Prop} (_ : StaysR V B G) {s : List α} {W : World} {r : Loop} (o : Obj), G s W → W.heap[B + 1]? = some (.loop r) → G s (W.putObj (B + 1) o) := fun hG s W r o hs hl =>
    hG s W _ (some (B + 1)) hs (grownBy_putObj' W (B + 1) o) (fun k e => by cases e; exact .inr ⟨by omega, _, hl, rfl⟩)
  refine ⟨B + 1, [{ target := .collected B, args := #[] }], W1, { target := .fn (.func gf) lb, args := #[.func (.yield (B + 1)) #[] #[]] }, W1, gf, #[.func (.yield (B + 1)) #[] #[]] ++ lb, W1, ?_, by simp only [resolve, hg]; simp [go_sem], ?_, by simp [invoke, go_sem, eg], fun _ => h1, ?_⟩
  · rw [← hW1, hrc, ← hB]
    exact run_enterLoop_outer _ _ _ _ _
  · intro f' hf'
    simp [Target.leads] at hf'
    subst hf'
    exact hFg
  have stay : ∀ {G : List α → World → Prop} (_ : StaysR V B G) (ro : Loop) (s : List α) (X X' : World) (row : Option Nat), (G s X ∧ X.heap[B + 1]? = some (.loop ro) ∧ X.heap[B]? = some (.deferred (some []))) → X.grownBy X' row → (∀ r, row = some r → V r) → G s X' ∧ X'.heap[B + 1]? = some (.loop ro) ∧ X'.heap[B]? = some (.deferred (some [])) := fun hG ro s X X' row h hgr hr =>
    ⟨hG s X X' row h.1 hgr (fun r e => .inl (hr r e)), (hgr.block _ (Array.getElem?_eq_some_iff.1 h.2.1).1 (fun e => by have := hVl _ (hr _ e.symm); omega)).trans h.2.1, (hgr.block _ (Array.getElem?_eq_some_iff.1 h.2.2).1 (fun e => by have := hVl _ (hr _ e.symm); omega)).trans h.2.2⟩
  refine (hseq (B + 1) (fun s X => I s X ∧ X.heap[B + 1]? = some (.loop (rc .ready none)) ∧ X.heap[B]? = some (.deferred (some [])))
    (fun s X => ∃ c, Ix c s X ∧ X.heap[B + 1]? = some (.loop (rc .done (some c))) ∧ X.heap[B]? = some (.deferred (some []))) W1 (by have := hb0.size; omega) (by omega) (hb0.trans (bel1.mono (by rw [← hB]; exact hb0.size)))
    (fun s X X' row h hgr hr => stay hI _ s X X' row h hgr hr) (fun s X X' row ⟨c, h⟩ hgr hr => ⟨c, stay (hIx c) _ s X X' row h hgr hr⟩) ?_ ⟨hi1, hL1, hD1⟩).mono ?_
  · rintro pre x X ⟨hi, hl, hd⟩
    have hlt : B + 1 < X.heap.size := (Array.getElem?_eq_some_iff.1 hl).1
    have hy := run_yield (P := P) (args := encs x) hl (by rw [hrc]; exact hps x)
    rw [hrc] at hy
    refine ⟨fn, _, assign, body, hy, roundIn_of_wpIn hfn (hassign _ x X _ ⟨_, run_beginRound hl (by rw [hrc]), wpIn_mono (hbody _ pre x _ (put hI _ hi hl)) ?_⟩)⟩
    obtain ⟨X2, hX2⟩ : ∃ X2, X.putObj (B + 1) (.loop { rc .ready none with state := .busy }) = X2 := ⟨_, rfl⟩
    rw [hX2]
    have hl2 : X2.heap[B + 1]? = some (.loop { rc .ready none with state := .busy }) := by rw [← hX2]; exact World.putObj_heap_same hlt
    have hd2 : X2.heap[B]? = some (.deferred (some [])) := by rw [← hX2]; exact (World.putObj_heap_other (by omega)).trans hd
    have kp2 : KpV (fun k => k = B + 1 ∨ E k) X X2 := by rw [← hX2]; exact KpV.put X _ _ (.inl rfl)
    have last : ∀ (j : Option Code) (X3 : World), KeepsFrom B X2 X3 → (Instr.endRound (B + 1) j).run P X3 = .ok (.bool j.isNone) (X3.putObj (B + 1) (.loop (rc (if j.isNone then .ready else .done) j))) ∧ X3.heap[B + 1]? = some (.loop { rc .ready none with state := .busy }) ∧ (X3.putObj (B + 1) (.loop (rc (if j.isNone then .ready else .done) j))).heap[B + 1]? = some (.loop (rc (if j.isNone then .ready else .done) j)) ∧ (X3.putObj (B + 1) (.loop (rc (if j.isNone then .ready else .done) j))).heap[B]? = some (.deferred (some [])) := fun j X3 hk => by
      have hl3 := hk.same _ _ (by omega) hl2 rfl
      have hr := run_endRound (P := P) j hl3
      rw [hrc] at hr hl3 ⊢
      exact ⟨hr, hl3, World.putObj_heap_same (Array.getElem?_eq_some_iff.1 hl3).1, (World.putObj_heap_other (by omega)).trans (hk.same _ _ (Nat.le_refl _) hd2 rfl)⟩
    rintro e a3 X3 hp
    cases e with
    | normal =>
      obtain ⟨hk, kp3, hi3⟩ := hp
      obtain ⟨hr, hl3, hl4, hd4⟩ := last none X3 hk
      exact ⟨_, _, hr, .inl ⟨rfl, hG _ _ _ hi3, ⟨put hI _ hi3 hl3, hl4, hd4⟩, (kp2.trans (kp3.mono fun _ h => .inr h)).trans (KpV.put X3 _ _ (.inl rfl))⟩⟩
    | ret =>
      obtain ⟨hr, hl3, hl4, hd4⟩ := last (some .ret) X3 hp.1
      exact ⟨_, _, hr, .inr ⟨rfl, .ret, put (hIx _) _ hp.2 hl3, hl4, hd4⟩⟩
    | exit id =>
      obtain ⟨hr, hl3, hl4, hd4⟩ := last (some (.exit id)) X3 hp.1
      exact ⟨_, _, hr, .inr ⟨rfl, .exit id, put (hIx _) _ hp.2 hl3, hl4, hd4⟩⟩
    | goto t =>
      obtain ⟨hr, hl3, hl4, hd4⟩ := last (some (.goto t)) X3 hp.1
      exact ⟨_, _, hr, .inr ⟨rfl, .goto t, put (hIx _) _ hp.2 hl3, hl4, hd4⟩⟩
    | panic ch => exact hp.elim
    | outgrown => exact hp.elim
  · rintro e X2 ⟨⟨v, rfl⟩, (⟨xs, hS, ⟨hi, hl, hd⟩, ht⟩ | ⟨pre, hSp, c, hi, hl, hd⟩)⟩
    · refine ⟨none, X2.putObj (B + 1) (.loop { rc .ready none with state := .exhausted }), ?_, hdone _ xs _ (Nat.le_refl _) hS (put hI _ hi hl) (hT () _ _ (some (B + 1)) ht (grownBy_putObj' X2 (B + 1) _) (fun k e => by cases e; exact .inr ⟨by omega, _, hl, rfl⟩)) ((World.putObj_heap_other (by omega)).trans hd)⟩
      have := run_endLoop (P := P) hl (by rw [hrc]; simp)
      rw [hrc] at this ⊢
      exact this
    · refine ⟨some c, X2.putObj (B + 1) (.loop { rc .done (some c) with state := .exhausted }), ?_, hstop _ c pre _ (Nat.le_refl _) hSp (put (hIx c) _ hi hl) ((World.putObj_heap_other (by omega)).trans hd)⟩
      have := run_endLoop (P := P) hl (by rw [hrc]; simp)
      rw [hrc] at this ⊢
      exact this

end Go.Proofs.YtpefjkndfifceaaDoor

namespace Go.Proofs.YtpefjkndfifceaaDoor
open Go.RowKit
set_option maxRecDepth 100000

theorem u8s_num {x : List Nat} (h : Byt x) : (u8s x).map byt = x.map (num .u8) := by
  unfold u8s
  rw [List.map_map]
  refine List.map_congr_left fun n hn => ?_
  have := h n hn
  show byt (UInt8.ofNat n) = num .u8 n
  unfold byt num
  rw [UInt8.toNat_ofNat', Nat.mod_eq_of_lt (show n < 2 ^ 8 from this)]

/-- Three pieces of bytes, all of it the call's own. -/
structure ThreeP (B : Nat) (w : World) (v : Value) (x y z : List Nat) : Prop where
  list : ∃ X : List Oc.Row2, Oc.OwnL 22 5 B w v X ∧ X.map (·.2.2.2) = [u8s x, u8s y, u8s z]
  byts : Byt x ∧ Byt y ∧ Byt z
theorem ThreeP.same {B : Nat} {w w' : World} {v : Value} {x y z : List Nat} (h : ThreeP B w v x y z) (hs : ∀ g, B ≤ g → g < w.heap.size → w'.heap[g]? = w.heap[g]?) : ThreeP B w' v x y z := by
  obtain ⟨⟨X, h, hX⟩, hb⟩ := h
  refine ⟨⟨X, ⟨?_, fun u hu => ?_⟩, hX⟩, hb⟩
  · obtain ⟨h1, h2⟩ := h.row
    refine ⟨h1, ?_⟩
    rcases h2 with h2 | ⟨g, cap, cur, rfl, hB, hg, rest⟩
    · exact .inl h2
    · exact .inr ⟨g, cap, cur, rfl, hB, by rw [hs g hB (Array.getElem?_eq_some_iff.1 hg).1]; exact hg, rest⟩
  · obtain ⟨h1, h2⟩ := h.each u hu
    refine ⟨h1, ?_⟩
    rcases h2 with h2 | ⟨g, cap, cur, hv, hB, hg, rest⟩
    · exact .inl h2
    · exact .inr ⟨g, cap, cur, hv, hB, by rw [hs g hB (Array.getElem?_eq_some_iff.1 hg).1]; exact hg, rest⟩
theorem ThreeP.open {B : Nat} {w : World} {v : Value} {x y z : List Nat} (h : ThreeP B w v x y z) :
    ∃ g c xa xc ya yc za zc, v = .slice (some ⟨g, 0, none⟩) 3 c ∧ B ≤ g ∧ g < w.heap.size ∧ 3 ≤ c ∧ w.cell? ⟨g, 0, none⟩ = some (.slice xa x.length xc) ∧ w.cell? ⟨g, 1, none⟩ = some (.slice ya y.length yc) ∧ w.cell? ⟨g, 2, none⟩ = some (.slice za z.length zc) ∧
      OwnQ .u8 5 B w (.slice xa x.length xc) x ∧ OwnQ .u8 5 B w (.slice ya y.length yc) y ∧ OwnQ .u8 5 B w (.slice za z.length zc) z := by
  obtain ⟨⟨X, h, hX⟩, b0, b1, b2⟩ := h
  match X, hX with
  | [(a0, n0, c0, l0), (a1, n1, c1, l1), (a2, n2, c2, l2)], hX =>
    simp only [List.map_cons, List.map_nil, List.cons.injEq, and_true] at hX
    obtain ⟨rfl, rfl, rfl⟩ := hX
    have o0 := h.each _ (List.mem_cons_self ..)
    have o1 := h.each _ (List.mem_cons_of_mem _ (List.mem_cons_self ..))
    have o2 := h.each _ (List.mem_cons_of_mem _ (List.mem_cons_of_mem _ (List.mem_cons_self ..)))
    have e0 := own_of8 o0 (u8s_num b0)
    have e1 := own_of8 o1 (u8s_num b1)
    have e2 := own_of8 o2 (u8s_num b2)
    have h0 := e0.cap.1
    have h1 := e1.cap.1
    have h2 := e2.cap.1
    subst h0 h1 h2
    rcases h.form with ⟨-, hn⟩ | ⟨g, c, rfl, hc1, -, hg, hgl⟩
    · cases hn
    · exact ⟨g, c, a0, c0, a1, c1, a2, c2, rfl, hg, hgl, hc1, World.ownsRow.cellAt h.row 0 (by simp), World.ownsRow.cellAt h.row 1 (by simp), World.ownsRow.cellAt h.row 2 (by simp), e0, e1, e2⟩

theorem u8s_take (l : List Nat) (n : Nat) : (u8s l).take n = u8s (l.take n) := by unfold u8s; rw [List.map_take]
theorem u8s_drop (l : List Nat) (n : Nat) : (u8s l).drop n = u8s (l.drop n) := by unfold u8s; rw [List.map_drop]
theorem byt_take {l : List Nat} (h : Byt l) (n : Nat) : Byt (l.take n) := fun x hx => h x (List.mem_of_mem_take hx)
theorem byt_drop {l : List Nat} (h : Byt l) (n : Nat) : Byt (l.drop n) := fun x hx => h x (List.mem_of_mem_drop hx)

theorem nums_lit (w : World) (E : TypeId) (z : List Int) (cs : Array Value) (h : cs = (z.map fun n => Value.int .i64 n).toArray) (hm : z.length ≤ maxLen) : Oc.Nums (w.alloc (.cells cs E)) (some ⟨w.heap.size, 0, .none⟩) z.length z.length z := by
  subst h
  refine ⟨rfl, Nat.le_refl _, hm, fun _ => ⟨w.heap.size, 0, rfl, by simp, fun i hi => ?_⟩⟩
  rw [World.cell?_alloc_at _ _ _ _ (by simp)]
  simp [hi]

end Go.Proofs.YtpefjkndfifceaaDoor

namespace Go.Proofs.YtpefjkndfifceaaDoor
open Go.RowKit
set_option maxRecDepth 100000

/-- What is told of bytes. -/
def testsP (h sn : Nat) (b : List Nat) (n : Nat) : List Bool :=
  let S := mSize h
  let K := lenP n - S - 1
  let M := maskedP h (b.take K) ((b.drop K).take S) n
  let a := K - sn - 1
  [true, (b.drop (K + S))[0]?.getD 0 == 188, (b.take K)[0]?.getD 0 &&& (255 ^^^ lowP n) == 0, true, (Oc.bareL (u8s (M.take a))).length == 0, (((M.drop a).take 1)[0]?.getD 0) == 1]

/-- The parts that were read. -/
def PartsAt (bp : Nat) (I s : List Nat) (W : World) : Prop := ∃ ia ic sa sc B, bp < B ∧ W.cell? ⟨bp, 0, none⟩ = some (.slice ia I.length ic) ∧ W.cell? ⟨bp, 1, none⟩ = some (.slice sa s.length sc) ∧ OwnQ .u8 5 B W (.slice ia I.length ic) I ∧ OwnQ .u8 5 B W (.slice sa s.length sc) s

theorem int_beq (a b : Nat) : ((a : Int) == (b : Int)) = (a == b) := by
  by_cases h : a = b
  · subst h; simp
  · have h2 : ¬ (a : Int) = (b : Int) := by omega
    rw [beq_eq_false_iff_ne.2 h, beq_eq_false_iff_ne.2 h2]

theorem OwnQ.kp {q : IntKind} {E B : Nat} {w X : World} {v : Value} {l : List Nat} {Ex : Nat → Prop} (h : OwnQ q E B w v l) (hk : KpV Ex w X) (hn : ∀ k, B ≤ k → ¬ Ex k) : OwnQ q E B X v l := by
  obtain ⟨h1, h2⟩ := h
  refine ⟨h1, ?_⟩
  rcases h2 with h2 | ⟨g, cap, cur, rfl, hB, hg, rest⟩
  · exact .inl h2
  · exact .inr ⟨g, cap, cur, rfl, hB, by rw [hk.2 g (Array.getElem?_eq_some_iff.1 hg).1 (hn g hB)]; exact hg, rest⟩

theorem OwnQ.blk {q : IntKind} {E B : Nat} {w : World} {g n c : Nat} {l : List Nat} (h : OwnQ q E B w (.slice (some ⟨g, 0, none⟩) n c) l) : B ≤ g := by
  rcases h.2 with ⟨h, -⟩ | ⟨_, _, _, h, hb, -⟩
  · cases h
  · cases h; exact hb

theorem grown_cellP (W : World) (a : Addr) (v : Value) : W.grownBy (W.setCell a v) (some a.block) :=
  ⟨rfl, rfl, rfl, (KeepsWalks.setCell W _ v).size, fun k _ hk => Below.heap_setCell _ _ _ k (fun e => hk (by rw [e]))⟩
theorem grown_drewP (w : World) : w.grownBy w.drew none := ⟨rfl, rfl, rfl, Nat.le_refl _, fun _ _ _ => rfl⟩

theorem cut_prop {X Y : Prop} (f : Hid X → Y) (x : X) : Y := f (Lib.hid x)

theorem u8_xor_nat (x y : Nat) (hx : x < 256) (hy : y < 256) : bits BinOp.xor IntKind.u8 (x : Int) (y : Int) = ((x ^^^ y : Nat) : Int) := by
  have := Oc.xor8 (UInt8.ofNat x) (UInt8.ofNat y)
  rw [UInt8.toNat_xor, UInt8.toNat_ofNat', UInt8.toNat_ofNat', Nat.mod_eq_of_lt (show x < 2 ^ 8 from hx), Nat.mod_eq_of_lt (show y < 2 ^ 8 from hy)] at this
  exact this

def encBp (x : Bool) : Array Value := #[.bool x]

theorem KpV.below {E : Nat → Prop} {W X : World} (h : Below W.heap.size W X) : KpV E W X := ⟨h.size, fun k hk _ => h.block k hk⟩
theorem KpV.cellP {E : Nat → Prop} {W X : World} (h : KpV E W X) {a : Addr} {v : Value} (hv : W.cell? a = some v) (hn : ¬ E a.block) : X.cell? a = some v := (World.cell?_of_block (h.2 a.block (World.block_lt_of_cell? W a hv) hn)).trans hv
theorem KpV.drewR {E : Nat → Prop} {W X : World} (h : KpV E W X) : KpV E W X.drew := h

end Go.Proofs.YtpefjkndfifceaaDoor

namespace Go.Proofs.YtpefjkndfifceaaDoor
open Go.RowKit
set_option maxRecDepth 100000

end Go.Proofs.YtpefjkndfifceaaDoor

namespace Go.Proofs.YtpefjkndfifceaaDoor
open Go.RowKit
set_option maxRecDepth 100000

def partI (h n : Nat) (b : List Nat) : List Nat := (b.drop (lenP n - mSize h - 1)).take (mSize h)
def partS (h sn n : Nat) (b : List Nat) : List Nat := (maskedP h (b.take (lenP n - mSize h - 1)) (partI h n b) n).drop (lenP n - mSize h - 1 - sn)
def fineP (h sn : Nat) (b : List Nat) (n : Nat) : Bool := (testsP h sn b n).all id

theorem bare_noughts : ∀ (l : List Nat) (_ : Byt l), (Oc.bareL (u8s l)).length = 0 ↔ l = List.replicate l.length 0
  | [], _ => ⟨fun _ => rfl, fun _ => rfl⟩
  | x :: r, hb => by
    have hx : x < 256 := hb x List.mem_cons_self
    have ih := bare_noughts r (fun y hy => hb y (List.mem_cons_of_mem _ hy))
    rw [List.length_cons, List.replicate_succ, List.cons.injEq]
    unfold Oc.bareL u8s at ih ⊢
    rw [List.map_cons, List.dropWhile_cons]
    by_cases h0 : x = 0
    · subst h0
      rw [if_pos (by decide)]
      exact ih.trans ⟨fun h => ⟨rfl, h⟩, fun h => h.2⟩
    · rw [if_neg]
      · exact ⟨fun h => by simp at h, fun h => absurd h.1 h0⟩
      · intro h1
        rw [beq_iff_eq] at h1
        have h2 := congrArg UInt8.toNat h1
        rw [UInt8.toNat_ofNat', Nat.mod_eq_of_lt (show x < 2 ^ 8 from hx)] at h2
        exact h0 h2

theorem bit_255 (m i : Nat) (hi : i < 8) : (255 ^^^ m).testBit i = !(m.testBit i) := by
  rw [Nat.testBit_xor, show (255 : Nat) = 2 ^ 8 - 1 from rfl, Nat.testBit_two_pow_sub_one, decide_eq_true hi, Bool.true_xor]
theorem fits_of (x m : Nat) (hx : x < 256) (h : x &&& (255 ^^^ m) = 0) : x &&& m = x := by
  refine Nat.eq_of_testBit_eq fun i => ?_
  rw [Nat.testBit_and]
  by_cases hi : i < 8
  · have h1 := congrArg (fun y => y.testBit i) h
    simp only [Nat.testBit_and, bit_255 m i hi, Nat.zero_testBit] at h1
    cases hb : x.testBit i with
    | false => rfl
    | true =>
      rw [hb, Bool.true_and, Bool.not_eq_false'] at h1
      rw [h1]; rfl
  · rw [Nat.testBit_lt_two_pow (Nat.lt_of_lt_of_le hx (Nat.pow_le_pow_right (n := 2) (by decide) (show 8 ≤ i by omega)))]
    rfl
theorem of_fits (x m : Nat) (hx : x < 256) (h : x &&& m = x) : x &&& (255 ^^^ m) = 0 := by
  refine Nat.eq_of_testBit_eq fun i => ?_
  rw [Nat.testBit_and, Nat.zero_testBit]
  by_cases hi : i < 8
  · have h1 := congrArg (fun y => y.testBit i) h
    simp only [Nat.testBit_and] at h1
    rw [bit_255 m i hi]
    cases hb : x.testBit i with
    | false => rfl
    | true =>
      rw [hb, Bool.true_and] at h1
      rw [h1]; rfl
  · rw [Nat.testBit_lt_two_pow (Nat.lt_of_lt_of_le hx (Nat.pow_le_pow_right (n := 2) (by decide) (show 8 ≤ i by omega)))]
    rfl
theorem high_bad (x m k : Nat) (hk : k < 8) (hm : m < 2 ^ k) : (x ||| 2 ^ k) &&& (255 ^^^ m) ≠ 0 := fun h => by
  have h1 := congrArg (fun y => y.testBit k) h
  simp only [Nat.testBit_and, bit_255 m k hk, Nat.zero_testBit, Nat.testBit_or, Nat.testBit_two_pow_self, Nat.testBit_lt_two_pow hm, Bool.or_true, Bool.not_false, Bool.and_true] at h1
  cases h1

theorem cut_three {X I : List Nat} {K S : Nat} (z : Nat) (hX : X.length = K) (hI : I.length = S) : (X ++ I ++ [z]).take K = X ∧ ((X ++ I ++ [z]).drop K).take S = I ∧ (X ++ I ++ [z]).drop (K + S) = [z] := by
  refine ⟨?_, ?_, ?_⟩
  · rw [List.append_assoc, List.take_left' hX]
  · rw [List.append_assoc, List.drop_left' hX, List.take_left' hI]
  · rw [List.drop_left' (by rw [List.length_append]; omega)]
theorem part_cut {h n K S : Nat} {X I : List Nat} (z : Nat) (hX : X.length = K) (hI : I.length = S) (hS : mSize h = S) (hN : lenP n = K + S + 1) : partI h n (X ++ I ++ [z]) = I := by
  unfold partI
  rw [hS, hN, show K + S + 1 - S - 1 = K by omega]
  exact (cut_three z hX hI).2.1
theorem parts_cut {h n K S : Nat} {X I : List Nat} (z sn : Nat) (hX : X.length = K) (hI : I.length = S) (hS : mSize h = S) (hN : lenP n = K + S + 1) : partS h sn n (X ++ I ++ [z]) = (maskedP h X I n).drop (K - sn) := by
  unfold partS
  rw [part_cut z hX hI hS hN, hS, hN, show K + S + 1 - S - 1 = K by omega, (cut_three z hX hI).1]
theorem fine_cut {h n K S a : Nat} {X I : List Nat} (z sn : Nat) (hX : X.length = K) (hI : I.length = S) (hS : mSize h = S) (hN : lenP n = K + S + 1) (ha : K = a + 1 + sn) :
    fineP h sn (X ++ I ++ [z]) n = true ↔ z = 188 ∧ X[0]?.getD 0 &&& (255 ^^^ lowP n) = 0 ∧ (Oc.bareL (u8s ((maskedP h X I n).take a))).length = 0 ∧ (((maskedP h X I n).drop a).take 1)[0]?.getD 0 = 1 := by
  obtain ⟨h1, h2, h3⟩ := cut_three z hX hI
  unfold fineP testsP
  dsimp only
  rw [hS, hN, show K + S + 1 - S - 1 = K by omega, show K - sn - 1 = a by omega, h1, h2, h3]
  simp only [List.all_cons, List.all_nil, id_eq, Bool.and_true, Bool.true_and, Bool.and_eq_true, beq_iff_eq]
  rfl

theorem list_last (l : List Nat) (n : Nat) (h : l.length = n + 1) : ∃ m z, l = m ++ [z] ∧ m.length = n := by
  refine ⟨l.dropLast, l.getLast (by intro e; rw [e] at h; simp at h), (List.dropLast_concat_getLast _).symm, by rw [List.length_dropLast, h]; rfl⟩
theorem list_parts (b : List Nat) (K S : Nat) (h : b.length = K + S + 1) : ∃ X I z, b = X ++ I ++ [z] ∧ X.length = K ∧ I.length = S := by
  obtain ⟨m, z, rfl, hm⟩ := list_last b (K + S) h
  exact ⟨m.take K, m.drop K, z, by rw [List.take_append_drop], by rw [List.length_take]; omega, by rw [List.length_drop]; omega⟩

theorem room_parts {h : Nat} {sn : Nat} {n : Nat} (hr : RoomP (h : Int) (sn : Int) (n : Int)) : ∃ K S a, mSize h = S ∧ lenP n = K + S + 1 ∧ K = a + 1 + sn := by
  obtain ⟨-, -, -, -, hfit⟩ := hr
  rw [Int.toNat_natCast, Int.toNat_natCast] at hfit
  exact ⟨lenP n - mSize h - 1, mSize h, lenP n - mSize h - 1 - sn - 1, rfl, by omega, by omega⟩

theorem block_fits (n a : Nat) (s : List Nat) : FitsP (lowP n) (List.replicate a 0 ++ [1] ++ s) := by
  cases a with
  | succ a => simp [FitsP, List.replicate_succ]
  | zero =>
    have h2 := lenP_bits n
    have h3 : ∀ k, k < 8 → 1 &&& (255 / 2 ^ k) = 1 := by decide
    have := h3 _ h2.1
    simpa [FitsP, lowP] using this

/-- What was encoded is read as it was. -/
theorem ems_fine {h : Nat} (hh : IsHash h) (d s : List Nat) {sn n : Nat} (hsl : s.length = sn) (bs : Byt s) (hr : RoomP (h : Int) (sn : Int) (n : Int)) :
    fineP h sn (emsP h d s n) n = true ∧ partI h n (emsP h d s n) = innerP h d s ∧ partS h sn n (emsP h d s n) = s ∧ (emsP h d s n).length = lenP n ∧ Byt (emsP h d s n) := by
  obtain ⟨K, S, a, hS, hN, ha⟩ := room_parts hr
  have he : emsP h d s n = maskedP h (List.replicate a 0 ++ [1] ++ s) (innerP h d s) n ++ innerP h d s ++ [188] := by
    unfold emsP blockP
    rw [hN, hS, hsl, show K + S + 1 - S - 1 - sn - 1 = a by omega]
  have hbl : (List.replicate a 0 ++ [1] ++ s).length = K := by simp [hsl]; omega
  have hX : (maskedP h (List.replicate a 0 ++ [1] ++ s) (innerP h d s) n).length = K := by rw [masked_len hh, hbl]
  have hI : (innerP h d s).length = S := by rw [innerP_len hh, hS]
  have hIb : Byt (innerP h d s) := mHash_byt hh _
  have hBb : Byt (List.replicate a 0 ++ [1] ++ s) := fun x hx => by
    rcases List.mem_append.1 hx with hx | hx
    · rcases List.mem_append.1 hx with hx | hx
      · rw [(List.mem_replicate.1 hx).2]; decide
      · rw [List.mem_singleton.1 hx]; decide
    · exact bs x hx
  have hXb := masked_byt hh (innerP h d s) n hBb
  have hback := masked_back hh (List.replicate a 0 ++ [1] ++ s) (innerP h d s) n (block_fits n a s)
  have hfit := masked_fits h (List.replicate a 0 ++ [1] ++ s) (innerP h d s) n
  rw [he]
  generalize maskedP h (List.replicate a 0 ++ [1] ++ s) (innerP h d s) n = X at *
  generalize innerP h d s = I at *
  refine ⟨?_, part_cut 188 hX hI hS hN, ?_, ?_, ?_⟩
  · refine (fine_cut 188 sn hX hI hS hN ha).2 ⟨rfl, of_fits _ _ ?_ hfit, ?_, ?_⟩
    · cases X with
      | nil => decide
      | cons x r => exact hXb x List.mem_cons_self
    · rw [hback, List.append_assoc, List.take_left' (by simp), bare_noughts _ (fun x hx => by rw [(List.mem_replicate.1 hx).2]; decide), List.length_replicate]
    · rw [hback, List.append_assoc, List.drop_left' (by simp)]
      rfl
  · rw [parts_cut 188 sn hX hI hS hN, hback, List.drop_left' (by simp; omega)]
  · rw [List.length_append, List.length_append, hX, hI, hN]; rfl
  · intro x hx
    rcases List.mem_append.1 hx with hx | hx
    · rcases List.mem_append.1 hx with hx | hx
      · exact hXb x hx
      · exact hIb x hx
    · rw [List.mem_singleton.1 hx]; decide

/-- What is read so was encoded. -/
theorem fine_only {h : Nat} (hh : IsHash h) (b : List Nat) {sn n : Nat} (hb : Byt b) (hl : b.length = lenP n) (hr : RoomP (h : Int) (sn : Int) (n : Int)) (hf : fineP h sn b n = true) :
    (partS h sn n b).length = sn ∧ Byt (partS h sn n b) ∧ (partI h n b).length = mSize h ∧ ∀ d, emsP h d (partS h sn n b) n = b ↔ innerP h d (partS h sn n b) = partI h n b := by
  obtain ⟨K, S, a, hS, hN, ha⟩ := room_parts hr
  obtain ⟨X, I, z, rfl, hX, hI⟩ := list_parts b K S (by rw [hl, hN])
  obtain ⟨rfl, h3, h4, h5⟩ := (fine_cut z sn hX hI hS hN ha).1 hf
  have hXb : Byt X := fun x hx => hb x (List.mem_append_left _ (List.mem_append_left _ hx))
  have hXf : FitsP (lowP n) X := fits_of _ _ (by
    cases X with
    | nil => decide
    | cons x r => exact hXb x List.mem_cons_self) h3
  have hback := masked_back hh X I n hXf
  have hM := masked_len hh X I n
  have hMb := masked_byt hh I n hXb
  rw [parts_cut 188 sn hX hI hS hN, part_cut 188 hX hI hS hN]
  have hml : (maskedP h (maskedP h X I n) I n) = X := hback
  generalize maskedP h X I n = M at *
  rw [hX] at hM
  rw [bare_noughts _ (fun x hx => hMb x (List.mem_of_mem_take hx)), List.length_take, hM, Nat.min_eq_left (by omega)] at h4
  have hM2 : M = List.replicate a 0 ++ [1] ++ M.drop (K - sn) := by
    have e1 := List.take_append_drop a M
    have e2 := List.take_append_drop 1 (M.drop a)
    rw [List.drop_drop] at e2
    have e3 : (M.drop a).take 1 = [1] := by
      cases hd : M.drop a with
      | nil => have := congrArg List.length hd; rw [List.length_drop, hM] at this; simp at this; omega
      | cons x r => rw [hd] at h5; simp at h5; rw [h5]; rfl
    rw [e3] at e2
    rw [h4, ← e2] at e1
    rw [show K - sn = a + 1 by omega, List.append_assoc]
    exact e1.symm
  have hsl : (M.drop (K - sn)).length = sn := by rw [List.length_drop, hM]; omega
  refine ⟨hsl, fun x hx => hMb x (List.mem_of_mem_drop hx), hI.trans hS.symm, fun d => ?_⟩
  generalize M.drop (K - sn) = s at *
  have he : emsP h d s n = maskedP h (List.replicate a 0 ++ [1] ++ s) (innerP h d s) n ++ innerP h d s ++ [188] := by
    unfold emsP blockP
    rw [hN, hS, hsl, show K + S + 1 - S - 1 - sn - 1 = a by omega]
  constructor
  · intro e
    have hI2 : (innerP h d s).length = S := by rw [innerP_len hh, hS]
    have hX2 : (maskedP h (List.replicate a 0 ++ [1] ++ s) (innerP h d s) n).length = K := by
      rw [masked_len hh]
      simp [hsl]; omega
    have e2 := congrArg (partI h n) e
    rw [he, part_cut 188 hX2 hI2 hS hN, part_cut 188 hX hI hS hN] at e2
    exact e2
  · intro e
    rw [he, e, ← hM2, hml]
end Go.Proofs.YtpefjkndfifceaaDoor

namespace Go.Proofs.YtpefjkndfifceaaDoor
open Go.RowKit
attribute [local go_sem] Oper.semAt_some
set_option maxRecDepth 100000

theorem encode_no (h : Int) (da : Option Addr) (dn dc : Nat) (sa : Option Addr) (sn sc : Nat) (n : Int) (hdn : dn ≤ 9223372036854775807) (hsn : sn ≤ 9223372036854775807) (n0 : -9223372036854775808 ≤ n) (n1 : n ≤ 9223372036854775807) (w : World) (hk : Kinds w) (hno : ¬ (RoomP h (sn : Int) n ∧ dn = mSize h.toNat)) :
    Calls Tryd.prog 34 #[.int .i64 h, .slice da dn dc, .slice sa sn sc, .int .i64 n] w fun e w' => e = .returned (.tuple #[.slice none 0 0, .int .i64 90]) ∧ Below w.heap.size w w' := by
  have HK := Lib.hid hk
  clear hk
  by_cases hr : RoomP h (sn : Int) n
  · have HRD := Lib.hid (show decide (RoomP h (sn : Int) n) = true from decide_eq_true hr)
    have hne : dn ≠ mSize h.toNat := fun e => hno ⟨hr, e⟩
    obtain ⟨hh, -⟩ := hr
    obtain ⟨g, rfl⟩ : ∃ g : Nat, h = (g : Int) := ⟨h.toNat, by rcases hh with e | e | e | e <;> omega⟩
    rw [Int.toNat_natCast] at hh hne
    have HH := Lib.hid hh
    have hS := mSize_le hh
    obtain ⟨S, hSS⟩ : ∃ S, mSize g = S := ⟨_, rfl⟩
    rw [hSS] at hne hS
    have HSS := Lib.hid hSS
    have t1 : ((dn : Int) != (S : Int)) = true := by simp; omega
    clear hno hh hSS hne
    go_enter Tryd.func34, Tryd.ntmps34
    go_wp2_with fail
    refine (room_p (g : Int) (sn : Int) n (by omega) (by omega) n0 n1 _ HK.out).mono ?_
    rintro e w1 ⟨rfl, hb⟩
    rw [HRD.out]
    have HB := Lib.hid hb
    clear hb
    go_wp2_with fail
    refine (size_yes g HH.out _ (HK.out.below HB.out)).mono ?_
    rintro e w2 ⟨rfl, hb⟩
    rw [HSS.out]
    have HB := Lib.hid (HB.out.trans (hb.mono HB.out.size))
    clear hb
    go_wp2
    go_ret2
    exact ⟨rfl, HB.out⟩
  · have HRD := Lib.hid (show decide (RoomP h (sn : Int) n) = false from decide_eq_false hr)
    clear hr hno
    go_enter Tryd.func34, Tryd.ntmps34
    go_wp2_with fail
    refine (room_p h (sn : Int) n (by omega) (by omega) n0 n1 _ HK.out).mono ?_
    rintro e w1 ⟨rfl, hb⟩
    rw [HRD.out]
    have HB := Lib.hid hb
    clear hb
    go_wp2
    go_ret2
    exact ⟨rfl, HB.out⟩

theorem PartsAt.kept {bp : Nat} {I s : List Nat} {W W' : World} {row : Option Nat} (h : PartsAt bp I s W) (hg : W.grownBy W' row) (hr : ∀ r, row = some r → ∃ o : Obj, W.heap[r]? = some o ∧ o.isCells = false) : PartsAt bp I s W' := by
  obtain ⟨ia, ic, sa, sc, B, hB, h0, h1, h2, h3⟩ := h
  have hlt := World.block_lt_of_cell? W ⟨bp, 0, none⟩ h0
  have hne : some bp ≠ row := fun e => by
    obtain ⟨o, ho, hc⟩ := hr bp e.symm
    simp only [World.cell?, ho] at h0
    cases o <;> simp [Obj.isCells] at h0 hc
  exact ⟨ia, ic, sa, sc, B, hB, (World.cell?_of_block (a := ⟨bp, 0, none⟩) (hg.block bp hlt hne)).trans h0, (World.cell?_of_block (a := ⟨bp, 1, none⟩) (hg.block bp hlt hne)).trans h1, h2.keptW hg hr, h3.keptW hg hr⟩

theorem two_cells (W : World) (B : Nat) (v0 v1 u0 u1 : Value) (t : TypeId) (h : W.heap[B]? = some (.cells #[u0, u1] t)) : ((W.setCell ⟨B, 0, none⟩ v0).setCell ⟨B, 1, none⟩ v1).cell? ⟨B, 0, none⟩ = some v0 ∧ ((W.setCell ⟨B, 0, none⟩ v0).setCell ⟨B, 1, none⟩ v1).cell? ⟨B, 1, none⟩ = some v1 := by
  have c0 : W.cell? ⟨B, 0, none⟩ = some u0 := by simp [World.cell?, h]
  have c1 : W.cell? ⟨B, 1, none⟩ = some u1 := by simp [World.cell?, h]
  clear h
  constructor <;> go_simp
theorem alloc_q (W : World) (o : Obj) (k : Nat) (hk : W.heap.size = k) : (W.alloc o).heap[k]? = some o ∧ (W.alloc o).heap.size = k + 1 ∧ (∀ (i : Nat) (v : Obj), W.heap[i]? = some v → (W.alloc o).heap[i]? = some v) ∧ ∀ B X, Below B X W → B ≤ k → Below B X (W.alloc o) := by
  subst hk
  exact ⟨World.alloc_heap_new W o, World.size_alloc W o, fun i v h => (Below.heap_alloc _ _ _ (Array.getElem?_eq_some_iff.1 h).1).trans h, fun B X h hB => h.alloc hB o⟩
theorem boxes_m (W : World) (o0 o1 o2 o3 o4 o5 o6 : Obj) : ∃ W0, ((((((W.alloc o0).alloc o1).alloc o2).alloc o3).alloc o4).alloc o5).alloc o6 = W0 ∧ W0.heap.size = W.heap.size + 7 ∧ Below W.heap.size W W0 ∧
    W0.heap[W.heap.size]? = some o0 ∧ W0.heap[W.heap.size + 1]? = some o1 ∧ W0.heap[W.heap.size + 2]? = some o2 ∧ W0.heap[W.heap.size + 3]? = some o3 ∧ W0.heap[W.heap.size + 4]? = some o4 ∧ W0.heap[W.heap.size + 5]? = some o5 ∧ W0.heap[W.heap.size + 6]? = some o6 := by
  obtain ⟨k, hk⟩ : ∃ k, W.heap.size = k := ⟨_, rfl⟩
  rw [hk]
  have b0 : Below k W W := hk ▸ Below.refl _ W
  obtain ⟨a0, s0, p0, c0⟩ := alloc_q W o0 k hk
  replace c0 := c0 k W b0 (by omega)
  generalize W.alloc o0 = W1 at *
  obtain ⟨a1, s1, p1, c1⟩ := alloc_q W1 o1 _ s0
  replace c1 := c1 k W c0 (by omega)
  generalize W1.alloc o1 = W2 at *
  obtain ⟨a2, s2, p2, c2⟩ := alloc_q W2 o2 _ s1
  replace c2 := c2 k W c1 (by omega)
  generalize W2.alloc o2 = W3 at *
  obtain ⟨a3, s3, p3, c3⟩ := alloc_q W3 o3 _ s2
  replace c3 := c3 k W c2 (by omega)
  generalize W3.alloc o3 = W4 at *
  obtain ⟨a4, s4, p4, c4⟩ := alloc_q W4 o4 _ s3
  replace c4 := c4 k W c3 (by omega)
  generalize W4.alloc o4 = W5 at *
  obtain ⟨a5, s5, p5, c5⟩ := alloc_q W5 o5 _ s4
  replace c5 := c5 k W c4 (by omega)
  generalize W5.alloc o5 = W6 at *
  obtain ⟨a6, s6, p6, c6⟩ := alloc_q W6 o6 _ s5
  replace c6 := c6 k W c5 (by omega)
  exact ⟨_, rfl, s6, c6, p6 _ _ (p5 _ _ (p4 _ _ (p3 _ _ (p2 _ _ (p1 _ _ a0))))), p6 _ _ (p5 _ _ (p4 _ _ (p3 _ _ (p2 _ _ a1)))), p6 _ _ (p5 _ _ (p4 _ _ (p3 _ _ a2))), p6 _ _ (p5 _ _ (p4 _ _ a3)), p6 _ _ (p5 _ _ a4), p6 _ _ a5, a6⟩

end Go.Proofs.YtpefjkndfifceaaDoor

namespace Go.Proofs.YtpefjkndfifceaaDoor
open Go.RowKit
set_option maxRecDepth 100000

/-- Bytes that look like an encoding. -/
def GoodP (h sn n : Int) (b : List Nat) : Prop := RoomP h sn n ∧ b.length = lenP n.toNat ∧ fineP h.toNat sn.toNat b n.toNat = true
/-- Bytes that are a digest's encoding. -/
def VerP (h : Int) (d : List Nat) (sn n : Int) (b : List Nat) : Prop := GoodP h sn n b ∧ d.length = mSize h.toNat ∧ innerP h.toNat d (partS h.toNat sn.toNat n.toNat b) = partI h.toNat n.toNat b

theorem strOf_neP {l m : List Nat} (hl : Byt l) (hm : Byt m) (h : l ≠ m) : ((strOf (u8s l)).toList == (strOf (u8s m)).toList) = false := by
  rw [Bool.eq_false_iff]
  intro he
  have h1 : (strOf (u8s l)).toList = (strOf (u8s m)).toList := by simpa using he
  have h2 : ∀ b : List UInt8, (strOf b).toList = b := fun b => by simp [strOf]
  rw [h2, h2] at h1
  exact h (u8s_inj hl hm h1)
end Go.Proofs.YtpefjkndfifceaaDoor

namespace Go.Proofs.YtpefjkndfifceaaDoor
open Go.RowKit
set_option maxRecDepth 100000

/-- An operation whose guard is met goes as one without a guard. -/
theorem wpList_unguard {P : Program} {ops : Array Oper} {Q : Exit → Act → World → Prop} {o : Oper} {rest : List Oper} {a : Act} {w : World} (hw : Region.wanted o (yielded ops a.tmps) = true) (h : wpList P ops Q ({ o with guard := none } :: rest) a w) : wpList P ops Q (o :: rest) a w := by
  unfold wpList at h ⊢
  rw [if_pos hw]
  rw [if_pos (show Region.wanted { o with guard := none } (yielded ops a.tmps) = true from rfl)] at h
  exact h
/-- A digest, cut, or filled up. -/
def fillP (g : Nat) (A : List Nat) : List Nat := (A ++ List.replicate 64 0).take (mSize g)
theorem fillP_len {g : Nat} (hg : IsHash g) (A : List Nat) : (fillP g A).length = mSize g := by
  have := mSize_le hg
  rw [fillP, List.length_take, List.length_append, List.length_replicate]
  omega
theorem fillP_byt {g : Nat} {A : List Nat} (h : Byt A) : Byt (fillP g A) := fun x hx => by
  rcases List.mem_append.1 (List.mem_of_mem_take hx) with h1 | h1
  · exact h x h1
  · rw [List.eq_of_mem_replicate h1]; decide

/-- What was encoded is verified. -/
theorem ver_ems {g : Nat} (hh : IsHash g) (d s : List Nat) {sn n : Nat} (hsl : s.length = sn) (bs : Byt s) (hd : d.length = mSize g) (hr : RoomP (g : Int) (sn : Int) (n : Int)) : VerP (g : Int) d (sn : Int) (n : Int) (emsP g d s n) := by
  obtain ⟨h1, h2, h3, h4, -⟩ := ems_fine hh d s hsl bs hr
  refine ⟨⟨hr, ?_, ?_⟩, ?_, ?_⟩ <;> simp only [Int.toNat_natCast]
  · exact h4
  · exact h1
  · exact hd
  · rw [h2, h3]
theorem good_ems {g : Nat} (hh : IsHash g) (d s : List Nat) {sn n : Nat} (hsl : s.length = sn) (bs : Byt s) (hr : RoomP (g : Int) (sn : Int) (n : Int)) : GoodP (g : Int) (sn : Int) (n : Int) (emsP g d s n) := by
  obtain ⟨h1, h2, h3, h4, -⟩ := ems_fine hh d s hsl bs hr
  refine ⟨hr, ?_, ?_⟩ <;> simp only [Int.toNat_natCast]
  · exact h4
  · exact h1
/-- Its last byte, and its first. -/
theorem ems_last {g : Nat} (hh : IsHash g) (d s : List Nat) {sn n : Nat} (hsl : s.length = sn) (bs : Byt s) (hr : RoomP (g : Int) (sn : Int) (n : Int)) : ∃ m, emsP g d s n = m ++ [188] ∧ m.length + 1 = lenP n := by
  have h4 := (ems_fine hh d s hsl bs hr).2.2.2.1
  unfold emsP at h4 ⊢
  refine ⟨_, rfl, ?_⟩
  rw [List.length_append] at h4
  exact h4
/-- An encoding with another last byte, or with bits above, or of another length, is none. -/
theorem bad_last {h : Int} {sn n : Int} (m : List Nat) (z : Nat) (hz : z ≠ 188) (d : List Nat) : ¬ VerP h d sn n (m ++ [z]) := fun hv => by
  obtain ⟨⟨hr, hl, hf⟩, -⟩ := hv
  obtain ⟨hh, hs, hn2, hn5, hfit⟩ := hr
  obtain ⟨g, rfl⟩ : ∃ g : Nat, h = (g : Int) := ⟨h.toNat, by rcases hh with e | e | e | e <;> omega⟩
  obtain ⟨s, rfl⟩ : ∃ s : Nat, sn = (s : Int) := ⟨sn.toNat, by omega⟩
  obtain ⟨k, rfl⟩ : ∃ m : Nat, n = (m : Int) := ⟨n.toNat, by omega⟩
  obtain ⟨K, S, a, hS, hN, ha⟩ := room_parts (h := g) (sn := s) (n := k) ⟨hh, hs, hn2, hn5, hfit⟩
  simp only [Int.toNat_natCast] at hl hf
  have hm : m.length = K + S := by rw [List.length_append, hN] at hl; simpa using hl
  have e : m ++ [z] = m.take K ++ m.drop K ++ [z] := by rw [List.take_append_drop]
  rw [e] at hf
  exact hz ((fine_cut z s (by rw [List.length_take]; omega) (by rw [List.length_drop]; omega) hS hN ha).1 hf).1
theorem bad_len {h : Int} {sn n : Int} (b : List Nat) (hl : b.length ≠ lenP n.toNat) (d : List Nat) : ¬ VerP h d sn n b := fun hv => hl hv.1.2.1
theorem bad_high {h : Int} {sn : Int} {n : Nat} (x : Nat) (r : List Nat) (k : Nat) (hk : k < 8) (hm : lowP n < 2 ^ k) (d : List Nat) : ¬ VerP h d sn (n : Int) ((x ||| 2 ^ k) :: r) := fun hv => by
  obtain ⟨⟨hr, hl, hf⟩, -⟩ := hv
  obtain ⟨hh, hs, hn2, hn5, hfit⟩ := hr
  obtain ⟨g, rfl⟩ : ∃ g : Nat, h = (g : Int) := ⟨h.toNat, by rcases hh with e | e | e | e <;> omega⟩
  obtain ⟨s, rfl⟩ : ∃ s : Nat, sn = (s : Int) := ⟨sn.toNat, by omega⟩
  obtain ⟨K, S, a, hS, hN, ha⟩ := room_parts (h := g) (sn := s) (n := n) ⟨hh, hs, hn2, hn5, hfit⟩
  simp only [Int.toNat_natCast] at hl hf
  obtain ⟨X, I, z, e, hX, hI⟩ := list_parts ((x ||| 2 ^ k) :: r) K S (by rw [hl, hN])
  rw [e] at hf
  have h3 := ((fine_cut z s hX hI hS hN ha).1 hf).2.1
  cases X with
  | nil => simp at hX; omega
  | cons y X =>
    have hy : x ||| 2 ^ k = y := (List.cons.inj e).1
    rw [← hy] at h3
    exact high_bad x (lowP n) k hk hm h3
theorem pencode_any (h : Int) (da : Option Addr) (dn dc : Nat) (d : List Nat) (sa : Option Addr) (sn sc : Nat) (s : List Nat) (n : Int) (n0 : -9223372036854775808 ≤ n) (n1 : n ≤ 9223372036854775807) (hn : n ≤ 100000 ∨ 524288 < n) (w : World) (hk : Kinds w) (hd : Reads .u8 w da dn dc d) (hs : Reads .u8 w sa sn sc s) (bd : Byt d) (bs : Byt s) :
    Calls Tryd.prog 34 #[.int .i64 h, .slice da dn dc, .slice sa sn sc, .int .i64 n] w fun e w' => Below w.heap.size w w' ∧
      (((RoomP h (sn : Int) n ∧ dn = mSize h.toNat) ∧ ∃ g, e = .returned (.tuple #[.slice (some ⟨g, 0, none⟩) (lenP n.toNat) (lenP n.toNat), .int .i64 0]) ∧ OwnQ .u8 5 w.heap.size w' (.slice (some ⟨g, 0, none⟩) (lenP n.toNat) (lenP n.toNat)) (emsP h.toNat d s n.toNat)) ∨
      (¬ (RoomP h (sn : Int) n ∧ dn = mSize h.toNat) ∧ e = .returned (.tuple #[.slice none 0 0, .int .i64 90]))) := by
  by_cases hr : RoomP h (sn : Int) n ∧ dn = mSize h.toNat
  · obtain ⟨hrm, hdn⟩ := hr
    have hrm' := hrm
    obtain ⟨hh, hs0, hn2, hn5, hfit⟩ := hrm
    obtain ⟨g, rfl⟩ : ∃ g : Nat, h = (g : Int) := ⟨h.toNat, by rcases hh with e | e | e | e <;> omega⟩
    obtain ⟨m, rfl⟩ : ∃ m : Nat, n = (m : Int) := ⟨n.toNat, by omega⟩
    simp only [Int.toNat_natCast] at hh hdn ⊢
    refine (encode_p g hh da dn dc d sa sn sc s m w hk hd hs bd bs hrm' hdn (by omega)).mono ?_
    rintro e w' ⟨he, hb⟩
    exact ⟨hb, .inl ⟨⟨hrm', hdn⟩, he⟩⟩
  · refine (encode_no h da dn dc sa sn sc n (by have := hd.len_le; unfold maxLen at this; exact this) (by have := hs.len_le; unfold maxLen at this; exact this) n0 n1 w hk hr).mono ?_
    rintro e w' ⟨he, hb⟩
    exact ⟨hb, .inr ⟨hr, he⟩⟩
theorem room_dec {h s b : Int} (h1 : RoomP h s b) : decide (RoomP h s b) = true := decide_eq_true h1
theorem room_no {h s b : Int} (h1 : ¬ RoomP h s b) : decide (RoomP h s b) = false := decide_eq_false h1
theorem byt_rep (n : Nat) : Byt (List.replicate n 0) := fun x hx => by rw [List.eq_of_mem_replicate hx]; decide

end Go.Proofs.YtpefjkndfifceaaDoor

namespace Go.Proofs
open Go.Shelf
def Tryd.lays128_ren : Go.Shelf.Ren := ⟨fun | 128 => 38 | n => n, fun | 51 => 64 | 3 => 3 | 4 => 4 | 46 => 70 | 5 => 5 | 9 => 9 | n => n, fun | n => n⟩
theorem Tryd.lays128 : Go.Proofs.Lays.n128 Tryd.prog Tryd.lays128_ren := {
  mixed := by kernel_rfl
  f128 := Tryd.func38.trans (congrArg some (by kernel_rfl))
  t3 := Tryd.underlying3
  a3 := Tryd.isAgg3
  z3 := Tryd.sizeOf3
  v3 := Tryd.zeroValue3
  t4 := Tryd.underlying4
  a4 := Tryd.isAgg4
  z4 := Tryd.sizeOf4
  v4 := Tryd.zeroValue4
  t5 := Tryd.underlying5
  a5 := Tryd.isAgg5
  z5 := Tryd.sizeOf5
  v5 := Tryd.zeroValue5
  t9 := Tryd.underlying9
  a9 := Tryd.isAgg9
  z9 := Tryd.sizeOf9
  v9 := Tryd.zeroValue9
  t46 := Tryd.underlying70
  a46 := Tryd.isAgg70
  z46 := Tryd.sizeOf70
  v46 := Tryd.zeroValue70
  t51 := Tryd.underlying64
  a51 := Tryd.isAgg64
  z51 := Tryd.sizeOf64
  v51 := Tryd.zeroValue64 }
/-- bits.Len32: "Len32 returns the minimum number of bits required to represent x; the result is 0 for x == 0.": IT RETURNS 'Lib.bitLen x'; the world is as it was. ('h0', 'h1': x is a uint32.) (LAID: no walk: one application.) -/
theorem Tryd.bits_Len32 (x : Int) (w : World) (h0 : 0 ≤ x) (h1 : x ≤ 4294967295) :
    Calls Tryd.prog 38 #[.int .u32 x] w fun e w' => e = .returned (.int .i64 (Lib.bitLen x.toNat)) ∧ w' = w := Any.bits_Len32 Tryd.lays128 x w h0 h1
end Go.Proofs

namespace Go.Proofs.YtpefjkndfifceaaDoor
open Go.RowKit

/-- What is taken off, and what is borrowed. -/
def subD (x y b : Nat) : Nat := if x < y + b then x + 4294967296 - y - b else x - y - b
def subB (x y b : Nat) : Nat := if x < y + b then 1 else 0

theorem bit_cases (X Y D : Nat) (hX : X ≤ 1) (hY : Y ≤ 1) (hD : D ≤ 1) : ((1 ^^^ X) &&& Y) ||| ((1 ^^^ (X ^^^ Y)) &&& D) = if X = Y then D else Y := by
  have h1 : X = 0 ∨ X = 1 := by omega
  have h2 : Y = 0 ∨ Y = 1 := by omega
  have h3 : D = 0 ∨ D = 1 := by omega
  rcases h1 with rfl | rfl <;> rcases h2 with rfl | rfl <;> rcases h3 with rfl | rfl <;> rfl

theorem borrow_eq (x y b d : Nat) (hx : x < 4294967296) (hy : y < 4294967296) (hb : b ≤ 1) (hd : d = subD x y b) : (((4294967295 ^^^ x) &&& y) ||| ((4294967295 ^^^ (x ^^^ y)) &&& d)) / 2147483648 = subB x y b := by
  have hd2 : d < 4294967296 := by rw [hd]; unfold subD; split <;> omega
  have e : ∀ n : Nat, n / 2147483648 = n >>> 31 := fun n => by rw [Nat.shiftRight_eq_div_pow]
  rw [e, Nat.shiftRight_or_distrib, Nat.shiftRight_and_distrib, Nat.shiftRight_and_distrib, Nat.shiftRight_xor_distrib, Nat.shiftRight_xor_distrib, Nat.shiftRight_xor_distrib, show 4294967295 >>> 31 = 1 from rfl, ← e, ← e, ← e]
  rw [bit_cases _ _ _ (by omega) (by omega) (by omega)]
  subst hd
  unfold subD subB at *
  split <;> split <;> simp_all <;> omega

/-- How many bits a number has. -/
def bitsN (n : Nat) : Nat := if n = 0 then 0 else Nat.log2 n + 1

theorem bitsN_le (n k : Nat) : bitsN n ≤ k ↔ n < 2 ^ k := by
  unfold bitsN
  by_cases h : n = 0
  · simp [h, Nat.pow_pos]
  · rw [if_neg h, ← Nat.log2_lt h]; omega

theorem bitsN_uniq {n m : Nat} (h : ∀ k, m ≤ k ↔ n < 2 ^ k) : bitsN n = m := by
  have h1 := (bitsN_le n m).2 ((h m).1 (Nat.le_refl _))
  have h2 := (h (bitsN n)).2 ((bitsN_le n _).1 (Nat.le_refl _))
  omega

theorem bitLen_bitsN (x : Nat) (hx : x < 4294967296) : Lib.bitLen x = bitsN x := by
  by_cases h : x = 0
  · subst h; rfl
  · obtain ⟨h1, h2, h3⟩ := Lib.bitLenAux_bounds 64 x (Nat.lt_of_lt_of_le hx (by decide)) h
    symm
    apply bitsN_uniq
    intro k
    show Lib.bitLenAux 64 x ≤ k ↔ _
    constructor
    · intro h4; exact Nat.lt_of_lt_of_le h3 (Nat.pow_le_pow_right (by decide) h4)
    · intro h4
      apply Decidable.byContradiction
      intro h5
      have : 2 ^ k ≤ 2 ^ (Lib.bitLenAux 64 x - 1) := Nat.pow_le_pow_right (by decide) (by omega)
      omega

theorem bitsN_top (v d n : Nat) (hd : 0 < d) (hv : v < 2 ^ n) : bitsN (v + 2 ^ n * d) = n + bitsN d := by
  apply bitsN_uniq
  intro k
  by_cases hk : n ≤ k
  · obtain ⟨j, rfl⟩ : ∃ j, k = n + j := ⟨k - n, by omega⟩
    rw [Nat.add_le_add_iff_left, bitsN_le, Nat.pow_add]
    constructor
    · intro h
      have : 2 ^ n * (d + 1) ≤ 2 ^ n * 2 ^ j := Nat.mul_le_mul_left _ h
      rw [Nat.mul_add] at this
      omega
    · intro h
      have h2 : 2 ^ n * d < 2 ^ n * 2 ^ j := by omega
      exact Nat.lt_of_mul_lt_mul_left h2
  · constructor
    · omega
    · intro h
      have h1 : 2 ^ k ≤ 2 ^ n := Nat.pow_le_pow_right (by decide) (by omega)
      have h2 : 2 ^ n * 1 ≤ 2 ^ n * d := Nat.mul_le_mul_left _ hd
      omega

theorem bareN_bareN (l : List Nat) : bareN (bareN l) = bareN l := by
  induction l with
  | nil => rfl
  | cons d t ih =>
    rw [bareN]
    split
    · rfl
    · next hz =>
      rw [bareN, ih, if_neg hz]

theorem bare_top (l : List Nat) (k : Nat) (h : (bareN l).length = k + 1) : 0 < (bareN l)[k]?.getD 0 := by
  have h2 := bareN_bareN l
  generalize bareN l = m at *
  apply Nat.pos_of_ne_zero
  intro e
  have h3 : m = m.take k ++ [m[k]?.getD 0] := by rw [← take_snocN m k (by omega), List.take_of_length_le (by omega)]
  rw [e] at h3
  have h4 : (bareN m).length ≤ k := by
    rw [h3, bareN_snoc_zero]
    have := bareN_le (m.take k)
    rw [List.length_take] at this
    omega
  rw [h2] at h4
  omega

theorem bits_val {l : List Nat} (hL : Lim l) (k : Nat) (h : (bareN l).length = k + 1) : bitsN (val32 l) = 32 * k + bitsN ((bareN l)[k]?.getD 0) := by
  have h1 := bare_top l k h
  have hb := bareN_val 4294967296 l
  have hLm : Lim (bareN l) := fun x hx => hL x (bareN_mem hx)
  generalize bareN l = m at *
  have h3 : m = m.take k ++ [m[k]?.getD 0] := by rw [← take_snocN m k (by omega), List.take_of_length_le (by omega)]
  have h4 := valB_lt (b := 4294967296) (by decide) (l := m.take k) (fun x hx => hLm x (List.mem_of_mem_take hx))
  rw [List.length_take, Nat.min_eq_left (by omega)] at h4
  have h5 : (4294967296 : Nat) ^ k = 2 ^ (32 * k) := by rw [Nat.pow_mul]
  have h6 : valB 4294967296 m = valB 4294967296 (m.take k) + 4294967296 ^ k * (m[k]?.getD 0) := by
    conv => lhs; rw [h3, valB_snoc, List.length_take, Nat.min_eq_left (show k ≤ m.length by omega)]
  rw [h5] at h4 h6
  rw [← bitsN_top _ _ _ h1 h4, ← h6, hb]

theorem len32_any (d : Nat) (w : World) (hd : d < 4294967296) : Calls Tryd.prog 38 #[.int .u32 (d : Int)] w fun e w' => e = .returned (.int .i64 (bitsN d : Nat)) ∧ w = w' :=
  (Tryd.bits_Len32 d w (by omega) (by omega)).mono fun e w' ⟨he, hw⟩ => ⟨by rw [he, Int.toNat_natCast, bitLen_bitsN d hd], hw.symm⟩

set_option maxHeartbeats 400000 in
theorem bits_any (a : Option Addr) (len cap : Nat) (l : List Nat) (w : World) (h : Reads .u32 w a len cap l) (hL : Lim l) (hm : len ≤ 288230376151711743) :
    Calls Tryd.prog 24 #[.slice a len cap] w fun e w' => e = .returned (.int .i64 (bitsN (val32 l) : Nat)) ∧ w = w' := by
  have hb := h.bare
  have hbl := bareN_le l
  rw [h.length] at hbl
  have HB := Lib.hid (bare32_any a len cap l w h)
  have hbv := bits_val hL
  have hz : (bareN l).length = 0 → val32 l = 0 := fun e => by
    have e1 : bareN l = [] := List.eq_nil_of_length_eq_zero e
    rw [bareN_nat hL] at e1
    exact (natB_nil (by decide)).1 e1
  have hLm : Lim (bareN l) := fun x hx => hL x (bareN_mem hx)
  clear h
  generalize bareN l = m at *
  have HM := Lib.hid hb
  clear hb
  cases hk : m.length with
  | zero =>
    have hr := Lib.hid (show bitsN (val32 l) = 0 by rw [hz hk]; rfl)
    clear hz hbv
    rw [hk] at HB
    clear hk
    go_enter Tryd.func24, Tryd.ntmps24
    go_wp2_with fail
    refine HB.out.mono ?_
    rintro e w1 ⟨rfl, rfl⟩
    go_wp2
    go_ret
    exact ⟨by rw [hr.out]; rfl, rfl⟩
  | succ k =>
    have hr := Lib.hid (hbv k hk)
    rw [hk] at HB HM hbl
    clear hz hbv hk
    have hd := lim_get hLm k
    obtain ⟨b, off, rfl, hbk, hc⟩ := HM.out.cells (by omega)
    have hck := hc k (by omega)
    clear hc hLm
    generalize m[k]?.getD 0 = d at *
    have hb32 := (bitsN_le d 32).2 hd
    go_enter Tryd.func24, Tryd.ntmps24
    go_wp2_with fail
    refine HB.out.mono ?_
    rintro e w1 ⟨rfl, rfl⟩
    go_wp2_with (go_at_call 38; refine (len32_any d _ hd).mono ?_; rintro e w' ⟨rfl, rfl⟩)
    go_ret
    exact ⟨by rw [hr.out]; simp, rfl⟩

end Go.Proofs.YtpefjkndfifceaaDoor
