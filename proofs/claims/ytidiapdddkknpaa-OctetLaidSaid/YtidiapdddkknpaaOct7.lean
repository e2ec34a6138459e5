/-
  WALKS OF OCTET's Cut, OF THE REFERENCE's, AND OF ITS Lists.
-/
import Derived.Test.YtidiapdddkknpaaOct6
import Derived.Lib.OwnKind
namespace Go.Proofs.Ytidiapdddkknpaa
open Go.RowKit

/-- The slice (a, len, cap) reads, in w, as the numbers z. -/
structure Nums (w : World) (a : Option Addr) (len cap : Nat) (z : List Int) : Prop where
  length : z.length = len
  le : len ≤ cap
  max : cap ≤ maxLen
  cells : 0 < len → ∃ b off, a = some ⟨b, off, none⟩ ∧ b < w.heap.size ∧ ∀ i, i < len → w.cell? ⟨b, off + i, none⟩ = some (.int .i64 (z[i]?.getD 0))

theorem Nums.below {w w' : World} {a : Option Addr} {len cap : Nat} {z : List Int} (h : Nums w a len cap z) (hb : Below w.heap.size w w') : Nums w' a len cap z :=
  ⟨h.length, h.le, h.max, fun hp => by
    obtain ⟨b, off, rfl, hlt, hc⟩ := h.cells hp
    exact ⟨b, off, rfl, Nat.lt_of_lt_of_le hlt hb.size, fun i hi => (hb.cell (p := ⟨b, off + i, none⟩) hlt).trans (hc i hi)⟩⟩

theorem Bts.sub {w : World} {a : Option Addr} {len cap : Nat} {l : List UInt8} (h : Bts w a len cap l) (k m : Nat) (hkm : k ≤ m) (hm : m ≤ len) : Bts w (if cap = k then a else a.map (·.add k)) (m - k) (cap - k) ((l.take m).drop k) := by
  have hl := h.length
  have hle := h.le
  have hmax := h.max
  refine ⟨by rw [List.length_drop, List.length_take]; omega, by omega, by omega, fun hn => ?_, fun hp => ?_⟩
  · by_cases hc : cap = k
    · omega
    · rw [if_neg hc] at hn
      have := h.nil (by simpa using hn)
      omega
  · obtain ⟨b, off, rfl, hlt, hc⟩ := h.cells (by omega)
    refine ⟨b, off + k, ?_, hlt, fun i hi => ?_⟩
    · rw [if_neg (by omega)]
      simp only [Option.map_some]
      congr 1
      unfold Addr.add
      split <;> simp_all
    · rw [show off + k + i = off + (k + i) from by omega, hc (k + i) (by omega), List.getElem?_drop, List.getElem?_take, if_pos (by omega)]

theorem Bts.upto {w : World} {a : Option Addr} {len cap : Nat} {l : List UInt8} (h : Bts w a len cap l) (m : Nat) (hm : m ≤ len) : Bts w a m cap (l.take m) := by
  refine ⟨by rw [List.length_take, h.length]; omega, by have := h.le; omega, h.max, h.nil, fun hp => ?_⟩
  obtain ⟨b, off, rfl, hlt, hc⟩ := h.cells (by omega)
  refine ⟨b, off, rfl, hlt, fun i hi => ?_⟩
  rw [hc i (by omega), List.getElem?_take, if_pos hi]

theorem Bts.from {w : World} {a : Option Addr} {len cap : Nat} {l : List UInt8} (h : Bts w a len cap l) (k : Nat) (hk : k ≤ len) : Bts w (if cap = k then a else a.map (·.add k)) (len - k) (cap - k) (l.drop k) := by
  have := h.sub k len hk (Nat.le_refl _)
  rwa [List.take_of_length_le (by rw [h.length]; omega)] at this

def restL (l : List UInt8) : List Int → List UInt8
  | [] => l
  | s :: ss => restL (l.drop s.toNat) ss

def partsL (l : List UInt8) : List Int → List (List UInt8)
  | [] => []
  | s :: ss => l.take s.toNat :: partsL (l.drop s.toNat) ss

def cutOk (l : List UInt8) : List Int → Bool
  | [] => l.isEmpty
  | s :: ss => decide (0 ≤ s ∧ s ≤ l.length) && cutOk (l.drop s.toNat) ss

theorem restL_snoc : ∀ (xs : List Int) (l : List UInt8) (s : Int), restL l (xs ++ [s]) = (restL l xs).drop s.toNat
  | [], _, _ => rfl
  | _ :: xs, _, s => restL_snoc xs _ s

theorem partsL_snoc : ∀ (xs : List Int) (l : List UInt8) (s : Int), partsL l (xs ++ [s]) = partsL l xs ++ [(restL l xs).take s.toNat]
  | [], _, _ => rfl
  | x :: xs, l, s => by
    have := partsL_snoc xs (l.drop x.toNat) s
    simp [partsL, restL, this]

theorem take_snocI (z : List Int) (k : Nat) (hk : k < z.length) : z.take (k + 1) = z.take k ++ [z[k]?.getD 0] := by
  rw [List.take_add_one, List.getElem?_eq_getElem hk]; rfl

theorem restL_step (l : List UInt8) (z : List Int) (k : Nat) (hk : k < z.length) : restL l (z.take (k + 1)) = (restL l (z.take k)).drop (z[k]?.getD 0).toNat := by rw [take_snocI z k hk, restL_snoc]
theorem partsL_step (l : List UInt8) (z : List Int) (k : Nat) (hk : k < z.length) : partsL l (z.take (k + 1)) = partsL l (z.take k) ++ [(restL l (z.take k)).take (z[k]?.getD 0).toNat] := by rw [take_snocI z k hk, partsL_snoc]

theorem cutOk_step (l : List UInt8) (z : List Int) (k : Nat) (hk : k < z.length) :
    cutOk l (z.drop k) = (decide (0 ≤ z[k]?.getD 0 ∧ z[k]?.getD 0 ≤ l.length) && cutOk (l.drop (z[k]?.getD 0).toNat) (z.drop (k + 1))) := by
  rw [List.drop_eq_getElem_cons hk, List.getElem?_eq_getElem hk]
  rfl

theorem cutOk_at : ∀ (z : List Int) (l : List UInt8), cutOk l z = true → (∀ k, k < z.length → 0 ≤ z[k]?.getD 0 ∧ z[k]?.getD 0 ≤ (restL l (z.take k)).length) ∧ restL l z = []
  | [], l, h => ⟨fun k hk => by simp at hk, by simpa [cutOk, restL] using h⟩
  | s :: ss, l, h => by
    simp only [cutOk, Bool.and_eq_true, decide_eq_true_eq] at h
    have := cutOk_at ss (l.drop s.toNat) h.2
    refine ⟨fun k hk => ?_, this.2⟩
    cases k with
    | zero => simpa [restL] using h.1
    | succ k => simpa [restL] using this.1 k (by simpa using hk)

def cutR (l : List UInt8) (z : List Int) : List (List UInt8) × Int := if cutOk l z = true then (partsL l z, 0) else ([], 2)
theorem cutR_yes {l : List UInt8} {z : List Int} (h : cutOk l z = true) : cutR l z = (partsL l z, 0) := by rw [cutR, if_pos h]
theorem cutR_no {l : List UInt8} {z : List Int} (h : cutOk l z = false) : cutR l z = ([], 2) := by rw [cutR, if_neg (by simp [h])]

abbrev slc (x : Row2) : Value := .slice x.1 x.2.1 x.2.2.1

/-- A list of slices of bytes, all of it the call's own. -/
structure OwnL (E U B : Nat) (w : World) (v : Value) (X : List Row2) : Prop where
  row : w.ownsRow B E 1 v X.length (X.map slc)
  each : ∀ x ∈ X, Own8 U B w (slc x) x.2.2.2

theorem OwnL.nil (E U B : Nat) (w : World) : OwnL E U B w (.slice .none 0 0) [] := ⟨World.ownsRow_nil _ _ _ _, fun _ h => by cases h⟩

theorem OwnL.below {E U B : Nat} {w w' : World} {v : Value} {X : List Row2} (h : OwnL E U B w v X) (hb : Below w.heap.size w w') : OwnL E U B w' v X := by
  refine ⟨?_, fun x hx => (h.each x hx).below hb⟩
  obtain ⟨h1, h2⟩ := h.row
  refine ⟨h1, ?_⟩
  rcases h2 with h2 | ⟨g, cap, cur, rfl, hB, hg, rest⟩
  · exact .inl h2
  · exact .inr ⟨g, cap, cur, rfl, hB, by rw [hb.block g (Array.getElem?_eq_some_iff.1 hg).1]; exact hg, rest⟩

theorem OwnL.mono {E U B B' : Nat} {w : World} {v : Value} {X : List Row2} (h : OwnL E U B w v X) (hB : B' ≤ B) : OwnL E U B' w v X := by
  refine ⟨?_, fun x hx => (h.each x hx).mono hB⟩
  obtain ⟨h1, h2⟩ := h.row
  refine ⟨h1, ?_⟩
  rcases h2 with h2 | ⟨g, cap, cur, rfl, hb, rest⟩
  · exact .inl h2
  · exact .inr ⟨g, cap, cur, rfl, Nat.le_trans hB hb, rest⟩

theorem OwnL.form {E U B : Nat} {w : World} {v : Value} {X : List Row2} (h : OwnL E U B w v X) : (v = .slice .none 0 0 ∧ X = []) ∨ ∃ g cap, v = .slice (some ⟨g, 0, .none⟩) X.length cap ∧ X.length ≤ cap ∧ cap ≤ maxLen ∧ B ≤ g ∧ g < w.heap.size := by
  obtain ⟨h1, h2⟩ := h.row
  rcases h2 with ⟨h2, h0⟩ | ⟨g, cap, cur, rfl, hb, hg, hn, hc, hs, ht⟩
  · exact .inl ⟨h2, List.eq_nil_of_length_eq_zero h0⟩
  · exact .inr ⟨g, cap, rfl, hn, hc, hb, (Array.getElem?_eq_some_iff.1 hg).1⟩

theorem OwnL.apart {E U B : Nat} {w : World} {v : Value} {X : List Row2} (h : OwnL E U B w v X) (hEU : U ≠ E) : ∀ x ∈ X, (slc x).ownBlock = .none ∨ (slc x).ownBlock ≠ v.ownBlock := by
  intro x hx
  cases hv : (slc x).ownBlock with
  | none => exact .inl rfl
  | some g =>
    refine .inr fun e => ?_
    obtain ⟨c, fz, h1⟩ := Lib.ownsRow_kind (h.each x hx) g hv
    obtain ⟨c', fz', h2⟩ := Lib.ownsRow_kind h.row g e.symm
    rw [h1] at h2
    simp at h2
    exact hEU h2.2.1

theorem slcs_oneCell (X : List Row2) : ∀ u ∈ X.map slc, u.oneCell' = true := by
  intro u hu
  obtain ⟨_, _, rfl⟩ := List.mem_map.1 hu
  rfl

/-- 'append(l, x)': one slice of bytes of the call's own more. -/
theorem wpList_append_row {P : Program} (w : World) {ops : Array Oper} {rest : List Oper} {o : Oper} {a : Act} {Q : Exit → Act → World → Prop} (hgd : o.guard = .none) (s x : Operand) (t : TypeId)
    (ho : o.op = .call { callee := .builtin .append, args := #[s, x], argTypes := #[t, t] })
    (B E U : Nat) (hEU : U ≠ E) (i : TypeInfo) (ht : P.underlying t = some (.slice E)) (hi : P.info? E = some i) (hz : i.zero = some (.slice .none 0 0)) (hsize : i.size = 1) (hby : i.bytes = 24)
    (v : Value) (X : List Row2) (hs : a.eval s = v) (hown : OwnL E U B w v X) (ad : Addr) (y : Row2) (hx : a.eval x = .slice (some ad) 1 1) (hcell : w.cell? ad = some (slc y)) (hy : Own8 U B w (slc y) y.2.2.2)
    (hsum : X.length ≤ 100000) (hbase : B ≤ w.heap.size)
    (h : ∀ v' w', OwnL E U B w' v' (X ++ [y]) → (∀ w0, Below B w0 w → Below B w0 w') → wpList P ops Q rest (a.put o.dst v') w') : wpList P ops Q (o :: rest) a w := by
  refine wpList_append_own w hgd s x t ho B E i (.slice .none 0 0) 1 24 ht hi hz hsize hby rfl (by decide) v X.length (X.map slc) hs hown.row ad 1 1 [slc y] hx rfl (fun j u hu => ?_) (by simp [Value.oneCell']) (by unfold maxLen; omega) (by omega) hbase ?_
  · cases j with
    | zero =>
      simp at hu
      subst hu
      rw [show ad.add 0 = ad from by cases ad; unfold Addr.add; split <;> simp_all]
      exact hcell
    | succ j => simp at hu
  · intro v' w' ho' hg _
    have hap := hown.apart hEU
    have hyo : (slc y).ownBlock = .none ∨ (slc y).ownBlock ≠ v.ownBlock := by
      cases hv : (slc y).ownBlock with
      | none => exact .inl rfl
      | some g =>
        refine .inr fun e => ?_
        obtain ⟨c, fz, h1⟩ := Lib.ownsRow_kind hy g hv
        obtain ⟨c', fz', h2⟩ := Lib.ownsRow_kind hown.row g e.symm
        rw [h1] at h2
        simp at h2
        exact hEU h2.2.1
    refine h v' w' ⟨by simpa using ho', fun u hu => ?_⟩ (fun w0 h0 => h0.grown hg hbase (fun k hk => (hown.row.lt k hk).1))
    rcases List.mem_append.1 hu with hu | hu
    · exact World.ownsRow.kept (hown.each u hu) hg (hap u hu)
    · obtain rfl := List.mem_singleton.1 hu
      exact World.ownsRow.kept hy hg hyo

def RetsCut (B : Nat) (w' : World) (r : List (List UInt8) × Int) (e : Ending) : Prop := ∃ v X, e = .returned (.tuple #[v, .int .i64 r.2]) ∧ OwnL 22 5 B w' v X ∧ X.map (·.2.2.2) = r.1

theorem RetsCut.no {B : Nat} {w' : World} {r : List (List UInt8) × Int} (h : r = ([], 2)) : RetsCut B w' r (.returned (.tuple #[.slice none 0 0, .int .i64 2])) := by
  subst h
  exact ⟨_, [], rfl, OwnL.nil _ _ _ _, rfl⟩

end Go.Proofs.Ytidiapdddkknpaa
