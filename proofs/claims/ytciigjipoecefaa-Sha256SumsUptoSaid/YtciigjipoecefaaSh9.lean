/-
  SHA-2, the reference: words for the walk of Of. (Written by wip/gen_sh9.py.)
-/
import Derived.Test.YtciigjipoecefaaSh8
namespace Go.Proofs.Ytciigjipoecefaa
open Go.RowKit Go.Shelf

theorem reads_other {q : IntKind} {w : World} {a : Option Addr} {n c : Nat} {l : List Nat} (h : Reads q w a n c l) (g i : Nat) (v : Value) (hg : ∀ ad, a = some ad → ad.block ≠ g) : Reads q (w.setCell ⟨g, i, none⟩ v) a n c l :=
  h.grownNe (grown_set (x := w) (y := w) (g := g) ⟨rfl, rfl, rfl, Nat.le_refl _, fun _ _ _ => rfl⟩ i v) (fun _ ad e => fun hh => hg ad e (Option.some.inj hh))
theorem reads_cellG {q : IntKind} {w : World} {g n c : Nat} {l : List Nat} (h : Reads q w (some ⟨g, 0, none⟩) n c l) (i : Nat) (hi : i < n) : w.cell? ⟨g, i, none⟩ = some (.int q ((g0 l i : Nat) : Int)) := by
  obtain ⟨b, off, e, -, hc⟩ := h.cells (by omega)
  cases e
  have := hc i hi
  rwa [Nat.zero_add] at this
/-- A table that is written from its beginning on. -/
def fillT (T : List Nat) (n i : Nat) : List Nat := T.take i ++ List.replicate (n - i) 0
theorem fillT_len {T : List Nat} {n i : Nat} (h : i ≤ n) (hT : n ≤ T.length) : (fillT T n i).length = n := by
  unfold fillT
  rw [List.length_append, List.length_take, List.length_replicate]
  omega
theorem fillT_set {T : List Nat} {n i : Nat} (h : i < n) (hT : n ≤ T.length) : (fillT T n i).set i (g0 T i) = fillT T n (i + 1) := by
  unfold fillT
  have hl : (T.take i).length = i := by rw [List.length_take]; omega
  rw [List.set_append_right _ _ (by omega), hl, Nat.sub_self, take_snocN T i (by omega), List.append_assoc, show n - i = (n - (i + 1)) + 1 by omega, List.replicate_succ]
  rfl
theorem fillT_all {T : List Nat} {n : Nat} (hT : T.length = n) : fillT T n n = T := by
  unfold fillT
  rw [List.take_of_length_le (by omega), Nat.sub_self, List.replicate_zero, List.append_nil]
theorem fillT_lt {T : List Nat} {n i b : Nat} (hT : ∀ x ∈ T, x < b) (hb : 0 < b) : ∀ x ∈ fillT T n i, x < b := fun x hx => by
  unfold fillT at hx
  rcases List.mem_append.1 hx with hx | hx
  · exact hT x (List.mem_of_mem_take hx)
  · have := List.eq_of_mem_replicate hx
    omega
/-- What the blocks hold while the tables are written. -/
structure OfP (w W : World) (gp cp gk gh : Nat) (K H : List Nat) : Prop where
  p : Reads .i64 W (some ⟨gp, 0, none⟩) 64 cp primesL
  k : Arr .u32 52 W gk K
  h : Arr .u32 39 W gh H
  below : Below w.heap.size w W
  ne : gp ≠ gk ∧ gp ≠ gh ∧ gk ≠ gh ∧ w.heap.size ≤ gk ∧ w.heap.size ≤ gh
theorem OfP.on {w W W' : World} {gp cp gk gh : Nat} {K H : List Nat} (h : OfP w W gp cp gk gh K H) (hb : Below W.heap.size W W') : OfP w W' gp cp gk gh K H :=
  ⟨h.p.below hb, h.k.below hb h.k.lt, h.h.below hb h.h.lt, h.below.trans (hb.mono h.below.size), h.ne⟩
theorem OfP.setk {w W : World} {gp cp gk gh : Nat} {K H : List Nat} (h : OfP w W gp cp gk gh K H) (i x : Nat) (y : Int) (hy : y = x) : OfP w (W.setCell ⟨gk, i, none⟩ (.int .u32 y)) gp cp gk gh (K.set i x) H :=
  ⟨reads_other h.p _ _ _ (fun ad e => by cases e; exact h.ne.1), h.k.stored i x y hy, h.h.other _ _ (fun e => h.ne.2.2.1 e.symm), h.below.setCell (p := ⟨gk, i, none⟩) h.ne.2.2.2.1 _, h.ne⟩
theorem OfP.seth {w W : World} {gp cp gk gh : Nat} {K H : List Nat} (h : OfP w W gp cp gk gh K H) (i x : Nat) (y : Int) (hy : y = x) : OfP w (W.setCell ⟨gh, i, none⟩ (.int .u32 y)) gp cp gk gh K (H.set i x) :=
  ⟨reads_other h.p _ _ _ (fun ad e => by cases e; exact h.ne.2.1), h.k.other _ _ h.ne.2.2.1, h.h.stored i x y hy, h.below.setCell (p := ⟨gh, i, none⟩) h.ne.2.2.2.2 _, h.ne⟩
theorem frac_k : fracsB 3 32 4294967296 primesL kL = true := by kernel_rfl
theorem frac_h1 : fracsB 2 32 4294967296 (primesL.take 8) (startL.take 8) = true := by kernel_rfl
theorem frac_h2 : fracsB 2 64 4294967296 ((primesL.drop 8).take 8) (startL.drop 8) = true := by kernel_rfl
theorem prime_lt : ∀ x ∈ primesL, x < 512 := by unfold primesL; decide
theorem k_at (i : Nat) (hi : i < 64) : ∃ v, fracV (g0 primesL i) 3 32 = some v ∧ v % 4294967296 = g0 kL i := fracs_at frac_k i hi
theorem h1_at (i : Nat) (hi : i < 8) : ∃ v, fracV (g0 primesL i) 2 32 = some v ∧ v % 4294967296 = g0 (startN 256) i := by
  obtain ⟨v, h1, h2⟩ := fracs_at frac_h1 i hi
  refine ⟨v, ?_, h2⟩
  have : g0 (primesL.take 8) i = g0 primesL i := by unfold g0; rw [List.getElem?_take_of_lt hi]
  rw [← this]
  exact h1
theorem h2_at (i : Nat) (hi : i < 8) : ∃ v, fracV (g0 primesL (i + 8)) 2 64 = some v ∧ v % 4294967296 = g0 (startN 224) i := by
  obtain ⟨v, h1, h2⟩ := fracs_at frac_h2 i hi
  refine ⟨v, ?_, h2⟩
  have : g0 ((primesL.drop 8).take 8) i = g0 primesL (i + 8) := by unfold g0; rw [List.getElem?_take_of_lt hi, List.getElem?_drop, Nat.add_comm]
  rw [← this]
  exact h1

/-- What the blocks hold while the message is gone through. -/
structure OfS (w W : World) (gk gh gm ml cm : Nat) (H M : List Nat) : Prop where
  k : Arr .u32 52 W gk kL
  h : Arr .u32 39 W gh H
  m : Reads .u8 W (some ⟨gm, 0, none⟩) ml cm M
  below : Below w.heap.size w W
  ne : gk ≠ gh ∧ gm ≠ gh ∧ w.heap.size ≤ gh
theorem OfS.lt {w W : World} {gk gh gm ml cm : Nat} {H M : List Nat} (h : OfS w W gk gh gm ml cm H M) (hl : 0 < ml) : gm < W.heap.size := by
  obtain ⟨b, off, e, hlt, -⟩ := h.m.cells hl
  cases e
  exact hlt
theorem OfS.on {w W W' : World} {gk gh gm ml cm : Nat} {H M : List Nat} (h : OfS w W gk gh gm ml cm H M) (hb : Below W.heap.size W W') : OfS w W' gk gh gm ml cm H M :=
  ⟨h.k.below hb h.k.lt, h.h.below hb h.h.lt, h.m.below hb, h.below.trans (hb.mono h.below.size), h.ne⟩
theorem OfS.drew {w W : World} {gk gh gm ml cm : Nat} {H M : List Nat} (h : OfS w W gk gh gm ml cm H M) : OfS w W.drew gk gh gm ml cm H M := h.on (Below.refl _ _).drew
theorem OfS.drewN {w W : World} {gk gh gm ml cm : Nat} {H M : List Nat} (h : OfS w W gk gh gm ml cm H M) (n : Nat) : OfS w (W.drewN n) gk gh gm ml cm H M := h.on (below_drewS (Below.refl _ _) n)
theorem OfS.seth {w W : World} {gk gh gm ml cm : Nat} {H M : List Nat} (h : OfS w W gk gh gm ml cm H M) (i x : Nat) (y : Int) (hy : y = x) : OfS w (W.setCell ⟨gh, i, none⟩ (.int .u32 y)) gk gh gm ml cm (H.set i x) M :=
  ⟨h.k.other _ _ h.ne.1, h.h.stored i x y hy, reads_other h.m _ _ _ (fun ad e => by cases e; exact h.ne.2.1), h.below.setCell (p := ⟨gh, i, none⟩) h.ne.2.2 _, h.ne⟩
/-- A block beside these. -/
structure Own4 (w : World) (gk gh gm g : Nat) : Prop where
  ne : gk ≠ g ∧ gh ≠ g ∧ gm ≠ g ∧ w.heap.size ≤ g
theorem OfS.set {w W : World} {gk gh gm ml cm : Nat} {H M : List Nat} (h : OfS w W gk gh gm ml cm H M) {g : Nat} (hg : Own4 w gk gh gm g) (i : Nat) (v : Value) : OfS w (W.setCell ⟨g, i, none⟩ v) gk gh gm ml cm H M :=
  ⟨h.k.other _ _ hg.ne.1, h.h.other _ _ hg.ne.2.1, reads_other h.m _ _ _ (fun ad e => by cases e; exact hg.ne.2.2.1), h.below.setCell (p := ⟨g, i, none⟩) hg.ne.2.2.2 _, h.ne⟩
theorem OfS.beside {w W : World} {gk gh gm ml cm : Nat} {H M : List Nat} (h : OfS w W gk gh gm ml cm H M) (hl : 0 < ml) : Own4 w gk gh gm W.heap.size :=
  ⟨Nat.ne_of_lt h.k.lt, Nat.ne_of_lt h.h.lt, Nat.ne_of_lt (h.lt hl), h.below.size⟩
theorem or_add (x y : Nat) (hy : y < 256) : (x * 256 % 4294967296 ||| y) = (256 * x + y) % 4294967296 := by
  have e : x * 256 % 4294967296 = 2 ^ 8 * (x % 16777216) := by omega
  rw [e, ← Nat.two_pow_add_eq_or_of_lt (i := 8) (by omega)]
  omega
theorem pack_step (bl : List Nat) (i n x y : Nat) (hn : n < 4) (hx : x = g0 (packN bl (4 * i + n)) i) (hy : y = g0 bl (4 * i + n)) (h8 : y < 256) : packN bl (4 * i + (n + 1)) = (packN bl (4 * i + n)).set i ((256 * x + y) % 4294967296) := by
  show packS bl (4 * i + n) (packN bl (4 * i + n)) = _
  unfold packS
  rw [show (4 * i + n) / 4 = i by omega, ← hx, ← hy, or_add x y h8]

theorem fold_ws (bt : Nat) (m R : List Nat) (q : Nat) (hq : 64 * q ≤ m.length) : ∀ j, foldW (wsK bt m q) R j = wsK bt (m.take (64 * q) ++ R) (q + j)
  | 0 => wsK_ext q (by rw [List.take_append_of_le_length (by rw [List.length_take]; omega), List.take_take, Nat.min_self])
  | j + 1 => by
    show turnN (foldW (wsK bt m q) R j) ((R.drop (64 * j)).take 64) = turnN (wsK bt (m.take (64 * q) ++ R) (q + j)) (((m.take (64 * q) ++ R).drop (64 * (q + j))).take 64)
    rw [fold_ws bt m R q hq j, Nat.mul_add, List.drop_append (l₁ := m.take (64 * q)), List.drop_of_length_le (l := m.take (64 * q)) (by rw [List.length_take]; omega), List.nil_append, List.length_take, Nat.min_eq_left hq, Nat.add_sub_cancel_left]
theorem lb_len (T : Nat) : lbN (8 * T) 8 = lenB T 8 := by
  rw [Nat.mul_comm 8 T]
  rfl
theorem fill_rest (m : List Nat) : fillN m = m.take (64 * (m.length / 64)) ++ restN m := by
  unfold fillN restN
  rw [lb_len, show (64 - (m.length + 1 + 8) % 64) % 64 = (119 - m.length % 64) % 64 by omega, ← List.append_assoc, ← List.append_assoc, ← List.append_assoc, List.take_append_drop]
theorem sum_fill (bt : Nat) (m : List Nat) (nb : Nat) (h : (fillN m).length = 64 * nb) : sumW bt m = wsK bt (fillN m) nb := by
  unfold sumW
  rw [fold_ws bt m (restN m) (m.length / 64) (by omega), ← fill_rest]
  congr 1
  have h2 := congrArg List.length (fill_rest m)
  rw [h, List.length_append, List.length_take, Nat.min_eq_left (by omega)] at h2
  omega
theorem hash_ref (bt : Nat) (hbt : bt = 256 ∨ bt = 224) (m : List Nat) (nb : Nat) (h : (fillN m).length = 64 * nb) : bytesW (wsK bt (fillN m) nb) (bt / 32) = hashN bt m := by
  unfold hashN
  rw [← sum_fill bt m nb h]
  rcases hbt with rfl | rfl
  · exact (List.take_of_length_le (by rw [bytesW_len]; decide)).symm
  · show bytesW (sumW 224 m) 7 = (bytesW (sumW 224 m) 8).take 28
    rw [bytesW_succ (sumW 224 m) 7, List.take_append_of_le_length (by rw [bytesW_len]; decide), List.take_of_length_le (by rw [bytesW_len]; decide)]

end Go.Proofs.Ytciigjipoecefaa
