/-
  SHA-2, the reference: words for the walk of Of. (Written by wip/gen_sh9.py.)
-/
import Derived.Test.YtpfdehjllnhllaaSi8
namespace Go.Proofs.Ytpfdehjllnhllaa
open Go.RowKit Go.Shelf

theorem reads_other {q : IntKind} {w : World} {a : Option Addr} {n c : Nat} {l : List Nat} (h : Reads q w a n c l) (g i : Nat) (v : Value) (hg : ∀ ad, a = some ad → ad.block ≠ g) : Reads q (w.setCell ⟨g, i, none⟩ v) a n c l :=
  h.grownNe (grown_set (x := w) (y := w) (g := g) ⟨rfl, rfl, rfl, Nat.le_refl _, fun _ _ _ => rfl⟩ i v) (fun _ ad e => fun hh => hg ad e (Option.some.inj hh))
theorem reads_cellG {q : IntKind} {w : World} {g n c : Nat} {l : List Nat} (h : Reads q w (some ⟨g, 0, none⟩) n c l) (i : Nat) (hi : i < n) : w.cell? ⟨g, i, none⟩ = some (.int q ((g0 l i : Nat) : Int)) := by
  obtain ⟨b, off, e, -, hc⟩ := h.cells (by omega)
  cases e
  have := hc i hi
  rwa [Nat.zero_add] at this
/-- A table that is written from its beginning on. -/
def fillT (T : List Nat) (n i : Nat) : List Nat := T.take i ++ List.replicate (n - i) 0
theorem fillT_len {T : List Nat} {n i : Nat} (h : i ≤ n) (hT : n ≤ T.length) : (fillT T n i).length = n := by
  unfold fillT
  rw [List.length_append, List.length_take, List.length_replicate]
  omega
theorem fillT_set {T : List Nat} {n i : Nat} (h : i < n) (hT : n ≤ T.length) : (fillT T n i).set i (g0 T i) = fillT T n (i + 1) := by
  unfold fillT
  have hl : (T.take i).length = i := by rw [List.length_take]; omega
  rw [List.set_append_right _ _ (by omega), hl, Nat.sub_self, take_snocN T i (by omega), List.append_assoc, show n - i = (n - (i + 1)) + 1 by omega, List.replicate_succ]
  rfl
theorem fillT_all {T : List Nat} {n : Nat} (hT : T.length = n) : fillT T n n = T := by
  unfold fillT
  rw [List.take_of_length_le (by omega), Nat.sub_self, List.replicate_zero, List.append_nil]
theorem fillT_lt {T : List Nat} {n i b : Nat} (hT : ∀ x ∈ T, x < b) (hb : 0 < b) : ∀ x ∈ fillT T n i, x < b := fun x hx => by
  unfold fillT at hx
  rcases List.mem_append.1 hx with hx | hx
  · exact hT x (List.mem_of_mem_take hx)
  · have := List.eq_of_mem_replicate hx
    omega
/-- What the blocks hold while the tables are written. -/
structure OfP (w W : World) (gp cp gk gh : Nat) (K H : List Nat) : Prop where
  p : Reads .i64 W (some ⟨gp, 0, none⟩) 80 cp primesL
  k : Arr .u64 51 W gk K
  h : Arr .u64 38 W gh H
  below : Below w.heap.size w W
  ne : gp ≠ gk ∧ gp ≠ gh ∧ gk ≠ gh ∧ w.heap.size ≤ gk ∧ w.heap.size ≤ gh
theorem OfP.on {w W W' : World} {gp cp gk gh : Nat} {K H : List Nat} (h : OfP w W gp cp gk gh K H) (hb : Below W.heap.size W W') : OfP w W' gp cp gk gh K H :=
  ⟨h.p.below hb, h.k.below hb h.k.lt, h.h.below hb h.h.lt, h.below.trans (hb.mono h.below.size), h.ne⟩
theorem OfP.setk {w W : World} {gp cp gk gh : Nat} {K H : List Nat} (h : OfP w W gp cp gk gh K H) (i x : Nat) (y : Int) (hy : y = x) : OfP w (W.setCell ⟨gk, i, none⟩ (.int .u64 y)) gp cp gk gh (K.set i x) H :=
  ⟨reads_other h.p _ _ _ (fun ad e => by cases e; exact h.ne.1), h.k.stored i x y hy, h.h.other _ _ (fun e => h.ne.2.2.1 e.symm), h.below.setCell (p := ⟨gk, i, none⟩) h.ne.2.2.2.1 _, h.ne⟩
theorem OfP.seth {w W : World} {gp cp gk gh : Nat} {K H : List Nat} (h : OfP w W gp cp gk gh K H) (i x : Nat) (y : Int) (hy : y = x) : OfP w (W.setCell ⟨gh, i, none⟩ (.int .u64 y)) gp cp gk gh K (H.set i x) :=
  ⟨reads_other h.p _ _ _ (fun ad e => by cases e; exact h.ne.2.1), h.k.other _ _ h.ne.2.2.1, h.h.stored i x y hy, h.below.setCell (p := ⟨gh, i, none⟩) h.ne.2.2.2.2 _, h.ne⟩
theorem frac_k : fracsB 3 64 0 primesL kL = true := by kernel_rfl
theorem frac_h1 : fracsB 2 64 0 (primesL.take 8) (startL.take 8) = true := by kernel_rfl
theorem frac_h2 : fracsB 2 64 0 ((primesL.drop 8).take 8) (startL.drop 8) = true := by kernel_rfl
theorem prime_lt : ∀ x ∈ primesL, x < 512 := by unfold primesL; decide
theorem k_at (i : Nat) (hi : i < 80) : ∃ v, fracV (g0 primesL i) 3 64 = some v ∧ v % 0 = g0 kL i := fracs_at frac_k i hi
theorem h1_at (i : Nat) (hi : i < 8) : ∃ v, fracV (g0 primesL i) 2 64 = some v ∧ v % 0 = g0 (startN 512) i := by
  obtain ⟨v, h1, h2⟩ := fracs_at frac_h1 i hi
  refine ⟨v, ?_, h2⟩
  have : g0 (primesL.take 8) i = g0 primesL i := by unfold g0; rw [List.getElem?_take_of_lt hi]
  rw [← this]
  exact h1
theorem h2_at (i : Nat) (hi : i < 8) : ∃ v, fracV (g0 primesL (i + 8)) 2 64 = some v ∧ v % 0 = g0 (startN 384) i := by
  obtain ⟨v, h1, h2⟩ := fracs_at frac_h2 i hi
  refine ⟨v, ?_, h2⟩
  have : g0 ((primesL.drop 8).take 8) i = g0 primesL (i + 8) := by unfold g0; rw [List.getElem?_take_of_lt hi, List.getElem?_drop, Nat.add_comm]
  rw [← this]
  exact h1

/-- What the blocks hold while the message is gone through. -/
structure OfS (w W : World) (gk gh gm ml cm : Nat) (H M : List Nat) : Prop where
  k : Arr .u64 51 W gk kL
  h : Arr .u64 38 W gh H
  m : Reads .u8 W (some ⟨gm, 0, none⟩) ml cm M
  below : Below w.heap.size w W
  ne : gk ≠ gh ∧ gm ≠ gh ∧ w.heap.size ≤ gh
theorem OfS.lt {w W : World} {gk gh gm ml cm : Nat} {H M : List Nat} (h : OfS w W gk gh gm ml cm H M) (hl : 0 < ml) : gm < W.heap.size := by
  obtain ⟨b, off, e, hlt, -⟩ := h.m.cells hl
  cases e
  exact hlt
theorem OfS.on {w W W' : World} {gk gh gm ml cm : Nat} {H M : List Nat} (h : OfS w W gk gh gm ml cm H M) (hb : Below W.heap.size W W') : OfS w W' gk gh gm ml cm H M :=
  ⟨h.k.below hb h.k.lt, h.h.below hb h.h.lt, h.m.below hb, h.below.trans (hb.mono h.below.size), h.ne⟩
theorem OfS.drew {w W : World} {gk gh gm ml cm : Nat} {H M : List Nat} (h : OfS w W gk gh gm ml cm H M) : OfS w W.drew gk gh gm ml cm H M := h.on (Below.refl _ _).drew
theorem OfS.drewN {w W : World} {gk gh gm ml cm : Nat} {H M : List Nat} (h : OfS w W gk gh gm ml cm H M) (n : Nat) : OfS w (W.drewN n) gk gh gm ml cm H M := h.on (below_drewS (Below.refl _ _) n)
theorem OfS.seth {w W : World} {gk gh gm ml cm : Nat} {H M : List Nat} (h : OfS w W gk gh gm ml cm H M) (i x : Nat) (y : Int) (hy : y = x) : OfS w (W.setCell ⟨gh, i, none⟩ (.int .u64 y)) gk gh gm ml cm (H.set i x) M :=
  ⟨h.k.other _ _ h.ne.1, h.h.stored i x y hy, reads_other h.m _ _ _ (fun ad e => by cases e; exact h.ne.2.1), h.below.setCell (p := ⟨gh, i, none⟩) h.ne.2.2 _, h.ne⟩
/-- A block beside these. -/
structure Own4 (w : World) (gk gh gm g : Nat) : Prop where
  ne : gk ≠ g ∧ gh ≠ g ∧ gm ≠ g ∧ w.heap.size ≤ g
theorem OfS.set {w W : World} {gk gh gm ml cm : Nat} {H M : List Nat} (h : OfS w W gk gh gm ml cm H M) {g : Nat} (hg : Own4 w gk gh gm g) (i : Nat) (v : Value) : OfS w (W.setCell ⟨g, i, none⟩ v) gk gh gm ml cm H M :=
  ⟨h.k.other _ _ hg.ne.1, h.h.other _ _ hg.ne.2.1, reads_other h.m _ _ _ (fun ad e => by cases e; exact hg.ne.2.2.1), h.below.setCell (p := ⟨g, i, none⟩) hg.ne.2.2.2 _, h.ne⟩
theorem OfS.beside {w W : World} {gk gh gm ml cm : Nat} {H M : List Nat} (h : OfS w W gk gh gm ml cm H M) (hl : 0 < ml) : Own4 w gk gh gm W.heap.size :=
  ⟨Nat.ne_of_lt h.k.lt, Nat.ne_of_lt h.h.lt, Nat.ne_of_lt (h.lt hl), h.below.size⟩
theorem or_add (x y : Nat) (hy : y < 256) : (x * 256 % 18446744073709551616 ||| y) = (256 * x + y) % 18446744073709551616 := by
  have e : x * 256 % 18446744073709551616 = 2 ^ 8 * (x % 72057594037927936) := by omega
  rw [e, ← Nat.two_pow_add_eq_or_of_lt (i := 8) (by omega)]
  omega
theorem pack_step (bl : List Nat) (i n x y : Nat) (hn : n < 8) (hx : x = g0 (packN bl (8 * i + n)) i) (hy : y = g0 bl (8 * i + n)) (h8 : y < 256) : packN bl (8 * i + (n + 1)) = (packN bl (8 * i + n)).set i ((256 * x + y) % 18446744073709551616) := by
  show packS bl (8 * i + n) (packN bl (8 * i + n)) = _
  unfold packS
  rw [show (8 * i + n) / 8 = i by omega, ← hx, ← hy, or_add x y h8]

theorem lb_high (N : Nat) (h : N < 256 ^ 8) : ∀ j, lbN N (8 + j) = List.replicate j 0 ++ lbN N 8
  | 0 => rfl
  | j + 1 => by
    show N / 256 ^ (8 + j) % 256 :: lbN N (8 + j) = _
    rw [lb_high N h j, Nat.div_eq_of_lt (Nat.lt_of_lt_of_le h (Nat.pow_le_pow_right (by decide) (by omega))), List.replicate_succ]
    rfl
theorem lb_wd (N : Nat) : lbN N 8 = wd N 8 := rfl
theorem fill_end (m : List Nat) (h : m.length < 1152921504606846976) : fillN m = m ++ endN m.length := by
  unfold fillN endN
  rw [show (128 - (m.length + 1 + 16) % 128) % 128 = (239 - m.length % 128) % 128 by omega, show (16 : Nat) = 8 + 8 from rfl, lb_high (8 * m.length) (by omega) 8, lb_wd, show List.replicate 8 0 = wd 0 8 from rfl, Nat.mul_comm 8 m.length]
  simp only [List.append_assoc]
theorem hash_ref (bt : Nat) (m : List Nat) (nb : Nat) (hm : m.length < 1152921504606846976) (h : (fillN m).length = 128 * nb) : bytesW (wsK bt (fillN m) nb) (bt / 64) = hashN bt m := by
  unfold hashN sumW
  rw [← fill_end m hm, h, Nat.mul_div_cancel_left _ (by decide)]

end Go.Proofs.Ytpfdehjllnhllaa
