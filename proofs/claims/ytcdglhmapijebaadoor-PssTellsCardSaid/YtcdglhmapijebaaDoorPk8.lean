/-
  Texts of ours, one behind the other: Sh8 Sh9 Sj0
-/
import Derived.Test.YtcdglhmapijebaaDoorPk7
import Derived.BigQuiet
import Derived.Deep.QuietTactic
import Derived.StillTailTactics
import Derived.BigRegion
import Derived.RegionTactic
import Derived.Deep.RegionHeld3
import Derived.ArgAppend
set_option linter.unusedVariables false
set_option linter.unusedSimpArgs false

namespace Go.Proofs.YtcdglhmapijebaaDoor
open Go.RowKit

theorem div_le {p d : Nat} (hp : p < 100000) (h : ∀ e, 2 ≤ e → e < d → e * e ≤ p) : d ≤ 317 := by
  rcases Nat.lt_or_ge 317 d with hd | hd
  · have := h 317 (by decide) hd
    omega
  · exact hd
theorem div_next {p d : Nat} (h : ∀ e, 2 ≤ e → e < d → e * e ≤ p) (hd : d * d ≤ p) : ∀ e, 2 ≤ e → e < d + 1 → e * e ≤ p := fun e h1 h2 => by
  rcases Nat.lt_or_ge e d with h3 | h3
  · exact h e h1 h3
  · obtain rfl : e = d := by omega
    exact hd
theorem div_more {p d : Nat} (h : ∀ e, 2 ≤ e → e < d → p % e ≠ 0) (hd : p % d ≠ 0) : ∀ e, 2 ≤ e → e < d + 1 → p % e ≠ 0 := fun e h1 h2 => by
  rcases Nat.lt_or_ge e d with h3 | h3
  · exact h e h1 h3
  · obtain rfl : e = d := by omega
    exact hd
theorem prime_end {p d : Nat} (hp : 2 ≤ p) (h : ∀ e, 2 ≤ e → e < d → p % e ≠ 0) (hd : p < d * d) : isPrime p = true :=
  (isPrime_iff p).2 ⟨hp, fun e h1 h2 => h e h1 (by
    rcases Nat.lt_or_ge e d with h3 | h3
    · exact h3
    · have := Nat.mul_le_mul h3 h3
      omega)⟩
theorem prime_not {p d : Nat} (h2 : 2 ≤ d) (hd : d * d ≤ p) (h : p % d = 0) : isPrime p = false := by
  cases hi : isPrime p with
  | false => rfl
  | true => exact absurd h (((isPrime_iff p).1 hi).2 d h2 hd)

set_option maxHeartbeats 1000000 in
theorem prime_any (p : Nat) (w : World) (h2 : 2 ≤ p) (hp : p < 100000) (r : Bool) (hr : r = isPrime p) :
    Calls Tryd.prog 76 #[.int .i64 (p : Int)] w fun e w' => e = .returned (.bool r) ∧ w = w' := by
  have HR := Lib.hid hr
  clear hr
  go_enter Tryd.func76, Tryd.ntmps76
  go_wp2
  go_loop [3] (fun dv => ∃ d : Nat, dv = .int .i64 (d : Int) ∧ 2 ≤ d ∧ d ≤ 317 ∧ Hid ((∀ e, 2 ≤ e → e < d → e * e ≤ p) ∧ ∀ e, 2 ≤ e → e < d → p % e ≠ 0)) (fun dv => 400 - (intOf dv).toNat)
  case atStart => exact ⟨2, rfl, Nat.le_refl _, by decide, fun e h1 h2 => by omega, fun e h1 h2 => by omega⟩
  case round =>
    obtain ⟨d, rfl, hd2, hd3, hI⟩ := hrel
    obtain ⟨s, hs⟩ : ∃ s, s = d * d := ⟨_, rfl⟩
    have hcast : (d : Int) * (d : Int) = (s : Int) := by rw [hs, Int.natCast_mul]
    have hsb : s < 200000 := by
      rw [hs]
      exact Nat.lt_of_le_of_lt (Nat.mul_le_mul hd3 hd3) (by decide)
    have HS := Lib.hid hs
    clear hs
    rcases Nat.lt_or_ge p s with hlt | hge
    · have HE := Lib.hid (prime_end h2 hI.out.2 (HS.out ▸ hlt))
      go_wp2
      all_goals go_ret
      all_goals exact ⟨by rw [HR.out, HE.out]; rfl, rfl⟩
    · have HG := Lib.hid (show d * d ≤ p from HS.out ▸ hge)
      by_cases hm : p % d = 0
      · have HE := Lib.hid (prime_not hd2 HG.out hm)
        have t1 : ((p : Int) % (d : Int) == 0) = true := by rw [← Int.natCast_emod, hm]; rfl
        clear hm
        go_wp2
        all_goals go_ret
        all_goals exact ⟨by rw [HR.out, HE.out]; rfl, rfl⟩
      · have HM := Lib.hid hm
        have t1 : ((p : Int) % (d : Int) == 0) = false := by rw [← Int.natCast_emod]; simp; omega
        clear hm
        have HN := Lib.hid (div_next hI.out.1 HG.out)
        have HL := Lib.hid (div_le hp HN.out)
        go_wp2
        all_goals go_round
        case rel => exact ⟨d + 1, by go_num, by omega, HL.out, HN.out, div_more hI.out.2 HM.out⟩
        case measure => simp [intOf]; omega


def primesL : List Nat := [2,3,5,7,11,13,17,19,23,29,31,37,41,43,47,53,59,61,67,71,73,79,83,89,97,101,103,107,109,113,127,131,137,139,149,151,157,163,167,173,179,181,191,193,197,199,211,223,227,229,233,239,241,251,257,263,269,271,277,281,283,293,307,311]
theorem primesL_eq : primesTo 312 = primesL := eq_of_eqM (by kernel_rfl)
theorem primesL_len : primesL.length = 64 := rfl
theorem few_le {k : Nat} (h : (primesTo k).length < 64) : k < 312 := by
  rcases Nat.lt_or_ge k 312 with hk | hk
  · exact hk
  · have := primesTo_len hk
    rw [primesL_eq, primesL_len] at this
    omega
theorem infoI' : (Tryd.prog.info? 3).map (fun i => (i.zero, i.size, i.bytes)) = some (some (.int .i64 0), 1, 8) := by kernel_rfl
set_option maxRecDepth 100000 in
set_option maxHeartbeats 2000000 in
theorem first_any (w : World) :
    Calls Tryd.prog 52 #[.int .i64 64] w fun e w' => (∃ v, e = .returned (.tuple #[v, .int .i64 0]) ∧ OwnQ .i64 3 w.heap.size w' v primesL) ∧ Below w.heap.size w w' := by
  obtain ⟨i0, hi, hz0, hz1, hz2⟩ := info_parts infoI'
  go_enter Tryd.func52, Tryd.ntmps52
  go_wp2
  go_loopw [4, 5] (fun lv kv wr => ∃ (k m c : Nat) (a : Option Addr), lv = .slice a m c ∧ kv = .int .i64 (k : Int) ∧ 2 ≤ k ∧ k ≤ 312 ∧ m ≤ 64 ∧ Hid (OwnQ .i64 3 w.heap.size wr (.slice a m c) (primesTo k) ∧ m = (primesTo k).length ∧ Below w.heap.size w wr)) (fun _ kv _ => 9000 - (intOf kv).toNat)
  case atStart => exact ⟨2, 0, 0, none, rfl, rfl, Nat.le_refl _, by decide, Nat.zero_le _, OwnQ.nil _ _ _ _, rfl, Below.refl _ _⟩
  case round =>
    obtain ⟨k, m, c, a, rfl, rfl, hk2, hk8, hmN, hI⟩ := hrel
    rcases Nat.lt_or_ge m 64 with hlt | hge
    · have hk := few_le (k := k) (by rw [← hI.out.2.1]; exact hlt)
      cases hp : isPrime k with
      | false =>
        have HP := Lib.hid hp
        have HE := Lib.hid (show primesTo (k + 1) = primesTo k by rw [primesTo_succ, if_neg (by rw [HP.out]; decide)])
        clear hp
        go_wp2_with fail
        refine (prime_any k wr hk2 (by omega) false HP.out.symm).mono ?_
        rintro e w1 ⟨rfl, rfl⟩
        go_wp2
        go_roundw
        case rel => exact ⟨k + 1, m, c, a, rfl, by go_num, by omega, by omega, hmN, by rw [HE.out]; exact hI.out.1, by rw [HE.out]; exact hI.out.2.1, hI.out.2.2⟩
        case measure => simp [intOf]; omega
      | true =>
        have HP := Lib.hid hp
        have HE := Lib.hid (show primesTo (k + 1) = primesTo k ++ [k] by rw [primesTo_succ, if_pos HP.out])
        clear hp
        go_wp2_with fail
        refine (prime_any k wr hk2 (by omega) true HP.out.symm).mono ?_
        rintro e w1 ⟨rfl, rfl⟩
        go_wp2_with (at_builtin; refine wpList_append_q .i64 _ rfl _ _ 94 rfl w.heap.size 3 8 i0 Tryd.underlying94 hi hz0 hz1 hz2 (by decide) _ (primesTo k) rfl (hI.out.1.alloc _) _ _ _ [k] rfl (Reads.one .i64 _ _ _ _ rfl) (by rw [← hI.out.2.1]; omega) (by have := hI.out.2.2.size; simp; omega) ?_; intro v' w2 hown2 hgrow; obtain ⟨a2, n2, c2, rfl, hn2, hown3⟩ := own_sl hown2; have HO2 := Lib.hid hown3; have HN2 := Lib.hid hn2; have HB2 := Lib.hid (hgrow w (hI.out.2.2.alloc hI.out.2.2.size _)); clear hown2 hown3 hgrow hn2)
        go_roundw
        case rel => exact ⟨k + 1, _, _, _, rfl, by go_num, by omega, by omega, by rw [HN2.out, List.length_append, ← hI.out.2.1]; exact hlt, by rw [HE.out]; exact HO2.out, by rw [HE.out]; exact HN2.out, HB2.out⟩
        case measure => simp [intOf]; omega
    · have HE := Lib.hid (show primesTo k = primesL by
        have h1 := primesTo_take hk8
        rw [primesL_eq, ← hI.out.2.1, List.take_of_length_le (by rw [primesL_len]; exact hge)] at h1
        exact h1.symm)
      have t2 : decide ((m : Int) < 64) = false := by simp; omega
      go_wp2
      go_ret2
      exact ⟨⟨_, rfl, HE.out ▸ hI.out.1⟩, hI.out.2.2⟩

end Go.Proofs.YtcdglhmapijebaaDoor

namespace Go.Proofs.YtcdglhmapijebaaDoor
open Go.RowKit Go.Shelf

theorem reads_other {q : IntKind} {w : World} {a : Option Addr} {n c : Nat} {l : List Nat} (h : Reads q w a n c l) (g i : Nat) (v : Value) (hg : ∀ ad, a = some ad → ad.block ≠ g) : Reads q (w.setCell ⟨g, i, none⟩ v) a n c l :=
  h.grownNe (grown_set (x := w) (y := w) (g := g) ⟨rfl, rfl, rfl, Nat.le_refl _, fun _ _ _ => rfl⟩ i v) (fun _ ad e => fun hh => hg ad e (Option.some.inj hh))
theorem reads_cellG {q : IntKind} {w : World} {g n c : Nat} {l : List Nat} (h : Reads q w (some ⟨g, 0, none⟩) n c l) (i : Nat) (hi : i < n) : w.cell? ⟨g, i, none⟩ = some (.int q ((g0 l i : Nat) : Int)) := by
  obtain ⟨b, off, e, -, hc⟩ := h.cells (by omega)
  cases e
  have := hc i hi
  rwa [Nat.zero_add] at this
/-- A table that is written from its beginning on. -/
def fillT (T : List Nat) (n i : Nat) : List Nat := T.take i ++ List.replicate (n - i) 0
theorem fillT_len {T : List Nat} {n i : Nat} (h : i ≤ n) (hT : n ≤ T.length) : (fillT T n i).length = n := by
  unfold fillT
  rw [List.length_append, List.length_take, List.length_replicate]
  omega
theorem fillT_set {T : List Nat} {n i : Nat} (h : i < n) (hT : n ≤ T.length) : (fillT T n i).set i (g0 T i) = fillT T n (i + 1) := by
  unfold fillT
  have hl : (T.take i).length = i := by rw [List.length_take]; omega
  rw [List.set_append_right _ _ (by omega), hl, Nat.sub_self, take_snocN T i (by omega), List.append_assoc, show n - i = (n - (i + 1)) + 1 by omega, List.replicate_succ]
  rfl
theorem fillT_all {T : List Nat} {n : Nat} (hT : T.length = n) : fillT T n n = T := by
  unfold fillT
  rw [List.take_of_length_le (by omega), Nat.sub_self, List.replicate_zero, List.append_nil]
/-- What the blocks hold while the tables are written. -/
structure OfP (w W : World) (gp cp gk gh : Nat) (K H : List Nat) : Prop where
  p : Reads .i64 W (some ⟨gp, 0, none⟩) 64 cp primesL
  k : Arr .u32 97 W gk K
  h : Arr .u32 98 W gh H
  below : Below w.heap.size w W
  ne : gp ≠ gk ∧ gp ≠ gh ∧ gk ≠ gh ∧ w.heap.size ≤ gk ∧ w.heap.size ≤ gh
theorem OfP.on {w W W' : World} {gp cp gk gh : Nat} {K H : List Nat} (h : OfP w W gp cp gk gh K H) (hb : Below W.heap.size W W') : OfP w W' gp cp gk gh K H :=
  ⟨h.p.below hb, h.k.below hb h.k.lt, h.h.below hb h.h.lt, h.below.trans (hb.mono h.below.size), h.ne⟩
theorem OfP.setk {w W : World} {gp cp gk gh : Nat} {K H : List Nat} (h : OfP w W gp cp gk gh K H) (i x : Nat) (y : Int) (hy : y = x) : OfP w (W.setCell ⟨gk, i, none⟩ (.int .u32 y)) gp cp gk gh (K.set i x) H :=
  ⟨reads_other h.p _ _ _ (fun ad e => by cases e; exact h.ne.1), h.k.stored i x y hy, h.h.other _ _ (fun e => h.ne.2.2.1 e.symm), h.below.setCell (p := ⟨gk, i, none⟩) h.ne.2.2.2.1 _, h.ne⟩
theorem OfP.seth {w W : World} {gp cp gk gh : Nat} {K H : List Nat} (h : OfP w W gp cp gk gh K H) (i x : Nat) (y : Int) (hy : y = x) : OfP w (W.setCell ⟨gh, i, none⟩ (.int .u32 y)) gp cp gk gh K (H.set i x) :=
  ⟨reads_other h.p _ _ _ (fun ad e => by cases e; exact h.ne.2.1), h.k.other _ _ h.ne.2.2.1, h.h.stored i x y hy, h.below.setCell (p := ⟨gh, i, none⟩) h.ne.2.2.2.2 _, h.ne⟩
theorem frac_k : fracsB 3 32 4294967296 primesL kL = true := by kernel_rfl
theorem frac_h1 : fracsB 2 32 4294967296 (primesL.take 8) (startL.take 8) = true := by kernel_rfl
theorem frac_h2 : fracsB 2 64 4294967296 ((primesL.drop 8).take 8) (startL.drop 8) = true := by kernel_rfl
theorem prime_lt : ∀ x ∈ primesL, x < 512 := by unfold primesL; decide
theorem k_at (i : Nat) (hi : i < 64) : ∃ v, fracV (g0 primesL i) 3 32 = some v ∧ v % 4294967296 = g0 kL i := fracs_at frac_k i hi
theorem h1_at (i : Nat) (hi : i < 8) : ∃ v, fracV (g0 primesL i) 2 32 = some v ∧ v % 4294967296 = g0 (startN 256) i := by
  obtain ⟨v, h1, h2⟩ := fracs_at frac_h1 i hi
  refine ⟨v, ?_, h2⟩
  have : g0 (primesL.take 8) i = g0 primesL i := by unfold g0; rw [List.getElem?_take_of_lt hi]
  rw [← this]
  exact h1
theorem h2_at (i : Nat) (hi : i < 8) : ∃ v, fracV (g0 primesL (i + 8)) 2 64 = some v ∧ v % 4294967296 = g0 (startN 224) i := by
  obtain ⟨v, h1, h2⟩ := fracs_at frac_h2 i hi
  refine ⟨v, ?_, h2⟩
  have : g0 ((primesL.drop 8).take 8) i = g0 primesL (i + 8) := by unfold g0; rw [List.getElem?_take_of_lt hi, List.getElem?_drop, Nat.add_comm]
  rw [← this]
  exact h1

/-- What the blocks hold while the message is gone through. -/
structure OfS (w W : World) (gk gh gm ml cm : Nat) (H M : List Nat) : Prop where
  k : Arr .u32 97 W gk kL
  h : Arr .u32 98 W gh H
  m : Reads .u8 W (some ⟨gm, 0, none⟩) ml cm M
  below : Below w.heap.size w W
  ne : gk ≠ gh ∧ gm ≠ gh ∧ w.heap.size ≤ gh
theorem OfS.lt {w W : World} {gk gh gm ml cm : Nat} {H M : List Nat} (h : OfS w W gk gh gm ml cm H M) (hl : 0 < ml) : gm < W.heap.size := by
  obtain ⟨b, off, e, hlt, -⟩ := h.m.cells hl
  cases e
  exact hlt
theorem OfS.on {w W W' : World} {gk gh gm ml cm : Nat} {H M : List Nat} (h : OfS w W gk gh gm ml cm H M) (hb : Below W.heap.size W W') : OfS w W' gk gh gm ml cm H M :=
  ⟨h.k.below hb h.k.lt, h.h.below hb h.h.lt, h.m.below hb, h.below.trans (hb.mono h.below.size), h.ne⟩
theorem OfS.drew {w W : World} {gk gh gm ml cm : Nat} {H M : List Nat} (h : OfS w W gk gh gm ml cm H M) : OfS w W.drew gk gh gm ml cm H M := h.on (Below.refl _ _).drew
theorem OfS.drewN {w W : World} {gk gh gm ml cm : Nat} {H M : List Nat} (h : OfS w W gk gh gm ml cm H M) (n : Nat) : OfS w (W.drewN n) gk gh gm ml cm H M := h.on (below_drewS (Below.refl _ _) n)
theorem OfS.seth {w W : World} {gk gh gm ml cm : Nat} {H M : List Nat} (h : OfS w W gk gh gm ml cm H M) (i x : Nat) (y : Int) (hy : y = x) : OfS w (W.setCell ⟨gh, i, none⟩ (.int .u32 y)) gk gh gm ml cm (H.set i x) M :=
  ⟨h.k.other _ _ h.ne.1, h.h.stored i x y hy, reads_other h.m _ _ _ (fun ad e => by cases e; exact h.ne.2.1), h.below.setCell (p := ⟨gh, i, none⟩) h.ne.2.2 _, h.ne⟩
/-- A block beside these. -/
structure Own4 (w : World) (gk gh gm g : Nat) : Prop where
  ne : gk ≠ g ∧ gh ≠ g ∧ gm ≠ g ∧ w.heap.size ≤ g
theorem OfS.set {w W : World} {gk gh gm ml cm : Nat} {H M : List Nat} (h : OfS w W gk gh gm ml cm H M) {g : Nat} (hg : Own4 w gk gh gm g) (i : Nat) (v : Value) : OfS w (W.setCell ⟨g, i, none⟩ v) gk gh gm ml cm H M :=
  ⟨h.k.other _ _ hg.ne.1, h.h.other _ _ hg.ne.2.1, reads_other h.m _ _ _ (fun ad e => by cases e; exact hg.ne.2.2.1), h.below.setCell (p := ⟨g, i, none⟩) hg.ne.2.2.2 _, h.ne⟩
theorem OfS.beside {w W : World} {gk gh gm ml cm : Nat} {H M : List Nat} (h : OfS w W gk gh gm ml cm H M) (hl : 0 < ml) : Own4 w gk gh gm W.heap.size :=
  ⟨Nat.ne_of_lt h.k.lt, Nat.ne_of_lt h.h.lt, Nat.ne_of_lt (h.lt hl), h.below.size⟩
theorem or_add (x y : Nat) (hy : y < 256) : (x * 256 % 4294967296 ||| y) = (256 * x + y) % 4294967296 := by
  have e : x * 256 % 4294967296 = 2 ^ 8 * (x % 16777216) := by omega
  rw [e, ← Nat.two_pow_add_eq_or_of_lt (i := 8) (by omega)]
  omega
theorem pack_step (bl : List Nat) (i n x y : Nat) (hn : n < 4) (hx : x = g0 (packN bl (4 * i + n)) i) (hy : y = g0 bl (4 * i + n)) (h8 : y < 256) : packN bl (4 * i + (n + 1)) = (packN bl (4 * i + n)).set i ((256 * x + y) % 4294967296) := by
  show packS bl (4 * i + n) (packN bl (4 * i + n)) = _
  unfold packS
  rw [show (4 * i + n) / 4 = i by omega, ← hx, ← hy, or_add x y h8]

theorem fold_ws (bt : Nat) (m R : List Nat) (q : Nat) (hq : 64 * q ≤ m.length) : ∀ j, foldW (wsK bt m q) R j = wsK bt (m.take (64 * q) ++ R) (q + j)
  | 0 => wsK_ext q (by rw [List.take_append_of_le_length (by rw [List.length_take]; omega), List.take_take, Nat.min_self])
  | j + 1 => by
    show turnN (foldW (wsK bt m q) R j) ((R.drop (64 * j)).take 64) = turnN (wsK bt (m.take (64 * q) ++ R) (q + j)) (((m.take (64 * q) ++ R).drop (64 * (q + j))).take 64)
    rw [fold_ws bt m R q hq j, Nat.mul_add, List.drop_append (l₁ := m.take (64 * q)), List.drop_of_length_le (l := m.take (64 * q)) (by rw [List.length_take]; omega), List.nil_append, List.length_take, Nat.min_eq_left hq, Nat.add_sub_cancel_left]
theorem lb_len (T : Nat) : lbN (8 * T) 8 = lenB T 8 := by
  rw [Nat.mul_comm 8 T]
  rfl
theorem fill_rest (m : List Nat) : fillN m = m.take (64 * (m.length / 64)) ++ restN m := by
  unfold fillN restN
  rw [lb_len, show (64 - (m.length + 1 + 8) % 64) % 64 = (119 - m.length % 64) % 64 by omega, ← List.append_assoc, ← List.append_assoc, ← List.append_assoc, List.take_append_drop]
theorem sum_fill (bt : Nat) (m : List Nat) (nb : Nat) (h : (fillN m).length = 64 * nb) : sumW bt m = wsK bt (fillN m) nb := by
  unfold sumW
  rw [fold_ws bt m (restN m) (m.length / 64) (by omega), ← fill_rest]
  congr 1
  have h2 := congrArg List.length (fill_rest m)
  rw [h, List.length_append, List.length_take, Nat.min_eq_left (by omega)] at h2
  omega
theorem hash_ref (bt : Nat) (hbt : bt = 256 ∨ bt = 224) (m : List Nat) (nb : Nat) (h : (fillN m).length = 64 * nb) : bytesW (wsK bt (fillN m) nb) (bt / 32) = hashN bt m := by
  unfold hashN
  rw [← sum_fill bt m nb h]
  rcases hbt with rfl | rfl
  · exact (List.take_of_length_le (by rw [bytesW_len]; decide)).symm
  · show bytesW (sumW 224 m) 7 = (bytesW (sumW 224 m) 8).take 28
    rw [bytesW_succ (sumW 224 m) 7, List.take_append_of_le_length (by rw [bytesW_len]; decide), List.take_of_length_le (by rw [bytesW_len]; decide)]

end Go.Proofs.YtcdglhmapijebaaDoor

namespace Go.Proofs.YtcdglhmapijebaaDoor
open Go.RowKit Go.Shelf

def zR : List Nat := List.replicate 64 0
def z8 : List Nat := List.replicate 8 0
theorem of_start (w W : World) (gp cp : Nat) (H : List Nat) (HP : Reads .i64 W (some ⟨gp, 0, none⟩) 64 cp primesL) (hB : Below w.heap.size w W) (hgp : gp < W.heap.size) :
    OfP w ((W.alloc (.cells (arrC .u32 zR) 97)).alloc (.cells (arrC .u32 z8) 98)) gp cp W.heap.size (W.heap.size + 1) (fillT kL 64 0) (fillT H 8 0) := by
  have h1 : Arr .u32 97 (W.alloc (.cells (arrC .u32 zR) 97)) W.heap.size zR := Go.heap_alloc_new W _
  have hb := ((Below.refl W.heap.size W).alloc (Nat.le_refl _) (.cells (arrC .u32 zR) 97))
  have s1 : (W.alloc (.cells (arrC .u32 zR) 97)).heap.size = W.heap.size + 1 := World.size_alloc _ _
  generalize W.alloc (.cells (arrC .u32 zR) 97) = w1 at *
  have hb2 := hb.alloc (by omega) (.cells (arrC .u32 z8) 98)
  have h2 : Arr .u32 98 (w1.alloc (.cells (arrC .u32 z8) 98)) (W.heap.size + 1) z8 := by rw [← s1]; exact Go.heap_alloc_new w1 _
  refine ⟨HP.below hb2, ?_, ?_, hB.trans (hb2.mono hB.size), by omega, by omega, by omega, hB.size, by have := hB.size; omega⟩
  · rw [show fillT kL 64 0 = zR from rfl]
    exact h1.alloc _
  · rw [show fillT H 8 0 = z8 by unfold fillT; rfl]
    exact h2

theorem wpList_load8 {ops : Array Oper} {rest : List Oper} {o : Oper} {a : Act} {w : World} {Q : Exit → Act → World → Prop} (hgd : o.guard = none) (x : Operand) (ho : o.op = .load 98 x)
    (g : Nat) (l : List Nat) (hx : a.eval x = .pointer (some ⟨g, 0, none⟩)) (hA : Arr .u32 98 w g l) (h8 : l.length = 8)
    (h : wpList Tryd.prog ops Q rest (a.put o.dst (.agg (arrC .u32 l))) w) : wpList Tryd.prog ops Q (o :: rest) a w :=
  wpList_load_row hgd _ x ho g hx _ (arrC .u32 l) _ _ hA Tryd.underlying98 rfl (by rw [arrC_size, h8]; kernel_rfl) h
theorem wpList_store8 {ops : Array Oper} {rest : List Oper} {o : Oper} {a : Act} {w : World} {Q : Exit → Act → World → Prop} (hgd : o.guard = none) (x y : Operand) (ho : o.op = .store 98 x y)
    (g : Nat) (l m : List Nat) (hx : a.eval x = .pointer (some ⟨g, 0, none⟩)) (hy : a.eval y = .agg (arrC .u32 m)) (hA : Arr .u32 98 w g l) (hl8 : l.length = 8) (h8 : m.length = 8)
    (h : wpList Tryd.prog ops Q rest (a.put o.dst undef) (w.setRow g (arrC .u32 m))) : wpList Tryd.prog ops Q (o :: rest) a w :=
  wpList_store_row hgd _ _ _ ho g (arrC .u32 m) hx hy 98 _ hA (by rw [arrC_size, h8]; kernel_rfl) (by rw [arrC_size, arrC_size, h8, hl8]) (arrC_one _ _) h
theorem step_append_q {P : Program} (q : IntKind) (w : World) {o : Oper} {a : Act} {K : Act → World → Prop} {Q : Exit → Act → World → Prop} (s x : Operand) (t : TypeId)
    (ho : o.op = .call { callee := .builtin .append, args := #[s, x], argTypes := #[t, t] })
    (B E by' : Nat) (i : TypeInfo) (ht : P.underlying t = some (.slice E)) (hi : P.info? E = some i) (hz : i.zero = some (.int q 0)) (hsize : i.size = 1) (hby : i.bytes = by') (hby8 : by' ≤ 8)
    (v : Value) (l : List Nat) (hs : a.eval s = v) (hown : OwnQ q E B w v l) (ad : Addr) (m c : Nat) (l2 : List Nat) (hx : a.eval x = .slice (some ad) m c) (hb : Reads q w (some ad) m c l2)
    (hsum : l.length + m ≤ 17592186044416) (hbase : B ≤ w.heap.size)
    (h : ∀ v' w', OwnQ q E B w' v' (l ++ l2) → (∀ w0, Below B w0 w → Below B w0 w') → K (a.put o.dst v') w') : o.wp P a w K Q := by
  have hlen := hb.length
  have hbb : (l.length + m) * by' ≤ 140737488355328 := Nat.le_trans (Nat.mul_le_mul hsum hby8) (by decide)
  refine wp_append_own w s x t ho B E i (.int q 0) 1 by' ht hi hz hsize hby rfl (by decide) v l.length (l.map (num q)) hs hown ad m c (l2.map (num q)) hx (by simpa using hlen) hb.news (nums_oneCell _ _) (by unfold maxLen; omega) hbb hbase ?_
  intro v' w' ho' hg _
  refine h v' w' ?_ (fun w0 h0 => h0.grown hg hbase (fun k hk => (hown.lt k hk).1))
  unfold OwnQ
  rw [List.map_append, List.length_append, hlen]
  exact ho'
theorem right_s (x n r : Nat) (k : Int) (hn : n ≤ 31) (hk : k = n) (hx : x < 4294967296) (hr : r = rotr x n) (w : World) :
    Calls Tryd.prog 55 #[.int .u32 (x : Int), .int .i64 k] w fun e w' => e = .returned (.int .u32 (r : Int)) ∧ w' = w :=
  (right_any x n x k w rfl hk hx hn).mono fun e w' ⟨h1, h2⟩ => ⟨by rw [h1, hr, halfs_rot x n hx hn]; rfl, h2.symm⟩
theorem down_s (x n r : Nat) (k : Int) (hn : n ≤ 31) (hk : k = n) (hx : x < 4294967296) (hr : r = x / 2 ^ n) (w : World) :
    Calls Tryd.prog 56 #[.int .u32 (x : Int), .int .i64 k] w fun e w' => e = .returned (.int .u32 (r : Int)) ∧ w' = w :=
  (down_any x n x k w rfl hk hx hn).mono fun e w' ⟨h1, h2⟩ => ⟨by rw [h1, hr], h2.symm⟩

end Go.Proofs.YtcdglhmapijebaaDoor
