/-
  THE LAW MontWheels, walked. (Written by wip/gen_monS.py.)
-/
import Derived.Test.YtebfoalcmnpghaaMonT
namespace Go.Proofs.Ytebfoalcmnpghaa
open Go.RowKit

theorem limbs_lt7 {l : List Nat} {k : Nat} (hL : Lim l) (h : l.length ≤ k) : val32 l < 2 ^ (32 * k) := by
  have h1 := valB_lt (b := 4294967296) (by decide) hL
  have h2 : 4294967296 ^ l.length ≤ 4294967296 ^ k := Nat.pow_le_pow_right (by decide) h
  rw [Nat.pow_mul]
  exact Nat.lt_of_lt_of_le h1 h2
theorem limbs_prod7 {l m : List Nat} {k e : Nat} (hL : Lim l) (hM : Lim m) (h : l.length ≤ k) (h' : m.length ≤ k) (he : e = 64 * k) : val32 l * val32 m < 2 ^ e := by
  rw [show e = 32 * k + 32 * k by omega, Nat.pow_add]
  exact Nat.mul_lt_mul'' (limbs_lt7 hL h) (limbs_lt7 hM h')

theorem OwnQ.touchV {q : IntKind} {E B g : Nat} {W W' : World} {v : Value} {l : List Nat} (ho : OwnQ q E B W v l) (ht : Touch g W W') (hn : v.ownBlock ≠ some g) : OwnQ q E B W' v l := by
  obtain ⟨h1, h2⟩ := ho
  refine ⟨h1, ?_⟩
  rcases h2 with h2 | ⟨h, cap, cur, hv, hB, hg, rest⟩
  · exact .inl h2
  · refine .inr ⟨h, cap, cur, hv, hB, ?_, rest⟩
    rw [ht.block h (Array.getElem?_eq_some_iff.1 hg).1 (by intro e; subst hv; exact hn (by rw [e]; rfl))]
    exact hg

/-- The base, with the turned block. -/
theorem below_putObj {w W W' : World} {g : Nat} {o : Obj} (hb : Below w.heap.size w W) (ht : Touch g W W') (ho : W'.heap[g]? = some o) (hg : g < w.heap.size) : Below (w.putObj g o).heap.size (w.putObj g o) W' := by
  have hs : (w.putObj g o).heap.size = w.heap.size := by simp
  rw [hs]
  refine ⟨ht.os.trans hb.os, ht.tape.trans hb.tape, ht.output.trans hb.output, by rw [hs]; exact Nat.le_trans hb.size ht.size, fun k hk => ?_⟩
  by_cases e : k = g
  · subst e
    rw [ho]
    exact (World.putObj_heap_same hg).symm
  · rw [World.putObj_heap_other e, ht.block k (Nat.lt_of_lt_of_le hk hb.size) e]
    exact hb.block k hk
theorem Reads.putObj {q : IntKind} {w : World} {g : Nat} {o : Obj} {a : Option Addr} {len cap : Nat} {l : List Nat} (h : Reads q w a len cap l) (hn : ∀ ad, a = some ad → 0 < len → ad.block ≠ g) : Reads q (w.putObj g o) a len cap l :=
  ⟨h.length, h.le, h.max, h.nil, fun hp => by
    obtain ⟨b, off, rfl, hb, hc⟩ := h.cells hp
    have hne := hn _ rfl hp
    refine ⟨b, off, rfl, by simpa using hb, fun i hi => ?_⟩
    exact (World.cell?_of_block (a := ⟨b, off + i, Option.none⟩) (World.putObj_heap_other hne)).trans (hc i hi)⟩
theorem below_put2 {B g : Nat} {w W : World} {o : Obj} (hb : Below B w W) (hB : B ≤ g) : Below B w (W.putObj g o) :=
  ⟨hb.os, hb.tape, hb.output, by rw [World.putObj_size]; exact hb.size, fun k hk => (World.putObj_heap_other (by omega)).trans (hb.block k hk)⟩
theorem reads_lt {q : IntKind} {w : World} {a : Option Addr} {len cap : Nat} {l : List Nat} (h : Reads q w a len cap l) {g : Nat} (hg : w.heap.size ≤ g) : ∀ ad, a = some ad → 0 < len → ad.block ≠ g := fun ad e hp => by
  obtain ⟨b, off, e2, hb, -⟩ := h.cells hp
  rw [e] at e2
  cases e2
  show b ≠ g
  omega
theorem own_put {g h : Nat} (hn : h ≠ g) (n : Nat) : ∀ ad, (some ⟨h, 0, none⟩ : Option Addr) = some ad → 0 < n → ad.block ≠ g := fun ad e _ => by cases e; exact hn
theorem Apart.four {v u x y : Value} (h1 : Off v u) (h2 : Off v x) (h3 : Off v y) (h4 : Off u x) (h5 : Off u y) (h6 : Off x y) : Apart [v, u, x, y] := fun i j a b g hne hi hj => by
  rcases i with _ | _ | _ | _ | i <;> rcases j with _ | _ | _ | _ | j <;> simp at hi hj hne
  all_goals
    subst hi hj
    intro ha hb
    first
      | exact h1 g ha hb | exact h2 g ha hb | exact h3 g ha hb | exact h4 g ha hb | exact h5 g ha hb | exact h6 g ha hb
      | exact h1 g hb ha | exact h2 g hb ha | exact h3 g hb ha | exact h4 g hb ha | exact h5 g hb ha | exact h6 g hb ha

set_option maxRecDepth 100000 in
set_option maxHeartbeats 4000000 in
theorem wheels_walk (a : Option Addr) (n c : Nat) (l : List Nat) (a' : Option Addr) (n' c' : Nat) (l' : List Nat) (a'' : Option Addr) (n'' c'' : Nat) (l'' : List Nat) (w : World) (hX : Reads .u32 w a n c l) (hXL : Lim l) (hY : Reads .u32 w a' n' c' l') (hYL : Lim l') (hM : Reads .u32 w a'' n'' c'' l'') (hML : Lim l'') :
    Calls Try.prog 3 #[.slice a n c, .slice a' n' c', .slice a'' n'' c''] w fun e w' => e = .returned (.bool true) ∧ Below w.heap.size w w' := by
  have HX := Lib.hid hX
  have HL := Lib.hid hXL
  have HN := Lib.hid hX.length
  have HY := Lib.hid hY
  have HL' := Lib.hid hYL
  have HN' := Lib.hid hY.length
  have HZ := Lib.hid hM
  have HL'' := Lib.hid hML
  have HN'' := Lib.hid hM.length
  have F := Lib.hid (Below.refl w.heap.size w)
  clear hX hXL hY hYL hM hML
  have IX := HX
  have IY := HY
  have IZ := HZ
  obtain ⟨E, hE⟩ : ∃ E : Nat, E = 1024 := ⟨_, rfl⟩
  by_cases hg : 270 < n ∨ 270 < n' ∨ 270 < n''
  · have hgr := Lib.hid (show true = decide (270 < n ∨ 270 < n' ∨ 270 < n'') by rw [decide_eq_true hg])
    clear hg
    go_enter Try.func3, Try.ntmps3
    go_wp2_with fail
    refine (great3 (natAt_of HX.out HL.out) (natAt_of HY.out HL'.out) (natAt_of HZ.out HL''.out) 270 270 rfl _ (by simp) _ true hgr.out).mono ?_
    rintro e wg ⟨rfl, rfl⟩
    have hb := (Below.refl w.heap.size w).alloc (Nat.le_refl _) (.cells #[.slice a n c, .slice a' n' c', .slice a'' n'' c''] 23)
    replace HX := Lib.hid (HX.out.below hb)
    replace HY := Lib.hid (HY.out.below hb)
    replace HZ := Lib.hid (HZ.out.below hb)
    replace F := Lib.hid (F.out.trans (hb.mono F.out.size))
    clear hb
    generalize w.alloc (.cells #[.slice a n c, .slice a' n' c', .slice a'' n'' c''] 23) = u1 at *
    go_wp2
    go_ret
    exact ⟨rfl, F.out⟩
  · have hgr := Lib.hid (show false = decide (270 < n ∨ 270 < n' ∨ 270 < n'') by rw [decide_eq_false hg])
    have hn : n ≤ 270 := by omega
    have hn' : n' ≤ 270 := by omega
    have hn'' : n'' ≤ 270 := by omega
    clear hg
    have HP : Hid (n'' ≤ 16 → val32 l'' * val32 l'' < 2 ^ E) := Lib.hid (fun h => limbs_prod7 HL''.out HL''.out (k := 16) (by have := HN''.out; omega) (by have := HN''.out; omega) (by omega))
    by_cases hs : 16 < n''
    · have hgs := Lib.hid (show true = decide (16 < n'') by rw [decide_eq_true hs])
      clear hs HP
      by_cases hm2 : Mod3 (val32 l'')
      · have hmo := Lib.hid (show true = decide (Mod3 (val32 l'')) by rw [decide_eq_true hm2])
        clear hm2
        go_enter Try.func3, Try.ntmps3
        go_wp2_with fail
        refine (great3 (natAt_of HX.out HL.out) (natAt_of HY.out HL'.out) (natAt_of HZ.out HL''.out) 270 270 rfl _ (by simp) _ false hgr.out).mono ?_
        rintro e wg ⟨rfl, rfl⟩
        have hb := (Below.refl w.heap.size w).alloc (Nat.le_refl _) (.cells #[.slice a n c, .slice a' n' c', .slice a'' n'' c''] 23)
        replace HX := Lib.hid (HX.out.below hb)
        replace HY := Lib.hid (HY.out.below hb)
        replace HZ := Lib.hid (HZ.out.below hb)
        replace F := Lib.hid (F.out.trans (hb.mono F.out.size))
        clear hb
        generalize w.alloc (.cells #[.slice a n c, .slice a' n' c', .slice a'' n'' c''] 23) = u1 at *
        go_wp2_with fail
        refine (great1 (natAt_of HZ.out HL''.out) 16 16 rfl _ (by simp) _ true hgs.out).mono ?_
        rintro e wg ⟨rfl, rfl⟩
        have hb := (Below.refl u1.heap.size u1).alloc (Nat.le_refl _) (.cells #[.slice a'' n'' c''] 23)
        replace HX := Lib.hid (HX.out.below hb)
        replace HY := Lib.hid (HY.out.below hb)
        replace HZ := Lib.hid (HZ.out.below hb)
        replace F := Lib.hid (F.out.trans (hb.mono F.out.size))
        clear hb
        generalize u1.alloc (.cells #[.slice a'' n'' c''] 23) = u2 at *
        go_wp2_with fail
        refine (rf.may7_s _ _ _ (NatS.lim HZ.out HL''.out (by omega)) true hmo.out).mono ?_
        rintro e w3 ⟨rfl, hb⟩
        replace HX := Lib.hid (HX.out.below hb)
        replace HY := Lib.hid (HY.out.below hb)
        replace HZ := Lib.hid (HZ.out.below hb)
        replace F := Lib.hid (F.out.trans (hb.mono F.out.size))
        clear hb
        go_wp2
        go_ret
        exact ⟨rfl, F.out⟩
      · have hmo := Lib.hid (show false = decide (Mod3 (val32 l'')) by rw [decide_eq_false hm2])
        have hm3 := Lib.hid hm2
        clear hm2
        go_enter Try.func3, Try.ntmps3
        go_wp2_with fail
        refine (great3 (natAt_of HX.out HL.out) (natAt_of HY.out HL'.out) (natAt_of HZ.out HL''.out) 270 270 rfl _ (by simp) _ false hgr.out).mono ?_
        rintro e wg ⟨rfl, rfl⟩
        have hb := (Below.refl w.heap.size w).alloc (Nat.le_refl _) (.cells #[.slice a n c, .slice a' n' c', .slice a'' n'' c''] 23)
        replace HX := Lib.hid (HX.out.below hb)
        replace HY := Lib.hid (HY.out.below hb)
        replace HZ := Lib.hid (HZ.out.below hb)
        replace F := Lib.hid (F.out.trans (hb.mono F.out.size))
        clear hb
        generalize w.alloc (.cells #[.slice a n c, .slice a' n' c', .slice a'' n'' c''] 23) = u1 at *
        go_wp2_with fail
        refine (great1 (natAt_of HZ.out HL''.out) 16 16 rfl _ (by simp) _ true hgs.out).mono ?_
        rintro e wg ⟨rfl, rfl⟩
        have hb := (Below.refl u1.heap.size u1).alloc (Nat.le_refl _) (.cells #[.slice a'' n'' c''] 23)
        replace HX := Lib.hid (HX.out.below hb)
        replace HY := Lib.hid (HY.out.below hb)
        replace HZ := Lib.hid (HZ.out.below hb)
        replace F := Lib.hid (F.out.trans (hb.mono F.out.size))
        clear hb
        generalize u1.alloc (.cells #[.slice a'' n'' c''] 23) = u2 at *
        go_wp2_with fail
        refine (rf.may7_s _ _ _ (NatS.lim HZ.out HL''.out (by omega)) false hmo.out).mono ?_
        rintro e w3 ⟨rfl, hb⟩
        replace HX := Lib.hid (HX.out.below hb)
        replace HY := Lib.hid (HY.out.below hb)
        replace HZ := Lib.hid (HZ.out.below hb)
        replace F := Lib.hid (F.out.trans (hb.mono F.out.size))
        clear hb
        go_wp2_with fail
        refine (twin_any a n c l _ HX.out (by omega)).mono ?_
        rintro e w4 ⟨⟨g0, b0, rfl, ho⟩, hb⟩
        replace HX := Lib.hid (HX.out.below hb)
        replace HY := Lib.hid (HY.out.below hb)
        replace HZ := Lib.hid (HZ.out.below hb)
        have TX := Lib.hid (ho.mono F.out.size)
        replace F := Lib.hid (F.out.trans (hb.mono F.out.size))
        clear hb
        go_wp2_with fail
        refine (twin_any a' n' c' l' _ HY.out (by omega)).mono ?_
        rintro e w5 ⟨⟨g1, b1, rfl, ho⟩, hb⟩
        replace HX := Lib.hid (HX.out.below hb)
        replace HY := Lib.hid (HY.out.below hb)
        replace HZ := Lib.hid (HZ.out.below hb)
        replace TX := Lib.hid (TX.out.below hb)
        have TY := Lib.hid (ho.mono F.out.size)
        replace F := Lib.hid (F.out.trans (hb.mono F.out.size))
        clear hb
        go_wp2_with fail
        refine (twin_any a'' n'' c'' l'' _ HZ.out (by omega)).mono ?_
        rintro e w6 ⟨⟨g2, b2, rfl, ho⟩, hb⟩
        have hgA := Lib.hid (show g0 ≠ g2 from by have h1 := (World.ownsRow.lt TX.out g0 rfl).2; have h2 := (World.ownsRow.lt ho g2 rfl).1; omega)
        have hgB := Lib.hid (show g1 ≠ g2 from by have h1 := (World.ownsRow.lt TY.out g1 rfl).2; have h2 := (World.ownsRow.lt ho g2 rfl).1; omega)
        have hgW := Lib.hid (show w.heap.size ≤ g2 from by have h2 := (World.ownsRow.lt ho g2 rfl).1; have := F.out.size; omega)
        replace HX := Lib.hid (HX.out.below hb)
        replace HY := Lib.hid (HY.out.below hb)
        replace HZ := Lib.hid (HZ.out.below hb)
        replace TX := Lib.hid (TX.out.below hb)
        replace TY := Lib.hid (TY.out.below hb)
        have TM := Lib.hid (ho.mono F.out.size)
        replace F := Lib.hid (F.out.trans (hb.mono F.out.size))
        clear hb
        have PX := Lib.hid (twin_read TX.out HN.out)
        have NX := Lib.hid (NatS.lim HX.out HL.out (by omega))
        have AX := Lib.hid (natAt_of PX.out HL.out)
        have PY := Lib.hid (twin_read TY.out HN'.out)
        have NY := Lib.hid (NatS.lim HY.out HL'.out (by omega))
        have AY := Lib.hid (natAt_of PY.out HL'.out)
        have PM := Lib.hid (twin_read TM.out HN''.out)
        have NM := Lib.hid (NatS.lim HZ.out HL''.out (by omega))
        have AM := Lib.hid (natAt_of PM.out HL''.out)
        clear PX PY PM
        replace TM := Lib.hid TM.out.reads
        have F2 := Lib.hid (Below.refl w6.heap.size w6)
        go_wp2_with fail
        refine (new_no _ _ _ AM.out hm3.out).mono ?_
        rintro e w7 ⟨rfl, hb⟩
        replace NM := Lib.hid (NM.out.below hb)
        replace AM := Lib.hid (AM.out.below hb)
        replace F2 := Lib.hid (F2.out.trans (hb.mono F2.out.size))
        clear hb
        go_wp2_with fail
        refine (rf.may7_s _ _ _ NM.out false hmo.out).mono ?_
        rintro e w8 ⟨rfl, hb⟩
        replace NM := Lib.hid (NM.out.below hb)
        replace AM := Lib.hid (AM.out.below hb)
        replace F2 := Lib.hid (F2.out.trans (hb.mono F2.out.size))
        clear hb
        go_wp2_with fail
        refine (kept_any w6 w8 w6.heap.size 0 0 0 [] g2 n'' b2 a'' c'' l'' TM.out HZ.out F2.out (Nat.le_refl _) rfl (by decide) (fun h => absurd h (by decide)) Apart.none _ (.inr ⟨rfl, rfl⟩)).mono ?_
        rintro e wk ⟨rfl, hb⟩
        go_wp2
        go_ret
        exact ⟨rfl, F.out.trans (hb.mono F.out.size)⟩
    · have hgs := Lib.hid (show false = decide (16 < n'') by rw [decide_eq_false hs])
      have HQ := Lib.hid (HP.out (by omega))
      clear hs HP
      by_cases hm2 : Mod3 (val32 l'')
      · have hmo := Lib.hid (show true = decide (Mod3 (val32 l'')) by rw [decide_eq_true hm2])
        have hm3 := Lib.hid hm2
        clear hm2
        go_enter Try.func3, Try.ntmps3
        go_wp2_with fail
        refine (great3 (natAt_of HX.out HL.out) (natAt_of HY.out HL'.out) (natAt_of HZ.out HL''.out) 270 270 rfl _ (by simp) _ false hgr.out).mono ?_
        rintro e wg ⟨rfl, rfl⟩
        have hb := (Below.refl w.heap.size w).alloc (Nat.le_refl _) (.cells #[.slice a n c, .slice a' n' c', .slice a'' n'' c''] 23)
        replace HX := Lib.hid (HX.out.below hb)
        replace HY := Lib.hid (HY.out.below hb)
        replace HZ := Lib.hid (HZ.out.below hb)
        replace F := Lib.hid (F.out.trans (hb.mono F.out.size))
        clear hb
        generalize w.alloc (.cells #[.slice a n c, .slice a' n' c', .slice a'' n'' c''] 23) = u1 at *
        go_wp2_with fail
        refine (great1 (natAt_of HZ.out HL''.out) 16 16 rfl _ (by simp) _ false hgs.out).mono ?_
        rintro e wg ⟨rfl, rfl⟩
        have hb := (Below.refl u1.heap.size u1).alloc (Nat.le_refl _) (.cells #[.slice a'' n'' c''] 23)
        replace HX := Lib.hid (HX.out.below hb)
        replace HY := Lib.hid (HY.out.below hb)
        replace HZ := Lib.hid (HZ.out.below hb)
        replace F := Lib.hid (F.out.trans (hb.mono F.out.size))
        clear hb
        generalize u1.alloc (.cells #[.slice a'' n'' c''] 23) = u2 at *
        go_wp2_with fail
        refine (twin_any a n c l _ HX.out (by omega)).mono ?_
        rintro e w3 ⟨⟨g0, b0, rfl, ho⟩, hb⟩
        replace HX := Lib.hid (HX.out.below hb)
        replace HY := Lib.hid (HY.out.below hb)
        replace HZ := Lib.hid (HZ.out.below hb)
        have TX := Lib.hid (ho.mono F.out.size)
        replace F := Lib.hid (F.out.trans (hb.mono F.out.size))
        clear hb
        go_wp2_with fail
        refine (twin_any a' n' c' l' _ HY.out (by omega)).mono ?_
        rintro e w4 ⟨⟨g1, b1, rfl, ho⟩, hb⟩
        replace HX := Lib.hid (HX.out.below hb)
        replace HY := Lib.hid (HY.out.below hb)
        replace HZ := Lib.hid (HZ.out.below hb)
        replace TX := Lib.hid (TX.out.below hb)
        have TY := Lib.hid (ho.mono F.out.size)
        replace F := Lib.hid (F.out.trans (hb.mono F.out.size))
        clear hb
        go_wp2_with fail
        refine (twin_any a'' n'' c'' l'' _ HZ.out (by omega)).mono ?_
        rintro e w5 ⟨⟨g2, b2, rfl, ho⟩, hb⟩
        have hgA := Lib.hid (show g0 ≠ g2 from by have h1 := (World.ownsRow.lt TX.out g0 rfl).2; have h2 := (World.ownsRow.lt ho g2 rfl).1; omega)
        have hgB := Lib.hid (show g1 ≠ g2 from by have h1 := (World.ownsRow.lt TY.out g1 rfl).2; have h2 := (World.ownsRow.lt ho g2 rfl).1; omega)
        have hgW := Lib.hid (show w.heap.size ≤ g2 from by have h2 := (World.ownsRow.lt ho g2 rfl).1; have := F.out.size; omega)
        replace HX := Lib.hid (HX.out.below hb)
        replace HY := Lib.hid (HY.out.below hb)
        replace HZ := Lib.hid (HZ.out.below hb)
        replace TX := Lib.hid (TX.out.below hb)
        replace TY := Lib.hid (TY.out.below hb)
        have TM := Lib.hid (ho.mono F.out.size)
        replace F := Lib.hid (F.out.trans (hb.mono F.out.size))
        clear hb
        have PX := Lib.hid (twin_read TX.out HN.out)
        have NX := Lib.hid (NatS.lim HX.out HL.out (by omega))
        have AX := Lib.hid (natAt_of PX.out HL.out)
        have PY := Lib.hid (twin_read TY.out HN'.out)
        have NY := Lib.hid (NatS.lim HY.out HL'.out (by omega))
        have AY := Lib.hid (natAt_of PY.out HL'.out)
        have PM := Lib.hid (twin_read TM.out HN''.out)
        have NM := Lib.hid (NatS.lim HZ.out HL''.out (by omega))
        have AM := Lib.hid (natAt_of PM.out HL''.out)
        clear PX PY PM
        have hgN := Lib.hid (show g2 < w5.heap.size from (World.ownsRow.lt TM.out g2 rfl).2)
        go_wp2_with fail
        refine (new_ok _ _ _ AM.out hm3.out.1 hm3.out.2.1 hm3.out.2.2).mono ?_
        rintro e w6 ⟨⟨pw, rfl, hp⟩, hb⟩
        have WF := Lib.hid hp
        replace HX := Lib.hid (HX.out.below hb)
        replace HY := Lib.hid (HY.out.below hb)
        replace HZ := Lib.hid (HZ.out.below hb)
        replace TX := Lib.hid (TX.out.below hb)
        replace TY := Lib.hid (TY.out.below hb)
        replace TM := Lib.hid (TM.out.below hb)
        replace NX := Lib.hid (NX.out.below hb)
        replace NY := Lib.hid (NY.out.below hb)
        replace NM := Lib.hid (NM.out.below hb)
        replace AX := Lib.hid (AX.out.below hb)
        replace AY := Lib.hid (AY.out.below hb)
        replace AM := Lib.hid (AM.out.below hb)
        replace F := Lib.hid (F.out.trans (hb.mono F.out.size))
        clear hb
        have P := Lib.hid WF.out.whl
        have F2 := Lib.hid (Below.refl w6.heap.size w6)
        have VX := Lib.hid TX.out.reads
        have VY := Lib.hid TY.out.reads
        have VM := Lib.hid TM.out.reads
        have BHX := Lib.hid HX.out
        have BHY := Lib.hid HY.out
        have BHZ := Lib.hid HZ.out
        have hg2 := Lib.hid (show g2 < w6.heap.size from (World.ownsRow.lt TM.out g2 rfl).2)
        generalize hnn : (nat32 (val32 l'')).length = nn at *
        have SP := Lib.hid (fun (w : World) (p x y : Value) (o : Whl w p nn (val32 l'')) (h : NatAt w x (val32 l)) (j : NatAt w y (val32 l')) => Product_any p x y nn _ _ _ w o h j)
        have TP := Lib.hid (fun (w : World) (x y m : Value) (h : NatS w x (val32 l)) (j : NatS w y (val32 l')) (i : NatS w m (val32 l'')) => rf.Product_s x y m _ _ _ E w h j i hm3.out (by omega) HQ.out)
        have SI := Lib.hid (fun (w : World) (p x : Value) (o : Whl w p nn (val32 l'')) (h : NatAt w x (val32 l)) => In_any p x nn _ _ w o h)
        have TI := Lib.hid (fun (w : World) (x m : Value) (h : NatS w x (val32 l)) (i : NatS w m (val32 l'')) => rf.In_s x m _ _ w h i hm3.out)
        have SO := Lib.hid (fun (w : World) (p x : Value) (o : Whl w p nn (val32 l'')) (h : NatAt w x (val32 l)) => Out_any p x nn _ _ w o h)
        have TO := Lib.hid (fun (w : World) (x m : Value) (h : NatS w x (val32 l)) (i : NatS w m (val32 l'')) => rf.Out_s x m _ _ E w h i hm3.out (by omega) HQ.out)
        rw [hnn] at TP TI TO
        generalize productR nn (val32 l'') (val32 l) (val32 l') = R1 at SP TP
        generalize inR nn (val32 l'') (val32 l) = R2 at SI TI
        generalize outR nn (val32 l'') (val32 l) = R3 at SO TO
        obtain ⟨O1, e1⟩ := R1
        obtain ⟨O2, e2⟩ := R2
        obtain ⟨O3, e3⟩ := R3
        clear hnn
        go_wp2_with fail
        refine (rf.may7_s _ _ _ NM.out true hmo.out).mono ?_
        rintro e w7 ⟨rfl, hb⟩
        replace NX := Lib.hid (NX.out.below hb)
        replace NY := Lib.hid (NY.out.below hb)
        replace NM := Lib.hid (NM.out.below hb)
        replace AX := Lib.hid (AX.out.below hb)
        replace AY := Lib.hid (AY.out.below hb)
        replace AM := Lib.hid (AM.out.below hb)
        replace P := Lib.hid (P.out.below hb)
        replace TM := Lib.hid (TM.out.below hb)
        replace F2 := Lib.hid (F2.out.trans (hb.mono F2.out.size))
        clear hb
        go_wp2_with fail
        refine (SP.out _ _ _ _ P.out AX.out AY.out).mono ?_
        rintro e w8 ⟨⟨v1, rfl, ho⟩, hb⟩
        replace NX := Lib.hid (NX.out.below hb)
        replace NY := Lib.hid (NY.out.below hb)
        replace NM := Lib.hid (NM.out.below hb)
        replace AX := Lib.hid (AX.out.below hb)
        replace AY := Lib.hid (AY.out.below hb)
        replace AM := Lib.hid (AM.out.below hb)
        replace P := Lib.hid (P.out.below hb)
        replace TM := Lib.hid (TM.out.below hb)
        have A := Lib.hid (ho.mono F2.out.size)
        replace F2 := Lib.hid (F2.out.trans (hb.mono F2.out.size))
        clear hb
        go_wp2_with fail
        refine (TP.out _ _ _ _ NX.out NY.out NM.out).mono ?_
        rintro e w9 ⟨⟨v2, rfl, ho⟩, hb⟩
        replace NX := Lib.hid (NX.out.below hb)
        replace NY := Lib.hid (NY.out.below hb)
        replace NM := Lib.hid (NM.out.below hb)
        replace AX := Lib.hid (AX.out.below hb)
        replace AY := Lib.hid (AY.out.below hb)
        replace AM := Lib.hid (AM.out.below hb)
        replace P := Lib.hid (P.out.below hb)
        replace TM := Lib.hid (TM.out.below hb)
        replace A := Lib.hid (A.out.below hb)
        have B := Lib.hid (ho.mono F2.out.size)
        replace F2 := Lib.hid (F2.out.trans (hb.mono F2.out.size))
        clear hb
        go_wp2_with fail
        refine (SI.out _ _ _ P.out AX.out).mono ?_
        rintro e w10 ⟨⟨v3, rfl, ho⟩, hb⟩
        have OAC := Lib.hid (apart_of A.out ho (Nat.le_refl _))
        replace NX := Lib.hid (NX.out.below hb)
        replace NY := Lib.hid (NY.out.below hb)
        replace NM := Lib.hid (NM.out.below hb)
        replace AX := Lib.hid (AX.out.below hb)
        replace AY := Lib.hid (AY.out.below hb)
        replace AM := Lib.hid (AM.out.below hb)
        replace P := Lib.hid (P.out.below hb)
        replace TM := Lib.hid (TM.out.below hb)
        replace A := Lib.hid (A.out.below hb)
        replace B := Lib.hid (B.out.below hb)
        have C := Lib.hid (ho.mono F2.out.size)
        replace F2 := Lib.hid (F2.out.trans (hb.mono F2.out.size))
        clear hb
        go_wp2_with fail
        refine (TI.out _ _ _ NX.out NM.out).mono ?_
        rintro e w11 ⟨⟨v4, rfl, ho⟩, hb⟩
        replace NX := Lib.hid (NX.out.below hb)
        replace NY := Lib.hid (NY.out.below hb)
        replace NM := Lib.hid (NM.out.below hb)
        replace AX := Lib.hid (AX.out.below hb)
        replace AY := Lib.hid (AY.out.below hb)
        replace AM := Lib.hid (AM.out.below hb)
        replace P := Lib.hid (P.out.below hb)
        replace TM := Lib.hid (TM.out.below hb)
        replace A := Lib.hid (A.out.below hb)
        replace B := Lib.hid (B.out.below hb)
        replace C := Lib.hid (C.out.below hb)
        have D := Lib.hid (ho.mono F2.out.size)
        replace F2 := Lib.hid (F2.out.trans (hb.mono F2.out.size))
        clear hb
        go_wp2_with fail
        refine (SO.out _ _ _ P.out AX.out).mono ?_
        rintro e w12 ⟨⟨v5, rfl, ho⟩, hb⟩
        have OAGG := Lib.hid (apart_of A.out ho (Nat.le_refl _))
        have OCGG := Lib.hid (apart_of C.out ho (Nat.le_refl _))
        replace NX := Lib.hid (NX.out.below hb)
        replace NY := Lib.hid (NY.out.below hb)
        replace NM := Lib.hid (NM.out.below hb)
        replace AX := Lib.hid (AX.out.below hb)
        replace AY := Lib.hid (AY.out.below hb)
        replace AM := Lib.hid (AM.out.below hb)
        replace P := Lib.hid (P.out.below hb)
        replace TM := Lib.hid (TM.out.below hb)
        replace A := Lib.hid (A.out.below hb)
        replace B := Lib.hid (B.out.below hb)
        replace C := Lib.hid (C.out.below hb)
        replace D := Lib.hid (D.out.below hb)
        have GG := Lib.hid (ho.mono F2.out.size)
        replace F2 := Lib.hid (F2.out.trans (hb.mono F2.out.size))
        clear hb
        go_wp2_with fail
        refine (TO.out _ _ _ NX.out NM.out).mono ?_
        rintro e w13 ⟨⟨v6, rfl, ho⟩, hb⟩
        replace NX := Lib.hid (NX.out.below hb)
        replace NY := Lib.hid (NY.out.below hb)
        replace NM := Lib.hid (NM.out.below hb)
        replace AX := Lib.hid (AX.out.below hb)
        replace AY := Lib.hid (AY.out.below hb)
        replace AM := Lib.hid (AM.out.below hb)
        replace P := Lib.hid (P.out.below hb)
        replace TM := Lib.hid (TM.out.below hb)
        replace A := Lib.hid (A.out.below hb)
        replace B := Lib.hid (B.out.below hb)
        replace C := Lib.hid (C.out.below hb)
        replace D := Lib.hid (D.out.below hb)
        replace GG := Lib.hid (GG.out.below hb)
        have HH := Lib.hid (ho.mono F2.out.size)
        replace F2 := Lib.hid (F2.out.trans (hb.mono F2.out.size))
        clear hb
        go_wp2_with fail
        refine (Modulus_any _ nn _ _ P.out).mono ?_
        rintro e w14 ⟨⟨v7, rfl, ho⟩, hb⟩
        have OAKK := Lib.hid (apart_of A.out ho (Nat.le_refl _))
        have OCKK := Lib.hid (apart_of C.out ho (Nat.le_refl _))
        have OGGKK := Lib.hid (apart_of GG.out ho (Nat.le_refl _))
        replace NX := Lib.hid (NX.out.below hb)
        replace NY := Lib.hid (NY.out.below hb)
        replace NM := Lib.hid (NM.out.below hb)
        replace AX := Lib.hid (AX.out.below hb)
        replace AY := Lib.hid (AY.out.below hb)
        replace AM := Lib.hid (AM.out.below hb)
        replace P := Lib.hid (P.out.below hb)
        replace TM := Lib.hid (TM.out.below hb)
        replace A := Lib.hid (A.out.below hb)
        replace B := Lib.hid (B.out.below hb)
        replace C := Lib.hid (C.out.below hb)
        replace D := Lib.hid (D.out.below hb)
        replace GG := Lib.hid (GG.out.below hb)
        replace HH := Lib.hid (HH.out.below hb)
        have KK := Lib.hid (ho.mono F2.out.size)
        replace F2 := Lib.hid (F2.out.trans (hb.mono F2.out.size))
        clear hb
        obtain ⟨x1, m1, d1, rfl, -, o⟩ := A.out.slice
        replace A := Lib.hid o
        clear o
        obtain ⟨x2, m2, d2, rfl, -, o⟩ := B.out.slice
        replace B := Lib.hid o
        clear o
        obtain ⟨x3, m3, d3, rfl, -, o⟩ := C.out.slice
        replace C := Lib.hid o
        clear o
        obtain ⟨x4, m4, d4, rfl, -, o⟩ := D.out.slice
        replace D := Lib.hid o
        clear o
        obtain ⟨x5, m5, d5, rfl, -, o⟩ := GG.out.slice
        replace GG := Lib.hid o
        clear o
        obtain ⟨x6, m6, d6, rfl, -, o⟩ := HH.out.slice
        replace HH := Lib.hid o
        clear o
        obtain ⟨x7, m7, d7, rfl, -, o⟩ := KK.out.slice
        replace KK := Lib.hid o
        clear o
        clear SP TP SI TI SO TO NX NY AX AY AM P
        go_wp2_with fail
        refine (same_any _ _ _ _ _ _ O1 O1 _ A.out.reads B.out.reads true (by simp)).mono ?_
        rintro e w15 ⟨rfl, hb⟩
        replace NM := Lib.hid (NM.out.below hb)
        replace TM := Lib.hid (TM.out.below hb)
        replace A := Lib.hid (A.out.below hb)
        replace B := Lib.hid (B.out.below hb)
        replace C := Lib.hid (C.out.below hb)
        replace D := Lib.hid (D.out.below hb)
        replace GG := Lib.hid (GG.out.below hb)
        replace HH := Lib.hid (HH.out.below hb)
        replace KK := Lib.hid (KK.out.below hb)
        replace F2 := Lib.hid (F2.out.trans (hb.mono F2.out.size))
        clear hb
        go_wp2_with fail
        refine (same_any _ _ _ _ _ _ O2 O2 _ C.out.reads D.out.reads true (by simp)).mono ?_
        rintro e w16 ⟨rfl, hb⟩
        replace NM := Lib.hid (NM.out.below hb)
        replace TM := Lib.hid (TM.out.below hb)
        replace A := Lib.hid (A.out.below hb)
        replace B := Lib.hid (B.out.below hb)
        replace C := Lib.hid (C.out.below hb)
        replace D := Lib.hid (D.out.below hb)
        replace GG := Lib.hid (GG.out.below hb)
        replace HH := Lib.hid (HH.out.below hb)
        replace KK := Lib.hid (KK.out.below hb)
        replace F2 := Lib.hid (F2.out.trans (hb.mono F2.out.size))
        clear hb
        go_wp2_with fail
        refine (same_any _ _ _ _ _ _ O3 O3 _ GG.out.reads HH.out.reads true (by simp)).mono ?_
        rintro e w17 ⟨rfl, hb⟩
        replace NM := Lib.hid (NM.out.below hb)
        replace TM := Lib.hid (TM.out.below hb)
        replace A := Lib.hid (A.out.below hb)
        replace B := Lib.hid (B.out.below hb)
        replace C := Lib.hid (C.out.below hb)
        replace D := Lib.hid (D.out.below hb)
        replace GG := Lib.hid (GG.out.below hb)
        replace HH := Lib.hid (HH.out.below hb)
        replace KK := Lib.hid (KK.out.below hb)
        replace F2 := Lib.hid (F2.out.trans (hb.mono F2.out.size))
        clear hb
        go_wp2_with fail
        refine (rf.cmp_s (NatS.of KK.out (Nat.lt_of_lt_of_le hm3.out.1 topM_le)) NM.out 0 (rf.ordR_eq rfl).symm).mono ?_
        rintro e w18 ⟨rfl, hb⟩
        replace NM := Lib.hid (NM.out.below hb)
        replace TM := Lib.hid (TM.out.below hb)
        replace A := Lib.hid (A.out.below hb)
        replace B := Lib.hid (B.out.below hb)
        replace C := Lib.hid (C.out.below hb)
        replace D := Lib.hid (D.out.below hb)
        replace GG := Lib.hid (GG.out.below hb)
        replace HH := Lib.hid (HH.out.below hb)
        replace KK := Lib.hid (KK.out.below hb)
        replace F2 := Lib.hid (F2.out.trans (hb.mono F2.out.size))
        clear hb
        clear B D HH
        have KVM := Lib.hid (VM.out.below F2.out)
        have KHZ := Lib.hid (BHZ.out.below F2.out)
        go_wp2_with fail
        refine (kept_any w18 _ w18.heap.size 0 0 0 [] g2 n'' b2 a'' c'' l'' KVM.out KHZ.out (Below.refl _ _) (Nat.le_refl _) rfl (by decide) (fun h => absurd h (by decide)) Apart.none _ (.inr ⟨rfl, rfl⟩)).mono ?_
        rintro e w19 ⟨rfl, hb⟩
        replace NM := Lib.hid (NM.out.below hb)
        replace TM := Lib.hid (TM.out.below hb)
        replace A := Lib.hid (A.out.below hb)
        replace C := Lib.hid (C.out.below hb)
        replace GG := Lib.hid (GG.out.below hb)
        replace KK := Lib.hid (KK.out.below hb)
        replace F2 := Lib.hid (F2.out.trans (hb.mono F2.out.size))
        clear hb
        clear KVM KHZ
        obtain ⟨b9, hb9⟩ : ∃ b9, b9 = n'' + 1 := ⟨_, rfl⟩
        have hb9n : n'' < b9 := by omega
        have HB9 := Lib.hid (show (l'' ++ [7]).length = b9 by rw [List.length_append, HN''.out, hb9]; rfl)
        rw [← hb9] at TM
        have HTM := Lib.hid TM.out
        clear hb9
        have hb2m := TM.out.cap.2
        unfold maxLen at hb2m
        go_wp2
        go_loopw [152] (fun iv wr => ∃ (i : Nat) (L : List Nat), iv = .int .i64 (i : Int) ∧ i ≤ n'' ∧ L.length = b9 ∧ OwnQ .u32 41 w.heap.size wr (.slice (some ⟨g2, 0, none⟩) b9 b2) L ∧ Hid (Touch g2 w19 wr)) (fun iv _ => n'' - (intOf iv).toNat)
        case atStart => exact ⟨0, _, rfl, Nat.zero_le _, HB9.out, TM.out, Touch.refl _ _⟩
        case round =>
          obtain ⟨i, L, rfl, hi, hLl, hown, htch⟩ := hrel
          have HLL := Lib.hid hLl
          clear hLl
          obtain ⟨wo, rfl⟩ : ∃ wo : World, wo = wr := ⟨_, rfl⟩
          by_cases hlt : i < n''
          · have hcell := hown.cellAt HLL.out.symm i (by omega)
            have hfr := hown.frozenAt HLL.out.symm i
            have HO1 := Lib.hid hown
            clear hown
            generalize L[i]?.getD 0 = x at *
            go_wp2
            go_roundw
            case rel =>
              have s1 := HO1.out.stored HLL.out.symm i ((x + 1) % 4294967296) (((x : Int) + 1) % 4294967296) (by omega)
              exact ⟨i + 1, L.set i ((x + 1) % 4294967296), by go_num, by omega, by simp [HLL.out], s1.1, htch.out.setCell _ _⟩
            case measure => simp [intOf] <;> omega
          · obtain rfl : i = n'' := by omega
            obtain ⟨o, ho⟩ : ∃ o, wo.heap[g2]? = some o := by
              rcases hown.2 with ⟨h, -⟩ | ⟨h, _, _, he, _, hg, _⟩
              · cases h
              · cases he; exact ⟨_, hg⟩
            have HTC := Lib.hid htch.out
            have FB := Lib.hid (below_putObj F2.out HTC.out ho hg2.out)
            have FW := Lib.hid (below_put2 (o := o) F.out hgW.out)
            have QX := Lib.hid (VX.out.putObj (o := o) (own_put hgA.out _))
            have QY := Lib.hid (VY.out.putObj (o := o) (own_put hgB.out _))
            have QHX := Lib.hid (BHX.out.putObj (o := o) (reads_lt IX.out hgW.out))
            have QHY := Lib.hid (BHY.out.putObj (o := o) (reads_lt IY.out hgW.out))
            have QHZ := Lib.hid (BHZ.out.putObj (o := o) (reads_lt IZ.out hgW.out))
            have hws : (w6.putObj g2 o).heap.size = w6.heap.size := by simp
            have HWS := Lib.hid hws
            have HWE := Lib.hid (fun i (hi : i ≠ g2) => (World.putObj_heap_other (w := w6) (o := o) hi))
            generalize w6.putObj g2 o = ws at *
            replace A := Lib.hid (A.out.touchV HTC.out (fun e => by have h1 := (World.ownsRow.lt A.out g2 e).1; have h2 := hg2.out; omega))
            replace C := Lib.hid (C.out.touchV HTC.out (fun e => by have h1 := (World.ownsRow.lt C.out g2 e).1; have h2 := hg2.out; omega))
            replace GG := Lib.hid (GG.out.touchV HTC.out (fun e => by have h1 := (World.ownsRow.lt GG.out g2 e).1; have h2 := hg2.out; omega))
            replace KK := Lib.hid (KK.out.touchV HTC.out (fun e => by have h1 := (World.ownsRow.lt KK.out g2 e).1; have h2 := hg2.out; omega))
            clear ho hown htch TM NM HTM
            go_wp2_with fail
            refine (kept_any ws _ w6.heap.size wo.heap.size 4 23 [.slice x1 m1 d1, .slice x3 m3 d3, .slice x5 m5 d5, .slice x7 m7 d7] g0 n b0 a c l QX.out QHX.out (FB.out.alloc FB.out.size _) (Nat.le_of_eq HWS.out) rfl (by decide) (fun _ => KeptI.start (fun v hv => by
                rcases List.mem_cons.1 hv with rfl | hv
                · exact ⟨_, A.out⟩
                · rcases List.mem_cons.1 hv with rfl | hv
                  · exact ⟨_, C.out⟩
                  · rcases List.mem_cons.1 hv with rfl | hv
                    · exact ⟨_, GG.out⟩
                    · obtain rfl := List.mem_singleton.1 hv
                      exact ⟨_, KK.out⟩)) (Apart.four OAC.out OAGG.out OAKK.out OCGG.out OCKK.out OGGKK.out) _ (.inl ⟨by decide, rfl⟩)).mono ?_
            rintro e wa ⟨rfl, hb⟩
            have FA := Lib.hid hb
            clear hb A C GG KK
            go_wp2_with fail
            refine (kept_any ws wa ws.heap.size 0 0 0 [] g1 n' b1 a' c' l' QY.out QHY.out FA.out (Nat.le_refl _) rfl (by decide) (fun h => absurd h (by decide)) Apart.none _ (.inr ⟨rfl, rfl⟩)).mono ?_
            rintro e wb ⟨rfl, hb⟩
            have FC := Lib.hid hb
            clear hb
            have PW := Lib.hid (WF.out wb (by have h1 := HWS.out; have h2 := FC.out.size; omega) (fun i h1 h2 => by rw [FC.out.block i (by have := HWS.out; omega), HWE.out i (by have := hgN.out; omega)]))
            go_wp2_with fail
            refine (Modulus_any _ _ _ _ PW.out).mono ?_
            rintro e wc ⟨⟨v9, rfl, ho⟩, hb⟩
            have FD := Lib.hid (FC.out.trans (hb.mono FC.out.size))
            have MM := Lib.hid (NatS.of ho (Nat.lt_of_lt_of_le hm3.out.1 topM_le))
            clear ho hb
            go_wp2_with fail
            refine (rf.cmp_s MM.out (NatS.lim (QHZ.out.below FD.out) HL''.out (by omega)) 0 (rf.ordR_eq rfl).symm).mono ?_
            rintro e wd ⟨rfl, hb⟩
            go_wp2
            go_ret
            exact ⟨rfl, FW.out.trans ((FD.out.trans (hb.mono FD.out.size)).mono FW.out.size)⟩
      · have hmo := Lib.hid (show false = decide (Mod3 (val32 l'')) by rw [decide_eq_false hm2])
        have hm3 := Lib.hid hm2
        clear hm2
        go_enter Try.func3, Try.ntmps3
        go_wp2_with fail
        refine (great3 (natAt_of HX.out HL.out) (natAt_of HY.out HL'.out) (natAt_of HZ.out HL''.out) 270 270 rfl _ (by simp) _ false hgr.out).mono ?_
        rintro e wg ⟨rfl, rfl⟩
        have hb := (Below.refl w.heap.size w).alloc (Nat.le_refl _) (.cells #[.slice a n c, .slice a' n' c', .slice a'' n'' c''] 23)
        replace HX := Lib.hid (HX.out.below hb)
        replace HY := Lib.hid (HY.out.below hb)
        replace HZ := Lib.hid (HZ.out.below hb)
        replace F := Lib.hid (F.out.trans (hb.mono F.out.size))
        clear hb
        generalize w.alloc (.cells #[.slice a n c, .slice a' n' c', .slice a'' n'' c''] 23) = u1 at *
        go_wp2_with fail
        refine (great1 (natAt_of HZ.out HL''.out) 16 16 rfl _ (by simp) _ false hgs.out).mono ?_
        rintro e wg ⟨rfl, rfl⟩
        have hb := (Below.refl u1.heap.size u1).alloc (Nat.le_refl _) (.cells #[.slice a'' n'' c''] 23)
        replace HX := Lib.hid (HX.out.below hb)
        replace HY := Lib.hid (HY.out.below hb)
        replace HZ := Lib.hid (HZ.out.below hb)
        replace F := Lib.hid (F.out.trans (hb.mono F.out.size))
        clear hb
        generalize u1.alloc (.cells #[.slice a'' n'' c''] 23) = u2 at *
        go_wp2_with fail
        refine (twin_any a n c l _ HX.out (by omega)).mono ?_
        rintro e w3 ⟨⟨g0, b0, rfl, ho⟩, hb⟩
        replace HX := Lib.hid (HX.out.below hb)
        replace HY := Lib.hid (HY.out.below hb)
        replace HZ := Lib.hid (HZ.out.below hb)
        have TX := Lib.hid (ho.mono F.out.size)
        replace F := Lib.hid (F.out.trans (hb.mono F.out.size))
        clear hb
        go_wp2_with fail
        refine (twin_any a' n' c' l' _ HY.out (by omega)).mono ?_
        rintro e w4 ⟨⟨g1, b1, rfl, ho⟩, hb⟩
        replace HX := Lib.hid (HX.out.below hb)
        replace HY := Lib.hid (HY.out.below hb)
        replace HZ := Lib.hid (HZ.out.below hb)
        replace TX := Lib.hid (TX.out.below hb)
        have TY := Lib.hid (ho.mono F.out.size)
        replace F := Lib.hid (F.out.trans (hb.mono F.out.size))
        clear hb
        go_wp2_with fail
        refine (twin_any a'' n'' c'' l'' _ HZ.out (by omega)).mono ?_
        rintro e w5 ⟨⟨g2, b2, rfl, ho⟩, hb⟩
        have hgA := Lib.hid (show g0 ≠ g2 from by have h1 := (World.ownsRow.lt TX.out g0 rfl).2; have h2 := (World.ownsRow.lt ho g2 rfl).1; omega)
        have hgB := Lib.hid (show g1 ≠ g2 from by have h1 := (World.ownsRow.lt TY.out g1 rfl).2; have h2 := (World.ownsRow.lt ho g2 rfl).1; omega)
        have hgW := Lib.hid (show w.heap.size ≤ g2 from by have h2 := (World.ownsRow.lt ho g2 rfl).1; have := F.out.size; omega)
        replace HX := Lib.hid (HX.out.below hb)
        replace HY := Lib.hid (HY.out.below hb)
        replace HZ := Lib.hid (HZ.out.below hb)
        replace TX := Lib.hid (TX.out.below hb)
        replace TY := Lib.hid (TY.out.below hb)
        have TM := Lib.hid (ho.mono F.out.size)
        replace F := Lib.hid (F.out.trans (hb.mono F.out.size))
        clear hb
        have PX := Lib.hid (twin_read TX.out HN.out)
        have NX := Lib.hid (NatS.lim HX.out HL.out (by omega))
        have AX := Lib.hid (natAt_of PX.out HL.out)
        have PY := Lib.hid (twin_read TY.out HN'.out)
        have NY := Lib.hid (NatS.lim HY.out HL'.out (by omega))
        have AY := Lib.hid (natAt_of PY.out HL'.out)
        have PM := Lib.hid (twin_read TM.out HN''.out)
        have NM := Lib.hid (NatS.lim HZ.out HL''.out (by omega))
        have AM := Lib.hid (natAt_of PM.out HL''.out)
        clear PX PY PM
        replace TM := Lib.hid TM.out.reads
        have F2 := Lib.hid (Below.refl w5.heap.size w5)
        go_wp2_with fail
        refine (new_no _ _ _ AM.out hm3.out).mono ?_
        rintro e w6 ⟨rfl, hb⟩
        replace NM := Lib.hid (NM.out.below hb)
        replace AM := Lib.hid (AM.out.below hb)
        replace F2 := Lib.hid (F2.out.trans (hb.mono F2.out.size))
        clear hb
        go_wp2_with fail
        refine (rf.may7_s _ _ _ NM.out false hmo.out).mono ?_
        rintro e w7 ⟨rfl, hb⟩
        replace NM := Lib.hid (NM.out.below hb)
        replace AM := Lib.hid (AM.out.below hb)
        replace F2 := Lib.hid (F2.out.trans (hb.mono F2.out.size))
        clear hb
        go_wp2_with fail
        refine (kept_any w5 w7 w5.heap.size 0 0 0 [] g2 n'' b2 a'' c'' l'' TM.out HZ.out F2.out (Nat.le_refl _) rfl (by decide) (fun h => absurd h (by decide)) Apart.none _ (.inr ⟨rfl, rfl⟩)).mono ?_
        rintro e wk ⟨rfl, hb⟩
        go_wp2
        go_ret
        exact ⟨rfl, F.out.trans (hb.mono F.out.size)⟩

end Go.Proofs.Ytebfoalcmnpghaa
