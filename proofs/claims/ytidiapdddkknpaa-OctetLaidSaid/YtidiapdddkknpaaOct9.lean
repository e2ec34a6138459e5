/-
  THE LAW's spoil, ONCE MORE: nothing but the rows' own blocks is written over. Lists of the call's own; the reference's Lists.
-/
import Derived.Test.YtidiapdddkknpaaOct8
namespace Go.Proofs.Ytidiapdddkknpaa
open Go.RowKit

/-- But for the blocks of S the world w' is as w was. -/
structure Only (S : Nat → Prop) (w w' : World) : Prop where
  os : w'.os = w.os
  tape : w'.tape = w.tape
  output : w'.output = w.output
  size : w.heap.size ≤ w'.heap.size
  block : ∀ k, k < w.heap.size → ¬ S k → w'.heap[k]? = w.heap[k]?

theorem Only.refl (S : Nat → Prop) (w : World) : Only S w w := ⟨rfl, rfl, rfl, Nat.le_refl _, fun _ _ _ => rfl⟩
theorem Only.drew {S : Nat → Prop} {a w : World} (h : Only S a w) : Only S a w.drew := ⟨h.os, h.tape, h.output, h.size, h.block⟩
theorem Only.setCell {S : Nat → Prop} {a w : World} (h : Only S a w) {p : Addr} (hp : S p.block) (u : Value) : Only S a (w.setCell p u) :=
  ⟨h.os, h.tape, h.output, by have := h.size; simp [World.setCell]; omega, fun k hk hs => (Below.heap_setCell _ _ _ _ (fun e => hs (by rw [e]; exact hp))).trans (h.block k hk hs)⟩
theorem Only.below {S : Nat → Prop} {w w' : World} (h : Only S w w') (B : Nat) (hB : B ≤ w.heap.size) (hS : ∀ k, S k → B ≤ k) : Below B w w' :=
  ⟨h.os, h.tape, h.output, h.size, fun k hk => h.block k (by omega) (fun hs => by have := hS k hs; omega)⟩

theorem Own8.only {E B : Nat} {S : Nat → Prop} {w w' : World} {v : Value} {l : List UInt8} (h : Own8 E B w v l) (ho : Only S w w') (hs : ∀ g, v.ownBlock = some g → ¬ S g) : Own8 E B w' v l := by
  obtain ⟨h1, h2⟩ := h
  refine ⟨h1, ?_⟩
  rcases h2 with h2 | ⟨g, cap, cur, rfl, hB, hg, rest⟩
  · exact .inl h2
  · exact .inr ⟨g, cap, cur, rfl, hB, by rw [ho.block g (Array.getElem?_eq_some_iff.1 hg).1 (hs g rfl)]; exact hg, rest⟩

theorem OwnL.only {E U B : Nat} {S : Nat → Prop} {w w' : World} {v : Value} {X : List Row2} (h : OwnL E U B w v X) (ho : Only S w w') (hs : ∀ g, B ≤ g → g < w.heap.size → ¬ S g) : OwnL E U B w' v X := by
  refine ⟨?_, fun x hx => (h.each x hx).only ho fun g hg => ?_⟩
  · obtain ⟨h1, h2⟩ := h.row
    refine ⟨h1, ?_⟩
    rcases h2 with h2 | ⟨g, cap, cur, rfl, hB, hg, rest⟩
    · exact .inl h2
    · have hlt := (Array.getElem?_eq_some_iff.1 hg).1
      exact .inr ⟨g, cap, cur, rfl, hB, by rw [ho.block g hlt (hs g hB hlt)]; exact hg, rest⟩
  · have := World.ownsRow.lt (h.each x hx) g hg
    exact hs g this.1 this.2

/-- A row that may be written over: empty, or in a block of S. -/
def LiveS (S : Nat → Prop) (w : World) (x : Row2) : Prop :=
  x.2.1 = 0 ∨ ∃ g, x.1 = some ⟨g, 0, none⟩ ∧ S g ∧ x.2.1 ≤ maxLen ∧ ∀ i, i < x.2.1 → ∃ n : Nat, n < 256 ∧ w.cell? ⟨g, i, none⟩ = some (.int .u8 (n : Int)) ∧ w.frozen? ⟨g, i, none⟩ = false

structure SpoilsS (S : Nat → Prop) (w : World) (lb n : Nat) (L : List Row2) : Prop where
  length : L.length = n
  max : n ≤ maxLen
  cells : ∀ i, i < n → w.cell? ⟨lb, i, none⟩ = some (.slice (L[i]?.getD (none, 0, 0, [])).1 (L[i]?.getD (none, 0, 0, [])).2.1 (L[i]?.getD (none, 0, 0, [])).2.2.1)
  live : ∀ i, i < n → LiveS S w (L[i]?.getD (none, 0, 0, []))

theorem LiveS.set {S : Nat → Prop} {w : World} {x : Row2} (h : LiveS S w x) (g i m : Nat) (hm : m < 256) : LiveS S (w.setCell ⟨g, i, none⟩ (.int .u8 (m : Int))) x := by
  rcases h with h | ⟨g', h1, h2, h4, h5⟩
  · exact .inl h
  · refine .inr ⟨g', h1, h2, h4, fun j hj => ?_⟩
    obtain ⟨n, hn, hc, hf⟩ := h5 j hj
    obtain ⟨k, hk, hc'⟩ := cell_after w g i g' j n m hn hm hc
    exact ⟨k, hk, hc', (World.frozen?_setCell _ _ _ _).trans hf⟩

theorem SpoilsS.set {S : Nat → Prop} {w : World} {lb n : Nat} {L : List Row2} (h : SpoilsS S w lb n L) (g i m : Nat) (hm : m < 256) (hg : g ≠ lb) : SpoilsS S (w.setCell ⟨g, i, none⟩ (.int .u8 (m : Int))) lb n L :=
  ⟨h.length, h.max, fun j hj => (World.cell?_setCell_other _ _ _ _ (by intro e; cases e; exact hg rfl)).trans (h.cells j hj), fun j hj => (h.live j hj).set g i m hm⟩

theorem SpoilsS.drew {S : Nat → Prop} {w : World} {lb n : Nat} {L : List Row2} (h : SpoilsS S w lb n L) : SpoilsS S w.drew lb n L := ⟨h.length, h.max, h.cells, h.live⟩

set_option maxHeartbeats 800000 in
theorem spoil_only (S : Nat → Prop) (lb n cap : Nat) (L : List Row2) (w : World) (hlb : ¬ S lb) (h : SpoilsS S w lb n L) :
    Calls Try.prog 24 #[.slice (some ⟨lb, 0, none⟩) n cap] w fun e w' => e = .returned (.tuple #[]) ∧ Only S w w' := by
  have hmn := h.max
  unfold maxLen at hmn
  have H := Lib.hid h
  clear h
  go_enter Try.func24, Try.ntmps24
  go_wp2
  go_loopw [6] (fun i wr => ∃ k : Nat, k ≤ n ∧ i = .int .i64 k ∧ Hid (SpoilsS S wr lb n L) ∧ Only S w wr) (fun i _ => n - (intOf i).toNat)
  case atStart => exact ⟨0, Nat.zero_le _, rfl, H.out, Only.refl _ _⟩
  case round =>
    obtain ⟨k, hk, rfl, hS, hb⟩ := hrel
    by_cases hlt : k < n
    · have hck := hS.out.cells k hlt
      have hlv := Lib.hid (hS.out.live k hlt)
      generalize hr : (L[k]?.getD (none, 0, 0, [])) = r at *
      have HR := Lib.hid hr
      clear hr
      obtain ⟨ra, rl, rc, rb⟩ := r
      simp only at hck
      obtain ⟨wo, hwo⟩ : ∃ wo : World, wo = wr := ⟨_, rfl⟩
      subst hwo
      go_wp2
      go_loopw [14] (fun i wr => ∃ q : Nat, q ≤ rl ∧ i = .int .i64 q ∧ Hid (SpoilsS S wr lb n L) ∧ Only S w wr) (fun i _ => rl - (intOf i).toNat)
      case atStart => exact ⟨0, Nat.zero_le _, rfl, hS, hb⟩
      case round =>
        obtain ⟨q, hq, rfl, hS2, hb2⟩ := hrel
        by_cases hlq : q < rl
        · have hlv2 := hS2.out.live k hlt
          have hck2 := hS2.out.cells k hlt
          rw [HR.out] at hlv2 hck2
          simp only at hck2
          rcases hlv2 with h0 | ⟨g, h1, h2, h4, h5⟩
          · simp only at h0
            omega
          · simp only at h1 h4 h5
            subst h1
            obtain ⟨x, hx, hc, hf⟩ := h5 q hlq
            have h5' := Lib.hid h5
            unfold maxLen at h4
            clear h5
            go_wp2
            go_region
            go_wp2
            have e1 : ((x : Int) + 1) % 256 = (((x + 1) % 256 : Nat) : Int) := by omega
            rw [e1]
            go_roundw
            case rel => exact ⟨q + 1, by omega, by go_num, (hS2.out.set g q ((x + 1) % 256) (by omega) (fun e => hlb (e ▸ h2))).drew, (hb2.setCell (p := ⟨g, q, none⟩) h2 _).drew⟩
            case measure => simp [intOf] <;> omega
        · go_wp2
          go_roundw
          case rel => exact ⟨k + 1, by omega, by go_num, hS2, hb2⟩
          case measure => simp [intOf] <;> omega
    · go_wp2
      go_end0
      exact ⟨rfl, hb⟩

theorem LiveS.of_own {E B : Nat} {S : Nat → Prop} {w : World} {a : Option Addr} {n cap : Nat} {l : List UInt8} (h : Own8 E B w (.slice a n cap) l) (hs : ∀ g, (Value.slice a n cap).ownBlock = some g → S g) : LiveS S w (a, n, cap, l) := by
  by_cases h0 : n = 0
  · exact .inl h0
  · obtain ⟨hn, hc, hm⟩ := h.cap
    obtain ⟨g, cap', he⟩ := h.succ (by intro e; subst e; simp at hn; exact h0 hn)
    cases he
    exact .inr ⟨g, rfl, hs g rfl, Nat.le_trans hc hm, fun i hi => ⟨_, UInt8.toNat_lt _, h.cellAt hn i hi, h.frozenAt hn i⟩⟩

theorem spoil_nil (w : World) : Calls Try.prog 24 #[.slice none 0 0] w fun e w' => e = .returned (.tuple #[]) ∧ w = w' := by
  go_enter Try.func24, Try.ntmps24
  go_wp2
  go_loop [6] (fun i => i = .int .i64 0) (fun _ => 0)
  case atStart => rfl
  case round =>
    subst hrel
    go_wp2
    go_end0
    exact ⟨rfl, rfl⟩

/-- 'spoil(l...)', all of it the call's own: what lay below stays. -/
theorem spoil_list (B : Nat) (v : Value) (X : List Row2) (w : World) (h : OwnL 22 5 B w v X) (hB : B ≤ w.heap.size) :
    Calls Try.prog 24 #[v] w fun e w' => e = .returned (.tuple #[]) ∧ Below B w w' := by
  rcases h.form with ⟨rfl, rfl⟩ | ⟨g, cap, rfl, hc, hm, hg, hlt⟩
  · exact (spoil_nil w).mono fun e w' ⟨he, hw⟩ => ⟨he, hw ▸ Below.refl _ _⟩
  · have hap := h.apart (by decide)
    refine (spoil_only (fun k => B ≤ k ∧ k ≠ g) g X.length cap X w (fun h => h.2 rfl) ⟨rfl, by omega, fun i hi => ?_, fun i hi => ?_⟩).mono fun e w' ⟨he, ho⟩ => ⟨he, ho.below B hB fun k hk => hk.1⟩
    · rw [World.ownsRow.cellAt h.row i (by omega), List.getElem?_map, List.getElem?_eq_getElem hi]
      rfl
    · rw [List.getElem?_eq_getElem hi]
      have hx := List.getElem_mem hi
      generalize X[i] = x at *
      refine LiveS.of_own (h.each x hx) fun k hk => ⟨(World.ownsRow.lt (h.each x hx) k hk).1, fun e => ?_⟩
      rcases hap x hx with h1 | h1
      · rw [h1] at hk; cases hk
      · exact h1 (by rw [hk, e]; rfl)

theorem OwnL.rows {E U B : Nat} {w : World} {a : Option Addr} {n cap : Nat} {X : List Row2} (h : OwnL E U B w (.slice a n cap) X) : Rows2 w a n cap X := by
  have heach : ∀ x ∈ X, Bts w x.1 x.2.1 x.2.2.1 x.2.2.2 := fun x hx => Own8.bts (h.each x hx)
  rcases h.form with ⟨he, rfl⟩ | ⟨g, c, he, hc, hm, hg, hlt⟩
  · cases he
    exact ⟨rfl, by unfold maxLen; omega, fun h => by omega, heach⟩
  · cases he
    refine ⟨rfl, by omega, fun _ => ⟨g, 0, rfl, hlt, fun i hi => ?_⟩, heach⟩
    rw [Nat.zero_add, World.ownsRow.cellAt h.row i (by omega), List.getElem?_map, List.getElem?_eq_getElem hi]
    rfl

set_option maxHeartbeats 800000 in
theorem lists_yes (a1 a2 : Option Addr) (n1 c1 n2 c2 : Nat) (X Y : List Row2) (w : World) (h1 : Rows2 w a1 n1 c1 X) (h2 : Rows2 w a2 n2 c2 Y) (he : X.map (·.2.2.2) = Y.map (·.2.2.2)) :
    Calls Try.prog 30 #[.slice a1 n1 c1, .slice a2 n2 c2] w fun e w' => e = .returned (.bool true) ∧ ∃ d, w' = w.drewN d := by
  have H1 := Lib.hid h1
  have H2 := Lib.hid h2
  have HE := Lib.hid he
  have hm1 := h1.max
  unfold maxLen at hm1
  have L1 := Lib.hid h1.length
  obtain rfl : n1 = n2 := by rw [← h1.length, ← h2.length, ← List.length_map (f := fun x : Row2 => x.2.2.2), he, List.length_map]
  clear h1 h2 he
  go_enter Try.func30, Try.ntmps30
  go_wp2
  go_loopw [5] (fun i wr => ∃ k : Nat, k ≤ n1 ∧ i = .int .i64 k ∧ ∃ d, wr = w.drewN d) (fun i _ => n1 - (intOf i).toNat)
  case atStart => exact ⟨0, Nat.zero_le _, rfl, 0, rfl⟩
  case round =>
    obtain ⟨k, hk, rfl, d, rfl⟩ := hrel
    by_cases hlt : k < n1
    · obtain ⟨b1, o1, rfl, _, hc1⟩ := H1.out.cells (by omega)
      obtain ⟨b2, o2, rfl, _, hc2⟩ := H2.out.cells (by omega)
      have hx := hc1 k hlt
      have hy := hc2 k hlt
      have hat1 := H1.out.at k hlt
      have hat2 := H2.out.at k hlt
      have heq : (X[k]?.getD (none, 0, 0, [])).2.2.2 = (Y[k]?.getD (none, 0, 0, [])).2.2.2 := by
        have h3 := congrArg (fun l : List (List UInt8) => l[k]?.getD []) HE.out
        simp only [List.getElem?_map] at h3
        have h4 : k < X.length := by have := L1.out; omega
        have h5 : k < Y.length := by have := H2.out.length; omega
        simpa [List.getElem?_eq_getElem h4, List.getElem?_eq_getElem h5] using h3
      clear hc1 hc2
      generalize (X[k]?.getD (none, 0, 0, [])) = r1 at *
      generalize (Y[k]?.getD (none, 0, 0, [])) = r2 at *
      obtain ⟨ra, rl, rc, rb⟩ := r1
      obtain ⟨sa, sl, sc, sb⟩ := r2
      simp only at hx hy heq hat1 hat2
      subst heq
      have k1 := fun m => conv8 (w := w.drewN m) ⟨hat1.length, hat1.le, hat1.max, hat1.nil, hat1.cells⟩
      have k2 := fun m => conv8 (w := w.drewN m) ⟨hat2.length, hat2.le, hat2.max, hat2.nil, hat2.cells⟩
      clear hat1 hat2
      go_wp2
      go_quiet (fail)
      go_wp2
      go_roundw
      case rel => exact ⟨k + 1, by omega, by go_num, _, rfl⟩
      case measure => simp [intOf] <;> omega
    · go_wp2
      go_ret
      exact ⟨rfl, d, rfl⟩

end Go.Proofs.Ytidiapdddkknpaa
