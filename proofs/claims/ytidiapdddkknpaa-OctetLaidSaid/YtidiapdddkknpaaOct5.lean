/-
  THE LAW's spoil: it writes over bytes, all of them the call's own.
-/
import Derived.Test.YtidiapdddkknpaaOct4
namespace Go.Proofs.Ytidiapdddkknpaa
open Go.RowKit

/-- A row that may be written over: empty, or in a block from B on that is not block lb. -/
def LiveRow (B lb : Nat) (w : World) (x : Row2) : Prop :=
  x.2.1 = 0 ∨ ∃ g, x.1 = some ⟨g, 0, none⟩ ∧ B ≤ g ∧ g ≠ lb ∧ x.2.1 ≤ maxLen ∧ ∀ i, i < x.2.1 → ∃ n : Nat, n < 256 ∧ w.cell? ⟨g, i, none⟩ = some (.int .u8 (n : Int)) ∧ w.frozen? ⟨g, i, none⟩ = false

structure Spoils (B : Nat) (w : World) (lb n : Nat) (L : List Row2) : Prop where
  length : L.length = n
  max : n ≤ maxLen
  cells : ∀ i, i < n → w.cell? ⟨lb, i, none⟩ = some (.slice (L[i]?.getD (none, 0, 0, [])).1 (L[i]?.getD (none, 0, 0, [])).2.1 (L[i]?.getD (none, 0, 0, [])).2.2.1)
  live : ∀ i, i < n → LiveRow B lb w (L[i]?.getD (none, 0, 0, []))

theorem cell_after (w : World) (g i g' i' : Nat) (n m : Nat) (hn : n < 256) (hm : m < 256) (h : w.cell? ⟨g', i', none⟩ = some (.int .u8 (n : Int))) :
    ∃ k : Nat, k < 256 ∧ (w.setCell ⟨g, i, none⟩ (.int .u8 (m : Int))).cell? ⟨g', i', none⟩ = some (.int .u8 (k : Int)) := by
  by_cases e : (⟨g', i', none⟩ : Addr) = ⟨g, i, none⟩
  · rw [← e]
    exact ⟨m, hm, World.cell?_setCell_same _ _ _ h⟩
  · exact ⟨n, hn, (World.cell?_setCell_other _ _ _ _ (fun h' => e h'.symm)).trans h⟩

theorem LiveRow.set {B lb : Nat} {w : World} {x : Row2} (h : LiveRow B lb w x) (g i m : Nat) (hm : m < 256) : LiveRow B lb (w.setCell ⟨g, i, none⟩ (.int .u8 (m : Int))) x := by
  rcases h with h | ⟨g', h1, h2, h3, h4, h5⟩
  · exact .inl h
  · refine .inr ⟨g', h1, h2, h3, h4, fun j hj => ?_⟩
    obtain ⟨n, hn, hc, hf⟩ := h5 j hj
    obtain ⟨k, hk, hc'⟩ := cell_after w g i g' j n m hn hm hc
    exact ⟨k, hk, hc', (World.frozen?_setCell _ _ _ _).trans hf⟩

theorem Spoils.set {B : Nat} {w : World} {lb n : Nat} {L : List Row2} (h : Spoils B w lb n L) (g i m : Nat) (hm : m < 256) (hg : g ≠ lb) : Spoils B (w.setCell ⟨g, i, none⟩ (.int .u8 (m : Int))) lb n L :=
  ⟨h.length, h.max, fun j hj => (World.cell?_setCell_other _ _ _ _ (by intro e; cases e; exact hg rfl)).trans (h.cells j hj), fun j hj => (h.live j hj).set g i m hm⟩

theorem Spoils.drew {B : Nat} {w : World} {lb n : Nat} {L : List Row2} (h : Spoils B w lb n L) : Spoils B w.drew lb n L := ⟨h.length, h.max, h.cells, h.live⟩

set_option maxHeartbeats 800000 in
theorem spoil_any (B lb n cap : Nat) (L : List Row2) (w : World) (h : Spoils B w lb n L) :
    Calls Try.prog 24 #[.slice (some ⟨lb, 0, none⟩) n cap] w fun e w' => e = .returned (.tuple #[]) ∧ Below B w w' := by
  have hmn := h.max
  unfold maxLen at hmn
  have H := Lib.hid h
  clear h
  go_enter Try.func24, Try.ntmps24
  go_wp2
  go_loopw [6] (fun i wr => ∃ k : Nat, k ≤ n ∧ i = .int .i64 k ∧ Hid (Spoils B wr lb n L) ∧ Below B w wr) (fun i _ => n - (intOf i).toNat)
  case atStart => exact ⟨0, Nat.zero_le _, rfl, H.out, Below.refl _ _⟩
  case round =>
    obtain ⟨k, hk, rfl, hS, hb⟩ := hrel
    by_cases hlt : k < n
    · have hck := hS.out.cells k hlt
      have hlv := Lib.hid (hS.out.live k hlt)
      generalize hr : (L[k]?.getD (none, 0, 0, [])) = r at *
      have HR := Lib.hid hr
      clear hr
      obtain ⟨ra, rl, rc, rb⟩ := r
      simp only at hck
      obtain ⟨wo, hwo⟩ : ∃ wo : World, wo = wr := ⟨_, rfl⟩
      subst hwo
      go_wp2
      go_loopw [14] (fun i wr => ∃ q : Nat, q ≤ rl ∧ i = .int .i64 q ∧ Hid (Spoils B wr lb n L) ∧ Below B w wr) (fun i _ => rl - (intOf i).toNat)
      case atStart => exact ⟨0, Nat.zero_le _, rfl, hS, hb⟩
      case round =>
        obtain ⟨q, hq, rfl, hS2, hb2⟩ := hrel
        by_cases hlq : q < rl
        · have hlv2 := hS2.out.live k hlt
          have hck2 := hS2.out.cells k hlt
          rw [HR.out] at hlv2 hck2
          simp only at hck2
          rcases hlv2 with h0 | ⟨g, h1, h2, h3, h4, h5⟩
          · simp only at h0
            omega
          · simp only at h1 h4 h5
            subst h1
            obtain ⟨x, hx, hc, hf⟩ := h5 q hlq
            have h5' := Lib.hid h5
            unfold maxLen at h4
            clear h5
            go_wp2
            go_region
            go_wp2
            have e1 : ((x : Int) + 1) % 256 = (((x + 1) % 256 : Nat) : Int) := by omega
            rw [e1]
            go_roundw
            case rel => exact ⟨q + 1, by omega, by go_num, (hS2.out.set g q ((x + 1) % 256) (by omega) h3).drew, (hb2.setCell (p := ⟨g, q, none⟩) h2 _).drew⟩
            case measure => simp [intOf] <;> omega
        · go_wp2
          go_roundw
          case rel => exact ⟨k + 1, by omega, by go_num, hS2, hb2⟩
          case measure => simp [intOf] <;> omega
    · go_wp2
      go_end0
      exact ⟨rfl, hb⟩

theorem LiveRow.of_own {E B lb : Nat} {w w' : World} {a : Option Addr} {n cap : Nat} {l : List UInt8} (h : Own8 E B w (.slice a n cap) l) (hb : Below w.heap.size w w') (hlb : w.heap.size ≤ lb) : LiveRow B lb w' (a, n, cap, l) := by
  by_cases h0 : n = 0
  · exact .inl h0
  · obtain ⟨hn, hc, hm⟩ := h.cap
    obtain ⟨g, cap', he⟩ := h.succ (by intro e; subst e; simp at hn; exact h0 hn)
    cases he
    obtain ⟨_, _, _, _, hlt⟩ := h.form
    have hg := World.ownsRow.lt h g rfl
    have h' := h.below hb
    refine .inr ⟨g, rfl, hg.1, by omega, Nat.le_trans hc hm, fun i hi => ⟨_, UInt8.toNat_lt _, h'.cellAt hn i hi, h'.frozenAt hn i⟩⟩

theorem cells3 (w : World) (T : TypeId) (x0 x1 x2 : Row2) : ∀ i, i < 3 → (w.alloc (.cells #[.slice x0.1 x0.2.1 x0.2.2.1, .slice x1.1 x1.2.1 x1.2.2.1, .slice x2.1 x2.2.1 x2.2.2.1] T)).cell? ⟨w.heap.size, i, none⟩ = some (.slice ([x0, x1, x2][i]?.getD (none, 0, 0, [])).1 ([x0, x1, x2][i]?.getD (none, 0, 0, [])).2.1 ([x0, x1, x2][i]?.getD (none, 0, 0, [])).2.2.1) := by
  intro i hi
  rw [World.cell?_alloc_at _ _ _ _ rfl]
  match i, hi with
  | 0, _ => rfl
  | 1, _ => rfl
  | 2, _ => rfl

theorem conv8 {w : World} {a : Option Addr} {len cap : Nat} {l : List UInt8} (h : Bts w a len cap l) :
    (convert 22 9 (.slice a len cap)).run Try.prog w = .ok (.string (strOf l)) w :=
  h.convert (P := Try.prog) _ _ _ Try.underlying22 Try.underlying5 Try.underlying9

theorem RetsOwn2.form {B : Nat} {w : World} {r : List UInt8 × Int} {e : Ending} (h : RetsOwn2 B w r e) : ∃ a cap, e = .returned (.tuple #[.slice a r.1.length cap, .int .i64 r.2]) ∧ Own8 5 B w (.slice a r.1.length cap) r.1 := by
  obtain ⟨v, rfl, ho⟩ := h
  obtain ⟨a, cap, rfl, _, _⟩ := ho.form
  exact ⟨a, cap, rfl, ho⟩

theorem RetsOwn.form {B : Nat} {w : World} {l : List UInt8} {e : Ending} (h : RetsOwn B w l e) : ∃ a cap, e = .returned (.slice a l.length cap) ∧ Own8 5 B w (.slice a l.length cap) l := by
  obtain ⟨v, rfl, ho⟩ := h
  obtain ⟨a, cap, rfl, _, _⟩ := ho.form
  exact ⟨a, cap, rfl, ho⟩

end Go.Proofs.Ytidiapdddkknpaa
