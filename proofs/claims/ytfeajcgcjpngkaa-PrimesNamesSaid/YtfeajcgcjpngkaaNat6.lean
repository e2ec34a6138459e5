/-
  NAT's ITERATORS up AND down: THEIR CONTRACTS.
-/
import Derived.RangeFuncNested
import Derived.RangeFuncBound
import Derived.RangeFuncCalls
import Derived.RangeFuncLeaves
import Derived.RangeFuncBox
import Derived.Shelf.Abstract
import Derived.Shelf.RegionOpen
import Derived.WalkKit
import Derived.OwnWalkIn
import Derived.TacticsInMore
import Derived.LoopNIn
import Derived.LoopIn
import Derived.Stop.RegionWithIn
import Derived.Test.YtfeajcgcjpngkaaNat5
namespace Go.Proofs.Ytfeajcgcjpngkaa
open Go.RowKit Go.Shelf
attribute [local go_sem] Oper.semAt_some

theorem Reads.belowN {q : IntKind} {n₀ : Nat} {w w' : World} {a : Option Addr} {len cap : Nat} {l : List Nat} (h : Reads q w a len cap l) (hlt : 0 < len → ∀ ad, a = some ad → ad.block < n₀) (hb : Below n₀ w w') : Reads q w' a len cap l :=
  ⟨h.length, h.le, h.max, h.nil, fun hp => by
    obtain ⟨b, off, rfl, hbl, hc⟩ := h.cells hp
    have hl := hlt hp _ rfl
    exact ⟨b, off, rfl, Nat.lt_of_lt_of_le hbl hb.size, fun i hi => (hb.cell (p := ⟨b, off + i, .none⟩) hl).trans (hc i hi)⟩⟩

theorem Reads.block {q : IntKind} {w : World} {a : Option Addr} {len cap : Nat} {l : List Nat} (h : Reads q w a len cap l) : 0 < len → ∀ ad, a = some ad → ad.block < w.heap.size := fun hp ad e => by
  obtain ⟨b, off, rfl, hbl, _⟩ := h.cells hp
  cases e
  exact hbl

/-- What a round of up and down must keep: what lay below, and the two boxes. -/
def KpUp (n₀ bx bY : Nat) (W W' : World) : Prop := Below n₀ W W' ∧ (∀ t v, Boxed W bx t v → Boxed W' bx t v) ∧ (∀ t v, Boxed W bY t v → Boxed W' bY t v)
theorem kpUp_t {n₀ bx bY : Nat} {A B C : World} (h : KpUp n₀ bx bY A B) (k : KpUp n₀ bx bY B C) : KpUp n₀ bx bY A C := ⟨h.1.trans k.1, fun t v x => k.2.1 t v (h.2.1 t v x), fun t v x => k.2.2 t v (h.2.2 t v x)⟩
theorem boxed_putObj {W : World} {B : Nat} {t : TypeId} {v : Value} (h : Boxed W B t v) (l : Nat) (o o' : Obj) (hl : W.heap[l]? = some o) (ho : o.isCells = false) : Boxed (W.putObj l o') B t v := by
  refine h.kept (grownBy_putObj' W l o') fun e => ?_
  cases e
  rw [show W.heap[B]? = _ from h] at hl
  cases hl
  cases ho
theorem kpUp_b {n₀ bx bY : Nat} {w : World} (hn : n₀ ≤ w.heap.size) (W : World) (l : Nat) (o o' : Obj) (hl : w.heap.size ≤ l) (h : W.heap[l]? = some o) (hc : o.isCells = false) (hw : o.isWalk = false) : KpUp n₀ bx bY W (W.putObj l o') :=
  ⟨belowK_b hn W l o o' hl h hc hw, fun _ _ x => boxed_putObj x l o o' h hc, fun _ _ x => boxed_putObj x l o o' h hc⟩

theorem grownBy_drew' (w : World) : w.grownBy w.drew none := ⟨rfl, rfl, rfl, Nat.le_refl _, fun _ _ _ => rfl⟩

/-- Two limbs side by side. -/
abbrev Two := { p : Nat × Nat // p.1 < 4294967296 ∧ p.2 < 4294967296 }
abbrev encT (x : Two) : Array Value := #[.int .u32 (x.1.1 : Int), .int .u32 (x.1.2 : Int)]
def twoAt (lx ly : List Nat) (hx : Lim lx) (hy : Lim ly) (k : Nat) : Two := ⟨(lx[k]?.getD 0, ly[k]?.getD 0), lim_get hx k, lim_get hy k⟩
def upTo (lx ly : List Nat) (hx : Lim lx) (hy : Lim ly) (k : Nat) : List Two := (List.range k).map (twoAt lx ly hx hy)
theorem upTo_succ (lx ly : List Nat) (hx : Lim lx) (hy : Lim ly) (k : Nat) : upTo lx ly hx hy (k + 1) = upTo lx ly hx hy k ++ [twoAt lx ly hx hy k] := by
  rw [upTo, List.range_succ, List.map_append]; rfl

set_option maxRecDepth 100000 in
set_option maxHeartbeats 2000000 in
theorem up_stops (n : Nat) (hn : 2 ≤ n) (n₀ bx bY : Nat) (a a' : Option Addr) (nx cx ny cy : Nat) (lx ly : List Nat) (hLx : Lim lx) (hLy : Lim ly) (w : World)
    (hbx : Boxed w bx 37 (.slice a nx cx)) (hby : Boxed w bY 37 (.slice a' ny cy)) (hx : Reads .u32 w a nx cx lx) (hy : Reads .u32 w a' ny cy ly)
    (hax : 0 < nx → ∀ ad, a = some ad → ad.block < n₀) (hay : 0 < ny → ∀ ad, a' = some ad → ad.block < n₀) (hn₀ : n₀ ≤ w.heap.size) (m : Nat) (hm : m = max nx ny) :
    SeqStopsK Fence.wide n Try.prog 64 #[.pointer (some ⟨bx, 0, none⟩), .pointer (some ⟨bY, 0, none⟩)] encT (KpUp n₀ bx bY) (fun xs => xs = upTo lx ly hLx hLy m) (fun _ => True) m w := fun lp J Jx W hW hJ hJx hY h0 => by
  have bX : Boxed W bx 37 (.slice a nx cx) := (hW.block bx hbx.lt).trans hbx
  have bY' : Boxed W bY 37 (.slice a' ny cy) := (hW.block bY hby.lt).trans hby
  have hXW := hx.below hW
  have hYW := hy.below hW
  have hmx := hx.len_le
  have hmy := hy.len_le
  unfold maxLen at hmx hmy
  have hsW := Nat.le_trans hn₀ hW.size
  clear hbx hby hx hy hn₀
  have cX := bX.cell
  have cY := bY'.cell
  have HX := Lib.hid hXW
  have HY := Lib.hid hYW
  have BX := Lib.hid bX
  have BY := Lib.hid bY'
  have HM := Lib.hid hm
  clear hXW hYW bX bY' hm
  refine callsIn_of_wp Try.func64 rfl trivial ?_ rfl
  simp only [Try.ntmps64, List.size_toArray, List.length_cons, List.length_nil, Nat.reduceAdd, Nat.reduceSub, Array.replicate_succ, Array.replicate_zero, List.push_toArray, List.append_toArray, List.nil_append, List.cons_append]
  have hcase : (m = ny ∧ nx < ny) ∨ (m = nx ∧ ny ≤ nx) := by have := HM.out; omega
  rcases hcase with ⟨rfl, hle⟩ | ⟨rfl, hle⟩
  all_goals
    gi_wp2
    gi_loopw [10] (fun i wr => ∃ k : Nat, i = .int .i64 k ∧ k ≤ m ∧ Hid (J (upTo lx ly hLx hLy k) wr) ∧ Hid (KpUp n₀ bx bY W wr)) (fun i _ => m - (intOf i).toNat)
    case atStart => exact ⟨0, rfl, Nat.zero_le _, h0, ⟨Below.refl _ _, fun _ _ h => h, fun _ _ h => h⟩⟩
    case round =>
      obtain ⟨k, rfl, hk, hJs, hkp⟩ := hrel
      by_cases hlt : k < m
      · have cX1 := (hkp.out.2.1 _ _ BX.out).cell
        have cY1 := (hkp.out.2.2 _ _ BY.out).cell
        have RX := Lib.hid (HX.out.belowN hax hkp.out.1)
        have RY := Lib.hid (HY.out.belowN hay hkp.out.1)
        gi_wp2
        have RXd := Lib.hid (show Reads .u32 wr.drew a _ cx lx from RX.out.drewN 1)
        have RYd := Lib.hid (show Reads .u32 wr.drew a' _ cy ly from RY.out.drewN 1)
        have LX := Lib.hid (limb_any a _ cx lx _ RXd.out k k rfl)
        have LY := Lib.hid (limb_any a' _ cy ly _ RYd.out k k rfl)
        have hJd : J (upTo lx ly hLx hLy k) wr.drew := hJ _ _ _ none hJs.out (grownBy_drew' wr) (fun r e => by cases e)
        obtain ⟨fn, tmps, assign, body, hy, hR⟩ := hY (upTo lx ly hLx hLy k) (twoAt lx ly hLx hLy k) wr.drew hJd (by simpa [upTo] using hlt)
        simp only [encT, twoAt] at hy
        rw [← upTo_succ] at hR
        have hR2 := hR.mono (R' := fun e W' => ∃ b : Bool, e = .returned (.bool b) ∧ Hid ((b = true ∧ J (upTo lx ly hLx hLy (k + 1)) W' ∧ KpUp n₀ bx bY wr.drew W') ∨ (b = false ∧ Jx (upTo lx ly hLx hLy (k + 1)) W'))) (by
          rintro e W' (⟨rfl, h2, h3⟩ | ⟨rfl, h2⟩)
          · exact ⟨true, rfl, .inl ⟨rfl, h2, h3⟩⟩
          · exact ⟨false, rfl, .inr ⟨rfl, h2⟩⟩)
        clear hR hJd
        gi_region_with (first | (refine ⟨trivial, fun _ => by omega, ?_⟩; first | ((with_reducible refine (callsIn_wide.2 LX.out).mono ?_); rintro e w' ⟨rfl, rfl⟩) | ((with_reducible refine (callsIn_wide.2 LY.out).mono ?_); rintro e w' ⟨rfl, rfl⟩)) | (refine ⟨fun _ => by omega, ?_⟩; (with_reducible refine hR2.mono ?_); rintro e W3 ⟨b, rfl, hb3⟩))
        all_goals
          cases b
          · gi_wp2
            refine bodyPost_ret (results_none rfl _ _ _) rfl ?_
            refine ⟨⟨_, rfl⟩, .inr ⟨upTo lx ly hLx hLy (k + 1), ?_⟩⟩
            rcases hb3.out with ⟨h, _⟩ | ⟨_, h⟩
            · cases h
            · exact h
          · gi_wp2
            go_roundw
            case rel =>
              rcases hb3.out with ⟨_, h, h'⟩ | ⟨h, _⟩
              · exact ⟨k + 1, by go_num, by omega, h, kpUp_t hkp.out (kpUp_t ⟨(Below.refl _ _).drew, fun _ _ x => x, fun _ _ x => x⟩ h')⟩
              · cases h
            case measure => simp [intOf] <;> omega
      · obtain rfl : k = m := by omega
        gi_wp2
        go_end0
        exact ⟨⟨_, rfl⟩, .inl ⟨_, rfl, hJs.out⟩⟩

end Go.Proofs.Ytfeajcgcjpngkaa
