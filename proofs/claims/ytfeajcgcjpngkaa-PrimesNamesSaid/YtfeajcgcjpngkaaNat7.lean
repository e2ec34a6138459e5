/-
  NAT's ITERATOR down: ITS CONTRACT.
-/
import Derived.Test.YtfeajcgcjpngkaaNat6
namespace Go.Proofs.Ytfeajcgcjpngkaa
open Go.RowKit Go.Shelf
attribute [local go_sem] Oper.semAt_some

def downTo (lx ly : List Nat) (hx : Lim lx) (hy : Lim ly) (m k : Nat) : List Two := (List.range k).map fun j => twoAt lx ly hx hy (m - 1 - j)
theorem downTo_succ (lx ly : List Nat) (hx : Lim lx) (hy : Lim ly) (m k j : Nat) (h : j = m - 1 - k) : downTo lx ly hx hy m (k + 1) = downTo lx ly hx hy m k ++ [twoAt lx ly hx hy j] := by
  subst h
  rw [downTo, List.range_succ, List.map_append]; rfl

theorem down_start (m : Nat) : (∃ j : Nat, Value.int IntKind.i64 ((m : Int) - 1) = .int .i64 j ∧ j + 0 + 1 = m) ∨ (Value.int IntKind.i64 ((m : Int) - 1) = .int .i64 (-1) ∧ 0 = m) := by
  rcases Nat.eq_zero_or_pos m with h | h
  · exact .inr ⟨by rw [h]; rfl, h.symm⟩
  · exact .inl ⟨m - 1, by congr 1; omega, by omega⟩
theorem down_next {j k m : Nat} (h : j + k + 1 = m) : (∃ i : Nat, Value.int IntKind.i64 ((j : Int) - 1) = .int .i64 i ∧ i + (k + 1) + 1 = m) ∨ (Value.int IntKind.i64 ((j : Int) - 1) = .int .i64 (-1) ∧ k + 1 = m) := by
  rcases Nat.eq_zero_or_pos j with e | e
  · exact .inr ⟨by rw [e]; rfl, by omega⟩
  · exact .inl ⟨j - 1, by congr 1; omega, by omega⟩

set_option maxRecDepth 100000 in
set_option maxHeartbeats 2000000 in
theorem down_stops (n : Nat) (hn : 2 ≤ n) (n₀ bx bY : Nat) (a a' : Option Addr) (nx cx ny cy : Nat) (lx ly : List Nat) (hLx : Lim lx) (hLy : Lim ly) (w : World)
    (hbx : Boxed w bx 37 (.slice a nx cx)) (hby : Boxed w bY 37 (.slice a' ny cy)) (hx : Reads .u32 w a nx cx lx) (hy : Reads .u32 w a' ny cy ly)
    (hax : 0 < nx → ∀ ad, a = some ad → ad.block < n₀) (hay : 0 < ny → ∀ ad, a' = some ad → ad.block < n₀) (hn₀ : n₀ ≤ w.heap.size) (m : Nat) (hm : m = max nx ny) :
    SeqStopsK Fence.wide n Try.prog 65 #[.pointer (some ⟨bx, 0, none⟩), .pointer (some ⟨bY, 0, none⟩)] encT (KpUp n₀ bx bY) (fun xs => xs = downTo lx ly hLx hLy m m) (fun pre => ∃ k, k < m ∧ pre = downTo lx ly hLx hLy m (k + 1)) m w := fun lp J Jx W hW hJ hJx hY h0 => by
  have bX : Boxed W bx 37 (.slice a nx cx) := (hW.block bx hbx.lt).trans hbx
  have bY' : Boxed W bY 37 (.slice a' ny cy) := (hW.block bY hby.lt).trans hby
  have hXW := hx.below hW
  have hYW := hy.below hW
  have hmx := hx.len_le
  have hmy := hy.len_le
  unfold maxLen at hmx hmy
  have hsW := Nat.le_trans hn₀ hW.size
  clear hbx hby hx hy hn₀
  have cX := bX.cell
  have cY := bY'.cell
  have HX := Lib.hid hXW
  have HY := Lib.hid hYW
  have BX := Lib.hid bX
  have BY := Lib.hid bY'
  have HM := Lib.hid hm
  clear hXW hYW bX bY' hm
  refine callsIn_of_wp Try.func65 rfl trivial ?_ rfl
  simp only [Try.ntmps65, List.size_toArray, List.length_cons, List.length_nil, Nat.reduceAdd, Nat.reduceSub, Array.replicate_succ, Array.replicate_zero, List.push_toArray, List.append_toArray, List.nil_append, List.cons_append]
  have hcase : (m = ny ∧ nx < ny) ∨ (m = nx ∧ ny ≤ nx) := by have := HM.out; omega
  rcases hcase with ⟨rfl, hle⟩ | ⟨rfl, hle⟩
  all_goals
    gi_wp2
    gi_loopw [4] (fun i wr => ∃ k : Nat, ((∃ j : Nat, i = .int .i64 j ∧ j + k + 1 = m) ∨ (i = .int .i64 (-1) ∧ k = m)) ∧ Hid (J (downTo lx ly hLx hLy m k) wr) ∧ Hid (KpUp n₀ bx bY W wr)) (fun i _ => (intOf i + 1).toNat)
    case atStart => exact ⟨0, down_start m, h0, ⟨Below.refl _ _, fun _ _ h => h, fun _ _ h => h⟩⟩
    case round =>
      obtain ⟨k, hi, hJs, hkp⟩ := hrel
      rcases hi with ⟨j, rfl, hjk⟩ | ⟨rfl, hkm⟩
      · have cX1 := (hkp.out.2.1 _ _ BX.out).cell
        have cY1 := (hkp.out.2.2 _ _ BY.out).cell
        have RX := Lib.hid (HX.out.belowN hax hkp.out.1)
        have RY := Lib.hid (HY.out.belowN hay hkp.out.1)
        gi_wp2
        have RXd := Lib.hid (show Reads .u32 wr.drew a _ cx lx from RX.out.drewN 1)
        have RYd := Lib.hid (show Reads .u32 wr.drew a' _ cy ly from RY.out.drewN 1)
        have LX := Lib.hid (limb_any a _ cx lx _ RXd.out j j rfl)
        have LY := Lib.hid (limb_any a' _ cy ly _ RYd.out j j rfl)
        have hJd : J (downTo lx ly hLx hLy m k) wr.drew := hJ _ _ _ none hJs.out (grownBy_drew' wr) (fun r e => by cases e)
        obtain ⟨fn, tmps, assign, body, hy, hR⟩ := hY (downTo lx ly hLx hLy m k) (twoAt lx ly hLx hLy j) wr.drew hJd (by simp [downTo]; omega)
        simp only [encT, twoAt] at hy
        rw [← downTo_succ lx ly hLx hLy m k j (by omega)] at hR
        have HJK := Lib.hid hjk
        have hjm : j < m := by omega
        clear hjk
        have hR2 := hR.mono (R' := fun e W' => ∃ b : Bool, e = .returned (.bool b) ∧ Hid ((b = true ∧ J (downTo lx ly hLx hLy m (k + 1)) W' ∧ KpUp n₀ bx bY wr.drew W') ∨ (b = false ∧ Jx (downTo lx ly hLx hLy m (k + 1)) W'))) (by
          rintro e W' (⟨rfl, h2, h3⟩ | ⟨rfl, h2⟩)
          · exact ⟨true, rfl, .inl ⟨rfl, h2, h3⟩⟩
          · exact ⟨false, rfl, .inr ⟨rfl, h2⟩⟩)
        clear hR hJd
        gi_region_with (first | (refine ⟨trivial, fun _ => by omega, ?_⟩; first | ((with_reducible refine (callsIn_wide.2 LX.out).mono ?_); rintro e w' ⟨rfl, rfl⟩) | ((with_reducible refine (callsIn_wide.2 LY.out).mono ?_); rintro e w' ⟨rfl, rfl⟩)) | (refine ⟨fun _ => by omega, ?_⟩; (with_reducible refine hR2.mono ?_); rintro e W3 ⟨b, rfl, hb3⟩))
        all_goals
          cases b
          · gi_wp2
            refine bodyPost_ret (results_none rfl _ _ _) rfl ?_
            refine ⟨⟨_, rfl⟩, .inr ⟨downTo lx ly hLx hLy m (k + 1), ?_, ?_⟩⟩
            · exact ⟨k, by have := HJK.out; omega, rfl⟩
            rcases hb3.out with ⟨h, _⟩ | ⟨_, h⟩
            · cases h
            · exact h
          · gi_wp2
            go_roundw
            case rel =>
              rcases hb3.out with ⟨_, h, h'⟩ | ⟨h, _⟩
              · exact ⟨k + 1, down_next HJK.out, h, kpUp_t hkp.out (kpUp_t ⟨(Below.refl _ _).drew, fun _ _ x => x, fun _ _ x => x⟩ h')⟩
              · cases h
            case measure => simp [intOf] <;> omega
      · have HKM := Lib.hid hkm
        clear hkm
        gi_wp2
        go_end0
        exact ⟨⟨_, rfl⟩, .inl ⟨_, rfl, HKM.out ▸ hJs.out⟩⟩

end Go.Proofs.Ytfeajcgcjpngkaa
