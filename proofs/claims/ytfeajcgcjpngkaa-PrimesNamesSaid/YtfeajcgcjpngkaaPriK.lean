/-
  Ints, Words, First, fraction, AND alive: the chapter's first examples hold. (Written by wip/gen_priK.py.)
-/
import Derived.Test.YtfeajcgcjpngkaaPriJ
import Derived.Test.YtfeajcgcjpngkaaPriX
namespace Go.Proofs.Ytfeajcgcjpngkaa
open Go.RowKit

set_option maxHeartbeats 400000 in
theorem ints_any (a a' : Option Addr) (n c n' c' : Nat) (l l' : List Nat) (w : World) (hx : Reads .i64 w a n c l) (hy : Reads .i64 w a' n' c' l') (r : Bool) (hr : r = decide (l = l')) :
    Calls Try.prog 14 #[.slice a n c, .slice a' n' c'] w fun e w' => e = .returned (.bool r) ∧ Below w.heap.size w w' := by
  have HX := Lib.hid hx
  have HY := Lib.hid hy
  have HR := Lib.hid hr
  have hmx := hx.len_le
  have hmy := hy.len_le
  unfold maxLen at hmx hmy
  clear hx hy hr
  by_cases hn : n = n'
  · subst hn
    go_enter Try.func14, Try.ntmps14
    go_wp2
    go_loopw [5] (fun i wr => ∃ k d : Nat, i = .int .i64 k ∧ k ≤ n ∧ wr = w.drewN d ∧ Hid (∀ j, j < k → l[j]?.getD 0 = l'[j]?.getD 0)) (fun i _ => n - (intOf i).toNat)
    case atStart => exact ⟨0, 0, rfl, Nat.zero_le _, rfl, fun j h => by omega⟩
    case round =>
      obtain ⟨k, d, rfl, hk, rfl, hall⟩ := hrel
      by_cases hlt : k < n
      · obtain ⟨b, off, rfl, hbk, hc⟩ := HX.out.cells (by omega)
        obtain ⟨b2, off2, rfl, hbk2, hc2⟩ := HY.out.cells (by omega)
        have hck := hc k hlt
        have hck2 := hc2 k hlt
        clear hc hc2
        by_cases he : l[k]?.getD 0 = l'[k]?.getD 0
        · have HE := Lib.hid he
          rw [he] at hck
          clear he
          generalize hxx : l'[k]?.getD 0 = x at *
          have HXX := Lib.hid hxx
          clear hxx
          have ht : ((x : Int) != (x : Int)) = false := by simp
          go_wp2
          go_quiet (fail)
          go_wp2
          go_roundw
          case rel => exact ⟨k + 1, _, by go_num, by omega, rfl, fun j hj => by
            by_cases e : j < k
            · exact hall.out j e
            · obtain rfl : j = k := by omega
              rw [HE.out, HXX.out]⟩
          case measure => simp [intOf]; omega
        · have hrf := Lib.hid (show r = false by rw [HR.out, decide_eq_false (fun e => he (by rw [e]))])
          generalize l[k]?.getD 0 = x at *
          generalize l'[k]?.getD 0 = y at *
          have ht : ((x : Int) != (y : Int)) = true := by simp; omega
          clear he
          go_wp2
          go_quiet (fail)
          go_wp2
          go_ret
          exact ⟨by rw [hrf.out]; rfl, below_drewN (below_drewN (Below.refl _ _) _) _⟩
      · have hrt := Lib.hid (show r = true by
          rw [HR.out, decide_eq_true_iff]
          apply List.ext_getElem
          · rw [HX.out.length, HY.out.length]
          · intro i h1 h2
            have := hall.out i (by rw [HX.out.length] at h1; omega)
            rwa [List.getElem?_eq_getElem h1, List.getElem?_eq_getElem h2] at this)
        go_wp2
        go_ret
        exact ⟨by rw [hrt.out]; rfl, below_drewN (Below.refl _ _) _⟩
  · have hrf := Lib.hid (show r = false by rw [HR.out, decide_eq_false (fun e => hn (by rw [← HX.out.length, ← HY.out.length, e]))])
    have ht : ((n : Int) != (n' : Int)) = true := by simp; omega
    go_enter Try.func14, Try.ntmps14
    go_wp2
    go_ret
    exact ⟨by rw [hrf.out]; rfl, Below.refl _ _⟩

set_option maxHeartbeats 400000 in
theorem words_any (a a' : Option Addr) (n c n' c' : Nat) (l l' : List Nat) (w : World) (hx : Reads .u64 w a n c l) (hy : Reads .u64 w a' n' c' l') (r : Bool) (hr : r = decide (l = l')) :
    Calls Try.prog 15 #[.slice a n c, .slice a' n' c'] w fun e w' => e = .returned (.bool r) ∧ Below w.heap.size w w' := by
  have HX := Lib.hid hx
  have HY := Lib.hid hy
  have HR := Lib.hid hr
  have hmx := hx.len_le
  have hmy := hy.len_le
  unfold maxLen at hmx hmy
  clear hx hy hr
  by_cases hn : n = n'
  · subst hn
    go_enter Try.func15, Try.ntmps15
    go_wp2
    go_loopw [5] (fun i wr => ∃ k d : Nat, i = .int .i64 k ∧ k ≤ n ∧ wr = w.drewN d ∧ Hid (∀ j, j < k → l[j]?.getD 0 = l'[j]?.getD 0)) (fun i _ => n - (intOf i).toNat)
    case atStart => exact ⟨0, 0, rfl, Nat.zero_le _, rfl, fun j h => by omega⟩
    case round =>
      obtain ⟨k, d, rfl, hk, rfl, hall⟩ := hrel
      by_cases hlt : k < n
      · obtain ⟨b, off, rfl, hbk, hc⟩ := HX.out.cells (by omega)
        obtain ⟨b2, off2, rfl, hbk2, hc2⟩ := HY.out.cells (by omega)
        have hck := hc k hlt
        have hck2 := hc2 k hlt
        clear hc hc2
        by_cases he : l[k]?.getD 0 = l'[k]?.getD 0
        · have HE := Lib.hid he
          rw [he] at hck
          clear he
          generalize hxx : l'[k]?.getD 0 = x at *
          have HXX := Lib.hid hxx
          clear hxx
          have ht : ((x : Int) != (x : Int)) = false := by simp
          go_wp2
          go_quiet (fail)
          go_wp2
          go_roundw
          case rel => exact ⟨k + 1, _, by go_num, by omega, rfl, fun j hj => by
            by_cases e : j < k
            · exact hall.out j e
            · obtain rfl : j = k := by omega
              rw [HE.out, HXX.out]⟩
          case measure => simp [intOf]; omega
        · have hrf := Lib.hid (show r = false by rw [HR.out, decide_eq_false (fun e => he (by rw [e]))])
          generalize l[k]?.getD 0 = x at *
          generalize l'[k]?.getD 0 = y at *
          have ht : ((x : Int) != (y : Int)) = true := by simp; omega
          clear he
          go_wp2
          go_quiet (fail)
          go_wp2
          go_ret
          exact ⟨by rw [hrf.out]; rfl, below_drewN (below_drewN (Below.refl _ _) _) _⟩
      · have hrt := Lib.hid (show r = true by
          rw [HR.out, decide_eq_true_iff]
          apply List.ext_getElem
          · rw [HX.out.length, HY.out.length]
          · intro i h1 h2
            have := hall.out i (by rw [HX.out.length] at h1; omega)
            rwa [List.getElem?_eq_getElem h1, List.getElem?_eq_getElem h2] at this)
        go_wp2
        go_ret
        exact ⟨by rw [hrt.out]; rfl, below_drewN (Below.refl _ _) _⟩
  · have hrf := Lib.hid (show r = false by rw [HR.out, decide_eq_false (fun e => hn (by rw [← HX.out.length, ← HY.out.length, e]))])
    have ht : ((n : Int) != (n' : Int)) = true := by simp; omega
    go_enter Try.func15, Try.ntmps15
    go_wp2
    go_ret
    exact ⟨by rw [hrf.out]; rfl, Below.refl _ _⟩


set_option maxHeartbeats 1000000 in
theorem first_zero (w : World) :
    Calls Try.prog 10 #[.int .i64 0] w fun e w' => RetsQ2 .i64 3 w.heap.size w' ([], 0) e ∧ Below w.heap.size w w' := by
  obtain ⟨i0, hi, hz0, hz1, hz2⟩ := info_parts infoI
  go_enter Try.func10, Try.ntmps10
  go_wp2_with (refine wpList_make_lc .i64 _ rfl _ _ 22 rfl w.heap.size 3 i0 Try.underlying22 hi hz0 hz1 _ _ _ _ 0 0 rfl rfl rfl rfl (Nat.le_refl _) (by omega) (by unfold maxLen; omega) (by simp) ?_; intro w1 hown hgrow; have cN := ((Boxed.new w 3 (.int .i64 0)).kept hgrow (by simp)).cell; have lN := ((Boxed.new w 3 (.int .i64 0)).kept hgrow (by simp)).lt; have HOW := Lib.hid hown; have HB1 := Lib.hid (((Below.refl w.heap.size w).alloc (Nat.le_refl _) (.cells #[.int .i64 0] 3)).grown hgrow (by simp) (fun _ h => by cases h)); clear hown hgrow)
  go_ret2
  have HO := HOW.out.alloc (.cells #[.slice (some ⟨w.heap.size + 1, 0, none⟩) 0 0] 22)
  rw [World.size_alloc] at HO
  exact ⟨⟨_, rfl, HO⟩, HB1.out.alloc HB1.out.size _⟩
theorem first_ok {n : Int} (N : Nat) (w : World) (hn : n = N) (h : N ≤ 1000) :
    Calls Try.prog 10 #[.int .i64 n] w fun e w' => RetsQ2 .i64 3 w.heap.size w' (firstP N, 0) e ∧ Below w.heap.size w w' := by
  subst hn
  rcases N with _ | N
  · exact first_zero w
  · exact first_some (N + 1) w (by omega) h

theorem reads_litQ (q : IntKind) (w : World) (E : TypeId) (l : List Nat) (cs : Array Value) (h : cs = (l.map (num q)).toArray) (hm : l.length ≤ maxLen) : Reads q (w.alloc (.cells cs E)) (some ⟨w.heap.size, 0, .none⟩) l.length l.length l := by
  subst h
  refine ⟨rfl, Nat.le_refl _, hm, (fun h => by cases h), fun _ => ⟨w.heap.size, 0, rfl, by simp, fun i hi => ?_⟩⟩
  rw [World.cell?_alloc_at _ _ _ _ (by simp)]
  simp [num, hi]

theorem fraction2_ok {a n v : Int} (A u V : Nat) (w : World) (ha : a = A) (hA : A < 18446744073709551616) (hn : n = u) (h1 : 1 ≤ u) (h2 : u ≤ 64) (hv : v = V) (hV : V = rootN 2 (A * 2 ^ (2 * u)) % 2 ^ u) :
    Calls Try.prog 24 #[.int .u64 a, .int .i64 2, .int .i64 n, .int .u64 v] w fun e w' => e = .returned (.bool true) ∧ Below w.heap.size w w' := by
  have HC := Lib.hid (frac_at2 A u a w hn ha hA h1 h2 V hV)
  subst hv
  clear hn ha hV h1 h2 hA
  go_enter Try.func24, Try.ntmps24
  go_wp2_with fail
  refine HC.out.mono ?_
  rintro e w1 ⟨rfl, hb⟩
  go_wp2
  go_ret
  exact ⟨by simp, hb⟩
theorem fraction3_ok {a n v : Int} (A u V : Nat) (w : World) (ha : a = A) (hA : A < 18446744073709551616) (hn : n = u) (h1 : 1 ≤ u) (h2 : u ≤ 64) (hv : v = V) (hV : V = rootN 3 (A * 2 ^ (3 * u)) % 2 ^ u) :
    Calls Try.prog 24 #[.int .u64 a, .int .i64 3, .int .i64 n, .int .u64 v] w fun e w' => e = .returned (.bool true) ∧ Below w.heap.size w w' := by
  have HC := Lib.hid (frac_at3 A u a w hn ha hA h1 h2 V hV)
  subst hv
  clear hn ha hV h1 h2 hA
  go_enter Try.func24, Try.ntmps24
  go_wp2_with fail
  refine HC.out.mono ?_
  rintro e w1 ⟨rfl, hb⟩
  go_wp2
  go_ret
  exact ⟨by simp, hb⟩

theorem five : firstP 5 = [2, 3, 5, 7, 11] := by
  have h : primesTo 12 = [2, 3, 5, 7, 11] := by kernel_rfl
  rw [← firstP_of (k := 12) (by rw [h]; rfl) (by decide), h]
theorem rootIs {k X r V m : Nat} (hk : 1 ≤ k) (h : Nat.ble (r ^ k) X = true) (h' : Nat.ble (X + 1) ((r + 1) ^ k) = true) (hV : Nat.beq V (r % m) = true) : V = rootN k X % m := by
  rw [← rootN_eq hk ⟨Nat.le_of_ble_eq_true h, Nat.le_of_ble_eq_true h'⟩, Nat.eq_of_beq_eq_true hV]

set_option maxRecDepth 100000 in
set_option maxHeartbeats 1000000 in
theorem aliveP : AliveP := fun w => by
  have h5 := five
  have F1 := Lib.hid (rootIs (k := 2) (X := 2 * 2 ^ (2 * 32)) (r := 6074000999) (V := 1779033703) (m := 2 ^ 32) (by decide) (by kernel_rfl) (by kernel_rfl) (by kernel_rfl))
  have F2 := Lib.hid (rootIs (k := 3) (X := 2 * 2 ^ (3 * 32)) (r := 5411319704) (V := 1116352408) (m := 2 ^ 32) (by decide) (by kernel_rfl) (by kernel_rfl) (by kernel_rfl))
  have F3 := Lib.hid (rootIs (k := 2) (X := 2 * 2 ^ (2 * 64)) (r := 26087635650665564424) (V := 7640891576956012808) (m := 2 ^ 64) (by decide) (by kernel_rfl) (by kernel_rfl) (by kernel_rfl))
  have H5 := Lib.hid h5
  clear h5
  go_enter Try.func22, Try.ntmps22
  go_wp2_with fail
  refine (first_ok 5 _ rfl (by decide)).mono ?_
  rintro e w1 ⟨⟨v1, rfl, ho⟩, hb⟩
  rw [H5.out] at ho
  obtain ⟨a1, n1, c1, rfl, -, ho⟩ := ho.slice
  have F := Lib.hid hb
  have R := Lib.hid (ho.reads.below ((Below.refl w1.heap.size w1).alloc (Nat.le_refl _) (.cells #[.int .i64 2, .int .i64 3, .int .i64 5, .int .i64 7, .int .i64 11] 3)))
  have RL := Lib.hid (reads_litQ .i64 w1 3 [2, 3, 5, 7, 11] #[.int .i64 2, .int .i64 3, .int .i64 5, .int .i64 7, .int .i64 11] rfl (by unfold maxLen; decide))
  clear hb ho
  go_wp2_with fail
  refine (ints_any _ _ _ _ 5 5 _ _ _ R.out RL.out true rfl).mono ?_
  rintro e w2 ⟨rfl, hb⟩
  replace F := Lib.hid ((F.out.alloc F.out.size _).trans (hb.mono (by simp only [World.size_alloc]; have := F.out.size; omega)))
  clear hb
  go_wp2_with fail
  refine (fraction2_ok 2 32 1779033703 _ rfl (by decide) rfl (by decide) (by decide) rfl F1.out).mono ?_
  rintro e w3 ⟨rfl, hb⟩
  replace F := Lib.hid (F.out.trans (hb.mono F.out.size))
  clear hb
  go_wp2_with fail
  refine (fraction3_ok 2 32 1116352408 _ rfl (by decide) rfl (by decide) (by decide) rfl F2.out).mono ?_
  rintro e w4 ⟨rfl, hb⟩
  replace F := Lib.hid (F.out.trans (hb.mono F.out.size))
  clear hb
  go_wp2_with fail
  refine (fraction2_ok 2 64 7640891576956012808 _ rfl (by decide) rfl (by decide) (by decide) rfl F3.out).mono ?_
  rintro e w5 ⟨rfl, hb⟩
  replace F := Lib.hid (F.out.trans (hb.mono F.out.size))
  clear hb
  go_wp2
  go_ret
  exact ⟨rfl, F.out⟩

end Go.Proofs.Ytfeajcgcjpngkaa
