/-
  THE LAW OctetNumbers, WALKED BY ITS CALLEES' CONTRACTS.
-/
import Derived.Test.YtidiapdddkknpaaOct5
import Derived.Deep.RegionHeld3
import Derived.WalkSmall
namespace Go.Proofs.Ytidiapdddkknpaa
open Go.RowKit

theorem conv8 {w : World} {a : Option Addr} {len cap : Nat} {l : List UInt8} (h : Bts w a len cap l) :
    (convert 22 9 (.slice a len cap)).run Try.prog w = .ok (.string (strOf l)) w :=
  h.convert (P := Try.prog) _ _ _ Try.underlying22 Try.underlying5 Try.underlying9

theorem RetsOwn2.form {B : Nat} {w : World} {r : List UInt8 × Int} {e : Ending} (h : RetsOwn2 B w r e) : ∃ a cap, e = .returned (.tuple #[.slice a r.1.length cap, .int .i64 r.2]) ∧ Own8 5 B w (.slice a r.1.length cap) r.1 := by
  obtain ⟨v, rfl, ho⟩ := h
  obtain ⟨a, cap, rfl, _, _⟩ := ho.form
  exact ⟨a, cap, rfl, ho⟩

theorem RetsOwn.form {B : Nat} {w : World} {l : List UInt8} {e : Ending} (h : RetsOwn B w l e) : ∃ a cap, e = .returned (.slice a l.length cap) ∧ Own8 5 B w (.slice a l.length cap) l := by
  obtain ⟨v, rfl, ho⟩ := h
  obtain ⟨a, cap, rfl, _, _⟩ := ho.form
  exact ⟨a, cap, rfl, ho⟩

set_option maxRecDepth 100000 in
set_option maxHeartbeats 2000000 in
theorem numbers_main (n : Nat) (hn : Hid (n < 256 ^ 8)) (a : Option Addr) (len cap : Nat) (l : List UInt8) (s : Int) (w : World) (h : Bts w a len cap l) (hlen : len ≤ 2000) (hs : s ≤ 3000 ∨ 65536 < s) :
    Calls Try.prog 4 #[.int .u64 (n : Int), .slice a len cap, .int .i64 s] w fun e w' => e = .returned (.bool true) ∧ Below w.heap.size w w' := by
  have H := Lib.hid h
  obtain rfl := h.length
  have hd1 : decide ((3000 : Int) < s) = decide ((65536 : Int) < s) := by
    rcases hs with hs | hs
    · rw [decide_eq_false (by omega), decide_eq_false (by omega)]
    · rw [decide_eq_true (by omega), decide_eq_true (by omega)]
  clear h
  go_enter Try.func4, Try.ntmps4
  rcases hs with hs | hs
  all_goals
    go_wp2_with fail
    refine (twin_any _ _ _ l _ H.out hlen).mono ?_
    rintro e1 w1 ⟨⟨g, c1, rfl, hc1, hT⟩, hb1⟩
    have hT1 := Lib.hid hT.bts
    have hT2 := Lib.hid (show Bts w1 (some ⟨g, 0, none⟩) l.length c1 l by simpa using hT.bts.take (k := l.length) (by omega))
    clear hT
    go_wp2_with fail
    refine (big_any n s _ hn).mono ?_
    rintro e2 w2 ⟨hr, hb2⟩
    obtain ⟨xa, xc, rfl, hx⟩ := hr.form
    have HX := Lib.hid hx
    clear hx hr
    generalize hR : bigR n s = R at *
    have HR := Lib.hid hR
    clear hR
    go_wp2_with fail
    refine (refbig_any n s _ hn).mono ?_
    rintro e3 w3 ⟨hr, hb3⟩
    rw [HR.out] at hr
    obtain ⟨ya, yc, rfl, hy⟩ := hr.form
    have HY := Lib.hid hy
    clear hy hr
    have h03 := Lib.hid ((hb1.trans (hb2.mono hb1.size)).trans (hb3.mono (Nat.le_trans hb1.size hb2.size)))
    have h13 := Lib.hid (hb2.trans (hb3.mono hb2.size))
    go_wp2_with fail
    refine (whole_any _ _ _ l _ (hT2.out.below h13.out)).mono ?_
    rintro e4 w4 ⟨rfl, rfl⟩
    go_wp2_with fail
    refine (refwhole_any _ _ _ l _ (H.out.below h03.out)).mono ?_
    rintro e4 w4 ⟨rfl, rfl⟩
    go_wp2_with fail
    refine (pad_any _ _ _ l s _ (hT2.out.below h13.out)).mono ?_
    rintro e4 w4 ⟨hr, hb4⟩
    obtain ⟨pa, pc, rfl, hp⟩ := hr.form
    have HP := Lib.hid hp
    clear hp hr
    generalize hR2 : padR l s = R2 at *
    have HR2 := Lib.hid hR2
    clear hR2
    have h04 := Lib.hid (h03.out.trans (hb4.mono h03.out.size))
    have h14 := Lib.hid (h13.out.trans (hb4.mono h13.out.size))
    go_wp2_with fail
    refine (refpad_any _ _ _ l s _ (H.out.below h04.out) (by omega)).mono ?_
    rintro e5 w5 ⟨hr, hb5⟩
    rw [HR2.out] at hr
    obtain ⟨qa, qc, rfl, hq⟩ := hr.form
    have HQ := Lib.hid hq
    clear hq hr
    have h15 := Lib.hid (h14.out.trans (hb5.mono h14.out.size))
    have h05 := Lib.hid (h04.out.trans (hb5.mono h04.out.size))
    go_wp2_with fail
    refine (trim_any _ _ _ l _ (hT2.out.below h15.out) (by omega)).mono ?_
    rintro e6 w6 ⟨hr, hb6⟩
    obtain ⟨ta, tc, rfl, ht⟩ := hr.form
    have HT := Lib.hid ht
    clear ht hr
    generalize hT9 : bareL l = T at *
    have HT9 := Lib.hid hT9
    clear hT9
    have h06 := Lib.hid (h05.out.trans (hb6.mono h05.out.size))
    have h16 := Lib.hid (h15.out.trans (hb6.mono h15.out.size))
    have h46 := Lib.hid (hb5.trans (hb6.mono hb5.size))
    have h36 := Lib.hid (hb4.trans (h46.out.mono hb4.size))
    have h26 := Lib.hid (hb3.trans (h36.out.mono hb3.size))
    have kx := fun W (hW : Below w6.heap.size w6 W) => conv8 ((HX.out.bts.below h26.out).below hW)
    have ky := fun W (hW : Below w6.heap.size w6 W) => conv8 ((HY.out.bts.below h36.out).below hW)
    have kp := fun W (hW : Below w6.heap.size w6 W) => conv8 ((HP.out.bts.below h46.out).below hW)
    have kq := fun W (hW : Below w6.heap.size w6 W) => conv8 ((HQ.out.bts.below hb6).below hW)
    have kt := fun W (hW : Below w6.heap.size w6 W) => conv8 (HT.out.bts.below hW)
    have KX := Lib.hid kx
    have KY := Lib.hid ky
    have KP := Lib.hid kp
    have KQ := Lib.hid kq
    have KT := Lib.hid kt
    have hz1 := hb1.size
    have hz2 := hb2.size
    have hz3 := hb3.size
    have hz4 := hb4.size
    have hz5 := hb5.size
    have hz6 := hb6.size
    clear kx ky kp kq kt hb1 hb2 hb3 hb4 hb5 hb6
    go_wp2_with fail
    refine wp_region_held_drew (S := (fun W => (convert 22 9 (.slice xa R.1.length xc)).run Try.prog W = .ok (.string (strOf R.1)) W ∧ (convert 22 9 (.slice ya R.1.length yc)).run Try.prog W = .ok (.string (strOf R.1)) W ∧ (convert 22 9 (.slice pa R2.1.length pc)).run Try.prog W = .ok (.string (strOf R2.1)) W ∧ (convert 22 9 (.slice qa R2.1.length qc)).run Try.prog W = .ok (.string (strOf R2.1)) W ∧ (convert 22 9 (.slice ta T.length tc)).run Try.prog W = .ok (.string (strOf T)) W)) (by kernel_rfl) ⟨KX.out _ (Below.refl _ _).drew, KY.out _ (Below.refl _ _).drew, KP.out _ (Below.refl _ _).drew, KQ.out _ (Below.refl _ _).drew, KT.out _ (Below.refl _ _).drew⟩ (fun hHeld => ?_)
    refine' wpAnyH_take (i := 0) (oi := _) (v := _) rfl (by kernel_rfl) (by kernel_rfl) (by kernel_rfl) (fun _ _ _ h => h) (Or.inl ⟨?_, ?_⟩) (by assumption) ?_
    rotate_left
    all_goals (try simp only [List.getElem_toArray, List.getElem_cons_succ, List.getElem_cons_zero])
    · rfl
    · intro W hSw; (try dsimp only at hSw); go_simp; (try with_reducible rfl)
    try simp only [Act.put, List.setIfInBounds_toArray, List.set_cons_zero, List.set_cons_succ]
    refine' wpAnyH_take (i := 1) (oi := _) (v := _) rfl (by kernel_rfl) (by kernel_rfl) (by kernel_rfl) (fun _ _ _ h => h) (Or.inl ⟨?_, ?_⟩) (by assumption) ?_
    rotate_left
    all_goals (try simp only [List.getElem_toArray, List.getElem_cons_succ, List.getElem_cons_zero])
    · rfl
    · intro W hSw; (try dsimp only at hSw); go_simp; (try with_reducible rfl)
    try simp only [Act.put, List.setIfInBounds_toArray, List.set_cons_zero, List.set_cons_succ]
    refine' wpAnyH_take (i := 2) (oi := _) (v := _) rfl (by kernel_rfl) (by kernel_rfl) (by kernel_rfl) (fun _ _ _ h => h) (Or.inl ⟨?_, ?_⟩) (by assumption) ?_
    rotate_left
    all_goals (try simp only [List.getElem_toArray, List.getElem_cons_succ, List.getElem_cons_zero])
    · rfl
    · intro W hSw; (try dsimp only at hSw); go_simp; (try with_reducible rfl)
    try simp only [Act.put, List.setIfInBounds_toArray, List.set_cons_zero, List.set_cons_succ]
    refine' wpAnyH_take (i := 3) (oi := _) (v := _) rfl (by kernel_rfl) (by kernel_rfl) (by kernel_rfl) (fun _ _ _ h => h) (Or.inl ⟨?_, ?_⟩) (by assumption) ?_
    rotate_left
    all_goals (try simp only [List.getElem_toArray, List.getElem_cons_succ, List.getElem_cons_zero])
    · rfl
    · intro W hSw; (try dsimp only at hSw); go_simp; (try with_reducible rfl)
    try simp only [Act.put, List.setIfInBounds_toArray, List.set_cons_zero, List.set_cons_succ]
    refine' wpAnyH_take (i := 4) (oi := _) (v := _) rfl (by kernel_rfl) (by kernel_rfl) (by kernel_rfl) (fun _ _ _ h => h) (Or.inl ⟨?_, ?_⟩) (by assumption) ?_
    rotate_left
    all_goals (try simp only [List.getElem_toArray, List.getElem_cons_succ, List.getElem_cons_zero])
    · rfl
    · intro W hSw; (try dsimp only at hSw); go_simp; (try with_reducible rfl)
    try simp only [Act.put, List.setIfInBounds_toArray, List.set_cons_zero, List.set_cons_succ]
    refine' wpAnyH_take (i := 5) (oi := _) (v := _) rfl (by kernel_rfl) (by kernel_rfl) (by kernel_rfl) (fun _ _ _ h => h) (Or.inl ⟨?_, ?_⟩) (by assumption) ?_
    rotate_left
    all_goals (try simp only [List.getElem_toArray, List.getElem_cons_succ, List.getElem_cons_zero])
    · rfl
    · intro W hSw; (try dsimp only at hSw); go_simp; (try with_reducible rfl)
    try simp only [Act.put, List.setIfInBounds_toArray, List.set_cons_zero, List.set_cons_succ]
    refine' wpAnyH_take (i := 6) (oi := _) (v := _) rfl (by kernel_rfl) (by kernel_rfl) (by kernel_rfl) (fun _ _ _ h => h) (Or.inl ⟨?_, ?_⟩) (by assumption) ?_
    rotate_left
    all_goals (try simp only [List.getElem_toArray, List.getElem_cons_succ, List.getElem_cons_zero])
    · rfl
    · intro W hSw; (try dsimp only at hSw); go_simp; (try with_reducible rfl)
    try simp only [Act.put, List.setIfInBounds_toArray, List.set_cons_zero, List.set_cons_succ]
    refine' wpAnyH_take (i := 7) (oi := _) (v := _) rfl (by kernel_rfl) (by kernel_rfl) (by kernel_rfl) (fun _ _ _ h => h) (Or.inl ⟨?_, ?_⟩) (by assumption) ?_
    rotate_left
    all_goals (try simp only [List.getElem_toArray, List.getElem_cons_succ, List.getElem_cons_zero])
    · rfl
    · intro W hSw; (try dsimp only at hSw); go_simp; (try with_reducible rfl)
    try simp only [Act.put, List.setIfInBounds_toArray, List.set_cons_zero, List.set_cons_succ]
    refine' wpAnyH_take (i := 8) (oi := _) (v := _) rfl (by kernel_rfl) (by kernel_rfl) (by kernel_rfl) (fun _ _ _ h => h) (Or.inl ⟨?_, ?_⟩) (by assumption) ?_
    rotate_left
    all_goals (try simp only [List.getElem_toArray, List.getElem_cons_succ, List.getElem_cons_zero])
    · rfl
    · intro W hSw; (try dsimp only at hSw); go_simp; (try with_reducible rfl)
    try simp only [Act.put, List.setIfInBounds_toArray, List.set_cons_zero, List.set_cons_succ]
    refine' wpAnyH_take (i := 9) (oi := _) (v := _) rfl (by kernel_rfl) (by kernel_rfl) (by kernel_rfl) (fun _ _ _ h => h) (Or.inl ⟨?_, ?_⟩) (by assumption) ?_
    rotate_left
    all_goals (try simp only [List.getElem_toArray, List.getElem_cons_succ, List.getElem_cons_zero])
    · rfl
    · intro W hSw; (try dsimp only at hSw); go_simp; (try with_reducible rfl)
    try simp only [Act.put, List.setIfInBounds_toArray, List.set_cons_zero, List.set_cons_succ]
    refine' wpAnyH_take (i := 10) (oi := _) (v := _) rfl (by kernel_rfl) (by kernel_rfl) (by kernel_rfl) (fun _ _ _ h => h) (Or.inl ⟨?_, ?_⟩) (by assumption) ?_
    rotate_left
    all_goals (try simp only [List.getElem_toArray, List.getElem_cons_succ, List.getElem_cons_zero])
    · rfl
    · intro W hSw; (try dsimp only at hSw); go_simp; (try with_reducible rfl)
    try simp only [Act.put, List.setIfInBounds_toArray, List.set_cons_zero, List.set_cons_succ]
    refine' wpAnyH_take (i := 11) (oi := _) (v := _) rfl (by kernel_rfl) (by kernel_rfl) (by kernel_rfl) (fun _ _ _ h => h) (Or.inl ⟨?_, ?_⟩) (by assumption) ?_
    rotate_left
    all_goals (try simp only [List.getElem_toArray, List.getElem_cons_succ, List.getElem_cons_zero])
    · rfl
    · intro W hSw; (try dsimp only at hSw); go_simp; (try with_reducible rfl)
    try simp only [Act.put, List.setIfInBounds_toArray, List.set_cons_zero, List.set_cons_succ]
    refine' wpAnyH_take (i := 12) (oi := _) (v := _) rfl (by kernel_rfl) (by kernel_rfl) (by kernel_rfl) (fun _ _ _ h => h) (Or.inl ⟨?_, ?_⟩) (by assumption) ?_
    rotate_left
    all_goals (try simp only [List.getElem_toArray, List.getElem_cons_succ, List.getElem_cons_zero])
    · rfl
    · intro W hSw; (try dsimp only at hSw); go_simp; (try with_reducible rfl)
    try simp only [Act.put, List.setIfInBounds_toArray, List.set_cons_zero, List.set_cons_succ]
    refine' wpAnyH_take (i := 13) (oi := _) (v := _) rfl (by kernel_rfl) (by kernel_rfl) (by kernel_rfl) (fun _ _ _ h => h) (Or.inl ⟨?_, ?_⟩) (by assumption) ?_
    rotate_left
    all_goals (try simp only [List.getElem_toArray, List.getElem_cons_succ, List.getElem_cons_zero])
    · rfl
    · intro W hSw; (try dsimp only at hSw); go_simp; (try with_reducible rfl)
    try simp only [Act.put, List.setIfInBounds_toArray, List.set_cons_zero, List.set_cons_succ]
    refine' wpAnyH_take (i := 14) (oi := _) (v := _) rfl (by kernel_rfl) (by kernel_rfl) (by kernel_rfl) (fun _ _ _ h => h) (Or.inl ⟨?_, ?_⟩) (by assumption) ?_
    rotate_left
    all_goals (try simp only [List.getElem_toArray, List.getElem_cons_succ, List.getElem_cons_zero])
    · rfl
    · intro W hSw; (try dsimp only at hSw); go_simp; (try with_reducible rfl)
    try simp only [Act.put, List.setIfInBounds_toArray, List.set_cons_zero, List.set_cons_succ]
    refine' wpAnyH_take (i := 15) (oi := _) (v := _) rfl (by kernel_rfl) (by kernel_rfl) (by kernel_rfl) (fun _ _ _ h => h) (Or.inl ⟨?_, ?_⟩) (by assumption) ?_
    rotate_left
    all_goals (try simp only [List.getElem_toArray, List.getElem_cons_succ, List.getElem_cons_zero])
    · rfl
    · intro W hSw; (try dsimp only at hSw); go_simp; (try with_reducible rfl)
    try simp only [Act.put, List.setIfInBounds_toArray, List.set_cons_zero, List.set_cons_succ]
    refine' wpAnyH_take (i := 16) (oi := _) (v := _) rfl (by kernel_rfl) (by kernel_rfl) (by kernel_rfl) (fun _ _ _ h => h) (Or.inl ⟨?_, ?_⟩) (by assumption) ?_
    rotate_left
    all_goals (try simp only [List.getElem_toArray, List.getElem_cons_succ, List.getElem_cons_zero])
    · rfl
    · intro W hSw; (try dsimp only at hSw); go_simp; (try with_reducible rfl)
    try simp only [Act.put, List.setIfInBounds_toArray, List.set_cons_zero, List.set_cons_succ]
    refine' wpAnyH_take (i := 17) (oi := _) (v := _) rfl (by kernel_rfl) (by kernel_rfl) (by kernel_rfl) (fun _ _ _ h => h) (Or.inl ⟨?_, ?_⟩) (by assumption) ?_
    rotate_left
    all_goals (try simp only [List.getElem_toArray, List.getElem_cons_succ, List.getElem_cons_zero])
    · rfl
    · intro W hSw; (try dsimp only at hSw); go_simp; (try with_reducible rfl)
    try simp only [Act.put, List.setIfInBounds_toArray, List.set_cons_zero, List.set_cons_succ]
    refine' wpAnyH_take (i := 18) (oi := _) (v := _) rfl (by kernel_rfl) (by kernel_rfl) (by kernel_rfl) (fun _ _ _ h => h) (Or.inl ⟨?_, ?_⟩) (by assumption) ?_
    rotate_left
    all_goals (try simp only [List.getElem_toArray, List.getElem_cons_succ, List.getElem_cons_zero])
    · rfl
    · intro W hSw; (try dsimp only at hSw); go_simp; (try with_reducible rfl)
    try simp only [Act.put, List.setIfInBounds_toArray, List.set_cons_zero, List.set_cons_succ]
    refine' wpAnyH_take (i := 19) (oi := _) (v := _) rfl (by kernel_rfl) (by kernel_rfl) (by kernel_rfl) (fun _ _ _ h => h) (Or.inl ⟨?_, ?_⟩) (by assumption) ?_
    rotate_left
    all_goals (try simp only [List.getElem_toArray, List.getElem_cons_succ, List.getElem_cons_zero])
    · rfl
    · intro W hSw; (try dsimp only at hSw); go_simp; (try with_reducible rfl)
    try simp only [Act.put, List.setIfInBounds_toArray, List.set_cons_zero, List.set_cons_succ]
    refine' wpAnyH_take (i := 20) (oi := _) (v := _) rfl (by kernel_rfl) (by kernel_rfl) (by kernel_rfl) (fun _ _ _ h => h) (Or.inl ⟨?_, ?_⟩) (by assumption) ?_
    rotate_left
    all_goals (try simp only [List.getElem_toArray, List.getElem_cons_succ, List.getElem_cons_zero])
    · rfl
    · intro W hSw; (try dsimp only at hSw); go_simp; (try with_reducible rfl)
    try simp only [Act.put, List.setIfInBounds_toArray, List.set_cons_zero, List.set_cons_succ]
    refine' wpAnyH_take (i := 21) (oi := _) (v := _) rfl (by kernel_rfl) (by kernel_rfl) (by kernel_rfl) (fun _ _ _ h => h) (Or.inl ⟨?_, ?_⟩) (by assumption) ?_
    rotate_left
    all_goals (try simp only [List.getElem_toArray, List.getElem_cons_succ, List.getElem_cons_zero])
    · rfl
    · intro W hSw; (try dsimp only at hSw); go_simp; (try with_reducible rfl)
    try simp only [Act.put, List.setIfInBounds_toArray, List.set_cons_zero, List.set_cons_succ]
    refine' wpAnyH_take (i := 22) (oi := _) (v := _) rfl (by kernel_rfl) (by kernel_rfl) (by kernel_rfl) (fun _ _ _ h => h) (Or.inl ⟨?_, ?_⟩) (by assumption) ?_
    rotate_left
    all_goals (try simp only [List.getElem_toArray, List.getElem_cons_succ, List.getElem_cons_zero])
    · rfl
    · intro W hSw; (try dsimp only at hSw); go_simp; (try with_reducible rfl)
    try simp only [Act.put, List.setIfInBounds_toArray, List.set_cons_zero, List.set_cons_succ]
    refine' wpAnyH_take (i := 23) (oi := _) (v := _) rfl (by kernel_rfl) (by kernel_rfl) (by kernel_rfl) (fun _ _ _ h => h) (Or.inl ⟨?_, ?_⟩) (by assumption) ?_
    rotate_left
    all_goals (try simp only [List.getElem_toArray, List.getElem_cons_succ, List.getElem_cons_zero])
    · rfl
    · intro W hSw; (try dsimp only at hSw); go_simp; (try with_reducible rfl)
    try simp only [Act.put, List.setIfInBounds_toArray, List.set_cons_zero, List.set_cons_succ]
    refine' wpAnyH_take (i := 24) (oi := _) (v := _) rfl (by kernel_rfl) (by kernel_rfl) (by kernel_rfl) (fun _ _ _ h => h) (Or.inl ⟨?_, ?_⟩) (by assumption) ?_
    rotate_left
    all_goals (try simp only [List.getElem_toArray, List.getElem_cons_succ, List.getElem_cons_zero])
    · rfl
    · intro W hSw; (try dsimp only at hSw); go_simp; (try with_reducible rfl)
    try simp only [Act.put, List.setIfInBounds_toArray, List.set_cons_zero, List.set_cons_succ]
    refine' wpAnyH_take (i := 25) (oi := _) (v := _) rfl (by kernel_rfl) (by kernel_rfl) (by kernel_rfl) (fun _ _ _ h => h) (Or.inl ⟨?_, ?_⟩) (by assumption) ?_
    rotate_left
    all_goals (try simp only [List.getElem_toArray, List.getElem_cons_succ, List.getElem_cons_zero])
    · rfl
    · intro W hSw; (try dsimp only at hSw); go_simp; (try with_reducible rfl)
    try simp only [Act.put, List.setIfInBounds_toArray, List.set_cons_zero, List.set_cons_succ]
    refine' wpAnyH_take (i := 26) (oi := _) (v := _) rfl (by kernel_rfl) (by kernel_rfl) (by kernel_rfl) (fun _ _ _ h => h) (Or.inl ⟨?_, ?_⟩) (by assumption) ?_
    rotate_left
    all_goals (try simp only [List.getElem_toArray, List.getElem_cons_succ, List.getElem_cons_zero])
    · rfl
    · intro W hSw; (try dsimp only at hSw); go_simp; (try with_reducible rfl)
    try simp only [Act.put, List.setIfInBounds_toArray, List.set_cons_zero, List.set_cons_succ]
    refine' wpAnyH_take (i := 27) (oi := _) (v := _) rfl (by kernel_rfl) (by kernel_rfl) (by kernel_rfl) (fun _ _ _ h => h) (Or.inl ⟨?_, ?_⟩) (by assumption) ?_
    rotate_left
    all_goals (try simp only [List.getElem_toArray, List.getElem_cons_succ, List.getElem_cons_zero])
    · rfl
    · intro W hSw; (try dsimp only at hSw); go_simp; (try with_reducible rfl)
    try simp only [Act.put, List.setIfInBounds_toArray, List.set_cons_zero, List.set_cons_succ]
    refine' wpAnyH_take (i := 28) (oi := _) (v := _) rfl (by kernel_rfl) (by kernel_rfl) (by kernel_rfl) (fun _ _ _ h => h) (Or.inl ⟨?_, ?_⟩) (by assumption) ?_
    rotate_left
    all_goals (try simp only [List.getElem_toArray, List.getElem_cons_succ, List.getElem_cons_zero])
    · rfl
    · intro W hSw; (try dsimp only at hSw); go_simp; (try with_reducible rfl)
    try simp only [Act.put, List.setIfInBounds_toArray, List.set_cons_zero, List.set_cons_succ]
    refine' wpAnyH_take (i := 29) (oi := _) (v := _) rfl (by kernel_rfl) (by kernel_rfl) (by kernel_rfl) (fun _ _ _ h => h) (Or.inl ⟨?_, ?_⟩) (by assumption) ?_
    rotate_left
    all_goals (try simp only [List.getElem_toArray, List.getElem_cons_succ, List.getElem_cons_zero])
    · rfl
    · intro W hSw; (try dsimp only at hSw); go_simp; (try with_reducible rfl)
    try simp only [Act.put, List.setIfInBounds_toArray, List.set_cons_zero, List.set_cons_succ]
    refine' wpAnyH_take (i := 30) (oi := _) (v := _) rfl (by kernel_rfl) (by kernel_rfl) (by kernel_rfl) (fun _ _ _ h => h) (Or.inl ⟨?_, ?_⟩) (by assumption) ?_
    rotate_left
    all_goals (try simp only [List.getElem_toArray, List.getElem_cons_succ, List.getElem_cons_zero])
    · rfl
    · intro W hSw; (try dsimp only at hSw); go_simp; (try with_reducible rfl)
    try simp only [Act.put, List.setIfInBounds_toArray, List.set_cons_zero, List.set_cons_succ]
    refine' wpAnyH_take (i := 31) (oi := _) (v := _) rfl (by kernel_rfl) (by kernel_rfl) (by kernel_rfl) (fun _ _ _ h => h) (Or.inl ⟨?_, ?_⟩) (by assumption) ?_
    rotate_left
    all_goals (try simp only [List.getElem_toArray, List.getElem_cons_succ, List.getElem_cons_zero])
    · rfl
    · intro W hSw; (try dsimp only at hSw); go_simp; (try with_reducible rfl)
    try simp only [Act.put, List.setIfInBounds_toArray, List.set_cons_zero, List.set_cons_succ]
    refine' wpAnyH_take (i := 32) (oi := _) (v := _) rfl (by kernel_rfl) (by kernel_rfl) (by kernel_rfl) (fun _ _ _ h => h) (Or.inl ⟨?_, ?_⟩) (by assumption) ?_
    rotate_left
    all_goals (try simp only [List.getElem_toArray, List.getElem_cons_succ, List.getElem_cons_zero])
    · rfl
    · intro W hSw; (try dsimp only at hSw); go_simp; (try with_reducible rfl)
    try simp only [Act.put, List.setIfInBounds_toArray, List.set_cons_zero, List.set_cons_succ]
    refine' wpAnyH_take (i := 33) (oi := _) (v := _) rfl (by kernel_rfl) (by kernel_rfl) (by kernel_rfl) (fun _ _ _ h => h) (Or.inl ⟨?_, ?_⟩) (by assumption) ?_
    rotate_left
    all_goals (try simp only [List.getElem_toArray, List.getElem_cons_succ, List.getElem_cons_zero])
    · rfl
    · intro W hSw; (try dsimp only at hSw); go_simp; (try with_reducible rfl)
    try simp only [Act.put, List.setIfInBounds_toArray, List.set_cons_zero, List.set_cons_succ]
    refine' wpAnyH_take (i := 34) (oi := _) (v := _) rfl (by kernel_rfl) (by kernel_rfl) (by kernel_rfl) (fun _ _ _ h => h) (Or.inl ⟨?_, ?_⟩) (by assumption) ?_
    rotate_left
    all_goals (try simp only [List.getElem_toArray, List.getElem_cons_succ, List.getElem_cons_zero])
    · rfl
    · intro W hSw; (try dsimp only at hSw); go_simp; (try with_reducible rfl)
    try simp only [Act.put, List.setIfInBounds_toArray, List.set_cons_zero, List.set_cons_succ]
    refine' wpAnyH_take (i := 35) (oi := _) (v := _) rfl (by kernel_rfl) (by kernel_rfl) (by kernel_rfl) (fun _ _ _ h => h) (Or.inl ⟨?_, ?_⟩) (by assumption) ?_
    rotate_left
    all_goals (try simp only [List.getElem_toArray, List.getElem_cons_succ, List.getElem_cons_zero])
    · rfl
    · intro W hSw; (try dsimp only at hSw); go_simp; (try with_reducible rfl)
    try simp only [Act.put, List.setIfInBounds_toArray, List.set_cons_zero, List.set_cons_succ]
    refine wpAnyH_ready (rs := [36]) (by kernel_rfl) (by simp) ?_
    refine AllReadyH.cons (o := _) rfl (fun K hK => ?_) AllReadyH.nil
    try simp only [List.getElem_toArray, List.getElem_cons_succ, List.getElem_cons_zero]
    go_simp
    refine (reftrim_any _ _ _ l _ ((H.out.below h06.out).below (Below.refl _ _).drew) (by omega)).mono ?_; rintro e7 w7 ⟨hr, hb7⟩; rw [HT9.out] at hr; obtain ⟨ua, uc, rfl, hu⟩ := hr.form; have hb67 := ((Below.refl w6.heap.size w6).drew).trans hb7; have ku := conv8 hu.bts; have HU := Lib.hid hu; have HB7 := Lib.hid hb67; clear hu hb67 hb7 hr
    go_wp2_with fail
    refine hK.out _ _ ⟨KX.out _ HB7.out, KY.out _ HB7.out, KP.out _ HB7.out, KQ.out _ HB7.out, KT.out _ HB7.out⟩ (fun hHeld => ?_)
    clear hK K
    try simp only [Act.put, List.setIfInBounds_toArray, List.set_cons_zero, List.set_cons_succ]
    refine wpAnyH_ready (rs := [37]) (by kernel_rfl) (by simp) ?_
    refine AllReadyH.cons (o := _) rfl (fun K hK => ?_) AllReadyH.nil
    try simp only [List.getElem_toArray, List.getElem_cons_succ, List.getElem_cons_zero]
    go_simp
    refine hK.out _ _ ⟨KX.out _ HB7.out, KY.out _ HB7.out, KP.out _ HB7.out, KQ.out _ HB7.out, KT.out _ HB7.out⟩ (fun hHeld => ?_)
    clear hK K
    try simp only [Act.put, List.setIfInBounds_toArray, List.set_cons_zero, List.set_cons_succ]
    refine' wpAnyH_take (i := 38) (oi := _) (v := _) rfl (by kernel_rfl) (by kernel_rfl) (by kernel_rfl) (fun _ _ _ h => h) (Or.inl ⟨?_, ?_⟩) (by assumption) ?_
    rotate_left
    all_goals (try simp only [List.getElem_toArray, List.getElem_cons_succ, List.getElem_cons_zero])
    · rfl
    · intro W hSw; (try dsimp only at hSw); go_simp; (try with_reducible rfl)
    try simp only [Act.put, List.setIfInBounds_toArray, List.set_cons_zero, List.set_cons_succ]
    refine' wpAnyH_take (i := 39) (oi := _) (v := _) rfl (by kernel_rfl) (by kernel_rfl) (by kernel_rfl) (fun _ _ _ h => h) (Or.inl ⟨?_, ?_⟩) (by assumption) ?_
    rotate_left
    all_goals (try simp only [List.getElem_toArray, List.getElem_cons_succ, List.getElem_cons_zero])
    · rfl
    · intro W hSw; (try dsimp only at hSw); go_simp; (try with_reducible rfl)
    try simp only [Act.put, List.setIfInBounds_toArray, List.set_cons_zero, List.set_cons_succ]
    refine wpAnyH_done (by kernel_rfl) ?_ _
    have h17 := Lib.hid (h16.out.trans (HB7.out.mono h16.out.size))
    have h07 := Lib.hid (h06.out.trans (HB7.out.mono h06.out.size))
    have hz7 := HB7.out.size
    have h07' : w.heap.size ≤ w1.heap.size := hz1
    go_wp2_with fail
    have hal := (Below.refl w7.heap.size w7).alloc (Nat.le_refl _) (.cells #[.slice xa R.1.length xc, .slice pa R2.1.length pc, .slice ta T.length tc] 22)
    have lx := LiveRow.of_own (lb := w7.heap.size) HX.out ((h26.out.trans (HB7.out.mono h26.out.size)).trans (hal.mono (by omega))) (by omega)
    have lp := LiveRow.of_own (lb := w7.heap.size) (HP.out.mono (show w1.heap.size ≤ w3.heap.size by omega)) ((h46.out.trans (HB7.out.mono h46.out.size)).trans (hal.mono (by omega))) (by omega)
    have lt := LiveRow.of_own (lb := w7.heap.size) (HT.out.mono (show w1.heap.size ≤ w5.heap.size by omega)) (HB7.out.trans (hal.mono (by omega))) (by omega)
    refine (spoil_any w1.heap.size w7.heap.size 3 3 [(xa, R.1.length, xc, R.1), (pa, R2.1.length, pc, R2.1), (ta, T.length, tc, T)] _ ⟨rfl, by unfold maxLen; omega, cells3 w7 _ _ _ _, fun i hi => match i, hi with | 0, _ => lx | 1, _ => lp | 2, _ => lt⟩).mono ?_
    rintro e8 w8 ⟨rfl, hb8⟩
    have h18 := Lib.hid ((h17.out.alloc (by omega) _).trans hb8)
    have h08 := Lib.hid ((h07.out.alloc (by omega) _).trans (hb8.mono h07'))
    clear hal lx lp lt
    go_wp2_with fail
    refine (kept_any g c1 a l.length cap l _ (hT1.out.below h18.out) (H.out.below h08.out) hlen).mono ?_
    rintro e9 w9 ⟨rfl, k9, rfl⟩
    go_wp2_with fail
    go_ret
    exact ⟨rfl, below_drewN h08.out k9⟩

set_option maxHeartbeats 400000 in
/-- THE WHOLE LAW: any number, bytes and size. -/
theorem numbers_walk (n : Int) (hn : (Lit.int .u64 n).wf = true) (a : Option Addr) (len cap : Nat) (l : List UInt8) (s : Int) (w : World) (h : Bts w a len cap l) :
    Calls Try.prog 4 #[.int .u64 n, .slice a len cap, .int .i64 s] w fun e w' => e = .returned (.bool true) ∧ Below w.heap.size w w' := by
  obtain ⟨m, rfl, hm⟩ := nat_of_u64 hn
  clear hn
  have hlm := h.len_le
  unfold maxLen at hlm
  by_cases hl : len ≤ 2000
  · by_cases hs : s ≤ 3000 ∨ 65536 < s
    · exact numbers_main m hm a len cap l s w h hl hs
    · have hs1 : 3000 < s := by omega
      have hs2 : s ≤ 65536 := by omega
      clear h hs hm
      go_enter Try.func4, Try.ntmps4
      go_wp2
      go_ret
      exact ⟨rfl, Below.refl _ _⟩
  · have hl' : 2000 < len := by omega
    clear h hm
    go_enter Try.func4, Try.ntmps4
    go_wp2
    go_ret
    exact ⟨rfl, Below.refl _ _⟩

end Go.Proofs.Ytidiapdddkknpaa
