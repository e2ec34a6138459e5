/-
  MERGED: MonD MonE MonF
-/
import Derived.Test.YtebfoalcmnpghaaMonAC
import Derived.Test.YtebfoalcmnpghaaRatB
import Derived.Deep.RegionHeld
namespace Go.Proofs.Ytebfoalcmnpghaa
open Go.RowKit

/-- A natural as wide as the modulus. -/
def WideAt (w : World) (v : Value) (n X : Nat) : Prop := ∃ a c, v = .slice a n c ∧ Reads .u32 w a n c (wideN n X) ∧ X < radix n
theorem WideAt.below {w w' : World} {v : Value} {n X : Nat} (h : WideAt w v n X) (hb : Below w.heap.size w w') : WideAt w' v n X := by
  obtain ⟨a, c, hv, hr, hx⟩ := h
  exact ⟨a, c, hv, hr.below hb, hx⟩
theorem WideAt.of {E B : Nat} {w : World} {v : Value} {n X : Nat} (h : OwnQ .u32 E B w v (wideN n X)) (hX : X < radix n) : WideAt w v n X := by
  obtain ⟨a, m, c, rfl, hm, ho⟩ := h.slice
  obtain rfl : m = n := hm.trans (wideN_len hX)
  exact ⟨a, c, rfl, ho.reads, hX⟩

theorem WhlC.natM {w : World} {g c k c1 c2 n M : Nat} {a a1 a2 : Option Addr} (h : WhlC w g a c k a1 c1 a2 c2 n M) : NatAt w (.slice a n c) M := NatC.at ⟨_, _, _, rfl, h.rm⟩

theorem squareR {n M X : Nat} (hM : 2 ≤ M) (ho : M % 2 = 1) : monN n M (X % M * (radix n * radix n % M)) = X * radix n % M := by
  refine (monN_eq hM ho (Nat.mod_lt _ (by omega)) ?_).symm
  rw [Nat.mul_mod_mod, ← Nat.mul_mod]
  congr 1
  ac_rfl
theorem oneR {n M X : Nat} (hX : X = 1) (z : Nat) : monN n M (z * X) = monN n M z := by rw [hX, Nat.mul_one]

theorem Whl.val {w : World} {p : Value} {n M : Nat} (h : Whl w p n M) : 1 ≤ n ∧ n ≤ 128 ∧ M < radix n ∧ M < topM ∧ 3 ≤ M ∧ M % 2 = 1 := by
  obtain ⟨g, a, c, k, a1, c1, a2, c2, rfl, h⟩ := h
  exact ⟨h.len.2.1, h.len.2.2, h.radix, h.small, h.three, h.odd⟩

set_option maxHeartbeats 400000 in
theorem made_any (p : Value) (n M : Nat) (w : World) (hW : Whl w p n M) :
    Calls Try.prog 40 #[p] w fun e w' => e = .returned (.bool true) ∧ w = w' := by
  obtain ⟨g, a, c, k, a1, c1, a2, c2, rfl, h⟩ := hW
  have h0 := h.m
  have h1 := h.len.2.1
  have h2 := h.len.2.2
  clear h
  go_enter Try.func40, Try.ntmps40
  go_wp2
  go_ret
  exact ⟨by simp <;> omega, rfl⟩

theorem wide_w {v : Value} {X n : Nat} {w : World} (hx : NatC w v X) (hX : X < radix n) (hn : n ≤ 100000) :
    Calls Try.prog 39 #[v, .int .i64 (n : Int)] w fun e w' => RetsQ .u32 41 w.heap.size w' (wideN n X) e ∧ Below w.heap.size w w' := by
  obtain ⟨a, len, c, rfl, hr⟩ := hx
  have hl : len ≤ n := by rw [← hr.length]; exact (natB_length (b := 4294967296) (by decide) X n).2 hX
  have e : nat32 X ++ List.replicate (n - len) 0 = wideN n X := by unfold wideN; rw [hr.length]
  rw [← e]
  exact wide_any a len c _ n w hr hl hn
theorem narrow_w {v : Value} {X n : Nat} {w : World} (hx : WideAt w v n X) (hX : X < topN) :
    Calls Try.prog 42 #[v] w fun e w' => RetsQ .u32 41 w.heap.size w' (nat32 X) e ∧ Below w.heap.size w w' := by
  obtain ⟨a, c, rfl, hr, hx⟩ := hx
  have := narrow_any a n c _ w hr (wideN_lim n X) (by rw [wideN_val]; exact hX)
  rw [wideN_val] at this
  exact this
theorem narrow_n {v : Value} {X : Nat} {w : World} (hx : NatAt w v X) (hX : X < topN) :
    Calls Try.prog 42 #[v] w fun e w' => RetsQ .u32 41 w.heap.size w' (nat32 X) e ∧ Below w.heap.size w w' := by
  obtain ⟨a, len, c, l, rfl, hr, hl, rfl⟩ := hx
  exact narrow_any a len c l w hr hl hX
theorem times_w {p x y : Value} {n M X Y : Nat} {w : World} (hW : Whl w p n M) (hx : WideAt w x n X) (hy : WideAt w y n Y) (hX : X < M) :
    Calls Try.prog 43 #[p, x, y] w fun e w' => RetsQ .u32 41 w.heap.size w' (wideN n (monN n M (X * Y))) e ∧ Below w.heap.size w w' := by
  obtain ⟨a, c, rfl, hr, hx⟩ := hx
  obtain ⟨a', c', rfl, hr', hy⟩ := hy
  have := times_any p a a' c c' n M _ _ w hW hr hr' (wideN_lim n X) (wideN_lim n Y) (by rw [wideN_val]; exact hX)
  rw [wideN_val, wideN_val] at this
  exact this

set_option maxHeartbeats 400000 in
theorem squared_w {p x : Value} {n M X : Nat} {w : World} (hW : Whl w p n M) (hx : WideAt w x n X) (hX : X < M) :
    Calls Try.prog 54 #[p, x] w fun e w' => RetsQ .u32 41 w.heap.size w' (wideN n (monN n M (X * X))) e ∧ Below w.heap.size w w' := by
  have HT := Lib.hid (times_w hW hx hx hX)
  clear hW hx hX
  go_enter Try.func54, Try.ntmps54
  go_wp2_with fail
  refine HT.out.mono ?_
  rintro e w1 ⟨⟨v, rfl, ho⟩, hb⟩
  have O := Lib.hid ho
  have B := Lib.hid hb
  clear ho hb
  go_wp2
  go_ret
  exact ⟨⟨_, rfl, O.out⟩, B.out⟩

set_option maxRecDepth 100000 in
set_option maxHeartbeats 2000000 in
theorem in_any (p x : Value) (n M X : Nat) (w : World) (hW : Whl w p n M) (hx : NatAt w x X) (hX : X < topN) :
    Calls Try.prog 48 #[p, x] w fun e w' => (∃ v, e = .returned (.tuple #[v, .int .i64 0]) ∧ OwnQ .u32 41 w.heap.size w' v (wideN n (X * radix n % M))) ∧ Below w.heap.size w w' := by
  obtain ⟨hn1, hn2, hMR, hMT, h3, hod⟩ := hW.val
  have HW := Lib.hid hW
  have HMR := Lib.hid hMR
  have HMN := Lib.hid (Nat.lt_of_lt_of_le hMT topM_le)
  have H3 := Lib.hid h3
  have HOD := Lib.hid hod
  have NX := Lib.hid hx
  have HX := Lib.hid hX
  obtain ⟨g, a, c, k, a1, c1, a2, c2, rfl, hC⟩ := hW
  have HC := Lib.hid hC
  have cm := hC.m
  have HNM := Lib.hid (hC.natM)
  have HML := Lib.hid (Nat.mod_lt X (show 0 < M by omega))
  clear hx hX hMR hMT h3 hod hC
  go_enter Try.func48, Try.ntmps48
  go_wp2_with fail
  refine (mod_nat NX.out HNM.out HX.out HMN.out (by have := H3.out; omega)).mono ?_
  rintro e w1 ⟨⟨v1, rfl, ho⟩, hb⟩
  have N1 := Lib.hid ho
  have HC1 := Lib.hid (HC.out.below hb)
  have HW1 := Lib.hid (HW.out.below hb)
  have B1 := Lib.hid hb
  have q0 := HC1.out.m
  have q3 := HC1.out.square
  clear ho hb cm
  go_wp2
  refine wp_region_held_drew (S := fun W => W.cell? ⟨g, 0, none⟩ = some (.slice a n c) ∧ W.cell? ⟨g, 3, none⟩ = some (.slice a2 n c2)) (by kernel_rfl) ⟨q0, q3⟩ (fun hHeld => ?_)
  refine' wpAnyH_take (i := 0) (oi := _) (v := _) rfl (by kernel_rfl) (by kernel_rfl) (by kernel_rfl) (fun _ _ _ h => h) (Or.inl ⟨?_, ?_⟩) (by assumption) ?_
  rotate_left
  all_goals (try simp only [List.getElem_toArray, List.getElem_cons_succ, List.getElem_cons_zero])
  · rfl
  · intro W hSw; (try dsimp only at hSw); go_simp; (try with_reducible rfl)
  try simp only [Act.put, List.setIfInBounds_toArray, List.set_cons_zero, List.set_cons_succ]
  refine' wpAnyH_take (i := 1) (oi := _) (v := _) rfl (by kernel_rfl) (by kernel_rfl) (by kernel_rfl) (fun _ _ _ h => h) (Or.inl ⟨?_, ?_⟩) (by assumption) ?_
  rotate_left
  all_goals (try simp only [List.getElem_toArray, List.getElem_cons_succ, List.getElem_cons_zero])
  · rfl
  · intro W hSw; (try dsimp only at hSw); go_simp; (try with_reducible rfl)
  try simp only [Act.put, List.setIfInBounds_toArray, List.set_cons_zero, List.set_cons_succ]
  refine' wpAnyH_take (i := 2) (oi := _) (v := _) rfl (by kernel_rfl) (by kernel_rfl) (by kernel_rfl) (fun _ _ _ h => h) (Or.inl ⟨?_, ?_⟩) (by assumption) ?_
  rotate_left
  all_goals (try simp only [List.getElem_toArray, List.getElem_cons_succ, List.getElem_cons_zero])
  · rfl
  · intro W hSw; (try dsimp only at hSw); go_simp; (try with_reducible rfl)
  try simp only [Act.put, List.setIfInBounds_toArray, List.set_cons_zero, List.set_cons_succ]
  refine' wpAnyH_take (i := 3) (oi := _) (v := _) rfl (by kernel_rfl) (by kernel_rfl) (by kernel_rfl) (fun _ _ _ h => h) (Or.inl ⟨?_, ?_⟩) (by assumption) ?_
  rotate_left
  all_goals (try simp only [List.getElem_toArray, List.getElem_cons_succ, List.getElem_cons_zero])
  · rfl
  · intro W hSw; (try dsimp only at hSw); go_simp; (try with_reducible rfl)
  try simp only [Act.put, List.setIfInBounds_toArray, List.set_cons_zero, List.set_cons_succ]
  refine' wpAnyH_take (i := 4) (oi := _) (v := _) rfl (by kernel_rfl) (by kernel_rfl) (by kernel_rfl) (fun _ _ _ h => h) (Or.inl ⟨?_, ?_⟩) (by assumption) ?_
  rotate_left
  all_goals (try simp only [List.getElem_toArray, List.getElem_cons_succ, List.getElem_cons_zero])
  · rfl
  · intro W hSw; (try dsimp only at hSw); go_simp; (try with_reducible rfl)
  try simp only [Act.put, List.setIfInBounds_toArray, List.set_cons_zero, List.set_cons_succ]
  refine' wpAnyH_take (i := 5) (oi := _) (v := _) rfl (by kernel_rfl) (by kernel_rfl) (by kernel_rfl) (fun _ _ _ h => h) (Or.inl ⟨?_, ?_⟩) (by assumption) ?_
  rotate_left
  all_goals (try simp only [List.getElem_toArray, List.getElem_cons_succ, List.getElem_cons_zero])
  · rfl
  · intro W hSw; (try dsimp only at hSw); go_simp; (try with_reducible rfl)
  try simp only [Act.put, List.setIfInBounds_toArray, List.set_cons_zero, List.set_cons_succ]
  refine' wpAnyH_take (i := 6) (oi := _) (v := _) rfl (by kernel_rfl) (by kernel_rfl) (by kernel_rfl) (fun _ _ _ h => h) (Or.inl ⟨?_, ?_⟩) (by assumption) ?_
  rotate_left
  all_goals (try simp only [List.getElem_toArray, List.getElem_cons_succ, List.getElem_cons_zero])
  · rfl
  · intro W hSw; (try dsimp only at hSw); go_simp; (try with_reducible rfl)
  try simp only [Act.put, List.setIfInBounds_toArray, List.set_cons_zero, List.set_cons_succ]
  refine' wpAnyH_take (i := 8) (oi := _) (v := _) rfl (by kernel_rfl) (by kernel_rfl) (by kernel_rfl) (fun _ _ _ h => h) (Or.inl ⟨?_, ?_⟩) (by assumption) ?_
  rotate_left
  all_goals (try simp only [List.getElem_toArray, List.getElem_cons_succ, List.getElem_cons_zero])
  · rfl
  · intro W hSw; (try dsimp only at hSw); go_simp; (try with_reducible rfl)
  try simp only [Act.put, List.setIfInBounds_toArray, List.set_cons_zero, List.set_cons_succ]
  refine' wpAnyH_take (i := 9) (oi := _) (v := _) rfl (by kernel_rfl) (by kernel_rfl) (by kernel_rfl) (fun _ _ _ h => h) (Or.inl ⟨?_, ?_⟩) (by assumption) ?_
  rotate_left
  all_goals (try simp only [List.getElem_toArray, List.getElem_cons_succ, List.getElem_cons_zero])
  · rfl
  · intro W hSw; (try dsimp only at hSw); go_simp; (try with_reducible rfl)
  try simp only [Act.put, List.setIfInBounds_toArray, List.set_cons_zero, List.set_cons_succ]
  refine' wpAnyH_take (i := 10) (oi := _) (v := _) rfl (by kernel_rfl) (by kernel_rfl) (by kernel_rfl) (fun _ _ _ h => h) (Or.inl ⟨?_, ?_⟩) (by assumption) ?_
  rotate_left
  all_goals (try simp only [List.getElem_toArray, List.getElem_cons_succ, List.getElem_cons_zero])
  · rfl
  · intro W hSw; (try dsimp only at hSw); go_simp; (try with_reducible rfl)
  try simp only [Act.put, List.setIfInBounds_toArray, List.set_cons_zero, List.set_cons_succ]
  refine' wpAnyH_take (i := 11) (oi := _) (v := _) rfl (by kernel_rfl) (by kernel_rfl) (by kernel_rfl) (fun _ _ _ h => h) (Or.inl ⟨?_, ?_⟩) (by assumption) ?_
  rotate_left
  all_goals (try simp only [List.getElem_toArray, List.getElem_cons_succ, List.getElem_cons_zero])
  · rfl
  · intro W hSw; (try dsimp only at hSw); go_simp; (try with_reducible rfl)
  try simp only [Act.put, List.setIfInBounds_toArray, List.set_cons_zero, List.set_cons_succ]
  refine wpAnyH_ready (rs := [7]) (by kernel_rfl) (by simp) ?_
  refine AllReadyH.cons (o := _) rfl (fun K hK => ?_) AllReadyH.nil
  try simp only [List.getElem_toArray, List.getElem_cons_succ, List.getElem_cons_zero]
  go_simp
  refine (wide_w (N1.out.below (Below.refl w1.heap.size w1).drew) (Nat.lt_trans HML.out HMR.out) (by omega)).mono ?_
  rintro e w2 ⟨⟨v2, rfl, ho2⟩, hb2⟩
  have D2 := Lib.hid ((Below.refl w1.heap.size w1).drew.trans hb2)
  have HC2 := Lib.hid (HC1.out.below D2.out)
  have HW2 := Lib.hid (HW1.out.below D2.out)
  have X2 := Lib.hid (WideAt.of ho2 (Nat.lt_trans HML.out HMR.out))
  have q0 := HC2.out.m
  have q3 := HC2.out.square
  have S2 : Hid (WideAt w2 (.slice a2 n c2) n (radix n * radix n % M)) := Lib.hid ⟨_, _, rfl, HC2.out.r2, Nat.lt_trans (Nat.mod_lt _ (by have := H3.out; omega)) HMR.out⟩
  clear ho2 hb2
  go_wp2_with fail
  refine hK.out _ _ ⟨q0, q3⟩ (fun hHeld => ?_)
  clear hK K
  try simp only [Act.put, List.setIfInBounds_toArray, List.set_cons_zero, List.set_cons_succ]
  refine wpAnyH_ready (rs := [12]) (by kernel_rfl) (by simp) ?_
  refine AllReadyH.cons (o := _) rfl (fun K hK => ?_) AllReadyH.nil
  try simp only [List.getElem_toArray, List.getElem_cons_succ, List.getElem_cons_zero]
  go_simp
  refine (times_w HW2.out X2.out S2.out HML.out).mono ?_
  rintro e w3 ⟨⟨v3, rfl, ho3⟩, hb3⟩
  rw [squareR (by have := H3.out; omega) HOD.out] at ho3
  have D3 := Lib.hid hb3
  have HC3 := Lib.hid (HC2.out.below D3.out)
  have q0 := HC3.out.m
  have q3 := HC3.out.square
  have O3 := Lib.hid ho3
  clear ho3 hb3
  go_wp2_with fail
  refine hK.out _ _ ⟨q0, q3⟩ (fun hHeld => ?_)
  clear hK K
  try simp only [Act.put, List.setIfInBounds_toArray, List.set_cons_zero, List.set_cons_succ]
  refine' wpAnyH_take (i := 13) (oi := _) (v := _) rfl (by kernel_rfl) (by kernel_rfl) (by kernel_rfl) (fun _ _ _ h => h) (Or.inl ⟨?_, ?_⟩) (by assumption) ?_
  rotate_left
  all_goals (try simp only [List.getElem_toArray, List.getElem_cons_succ, List.getElem_cons_zero])
  · rfl
  · intro W hSw; (try dsimp only at hSw); go_simp; (try with_reducible rfl)
  try simp only [Act.put, List.setIfInBounds_toArray, List.set_cons_zero, List.set_cons_succ]
  refine' wpAnyH_take (i := 14) (oi := _) (v := _) rfl (by kernel_rfl) (by kernel_rfl) (by kernel_rfl) (fun _ _ _ h => h) (Or.inl ⟨?_, ?_⟩) (by assumption) ?_
  rotate_left
  all_goals (try simp only [List.getElem_toArray, List.getElem_cons_succ, List.getElem_cons_zero])
  · rfl
  · intro W hSw; (try dsimp only at hSw); go_simp; (try with_reducible rfl)
  try simp only [Act.put, List.setIfInBounds_toArray, List.set_cons_zero, List.set_cons_succ]
  refine wpAnyH_done (by kernel_rfl) ?_ _
  go_wp2
  go_ret2
  exact ⟨⟨_, rfl, O3.out.mono (Nat.le_trans B1.out.size D2.out.size)⟩, B1.out.trans ((D2.out.mono B1.out.size).trans (D3.out.mono (Nat.le_trans B1.out.size D2.out.size)))⟩

set_option maxHeartbeats 1000000 in
theorem in_no (p x : Value) (n M X : Nat) (w : World) (hW : Whl w p n M) (hx : NatAt w x X) (hX : ¬ X < topN) :
    Calls Try.prog 48 #[p, x] w fun e w' => e = .returned (.tuple #[.slice none 0 0, .int .i64 20]) ∧ Below w.heap.size w w' := by
  obtain ⟨g, a, c, k, a1, c1, a2, c2, rfl, hC⟩ := hW
  have cm := hC.m
  have HMD := Lib.hid (mod_any _ _ _ _ w hx hC.natM)
  rw [modR_no (fun h => hX h.1)] at HMD
  clear hx hX hC
  go_enter Try.func48, Try.ntmps48
  go_wp2_with fail
  refine HMD.out.mono ?_
  rintro e w1 ⟨⟨v1, rfl, -⟩, hb⟩
  have B1 := Lib.hid hb
  clear hb
  go_wp2
  go_ret2
  exact ⟨rfl, B1.out⟩

set_option maxRecDepth 100000 in
set_option maxHeartbeats 2000000 in
theorem out_any (p x : Value) (n M X : Nat) (w : World) (hW : Whl w p n M) (hx : WideAt w x n X) (hX : X < M) :
    Calls Try.prog 49 #[p, x] w fun e w' => RetsQ .u32 41 w.heap.size w' (nat32 (monN n M X)) e ∧ Below w.heap.size w w' := by
  obtain ⟨hn1, hn2, hMR, hMT, h3, hod⟩ := hW.val
  have HW := Lib.hid hW
  have HMR := Lib.hid hMR
  have HMN := Lib.hid (Nat.lt_of_lt_of_le hMT topM_le)
  have H3 := Lib.hid h3
  have HOD := Lib.hid hod
  have NX := Lib.hid hx
  have HX := Lib.hid hX
  obtain ⟨g, a, c, k, a1, c1, a2, c2, rfl, hC⟩ := hW
  have HC := Lib.hid hC
  have q0 := hC.m
  have HR := Lib.hid (show monN n M X < M from monN_lt (by omega))
  have H1R := Lib.hid (show 1 < radix n by omega)
  clear hx hX hMR hMT h3 hod hC
  go_enter Try.func49, Try.ntmps49
  go_wp2
  refine wp_region_held_drew (S := fun W => W.cell? ⟨g, 0, none⟩ = some (.slice a n c)) (by kernel_rfl) q0 (fun hHeld => ?_)
  refine' wpAnyH_take (i := 0) (oi := _) (v := _) rfl (by kernel_rfl) (by kernel_rfl) (by kernel_rfl) (fun _ _ _ h => h) (Or.inl ⟨?_, ?_⟩) (by assumption) ?_
  rotate_left
  all_goals (try simp only [List.getElem_toArray, List.getElem_cons_succ, List.getElem_cons_zero])
  · rfl
  · intro W hSw; (try dsimp only at hSw); go_simp; (try with_reducible rfl)
  try simp only [Act.put, List.setIfInBounds_toArray, List.set_cons_zero, List.set_cons_succ]
  refine' wpAnyH_take (i := 1) (oi := _) (v := _) rfl (by kernel_rfl) (by kernel_rfl) (by kernel_rfl) (fun _ _ _ h => h) (Or.inl ⟨?_, ?_⟩) (by assumption) ?_
  rotate_left
  all_goals (try simp only [List.getElem_toArray, List.getElem_cons_succ, List.getElem_cons_zero])
  · rfl
  · intro W hSw; (try dsimp only at hSw); go_simp; (try with_reducible rfl)
  try simp only [Act.put, List.setIfInBounds_toArray, List.set_cons_zero, List.set_cons_succ]
  refine' wpAnyH_take (i := 3) (oi := _) (v := _) rfl (by kernel_rfl) (by kernel_rfl) (by kernel_rfl) (fun _ _ _ h => h) (Or.inl ⟨?_, ?_⟩) (by assumption) ?_
  rotate_left
  all_goals (try simp only [List.getElem_toArray, List.getElem_cons_succ, List.getElem_cons_zero])
  · rfl
  · intro W hSw; (try dsimp only at hSw); go_simp; (try with_reducible rfl)
  try simp only [Act.put, List.setIfInBounds_toArray, List.set_cons_zero, List.set_cons_succ]
  refine' wpAnyH_take (i := 4) (oi := _) (v := _) rfl (by kernel_rfl) (by kernel_rfl) (by kernel_rfl) (fun _ _ _ h => h) (Or.inl ⟨?_, ?_⟩) (by assumption) ?_
  rotate_left
  all_goals (try simp only [List.getElem_toArray, List.getElem_cons_succ, List.getElem_cons_zero])
  · rfl
  · intro W hSw; (try dsimp only at hSw); go_simp; (try with_reducible rfl)
  try simp only [Act.put, List.setIfInBounds_toArray, List.set_cons_zero, List.set_cons_succ]
  refine' wpAnyH_take (i := 5) (oi := _) (v := _) rfl (by kernel_rfl) (by kernel_rfl) (by kernel_rfl) (fun _ _ _ h => h) (Or.inl ⟨?_, ?_⟩) (by assumption) ?_
  rotate_left
  all_goals (try simp only [List.getElem_toArray, List.getElem_cons_succ, List.getElem_cons_zero])
  · rfl
  · intro W hSw; (try dsimp only at hSw); go_simp; (try with_reducible rfl)
  try simp only [Act.put, List.setIfInBounds_toArray, List.set_cons_zero, List.set_cons_succ]
  refine' wpAnyH_take (i := 6) (oi := _) (v := _) rfl (by kernel_rfl) (by kernel_rfl) (by kernel_rfl) (fun _ _ _ h => h) (Or.inl ⟨?_, ?_⟩) (by assumption) ?_
  rotate_left
  all_goals (try simp only [List.getElem_toArray, List.getElem_cons_succ, List.getElem_cons_zero])
  · rfl
  · intro W hSw; (try dsimp only at hSw); go_simp; (try with_reducible rfl)
  try simp only [Act.put, List.setIfInBounds_toArray, List.set_cons_zero, List.set_cons_succ]
  refine' wpAnyH_take (i := 7) (oi := _) (v := _) rfl (by kernel_rfl) (by kernel_rfl) (by kernel_rfl) (fun _ _ _ h => h) (Or.inl ⟨?_, ?_⟩) (by assumption) ?_
  rotate_left
  all_goals (try simp only [List.getElem_toArray, List.getElem_cons_succ, List.getElem_cons_zero])
  · rfl
  · intro W hSw; (try dsimp only at hSw); go_simp; (try with_reducible rfl)
  try simp only [Act.put, List.setIfInBounds_toArray, List.set_cons_zero, List.set_cons_succ]
  refine wpAnyH_ready (rs := [2]) (by kernel_rfl) (by simp) ?_
  refine AllReadyH.cons (o := _) rfl (fun K hK => ?_) AllReadyH.nil
  try simp only [List.getElem_toArray, List.getElem_cons_succ, List.getElem_cons_zero]
  go_simp
  refine (of_nat 1 1 rfl _ (by decide)).mono ?_
  rintro e w1 ⟨⟨v1, rfl, ho1⟩, hb1⟩
  have D1 := Lib.hid ((Below.refl w.heap.size w).drew.trans hb1)
  have N1 := Lib.hid ho1
  have HC1 := Lib.hid (HC.out.below D1.out)
  have q0 := HC1.out.m
  clear ho1 hb1
  go_wp2_with fail
  refine hK.out _ _ q0 (fun hHeld => ?_)
  clear hK K
  try simp only [Act.put, List.setIfInBounds_toArray, List.set_cons_zero, List.set_cons_succ]
  refine wpAnyH_ready (rs := [8]) (by kernel_rfl) (by simp) ?_
  refine AllReadyH.cons (o := _) rfl (fun K hK => ?_) AllReadyH.nil
  try simp only [List.getElem_toArray, List.getElem_cons_succ, List.getElem_cons_zero]
  go_simp
  refine (wide_w N1.out H1R.out (by omega)).mono ?_
  rintro e w2 ⟨⟨v2, rfl, ho2⟩, hb2⟩
  have D2 := Lib.hid (D1.out.trans (hb2.mono D1.out.size))
  have Y2 := Lib.hid (WideAt.of ho2 H1R.out)
  have X2 := Lib.hid (NX.out.below D2.out)
  have HW2 := Lib.hid (HW.out.below D2.out)
  have HC2 := Lib.hid (HC.out.below D2.out)
  have q0 := HC2.out.m
  clear ho2 hb2
  go_wp2_with fail
  refine hK.out _ _ q0 (fun hHeld => ?_)
  clear hK K
  try simp only [Act.put, List.setIfInBounds_toArray, List.set_cons_zero, List.set_cons_succ]
  refine wpAnyH_ready (rs := [9]) (by kernel_rfl) (by simp) ?_
  refine AllReadyH.cons (o := _) rfl (fun K hK => ?_) AllReadyH.nil
  try simp only [List.getElem_toArray, List.getElem_cons_succ, List.getElem_cons_zero]
  go_simp
  refine (times_w HW2.out X2.out Y2.out HX.out).mono ?_
  rintro e w3 ⟨⟨v3, rfl, ho3⟩, hb3⟩
  rw [Nat.mul_one] at ho3
  have D3 := Lib.hid (D2.out.trans (hb3.mono D2.out.size))
  have Z3 := Lib.hid (WideAt.of ho3 (Nat.lt_trans HR.out HMR.out))
  have HC3 := Lib.hid (HC.out.below D3.out)
  have q0 := HC3.out.m
  clear ho3 hb3
  go_wp2_with fail
  refine hK.out _ _ q0 (fun hHeld => ?_)
  clear hK K
  try simp only [Act.put, List.setIfInBounds_toArray, List.set_cons_zero, List.set_cons_succ]
  refine wpAnyH_ready (rs := [10]) (by kernel_rfl) (by simp) ?_
  refine AllReadyH.cons (o := _) rfl (fun K hK => ?_) AllReadyH.nil
  try simp only [List.getElem_toArray, List.getElem_cons_succ, List.getElem_cons_zero]
  go_simp
  refine (narrow_w Z3.out (Nat.lt_trans HR.out HMN.out)).mono ?_
  rintro e w4 ⟨⟨v4, rfl, ho4⟩, hb4⟩
  have D4 := Lib.hid (D3.out.trans (hb4.mono D3.out.size))
  have O4 := Lib.hid (ho4.mono D3.out.size)
  have HC4 := Lib.hid (HC.out.below D4.out)
  have q0 := HC4.out.m
  clear ho4 hb4
  go_wp2_with fail
  refine hK.out _ _ q0 (fun hHeld => ?_)
  clear hK K
  try simp only [Act.put, List.setIfInBounds_toArray, List.set_cons_zero, List.set_cons_succ]
  refine' wpAnyH_take (i := 11) (oi := _) (v := _) rfl (by kernel_rfl) (by kernel_rfl) (by kernel_rfl) (fun _ _ _ h => h) (Or.inl ⟨?_, ?_⟩) (by assumption) ?_
  rotate_left
  all_goals (try simp only [List.getElem_toArray, List.getElem_cons_succ, List.getElem_cons_zero])
  · rfl
  · intro W hSw; (try dsimp only at hSw); go_simp; (try with_reducible rfl)
  try simp only [Act.put, List.setIfInBounds_toArray, List.set_cons_zero, List.set_cons_succ]
  refine wpAnyH_done (by kernel_rfl) ?_ _
  go_wp2
  go_ret
  exact ⟨⟨_, rfl, O4.out⟩, D4.out⟩

set_option maxRecDepth 100000 in
set_option maxHeartbeats 2000000 in
theorem below_yes (p x : Value) (n M X : Nat) (w : World) (hW : Whl w p n M) (hx : NatAt w x X) (hX : X < M) :
    Calls Try.prog 41 #[p, x] w fun e w' => (∃ v, e = .returned (.tuple #[v, .bool true]) ∧ OwnQ .u32 41 w.heap.size w' v (wideN n X)) ∧ Below w.heap.size w w' := by
  obtain ⟨hn1, hn2, hMR, hMT, h3, hod⟩ := hW.val
  have HW := Lib.hid hW
  have HMR := Lib.hid hMR
  have HMN := Lib.hid (Nat.lt_of_lt_of_le hMT topM_le)
  have H3 := Lib.hid h3
  have HOD := Lib.hid hod
  have NX := Lib.hid hx
  have HX := Lib.hid hX
  obtain ⟨g, a, c, k, a1, c1, a2, c2, rfl, hC⟩ := hW
  have HC := Lib.hid hC
  have cm := hC.m
  have HNM := Lib.hid (hC.natM)
  clear hx hX hMR hMT h3 hod hC
  go_enter Try.func41, Try.ntmps41
  go_wp2_with fail
  refine (cmp_nat NX.out HNM.out (-1) (ordN_lt HX.out).symm).mono ?_
  rintro e w1 ⟨rfl, hb⟩
  have NX1 := Lib.hid (NX.out.below hb)
  have HC1 := Lib.hid (HC.out.below hb)
  have B1 := Lib.hid hb
  have q0 := HC1.out.m
  clear hb cm
  go_wp2
  refine wp_region_held_drew (S := fun W => W.cell? ⟨g, 0, none⟩ = some (.slice a n c)) (by kernel_rfl) q0 (fun hHeld => ?_)
  refine' wpAnyH_take (i := 0) (oi := _) (v := _) rfl (by kernel_rfl) (by kernel_rfl) (by kernel_rfl) (fun _ _ _ h => h) (Or.inl ⟨?_, ?_⟩) (by assumption) ?_
  rotate_left
  all_goals (try simp only [List.getElem_toArray, List.getElem_cons_succ, List.getElem_cons_zero])
  · rfl
  · intro W hSw; (try dsimp only at hSw); go_simp; (try with_reducible rfl)
  try simp only [Act.put, List.setIfInBounds_toArray, List.set_cons_zero, List.set_cons_succ]
  refine' wpAnyH_take (i := 2) (oi := _) (v := _) rfl (by kernel_rfl) (by kernel_rfl) (by kernel_rfl) (fun _ _ _ h => h) (Or.inl ⟨?_, ?_⟩) (by assumption) ?_
  rotate_left
  all_goals (try simp only [List.getElem_toArray, List.getElem_cons_succ, List.getElem_cons_zero])
  · rfl
  · intro W hSw; (try dsimp only at hSw); go_simp; (try with_reducible rfl)
  try simp only [Act.put, List.setIfInBounds_toArray, List.set_cons_zero, List.set_cons_succ]
  refine' wpAnyH_take (i := 3) (oi := _) (v := _) rfl (by kernel_rfl) (by kernel_rfl) (by kernel_rfl) (fun _ _ _ h => h) (Or.inl ⟨?_, ?_⟩) (by assumption) ?_
  rotate_left
  all_goals (try simp only [List.getElem_toArray, List.getElem_cons_succ, List.getElem_cons_zero])
  · rfl
  · intro W hSw; (try dsimp only at hSw); go_simp; (try with_reducible rfl)
  try simp only [Act.put, List.setIfInBounds_toArray, List.set_cons_zero, List.set_cons_succ]
  refine' wpAnyH_take (i := 4) (oi := _) (v := _) rfl (by kernel_rfl) (by kernel_rfl) (by kernel_rfl) (fun _ _ _ h => h) (Or.inl ⟨?_, ?_⟩) (by assumption) ?_
  rotate_left
  all_goals (try simp only [List.getElem_toArray, List.getElem_cons_succ, List.getElem_cons_zero])
  · rfl
  · intro W hSw; (try dsimp only at hSw); go_simp; (try with_reducible rfl)
  try simp only [Act.put, List.setIfInBounds_toArray, List.set_cons_zero, List.set_cons_succ]
  refine' wpAnyH_take (i := 5) (oi := _) (v := _) rfl (by kernel_rfl) (by kernel_rfl) (by kernel_rfl) (fun _ _ _ h => h) (Or.inl ⟨?_, ?_⟩) (by assumption) ?_
  rotate_left
  all_goals (try simp only [List.getElem_toArray, List.getElem_cons_succ, List.getElem_cons_zero])
  · rfl
  · intro W hSw; (try dsimp only at hSw); go_simp; (try with_reducible rfl)
  try simp only [Act.put, List.setIfInBounds_toArray, List.set_cons_zero, List.set_cons_succ]
  refine' wpAnyH_take (i := 6) (oi := _) (v := _) rfl (by kernel_rfl) (by kernel_rfl) (by kernel_rfl) (fun _ _ _ h => h) (Or.inl ⟨?_, ?_⟩) (by assumption) ?_
  rotate_left
  all_goals (try simp only [List.getElem_toArray, List.getElem_cons_succ, List.getElem_cons_zero])
  · rfl
  · intro W hSw; (try dsimp only at hSw); go_simp; (try with_reducible rfl)
  try simp only [Act.put, List.setIfInBounds_toArray, List.set_cons_zero, List.set_cons_succ]
  refine wpAnyH_ready (rs := [1]) (by kernel_rfl) (by simp) ?_
  refine AllReadyH.cons (o := _) rfl (fun K hK => ?_) AllReadyH.nil
  try simp only [List.getElem_toArray, List.getElem_cons_succ, List.getElem_cons_zero]
  go_simp
  refine (narrow_n (NX1.out.below (Below.refl w1.heap.size w1).drew) (Nat.lt_trans HX.out HMN.out)).mono ?_
  rintro e w2 ⟨⟨v2, rfl, ho2⟩, hb2⟩
  have D2 := Lib.hid (B1.out.drew.trans (hb2.mono B1.out.size))
  have N2 := Lib.hid (NatC.of ho2)
  have HC2 := Lib.hid (HC.out.below D2.out)
  have q0 := HC2.out.m
  clear ho2 hb2
  go_wp2_with fail
  refine hK.out _ _ q0 (fun hHeld => ?_)
  clear hK K
  try simp only [Act.put, List.setIfInBounds_toArray, List.set_cons_zero, List.set_cons_succ]
  refine wpAnyH_ready (rs := [7]) (by kernel_rfl) (by simp) ?_
  refine AllReadyH.cons (o := _) rfl (fun K hK => ?_) AllReadyH.nil
  try simp only [List.getElem_toArray, List.getElem_cons_succ, List.getElem_cons_zero]
  go_simp
  refine (wide_w N2.out (Nat.lt_trans HX.out HMR.out) (by omega)).mono ?_
  rintro e w3 ⟨⟨v3, rfl, ho3⟩, hb3⟩
  have D3 := Lib.hid (D2.out.trans (hb3.mono D2.out.size))
  have O3 := Lib.hid (ho3.mono D2.out.size)
  have HC3 := Lib.hid (HC.out.below D3.out)
  have q0 := HC3.out.m
  clear ho3 hb3
  go_wp2_with fail
  refine hK.out _ _ q0 (fun hHeld => ?_)
  clear hK K
  try simp only [Act.put, List.setIfInBounds_toArray, List.set_cons_zero, List.set_cons_succ]
  refine' wpAnyH_take (i := 8) (oi := _) (v := _) rfl (by kernel_rfl) (by kernel_rfl) (by kernel_rfl) (fun _ _ _ h => h) (Or.inl ⟨?_, ?_⟩) (by assumption) ?_
  rotate_left
  all_goals (try simp only [List.getElem_toArray, List.getElem_cons_succ, List.getElem_cons_zero])
  · rfl
  · intro W hSw; (try dsimp only at hSw); go_simp; (try with_reducible rfl)
  try simp only [Act.put, List.setIfInBounds_toArray, List.set_cons_zero, List.set_cons_succ]
  refine' wpAnyH_take (i := 9) (oi := _) (v := _) rfl (by kernel_rfl) (by kernel_rfl) (by kernel_rfl) (fun _ _ _ h => h) (Or.inl ⟨?_, ?_⟩) (by assumption) ?_
  rotate_left
  all_goals (try simp only [List.getElem_toArray, List.getElem_cons_succ, List.getElem_cons_zero])
  · rfl
  · intro W hSw; (try dsimp only at hSw); go_simp; (try with_reducible rfl)
  try simp only [Act.put, List.setIfInBounds_toArray, List.set_cons_zero, List.set_cons_succ]
  refine wpAnyH_done (by kernel_rfl) ?_ _
  go_wp2
  go_ret2
  exact ⟨⟨_, rfl, O3.out⟩, D3.out⟩

set_option maxHeartbeats 1000000 in
theorem below_no (p x : Value) (n M X : Nat) (w : World) (hW : Whl w p n M) (hx : NatAt w x X) (hX : ¬ X < M) :
    Calls Try.prog 41 #[p, x] w fun e w' => e = .returned (.tuple #[.slice none 0 0, .bool false]) ∧ Below w.heap.size w w' := by
  obtain ⟨g, a, c, k, a1, c1, a2, c2, rfl, hC⟩ := hW
  have cm := hC.m
  have ho : ∃ o : Int, o = ordN X M ∧ 0 ≤ o := ⟨_, rfl, by unfold ordN; split <;> (try split) <;> omega⟩
  obtain ⟨o, ho1, ho2⟩ := ho
  have HMD := Lib.hid (cmp_nat hx hC.natM o ho1)
  clear hx hX hC ho1
  go_enter Try.func41, Try.ntmps41
  go_wp2_with fail
  refine HMD.out.mono ?_
  rintro e w1 ⟨rfl, hb⟩
  have B1 := Lib.hid hb
  clear hb
  go_wp2
  go_ret2
  exact ⟨rfl, B1.out⟩

end Go.Proofs.Ytebfoalcmnpghaa

namespace Go.Proofs.Ytebfoalcmnpghaa
open Go.RowKit

theorem OwnQ.keep {q : IntKind} {E B : Nat} {w w2 : World} {v : Value} {l : List Nat} (h : OwnQ q E B w v l) (hk : ∀ i, B ≤ i → i < w.heap.size → w2.heap[i]? = w.heap[i]?) : OwnQ q E B w2 v l := by
  obtain ⟨h1, h2⟩ := h
  refine ⟨h1, ?_⟩
  rcases h2 with h2 | ⟨g, cap, cur, hv, hB, hg, h3⟩
  · exact .inl h2
  · refine .inr ⟨g, cap, cur, hv, hB, ?_, h3⟩
    rw [hk g hB (Array.getElem?_eq_some_iff.1 hg).1]
    exact hg

/-- A wheel that hangs on the blocks from B on alone. -/
def WhlFrom (B : Nat) (w : World) (p : Value) (n M : Nat) : Prop := ∀ w2 : World, w.heap.size ≤ w2.heap.size → (∀ i, B ≤ i → i < w.heap.size → w2.heap[i]? = w.heap[i]?) → Whl w2 p n M
theorem WhlFrom.whl {B n M : Nat} {w : World} {p : Value} (h : WhlFrom B w p n M) : Whl w p n M := h w (Nat.le_refl _) (fun _ _ _ => rfl)
theorem WhlFrom.mono {B B' n M : Nat} {w : World} {p : Value} (h : WhlFrom B w p n M) (hB : B' ≤ B) : WhlFrom B' w p n M := fun w2 h1 h2 => h w2 h1 (fun i hi hl => h2 i (by omega) hl)

theorem WhlFrom.new {B n M k : Nat} {E : TypeId} {w : World} {a a1 a2 : Option Addr} {c c1 c2 : Nat} {vm v1 v2 : Value} (hB : B ≤ w.heap.size) (hm : OwnQ .u32 41 B w vm (nat32 M)) (h1 : OwnQ .u32 41 B w v1 (wideN n (radix n % M))) (h2 : OwnQ .u32 41 B w v2 (wideN n (radix n * radix n % M)))
    (em : vm = .slice a n c) (e1 : v1 = .slice a1 n c1) (e2 : v2 = .slice a2 n c2) (kl : k < 4294967296) (inv : (k * M + 1) % 4294967296 = 0) (odd : M % 2 = 1) (three : 3 ≤ M) (small : M < topM) :
    WhlFrom B (w.alloc (.cells #[vm, .int .u32 (k : Int), v1, v2] E)) (.pointer (some ⟨w.heap.size, 0, none⟩)) n M := by
  subst em e1 e2
  intro w2 hs hk
  rw [World.size_alloc] at hs hk
  have hk2 : ∀ i, B ≤ i → i < w.heap.size → w2.heap[i]? = w.heap[i]? := fun i hi hl => by
    rw [hk i hi (by omega)]
    exact ((Below.refl w.heap.size w).alloc (Nat.le_refl _) _).block i hl
  have hg : w2.heap[w.heap.size]? = some (.cells #[.slice a n c, .int .u32 (k : Int), .slice a1 n c1, .slice a2 n c2] E (0, 0)) := by
    rw [hk _ hB (by omega)]
    exact heap_alloc_new w _
  refine ⟨w.heap.size, a, c, k, a1, c1, a2, c2, rfl, ?_⟩
  refine ⟨by omega, ?_, ?_, ?_, ?_, (hm.keep hk2).reads, (h1.keep hk2).reads, (h2.keep hk2).reads, kl, inv, odd, three, small⟩
  all_goals
    rw [cell_of_row w2 w.heap.size _ _ E (0, 0) hg]
    rfl

theorem testBit_odd {M : Nat} (h : M % 2 = 1) : M.testBit 0 = true := by simp [Nat.testBit_zero, h]
theorem testBit_even {M : Nat} (h : ¬ M % 2 = 1) : M.testBit 0 = false := by simp [Nat.testBit_zero]; omega

theorem radix_le {n : Nat} (h : n ≤ 128) : radix n < topN := by
  have h1 : radix n ≤ topM := Nat.pow_le_pow_right (by decide) h
  have h2 : topM < topN := by
    unfold topM topN
    exact Nat.pow_lt_pow_right (by decide) (by decide)
  omega

set_option maxRecDepth 100000 in
set_option maxHeartbeats 4000000 in
theorem new_ok (x : Value) (M : Nat) (w : World) (hx : NatAt w x M) (hM : M < topM) (h3 : 3 ≤ M) (ho : M % 2 = 1) :
    Calls Try.prog 10 #[x] w fun e w' => (∃ p, e = .returned (.tuple #[p, .int .i64 0]) ∧ WhlFrom w.heap.size w' p (nat32 M).length M) ∧ Below w.heap.size w w' := by
  have NX := Lib.hid hx
  have HM := Lib.hid hM
  have HMN := Lib.hid (Nat.lt_of_lt_of_le hM topM_le)
  have H3 := Lib.hid h3
  have HOD := Lib.hid ho
  have H0 := Lib.hid (show 0 < M by omega)
  have HTB := Lib.hid (testBit_odd ho)
  have hoo : ∃ o : Int, o = ordN M 3 ∧ 0 ≤ o := ⟨_, rfl, by unfold ordN; split <;> (try split) <;> omega⟩
  obtain ⟨o, ho1, ho2⟩ := hoo
  have HO := Lib.hid ho1
  have F := Lib.hid (Below.refl w.heap.size w)
  clear hx hM h3 ho ho1
  go_enter Try.func10, Try.ntmps10
  go_wp2_with fail
  refine (trim_ok NX.out HMN.out).mono ?_
  rintro e w1 ⟨⟨v1, rfl, ho⟩, hb⟩
  obtain ⟨a1, n, c1, rfl, hn, ho⟩ := ho.slice
  have O := Lib.hid (ho)
  replace F := Lib.hid (F.out.trans (hb.mono F.out.size))
  clear hb
  have HNL := Lib.hid hn
  have hn128 := (own_short (k := 128) O.out).2 HM.out
  have hd : decide ((128 : Int) < (n : Int)) = false := by simp; omega
  have hn1 : 1 ≤ n := by
    apply Nat.pos_of_ne_zero
    intro e
    have h := (own_zero O.out).1 e
    have := H0.out
    omega
  obtain ⟨g1, gc, ge⟩ := O.out.succ (by intro e; rw [e] at hn; simp at hn; omega)
  obtain ⟨rfl, rfl⟩ : a1 = some ⟨g1, 0, none⟩ ∧ c1 = gc := by injection ge with e1 e2 e3; exact ⟨e1, e3⟩
  have NM := Lib.hid (natAt_own O.out)
  clear ge hn
  go_wp2_with fail
  refine (bit_nat NM.out 0 (by decide) true (by rw [show ((0 : Int).toNat) = 0 from rfl, HTB.out]; rfl)).mono ?_
  rintro e wz ⟨rfl, rfl⟩
  go_wp2_with fail
  refine (of_own 3 3 rfl _ (by decide)).mono ?_
  rintro e w2 ⟨⟨v2, rfl, ho⟩, hb⟩
  replace O := Lib.hid (O.out.below hb)
  replace NM := Lib.hid (NM.out.below hb)
  have O2 := Lib.hid (natAt_own ho)
  replace F := Lib.hid (F.out.trans (hb.mono F.out.size))
  clear hb
  go_wp2_with fail
  refine (cmp_nat NM.out O2.out o HO.out).mono ?_
  rintro e w3 ⟨rfl, hb⟩
  replace O := Lib.hid (O.out.below hb)
  replace NM := Lib.hid (NM.out.below hb)
  replace O2 := Lib.hid (O2.out.below hb)
  replace F := Lib.hid (F.out.trans (hb.mono F.out.size))
  clear hb
  clear O2
  have hmul : ((32 : Int) * (n : Int)) = ((32 * n : Nat) : Int) := by simp
  have hmb : 32 * n ≤ 4096 := by omega
  obtain ⟨sh, hsh⟩ : ∃ sh, sh = 32 * n := ⟨_, rfl⟩
  rw [← hsh] at hmul hmb
  have HSH : Hid (1 * 2 ^ sh = radix n) := Lib.hid (by rw [Nat.one_mul, hsh]; unfold radix; rw [Nat.pow_mul])
  clear hsh
  have HRT := Lib.hid (radix_le hn128)
  go_wp2_with fail
  refine (of_own 1 1 rfl _ (by decide)).mono ?_
  rintro e w4 ⟨⟨v3, rfl, ho⟩, hb⟩
  replace O := Lib.hid (O.out.below hb)
  replace NM := Lib.hid (NM.out.below hb)
  have O3 := Lib.hid (natAt_own ho)
  replace F := Lib.hid (F.out.trans (hb.mono F.out.size))
  clear hb
  go_wp2_with fail
  refine (shl_nat O3.out (sh : Int) sh rfl (by omega) (by rw [HSH.out]; exact HRT.out)).mono ?_
  rintro e w5 ⟨⟨v4, rfl, ho⟩, hb⟩
  replace O := Lib.hid (O.out.below hb)
  replace NM := Lib.hid (NM.out.below hb)
  replace O3 := Lib.hid (O3.out.below hb)
  have R := Lib.hid (by rw [HSH.out] at ho; exact ho.at)
  replace F := Lib.hid (F.out.trans (hb.mono F.out.size))
  clear hb
  clear O3
  go_wp2_with fail
  refine (mod_nat R.out NM.out HRT.out HMN.out H0.out).mono ?_
  rintro e w6 ⟨⟨v5, rfl, ho⟩, hb⟩
  replace O := Lib.hid (O.out.below hb)
  replace NM := Lib.hid (NM.out.below hb)
  replace R := Lib.hid (R.out.below hb)
  have ON := Lib.hid (ho)
  replace F := Lib.hid (F.out.trans (hb.mono F.out.size))
  clear hb
  clear R
  have hr1 := Lib.hid (Nat.mod_lt (radix n) H0.out)
  go_wp2_with fail
  refine (mulMod_any _ _ _ _ _ _ _ ON.out.at ON.out.at NM.out).mono ?_
  rintro e w7 ⟨hr, hb⟩
  rw [mulModR_yes HM.out (Nat.lt_trans hr1.out HMN.out) (Nat.lt_trans hr1.out HMN.out) H0.out, ← Nat.mul_mod] at hr
  obtain ⟨v6, rfl, ho⟩ := hr
  replace O := Lib.hid (O.out.below hb)
  replace NM := Lib.hid (NM.out.below hb)
  replace ON := Lib.hid (ON.out.below hb)
  have SQ := Lib.hid (NatC.of ho)
  replace F := Lib.hid (F.out.trans (hb.mono F.out.size))
  clear hb
  have hr2 := Lib.hid (Nat.mod_lt (radix n * radix n) H0.out)
  have HMR : Hid (M < radix n) := Lib.hid ((own_short (k := n) O.out).1 (Nat.le_refl _))
  have hc0 := O.out.cellAt HNL.out 0 (by omega)
  have hm0 : (nat32 M)[0]?.getD 0 = M % 4294967296 := by rw [natB_get (by decide)]; simp
  rw [hm0] at hc0
  obtain ⟨m0, hm00⟩ : ∃ m0, m0 = M % 4294967296 := ⟨_, rfl⟩
  rw [← hm00] at hc0
  have HMI := Lib.hid (fun W => minusInverse_any m0 W (by omega) (by have := HOD.out; omega))
  have HM0 := Lib.hid hm00
  clear hm0 hm00
  go_wp2_with fail
  refine (HMI.out _).mono ?_
  rintro e wz ⟨⟨kk, rfl, hkl, hinv⟩, rfl⟩
  have HKL := Lib.hid hkl
  have HIV : Hid ((kk * M + 1) % 4294967296 = 0) := Lib.hid (by
    rw [HM0.out, Nat.add_mod, Nat.mul_mod_mod, ← Nat.add_mod] at hinv
    exact hinv)
  clear hkl hinv hc0
  go_wp2_with fail
  refine (wide_w ON.out (Nat.lt_trans hr1.out HMR.out) (by omega)).mono ?_
  rintro e w8 ⟨⟨v7, rfl, ho⟩, hb⟩
  replace O := Lib.hid (O.out.below hb)
  replace NM := Lib.hid (NM.out.below hb)
  replace ON := Lib.hid (ON.out.below hb)
  replace SQ := Lib.hid (SQ.out.below hb)
  have W1 := Lib.hid (ho.mono F.out.size)
  replace F := Lib.hid (F.out.trans (hb.mono F.out.size))
  clear hb
  go_wp2_with fail
  refine (wide_w SQ.out (Nat.lt_trans hr2.out HMR.out) (by omega)).mono ?_
  rintro e w9 ⟨⟨v8, rfl, ho⟩, hb⟩
  replace O := Lib.hid (O.out.below hb)
  replace NM := Lib.hid (NM.out.below hb)
  replace ON := Lib.hid (ON.out.below hb)
  replace SQ := Lib.hid (SQ.out.below hb)
  replace W1 := Lib.hid (W1.out.below hb)
  have W2 := Lib.hid (ho.mono F.out.size)
  replace F := Lib.hid (F.out.trans (hb.mono F.out.size))
  clear hb
  obtain ⟨b1, n1, d1, rfl, hl1, w1o⟩ := W1.out.slice
  obtain ⟨b2, n2, d2, rfl, hl2, w2o⟩ := W2.out.slice
  rw [wideN_len (Nat.lt_trans hr1.out HMR.out)] at hl1
  rw [wideN_len (Nat.lt_trans hr2.out HMR.out)] at hl2
  subst hl1 hl2
  have HFR := Lib.hid (WhlFrom.new (E := 56) F.out.size O.out w1o w2o rfl rfl rfl HKL.out HIV.out HOD.out H3.out HM.out)
  rw [HNL.out] at HFR
  clear w1o w2o W1 W2
  go_wp2
  go_ret2
  exact ⟨⟨_, rfl, by rw [HNL.out]; exact HFR.out⟩, F.out.alloc F.out.size _⟩

end Go.Proofs.Ytebfoalcmnpghaa

namespace Go.Proofs.Ytebfoalcmnpghaa
open Go.RowKit

theorem natAt_nil (w : World) : NatAt w (.slice none 0 0) 0 := ⟨none, 0, 0, [], rfl, Reads.none _ _, fun x hx => (by cases hx), rfl⟩

set_option maxRecDepth 100000 in
set_option maxHeartbeats 2000000 in
theorem new_no (x : Value) (M : Nat) (w : World) (hx : NatAt w x M) (hM : ¬ (M < topM ∧ 3 ≤ M ∧ M % 2 = 1)) :
    Calls Try.prog 10 #[x] w fun e w' => e = .returned (.tuple #[.pointer none, .int .i64 70]) ∧ Below w.heap.size w w' := by
  have NX := Lib.hid hx
  have F := Lib.hid (Below.refl w.heap.size w)
  clear hx
  by_cases hN : M < topN
  · have HN := Lib.hid hN
    by_cases hT : M < topM
    · have HM := Lib.hid hT
      by_cases ho : M % 2 = 1
      · have HTB := Lib.hid (testBit_odd ho)
        have HO := Lib.hid (show (-1 : Int) = ordN M 3 from (ordN_lt (by omega)).symm)
        clear hM hN hT ho
        go_enter Try.func10, Try.ntmps10
        go_wp2_with fail
        refine (trim_ok NX.out HN.out).mono ?_
        rintro e w1 ⟨⟨v1, rfl, ho⟩, hb⟩
        obtain ⟨a1, n, c1, rfl, hn, ho⟩ := ho.slice
        have O := Lib.hid (ho)
        replace F := Lib.hid (F.out.trans (hb.mono F.out.size))
        clear hb
        have hn128 := (own_short (k := 128) O.out).2 HM.out
        have hd : decide ((128 : Int) < (n : Int)) = false := by simp; omega
        have NM := Lib.hid (natAt_own O.out)
        clear hn
        go_wp2_with fail
        refine (bit_nat NM.out 0 (by decide) true (by rw [show ((0 : Int).toNat) = 0 from rfl, HTB.out]; rfl)).mono ?_
        rintro e wz ⟨rfl, rfl⟩
        go_wp2_with fail
        refine (of_own 3 3 rfl _ (by decide)).mono ?_
        rintro e w2 ⟨⟨v2, rfl, ho⟩, hb⟩
        replace O := Lib.hid (O.out.below hb)
        replace NM := Lib.hid (NM.out.below hb)
        have O2 := Lib.hid (natAt_own ho)
        replace F := Lib.hid (F.out.trans (hb.mono F.out.size))
        clear hb
        go_wp2_with fail
        refine (cmp_nat NM.out O2.out _ HO.out).mono ?_
        rintro e w3 ⟨rfl, hb⟩
        replace O := Lib.hid (O.out.below hb)
        replace NM := Lib.hid (NM.out.below hb)
        replace O2 := Lib.hid (O2.out.below hb)
        replace F := Lib.hid (F.out.trans (hb.mono F.out.size))
        clear hb
        go_wp2
        go_ret2
        exact ⟨rfl, F.out⟩
      · have HTB := Lib.hid (testBit_even ho)
        clear hM hN hT ho
        go_enter Try.func10, Try.ntmps10
        go_wp2_with fail
        refine (trim_ok NX.out HN.out).mono ?_
        rintro e w1 ⟨⟨v1, rfl, ho⟩, hb⟩
        obtain ⟨a1, n, c1, rfl, hn, ho⟩ := ho.slice
        have O := Lib.hid (ho)
        replace F := Lib.hid (F.out.trans (hb.mono F.out.size))
        clear hb
        have hn128 := (own_short (k := 128) O.out).2 HM.out
        have hd : decide ((128 : Int) < (n : Int)) = false := by simp; omega
        have NM := Lib.hid (natAt_own O.out)
        clear hn
        go_wp2_with fail
        refine (bit_nat NM.out 0 (by decide) false (by rw [show ((0 : Int).toNat) = 0 from rfl, HTB.out]; rfl)).mono ?_
        rintro e wz ⟨rfl, rfl⟩
        go_wp2
        go_ret2
        exact ⟨rfl, F.out⟩
    · have HM := Lib.hid hT
      clear hM hN hT
      go_enter Try.func10, Try.ntmps10
      go_wp2_with fail
      refine (trim_ok NX.out HN.out).mono ?_
      rintro e w1 ⟨⟨v1, rfl, ho⟩, hb⟩
      obtain ⟨a1, n, c1, rfl, hn, ho⟩ := ho.slice
      have O := Lib.hid (ho)
      replace F := Lib.hid (F.out.trans (hb.mono F.out.size))
      clear hb
      have hn128 := mt (own_short (k := 128) O.out).1 HM.out
      have hd : decide ((128 : Int) < (n : Int)) = true := by simp; omega
      clear hn
      go_wp2
      go_ret2
      exact ⟨rfl, F.out⟩
  · have HN := Lib.hid hN
    clear hM hN
    go_enter Try.func10, Try.ntmps10
    go_wp2_with fail
    refine (trim_no NX.out HN.out).mono ?_
    rintro e w1 ⟨⟨v1, rfl⟩, hb⟩
    replace F := Lib.hid (F.out.trans (hb.mono F.out.size))
    clear hb
    go_wp2
    go_ret2
    exact ⟨rfl, F.out⟩

def inR (n M X : Nat) : List Nat × Int := if X < topN then (nat32 (X * radix n % M), 0) else ([], 20)
theorem inR_yes {n M X : Nat} (h : X < topN) : inR n M X = (nat32 (X * radix n % M), 0) := if_pos h
theorem inR_no {n M X : Nat} (h : ¬ X < topN) : inR n M X = ([], 20) := if_neg h
def outR (n M X : Nat) : List Nat × Int := if X < M then (nat32 (monN n M X), 0) else ([], 70)
theorem outR_yes {n M X : Nat} (h : X < M) : outR n M X = (nat32 (monN n M X), 0) := if_pos h
theorem outR_no {n M X : Nat} (h : ¬ X < M) : outR n M X = ([], 70) := if_neg h
def productR (n M X Y : Nat) : List Nat × Int := if X < M ∧ Y < M then (nat32 (monN n M (X * Y)), 0) else ([], 70)
theorem productR_yes {n M X Y : Nat} (h : X < M) (k : Y < M) : productR n M X Y = (nat32 (monN n M (X * Y)), 0) := if_pos ⟨h, k⟩
theorem productR_no {n M X Y : Nat} (h : ¬ (X < M ∧ Y < M)) : productR n M X Y = ([], 70) := if_neg h

set_option maxHeartbeats 1000000 in
theorem In_any (p x : Value) (n M X : Nat) (w : World) (hW : Whl w p n M) (hx : NatAt w x X) :
    Calls Try.prog 14 #[p, x] w fun e w' => RetsQ2 .u32 41 w.heap.size w' (inR n M X) e ∧ Below w.heap.size w w' := by
  obtain ⟨hn1, hn2, hMR, hMT, h3, hod⟩ := hW.val
  have HW := Lib.hid hW
  have HMR := Lib.hid hMR
  have HMN := Lib.hid (Nat.lt_of_lt_of_le hMT topM_le)
  have H0 := Lib.hid (show 0 < M by omega)
  have F := Lib.hid (Below.refl w.heap.size w)
  have NX := Lib.hid hx
  by_cases hX : X < topN
  · have HX := Lib.hid hX
    have HR := Lib.hid (inR_yes (n := n) (M := M) hX)
    have HML := Lib.hid (Nat.mod_lt (X * radix n) (show 0 < M by omega))
    clear hX hx hW hMR hMT h3 hod
    go_enter Try.func14, Try.ntmps14
    go_wp2_with fail
    refine (made_any _ _ _ _ HW.out).mono ?_
    rintro e wz ⟨rfl, rfl⟩
    go_wp2_with fail
    refine (in_any _ _ n M X _ HW.out NX.out HX.out).mono ?_
    rintro e w1 ⟨⟨v1, rfl, ho⟩, hb⟩
    have A := Lib.hid (WideAt.of ho (Nat.lt_trans HML.out HMR.out))
    replace F := Lib.hid (F.out.trans (hb.mono F.out.size))
    clear hb
    go_wp2_with fail
    refine (narrow_w A.out (Nat.lt_trans HML.out HMN.out)).mono ?_
    rintro e w2 ⟨⟨v2, rfl, ho⟩, hb⟩
    replace A := Lib.hid (A.out.below hb)
    have B := Lib.hid (ho.mono F.out.size)
    replace F := Lib.hid (F.out.trans (hb.mono F.out.size))
    clear hb
    go_wp2
    go_ret2
    exact ⟨⟨_, by rw [HR.out]; rfl, by rw [HR.out]; exact B.out⟩, F.out⟩
  · have HX := Lib.hid hX
    have HR := Lib.hid (inR_no (n := n) (M := M) hX)
    clear hX hx hW hMR hMT h3 hod
    go_enter Try.func14, Try.ntmps14
    go_wp2_with fail
    refine (made_any _ _ _ _ HW.out).mono ?_
    rintro e wz ⟨rfl, rfl⟩
    go_wp2_with fail
    refine (in_no _ _ n M X _ HW.out NX.out HX.out).mono ?_
    rintro e w1 ⟨rfl, hb⟩
    replace F := Lib.hid (F.out.trans (hb.mono F.out.size))
    clear hb
    go_wp2_with fail
    refine (narrow_n (X := 0) (natAt_nil _) topN_pos).mono ?_
    rintro e w2 ⟨⟨v2, rfl, ho⟩, hb⟩
    have B := Lib.hid (ho.mono F.out.size)
    replace F := Lib.hid (F.out.trans (hb.mono F.out.size))
    clear hb
    go_wp2
    go_ret2
    exact ⟨⟨_, by rw [HR.out]; rfl, by rw [HR.out]; have := B.out; rwa [show nat32 0 = [] from natB_zero _] at this⟩, F.out⟩

set_option maxHeartbeats 1000000 in
theorem Out_any (p x : Value) (n M X : Nat) (w : World) (hW : Whl w p n M) (hx : NatAt w x X) :
    Calls Try.prog 16 #[p, x] w fun e w' => RetsQ2 .u32 41 w.heap.size w' (outR n M X) e ∧ Below w.heap.size w w' := by
  obtain ⟨hn1, hn2, hMR, hMT, h3, hod⟩ := hW.val
  have HW := Lib.hid hW
  have HMR := Lib.hid hMR
  have HMN := Lib.hid (Nat.lt_of_lt_of_le hMT topM_le)
  have H0 := Lib.hid (show 0 < M by omega)
  have F := Lib.hid (Below.refl w.heap.size w)
  have NX := Lib.hid hx
  by_cases hX : X < M
  · have HX := Lib.hid hX
    have HR := Lib.hid (outR_yes (n := n) (M := M) hX)
    clear hX hx hW hMR hMT h3 hod
    go_enter Try.func16, Try.ntmps16
    go_wp2_with fail
    refine (made_any _ _ _ _ HW.out).mono ?_
    rintro e wz ⟨rfl, rfl⟩
    go_wp2_with fail
    refine (below_yes _ _ n M X _ HW.out NX.out HX.out).mono ?_
    rintro e w1 ⟨⟨v1, rfl, ho⟩, hb⟩
    replace HW := Lib.hid (HW.out.below hb)
    have A := Lib.hid (WideAt.of ho (Nat.lt_trans HX.out HMR.out))
    replace F := Lib.hid (F.out.trans (hb.mono F.out.size))
    clear hb
    go_wp2_with fail
    refine (out_any _ _ n M X _ HW.out A.out HX.out).mono ?_
    rintro e w2 ⟨⟨v2, rfl, ho⟩, hb⟩
    replace HW := Lib.hid (HW.out.below hb)
    replace A := Lib.hid (A.out.below hb)
    have B := Lib.hid (ho.mono F.out.size)
    replace F := Lib.hid (F.out.trans (hb.mono F.out.size))
    clear hb
    go_wp2
    go_ret2
    exact ⟨⟨_, by rw [HR.out]; rfl, by rw [HR.out]; exact B.out⟩, F.out⟩
  · have HX := Lib.hid hX
    have HR := Lib.hid (outR_no (n := n) (M := M) hX)
    clear hX hx hW hMR hMT h3 hod
    go_enter Try.func16, Try.ntmps16
    go_wp2_with fail
    refine (made_any _ _ _ _ HW.out).mono ?_
    rintro e wz ⟨rfl, rfl⟩
    go_wp2_with fail
    refine (below_no _ _ n M X _ HW.out NX.out HX.out).mono ?_
    rintro e w1 ⟨rfl, hb⟩
    replace F := Lib.hid (F.out.trans (hb.mono F.out.size))
    clear hb
    go_wp2
    go_ret2
    exact ⟨⟨_, by rw [HR.out]; rfl, by rw [HR.out]; exact OwnQ.nil _ _ _ _⟩, F.out⟩

set_option maxHeartbeats 2000000 in
theorem Product_any (p x y : Value) (n M X Y : Nat) (w : World) (hW : Whl w p n M) (hx : NatAt w x X) (hy : NatAt w y Y) :
    Calls Try.prog 12 #[p, x, y] w fun e w' => RetsQ2 .u32 41 w.heap.size w' (productR n M X Y) e ∧ Below w.heap.size w w' := by
  obtain ⟨hn1, hn2, hMR, hMT, h3, hod⟩ := hW.val
  have HW := Lib.hid hW
  have HMR := Lib.hid hMR
  have HMN := Lib.hid (Nat.lt_of_lt_of_le hMT topM_le)
  have H0 := Lib.hid (show 0 < M by omega)
  have F := Lib.hid (Below.refl w.heap.size w)
  have NX := Lib.hid hx
  have NY := Lib.hid hy
  by_cases hX : X < M
  · have HX := Lib.hid hX
    by_cases hY : Y < M
    · have HY := Lib.hid hY
      have HR := Lib.hid (productR_yes (n := n) hX hY)
      have HL := Lib.hid (show monN n M (X * Y) < M from monN_lt (by omega))
      clear hX hY hx hy hW hMR hMT h3 hod
      go_enter Try.func12, Try.ntmps12
      go_wp2_with fail
      refine (made_any _ _ _ _ HW.out).mono ?_
      rintro e wz ⟨rfl, rfl⟩
      go_wp2_with fail
      refine (below_yes _ _ n M X _ HW.out NX.out HX.out).mono ?_
      rintro e w1 ⟨⟨v1, rfl, ho⟩, hb⟩
      replace HW := Lib.hid (HW.out.below hb)
      replace NY := Lib.hid (NY.out.below hb)
      have A := Lib.hid (WideAt.of ho (Nat.lt_trans HX.out HMR.out))
      replace F := Lib.hid (F.out.trans (hb.mono F.out.size))
      clear hb
      go_wp2_with fail
      refine (below_yes _ _ n M Y _ HW.out NY.out HY.out).mono ?_
      rintro e w2 ⟨⟨v2, rfl, ho⟩, hb⟩
      replace HW := Lib.hid (HW.out.below hb)
      replace NY := Lib.hid (NY.out.below hb)
      replace A := Lib.hid (A.out.below hb)
      have B := Lib.hid (WideAt.of ho (Nat.lt_trans HY.out HMR.out))
      replace F := Lib.hid (F.out.trans (hb.mono F.out.size))
      clear hb
      go_wp2_with fail
      refine (times_w HW.out A.out B.out HX.out).mono ?_
      rintro e w3 ⟨⟨v3, rfl, ho⟩, hb⟩
      replace HW := Lib.hid (HW.out.below hb)
      replace NY := Lib.hid (NY.out.below hb)
      replace A := Lib.hid (A.out.below hb)
      replace B := Lib.hid (B.out.below hb)
      have C := Lib.hid (WideAt.of ho (Nat.lt_trans HL.out HMR.out))
      replace F := Lib.hid (F.out.trans (hb.mono F.out.size))
      clear hb
      go_wp2_with fail
      refine (narrow_w C.out (Nat.lt_trans HL.out HMN.out)).mono ?_
      rintro e w4 ⟨⟨v4, rfl, ho⟩, hb⟩
      replace HW := Lib.hid (HW.out.below hb)
      replace NY := Lib.hid (NY.out.below hb)
      replace A := Lib.hid (A.out.below hb)
      replace B := Lib.hid (B.out.below hb)
      replace C := Lib.hid (C.out.below hb)
      have D := Lib.hid (ho.mono F.out.size)
      replace F := Lib.hid (F.out.trans (hb.mono F.out.size))
      clear hb
      go_wp2
      go_ret2
      exact ⟨⟨_, by rw [HR.out]; rfl, by rw [HR.out]; exact D.out⟩, F.out⟩
    · have HY := Lib.hid hY
      have HR := Lib.hid (productR_no (n := n) (M := M) (X := X) (Y := Y) (fun h => hY h.2))
      clear hX hY hx hy hW hMR hMT h3 hod
      go_enter Try.func12, Try.ntmps12
      go_wp2_with fail
      refine (made_any _ _ _ _ HW.out).mono ?_
      rintro e wz ⟨rfl, rfl⟩
      go_wp2_with fail
      refine (below_yes _ _ n M X _ HW.out NX.out HX.out).mono ?_
      rintro e w1 ⟨⟨v1, rfl, -⟩, hb⟩
      replace HW := Lib.hid (HW.out.below hb)
      replace NY := Lib.hid (NY.out.below hb)
      replace F := Lib.hid (F.out.trans (hb.mono F.out.size))
      clear hb
      go_wp2_with fail
      refine (below_no _ _ n M Y _ HW.out NY.out HY.out).mono ?_
      rintro e w2 ⟨rfl, hb⟩
      replace HW := Lib.hid (HW.out.below hb)
      replace NY := Lib.hid (NY.out.below hb)
      replace F := Lib.hid (F.out.trans (hb.mono F.out.size))
      clear hb
      go_wp2
      go_ret2
      exact ⟨⟨_, by rw [HR.out]; rfl, by rw [HR.out]; exact OwnQ.nil _ _ _ _⟩, F.out⟩
  · have HX := Lib.hid hX
    have HR := Lib.hid (productR_no (n := n) (M := M) (X := X) (Y := Y) (fun h => hX h.1))
    by_cases hY : Y < M
    · have HY := Lib.hid hY
      clear hX hY hx hy hW hMR hMT h3 hod
      go_enter Try.func12, Try.ntmps12
      go_wp2_with fail
      refine (made_any _ _ _ _ HW.out).mono ?_
      rintro e wz ⟨rfl, rfl⟩
      go_wp2_with fail
      refine (below_no _ _ n M X _ HW.out NX.out HX.out).mono ?_
      rintro e w1 ⟨rfl, hb⟩
      replace HW := Lib.hid (HW.out.below hb)
      replace NY := Lib.hid (NY.out.below hb)
      replace F := Lib.hid (F.out.trans (hb.mono F.out.size))
      clear hb
      go_wp2_with fail
      refine (below_yes _ _ n M Y _ HW.out NY.out HY.out).mono ?_
      rintro e w2 ⟨⟨v1, rfl, -⟩, hb⟩
      replace HW := Lib.hid (HW.out.below hb)
      replace NY := Lib.hid (NY.out.below hb)
      replace F := Lib.hid (F.out.trans (hb.mono F.out.size))
      clear hb
      go_wp2
      go_ret2
      exact ⟨⟨_, by rw [HR.out]; rfl, by rw [HR.out]; exact OwnQ.nil _ _ _ _⟩, F.out⟩
    · have HY := Lib.hid hY
      clear hX hY hx hy hW hMR hMT h3 hod
      go_enter Try.func12, Try.ntmps12
      go_wp2_with fail
      refine (made_any _ _ _ _ HW.out).mono ?_
      rintro e wz ⟨rfl, rfl⟩
      go_wp2_with fail
      refine (below_no _ _ n M X _ HW.out NX.out HX.out).mono ?_
      rintro e w1 ⟨rfl, hb⟩
      replace HW := Lib.hid (HW.out.below hb)
      replace NY := Lib.hid (NY.out.below hb)
      replace F := Lib.hid (F.out.trans (hb.mono F.out.size))
      clear hb
      go_wp2_with fail
      refine (below_no _ _ n M Y _ HW.out NY.out HY.out).mono ?_
      rintro e w2 ⟨rfl, hb⟩
      replace HW := Lib.hid (HW.out.below hb)
      replace NY := Lib.hid (NY.out.below hb)
      replace F := Lib.hid (F.out.trans (hb.mono F.out.size))
      clear hb
      go_wp2
      go_ret2
      exact ⟨⟨_, by rw [HR.out]; rfl, by rw [HR.out]; exact OwnQ.nil _ _ _ _⟩, F.out⟩

set_option maxHeartbeats 1000000 in
theorem Modulus_any (p : Value) (n M : Nat) (w : World) (hW : Whl w p n M) :
    Calls Try.prog 18 #[p] w fun e w' => RetsQ .u32 41 w.heap.size w' (nat32 M) e ∧ Below w.heap.size w w' := by
  obtain ⟨hn1, hn2, hMR, hMT, h3, hod⟩ := hW.val
  have HW := Lib.hid hW
  have HMR := Lib.hid hMR
  have HMN := Lib.hid (Nat.lt_of_lt_of_le hMT topM_le)
  have H0 := Lib.hid (show 0 < M by omega)
  have F := Lib.hid (Below.refl w.heap.size w)
  obtain ⟨g, a, c, k, a1, c1, a2, c2, rfl, hC⟩ := hW
  have cm := hC.m
  have NM := Lib.hid hC.natM
  clear hMR hMT h3 hod hC
  go_enter Try.func18, Try.ntmps18
  go_wp2_with fail
  refine (made_any _ _ _ _ HW.out).mono ?_
  rintro e wz ⟨rfl, rfl⟩
  go_wp2_with fail
  refine (narrow_n NM.out HMN.out).mono ?_
  rintro e w1 ⟨⟨v1, rfl, ho⟩, hb⟩
  have B := Lib.hid (ho)
  replace F := Lib.hid (F.out.trans (hb.mono F.out.size))
  clear hb
  go_wp2
  go_ret
  exact ⟨⟨_, rfl, B.out⟩, F.out⟩

end Go.Proofs.Ytebfoalcmnpghaa
