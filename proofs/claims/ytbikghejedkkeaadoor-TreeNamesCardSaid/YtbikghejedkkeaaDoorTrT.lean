/-
  WHETHER A TREE IS GREATER THAN STATEMENTS GO THROUGH: the law's weigh and great, walked by induction on the tree.
-/
import Derived.Test.YtbikghejedkkeaaDoorTrM
namespace Go.Proofs.YtbikghejedkkeaaDoor
open Go.RowKit

mutual
/-- What is left behind a tree. -/
def weighT : Tr → Int → Int → Int
  | .mk _ _ _ l ks, left, d => weighK ks (left - 1 - (l.length : Int)) d
def weighK : List Tr → Int → Int → Int
  | [], left, _ => left
  | t :: ts, left, d => if left < 0 then left else if d < 1 then -1 else weighK ts (weighT t left (d - 1)) d
end

theorem weighK_neg (ks : List Tr) (x d : Int) (h : x < 0) : weighK ks x d = x := by
  cases ks with
  | nil => rfl
  | cons t ts => rw [weighK, if_pos h]

mutual
theorem weighT_le : ∀ (T : Tr) (left d : Int), weighT T left d ≤ left - 1 ∨ weighT T left d = -1 ∧ 0 ≤ left
  | .mk c t k l ks, left, d => by
    rw [weighT]
    have := weighK_le ks (left - 1 - (l.length : Int)) d
    omega
theorem weighK_le : ∀ (ks : List Tr) (left d : Int), weighK ks left d ≤ left ∨ weighK ks left d = -1 ∧ 0 ≤ left
  | [], left, d => by rw [weighK]; omega
  | t :: ts, left, d => by
    rw [weighK]
    split
    · omega
    · split
      · omega
      · have h1 := weighT_le t left (d - 1)
        have h2 := weighK_le ts (weighT t left (d - 1)) d
        omega
end

mutual
theorem weighT_ok : ∀ (T : Tr) (left d : Int), 0 ≤ weighT T left d → weighT T left d + T.wt ≤ left ∧ (0 ≤ d → (T.dep : Int) ≤ d + 1)
  | .mk c t k l ks, left, d => by
    rw [weighT, Tr.wt, Tr.dep]
    intro h
    have := weighK_ok ks (left - 1 - (l.length : Int)) d h
    omega
theorem weighK_ok : ∀ (ks : List Tr) (left d : Int), 0 ≤ weighK ks left d → weighK ks left d + wtL ks ≤ left ∧ (0 ≤ d → (depL ks : Int) ≤ d)
  | [], left, d => by rw [weighK, wtL, depL]; omega
  | t :: ts, left, d => by
    rw [weighK, wtL, depL]
    split
    · omega
    · split
      · omega
      · intro h
        have h2 := weighK_ok ts (weighT t left (d - 1)) d h
        have h3 := weighT_ok t left (d - 1) (by have := weighK_le ts (weighT t left (d - 1)) d; by_cases hz : weighT t left (d - 1) < 0; (rw [weighK_neg _ _ _ hz] at h; omega); omega)
        omega
end

theorem ret_iT {a b : Int} (h : a = b) : Ending.returned (.int .i64 a) = .returned (.int .i64 b) := by rw [h]
theorem ret_bT {a b : Bool} (h : a = b) : Ending.returned (.bool a) = .returned (.bool b) := by rw [h]

def WeighOk (T : Tr) : Prop := ∀ (V : NV) (w : World) (left d : Int), NodeAt w V T → 0 ≤ left → left ≤ 10000 → 0 ≤ d → d ≤ 1000 →
  Calls Tryd.prog 32 #[V.agg, .int .i64 left, .int .i64 d] w fun e w' => e = .returned (.int .i64 (weighT T left d)) ∧ -9223372036854775808 ≤ weighT T left d ∧ Below w.heap.size w w'

structure WghI (w1 : World) (ks : List Tr) (d tot : Int) (k : Nat) (x : Int) (wr : World) : Prop where
  same : weighK (ks.drop k) x d = tot
  lo : -9223372036854775808 ≤ x
  hi : x ≤ 10000
  below : Below w1.heap.size w1 wr

set_option maxRecDepth 100000 in
set_option maxHeartbeats 8000000 in
theorem weigh_of (c t : Int) (kk : Bool) (l : List Nat) (ks : List Tr) (hI : ∀ T ∈ ks, WeighOk T) : WeighOk (.mk c t kk l ks) := by
  intro V w left d hn h0 h1 h2 h3
  have e1 : c = V.cls := hn.cls
  have e2 : t = V.tag := hn.tag
  have e3 : kk = V.cons := hn.cons
  have hby := hn.bytes
  have hkd := hn.kids
  obtain ⟨vc, vt, vk, ba, bl, bc, ka, kl, kc⟩ := V
  dsimp only at e1 e2 e3 hby hkd
  subst e1 e2 e3
  simp only [Tr.b, Tr.kids] at hby hkd
  have hkl := Lib.hid hkd.length
  have hkle := hkd.le
  have hkm := hkd.max
  have hbl := Lib.hid hby.length
  have hble := hby.le
  have hbm := hby.max
  unfold maxLen at hkm hbm
  obtain ⟨w1, hw1⟩ : ∃ w1, w.alloc (.cells #[.int .i64 c, .int .i64 t, .bool kk, .slice ba bl bc, .slice ka kl kc] 25) = w1 := ⟨_, rfl⟩
  have hz1 : w1.heap.size = w.heap.size + 1 := by rw [← hw1]; simp
  have hb1 : Below w.heap.size w w1 := by rw [← hw1]; exact (Below.refl _ _).alloc (Nat.le_refl _) _
  have ca : CellsAt w1 w.heap.size 0 ⟨c, t, kk, ba, bl, bc, ka, kl, kc⟩ := by rw [← hw1]; exact cells5 w c t kk ba bl bc ka kl kc _
  have CA := Lib.hid ca
  have HB1 := Lib.hid hb1
  have HZ := Lib.hid hz1
  have HKD := Lib.hid hkd
  have HI := Lib.hid hI
  obtain ⟨p0, p1, p2, p3, p4⟩ := ca
  dsimp only at p0 p1 p2 p3 p4
  simp only [Nat.zero_add] at p0 p1 p2 p3 p4
  have HT := Lib.hid (show weighT (.mk c t kk l ks) left d = weighK ks (left - 1 - (bl : Int)) d by rw [weighT, hbl.out])
  obtain ⟨tot, htot⟩ : ∃ x, weighT (.mk c t kk l ks) left d = x := ⟨_, rfl⟩
  rw [htot] at HT ⊢
  clear hn hby hkd hb1 hz1 hI htot
  unfold NV.agg
  dsimp only
  go_enter Tryd.func32, Tryd.ntmps32
  go_wp2_with fail
  clear hw1
  go_loopw [7, 1] (fun i lf wr => ∃ (k : Nat) (x : Int), k ≤ kl ∧ i = .int .i64 (k : Int) ∧ lf = .int .i64 x ∧ WghI w1 ks d tot k x wr) (fun i _ _ => kl - (intOf i).toNat)
  case atStart => exact ⟨0, left - 1 - (bl : Int), Nat.zero_le _, rfl, rfl, HT.out.symm, by omega, by omega, Below.refl _ _⟩
  case round =>
    obtain ⟨k, x, hk, rfl, rfl, hr⟩ := hrel
    have hlo := hr.lo
    have hhi := hr.hi
    have HRL := Lib.hid hr
    have p4 := (CA.out.below hr.below CA.out.lt).c4
    dsimp only at p4
    rw [Nat.zero_add] at p4
    clear hr p0 p1 p2 p3
    by_cases hlt : k < kl
    · by_cases hx : 0 ≤ x
      · have hk1 : k < ks.length := by rw [hkl.out]; exact hlt
        have HD := Lib.hid (show weighK (ks.drop k) x d = if d < 1 then -1 else weighK (ks.drop (k + 1)) (weighT ks[k] x (d - 1)) d by
          rw [List.drop_eq_getElem_cons hk1, weighK, if_neg (by omega)])
        by_cases hd : d < 1
        · go_wp2_with fail
          go_ret
          exact ⟨ret_iT (by rw [← HRL.out.same, HD.out, if_pos hd]), by rw [← HRL.out.same, HD.out, if_pos hd]; omega, HB1.out.trans (HRL.out.below.mono (by have := HZ.out; omega))⟩
        · have hd : 1 ≤ d := Int.not_lt.1 hd
          obtain ⟨U, hc, hnu⟩ := HKD.out.cells
          obtain ⟨b1, o1, rfl, hb1, hcell⟩ := hc (by omega)
          have hbw : Below w.heap.size w wr := HB1.out.trans (HRL.out.below.mono (by have := HZ.out; omega))
          have hcu := (hcell k hlt).below hbw hb1
          have hnk := (hnu k hk1).under hbw
          obtain ⟨X, hX⟩ : ∃ X, U k = X := ⟨_, rfl⟩
          rw [hX] at hcu hnk
          have HOK := Lib.hid (HI.out ks[k] (List.getElem_mem hk1) X wr x (d - 1) hnk hx hhi (by omega) (by omega))
          obtain ⟨xc, xt, xk, xa, xl, xm, ya, yl, ym⟩ := X
          unfold NV.agg at HOK
          dsimp only at HOK
          obtain ⟨r0, r1, r2, r3, r4⟩ := hcu
          dsimp only at r0 r1 r2 r3 r4
          clear hc hnu hcell hnk hX hbw hb1
          go_wp2_with fail
          refine HOK.out.mono ?_
          rintro e w4 ⟨rfl, hlo4, hb4⟩
          have HB4 := Lib.hid (HRL.out.below.trans (hb4.mono HRL.out.below.size))
          have HX4 := Lib.hid (And.intro hlo4 (show weighT ks[k] x (d - 1) ≤ 10000 by have := weighT_le ks[k] x (d - 1); omega))
          have HE := Lib.hid (show weighK (ks.drop (k + 1)) (weighT ks[k] x (d - 1)) d = tot by rw [← HRL.out.same, HD.out, if_neg (Int.not_lt.2 hd)])
          clear hb4 hlo4 p4 r0 r1 r2 r3 r4 HD HOK
          generalize weighT ks[k] x (d - 1) = x4 at *
          go_wp2_with fail
          go_roundw
          case rel => exact ⟨k + 1, x4, by omega, by go_num, rfl, HE.out, HX4.out.1, HX4.out.2, HB4.out⟩
          case measure => simp [intOf]; omega
      · have HE := Lib.hid (show x = tot by rw [← HRL.out.same, weighK_neg _ _ _ (by omega)])
        go_wp2_with fail
        go_ret
        exact ⟨ret_iT HE.out, by rw [← HE.out]; exact HRL.out.lo, HB1.out.trans (HRL.out.below.mono (by have := HZ.out; omega))⟩
    · obtain rfl : k = kl := by omega
      have HE := Lib.hid (show x = tot by rw [← HRL.out.same, List.drop_of_length_le (by rw [hkl.out]; exact Nat.le_refl _), weighK])
      clear hlt
      go_wp2_with fail
      go_ret
      exact ⟨ret_iT HE.out, by rw [← HE.out]; exact HRL.out.lo, HB1.out.trans (HRL.out.below.mono (by have := HZ.out; omega))⟩

theorem weigh_ok : ∀ (n : Nat) (T : Tr), T.wt ≤ n → WeighOk T
  | 0, T, h => by have := T.wt_pos; omega
  | n + 1, .mk c t k l ks, h => by
    simp only [Tr.wt] at h
    exact weigh_of c t k l ks (fun T hT => weigh_ok n T (by have := wtL_mem hT; omega))

/-- Is a tree greater than statements go through? -/
def greatT (T : Tr) : Bool := decide (weighT T 10000 200 < 0)

mutual
theorem Tr.cnt_wt : ∀ T : Tr, T.cnt ≤ T.wt
  | .mk _ _ _ _ ks => by simp only [Tr.cnt, Tr.wt]; have := cntL_wtL ks; omega
theorem cntL_wtL : ∀ l : List Tr, cntL l ≤ wtL l
  | [] => Nat.le_refl _
  | t :: ts => by simp only [cntL, wtL]; have := t.cnt_wt; have := cntL_wtL ts; omega
end

theorem great_no {T : Tr} (h : greatT T = false) : T.wt ≤ 10000 ∧ T.cnt ≤ 10000 ∧ T.dep ≤ 201 := by
  have hc := T.cnt_wt
  have h2 : ¬ (weighT T 10000 200 < 0) := by simpa [greatT] using h
  have := weighT_ok T 10000 200 (by omega)
  omega

theorem great_any (T : Tr) (V : NV) (w : World) (hn : NodeAt w V T) : Calls Tryd.prog 8 #[V.agg] w fun e w' => e = .returned (.bool (greatT T)) ∧ Below w.heap.size w w' := by
  obtain ⟨c, t, kk, ba, bl, bc, ka, kl, kc⟩ := V
  obtain ⟨w1, hw1⟩ : ∃ w1, w.alloc (.cells #[.int .i64 c, .int .i64 t, .bool kk, .slice ba bl bc, .slice ka kl kc] 25) = w1 := ⟨_, rfl⟩
  have hb1 : Below w.heap.size w w1 := by rw [← hw1]; exact (Below.refl _ _).alloc (Nat.le_refl _) _
  have ca : CellsAt w1 w.heap.size 0 ⟨c, t, kk, ba, bl, bc, ka, kl, kc⟩ := by rw [← hw1]; exact cells5 w c t kk ba bl bc ka kl kc _
  have HOK := Lib.hid (weigh_ok T.wt T (Nat.le_refl _) ⟨c, t, kk, ba, bl, bc, ka, kl, kc⟩ w1 10000 200 (hn.under hb1) (by decide) (by decide) (by decide) (by decide))
  have HB1 := Lib.hid hb1
  obtain ⟨p0, p1, p2, p3, p4⟩ := ca
  dsimp only at p0 p1 p2 p3 p4
  simp only [Nat.zero_add] at p0 p1 p2 p3 p4
  unfold NV.agg at HOK ⊢
  dsimp only at HOK ⊢
  clear hb1 hn
  go_enter Tryd.func8, Tryd.ntmps8
  go_wp2_with fail
  clear hw1
  refine HOK.out.mono ?_
  rintro e w4 ⟨rfl, -, hb4⟩
  have HB4 := Lib.hid (HB1.out.trans (hb4.mono HB1.out.size))
  have HG := Lib.hid (show greatT T = decide (weighT T 10000 200 < 0) from rfl)
  clear hb4 HOK
  generalize weighT T 10000 200 = x at *
  go_wp2_with fail
  go_ret
  exact ⟨ret_bT HG.out.symm, HB4.out⟩

end Go.Proofs.YtbikghejedkkeaaDoor
