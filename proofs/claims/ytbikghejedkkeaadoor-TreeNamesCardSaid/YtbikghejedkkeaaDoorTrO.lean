/-
  A NODE's NUMBER: tree.AsInt.
-/
import Derived.Test.YtbikghejedkkeaaDoorTrN
import Derived.Test.YtbikghejedkkeaaDoorTrE
namespace Go.Proofs.YtbikghejedkkeaaDoor
open Go.RowKit

theorem or_i64 (a : Int) (x : Nat) (h1 : -36028797018963968 ≤ a) (h2 : a < 36028797018963968) (hx : x < 256) : bits BinOp.or IntKind.i64 (a * 256) (x : Int) = a * 256 + (x : Int) := by
  obtain ⟨m, hm⟩ : ∃ m : Nat, ((a * 256) % 18446744073709551616).toNat = m * 256 := ⟨(a % 72057594037927936).toNat, by omega⟩
  have hm2 : (a * 256) % 18446744073709551616 = (m : Int) * 256 := by omega
  have hm3 : m < 72057594037927936 := by omega
  show IntKind.i64.wrap ((BitVec.ofInt 64 (a * 256) ||| BitVec.ofInt 64 (x : Int)).toNat : Int) = _
  rw [BitVec.toNat_or, BitVec.toNat_ofInt, BitVec.toNat_ofInt]
  rw [show ((a * 256) % ((2 ^ 64 : Nat) : Int)).toNat = m * 256 from hm, show ((x : Int) % ((2 ^ 64 : Nat) : Int)).toNat = x by show ((x : Int) % 18446744073709551616).toNat = x; omega]
  rw [nat_join 8 _ _ (by omega) (by omega), IntKind.wrap_i64]
  omega

def accI (n : Int) (b : Nat) : Int := n * 256 + (b : Int)

/-- The number that bytes are, in two's complement. -/
def valI (l : List Nat) : Int := (l.drop 1).foldl accI (if gN l 0 < 128 then (gN l 0 : Int) else (gN l 0 : Int) - 256)

/-- What AsInt answers. -/
def asIntR (T : Tr) : Int × Int :=
  if T.cls = 0 ∧ (T.tag = 2 ∨ T.tag = 10) ∧ T.b.length ≤ 8 ∧ T.cons = false ∧ T.kids = [] ∧ intB T.b = true then (valI T.b, 0) else (0, 110)

def qI : Int → List Nat → Bool := fun _ => intB
theorem wantedI (t : Int) (h : t = 2 ∨ t = 10) : WantedOk (fun _ => True) qI t := fun w _ => (wanted_int t h w).mono fun e w' ⟨he, hb⟩ => .inr ⟨by rcases h with rfl | rfl <;> rfl, _, he, asks_int w', hb⟩

theorem brokenI {T : Tr} (h0 : T.cls = 0) (ht : T.tag = 2 ∨ T.tag = 10) : brokenN qI T = 0 ↔ T.cons = false ∧ T.kids = [] ∧ intB T.b = true := by
  have hh : hasB T.tag = true := by rcases ht with h | h <;> rw [h] <;> rfl
  unfold brokenN
  rw [if_neg (by omega)]
  cases hc : T.cons with
  | true =>
    by_cases hb : T.b = []
    · rw [if_neg (by simp [hb]), if_neg (by omega), if_neg (by omega), if_pos (.inl rfl)]
      simp
    · rw [if_pos (.inl ⟨rfl, hb⟩)]
      simp
  | false =>
    by_cases hk : T.kids = []
    · rw [if_neg (by simp [hk]), if_neg (by omega), if_neg (by omega), if_neg (by simp [hh])]
      show (if intB T.b = true then (0 : Int) else 4) = 0 ↔ _
      cases hi : intB T.b <;> simp [hk]
    · rw [if_pos (.inr ⟨rfl, hk⟩)]
      simp [hk]

def AsI (w : World) (l : List Nat) (k : Nat) (n : Int) (wr : World) : Prop := n = (((l.drop 1).take k).foldl accI (if gN l 0 < 128 then (gN l 0 : Int) else (gN l 0 : Int) - 256)) ∧ Below w.heap.size w wr

theorem fold_bound (l : List Nat) (n : Int) (j : Nat) (hx : ∀ x ∈ l, x < 256) (hl : l.length + j ≤ 7) (hn : -(128 * 256 ^ j) ≤ n ∧ n < 128 * 256 ^ j) :
    -(128 * 256 ^ (j + l.length)) ≤ l.foldl accI n ∧ l.foldl accI n < 128 * 256 ^ (j + l.length) := by
  induction l generalizing n j with
  | nil => exact hn
  | cons x xs ih =>
    rw [List.foldl_cons, List.length_cons, show j + (xs.length + 1) = (j + 1) + xs.length from by omega]
    have hx0 := hx x (by simp)
    refine ih _ (j + 1) (fun y hy => hx y (List.mem_cons_of_mem _ hy)) (by simp at hl; omega) ?_
    rw [Int.pow_succ]
    obtain ⟨p, hp⟩ : ∃ p : Int, 256 ^ j = p := ⟨_, rfl⟩
    rw [hp] at hn ⊢
    unfold accI
    omega

theorem first_bound (u : Nat) (hu : u < 256) : -(128 * 256 ^ 0) ≤ (if u < 128 then (u : Int) else (u : Int) - 256) ∧ (if u < 128 then (u : Int) else (u : Int) - 256) < 128 * 256 ^ 0 := by
  split <;> omega

theorem i8_first (u : Nat) (hu : u < 256) : IntKind.i8.wrap (u : Int) = if u < 128 then (u : Int) else (u : Int) - 256 := by
  have e : IntKind.i8.wrap (u : Int) = if 128 ≤ (u : Int) % 256 then (u : Int) % 256 - 256 else (u : Int) % 256 := by
    unfold IntKind.wrap
    simp [IntKind.bits, IntKind.signed]
  rw [e]
  split <;> split <;> omega

theorem pow_le6 (k : Nat) (h : k ≤ 6) : (256 : Int) ^ k ≤ 281474976710656 := by
  rcases (show k = 0 ∨ k = 1 ∨ k = 2 ∨ k = 3 ∨ k = 4 ∨ k = 5 ∨ k = 6 by omega) with rfl | rfl | rfl | rfl | rfl | rfl | rfl <;> decide

theorem step_val (v : Int) (x k : Nat) (hk : k ≤ 6) (hx : x < 256) (hv : -(128 * 256 ^ k) ≤ v ∧ v < 128 * 256 ^ k) : IntKind.i64.wrap (v * 256) = v * 256 ∧ bits BinOp.or IntKind.i64 (v * 256) (x : Int) = accI v x := by
  have h6 := pow_le6 k hk
  obtain ⟨p, hp⟩ : ∃ p : Int, 256 ^ k = p := ⟨_, rfl⟩
  rw [hp] at hv h6
  refine ⟨?_, or_i64 v x (by omega) (by omega) hx⟩
  rw [IntKind.wrap_i64]
  omega

theorem is_lit (V : NV) (c t : Int) (w : World) (b : Bool) (h : (decide (V.cls = c) && decide (V.tag = t)) = b) : Calls Tryd.prog 28 #[V.agg, .int .i64 c, .int .i64 t] w fun e w' => e = .returned (.bool b) ∧ Below w.heap.size w w' :=
  (is_any V c t w).mono fun _ _ ⟨he, hb⟩ => ⟨by rw [he, h], hb⟩

set_option maxRecDepth 100000 in
set_option maxHeartbeats 4000000 in
/-- The number is read. -/
theorem asInt_yes (t : Int) (ht : t = 2 ∨ t = 10) (l : List Nat) (h8 : l.length ≤ 8) (hi : intB l = true) (V : NV) (w : World) (hn : NodeAt w V (.mk 0 t false l [])) :
    Calls Tryd.prog 26 #[V.agg] w fun e w' => e = .returned (.tuple #[.int .i64 (valI l), .int .i64 0]) ∧ Below w.heap.size w w' := by
  have hpos : 0 < l.length := by
    cases l with
    | nil => simp [intB] at hi
    | cons x xs => simp
  obtain ⟨w1, hw1⟩ : ∃ w1, w.alloc (.cells #[.int .i64 V.cls, .int .i64 V.tag, .bool V.cons, .slice V.ba V.bl V.bc, .slice V.ka V.kl V.kc] 25) = w1 := ⟨_, rfl⟩
  have hb1 : Below w.heap.size w w1 := by rw [← hw1]; exact (Below.refl _ _).alloc (Nat.le_refl _) _
  have hz1 : w1.heap.size = w.heap.size + 1 := by rw [← hw1]; simp
  have hc1 : CellsAt w1 w.heap.size 0 V := by rw [← hw1]; constructor <;> simp
  have hn1 := hn.under hb1
  have hbrk := (brokenI (T := .mk 0 t false l []) rfl ht).2 ⟨rfl, rfl, hi⟩
  have e1 : (0 : Int) = V.cls := hn.cls
  have e2 : t = V.tag := hn.tag
  have hrd := hn.bytes
  have hsm := hn.small
  have hl := hn.bytes.length
  have hle := hn.bytes.le
  simp only [Tr.b] at hrd hsm hl
  obtain ⟨vc, vt, kk, ba, bl, bc, ka, kl, kc⟩ := V
  dsimp only at e1 e2 hrd hl hle
  subst e1 e2
  have HB1 := Lib.hid hb1
  have HZ1 := Lib.hid hz1
  have HC1 := Lib.hid hc1
  have HN1 := Lib.hid hn1
  have HBK := Lib.hid hbrk
  have HRD := Lib.hid hrd
  have HSM := Lib.hid hsm
  have HL := Lib.hid hl
  have HT := Lib.hid ht
  have hbl0 : 0 < bl := by omega
  have hbl8 : bl ≤ 8 := by omega
  have p0 := hc1.c0
  have p1 := hc1.c1
  have p2 := hc1.c2
  have p3 := hc1.c3
  have p4 := hc1.c4
  dsimp only at p0 p1 p2 p3 p4
  simp only [Nat.zero_add] at p0 p1 p2 p3 p4
  unfold NV.agg
  dsimp only
  clear hn hb1 hz1 hc1 hn1 hbrk hrd hsm hl h8 hi hpos
  rcases HT.out with rfl | rfl
  · clear ht
    obtain ⟨b0, o0, rfl, hlt0, hcl⟩ := HRD.out.cells hbl0
    have hu := gN_lt HSM.out 0
    have hc0 := hcl 0 hbl0
    rw [Nat.add_zero] at hc0
    have HCL := Lib.hid hcl
    have HLT0 := Lib.hid hlt0
    have hbcm := HRD.out.max
    unfold maxLen at hbcm
    clear hcl hlt0 hu hc0
    go_enter Tryd.func26, Tryd.ntmps26
    go_wp2_with fail
    refine (is_lit ⟨0, 2, kk, some ⟨b0, o0, none⟩, bl, bc, ka, kl, kc⟩ 0 2 w1 true rfl).mono ?_
    rintro e w2 ⟨rfl, hb2⟩
    have HB2 := Lib.hid hb2
    obtain ⟨p0, p1, p2, p3, p4⟩ := HC1.out.below hb2 (by have := HZ1.out; omega)
    dsimp only at p0 p1 p2 p3 p4
    simp only [Nat.zero_add] at p0 p1 p2 p3 p4
    clear hb2 hw1
    go_wp2_with fail
    refine (broken_any (fun _ => True) qI w.heap.size 0 _ (.mk 0 2 false l []) _ (HC1.out.below HB2.out (by have := HZ1.out; omega)) (HN1.out.under HB2.out) trivial (wantedI 2 (by decide))).mono ?_
    rintro e w4 ⟨rfl, hb4⟩
    rw [HBK.out]
    have HB4 := Lib.hid (HB2.out.trans (hb4.mono HB2.out.size))
    obtain ⟨p0, p1, p2, p3, p4⟩ := HC1.out.below HB4.out (by have := HZ1.out; omega)
    dsimp only at p0 p1 p2 p3 p4
    simp only [Nat.zero_add] at p0 p1 p2 p3 p4
    have hBA := HB1.out.trans (HB4.out.mono (by have := HZ1.out; omega))
    have hu := gN_lt HSM.out 0
    have hcl : ∀ i, i < bl → w4.cell? ⟨b0, o0 + i, none⟩ = some (.int .u8 ((l[i]?.getD 0 : Nat) : Int)) := fun i hi => (hBA.cell (p := ⟨b0, o0 + i, none⟩) HLT0.out).trans (HCL.out i hi)
    have hc0 : w4.cell? ⟨b0, o0, none⟩ = some (.int .u8 (gN l 0 : Int)) := hcl 0 hbl0
    have HCL4 := Lib.hid hcl
    have HBA := Lib.hid hBA
    clear hb4 hBA hcl
    have HI8 := i8_first (gN l 0) hu
    generalize hn0 : (if gN l 0 < 128 then (gN l 0 : Int) else (gN l 0 : Int) - 256) = n0 at *
    have HN0 := Lib.hid hn0
    have hfb : -128 ≤ n0 ∧ n0 < 128 := by rw [← hn0]; split <;> omega
    clear hn0
    generalize hgu : gN l 0 = u at *
    have HGU := Lib.hid hgu
    clear hgu
    by_cases hone : bl = 1
    · subst hone
      rcases (show bc = 1 ∨ ¬ bc = 1 by omega) with rfl | hbc1
      all_goals
        go_wp2_with fail
        go_loop [4, 35] (fun n i => n = .int .i64 n0 ∧ i = .int .i64 0) (fun _ i => 0)
        case atStart => exact ⟨by first | rfl | (congr 1; omega), rfl⟩
        case round =>
          obtain ⟨rfl, rfl⟩ := hrel
          have HV := Lib.hid (show n0 = valI l by
            unfold valI
            rw [List.drop_eq_nil_of_le (by rw [HL.out]; exact Nat.le_refl _), ← HN0.out, ← HGU.out]
            rfl)
          clear hfb
          go_wp2_with fail
          go_ret2
          exact ⟨by rw [HV.out]; rfl, HBA.out⟩
    · have hbc1 : ¬ bc = 1 := by omega
      go_wp2_with fail
      go_loop [4, 35] (fun n i => ∃ (k : Nat) (v : Int), k ≤ bl - 1 ∧ i = .int .i64 (k : Int) ∧ n = .int .i64 v ∧ Hid (v = ((l.drop 1).take k).foldl accI n0)) (fun _ i => bl - (intOf i).toNat)
      case atStart => exact ⟨0, n0, by omega, rfl, by first | rfl | (congr 1; omega), rfl⟩
      case round =>
        obtain ⟨k, v, hk, rfl, rfl, hv⟩ := hrel
        by_cases hlt : k < bl - 1
        · have hc1 := HCL4.out (1 + k) (by omega)
          have hk6 : k ≤ 6 := by omega
          have hlk : ((l.drop 1).take k).length = k := by rw [List.length_take, List.length_drop, HL.out]; omega
          have hvb := fold_bound ((l.drop 1).take k) n0 0 (fun x hx => HSM.out x (List.mem_of_mem_drop (List.mem_of_mem_take hx))) (by omega) (by omega)
          rw [← hv.out, Nat.zero_add, hlk] at hvb
          have hx1 : (l[1 + k]?.getD 0) < 256 := gN_lt HSM.out (1 + k)
          have hstep : ((l.drop 1).take (k + 1)).foldl accI n0 = accI v (l[1 + k]?.getD 0) := by
            rw [List.take_succ_eq_append_getElem (by rw [List.length_drop, HL.out]; omega), List.foldl_append, ← hv.out, List.getElem_drop, List.getElem?_eq_getElem (by rw [HL.out]; omega)]
            rfl
          obtain ⟨x, hx⟩ : ∃ x, l[1 + k]?.getD 0 = x := ⟨_, rfl⟩
          rw [hx] at hc1 hx1 hstep
          obtain ⟨hw, hor⟩ := step_val v x k hk6 hx1 hvb
          have HST := Lib.hid hstep
          have HVB := Lib.hid hvb
          rw [← Nat.add_assoc] at hc1
          clear hstep hvb hlk hx hv hfb
          go_wp2_with fail
          go_round
          case rel => exact ⟨k + 1, accI v x, by omega, by go_num, rfl, HST.out.symm⟩
          case measure => simp [intOf]; omega
        · obtain rfl : k = bl - 1 := by omega
          have HV := Lib.hid (show v = valI l by
            rw [hv.out, List.take_of_length_le (by rw [List.length_drop, HL.out]; exact Nat.le_refl _), ← HN0.out, ← HGU.out]
            rfl)
          clear hv hfb
          go_wp2_with fail
          go_ret2
          exact ⟨by rw [HV.out]; rfl, HBA.out⟩
  · clear ht
    obtain ⟨b0, o0, rfl, hlt0, hcl⟩ := HRD.out.cells hbl0
    have hu := gN_lt HSM.out 0
    have hc0 := hcl 0 hbl0
    rw [Nat.add_zero] at hc0
    have HCL := Lib.hid hcl
    have HLT0 := Lib.hid hlt0
    have hbcm := HRD.out.max
    unfold maxLen at hbcm
    clear hcl hlt0 hu hc0
    go_enter Tryd.func26, Tryd.ntmps26
    go_wp2_with fail
    refine (is_lit ⟨0, 10, kk, some ⟨b0, o0, none⟩, bl, bc, ka, kl, kc⟩ 0 2 w1 false rfl).mono ?_
    rintro e w2 ⟨rfl, hb2⟩
    have HB2 := Lib.hid hb2
    obtain ⟨p0, p1, p2, p3, p4⟩ := HC1.out.below hb2 (by have := HZ1.out; omega)
    dsimp only at p0 p1 p2 p3 p4
    simp only [Nat.zero_add] at p0 p1 p2 p3 p4
    clear hb2 hw1
    go_wp2_with fail
    refine (is_lit ⟨0, 10, kk, some ⟨b0, o0, none⟩, bl, bc, ka, kl, kc⟩ 0 10 w2 true rfl).mono ?_
    rintro e w3 ⟨rfl, hb3⟩
    have HB2 := Lib.hid (HB2.out.trans (hb3.mono HB2.out.size))
    obtain ⟨p0, p1, p2, p3, p4⟩ := HC1.out.below HB2.out (by have := HZ1.out; omega)
    dsimp only at p0 p1 p2 p3 p4
    simp only [Nat.zero_add] at p0 p1 p2 p3 p4
    clear hb3
    go_wp2_with fail
    refine (broken_any (fun _ => True) qI w.heap.size 0 _ (.mk 0 10 false l []) _ (HC1.out.below HB2.out (by have := HZ1.out; omega)) (HN1.out.under HB2.out) trivial (wantedI 10 (by decide))).mono ?_
    rintro e w4 ⟨rfl, hb4⟩
    rw [HBK.out]
    have HB4 := Lib.hid (HB2.out.trans (hb4.mono HB2.out.size))
    obtain ⟨p0, p1, p2, p3, p4⟩ := HC1.out.below HB4.out (by have := HZ1.out; omega)
    dsimp only at p0 p1 p2 p3 p4
    simp only [Nat.zero_add] at p0 p1 p2 p3 p4
    have hBA := HB1.out.trans (HB4.out.mono (by have := HZ1.out; omega))
    have hu := gN_lt HSM.out 0
    have hcl : ∀ i, i < bl → w4.cell? ⟨b0, o0 + i, none⟩ = some (.int .u8 ((l[i]?.getD 0 : Nat) : Int)) := fun i hi => (hBA.cell (p := ⟨b0, o0 + i, none⟩) HLT0.out).trans (HCL.out i hi)
    have hc0 : w4.cell? ⟨b0, o0, none⟩ = some (.int .u8 (gN l 0 : Int)) := hcl 0 hbl0
    have HCL4 := Lib.hid hcl
    have HBA := Lib.hid hBA
    clear hb4 hBA hcl
    have HI8 := i8_first (gN l 0) hu
    generalize hn0 : (if gN l 0 < 128 then (gN l 0 : Int) else (gN l 0 : Int) - 256) = n0 at *
    have HN0 := Lib.hid hn0
    have hfb : -128 ≤ n0 ∧ n0 < 128 := by rw [← hn0]; split <;> omega
    clear hn0
    generalize hgu : gN l 0 = u at *
    have HGU := Lib.hid hgu
    clear hgu
    by_cases hone : bl = 1
    · subst hone
      rcases (show bc = 1 ∨ ¬ bc = 1 by omega) with rfl | hbc1
      all_goals
        go_wp2_with fail
        go_loop [4, 35] (fun n i => n = .int .i64 n0 ∧ i = .int .i64 0) (fun _ i => 0)
        case atStart => exact ⟨by first | rfl | (congr 1; omega), rfl⟩
        case round =>
          obtain ⟨rfl, rfl⟩ := hrel
          have HV := Lib.hid (show n0 = valI l by
            unfold valI
            rw [List.drop_eq_nil_of_le (by rw [HL.out]; exact Nat.le_refl _), ← HN0.out, ← HGU.out]
            rfl)
          clear hfb
          go_wp2_with fail
          go_ret2
          exact ⟨by rw [HV.out]; rfl, HBA.out⟩
    · have hbc1 : ¬ bc = 1 := by omega
      go_wp2_with fail
      go_loop [4, 35] (fun n i => ∃ (k : Nat) (v : Int), k ≤ bl - 1 ∧ i = .int .i64 (k : Int) ∧ n = .int .i64 v ∧ Hid (v = ((l.drop 1).take k).foldl accI n0)) (fun _ i => bl - (intOf i).toNat)
      case atStart => exact ⟨0, n0, by omega, rfl, by first | rfl | (congr 1; omega), rfl⟩
      case round =>
        obtain ⟨k, v, hk, rfl, rfl, hv⟩ := hrel
        by_cases hlt : k < bl - 1
        · have hc1 := HCL4.out (1 + k) (by omega)
          have hk6 : k ≤ 6 := by omega
          have hlk : ((l.drop 1).take k).length = k := by rw [List.length_take, List.length_drop, HL.out]; omega
          have hvb := fold_bound ((l.drop 1).take k) n0 0 (fun x hx => HSM.out x (List.mem_of_mem_drop (List.mem_of_mem_take hx))) (by omega) (by omega)
          rw [← hv.out, Nat.zero_add, hlk] at hvb
          have hx1 : (l[1 + k]?.getD 0) < 256 := gN_lt HSM.out (1 + k)
          have hstep : ((l.drop 1).take (k + 1)).foldl accI n0 = accI v (l[1 + k]?.getD 0) := by
            rw [List.take_succ_eq_append_getElem (by rw [List.length_drop, HL.out]; omega), List.foldl_append, ← hv.out, List.getElem_drop, List.getElem?_eq_getElem (by rw [HL.out]; omega)]
            rfl
          obtain ⟨x, hx⟩ : ∃ x, l[1 + k]?.getD 0 = x := ⟨_, rfl⟩
          rw [hx] at hc1 hx1 hstep
          obtain ⟨hw, hor⟩ := step_val v x k hk6 hx1 hvb
          have HST := Lib.hid hstep
          have HVB := Lib.hid hvb
          rw [← Nat.add_assoc] at hc1
          clear hstep hvb hlk hx hv hfb
          go_wp2_with fail
          go_round
          case rel => exact ⟨k + 1, accI v x, by omega, by go_num, rfl, HST.out.symm⟩
          case measure => simp [intOf]; omega
        · obtain rfl : k = bl - 1 := by omega
          have HV := Lib.hid (show v = valI l by
            rw [hv.out, List.take_of_length_le (by rw [List.length_drop, HL.out]; exact Nat.le_refl _), ← HN0.out, ← HGU.out]
            rfl)
          clear hv hfb
          go_wp2_with fail
          go_ret2
          exact ⟨by rw [HV.out]; rfl, HBA.out⟩

end Go.Proofs.YtbikghejedkkeaaDoor
