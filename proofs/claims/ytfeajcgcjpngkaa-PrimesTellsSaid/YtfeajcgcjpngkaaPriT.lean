/-
  Table OF BOTH, AND THE LAW PrimesTells. (Written by wip/gen_priT.py.)
-/
import Derived.Test.YtfeajcgcjpngkaaPriO
namespace Go.Proofs.Ytfeajcgcjpngkaa
open Go.RowKit

theorem fracP_err (A : Nat) (k n : Int) : (fracP A k n).2 = if (k = 2 ∨ k = 3) ∧ 1 ≤ n ∧ n ≤ 64 then 0 else 2 := by
  unfold fracP
  split <;> rfl
/-- The first primes' fractions. -/
noncomputable def tabL (many : Nat) (k n : Int) : List Nat := (firstP many).map fun p => (fracP p k n).1
theorem tabL_len {N : Nat} {k n : Int} (h : N ≤ 1000) : (tabL N k n).length = N := by unfold tabL; rw [List.length_map, firstP_len h]
theorem tabL_step {N : Nat} {k n : Int} (h : N ≤ 1000) {j : Nat} (hj : j < N) : (tabL N k n).take (j + 1) = (tabL N k n).take j ++ [(fracP ((firstP N)[j]?.getD 0) k n).1] := by
  have hl := firstP_len h
  rw [List.take_succ_eq_append_getElem (by rw [tabL_len h]; exact hj)]
  congr 1
  simp [tabL, List.getElem?_eq_getElem (show j < (firstP N).length by omega)]
theorem firstP_small {N j : Nat} : (firstP N)[j]?.getD 0 < 7920 := by
  cases h : (firstP N)[j]? with
  | none => simp
  | some x =>
    have hm : x ∈ firstP N := List.mem_of_getElem? h
    unfold firstP at hm
    have := List.mem_of_mem_take hm
    unfold primesTo at this
    rw [List.mem_filter, List.mem_range] at this
    exact this.1
/-- Whether fractions may be asked for. -/
def FrOk (k n : Int) : Prop := (k = 2 ∨ k = 3) ∧ 1 ≤ n ∧ n ≤ 64
theorem infoU : (Try.prog.info? 38).map (fun i => (i.zero, i.size, i.bytes)) = some (some (.int .u64 0), 1, 8) := by kernel_rfl

theorem fr_at {a k n : Int} (A : Nat) (w : World) (ha : a = A) (hA : A < 8000) (h : FrOk k n) (v : Nat) (hv : v = (fracP A k n).1) : Calls Try.prog 18 #[.int .u64 a, .int .i64 k, .int .i64 n] w fun e w' => e = .returned (.tuple #[.int .u64 (v : Int), .int .i64 0]) ∧ Below w.heap.size w w' := by
  refine (frac_any A a k n w ha (by omega)).mono fun e w' ⟨he, hb⟩ => ⟨?_, hb⟩
  unfold RetsF at he
  rw [fracP_err, if_pos (show (k = 2 ∨ k = 3) ∧ 1 ≤ n ∧ n ≤ 64 from h)] at he
  rw [he, hv]
theorem fr_bad {k n : Int} (w : World) (h : ¬ FrOk k n) : Calls Try.prog 18 #[.int .u64 0, .int .i64 k, .int .i64 n] w fun e w' => (∃ v : Nat, e = .returned (.tuple #[.int .u64 (v : Int), .int .i64 2])) ∧ Below w.heap.size w w' := by
  refine (frac_any 0 0 k n w rfl (by omega)).mono fun e w' ⟨he, hb⟩ => ⟨⟨(fracP 0 k n).1, ?_⟩, hb⟩
  unfold RetsF at he
  rw [fracP_err, if_neg (show ¬ ((k = 2 ∨ k = 3) ∧ 1 ≤ n ∧ n ≤ 64) from h)] at he
  exact he

set_option maxHeartbeats 1000000 in
theorem table_no (m k n : Int) (w : World) (h : m < 0 ∨ 1000 < m) :
    Calls Try.prog 12 #[.int .i64 m, .int .i64 k, .int .i64 n] w fun e w' => RetsQ2 .u64 38 w.heap.size w' ([], 30) e ∧ Below w.heap.size w w' := by
  go_enter Try.func12, Try.ntmps12
  go_wp2_with fail
  refine (first_no m w h).mono ?_
  rintro e w1 ⟨⟨v1, rfl, ho⟩, hb⟩
  obtain ⟨a1, n1, c1, rfl, -, -⟩ := ho.slice
  have F := Lib.hid hb
  clear hb
  go_wp2
  go_ret2
  exact ⟨⟨_, rfl, OwnQ.nil _ _ _ _⟩, F.out⟩
set_option maxHeartbeats 1000000 in
theorem table_bad (N : Nat) (k n : Int) (w : World) (hN : N ≤ 1000) (h : ¬ FrOk k n) :
    Calls Try.prog 12 #[.int .i64 (N : Int), .int .i64 k, .int .i64 n] w fun e w' => RetsQ2 .u64 38 w.heap.size w' ([], 2) e ∧ Below w.heap.size w w' := by
  have H := Lib.hid h
  clear h
  go_enter Try.func12, Try.ntmps12
  go_wp2_with fail
  refine (first_ok N _ rfl hN).mono ?_
  rintro e w1 ⟨⟨v1, rfl, ho⟩, hb⟩
  obtain ⟨a1, n1, c1, rfl, -, -⟩ := ho.slice
  have F := Lib.hid hb
  clear hb
  go_wp2_with fail
  refine (fr_bad _ H.out).mono ?_
  rintro e w2 ⟨⟨v2, rfl⟩, hb⟩
  replace F := Lib.hid (F.out.trans (hb.mono F.out.size))
  clear hb
  go_wp2
  go_ret2
  exact ⟨⟨_, rfl, OwnQ.nil _ _ _ _⟩, F.out⟩
set_option maxRecDepth 100000 in
set_option maxHeartbeats 2000000 in
theorem table_ok {m : Int} (N : Nat) (k n : Int) (w : World) (hm : m = N) (hN : N ≤ 1000) (h : FrOk k n) :
    Calls Try.prog 12 #[.int .i64 m, .int .i64 k, .int .i64 n] w fun e w' => RetsQ2 .u64 38 w.heap.size w' (tabL N k n, 0) e ∧ Below w.heap.size w w' := by
  subst hm
  obtain ⟨i0, hi, hz0, hz1, hz2⟩ := info_parts infoU
  have H := Lib.hid h
  have HL := Lib.hid (firstP_len hN)
  clear h
  go_enter Try.func12, Try.ntmps12
  go_wp2_with fail
  refine (first_ok N _ rfl hN).mono ?_
  rintro e w1 ⟨⟨v1, rfl, ho⟩, hb⟩
  have hre : ∃ a c, v1 = .slice a N c ∧ Reads .i64 w1 a N c (firstP N) := by
    obtain ⟨a, c, h1, h2, -⟩ := ho.form
    rw [HL.out] at h1 h2
    exact ⟨a, c, h1, h2⟩
  obtain ⟨a1, c1, rfl, hr⟩ := hre
  have F := Lib.hid hb
  have R := Lib.hid hr
  clear hb ho hr
  go_wp2_with fail
  refine (fr_at 0 _ rfl (by decide) H.out _ rfl).mono ?_
  rintro e w2 ⟨rfl, hb⟩
  replace F := Lib.hid (F.out.trans (hb.mono F.out.size))
  replace R := Lib.hid (R.out.below hb)
  clear hb
  go_wp2_with (refine wpList_make_lc .u64 _ rfl _ _ 28 rfl w2.heap.size 38 i0 Try.underlying28 hi hz0 hz1 _ _ _ _ 0 N rfl rfl rfl rfl (Nat.zero_le _) (by rw [hz2]; omega) (by unfold maxLen; omega) (Nat.le_refl _) ?_; intro w3 hown hgrow; have HO3 := Lib.hid hown; have G3 := Lib.hid ((Below.refl w2.heap.size w2).grown hgrow (Nat.le_refl _) (fun _ h => by cases h)); clear hown hgrow)
  go_loopw [12, 38] (fun lv iv wr => (∃ (j m c : Nat) (a : Option Addr), lv = .slice a m c ∧ iv = .int .i64 (j : Int) ∧ j ≤ N ∧ Hid (OwnQ .u64 38 w2.heap.size wr (.slice a m c) ((tabL N k n).take j) ∧ m = j ∧ Below w2.heap.size w2 wr))) (fun _ iv _ => N - (intOf iv).toNat)
  case atStart => exact ⟨0, 0, N, _, rfl, rfl, Nat.zero_le _, HO3.out, rfl, G3.out⟩
  case round =>
    obtain ⟨j, m, c, a, rfl, rfl, hjN, hI⟩ := hrel
    rcases Nat.lt_or_ge j N with hlt | hge
    · obtain ⟨b, off, rfl, hbk, hc⟩ := (R.out.below hI.out.2.2).cells (by omega)
      have hck := hc j hlt
      clear hc
      have hx8 := firstP_small (N := N) (j := j)
      have HS := Lib.hid (tabL_step (k := k) (n := n) hN hlt)
      have hmj := Lib.hid hI.out.2.1
      generalize (firstP N)[j]?.getD 0 = x at *
      obtain ⟨v, hv⟩ : ∃ v, v = (fracP x k n).1 := ⟨_, rfl⟩
      have HV := Lib.hid hv
      rw [← hv] at HS
      clear hv
      go_wp2_with fail
      refine (fr_at x _ rfl (by omega) H.out v HV.out).mono ?_
      rintro e w4 ⟨rfl, hb⟩
      have O4 := Lib.hid (hI.out.1.below hb)
      have F4 := Lib.hid (hI.out.2.2.trans (hb.mono hI.out.2.2.size))
      have ht4 := Lib.hid (show ((tabL N k n).take j).length = j by rw [List.length_take, tabL_len hN]; omega)
      clear hb
      go_wp2_with (at_builtin; refine wpList_append_q .u64 _ rfl _ _ 28 rfl w2.heap.size 38 8 i0 Try.underlying28 hi hz0 hz1 hz2 (by decide) _ ((tabL N k n).take j) rfl (O4.out.alloc _) _ _ _ [v] rfl (Reads.one .u64 _ _ _ _ rfl) (by rw [ht4.out]; omega) (by have := F4.out.size; simp; omega) ?_; intro v' w5 hown2 hgrow; obtain ⟨a2, n2, c2, rfl, hn2, hown3⟩ := hown2.slice; have HO5 := Lib.hid hown3; have HN5 := Lib.hid hn2; have HB5 := Lib.hid (hgrow w2 (F4.out.alloc F4.out.size _)); clear hown2 hown3 hgrow hn2)
      go_roundw
      case rel => exact ⟨j + 1, _, _, _, rfl, by go_num, by omega, by rw [HS.out]; exact HO5.out, by rw [HN5.out, List.length_append, ht4.out]; rfl, HB5.out⟩
      case measure => simp [intOf]; omega
    · have HE := Lib.hid (show (tabL N k n).take j = tabL N k n from List.take_of_length_le (by rw [tabL_len hN]; omega))
      have t2 : decide (j < N) = false := by simp; omega
      go_wp2
      go_ret2
      exact ⟨⟨_, rfl, HE.out ▸ hI.out.1.mono F.out.size⟩, F.out.trans (hI.out.2.2.mono F.out.size)⟩

theorem rfr_at {a k n : Int} (A : Nat) (w : World) (ha : a = A) (hA : A < 8000) (h : FrOk k n) (v : Nat) (hv : v = (fracP A k n).1) : Calls Try.prog 19 #[.int .u64 a, .int .i64 k, .int .i64 n] w fun e w' => e = .returned (.tuple #[.int .u64 (v : Int), .int .i64 0]) ∧ Below w.heap.size w w' := by
  refine (rf.frac_any A a k n w ha (by omega)).mono fun e w' ⟨he, hb⟩ => ⟨?_, hb⟩
  unfold RetsF at he
  rw [fracP_err, if_pos (show (k = 2 ∨ k = 3) ∧ 1 ≤ n ∧ n ≤ 64 from h)] at he
  rw [he, hv]
theorem rfr_bad {k n : Int} (w : World) (h : ¬ FrOk k n) : Calls Try.prog 19 #[.int .u64 0, .int .i64 k, .int .i64 n] w fun e w' => (∃ v : Nat, e = .returned (.tuple #[.int .u64 (v : Int), .int .i64 2])) ∧ Below w.heap.size w w' := by
  refine (rf.frac_any 0 0 k n w rfl (by omega)).mono fun e w' ⟨he, hb⟩ => ⟨⟨(fracP 0 k n).1, ?_⟩, hb⟩
  unfold RetsF at he
  rw [fracP_err, if_neg (show ¬ ((k = 2 ∨ k = 3) ∧ 1 ≤ n ∧ n ≤ 64) from h)] at he
  exact he

set_option maxHeartbeats 1000000 in
theorem rtable_no (m k n : Int) (w : World) (h : m < 0 ∨ 1000 < m) :
    Calls Try.prog 13 #[.int .i64 m, .int .i64 k, .int .i64 n] w fun e w' => RetsQ2 .u64 38 w.heap.size w' ([], 30) e ∧ Below w.heap.size w w' := by
  go_enter Try.func13, Try.ntmps13
  go_wp2_with fail
  refine (rfirst_no m w h).mono ?_
  rintro e w1 ⟨⟨v1, rfl, ho⟩, hb⟩
  obtain ⟨a1, n1, c1, rfl, -, -⟩ := ho.slice
  have F := Lib.hid hb
  clear hb
  go_wp2
  go_ret2
  exact ⟨⟨_, rfl, OwnQ.nil _ _ _ _⟩, F.out⟩
set_option maxHeartbeats 1000000 in
theorem rtable_bad (N : Nat) (k n : Int) (w : World) (hN : N ≤ 1000) (h : ¬ FrOk k n) :
    Calls Try.prog 13 #[.int .i64 (N : Int), .int .i64 k, .int .i64 n] w fun e w' => RetsQ2 .u64 38 w.heap.size w' ([], 2) e ∧ Below w.heap.size w w' := by
  have H := Lib.hid h
  clear h
  go_enter Try.func13, Try.ntmps13
  go_wp2_with fail
  refine (rfirst_ok N _ hN).mono ?_
  rintro e w1 ⟨⟨v1, rfl, ho⟩, hb⟩
  obtain ⟨a1, n1, c1, rfl, -, -⟩ := ho.slice
  have F := Lib.hid hb
  clear hb
  go_wp2_with fail
  refine (rfr_bad _ H.out).mono ?_
  rintro e w2 ⟨⟨v2, rfl⟩, hb⟩
  replace F := Lib.hid (F.out.trans (hb.mono F.out.size))
  clear hb
  go_wp2
  go_ret2
  exact ⟨⟨_, rfl, OwnQ.nil _ _ _ _⟩, F.out⟩
set_option maxRecDepth 100000 in
set_option maxHeartbeats 2000000 in
theorem rtable_ok {m : Int} (N : Nat) (k n : Int) (w : World) (hm : m = N) (hN : N ≤ 1000) (h : FrOk k n) :
    Calls Try.prog 13 #[.int .i64 m, .int .i64 k, .int .i64 n] w fun e w' => RetsQ2 .u64 38 w.heap.size w' (tabL N k n, 0) e ∧ Below w.heap.size w w' := by
  subst hm
  obtain ⟨i0, hi, hz0, hz1, hz2⟩ := info_parts infoU
  have H := Lib.hid h
  have HL := Lib.hid (firstP_len hN)
  clear h
  go_enter Try.func13, Try.ntmps13
  go_wp2_with fail
  refine (rfirst_ok N _ hN).mono ?_
  rintro e w1 ⟨⟨v1, rfl, ho⟩, hb⟩
  have hre : ∃ a c, v1 = .slice a N c ∧ Reads .i64 w1 a N c (firstP N) := by
    obtain ⟨a, c, h1, h2, -⟩ := ho.form
    rw [HL.out] at h1 h2
    exact ⟨a, c, h1, h2⟩
  obtain ⟨a1, c1, rfl, hr⟩ := hre
  have F := Lib.hid hb
  have R := Lib.hid hr
  clear hb ho hr
  go_wp2_with fail
  refine (rfr_at 0 _ rfl (by decide) H.out _ rfl).mono ?_
  rintro e w2 ⟨rfl, hb⟩
  replace F := Lib.hid (F.out.trans (hb.mono F.out.size))
  replace R := Lib.hid (R.out.below hb)
  clear hb
  go_wp2
  go_loopw [10, 11] (fun lv iv wr => (∃ (j m c : Nat) (a : Option Addr), lv = .slice a m c ∧ iv = .int .i64 (j : Int) ∧ j ≤ N ∧ Hid (OwnQ .u64 38 w2.heap.size wr (.slice a m c) ((tabL N k n).take j) ∧ m = j ∧ Below w2.heap.size w2 wr))) (fun _ iv _ => N - (intOf iv).toNat)
  case atStart => exact ⟨0, 0, 0, none, rfl, rfl, Nat.zero_le _, OwnQ.nil _ _ _ _, rfl, Below.refl _ _⟩
  case round =>
    obtain ⟨j, m, c, a, rfl, rfl, hjN, hI⟩ := hrel
    rcases Nat.lt_or_ge j N with hlt | hge
    · obtain ⟨b, off, rfl, hbk, hc⟩ := (R.out.below hI.out.2.2).cells (by omega)
      have hck := hc j hlt
      clear hc
      have hx8 := firstP_small (N := N) (j := j)
      have HS := Lib.hid (tabL_step (k := k) (n := n) hN hlt)
      have hmj := Lib.hid hI.out.2.1
      generalize (firstP N)[j]?.getD 0 = x at *
      obtain ⟨v, hv⟩ : ∃ v, v = (fracP x k n).1 := ⟨_, rfl⟩
      have HV := Lib.hid hv
      rw [← hv] at HS
      clear hv
      go_wp2_with fail
      refine (rfr_at x _ rfl (by omega) H.out v HV.out).mono ?_
      rintro e w4 ⟨rfl, hb⟩
      have O4 := Lib.hid (hI.out.1.below hb)
      have F4 := Lib.hid (hI.out.2.2.trans (hb.mono hI.out.2.2.size))
      have ht4 := Lib.hid (show ((tabL N k n).take j).length = j by rw [List.length_take, tabL_len hN]; omega)
      clear hb
      go_wp2_with (at_builtin; refine wpList_append_q .u64 _ rfl _ _ 28 rfl w2.heap.size 38 8 i0 Try.underlying28 hi hz0 hz1 hz2 (by decide) _ ((tabL N k n).take j) rfl (O4.out.alloc _) _ _ _ [v] rfl (Reads.one .u64 _ _ _ _ rfl) (by rw [ht4.out]; omega) (by have := F4.out.size; simp; omega) ?_; intro v' w5 hown2 hgrow; obtain ⟨a2, n2, c2, rfl, hn2, hown3⟩ := hown2.slice; have HO5 := Lib.hid hown3; have HN5 := Lib.hid hn2; have HB5 := Lib.hid (hgrow w2 (F4.out.alloc F4.out.size _)); clear hown2 hown3 hgrow hn2)
      go_roundw
      case rel => exact ⟨j + 1, _, _, _, rfl, by go_num, by omega, by rw [HS.out]; exact HO5.out, by rw [HN5.out, List.length_append, ht4.out]; rfl, HB5.out⟩
      case measure => simp [intOf]; omega
    · have HE := Lib.hid (show (tabL N k n).take j = tabL N k n from List.take_of_length_le (by rw [tabL_len hN]; omega))
      have t2 : decide (j < N) = false := by simp; omega
      go_wp2
      go_ret2
      exact ⟨⟨_, rfl, HE.out ▸ hI.out.1.mono F.out.size⟩, F.out.trans (hI.out.2.2.mono F.out.size)⟩

open Classical in
/-- What First answers, and what Table does. -/
noncomputable def firstR (n : Int) : List Nat × Int := if 0 ≤ n ∧ n ≤ 1000 then (firstP n.toNat, 0) else ([], 30)
open Classical in
noncomputable def tabR (m k n : Int) : List Nat × Int := if 0 ≤ m ∧ m ≤ 1000 then (if FrOk k n then (tabL m.toNat k n, 0) else ([], 2)) else ([], 30)
theorem first_any (n : Int) (w : World) : Calls Try.prog 10 #[.int .i64 n] w fun e w' => RetsQ2 .i64 3 w.heap.size w' (firstR n) e ∧ Below w.heap.size w w' := by
  unfold firstR
  split
  · exact first_ok n.toNat w (by omega) (by omega)
  · exact first_no n w (by omega)
theorem rfirst_any (n : Int) (w : World) : Calls Try.prog 11 #[.int .i64 n] w fun e w' => RetsQ2 .i64 3 w.heap.size w' (firstR n) e ∧ Below w.heap.size w w' := by
  unfold firstR
  split
  · rename_i h
    obtain ⟨N, rfl⟩ : ∃ N : Nat, n = N := ⟨n.toNat, by omega⟩
    exact rfirst_ok N w (by omega)
  · exact rfirst_no n w (by omega)
theorem table_any (m k n : Int) (w : World) : Calls Try.prog 12 #[.int .i64 m, .int .i64 k, .int .i64 n] w fun e w' => RetsQ2 .u64 38 w.heap.size w' (tabR m k n) e ∧ Below w.heap.size w w' := by
  unfold tabR
  split
  · split
    · exact table_ok m.toNat k n w (by omega) (by omega) (by assumption)
    · rename_i h _
      obtain ⟨N, rfl⟩ : ∃ N : Nat, m = N := ⟨m.toNat, by omega⟩
      exact table_bad N k n w (by omega) (by assumption)
  · exact table_no m k n w (by omega)
theorem rtable_any (m k n : Int) (w : World) : Calls Try.prog 13 #[.int .i64 m, .int .i64 k, .int .i64 n] w fun e w' => RetsQ2 .u64 38 w.heap.size w' (tabR m k n) e ∧ Below w.heap.size w w' := by
  unfold tabR
  split
  · split
    · exact rtable_ok m.toNat k n w (by omega) (by omega) (by assumption)
    · rename_i h _
      obtain ⟨N, rfl⟩ : ∃ N : Nat, m = N := ⟨m.toNat, by omega⟩
      exact rtable_bad N k n w (by omega) (by assumption)
  · exact rtable_no m k n w (by omega)

set_option maxRecDepth 100000 in
set_option maxHeartbeats 2000000 in
theorem tells_walk (n m k b : Int) (w : World) :
    Calls Try.prog 3 #[.int .i64 n, .int .i64 m, .int .i64 k, .int .i64 b] w fun e w' => e = .returned (.bool true) ∧ Below w.heap.size w w' := by
  by_cases hg : 100 < m ∧ m ≤ 1000
  · obtain ⟨hg1, hg2⟩ := hg
    go_enter Try.func3, Try.ntmps3
    go_wp2
    go_ret
    exact ⟨rfl, Below.refl _ _⟩
  have hgd : (decide (100 < m) && decide (m ≤ 1000)) = false := by simp; omega
  obtain ⟨r, hr⟩ : ∃ r, r = firstR n := ⟨_, rfl⟩
  obtain ⟨s, hs⟩ : ∃ s, s = tabR m k b := ⟨_, rfl⟩
  have C1 := Lib.hid (first_any n)
  have C2 := Lib.hid (rfirst_any n)
  have C3 := Lib.hid (table_any m k b)
  have C4 := Lib.hid (rtable_any m k b)
  rw [← hr] at C1 C2
  rw [← hs] at C3 C4
  obtain ⟨r1, r2⟩ := r
  obtain ⟨s1, s2⟩ := s
  have G := Lib.hid hg
  clear hr hs hg
  by_cases hm : 100 < m
  all_goals
    first
      | have hm2 : ¬ m ≤ 1000 := by have := G.out; omega
      | have hm3 := hm
    go_enter Try.func3, Try.ntmps3
    go_wp2_with fail
    refine (C1.out _).mono ?_
    rintro e w1 ⟨⟨v1, rfl, ho⟩, hb⟩
    obtain ⟨a1, n1, c1, rfl, -, ho⟩ := ho.slice
    have F := Lib.hid hb
    have R1 := Lib.hid ho.reads
    clear hb ho
    go_wp2_with fail
    refine (C2.out _).mono ?_
    rintro e w2 ⟨⟨v2, rfl, ho⟩, hb⟩
    obtain ⟨a2, n2, c2, rfl, -, ho⟩ := ho.slice
    replace F := Lib.hid (F.out.trans (hb.mono F.out.size))
    replace R1 := Lib.hid (R1.out.below hb)
    have R2 := Lib.hid ho.reads
    clear hb ho
    go_wp2_with fail
    refine (C3.out _).mono ?_
    rintro e w3 ⟨⟨v3, rfl, ho⟩, hb⟩
    obtain ⟨a3, n3, c3, rfl, -, ho⟩ := ho.slice
    replace F := Lib.hid (F.out.trans (hb.mono F.out.size))
    replace R1 := Lib.hid (R1.out.below hb)
    replace R2 := Lib.hid (R2.out.below hb)
    have R3 := Lib.hid ho.reads
    clear hb ho
    go_wp2_with fail
    refine (C4.out _).mono ?_
    rintro e w4 ⟨⟨v4, rfl, ho⟩, hb⟩
    obtain ⟨a4, n4, c4, rfl, -, ho⟩ := ho.slice
    replace F := Lib.hid (F.out.trans (hb.mono F.out.size))
    replace R1 := Lib.hid (R1.out.below hb)
    replace R2 := Lib.hid (R2.out.below hb)
    replace R3 := Lib.hid (R3.out.below hb)
    have R4 := Lib.hid ho.reads
    clear hb ho
    go_wp2_with fail
    refine (ints_any _ _ _ _ _ _ _ _ _ R1.out R2.out true (by simp)).mono ?_
    rintro e w5 ⟨rfl, hb⟩
    replace F := Lib.hid (F.out.trans (hb.mono F.out.size))
    replace R3 := Lib.hid (R3.out.below hb)
    replace R4 := Lib.hid (R4.out.below hb)
    clear hb
    go_wp2_with fail
    refine (words_any _ _ _ _ _ _ _ _ _ R3.out R4.out true (by simp)).mono ?_
    rintro e w6 ⟨rfl, hb⟩
    replace F := Lib.hid (F.out.trans (hb.mono F.out.size))
    clear hb
    go_wp2
    go_ret
    exact ⟨by simp, F.out⟩

end Go.Proofs.Ytfeajcgcjpngkaa
