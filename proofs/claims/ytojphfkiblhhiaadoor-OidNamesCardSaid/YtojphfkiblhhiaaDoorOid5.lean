/-
  OID: Bytes. (Written by wip/gen_oid5.py.)
-/
import Derived.Deep.RegionHeld
import Derived.OrdersHeld
import Derived.Test.YtojphfkiblhhiaaDoorOid4
namespace Go.Proofs.YtojphfkiblhhiaaDoor
open Go.RowKit
set_option maxRecDepth 100000

def bytesR (l : List Nat) : List Nat × Int := if OidOk l then (bytesO l, 0) else ([], 140)
def RetsO (q : IntKind) (E : TypeId) (B : Nat) (w' : World) (r : List Nat × Int) (e : Ending) : Prop := ∃ a n c, e = .returned (.tuple #[.slice a n c, .int .i64 r.2]) ∧ OwnQ q E B w' (.slice a n c) r.1

theorem wrap_forty (x0 x1 y : Nat) (h0 : x0 ≤ 2) (h1 : x1 < 9223372036854775808) (h : 40 * x0 + x1 = y) (h2 : y < 9223372036854775808) : IntKind.u64.wrap (IntKind.u64.wrap (40 * (x0 : Int)) + (x1 : Int)) = (y : Int) := by
  simp only [IntKind.wrap, IntKind.bits, IntKind.signed]
  simp
  omega

set_option maxHeartbeats 1000000 in
theorem bytes_any (a : Option Addr) (len cap : Nat) (l : List Nat) (w : World) (h : Reads .u64 w a len cap l) :
    Calls Tryd.prog 15 #[.slice a len cap] w fun e w' => RetsO .u8 5 w.heap.size w' (bytesR l) e ∧ Below w.heap.size w w' := by
  have H := Lib.hid h
  by_cases hok : OidOk l
  rotate_left
  · have hr := Lib.hid (show bytesR l = ([], 140) from if_neg hok)
    have hc := Lib.hid (show checkO l = 140 from if_neg hok)
    clear h hok
    go_enter Tryd.func15, Tryd.ntmps15
    go_wp2_with fail
    refine (check_any a len cap l _ H.out).mono ?_
    rintro e w1 ⟨rfl, hb⟩
    rw [hc.out]
    have HB := Lib.hid hb
    clear hb
    go_wp2
    go_ret2
    exact ⟨⟨none, 0, 0, by rw [hr.out]; rfl, by rw [hr.out]; exact OwnQ.nil _ _ _ _⟩, HB.out⟩
  have hr := Lib.hid (show bytesR l = (bytesO l, 0) from if_pos hok)
  have hck := Lib.hid (show checkO l = 0 from if_pos hok)
  have hl := h.length
  have hm := h.len_le
  unfold maxLen at hm
  have hcm := h.max
  unfold maxLen at hcm
  have hle := h.le
  have hok2 := hok
  obtain ⟨k1, k2, k3, k4, k5, h6⟩ := hok2
  have hlen2 : 2 ≤ len := by omega
  have hlen20 : len ≤ 20 := by omega
  obtain ⟨b, off, rfl, hbl, hc⟩ := h.cells (by omega)
  have c0 : w.cell? ⟨b, off, none⟩ = some (.int .u64 ((l.getD 0 0 : Nat) : Int)) := hc 0 (by omega)
  have c1 : w.cell? ⟨b, off + 1, none⟩ = some (.int .u64 ((l.getD 1 0 : Nat) : Int)) := hc 1 (by omega)
  have HL := Lib.hid hl
  have HK3 := Lib.hid k3
  have HBY := Lib.hid (show bytesO l = formO (40 * l.getD 0 0 + l.getD 1 0) ++ (l.drop 2).flatMap formO from rfl)
  generalize l.getD 0 0 = x0 at *
  generalize l.getD 1 0 = x1 at *
  obtain ⟨y, hy⟩ : ∃ y, 40 * x0 + x1 = y := ⟨_, rfl⟩
  rw [hy] at h6 HBY
  have HY := Lib.hid hy
  have hx04 : x0 ≤ 2 := k4
  have hx18 : x1 < 9223372036854775808 := by omega
  have hyi : IntKind.u64.wrap (IntKind.u64.wrap (40 * (x0 : Int)) + (x1 : Int)) = (y : Int) := wrap_forty x0 x1 y hx04 hx18 hy h6
  clear hy
  have C0 := Lib.hid c0
  have C1 := Lib.hid c1
  have HC := Lib.hid hc
  clear h hc hok k1 k2 k3 k5 hl c0 c1
  go_enter Tryd.func15, Tryd.ntmps15
  go_wp2_with fail
  refine (check_any _ len cap l _ H.out).mono ?_
  rintro e w1 ⟨rfl, hb⟩
  rw [hck.out]
  have H1 := Lib.hid hb
  clear hb
  go_wp2_with fail
  have H2 := Lib.hid (H1.out.trans ((Below.refl w1.heap.size w1).drew.mono H1.out.size))
  have c0 : w1.drew.cell? ⟨b, off, none⟩ = some (.int .u64 (x0 : Int)) := (H2.out.cell (p := ⟨b, off, none⟩) hbl).trans C0.out
  have c1 : w1.drew.cell? ⟨b, off + 1, none⟩ = some (.int .u64 (x1 : Int)) := (H2.out.cell (p := ⟨b, off + 1, none⟩) hbl).trans C1.out
  refine wp_region_held_drew (S := fun X => X.cell? ⟨b, off, none⟩ = some (.int .u64 (x0 : Int)) ∧ X.cell? ⟨b, off + 1, none⟩ = some (.int .u64 (x1 : Int))) (by kernel_rfl) ⟨c0, c1⟩ (fun hHeld => ?_)
  generalize w1.drew = w2 at *
  refine' wpAnyH_take (i := 0) (oi := _) (v := _) rfl (by kernel_rfl) (by kernel_rfl) (by kernel_rfl) (fun _ _ _ h => h) (Or.inl ⟨?_, ?_⟩) (by assumption) ?_
  rotate_left
  all_goals (try simp only [List.getElem_toArray, List.getElem_cons_succ, List.getElem_cons_zero])
  · rfl
  · intro W hSw; (try dsimp only at hSw); go_simp; (try with_reducible rfl)
  try simp only [Act.put, List.setIfInBounds_toArray, List.set_cons_zero, List.set_cons_succ]
  refine' wpAnyH_take (i := 1) (oi := _) (v := .pointer (some ⟨b, off, none⟩)) rfl (by kernel_rfl) (by kernel_rfl) (by kernel_rfl) (fun _ _ _ h => h) (Or.inl ⟨?_, ?_⟩) (by assumption) ?_
  all_goals (try simp only [List.getElem_toArray, List.getElem_cons_succ, List.getElem_cons_zero])
  · rfl
  · intro W hSw; (try dsimp only at hSw); go_simp; (try (intro hz; omega))
  try simp only [Act.put, List.setIfInBounds_toArray, List.set_cons_zero, List.set_cons_succ]
  refine' wpAnyH_take (i := 2) (oi := _) (v := _) rfl (by kernel_rfl) (by kernel_rfl) (by kernel_rfl) (fun _ _ _ h => h) (Or.inl ⟨?_, ?_⟩) (by assumption) ?_
  rotate_left
  all_goals (try simp only [List.getElem_toArray, List.getElem_cons_succ, List.getElem_cons_zero])
  · rfl
  · intro W hSw; (try dsimp only at hSw); go_simp; (try with_reducible rfl)
  try simp only [Act.put, List.setIfInBounds_toArray, List.set_cons_zero, List.set_cons_succ]
  refine' wpAnyH_take (i := 3) (oi := _) (v := _) rfl (by kernel_rfl) (by kernel_rfl) (by kernel_rfl) (fun _ _ _ h => h) (Or.inl ⟨?_, ?_⟩) (by assumption) ?_
  rotate_left
  all_goals (try simp only [List.getElem_toArray, List.getElem_cons_succ, List.getElem_cons_zero])
  · rfl
  · intro W hSw; (try dsimp only at hSw); go_simp; (try with_reducible rfl)
  try simp only [Act.put, List.setIfInBounds_toArray, List.set_cons_zero, List.set_cons_succ]
  refine' wpAnyH_take (i := 4) (oi := _) (v := _) rfl (by kernel_rfl) (by kernel_rfl) (by kernel_rfl) (fun _ _ _ h => h) (Or.inl ⟨?_, ?_⟩) (by assumption) ?_
  rotate_left
  all_goals (try simp only [List.getElem_toArray, List.getElem_cons_succ, List.getElem_cons_zero])
  · rfl
  · intro W hSw; (try dsimp only at hSw); go_simp; (try with_reducible rfl)
  try simp only [Act.put, List.setIfInBounds_toArray, List.set_cons_zero, List.set_cons_succ]
  refine' wpAnyH_take (i := 5) (oi := _) (v := .pointer (some ⟨b, off + 1, none⟩)) rfl (by kernel_rfl) (by kernel_rfl) (by kernel_rfl) (fun _ _ _ h => h) (Or.inl ⟨?_, ?_⟩) (by assumption) ?_
  all_goals (try simp only [List.getElem_toArray, List.getElem_cons_succ, List.getElem_cons_zero])
  · rfl
  · intro W hSw; (try dsimp only at hSw); go_simp; (try (intro hz; omega))
  try simp only [Act.put, List.setIfInBounds_toArray, List.set_cons_zero, List.set_cons_succ]
  refine' wpAnyH_take (i := 6) (oi := _) (v := _) rfl (by kernel_rfl) (by kernel_rfl) (by kernel_rfl) (fun _ _ _ h => h) (Or.inl ⟨?_, ?_⟩) (by assumption) ?_
  rotate_left
  all_goals (try simp only [List.getElem_toArray, List.getElem_cons_succ, List.getElem_cons_zero])
  · rfl
  · intro W hSw; (try dsimp only at hSw); go_simp; (try with_reducible rfl)
  try simp only [Act.put, List.setIfInBounds_toArray, List.set_cons_zero, List.set_cons_succ]
  refine' wpAnyH_take (i := 7) (oi := _) (v := _) rfl (by kernel_rfl) (by kernel_rfl) (by kernel_rfl) (fun _ _ _ h => h) (Or.inl ⟨?_, ?_⟩) (by assumption) ?_
  rotate_left
  all_goals (try simp only [List.getElem_toArray, List.getElem_cons_succ, List.getElem_cons_zero])
  · rfl
  · intro W hSw; (try dsimp only at hSw); go_simp; (try with_reducible rfl)
  try simp only [Act.put, List.setIfInBounds_toArray, List.set_cons_zero, List.set_cons_succ]
  refine wpAnyH_ready (rs := [8]) (by kernel_rfl) (by simp) ?_
  refine AllReadyH.cons (o := _) rfl (fun K hK => ?_) AllReadyH.nil
  try simp only [List.getElem_toArray, List.getElem_cons_succ, List.getElem_cons_zero]
  go_simp
  refine (appended_any w.heap.size (.slice none 0 0) [] y _ (OwnQ.nil _ _ _ _) H2.out.size (by simp) h6).mono ?_; rintro e w3 ⟨⟨v1, rfl, hv1⟩, hsz3, hbb3⟩; have HV := Lib.hid hv1; have H3 := Lib.hid (hbb3 w H2.out); have c0 : w3.cell? ⟨b, off, none⟩ = some (.int .u64 (x0 : Int)) := (H3.out.cell (p := ⟨b, off, none⟩) hbl).trans C0.out; have c1 : w3.cell? ⟨b, off + 1, none⟩ = some (.int .u64 (x1 : Int)) := (H3.out.cell (p := ⟨b, off + 1, none⟩) hbl).trans C1.out; clear hv1 hbb3 hsz3
  go_wp2_with fail
  refine hK.out _ _ ⟨c0, c1⟩ (fun hHeld => ?_)
  clear hK K
  try simp only [Act.put, List.setIfInBounds_toArray, List.set_cons_zero, List.set_cons_succ]
  refine' wpAnyH_take (i := 9) (oi := _) (v := _) rfl (by kernel_rfl) (by kernel_rfl) (by kernel_rfl) (fun _ _ _ h => h) (Or.inl ⟨?_, ?_⟩) (by assumption) ?_
  rotate_left
  all_goals (try simp only [List.getElem_toArray, List.getElem_cons_succ, List.getElem_cons_zero])
  · rfl
  · intro W hSw; (try dsimp only at hSw); go_simp; (try with_reducible rfl)
  try simp only [Act.put, List.setIfInBounds_toArray, List.set_cons_zero, List.set_cons_succ]
  refine wpAnyH_done (by kernel_rfl) ?_ _
  obtain ⟨a1, n1, d1, rfl, -, hv1⟩ := HV.out.slice
  have HV := Lib.hid hv1
  rw [List.nil_append] at hv1
  have HV := Lib.hid hv1
  clear hv1 c0 c1
  obtain ⟨N, hN⟩ : ∃ N, len = N + 2 := ⟨len - 2, by omega⟩
  have HE : ∀ i, i < N → w.cell? ⟨b, off + 2 + i, none⟩ = some (.int .u64 (((l.drop 2).getD i 0 : Nat) : Int)) := fun i hi => by
    have := HC.out (2 + i) (by omega)
    rw [← Nat.add_assoc] at this
    rw [this, List.getD_eq_getElem?_getD, List.getElem?_drop]
  have HDL := Lib.hid (show (l.drop 2).length = N by rw [List.length_drop, HL.out]; omega)
  have HD3 := Lib.hid (show ∀ x ∈ l.drop 2, x < 9223372036854775808 from fun x hx => HK3.out x (List.mem_of_mem_drop hx))
  have HEE := Lib.hid HE
  generalize l.drop 2 = M at *
  subst hN
  clear HE
  by_cases hcap : cap = 2
  · have hN0 : N = 0 := by omega
    subst hN0
    have hM := Lib.hid (show M = [] from List.eq_nil_of_length_eq_zero HDL.out)
    subst hcap
    go_wp2_with fail
    go_loop [5, 25] (fun bv v => bv = .slice a1 n1 d1 ∧ v = .int .i64 0) (fun _ _ => 0)
    case atStart => exact ⟨rfl, rfl⟩
    case round =>
      obtain ⟨rfl, rfl⟩ := hrel
      go_wp2
      go_ret2
      refine ⟨⟨a1, n1, d1, by rw [hr.out]; rfl, ?_⟩, H3.out⟩
      rw [hr.out, HBY.out, hM.out]
      simpa using HV.out
  · go_wp2_with fail
    go_loopw [5, 25] (fun bv iv wr => ∃ (i : Nat) (a n c : _), iv = .int .i64 (i : Int) ∧ i ≤ N ∧ bv = .slice a n c ∧ Hid (OwnQ .u8 5 w.heap.size wr (.slice a n c) (formO y ++ (M.take i).flatMap formO)) ∧ Hid (Below w.heap.size w wr)) (fun _ iv _ => N + 1 - (intOf iv).toNat)
    case atStart => exact ⟨0, a1, n1, d1, rfl, by omega, rfl, Lib.hid (by simpa using HV.out), H3⟩
    case round =>
      obtain ⟨i, a, n, c, rfl, hi, rfl, HO, HB⟩ := hrel
      by_cases hlt : i < N
      · obtain ⟨x, hx⟩ : ∃ x, M.getD i 0 = x := ⟨_, rfl⟩
        have ci : wr.cell? ⟨b, off + 2 + i, none⟩ = some (.int .u64 (x : Int)) := by
          rw [← hx]
          exact (HB.out.cell (p := ⟨b, off + 2 + i, none⟩) hbl).trans (HEE.out i hlt)
        have hget := (show M[i]? = some x from by
          rw [List.getD_eq_getElem?_getD] at hx
          rw [List.getElem?_eq_getElem (by have := HDL.out; omega)] at hx ⊢
          simpa using hx)
        have hx8 : x < 9223372036854775808 := HD3.out x (List.mem_of_getElem? hget)
        have HX := Lib.hid (show (M.take (i + 1)).flatMap formO = (M.take i).flatMap formO ++ formO x by
          rw [List.take_add_one, hget]; simp)
        have hbig : (formO y ++ (M.take i).flatMap formO).length ≤ 100000 := by
          have := formO_len y
          have := (flat_len (M.take i)).2
          rw [List.length_append]
          rw [List.length_take] at this
          omega
        clear hget hx
        go_wp2_with fail
        refine (appended_any w.heap.size (.slice a n c) _ x _ HO.out HB.out.size hbig hx8).mono ?_
        rintro e w5 ⟨⟨v5, rfl, hv5⟩, hsz5, hbb5⟩
        obtain ⟨a5, n5, c5, rfl, -, hv5⟩ := hv5.slice
        have HV5 := Lib.hid hv5
        have HB5 := Lib.hid (hbb5 w HB.out)
        clear hv5 hbb5 hsz5
        go_wp2
        go_roundw
        case rel =>
          refine ⟨i + 1, a5, n5, c5, by go_num, by omega, rfl, ?_, HB5⟩
          rw [HX.out, ← List.append_assoc]
          exact HV5
        case measure => simp [intOf]; omega
      · have hie : i = N := by omega
        subst hie
        have HT := Lib.hid (show M.take i = M from List.take_of_length_le (by rw [HDL.out]; exact Nat.le_refl _))
        go_wp2
        go_ret2
        refine ⟨⟨a, n, c, by rw [hr.out]; rfl, ?_⟩, HB.out⟩
        rw [hr.out, HBY.out, ← HT.out]
        exact HO.out

end Go.Proofs.YtojphfkiblhhiaaDoor
