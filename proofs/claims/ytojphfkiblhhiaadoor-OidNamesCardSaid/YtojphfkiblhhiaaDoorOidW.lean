/-
  OID: Named AND Name, of the code and of the reference. (Written by wip/gen_oidW.py.)
-/
import Derived.Test.YtojphfkiblhhiaaDoorOidV
import Derived.Laws.EntriesVeiled
namespace Go.Proofs.YtojphfkiblhhiaaDoor
open Go.RowKit
set_option maxRecDepth 100000

section
variable {P : Program}
theorem run_loadVar_part (w : World) (g k : Nat) (ty : TypeId) (cs : Array Value) (d : TypeDesc) (hg : ∀ j v, cs[j]? = some v → w.cell? ⟨g, k + j, none⟩ = some v)
    (hu : P.underlying ty = some d) (hd : (match d with | .struct _ | .array _ _ => true | _ => false) = true) (hi : (P.info? ty).map (·.size) = some cs.size) :
    (loadVar ty ⟨g, k, none⟩).run P w = .ok (.agg cs) w := by
  have hl : (loadCells ⟨g, k, none⟩ cs.toList.length).run P w = .ok cs.toList.toArray w :=
    run_loadCells_list (P := P) w ⟨g, k, none⟩ cs.toList (fun j v hv => by
      have hadd : (⟨g, k, none⟩ : Addr).add j = ⟨g, k + j, none⟩ := by unfold Addr.add; split <;> simp_all
      rw [hadd]
      exact hg j v (by simpa using hv))
  cases hq : P.info? ty with
  | none => simp [hq] at hi
  | some i =>
    have hs : i.size = cs.size := by simpa [hq] using hi
    have hagg : (isAgg ty).run P w = .ok true w := by
      unfold isAgg
      rw [Sem.run_bind, run_underlying hu w]
      cases d <;> simp_all
    simp only [Array.length_toList, Array.toArray_toList] at hl
    simp [loadVar, Sem.run_bind, hagg, sizeOf, typeInfo, hq, hs, hl]
theorem wpList_load_part {ops : Array Oper} {rest : List Oper} {o : Oper} {a : Act} {w : World} {Q : Exit → Act → World → Prop} (hgd : o.guard = none) (ty : TypeId) (x : Operand) (ho : o.op = .load ty x)
    (g k : Nat) (hx : a.eval x = .pointer (some ⟨g, k, none⟩)) (cs : Array Value) (d : TypeDesc) (hg : ∀ j v, cs[j]? = some v → w.cell? ⟨g, k + j, none⟩ = some v)
    (hu : P.underlying ty = some d) (hd : (match d with | .struct _ | .array _ _ => true | _ => false) = true) (hi : (P.info? ty).map (·.size) = some cs.size)
    (h : wpList P ops Q rest (a.put o.dst (.agg cs)) w) : wpList P ops Q (o :: rest) a w :=
  wpList_plain hgd fun K hK => by
    unfold Oper.wp execOp
    simp only [ho, hx, Instr.loadAt, Instr.sureAddr, Sem.run_bind, Sem.run_pure, Result.andThen_ok, run_loadVar_part w g k ty cs d hg hu hd hi]
    exact hK _ _ h
end

/-- What Named answers. -/
def RetsB (B : Nat) (w' : World) (l : List Nat) (e : Ending) : Prop := ∃ a n c, e = .returned (.slice a n c) ∧ OwnQ .u8 5 B w' (.slice a n c) l

def knownA : Array Value := knownC.toArray
theorem knownA_size : knownA.size = 52 := by kernel_rfl
theorem known_idx (i : Nat) (x : List UInt8 × List UInt8) (hx : knownT[i]? = some x) (w : World) : (Instr.index 69 (.agg knownA) (.int .i64 (i : Int))).run Tryd.prog w = .ok (.agg #[.string ⟨x.1.toArray⟩, .string ⟨x.2.toArray⟩]) w := by
  have hi : i < 26 := by have := (List.getElem?_eq_some_iff.1 hx).1; rw [known_len] at this; exact this
  have hu : ∀ w, (underlying 69).run Tryd.prog w = .ok (.array 26 68) w := fun _ => by kernel_rfl
  have hs : ∀ w, (sizeOf 68).run Tryd.prog w = .ok 2 w := fun _ => by kernel_rfl
  have ha : ∀ w, (isAgg 68).run Tryd.prog w = .ok true w := fun _ => by kernel_rfl
  have h1 : 0 ≤ (i : Int) ∧ (i : Int) < ((26 : Nat) : Int) := by omega
  have hd : knownT.getD i ([], []) = x := by rw [List.getD, hx]; rfl
  have cell : ∀ j, j < 2 → knownC[i * 2 + j]? = ([.string ⟨x.1.toArray⟩, .string ⟨x.2.toArray⟩] : List Value)[j]? := fun j hj => by
    have := flat2 (fun x : List UInt8 × List UInt8 => Value.string ⟨x.1.toArray⟩) (fun x : List UInt8 × List UInt8 => Value.string ⟨x.2.toArray⟩) ([], []) knownT i j hj (by rw [known_len]; exact hi)
    rw [hd] at this
    exact this
  have he : knownA.extract (i * 2) (i * 2 + 2) = #[.string ⟨x.1.toArray⟩, .string ⟨x.2.toArray⟩] := by
    apply Array.ext_getElem?
    intro j
    have hsz := knownA_size
    rw [Array.getElem?_extract]
    by_cases hj : j < 2
    · rw [if_pos (by omega)]
      have := cell j hj
      simpa [knownA] using this
    · rw [if_neg (by omega)]
      simp
      omega
  unfold Instr.index
  simp only [asIntOf, Sem.run_bind, Sem.run_pure, Result.andThen_ok, hu, if_pos h1, hs, Int.toNat_natCast, part, ha]
  simp [he]

theorem Knowns.cells {w : World} (h : Knowns w) : ∀ j v, knownA[j]? = some v → w.cell? ⟨0, 0 + j, none⟩ = some v := fun j v hv => by
  have hj : j < 52 := by
    have := (Array.getElem?_eq_some_iff.1 hv).1
    rwa [knownA_size] at this
  rw [Nat.zero_add, h j hj]
  simpa [knownA] using hv

set_option maxHeartbeats 1000000 in
theorem bytesof_any (x : List UInt8 × List UInt8) (hx : x ∈ knownT) (w : World) (hL : Libs w) :
    Calls Tryd.prog 36 #[.string ⟨x.2.toArray⟩] w fun e w' => RetsB w.heap.size w' (bytesO (numsT x.2)) e ∧ Below w.heap.size w w' := by
  have HL := Lib.hid hL
  have hlen := (known_lens hx).2
  have HP := Lib.hid (known_parse hx)
  have HB := Lib.hid (known_bytes hx)
  clear hL hx
  go_enter Tryd.func36, Tryd.ntmps36
  go_wp2_with fail
  refine (parse_any x.2 (by omega) _ HL.out).mono ?_
  rintro e w1 ⟨⟨pa, pn, pc, rfl, hv⟩, hb⟩
  rw [HP.out] at hv ⊢
  dsimp only at hv ⊢
  have HV := Lib.hid hv
  have H1 := Lib.hid hb
  clear hv hb
  go_wp2_with fail
  refine (bytes_any pa pn pc _ _ HV.out.reads).mono ?_
  rintro e w2 ⟨⟨xa, xn, xc, rfl, hv⟩, hb⟩
  rw [HB.out] at hv ⊢
  dsimp only at hv ⊢
  have HV2 := Lib.hid (hv.mono H1.out.size)
  have H2 := Lib.hid (H1.out.trans (hb.mono H1.out.size))
  clear hv hb
  go_wp2
  go_ret
  exact ⟨⟨xa, xn, xc, rfl, HV2.out⟩, H2.out⟩

set_option maxHeartbeats 2000000 in
theorem named_any (s : List UInt8) (w : World) (hL : Libs w) (hK : Knowns w) :
    Calls Tryd.prog 21 #[.string ⟨s.toArray⟩] w fun e w' => RetsB w.heap.size w' (namedR s) e ∧ Below w.heap.size w w' := by
  have HL := Lib.hid hL
  have HK := Lib.hid hK
  clear hL hK
  go_enter Tryd.func21, Tryd.ntmps21
  go_wp2_with (refine wpList_load_part rfl 69 _ rfl 0 0 rfl knownA _ HK.out.cells Tryd.underlying69 rfl (by kernel_rfl) ?_)
  have HI := Lib.hid (fun (i : Nat) (x : List UInt8 × List UInt8) (hx : knownT[i]? = some x) (W : World) => known_idx i x hx W)
  generalize Value.agg knownA = T at *
  go_loopw [6] (fun iv wr => ∃ i : Nat, iv = .int .i64 (i : Int) ∧ i ≤ 26 ∧ Hid (∀ j y, j < i → knownT[j]? = some y → (y.1 == s) = false) ∧ Hid (Below w.heap.size w wr)) (fun iv _ => 27 - (intOf iv).toNat)
  case atStart => exact ⟨0, rfl, by omega, Lib.hid (fun j y h => by omega), Lib.hid (Below.refl _ _)⟩
  case round =>
    obtain ⟨i, rfl, hi, HN, HB⟩ := hrel
    by_cases hlt : i < 26
    · obtain ⟨x, hx⟩ : ∃ x, knownT[i]? = some x := ⟨_, List.getElem?_eq_getElem (by rw [known_len]; exact hlt)⟩
      have ix := HI.out i x hx
      have HX := Lib.hid hx
      have d1 : decide ((i : Int) < 26) = true := decide_eq_true (by omega)
      clear hx
      have hmem := List.mem_of_getElem? HX.out
      have HM := Lib.hid hmem
      have HB2 := Lib.hid (HB.out.alloc HB.out.size (.cells #[.string ⟨x.1.toArray⟩, .string ⟨x.2.toArray⟩] 68))
      clear hmem
      by_cases hq : (x.1 == s) = true
      · have HR := Lib.hid (show namedR s = bytesO (numsT x.2) by
          unfold namedR
          rw [find_at HX.out hq HN.out])
        go_wp2_with fail
        refine (bytesof_any x HM.out _ (HL.out.below HB2.out)).mono ?_
        rintro e w4 ⟨⟨xa, xn, xc, rfl, hv⟩, hb⟩
        have HV := Lib.hid (hv.mono HB2.out.size)
        have HB3 := Lib.hid (HB2.out.trans (hb.mono HB2.out.size))
        clear hv hb
        go_wp2
        go_ret
        exact ⟨⟨xa, xn, xc, rfl, by rw [HR.out]; exact HV.out⟩, HB3.out⟩
      · have hq2 : (x.1 == s) = false := by simpa using hq
        clear hq
        have HN2 := Lib.hid (show ∀ j y, j < i + 1 → knownT[j]? = some y → (y.1 == s) = false from fun j y hj hy => by
          rcases (show j < i ∨ j = i by omega) with h | rfl
          · exact HN.out j y h hy
          · rw [HX.out] at hy
            cases hy
            exact hq2)
        go_wp2_with fail
        exact ⟨⟨i + 1, by go_num, by omega, HN2, HB2⟩, by simp [intOf]; omega⟩
    · have hie : i = 26 := by omega
      have HR := Lib.hid (show namedR s = [] by
        unfold namedR
        rw [find_no (fun j y hj hy => HN.out j y (by omega) hy)])
      have d1 : decide ((i : Int) < 26) = false := decide_eq_false (by omega)
      clear hie
      go_wp2
      go_ret
      exact ⟨⟨none, 0, 0, rfl, by rw [HR.out]; exact OwnQ.nil _ _ _ _⟩, HB.out⟩

/-- What Name answers. -/
def nameR (b : List Nat) : List UInt8 := if (readO b).2 = 0 then (match knownT.find? (fun x => x.2 == textO (readO b).1) with
  | some x => x.1
  | none => []) else []

set_option maxHeartbeats 2000000 in
theorem name_any (a : Option Addr) (len cap : Nat) (b : List Nat) (w : World) (h : Reads .u8 w a len cap b) (hB : Byt b) (hlen : len ≤ 100000) (hL : Libs w) (hK : Knowns w) :
    Calls Tryd.prog 19 #[.slice a len cap] w fun e w' => e = .returned (.string ⟨(nameR b).toArray⟩) ∧ Below w.heap.size w w' := by
  have HL := Lib.hid hL
  have HK := Lib.hid hK
  have HRD := Lib.hid h
  have HBY := Lib.hid hB
  clear hL hK h hB
  go_enter Tryd.func19, Tryd.ntmps19
  go_wp2_with fail
  refine (read_o a len cap b _ HRD.out HBY.out hlen).mono ?_
  rintro e w1 ⟨⟨ra, rn, rc, rfl, hv⟩, hb⟩
  have HB := Lib.hid hb
  clear hb
  rcases readO_cases b with ⟨l, hl, he, hr⟩ | ⟨-, hr⟩
  rotate_left
  · have HR := Lib.hid (show nameR b = [] by unfold nameR; rw [hr]; rfl)
    rw [hr]
    clear hr hv
    go_wp2
    go_ret
    exact ⟨by rw [HR.out]; rfl, HB.out⟩
  rw [hr] at hv ⊢
  dsimp only at hv ⊢
  have HV := Lib.hid hv
  have HT := Lib.hid (show textR l = (textO l, 0) from if_pos hl)
  have HNR := Lib.hid (show ∀ o, knownT.find? (fun x => x.2 == textO l) = o → nameR b = (match o with | some x => x.1 | none => []) from fun o ho => by
    unfold nameR
    rw [hr]
    dsimp only
    rw [if_pos rfl, ho])
  clear hv hl he hr
  go_wp2_with fail
  refine (text_any ra rn rc l _ HV.out.reads (HL.out.below HB.out).tab).mono ?_
  rintro e w2 ⟨rfl, hb⟩
  rw [HT.out]
  dsimp only
  have HB := Lib.hid (HB.out.trans (hb.mono HB.out.size))
  have HKK := Lib.hid (HK.out.below HB.out)
  clear hb HT
  generalize textO l = t at *
  go_wp2_with (refine wpList_load_part rfl 69 _ rfl 0 0 rfl knownA _ HKK.out.cells Tryd.underlying69 rfl (by kernel_rfl) ?_)
  have HI := Lib.hid (fun (i : Nat) (x : List UInt8 × List UInt8) (hx : knownT[i]? = some x) (W : World) => known_idx i x hx W)
  generalize Value.agg knownA = T at *
  go_loopw [22] (fun iv wr => ∃ i : Nat, iv = .int .i64 (i : Int) ∧ i ≤ 26 ∧ Hid (∀ j y, j < i → knownT[j]? = some y → (y.2 == t) = false) ∧ Hid (Below w.heap.size w wr)) (fun iv _ => 27 - (intOf iv).toNat)
  case atStart => exact ⟨0, rfl, by omega, Lib.hid (fun j y h => by omega), HB⟩
  case round =>
    obtain ⟨i, rfl, hi, HN, HB⟩ := hrel
    by_cases hlt : i < 26
    · obtain ⟨x, hx⟩ : ∃ x, knownT[i]? = some x := ⟨_, List.getElem?_eq_getElem (by rw [known_len]; exact hlt)⟩
      have ix := HI.out i x hx
      have HX := Lib.hid hx
      have d1 : decide ((i : Int) < 26) = true := decide_eq_true (by omega)
      clear hx
      have HB2 := Lib.hid (HB.out.alloc HB.out.size (.cells #[.string ⟨x.1.toArray⟩, .string ⟨x.2.toArray⟩] 68))
      by_cases hq : (x.2 == t) = true
      · have HR := Lib.hid (HNR.out _ (find_at HX.out hq HN.out))
        go_wp2
        go_ret
        exact ⟨by rw [HR.out]; rfl, HB2.out⟩
      · have hq2 : (x.2 == t) = false := by simpa using hq
        clear hq
        have HN2 := Lib.hid (show ∀ j y, j < i + 1 → knownT[j]? = some y → (y.2 == t) = false from fun j y hj hy => by
          rcases (show j < i ∨ j = i by omega) with h | rfl
          · exact HN.out j y h hy
          · rw [HX.out] at hy
            cases hy
            exact hq2)
        go_wp2_with fail
        exact ⟨⟨i + 1, by go_num, by omega, HN2, HB2⟩, by simp [intOf]; omega⟩
    · have hie : i = 26 := by omega
      have HR := Lib.hid (HNR.out _ (find_no (fun j y hj hy => HN.out j y (by omega) hy)))
      have d1 : decide ((i : Int) < 26) = false := decide_eq_false (by omega)
      clear hie
      go_wp2
      go_ret
      exact ⟨by rw [HR.out]; rfl, HB.out⟩

/-! ### the reference's -/
theorem refknown_any (w : World) : Calls Tryd.prog 35 #[] w fun e w' => e = .returned (.slice (some ⟨w.heap.size, 0, none⟩) 52 52) ∧ w' = w.alloc (.cells knownA 9) := by
  go_enter Tryd.func35, Tryd.ntmps35
  go_wp2
  go_ret
  exact ⟨rfl, rfl⟩

theorem known_cell (w W : World) (h : Below (w.heap.size + 1) (w.alloc (.cells knownA 9)) W) (k : Nat) (x : List UInt8 × List UInt8) (hx : knownT[k]? = some x) :
    W.cell? ⟨w.heap.size, 2 * k, none⟩ = some (.string ⟨x.1.toArray⟩) ∧ W.cell? ⟨w.heap.size, 2 * k + 1, none⟩ = some (.string ⟨x.2.toArray⟩) := by
  have hk : k < 26 := by have := (List.getElem?_eq_some_iff.1 hx).1; rw [known_len] at this; exact this
  have hd : knownT.getD k ([], []) = x := by rw [List.getD, hx]; rfl
  have cell : ∀ j, j < 2 → W.cell? ⟨w.heap.size, k * 2 + j, none⟩ = ([.string ⟨x.1.toArray⟩, .string ⟨x.2.toArray⟩] : List Value)[j]? := fun j hj => by
    have := flat2 (fun x : List UInt8 × List UInt8 => Value.string ⟨x.1.toArray⟩) (fun x : List UInt8 × List UInt8 => Value.string ⟨x.2.toArray⟩) ([], []) knownT k j hj (by rw [known_len]; exact hk)
    rw [hd] at this
    rw [h.cell (p := ⟨w.heap.size, k * 2 + j, none⟩) (by show w.heap.size < w.heap.size + 1; omega), World.cell?_alloc_new, ← this]
    simp [knownA, knownC]
  rw [Nat.mul_comm 2 k]
  exact ⟨cell 0 (by decide), cell 1 (by decide)⟩

set_option maxHeartbeats 2000000 in
theorem refnamed_any (s : List UInt8) (w : World) :
    Calls Tryd.prog 22 #[.string ⟨s.toArray⟩] w fun e w' => RetsB w.heap.size w' (namedR s) e ∧ Below w.heap.size w w' := by
  go_enter Tryd.func22, Tryd.ntmps22
  go_wp2_with fail
  refine (refknown_any _).mono ?_
  rintro e w1 ⟨rfl, hw1⟩
  have HS1 := Lib.hid (show w1.heap.size = w.heap.size + 1 by rw [hw1, World.size_alloc])
  have HB1 := Lib.hid (show Below w.heap.size w w1 by rw [hw1]; exact (Below.refl _ _).alloc (Nat.le_refl _) _)
  have HC1 := Lib.hid (fun (W : World) (h : Below w1.heap.size w1 W) (k : Nat) (x : List UInt8 × List UInt8) (hx : knownT[k]? = some x) => known_cell w W (by rw [← hw1, ← HS1.out]; exact h) k x hx)
  clear hw1
  go_wp2_with fail
  go_loop [4] (fun iv => ∃ i k : Nat, iv = .int .i64 (i : Int) ∧ i ≤ 52 ∧ Hid (i = 2 * k) ∧ Hid (∀ j y, j < k → knownT[j]? = some y → (y.1 == s) = false)) (fun iv => 53 - (intOf iv).toNat)
  case atStart => exact ⟨0, 0, rfl, by omega, Lib.hid rfl, Lib.hid (fun j y h => by omega)⟩
  case round =>
    obtain ⟨i, k, rfl, hi, hik, HN⟩ := hrel
    by_cases hlt : i < 52
    · obtain ⟨x, hx⟩ : ∃ x, knownT[k]? = some x := ⟨_, List.getElem?_eq_getElem (by rw [known_len]; have := hik.out; omega)⟩
      have hc := HC1.out w1 (Below.refl _ _) k x hx
      rw [← hik.out] at hc
      obtain ⟨c0, c1⟩ := hc
      have HX := Lib.hid hx
      have HM := Lib.hid (List.mem_of_getElem? hx)
      have d1 : decide ((i : Int) < 52) = true := decide_eq_true (by omega)
      clear hx
      by_cases hq : (x.1 == s) = true
      · have HR := Lib.hid (show namedR s = bytesO (numsT x.2) by
          unfold namedR
          rw [find_at HX.out hq HN.out])
        have hlen := (known_lens HM.out).2
        have hev : i ≤ 50 := by have := hik.out; omega
        go_wp2_with fail
        refine (refparse_any x.2 (by omega) _).mono ?_
        rintro e w2 ⟨⟨pa, pn, pc, rfl, hv⟩, hb⟩
        rw [known_parse HM.out] at hv ⊢
        dsimp only at hv ⊢
        have HV := Lib.hid hv
        have HB2 := Lib.hid (HB1.out.trans (hb.mono HB1.out.size))
        clear hv hb
        go_wp2_with fail
        refine (refbytes_any pa pn pc _ _ HV.out.reads).mono ?_
        rintro e w3 ⟨⟨xa, xn, xc, rfl, hv⟩, hb⟩
        rw [known_bytes HM.out] at hv ⊢
        dsimp only at hv ⊢
        have HV2 := Lib.hid (hv.mono HB2.out.size)
        have HB3 := Lib.hid (HB2.out.trans (hb.mono HB2.out.size))
        clear hv hb
        go_wp2
        go_ret
        exact ⟨⟨xa, xn, xc, rfl, by rw [HR.out]; exact HV2.out⟩, HB3.out⟩
      · have hq2 : (x.1 == s) = false := by simpa using hq
        clear hq
        have HN2 := Lib.hid (show ∀ j y, j < k + 1 → knownT[j]? = some y → (y.1 == s) = false from fun j y hj hy => by
          rcases (show j < k ∨ j = k by omega) with h | rfl
          · exact HN.out j y h hy
          · rw [HX.out] at hy
            cases hy
            exact hq2)
        have HI2 := Lib.hid (show i + 2 = 2 * (k + 1) by have := hik.out; omega)
        have hev : i ≤ 50 := by have := hik.out; omega
        clear c1
        go_wp2
        go_round
        case rel => exact ⟨i + 2, k + 1, by go_num, by omega, HI2, HN2⟩
        case measure => simp [intOf]; omega
    · have HR := Lib.hid (show namedR s = [] by
        unfold namedR
        rw [find_no (fun j y hj hy => HN.out j y (by have := hik.out; omega) hy)])
      have d1 : decide ((i : Int) < 52) = false := decide_eq_false (by omega)
      go_wp2
      go_ret
      exact ⟨⟨none, 0, 0, rfl, by rw [HR.out]; exact OwnQ.nil _ _ _ _⟩, HB1.out⟩

theorem known_named : (knownT.all fun x => match knownT.find? (fun y => y.1 == x.1) with
  | some y => y.2 == x.2
  | none => false) = true := by kernel_rfl
theorem named_of {x : List UInt8 × List UInt8} (h : x ∈ knownT) : namedR x.1 = bytesO (numsT x.2) := by
  have := List.all_eq_true.1 known_named x h
  unfold namedR
  cases hf : knownT.find? (fun y => y.1 == x.1) with
  | none => rw [hf] at this; cases this
  | some y =>
    rw [hf] at this
    dsimp only at this ⊢
    rw [eq_of_beq this]

theorem name_at {b : List Nat} {k : Nat} {x : List UInt8 × List UInt8} (hx : knownT[k]? = some x) (he : bytesO (numsT x.2) = b) (hb : ∀ j y, j < k → knownT[j]? = some y → bytesO (numsT y.2) ≠ b) : nameR b = x.1 := by
  have ht := known_text (List.mem_of_getElem? hx)
  unfold nameR
  rw [← he, readO_yes ht.1]
  dsimp only
  rw [if_pos rfl, ht.2, find_at hx (by simp) (fun j y hj hy => by
    rw [beq_eq_false_iff_ne]
    intro e
    exact hb j y hj hy (by rw [e]; exact he))]
theorem name_no {b : List Nat} (hb : ∀ j y, j < 26 → knownT[j]? = some y → bytesO (numsT y.2) ≠ b) : nameR b = [] := by
  unfold nameR
  rcases readO_cases b with ⟨l, hl, he, hr⟩ | ⟨-, hr⟩
  · rw [hr]
    dsimp only
    rw [if_pos rfl, find_no (fun j y hj hy => by
      rw [beq_eq_false_iff_ne]
      intro e
      refine hb j y hj hy ?_
      have h1 := known_text (List.mem_of_getElem? hy)
      have h2 : IsTextO l y.2 := ⟨hl, e.symm⟩
      rw [h1.unique h2, he])]
  · rw [hr]; rfl

set_option maxHeartbeats 2000000 in
theorem refname_any (a : Option Addr) (len cap : Nat) (b : List Nat) (w : World) (h : Reads .u8 w a len cap b) (hB : Byt b) :
    Calls Tryd.prog 20 #[.slice a len cap] w fun e w' => e = .returned (.string ⟨(nameR b).toArray⟩) ∧ Below w.heap.size w w' := by
  have HRD := Lib.hid h
  have HBY := Lib.hid hB
  clear h hB
  go_enter Tryd.func20, Tryd.ntmps20
  go_wp2_with fail
  refine (refknown_any _).mono ?_
  rintro e w1 ⟨rfl, hw1⟩
  have HS1 := Lib.hid (show w1.heap.size = w.heap.size + 1 by rw [hw1, World.size_alloc])
  have HB1 := Lib.hid (show Below w.heap.size w w1 by rw [hw1]; exact (Below.refl _ _).alloc (Nat.le_refl _) _)
  have HC1 := Lib.hid (fun (W : World) (h : Below w1.heap.size w1 W) (k : Nat) (x : List UInt8 × List UInt8) (hx : knownT[k]? = some x) => known_cell w W (by rw [← hw1, ← HS1.out]; exact h) k x hx)
  clear hw1
  go_wp2_with fail
  go_loopw [4] (fun iv wr => ∃ i k : Nat, iv = .int .i64 (i : Int) ∧ i ≤ 52 ∧ Hid (i = 2 * k) ∧ Hid (∀ j y, j < k → knownT[j]? = some y → bytesO (numsT y.2) ≠ b) ∧ Hid (Below w1.heap.size w1 wr)) (fun iv _ => 53 - (intOf iv).toNat)
  case atStart => exact ⟨0, 0, rfl, by omega, Lib.hid rfl, Lib.hid (fun j y h => by omega), Lib.hid (Below.refl _ _)⟩
  case round =>
    obtain ⟨i, k, rfl, hi, hik, HN, HW⟩ := hrel
    have HB := Lib.hid (HB1.out.trans (HW.out.mono HB1.out.size))
    by_cases hlt : i < 52
    · obtain ⟨x, hx⟩ : ∃ x, knownT[k]? = some x := ⟨_, List.getElem?_eq_getElem (by rw [known_len]; have := hik.out; omega)⟩
      have hc := HC1.out wr HW.out k x hx
      rw [← hik.out] at hc
      obtain ⟨c0, -⟩ := hc
      have HX := Lib.hid hx
      have HM := Lib.hid (List.mem_of_getElem? hx)
      have d1 : decide ((i : Int) < 52) = true := decide_eq_true (by omega)
      have HI2 := Lib.hid (show i + 2 = 2 * (k + 1) by have := hik.out; omega)
      have hev : i ≤ 50 := by have := hik.out; omega
      clear hx
      go_wp2_with fail
      refine (refnamed_any x.1 _).mono ?_
      rintro e w2 ⟨⟨xa, xn, xc, rfl, hv⟩, hb⟩
      rw [named_of HM.out] at hv
      have HW2 := Lib.hid (HW.out.trans (hb.mono HW.out.size))
      have HB2 := Lib.hid (HB.out.trans (hb.mono HB.out.size))
      have cvX := convB (hv.reads.bts (bytesO_byt _))
      have cvY := convB ((HRD.out.below HB2.out).bts HBY.out)
      have c0 : w2.cell? ⟨w.heap.size, i, none⟩ = some (.string ⟨x.1.toArray⟩) := by
        have hc := (HC1.out w2 HW2.out k x HX.out).1
        rwa [← hik.out] at hc
      clear hv hb
      by_cases hq : bytesO (numsT x.2) = b
      · have HR := Lib.hid (name_at HX.out hq HN.out)
        rw [hq] at cvX
        clear hq
        go_wp2
        go_ret
        exact ⟨by rw [HR.out]; rfl, HB2.out⟩
      · have HN2 := Lib.hid (show ∀ j y, j < k + 1 → knownT[j]? = some y → bytesO (numsT y.2) ≠ b from fun j y hj hy => by
          rcases (show j < k ∨ j = k by omega) with h | rfl
          · exact HN.out j y h hy
          · rw [HX.out] at hy
            cases hy
            exact hq)
        have hne := u8s_ne (bytesO_byt _) HBY.out hq
        generalize bytesO (numsT x.2) = y at *
        clear hq
        go_wp2
        go_roundw
        case rel => exact ⟨i + 2, k + 1, by go_num, by omega, HI2, HN2, HW2⟩
        case measure => simp [intOf]; omega
    · have HR := Lib.hid (show nameR b = [] from name_no (fun j y hj hy => HN.out j y (by have := hik.out; omega) hy))
      have d1 : decide ((i : Int) < 52) = false := decide_eq_false (by omega)
      go_wp2
      go_ret
      exact ⟨by rw [HR.out]; rfl, HB.out⟩
end Go.Proofs.YtojphfkiblhhiaaDoor
