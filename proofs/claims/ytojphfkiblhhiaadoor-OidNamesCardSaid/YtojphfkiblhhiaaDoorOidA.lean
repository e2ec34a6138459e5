/-
  OID: the law OidApart. (Written by wip/gen_oidA.py.)
-/
import Derived.Test.YtojphfkiblhhiaaDoorOid9
namespace Go.Proofs.YtojphfkiblhhiaaDoor
open Go.RowKit
set_option maxRecDepth 100000

/-- A slice of numbers that came in, as the shells say it. -/
theorem reads_of_u64s {w : World} {a : Option Addr} {len cap : Nat} {zs : List Int}
    (h : (a = .none ∧ len = 0 ∧ cap = 0 ∧ zs = []) ∨ ∃ x, a = some x ∧ len ≤ cap ∧ cap ≤ maxLen ∧ zs.length = cap ∧ (∀ i, i < zs.length → w.cell? (x.add i) = some (.int .u64 (zs.getD i 0))) ∧ ∀ n ∈ zs, (Lit.int .u64 n).wf = true) :
    ∃ l : List Nat, Reads .u64 w a len cap l ∧ ∀ x ∈ l, x < 18446744073709551616 := by
  rcases h with ⟨rfl, rfl, rfl, rfl⟩ | ⟨x, rfl, hl, hm, hz, hc, hw⟩
  · exact ⟨[], Reads.none _ w, fun _ h => by cases h⟩
  · have hbd : ∀ n ∈ zs, 0 ≤ n ∧ n < 18446744073709551616 := fun n hn => by
      have := hw n hn
      simp [Lit.wf, IntKind.min, IntKind.max, IntKind.signed, IntKind.bits] at this
      omega
    refine ⟨(zs.take len).map fun n => n.toNat, ⟨by simp; omega, hl, hm, (fun h => by cases h), fun hp => ?_⟩, fun y hy => ?_⟩
    · obtain ⟨b, off, spot⟩ := x
      have h0 := hc 0 (by omega)
      have hs : spot = .none := by simpa [Addr.add] using World.cell?_spot h0
      subst hs
      refine ⟨b, off, rfl, World.block_lt_of_cell? w _ (by simpa [Addr.add] using h0), fun i hi => ?_⟩
      have hci := hc i (by omega)
      have e : (⟨b, off, .none⟩ : Addr).add i = ⟨b, off + i, .none⟩ := by unfold Addr.add; split <;> simp_all
      rw [e] at hci
      rw [hci]
      have hlt : i < zs.length := by omega
      have hb := hbd zs[i] (List.getElem_mem _)
      have h1 : zs.getD i 0 = zs[i] := by simp [List.getD, hlt]
      rw [h1]
      simp [hi, hlt]
      omega
    · obtain ⟨n, hn, rfl⟩ := List.mem_map.1 hy
      have := hbd n (List.mem_of_mem_take hn)
      omega

set_option maxHeartbeats 1000000 in
theorem same_q (a a' : Option Addr) (n c n' c' : Nat) (l m : List Nat) (w : World) (hl : Reads .u64 w a n c l) (hm : Reads .u64 w a' n' c' m) :
    Calls Tryd.prog 13 #[.slice a n c, .slice a' n' c'] w fun e w' => e = .returned (.bool (decide (l = m))) ∧ ∃ k, w' = w.drewN k := by
  have hnl := Lib.hid hl.length
  have hml := Lib.hid hm.length
  have hn := hl.len_le
  unfold maxLen at hn
  have HL := Lib.hid hl
  have HM := Lib.hid hm
  by_cases hlen : n = n'
  rotate_left
  · have hd := Lib.hid (show decide (l = m) = false from decide_eq_false fun e => hlen (by rw [← hnl.out, ← hml.out, e]))
    have h1 : ((n : Int) != (n' : Int)) = true := by simp; omega
    clear hl hm
    go_enter Tryd.func13, Tryd.ntmps13
    go_wp2
    go_ret
    exact ⟨by rw [hd.out]; rfl, ⟨0, rfl⟩⟩
  subst hlen
  clear hl hm
  go_enter Tryd.func13, Tryd.ntmps13
  go_wp2_with fail
  go_loopw [5] (fun v wr => ∃ i : Nat, i ≤ n ∧ v = .int .i64 (i : Int) ∧ Hid (l.take i = m.take i) ∧ Hid (∃ k, wr = w.drewN k)) (fun v _ => n + 1 - (intOf v).toNat)
  case atStart => exact ⟨0, by omega, rfl, Lib.hid rfl, Lib.hid ⟨0, rfl⟩⟩
  case round =>
    obtain ⟨i, hi, rfl, hI, HB⟩ := hrel
    by_cases hlt : i < n
    · obtain ⟨b, off, rfl, hb, hc⟩ := HL.out.cells (by omega)
      obtain ⟨b', off', rfl, hb', hc'⟩ := HM.out.cells (by omega)
      obtain ⟨k0, rfl⟩ := HB.out
      have c1 := hc i hlt
      have c2 := hc' i hlt
      have hs : l[i]?.getD 0 = m[i]?.getD 0 → l.take (i + 1) = m.take (i + 1) := fun e => by
        rw [List.take_add_one, List.take_add_one, hI.out]
        congr 1
        rw [List.getElem?_eq_getElem (by have := hnl.out; omega), List.getElem?_eq_getElem (by have := hml.out; omega)] at e ⊢
        simpa using e
      have hs2 : l[i]?.getD 0 ≠ m[i]?.getD 0 → l ≠ m := fun e h => e (by rw [h])
      have HS := Lib.hid hs
      have HS2 := Lib.hid hs2
      clear hc hc' hs hs2
      generalize l[i]?.getD 0 = x at *
      generalize m[i]?.getD 0 = y at *
      by_cases hxy : x = y
      · subst hxy
        have HT := Lib.hid (HS.out rfl)
        go_wp2_with fail
        go_big_quiet (fail)
        simp only [Exit.then]
        have HB2 := Lib.hid (show ∃ k, (w.drewN k0).drewN nq = w.drewN k from ⟨k0 + nq, World.drewN_drewN _ _ _⟩)
        generalize (w.drewN k0).drewN nq = w2 at *
        go_wp2
        go_roundw
        case rel => exact ⟨i + 1, by omega, by go_num, HT, HB2⟩
        case measure => simp [intOf]; omega
      · have hd := Lib.hid (show decide (l = m) = false from decide_eq_false (HS2.out hxy))
        have h1 : ((x : Int) != (y : Int)) = true := by simp; omega
        clear hxy
        go_wp2_with fail
        go_big_quiet (fail)
        simp only [Exit.then]
        have HB2 := Lib.hid (show ∃ k, (w.drewN k0).drewN nq = w.drewN k from ⟨k0 + nq, World.drewN_drewN _ _ _⟩)
        generalize (w.drewN k0).drewN nq = w2 at *
        go_wp2
        go_ret
        exact ⟨by rw [hd.out]; rfl, HB2.out⟩
    · have hie : i = n := by omega
      have hd := Lib.hid (show decide (l = m) = true from decide_eq_true (by
        have := hI.out
        rwa [List.take_of_length_le (by have := hnl.out; omega), List.take_of_length_le (by have := hml.out; omega)] at this))
      clear hie
      go_wp2
      go_ret
      exact ⟨by rw [hd.out]; rfl, HB.out⟩


theorem flat_pos {l : List Nat} (h : l ≠ []) : 1 ≤ (l.flatMap formO).length := by
  have := (flat_len l).1
  have : 1 ≤ l.length := by
    cases l with
    | nil => exact absurd rfl h
    | cons _ _ => simp
  omega
theorem take_bytes {l : List Nat} {k : Nat} (h2 : 2 ≤ k) (hk : k < l.length) : (bytesO (l.take k)).length < (bytesO l).length ∧ (bytesO l).take (bytesO (l.take k)).length = bytesO (l.take k) := by
  have e := bytesO_take (l := l) h2
  have hp := flat_pos (l := l.drop k) (fun e => by have := congrArg List.length e; rw [List.length_drop] at this; simp at this; omega)
  refine ⟨?_, ?_⟩
  · have := congrArg List.length e
    rw [List.length_append] at this
    omega
  · conv => lhs; rw [e]
    rw [List.take_left]
/-- Whether one begins with the other. -/
theorem begins_iff {l m : List Nat} (h : OidOk l) (g : OidOk m) : ((bytesO m).length ≤ (bytesO l).length ∧ (bytesO l).take (bytesO m).length = bytesO m) ↔ (m.length ≤ l.length ∧ l.take m.length = m) := by
  constructor
  · rintro ⟨_, h2⟩
    have e : bytesO l = bytesO m ++ (bytesO l).drop (bytesO m).length := by
      conv => lhs; rw [← List.take_append_drop (bytesO m).length (bytesO l), h2]
    obtain ⟨h3, h4⟩ := bytesO_pre h g e
    exact ⟨h4, h3.symm⟩
  · rintro ⟨h1, h2⟩
    rcases Nat.lt_or_ge m.length l.length with hlt | hge
    · have := take_bytes g.1 hlt
      rw [h2] at this
      exact ⟨Nat.le_of_lt this.1, this.2⟩
    · have : l = m := by rw [← h2, List.take_of_length_le hge]
      subst this
      exact ⟨Nat.le_refl _, List.take_of_length_le (Nat.le_refl _)⟩

theorem slice_up (a : Option Addr) (n c k : Nat) (t : TypeId) (hk : k ≤ c) (ht : Tryd.prog.underlying t = some (.slice (Tryd.prog.elem t))) (h1 : ∀ w, (sizeOf (Tryd.prog.elem t)).run Tryd.prog w = .ok 1 w) (W : World) : (Instr.sliceAt t (.slice a n c) none (some (.int .i64 (k : Int))) none).run Tryd.prog W = .ok (.slice a k c) W := by
  rw [run_sliceAt_slice W _ _ _ _ _ ht, run_slice_h W t a n c ht .i64 (k : Int) (by omega) (by omega), h1]
  simp [sliced, Result.andThen]
  cases a <;> simp [Addr.add]

end Go.Proofs.YtojphfkiblhhiaaDoor