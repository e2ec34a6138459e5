/-
  WHAT THE BYTES OF A TAG HAVE TO BE: parts of a second.
-/
import Derived.Test.YtkmphiakciihfaaDoorTcD
import Derived.Test.YtkmphiakciihfaaDoorTk
import Derived.Test.YtkmphiakciihfaaDoorTrD
import Derived.Laws.BitsLemmas
namespace Go.Proofs.YtkmphiakciihfaaDoor
open Go.RowKit

/-- An operation that is passed over. -/
theorem ts {P : Program} {ops : Array Oper} {md} {Q : Exit → Act → World → Prop} {S : World → Prop} (i : Nat) {oi : Oper} {fuel : Nat} {listed : Array Bool} {a : Act} {w : World}
    (h : wpAnyH P md ops Q S fuel (listed.setIfInBounds i true) (a.put oi.dst undef) w)
    (hi : ops[i]? = some oi := by rfl) (hs : Region.noSelect ops = true := by kernel_rfl) (hf : Region.free md ops listed i = true := by kernel_rfl) (hr : (Region.ready md ops listed).contains i = true := by kernel_rfl)
    (hQ : ∀ c a w, Q (.panic c) (a.put oi.dst undef) w → Q (.panic c) a w := by exact fun _ _ _ h => h)
    (hw : Region.wanted oi (yielded ops a.tmps) = false := by kernel_rfl)
    (hS : S w := by assumption) : wpAnyH P md ops Q S (fuel + 1) listed a w := wpAnyH_take hi hs hf hr hQ (Or.inr ⟨hw, rfl⟩) hS h

theorem digs_all {l : List Nat} (h : l.all digB = true) : Digs l l.length := fun i hi => by
  have := List.all_eq_true.1 h l[i] (List.getElem_mem hi)
  unfold digB at this
  unfold gN
  rw [List.getElem?_eq_getElem hi]
  simpa using this

theorem dig_ok : ∀ (x : Nat) (W : World), x < 256 → Calls Tryd.prog 97 #[.int .u8 (x : Nat)] W fun e w' => e = .returned (.bool (digB x)) ∧ w' = W := fun x W hx => isDigit_any x hx W

def partsB (l : List Nat) : Bool := decide (1 < l.length) && decide (gN l 0 = 46) && (l.drop 1).all digB && decide (gN l (l.length - 1) ≠ 48)

theorem below_drew (w : World) : Below w.heap.size w w.drew := ⟨rfl, rfl, rfl, Nat.le_refl _, fun _ _ => rfl⟩

set_option maxHeartbeats 4000000 in
set_option maxRecDepth 100000 in
theorem parts_any (a : Option Addr) (len cap : Nat) (l : List Nat) (w : World) (h : Reads .u8 w a len cap l) (hx : ∀ x ∈ l, x < 256) :
    Calls Tryd.prog 101 #[.slice a len cap] w fun e w' => e = .returned (.bool (partsB l)) ∧ Below w.heap.size w w' := by
  have hm := h.len_le
  have hmx := h.max
  have hle := h.le
  unfold maxLen at hm hmx
  have hl := Lib.hid h.length
  by_cases h1 : 1 < len
  · obtain ⟨b, off, rfl, hlt, hc⟩ := h.cells (by omega)
    have c0 : w.cell? ⟨b, off, none⟩ = _ := hc 0 (by omega)
    have c1 := hc (len - 1) (by omega)
    have x0 := gN_lt hx 0
    have x1 := gN_lt hx (len - 1)
    have HP := Lib.hid (show partsB l = (decide (gN l 0 = 46) && (l.drop 1).all digB && decide (gN l (len - 1) ≠ 48)) by unfold partsB; rw [hl.out, decide_eq_true h1, Bool.true_and])
    have e0 : (l[0]?.getD 0) = gN l 0 := rfl
    have e1 : (l[len - 1]?.getD 0) = gN l (len - 1) := rfl
    simp only [e0] at c0
    simp only [e1] at c1
    have HRD := Lib.hid (h.dropT (k := 1) h1)
    have HX := Lib.hid (show ∀ x ∈ l.drop 1, x < 256 from fun x hx' => hx x (List.mem_of_mem_drop hx'))
    have HBL := Lib.hid hlt
    have hsub : ((len : Int) - 1) = ((len - 1 : Nat) : Int) := by omega
    have hne1 : (len - 1) < len := by omega
    have hp0 : 0 < len := by omega
    have i1 : (1 : Int) ≤ (len : Int) := by omega
    have hcn : ¬ cap = 1 := by omega
    have hwr : IntKind.i64.wrap ((len - 1 : Nat) : Int) = ((len - 1 : Nat) : Int) := by rw [IntKind.wrap_i64]; omega
    have hli : ((len - 1 : Nat) : Int) < (len : Int) := by omega
    have hln : (0 : Int) ≤ ((len - 1 : Nat) : Int) := by omega
    have g1 : decide (1 < (len : Int)) = true := decide_eq_true (by omega)
    clear hc e0 e1 h hx
    generalize gN l 0 = u at *
    generalize gN l (len - 1) = x at *
    by_cases h46 : u = 46
    · subst h46
      obtain ⟨al, hal⟩ : ∃ al, (l.drop 1).all digB = al := ⟨_, rfl⟩
      have HAL := Lib.hid hal
      rw [hal] at HP
      clear hal
      go_enter Tryd.func101, Tryd.ntmps101
      go_wp2_with fail
      refine wp_region_held_drew (S := fun W => W.cell? ⟨b, off, none⟩ = some (.int .u8 (46 : Nat)) ∧ W.cell? ⟨b, off + (len - 1), none⟩ = some (.int .u8 (x : Nat))) (by kernel_rfl) ⟨c0, c1⟩ (fun hHeld => ?_)

      refine' tk 0 ?_
      try simp only [List.getElem_toArray, List.getElem_cons_succ, List.getElem_cons_zero, Act.put, List.setIfInBounds_toArray, List.set_cons_zero, List.set_cons_succ]
      refine' tk 1 ?_
      try simp only [List.getElem_toArray, List.getElem_cons_succ, List.getElem_cons_zero, Act.put, List.setIfInBounds_toArray, List.set_cons_zero, List.set_cons_succ]
      refine' tk 2 ?_
      try simp only [List.getElem_toArray, List.getElem_cons_succ, List.getElem_cons_zero, Act.put, List.setIfInBounds_toArray, List.set_cons_zero, List.set_cons_succ]
      refine' tk 3 ?_
      try simp only [List.getElem_toArray, List.getElem_cons_succ, List.getElem_cons_zero, Act.put, List.setIfInBounds_toArray, List.set_cons_zero, List.set_cons_succ]
      refine' tk 4 ?_
      try simp only [List.getElem_toArray, List.getElem_cons_succ, List.getElem_cons_zero, Act.put, List.setIfInBounds_toArray, List.set_cons_zero, List.set_cons_succ]
      refine' tk 5 ?_
      try simp only [List.getElem_toArray, List.getElem_cons_succ, List.getElem_cons_zero, Act.put, List.setIfInBounds_toArray, List.set_cons_zero, List.set_cons_succ]
      refine' tk 6 ?_
      try simp only [List.getElem_toArray, List.getElem_cons_succ, List.getElem_cons_zero, Act.put, List.setIfInBounds_toArray, List.set_cons_zero, List.set_cons_succ]
      refine' tk 7 ?_
      try simp only [List.getElem_toArray, List.getElem_cons_succ, List.getElem_cons_zero, Act.put, List.setIfInBounds_toArray, List.set_cons_zero, List.set_cons_succ]
      refine' tk 8 ?_
      try simp only [List.getElem_toArray, List.getElem_cons_succ, List.getElem_cons_zero, Act.put, List.setIfInBounds_toArray, List.set_cons_zero, List.set_cons_succ]
      refine' tk 9 ?_
      try simp only [List.getElem_toArray, List.getElem_cons_succ, List.getElem_cons_zero, Act.put, List.setIfInBounds_toArray, List.set_cons_zero, List.set_cons_succ]
      refine' tk 11 ?_
      try simp only [List.getElem_toArray, List.getElem_cons_succ, List.getElem_cons_zero, Act.put, List.setIfInBounds_toArray, List.set_cons_zero, List.set_cons_succ]
      refine' tk 12 ?_
      try simp only [List.getElem_toArray, List.getElem_cons_succ, List.getElem_cons_zero, Act.put, List.setIfInBounds_toArray, List.set_cons_zero, List.set_cons_succ]
      refine' tr 10 (fun K hK => ?_)
      try simp only [List.getElem_toArray, List.getElem_cons_succ, List.getElem_cons_zero]
      go_simp
      obtain ⟨w1, hw1⟩ : ∃ u, w.drew.alloc (.cells #[.func (.func 97) #[] #[]] 102) = u := ⟨_, rfl⟩
      have hb1 : Below w.heap.size w w1 := by rw [← hw1]; exact (below_drew w).alloc (Nat.le_refl _) _
      have hbox : w1.cell? ⟨w.heap.size, 0, none⟩ = some (.func (.func 97) #[] #[]) := by rw [← hw1]; exact (Boxed.new w.drew 102 (.func (.func 97) #[] #[])).cell
      refine (eachf_any 97 w.drew).mono ?_
      rintro e w' ⟨rfl, hw'⟩
      obtain rfl : w' = w1 := hw'.trans hw1
      have c0 := (hb1.cell (p := ⟨b, off, none⟩) HBL.out).trans c0
      have c1 := (hb1.cell (p := ⟨b, off + (len - 1), none⟩) HBL.out).trans c1
      have HE := Lib.hid (each_any 97 digB (enters_of Tryd.func97 (by kernel_rfl) rfl) dig_ok _ _ _ _ w' w.heap.size hbox (HRD.out.below hb1) HX.out)
      have HB1 := Lib.hid hb1
      rw [HAL.out] at HE
      clear hw1 hb1 hbox hw'
      go_wp2_with fail
      refine hK.out _ _ ⟨c0, c1⟩ (fun hHeld => ?_)
      clear hK K
      try simp only [List.getElem_toArray, List.getElem_cons_succ, List.getElem_cons_zero, Act.put, List.setIfInBounds_toArray, List.set_cons_zero, List.set_cons_succ]
      refine' tr 13 (fun K hK => ?_)
      try simp only [List.getElem_toArray, List.getElem_cons_succ, List.getElem_cons_zero]
      go_simp
      refine HE.out.mono ?_
      rintro e w2 ⟨rfl, hw2⟩
      obtain rfl : w' = w2 := hw2.symm
      cases al with
      | false =>
        go_wp2_with fail
        refine hK.out _ _ ⟨c0, c1⟩ (fun hHeld => ?_)
        clear hK K
        try simp only [List.getElem_toArray, List.getElem_cons_succ, List.getElem_cons_zero, Act.put, List.setIfInBounds_toArray, List.set_cons_zero, List.set_cons_succ]
        refine' tk 14 ?_
        try simp only [List.getElem_toArray, List.getElem_cons_succ, List.getElem_cons_zero, Act.put, List.setIfInBounds_toArray, List.set_cons_zero, List.set_cons_succ]
        refine' tk 15 ?_
        try simp only [List.getElem_toArray, List.getElem_cons_succ, List.getElem_cons_zero, Act.put, List.setIfInBounds_toArray, List.set_cons_zero, List.set_cons_succ]
        refine' ts 16 ?_
        try simp only [List.getElem_toArray, List.getElem_cons_succ, List.getElem_cons_zero, Act.put, List.setIfInBounds_toArray, List.set_cons_zero, List.set_cons_succ]
        refine' ts 17 ?_
        try simp only [List.getElem_toArray, List.getElem_cons_succ, List.getElem_cons_zero, Act.put, List.setIfInBounds_toArray, List.set_cons_zero, List.set_cons_succ]
        refine' ts 18 ?_
        try simp only [List.getElem_toArray, List.getElem_cons_succ, List.getElem_cons_zero, Act.put, List.setIfInBounds_toArray, List.set_cons_zero, List.set_cons_succ]
        refine' ts 19 ?_
        try simp only [List.getElem_toArray, List.getElem_cons_succ, List.getElem_cons_zero, Act.put, List.setIfInBounds_toArray, List.set_cons_zero, List.set_cons_succ]
        refine' ts 20 ?_
        try simp only [List.getElem_toArray, List.getElem_cons_succ, List.getElem_cons_zero, Act.put, List.setIfInBounds_toArray, List.set_cons_zero, List.set_cons_succ]
        refine' ts 21 ?_
        try simp only [List.getElem_toArray, List.getElem_cons_succ, List.getElem_cons_zero, Act.put, List.setIfInBounds_toArray, List.set_cons_zero, List.set_cons_succ]
        refine' ts 22 ?_
        try simp only [List.getElem_toArray, List.getElem_cons_succ, List.getElem_cons_zero, Act.put, List.setIfInBounds_toArray, List.set_cons_zero, List.set_cons_succ]
        refine' tk 23 ?_
        try simp only [List.getElem_toArray, List.getElem_cons_succ, List.getElem_cons_zero, Act.put, List.setIfInBounds_toArray, List.set_cons_zero, List.set_cons_succ]
        refine' tk 24 ?_
        try simp only [List.getElem_toArray, List.getElem_cons_succ, List.getElem_cons_zero, Act.put, List.setIfInBounds_toArray, List.set_cons_zero, List.set_cons_succ]
        refine wpAnyH_done (by kernel_rfl) ?_ _
        clear hHeld c0 c1
        go_wp2_with fail
        go_ret
        exact ⟨ret_bool (by rw [HP.out]; rfl), HB1.out⟩
      | true =>
        have HP2 := Lib.hid (show partsB l = decide (x ≠ 48) by rw [HP.out]; rfl)
        by_cases h48 : x = 48
        · have HP3 := Lib.hid (show partsB l = false by rw [HP2.out]; simp [h48])
          have g48 : ((x : Int) != 48) = false := by simp; omega
          clear h48
          go_wp2_with fail
          refine hK.out _ _ ⟨c0, c1⟩ (fun hHeld => ?_)
          clear hK K
          try simp only [List.getElem_toArray, List.getElem_cons_succ, List.getElem_cons_zero, Act.put, List.setIfInBounds_toArray, List.set_cons_zero, List.set_cons_succ]
          refine' tk 14 ?_
          try simp only [List.getElem_toArray, List.getElem_cons_succ, List.getElem_cons_zero, Act.put, List.setIfInBounds_toArray, List.set_cons_zero, List.set_cons_succ]
          refine' tk 15 ?_
          try simp only [List.getElem_toArray, List.getElem_cons_succ, List.getElem_cons_zero, Act.put, List.setIfInBounds_toArray, List.set_cons_zero, List.set_cons_succ]
          refine' tk 16 ?_
          try simp only [List.getElem_toArray, List.getElem_cons_succ, List.getElem_cons_zero, Act.put, List.setIfInBounds_toArray, List.set_cons_zero, List.set_cons_succ]
          refine' tk 17 ?_
          try simp only [List.getElem_toArray, List.getElem_cons_succ, List.getElem_cons_zero, Act.put, List.setIfInBounds_toArray, List.set_cons_zero, List.set_cons_succ]
          refine' tk 18 ?_
          try simp only [List.getElem_toArray, List.getElem_cons_succ, List.getElem_cons_zero, Act.put, List.setIfInBounds_toArray, List.set_cons_zero, List.set_cons_succ]
          refine' tk 19 ?_
          try simp only [List.getElem_toArray, List.getElem_cons_succ, List.getElem_cons_zero, Act.put, List.setIfInBounds_toArray, List.set_cons_zero, List.set_cons_succ]
          refine' tk 20 ?_
          try simp only [List.getElem_toArray, List.getElem_cons_succ, List.getElem_cons_zero, Act.put, List.setIfInBounds_toArray, List.set_cons_zero, List.set_cons_succ]
          refine' tk 21 ?_
          try simp only [List.getElem_toArray, List.getElem_cons_succ, List.getElem_cons_zero, Act.put, List.setIfInBounds_toArray, List.set_cons_zero, List.set_cons_succ]
          refine' tk 22 ?_
          try simp only [List.getElem_toArray, List.getElem_cons_succ, List.getElem_cons_zero, Act.put, List.setIfInBounds_toArray, List.set_cons_zero, List.set_cons_succ]
          refine' tk 23 ?_
          try simp only [List.getElem_toArray, List.getElem_cons_succ, List.getElem_cons_zero, Act.put, List.setIfInBounds_toArray, List.set_cons_zero, List.set_cons_succ]
          refine' tk 24 ?_
          try simp only [List.getElem_toArray, List.getElem_cons_succ, List.getElem_cons_zero, Act.put, List.setIfInBounds_toArray, List.set_cons_zero, List.set_cons_succ]
          refine wpAnyH_done (by kernel_rfl) ?_ _
          clear hHeld c0 c1
          go_wp2_with fail
          go_ret
          exact ⟨ret_bool HP3.out.symm, HB1.out⟩
        · have HP3 := Lib.hid (show partsB l = true by rw [HP2.out]; simp [h48])
          have g48 : ((x : Int) != 48) = true := by simp; omega
          clear h48
          go_wp2_with fail
          refine hK.out _ _ ⟨c0, c1⟩ (fun hHeld => ?_)
          clear hK K
          try simp only [List.getElem_toArray, List.getElem_cons_succ, List.getElem_cons_zero, Act.put, List.setIfInBounds_toArray, List.set_cons_zero, List.set_cons_succ]
          refine' tk 14 ?_
          try simp only [List.getElem_toArray, List.getElem_cons_succ, List.getElem_cons_zero, Act.put, List.setIfInBounds_toArray, List.set_cons_zero, List.set_cons_succ]
          refine' tk 15 ?_
          try simp only [List.getElem_toArray, List.getElem_cons_succ, List.getElem_cons_zero, Act.put, List.setIfInBounds_toArray, List.set_cons_zero, List.set_cons_succ]
          refine' tk 16 ?_
          try simp only [List.getElem_toArray, List.getElem_cons_succ, List.getElem_cons_zero, Act.put, List.setIfInBounds_toArray, List.set_cons_zero, List.set_cons_succ]
          refine' tk 17 ?_
          try simp only [List.getElem_toArray, List.getElem_cons_succ, List.getElem_cons_zero, Act.put, List.setIfInBounds_toArray, List.set_cons_zero, List.set_cons_succ]
          refine' tk 18 ?_
          try simp only [List.getElem_toArray, List.getElem_cons_succ, List.getElem_cons_zero, Act.put, List.setIfInBounds_toArray, List.set_cons_zero, List.set_cons_succ]
          refine' tk 19 ?_
          try simp only [List.getElem_toArray, List.getElem_cons_succ, List.getElem_cons_zero, Act.put, List.setIfInBounds_toArray, List.set_cons_zero, List.set_cons_succ]
          refine' tk 20 ?_
          try simp only [List.getElem_toArray, List.getElem_cons_succ, List.getElem_cons_zero, Act.put, List.setIfInBounds_toArray, List.set_cons_zero, List.set_cons_succ]
          refine' tk 21 ?_
          try simp only [List.getElem_toArray, List.getElem_cons_succ, List.getElem_cons_zero, Act.put, List.setIfInBounds_toArray, List.set_cons_zero, List.set_cons_succ]
          refine' tk 22 ?_
          try simp only [List.getElem_toArray, List.getElem_cons_succ, List.getElem_cons_zero, Act.put, List.setIfInBounds_toArray, List.set_cons_zero, List.set_cons_succ]
          refine' tk 23 ?_
          try simp only [List.getElem_toArray, List.getElem_cons_succ, List.getElem_cons_zero, Act.put, List.setIfInBounds_toArray, List.set_cons_zero, List.set_cons_succ]
          refine' tk 24 ?_
          try simp only [List.getElem_toArray, List.getElem_cons_succ, List.getElem_cons_zero, Act.put, List.setIfInBounds_toArray, List.set_cons_zero, List.set_cons_succ]
          refine wpAnyH_done (by kernel_rfl) ?_ _
          clear hHeld c0 c1
          go_wp2_with fail
          go_ret
          exact ⟨ret_bool HP3.out.symm, HB1.out⟩

    · have HP3 := Lib.hid (show partsB l = false by rw [HP.out, decide_eq_false h46]; rfl)
      have g46 : ((u : Int) == 46) = false := by simp; omega
      clear h46 HP
      go_enter Tryd.func101, Tryd.ntmps101
      go_wp2_with fail
      go_big_quiet (fail)
      go_wp2_with fail
      go_ret
      exact ⟨ret_bool HP3.out.symm, below_of_drewN ⟨nq, rfl⟩⟩
  · have HP3 := Lib.hid (show partsB l = false by unfold partsB; rw [hl.out, decide_eq_false h1]; rfl)
    have g1 : decide (1 < (len : Int)) = false := decide_eq_false (by omega)
    clear h1 h
    go_enter Tryd.func101, Tryd.ntmps101
    go_wp2_with fail
    go_big_quiet (fail)
    go_wp2_with fail
    go_ret
    exact ⟨ret_bool HP3.out.symm, below_of_drewN ⟨nq, rfl⟩⟩

end Go.Proofs.YtkmphiakciihfaaDoor
