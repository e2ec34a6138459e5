/-
  WHAT THE BYTES OF A TAG HAVE TO BE: a time.
-/
import Derived.Test.YtkmphiakciihfaaDoorTcF
namespace Go.Proofs.YtkmphiakciihfaaDoor
open Go.RowKit

/-- A call that is passed over, the one operation that is ready. -/
theorem trs {P : Program} {ops : Array Oper} {md} {Q : Exit → Act → World → Prop} {S : World → Prop} (i : Nat) {o : Oper} {fuel : Nat} {listed : Array Bool} {a : Act} {w : World}
    (h : wpAnyH P md ops Q S fuel (listed.setIfInBounds i true) (a.put o.dst undef) w)
    (ho : ops[i]? = some o := by rfl) (hr : Region.ready md ops listed = [i] := by kernel_rfl) (hw : Region.wanted o (yielded ops a.tmps) = false := by kernel_rfl) (hS : S w := by assumption) : wpAnyH P md ops Q S (fuel + 1) listed a w :=
  wpAnyH_ready hr (by simp) (AllReadyH.cons ho (fun K hK => by rw [if_neg (by rw [hw]; exact Bool.false_ne_true)]; exact hK.out _ _ hS (fun _ => h)) AllReadyH.nil)

def timeB (l : List Nat) : Bool := decide (15 ≤ l.length) && decide (gN l (l.length - 1) = 90) && (l.take 14).all digB && momB (100 * twoN l + twoN (l.drop 2)) (l.drop 4) && (decide (l.length = 15) || partsB ((l.take (l.length - 1)).drop 14))

set_option maxHeartbeats 8000000 in
set_option maxRecDepth 100000 in
theorem time_any (a : Option Addr) (len cap : Nat) (l : List Nat) (w : World) (h : Reads .u8 w a len cap l) (hx : ∀ x ∈ l, x < 256) :
    Calls Tryd.prog 85 #[.slice a len cap] w fun e w' => e = .returned (.bool (timeB l)) ∧ Below w.heap.size w w' := by
  have hm := h.len_le
  have hmx := h.max
  have hle := h.le
  unfold maxLen at hm hmx
  have hl := Lib.hid h.length
  by_cases h1 : 15 ≤ len
  · obtain ⟨b, off, rfl, hlt, hc⟩ := h.cells (by omega)
    have c0 := hc (len - 1) (by omega)
    have x0 := gN_lt hx (len - 1)
    have HP := Lib.hid (show timeB l = (decide (gN l (len - 1) = 90) && (l.take 14).all digB && momB (100 * twoN l + twoN (l.drop 2)) (l.drop 4) && (decide (len = 15) || partsB ((l.take (len - 1)).drop 14))) by unfold timeB; rw [hl.out, decide_eq_true h1, Bool.true_and])
    have e0 : (l[len - 1]?.getD 0) = gN l (len - 1) := rfl
    simp only [e0] at c0
    have HR := Lib.hid h
    have HRT := Lib.hid (h.upto 14 (by omega))
    have hcn : ¬ cap = 14 := by omega
    have hs := h.sub 14 (len - 1) (by omega) (by omega)
    rw [if_neg hcn] at hs
    have HRP := Lib.hid (show Reads .u8 w (some ⟨b, off + 14, none⟩) (len - 1 - 14) (cap - 14) ((l.take (len - 1)).drop 14) from hs)
    have HX := Lib.hid (show ∀ x ∈ l.take 14, x < 256 from fun x hx' => hx x (List.mem_of_mem_take hx'))
    have HXP := Lib.hid (show ∀ x ∈ (l.take (len - 1)).drop 14, x < 256 from fun x hx' => hx x (List.mem_of_mem_take (List.mem_of_mem_drop hx')))
    have HBL := Lib.hid hlt
    have i14 : (14 : Int) ≤ (cap : Int) := by omega
    have hsub : ((len : Int) - 1) = ((len - 1 : Nat) : Int) := by omega
    have hwr : IntKind.i64.wrap ((len - 1 : Nat) : Int) = ((len - 1 : Nat) : Int) := by rw [IntKind.wrap_i64]; omega
    have hli : ((len - 1 : Nat) : Int) < (len : Int) := by omega
    have hln : (0 : Int) ≤ ((len - 1 : Nat) : Int) := by omega
    have g15 : decide ((len : Int) < 15) = false := decide_eq_false (by omega)
    clear hc e0 h hx hs
    generalize gN l (len - 1) = u at *
    by_cases h46 : u = 90
    · subst h46
      obtain ⟨al, hal⟩ : ∃ al, (l.take 14).all digB = al := ⟨_, rfl⟩
      have HAL := Lib.hid hal
      rw [hal] at HP
      clear hal
      go_enter Tryd.func85, Tryd.ntmps85
      go_wp2_with fail
      refine wp_region_held_drew (S := fun W => W.cell? ⟨b, off + (len - 1), none⟩ = some (.int .u8 (90 : Nat))) (by kernel_rfl) c0 (fun hHeld => ?_)

      refine' tk 0 ?_
      try simp only [List.getElem_toArray, List.getElem_cons_succ, List.getElem_cons_zero, Act.put, List.setIfInBounds_toArray, List.set_cons_zero, List.set_cons_succ]
      refine' tk 1 ?_
      try simp only [List.getElem_toArray, List.getElem_cons_succ, List.getElem_cons_zero, Act.put, List.setIfInBounds_toArray, List.set_cons_zero, List.set_cons_succ]
      refine' tk 2 ?_
      try simp only [List.getElem_toArray, List.getElem_cons_succ, List.getElem_cons_zero, Act.put, List.setIfInBounds_toArray, List.set_cons_zero, List.set_cons_succ]
      refine' tk 3 ?_
      try simp only [List.getElem_toArray, List.getElem_cons_succ, List.getElem_cons_zero, Act.put, List.setIfInBounds_toArray, List.set_cons_zero, List.set_cons_succ]
      refine' tk 4 ?_
      try simp only [List.getElem_toArray, List.getElem_cons_succ, List.getElem_cons_zero, Act.put, List.setIfInBounds_toArray, List.set_cons_zero, List.set_cons_succ]
      refine' tk 5 ?_
      try simp only [List.getElem_toArray, List.getElem_cons_succ, List.getElem_cons_zero, Act.put, List.setIfInBounds_toArray, List.set_cons_zero, List.set_cons_succ]
      refine' tk 6 ?_
      try simp only [List.getElem_toArray, List.getElem_cons_succ, List.getElem_cons_zero, Act.put, List.setIfInBounds_toArray, List.set_cons_zero, List.set_cons_succ]
      refine' tk 7 ?_
      try simp only [List.getElem_toArray, List.getElem_cons_succ, List.getElem_cons_zero, Act.put, List.setIfInBounds_toArray, List.set_cons_zero, List.set_cons_succ]
      refine' tk 8 ?_
      try simp only [List.getElem_toArray, List.getElem_cons_succ, List.getElem_cons_zero, Act.put, List.setIfInBounds_toArray, List.set_cons_zero, List.set_cons_succ]
      refine' tk 9 ?_
      try simp only [List.getElem_toArray, List.getElem_cons_succ, List.getElem_cons_zero, Act.put, List.setIfInBounds_toArray, List.set_cons_zero, List.set_cons_succ]
      refine' tk 10 ?_
      try simp only [List.getElem_toArray, List.getElem_cons_succ, List.getElem_cons_zero, Act.put, List.setIfInBounds_toArray, List.set_cons_zero, List.set_cons_succ]
      refine' tk 11 ?_
      try simp only [List.getElem_toArray, List.getElem_cons_succ, List.getElem_cons_zero, Act.put, List.setIfInBounds_toArray, List.set_cons_zero, List.set_cons_succ]
      refine' tk 12 ?_
      try simp only [List.getElem_toArray, List.getElem_cons_succ, List.getElem_cons_zero, Act.put, List.setIfInBounds_toArray, List.set_cons_zero, List.set_cons_succ]
      refine' tk 14 ?_
      try simp only [List.getElem_toArray, List.getElem_cons_succ, List.getElem_cons_zero, Act.put, List.setIfInBounds_toArray, List.set_cons_zero, List.set_cons_succ]
      refine' tk 15 ?_
      try simp only [List.getElem_toArray, List.getElem_cons_succ, List.getElem_cons_zero, Act.put, List.setIfInBounds_toArray, List.set_cons_zero, List.set_cons_succ]
      refine' tr 13 (fun K hK => ?_)
      try simp only [List.getElem_toArray, List.getElem_cons_succ, List.getElem_cons_zero]
      go_simp
      obtain ⟨w1, hw1⟩ : ∃ u, w.drew.alloc (.cells #[.func (.func 97) #[] #[]] 102) = u := ⟨_, rfl⟩
      have hb1 : Below w.heap.size w w1 := by rw [← hw1]; exact (below_drew w).alloc (Nat.le_refl _) _
      have hbox : w1.cell? ⟨w.heap.size, 0, none⟩ = some (.func (.func 97) #[] #[]) := by rw [← hw1]; exact (Boxed.new w.drew 102 (.func (.func 97) #[] #[])).cell
      refine (eachf_any 97 w.drew).mono ?_
      rintro e w' ⟨rfl, hw'⟩
      obtain rfl : w' = w1 := hw'.trans hw1
      have c0 := (hb1.cell (p := ⟨b, off + (len - 1), none⟩) HBL.out).trans c0
      have HE := Lib.hid (each_any 97 digB (enters_of Tryd.func97 (by kernel_rfl) rfl) dig_ok _ _ _ _ w' w.heap.size hbox (HRT.out.below hb1) HX.out)
      have HB1 := Lib.hid hb1
      rw [HAL.out] at HE
      clear hw1 hb1 hbox hw'
      go_wp2_with fail
      refine hK.out _ _ c0 (fun hHeld => ?_)
      clear hK K
      try simp only [List.getElem_toArray, List.getElem_cons_succ, List.getElem_cons_zero, Act.put, List.setIfInBounds_toArray, List.set_cons_zero, List.set_cons_succ]
      refine' tr 16 (fun K hK => ?_)
      try simp only [List.getElem_toArray, List.getElem_cons_succ, List.getElem_cons_zero]
      go_simp
      refine HE.out.mono ?_
      rintro e w2 ⟨rfl, hw2⟩
      obtain rfl : w' = w2 := hw2.symm
      clear HE
      cases al with
      | false =>
        go_wp2_with fail
        refine hK.out _ _ c0 (fun hHeld => ?_)
        clear hK K
        try simp only [List.getElem_toArray, List.getElem_cons_succ, List.getElem_cons_zero, Act.put, List.setIfInBounds_toArray, List.set_cons_zero, List.set_cons_succ]
        refine' tk 17 ?_
        try simp only [List.getElem_toArray, List.getElem_cons_succ, List.getElem_cons_zero, Act.put, List.setIfInBounds_toArray, List.set_cons_zero, List.set_cons_succ]
        refine' tk 18 ?_
        try simp only [List.getElem_toArray, List.getElem_cons_succ, List.getElem_cons_zero, Act.put, List.setIfInBounds_toArray, List.set_cons_zero, List.set_cons_succ]
        refine wpAnyH_done (by kernel_rfl) ?_ _
        clear hHeld c0
        go_wp2_with fail
        go_ret
        exact ⟨ret_bool (by rw [HP.out]; rfl), HB1.out⟩
      | true =>
        have hd14 := digs_take (n := 14) (by rw [hl.out]; omega) HAL.out
        have HT := Lib.hid (fun W (hb : Below w.heap.size w W) => two_at0 (HR.out.below hb) (by omega) (fun i hi => hd14 i (by omega)))
        have HT2 := Lib.hid (fun W (hb : Below w.heap.size w W) => two_at 2 (HR.out.below hb) (by omega) (fun i hi => hd14 i (by omega)))
        have htl := twoN_lt (fun i hi => hd14 i (by omega) : Digs l 2)
        have htl2 := twoN_lt (hd14.drop (k := 2) (m := 2) (by omega))
        have HMO := Lib.hid (fun (y : Int) (h1 : 0 ≤ y) (h2 : y ≤ 100000) W (hb : Below w.heap.size w W) => moment_any y h1 h2 _ _ _ _ W ((HR.out.below hb).dropT (k := 4) (by omega)) (by omega) (hd14.drop (m := 10) (by omega)))
        have HPA := Lib.hid (fun W (hb : Below w.heap.size w W) => parts_any _ _ _ _ W (HRP.out.below hb) HXP.out)
        have HP2 := Lib.hid (show timeB l = (momB (100 * twoN l + twoN (l.drop 2)) (l.drop 4) && (decide (len = 15) || partsB ((l.take (len - 1)).drop 14))) by rw [HP.out]; rfl)
        have hcn2 : ¬ cap = 2 := by omega
        have hcn4 : ¬ cap = 4 := by omega
        have j2 : (2 : Int) ≤ (len : Int) := by omega
        have j4 : (4 : Int) ≤ (len : Int) := by omega
        have j14 : (14 : Int) ≤ ((len - 1 : Nat) : Int) := by omega
        have j15 : ((len - 1 : Nat) : Int) ≤ (cap : Int) := by omega
        clear hd14 HP
        generalize twoN l = T at *
        generalize twoN (l.drop 2) = T2 at *
        obtain ⟨t0, t1⟩ := htl
        obtain ⟨t2, t3⟩ := htl2
        generalize partsB ((l.take (len - 1)).drop 14) = pa at *
        go_wp2_with fail
        refine hK.out _ _ c0 (fun hHeld => ?_)
        clear hK K
        try simp only [List.getElem_toArray, List.getElem_cons_succ, List.getElem_cons_zero, Act.put, List.setIfInBounds_toArray, List.set_cons_zero, List.set_cons_succ]
        refine' tk 17 ?_
        try simp only [List.getElem_toArray, List.getElem_cons_succ, List.getElem_cons_zero, Act.put, List.setIfInBounds_toArray, List.set_cons_zero, List.set_cons_succ]
        refine' tk 18 ?_
        try simp only [List.getElem_toArray, List.getElem_cons_succ, List.getElem_cons_zero, Act.put, List.setIfInBounds_toArray, List.set_cons_zero, List.set_cons_succ]
        refine wpAnyH_done (by kernel_rfl) ?_ _
        clear hHeld c0
        go_wp2_with fail
        have HMY := Lib.hid (HMO.out (100 * T + T2) (by omega) (by omega))
        generalize momB (100 * T + T2) (l.drop 4) = mo at *
        clear HMO
        refine wp_region_held_drew (S := fun _ => True) (by kernel_rfl) trivial (fun hHeld => ?_)
        refine' tk 0 ?_
        try simp only [List.getElem_toArray, List.getElem_cons_succ, List.getElem_cons_zero, Act.put, List.setIfInBounds_toArray, List.set_cons_zero, List.set_cons_succ]
        refine' tk 3 ?_
        try simp only [List.getElem_toArray, List.getElem_cons_succ, List.getElem_cons_zero, Act.put, List.setIfInBounds_toArray, List.set_cons_zero, List.set_cons_succ]
        refine' tk 4 ?_
        try simp only [List.getElem_toArray, List.getElem_cons_succ, List.getElem_cons_zero, Act.put, List.setIfInBounds_toArray, List.set_cons_zero, List.set_cons_succ]
        refine' tk 7 ?_
        try simp only [List.getElem_toArray, List.getElem_cons_succ, List.getElem_cons_zero, Act.put, List.setIfInBounds_toArray, List.set_cons_zero, List.set_cons_succ]
        refine' tk 8 ?_
        try simp only [List.getElem_toArray, List.getElem_cons_succ, List.getElem_cons_zero, Act.put, List.setIfInBounds_toArray, List.set_cons_zero, List.set_cons_succ]
        refine' tr 1 (fun K hK => ?_)
        try simp only [List.getElem_toArray, List.getElem_cons_succ, List.getElem_cons_zero]
        go_simp
        refine (HT.out w'.drew (HB1.out.trans ((below_drew w').mono HB1.out.size))).mono ?_
        rintro e w3 ⟨rfl, hd3⟩
        have HB3 := Lib.hid ((HB1.out.trans ((below_drew w').mono HB1.out.size)).trans ((below_of_drewN hd3).mono HB1.out.size))
        clear hd3
        go_wp2_with fail
        refine hK.out _ _ trivial (fun hHeld => ?_)
        clear hK K
        try simp only [List.getElem_toArray, List.getElem_cons_succ, List.getElem_cons_zero, Act.put, List.setIfInBounds_toArray, List.set_cons_zero, List.set_cons_succ]
        refine' tk 2 ?_
        try simp only [List.getElem_toArray, List.getElem_cons_succ, List.getElem_cons_zero, Act.put, List.setIfInBounds_toArray, List.set_cons_zero, List.set_cons_succ]
        refine' tr 5 (fun K hK => ?_)
        try simp only [List.getElem_toArray, List.getElem_cons_succ, List.getElem_cons_zero]
        go_simp
        refine (HT2.out _ HB3.out).mono ?_
        rintro e w4 ⟨rfl, hd4⟩
        have HB4 := Lib.hid (HB3.out.trans ((below_of_drewN hd4).mono HB3.out.size))
        clear hd4
        go_wp2_with fail
        refine hK.out _ _ trivial (fun hHeld => ?_)
        clear hK K
        try simp only [List.getElem_toArray, List.getElem_cons_succ, List.getElem_cons_zero, Act.put, List.setIfInBounds_toArray, List.set_cons_zero, List.set_cons_succ]
        refine' tk 6 ?_
        try simp only [List.getElem_toArray, List.getElem_cons_succ, List.getElem_cons_zero, Act.put, List.setIfInBounds_toArray, List.set_cons_zero, List.set_cons_succ]
        refine' tr 9 (fun K hK => ?_)
        try simp only [List.getElem_toArray, List.getElem_cons_succ, List.getElem_cons_zero]
        go_simp
        rw [show IntKind.i64.wrap (IntKind.i64.wrap (100 * T) + T2) = 100 * T + T2 from by rw [IntKind.wrap_i64, IntKind.wrap_i64]; omega]
        refine (HMY.out _ HB4.out).mono ?_
        rintro e w5 ⟨rfl, hd5⟩
        have HB5 := Lib.hid (HB4.out.trans ((below_of_drewN hd5).mono HB4.out.size))
        clear hd5
        cases mo with
        | false =>
          go_wp2_with fail
          refine hK.out _ _ trivial (fun hHeld => ?_)
          clear hK K
          try simp only [List.getElem_toArray, List.getElem_cons_succ, List.getElem_cons_zero, Act.put, List.setIfInBounds_toArray, List.set_cons_zero, List.set_cons_succ]
          refine' tk 10 ?_
          try simp only [List.getElem_toArray, List.getElem_cons_succ, List.getElem_cons_zero, Act.put, List.setIfInBounds_toArray, List.set_cons_zero, List.set_cons_succ]
          refine' ts 11 ?_
          try simp only [List.getElem_toArray, List.getElem_cons_succ, List.getElem_cons_zero, Act.put, List.setIfInBounds_toArray, List.set_cons_zero, List.set_cons_succ]
          refine' ts 12 ?_
          try simp only [List.getElem_toArray, List.getElem_cons_succ, List.getElem_cons_zero, Act.put, List.setIfInBounds_toArray, List.set_cons_zero, List.set_cons_succ]
          refine' ts 13 ?_
          try simp only [List.getElem_toArray, List.getElem_cons_succ, List.getElem_cons_zero, Act.put, List.setIfInBounds_toArray, List.set_cons_zero, List.set_cons_succ]
          refine' ts 14 ?_
          try simp only [List.getElem_toArray, List.getElem_cons_succ, List.getElem_cons_zero, Act.put, List.setIfInBounds_toArray, List.set_cons_zero, List.set_cons_succ]
          refine' ts 15 ?_
          try simp only [List.getElem_toArray, List.getElem_cons_succ, List.getElem_cons_zero, Act.put, List.setIfInBounds_toArray, List.set_cons_zero, List.set_cons_succ]
          refine' trs 16 ?_
          try simp only [List.getElem_toArray, List.getElem_cons_succ, List.getElem_cons_zero, Act.put, List.setIfInBounds_toArray, List.set_cons_zero, List.set_cons_succ]
          refine' ts 17 ?_
          try simp only [List.getElem_toArray, List.getElem_cons_succ, List.getElem_cons_zero, Act.put, List.setIfInBounds_toArray, List.set_cons_zero, List.set_cons_succ]
          refine' tk 18 ?_
          try simp only [List.getElem_toArray, List.getElem_cons_succ, List.getElem_cons_zero, Act.put, List.setIfInBounds_toArray, List.set_cons_zero, List.set_cons_succ]
          refine' tk 19 ?_
          try simp only [List.getElem_toArray, List.getElem_cons_succ, List.getElem_cons_zero, Act.put, List.setIfInBounds_toArray, List.set_cons_zero, List.set_cons_succ]
          refine wpAnyH_done (by kernel_rfl) ?_ _
          clear hHeld
          go_wp2_with fail
          go_ret
          exact ⟨ret_bool (by rw [HP2.out]; rfl), HB5.out⟩
        | true =>
          by_cases h15 : len = 15
          · have hz : (((len - 1 - 14 : Nat) : Int) == 0) = true := by simp; omega
            have d15 := Lib.hid (decide_eq_true h15)
            clear h15
            go_wp2_with fail
            refine hK.out _ _ trivial (fun hHeld => ?_)
            clear hK K
            try simp only [List.getElem_toArray, List.getElem_cons_succ, List.getElem_cons_zero, Act.put, List.setIfInBounds_toArray, List.set_cons_zero, List.set_cons_succ]
            refine' tk 10 ?_
            try simp only [List.getElem_toArray, List.getElem_cons_succ, List.getElem_cons_zero, Act.put, List.setIfInBounds_toArray, List.set_cons_zero, List.set_cons_succ]
            refine' tk 11 ?_
            try simp only [List.getElem_toArray, List.getElem_cons_succ, List.getElem_cons_zero, Act.put, List.setIfInBounds_toArray, List.set_cons_zero, List.set_cons_succ]
            refine' tk 12 ?_
            try simp only [List.getElem_toArray, List.getElem_cons_succ, List.getElem_cons_zero, Act.put, List.setIfInBounds_toArray, List.set_cons_zero, List.set_cons_succ]
            refine' tk 13 ?_
            try simp only [List.getElem_toArray, List.getElem_cons_succ, List.getElem_cons_zero, Act.put, List.setIfInBounds_toArray, List.set_cons_zero, List.set_cons_succ]
            refine' tk 14 ?_
            try simp only [List.getElem_toArray, List.getElem_cons_succ, List.getElem_cons_zero, Act.put, List.setIfInBounds_toArray, List.set_cons_zero, List.set_cons_succ]
            refine' ts 15 ?_
            try simp only [List.getElem_toArray, List.getElem_cons_succ, List.getElem_cons_zero, Act.put, List.setIfInBounds_toArray, List.set_cons_zero, List.set_cons_succ]
            refine' trs 16 ?_
            try simp only [List.getElem_toArray, List.getElem_cons_succ, List.getElem_cons_zero, Act.put, List.setIfInBounds_toArray, List.set_cons_zero, List.set_cons_succ]
            refine' tk 17 ?_
            try simp only [List.getElem_toArray, List.getElem_cons_succ, List.getElem_cons_zero, Act.put, List.setIfInBounds_toArray, List.set_cons_zero, List.set_cons_succ]
            refine' tk 18 ?_
            try simp only [List.getElem_toArray, List.getElem_cons_succ, List.getElem_cons_zero, Act.put, List.setIfInBounds_toArray, List.set_cons_zero, List.set_cons_succ]
            refine' tk 19 ?_
            try simp only [List.getElem_toArray, List.getElem_cons_succ, List.getElem_cons_zero, Act.put, List.setIfInBounds_toArray, List.set_cons_zero, List.set_cons_succ]
            refine wpAnyH_done (by kernel_rfl) ?_ _
            clear hHeld
            go_wp2_with fail
            go_ret
            exact ⟨ret_bool (by rw [HP2.out]; rw [d15.out]; rfl), HB5.out⟩
          · have hz : (((len - 1 - 14 : Nat) : Int) == 0) = false := by simp; omega
            have d15 := Lib.hid (decide_eq_false h15)
            clear h15
            go_wp2_with fail
            refine hK.out _ _ trivial (fun hHeld => ?_)
            clear hK K
            try simp only [List.getElem_toArray, List.getElem_cons_succ, List.getElem_cons_zero, Act.put, List.setIfInBounds_toArray, List.set_cons_zero, List.set_cons_succ]
            refine' tk 10 ?_
            try simp only [List.getElem_toArray, List.getElem_cons_succ, List.getElem_cons_zero, Act.put, List.setIfInBounds_toArray, List.set_cons_zero, List.set_cons_succ]
            refine' tk 11 ?_
            try simp only [List.getElem_toArray, List.getElem_cons_succ, List.getElem_cons_zero, Act.put, List.setIfInBounds_toArray, List.set_cons_zero, List.set_cons_succ]
            refine' tk 12 ?_
            try simp only [List.getElem_toArray, List.getElem_cons_succ, List.getElem_cons_zero, Act.put, List.setIfInBounds_toArray, List.set_cons_zero, List.set_cons_succ]
            refine' tk 13 ?_
            try simp only [List.getElem_toArray, List.getElem_cons_succ, List.getElem_cons_zero, Act.put, List.setIfInBounds_toArray, List.set_cons_zero, List.set_cons_succ]
            refine' tk 14 ?_
            try simp only [List.getElem_toArray, List.getElem_cons_succ, List.getElem_cons_zero, Act.put, List.setIfInBounds_toArray, List.set_cons_zero, List.set_cons_succ]
            refine' tk 15 ?_
            try simp only [List.getElem_toArray, List.getElem_cons_succ, List.getElem_cons_zero, Act.put, List.setIfInBounds_toArray, List.set_cons_zero, List.set_cons_succ]
            refine' tr 16 (fun K hK => ?_)
            try simp only [List.getElem_toArray, List.getElem_cons_succ, List.getElem_cons_zero]
            go_simp
            refine (HPA.out _ HB5.out).mono ?_
            rintro e w6 ⟨rfl, hb6⟩
            have HB6 := Lib.hid (HB5.out.trans (hb6.mono HB5.out.size))
            clear hb6
            go_wp2_with fail
            refine hK.out _ _ trivial (fun hHeld => ?_)
            clear hK K
            try simp only [List.getElem_toArray, List.getElem_cons_succ, List.getElem_cons_zero, Act.put, List.setIfInBounds_toArray, List.set_cons_zero, List.set_cons_succ]
            refine' tk 17 ?_
            try simp only [List.getElem_toArray, List.getElem_cons_succ, List.getElem_cons_zero, Act.put, List.setIfInBounds_toArray, List.set_cons_zero, List.set_cons_succ]
            refine' tk 18 ?_
            try simp only [List.getElem_toArray, List.getElem_cons_succ, List.getElem_cons_zero, Act.put, List.setIfInBounds_toArray, List.set_cons_zero, List.set_cons_succ]
            refine' tk 19 ?_
            try simp only [List.getElem_toArray, List.getElem_cons_succ, List.getElem_cons_zero, Act.put, List.setIfInBounds_toArray, List.set_cons_zero, List.set_cons_succ]
            refine wpAnyH_done (by kernel_rfl) ?_ _
            clear hHeld
            go_wp2_with fail
            go_ret
            exact ⟨ret_bool (by rw [HP2.out]; rw [d15.out]; simp), HB6.out⟩

    · have HP3 := Lib.hid (show timeB l = false by rw [HP.out, decide_eq_false h46]; rfl)
      have g46 : ((u : Int) != 90) = true := by simp; omega
      clear h46 HP
      go_enter Tryd.func85, Tryd.ntmps85
      go_wp2_with fail
      go_big_quiet (fail)
      go_wp2_with fail
      go_ret
      exact ⟨ret_bool HP3.out.symm, below_of_drewN ⟨nq, rfl⟩⟩
  · have HP3 := Lib.hid (show timeB l = false by unfold timeB; rw [hl.out, decide_eq_false h1]; rfl)
    have g1 : decide ((len : Int) < 15) = true := decide_eq_true (by omega)
    clear h1 h
    go_enter Tryd.func85, Tryd.ntmps85
    go_wp2_with fail
    go_big_quiet (fail)
    go_wp2_with fail
    go_ret
    exact ⟨ret_bool HP3.out.symm, below_of_drewN ⟨nq, rfl⟩⟩

end Go.Proofs.YtkmphiakciihfaaDoor
