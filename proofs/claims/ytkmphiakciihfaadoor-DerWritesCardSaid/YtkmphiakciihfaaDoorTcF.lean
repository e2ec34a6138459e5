/-
  WHAT THE BYTES OF A TAG HAVE TO BE: a short time.
-/
import Derived.Test.YtkmphiakciihfaaDoorTcE
namespace Go.Proofs.YtkmphiakciihfaaDoor
open Go.RowKit

theorem gN_take {l : List Nat} {n i : Nat} (h : i < n) : gN (l.take n) i = gN l i := by unfold gN; rw [List.getElem?_take, if_pos h]
theorem digs_take {l : List Nat} {n : Nat} (hn : n ≤ l.length) (h : (l.take n).all digB = true) : Digs l n := fun i hi => by
  have := digs_all h i (by rw [List.length_take]; omega)
  rwa [gN_take hi] at this

def yearT (t : Int) : Int := if t < 50 then 1900 + t + 100 else 1900 + t
def shortB (l : List Nat) : Bool := decide (l.length = 13) && decide (gN l 12 = 90) && (l.take 12).all digB && momB (yearT (twoN l)) (l.drop 2)

set_option maxHeartbeats 4000000 in
set_option maxRecDepth 100000 in
theorem short_any (a : Option Addr) (len cap : Nat) (l : List Nat) (w : World) (h : Reads .u8 w a len cap l) (hx : ∀ x ∈ l, x < 256) :
    Calls Tryd.prog 84 #[.slice a len cap] w fun e w' => e = .returned (.bool (shortB l)) ∧ Below w.heap.size w w' := by
  have hm := h.len_le
  have hmx := h.max
  have hle := h.le
  unfold maxLen at hm hmx
  have hl := Lib.hid h.length
  by_cases h1 : len = 13
  · subst h1
    obtain ⟨b, off, rfl, hlt, hc⟩ := h.cells (by omega)
    have c0 := hc 12 (by omega)
    have x0 := gN_lt hx 12
    have HP := Lib.hid (show shortB l = (decide (gN l 12 = 90) && (l.take 12).all digB && momB (yearT (twoN l)) (l.drop 2)) by unfold shortB; rw [hl.out, decide_eq_true rfl, Bool.true_and])
    have e0 : (l[12]?.getD 0) = gN l 12 := rfl
    simp only [e0] at c0
    have HR := Lib.hid h
    have HRT := Lib.hid (h.upto 12 (by omega))
    have HX := Lib.hid (show ∀ x ∈ l.take 12, x < 256 from fun x hx' => hx x (List.mem_of_mem_take hx'))
    have HBL := Lib.hid hlt
    have i12 : (12 : Int) ≤ (cap : Int) := by omega
    clear hc e0 h hx
    generalize gN l 12 = u at *
    by_cases h46 : u = 90
    · subst h46
      obtain ⟨al, hal⟩ : ∃ al, (l.take 12).all digB = al := ⟨_, rfl⟩
      have HAL := Lib.hid hal
      rw [hal] at HP
      clear hal
      go_enter Tryd.func84, Tryd.ntmps84
      go_wp2_with fail
      refine wp_region_held_drew (S := fun W => W.cell? ⟨b, off + 12, none⟩ = some (.int .u8 (90 : Nat))) (by kernel_rfl) c0 (fun hHeld => ?_)

      refine' tk 0 ?_
      try simp only [List.getElem_toArray, List.getElem_cons_succ, List.getElem_cons_zero, Act.put, List.setIfInBounds_toArray, List.set_cons_zero, List.set_cons_succ]
      refine' tk 1 ?_
      try simp only [List.getElem_toArray, List.getElem_cons_succ, List.getElem_cons_zero, Act.put, List.setIfInBounds_toArray, List.set_cons_zero, List.set_cons_succ]
      refine' tk 2 ?_
      try simp only [List.getElem_toArray, List.getElem_cons_succ, List.getElem_cons_zero, Act.put, List.setIfInBounds_toArray, List.set_cons_zero, List.set_cons_succ]
      refine' tk 3 ?_
      try simp only [List.getElem_toArray, List.getElem_cons_succ, List.getElem_cons_zero, Act.put, List.setIfInBounds_toArray, List.set_cons_zero, List.set_cons_succ]
      refine' tk 4 ?_
      try simp only [List.getElem_toArray, List.getElem_cons_succ, List.getElem_cons_zero, Act.put, List.setIfInBounds_toArray, List.set_cons_zero, List.set_cons_succ]
      refine' tk 5 ?_
      try simp only [List.getElem_toArray, List.getElem_cons_succ, List.getElem_cons_zero, Act.put, List.setIfInBounds_toArray, List.set_cons_zero, List.set_cons_succ]
      refine' tk 6 ?_
      try simp only [List.getElem_toArray, List.getElem_cons_succ, List.getElem_cons_zero, Act.put, List.setIfInBounds_toArray, List.set_cons_zero, List.set_cons_succ]
      refine' tk 7 ?_
      try simp only [List.getElem_toArray, List.getElem_cons_succ, List.getElem_cons_zero, Act.put, List.setIfInBounds_toArray, List.set_cons_zero, List.set_cons_succ]
      refine' tk 8 ?_
      try simp only [List.getElem_toArray, List.getElem_cons_succ, List.getElem_cons_zero, Act.put, List.setIfInBounds_toArray, List.set_cons_zero, List.set_cons_succ]
      refine' tk 9 ?_
      try simp only [List.getElem_toArray, List.getElem_cons_succ, List.getElem_cons_zero, Act.put, List.setIfInBounds_toArray, List.set_cons_zero, List.set_cons_succ]
      refine' tk 11 ?_
      try simp only [List.getElem_toArray, List.getElem_cons_succ, List.getElem_cons_zero, Act.put, List.setIfInBounds_toArray, List.set_cons_zero, List.set_cons_succ]
      refine' tk 12 ?_
      try simp only [List.getElem_toArray, List.getElem_cons_succ, List.getElem_cons_zero, Act.put, List.setIfInBounds_toArray, List.set_cons_zero, List.set_cons_succ]
      refine' tr 10 (fun K hK => ?_)
      try simp only [List.getElem_toArray, List.getElem_cons_succ, List.getElem_cons_zero]
      go_simp
      obtain ⟨w1, hw1⟩ : ∃ u, w.drew.alloc (.cells #[.func (.func 97) #[] #[]] 102) = u := ⟨_, rfl⟩
      have hb1 : Below w.heap.size w w1 := by rw [← hw1]; exact (below_drew w).alloc (Nat.le_refl _) _
      have hbox : w1.cell? ⟨w.heap.size, 0, none⟩ = some (.func (.func 97) #[] #[]) := by rw [← hw1]; exact (Boxed.new w.drew 102 (.func (.func 97) #[] #[])).cell
      refine (eachf_any 97 w.drew).mono ?_
      rintro e w' ⟨rfl, hw'⟩
      obtain rfl : w' = w1 := hw'.trans hw1
      have c0 := (hb1.cell (p := ⟨b, off + 12, none⟩) HBL.out).trans c0
      have HE := Lib.hid (each_any 97 digB (enters_of Tryd.func97 (by kernel_rfl) rfl) dig_ok _ _ _ _ w' w.heap.size hbox (HRT.out.below hb1) HX.out)
      have HB1 := Lib.hid hb1
      rw [HAL.out] at HE
      clear hw1 hb1 hbox hw'
      go_wp2_with fail
      refine hK.out _ _ c0 (fun hHeld => ?_)
      clear hK K
      try simp only [List.getElem_toArray, List.getElem_cons_succ, List.getElem_cons_zero, Act.put, List.setIfInBounds_toArray, List.set_cons_zero, List.set_cons_succ]
      refine' tr 13 (fun K hK => ?_)
      try simp only [List.getElem_toArray, List.getElem_cons_succ, List.getElem_cons_zero]
      go_simp
      refine HE.out.mono ?_
      rintro e w2 ⟨rfl, hw2⟩
      obtain rfl : w' = w2 := hw2.symm
      clear HE
      cases al with
      | false =>
        go_wp2_with fail
        refine hK.out _ _ c0 (fun hHeld => ?_)
        clear hK K
        try simp only [List.getElem_toArray, List.getElem_cons_succ, List.getElem_cons_zero, Act.put, List.setIfInBounds_toArray, List.set_cons_zero, List.set_cons_succ]
        refine' tk 14 ?_
        try simp only [List.getElem_toArray, List.getElem_cons_succ, List.getElem_cons_zero, Act.put, List.setIfInBounds_toArray, List.set_cons_zero, List.set_cons_succ]
        refine' tk 15 ?_
        try simp only [List.getElem_toArray, List.getElem_cons_succ, List.getElem_cons_zero, Act.put, List.setIfInBounds_toArray, List.set_cons_zero, List.set_cons_succ]
        refine wpAnyH_done (by kernel_rfl) ?_ _
        clear hHeld c0
        go_wp2_with fail
        go_ret
        exact ⟨ret_bool (by rw [HP.out]; rfl), HB1.out⟩
      | true =>
        have hd12 := digs_take (n := 12) (by rw [hl.out]; decide) HAL.out
        have HT := Lib.hid (fun W (hb : Below w.heap.size w W) => two_at0 (HR.out.below hb) (by decide) (fun i hi => hd12 i (by omega)))
        have htl := twoN_lt (fun i hi => hd12 i (by omega) : Digs l 2)
        have HMO := Lib.hid (fun (y : Int) (h1 : 0 ≤ y) (h2 : y ≤ 100000) W (hb : Below w.heap.size w W) => moment_any y h1 h2 _ _ _ _ W ((HR.out.below hb).dropT (k := 2) (by decide)) (by decide) (hd12.drop (m := 10) (by decide)))
        have HP2 := Lib.hid (show shortB l = momB (yearT (twoN l)) (l.drop 2) by rw [HP.out]; rfl)
        have HYT := Lib.hid (show yearT (twoN l) = if twoN l < 50 then 1900 + twoN l + 100 else 1900 + twoN l from rfl)
        have hcn : ¬ cap = 2 := by omega
        clear hd12 HP
        generalize twoN l = T at *
        obtain ⟨t0, t1⟩ := htl
        go_wp2_with fail
        refine hK.out _ _ c0 (fun hHeld => ?_)
        clear hK K
        try simp only [List.getElem_toArray, List.getElem_cons_succ, List.getElem_cons_zero, Act.put, List.setIfInBounds_toArray, List.set_cons_zero, List.set_cons_succ]
        refine' tk 14 ?_
        try simp only [List.getElem_toArray, List.getElem_cons_succ, List.getElem_cons_zero, Act.put, List.setIfInBounds_toArray, List.set_cons_zero, List.set_cons_succ]
        refine' tk 15 ?_
        try simp only [List.getElem_toArray, List.getElem_cons_succ, List.getElem_cons_zero, Act.put, List.setIfInBounds_toArray, List.set_cons_zero, List.set_cons_succ]
        refine wpAnyH_done (by kernel_rfl) ?_ _
        clear hHeld c0
        go_wp2_with fail
        refine (HT.out _ HB1.out).mono ?_
        rintro e w3 ⟨rfl, hd3⟩
        have HB3 := Lib.hid (HB1.out.trans ((below_of_drewN hd3).mono HB1.out.size))
        clear hd3
        go_wp2_with fail
        refine (HT.out _ HB3.out).mono ?_
        rintro e w4 ⟨rfl, hd4⟩
        have HB4 := Lib.hid (HB3.out.trans ((below_of_drewN hd4).mono HB3.out.size))
        clear hd4
        by_cases h50 : T < 50
        · have HYE := Lib.hid (show yearT T = 1900 + T + 100 by rw [HYT.out]; rw [if_pos h50])
          go_wp2_with fail
          refine (HMO.out (1900 + T + 100) (by omega) (by omega) _ HB4.out).mono ?_
          rintro e w5 ⟨rfl, hd5⟩
          have HB5 := Lib.hid (HB4.out.trans ((below_of_drewN hd5).mono HB4.out.size))
          clear hd5
          go_wp2_with fail
          go_ret
          exact ⟨ret_bool (by rw [HP2.out, HYE.out]), HB5.out⟩
        · have HYE := Lib.hid (show yearT T = 1900 + T by rw [HYT.out]; rw [if_neg h50])
          go_wp2_with fail
          refine (HMO.out (1900 + T) (by omega) (by omega) _ HB4.out).mono ?_
          rintro e w5 ⟨rfl, hd5⟩
          have HB5 := Lib.hid (HB4.out.trans ((below_of_drewN hd5).mono HB4.out.size))
          clear hd5
          go_wp2_with fail
          go_ret
          exact ⟨ret_bool (by rw [HP2.out, HYE.out]), HB5.out⟩

    · have HP3 := Lib.hid (show shortB l = false by rw [HP.out, decide_eq_false h46]; rfl)
      have g46 : ((u : Int) != 90) = true := by simp; omega
      clear h46 HP
      go_enter Tryd.func84, Tryd.ntmps84
      go_wp2_with fail
      go_big_quiet (fail)
      go_wp2_with fail
      go_ret
      exact ⟨ret_bool HP3.out.symm, below_of_drewN ⟨nq, rfl⟩⟩
  · have HP3 := Lib.hid (show shortB l = false by unfold shortB; rw [hl.out, decide_eq_false h1]; rfl)
    have g1 : ((len : Int) != 13) = true := by simp; omega
    clear h1 h
    go_enter Tryd.func84, Tryd.ntmps84
    go_wp2_with fail
    go_big_quiet (fail)
    go_wp2_with fail
    go_ret
    exact ⟨ret_bool HP3.out.symm, below_of_drewN ⟨nq, rfl⟩⟩

end Go.Proofs.YtkmphiakciihfaaDoor
