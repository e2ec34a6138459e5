/-
  THE LAW OctetOrder.
-/
import Derived.Test.YtidiapdddkknpaaOctB
namespace Go.Proofs.Ytidiapdddkknpaa
open Go.RowKit

theorem cmp_cons (x y : UInt8) (a b : List UInt8) : Lib.compareBytes (x :: a) (y :: b) = if x < y then -1 else if y < x then 1 else Lib.compareBytes a b := rfl

theorem cmp_self : ∀ a : List UInt8, Lib.compareBytes a a = 0
  | [] => rfl
  | x :: a => by rw [cmp_cons, if_neg (UInt8.lt_irrefl x), if_neg (UInt8.lt_irrefl x), cmp_self a]

theorem cmp_tri : ∀ a b : List UInt8, Lib.compareBytes a b = -1 ∨ Lib.compareBytes a b = 0 ∨ Lib.compareBytes a b = 1
  | [], [] => .inr (.inl rfl)
  | [], _ :: _ => .inl rfl
  | _ :: _, [] => .inr (.inr rfl)
  | x :: a, y :: b => by
    rw [cmp_cons]
    have := cmp_tri a b
    split
    · exact .inl rfl
    · split
      · exact .inr (.inr rfl)
      · exact this

theorem cmp_anti : ∀ a b : List UInt8, Lib.compareBytes b a = -Lib.compareBytes a b
  | [], [] => rfl
  | [], _ :: _ => rfl
  | _ :: _, [] => rfl
  | x :: a, y :: b => by
    rw [cmp_cons, cmp_cons]
    have := cmp_anti a b
    simp only [UInt8.lt_iff_toNat_lt]
    split
    · rw [if_neg (by omega)]
    · split
      · rfl
      · exact this

theorem cmp_eq : ∀ a b : List UInt8, Lib.compareBytes a b = 0 → a = b
  | [], [], _ => rfl
  | [], _ :: _, h => by cases h
  | _ :: _, [], h => by cases h
  | x :: a, y :: b, h => by
    rw [cmp_cons] at h
    simp only [UInt8.lt_iff_toNat_lt] at h
    split at h
    · cases h
    · split at h
      · cases h
      · rw [cmp_eq a b h, UInt8.toNat_inj.1 (by omega : x.toNat = y.toNat)]

theorem cmp_trans : ∀ a b c : List UInt8, Lib.compareBytes a b = -1 → Lib.compareBytes b c = -1 → Lib.compareBytes a c = -1
  | [], [], _, h, _ => by cases h
  | [], _ :: _, [], _, h => by cases h
  | [], _ :: _, _ :: _, _, _ => rfl
  | _ :: _, [], _, h, _ => by cases h
  | _ :: _, _ :: _, [], _, h => by cases h
  | x :: a, y :: b, z :: c, h1, h2 => by
    rw [cmp_cons] at h1 h2 ⊢
    simp only [UInt8.lt_iff_toNat_lt] at *
    have := cmp_trans a b c
    split at h1
    · split at h2
      · rw [if_pos (by omega)]
      · split at h2
        · cases h2
        · rw [if_pos (by omega)]
    · split at h1
      · cases h1
      · split at h2
        · rw [if_pos (by omega)]
        · split at h2
          · cases h2
          · rw [if_neg (by omega), if_neg (by omega)]; exact this h1 h2

theorem cmp_whole : ∀ a b : List UInt8, a.length = b.length → Lib.compareBytes a b = -1 → wholeL a < wholeL b
  | [], [], _, h => by cases h
  | [], _ :: _, h, _ => by cases h
  | _ :: _, [], h, _ => by cases h
  | x :: a, y :: b, hl, h => by
    have hl' : a.length = b.length := by simpa using hl
    have h1 := wholeL_append [x] a
    have h2 := wholeL_append [y] b
    have h3 : wholeL [x] = x.toNat := by simp [wholeL]
    have h4 : wholeL [y] = y.toNat := by simp [wholeL]
    have h5 := wholeL_lt a
    rw [show [x] ++ a = x :: a from rfl, h3] at h1
    rw [show [y] ++ b = y :: b from rfl, h4, ← hl'] at h2
    rw [cmp_cons] at h
    simp only [UInt8.lt_iff_toNat_lt] at h
    split at h
    · rename_i hlt
      have := Nat.mul_le_mul_right (256 ^ a.length) (show x.toNat + 1 ≤ y.toNat from hlt)
      rw [Nat.add_mul, Nat.one_mul] at this
      omega
    · split at h
      · cases h
      · have := cmp_whole a b hl' h
        have e : x.toNat = y.toNat := by omega
        rw [e] at h1
        omega

theorem strOf_ne {A B : List UInt8} (h : A ≠ B) : ((strOf A).toList == (strOf B).toList) = false := by
  rw [ByteArray.toList_eq, ByteArray.toList_eq]
  simpa [strOf] using h

theorem wcases (A : List UInt8) : (wErr A = 10 ∧ wVal A = 0) ∨ (wErr A = 0 ∧ wVal A = (wholeL A : Int)) := by
  by_cases h : 8 < (bareL A).length
  · exact .inl ⟨if_pos h, if_pos h⟩
  · exact .inr ⟨if_neg h, if_neg h⟩

set_option maxHeartbeats 4000000 in
theorem order_main (a b c : Option Addr) (ca cb cc : Nat) (A B C : List UInt8) (w : World) (ha : Bts w a A.length ca A) (hb : Bts w b B.length cb B) (hc : Bts w c C.length cc C) (hA : A.length ≤ 2000) (hB : B.length ≤ 2000) (hC : C.length ≤ 2000) :
    Calls Try.prog 9 #[.slice a A.length ca, .slice b B.length cb, .slice c C.length cc] w fun e w' => e = .returned (.bool true) ∧ Below w.heap.size w w' := by
  have HA := Lib.hid ha
  have HB := Lib.hid hb
  have HC := Lib.hid hc
  have PA := Lib.hid (cmp_anti A B)
  have PE := Lib.hid (cmp_eq A B)
  have PT := Lib.hid (cmp_trans A B C)
  have PW := Lib.hid (cmp_whole A B)
  have PW2 := Lib.hid (cmp_whole B A)
  have tAB := cmp_tri A B
  have tBC := Lib.hid (cmp_tri B C)
  have tBA := Lib.hid (cmp_tri A C)
  clear ha hb hc
  go_enter Try.func9, Try.ntmps9
  go_wp2_with fail
  refine (alive_any _).mono ?_
  rintro e1 w1 ⟨rfl, hb1⟩
  have h01 := Lib.hid hb1
  have ka := conv8 (HA.out.below hb1)
  have kb := conv8 (HB.out.below hb1)
  have KA := Lib.hid ka
  have KB := Lib.hid kb
  clear hb1 ka kb
  go_wp2_with fail
  refine (cmp_any _ _ _ _ _ _ A B _ (HA.out.below h01.out) (HB.out.below h01.out)).mono ?_
  rintro e w' ⟨rfl, rfl⟩
  go_wp2_with fail
  refine (cmp_any _ _ _ _ _ _ B C _ (HB.out.below h01.out) (HC.out.below h01.out)).mono ?_
  rintro e w' ⟨rfl, rfl⟩
  go_wp2_with fail
  refine (cmp_any _ _ _ _ _ _ A C _ (HA.out.below h01.out) (HC.out.below h01.out)).mono ?_
  rintro e w' ⟨rfl, rfl⟩
  go_wp2_with fail
  refine (cmp_any _ _ _ _ _ _ B A _ (HB.out.below h01.out) (HA.out.below h01.out)).mono ?_
  rintro e w' ⟨rfl, rfl⟩
  rw [PA.out]
  have hwa := Lib.hid (whole_any a A.length ca A w1 (HA.out.below h01.out))
  have hwb := Lib.hid (whole_any b B.length cb B w1 (HB.out.below h01.out))
  rcases tAB with hP | hP | hP
  · have hne : A ≠ B := fun e => by subst e; rw [cmp_self] at hP; cases hP
    have sne := strOf_ne hne
    rw [hP]
    have HP := Lib.hid hP
    have ka := KA.out
    have kb := KB.out
    clear hne
    rcases tBC.out with hQ | hQ | hQ
    · rw [hQ, PT.out HP.out hQ]
      clear hQ hP
      go_wp2_with fail
      refine hwa.out.mono ?_
      rintro e w' ⟨he, rfl⟩
      obtain rfl := he.form
      clear he
      go_wp2_with fail
      refine hwb.out.mono ?_
      rintro e w' ⟨he, rfl⟩
      obtain rfl := he.form
      clear he
      clear ka kb
      by_cases hlen : A.length = B.length
      · have hr := PW.out hlen HP.out
        rcases wcases A with ⟨e1, e2⟩ | ⟨e1, e2⟩
        · rw [e1, e2]
          clear e1 e2 hr
          go_wp2
          go_ret
          exact ⟨rfl, h01.out⟩
        · rw [e1, e2]
          clear e1 e2
          rcases wcases B with ⟨e1, e2⟩ | ⟨e1, e2⟩
          · rw [e1, e2]
            clear e1 e2 hr
            go_wp2
            go_ret
            exact ⟨rfl, h01.out⟩
          · rw [e1, e2]
            clear e1 e2
            generalize wholeL A = p at *
            generalize wholeL B = q at *
            have d1 : decide ((p : Int) < (q : Int)) = true := by simp; omega
            have d2 : decide ((q : Int) < (p : Int)) = false := by simp; omega
            go_wp2
            go_ret
            exact ⟨by simp; omega, h01.out⟩
      · have hne2 : ((A.length : Int) != (B.length : Int)) = true := by simp; omega
        clear hlen
        go_wp2
        go_ret
        exact ⟨rfl, h01.out⟩
    · rw [hQ]
      clear hQ hP
      generalize Lib.compareBytes A C = r at *
      go_wp2_with fail
      refine hwa.out.mono ?_
      rintro e w' ⟨he, rfl⟩
      obtain rfl := he.form
      clear he
      go_wp2_with fail
      refine hwb.out.mono ?_
      rintro e w' ⟨he, rfl⟩
      obtain rfl := he.form
      clear he
      clear ka kb
      by_cases hlen : A.length = B.length
      · have hr := PW.out hlen HP.out
        rcases wcases A with ⟨e1, e2⟩ | ⟨e1, e2⟩
        · rw [e1, e2]
          clear e1 e2 hr
          go_wp2
          go_ret
          exact ⟨rfl, h01.out⟩
        · rw [e1, e2]
          clear e1 e2
          rcases wcases B with ⟨e1, e2⟩ | ⟨e1, e2⟩
          · rw [e1, e2]
            clear e1 e2 hr
            go_wp2
            go_ret
            exact ⟨rfl, h01.out⟩
          · rw [e1, e2]
            clear e1 e2
            generalize wholeL A = p at *
            generalize wholeL B = q at *
            have d1 : decide ((p : Int) < (q : Int)) = true := by simp; omega
            have d2 : decide ((q : Int) < (p : Int)) = false := by simp; omega
            go_wp2
            go_ret
            exact ⟨by simp; omega, h01.out⟩
      · have hne2 : ((A.length : Int) != (B.length : Int)) = true := by simp; omega
        clear hlen
        go_wp2
        go_ret
        exact ⟨rfl, h01.out⟩
    · rw [hQ]
      clear hQ hP
      generalize Lib.compareBytes A C = r at *
      go_wp2_with fail
      refine hwa.out.mono ?_
      rintro e w' ⟨he, rfl⟩
      obtain rfl := he.form
      clear he
      go_wp2_with fail
      refine hwb.out.mono ?_
      rintro e w' ⟨he, rfl⟩
      obtain rfl := he.form
      clear he
      clear ka kb
      by_cases hlen : A.length = B.length
      · have hr := PW.out hlen HP.out
        rcases wcases A with ⟨e1, e2⟩ | ⟨e1, e2⟩
        · rw [e1, e2]
          clear e1 e2 hr
          go_wp2
          go_ret
          exact ⟨rfl, h01.out⟩
        · rw [e1, e2]
          clear e1 e2
          rcases wcases B with ⟨e1, e2⟩ | ⟨e1, e2⟩
          · rw [e1, e2]
            clear e1 e2 hr
            go_wp2
            go_ret
            exact ⟨rfl, h01.out⟩
          · rw [e1, e2]
            clear e1 e2
            generalize wholeL A = p at *
            generalize wholeL B = q at *
            have d1 : decide ((p : Int) < (q : Int)) = true := by simp; omega
            have d2 : decide ((q : Int) < (p : Int)) = false := by simp; omega
            go_wp2
            go_ret
            exact ⟨by simp; omega, h01.out⟩
      · have hne2 : ((A.length : Int) != (B.length : Int)) = true := by simp; omega
        clear hlen
        go_wp2
        go_ret
        exact ⟨rfl, h01.out⟩
  · have hAB := PE.out hP
    rw [hP]
    clear hP
    have ka := KA.out
    have kb := KB.out
    rw [show Lib.compareBytes B C = Lib.compareBytes A C from by rw [hAB]]
    rw [show strOf B = strOf A from by rw [hAB]] at kb
    generalize Lib.compareBytes A C = r at *
    have HAB := Lib.hid hAB
    clear hAB
    go_wp2_with fail
    refine hwa.out.mono ?_
    rintro e w' ⟨he, rfl⟩
    obtain rfl := he.form
    clear he
    go_wp2_with fail
    refine hwb.out.mono ?_
    rintro e w' ⟨he, rfl⟩
    obtain rfl := he.form
    clear he
    clear ka kb
    by_cases hlen : A.length = B.length
    · have hr := Lib.hid (show wholeL A = wholeL B by rw [HAB.out])
      rcases wcases A with ⟨e1, e2⟩ | ⟨e1, e2⟩
      · rw [e1, e2]
        clear e1 e2 hr
        go_wp2
        go_ret
        exact ⟨rfl, h01.out⟩
      · rw [e1, e2]
        clear e1 e2
        rcases wcases B with ⟨e1, e2⟩ | ⟨e1, e2⟩
        · rw [e1, e2]
          clear e1 e2 hr
          go_wp2
          go_ret
          exact ⟨rfl, h01.out⟩
        · rw [e1, e2]
          clear e1 e2
          generalize wholeL A = p at *
          generalize wholeL B = q at *
          obtain rfl := hr.out
          go_wp2
          go_ret
          exact ⟨rfl, h01.out⟩
    · have hne2 : ((A.length : Int) != (B.length : Int)) = true := by simp; omega
      clear hlen
      go_wp2
      go_ret
      exact ⟨rfl, h01.out⟩
  · have hne : A ≠ B := fun e => by subst e; rw [cmp_self] at hP; cases hP
    have sne := strOf_ne hne
    have HP := Lib.hid (show Lib.compareBytes B A = -1 by rw [PA.out, hP])
    rw [hP]
    have ka := KA.out
    have kb := KB.out
    clear hne hP
    generalize Lib.compareBytes A C = r at *
    generalize Lib.compareBytes B C = r2 at *
    go_wp2_with fail
    refine hwa.out.mono ?_
    rintro e w' ⟨he, rfl⟩
    obtain rfl := he.form
    clear he
    go_wp2_with fail
    refine hwb.out.mono ?_
    rintro e w' ⟨he, rfl⟩
    obtain rfl := he.form
    clear he
    clear ka kb
    by_cases hlen : A.length = B.length
    · have hr := PW2.out hlen.symm HP.out
      rcases wcases A with ⟨e1, e2⟩ | ⟨e1, e2⟩
      · rw [e1, e2]
        clear e1 e2 hr
        go_wp2
        go_ret
        exact ⟨rfl, h01.out⟩
      · rw [e1, e2]
        clear e1 e2
        rcases wcases B with ⟨e1, e2⟩ | ⟨e1, e2⟩
        · rw [e1, e2]
          clear e1 e2 hr
          go_wp2
          go_ret
          exact ⟨rfl, h01.out⟩
        · rw [e1, e2]
          clear e1 e2
          generalize wholeL A = p at *
          generalize wholeL B = q at *
          have d1 : decide ((p : Int) < (q : Int)) = false := by simp; omega
          have d2 : decide ((q : Int) < (p : Int)) = true := by simp; omega
          go_wp2
          go_ret
          exact ⟨by simp; omega, h01.out⟩
    · have hne2 : ((A.length : Int) != (B.length : Int)) = true := by simp; omega
      clear hlen
      go_wp2
      go_ret
      exact ⟨rfl, h01.out⟩

set_option maxHeartbeats 400000 in
/-- THE WHOLE LAW: any three. -/
theorem order_walk (a b c : Option Addr) (la ca lb cb lc cc : Nat) (A B C : List UInt8) (w : World) (ha : Bts w a la ca A) (hb : Bts w b lb cb B) (hc : Bts w c lc cc C) :
    Calls Try.prog 9 #[.slice a la ca, .slice b lb cb, .slice c lc cc] w fun e w' => e = .returned (.bool true) ∧ Below w.heap.size w w' := by
  have hm1 := ha.len_le
  have hm2 := hb.len_le
  have hm3 := hc.len_le
  unfold maxLen at hm1 hm2 hm3
  by_cases h1 : la ≤ 2000
  · by_cases h2 : lb ≤ 2000
    · by_cases h3 : lc ≤ 2000
      · obtain rfl := ha.length
        obtain rfl := hb.length
        obtain rfl := hc.length
        exact order_main a b c ca cb cc A B C w ha hb hc h1 h2 h3
      · have h4 : 2000 < lc := by omega
        clear h3 ha hb hc
        go_enter Try.func9, Try.ntmps9
        go_wp2_with fail
        refine (alive_any _).mono ?_
        rintro e1 w1 ⟨rfl, hb1⟩
        go_wp2_with fail
        go_ret
        exact ⟨rfl, hb1⟩
    · have h4 : 2000 < lb := by omega
      clear h2 ha hb hc
      go_enter Try.func9, Try.ntmps9
      go_wp2_with fail
      refine (alive_any _).mono ?_
      rintro e1 w1 ⟨rfl, hb1⟩
      go_wp2_with fail
      go_ret
      exact ⟨rfl, hb1⟩
  · have h4 : 2000 < la := by omega
    clear h1 ha hb hc
    go_enter Try.func9, Try.ntmps9
    go_wp2_with fail
    refine (alive_any _).mono ?_
    rintro e1 w1 ⟨rfl, hb1⟩
    go_wp2_with fail
    go_ret
    exact ⟨rfl, hb1⟩

end Go.Proofs.Ytidiapdddkknpaa
