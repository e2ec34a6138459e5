/-
  RATIO's Div AND Mod, OF ANY TWO NATURALS.
-/
import Derived.Test.YtebfoalcmnpghaaDivF
namespace Go.Proofs.Ytebfoalcmnpghaa
open Go.RowKit

theorem NatAt.slice {w : World} {v : Value} {n : Nat} (h : NatAt w v n) : ∃ a len cap, v = .slice a len cap := by
  obtain ⟨a, len, cap, l, rfl, _⟩ := h
  exact ⟨a, len, cap, rfl⟩

theorem ownNil (E B : Nat) (w : World) : OwnQ .u32 E B w (.slice none 0 0) [] := OwnQ.nil _ _ _ _
theorem ret3 {v1 v2 v3 u1 u2 u3 : Value} (h1 : v1 = u1) (h2 : v2 = u2) (h3 : v3 = u3) : Ending.returned (.tuple #[v1, v2, v3]) = .returned (.tuple #[u1, u2, u3]) := by subst h1 h2 h3; rfl

set_option maxRecDepth 100000 in
set_option maxHeartbeats 1000000 in
theorem div_any (x y : Value) (X Y : Nat) (w : World) (hx : NatAt w x X) (hy : NatAt w y Y) :
    Calls Try.prog 59 #[x, y] w fun e w' => DivRets w.heap.size w' (divR X Y) e ∧ Below w.heap.size w w' := by
  have NX := Lib.hid hx
  have NY := Lib.hid hy
  clear hx hy
  by_cases hX : X < topN
  · by_cases hY : Y < topN
    · have HX := Lib.hid hX
      have HY := Lib.hid hY
      clear hX hY
      rcases Nat.eq_zero_or_pos Y with h0 | h0
      · have hr := Lib.hid (show divR X Y = ([], [], 60) by rw [h0]; exact divR_zero HX.out)
        have HZ := Lib.hid h0
        clear h0
        go_enter Try.func59, Try.ntmps59
        go_wp2_with fail
        refine (trim_ok NX.out HX.out).mono ?_
        rintro e w1 ⟨⟨v1, rfl, ho1⟩, hb1⟩
        obtain ⟨a1, n1, c1, rfl, hn1, ho1⟩ := ho1.slice
        have B1 := Lib.hid hb1
        have NY1 := Lib.hid (NY.out.below hb1)
        clear ho1 hb1 hn1
        go_wp2_with fail
        refine (trim_ok NY1.out HY.out).mono ?_
        rintro e w2 ⟨⟨v2, rfl, ho2⟩, hb2⟩
        obtain ⟨a2, n2, c2, rfl, hn2, -⟩ := ho2.slice
        obtain rfl : n2 = 0 := by rw [hn2, HZ.out, show nat32 0 = [] from natB_zero _]; rfl
        have B2 := Lib.hid (B1.out.trans (hb2.mono B1.out.size))
        clear ho2 hb2 hn2
        go_wp2_with fail
        refine bodyPost_ret (v := .tuple #[.slice none 0 0, .slice none 0 0, .int .i64 60]) (by simp [results, Try.results59, go_sem]) rfl ⟨?_, B2.out⟩
        rw [hr.out]
        exact ⟨_, _, rfl, ownNil _ _ _, ownNil _ _ _, off_nil _⟩
      · by_cases hle : Y ≤ X
        · rw [divR_yes HX.out HY.out h0]
          exact div_main x y X Y w NX.out NY.out HX.out HY.out h0 hle
        · have hr := Lib.hid (show divR X Y = ([], nat32 X, 0) by
            rw [divR_yes HX.out HY.out h0, Nat.div_eq_of_lt (by omega), Nat.mod_eq_of_lt (by omega), show nat32 0 = [] from natB_zero _])
          have hyl : ∃ k, (nat32 Y).length = k + 1 := ⟨(nat32 Y).length - 1, by
            have : (nat32 Y).length ≠ 0 := fun e => by
              have := (natB_nil (b := 4294967296) (by decide)).1 (List.eq_nil_of_length_eq_zero e)
              omega
            omega⟩
          obtain ⟨k, hk⟩ := hyl
          have HK := Lib.hid hk
          have hord := Lib.hid (show ordN X Y = -1 from ordN_lt (by omega))
          clear hk hle h0
          go_enter Try.func59, Try.ntmps59
          go_wp2_with fail
          refine (trim_ok NX.out HX.out).mono ?_
          rintro e w1 ⟨⟨v1, rfl, ho1⟩, hb1⟩
          obtain ⟨a1, n1, c1, rfl, hn1, ho1⟩ := ho1.slice
          have O1 := Lib.hid ho1
          have B1 := Lib.hid hb1
          have NY1 := Lib.hid (NY.out.below hb1)
          clear ho1 hb1 hn1
          go_wp2_with fail
          refine (trim_ok NY1.out HY.out).mono ?_
          rintro e w2 ⟨⟨v2, rfl, ho2⟩, hb2⟩
          obtain ⟨a2, n2, c2, rfl, hn2, ho2⟩ := ho2.slice
          obtain rfl : n2 = k + 1 := by rw [hn2]; exact HK.out
          have O2 := Lib.hid ho2
          have O12 := Lib.hid (O1.out.below hb2)
          have B2 := Lib.hid (B1.out.trans (hb2.mono B1.out.size))
          clear ho2 hb2 hn2
          have hcmp := Lib.hid (cmp_nat (natAt_own O12.out) (natAt_own O2.out) (-1) hord.out.symm)
          go_wp2_with fail
          refine hcmp.out.mono ?_
          rintro e w3 ⟨rfl, hb3⟩
          have B3 := Lib.hid (B2.out.trans (hb3.mono B2.out.size))
          have O13 := Lib.hid (O12.out.below hb3)
          clear hb3
          go_wp2_with fail
          refine bodyPost_ret (v := .tuple #[.slice none 0 0, .slice a1 n1 c1, .int .i64 0]) (by simp [results, Try.results59, go_sem]) rfl ⟨?_, B3.out⟩
          rw [hr.out]
          exact ⟨_, _, rfl, ownNil _ _ _, O13.out, off_nil' _⟩
    · have hr := Lib.hid (show divR X Y = ([], [], 20) from divR_no (fun h => hY h.2))
      have HX := Lib.hid hX
      have HY := Lib.hid hY
      clear hX hY
      go_enter Try.func59, Try.ntmps59
      go_wp2_with fail
      refine (trim_ok NX.out HX.out).mono ?_
      rintro e w1 ⟨⟨v1, rfl, ho1⟩, hb1⟩
      have B1 := Lib.hid hb1
      have NY1 := Lib.hid (NY.out.below hb1)
      clear ho1 hb1
      go_wp2_with fail
      refine (trim_no NY1.out HY.out).mono ?_
      rintro e w2 ⟨⟨v2, rfl⟩, hb2⟩
      have B2 := Lib.hid (B1.out.trans (hb2.mono B1.out.size))
      clear hb2
      go_wp2_with fail
      refine bodyPost_ret (v := .tuple #[.slice none 0 0, .slice none 0 0, .int .i64 20]) (by simp [results, Try.results59, go_sem]) rfl ⟨?_, B2.out⟩
      rw [hr.out]
      exact ⟨_, _, rfl, ownNil _ _ _, ownNil _ _ _, off_nil _⟩
  · have hr := Lib.hid (show divR X Y = ([], [], 20) from divR_no (fun h => hX h.1))
    have HX := Lib.hid hX
    clear hX
    go_enter Try.func59, Try.ntmps59
    go_wp2_with fail
    refine (trim_no NX.out HX.out).mono ?_
    rintro e w1 ⟨⟨v1, rfl⟩, hb1⟩
    have B1 := Lib.hid hb1
    clear hb1
    go_wp2_with fail
    refine bodyPost_ret (v := .tuple #[.slice none 0 0, .slice none 0 0, .int .i64 20]) (by simp [results, Try.results59, go_sem]) rfl ⟨?_, B1.out⟩
    rw [hr.out]
    exact ⟨_, _, rfl, ownNil _ _ _, ownNil _ _ _, off_nil _⟩

/-- Div, where it may be. -/
theorem div_nat {x y : Value} {X Y : Nat} {w : World} (hx : NatAt w x X) (hy : NatAt w y Y) (hX : X < topN) (hY : Y < topN) (h0 : 0 < Y) :
    Calls Try.prog 59 #[x, y] w fun e w' => (∃ q s, e = .returned (.tuple #[q, s, .int .i64 0]) ∧ NatC w' q (X / Y) ∧ NatC w' s (X % Y)) ∧ Below w.heap.size w w' := by
  refine (div_any x y X Y w hx hy).mono fun e w' ⟨⟨q, s, he, h1, h2, _⟩, hb⟩ => ⟨?_, hb⟩
  rw [divR_yes hX hY h0] at he h1 h2
  exact ⟨q, s, he, NatC.of h1, NatC.of h2⟩

/-- A rest, or the error. -/
def modR (x y : Nat) : List Nat × Int := ((divR x y).2.1, (divR x y).2.2)
set_option maxHeartbeats 400000 in
theorem mod_any (x y : Value) (X Y : Nat) (w : World) (hx : NatAt w x X) (hy : NatAt w y Y) :
    Calls Try.prog 26 #[x, y] w fun e w' => RetsQ2 .u32 41 w.heap.size w' (modR X Y) e ∧ Below w.heap.size w w' := by
  have HD := Lib.hid (div_any x y X Y w hx hy)
  unfold modR
  generalize divR X Y = r at *
  clear hx hy
  go_enter Try.func26, Try.ntmps26
  go_wp2_with fail
  refine HD.out.mono ?_
  rintro e w1 ⟨⟨q, s, rfl, -, ho, -⟩, hb⟩
  have HO := Lib.hid ho
  have HB := Lib.hid hb
  clear ho hb
  go_wp2_with fail
  go_ret2
  exact ⟨⟨s, rfl, HO.out⟩, HB.out⟩
theorem mod_nat {x y : Value} {X Y : Nat} {w : World} (hx : NatAt w x X) (hy : NatAt w y Y) (hX : X < topN) (hY : Y < topN) (h0 : 0 < Y) :
    Calls Try.prog 26 #[x, y] w fun e w' => RetN w' (X % Y) e ∧ Below w.heap.size w w' := by
  refine (mod_any x y X Y w hx hy).mono fun e w' ⟨he, hb⟩ => ⟨?_, hb⟩
  unfold modR at he
  rw [divR_yes hX hY h0] at he
  exact he.num

end Go.Proofs.Ytebfoalcmnpghaa
