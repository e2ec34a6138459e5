/-
  WHAT ONE NODE BREAKS BY ITSELF: tree.broken, walked.
-/
import Derived.Test.YtkmphiakciihfaaDoorTrD
namespace Go.Proofs.YtkmphiakciihfaaDoor
open Go.RowKit

theorem ret_i64 {a b : Int} (h : a = b) : Ending.returned (.int .i64 a) = .returned (.int .i64 b) := by rw [h]


set_option maxRecDepth 100000 in
set_option maxHeartbeats 4000000 in
theorem broken_16 (L : World → Prop) (q : Int → List Nat → Bool) (b off : Nat) (V : NV) (T : Tr) (w : World) (hc : CellsAt w b off V) (hn : NodeAt w V T) (hL : L w) (hW : WantedOk L q T.tag) (h16 : T.tag = 16) :
    Calls Tryd.prog 63 #[.pointer (some ⟨b, off, none⟩)] w fun e w' => e = .returned (.int .i64 (brokenN q T)) ∧ Below w.heap.size w w' := by
  have hlt := hc.lt
  have e1 := hn.cls
  have e2 := hn.tag
  have e3 := hn.cons
  have hx := Lib.hid hn.small
  have hrd := Lib.hid hn.bytes
  have hbl := Lib.hid hn.bytes.length
  have hkl := Lib.hid hn.kids.length
  have HC := Lib.hid hc
  rw [e2] at hW h16
  have HN : Hid (brokenN q T = if V.cls < 0 ∨ 3 < V.cls ∨ V.tag < 0 ∨ 30 < V.tag then 1
    else if (V.cons = true ∧ V.bl ≠ 0) ∨ (V.cons = false ∧ V.kl ≠ 0) then 2
    else if V.cls ≠ 0 then 0
    else if V.tag = 16 ∨ V.tag = 17 then (if V.cons then 0 else 3)
    else if V.cons = true ∨ hasB V.tag = false then 3
    else if q V.tag T.b then 0 else 4) := by
    have g1 : T.b ≠ [] ↔ V.bl ≠ 0 := by rw [← hbl.out]; simp
    have g2 : T.kids ≠ [] ↔ V.kl ≠ 0 := by rw [← hkl.out]; simp
    unfold Hid brokenN
    rw [e1, e2, e3]
    simp only [g1, g2]
  have hblm := hrd.out.len_le
  unfold maxLen at hblm
  have hklm := hn.kids.max
  have hkle := hn.kids.le
  unfold maxLen at hklm
  have HW := Lib.hid hW
  have HL := Lib.hid hL
  generalize hTb : T.b = tb at *
  have HTb := Lib.hid hTb
  clear hW hL hc hn e1 e2 e3 hTb
  obtain ⟨c, t, k, ba, bl, bc, ka, kl, kc⟩ := V
  dsimp only at HC HW HN hrd hbl hkl hblm hklm hkle
  have c0 := HC.out.c0
  have c1 := HC.out.c1
  have c2 := HC.out.c2
  have c3 := HC.out.c3
  have c4 := HC.out.c4
  dsimp only at c0 c1 c2 c3 c4

  dsimp only at h16
  subst h16
  by_cases hc1 : c < 0
  · have HV := Lib.hid (show brokenN q T = 1 by rw [HN.out]; rw [if_pos (.inl hc1)])
    have g1 : decide (c < 0) = true := by simpa using hc1
    go_enter Tryd.func63, Tryd.ntmps63
    go_wp2_with fail
    all_goals
      refine (HW.out w HL.out).mono ?_
      rintro e w1 (⟨hh, rfl, hb⟩ | ⟨hh, fv, rfl, ⟨f, lb, rfl, hE, hA⟩, hb⟩)
      all_goals
        have d0 := (HC.out.below hb hlt).c0
        have d1 := (HC.out.below hb hlt).c1
        have d2 := (HC.out.below hb hlt).c2
        have d3 := (HC.out.below hb hlt).c3
        have d4 := (HC.out.below hb hlt).c4
        dsimp only at d0 d1 d2 d3 d4
        have HB := Lib.hid hb
        have HH := Lib.hid hh
        clear hb hh
        try (have HA := Lib.hid hA; clear hA)
        go_wp2_with fail
        all_goals (go_ret; exact ⟨ret_i64 HV.out.symm, HB.out⟩)
  by_cases hc2 : 3 < c
  · have HV := Lib.hid (show brokenN q T = 1 by rw [HN.out]; rw [if_pos (.inr (.inl hc2))])
    go_enter Tryd.func63, Tryd.ntmps63
    go_wp2_with fail
    all_goals
      refine (HW.out w HL.out).mono ?_
      rintro e w1 (⟨hh, rfl, hb⟩ | ⟨hh, fv, rfl, ⟨f, lb, rfl, hE, hA⟩, hb⟩)
      all_goals
        have d0 := (HC.out.below hb hlt).c0
        have d1 := (HC.out.below hb hlt).c1
        have d2 := (HC.out.below hb hlt).c2
        have d3 := (HC.out.below hb hlt).c3
        have d4 := (HC.out.below hb hlt).c4
        dsimp only at d0 d1 d2 d3 d4
        have HB := Lib.hid hb
        have HH := Lib.hid hh
        clear hb hh
        try (have HA := Lib.hid hA; clear hA)
        go_wp2_with fail
        all_goals (go_ret; exact ⟨ret_i64 HV.out.symm, HB.out⟩)
  have HN2 := HN.out
  rw [if_neg (by omega)] at HN2
  replace HN := Lib.hid HN2
  clear HN2
  cases k with
  | true =>
    by_cases hb0 : 0 < bl
    · have HV := Lib.hid (show brokenN q T = 2 by rw [HN.out]; rw [if_pos (.inl ⟨rfl, by omega⟩)])
      go_enter Tryd.func63, Tryd.ntmps63
      go_wp2_with fail
      all_goals
        refine (HW.out w HL.out).mono ?_
        rintro e w1 (⟨hh, rfl, hb⟩ | ⟨hh, fv, rfl, ⟨f, lb, rfl, hE, hA⟩, hb⟩)
        all_goals
          have d0 := (HC.out.below hb hlt).c0
          have d1 := (HC.out.below hb hlt).c1
          have d2 := (HC.out.below hb hlt).c2
          have d3 := (HC.out.below hb hlt).c3
          have d4 := (HC.out.below hb hlt).c4
          dsimp only at d0 d1 d2 d3 d4
          have HB := Lib.hid hb
          have HH := Lib.hid hh
          clear hb hh
          try (have HA := Lib.hid hA; clear hA)
          go_wp2_with fail
          all_goals (go_ret; exact ⟨ret_i64 HV.out.symm, HB.out⟩)
    obtain rfl : bl = 0 := by omega
    by_cases hc0 : c = 0
    · subst hc0
      have HV := Lib.hid (show brokenN q T = 0 by rw [HN.out]; rw [if_neg (by simp), if_neg (by simp), if_pos (by simp)]; rfl)
      go_enter Tryd.func63, Tryd.ntmps63
      go_wp2_with fail
      all_goals
        refine (HW.out w HL.out).mono ?_
        rintro e w1 (⟨hh, rfl, hb⟩ | ⟨hh, fv, rfl, ⟨f, lb, rfl, hE, hA⟩, hb⟩)
        all_goals
          have d0 := (HC.out.below hb hlt).c0
          have d1 := (HC.out.below hb hlt).c1
          have d2 := (HC.out.below hb hlt).c2
          have d3 := (HC.out.below hb hlt).c3
          have d4 := (HC.out.below hb hlt).c4
          dsimp only at d0 d1 d2 d3 d4
          have HB := Lib.hid hb
          have HH := Lib.hid hh
          clear hb hh
          try (have HA := Lib.hid hA; clear hA)
          go_wp2_with fail
          all_goals (go_ret; exact ⟨ret_i64 HV.out.symm, HB.out⟩)
    · have HV := Lib.hid (show brokenN q T = 0 by rw [HN.out]; rw [if_neg (by simp), if_pos hc0])
      have gc : (c != 0) = true := by simp; omega
      go_enter Tryd.func63, Tryd.ntmps63
      go_wp2_with fail
      all_goals
        refine (HW.out w HL.out).mono ?_
        rintro e w1 (⟨hh, rfl, hb⟩ | ⟨hh, fv, rfl, ⟨f, lb, rfl, hE, hA⟩, hb⟩)
        all_goals
          have d0 := (HC.out.below hb hlt).c0
          have d1 := (HC.out.below hb hlt).c1
          have d2 := (HC.out.below hb hlt).c2
          have d3 := (HC.out.below hb hlt).c3
          have d4 := (HC.out.below hb hlt).c4
          dsimp only at d0 d1 d2 d3 d4
          have HB := Lib.hid hb
          have HH := Lib.hid hh
          clear hb hh
          try (have HA := Lib.hid hA; clear hA)
          go_wp2_with fail
          all_goals (go_ret; exact ⟨ret_i64 HV.out.symm, HB.out⟩)

  | false =>
    by_cases hk0 : 0 < kl
    · have HV := Lib.hid (show brokenN q T = 2 by rw [HN.out]; rw [if_pos (.inr ⟨rfl, by omega⟩)])
      go_enter Tryd.func63, Tryd.ntmps63
      go_wp2_with fail
      all_goals
        refine (HW.out w HL.out).mono ?_
        rintro e w1 (⟨hh, rfl, hb⟩ | ⟨hh, fv, rfl, ⟨f, lb, rfl, hE, hA⟩, hb⟩)
        all_goals
          have d0 := (HC.out.below hb hlt).c0
          have d1 := (HC.out.below hb hlt).c1
          have d2 := (HC.out.below hb hlt).c2
          have d3 := (HC.out.below hb hlt).c3
          have d4 := (HC.out.below hb hlt).c4
          dsimp only at d0 d1 d2 d3 d4
          have HB := Lib.hid hb
          have HH := Lib.hid hh
          clear hb hh
          try (have HA := Lib.hid hA; clear hA)
          go_wp2_with fail
          all_goals (go_ret; exact ⟨ret_i64 HV.out.symm, HB.out⟩)
    obtain rfl : kl = 0 := by omega
    by_cases hc0 : c = 0
    · subst hc0
      have HV := Lib.hid (show brokenN q T = 3 by rw [HN.out]; rw [if_neg (by simp), if_neg (by simp), if_pos (by simp)]; rfl)
      go_enter Tryd.func63, Tryd.ntmps63
      go_wp2_with fail
      all_goals
        refine (HW.out w HL.out).mono ?_
        rintro e w1 (⟨hh, rfl, hb⟩ | ⟨hh, fv, rfl, ⟨f, lb, rfl, hE, hA⟩, hb⟩)
        all_goals
          have d0 := (HC.out.below hb hlt).c0
          have d1 := (HC.out.below hb hlt).c1
          have d2 := (HC.out.below hb hlt).c2
          have d3 := (HC.out.below hb hlt).c3
          have d4 := (HC.out.below hb hlt).c4
          dsimp only at d0 d1 d2 d3 d4
          have HB := Lib.hid hb
          have HH := Lib.hid hh
          clear hb hh
          try (have HA := Lib.hid hA; clear hA)
          go_wp2_with fail
          all_goals (go_ret; exact ⟨ret_i64 HV.out.symm, HB.out⟩)
    · have HV := Lib.hid (show brokenN q T = 0 by rw [HN.out]; rw [if_neg (by simp), if_pos hc0])
      have gc : (c != 0) = true := by simp; omega
      go_enter Tryd.func63, Tryd.ntmps63
      go_wp2_with fail
      all_goals
        refine (HW.out w HL.out).mono ?_
        rintro e w1 (⟨hh, rfl, hb⟩ | ⟨hh, fv, rfl, ⟨f, lb, rfl, hE, hA⟩, hb⟩)
        all_goals
          have d0 := (HC.out.below hb hlt).c0
          have d1 := (HC.out.below hb hlt).c1
          have d2 := (HC.out.below hb hlt).c2
          have d3 := (HC.out.below hb hlt).c3
          have d4 := (HC.out.below hb hlt).c4
          dsimp only at d0 d1 d2 d3 d4
          have HB := Lib.hid hb
          have HH := Lib.hid hh
          clear hb hh
          try (have HA := Lib.hid hA; clear hA)
          go_wp2_with fail
          all_goals (go_ret; exact ⟨ret_i64 HV.out.symm, HB.out⟩)

set_option maxRecDepth 100000 in
set_option maxHeartbeats 4000000 in
theorem broken_17 (L : World → Prop) (q : Int → List Nat → Bool) (b off : Nat) (V : NV) (T : Tr) (w : World) (hc : CellsAt w b off V) (hn : NodeAt w V T) (hL : L w) (hW : WantedOk L q T.tag) (h16 : T.tag = 17) :
    Calls Tryd.prog 63 #[.pointer (some ⟨b, off, none⟩)] w fun e w' => e = .returned (.int .i64 (brokenN q T)) ∧ Below w.heap.size w w' := by
  have hlt := hc.lt
  have e1 := hn.cls
  have e2 := hn.tag
  have e3 := hn.cons
  have hx := Lib.hid hn.small
  have hrd := Lib.hid hn.bytes
  have hbl := Lib.hid hn.bytes.length
  have hkl := Lib.hid hn.kids.length
  have HC := Lib.hid hc
  rw [e2] at hW h16
  have HN : Hid (brokenN q T = if V.cls < 0 ∨ 3 < V.cls ∨ V.tag < 0 ∨ 30 < V.tag then 1
    else if (V.cons = true ∧ V.bl ≠ 0) ∨ (V.cons = false ∧ V.kl ≠ 0) then 2
    else if V.cls ≠ 0 then 0
    else if V.tag = 16 ∨ V.tag = 17 then (if V.cons then 0 else 3)
    else if V.cons = true ∨ hasB V.tag = false then 3
    else if q V.tag T.b then 0 else 4) := by
    have g1 : T.b ≠ [] ↔ V.bl ≠ 0 := by rw [← hbl.out]; simp
    have g2 : T.kids ≠ [] ↔ V.kl ≠ 0 := by rw [← hkl.out]; simp
    unfold Hid brokenN
    rw [e1, e2, e3]
    simp only [g1, g2]
  have hblm := hrd.out.len_le
  unfold maxLen at hblm
  have hklm := hn.kids.max
  have hkle := hn.kids.le
  unfold maxLen at hklm
  have HW := Lib.hid hW
  have HL := Lib.hid hL
  generalize hTb : T.b = tb at *
  have HTb := Lib.hid hTb
  clear hW hL hc hn e1 e2 e3 hTb
  obtain ⟨c, t, k, ba, bl, bc, ka, kl, kc⟩ := V
  dsimp only at HC HW HN hrd hbl hkl hblm hklm hkle
  have c0 := HC.out.c0
  have c1 := HC.out.c1
  have c2 := HC.out.c2
  have c3 := HC.out.c3
  have c4 := HC.out.c4
  dsimp only at c0 c1 c2 c3 c4

  dsimp only at h16
  subst h16
  by_cases hc1 : c < 0
  · have HV := Lib.hid (show brokenN q T = 1 by rw [HN.out]; rw [if_pos (.inl hc1)])
    have g1 : decide (c < 0) = true := by simpa using hc1
    go_enter Tryd.func63, Tryd.ntmps63
    go_wp2_with fail
    all_goals
      refine (HW.out w HL.out).mono ?_
      rintro e w1 (⟨hh, rfl, hb⟩ | ⟨hh, fv, rfl, ⟨f, lb, rfl, hE, hA⟩, hb⟩)
      all_goals
        have d0 := (HC.out.below hb hlt).c0
        have d1 := (HC.out.below hb hlt).c1
        have d2 := (HC.out.below hb hlt).c2
        have d3 := (HC.out.below hb hlt).c3
        have d4 := (HC.out.below hb hlt).c4
        dsimp only at d0 d1 d2 d3 d4
        have HB := Lib.hid hb
        have HH := Lib.hid hh
        clear hb hh
        try (have HA := Lib.hid hA; clear hA)
        go_wp2_with fail
        all_goals (go_ret; exact ⟨ret_i64 HV.out.symm, HB.out⟩)
  by_cases hc2 : 3 < c
  · have HV := Lib.hid (show brokenN q T = 1 by rw [HN.out]; rw [if_pos (.inr (.inl hc2))])
    go_enter Tryd.func63, Tryd.ntmps63
    go_wp2_with fail
    all_goals
      refine (HW.out w HL.out).mono ?_
      rintro e w1 (⟨hh, rfl, hb⟩ | ⟨hh, fv, rfl, ⟨f, lb, rfl, hE, hA⟩, hb⟩)
      all_goals
        have d0 := (HC.out.below hb hlt).c0
        have d1 := (HC.out.below hb hlt).c1
        have d2 := (HC.out.below hb hlt).c2
        have d3 := (HC.out.below hb hlt).c3
        have d4 := (HC.out.below hb hlt).c4
        dsimp only at d0 d1 d2 d3 d4
        have HB := Lib.hid hb
        have HH := Lib.hid hh
        clear hb hh
        try (have HA := Lib.hid hA; clear hA)
        go_wp2_with fail
        all_goals (go_ret; exact ⟨ret_i64 HV.out.symm, HB.out⟩)
  have HN2 := HN.out
  rw [if_neg (by omega)] at HN2
  replace HN := Lib.hid HN2
  clear HN2
  cases k with
  | true =>
    by_cases hb0 : 0 < bl
    · have HV := Lib.hid (show brokenN q T = 2 by rw [HN.out]; rw [if_pos (.inl ⟨rfl, by omega⟩)])
      go_enter Tryd.func63, Tryd.ntmps63
      go_wp2_with fail
      all_goals
        refine (HW.out w HL.out).mono ?_
        rintro e w1 (⟨hh, rfl, hb⟩ | ⟨hh, fv, rfl, ⟨f, lb, rfl, hE, hA⟩, hb⟩)
        all_goals
          have d0 := (HC.out.below hb hlt).c0
          have d1 := (HC.out.below hb hlt).c1
          have d2 := (HC.out.below hb hlt).c2
          have d3 := (HC.out.below hb hlt).c3
          have d4 := (HC.out.below hb hlt).c4
          dsimp only at d0 d1 d2 d3 d4
          have HB := Lib.hid hb
          have HH := Lib.hid hh
          clear hb hh
          try (have HA := Lib.hid hA; clear hA)
          go_wp2_with fail
          all_goals (go_ret; exact ⟨ret_i64 HV.out.symm, HB.out⟩)
    obtain rfl : bl = 0 := by omega
    by_cases hc0 : c = 0
    · subst hc0
      have HV := Lib.hid (show brokenN q T = 0 by rw [HN.out]; rw [if_neg (by simp), if_neg (by simp), if_pos (by simp)]; rfl)
      go_enter Tryd.func63, Tryd.ntmps63
      go_wp2_with fail
      all_goals
        refine (HW.out w HL.out).mono ?_
        rintro e w1 (⟨hh, rfl, hb⟩ | ⟨hh, fv, rfl, ⟨f, lb, rfl, hE, hA⟩, hb⟩)
        all_goals
          have d0 := (HC.out.below hb hlt).c0
          have d1 := (HC.out.below hb hlt).c1
          have d2 := (HC.out.below hb hlt).c2
          have d3 := (HC.out.below hb hlt).c3
          have d4 := (HC.out.below hb hlt).c4
          dsimp only at d0 d1 d2 d3 d4
          have HB := Lib.hid hb
          have HH := Lib.hid hh
          clear hb hh
          try (have HA := Lib.hid hA; clear hA)
          go_wp2_with fail
          all_goals (go_ret; exact ⟨ret_i64 HV.out.symm, HB.out⟩)
    · have HV := Lib.hid (show brokenN q T = 0 by rw [HN.out]; rw [if_neg (by simp), if_pos hc0])
      have gc : (c != 0) = true := by simp; omega
      go_enter Tryd.func63, Tryd.ntmps63
      go_wp2_with fail
      all_goals
        refine (HW.out w HL.out).mono ?_
        rintro e w1 (⟨hh, rfl, hb⟩ | ⟨hh, fv, rfl, ⟨f, lb, rfl, hE, hA⟩, hb⟩)
        all_goals
          have d0 := (HC.out.below hb hlt).c0
          have d1 := (HC.out.below hb hlt).c1
          have d2 := (HC.out.below hb hlt).c2
          have d3 := (HC.out.below hb hlt).c3
          have d4 := (HC.out.below hb hlt).c4
          dsimp only at d0 d1 d2 d3 d4
          have HB := Lib.hid hb
          have HH := Lib.hid hh
          clear hb hh
          try (have HA := Lib.hid hA; clear hA)
          go_wp2_with fail
          all_goals (go_ret; exact ⟨ret_i64 HV.out.symm, HB.out⟩)

  | false =>
    by_cases hk0 : 0 < kl
    · have HV := Lib.hid (show brokenN q T = 2 by rw [HN.out]; rw [if_pos (.inr ⟨rfl, by omega⟩)])
      go_enter Tryd.func63, Tryd.ntmps63
      go_wp2_with fail
      all_goals
        refine (HW.out w HL.out).mono ?_
        rintro e w1 (⟨hh, rfl, hb⟩ | ⟨hh, fv, rfl, ⟨f, lb, rfl, hE, hA⟩, hb⟩)
        all_goals
          have d0 := (HC.out.below hb hlt).c0
          have d1 := (HC.out.below hb hlt).c1
          have d2 := (HC.out.below hb hlt).c2
          have d3 := (HC.out.below hb hlt).c3
          have d4 := (HC.out.below hb hlt).c4
          dsimp only at d0 d1 d2 d3 d4
          have HB := Lib.hid hb
          have HH := Lib.hid hh
          clear hb hh
          try (have HA := Lib.hid hA; clear hA)
          go_wp2_with fail
          all_goals (go_ret; exact ⟨ret_i64 HV.out.symm, HB.out⟩)
    obtain rfl : kl = 0 := by omega
    by_cases hc0 : c = 0
    · subst hc0
      have HV := Lib.hid (show brokenN q T = 3 by rw [HN.out]; rw [if_neg (by simp), if_neg (by simp), if_pos (by simp)]; rfl)
      go_enter Tryd.func63, Tryd.ntmps63
      go_wp2_with fail
      all_goals
        refine (HW.out w HL.out).mono ?_
        rintro e w1 (⟨hh, rfl, hb⟩ | ⟨hh, fv, rfl, ⟨f, lb, rfl, hE, hA⟩, hb⟩)
        all_goals
          have d0 := (HC.out.below hb hlt).c0
          have d1 := (HC.out.below hb hlt).c1
          have d2 := (HC.out.below hb hlt).c2
          have d3 := (HC.out.below hb hlt).c3
          have d4 := (HC.out.below hb hlt).c4
          dsimp only at d0 d1 d2 d3 d4
          have HB := Lib.hid hb
          have HH := Lib.hid hh
          clear hb hh
          try (have HA := Lib.hid hA; clear hA)
          go_wp2_with fail
          all_goals (go_ret; exact ⟨ret_i64 HV.out.symm, HB.out⟩)
    · have HV := Lib.hid (show brokenN q T = 0 by rw [HN.out]; rw [if_neg (by simp), if_pos hc0])
      have gc : (c != 0) = true := by simp; omega
      go_enter Tryd.func63, Tryd.ntmps63
      go_wp2_with fail
      all_goals
        refine (HW.out w HL.out).mono ?_
        rintro e w1 (⟨hh, rfl, hb⟩ | ⟨hh, fv, rfl, ⟨f, lb, rfl, hE, hA⟩, hb⟩)
        all_goals
          have d0 := (HC.out.below hb hlt).c0
          have d1 := (HC.out.below hb hlt).c1
          have d2 := (HC.out.below hb hlt).c2
          have d3 := (HC.out.below hb hlt).c3
          have d4 := (HC.out.below hb hlt).c4
          dsimp only at d0 d1 d2 d3 d4
          have HB := Lib.hid hb
          have HH := Lib.hid hh
          clear hb hh
          try (have HA := Lib.hid hA; clear hA)
          go_wp2_with fail
          all_goals (go_ret; exact ⟨ret_i64 HV.out.symm, HB.out⟩)

set_option maxRecDepth 100000 in
set_option maxHeartbeats 4000000 in
theorem broken_no (L : World → Prop) (q : Int → List Nat → Bool) (b off : Nat) (V : NV) (T : Tr) (w : World) (hc : CellsAt w b off V) (hn : NodeAt w V T) (hL : L w) (hW : WantedOk L q T.tag) (h16 : ¬ (T.tag = 16 ∨ T.tag = 17)) :
    Calls Tryd.prog 63 #[.pointer (some ⟨b, off, none⟩)] w fun e w' => e = .returned (.int .i64 (brokenN q T)) ∧ Below w.heap.size w w' := by
  have hlt := hc.lt
  have e1 := hn.cls
  have e2 := hn.tag
  have e3 := hn.cons
  have hx := Lib.hid hn.small
  have hrd := Lib.hid hn.bytes
  have hbl := Lib.hid hn.bytes.length
  have hkl := Lib.hid hn.kids.length
  have HC := Lib.hid hc
  rw [e2] at hW h16
  have HN : Hid (brokenN q T = if V.cls < 0 ∨ 3 < V.cls ∨ V.tag < 0 ∨ 30 < V.tag then 1
    else if (V.cons = true ∧ V.bl ≠ 0) ∨ (V.cons = false ∧ V.kl ≠ 0) then 2
    else if V.cls ≠ 0 then 0
    else if V.tag = 16 ∨ V.tag = 17 then (if V.cons then 0 else 3)
    else if V.cons = true ∨ hasB V.tag = false then 3
    else if q V.tag T.b then 0 else 4) := by
    have g1 : T.b ≠ [] ↔ V.bl ≠ 0 := by rw [← hbl.out]; simp
    have g2 : T.kids ≠ [] ↔ V.kl ≠ 0 := by rw [← hkl.out]; simp
    unfold Hid brokenN
    rw [e1, e2, e3]
    simp only [g1, g2]
  have hblm := hrd.out.len_le
  unfold maxLen at hblm
  have hklm := hn.kids.max
  have hkle := hn.kids.le
  unfold maxLen at hklm
  have HW := Lib.hid hW
  have HL := Lib.hid hL
  generalize hTb : T.b = tb at *
  have HTb := Lib.hid hTb
  clear hW hL hc hn e1 e2 e3 hTb
  obtain ⟨c, t, k, ba, bl, bc, ka, kl, kc⟩ := V
  dsimp only at HC HW HN hrd hbl hkl hblm hklm hkle
  have c0 := HC.out.c0
  have c1 := HC.out.c1
  have c2 := HC.out.c2
  have c3 := HC.out.c3
  have c4 := HC.out.c4
  dsimp only at c0 c1 c2 c3 c4

  dsimp only at h16
  have g16 : (t == 16) = false := by simp; omega
  have g17 : (t == 17) = false := by simp; omega
  have H16 := Lib.hid h16
  clear h16
  by_cases hc1 : c < 0
  · have HV := Lib.hid (show brokenN q T = 1 by rw [HN.out]; rw [if_pos (.inl hc1)])
    have g1 : decide (c < 0) = true := by simpa using hc1
    go_enter Tryd.func63, Tryd.ntmps63
    go_wp2_with fail
    all_goals
      refine (HW.out w HL.out).mono ?_
      rintro e w1 (⟨hh, rfl, hb⟩ | ⟨hh, fv, rfl, ⟨f, lb, rfl, hE, hA⟩, hb⟩)
      all_goals
        have d0 := (HC.out.below hb hlt).c0
        have d1 := (HC.out.below hb hlt).c1
        have d2 := (HC.out.below hb hlt).c2
        have d3 := (HC.out.below hb hlt).c3
        have d4 := (HC.out.below hb hlt).c4
        dsimp only at d0 d1 d2 d3 d4
        have HB := Lib.hid hb
        have HH := Lib.hid hh
        clear hb hh
        try (have HA := Lib.hid hA; clear hA)
        go_wp2_with fail
        all_goals (go_ret; exact ⟨ret_i64 HV.out.symm, HB.out⟩)
  by_cases hc2 : 3 < c
  · have HV := Lib.hid (show brokenN q T = 1 by rw [HN.out]; rw [if_pos (.inr (.inl hc2))])
    go_enter Tryd.func63, Tryd.ntmps63
    go_wp2_with fail
    all_goals
      refine (HW.out w HL.out).mono ?_
      rintro e w1 (⟨hh, rfl, hb⟩ | ⟨hh, fv, rfl, ⟨f, lb, rfl, hE, hA⟩, hb⟩)
      all_goals
        have d0 := (HC.out.below hb hlt).c0
        have d1 := (HC.out.below hb hlt).c1
        have d2 := (HC.out.below hb hlt).c2
        have d3 := (HC.out.below hb hlt).c3
        have d4 := (HC.out.below hb hlt).c4
        dsimp only at d0 d1 d2 d3 d4
        have HB := Lib.hid hb
        have HH := Lib.hid hh
        clear hb hh
        try (have HA := Lib.hid hA; clear hA)
        go_wp2_with fail
        all_goals (go_ret; exact ⟨ret_i64 HV.out.symm, HB.out⟩)
  by_cases ht1 : t < 0
  · have HV := Lib.hid (show brokenN q T = 1 by rw [HN.out]; rw [if_pos (.inr (.inr (.inl ht1)))])
    go_enter Tryd.func63, Tryd.ntmps63
    go_wp2_with fail
    all_goals
      refine (HW.out w HL.out).mono ?_
      rintro e w1 (⟨hh, rfl, hb⟩ | ⟨hh, fv, rfl, ⟨f, lb, rfl, hE, hA⟩, hb⟩)
      all_goals
        have d0 := (HC.out.below hb hlt).c0
        have d1 := (HC.out.below hb hlt).c1
        have d2 := (HC.out.below hb hlt).c2
        have d3 := (HC.out.below hb hlt).c3
        have d4 := (HC.out.below hb hlt).c4
        dsimp only at d0 d1 d2 d3 d4
        have HB := Lib.hid hb
        have HH := Lib.hid hh
        clear hb hh
        try (have HA := Lib.hid hA; clear hA)
        go_wp2_with fail
        all_goals (go_ret; exact ⟨ret_i64 HV.out.symm, HB.out⟩)
  by_cases ht2 : 30 < t
  · have HV := Lib.hid (show brokenN q T = 1 by rw [HN.out]; rw [if_pos (.inr (.inr (.inr ht2)))])
    go_enter Tryd.func63, Tryd.ntmps63
    go_wp2_with fail
    all_goals
      refine (HW.out w HL.out).mono ?_
      rintro e w1 (⟨hh, rfl, hb⟩ | ⟨hh, fv, rfl, ⟨f, lb, rfl, hE, hA⟩, hb⟩)
      all_goals
        have d0 := (HC.out.below hb hlt).c0
        have d1 := (HC.out.below hb hlt).c1
        have d2 := (HC.out.below hb hlt).c2
        have d3 := (HC.out.below hb hlt).c3
        have d4 := (HC.out.below hb hlt).c4
        dsimp only at d0 d1 d2 d3 d4
        have HB := Lib.hid hb
        have HH := Lib.hid hh
        clear hb hh
        try (have HA := Lib.hid hA; clear hA)
        go_wp2_with fail
        all_goals (go_ret; exact ⟨ret_i64 HV.out.symm, HB.out⟩)
  have HN2 := HN.out
  rw [if_neg (by omega)] at HN2
  replace HN := Lib.hid HN2
  clear HN2
  cases k with
  | true =>
    by_cases hb0 : 0 < bl
    · have HV := Lib.hid (show brokenN q T = 2 by rw [HN.out]; rw [if_pos (.inl ⟨rfl, by omega⟩)])
      go_enter Tryd.func63, Tryd.ntmps63
      go_wp2_with fail
      all_goals
        refine (HW.out w HL.out).mono ?_
        rintro e w1 (⟨hh, rfl, hb⟩ | ⟨hh, fv, rfl, ⟨f, lb, rfl, hE, hA⟩, hb⟩)
        all_goals
          have d0 := (HC.out.below hb hlt).c0
          have d1 := (HC.out.below hb hlt).c1
          have d2 := (HC.out.below hb hlt).c2
          have d3 := (HC.out.below hb hlt).c3
          have d4 := (HC.out.below hb hlt).c4
          dsimp only at d0 d1 d2 d3 d4
          have HB := Lib.hid hb
          have HH := Lib.hid hh
          clear hb hh
          try (have HA := Lib.hid hA; clear hA)
          go_wp2_with fail
          all_goals (go_ret; exact ⟨ret_i64 HV.out.symm, HB.out⟩)
    obtain rfl : bl = 0 := by omega
    by_cases hc0 : c = 0
    · subst hc0
      have HV := Lib.hid (show brokenN q T = 3 by rw [HN.out]; rw [if_neg (by simp), if_neg (by simp), if_neg H16.out, if_pos (.inl rfl)])
      go_enter Tryd.func63, Tryd.ntmps63
      go_wp2_with fail
      all_goals
        refine (HW.out w HL.out).mono ?_
        rintro e w1 (⟨hh, rfl, hb⟩ | ⟨hh, fv, rfl, ⟨f, lb, rfl, hE, hA⟩, hb⟩)
        all_goals
          have d0 := (HC.out.below hb hlt).c0
          have d1 := (HC.out.below hb hlt).c1
          have d2 := (HC.out.below hb hlt).c2
          have d3 := (HC.out.below hb hlt).c3
          have d4 := (HC.out.below hb hlt).c4
          dsimp only at d0 d1 d2 d3 d4
          have HB := Lib.hid hb
          have HH := Lib.hid hh
          clear hb hh
          try (have HA := Lib.hid hA; clear hA)
          go_wp2_with fail
          all_goals (go_ret; exact ⟨ret_i64 HV.out.symm, HB.out⟩)
    · have HV := Lib.hid (show brokenN q T = 0 by rw [HN.out]; rw [if_neg (by simp), if_pos hc0])
      have gc : (c != 0) = true := by simp; omega
      go_enter Tryd.func63, Tryd.ntmps63
      go_wp2_with fail
      all_goals
        refine (HW.out w HL.out).mono ?_
        rintro e w1 (⟨hh, rfl, hb⟩ | ⟨hh, fv, rfl, ⟨f, lb, rfl, hE, hA⟩, hb⟩)
        all_goals
          have d0 := (HC.out.below hb hlt).c0
          have d1 := (HC.out.below hb hlt).c1
          have d2 := (HC.out.below hb hlt).c2
          have d3 := (HC.out.below hb hlt).c3
          have d4 := (HC.out.below hb hlt).c4
          dsimp only at d0 d1 d2 d3 d4
          have HB := Lib.hid hb
          have HH := Lib.hid hh
          clear hb hh
          try (have HA := Lib.hid hA; clear hA)
          go_wp2_with fail
          all_goals (go_ret; exact ⟨ret_i64 HV.out.symm, HB.out⟩)

  | false =>
    by_cases hk0 : 0 < kl
    · have HV := Lib.hid (show brokenN q T = 2 by rw [HN.out]; rw [if_pos (.inr ⟨rfl, by omega⟩)])
      go_enter Tryd.func63, Tryd.ntmps63
      go_wp2_with fail
      all_goals
        refine (HW.out w HL.out).mono ?_
        rintro e w1 (⟨hh, rfl, hb⟩ | ⟨hh, fv, rfl, ⟨f, lb, rfl, hE, hA⟩, hb⟩)
        all_goals
          have d0 := (HC.out.below hb hlt).c0
          have d1 := (HC.out.below hb hlt).c1
          have d2 := (HC.out.below hb hlt).c2
          have d3 := (HC.out.below hb hlt).c3
          have d4 := (HC.out.below hb hlt).c4
          dsimp only at d0 d1 d2 d3 d4
          have HB := Lib.hid hb
          have HH := Lib.hid hh
          clear hb hh
          try (have HA := Lib.hid hA; clear hA)
          go_wp2_with fail
          all_goals (go_ret; exact ⟨ret_i64 HV.out.symm, HB.out⟩)
    obtain rfl : kl = 0 := by omega
    by_cases hc0 : c = 0
    · subst hc0
      have HN3 := HN.out
      rw [if_neg (by simp), if_neg (by simp), if_neg H16.out] at HN3
      replace HN := Lib.hid HN3
      clear HN3
      go_enter Tryd.func63, Tryd.ntmps63
      go_wp2_with fail
      refine (HW.out w HL.out).mono ?_
      rintro e w1 (⟨hh, rfl, hb⟩ | ⟨hh, fv, rfl, ⟨f, lb, rfl, hE, hA⟩, hb⟩)
      · have HV := Lib.hid (show brokenN q T = 3 by rw [HN.out, if_pos (.inr hh)])
        have d0 := (HC.out.below hb hlt).c0
        have d1 := (HC.out.below hb hlt).c1
        have d2 := (HC.out.below hb hlt).c2
        have d3 := (HC.out.below hb hlt).c3
        have d4 := (HC.out.below hb hlt).c4
        dsimp only at d0 d1 d2 d3 d4
        have HB := Lib.hid hb
        clear hb hh
        have he := fun W : World => run_eql_func_nil (P := Tryd.prog) W 71 Tryd.underlying71
        go_wp2_with fail
        go_ret
        exact ⟨ret_i64 HV.out.symm, HB.out⟩
      · have HV := Lib.hid (show brokenN q T = if q t tb = true then 0 else 4 by rw [HN.out, if_neg (by simp [hh])])
        have d0 := (HC.out.below hb hlt).c0
        have d1 := (HC.out.below hb hlt).c1
        have d2 := (HC.out.below hb hlt).c2
        have d3 := (HC.out.below hb hlt).c3
        have d4 := (HC.out.below hb hlt).c4
        dsimp only at d0 d1 d2 d3 d4
        have HB := Lib.hid hb
        have HA := Lib.hid (hA w1 ba bl bc tb (Below.refl _ _) (hrd.out.below (hb.mono (Nat.le_refl _))) hx.out)
        clear hb hh hA
        have he := fun W : World => run_eql_func_some (P := Tryd.prog) W 71 Tryd.underlying71 (.func f) #[] lb
        cases hq : q t tb with
        | true =>
          rw [hq] at HA
          have HV2 := Lib.hid (show brokenN q T = 0 by rw [HV.out, hq]; rfl)
          clear hq
          go_wp2_with (refine HA.out.mono ?_; rintro e w2 ⟨rfl, hb2⟩)
          go_ret
          exact ⟨ret_i64 HV2.out.symm, HB.out.trans (hb2.mono HB.out.size)⟩
        | false =>
          rw [hq] at HA
          have HV2 := Lib.hid (show brokenN q T = 4 by rw [HV.out, hq]; rfl)
          clear hq
          go_wp2_with (refine HA.out.mono ?_; rintro e w2 ⟨rfl, hb2⟩)
          go_ret
          exact ⟨ret_i64 HV2.out.symm, HB.out.trans (hb2.mono HB.out.size)⟩
    · have HV := Lib.hid (show brokenN q T = 0 by rw [HN.out]; rw [if_neg (by simp), if_pos hc0])
      have gc : (c != 0) = true := by simp; omega
      go_enter Tryd.func63, Tryd.ntmps63
      go_wp2_with fail
      all_goals
        refine (HW.out w HL.out).mono ?_
        rintro e w1 (⟨hh, rfl, hb⟩ | ⟨hh, fv, rfl, ⟨f, lb, rfl, hE, hA⟩, hb⟩)
        all_goals
          have d0 := (HC.out.below hb hlt).c0
          have d1 := (HC.out.below hb hlt).c1
          have d2 := (HC.out.below hb hlt).c2
          have d3 := (HC.out.below hb hlt).c3
          have d4 := (HC.out.below hb hlt).c4
          dsimp only at d0 d1 d2 d3 d4
          have HB := Lib.hid hb
          have HH := Lib.hid hh
          clear hb hh
          try (have HA := Lib.hid hA; clear hA)
          go_wp2_with fail
          all_goals (go_ret; exact ⟨ret_i64 HV.out.symm, HB.out⟩)

theorem broken_any (L : World → Prop) (q : Int → List Nat → Bool) (b off : Nat) (V : NV) (T : Tr) (w : World) (hc : CellsAt w b off V) (hn : NodeAt w V T) (hL : L w) (hW : WantedOk L q T.tag) :
    Calls Tryd.prog 63 #[.pointer (some ⟨b, off, none⟩)] w fun e w' => e = .returned (.int .i64 (brokenN q T)) ∧ Below w.heap.size w w' := by
  by_cases h : T.tag = 16
  · exact broken_16 L q b off V T w hc hn hL hW h
  · by_cases h2 : T.tag = 17
    · exact broken_17 L q b off V T w hc hn hL hW h2
    · exact broken_no L q b off V T w hc hn hL hW (by omega)


end Go.Proofs.YtkmphiakciihfaaDoor
