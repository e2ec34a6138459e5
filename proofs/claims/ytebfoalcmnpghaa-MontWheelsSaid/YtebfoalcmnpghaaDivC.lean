/-
  RATIO's take.
-/
import Derived.Test.YtebfoalcmnpghaaDivB
namespace Go.Proofs.Ytebfoalcmnpghaa
open Go.RowKit

/-- What a call turned: of the blocks that there were, the block g alone. -/
structure Touch (g : Nat) (w w' : World) : Prop where
  os : w'.os = w.os
  tape : w'.tape = w.tape
  output : w'.output = w.output
  size : w.heap.size ≤ w'.heap.size
  block : ∀ k, k < w.heap.size → k ≠ g → w'.heap[k]? = w.heap[k]?

theorem Touch.refl (g : Nat) (w : World) : Touch g w w := ⟨rfl, rfl, rfl, Nat.le_refl _, fun _ _ _ => rfl⟩
theorem Touch.trans {g : Nat} {a b c : World} (h : Touch g a b) (k : Touch g b c) : Touch g a c :=
  ⟨k.os.trans h.os, k.tape.trans h.tape, k.output.trans h.output, Nat.le_trans h.size k.size, fun i hi hn => (k.block i (Nat.lt_of_lt_of_le hi h.size) hn).trans (h.block i hi hn)⟩
theorem Touch.drewN {g : Nat} {a w : World} (h : Touch g a w) (n : Nat) : Touch g a (w.drewN n) := h.trans ⟨rfl, rfl, rfl, Nat.le_refl _, fun _ _ _ => rfl⟩
theorem Touch.setCell {g : Nat} {a w : World} (h : Touch g a w) (j : Nat) (u : Value) : Touch g a (w.setCell ⟨g, j, none⟩ u) :=
  h.trans ⟨rfl, rfl, rfl, by simp [World.setCell], fun k _ hn => Below.heap_setCell w _ u k hn⟩
theorem Touch.cell {g : Nat} {w w' : World} (h : Touch g w w') {p : Addr} (hp : p.block < w.heap.size) (hn : p.block ≠ g) : w'.cell? p = w.cell? p := World.cell?_of_block (w := w) (h.block p.block hp hn)
theorem Touch.cellSome {g : Nat} {w w' : World} (h : Touch g w w') {p : Addr} {v : Value} (hc : w.cell? p = some v) (hn : p.block ≠ g) : w'.cell? p = some v := (h.cell (World.block_lt_of_cell? w _ hc) hn).trans hc
theorem Touch.reads {g : Nat} {q : IntKind} {w w' : World} {a : Option Addr} {len cap : Nat} {l : List Nat} (h : Touch g w w') (hr : Reads q w a len cap l) (hn : ∀ ad, a = some ad → 0 < len → ad.block ≠ g) : Reads q w' a len cap l :=
  ⟨hr.length, hr.le, hr.max, hr.nil, fun hp => by
    obtain ⟨b, off, rfl, hlt, hc⟩ := hr.cells hp
    exact ⟨b, off, rfl, Nat.lt_of_lt_of_le hlt h.size, fun i hi => (h.cell (p := ⟨b, off + i, none⟩) hlt (show b ≠ g from hn ⟨b, off, none⟩ rfl hp)).trans (hc i hi)⟩⟩
theorem Touch.below {g B : Nat} {w w' : World} (h : Touch g w w') (hB : B ≤ w.heap.size) (hg : B ≤ g) : Below B w w' :=
  ⟨h.os, h.tape, h.output, h.size, fun k hk => h.block k (Nat.lt_of_lt_of_le hk hB) (by omega)⟩

def Takes (V A W Z : List Nat) (k B g nl cl d : Nat) (w : World) (e : Ending) (w' : World) : Prop := ∃ (W' : List Nat) (r : Nat), e = .returned (.int .u32 (r : Int)) ∧ r < 4294967296 ∧ (LessW V W → GuessIs V W d → r = val32 W / val32 V ∧ val32 (W'.take (k + 1)) = val32 W % val32 V) ∧ OwnQ .u32 41 B w' (.slice (some ⟨g, 0, none⟩) nl cl) (A ++ (W' ++ Z)) ∧ W'.length = k + 1 + 1 ∧ Lim W' ∧ Touch g w w'

theorem over_pos {x d v w P : Nat} (h : x + d * v = w + P) (hx : x < P) : 1 ≤ d := by
  rcases Nat.eq_zero_or_pos d with rfl | h1
  · rw [Nat.zero_mul] at h; omega
  · exact h1

theorem win_get {A W Z : List Nat} {t i : Nat} (ha : A.length = t) (hi : i < W.length) : (A ++ (W ++ Z))[t + i]?.getD 0 = W[i]?.getD 0 := by
  rw [List.getElem?_append_right (by omega), ha, Nat.add_sub_cancel_left, List.getElem?_append_left hi]
theorem win_set {A W Z : List Nat} {t i x : Nat} (ha : A.length = t) (hi : i < W.length) : (A ++ (W ++ Z)).set (t + i) x = A ++ (W.set i x ++ Z) := by
  rw [List.set_append_right _ _ (by omega), ha, Nat.add_sub_cancel_left, List.set_append_left _ _ hi]

set_option maxRecDepth 100000 in
set_option maxHeartbeats 2000000 in
theorem take_any (D t k nl cl cv B g d : Nat) (a2 : Option Addr) (L V A W Z : List Nat) (q : Value) (w : World)
    (h0 : w.cell? ⟨D, 0, none⟩ = some (.slice (some ⟨g, 0, none⟩) nl cl)) (h1 : w.cell? ⟨D, 1, none⟩ = some (.slice a2 (k + 1) cv)) (h2 : w.cell? ⟨D, 2, none⟩ = some q)
    (hO : OwnQ .u32 41 B w (.slice (some ⟨g, 0, none⟩) nl cl) L) (hV : Reads .u32 w a2 (k + 1) cv V) (hDg : D ≠ g) (hVg : ∀ ad, a2 = some ad → 0 < k + 1 → ad.block ≠ g)
    (hw : Window L A W Z t (k + 1)) (hg : GuessW V W k) (hdb : d < 4294967296) (ht : t + k + 2 ≤ nl) (hnl : nl ≤ 1000) :
    Calls Try.prog 79 #[.pointer (some ⟨D, 0, none⟩), .int .i64 (t : Int), .int .u32 (d : Int)] w (Takes V A W Z k B g nl cl d w) := by
  have hcap := hO.cap
  have hcm := hcap.2.2
  unfold maxLen at hcm
  have hcl : t + k + 2 ≤ cl := by omega
  have hLW : L = A ++ (W ++ Z) := hw.eq
  rw [hLW] at hO
  have HA := Lib.hid hw.alen
  have HG := Lib.hid hg
  have HO := Lib.hid hO
  have HV := Lib.hid hV
  have HVG := Lib.hid hVg
  have HDG := Lib.hid hDg
  have HNL := Lib.hid (show nl = (A ++ (W ++ Z)).length by rw [← hLW]; exact hcap.1)
  have HH0 := Lib.hid h0
  have HH1 := Lib.hid h1
  have HH2 := Lib.hid h2
  obtain ⟨s, hs⟩ : ∃ s, s = t + (k + 1) := ⟨_, rfl⟩
  have e1 : ((t : Int) + ((k : Int) + 1)) = (s : Int) := by omega
  have b1 : s + 1 ≤ nl := by omega
  have b2 : t ≤ s + 1 := by omega
  have hcz : ((cl : Int) == (t : Int)) = false := by simp; omega
  have e3 : s + 1 - t = k + 2 := by omega
  have HS := Lib.hid hs
  clear hs hO hV hVg hDg hw hg hLW hcap
  go_enter Try.func79, Try.ntmps79
  go_wp2
  go_big_quiet (fail)
  simp only [Exit.then]
  go_wp2
  go_loopw [7, 8, 35] (fun cv bv iv wr => ∃ (i c b : Nat) (W' : List Nat), iv = .int .i64 i ∧ cv = .int .u64 (c : Int) ∧ bv = .int .u32 (b : Int) ∧ i ≤ k + 1 ∧ Hid (Taken V W W' d i c b) ∧ OwnQ .u32 41 B wr (.slice (some ⟨g, 0, none⟩) nl cl) (A ++ (W' ++ Z)) ∧ Hid (Touch g w wr)) (fun _ _ iv _ => k + 1 - (intOf iv).toNat)
  case atStart => exact ⟨0, 0, 0, W, rfl, rfl, rfl, Nat.zero_le _, taken_start HG.out.wlim, HO.out, (Touch.refl g w).drewN _⟩
  case round =>
    obtain ⟨i, c, b, W', rfl, rfl, rfl, hi, hinv, hown, htch⟩ := hrel
    have hlen := hinv.out.len
    rw [HG.out.wlen] at hlen
    have HL := Lib.hid hlen
    have hN := Lib.hid (show nl = (A ++ (W' ++ Z)).length by rw [HNL.out]; simp [HL.out, HG.out.wlen])
    have i5 := hinv.out.carry
    have i6 := hinv.out.borrow
    have cD1 := htch.out.cellSome HH1.out HDG.out
    have cD0 := htch.out.cellSome HH0.out HDG.out
    by_cases hlt : i < k + 1
    · have hRV := htch.out.reads HV.out HVG.out
      obtain ⟨bb, off, rfl, hbk, hc2⟩ := hRV.cells (by omega)
      have hck := hc2 i hlt
      have hst := Lib.hid (taken_step hinv.out HG.out.vlim HG.out.wlim hdb (by rw [HG.out.vlen]; exact hlt) (by rw [HG.out.wlen, HG.out.vlen]))
      have hfr := hown.frozenAt hN.out (t + i)
      have hcell := hown.cellAt hN.out (t + i) (by omega)
      rw [win_get HA.out (by rw [HL.out]; omega)] at hcell
      have hx := lim_get HG.out.vlim i
      have hy := lim_get hinv.out.lim i
      have HO1 := Lib.hid hown
      clear hc2 hown hlen
      generalize V[i]?.getD 0 = x at *
      generalize W'[i]?.getD 0 = y at *
      have hcb := carry_bound i5 hdb hx
      have hmul : ((d : Int) * (x : Int)) = ((d * x : Nat) : Int) := by simp
      have hdn : d * x ≤ 18446744065119617025 := Nat.le_trans (Nat.mul_le_mul (show d ≤ 4294967295 by omega) (show x ≤ 4294967295 by omega)) (by decide)
      generalize d * x = p at hmul hdn hcb hst
      have hsum : ((c : Int) + (p : Int)) = ((c + p : Nat) : Int) := by omega
      have hs64 : c + p < 18446744073709551616 := by omega
      obtain ⟨hcb1, hcb2⟩ := hcb
      generalize c + p = s2 at hsum hs64 hcb2 hst
      have hmod : ((s2 : Int) % 4294967296) = ((s2 % 4294967296 : Nat) : Int) := by omega
      have hdiv : ((s2 : Int) / 4294967296) = ((s2 / 4294967296 : Nat) : Int) := by omega
      have hm2 : s2 % 4294967296 < 4294967296 := Nat.mod_lt _ (by decide)
      generalize s2 % 4294967296 = m at hmod hm2 hst
      generalize s2 / 4294967296 = c2 at hdiv hcb2 hst
      have hSB := Lib.hid (fun W0 => sub32_any y m b W0 hy hm2 i6)
      clear hcb1
      go_wp2_with (go_at_call 82; refine (hSB.out _).mono ?_; rintro e w' ⟨rfl, rfl⟩)
      go_roundw
      case rel =>
        have s1 := HO1.out.stored hN.out (t + i) (subD y m b) _ rfl
        rw [win_set HA.out (by rw [HL.out]; omega)] at s1
        exact ⟨i + 1, c2, subB y m b, W'.set i (subD y m b), by go_num, rfl, rfl, by omega, hst.out, s1.1, htch.out.setCell _ _⟩
      case measure => simp [intOf] <;> omega
    · obtain rfl : i = k + 1 := by omega
      have hst := Lib.hid (by
        have h1 := hinv.out
        rw [← HG.out.vlen] at h1
        exact taken_end h1 HG.out.wlim (by rw [HG.out.wlen, HG.out.vlen]))
      rw [HG.out.vlen] at hst
      have hfr := hown.frozenAt hN.out (t + (k + 1))
      have hcell := hown.cellAt hN.out (t + (k + 1)) (by omega)
      rw [win_get HA.out (by rw [HL.out]; omega)] at hcell
      have hy := lim_get hinv.out.lim (k + 1)
      have HO1 := Lib.hid hown
      clear hown hlen
      generalize W'[k + 1]?.getD 0 = y at *
      have hmod : ((c : Int) % 4294967296) = (c : Int) := by omega
      have hSB := Lib.hid (fun W0 => sub32_any y c b W0 hy i5 i6)
      have hb2 := hst.out.2.2.2
      have s1 := HO1.out.stored hN.out (t + (k + 1)) (subD y c b) _ rfl
      rw [win_set HA.out (by rw [HL.out]; omega)] at s1
      have T1 := Lib.hid (htch.out.setCell (t + (k + 1)) (.int .u32 (subD y c b : Nat)))
      have S1 := Lib.hid s1.1
      have cD2 := T1.out.cellSome HH1.out HDG.out
      clear s1 cD0
      have hcases : subB y c b = 0 ∨ subB y c b = 1 := by omega
      clear hb2
      rcases hcases with hz | hz
      · rw [hz] at hSB hst
        clear hz
        have hfin := Lib.hid (fun (hge : val32 W / val32 V ≤ d) => taken_fits (by have := hst.out.1; rwa [Nat.mul_zero, Nat.add_zero] at this) rfl hge HG.out.pos)
        go_wp2_with (go_at_call 82; refine (hSB.out _).mono ?_; rintro e w' ⟨rfl, rfl⟩)
        go_ret
        have hl := hst.out.2.1
        rw [HG.out.wlen] at hl
        refine ⟨_, d, rfl, hdb, fun _ hgi => ⟨(hfin.out hgi.1).1, ?_⟩, S1.out, hl, hst.out.2.2.1, T1.out⟩
        have h5 := (hfin.out hgi.1).2
        refine (low_window hst.out.2.2.1 hl (v := val32 V) ?_ ?_).trans ?_
        · have := valB_lt (b := 4294967296) (by decide) HG.out.vlim
          rwa [HG.out.vlen] at this
        · rw [h5]; exact Nat.mod_lt _ HG.out.pos
        · rw [h5, Nat.mod_mod]
      · rw [hz] at hSB hst
        clear hz
        go_wp2_with (go_at_call 82; refine (hSB.out _).mono ?_; rintro e w' ⟨rfl, rfl⟩)
        have hl2 := hst.out.2.1
        rw [HG.out.wlen] at hl2
        have HL2 := Lib.hid hl2
        have ST := Lib.hid (show val32 (W'.set (k + 1) (subD y c b)) + d * val32 V = val32 W + 4294967296 ^ (k + 1 + 1) by have := hst.out.1; rwa [Nat.mul_one] at this)
        have LM := Lib.hid hst.out.2.2.1
        clear hl2 hst hcell hfr hy hmod hSB i5 i6 cD1
        generalize W'.set (k + 1) (subD y c b) = W2 at *
        go_loopw [13, 91] (fun ov iv wr => ∃ (i o : Nat) (W3 : List Nat), iv = .int .i64 i ∧ ov = .int .u32 (o : Int) ∧ i ≤ k + 1 ∧ Hid (Back V W2 W3 i o) ∧ OwnQ .u32 41 B wr (.slice (some ⟨g, 0, none⟩) nl cl) (A ++ (W3 ++ Z)) ∧ Hid (Touch g w wr)) (fun _ iv _ => k + 1 - (intOf iv).toNat)
        case atStart => exact ⟨0, 0, W2, rfl, rfl, Nat.zero_le _, back_start LM.out, S1.out, T1.out⟩
        case round =>
          obtain ⟨i, o, W3, rfl, rfl, hi, hinv3, hown3, htch3⟩ := hrel
          have hlen3 := hinv3.out.len
          rw [HL2.out] at hlen3
          have HL3 := Lib.hid hlen3
          have hN3 := Lib.hid (show nl = (A ++ (W3 ++ Z)).length by rw [HNL.out]; simp [HL3.out, HG.out.wlen])
          have i7 := hinv3.out.over
          by_cases hlt3 : i < k + 1
          · have hRV := htch3.out.reads HV.out HVG.out
            obtain ⟨bb, off, rfl, hbk, hc2⟩ := hRV.cells (by omega)
            have hck := hc2 i hlt3
            have hst3 := Lib.hid (back_step hinv3.out HG.out.vlim (by rw [HG.out.vlen]; exact hlt3) (by rw [HL2.out, HG.out.vlen]))
            have hfr := hown3.frozenAt hN3.out (t + i)
            have hcell := hown3.cellAt hN3.out (t + i) (by omega)
            rw [win_get HA.out (by rw [HL3.out]; omega)] at hcell
            have hx := lim_get HG.out.vlim i
            have hy := lim_get hinv3.out.lim i
            have HO3 := Lib.hid hown3
            clear hc2 hown3 hlen3 hlt
            generalize V[i]?.getD 0 = x at *
            generalize W3[i]?.getD 0 = y3 at *
            have hAD := Lib.hid (fun W0 => add32_any y3 x o W0 hy hx i7)
            go_wp2_with (go_at_call 88; refine (hAD.out _).mono ?_; rintro e w' ⟨rfl, rfl⟩)
            go_roundw
            case rel =>
              have s1 := HO3.out.stored hN3.out (t + i) ((y3 + x + o) % 4294967296) _ rfl
              rw [win_set HA.out (by rw [HL3.out]; omega)] at s1
              exact ⟨i + 1, (y3 + x + o) / 4294967296, W3.set i ((y3 + x + o) % 4294967296), by go_num, rfl, by omega, hst3.out, s1.1, htch3.out.setCell _ _⟩
            case measure => simp [intOf] <;> omega
          · obtain rfl : i = k + 1 := by omega
            have hVl := valB_lt (b := 4294967296) (by decide) HG.out.vlim
            rw [HG.out.vlen] at hVl
            have hbk := hinv3.out.val
            rw [List.take_of_length_le (l := V) (by rw [HG.out.vlen]; exact Nat.le_refl _)] at hbk
            have hfin := Lib.hid (fun (hle : d ≤ val32 W / val32 V + 1) => taken_over ST.out rfl hle HG.out.pos LM.out HL2.out hinv3.out.lim hVl HL3.out hbk)
            have hd1 : 1 ≤ d := over_pos ST.out (by have := valB_lt (b := 4294967296) (by decide) LM.out; rwa [HL2.out] at this)
            obtain ⟨d', rfl⟩ : ∃ d', d = d' + 1 := ⟨d - 1, by omega⟩
            have HO3 := Lib.hid hown3
            clear hVl hbk hlen3 hown3 hlt
            go_wp2
            go_ret
            exact ⟨W3, d', rfl, by omega, fun _ hgi => ⟨by have := (hfin.out hgi.2.1).1; exact Nat.succ.inj this, (hfin.out hgi.2.1).2⟩, HO3.out, HL3.out, hinv3.out.lim, htch3.out⟩

end Go.Proofs.Ytebfoalcmnpghaa
