/-
  Texts of ours, one behind the other: Qb1 QbK QbL Qb2 Mk3 Mk4 SeqM MkS
-/
import Derived.Test.YtcdglhmapijebaaDoorPk1
import Derived.Test.YtcdglhmapijebaaDoorPk2
import Derived.Test.YtcdglhmapijebaaDoorPk3
import Derived.Laws.IdiomCopy
import Derived.Deep.RegionHeld
import Derived.OrdersHeld
import Derived.Laws.Tables
import Derived.BigQuiet
import Derived.Deep.QuietTactic
import Derived.Laws.EntriesVeiled
import Derived.Laws.ResultCell
import Derived.Lib.SmallJoins
set_option linter.unusedVariables false
set_option linter.unusedSimpArgs false

namespace Go.Proofs.YtcdglhmapijebaaDoor.L5
open Go.RowKit Go.Shelf
set_option maxRecDepth 100000

theorem _root_.Go.Proofs.YtcdglhmapijebaaDoor.Reads.from5 {q : IntKind} {w : World} {a : Option Addr} {len cap : Nat} {l : List Nat} (h : Reads q w a len cap l) (k : Nat) (hk : k ≤ len) : Reads q w (if cap = k then a else a.map (·.add k)) (len - k) (cap - k) (l.drop k) := by
  have := h.sub k len hk (Nat.le_refl _)
  rwa [List.take_of_length_le (by rw [h.length]; exact Nat.le_refl _)] at this
theorem join_take {m : List Nat} (k a l : Nat) : (m.drop k).take a ++ (m.drop (k + a)).take l = (m.drop k).take (a + l) := by
  rw [List.take_add, List.drop_drop]
theorem all_lt {l m : List Nat} {b : Nat} (h : ∀ x ∈ l, x < b) (k : ∀ x ∈ m, x < b) : ∀ x ∈ l ++ m, x < b := fun x hx => by
  rcases List.mem_append.1 hx with hx | hx
  · exact h x hx
  · exact k x hx
def slLen : Value → Nat
  | .slice _ m _ => m
  | _ => 0
/-- With so many blocks done. -/
def SemW (bt : Nat) (M : List Nat) (k0 s q : Nat) (ws tail : List Nat) (at' : Nat) : Prop := ws = wsK bt M q ∧ k0 + s = 128 * q + at' ∧ tail.take at' = (M.drop (128 * q)).take at'
theorem SemW.start {bt : Nat} {m0 bl ws tail : List Nat} (h : FinP bt m0 ws tail) : SemW bt (m0 ++ bl) m0.length 0 (m0.length / 128) ws tail (m0.length % 128) := by
  refine ⟨?_, by omega, ?_⟩
  · rw [h.1]
    exact wsK_ext _ (by rw [List.take_append_of_le_length (by omega)])
  · rw [h.2, List.drop_append_of_le_length (by omega), List.take_append_of_le_length (by rw [List.length_drop]; omega), List.take_of_length_le (by rw [List.length_drop]; omega)]
theorem SemW.next {bt s q at' : Nat} {m0 bl ws tail : List Nat} (h : SemW bt (m0 ++ bl) m0.length s q ws tail at') (ht : tail.length = 128) (ha : at' < 128) (hs : s ≤ bl.length) (hm : 128 ≤ at' + (bl.length - s)) :
    SemW bt (m0 ++ bl) m0.length (s + (128 - at')) (q + 1) (turnN ws (laidIn tail (bl.drop s) at')) (laidIn tail (bl.drop s) at') 0 := by
  obtain ⟨h1, h2, h3⟩ := h
  have hl : ((bl.drop s).take (128 - at')).length = 128 - at' := by rw [List.length_take, List.length_drop]; omega
  have hd : laidIn tail (bl.drop s) at' = ((m0 ++ bl).drop (128 * q)).take 128 := by
    unfold laidIn
    rw [hl, show tail.drop (at' + (128 - at')) = [] from List.drop_of_length_le (by omega), List.append_nil, h3, piece_eq (m0 := m0) s (128 - at'), h2, join_take, show at' + (128 - at') = 128 by omega]
  refine ⟨?_, by omega, rfl⟩
  rw [hd, h1]
  rfl
theorem SemW.fin {bt s q at' : Nat} {m0 bl ws tail : List Nat} (h : SemW bt (m0 ++ bl) m0.length s q ws tail at') (ht : tail.length = 128) (hs : s ≤ bl.length) (hm : at' + (bl.length - s) < 128) :
    FinP bt (m0 ++ bl) ws (laidIn tail (bl.drop s) at') := by
  obtain ⟨h1, h2, h3⟩ := h
  have hM : (m0 ++ bl).length = 128 * q + (at' + (bl.length - s)) := by rw [List.length_append]; omega
  have e1 : (m0 ++ bl).length / 128 = q := by omega
  have e2 : (m0 ++ bl).length % 128 = at' + (bl.drop s).length := by rw [List.length_drop]; omega
  refine ⟨by rw [e1]; exact h1, ?_⟩
  rw [e1, e2, laidIn_take ht (by rw [List.length_drop]; omega), h3]
  have hp := piece_eq (m0 := m0) (bl := bl) s (bl.length - s)
  rw [List.take_of_length_le (by rw [List.length_drop]; omega)] at hp
  rw [hp, h2, join_take, List.take_of_length_le (by rw [List.length_drop]; omega)]
/-- 'copy(s.tail[at:], b)'. -/
theorem StateAt.lay {w : World} {g bt : Nat} {ws tail : List Nat} {T : Nat} (h : StateAt w g bt ws tail T) (p : List Nat) (hp : ∀ x ∈ p, x < 256) (at' : Nat) (ha : at' < 128) (a : Option Addr) (l c : Nat) (hr : Reads .u8 w a l c p) (n : Nat) (hn : n = (p.take (128 - at')).length) :
    ∃ w', (Builtin.copy_ #[22, 22] 3 #[.slice (some ⟨g, 9 + at', none⟩) (128 - at') (128 - at'), .slice a l c]).run Tryd.prog w = .ok (.int .i64 (n : Int)) w' ∧ StateAt w' g bt ws (laidIn tail p at') T ∧ w.grownBy w' (some g) := by
  subst hn
  rcases Nat.eq_zero_or_pos l with rfl | hpos
  · have hp0 : p = [] := List.eq_nil_of_length_eq_zero hr.length
    subst hp0
    refine ⟨w, ?_, ?_, ⟨rfl, rfl, rfl, Nat.le_refl _, fun _ _ _ => rfl⟩⟩
    · have := run_copy_none (P := Tryd.prog) w 22 22 3 5 (some ⟨g, 9 + at', none⟩) a (128 - at') (128 - at') 0 c Tryd.underlying22 (by kernel_rfl) (Nat.zero_min _)
      rw [this]
      simp [goInt]
    · have e : laidIn tail [] at' = tail := by unfold laidIn; simp
      rw [e]
      exact h
  · obtain ⟨b, o, rfl, -, -⟩ := hr.cells hpos
    obtain ⟨h1, h2⟩ := h.splice p hp at' (Nat.le_of_lt ha) b o l c hr
    exact ⟨_, h1, h2, grown_setRow ⟨rfl, rfl, rfl, Nat.le_refl _, fun _ _ _ => rfl⟩ _⟩

set_option maxRecDepth 100000 in
set_option maxHeartbeats 4000000 in
theorem write_core (g bt : Nat) (ws tail m0 bl : List Nat) (a : Option Addr) (n c : Nat) (w : World) (h : StateAt w g bt ws tail m0.length) (hf : FinP bt m0 ws tail) (hbt : bt ≠ 0) (hr : Reads .u8 w a n c bl) (hb : ∀ x ∈ bl, x < 256) (hlen : m0.length + n < 2305843009213693952) (hne : 0 < n → ∀ ad, a = some ad → ad.block ≠ g) :
    Calls Tryd.prog 49 #[.pointer (some ⟨g, 0, none⟩), .slice a n c] w fun e w' => e = .returned (.tuple #[]) ∧ (∃ ws' tail', StateAt w' g bt ws' tail' (m0 ++ bl).length ∧ FinP bt (m0 ++ bl) ws' tail') ∧ w.grownBy w' (some g) := by
  have h0 : Tryd.f49.results = #[] := by kernel_rfl
  have H0 := Lib.hid h0
  have H := Lib.hid h
  have HR := Lib.hid hr
  have HB := Lib.hid hb
  have HN := Lib.hid hne
  have HF := Lib.hid hf
  have hnl := Lib.hid hr.length
  obtain ⟨T0, hT0⟩ : ∃ T, T = m0.length := ⟨_, rfl⟩
  obtain ⟨at0, hat0⟩ : ∃ x, x = T0 % 128 := ⟨_, rfl⟩
  have hatc : (T0 : Int) % 128 = (at0 : Int) := by omega
  have hat128 : at0 < 128 := by omega
  have hst := h
  rw [← hT0] at hst hlen
  have HST := Lib.hid hst
  have cT := hst.taken
  have fT := hst.frozen 137
  obtain ⟨T1, hT1⟩ : ∃ T, T = T0 + n := ⟨_, rfl⟩
  have hsum : (T0 : Int) + (n : Int) = (T1 : Int) := by omega
  have hT1b : T1 < 2305843009213693952 := by omega
  have hT0b : T0 < 2305843009213693952 := by omega
  have hnb : n < 2305843009213693952 := by omega
  have HT0 := Lib.hid hT0
  have HT1 := Lib.hid hT1
  have HAT0 := Lib.hid hat0
  clear h hr hb hne hf h0 hT0 hT1 hat0 hst hlen
  go_enter Tryd.func49, Tryd.ntmps49
  go_wp2_with fail
  refine (made_yes g bt ws tail T0 w HST.out hbt).mono ?_
  rintro e w1 ⟨rfl, rfl⟩
  go_wp2_with fail
  have hg1 := Lib.hid (grown_set (x := w) (y := w) (g := g) ⟨rfl, rfl, rfl, Nat.le_refl _, fun _ _ _ => rfl⟩ 137 (.int .u64 (T1 : Int)))
  have hs1 := Lib.hid (HST.out.setTaken T1 (T1 : Int) rfl)
  have hr1 := Lib.hid (HR.out.grownNe5 hg1.out (fun hp ad e h => HN.out hp ad e (Option.some.inj h)))
  have hsem := Lib.hid (SemW.start (bl := bl) HF.out)
  clear cT fT hatc hsum
  generalize w.setCell ⟨g, 137, none⟩ (.int .u64 (T1 : Int)) = w1 at *
  go_loopw [1, 4] (fun bv av wr => ∃ (s m c' at' q : Nat) (a' : Option Addr), bv = .slice a' m c' ∧ av = .int .i64 (at' : Int) ∧ at' < 128 ∧ m < 2305843009213693952 ∧ c' ≤ 9223372036854775807 ∧ Hid (s + m = n ∧ Reads .u8 wr a' m c' (bl.drop s) ∧ (0 < m → ∀ ad, a' = some ad → ad.block ≠ g) ∧ (∃ ws tail, StateAt wr g bt ws tail T1 ∧ SemW bt (m0 ++ bl) m0.length s q ws tail at') ∧ w.grownBy wr (some g))) (fun bv _ _ => slLen bv)
  case atStart => exact ⟨0, n, c, at0, m0.length / 128, a, rfl, rfl, hat128, hnb, by have := hr1.out.max; unfold maxLen at this; omega, by omega, hr1.out, HN.out, ⟨ws, tail, hs1.out, by rw [HAT0.out, HT0.out]; exact hsem.out⟩, hg1.out⟩
  case round =>
    obtain ⟨s, m, c', at', q, a', rfl, rfl, hat, hmb, hcb, hI⟩ := hrel
    obtain ⟨hsm, hrd, hblk, ⟨wz, tz, hst, hsm2⟩, hgr⟩ := hI.out
    have HSM := Lib.hid hsm
    have HRD := Lib.hid hrd
    have HBLK := Lib.hid hblk
    have HS := Lib.hid hst
    have HSEM := Lib.hid hsm2
    have HGR := Lib.hid hgr
    have HBP := Lib.hid (show ∀ x ∈ bl.drop s, x < 256 from fun x hx => HB.out x (List.mem_of_mem_drop hx))
    clear hsm hrd hblk hst hsm2 hgr hI hg1 hs1 hr1 hsem
    have hsl := slice_tail g at' hat
    by_cases hc : 128 ≤ at' + m
    · have hd : decide (128 ≤ (at' : Int) + (m : Int)) = true := by simp; omega
      obtain ⟨u, hu⟩ : ∃ u, u = 128 - at' := ⟨_, rfl⟩
      have hu1 : 1 ≤ u := by omega
      have hu2 : u ≤ 128 := by omega
      have hum : u ≤ m := by omega
      have hlu : ((bl.drop s).take (128 - at')).length = u := by
        have := HSM.out
        have := hnl.out
        rw [List.length_take, List.length_drop]
        omega
      obtain ⟨w2, hcp, hs2, hg2⟩ := HS.out.lay (bl.drop s) HBP.out at' hat a' m c' HRD.out u hlu.symm
      have HS2 := Lib.hid hs2
      have HG2 := Lib.hid hg2
      have HU := Lib.hid hu
      obtain ⟨blk, o, rfl, -, -⟩ := HRD.out.cells (by omega)
      have hfr := HRD.out.from5 u hum
      rw [List.drop_drop] at hfr
      have hc1 := HRD.out.le
      have HC := Lib.hid hc
      clear hs2 hg2 hu hlu hc
      by_cases hck : c' = u
      · have hck2 := hck.symm
        clear hck
        subst hck2
        rw [if_pos rfl, Nat.sub_self, show m - u = 0 by omega] at hfr
        have HFR := Lib.hid hfr
        have HM0 := Lib.hid (show m = u by omega)
        clear hfr
        go_wp2_with fail
        refine (turn_any g bt wz (laidIn tz (bl.drop s) at') T1 w2 HS2.out).mono ?_
        rintro e w3 ⟨rfl, hs3, hg3⟩
        have HS3 := Lib.hid hs3
        have HG3 := Lib.hid (grown_trans HG2.out hg3)
        clear hs3 hg3 hcp hsl
        go_wp2
        go_roundw
        case rel => exact ⟨s + u, 0, 0, 0, q + 1, _, rfl, by go_num, by decide, by decide, by decide, by have := HSM.out; have := HM0.out; omega, (HFR.out.grownNe5 HG3.out (fun h => by omega)), (fun h => by omega), ⟨_, _, HS3.out, by have := HSEM.out.next HS.out.tlen hat (by have := HSM.out; have := hnl.out; omega) (by have := HSM.out; have := hnl.out; have := HC.out; omega); rw [HU.out]; exact this⟩, grown_trans HGR.out HG3.out⟩
        case measure => simp [slLen]; omega
      · rw [if_neg hck, show ((some ⟨blk, o, none⟩ : Option Addr).map (·.add u)) = some ⟨blk, o + u, none⟩ by simp only [Option.map_some]; congr 1; unfold Addr.add; split <;> simp_all] at hfr
        have HFR := Lib.hid hfr
        clear hfr
        go_wp2_with fail
        refine (turn_any g bt wz (laidIn tz (bl.drop s) at') T1 w2 HS2.out).mono ?_
        rintro e w3 ⟨rfl, hs3, hg3⟩
        have HS3 := Lib.hid hs3
        have HG3 := Lib.hid (grown_trans HG2.out hg3)
        clear hs3 hg3 hcp hsl
        go_wp2
        go_roundw
        case rel => exact ⟨s + u, m - u, c' - u, 0, q + 1, _, rfl, by go_num, by decide, by omega, by omega, by have := HSM.out; omega, (HFR.out.grownNe5 HG3.out (fun h ad e => by cases e; intro e2; exact HBLK.out (by omega) ⟨blk, o, none⟩ rfl (Option.some.inj e2))), (fun h ad e => by cases e; exact HBLK.out (by omega) ⟨blk, o, none⟩ rfl), ⟨_, _, HS3.out, by have := HSEM.out.next HS.out.tlen hat (by have := HSM.out; have := hnl.out; omega) (by have := HSM.out; have := hnl.out; have := HC.out; omega); rw [HU.out]; exact this⟩, grown_trans HGR.out HG3.out⟩
        case measure => simp [slLen]; omega
    · have hd : decide (128 ≤ (at' : Int) + (m : Int)) = false := by simp; omega
      have HC := Lib.hid hc
      clear hc
      obtain ⟨u, hu⟩ : ∃ u, u = ((bl.drop s).take (128 - at')).length := ⟨_, rfl⟩
      obtain ⟨w2, hcp, hs2, hg2⟩ := HS.out.lay (bl.drop s) HBP.out at' hat a' m c' HRD.out u hu
      have HS2 := Lib.hid hs2
      have HG2 := Lib.hid hg2
      clear hs2 hg2 hu
      go_wp2
      refine bodyPost_end (v := .tuple #[]) (by simp [results, H0.out]) rfl ?_
      refine ⟨rfl, ⟨wz, _, ?_, HSEM.out.fin HS.out.tlen (by have := HSM.out; have := hnl.out; omega) (by have := HSM.out; have := hnl.out; have := HC.out; omega)⟩, grown_trans HGR.out HG2.out⟩
      rw [List.length_append, hnl.out, ← HT0.out, ← HT1.out]
      exact HS2.out

theorem write_any (g bt : Nat) (m0 bl : List Nat) (a : Option Addr) (n c : Nat) (w : World) (h : StateOf w g bt m0) (hbt : bt ≠ 0) (hr : Reads .u8 w a n c bl) (hb : ∀ x ∈ bl, x < 256) (hlen : m0.length + n < 1152921504606846976) (hne : 0 < n → ∀ ad, a = some ad → ad.block ≠ g) :
    Calls Tryd.prog 49 #[.pointer (some ⟨g, 0, none⟩), .slice a n c] w fun e w' => e = .returned (.tuple #[]) ∧ StateOf w' g bt (m0 ++ bl) ∧ w.grownBy w' (some g) := by
  obtain ⟨ws, tail, hst, hfin, -, hm0⟩ := h
  have hnl := hr.length
  exact (write_core g bt ws tail m0 bl a n c w hst hfin hbt hr hb (by omega) hne).mono fun _ _ ⟨h1, ⟨ws', tail', h2, h3⟩, h4⟩ => ⟨h1, ⟨ws', tail', h2, h3, by rw [List.length_append]; omega, all_lt hm0 hb⟩, h4⟩

end Go.Proofs.YtcdglhmapijebaaDoor.L5

namespace Go.Proofs.YtcdglhmapijebaaDoor.L5
open Go.RowKit Go.Shelf
set_option maxRecDepth 100000

set_option maxHeartbeats 1000000 in
theorem start512_any (T : Nat) (w : World) : Calls Tryd.prog 70 #[.pointer (some ⟨T, 0, none⟩), .int .i64 512] w fun e w' => e = .returned (.slice (some ⟨T, 80, none⟩) 8 16) ∧ w = w' := by
  go_enter Tryd.func70, Tryd.ntmps70
  go_wp2
  go_ret
  exact ⟨rfl, rfl⟩
set_option maxHeartbeats 1000000 in
theorem start384_any (T : Nat) (w : World) : Calls Tryd.prog 70 #[.pointer (some ⟨T, 0, none⟩), .int .i64 384] w fun e w' => e = .returned (.slice (some ⟨T, 88, none⟩) 8 8) ∧ w = w' := by
  go_enter Tryd.func70, Tryd.ntmps70
  go_wp2
  go_ret
  exact ⟨rfl, rfl⟩

theorem known_yes (bt : Nat) (h : bt = 384 ∨ bt = 512) (w : World) : Calls Tryd.prog 68 #[.int .i64 (bt : Int)] w fun e w' => e = .returned (.bool true) ∧ w = w' := by
  rcases h with rfl | rfl
  · go_enter Tryd.func68, Tryd.ntmps68
    go_wp2
    go_ret
    exact ⟨rfl, rfl⟩
  · go_enter Tryd.func68, Tryd.ntmps68
    go_wp2
    go_ret
    exact ⟨rfl, rfl⟩
theorem slice_words (g : Nat) (W : World) : (Instr.sliceAt 104 (.pointer (some ⟨g, 1, none⟩)) none none none).run Tryd.prog W = .ok (.slice (some ⟨g, 1, none⟩) 8 8) W := by
  have hl : Tryd.prog.arrayLen 104 = 8 := by kernel_rfl
  have hs : ∀ w, (sizeOf (Tryd.prog.elem 104)).run Tryd.prog w = .ok 1 w := fun _ => by kernel_rfl
  rw [run_sliceAt_array_all W 104 ⟨g, 1, none⟩ (by kernel_rfl), hs]
  show Result.ok (slicedAt ⟨g, 1, none⟩ 0 (Tryd.prog.arrayLen 104) (Tryd.prog.arrayLen 104) 1) W = _
  rw [hl]
  rfl
theorem tab_cell (w : World) (T i : Nat) (hT : w.heap[T]? = some (.cells tabC 123 (0, 0))) (hi : i < 96) : w.cell? ⟨T, i, none⟩ = some (.int .u64 ((g0 (kL ++ startL) i : Nat) : Int)) := by
  rw [cell_of_row w T i _ _ _ hT]
  exact arrC_get .u64 (kL ++ startL) i hi
theorem start_copy (w : World) (g T o bt cc : Nat) (hg : w.heap[g]? = some (.cells (stL bt (List.replicate 8 0) (List.replicate 128 0) 0).toArray 120 (0, 0))) (hT : w.heap[T]? = some (.cells tabC 123 (0, 0))) (ho : o + 8 ≤ 96) (hst : ((kL ++ startL).drop o).take 8 = startN bt) :
    (Builtin.copy_ #[125, 125] 3 #[.slice (some ⟨g, 1, none⟩) 8 8, .slice (some ⟨T, o, none⟩) 8 cc]).run Tryd.prog w = .ok (goInt 8) (w.setRow g (stL bt (startN bt) (List.replicate 128 0) 0).toArray) := by
  have hl : ((startN bt).map (num .u64)).length = 8 := by rw [List.length_map, startN_len]
  have := run_copy_row Tryd.prog w 125 125 3 99 g 1 8 8 ⟨T, o, none⟩ 8 cc _ _ ((startN bt).map (num .u64)) Tryd.underlying125 (by kernel_rfl) hg (by rw [hl]; rfl) (fun j v hv => by
    have hj : j < 8 := by
      have := (List.getElem?_eq_some_iff.1 hv).1
      rwa [hl] at this
    have e : (⟨T, o, none⟩ : Addr).add j = ⟨T, o + j, none⟩ := by unfold Addr.add; split <;> simp_all
    rw [e, tab_cell w T (o + j) hT (by omega)]
    rw [List.getElem?_map, ← hst, List.getElem?_take, if_pos hj, List.getElem?_drop] at hv
    have hlt : o + j < (kL ++ startL).length := by
      have : (kL ++ startL).length = 96 := rfl
      omega
    rw [List.getElem?_eq_getElem hlt] at hv
    simp only [Option.map_some, Option.some.injEq] at hv
    rw [← hv, g0, List.getElem?_eq_getElem hlt]
    rfl) (by rw [hl]; simp [stL]) (fun u hu => nums_oneCell .u64 _ u hu)
  rw [hl] at this
  rw [this]
  congr 2

theorem wpList_buildV {ops : Array Oper} {rest : List Oper} {o : Oper} {a : Act} {w : World} {Q : Exit → Act → World → Prop} (hg : o.guard = none) (t : TypeId) (parts : Array (Nat × Operand)) (ho : o.op = .build t parts) (cs : Array Value)
    (hv : Tryd.prog.built t (parts.map fun (i, x) => (i, a.eval x)).toList = some cs) (h : wpList Tryd.prog ops Q rest (a.put o.dst (.agg cs)) w) : wpList Tryd.prog ops Q (o :: rest) a w :=
  wpList_build hg t parts ho (by rw [hv]; rfl) (by rw [hv]; exact h)

/-- A state as it is built. -/
def st0 (bt : Nat) : Array Value := (stL bt (List.replicate 8 0) (List.replicate 128 0) 0).toArray
set_option maxRecDepth 100000 in
set_option maxHeartbeats 2000000 in
theorem new512_any (w : World) : Calls Tryd.prog 48 #[.int .i64 512] w fun e w' => e = .returned (.tuple #[.pointer (some ⟨w.heap.size, 0, none⟩), .int .i64 0]) ∧ StateOf w' w.heap.size 512 [] ∧ Below w.heap.size w w' := by
  have hz : ∀ w, (zeroValue 123).run Tryd.prog w = .ok (.agg (arrC .u64 (List.replicate 96 0))) w := fun _ => by kernel_rfl
  go_enter Tryd.func48, Tryd.ntmps48
  go_wp2_with fail
  refine (known_yes 512 (by decide) w).mono ?_
  rintro e w1 ⟨rfl, rfl⟩
  go_wp2_with (refine wpList_buildV rfl _ _ rfl (st0 512) (by kernel_rfl) ?_)
  have hg1 := Lib.hid (Go.heap_alloc_new w (.cells (st0 512) 120))
  have hB1 := Lib.hid (Below.alloc (Below.refl w.heap.size w) (Nat.le_refl _) (.cells (st0 512) 120))
  have hs1 := Lib.hid ((Array.getElem?_eq_some_iff.1 hg1.out).1)
  generalize w.alloc (.cells (st0 512) 120) = w1 at *
  refine (written_any w1).mono ?_
  rintro e w2 ⟨rfl, rfl⟩
  have hg2 := Lib.hid ((Below.heap_alloc w1 (.cells tabC 123) _ hs1.out).trans hg1.out)
  have hB2 := Lib.hid (Below.alloc hB1.out (Nat.le_of_lt hs1.out) (.cells tabC 123))
  have hs2 := Lib.hid ((Array.getElem?_eq_some_iff.1 hg2.out).1)
  generalize w1.alloc (.cells tabC 123) = w2 at *
  clear hg1 hB1 hs1
  go_wp2_with (refine wpList_store_row rfl _ _ _ rfl w2.heap.size tabC rfl (by kernel_rfl) 123 _ (Go.heap_alloc_new w2 _) (by kernel_rfl) (by kernel_rfl) tabC_one ?_)
  rw [alloc_setRow]
  have hg3 := Lib.hid ((Below.heap_alloc w2 (.cells tabC 123) _ hs2.out).trans hg2.out)
  have hT3 := Lib.hid (Go.heap_alloc_new w2 (.cells tabC 123))
  have hB3 := Lib.hid (Below.alloc hB2.out (Nat.le_of_lt hs2.out) (.cells tabC 123))
  generalize hTE : w2.heap.size = T at *
  generalize w2.alloc (.cells tabC 123) = w3 at *
  have hsl := slice_words w.heap.size
  have hgE := hs2
  clear hg2 hB2 hTE hs2
  generalize hge : w.heap.size = g at *
  have hcp := start_copy w3.drew g T 80 512 16 hg3.out hT3.out (by decide) rfl
  have HGE := Lib.hid hge
  clear hge
  go_wp2_with fail
  refine wp_region_held_drew (S := fun _ => True) (by kernel_rfl) trivial (fun hHeld => ?_)
  refine' wpAnyH_take (i := 0) (oi := _) (v := _) rfl (by kernel_rfl) (by kernel_rfl) (by kernel_rfl) (fun _ _ _ h => h) (Or.inl ⟨?_, ?_⟩) (by assumption) ?_
  rotate_left
  all_goals (try simp only [List.getElem_toArray, List.getElem_cons_succ, List.getElem_cons_zero])
  · rfl
  · intro W hSw; (try dsimp only at hSw); go_simp; (try with_reducible rfl)
  try simp only [Act.put, List.setIfInBounds_toArray, List.set_cons_zero, List.set_cons_succ]
  refine' wpAnyH_take (i := 1) (oi := _) (v := _) rfl (by kernel_rfl) (by kernel_rfl) (by kernel_rfl) (fun _ _ _ h => h) (Or.inl ⟨?_, ?_⟩) (by assumption) ?_
  rotate_left
  all_goals (try simp only [List.getElem_toArray, List.getElem_cons_succ, List.getElem_cons_zero])
  · rfl
  · intro W hSw; (try dsimp only at hSw); go_simp; (try with_reducible rfl)
  try simp only [Act.put, List.setIfInBounds_toArray, List.set_cons_zero, List.set_cons_succ]
  refine' wpAnyH_take (i := 2) (oi := _) (v := _) rfl (by kernel_rfl) (by kernel_rfl) (by kernel_rfl) (fun _ _ _ h => h) (Or.inl ⟨?_, ?_⟩) (by assumption) ?_
  rotate_left
  all_goals (try simp only [List.getElem_toArray, List.getElem_cons_succ, List.getElem_cons_zero])
  · rfl
  · intro W hSw; (try dsimp only at hSw); go_simp; (try with_reducible rfl)
  try simp only [Act.put, List.setIfInBounds_toArray, List.set_cons_zero, List.set_cons_succ]
  refine' wpAnyH_take (i := 3) (oi := _) (v := _) rfl (by kernel_rfl) (by kernel_rfl) (by kernel_rfl) (fun _ _ _ h => h) (Or.inl ⟨?_, ?_⟩) (by assumption) ?_
  rotate_left
  all_goals (try simp only [List.getElem_toArray, List.getElem_cons_succ, List.getElem_cons_zero])
  · rfl
  · intro W hSw; (try dsimp only at hSw); go_simp; (try with_reducible rfl)
  try simp only [Act.put, List.setIfInBounds_toArray, List.set_cons_zero, List.set_cons_succ]
  refine' wpAnyH_take (i := 4) (oi := _) (v := _) rfl (by kernel_rfl) (by kernel_rfl) (by kernel_rfl) (fun _ _ _ h => h) (Or.inl ⟨?_, ?_⟩) (by assumption) ?_
  rotate_left
  all_goals (try simp only [List.getElem_toArray, List.getElem_cons_succ, List.getElem_cons_zero])
  · rfl
  · intro W hSw; (try dsimp only at hSw); go_simp; (try with_reducible rfl)
  try simp only [Act.put, List.setIfInBounds_toArray, List.set_cons_zero, List.set_cons_succ]
  refine wpAnyH_ready (rs := [5]) (by kernel_rfl) (by simp) ?_
  refine AllReadyH.cons (o := _) rfl (fun K hK => ?_) AllReadyH.nil
  try simp only [List.getElem_toArray, List.getElem_cons_succ, List.getElem_cons_zero]
  go_simp
  refine (start512_any _ _).mono ?_; rintro e w5 ⟨rfl, rfl⟩
  go_wp2_with fail
  refine hK.out _ _ trivial (fun hHeld => ?_)
  clear hK K
  try simp only [Act.put, List.setIfInBounds_toArray, List.set_cons_zero, List.set_cons_succ]
  refine wpAnyH_ready (rs := [6]) (by kernel_rfl) (by simp) ?_
  refine AllReadyH.cons (o := _) rfl (fun K hK => ?_) AllReadyH.nil
  try simp only [List.getElem_toArray, List.getElem_cons_succ, List.getElem_cons_zero]
  go_simp
  refine hK.out _ _ trivial (fun hHeld => ?_)
  clear hK K
  try simp only [Act.put, List.setIfInBounds_toArray, List.set_cons_zero, List.set_cons_succ]
  refine wpAnyH_done (by kernel_rfl) ?_ _
  go_wp2
  go_ret2
  rw [HGE.out]
  have hgr : w3.grownBy (w3.drew.setRow g (stL 512 (startN 512) (List.replicate 128 0) 0).toArray) (some g) := grown_setRow (grown_drew (x := w3) (y := w3) ⟨rfl, rfl, rfl, Nat.le_refl _, fun _ _ _ => rfl⟩) _
  exact ⟨rfl, ⟨startN 512, List.replicate 128 0, ⟨setRow_heap _ g _ _ _ _ hg3.out, startN_len _, by simp, startN_lt _, fun x hx => by have := List.eq_of_mem_replicate hx; omega⟩, ⟨rfl, rfl⟩, by decide, fun x hx => by simp at hx⟩, hB3.out.grown hgr (Nat.le_of_lt (Array.getElem?_eq_some_iff.1 hg3.out).1) (fun k hk => by cases hk; exact Nat.le_refl _)⟩

set_option maxRecDepth 100000 in
set_option maxHeartbeats 2000000 in
theorem new384_any (w : World) : Calls Tryd.prog 48 #[.int .i64 384] w fun e w' => e = .returned (.tuple #[.pointer (some ⟨w.heap.size, 0, none⟩), .int .i64 0]) ∧ StateOf w' w.heap.size 384 [] ∧ Below w.heap.size w w' := by
  have hz : ∀ w, (zeroValue 123).run Tryd.prog w = .ok (.agg (arrC .u64 (List.replicate 96 0))) w := fun _ => by kernel_rfl
  go_enter Tryd.func48, Tryd.ntmps48
  go_wp2_with fail
  refine (known_yes 384 (by decide) w).mono ?_
  rintro e w1 ⟨rfl, rfl⟩
  go_wp2_with (refine wpList_buildV rfl _ _ rfl (st0 384) (by kernel_rfl) ?_)
  have hg1 := Lib.hid (Go.heap_alloc_new w (.cells (st0 384) 120))
  have hB1 := Lib.hid (Below.alloc (Below.refl w.heap.size w) (Nat.le_refl _) (.cells (st0 384) 120))
  have hs1 := Lib.hid ((Array.getElem?_eq_some_iff.1 hg1.out).1)
  generalize w.alloc (.cells (st0 384) 120) = w1 at *
  refine (written_any w1).mono ?_
  rintro e w2 ⟨rfl, rfl⟩
  have hg2 := Lib.hid ((Below.heap_alloc w1 (.cells tabC 123) _ hs1.out).trans hg1.out)
  have hB2 := Lib.hid (Below.alloc hB1.out (Nat.le_of_lt hs1.out) (.cells tabC 123))
  have hs2 := Lib.hid ((Array.getElem?_eq_some_iff.1 hg2.out).1)
  generalize w1.alloc (.cells tabC 123) = w2 at *
  clear hg1 hB1 hs1
  go_wp2_with (refine wpList_store_row rfl _ _ _ rfl w2.heap.size tabC rfl (by kernel_rfl) 123 _ (Go.heap_alloc_new w2 _) (by kernel_rfl) (by kernel_rfl) tabC_one ?_)
  rw [alloc_setRow]
  have hg3 := Lib.hid ((Below.heap_alloc w2 (.cells tabC 123) _ hs2.out).trans hg2.out)
  have hT3 := Lib.hid (Go.heap_alloc_new w2 (.cells tabC 123))
  have hB3 := Lib.hid (Below.alloc hB2.out (Nat.le_of_lt hs2.out) (.cells tabC 123))
  generalize hTE : w2.heap.size = T at *
  generalize w2.alloc (.cells tabC 123) = w3 at *
  have hsl := slice_words w.heap.size
  have hgE := hs2
  clear hg2 hB2 hTE hs2
  generalize hge : w.heap.size = g at *
  have hcp := start_copy w3.drew g T 88 384 8 hg3.out hT3.out (by decide) rfl
  have HGE := Lib.hid hge
  clear hge
  go_wp2_with fail
  refine wp_region_held_drew (S := fun _ => True) (by kernel_rfl) trivial (fun hHeld => ?_)
  refine' wpAnyH_take (i := 0) (oi := _) (v := _) rfl (by kernel_rfl) (by kernel_rfl) (by kernel_rfl) (fun _ _ _ h => h) (Or.inl ⟨?_, ?_⟩) (by assumption) ?_
  rotate_left
  all_goals (try simp only [List.getElem_toArray, List.getElem_cons_succ, List.getElem_cons_zero])
  · rfl
  · intro W hSw; (try dsimp only at hSw); go_simp; (try with_reducible rfl)
  try simp only [Act.put, List.setIfInBounds_toArray, List.set_cons_zero, List.set_cons_succ]
  refine' wpAnyH_take (i := 1) (oi := _) (v := _) rfl (by kernel_rfl) (by kernel_rfl) (by kernel_rfl) (fun _ _ _ h => h) (Or.inl ⟨?_, ?_⟩) (by assumption) ?_
  rotate_left
  all_goals (try simp only [List.getElem_toArray, List.getElem_cons_succ, List.getElem_cons_zero])
  · rfl
  · intro W hSw; (try dsimp only at hSw); go_simp; (try with_reducible rfl)
  try simp only [Act.put, List.setIfInBounds_toArray, List.set_cons_zero, List.set_cons_succ]
  refine' wpAnyH_take (i := 2) (oi := _) (v := _) rfl (by kernel_rfl) (by kernel_rfl) (by kernel_rfl) (fun _ _ _ h => h) (Or.inl ⟨?_, ?_⟩) (by assumption) ?_
  rotate_left
  all_goals (try simp only [List.getElem_toArray, List.getElem_cons_succ, List.getElem_cons_zero])
  · rfl
  · intro W hSw; (try dsimp only at hSw); go_simp; (try with_reducible rfl)
  try simp only [Act.put, List.setIfInBounds_toArray, List.set_cons_zero, List.set_cons_succ]
  refine' wpAnyH_take (i := 3) (oi := _) (v := _) rfl (by kernel_rfl) (by kernel_rfl) (by kernel_rfl) (fun _ _ _ h => h) (Or.inl ⟨?_, ?_⟩) (by assumption) ?_
  rotate_left
  all_goals (try simp only [List.getElem_toArray, List.getElem_cons_succ, List.getElem_cons_zero])
  · rfl
  · intro W hSw; (try dsimp only at hSw); go_simp; (try with_reducible rfl)
  try simp only [Act.put, List.setIfInBounds_toArray, List.set_cons_zero, List.set_cons_succ]
  refine' wpAnyH_take (i := 4) (oi := _) (v := _) rfl (by kernel_rfl) (by kernel_rfl) (by kernel_rfl) (fun _ _ _ h => h) (Or.inl ⟨?_, ?_⟩) (by assumption) ?_
  rotate_left
  all_goals (try simp only [List.getElem_toArray, List.getElem_cons_succ, List.getElem_cons_zero])
  · rfl
  · intro W hSw; (try dsimp only at hSw); go_simp; (try with_reducible rfl)
  try simp only [Act.put, List.setIfInBounds_toArray, List.set_cons_zero, List.set_cons_succ]
  refine wpAnyH_ready (rs := [5]) (by kernel_rfl) (by simp) ?_
  refine AllReadyH.cons (o := _) rfl (fun K hK => ?_) AllReadyH.nil
  try simp only [List.getElem_toArray, List.getElem_cons_succ, List.getElem_cons_zero]
  go_simp
  refine (start384_any _ _).mono ?_; rintro e w5 ⟨rfl, rfl⟩
  go_wp2_with fail
  refine hK.out _ _ trivial (fun hHeld => ?_)
  clear hK K
  try simp only [Act.put, List.setIfInBounds_toArray, List.set_cons_zero, List.set_cons_succ]
  refine wpAnyH_ready (rs := [6]) (by kernel_rfl) (by simp) ?_
  refine AllReadyH.cons (o := _) rfl (fun K hK => ?_) AllReadyH.nil
  try simp only [List.getElem_toArray, List.getElem_cons_succ, List.getElem_cons_zero]
  go_simp
  refine hK.out _ _ trivial (fun hHeld => ?_)
  clear hK K
  try simp only [Act.put, List.setIfInBounds_toArray, List.set_cons_zero, List.set_cons_succ]
  refine wpAnyH_done (by kernel_rfl) ?_ _
  go_wp2
  go_ret2
  rw [HGE.out]
  have hgr : w3.grownBy (w3.drew.setRow g (stL 384 (startN 384) (List.replicate 128 0) 0).toArray) (some g) := grown_setRow (grown_drew (x := w3) (y := w3) ⟨rfl, rfl, rfl, Nat.le_refl _, fun _ _ _ => rfl⟩) _
  exact ⟨rfl, ⟨startN 384, List.replicate 128 0, ⟨setRow_heap _ g _ _ _ _ hg3.out, startN_len _, by simp, startN_lt _, fun x hx => by have := List.eq_of_mem_replicate hx; omega⟩, ⟨rfl, rfl⟩, by decide, fun x hx => by simp at hx⟩, hB3.out.grown hgr (Nat.le_of_lt (Array.getElem?_eq_some_iff.1 hg3.out).1) (fun k hk => by cases hk; exact Nat.le_refl _)⟩


set_option maxRecDepth 100000 in
theorem copy_any (g bt : Nat) (ws tail : List Nat) (T : Nat) (w : World) (h : StateAt w g bt ws tail T) (hb : bt ≠ 0) : Calls Tryd.prog 73 #[.pointer (some ⟨g, 0, none⟩)] w fun e w' => e = .returned (.pointer (some ⟨w.heap.size, 0, none⟩)) ∧ w' = w.alloc (.cells (stL bt ws tail T).toArray 120) := by
  have hz2 : ∀ w, (zeroValue 120).run Tryd.prog w = .ok (.agg (st0 0)) w := fun _ => by kernel_rfl
  have hsz : (stL bt ws tail T).toArray.size = 138 := by simp [stL, h.wlen, h.tlen]
  have hone : (stL bt ws tail T).toArray.all (·.oneCell') = true := by
    rw [Array.all_eq_true_iff_forall_mem]
    intro u hu
    simp only [stL, List.mem_toArray, List.mem_cons, List.mem_append] at hu
    rcases hu with rfl | hu | hu | hu
    · rfl
    · exact nums_oneCell .u64 _ u hu
    · exact nums_oneCell .u8 _ u hu
    · simp at hu
      rw [hu]
      rfl
  have hH := h.heap
  generalize (stL bt ws tail T).toArray = cs at *
  go_enter Tryd.func73, Tryd.ntmps73
  go_wp2_with fail
  refine (made_yes g bt ws tail T w h hb).mono ?_
  rintro e w1 ⟨rfl, rfl⟩
  go_wp2_with (first | (refine wpList_load_row rfl _ _ rfl g rfl _ _ _ _ hH Tryd.underlying120 rfl (by rw [hsz]; kernel_rfl) ?_) | (refine wpList_store_row rfl _ _ _ rfl w.heap.size cs rfl rfl 120 _ (Go.heap_alloc_new w _) (by rw [hsz]; kernel_rfl) (by rw [hsz]; kernel_rfl) hone ?_))
  go_ret
  rw [alloc_setRow]
  exact ⟨rfl, rfl⟩

end Go.Proofs.YtcdglhmapijebaaDoor.L5

namespace Go.Proofs.YtcdglhmapijebaaDoor.L5
open Go.RowKit
set_option maxRecDepth 100000

/-- What fills a message up. -/
def endN (T : Nat) : List Nat := [128] ++ List.replicate ((239 - T % 128) % 128) 0 ++ wd 0 8 ++ wd (T * 8) 8
def dwN (t : Nat) : Nat → List Nat
  | 0 => []
  | j + 1 => dwN t j ++ wd (g0 [0, t] j) 8
theorem dwN_len (t : Nat) : ∀ j, (dwN t j).length = 8 * j
  | 0 => rfl
  | j + 1 => by rw [dwN, List.length_append, dwN_len t j, wd_len]; omega
set_option maxRecDepth 100000 in
set_option maxHeartbeats 2000000 in
theorem ending_any (T : Nat) (y : Int) (hy : y = T) (hT : T < 1152921504606846976) (w : World) :
    Calls Tryd.prog 74 #[.int .u64 y] w fun e w' => (∃ v, e = .returned v ∧ OwnQ .u8 5 w.heap.size w' v (endN T)) ∧ Below w.heap.size w w' := by
  subst hy
  obtain ⟨i0, hi, hz0, hz1, hz2⟩ := info_parts infoB
  obtain ⟨us, hus⟩ : ∃ x, x = T % 128 := ⟨_, rfl⟩
  have hatc : (T : Int) % 128 = (us : Int) := by omega
  have hus64 : us < 128 := by omega
  obtain ⟨k, hk⟩ : ∃ k, k = (239 - us) % 128 := ⟨_, rfl⟩
  have hkc : Int.tmod (239 - (us : Int)) 128 = (k : Int) := by
    rw [Int.tmod_eq_emod_of_nonneg (by omega)]
    omega
  have hk128 : k < 128 := by omega
  obtain ⟨t8, ht8⟩ : ∃ t, t = T * 8 := ⟨_, rfl⟩
  have ht8b : t8 < 18446744073709551616 := by omega
  have hs1 : (T : Int) / 2305843009213693952 = 0 := by omega
  have hs2 : IntKind.u64.wrap ((T : Int) * 8) = (t8 : Int) := by simp [IntKind.wrap, IntKind.bits, IntKind.signed]; omega
  have HU := Lib.hid hus
  have HK := Lib.hid hk
  have HT8 := Lib.hid ht8
  clear hus hk ht8
  go_enter Tryd.func74, Tryd.ntmps74
  go_wp2_with (first
    | (at_builtin; refine wpList_append_noughts _ rfl _ _ 22 3 rfl w.heap.size 5 i0 Tryd.underlying22 Tryd.underlying3 hi hz0 hz1 hz2 _ [128] rfl (World.ownsRow_lit w #[.int .u8 128] 1 (Nat.le_refl _) (by unfold maxLen; omega) rfl) (by simp) k rfl (by simp; omega) (by simp) ?_; intro v2 w2 hown2 hgrow2; have HO2 := Lib.hid hown2; have HB2 := Lib.hid (hgrow2 _ ((Below.refl _ _).alloc (Nat.le_refl _) _)); clear hown2 hgrow2))
  rw [show #[Value.int .u64 0, Value.int .u64 (t8 : Int)] = arrC .u64 [0, t8] from rfl]
  obtain ⟨R0, hR0⟩ : ∃ R, R = [128] ++ List.replicate k 0 := ⟨_, rfl⟩
  rw [← hR0] at HO2
  have hRl : R0.length ≤ 200 := by rw [hR0]; simp; omega
  have HR0 := Lib.hid hR0
  clear hR0
  go_loopw [20, 4] (fun iv sv wq => ∃ j : Nat, iv = .int .i64 (j : Int) ∧ j ≤ 2 ∧ Hid (OwnQ .u8 5 w.heap.size wq sv (R0 ++ dwN t8 j) ∧ Below w.heap.size w wq)) (fun iv _ _ => 2 - (intOf iv).toNat)
  case atStart => exact ⟨0, rfl, by decide, by rw [show dwN t8 0 = [] from rfl, List.append_nil]; exact HO2.out, HB2.out⟩
  case round =>
    obtain ⟨j, rfl, hj, hI⟩ := hrel
    by_cases hlt : j < 2
    · have ix := idx2 [0, t8] j hlt rfl
      have lx : g0 [0, t8] j < 18446744073709551616 := g0_lt (by intro x hx; simp at hx; rcases hx with rfl | rfl <;> omega) (by decide) j
      have HD := Lib.hid (show dwN t8 (j + 1) = dwN t8 j ++ wd (g0 [0, t8] j) 8 from rfl)
      unfold g0 at lx HD
      generalize [0, t8][j]?.getD 0 = x at *
      go_wp2_with fail
      refine (appended_any w.heap.size _ _ x _ wr hI.out.1 (by rw [List.length_append, dwN_len]; omega) hI.out.2.size rfl lx).mono ?_
      rintro e w5 ⟨⟨v5, rfl, h5⟩, h6⟩
      rw [List.append_assoc, ← HD.out] at h5
      have H5 := Lib.hid h5
      have H6 := Lib.hid (h6 _ hI.out.2)
      clear h5 h6
      go_wp2
      go_roundw
      case rel => exact ⟨j + 1, by go_num, by omega, H5.out, H6.out⟩
      case measure => simp [intOf] <;> omega
    · obtain rfl : j = 2 := by omega
      have hE : R0 ++ dwN t8 2 = endN T := by
        unfold endN
        rw [← HU.out, ← HK.out, ← HT8.out, ← HR0.out, List.append_assoc]
        rfl
      have ho := hI.out.1
      rw [hE] at ho
      have HOO := Lib.hid ho
      clear ho hE
      go_wp2
      go_ret
      exact ⟨⟨_, rfl, HOO.out⟩, hI.out.2⟩

end Go.Proofs.YtcdglhmapijebaaDoor.L5

namespace Go.Proofs.YtcdglhmapijebaaDoor.L5
open Go.RowKit Go.Shelf
set_option maxRecDepth 100000

/-- The words behind all. -/
def sumW (bt : Nat) (m : List Nat) : List Nat := wsK bt (m ++ endN m.length) ((m ++ endN m.length).length / 128)
def bytesW (ws : List Nat) (j : Nat) : List Nat := (List.range j).flatMap fun i => wd (g0 ws i) 8
theorem bytesW_succ (ws : List Nat) (j : Nat) : bytesW ws (j + 1) = bytesW ws j ++ wd (g0 ws j) 8 := by
  unfold bytesW
  rw [List.range_succ, List.flatMap_append]
  simp
theorem bytesW_len (ws : List Nat) : ∀ j, (bytesW ws j).length = 8 * j
  | 0 => rfl
  | j + 1 => by rw [bytesW_succ, List.length_append, bytesW_len ws j, wd_len]; omega
theorem bytesW_lt (ws : List Nat) (j : Nat) : ∀ x ∈ bytesW ws j, x < 256 := fun x hx => by
  unfold bytesW at hx
  obtain ⟨i, -, hx⟩ := List.mem_flatMap.1 hx
  exact wd_lt _ _ x hx
/-- The hash. -/
def hashN (bt : Nat) (m : List Nat) : List Nat := bytesW (sumW bt m) (bt / 64)
theorem hashN_lt (bt : Nat) (m : List Nat) : ∀ x ∈ hashN bt m, x < 256 := bytesW_lt _ _
theorem hashN_len {bt : Nat} (m : List Nat) (h : bt = 384 ∨ bt = 512) : (hashN bt m).length = bt / 8 := by
  unfold hashN
  rw [bytesW_len]
  omega
theorem endN_len (T : Nat) : (endN T).length = 1 + (239 - T % 128) % 128 + 8 + 8 := by
  unfold endN
  simp only [List.length_append, List.length_replicate, List.length_singleton, wd_len]
theorem endN_lt (T : Nat) : ∀ x ∈ endN T, x < 256 := fun x hx => by
  unfold endN at hx
  simp only [List.mem_append, List.mem_singleton] at hx
  rcases hx with ((rfl | hx) | hx) | hx
  · decide
  · have := List.eq_of_mem_replicate hx
    omega
  · exact wd_lt _ _ x hx
  · exact wd_lt _ _ x hx
theorem slice_upto (g q : Nat) (h : q ≤ 8) (W : World) : (Instr.sliceAt 104 (.pointer (some ⟨g, 1, none⟩)) none (some (.int .i64 (q : Int))) none).run Tryd.prog W = .ok (.slice (some ⟨g, 1, none⟩) q 8) W := by
  have hl : Tryd.prog.arrayLen 104 = 8 := by kernel_rfl
  have hs : ∀ w, (sizeOf (Tryd.prog.elem 104)).run Tryd.prog w = .ok 1 w := fun _ => by kernel_rfl
  rw [run_sliceAt_array_h W 104 ⟨g, 1, none⟩ (by kernel_rfl) .i64 (q : Int) (by omega) (by rw [hl]; omega), hs]
  show Result.ok (slicedAt ⟨g, 1, none⟩ 0 (q : Int).toNat (Tryd.prog.arrayLen 104) 1) W = _
  rw [hl]
  unfold slicedAt
  rw [Int.toNat_natCast]
  simp [Addr.add]

set_option maxRecDepth 100000 in
set_option maxHeartbeats 4000000 in
theorem sum_any (g bt : Nat) (m : List Nat) (w : World) (h : StateOf w g bt m) (hbt : bt = 384 ∨ bt = 512) :
    Calls Tryd.prog 50 #[.pointer (some ⟨g, 0, none⟩)] w fun e w' => (∃ ad : Addr × Nat, e = .returned (.slice (some ad.1) (bt / 8) ad.2) ∧ Reads .u8 w' (some ad.1) (bt / 8) ad.2 (hashN bt m) ∧ w.heap.size ≤ ad.1.block) ∧ Below w.heap.size w w' := by
  obtain ⟨ws, tail, hst, hfin, hmb, hm0⟩ := h
  have HM0 := Lib.hid hm0
  have HF := Lib.hid hfin
  have HS := Lib.hid hst
  have hgw := Lib.hid hst.lt
  have hbt0 : bt ≠ 0 := by omega
  have HBT := Lib.hid hbt
  have cT := hst.taken
  obtain ⟨T, hT⟩ : ∃ T, T = m.length := ⟨_, rfl⟩
  have HT := Lib.hid hT
  rw [← hT] at cT hmb
  obtain ⟨q, hq⟩ : ∃ q, q = bt / 64 := ⟨_, rfl⟩
  have hq1 : Int.tdiv (bt : Int) 64 = (q : Int) := by
    rw [Int.tdiv_eq_ediv_of_nonneg (by omega)]
    omega
  have hq8 : q ≤ 8 ∧ 6 ≤ q := by omega
  have hq9 : 8 * q = bt / 8 := by omega
  have HQ := Lib.hid hq
  have HQ9 := Lib.hid hq9
  clear hm0 hfin hst hbt hT hq hq9
  go_enter Tryd.func50, Tryd.ntmps50
  go_wp2_with fail
  refine (made_yes g bt ws tail _ w HS.out hbt0).mono ?_
  rintro e w1 ⟨rfl, rfl⟩
  go_wp2_with fail
  refine (copy_any g bt ws tail _ w HS.out hbt0).mono ?_
  rintro e w3 ⟨rfl, rfl⟩
  have hs3 := Lib.hid (show StateAt (w.alloc (.cells (stL bt ws tail m.length).toArray 120)) w.heap.size bt ws tail m.length from ⟨Go.heap_alloc_new w _, HS.out.wlen, HS.out.tlen, HS.out.wlt, HS.out.tlt⟩)
  have hb3 := Lib.hid ((Below.refl w.heap.size w).alloc (Nat.le_refl _) (.cells (stL bt ws tail m.length).toArray 120))
  have cT3 := (HS.out.below hb3.out hgw.out).taken
  have hz3 := Lib.hid (show (w.alloc (.cells (stL bt ws tail m.length).toArray 120)).heap.size = w.heap.size + 1 by simp)
  obtain ⟨f, hf⟩ : ∃ f, f = w.heap.size := ⟨_, rfl⟩
  rw [← hf] at hs3 ⊢
  have HFE := Lib.hid hf
  clear hf cT
  generalize w.alloc (.cells (stL bt ws tail m.length).toArray 120) = w3 at *
  rw [← HT.out] at cT3
  go_wp2_with fail
  refine (ending_any T _ rfl hmb w3).mono ?_
  rintro e w4 ⟨⟨v, rfl, ho4⟩, hb4⟩
  have HO4 := Lib.hid ho4
  have HB4 := Lib.hid hb4
  obtain ⟨g1, c1, rfl⟩ := ho4.succ (by intro e; have := endN_len T; rw [e] at this; simp at this)
  have hlt1 := Lib.hid (ho4.lt g1 rfl)
  have hs4 := Lib.hid (hs3.out.below hb4 hs3.out.lt)
  obtain ⟨N, hN⟩ : ∃ N, N = (endN T).length := ⟨_, rfl⟩
  have hel := endN_len T
  rw [← hN] at hel HO4 ⊢
  have HN := Lib.hid hN
  clear ho4 hb4 hN cT3
  have hNb : N ≤ 200 := by omega
  clear hel
  have HR4 : Reads .u8 w4 (some ⟨g1, 0, none⟩) N c1 (endN T) := by
    have h := HO4.out
    rw [HN.out] at h ⊢
    exact h.reads
  have HWC := Lib.hid (write_core f bt ws tail m (endN T) (some ⟨g1, 0, none⟩) N c1 w4 hs4.out HF.out hbt0 HR4 (endN_lt T) (by rw [← HT.out]; omega) (fun _ ad e => by cases e; have := hlt1.out.1; have := hs3.out.lt; show g1 ≠ f; omega))
  clear HR4
  generalize hET : endN T = ET at *
  have HET := Lib.hid hET
  clear hET
  go_wp2_with fail
  refine (HWC.out).mono ?_
  rintro e w5 ⟨rfl, ⟨ws5, tail5, hs5, hf5⟩, hg5⟩
  have HS5 := Lib.hid hs5
  have HZ := Lib.hid (show ws5 = sumW bt m by rw [hf5.1]; unfold sumW; rw [← HT.out, HET.out])
  have hfw : w.heap.size ≤ f := by rw [HFE.out]; exact Nat.le_refl _
  have HB5 := Lib.hid (show Below w.heap.size w w5 from ((hb3.out.trans (HB4.out.mono (by have := hz3.out; omega))).grown hg5 (by have := HB4.out.size; have := hz3.out; omega) (fun r e => by cases e; exact hfw)))
  have cB := (HS.out.below HB5.out hgw.out).bits
  have hsl := slice_upto f q hq8.1
  clear hs5 hf5 hg5
  go_wp2_with fail
  go_quiet (fail)
  have HS6 := Lib.hid (show StateAt (w5.drewN nq) f bt ws5 tail5 (m ++ ET).length from HS5.out.block rfl)
  have HB6 := Lib.hid (show Below w.heap.size w (w5.drewN nq) from below_drewS HB5.out nq)
  generalize w5.drewN nq = w6 at *
  clear cB hsl
  go_wp2_with fail
  go_loopw [29, 4] (fun iv sv wq => ∃ j : Nat, iv = .int .i64 (j : Int) ∧ j ≤ q ∧ Hid (OwnQ .u8 5 w6.heap.size wq sv (bytesW ws5 j) ∧ Below w6.heap.size w6 wq)) (fun iv _ _ => q - (intOf iv).toNat)
  case atStart => exact ⟨0, rfl, Nat.zero_le _, OwnQ.nil _ _ _ _, Below.refl _ _⟩
  case round =>
    obtain ⟨j, rfl, hj, hI⟩ := hrel
    by_cases hlt : j < q
    · have cw := (HS6.out.below hI.out.2 HS6.out.lt).word j (by omega)
      have lx : g0 ws5 j < 18446744073709551616 := g0_lt HS6.out.wlt (by decide) j
      have hbs := Lib.hid (bytesW_succ ws5 j)
      have hbl := Lib.hid (bytesW_len ws5 j)
      generalize g0 ws5 j = x at *
      have hjq : decide ((j : Int) < (q : Int)) = true := by simp; exact hlt
      go_wp2_with fail
      refine (appended_any w6.heap.size _ (bytesW ws5 j) x _ wr hI.out.1 (by rw [hbl.out]; omega) hI.out.2.size rfl lx).mono ?_
      rintro e w7 ⟨⟨v7, rfl, ho7⟩, hb7⟩
      rw [← hbs.out] at ho7
      have HO7 := Lib.hid ho7
      have HB7 := Lib.hid (hb7 _ hI.out.2)
      clear ho7 hb7
      go_wp2
      go_roundw
      case rel => exact ⟨j + 1, by go_num, by omega, HO7.out, HB7.out⟩
      case measure => simp [intOf] <;> omega
    · obtain rfl : j = q := by omega
      have ho := hI.out.1
      rw [show bytesW ws5 j = hashN bt m by unfold hashN; rw [← HQ.out, ← HZ.out]] at ho
      have HO := Lib.hid ho
      have HBf := Lib.hid (HB6.out.trans (hI.out.2.mono HB6.out.size))
      obtain ⟨h1, c9, hv⟩ := ho.succ (by intro e; have h8 := hashN_len m HBT.out; rw [e, List.length_nil] at h8; have := HQ9.out; omega)
      rw [hashN_len m HBT.out] at hv
      subst hv
      have hh1 := Lib.hid (ho.lt h1 rfl)
      clear ho hI
      have hjq : decide ((j : Int) < (j : Int)) = false := by simp
      go_wp2
      go_ret
      exact ⟨⟨(⟨h1, 0, none⟩, c9), rfl, HO.out.reads, by have := hh1.out.1; have := HB6.out.size; show w.heap.size ≤ h1; omega⟩, HBf.out⟩

end Go.Proofs.YtcdglhmapijebaaDoor.L5

namespace Go.Proofs.YtcdglhmapijebaaDoor
open Go.RowKit Go.Shelf
set_option maxRecDepth 100000

theorem stM_lt {w : World} {g bt : Nat} {m : List Nat} (h : StateOf w g bt m) : g < w.heap.size := by
  obtain ⟨ws, tail, h, -⟩ := h
  exact h.lt
theorem stM_below {w w' : World} {g bt B : Nat} {m : List Nat} (h : StateOf w g bt m) (hb : Below B w w') (hg : g < B) : StateOf w' g bt m := by
  obtain ⟨ws, tail, h, k⟩ := h
  exact ⟨ws, tail, h.below hb hg, k⟩
theorem stM_kept {W W' : World} {g1 g2 bt : Nat} {l : List Nat} (h : StateOf W g1 bt l) (hg : W.grownBy W' (some g2)) (hne : g1 ≠ g2) : StateOf W' g1 bt l := by
  obtain ⟨ws, tail, h, k⟩ := h
  exact ⟨ws, tail, h.block (hg.block g1 h.lt (fun e => hne (Option.some.inj e))), k⟩
theorem L5.stM_kept {W W' : World} {g1 g2 bt : Nat} {l : List Nat} (h : L5.StateOf W g1 bt l) (hg : W.grownBy W' (some g2)) (hne : g1 ≠ g2) : L5.StateOf W' g1 bt l := by
  obtain ⟨ws, tail, h, k⟩ := h
  exact ⟨ws, tail, h.block (hg.block g1 h.lt (fun e => hne (Option.some.inj e))), k⟩
theorem L5.stM_lt {w : World} {g bt : Nat} {m : List Nat} (h : L5.StateOf w g bt m) : g < w.heap.size := by
  obtain ⟨ws, tail, h, -⟩ := h
  exact h.lt
theorem L5.stM_below {w w' : World} {g bt B : Nat} {m : List Nat} (h : L5.StateOf w g bt m) (hb : Below B w w') (hg : g < B) : L5.StateOf w' g bt m := by
  obtain ⟨ws, tail, h, k⟩ := h
  exact ⟨ws, tail, h.below hb hg, k⟩

theorem open_1 (w : World) (hk : Kinds w) : Calls Tryd.prog 38 #[.int .i64 1] w fun e w' => (∃ g, e = .returned (.tuple #[.agg #[.func (.func 46) #[.pointer (some ⟨g, 0, none⟩)] #[], .func (.func 47) #[.pointer (some ⟨g, 0, none⟩)] #[]], .bool true]) ∧ w.heap.size ≤ g ∧ StateOf w' g 224 []) ∧ Below w.heap.size w w' := by
  have HK := Lib.hid hk
  clear hk
  go_enter Tryd.func38, Tryd.ntmps38
  go_wp2_with fail
  refine (known_yesM 1 (by simp [IsHash]) _ (HK.out.below ((Below.refl _ _).alloc (Nat.le_refl _) _))).mono ?_
  rintro e w1 ⟨rfl, h1⟩
  have hz1 : w.heap.size + 1 ≤ w1.heap.size := by have := h1.size; simpa using this
  have B1 := Lib.hid (((Below.refl w.heap.size w).alloc (Nat.le_refl _) (.cells #[.nilFunc, .nilFunc] 75)).trans (h1.mono (by simp)))
  have c0 : w1.cell? ⟨w.heap.size, 0, none⟩ = some .nilFunc := (h1.cell (p := ⟨w.heap.size, 0, none⟩) (by simp)).trans (by simp)
  have c1 : w1.cell? ⟨w.heap.size, 1, none⟩ = some .nilFunc := (h1.cell (p := ⟨w.heap.size, 1, none⟩) (by simp)).trans (by simp)
  have f0 : w1.frozen? ⟨w.heap.size, 0, none⟩ = false := (h1.frozen (p := ⟨w.heap.size, 0, none⟩) (by simp)).trans (by simp)
  have f1 : w1.frozen? ⟨w.heap.size, 1, none⟩ = false := (h1.frozen (p := ⟨w.heap.size, 1, none⟩) (by simp)).trans (by simp)
  unfold kindV
  rw [show mSize 1 = 28 from rfl, show mMark 1 = 4 from rfl]
  clear h1
  go_wp2_with fail
  refine (new224_any _).mono ?_
  rintro e w2 ⟨rfl, hs, h2⟩
  rw [World.size_alloc] at h2
  have hz2 : w1.heap.size + 1 ≤ w2.heap.size := by have := h2.size; simpa using this
  have B2 := Lib.hid (B1.out.trans ((((Below.refl w1.heap.size w1).alloc (Nat.le_refl _) _).trans (h2.mono (by simp))).mono (by omega)))
  have c0' : w2.cell? ⟨w.heap.size, 0, none⟩ = some .nilFunc := (h2.cell (p := ⟨w.heap.size, 0, none⟩) (by simp; omega)).trans ((((Below.refl w1.heap.size w1).alloc (Nat.le_refl _) _).cell (p := ⟨w.heap.size, 0, none⟩) (by simp; omega)).trans c0)
  have c1' : w2.cell? ⟨w.heap.size, 1, none⟩ = some .nilFunc := (h2.cell (p := ⟨w.heap.size, 1, none⟩) (by simp; omega)).trans ((((Below.refl w1.heap.size w1).alloc (Nat.le_refl _) _).cell (p := ⟨w.heap.size, 1, none⟩) (by simp; omega)).trans c1)
  have f0' : w2.frozen? ⟨w.heap.size, 0, none⟩ = false := (h2.frozen (p := ⟨w.heap.size, 0, none⟩) (by simp; omega)).trans ((((Below.refl w1.heap.size w1).alloc (Nat.le_refl _) _).frozen (p := ⟨w.heap.size, 0, none⟩) (by simp; omega)).trans f0)
  have f1' : w2.frozen? ⟨w.heap.size, 1, none⟩ = false := (h2.frozen (p := ⟨w.heap.size, 1, none⟩) (by simp; omega)).trans ((((Below.refl w1.heap.size w1).alloc (Nat.le_refl _) _).frozen (p := ⟨w.heap.size, 1, none⟩) (by simp; omega)).trans f1)
  rw [World.size_alloc] at hs ⊢
  have HS := Lib.hid hs
  have hgl := stM_lt hs
  clear c0 c1 f0 f1 hs h2
  have hgw : w.heap.size < w1.heap.size + 1 := by omega
  generalize w1.heap.size + 1 = g at *
  go_wp2
  refine bodyPost_ret (v := .tuple #[.agg #[.func (.func 46) #[.pointer (some ⟨g, 0, none⟩)] #[], .func (.func 47) #[.pointer (some ⟨g, 0, none⟩)] #[]], .bool true]) ?_ rfl ⟨⟨g, rfl, by omega, stM_kept HS.out (grown_set (grown_set (grown_below (Below.refl _ w2) (some w.heap.size)) 0 _) 1 _) (by omega)⟩, (B2.out.setCell (p := ⟨w.heap.size, 0, none⟩) (Nat.le_refl _) _).setCell (p := ⟨w.heap.size, 1, none⟩) (Nat.le_refl _) _⟩
  rw [results_cell_tmp rfl]
  go_simp

theorem open_2 (w : World) (hk : Kinds w) : Calls Tryd.prog 38 #[.int .i64 2] w fun e w' => (∃ g, e = .returned (.tuple #[.agg #[.func (.func 46) #[.pointer (some ⟨g, 0, none⟩)] #[], .func (.func 47) #[.pointer (some ⟨g, 0, none⟩)] #[]], .bool true]) ∧ w.heap.size ≤ g ∧ StateOf w' g 256 []) ∧ Below w.heap.size w w' := by
  have HK := Lib.hid hk
  clear hk
  go_enter Tryd.func38, Tryd.ntmps38
  go_wp2_with fail
  refine (known_yesM 2 (by simp [IsHash]) _ (HK.out.below ((Below.refl _ _).alloc (Nat.le_refl _) _))).mono ?_
  rintro e w1 ⟨rfl, h1⟩
  have hz1 : w.heap.size + 1 ≤ w1.heap.size := by have := h1.size; simpa using this
  have B1 := Lib.hid (((Below.refl w.heap.size w).alloc (Nat.le_refl _) (.cells #[.nilFunc, .nilFunc] 75)).trans (h1.mono (by simp)))
  have c0 : w1.cell? ⟨w.heap.size, 0, none⟩ = some .nilFunc := (h1.cell (p := ⟨w.heap.size, 0, none⟩) (by simp)).trans (by simp)
  have c1 : w1.cell? ⟨w.heap.size, 1, none⟩ = some .nilFunc := (h1.cell (p := ⟨w.heap.size, 1, none⟩) (by simp)).trans (by simp)
  have f0 : w1.frozen? ⟨w.heap.size, 0, none⟩ = false := (h1.frozen (p := ⟨w.heap.size, 0, none⟩) (by simp)).trans (by simp)
  have f1 : w1.frozen? ⟨w.heap.size, 1, none⟩ = false := (h1.frozen (p := ⟨w.heap.size, 1, none⟩) (by simp)).trans (by simp)
  unfold kindV
  rw [show mSize 2 = 32 from rfl, show mMark 2 = 1 from rfl]
  clear h1
  go_wp2_with fail
  refine (new256_any _).mono ?_
  rintro e w2 ⟨rfl, hs, h2⟩
  rw [World.size_alloc] at h2
  have hz2 : w1.heap.size + 1 ≤ w2.heap.size := by have := h2.size; simpa using this
  have B2 := Lib.hid (B1.out.trans ((((Below.refl w1.heap.size w1).alloc (Nat.le_refl _) _).trans (h2.mono (by simp))).mono (by omega)))
  have c0' : w2.cell? ⟨w.heap.size, 0, none⟩ = some .nilFunc := (h2.cell (p := ⟨w.heap.size, 0, none⟩) (by simp; omega)).trans ((((Below.refl w1.heap.size w1).alloc (Nat.le_refl _) _).cell (p := ⟨w.heap.size, 0, none⟩) (by simp; omega)).trans c0)
  have c1' : w2.cell? ⟨w.heap.size, 1, none⟩ = some .nilFunc := (h2.cell (p := ⟨w.heap.size, 1, none⟩) (by simp; omega)).trans ((((Below.refl w1.heap.size w1).alloc (Nat.le_refl _) _).cell (p := ⟨w.heap.size, 1, none⟩) (by simp; omega)).trans c1)
  have f0' : w2.frozen? ⟨w.heap.size, 0, none⟩ = false := (h2.frozen (p := ⟨w.heap.size, 0, none⟩) (by simp; omega)).trans ((((Below.refl w1.heap.size w1).alloc (Nat.le_refl _) _).frozen (p := ⟨w.heap.size, 0, none⟩) (by simp; omega)).trans f0)
  have f1' : w2.frozen? ⟨w.heap.size, 1, none⟩ = false := (h2.frozen (p := ⟨w.heap.size, 1, none⟩) (by simp; omega)).trans ((((Below.refl w1.heap.size w1).alloc (Nat.le_refl _) _).frozen (p := ⟨w.heap.size, 1, none⟩) (by simp; omega)).trans f1)
  rw [World.size_alloc] at hs ⊢
  have HS := Lib.hid hs
  have hgl := stM_lt hs
  clear c0 c1 f0 f1 hs h2
  have hgw : w.heap.size < w1.heap.size + 1 := by omega
  generalize w1.heap.size + 1 = g at *
  go_wp2
  refine bodyPost_ret (v := .tuple #[.agg #[.func (.func 46) #[.pointer (some ⟨g, 0, none⟩)] #[], .func (.func 47) #[.pointer (some ⟨g, 0, none⟩)] #[]], .bool true]) ?_ rfl ⟨⟨g, rfl, by omega, stM_kept HS.out (grown_set (grown_set (grown_below (Below.refl _ w2) (some w.heap.size)) 0 _) 1 _) (by omega)⟩, (B2.out.setCell (p := ⟨w.heap.size, 0, none⟩) (Nat.le_refl _) _).setCell (p := ⟨w.heap.size, 1, none⟩) (Nat.le_refl _) _⟩
  rw [results_cell_tmp rfl]
  go_simp

theorem open_3 (w : World) (hk : Kinds w) : Calls Tryd.prog 38 #[.int .i64 3] w fun e w' => (∃ g, e = .returned (.tuple #[.agg #[.func (.func 49) #[.pointer (some ⟨g, 0, none⟩)] #[], .func (.func 50) #[.pointer (some ⟨g, 0, none⟩)] #[]], .bool true]) ∧ w.heap.size ≤ g ∧ L5.StateOf w' g 384 []) ∧ Below w.heap.size w w' := by
  have HK := Lib.hid hk
  clear hk
  go_enter Tryd.func38, Tryd.ntmps38
  go_wp2_with fail
  refine (known_yesM 3 (by simp [IsHash]) _ (HK.out.below ((Below.refl _ _).alloc (Nat.le_refl _) _))).mono ?_
  rintro e w1 ⟨rfl, h1⟩
  have hz1 : w.heap.size + 1 ≤ w1.heap.size := by have := h1.size; simpa using this
  have B1 := Lib.hid (((Below.refl w.heap.size w).alloc (Nat.le_refl _) (.cells #[.nilFunc, .nilFunc] 75)).trans (h1.mono (by simp)))
  have c0 : w1.cell? ⟨w.heap.size, 0, none⟩ = some .nilFunc := (h1.cell (p := ⟨w.heap.size, 0, none⟩) (by simp)).trans (by simp)
  have c1 : w1.cell? ⟨w.heap.size, 1, none⟩ = some .nilFunc := (h1.cell (p := ⟨w.heap.size, 1, none⟩) (by simp)).trans (by simp)
  have f0 : w1.frozen? ⟨w.heap.size, 0, none⟩ = false := (h1.frozen (p := ⟨w.heap.size, 0, none⟩) (by simp)).trans (by simp)
  have f1 : w1.frozen? ⟨w.heap.size, 1, none⟩ = false := (h1.frozen (p := ⟨w.heap.size, 1, none⟩) (by simp)).trans (by simp)
  unfold kindV
  rw [show mSize 3 = 48 from rfl, show mMark 3 = 2 from rfl]
  clear h1
  go_wp2_with fail
  refine (L5.new384_any _).mono ?_
  rintro e w2 ⟨rfl, hs, h2⟩
  rw [World.size_alloc] at h2
  have hz2 : w1.heap.size + 1 ≤ w2.heap.size := by have := h2.size; simpa using this
  have B2 := Lib.hid (B1.out.trans ((((Below.refl w1.heap.size w1).alloc (Nat.le_refl _) _).trans (h2.mono (by simp))).mono (by omega)))
  have c0' : w2.cell? ⟨w.heap.size, 0, none⟩ = some .nilFunc := (h2.cell (p := ⟨w.heap.size, 0, none⟩) (by simp; omega)).trans ((((Below.refl w1.heap.size w1).alloc (Nat.le_refl _) _).cell (p := ⟨w.heap.size, 0, none⟩) (by simp; omega)).trans c0)
  have c1' : w2.cell? ⟨w.heap.size, 1, none⟩ = some .nilFunc := (h2.cell (p := ⟨w.heap.size, 1, none⟩) (by simp; omega)).trans ((((Below.refl w1.heap.size w1).alloc (Nat.le_refl _) _).cell (p := ⟨w.heap.size, 1, none⟩) (by simp; omega)).trans c1)
  have f0' : w2.frozen? ⟨w.heap.size, 0, none⟩ = false := (h2.frozen (p := ⟨w.heap.size, 0, none⟩) (by simp; omega)).trans ((((Below.refl w1.heap.size w1).alloc (Nat.le_refl _) _).frozen (p := ⟨w.heap.size, 0, none⟩) (by simp; omega)).trans f0)
  have f1' : w2.frozen? ⟨w.heap.size, 1, none⟩ = false := (h2.frozen (p := ⟨w.heap.size, 1, none⟩) (by simp; omega)).trans ((((Below.refl w1.heap.size w1).alloc (Nat.le_refl _) _).frozen (p := ⟨w.heap.size, 1, none⟩) (by simp; omega)).trans f1)
  rw [World.size_alloc] at hs ⊢
  have HS := Lib.hid hs
  have hgl := L5.stM_lt hs
  clear c0 c1 f0 f1 hs h2
  have hgw : w.heap.size < w1.heap.size + 1 := by omega
  generalize w1.heap.size + 1 = g at *
  go_wp2
  refine bodyPost_ret (v := .tuple #[.agg #[.func (.func 49) #[.pointer (some ⟨g, 0, none⟩)] #[], .func (.func 50) #[.pointer (some ⟨g, 0, none⟩)] #[]], .bool true]) ?_ rfl ⟨⟨g, rfl, by omega, L5.stM_kept HS.out (grown_set (grown_set (grown_below (Below.refl _ w2) (some w.heap.size)) 0 _) 1 _) (by omega)⟩, (B2.out.setCell (p := ⟨w.heap.size, 0, none⟩) (Nat.le_refl _) _).setCell (p := ⟨w.heap.size, 1, none⟩) (Nat.le_refl _) _⟩
  rw [results_cell_tmp rfl]
  go_simp

theorem open_4 (w : World) (hk : Kinds w) : Calls Tryd.prog 38 #[.int .i64 4] w fun e w' => (∃ g, e = .returned (.tuple #[.agg #[.func (.func 49) #[.pointer (some ⟨g, 0, none⟩)] #[], .func (.func 50) #[.pointer (some ⟨g, 0, none⟩)] #[]], .bool true]) ∧ w.heap.size ≤ g ∧ L5.StateOf w' g 512 []) ∧ Below w.heap.size w w' := by
  have HK := Lib.hid hk
  clear hk
  go_enter Tryd.func38, Tryd.ntmps38
  go_wp2_with fail
  refine (known_yesM 4 (by simp [IsHash]) _ (HK.out.below ((Below.refl _ _).alloc (Nat.le_refl _) _))).mono ?_
  rintro e w1 ⟨rfl, h1⟩
  have hz1 : w.heap.size + 1 ≤ w1.heap.size := by have := h1.size; simpa using this
  have B1 := Lib.hid (((Below.refl w.heap.size w).alloc (Nat.le_refl _) (.cells #[.nilFunc, .nilFunc] 75)).trans (h1.mono (by simp)))
  have c0 : w1.cell? ⟨w.heap.size, 0, none⟩ = some .nilFunc := (h1.cell (p := ⟨w.heap.size, 0, none⟩) (by simp)).trans (by simp)
  have c1 : w1.cell? ⟨w.heap.size, 1, none⟩ = some .nilFunc := (h1.cell (p := ⟨w.heap.size, 1, none⟩) (by simp)).trans (by simp)
  have f0 : w1.frozen? ⟨w.heap.size, 0, none⟩ = false := (h1.frozen (p := ⟨w.heap.size, 0, none⟩) (by simp)).trans (by simp)
  have f1 : w1.frozen? ⟨w.heap.size, 1, none⟩ = false := (h1.frozen (p := ⟨w.heap.size, 1, none⟩) (by simp)).trans (by simp)
  unfold kindV
  rw [show mSize 4 = 64 from rfl, show mMark 4 = 3 from rfl]
  clear h1
  go_wp2_with fail
  refine (L5.new512_any _).mono ?_
  rintro e w2 ⟨rfl, hs, h2⟩
  rw [World.size_alloc] at h2
  have hz2 : w1.heap.size + 1 ≤ w2.heap.size := by have := h2.size; simpa using this
  have B2 := Lib.hid (B1.out.trans ((((Below.refl w1.heap.size w1).alloc (Nat.le_refl _) _).trans (h2.mono (by simp))).mono (by omega)))
  have c0' : w2.cell? ⟨w.heap.size, 0, none⟩ = some .nilFunc := (h2.cell (p := ⟨w.heap.size, 0, none⟩) (by simp; omega)).trans ((((Below.refl w1.heap.size w1).alloc (Nat.le_refl _) _).cell (p := ⟨w.heap.size, 0, none⟩) (by simp; omega)).trans c0)
  have c1' : w2.cell? ⟨w.heap.size, 1, none⟩ = some .nilFunc := (h2.cell (p := ⟨w.heap.size, 1, none⟩) (by simp; omega)).trans ((((Below.refl w1.heap.size w1).alloc (Nat.le_refl _) _).cell (p := ⟨w.heap.size, 1, none⟩) (by simp; omega)).trans c1)
  have f0' : w2.frozen? ⟨w.heap.size, 0, none⟩ = false := (h2.frozen (p := ⟨w.heap.size, 0, none⟩) (by simp; omega)).trans ((((Below.refl w1.heap.size w1).alloc (Nat.le_refl _) _).frozen (p := ⟨w.heap.size, 0, none⟩) (by simp; omega)).trans f0)
  have f1' : w2.frozen? ⟨w.heap.size, 1, none⟩ = false := (h2.frozen (p := ⟨w.heap.size, 1, none⟩) (by simp; omega)).trans ((((Below.refl w1.heap.size w1).alloc (Nat.le_refl _) _).frozen (p := ⟨w.heap.size, 1, none⟩) (by simp; omega)).trans f1)
  rw [World.size_alloc] at hs ⊢
  have HS := Lib.hid hs
  have hgl := L5.stM_lt hs
  clear c0 c1 f0 f1 hs h2
  have hgw : w.heap.size < w1.heap.size + 1 := by omega
  generalize w1.heap.size + 1 = g at *
  go_wp2
  refine bodyPost_ret (v := .tuple #[.agg #[.func (.func 49) #[.pointer (some ⟨g, 0, none⟩)] #[], .func (.func 50) #[.pointer (some ⟨g, 0, none⟩)] #[]], .bool true]) ?_ rfl ⟨⟨g, rfl, by omega, L5.stM_kept HS.out (grown_set (grown_set (grown_below (Below.refl _ w2) (some w.heap.size)) 0 _) 1 _) (by omega)⟩, (B2.out.setCell (p := ⟨w.heap.size, 0, none⟩) (Nat.le_refl _) _).setCell (p := ⟨w.heap.size, 1, none⟩) (Nat.le_refl _) _⟩
  rw [results_cell_tmp rfl]
  go_simp

end Go.Proofs.YtcdglhmapijebaaDoor

namespace Go.Proofs.YtcdglhmapijebaaDoor
open Go.RowKit Go.Shelf
set_option maxRecDepth 100000

/-- Rows that came in, or were made. -/
structure RowsM (w : World) (a : Option Addr) (n : Nat) (R : Nat → Option Addr × Nat × Nat × List Nat) : Prop where
  each : ∀ i, i < n → Reads .u8 w (R i).1 (R i).2.1 (R i).2.2.1 (R i).2.2.2 ∧ Byt (R i).2.2.2 ∧ (R i).2.1 ≤ 1048576
  cells : 0 < n → ∃ b off, a = some ⟨b, off, none⟩ ∧ b < w.heap.size ∧ ∀ i, i < n → w.cell? ⟨b, off + i, none⟩ = some (.slice (R i).1 (R i).2.1 (R i).2.2.1)
def flatM (R : Nat → Option Addr × Nat × Nat × List Nat) : Nat → List Nat
  | 0 => []
  | i + 1 => flatM R i ++ (R i).2.2.2
theorem RowsM.below {w w' : World} {a : Option Addr} {n : Nat} {R : Nat → Option Addr × Nat × Nat × List Nat} (h : RowsM w a n R) (hb : Below w.heap.size w w') : RowsM w' a n R :=
  ⟨fun i hi => ⟨(h.each i hi).1.below hb, (h.each i hi).2⟩, fun hp => by
    obtain ⟨b, off, ha, hlt, hc⟩ := h.cells hp
    exact ⟨b, off, ha, Nat.lt_of_lt_of_le hlt hb.size, fun i hi => (hb.cell (p := ⟨b, off + i, .none⟩) hlt).trans (hc i hi)⟩⟩
theorem flatM_len {w : World} {a : Option Addr} {n : Nat} {R : Nat → Option Addr × Nat × Nat × List Nat} (h : RowsM w a n R) : ∀ i, i ≤ n → (flatM R i).length ≤ 1048576 * i
  | 0, _ => Nat.zero_le _
  | i + 1, hi => by
    have h1 := flatM_len h i (by omega)
    obtain ⟨h2, -, h3⟩ := h.each i (by omega)
    have h4 := h2.length
    rw [flatM, List.length_append]
    omega
def mHash (h : Nat) (m : List Nat) : List Nat := match h with
  | 1 => hashN 224 m
  | 2 => hashN 256 m
  | 3 => L5.hashN 384 m
  | 4 => L5.hashN 512 m
  | _ => []

theorem open_A (h bt : Nat) (hh : h = 1 ∧ bt = 224 ∨ h = 2 ∧ bt = 256) (w : World) (hk : Kinds w) : Calls Tryd.prog 38 #[.int .i64 (h : Int)] w fun e w' => (∃ g, e = .returned (.tuple #[.agg #[.func (.func 46) #[.pointer (some ⟨g, 0, none⟩)] #[], .func (.func 47) #[.pointer (some ⟨g, 0, none⟩)] #[]], .bool true]) ∧ w.heap.size ≤ g ∧ StateOf w' g bt []) ∧ Below w.heap.size w w' := by
  rcases hh with ⟨rfl, rfl⟩ | ⟨rfl, rfl⟩
  · exact open_1 w hk
  · exact open_2 w hk
set_option maxHeartbeats 1000000 in
theorem sum_A (h bt : Nat) (hh : h = 1 ∧ bt = 224 ∨ h = 2 ∧ bt = 256) (a : Option Addr) (n cap : Nat) (R : Nat → Option Addr × Nat × Nat × List Nat) (w : World) (hk : Kinds w) (hR : RowsM w a n R) (hn : n ≤ 1000) :
    Calls Tryd.prog 31 #[.int .i64 (h : Int), .slice a n cap] w fun e w' => (∃ ad c, e = .returned (.tuple #[.slice (some ad) (bt / 8) c, .int .i64 0]) ∧ Reads .u8 w' (some ad) (bt / 8) c (hashN bt (flatM R n)) ∧ w.heap.size ≤ ad.block) ∧ Below w.heap.size w w' := by
  have HR := Lib.hid hR
  have HH := Lib.hid hh
  have HBT := Lib.hid (show bt = 224 ∨ bt = 256 by omega)
  have hbt0 : bt ≠ 0 := by omega
  clear hR hh
  go_enter Tryd.func31, Tryd.ntmps31
  go_wp2_with fail
  refine (open_A h bt HH.out w hk).mono ?_
  rintro e w1 ⟨⟨g, rfl, hg, hs⟩, h1⟩
  have hgl := stM_lt hs
  have HB1 := Lib.hid h1
  have HGW := Lib.hid hg
  have HS1 := Lib.hid (stM_below hs ((Below.refl w1.heap.size w1).alloc (Nat.le_refl _) (.cells #[.func (.func 46) #[.pointer (some ⟨g, 0, none⟩)] #[], .func (.func 47) #[.pointer (some ⟨g, 0, none⟩)] #[]] 75)) hgl)
  have HB2 := Lib.hid (h1.alloc h1.size (.cells #[.func (.func 46) #[.pointer (some ⟨g, 0, none⟩)] #[], .func (.func 47) #[.pointer (some ⟨g, 0, none⟩)] #[]] 75))
  have cF0 : (w1.alloc (.cells #[.func (.func 46) #[.pointer (some ⟨g, 0, none⟩)] #[], .func (.func 47) #[.pointer (some ⟨g, 0, none⟩)] #[]] 75)).cell? ⟨w1.heap.size, 0, none⟩ = some (.func (.func 46) #[.pointer (some ⟨g, 0, none⟩)] #[]) := by simp
  have cF1 : (w1.alloc (.cells #[.func (.func 46) #[.pointer (some ⟨g, 0, none⟩)] #[], .func (.func 47) #[.pointer (some ⟨g, 0, none⟩)] #[]] 75)).cell? ⟨w1.heap.size, 1, none⟩ = some (.func (.func 47) #[.pointer (some ⟨g, 0, none⟩)] #[]) := by simp
  have CF0 := Lib.hid cF0
  have CF1 := Lib.hid cF1
  have hfs : w1.heap.size < (w1.alloc (.cells #[.func (.func 46) #[.pointer (some ⟨g, 0, none⟩)] #[], .func (.func 47) #[.pointer (some ⟨g, 0, none⟩)] #[]] 75)).heap.size := by simp
  clear hs h1 hg cF0 cF1 hk
  go_wp2_with fail
  generalize w1.alloc (.cells #[.func (.func 46) #[.pointer (some ⟨g, 0, none⟩)] #[], .func (.func 47) #[.pointer (some ⟨g, 0, none⟩)] #[]] 75) = w2 at *
  have hz02 := HB2.out.size
  clear HB1
  generalize w1.heap.size = fb at *
  have HG2 := Lib.hid (show w2.grownBy w2 (some g) from ⟨rfl, rfl, rfl, Nat.le_refl _, fun _ _ _ => rfl⟩)
  go_loopw [19] (fun iv wq => ∃ i : Nat, iv = .int .i64 (i : Int) ∧ i ≤ n ∧ Hid (StateOf wq g bt (flatM R i) ∧ w2.grownBy wq (some g))) (fun iv _ => n - (intOf iv).toNat)
  case atStart => exact ⟨0, rfl, Nat.zero_le _, HS1.out, HG2.out⟩
  case round =>
    obtain ⟨i, rfl, hi, hI⟩ := hrel
    have HST := Lib.hid hI.out.1
    have HG := Lib.hid hI.out.2
    have cF0 := (World.cell?_of_block (a := ⟨fb, 0, none⟩) (HG.out.block fb hfs (fun e => by have := Option.some.inj e; omega))).trans CF0.out
    have cF1 := (World.cell?_of_block (a := ⟨fb, 1, none⟩) (HG.out.block fb hfs (fun e => by have := Option.some.inj e; omega))).trans CF1.out
    clear hI
    by_cases hlt : i < n
    · have tn : decide (i < n) = true := by simp; omega
      obtain ⟨b, off, rfl, hbk, hc⟩ := HR.out.cells (by omega)
      have HBW := Lib.hid (HB2.out.grown HG.out HB2.out.size (fun r e => by cases e; exact HGW.out))
      have hci := (World.cell?_of_block (a := ⟨b, off + i, none⟩) (HBW.out.block b hbk)).trans (hc i hlt)
      have he := HR.out.each i hlt
      have HEL := Lib.hid (show flatM R (i + 1) = flatM R i ++ (R i).2.2.2 from rfl)
      have HLN := Lib.hid (flatM_len HR.out i (by omega))
      obtain ⟨⟨ra, rl, rc, l⟩, hri⟩ : ∃ r, r = R i := ⟨_, rfl⟩
      rw [← hri] at hci he HEL
      dsimp only at hci he HEL
      have HE := Lib.hid he
      have hrl := he.2.2
      clear hc he hri
      go_wp2_with fail
      refine (write_any g bt (flatM R i) l ra rl rc wr HST.out hbt0 (HE.out.1.below HBW.out) HE.out.2.1 (by have := HLN.out; omega) (fun hp ad e => by
        subst e
        obtain ⟨b', off', e, hb', -⟩ := HE.out.1.cells hp
        cases e
        have := HGW.out
        exact Nat.ne_of_lt (Nat.lt_of_lt_of_le hb' this))).mono ?_
      rintro e w6 ⟨rfl, hs6, hg6⟩
      rw [← HEL.out] at hs6
      have HS6 := Lib.hid hs6
      have HG6 := Lib.hid (grown_trans HG.out hg6)
      clear hs6 hg6 hci cF0 cF1
      go_wp2
      go_roundw
      case rel => exact ⟨i + 1, by go_num, by omega, HS6.out, HG6.out⟩
      case measure => simp [intOf] <;> omega
    · have hin : i = n := by omega
      have tn : decide (i < n) = false := by simp; omega
      have HBW := Lib.hid (HB2.out.grown HG.out HB2.out.size (fun r e => by cases e; exact HGW.out))
      subst hin
      clear hlt
      go_wp2_with fail
      refine (sum_any g bt (flatM R i) wr HST.out HBT.out).mono ?_
      rintro e w7 ⟨⟨ad, rfl, h7, h8⟩, h9⟩
      try dsimp only at h7 h8
      have H7 := Lib.hid h7
      have HB7 := Lib.hid (HBW.out.trans (h9.mono HBW.out.size))
      have had : w.heap.size ≤ ad.block := Nat.le_trans HBW.out.size h8
      clear h7 h8 h9 cF0 cF1
      go_wp2
      go_ret2
      exact ⟨⟨ad, _, rfl, H7.out, had⟩, HB7.out⟩

theorem open_B (h bt : Nat) (hh : h = 3 ∧ bt = 384 ∨ h = 4 ∧ bt = 512) (w : World) (hk : Kinds w) : Calls Tryd.prog 38 #[.int .i64 (h : Int)] w fun e w' => (∃ g, e = .returned (.tuple #[.agg #[.func (.func 49) #[.pointer (some ⟨g, 0, none⟩)] #[], .func (.func 50) #[.pointer (some ⟨g, 0, none⟩)] #[]], .bool true]) ∧ w.heap.size ≤ g ∧ L5.StateOf w' g bt []) ∧ Below w.heap.size w w' := by
  rcases hh with ⟨rfl, rfl⟩ | ⟨rfl, rfl⟩
  · exact open_3 w hk
  · exact open_4 w hk
set_option maxHeartbeats 1000000 in
theorem sum_B (h bt : Nat) (hh : h = 3 ∧ bt = 384 ∨ h = 4 ∧ bt = 512) (a : Option Addr) (n cap : Nat) (R : Nat → Option Addr × Nat × Nat × List Nat) (w : World) (hk : Kinds w) (hR : RowsM w a n R) (hn : n ≤ 1000) :
    Calls Tryd.prog 31 #[.int .i64 (h : Int), .slice a n cap] w fun e w' => (∃ ad c, e = .returned (.tuple #[.slice (some ad) (bt / 8) c, .int .i64 0]) ∧ Reads .u8 w' (some ad) (bt / 8) c (L5.hashN bt (flatM R n)) ∧ w.heap.size ≤ ad.block) ∧ Below w.heap.size w w' := by
  have HR := Lib.hid hR
  have HH := Lib.hid hh
  have HBT := Lib.hid (show bt = 384 ∨ bt = 512 by omega)
  have hbt0 : bt ≠ 0 := by omega
  clear hR hh
  go_enter Tryd.func31, Tryd.ntmps31
  go_wp2_with fail
  refine (open_B h bt HH.out w hk).mono ?_
  rintro e w1 ⟨⟨g, rfl, hg, hs⟩, h1⟩
  have hgl := L5.stM_lt hs
  have HB1 := Lib.hid h1
  have HGW := Lib.hid hg
  have HS1 := Lib.hid (L5.stM_below hs ((Below.refl w1.heap.size w1).alloc (Nat.le_refl _) (.cells #[.func (.func 49) #[.pointer (some ⟨g, 0, none⟩)] #[], .func (.func 50) #[.pointer (some ⟨g, 0, none⟩)] #[]] 75)) hgl)
  have HB2 := Lib.hid (h1.alloc h1.size (.cells #[.func (.func 49) #[.pointer (some ⟨g, 0, none⟩)] #[], .func (.func 50) #[.pointer (some ⟨g, 0, none⟩)] #[]] 75))
  have cF0 : (w1.alloc (.cells #[.func (.func 49) #[.pointer (some ⟨g, 0, none⟩)] #[], .func (.func 50) #[.pointer (some ⟨g, 0, none⟩)] #[]] 75)).cell? ⟨w1.heap.size, 0, none⟩ = some (.func (.func 49) #[.pointer (some ⟨g, 0, none⟩)] #[]) := by simp
  have cF1 : (w1.alloc (.cells #[.func (.func 49) #[.pointer (some ⟨g, 0, none⟩)] #[], .func (.func 50) #[.pointer (some ⟨g, 0, none⟩)] #[]] 75)).cell? ⟨w1.heap.size, 1, none⟩ = some (.func (.func 50) #[.pointer (some ⟨g, 0, none⟩)] #[]) := by simp
  have CF0 := Lib.hid cF0
  have CF1 := Lib.hid cF1
  have hfs : w1.heap.size < (w1.alloc (.cells #[.func (.func 49) #[.pointer (some ⟨g, 0, none⟩)] #[], .func (.func 50) #[.pointer (some ⟨g, 0, none⟩)] #[]] 75)).heap.size := by simp
  clear hs h1 hg cF0 cF1 hk
  go_wp2_with fail
  generalize w1.alloc (.cells #[.func (.func 49) #[.pointer (some ⟨g, 0, none⟩)] #[], .func (.func 50) #[.pointer (some ⟨g, 0, none⟩)] #[]] 75) = w2 at *
  have hz02 := HB2.out.size
  clear HB1
  generalize w1.heap.size = fb at *
  have HG2 := Lib.hid (show w2.grownBy w2 (some g) from ⟨rfl, rfl, rfl, Nat.le_refl _, fun _ _ _ => rfl⟩)
  go_loopw [19] (fun iv wq => ∃ i : Nat, iv = .int .i64 (i : Int) ∧ i ≤ n ∧ Hid (L5.StateOf wq g bt (flatM R i) ∧ w2.grownBy wq (some g))) (fun iv _ => n - (intOf iv).toNat)
  case atStart => exact ⟨0, rfl, Nat.zero_le _, HS1.out, HG2.out⟩
  case round =>
    obtain ⟨i, rfl, hi, hI⟩ := hrel
    have HST := Lib.hid hI.out.1
    have HG := Lib.hid hI.out.2
    have cF0 := (World.cell?_of_block (a := ⟨fb, 0, none⟩) (HG.out.block fb hfs (fun e => by have := Option.some.inj e; omega))).trans CF0.out
    have cF1 := (World.cell?_of_block (a := ⟨fb, 1, none⟩) (HG.out.block fb hfs (fun e => by have := Option.some.inj e; omega))).trans CF1.out
    clear hI
    by_cases hlt : i < n
    · have tn : decide (i < n) = true := by simp; omega
      obtain ⟨b, off, rfl, hbk, hc⟩ := HR.out.cells (by omega)
      have HBW := Lib.hid (HB2.out.grown HG.out HB2.out.size (fun r e => by cases e; exact HGW.out))
      have hci := (World.cell?_of_block (a := ⟨b, off + i, none⟩) (HBW.out.block b hbk)).trans (hc i hlt)
      have he := HR.out.each i hlt
      have HEL := Lib.hid (show flatM R (i + 1) = flatM R i ++ (R i).2.2.2 from rfl)
      have HLN := Lib.hid (flatM_len HR.out i (by omega))
      obtain ⟨⟨ra, rl, rc, l⟩, hri⟩ : ∃ r, r = R i := ⟨_, rfl⟩
      rw [← hri] at hci he HEL
      dsimp only at hci he HEL
      have HE := Lib.hid he
      have hrl := he.2.2
      clear hc he hri
      go_wp2_with fail
      refine (L5.write_any g bt (flatM R i) l ra rl rc wr HST.out hbt0 (HE.out.1.below HBW.out) HE.out.2.1 (by have := HLN.out; omega) (fun hp ad e => by
        subst e
        obtain ⟨b', off', e, hb', -⟩ := HE.out.1.cells hp
        cases e
        have := HGW.out
        exact Nat.ne_of_lt (Nat.lt_of_lt_of_le hb' this))).mono ?_
      rintro e w6 ⟨rfl, hs6, hg6⟩
      rw [← HEL.out] at hs6
      have HS6 := Lib.hid hs6
      have HG6 := Lib.hid (grown_trans HG.out hg6)
      clear hs6 hg6 hci cF0 cF1
      go_wp2
      go_roundw
      case rel => exact ⟨i + 1, by go_num, by omega, HS6.out, HG6.out⟩
      case measure => simp [intOf] <;> omega
    · have hin : i = n := by omega
      have tn : decide (i < n) = false := by simp; omega
      have HBW := Lib.hid (HB2.out.grown HG.out HB2.out.size (fun r e => by cases e; exact HGW.out))
      subst hin
      clear hlt
      go_wp2_with fail
      refine (L5.sum_any g bt (flatM R i) wr HST.out HBT.out).mono ?_
      rintro e w7 ⟨⟨⟨ad, cc⟩, rfl, h7, h8⟩, h9⟩
      try dsimp only at h7 h8
      have H7 := Lib.hid h7
      have HB7 := Lib.hid (HBW.out.trans (h9.mono HBW.out.size))
      have had : w.heap.size ≤ ad.block := Nat.le_trans HBW.out.size h8
      clear h7 h8 h9 cF0 cF1
      go_wp2
      go_ret2
      exact ⟨⟨ad, _, rfl, H7.out, had⟩, HB7.out⟩

end Go.Proofs.YtcdglhmapijebaaDoor

namespace Go.Proofs.YtcdglhmapijebaaDoor
open Go.RowKit Go.Shelf
set_option maxRecDepth 100000

theorem sum_yes (h : Nat) (hh : IsHash h) (a : Option Addr) (n cap : Nat) (R : Nat → Option Addr × Nat × Nat × List Nat) (w : World) (hk : Kinds w) (hR : RowsM w a n R) (hn : n ≤ 1000) :
    Calls Tryd.prog 31 #[.int .i64 (h : Int), .slice a n cap] w fun e w' => (∃ ad c, e = .returned (.tuple #[.slice (some ad) (mSize h) c, .int .i64 0]) ∧ Reads .u8 w' (some ad) (mSize h) c (mHash h (flatM R n)) ∧ w.heap.size ≤ ad.block) ∧ Below w.heap.size w w' := by
  rcases hh with rfl | rfl | rfl | rfl
  · exact sum_A 1 224 (.inl ⟨rfl, rfl⟩) a n cap R w hk hR hn
  · exact sum_A 2 256 (.inr ⟨rfl, rfl⟩) a n cap R w hk hR hn
  · exact sum_B 3 384 (.inl ⟨rfl, rfl⟩) a n cap R w hk hR hn
  · exact sum_B 4 512 (.inr ⟨rfl, rfl⟩) a n cap R w hk hR hn
theorem mHash_byt {h : Nat} (hh : IsHash h) (m : List Nat) : Byt (mHash h m) := by
  rcases hh with rfl | rfl | rfl | rfl
  · exact hashN_lt 224 m
  · exact hashN_lt 256 m
  · exact L5.hashN_lt 384 m
  · exact L5.hashN_lt 512 m

end Go.Proofs.YtcdglhmapijebaaDoor

namespace Go.Proofs.YtcdglhmapijebaaDoor
open Go.RowKit Go.Shelf
set_option maxRecDepth 100000

def eqS (h : Nat) (s : ByteArray) : Bool := (strOf (mName h)).toList == s.toList
def mNamed (s : ByteArray) : Int := if eqS 1 s = true then 1 else if eqS 2 s = true then 2 else if eqS 3 s = true then 3 else if eqS 4 s = true then 4 else 0

end Go.Proofs.YtcdglhmapijebaaDoor
namespace Go.Proofs.YtcdglhmapijebaaDoor
open Go.RowKit Go.Shelf
theorem cellM {W : World} {g i : Nat} {cs : Array Value} {E : TypeId} {fz : Nat × Nat} (h : W.heap[g]? = some (.cells cs E fz)) : W.cell? ⟨g, i, none⟩ = cs[i]? := by
  simp [World.cell?, h]
def abcR (s : Nat) : Nat → Option Addr × Nat × Nat × List Nat
  | 0 => (some ⟨s, 0, none⟩, 1, 1, [97])
  | 1 => (none, 0, 0, [])
  | _ => (some ⟨s + 1, 0, none⟩, 2, 2, [98, 99])
end Go.Proofs.YtcdglhmapijebaaDoor
namespace Go.Proofs.YtcdglhmapijebaaDoor
open Go.RowKit Go.Shelf
theorem wpList_append_q1 {P : Program} (q : IntKind) (w : World) {ops : Array Oper} {rest : List Oper} {o : Oper} {a : Act} {Q : Exit → Act → World → Prop} (hgd : o.guard = .none) (s x : Operand) (t : TypeId)
    (ho : o.op = .call { callee := .builtin .append, args := #[s, x], argTypes := #[t, t] })
    (B E : Nat) (i : TypeInfo) (ht : P.underlying t = some (.slice E)) (hi : P.info? E = some i) (hz : i.zero = some (.int q 0)) (hsize : i.size = 1) (hby : i.bytes = 1)
    (v : Value) (l : List Nat) (hs : a.eval s = v) (hown : OwnQ q E B w v l) (ao : Option Addr) (m c : Nat) (l2 : List Nat) (hx : a.eval x = .slice ao m c) (hb : Reads q w ao m c l2)
    (hsum : l.length + m ≤ 140737488355328) (hbase : B ≤ w.heap.size)
    (h : ∀ v' w', OwnQ q E B w' v' (l ++ l2) → (∀ w0, Below B w0 w → Below B w0 w') → wpList P ops Q rest (a.put o.dst v') w') : wpList P ops Q (o :: rest) a w := by
  have hlen := hb.length
  have hbb : (l.length + m) * 1 ≤ 140737488355328 := by omega
  cases ao with
  | some ad =>
    refine wpList_append_own w hgd s x t ho B E i (.int q 0) 1 1 ht hi hz hsize hby rfl (by decide) v l.length (l.map (num q)) hs hown ad m c (l2.map (num q)) hx (by simpa using hlen) hb.news (nums_oneCell _ _) (by unfold maxLen; omega) hbb hbase ?_
    intro v' w' ho' hg _
    refine h v' w' ?_ (fun w0 h0 => h0.grown hg hbase (fun k hk => (hown.lt k hk).1))
    unfold OwnQ
    rw [List.map_append, List.length_append, hlen]
    exact ho'
  | none =>
    have hc := hb.nil rfl
    have hle := hb.le
    obtain rfl : m = 0 := by omega
    obtain rfl : l2 = [] := List.eq_nil_of_length_eq_zero hlen
    subst hc
    refine wpList_plain hgd fun K hK' => ?_
    have hrun := run_append_owned_none (P := P) w B t o.type E i 1 ht hi v l.length (l.map (num q)) hown
    unfold Oper.wp
    simp [execOp, ho, resolve, invoke, builtin, hs, hx, hrun, Result.andThen]
    exact hK' _ _ (by simpa using h v w (by simpa using hown) (fun _ h0 => h0))

theorem rows_alloc (W0 W : World) (cs : Array Value) (n : Nat) (R : Nat → Option Addr × Nat × Nat × List Nat) {E : TypeId} (hb : Below W0.heap.size W0 W) (hr : ∀ i, i < n → Reads .u8 W0 (R i).1 (R i).2.1 (R i).2.2.1 (R i).2.2.2 ∧ Byt (R i).2.2.2 ∧ (R i).2.1 ≤ 1048576)
    (hc : ∀ i, i < n → cs[i]? = some (.slice (R i).1 (R i).2.1 (R i).2.2.1)) : RowsM (W.alloc (.cells cs E)) (some ⟨W.heap.size, 0, none⟩) n R :=
  ⟨fun i hi => ⟨((hr i hi).1.below hb).below ((Below.refl _ _).alloc (Nat.le_refl _) _), (hr i hi).2⟩, fun _ => ⟨_, 0, rfl, by simp, fun i hi => by
    rw [Nat.zero_add, cellM (World.alloc_heap_new W _)]
    exact hc i hi⟩⟩
end Go.Proofs.YtcdglhmapijebaaDoor

namespace Go.Proofs.YtcdglhmapijebaaDoor
open Go.RowKit

/-- The contract of such an iterator, which goes on while the caller lets fewer than N come. -/
def SeqM {α : Type} (R : Nat → Prop) (F : Fence) (n : Nat) (P : Program) (g : Nat) (lb : Array Value) (encs : α → Array Value) (Gd : List α → α → World → Prop) (N : Nat) (w : World) : Prop :=
  ∀ (l : Nat) (J Jx : List α → World → Prop) (W : World), Below w.heap.size w W → (∀ s X X', J s X → X.grownBy X' none → J s X') →
    (∀ s X X', Jx s X → X.grownBy X' none → Jx s X') → (∀ pre X, J pre X → pre.length < N) →
    (∀ pre x X, J pre X → Gd pre x X → YieldAt F (n - 1) P l (encs x) X fun e X' => (e = .returned (.bool true) ∧ J (pre ++ [x]) X' ∧ KpR R X X') ∨ (e = .returned (.bool false) ∧ Jx (pre ++ [x]) X')) →
    J [] W → CallsIn F n P g (#[.func (.yield l) #[] #[]] ++ lb) W fun e X => (∃ v, e = .returned v) ∧ ∃ pre, Jx pre X
/-- What goes on whatever the loop's own book-keeping writes from B on. -/
def StaysW {β : Type} (B : Nat) (J : β → World → Prop) : Prop := ∀ s W W' row, J s W → W.grownBy W' row → (∀ r, row = some r → B ≤ r ∧ ∃ o : Obj, W.heap[r]? = some o ∧ o.isCells = false) → J s W'

set_option maxHeartbeats 1000000 in
/-- The caller's law. -/
theorem wpIn_rangeM {α : Type} {F : Fence} {n : Nat} {P : Program} {R : Nat → Prop} {g : Operand} {ps : Array Tmp} {assign body : Code} {Q : Exit → Act → World → Prop} {a : Act} {w : World}
    (hro : F.round = none) (h1 : 1 ≤ n) {gf : Nat} {lb : Array Value} (hg : a.eval g = .func (.func gf) #[] lb) (hFg : F.fn gf) (eg : ∀ args w, (callFunc gf args).run P w = .ok (.enter gf args) w)
    {encs : α → Array Value} {Gd : List α → α → World → Prop} {N : Nat} {w0 : World} (hseq : SeqM R F (n - 1) P gf lb encs Gd N w0) (hRl : ∀ k, R k → k < w.heap.size) (hb0 : Below w0.heap.size w0 w) (hps : ∀ x, (encs x).size = ps.size)
    (I : List α → World → Prop) (Ix : Code → List α → World → Prop) (hI : StaysW w.heap.size I) (hIx : ∀ c, StaysW w.heap.size (Ix c)) (hGd : StaysW w.heap.size (fun (s : List α × α) W => Gd s.1 s.2 W)) (hN : ∀ pre W, I pre W → pre.length < N) (h0 : I [] w) (a₁ : α → Act)
    (hassign : ∀ (l : Nat) (x : α) (W : World) (K : Act → World → Prop), K (a₁ x) W →
      assign.wpIn (F.inRound l) (n - 1 - 1) P (Exit.then K (fun _ _ _ => False)) { tmps := (ps.zip (encs x)).foldl (fun t (p, v) => t.setIfInBounds p v) a.tmps, defers := [] } W)
    (hbody : ∀ (l : Nat) (pre : List α) (x : α) (W : World), I pre W → Gd pre x W → body.wpIn (F.inRound l) (n - 1 - 1) P (ownPostG w.heap.size (KpR R) I Ix (pre ++ [x]) W) (a₁ x) W)
    (hstop : ∀ (D : Nat) (c : Code) (pre : List α) (W : World), w.heap.size ≤ D → Ix c pre W → W.heap[D]? = some (.deferred (some [])) → c.wpIn F n P Q { a with defers := { target := .collected D, args := #[] } :: a.defers } W) :
    (Code.rangeFunc g ps assign body).wpIn F n P Q a w := by
  refine wpIn_rangeFunc fun fn hfn => ?_
  rw [hro]
  generalize hB : w.heap.size = B at *
  obtain ⟨rc, hrc⟩ : ∃ rc : LoopState → Option Code → Loop, rc = fun st pe => { state := st, pending := pe, fn, tmps := a.tmps, params := ps, assign, body, defers := B } := ⟨_, rfl⟩
  obtain ⟨W1, hW1⟩ : ∃ W1, (w.alloc (.deferred (some []))).alloc (.loop (rc .ready none)) = W1 := ⟨_, rfl⟩
  have bel1 : Below B w W1 := by rw [← hW1]; exact ((Below.refl _ w).alloc (Nat.le_of_eq hB.symm) _).alloc (by simp; omega) _
  have hD1 : W1.heap[B]? = some (.deferred (some [])) := by
    rw [← hW1]
    refine (Below.heap_alloc _ _ _ (by simp; omega)).trans ?_
    have := World.alloc_heap_new w (.deferred (some []))
    rwa [hB] at this
  have hL1 : W1.heap[B + 1]? = some (.loop (rc .ready none)) := by
    have := World.alloc_heap_new (w.alloc (.deferred (some []))) (.loop (rc .ready none))
    rwa [World.size_alloc, hB, hW1] at this
  have hz1 : W1.heap.size = B + 2 := by rw [← hW1]; simp; omega
  have hi1 : I [] W1 := by
    rw [← hW1]
    exact hI _ _ _ none (hI _ _ _ none h0 (World.grownBy_alloc w _ none) (fun r e => by cases e)) (World.grownBy_alloc _ _ none) (fun r e => by cases e)
  have put : ∀ {β : Type} {G : β → World → Prop} (_ : StaysW B G) {s : β} {W : World} {r : Loop} (o : Obj), G s W → W.heap[B + 1]? = some (.loop r) → G s (W.putObj (B + 1) o) := fun hG s W r o hs hl =>
    hG s W _ (some (B + 1)) hs (grownBy_putObj' W (B + 1) o) (fun k e => by cases e; exact ⟨by omega, _, hl, rfl⟩)
  refine ⟨B + 1, [{ target := .collected B, args := #[] }], W1, { target := .fn (.func gf) lb, args := #[.func (.yield (B + 1)) #[] #[]] }, W1, gf, #[.func (.yield (B + 1)) #[] #[]] ++ lb, W1, ?_, by simp only [resolve, hg]; simp [go_sem], ?_, by simp [invoke, go_sem, eg], fun _ => h1, ?_⟩
  · rw [← hW1, hrc, ← hB]
    exact run_enterLoop_outer _ _ _ _ _
  · intro f' hf'
    simp [Target.leads] at hf'
    subst hf'
    exact hFg
  have stay : ∀ {G : List α → World → Prop} (_ : StaysW B G) (ro : Loop) (s : List α) (X X' : World), (G s X ∧ X.heap[B + 1]? = some (.loop ro) ∧ X.heap[B]? = some (.deferred (some []))) → X.grownBy X' none → G s X' ∧ X'.heap[B + 1]? = some (.loop ro) ∧ X'.heap[B]? = some (.deferred (some [])) := fun hG ro s X X' h hgr =>
    ⟨hG s X X' none h.1 hgr (fun r e => by cases e), (hgr.block _ (Array.getElem?_eq_some_iff.1 h.2.1).1 (fun e => by cases e)).trans h.2.1, (hgr.block _ (Array.getElem?_eq_some_iff.1 h.2.2).1 (fun e => by cases e)).trans h.2.2⟩
  refine (hseq (B + 1) (fun s X => I s X ∧ X.heap[B + 1]? = some (.loop (rc .ready none)) ∧ X.heap[B]? = some (.deferred (some [])))
    (fun s X => ∃ c, Ix c s X ∧ X.heap[B + 1]? = some (.loop (rc .done (some c))) ∧ X.heap[B]? = some (.deferred (some []))) W1 (hb0.trans (bel1.mono (by rw [← hB]; exact hb0.size)))
    (fun s X X' h hgr => stay hI _ s X X' h hgr) (fun s X X' ⟨c, h⟩ hgr => ⟨c, stay (hIx c) _ s X X' h hgr⟩) (fun pre X h => hN pre X h.1) ?_ ⟨hi1, hL1, hD1⟩).mono ?_
  · rintro pre x X ⟨hi, hl, hd⟩ hgd
    have hlt : B + 1 < X.heap.size := (Array.getElem?_eq_some_iff.1 hl).1
    have hy := run_yield (P := P) (args := encs x) hl (by rw [hrc]; exact hps x)
    rw [hrc] at hy
    refine ⟨fn, _, assign, body, hy, roundIn_of_wpIn hfn (hassign _ x X _ ⟨_, run_beginRound hl (by rw [hrc]), wpIn_mono (hbody _ pre x _ (put hI _ hi hl) (put hGd (s := (pre, x)) _ hgd hl)) ?_⟩)⟩
    obtain ⟨X2, hX2⟩ : ∃ X2, X.putObj (B + 1) (.loop { rc .ready none with state := .busy }) = X2 := ⟨_, rfl⟩
    rw [hX2]
    have hl2 : X2.heap[B + 1]? = some (.loop { rc .ready none with state := .busy }) := by rw [← hX2]; exact World.putObj_heap_same hlt
    have hd2 : X2.heap[B]? = some (.deferred (some [])) := by rw [← hX2]; exact (World.putObj_heap_other (by omega)).trans hd
    have kp2 : KpR R X X2 := by rw [← hX2]; exact KpR.put X _ _ (fun h => by have := hRl _ h; omega)
    have last : ∀ (j : Option Code) (X3 : World), KeepsFrom B X2 X3 → (Instr.endRound (B + 1) j).run P X3 = .ok (.bool j.isNone) (X3.putObj (B + 1) (.loop (rc (if j.isNone then .ready else .done) j))) ∧ X3.heap[B + 1]? = some (.loop { rc .ready none with state := .busy }) ∧ (X3.putObj (B + 1) (.loop (rc (if j.isNone then .ready else .done) j))).heap[B + 1]? = some (.loop (rc (if j.isNone then .ready else .done) j)) ∧ (X3.putObj (B + 1) (.loop (rc (if j.isNone then .ready else .done) j))).heap[B]? = some (.deferred (some [])) := fun j X3 hk => by
      have hl3 := hk.same _ _ (by omega) hl2 rfl
      have hr := run_endRound (P := P) j hl3
      rw [hrc] at hr hl3 ⊢
      exact ⟨hr, hl3, World.putObj_heap_same (Array.getElem?_eq_some_iff.1 hl3).1, (World.putObj_heap_other (by omega)).trans (hk.same _ _ (Nat.le_refl _) hd2 rfl)⟩
    rintro e a3 X3 hp
    cases e with
    | normal =>
      obtain ⟨hk, kp3, hi3⟩ := hp
      obtain ⟨hr, hl3, hl4, hd4⟩ := last none X3 hk
      exact ⟨_, _, hr, .inl ⟨rfl, ⟨put hI _ hi3 hl3, hl4, hd4⟩, (kp2.trans kp3).trans (KpR.put X3 _ _ (fun h => by have := hRl _ h; omega))⟩⟩
    | ret =>
      obtain ⟨hr, hl3, hl4, hd4⟩ := last (some .ret) X3 hp.1
      exact ⟨_, _, hr, .inr ⟨rfl, .ret, put (hIx _) _ hp.2 hl3, hl4, hd4⟩⟩
    | exit id =>
      obtain ⟨hr, hl3, hl4, hd4⟩ := last (some (.exit id)) X3 hp.1
      exact ⟨_, _, hr, .inr ⟨rfl, .exit id, put (hIx _) _ hp.2 hl3, hl4, hd4⟩⟩
    | goto t =>
      obtain ⟨hr, hl3, hl4, hd4⟩ := last (some (.goto t)) X3 hp.1
      exact ⟨_, _, hr, .inr ⟨rfl, .goto t, put (hIx _) _ hp.2 hl3, hl4, hd4⟩⟩
    | panic ch => exact hp.elim
    | outgrown => exact hp.elim
  · rintro e X2 ⟨⟨v, rfl⟩, pre, c, hi, hl, hd⟩
    refine ⟨some c, X2.putObj (B + 1) (.loop { rc .done (some c) with state := .exhausted }), ?_, hstop _ c pre _ (Nat.le_refl _) (put (hIx c) _ hi hl) ((World.putObj_heap_other (by omega)).trans hd)⟩
    have := run_endLoop (P := P) hl (by rw [hrc]; simp)
    rw [hrc] at this ⊢
    exact this

end Go.Proofs.YtcdglhmapijebaaDoor

namespace Go.Proofs.YtcdglhmapijebaaDoor
open Go.RowKit Go.Shelf
set_option maxRecDepth 100000

/-- A number's four bytes (below 65536). -/
def be4 (k : Nat) : List Nat := [0, 0, k / 256, k % 256]
theorem be4_byt {k : Nat} (h : k < 65536) : Byt (be4 k) := fun x hx => by
  simp only [be4, List.mem_cons, List.not_mem_nil, or_false] at hx
  omega
def pieceN (h : Nat) (seed : List Nat) (k : Nat) : List Nat := mHash h (seed ++ be4 k)
theorem Reads.same {q : IntKind} {w w' : World} {B : Nat} {a : Option Addr} {n c : Nat} {l : List Nat} (h : Reads q w a n c l) (hb : ∀ k, k < B → w'.heap[k]? = w.heap[k]?) (hs : w.heap.size ≤ w'.heap.size) (ha : 0 < n → ∀ x, a = some x → x.block < B) : Reads q w' a n c l :=
  ⟨h.length, h.le, h.max, h.nil, fun hp => by
    obtain ⟨b, off, rfl, hlt, hc⟩ := h.cells hp
    exact ⟨b, off, rfl, Nat.lt_of_lt_of_le hlt hs, fun i hi => (World.cell?_of_block (a := ⟨b, off + i, .none⟩) (hb b (ha hp _ rfl))).trans (hc i hi)⟩⟩
theorem Kinds.same {w w' : World} (h : Kinds w) (hb : w'.heap[0]? = w.heap[0]?) : Kinds w' := fun i hi => (World.cell?_of_block (a := ⟨0, i, none⟩) hb).trans (h i hi)

theorem pieces_m (w : World) (h : Int) (a : Option Addr) (n c : Nat) : Calls Tryd.prog 39 #[.int .i64 h, .slice a n c] w fun e w' => e = .returned (.func (.func 51) #[] #[.pointer (some ⟨w.heap.size, 0, none⟩), .pointer (some ⟨w.heap.size + 1, 0, none⟩)]) ∧ w' = (w.alloc (.cells #[.int .i64 h] 26)).alloc (.cells #[.slice a n c] 22) := by
  go_enter Tryd.func39, Tryd.ntmps39
  go_wp2
  go_ret
  exact ⟨rfl, rfl⟩

def sdR (a : Option Addr) (ls cs : Nat) (seed : List Nat) (s k : Nat) : Nat → Option Addr × Nat × Nat × List Nat
  | 0 => (a, ls, cs, seed)
  | _ => (some ⟨s, 0, none⟩, 4, 4, be4 k)
def GdP (h : Nat) (seed : List Nat) (pre : List (Addr × Nat)) (x : Addr × Nat) (X : World) : Prop := Reads .u8 X (some x.1) (mSize h) x.2 (pieceN h seed pre.length)
set_option maxHeartbeats 4000000 in
theorem pieces_come_m (n : Nat) (hn : 1 ≤ n) (h : Nat) (hh : IsHash h) (a : Option Addr) (ls cs : Nat) (seed : List Nat) (N B bh bs : Nat) (hN : N ≤ 60000) (w : World) (hk : Kinds w) (hGB : 0 < B) (hr : Reads .u8 w a ls cs seed) (hsb : Byt seed) (hls : ls ≤ 1048000) (hab : 0 < ls → ∀ x, a = some x → x.block < B)
    (hbh : Boxed w bh 26 (.int .i64 (h : Int))) (hbs : Boxed w bs 22 (.slice a ls cs)) (hBw : B ≤ w.heap.size) :
    SeqM (fun k => k < B ∨ k = bh ∨ k = bs) Fence.wide n Tryd.prog 51 #[.pointer (some ⟨bh, 0, none⟩), .pointer (some ⟨bs, 0, none⟩)] (fun x : Addr × Nat => #[.slice (some x.1) (mSize h) x.2]) (GdP h seed) N w := fun lp J Jx W hbel hJ hJx hJN hY h0 => by
  have HJ := Lib.hid hJ
  have HJN := Lib.hid hJN
  have HH := Lib.hid hh
  have HY := Lib.hid hY
  have HJ0 := Lib.hid h0
  have HKW := Lib.hid (hk.below hbel)
  have HRW := Lib.hid (hr.below hbel)
  have HBH := Lib.hid (show Boxed W bh 26 (.int .i64 (h : Int)) from (hbel.block bh hbh.lt).trans hbh)
  have HBS := Lib.hid (show Boxed W bs 22 (.slice a ls cs) from (hbel.block bs hbs.lt).trans hbs)
  have HSB := Lib.hid hsb
  have HAB := Lib.hid hab
  have hBW : B ≤ W.heap.size := Nat.le_trans hBw hbel.size
  have hhW : bh < W.heap.size := HBH.out.lt
  have hsW : bs < W.heap.size := HBS.out.lt
  have hh4 := isHash_lt hh
  have HKP := Lib.hid (KpR.refl (fun k => k < B ∨ k = bh ∨ k = bs) W)
  clear hJ hJN hh hY h0 hk hr hbh hbs hsb hab hbel
  refine callsIn_of_wp Tryd.func51 rfl trivial ?_ rfl
  simp only [Tryd.ntmps51, List.size_toArray, List.length_cons, List.length_nil, Nat.reduceAdd, Nat.reduceSub, Array.replicate_succ, Array.replicate_zero, List.push_toArray, List.append_toArray, List.nil_append, List.cons_append]
  gi_wp2_with fail
  gi_loopw [4] (fun nv wr => ∃ k : Nat, nv = .int .u32 (k : Int) ∧ Hid (∃ pre, pre.length = k ∧ J pre wr ∧ KpR (fun k => k < B ∨ k = bh ∨ k = bs) W wr)) (fun nv _ => N - (intOf nv).toNat)
  case atStart => exact ⟨0, rfl, [], rfl, HJ0.out, HKP.out⟩
  case round =>
    obtain ⟨k, rfl, hI⟩ := hrel
    obtain ⟨pre, hpl, hj, hkp⟩ := hI.out
    have hkN : k < N := by rw [← hpl]; exact HJN.out _ _ hj
    have HJ1 := Lib.hid hj
    have HP1 := Lib.hid hkp
    have HPL := Lib.hid hpl
    have BH := (show Boxed wr bh 26 (.int .i64 (h : Int)) from (hkp.2 bh (.inr (.inl rfl))).trans HBH.out)
    have BS := (show Boxed wr bs 22 (.slice a ls cs) from (hkp.2 bs (.inr (.inr rfl))).trans HBS.out)
    have HKR := Lib.hid (HKW.out.same (hkp.2 _ (.inl hGB)))
    have HRR := Lib.hid (HRW.out.same (B := B) (fun z hz => hkp.2 z (.inl hz)) hkp.1 HAB.out)
    have cH := BH.cell
    have cS := BS.cell
    have s24 : (k : Int) / 16777216 = 0 := by omega
    have s16 : (k : Int) / 65536 = 0 := by omega
    obtain ⟨q, hq⟩ : ∃ q, q = k / 256 := ⟨_, rfl⟩
    obtain ⟨r, hr⟩ : ∃ r, r = k % 256 := ⟨_, rfl⟩
    have s8 : (k : Int) / 256 = (q : Int) := by omega
    have hq256 : q < 256 := by omega
    have w8 : IntKind.u8.wrap (q : Int) = (q : Int) := by rw [IntKind.wrap_u8]; omega
    have w0 : IntKind.u8.wrap (k : Int) = (r : Int) := by rw [IntKind.wrap_u8]; omega
    have HBE := Lib.hid (show be4 k = [0, 0, q, r] by rw [hq, hr]; rfl)
    clear hI hpl hj hkp BH BS hq hr
    have hN2 : k < 65536 := by omega
    have HRW2 := Lib.hid (show ∀ z, z < 2 → Reads .u8 (wr.alloc (.cells #[.int .u8 0, .int .u8 0, .int .u8 (q : Int), .int .u8 (r : Int)] 5)) (sdR a ls cs seed wr.heap.size k z).1 (sdR a ls cs seed wr.heap.size k z).2.1 (sdR a ls cs seed wr.heap.size k z).2.2.1 (sdR a ls cs seed wr.heap.size k z).2.2.2 ∧ Byt (sdR a ls cs seed wr.heap.size k z).2.2.2 ∧ (sdR a ls cs seed wr.heap.size k z).2.1 ≤ 1048576 from fun z hz => by
      rcases (show z = 0 ∨ z = 1 by omega) with rfl | rfl
      · exact ⟨HRR.out.below ((Below.refl _ _).alloc (Nat.le_refl _) _), HSB.out, by show ls ≤ 1048576; omega⟩
      · refine ⟨Reads.litM .u8 wr 5 (be4 k) _ 4 (by rw [HBE.out]; simp [num]) rfl (by rw [HBE.out]; unfold maxLen; simp), be4_byt hN2, (by decide : 4 ≤ 1048576)⟩)
    gi_wp2_with fail
    refine ⟨trivial, ?_⟩
    have hrows := rows_alloc (E := 22) (wr.alloc (.cells #[.int .u8 0, .int .u8 0, .int .u8 (q : Int), .int .u8 (r : Int)] 5)) (wr.alloc (.cells #[.int .u8 0, .int .u8 0, .int .u8 (q : Int), .int .u8 (r : Int)] 5)) #[.slice a ls cs, .slice (some ⟨wr.heap.size, 0, none⟩) 4 4] 2 (sdR a ls cs seed wr.heap.size k) (Below.refl _ _) HRW2.out (fun z hz => by rcases (show z = 0 ∨ z = 1 by omega) with rfl | rfl <;> rfl)
    rw [World.size_alloc] at hrows
    refine (callsIn_wide.2 (sum_yes h HH.out (some ⟨wr.heap.size + 1, 0, none⟩) 2 2 (sdR a ls cs seed wr.heap.size k) _ (HKR.out.below (((Below.refl _ _).alloc (Nat.le_refl _) _).alloc (by simp) _)) hrows (by decide))).mono ?_
    rintro e w1 ⟨⟨ad, c, rfl, h1, h2⟩, h3⟩
    have hb1 : Below wr.heap.size wr w1 := (((Below.refl wr.heap.size wr).alloc (Nat.le_refl _) _).alloc (by simp) _).trans (h3.mono (by simp; omega))
    have J1 := HJ.out _ _ _ HJ1.out (grown_below hb1 none)
    have hgd : GdP h seed pre (ad, c) w1 := by
      show Reads .u8 w1 (some ad) (mSize h) c (mHash h (seed ++ be4 pre.length))
      rw [HPL.out]
      exact h1
    have HP2 := Lib.hid (HP1.out.trans (KpR.grown (R := fun k => k < B ∨ k = bh ∨ k = bs) (grown_below hb1 none) (fun z hz => by have := HP1.out.1; rcases hz with hz | rfl | rfl <;> omega) (fun r e => by cases e)))
    obtain ⟨fn, tmps, assign, body, hy, hR⟩ := HY.out pre (ad, c) w1 J1 hgd
    have HR := Lib.hid hR
    clear hrows h1 h2 h3 hb1 J1 hgd hR cH cS
    gi_wp2_with fail
    refine HR.out.mono ?_
    rintro e W3 (⟨rfl, hJ3, hk3⟩ | ⟨rfl, hx3⟩)
    · have J3 := Lib.hid hJ3
      have HP3 := Lib.hid (HP2.out.trans hk3)
      clear hJ3 hk3
      gi_wp2
      go_roundw
      case rel => exact ⟨k + 1, by go_num, pre ++ [(ad, c)], by rw [List.length_append, HPL.out]; rfl, J3.out, HP3.out⟩
      case measure => simp [intOf]; omega
    · have HX3 := Lib.hid hx3
      clear hx3
      gi_wp2
      refine bodyPost_ret (results_none rfl _ _ _) rfl ?_
      exact ⟨⟨_, rfl⟩, _, HX3.out⟩

end Go.Proofs.YtcdglhmapijebaaDoor
