/-
  SHA-512: Write.
-/
import Derived.Test.YtmfjhgjplmpecaaDoorQbO
import Derived.Laws.IdiomCopy
namespace Go.Proofs.YtmfjhgjplmpecaaDoor.L5
open Go.RowKit Go.Shelf
set_option maxRecDepth 100000

theorem _root_.Go.Proofs.YtmfjhgjplmpecaaDoor.Reads.from5 {q : IntKind} {w : World} {a : Option Addr} {len cap : Nat} {l : List Nat} (h : Reads q w a len cap l) (k : Nat) (hk : k ≤ len) : Reads q w (if cap = k then a else a.map (·.add k)) (len - k) (cap - k) (l.drop k) := by
  have := h.sub k len hk (Nat.le_refl _)
  rwa [List.take_of_length_le (by rw [h.length]; exact Nat.le_refl _)] at this
theorem join_take {m : List Nat} (k a l : Nat) : (m.drop k).take a ++ (m.drop (k + a)).take l = (m.drop k).take (a + l) := by
  rw [List.take_add, List.drop_drop]
theorem all_lt {l m : List Nat} {b : Nat} (h : ∀ x ∈ l, x < b) (k : ∀ x ∈ m, x < b) : ∀ x ∈ l ++ m, x < b := fun x hx => by
  rcases List.mem_append.1 hx with hx | hx
  · exact h x hx
  · exact k x hx
def slLen : Value → Nat
  | .slice _ m _ => m
  | _ => 0
/-- With so many blocks done. -/
def SemW (bt : Nat) (M : List Nat) (k0 s q : Nat) (ws tail : List Nat) (at' : Nat) : Prop := ws = wsK bt M q ∧ k0 + s = 128 * q + at' ∧ tail.take at' = (M.drop (128 * q)).take at'
theorem SemW.start {bt : Nat} {m0 bl ws tail : List Nat} (h : FinP bt m0 ws tail) : SemW bt (m0 ++ bl) m0.length 0 (m0.length / 128) ws tail (m0.length % 128) := by
  refine ⟨?_, by omega, ?_⟩
  · rw [h.1]
    exact wsK_ext _ (by rw [List.take_append_of_le_length (by omega)])
  · rw [h.2, List.drop_append_of_le_length (by omega), List.take_append_of_le_length (by rw [List.length_drop]; omega), List.take_of_length_le (by rw [List.length_drop]; omega)]
theorem SemW.next {bt s q at' : Nat} {m0 bl ws tail : List Nat} (h : SemW bt (m0 ++ bl) m0.length s q ws tail at') (ht : tail.length = 128) (ha : at' < 128) (hs : s ≤ bl.length) (hm : 128 ≤ at' + (bl.length - s)) :
    SemW bt (m0 ++ bl) m0.length (s + (128 - at')) (q + 1) (turnN ws (laidIn tail (bl.drop s) at')) (laidIn tail (bl.drop s) at') 0 := by
  obtain ⟨h1, h2, h3⟩ := h
  have hl : ((bl.drop s).take (128 - at')).length = 128 - at' := by rw [List.length_take, List.length_drop]; omega
  have hd : laidIn tail (bl.drop s) at' = ((m0 ++ bl).drop (128 * q)).take 128 := by
    unfold laidIn
    rw [hl, show tail.drop (at' + (128 - at')) = [] from List.drop_of_length_le (by omega), List.append_nil, h3, piece_eq (m0 := m0) s (128 - at'), h2, join_take, show at' + (128 - at') = 128 by omega]
  refine ⟨?_, by omega, rfl⟩
  rw [hd, h1]
  rfl
theorem SemW.fin {bt s q at' : Nat} {m0 bl ws tail : List Nat} (h : SemW bt (m0 ++ bl) m0.length s q ws tail at') (ht : tail.length = 128) (hs : s ≤ bl.length) (hm : at' + (bl.length - s) < 128) :
    FinP bt (m0 ++ bl) ws (laidIn tail (bl.drop s) at') := by
  obtain ⟨h1, h2, h3⟩ := h
  have hM : (m0 ++ bl).length = 128 * q + (at' + (bl.length - s)) := by rw [List.length_append]; omega
  have e1 : (m0 ++ bl).length / 128 = q := by omega
  have e2 : (m0 ++ bl).length % 128 = at' + (bl.drop s).length := by rw [List.length_drop]; omega
  refine ⟨by rw [e1]; exact h1, ?_⟩
  rw [e1, e2, laidIn_take ht (by rw [List.length_drop]; omega), h3]
  have hp := piece_eq (m0 := m0) (bl := bl) s (bl.length - s)
  rw [List.take_of_length_le (by rw [List.length_drop]; omega)] at hp
  rw [hp, h2, join_take, List.take_of_length_le (by rw [List.length_drop]; omega)]
/-- 'copy(s.tail[at:], b)'. -/
theorem StateAt.lay {w : World} {g bt : Nat} {ws tail : List Nat} {T : Nat} (h : StateAt w g bt ws tail T) (p : List Nat) (hp : ∀ x ∈ p, x < 256) (at' : Nat) (ha : at' < 128) (a : Option Addr) (l c : Nat) (hr : Reads .u8 w a l c p) (n : Nat) (hn : n = (p.take (128 - at')).length) :
    ∃ w', (Builtin.copy_ #[23, 23] 3 #[.slice (some ⟨g, 9 + at', none⟩) (128 - at') (128 - at'), .slice a l c]).run Tryd.prog w = .ok (.int .i64 (n : Int)) w' ∧ StateAt w' g bt ws (laidIn tail p at') T ∧ w.grownBy w' (some g) := by
  subst hn
  rcases Nat.eq_zero_or_pos l with rfl | hpos
  · have hp0 : p = [] := List.eq_nil_of_length_eq_zero hr.length
    subst hp0
    refine ⟨w, ?_, ?_, ⟨rfl, rfl, rfl, Nat.le_refl _, fun _ _ _ => rfl⟩⟩
    · have := run_copy_none (P := Tryd.prog) w 23 23 3 5 (some ⟨g, 9 + at', none⟩) a (128 - at') (128 - at') 0 c Tryd.underlying23 (by kernel_rfl) (Nat.zero_min _)
      rw [this]
      simp [goInt]
    · have e : laidIn tail [] at' = tail := by unfold laidIn; simp
      rw [e]
      exact h
  · obtain ⟨b, o, rfl, -, -⟩ := hr.cells hpos
    obtain ⟨h1, h2⟩ := h.splice p hp at' (Nat.le_of_lt ha) b o l c hr
    exact ⟨_, h1, h2, grown_setRow ⟨rfl, rfl, rfl, Nat.le_refl _, fun _ _ _ => rfl⟩ _⟩

set_option maxRecDepth 100000 in
set_option maxHeartbeats 4000000 in
theorem write_core (g bt : Nat) (ws tail m0 bl : List Nat) (a : Option Addr) (n c : Nat) (w : World) (h : StateAt w g bt ws tail m0.length) (hf : FinP bt m0 ws tail) (hbt : bt ≠ 0) (hr : Reads .u8 w a n c bl) (hb : ∀ x ∈ bl, x < 256) (hlen : m0.length + n < 2305843009213693952) (hne : 0 < n → ∀ ad, a = some ad → ad.block ≠ g) :
    Calls Tryd.prog 35 #[.pointer (some ⟨g, 0, none⟩), .slice a n c] w fun e w' => e = .returned (.tuple #[]) ∧ (∃ ws' tail', StateAt w' g bt ws' tail' (m0 ++ bl).length ∧ FinP bt (m0 ++ bl) ws' tail') ∧ w.grownBy w' (some g) := by
  have h0 : Tryd.f35.results = #[] := by kernel_rfl
  have H0 := Lib.hid h0
  have H := Lib.hid h
  have HR := Lib.hid hr
  have HB := Lib.hid hb
  have HN := Lib.hid hne
  have HF := Lib.hid hf
  have hnl := Lib.hid hr.length
  obtain ⟨T0, hT0⟩ : ∃ T, T = m0.length := ⟨_, rfl⟩
  obtain ⟨at0, hat0⟩ : ∃ x, x = T0 % 128 := ⟨_, rfl⟩
  have hatc : (T0 : Int) % 128 = (at0 : Int) := by omega
  have hat128 : at0 < 128 := by omega
  have hst := h
  rw [← hT0] at hst hlen
  have HST := Lib.hid hst
  have cT := hst.taken
  have fT := hst.frozen 137
  obtain ⟨T1, hT1⟩ : ∃ T, T = T0 + n := ⟨_, rfl⟩
  have hsum : (T0 : Int) + (n : Int) = (T1 : Int) := by omega
  have hT1b : T1 < 2305843009213693952 := by omega
  have hT0b : T0 < 2305843009213693952 := by omega
  have hnb : n < 2305843009213693952 := by omega
  have HT0 := Lib.hid hT0
  have HT1 := Lib.hid hT1
  have HAT0 := Lib.hid hat0
  clear h hr hb hne hf h0 hT0 hT1 hat0 hst hlen
  go_enter Tryd.func35, Tryd.ntmps35
  go_wp2_with fail
  refine (made_yes g bt ws tail T0 w HST.out hbt).mono ?_
  rintro e w1 ⟨rfl, rfl⟩
  go_wp2_with fail
  have hg1 := Lib.hid (grown_set (x := w) (y := w) (g := g) ⟨rfl, rfl, rfl, Nat.le_refl _, fun _ _ _ => rfl⟩ 137 (.int .u64 (T1 : Int)))
  have hs1 := Lib.hid (HST.out.setTaken T1 (T1 : Int) rfl)
  have hr1 := Lib.hid (HR.out.grownNe5 hg1.out (fun hp ad e h => HN.out hp ad e (Option.some.inj h)))
  have hsem := Lib.hid (SemW.start (bl := bl) HF.out)
  clear cT fT hatc hsum
  generalize w.setCell ⟨g, 137, none⟩ (.int .u64 (T1 : Int)) = w1 at *
  go_loopw [1, 4] (fun bv av wr => ∃ (s m c' at' q : Nat) (a' : Option Addr), bv = .slice a' m c' ∧ av = .int .i64 (at' : Int) ∧ at' < 128 ∧ m < 2305843009213693952 ∧ c' ≤ 9223372036854775807 ∧ Hid (s + m = n ∧ Reads .u8 wr a' m c' (bl.drop s) ∧ (0 < m → ∀ ad, a' = some ad → ad.block ≠ g) ∧ (∃ ws tail, StateAt wr g bt ws tail T1 ∧ SemW bt (m0 ++ bl) m0.length s q ws tail at') ∧ w.grownBy wr (some g))) (fun bv _ _ => slLen bv)
  case atStart => exact ⟨0, n, c, at0, m0.length / 128, a, rfl, rfl, hat128, hnb, by have := hr1.out.max; unfold maxLen at this; omega, by omega, hr1.out, HN.out, ⟨ws, tail, hs1.out, by rw [HAT0.out, HT0.out]; exact hsem.out⟩, hg1.out⟩
  case round =>
    obtain ⟨s, m, c', at', q, a', rfl, rfl, hat, hmb, hcb, hI⟩ := hrel
    obtain ⟨hsm, hrd, hblk, ⟨wz, tz, hst, hsm2⟩, hgr⟩ := hI.out
    have HSM := Lib.hid hsm
    have HRD := Lib.hid hrd
    have HBLK := Lib.hid hblk
    have HS := Lib.hid hst
    have HSEM := Lib.hid hsm2
    have HGR := Lib.hid hgr
    have HBP := Lib.hid (show ∀ x ∈ bl.drop s, x < 256 from fun x hx => HB.out x (List.mem_of_mem_drop hx))
    clear hsm hrd hblk hst hsm2 hgr hI hg1 hs1 hr1 hsem
    have hsl := slice_tail g at' hat
    by_cases hc : 128 ≤ at' + m
    · have hd : decide (128 ≤ (at' : Int) + (m : Int)) = true := by simp; omega
      obtain ⟨u, hu⟩ : ∃ u, u = 128 - at' := ⟨_, rfl⟩
      have hu1 : 1 ≤ u := by omega
      have hu2 : u ≤ 128 := by omega
      have hum : u ≤ m := by omega
      have hlu : ((bl.drop s).take (128 - at')).length = u := by
        have := HSM.out
        have := hnl.out
        rw [List.length_take, List.length_drop]
        omega
      obtain ⟨w2, hcp, hs2, hg2⟩ := HS.out.lay (bl.drop s) HBP.out at' hat a' m c' HRD.out u hlu.symm
      have HS2 := Lib.hid hs2
      have HG2 := Lib.hid hg2
      have HU := Lib.hid hu
      obtain ⟨blk, o, rfl, -, -⟩ := HRD.out.cells (by omega)
      have hfr := HRD.out.from5 u hum
      rw [List.drop_drop] at hfr
      have hc1 := HRD.out.le
      have HC := Lib.hid hc
      clear hs2 hg2 hu hlu hc
      by_cases hck : c' = u
      · have hck2 := hck.symm
        clear hck
        subst hck2
        rw [if_pos rfl, Nat.sub_self, show m - u = 0 by omega] at hfr
        have HFR := Lib.hid hfr
        have HM0 := Lib.hid (show m = u by omega)
        clear hfr
        go_wp2_with fail
        refine (turn_any g bt wz (laidIn tz (bl.drop s) at') T1 w2 HS2.out).mono ?_
        rintro e w3 ⟨rfl, hs3, hg3⟩
        have HS3 := Lib.hid hs3
        have HG3 := Lib.hid (grown_trans HG2.out hg3)
        clear hs3 hg3 hcp hsl
        go_wp2
        go_roundw
        case rel => exact ⟨s + u, 0, 0, 0, q + 1, _, rfl, by go_num, by decide, by decide, by decide, by have := HSM.out; have := HM0.out; omega, (HFR.out.grownNe5 HG3.out (fun h => by omega)), (fun h => by omega), ⟨_, _, HS3.out, by have := HSEM.out.next HS.out.tlen hat (by have := HSM.out; have := hnl.out; omega) (by have := HSM.out; have := hnl.out; have := HC.out; omega); rw [HU.out]; exact this⟩, grown_trans HGR.out HG3.out⟩
        case measure => simp [slLen]; omega
      · rw [if_neg hck, show ((some ⟨blk, o, none⟩ : Option Addr).map (·.add u)) = some ⟨blk, o + u, none⟩ by simp only [Option.map_some]; congr 1; unfold Addr.add; split <;> simp_all] at hfr
        have HFR := Lib.hid hfr
        clear hfr
        go_wp2_with fail
        refine (turn_any g bt wz (laidIn tz (bl.drop s) at') T1 w2 HS2.out).mono ?_
        rintro e w3 ⟨rfl, hs3, hg3⟩
        have HS3 := Lib.hid hs3
        have HG3 := Lib.hid (grown_trans HG2.out hg3)
        clear hs3 hg3 hcp hsl
        go_wp2
        go_roundw
        case rel => exact ⟨s + u, m - u, c' - u, 0, q + 1, _, rfl, by go_num, by decide, by omega, by omega, by have := HSM.out; omega, (HFR.out.grownNe5 HG3.out (fun h ad e => by cases e; intro e2; exact HBLK.out (by omega) ⟨blk, o, none⟩ rfl (Option.some.inj e2))), (fun h ad e => by cases e; exact HBLK.out (by omega) ⟨blk, o, none⟩ rfl), ⟨_, _, HS3.out, by have := HSEM.out.next HS.out.tlen hat (by have := HSM.out; have := hnl.out; omega) (by have := HSM.out; have := hnl.out; have := HC.out; omega); rw [HU.out]; exact this⟩, grown_trans HGR.out HG3.out⟩
        case measure => simp [slLen]; omega
    · have hd : decide (128 ≤ (at' : Int) + (m : Int)) = false := by simp; omega
      have HC := Lib.hid hc
      clear hc
      obtain ⟨u, hu⟩ : ∃ u, u = ((bl.drop s).take (128 - at')).length := ⟨_, rfl⟩
      obtain ⟨w2, hcp, hs2, hg2⟩ := HS.out.lay (bl.drop s) HBP.out at' hat a' m c' HRD.out u hu
      have HS2 := Lib.hid hs2
      have HG2 := Lib.hid hg2
      clear hs2 hg2 hu
      go_wp2
      refine bodyPost_end (v := .tuple #[]) (by simp [results, H0.out]) rfl ?_
      refine ⟨rfl, ⟨wz, _, ?_, HSEM.out.fin HS.out.tlen (by have := HSM.out; have := hnl.out; omega) (by have := HSM.out; have := hnl.out; have := HC.out; omega)⟩, grown_trans HGR.out HG2.out⟩
      rw [List.length_append, hnl.out, ← HT0.out, ← HT1.out]
      exact HS2.out

theorem write_any (g bt : Nat) (m0 bl : List Nat) (a : Option Addr) (n c : Nat) (w : World) (h : StateOf w g bt m0) (hbt : bt ≠ 0) (hr : Reads .u8 w a n c bl) (hb : ∀ x ∈ bl, x < 256) (hlen : m0.length + n < 1152921504606846976) (hne : 0 < n → ∀ ad, a = some ad → ad.block ≠ g) :
    Calls Tryd.prog 35 #[.pointer (some ⟨g, 0, none⟩), .slice a n c] w fun e w' => e = .returned (.tuple #[]) ∧ StateOf w' g bt (m0 ++ bl) ∧ w.grownBy w' (some g) := by
  obtain ⟨ws, tail, hst, hfin, -, hm0⟩ := h
  have hnl := hr.length
  exact (write_core g bt ws tail m0 bl a n c w hst hfin hbt hr hb (by omega) hne).mono fun _ _ ⟨h1, ⟨ws', tail', h2, h3⟩, h4⟩ => ⟨h1, ⟨ws', tail', h2, h3, by rw [List.length_append]; omega, all_lt hm0 hb⟩, h4⟩

end Go.Proofs.YtmfjhgjplmpecaaDoor.L5
