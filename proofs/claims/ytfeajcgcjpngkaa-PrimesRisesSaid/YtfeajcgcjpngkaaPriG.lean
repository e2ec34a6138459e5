/-
  WHAT IS CROSSED OUT: crossed.
-/
import Derived.Test.YtfeajcgcjpngkaaPriF
import Derived.Deep.LoopGhost
namespace Go.Proofs.Ytfeajcgcjpngkaa
open Go.RowKit

/-- While the marks that lie at N are moved. -/
def CrI (N : Nat) (L M : List (Nat × Nat)) (hit : Bool) : Prop := (∀ x ∈ M, (x.1 = N ∧ MarkOk N x) ∨ MarkOk (N + 1) x) ∧ (∀ p, PrimeN p → p < N → ∃ a, (a, p) ∈ M) ∧ (hit = false → M.Perm L) ∧ (hit = true → ∃ x ∈ L, x.1 = N)
def cntP (N : Nat) (M : List (Nat × Nat)) : Nat := M.countP (fun x => decide (x.1 = N))
/-- All marks are right behind N, but that of N itself. -/
def Moved (N : Nat) (L : List (Nat × Nat)) : Prop := (∀ x ∈ L, MarkOk (N + 1) x) ∧ ∀ p, PrimeN p → p < N → ∃ a, (a, p) ∈ L
theorem CrI.start {N : Nat} {L : List (Nat × Nat)} (h : MarksOk N L) : CrI N L L false := by
  refine ⟨fun x hx => ?_, h.2, fun _ => List.Perm.refl _, (fun h => by cases h)⟩
  have hm := h.1 x hx
  rcases Nat.eq_or_lt_of_le hm.2.2.1 with e | hlt
  · exact .inl ⟨e.symm, hm⟩
  · exact .inr (hm.stay hlt)
theorem CrI.turn {N x y : Nat} {L M M1 M2 : List (Nat × Nat)} {hit : Bool} (h : CrI N L M hit) (hp : ((x, y) :: M1).Perm M) (hx : x ≤ N) (hq : M2.Perm (M1 ++ [(x + y, y)])) : CrI N L M2 true ∧ cntP N M2 < cntP N M ∧ x = N ∧ y < N := by
  obtain ⟨h1, h2, h3, h4⟩ := h
  have hmem : (x, y) ∈ M := hp.mem_iff.1 (by simp)
  have hm : x = N ∧ MarkOk N (x, y) := by
    rcases h1 _ hmem with h | h
    · exact h
    · have := h.2.2.1
      simp at this
      omega
  obtain ⟨rfl, hm⟩ := hm
  refine ⟨⟨fun z hz => ?_, fun p hp1 hp2 => ?_, (fun h => by cases h), fun _ => ?_⟩, ?_, rfl, hm.2.1⟩
  · rcases List.mem_append.1 (hq.mem_iff.1 hz) with hz | hz
    · exact h1 z (hp.mem_iff.1 (List.mem_cons_of_mem _ hz))
    · obtain rfl := List.mem_singleton.1 hz
      exact .inr (hm.move rfl)
  · obtain ⟨a, ha⟩ := h2 p hp1 hp2
    rcases List.mem_cons.1 (hp.mem_iff.2 ha) with e | ha
    · cases e
      exact ⟨x + y, hq.mem_iff.2 (by simp)⟩
    · exact ⟨a, hq.mem_iff.2 (List.mem_append_left _ ha)⟩
  · cases hit with
    | true => exact h4 rfl
    | false => exact ⟨_, (h3 rfl).mem_iff.1 hmem, rfl⟩
  · unfold cntP
    rw [← hp.countP_eq, hq.countP_eq, List.countP_append]
    have e1 : List.countP (fun z : Nat × Nat => decide (z.1 = x)) ((x, y) :: M1) = List.countP (fun z : Nat × Nat => decide (z.1 = x)) M1 + 1 := List.countP_cons_of_pos (by simp)
    have hy := hm.1.1
    simp at hy
    have : List.countP (fun z : Nat × Nat => decide (z.1 = x)) [(x + y, y)] = 0 := by simp; omega
    omega
theorem CrI.last {N : Nat} {L M M2 : List (Nat × Nat)} {hit : Bool} (h : CrI N L M hit) (hM : MarksOk N L) (h2 : 2 ≤ N) (hn : ∀ x ∈ M, x.1 ≠ N) (hq : M2.Perm M) : hit = !(isPrime N) ∧ Moved N M2 := by
  obtain ⟨h1, h3, h4, h5⟩ := h
  refine ⟨?_, fun z hz => ?_, fun p hp1 hp2 => (h3 p hp1 hp2).elim fun a ha => ⟨a, hq.mem_iff.2 ha⟩⟩
  · cases hit with
    | false =>
      have : PrimeN N := (hM.hit h2).2 fun x hx => hn x ((h4 rfl).mem_iff.2 hx)
      rw [(isPrime_iff N).2 this]
      rfl
    | true =>
      obtain ⟨x, hx, he⟩ := h5 rfl
      have : ¬ PrimeN N := fun hp => (hM.hit h2).1 hp x hx he
      cases hi : isPrime N with
      | true => exact absurd ((isPrime_iff N).1 hi) this
      | false => rfl
  · rcases h1 z (hq.mem_iff.1 hz) with h | h
    · exact absurd h.1 (hn z (hq.mem_iff.1 hz))
    · exact h
theorem all_above {N x y : Nat} {M : List (Nat × Nat)} (h : HeapN M M.length) (hx : gt M 0 = (x, y)) (hlt : N < x) : ∀ z ∈ M, z.1 ≠ N := by
  intro z hz
  obtain ⟨i, hi, rfl⟩ := List.getElem_of_mem hz
  have h1 := least h i hi
  unfold ky at h1
  rw [hx] at h1
  have h2 : gt M i = M[i] := by unfold gt; rw [List.getElem?_eq_getElem hi]; rfl
  rw [h2] at h1
  simp at h1
  omega

theorem HpO.alloc {B b g n c : Nat} {w : World} {L : List (Nat × Nat)} (h : HpO B w b g n c L) (o : Obj) : HpO B (w.alloc o) b g n c L := ⟨h.1.alloc o, h.2⟩

set_option maxRecDepth 100000 in
set_option maxHeartbeats 2000000 in
theorem crossed_any (B b g n c N : Nat) (L : List (Nat × Nat)) (w : World) (h : HpO B w b g n c L) (hM : MarksOk N L) (h2 : 2 ≤ N) (hN : N < 100000) (hn : n < 800000) (hit : Bool) (hh : hit = !(isPrime N)) :
    Calls Try.prog 53 #[.iface 80 (.pointer (some ⟨b, 0, none⟩)), .int .i64 (N : Int)] w fun e w' => e = .returned (.bool hit) ∧ (∃ g' c' L', HpO B w' b g' n c' L' ∧ Moved N L') ∧ WayT B w w' := by
  have H := Lib.hid h
  have HM := Lib.hid hM
  have HH := Lib.hid hh
  clear h hM hh
  have hta : ∀ (x y : Nat) w, (Instr.typeAssert (.iface 88 (.agg #[.int .i64 (x : Int), .int .i64 (y : Int)])) 20 88 true).run Try.prog w = .ok (.tuple #[.agg #[.int .i64 (x : Int), .int .i64 (y : Int)], .bool true]) w := fun _ _ _ => by kernel_rfl
  have HTA := Lib.hid hta
  clear hta
  go_enter Try.func53, Try.ntmps53
  go_wp2
  go_loopg [5] (cntP N L) (fun k hv wr => ∃ (q : Bool), hv = .bool q ∧ Hid (∃ g1 c1 M, HpO B wr b g1 n c1 M ∧ CrI N L M q ∧ k = cntP N M ∧ WayT B w wr))
  case atStart => exact ⟨false, rfl, g, c, L, H.out, CrI.start HM.out, rfl, WayT.refl _ _⟩
  case round =>
    obtain ⟨q, rfl, hI⟩ := hrel
    obtain ⟨g1, c1, M, hO, hC, hk, hY⟩ := hI.out
    have HO := Lib.hid hO
    have HC := Lib.hid hC
    have HK := Lib.hid hk
    have HY := Lib.hid hY
    have HL := Lib.hid (show M.length = n from hO.1.2.1.2.2.1.symm)
    clear hO hC hk hY hI
    have hml := m_len 226 b wr _ HO.out.1.1.cell
    rcases n with _ | m
    · go_wp2_with fail
      refine (len_any _ _ _ _).mono ?_
      rintro e w2 ⟨rfl, rfl⟩
      clear hml
      have he := HC.out.last HM.out h2 (by rw [List.eq_nil_of_length_eq_zero HL.out]; simp) (List.Perm.refl M)
      have HE := Lib.hid he
      clear he
      go_wp2
      all_goals go_ret
      all_goals exact ⟨by rw [HH.out, ← HE.out.1]; rfl, ⟨_, _, M, HO.out, HE.out.2⟩, HY.out⟩
    · go_wp2_with fail
      refine (len_any _ _ _ _).mono ?_
      rintro e w2 ⟨rfl, rfl⟩
      clear hml
      obtain ⟨x, y, hxy⟩ : ∃ x y, gt M 0 = (x, y) := ⟨_, _, rfl⟩
      have HX := Lib.hid hxy
      clear hxy
      go_wp2_with fail
      refine (hpop_any B b g1 m c1 M x y wr HO.out (by omega) HX.out).mono ?_
      rintro e w1 ⟨rfl, ⟨M1, h1, hp1⟩, hy1⟩
      have H1 := Lib.hid (h1.alloc (.cells #[.int .i64 (x : Int), .int .i64 (y : Int)] 88))
      have HP1 := Lib.hid hp1
      have Y1 := Lib.hid ((HY.out.trans hy1).alloc (.cells #[.int .i64 (x : Int), .int .i64 (y : Int)] 88))
      have hta := HTA.out x y w1
      clear h1 hp1 hy1
      rcases Nat.lt_or_ge N x with hlt | hge
      · have HLT := Lib.hid hlt
        go_wp2_with fail
        refine (hpush_any B b g1 m c1 M1 x y _ H1.out (by omega)).mono ?_
        rintro e w2 ⟨rfl, ⟨g2, c2, M2, h2', hp2⟩, hy2⟩
        have H2 := Lib.hid h2'
        have Y2 := Lib.hid (Y1.out.trans hy2)
        have HE := Lib.hid (HC.out.last HM.out h2 (all_above HO.out.2 HX.out HLT.out) (hp2.trans ((List.perm_append_singleton _ _).trans HP1.out)))
        clear h2' hp2 hy2
        go_wp2
        all_goals go_ret
        all_goals exact ⟨by rw [HH.out, ← HE.out.1]; rfl, ⟨_, _, M2, H2.out, HE.out.2⟩, Y2.out⟩
      · have hy9 : y < N := (HC.out.turn HP1.out hge (List.Perm.refl _)).2.2.2
        obtain ⟨z, hz⟩ : ∃ z, z = x + y := ⟨_, rfl⟩
        have hcast : (x : Int) + (y : Int) = (z : Int) := by omega
        have HZ := Lib.hid hz
        clear hz
        go_wp2_with fail
        refine (hpush_any B b g1 m c1 M1 z y _ H1.out (by omega)).mono ?_
        rintro e w2 ⟨rfl, ⟨g2, c2, M2, h2', hp2⟩, hy2⟩
        have H2 := Lib.hid h2'
        have Y2 := Lib.hid (Y1.out.trans hy2)
        have HT := Lib.hid (HC.out.turn HP1.out hge (HZ.out ▸ hp2))
        clear h2' hp2 hy2
        go_wp2
        go_roundg (cntP N M2)
        case measure => rw [HK.out]; exact HT.out.2.1
        case rel => exact ⟨true, rfl, g2, c2, M2, H2.out, HT.out.1, rfl, Y2.out⟩

end Go.Proofs.Ytfeajcgcjpngkaa
