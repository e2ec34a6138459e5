/-
  THE LAW's twin AND kept.
-/
import Derived.Test.YtebfoalcmnpghaaMonJ
import Derived.Test.YtebfoalcmnpghaaRfK
namespace Go.Proofs.Ytebfoalcmnpghaa
open Go.RowKit

theorem natAt_of {w : World} {a : Option Addr} {len cap : Nat} {l : List Nat} (hr : Reads .u32 w a len cap l) (hl : Lim l) : NatAt w (.slice a len cap) (val32 l) := ⟨a, len, cap, l, rfl, hr, hl, rfl⟩

/-- A twin: its own row, with a seven behind its end. -/
def TwinR (B : Nat) (w' : World) (n : Nat) (l : List Nat) (e : Ending) : Prop := ∃ g cap, e = .returned (.slice (some ⟨g, 0, none⟩) n cap) ∧ OwnQ .u32 41 B w' (.slice (some ⟨g, 0, none⟩) (n + 1) cap) (l ++ [7])

set_option maxHeartbeats 1000000 in
theorem twin_any (a : Option Addr) (n cap : Nat) (l : List Nat) (w : World) (h : Reads .u32 w a n cap l) (hn : n ≤ 1000000) :
    Calls Try.prog 9 #[.slice a n cap] w fun e w' => TwinR w.heap.size w' n l e ∧ Below w.heap.size w w' := by
  obtain ⟨i0, hi, hz0, hz1, hz2⟩ := info_parts Try.info32
  have HR := Lib.hid h
  have HN := Lib.hid h.length
  clear h
  go_enter Try.func9, Try.ntmps9
  go_wp2_with (at_builtin; first | (refine wpList_append_q .u32 _ rfl _ _ 23 rfl w.heap.size 41 4 i0 Try.underlying23 hi hz0 hz1 hz2 (by decide) _ [] rfl (OwnQ.empty _ _ _ _ (Nat.le_refl _)) _ _ _ l rfl (HR.out.below ((Below.refl _ _).alloc (Nat.le_refl _) _)) (by simp; omega) (by simp) ?_; intro v2 w2 hown2 hgrow2; rw [List.nil_append] at hown2; have HO2 := Lib.hid hown2; have HB2 := Lib.hid (hgrow2 _ ((Below.refl _ _).alloc (Nat.le_refl _) _)); clear hown2 hgrow2) | go_loud (refine wpList_append_q .u32 _ rfl _ _ 23 rfl w.heap.size 41 4 i0 Try.underlying23 hi hz0 hz1 hz2 (by decide) _ l rfl (HO2.out.alloc _) _ _ _ [7] rfl (Reads.one .u32 _ _ _ _ rfl) (by have := HN.out; omega) (by have := HB2.out.size; simp; omega) ?_; intro v' w3 hown3 hgrow3; obtain ⟨g, c3, e3⟩ := hown3.succ (by simp); have e4 : List.length (l ++ [7] : List Nat) = n + 1 := (by have := HN.out; simp; omega); rw [e4] at e3; clear e4; subst e3; obtain ⟨-, hcap, hcm⟩ := hown3.cap; unfold maxLen at hcm; have HO3 := Lib.hid hown3; have HB3 := Lib.hid (hgrow3 _ (HB2.out.alloc HB2.out.size _)); clear hown3 hgrow3; have hc0 : ¬ c3 = 0 := by omega))
  go_ret
  exact ⟨⟨g, c3, rfl, HO3.out⟩, HB3.out⟩

/-- What the writing over keeps. -/
def KeptI (B bb : Nat) (T : TypeId) (vs : List Value) (w wr : World) : Prop :=
  Below B w wr ∧ wr.heap[bb]? = some (.cells vs.toArray T) ∧ ∀ v ∈ vs, v.ownBlock ≠ some bb ∧ ∃ l, OwnQ .u32 41 B wr v l
def Apart (vs : List Value) : Prop := ∀ (i j : Nat) (v u : Value) (g : Nat), i ≠ j → vs[i]? = some v → vs[j]? = some u → v.ownBlock = some g → u.ownBlock ≠ some g

theorem KeptI.drewN {B bb : Nat} {T : TypeId} {vs : List Value} {w wr : World} (h : KeptI B bb T vs w wr) (n : Nat) : KeptI B bb T vs w (wr.drewN n) := ⟨below_drewN h.1 n, h.2.1, h.2.2⟩
theorem KeptI.drew {B bb : Nat} {T : TypeId} {vs : List Value} {w wr : World} (h : KeptI B bb T vs w wr) : KeptI B bb T vs w wr.drew := ⟨h.1.drew, h.2.1, h.2.2⟩
theorem KeptI.cell {B bb : Nat} {T : TypeId} {vs : List Value} {w wr : World} (h : KeptI B bb T vs w wr) {i : Nat} {v : Value} (hi : vs[i]? = some v) : wr.cell? ⟨bb, i, none⟩ = some v := by
  rw [cell_of_row wr bb i _ T (0, 0) h.2.1]
  simpa using hi
theorem KeptI.store {B bb : Nat} {T : TypeId} {vs : List Value} {w wr : World} (h : KeptI B bb T vs w wr) (ha : Apart vs) {i g n cap : Nat} (hi : vs[i]? = some (.slice (some ⟨g, 0, none⟩) n cap)) (k : Nat) (x : Nat) (y : Int) (hy : y = (x : Int)) : KeptI B bb T vs w (wr.setCell ⟨g, k, none⟩ (.int .u32 y)) := by
  obtain ⟨h1, h2, h3⟩ := h
  have hmem := List.mem_of_getElem? hi
  obtain ⟨hne, l, hl⟩ := h3 _ hmem
  have hgb : bb ≠ g := fun e => hne (by rw [e]; rfl)
  have s1 := hl.stored hl.cap.1 k x y hy
  refine ⟨s1.2 _ h1, (Below.heap_setCell wr ⟨g, k, none⟩ _ bb hgb).trans h2, fun v hv => ⟨(h3 v hv).1, ?_⟩⟩
  obtain ⟨j, hj⟩ := List.mem_iff_getElem?.1 hv
  by_cases e : i = j
  · subst e
    rw [hi] at hj
    cases hj
    exact ⟨_, s1.1⟩
  · obtain ⟨m, hm⟩ := (h3 v hv).2
    exact ⟨m, ownsRow_setCell_other hm (ha i j _ v g e hi hj rfl) _⟩

set_option maxHeartbeats 2000000 in
theorem kept_any (w0 w : World) (B bb m : Nat) (T : TypeId) (vs : List Value) (g n c : Nat) (a : Option Addr) (cx : Nat) (l : List Nat)
    (hO : Reads .u32 w0 (some ⟨g, 0, none⟩) (n + 1) c (l ++ [7])) (hx : Reads .u32 w0 a n cx l) (h0 : Below w0.heap.size w0 w) (hB : w0.heap.size ≤ B)
    (hm : m = vs.length) (hmm : m ≤ 1000) (hK : 0 < m → KeptI B bb T vs w w) (ha : Apart vs) (v : Value) (hv : 0 < m ∧ v = .slice (some ⟨bb, 0, none⟩) m m ∨ m = 0 ∧ v = .slice none 0 0) :
    Calls Try.prog 11 #[.slice (some ⟨g, 0, none⟩) n c, .slice a n cx, v] w fun e w' => e = .returned (.bool true) ∧ Below w0.heap.size w0 w' := by
  have HO := Lib.hid hO
  have HX := Lib.hid hx
  have H0 := Lib.hid h0
  have HA := Lib.hid ha
  have HM := Lib.hid hm
  have hcap := hO.le
  have hcm := hO.max
  unfold maxLen at hcm
  have hc0 : ¬ c = 0 := by omega
  have HON := Lib.hid (show Reads .u32 w0 (some ⟨g, 0, none⟩) n c l by
    have := hO.upto n (by omega)
    rwa [List.take_left' hx.length] at this)
  have H7 := Lib.hid (show (l ++ [7])[n]?.getD 0 = 7 by rw [← hx.length]; simp)
  have HKK := Lib.hid (show Below w0.heap.size w0 w ∧ (0 < m → KeptI B bb T vs w w) from ⟨h0, hK⟩)
  clear hO hx h0 ha hm hK
  go_enter Try.func11, Try.ntmps11
  obtain ⟨mv, hmv, hlen⟩ : ∃ mv : Option Addr, v = .slice mv m m ∧ (0 < m → mv = some ⟨bb, 0, none⟩) := by
    rcases hv with ⟨h, rfl⟩ | ⟨rfl, rfl⟩
    · exact ⟨_, rfl, fun _ => rfl⟩
    · exact ⟨_, rfl, fun h => by omega⟩
  subst hmv
  have HMV := Lib.hid hlen
  clear hv hlen
  go_wp2
  go_loopw [7, 8, 11] (fun _ _ i wr => ∃ k : Nat, i = .int .i64 (k : Int) ∧ k ≤ m ∧ Hid (Below w0.heap.size w0 wr ∧ (0 < m → KeptI B bb T vs w wr))) (fun _ _ i _ => m - (intOf i).toNat)
  case atStart => exact ⟨0, rfl, Nat.zero_le _, HKK.out⟩
  case round =>
    obtain ⟨k, rfl, hk, hinv⟩ := hrel
    obtain ⟨wo, rfl⟩ : ∃ wo : World, wo = wr := ⟨_, rfl⟩
    by_cases hlt : k < m
    · obtain rfl := HMV.out (by omega)
      have HI := Lib.hid (hinv.out.2 (by omega))
      have hin : ∃ u, vs[k]? = some u := ⟨vs[k]'(by rw [← HM.out]; exact hlt), List.getElem?_eq_getElem _⟩
      obtain ⟨u, hu⟩ := hin
      obtain ⟨hne, q, hq⟩ := HI.out.2.2 u (List.mem_of_getElem? hu)
      obtain ⟨ua, un, uc, rfl, hun, hq1⟩ := hq.slice
      have hcu := HI.out.cell hu
      have hql := hq1.cap.2
      unfold maxLen at hql
      have HU := Lib.hid hu
      clear hu hq hq1 hne hinv hun
      go_wp2
      go_loopw [8, 19] (fun _ i wr => ∃ t : Nat, i = .int .i64 (t : Int) ∧ t ≤ un ∧ Hid (KeptI B bb T vs w wr)) (fun _ i _ => un - (intOf i).toNat)
      case atStart => exact ⟨0, rfl, Nat.zero_le _, HI.out⟩
      case round =>
        obtain ⟨t, rfl, ht, hin⟩ := hrel
        by_cases hlt2 : t < un
        · have hcu := hin.out.cell HU.out
          obtain ⟨-, q2, hq2⟩ := hin.out.2.2 _ (List.mem_of_getElem? HU.out)
          obtain ⟨gg, cc, e⟩ := hq2.succ (by intro e; have := hq2.cap.1; rw [e] at this; simp at this; omega)
          injection e with e1 e2 e3
          subst e1
          subst e3
          have hcell := hq2.cellAt e2 t hlt2
          have hfr := hq2.frozenAt e2 t
          have HST := Lib.hid (fun (x : Nat) (y : Int) (hy : y = (x : Int)) => hin.out.store HA.out HU.out t x y hy)
          clear hq2 e2
          obtain ⟨x, hx⟩ : ∃ x, x = q2[t]?.getD 0 := ⟨_, rfl⟩
          rw [← hx] at hcell
          clear hx
          go_wp2
          go_region
          all_goals
            go_wp2
            go_roundw
            case rel => exact ⟨t + 1, by go_num, by omega, (HST.out ((x + 1) % 4294967296) _ (by omega)).drew⟩
            case measure => simp [intOf] <;> omega
        · obtain rfl : t = un := by omega
          go_wp2
          go_roundw
          case rel => exact ⟨k + 1, by go_num, by omega, H0.out.trans (hin.out.1.mono hB), fun _ => hin.out⟩
          case measure => simp [intOf] <;> omega
    · have HS := Lib.hid (same_any _ _ _ _ _ _ l l wo (HON.out.below hinv.out.1) (HX.out.below hinv.out.1) true (by simp))
      have HW := Lib.hid hinv.out.1
      clear hinv
      go_wp2_with fail
      refine HS.out.mono ?_
      rintro e w2 ⟨rfl, hb2⟩
      have HW2 := Lib.hid (HW.out.trans (hb2.mono HW.out.size))
      obtain ⟨b7, o7, e7, -, hc7⟩ := (HO.out.below HW2.out).cells (by omega)
      cases e7
      have hcell := hc7 n (by omega)
      rw [H7.out, Nat.zero_add] at hcell
      clear hc7 hb2
      go_wp2
      go_ret
      exact ⟨rfl, HW2.out⟩

theorem apart_of {q q' : IntKind} {E E' : TypeId} {B B' : Nat} {w w' : World} {v v' : Value} {l l' : List Nat} (h : OwnQ q E B w v l) (h' : OwnQ q' E' B' w' v' l') (hB : w.heap.size ≤ B') : ∀ g, v.ownBlock = some g → v'.ownBlock ≠ some g := fun g e e' => by
  have h1 := (World.ownsRow.lt h g e).2
  have h2 := (World.ownsRow.lt h' g e').1
  omega
theorem Apart.none : Apart [] := fun i j v u g _ hi => by simp at hi
theorem Apart.one (v : Value) : Apart [v] := fun i j a b g hne hi hj => by
  rcases i with _ | i <;> rcases j with _ | j <;> simp at hi hj hne
theorem Apart.two {v u : Value} (h : ∀ g, v.ownBlock = some g → u.ownBlock ≠ some g) : Apart [v, u] := fun i j a b g hne hi hj ha hb => by
  rcases i with _ | _ | i <;> rcases j with _ | _ | j <;> simp at hi hj hne
  · subst hi hj; exact h g ha hb
  · subst hi hj; exact h g hb ha
theorem Apart.three {v u x : Value} (h1 : ∀ g, v.ownBlock = some g → u.ownBlock ≠ some g) (h2 : ∀ g, v.ownBlock = some g → x.ownBlock ≠ some g) (h3 : ∀ g, u.ownBlock = some g → x.ownBlock ≠ some g) : Apart [v, u, x] := fun i j a b g hne hi hj ha hb => by
  rcases i with _ | _ | _ | i <;> rcases j with _ | _ | _ | j <;> simp at hi hj hne
  · subst hi hj; exact h1 g ha hb
  · subst hi hj; exact h2 g ha hb
  · subst hi hj; exact h1 g hb ha
  · subst hi hj; exact h3 g ha hb
  · subst hi hj; exact h2 g hb ha
  · subst hi hj; exact h3 g hb ha

theorem KeptI.start {B : Nat} {T : TypeId} {vs : List Value} {w : World} (h : ∀ v ∈ vs, ∃ l, OwnQ .u32 41 B w v l) : KeptI B w.heap.size T vs (w.alloc (.cells vs.toArray T)) (w.alloc (.cells vs.toArray T)) :=
  ⟨Below.refl _ _, heap_alloc_new w _, fun v hv => by
    obtain ⟨l, hl⟩ := h v hv
    exact ⟨OwnQ.ownLt hl (Nat.le_refl _), l, hl.alloc _⟩⟩

theorem twin_read {w : World} {B : Nat} {g n c : Nat} {l : List Nat} (h : OwnQ .u32 41 B w (.slice (some ⟨g, 0, none⟩) (n + 1) c) (l ++ [7])) (hn : l.length = n) : Reads .u32 w (some ⟨g, 0, none⟩) n c l := by
  have := h.reads.upto n (by omega)
  rwa [List.take_left' hn] at this


end Go.Proofs.Ytebfoalcmnpghaa
