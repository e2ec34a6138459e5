/-
  OID: Read; the reference's Same; bytes.Equal.
-/
import Derived.Test.YtojphfkiblhhiaaDoorOid5
namespace Go.Proofs.YtojphfkiblhhiaaDoor
open Go.RowKit
set_option maxRecDepth 100000

abbrev Byt (l : List Nat) : Prop := ∀ x ∈ l, x < 256
theorem convB {w : World} {a : Option Addr} {len cap : Nat} {l : List UInt8} (h : Bts w a len cap l) :
    (convert 38 9 (.slice a len cap)).run Tryd.prog w = .ok (.string ⟨l.toArray⟩) w :=
  h.convert (P := Tryd.prog) _ _ _ Tryd.underlying38 Tryd.underlying5 Tryd.underlying9
def u8s (l : List Nat) : List UInt8 := l.map UInt8.ofNat
theorem u8s_get (l : List Nat) (h : Byt l) (i : Nat) : ((u8s l)[i]?.getD 0).toNat = l[i]?.getD 0 := by
  by_cases hi : i < l.length
  · have := h _ (List.getElem_mem hi)
    simp [u8s, hi, UInt8.toNat_ofNat']
    omega
  · simp [u8s, List.getElem?_eq_none (show l.length ≤ i by omega)]
theorem u8s_inj {l m : List Nat} (h : Byt l) (k : Byt m) (e : u8s l = u8s m) : l = m := by
  apply List.ext_getElem
  · have := congrArg List.length e; simpa [u8s] using this
  · intro i h1 h2
    have e1 := u8s_get l h i
    have e2 := u8s_get m k i
    rw [e] at e1
    rw [e1] at e2
    rwa [List.getElem?_eq_getElem h1, List.getElem?_eq_getElem h2] at e2
theorem Reads.bts {w : World} {a : Option Addr} {n c : Nat} {l : List Nat} (h : Reads .u8 w a n c l) (hB : Byt l) : Bts w a n c (u8s l) :=
  ⟨by rw [u8s, List.length_map, h.length], h.le, h.max, h.nil, fun hp => by
    obtain ⟨b, off, rfl, hb, hc⟩ := h.cells hp
    exact ⟨b, off, rfl, hb, fun i hi => by rw [hc i hi, u8s_get l hB]⟩⟩
theorem u8s_ne {l m : List Nat} (h : Byt l) (k : Byt m) (e : l ≠ m) : (u8s l == u8s m) = false := beq_eq_false_iff_ne.2 fun h9 => e (u8s_inj h k h9)

theorem equal_any (a a' : Option Addr) (n c n' c' : Nat) (l m : List Nat) (w : World) (hl : Reads .u8 w a n c l) (hm : Reads .u8 w a' n' c' m) (bl : Byt l) (bm : Byt m) :
    Calls Tryd.prog 34 #[.slice a n c, .slice a' n' c'] w fun e w' => e = .returned (.bool (decide (l = m))) ∧ w' = w := by
  have c1 := convB (hl.bts bl)
  have c2 := convB (hm.bts bm)
  by_cases h : l = m
  · subst h
    go_enter Tryd.func34, Tryd.ntmps34
    go_wp2
    go_ret
    exact ⟨by first | rfl | (simp; rfl), rfl⟩
  · have hne := u8s_ne bl bm h
    have hd := Lib.hid (show decide (l = m) = false from decide_eq_false h)
    clear h
    go_enter Tryd.func34, Tryd.ntmps34
    go_wp2
    go_ret
    exact ⟨by rw [hd.out]; rfl, rfl⟩

set_option maxHeartbeats 1000000 in
theorem same_any (a a' : Option Addr) (n c n' c' : Nat) (l m : List Nat) (w : World) (hl : Reads .u64 w a n c l) (hm : Reads .u64 w a' n' c' m) :
    Calls Tryd.prog 13 #[.slice a n c, .slice a' n' c'] w fun e w' => e = .returned (.bool (decide (l = m))) ∧ Below w.heap.size w w' := by
  have hnl := Lib.hid hl.length
  have hml := Lib.hid hm.length
  have hn := hl.len_le
  unfold maxLen at hn
  have HL := Lib.hid hl
  have HM := Lib.hid hm
  by_cases hlen : n = n'
  rotate_left
  · have hd := Lib.hid (show decide (l = m) = false from decide_eq_false fun e => hlen (by rw [← hnl.out, ← hml.out, e]))
    have h1 : ((n : Int) != (n' : Int)) = true := by simp; omega
    clear hl hm
    go_enter Tryd.func13, Tryd.ntmps13
    go_wp2
    go_ret
    exact ⟨by rw [hd.out]; rfl, Below.refl _ _⟩
  subst hlen
  clear hl hm
  go_enter Tryd.func13, Tryd.ntmps13
  go_wp2_with fail
  go_loopw [5] (fun v wr => ∃ i : Nat, i ≤ n ∧ v = .int .i64 (i : Int) ∧ Hid (l.take i = m.take i) ∧ Hid (Below w.heap.size w wr)) (fun v _ => n + 1 - (intOf v).toNat)
  case atStart => exact ⟨0, by omega, rfl, Lib.hid rfl, Lib.hid (Below.refl _ _)⟩
  case round =>
    obtain ⟨i, hi, rfl, hI, HB⟩ := hrel
    by_cases hlt : i < n
    · obtain ⟨b, off, rfl, hb, hc⟩ := HL.out.cells (by omega)
      obtain ⟨b', off', rfl, hb', hc'⟩ := HM.out.cells (by omega)
      have c1 := (HB.out.cell (p := ⟨b, off + i, none⟩) hb).trans (hc i hlt)
      have c2 := (HB.out.cell (p := ⟨b', off' + i, none⟩) hb').trans (hc' i hlt)
      have hs : l[i]?.getD 0 = m[i]?.getD 0 → l.take (i + 1) = m.take (i + 1) := fun e => by
        rw [List.take_add_one, List.take_add_one, hI.out]
        congr 1
        rw [List.getElem?_eq_getElem (by have := hnl.out; omega), List.getElem?_eq_getElem (by have := hml.out; omega)] at e ⊢
        simpa using e
      have hs2 : l[i]?.getD 0 ≠ m[i]?.getD 0 → l ≠ m := fun e h => e (by rw [h])
      have HS := Lib.hid hs
      have HS2 := Lib.hid hs2
      clear hc hc' hs hs2
      generalize l[i]?.getD 0 = x at *
      generalize m[i]?.getD 0 = y at *
      by_cases hxy : x = y
      · subst hxy
        have HT := Lib.hid (HS.out rfl)
        go_wp2_with fail
        go_big_quiet (fail)
        simp only [Exit.then]
        have HB2 := Lib.hid (below_drewN HB.out nq)
        generalize wr.drewN nq = w2 at *
        go_wp2
        go_roundw
        case rel => exact ⟨i + 1, by omega, by go_num, HT, HB2⟩
        case measure => simp [intOf]; omega
      · have hd := Lib.hid (show decide (l = m) = false from decide_eq_false (HS2.out hxy))
        have h1 : ((x : Int) != (y : Int)) = true := by simp; omega
        clear hxy
        go_wp2_with fail
        go_big_quiet (fail)
        simp only [Exit.then]
        have HB2 := Lib.hid (below_drewN HB.out nq)
        generalize wr.drewN nq = w2 at *
        go_wp2
        go_ret
        exact ⟨by rw [hd.out]; rfl, HB2.out⟩
    · have hie : i = n := by omega
      have hd := Lib.hid (show decide (l = m) = true from decide_eq_true (by
        have := hI.out
        rwa [List.take_of_length_le (by have := hnl.out; omega), List.take_of_length_le (by have := hml.out; omega)] at this))
      clear hie
      go_wp2
      go_ret
      exact ⟨by rw [hd.out]; rfl, HB.out⟩

end Go.Proofs.YtojphfkiblhhiaaDoor
