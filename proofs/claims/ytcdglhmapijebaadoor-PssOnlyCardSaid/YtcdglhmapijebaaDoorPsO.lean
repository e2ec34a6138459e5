/-
  PSS: Great, and the law PssOnly. (Written by wip/gen_psO.py.)
-/
import Derived.Test.YtcdglhmapijebaaDoorPk1
import Derived.Test.YtcdglhmapijebaaDoorPk2
import Derived.Test.YtcdglhmapijebaaDoorPk3
set_option linter.unusedVariables false
set_option linter.unusedSimpArgs false
namespace Go.Proofs.YtcdglhmapijebaaDoor
open Go.RowKit
set_option maxRecDepth 100000

/-- More than statements go through. -/
def BigAsk (dn sn bn : Nat) (n : Int) : Prop := 2000 < dn + sn + bn ∨ (5000 < n ∧ n ≤ 524288)
instance (dn sn bn : Nat) (n : Int) : Decidable (BigAsk dn sn bn n) := inferInstanceAs (Decidable (_ ∨ _))

theorem great_any (h : Int) (da : Option Addr) (dn dc : Nat) (sa : Option Addr) (sn sc : Nat) (ba : Option Addr) (bn bc : Nat) (S n : Int) (hd : dn ≤ 140737488351232) (hs : sn ≤ 140737488351232) (hb : bn ≤ 140737488351232) (w : World) (r : Int) (hr : r = if BigAsk dn sn bn n then 1 else 0) :
    Calls Tryd.prog 8 #[.agg #[.int .i64 h, .slice da dn dc, .slice sa sn sc, .slice ba bn bc, .int .i64 S, .int .i64 n]] w fun e w' => e = .returned (.int .i64 r) ∧ Below w.heap.size w w' := by
  by_cases h1 : 2000 < dn + sn + bn
  · have HR := Lib.hid (show r = 1 from hr.trans (if_pos (show BigAsk dn sn bn n from .inl h1)))
    have t1 : decide ((2000 : Int) < (dn : Int) + (sn : Int) + (bn : Int)) = true := decide_eq_true (by omega)
    clear h1 hr
    go_enter Tryd.func8, Tryd.ntmps8
    go_wp2
    go_ret
    exact ⟨by rw [HR.out]; rfl, (Below.refl _ w).alloc (Nat.le_refl _) _⟩
  · have t1 : decide ((2000 : Int) < (dn : Int) + (sn : Int) + (bn : Int)) = false := decide_eq_false (by omega)
    by_cases h2 : 5000 < n
    · have t2 : decide ((5000 : Int) < n) = true := decide_eq_true h2
      by_cases h3 : n ≤ 524288
      · have HR := Lib.hid (show r = 1 from hr.trans (if_pos (show BigAsk dn sn bn n from .inr ⟨h2, h3⟩)))
        have t3 : decide (n ≤ (524288 : Int)) = true := decide_eq_true h3
        clear h1 h2 h3 hr
        go_enter Tryd.func8, Tryd.ntmps8
        go_wp2
        go_ret
        exact ⟨by rw [HR.out]; rfl, (Below.refl _ w).alloc (Nat.le_refl _) _⟩
      · have HR := Lib.hid (show r = 0 from hr.trans (if_neg (show ¬ BigAsk dn sn bn n from fun k => k.elim h1 (fun k => h3 k.2))))
        have t3 : decide (n ≤ (524288 : Int)) = false := decide_eq_false h3
        clear h1 h2 h3 hr
        go_enter Tryd.func8, Tryd.ntmps8
        go_wp2
        go_ret
        exact ⟨by rw [HR.out]; rfl, (Below.refl _ w).alloc (Nat.le_refl _) _⟩
    · have HR := Lib.hid (show r = 0 from hr.trans (if_neg (show ¬ BigAsk dn sn bn n from fun k => k.elim h1 (fun k => h2 k.1))))
      have t2 : decide ((5000 : Int) < n) = false := decide_eq_false h2
      clear h1 h2 hr
      go_enter Tryd.func8, Tryd.ntmps8
      go_wp2
      go_ret
      exact ⟨by rw [HR.out]; rfl, (Below.refl _ w).alloc (Nat.le_refl _) _⟩

theorem ask_cells {X : World} {P : Nat} {c0 c1 c2 c3 c4 c5 : Value} {t : TypeId} (h : X.heap[P]? = some (.cells #[c0, c1, c2, c3, c4, c5] t)) : X.cell? ⟨P, 0, none⟩ = some c0 ∧ X.cell? ⟨P, 1, none⟩ = some c1 ∧ X.cell? ⟨P, 2, none⟩ = some c2 ∧ X.cell? ⟨P, 3, none⟩ = some c3 ∧ X.cell? ⟨P, 4, none⟩ = some c4 ∧ X.cell? ⟨P, 5, none⟩ = some c5 := by
  simp [World.cell?, h]

set_option maxHeartbeats 4000000 in
theorem only_walk (h : Int) (da : Option Addr) (dn dc : Nat) (D : List Nat) (sa : Option Addr) (sn sc : Nat) (ba : Option Addr) (bn bc : Nat) (B : List Nat) (S n : Int) (hdn : dn ≤ 140737488351232) (hsn : sn ≤ 140737488351232) (hbn : bn ≤ 140737488351232) (s0 : -9223372036854775808 ≤ S) (s1 : S ≤ 9223372036854775807) (n0 : -9223372036854775808 ≤ n) (n1 : n ≤ 9223372036854775807)
    (w : World) (hk : Kinds w) (hD : Reads .u8 w da dn dc D) (bD : Byt D) (hB : Reads .u8 w ba bn bc B) (bB : Byt B) :
    Calls Tryd.prog 6 #[.agg #[.int .i64 h, .slice da dn dc, .slice sa sn sc, .slice ba bn bc, .int .i64 S, .int .i64 n]] w fun e w' => e = .returned (.bool true) ∧ Below w.heap.size w w' := by
  have HK := Lib.hid hk
  have HD := Lib.hid hD
  have HDL := Lib.hid hD.length
  have HDB := Lib.hid bD
  have HBr := Lib.hid hB
  have HBL := Lib.hid hB.length
  have HBB := Lib.hid bB
  have hba := (Below.refl w.heap.size w).alloc (Nat.le_refl _) (.cells #[.int .i64 h, .slice da dn dc, .slice sa sn sc, .slice ba bn bc, .int .i64 S, .int .i64 n] 24)
  have hq0 : (w.alloc (.cells #[.int .i64 h, .slice da dn dc, .slice sa sn sc, .slice ba bn bc, .int .i64 S, .int .i64 n] 24)).heap[w.heap.size]? = some (.cells #[.int .i64 h, .slice da dn dc, .slice sa sn sc, .slice ba bn bc, .int .i64 S, .int .i64 n] 24) := World.alloc_heap_new w _
  have HQ0 := Lib.hid hq0
  have HB0 := Lib.hid hba
  clear hk hD bD hB bB hba hq0
  go_enter Tryd.func6, Tryd.ntmps6
  go_wp2_with fail
  generalize w.alloc (.cells #[.int .i64 h, .slice da dn dc, .slice sa sn sc, .slice ba bn bc, .int .i64 S, .int .i64 n] 24) = w0 at *
  obtain ⟨P, hP⟩ : ∃ P, w.heap.size = P := ⟨_, rfl⟩
  replace HK := Lib.hid (HK.out.below HB0.out)
  replace HD := Lib.hid (HD.out.below HB0.out)
  replace HBr := Lib.hid (HBr.out.below HB0.out)
  have HQ := HQ0
  rw [hP] at HQ
  have HB := HB0
  clear HB0 HQ0
  have HP := Lib.hid hP
  simp only [hP]
  clear hP
  skip
  refine (alive_p _ HK.out).mono ?_
  rintro e w1 ⟨rfl, hb⟩
  replace HQ := Lib.hid ((hb.block P (Array.getElem?_eq_some_iff.1 HQ.out).1).trans HQ.out)
  replace HK := Lib.hid (HK.out.below hb)
  replace HD := Lib.hid (HD.out.below hb)
  replace HBr := Lib.hid (HBr.out.below hb)
  replace HB := Lib.hid (HB.out.trans (hb.mono HB.out.size))
  clear hb
  obtain ⟨k0, k1, k2, k3, k4, k5⟩ := ask_cells HQ.out
  go_wp2_with fail
  refine (great_any h da dn dc sa sn sc ba bn bc S n hdn hsn hbn _ _ rfl).mono ?_
  rintro e w2 ⟨rfl, hb⟩
  replace HQ := Lib.hid ((hb.block P (Array.getElem?_eq_some_iff.1 HQ.out).1).trans HQ.out)
  clear k0 k1 k2 k3 k4 k5
  replace HK := Lib.hid (HK.out.below hb)
  replace HD := Lib.hid (HD.out.below hb)
  replace HBr := Lib.hid (HBr.out.below hb)
  replace HB := Lib.hid (HB.out.trans (hb.mono HB.out.size))
  clear hb
  by_cases hbig : BigAsk dn sn bn n
  · rw [if_pos hbig]
    clear hbig
    go_wp2
    go_ret
    exact ⟨rfl, HB.out⟩
  rw [if_neg hbig]
  have hn5 : n ≤ 100000 ∨ 524288 < n := by
    by_cases h5 : n ≤ 100000
    · exact .inl h5
    · by_cases h6 : n ≤ 524288
      · exact absurd (.inr ⟨by omega, h6⟩) hbig
      · exact .inr (by omega)
  clear hbig
  obtain ⟨k0, k1, k2, k3, k4, k5⟩ := ask_cells HQ.out
  go_wp2_with fail
  refine (verify_any h _ dn _ D _ bn _ B S n s0 s1 n0 n1 hn5 _ HK.out HD.out HDB.out HBr.out HBB.out).mono ?_
  rintro e w3 ⟨⟨v, rfl, hv⟩, hb⟩
  replace HQ := Lib.hid ((hb.block P (Array.getElem?_eq_some_iff.1 HQ.out).1).trans HQ.out)
  clear k0 k1 k2 k3 k4 k5
  replace HK := Lib.hid (HK.out.below hb)
  replace HD := Lib.hid (HD.out.below hb)
  replace HBr := Lib.hid (HBr.out.below hb)
  replace HB := Lib.hid (HB.out.trans (hb.mono HB.out.size))
  clear hb
  have HV := Lib.hid hv
  clear hv
  obtain ⟨k0, k1, k2, k3, k4, k5⟩ := ask_cells HQ.out
  go_wp2_with fail
  refine (salt_any h _ bn _ B S n s0 s1 n0 n1 hn5 _ HK.out HBr.out HBB.out).mono ?_
  rintro e x1 ⟨hb, ⟨hg, ta, tc, rfl, hT⟩ | ⟨hg, rfl⟩⟩
  rotate_left
  · obtain rfl : v = false := Bool.eq_false_iff.2 fun e => hg (HV.out.1 e).1
    replace HB := Lib.hid (HB.out.trans (hb.mono HB.out.size))
    clear hb hg k0 k1 k2 k3 k4 k5
    go_wp2
    go_ret
    exact ⟨rfl, HB.out⟩
  replace HQ := Lib.hid ((hb.block P (Array.getElem?_eq_some_iff.1 HQ.out).1).trans HQ.out)
  replace HK := Lib.hid (HK.out.below hb)
  replace HD := Lib.hid (HD.out.below hb)
  replace HBr := Lib.hid (HBr.out.below hb)
  replace HB := Lib.hid (HB.out.trans (hb.mono HB.out.size))
  clear k0 k1 k2 k3 k4 k5
  have hrm := hg.1
  obtain ⟨hh, hS0, hn0', hn1', hfit⟩ := hg.1
  obtain ⟨g, rfl⟩ : ∃ g : Nat, h = (g : Int) := ⟨h.toNat, by rcases hh with e | e | e | e <;> omega⟩
  obtain ⟨s, rfl⟩ : ∃ s : Nat, S = (s : Int) := ⟨S.toNat, by omega⟩
  obtain ⟨m, rfl⟩ : ∃ m : Nat, n = (m : Int) := ⟨n.toNat, by omega⟩
  have hlenB := hg.2.1
  have hfB := hg.2.2
  simp only [Int.toNat_natCast] at hh hT hlenB hfB ⊢
  have hfo := fine_only hh B HBB.out hlenB hrm hfB
  have HG := Lib.hid hg
  have HF := Lib.hid hfo
  have HRM := Lib.hid hrm
  have HT := Lib.hid hT
  clear hb hg hrm hfit hlenB hfB hfo hT hh
  obtain ⟨k0, k1, k2, k3, k4, k5⟩ := ask_cells HQ.out
  go_wp2_with fail
  refine (encode_any (g : Int) _ dn _ D _ s _ _ (m : Int) n0 n1 hn5 _ HK.out HD.out HT.out.reads HDB.out HF.out.2.1).mono ?_
  rintro e x2 ⟨hb, ⟨⟨-, hdm⟩, gE, rfl, hE⟩ | ⟨hno, rfl⟩⟩
  rotate_left
  · obtain rfl : v = false := Bool.eq_false_iff.2 fun e => hno ⟨HRM.out, by have := (HV.out.1 e).2.1; rw [HDL.out] at this; exact this⟩
    replace HQ := Lib.hid ((hb.block P (Array.getElem?_eq_some_iff.1 HQ.out).1).trans HQ.out)
    replace HB := Lib.hid (HB.out.trans (hb.mono HB.out.size))
    clear hb hno k0 k1 k2 k3 k4 k5
    obtain ⟨k0, k1, k2, k3, k4, k5⟩ := ask_cells HQ.out
    go_wp2
    go_ret
    exact ⟨by simp, HB.out⟩
  replace HQ := Lib.hid ((hb.block P (Array.getElem?_eq_some_iff.1 HQ.out).1).trans HQ.out)
  simp only [Int.toNat_natCast] at hdm hE ⊢
  replace HBr := Lib.hid (HBr.out.below hb)
  replace HT := Lib.hid (HT.out.below hb)
  replace HB := Lib.hid (HB.out.trans (hb.mono HB.out.size))
  clear k0 k1 k2 k3 k4 k5
  have hbe : Byt (emsP g D (partS g s m B) m) := (ems_fine (by have := HRM.out.1; rwa [Int.toNat_natCast] at this) D _ (sn := s) (n := m) HF.out.1 HF.out.2.1 HRM.out).2.2.2.2
  have hiff : v = true ↔ emsP g D (partS g s m B) m = B := by
    rw [HV.out, HF.out.2.2.2 D]
    constructor
    · intro hv
      have := hv.2.2
      simpa only [Int.toNat_natCast] using this
    · intro he
      refine ⟨HG.out, ?_, ?_⟩
      · rw [HDL.out, Int.toNat_natCast]; exact hdm
      · simpa only [Int.toNat_natCast] using he
  generalize emsP g D (partS g s m B) m = em at *
  obtain ⟨N, hN⟩ : ∃ N, lenP m = N := ⟨_, rfl⟩
  rw [hN] at hE ⊢
  have cv1 := convB (hE.reads.bts hbe)
  have cv2 := convB (HBr.out.bts HBB.out)
  obtain ⟨k0, k1, k2, k3, k4, k5⟩ := ask_cells HQ.out
  by_cases hee : em = B
  · obtain rfl : v = true := hiff.2 hee
    rw [hee] at cv1
    clear hiff hee hE hbe hb hN hdm
    go_wp2
    go_ret
    exact ⟨by simp, HB.out⟩
  · obtain rfl : v = false := Bool.eq_false_iff.2 fun e => hee (hiff.1 e)
    have s1' := strOf_neP hbe HBB.out hee
    clear hiff hee hE hbe hb hN hdm
    go_wp2
    go_ret
    exact ⟨by simp, HB.out⟩
end Go.Proofs.YtcdglhmapijebaaDoor
