/-
  Layer 8: encodings.
-/
import Derived.Test.YtmfjhgjplmpecaaDoorMkC
namespace Go.Proofs.YtmfjhgjplmpecaaDoor
open Go.RowKit
set_option maxRecDepth 100000

theorem OwnQ.madeM {q : IntKind} {E : TypeId} {B : Nat} {w : World} {g n : Nat} {z : List Value} (h : w.ownsRow B E 1 (.slice (some ⟨g, 0, none⟩) n n) n z) (hz : z = (madeCells (Value.int q 0).cells (n * 1)).toList) : OwnQ q E B w (.slice (some ⟨g, 0, none⟩) n n) (List.replicate n 0) := by
  unfold OwnQ
  rw [← zeros_q, ← hz]
  simpa using h

/-- 'make' with room beyond its length. -/
theorem wpList_make_lcM {P : Program} (q : IntKind) (w : World) {ops : Array Oper} {rest : List Oper} {o : Oper} {a : Act} {Q : Exit → Act → World → Prop}
    (hg : o.guard = none) (l c : Operand) (t : TypeId) (hop : o.op = Op.makeSlice t l c)
    (base : Nat) (e : TypeId) (i : TypeInfo) (h1 : P.underlying t = some (.slice e)) (h2 : P.info? e = some i) (h3 : i.zero = some (.int q 0)) (h4 : i.size = 1)
    (kl kc : IntKind) (L C : Int) (m n : Nat) (hl : a.eval l = .int kl L) (hc : a.eval c = .int kc C) (hL : L = (m : Int)) (hC : C = (n : Int)) (hmn : m ≤ n) (b2 : i.bytes * n ≤ 281474976710656) (b3 : n ≤ maxLen) (b4 : base ≤ w.heap.size)
    (hK : ∀ w', OwnQ q e base w' (.slice (some ⟨w.heap.size, 0, none⟩) m n) (List.replicate m 0) → w.grownBy w' none → wpList P ops Q rest (a.put o.dst (.slice (some ⟨w.heap.size, 0, none⟩) m n)) w') :
    wpList P ops Q (o :: rest) a w := by
  refine wpList_plain hg fun K hK' => ?_
  subst hL
  subst hC
  have h63' : (n : Int) ≤ 9223372036854775807 := by
    have h := b3
    simp [maxLen] at h
    omega
  have hb' : (i.bytes : Int) * (n : Int) ≤ 281474976710656 := by
    have h : ((i.bytes * n : Nat) : Int) ≤ 281474976710656 := by omega
    rwa [Int.natCast_mul] at h
  have hr := run_make (P := P) w t e i (.int q 0) h1 h2 h3 kl kc m n (by omega) (by omega) hb' h63'
  simp only [Int.toNat_natCast] at hr
  have hown : OwnQ q e base (w.alloc (.cells (madeCells (Value.int q 0).cells (n * i.size)) e)) (.slice (some ⟨w.heap.size, 0, none⟩) n n) (List.replicate n 0) := by
    rw [h4]
    exact OwnQ.madeM (World.ownsRow_lit w _ n b4 b3 (size_madeCells _ _)) rfl
  have hup := hown.upto m hmn
  rw [List.take_replicate, Nat.min_eq_left hmn] at hup
  unfold Oper.wp
  simp [execOp, hop, hl, hc, hr, Result.andThen]
  exact hK' _ _ (hK _ hup (World.grownBy_alloc w _ none))

def lenM : Value → Nat
  | .slice _ n _ => n
  | _ => 0
/-- An encoding. -/
def mEncP (h P : Nat) (d : List Nat) : List Nat := [0, 1] ++ List.replicate P 255 ++ [0] ++ frameL h d
def encL (h : Nat) (d : List Nat) (size : Nat) : List Nat := mEncP h (size - (19 + mSize h) - 3) d

set_option maxHeartbeats 2000000 in
theorem encode_yes (h : Nat) (hh : IsHash h) (a : Option Addr) (n c : Nat) (d : List Nat) (size : Nat) (w : World) (hk : Kinds w) (hr : Reads .u8 w a n c d) (hn : n = mSize h) (hlo : n + 30 ≤ size) (hhi : size ≤ 65536) :
    Calls Tryd.prog 21 #[.int .i64 (h : Int), .slice a n c, .int .i64 (size : Int)] w fun e w' => (∃ v, e = .returned (.tuple #[v, .int .i64 0]) ∧ OwnQ .u8 5 w.heap.size w' v (encL h d size)) ∧ Below w.heap.size w w' := by
  obtain ⟨i0, hi, hz0, hz1, hz2⟩ := info_parts infoMk
  have hs := mSize_le hh
  have hn64 : n ≤ 64 := by omega
  obtain ⟨P, hP⟩ : ∃ P, P = size - (19 + n) - 3 := ⟨_, rfl⟩
  have HE := Lib.hid (show encL h d size = mEncP h P d by rw [hP, hn]; rfl)
  have hPs : size = 19 + n + 3 + P := by omega
  have HDL := Lib.hid (show d.length = n from hr.length)
  have HR := Lib.hid hr
  have HN := Lib.hid hn
  clear hr hn hP hs
  subst hPs
  have hP2 : P ≤ 65536 := by omega
  have t1 : decide (((19 + n + 3 + P : Nat) : Int) < ((19 + n : Nat) : Int) + 11) = false := by simp; omega
  have t2 : decide ((65536 : Int) < ((19 + n + 3 + P : Nat) : Int)) = false := by simp; omega
  obtain ⟨size, hsize⟩ : ∃ size, size = 19 + n + 3 + P := ⟨_, rfl⟩
  obtain ⟨f, hf⟩ : ∃ f, f = 19 + n := ⟨_, rfl⟩
  rw [← hsize] at t1 t2 hlo hhi ⊢
  rw [← hf] at t1
  have hsub : (size : Int) - (f : Int) - 1 = ((2 + P : Nat) : Int) := by omega
  have HSZ := Lib.hid hsize
  have HFF := Lib.hid hf
  have hfb : f ≤ 83 := by omega
  clear hsize hf
  go_enter Tryd.func21, Tryd.ntmps21
  go_wp2_with fail
  refine (frame_yes h hh a n c d w hk HR.out HN.out).mono ?_
  rintro e w1 ⟨⟨v, rfl, ho⟩, h1⟩
  obtain ⟨fa, fn, fc, rfl, hfn, ho⟩ := own_slM ho
  rw [frameL, List.length_append, frameH_len, HDL.out, ← HFF.out] at hfn
  subst hfn
  have HF := Lib.hid ho
  have HB1 := Lib.hid h1
  have hz1w : w.heap.size ≤ w1.heap.size := h1.size
  clear ho h1 hk
  go_wp2_with (first
    | (at_make; refine wpList_make_lcM .u8 _ rfl _ _ 23 rfl w1.heap.size 5 i0 Tryd.underlying23 hi hz0 hz1 _ _ _ _ 0 size rfl rfl rfl rfl (Nat.zero_le _) (by rw [hz2]; omega) (by unfold maxLen; omega) (Nat.le_refl _) ?_; intro w2 hown hgrow; have HO2 := Lib.hid hown; have HB2 := Lib.hid ((Below.refl w1.heap.size w1).grown hgrow (Nat.le_refl _) (fun r e => by cases e)); clear hown hgrow)
    | (at_builtin; (refine wpList_append_q .u8 _ rfl _ _ 23 rfl w1.heap.size 5 1 i0 Tryd.underlying23 hi hz0 hz1 hz2 (by decide) _ ([]) rfl (HO2.out.alloc _) _ 2 2 ([0, 1]) rfl (Reads.litM .u8 w2 5 [0, 1] #[.int .u8 0, .int .u8 1] 2 (by simp [num]) rfl (by decide)) (by simp) (by have := HB2.out.size; simp; omega) ?_; intro v3 w3 hown hgrow; rw [List.nil_append] at hown; have HO3 := Lib.hid hown; have HB3 := Lib.hid (hgrow w1 (HB2.out.alloc HB2.out.size _)); clear hown hgrow)))
  obtain ⟨a3, n3, c3, rfl, hn3, ho3⟩ := own_slM HO3.out
  have HO4 := Lib.hid ho3
  obtain rfl : n3 = 2 := hn3
  clear HO3 ho3
  go_loopw [10] (fun sv wq => ∃ (j m c' : Nat) (a' : Option Addr), sv = .slice a' m c' ∧ m ≤ 70000 ∧ j ≤ P ∧ Hid (m = 2 + j ∧ OwnQ .u8 5 w1.heap.size wq (.slice a' m c') ([0, 1] ++ List.replicate j 255) ∧ Below w1.heap.size w1 wq)) (fun sv _ => 2 + P - lenM sv)
  case atStart => exact ⟨0, 2, c3, a3, rfl, by omega, Nat.zero_le _, rfl, by rw [List.replicate_zero, List.append_nil]; exact HO4.out, HB3.out⟩
  case round =>
    obtain ⟨j, m, c', a', rfl, hm, hj, hI⟩ := hrel
    have hszr := hI.out.2.2.size
    by_cases hlt : j < P
    · have tl : decide ((m : Int) < 2 + (P : Int)) = true := by have := hI.out.1; simp; omega
      go_wp2_with (at_builtin; (refine wpList_append_q .u8 _ rfl _ _ 23 rfl w1.heap.size 5 1 i0 Tryd.underlying23 hi hz0 hz1 hz2 (by decide) _ ([0, 1] ++ List.replicate j 255) rfl (hI.out.2.1.alloc _) _ 1 1 ([255]) rfl (Reads.one .u8 _ _ _ _ rfl) (by simp; omega) (by have := hI.out.2.2.size; simp; omega) ?_; intro v5 w5 hown hgrow; obtain ⟨a5, n5, c5, rfl, hn5, ho5⟩ := own_slM hown; have HO5 := Lib.hid ho5; have HN5 := Lib.hid hn5; have HB5 := Lib.hid (hgrow w1 (hI.out.2.2.alloc hI.out.2.2.size _)); clear hown hgrow hn5 ho5))
      have hn6 : n5 = 2 + (j + 1) := by rw [HN5.out]; simp; omega
      go_roundw
      case rel => exact ⟨j + 1, n5, c5, a5, rfl, by omega, by omega, hn6, by
        have h := HO5.out
        rw [List.append_assoc, ← List.replicate_succ'] at h
        exact h, HB5.out⟩
      case measure =>
        have h1 := hI.out.1
        simp [lenM]
        omega
    · obtain rfl : j = P := by omega
      have tl : decide ((m : Int) < 2 + (j : Int)) = false := by have := hI.out.1; simp; omega
      have HI := Lib.hid hI.out
      have HFR := Lib.hid (HF.out.below hI.out.2.2)
      have hmj := hI.out.1
      clear hI
      go_wp2_with (at_builtin; first
        | (refine wpList_append_q .u8 _ rfl _ _ 23 rfl w1.heap.size 5 1 i0 Tryd.underlying23 hi hz0 hz1 hz2 (by decide) _ ([0, 1] ++ List.replicate j 255) rfl (HI.out.2.1.alloc _) _ 1 1 ([0]) rfl (Reads.one .u8 _ _ _ _ rfl) (by simp; omega) (by have := HI.out.2.2.size; simp; omega) ?_; intro v6 w6 hown hgrow; have HO6 := Lib.hid hown; have HB6 := Lib.hid (hgrow w1 (HI.out.2.2.alloc HI.out.2.2.size _)); clear hown hgrow)
        | (refine wpList_append_q .u8 _ rfl _ _ 23 rfl w1.heap.size 5 1 i0 Tryd.underlying23 hi hz0 hz1 hz2 (by decide) _ ([0, 1] ++ List.replicate j 255 ++ [0]) rfl (HO6.out) fa fn fc (frameL h d) rfl ((HF.out.below HB6.out).reads) (by simp; omega) (HB6.out.size) ?_; intro v7 w7 hown hgrow; have HO7 := Lib.hid hown; have HB7 := Lib.hid (hgrow w1 HB6.out); clear hown hgrow))
      go_ret2
      exact ⟨⟨_, rfl, by have := HO7.out.mono hz1w; rw [HSZ.out, HE.out]; exact this⟩, HB1.out.trans (HB7.out.mono hz1w)⟩

end Go.Proofs.YtmfjhgjplmpecaaDoor
