/-
  NUMBERS' NODES: tree.Is, tree.Int.
-/
import Derived.Test.YtkmphiakciihfaaDoorTrM
import Derived.Test.YtkmphiakciihfaaDoorTrC
import Derived.Laws.BitsAllLaws
import Derived.WalkSmall
namespace Go.Proofs.YtkmphiakciihfaaDoor
open Go.RowKit

theorem is_any (V : NV) (c t : Int) (w : World) : Calls Tryd.prog 50 #[V.agg, .int .i64 c, .int .i64 t] w fun e w' => e = .returned (.bool (decide (V.cls = c) && decide (V.tag = t))) ∧ Below w.heap.size w w' := by
  obtain ⟨vc, vt, kk, ba, bl, bc, ka, kl, kc⟩ := V
  have hb := Lib.hid ((Below.refl w.heap.size w).alloc (Nat.le_refl _) (.cells #[.int .i64 vc, .int .i64 vt, .bool kk, .slice ba bl bc, .slice ka kl kc] 25))
  unfold NV.agg
  dsimp only
  by_cases h1 : vc = c
  · have HR := Lib.hid (show (decide (vc = c) && decide (vt = t)) = decide (vt = t) by rw [decide_eq_true h1, Bool.true_and])
    have g1 : (vc == c) = true := by simpa using h1
    clear h1
    by_cases h2 : vt = t
    · have HR2 := Lib.hid (decide_eq_true h2)
      have g2 : (vt == t) = true := by simpa using h2
      clear h2
      go_enter Tryd.func50, Tryd.ntmps50
      go_wp2_with fail
      go_ret
      exact ⟨ret_bool (by rw [HR.out, HR2.out]), hb.out⟩
    · have HR2 := Lib.hid (decide_eq_false h2)
      have g2 : (vt == t) = false := by simpa using h2
      clear h2
      go_enter Tryd.func50, Tryd.ntmps50
      go_wp2_with fail
      go_ret
      exact ⟨ret_bool (by rw [HR.out, HR2.out]), hb.out⟩
  · have HR := Lib.hid (show (decide (vc = c) && decide (vt = t)) = false by rw [decide_eq_false h1, Bool.false_and])
    have g1 : (vc == c) = false := by simpa using h1
    clear h1
    go_enter Tryd.func50, Tryd.ntmps50
    go_wp2_with fail
    go_ret
    exact ⟨ret_bool (by rw [HR.out]), hb.out⟩

def lenV : Value → Nat
  | .slice _ n _ => n
  | _ => 0

theorem Reads.drop1 {q : IntKind} {w : World} {b off len cap : Nat} {l : List Nat} (h : Reads q w (some ⟨b, off, .none⟩) len cap l) (hk : 1 < len) : Reads q w (some ⟨b, off + 1, .none⟩) (len - 1) (cap - 1) (l.drop 1) := by
  obtain ⟨b', off', hb, hlt, hc⟩ := h.cells (by omega)
  cases hb
  refine ⟨by rw [List.length_drop, h.length], by have := h.le; omega, by have := h.max; omega, (fun h => by cases h), fun _ => ⟨b, off + 1, rfl, hlt, fun i hi => ?_⟩⟩
  rw [show off + 1 + i = off + (1 + i) from by omega, hc (1 + i) (by omega), List.getElem?_drop]

/-- The eight bytes of a number, the highest one first. -/
def bytes8 (n : Int) : List Nat := [(n / 72057594037927936 % 256).toNat, (n / 281474976710656 % 256).toNat, (n / 1099511627776 % 256).toNat, (n / 4294967296 % 256).toNat, (n / 16777216 % 256).toNat, (n / 65536 % 256).toNat, (n / 256 % 256).toNat, (n % 256).toNat]

/-- .. without what is not needed. -/
def cutI : List Nat → List Nat
  | [] => []
  | x :: xs => if 1 < (x :: xs).length ∧ intB (x :: xs) = false then cutI xs else x :: xs
def intL (n : Int) : List Nat := cutI (bytes8 n)

def TrimI (w : World) (n : Int) (v : Value) (wr : World) : Prop := ∃ (b off len cap : Nat) (l : List Nat), v = .slice (some ⟨b, off, none⟩) len cap ∧ Reads .u8 wr (some ⟨b, off, none⟩) len cap l ∧ (∀ x ∈ l, x < 256) ∧ cutI l = intL n ∧ 0 < len ∧ len ≤ 8 ∧ Below (w.heap.size + 1) (w.alloc (.cells #[.int .i64 0, .int .i64 0, .bool false, .slice none 0 0, .slice none 0 0] 25)) wr

theorem cutI_no {l : List Nat} (h : l.length ≤ 1 ∨ intB l = true) : cutI l = l := by
  cases l with
  | nil => rfl
  | cons x xs =>
    rw [cutI, if_neg]
    rintro ⟨h1, h2⟩
    rcases h with h | h
    · omega
    · rw [h] at h2; cases h2
theorem cutI_yes {l : List Nat} (h : 1 < l.length) (h2 : intB l = false) : cutI l = cutI (l.drop 1) := by
  cases l with
  | nil => simp at h
  | cons x xs => rw [cutI, if_pos ⟨h, h2⟩]; rfl

def IntI (w : World) (n : Int) (j : Nat) (v : Value) (wr : World) : Prop := OwnQ .u8 5 (w.heap.size + 1) wr v ((bytes8 n).take j) ∧ Below (w.heap.size + 1) (w.alloc (.cells #[.int .i64 0, .int .i64 0, .bool false, .slice none 0 0, .slice none 0 0] 25)) wr

theorem bytes8_lt (n : Int) : ∀ x ∈ bytes8 n, x < 256 := by
  intro x hx
  simp only [bytes8, List.mem_cons, List.mem_nil_iff, or_false] at hx
  rcases hx with rfl | rfl | rfl | rfl | rfl | rfl | rfl | rfl <;> omega

set_option maxRecDepth 100000 in
set_option maxHeartbeats 4000000 in
theorem int_any (n : Int) (w : World) (h1 : -9223372036854775808 ≤ n) (h2 : n ≤ 9223372036854775807) :
    Calls Tryd.prog 24 #[.int .i64 n] w fun e w' => RetsNode w.heap.size w' (.mk 0 2 false (intL n) []) e ∧ Below w.heap.size w w' := by
  obtain ⟨i0, hi, hz0, hz1, hz2⟩ := info_parts Tryd.info8t
  have HB0 := Lib.hid (show Below w.heap.size w (w.alloc (.cells #[.int .i64 0, .int .i64 0, .bool false, .slice none 0 0, .slice none 0 0] 25)) from (Below.refl _ _).alloc (Nat.le_refl _) _)
  go_enter Tryd.func24, Tryd.ntmps24
  go_wp2_with (at_make; refine wpList_make_own _ rfl _ _ 22 rfl (w.heap.size + 1) 5 i0 (.int .u8 0) 1 Tryd.underlying22 hi hz0 hz1 _ _ _ 8 rfl rfl rfl (by rw [hz2]; decide) (by unfold maxLen; omega) (by simp) ?_; intro w1 hown hgrow)
  have HO1 := Lib.hid (show OwnQ .u8 5 (w.heap.size + 1) w1 (.slice (some ⟨w.heap.size + 1, 0, none⟩) 0 8) [] from by simpa [OwnQ] using hown)
  have HB1 := Lib.hid (show Below (w.heap.size + 1) (w.alloc (.cells #[.int .i64 0, .int .i64 0, .bool false, .slice none 0 0, .slice none 0 0] 25)) w1 from (Below.refl _ _).grown hgrow (by simp) (fun r e => by cases e))
  clear hown hgrow
  go_loopw [3, 4] (fun v s wr => ∃ (j : Nat) (S : Int), j ≤ 8 ∧ S = 56 - 8 * (j : Int) ∧ s = .int .i64 S ∧ IntI w n j v wr) (fun _ s _ => (intOf s + 8).toNat)
  case atStart =>
    refine ⟨0, 56, by omega, by omega, rfl, ?_, HB1.out⟩
    have := HO1.out
    simpa using this
  case round =>
    obtain ⟨j, S, hj, hS, rfl, hr⟩ := hrel
    have HR := Lib.hid hr
    clear hr
    rcases (show j = 0 ∨ j = 1 ∨ j = 2 ∨ j = 3 ∨ j = 4 ∨ j = 5 ∨ j = 6 ∨ j = 7 ∨ j = 8 by omega) with rfl | rfl | rfl | rfl | rfl | rfl | rfl | rfl | rfl
    · obtain rfl : S = 56 := by omega
      clear hj hS
      go_wp2_with (at_builtin; refine wpList_append_q .u8 _ rfl _ _ 22 rfl (w.heap.size + 1) 5 1 i0 Tryd.underlying22 hi hz0 hz1 hz2 (by decide) _ _ rfl (HR.out.1.alloc _) _ _ _ [(n / 72057594037927936 % 256).toNat] rfl (Reads.one .u8 wr 5 _ _ (by omega)) (by have := List.length_take_le 0 (bytes8 n); omega) (by have := HR.out.2.size; simp at this; simp; omega) ?_; intro v' w3 hown hgrow)
      have HO := Lib.hid hown
      have HG := Lib.hid (hgrow _ (HR.out.2.alloc (by have := HR.out.2.size; simpa using this) _))
      clear hown hgrow
      go_roundw
      case rel => exact ⟨1, 48, by omega, by omega, rfl, HO.out, HG.out⟩
      case measure => simp [intOf]
    · obtain rfl : S = 48 := by omega
      clear hj hS
      go_wp2_with (at_builtin; refine wpList_append_q .u8 _ rfl _ _ 22 rfl (w.heap.size + 1) 5 1 i0 Tryd.underlying22 hi hz0 hz1 hz2 (by decide) _ _ rfl (HR.out.1.alloc _) _ _ _ [(n / 281474976710656 % 256).toNat] rfl (Reads.one .u8 wr 5 _ _ (by omega)) (by have := List.length_take_le 1 (bytes8 n); omega) (by have := HR.out.2.size; simp at this; simp; omega) ?_; intro v' w3 hown hgrow)
      have HO := Lib.hid hown
      have HG := Lib.hid (hgrow _ (HR.out.2.alloc (by have := HR.out.2.size; simpa using this) _))
      clear hown hgrow
      go_roundw
      case rel => exact ⟨2, 40, by omega, by omega, rfl, HO.out, HG.out⟩
      case measure => simp [intOf]
    · obtain rfl : S = 40 := by omega
      clear hj hS
      go_wp2_with (at_builtin; refine wpList_append_q .u8 _ rfl _ _ 22 rfl (w.heap.size + 1) 5 1 i0 Tryd.underlying22 hi hz0 hz1 hz2 (by decide) _ _ rfl (HR.out.1.alloc _) _ _ _ [(n / 1099511627776 % 256).toNat] rfl (Reads.one .u8 wr 5 _ _ (by omega)) (by have := List.length_take_le 2 (bytes8 n); omega) (by have := HR.out.2.size; simp at this; simp; omega) ?_; intro v' w3 hown hgrow)
      have HO := Lib.hid hown
      have HG := Lib.hid (hgrow _ (HR.out.2.alloc (by have := HR.out.2.size; simpa using this) _))
      clear hown hgrow
      go_roundw
      case rel => exact ⟨3, 32, by omega, by omega, rfl, HO.out, HG.out⟩
      case measure => simp [intOf]
    · obtain rfl : S = 32 := by omega
      clear hj hS
      go_wp2_with (at_builtin; refine wpList_append_q .u8 _ rfl _ _ 22 rfl (w.heap.size + 1) 5 1 i0 Tryd.underlying22 hi hz0 hz1 hz2 (by decide) _ _ rfl (HR.out.1.alloc _) _ _ _ [(n / 4294967296 % 256).toNat] rfl (Reads.one .u8 wr 5 _ _ (by omega)) (by have := List.length_take_le 3 (bytes8 n); omega) (by have := HR.out.2.size; simp at this; simp; omega) ?_; intro v' w3 hown hgrow)
      have HO := Lib.hid hown
      have HG := Lib.hid (hgrow _ (HR.out.2.alloc (by have := HR.out.2.size; simpa using this) _))
      clear hown hgrow
      go_roundw
      case rel => exact ⟨4, 24, by omega, by omega, rfl, HO.out, HG.out⟩
      case measure => simp [intOf]
    · obtain rfl : S = 24 := by omega
      clear hj hS
      go_wp2_with (at_builtin; refine wpList_append_q .u8 _ rfl _ _ 22 rfl (w.heap.size + 1) 5 1 i0 Tryd.underlying22 hi hz0 hz1 hz2 (by decide) _ _ rfl (HR.out.1.alloc _) _ _ _ [(n / 16777216 % 256).toNat] rfl (Reads.one .u8 wr 5 _ _ (by omega)) (by have := List.length_take_le 4 (bytes8 n); omega) (by have := HR.out.2.size; simp at this; simp; omega) ?_; intro v' w3 hown hgrow)
      have HO := Lib.hid hown
      have HG := Lib.hid (hgrow _ (HR.out.2.alloc (by have := HR.out.2.size; simpa using this) _))
      clear hown hgrow
      go_roundw
      case rel => exact ⟨5, 16, by omega, by omega, rfl, HO.out, HG.out⟩
      case measure => simp [intOf]
    · obtain rfl : S = 16 := by omega
      clear hj hS
      go_wp2_with (at_builtin; refine wpList_append_q .u8 _ rfl _ _ 22 rfl (w.heap.size + 1) 5 1 i0 Tryd.underlying22 hi hz0 hz1 hz2 (by decide) _ _ rfl (HR.out.1.alloc _) _ _ _ [(n / 65536 % 256).toNat] rfl (Reads.one .u8 wr 5 _ _ (by omega)) (by have := List.length_take_le 5 (bytes8 n); omega) (by have := HR.out.2.size; simp at this; simp; omega) ?_; intro v' w3 hown hgrow)
      have HO := Lib.hid hown
      have HG := Lib.hid (hgrow _ (HR.out.2.alloc (by have := HR.out.2.size; simpa using this) _))
      clear hown hgrow
      go_roundw
      case rel => exact ⟨6, 8, by omega, by omega, rfl, HO.out, HG.out⟩
      case measure => simp [intOf]
    · obtain rfl : S = 8 := by omega
      clear hj hS
      go_wp2_with (at_builtin; refine wpList_append_q .u8 _ rfl _ _ 22 rfl (w.heap.size + 1) 5 1 i0 Tryd.underlying22 hi hz0 hz1 hz2 (by decide) _ _ rfl (HR.out.1.alloc _) _ _ _ [(n / 256 % 256).toNat] rfl (Reads.one .u8 wr 5 _ _ (by omega)) (by have := List.length_take_le 6 (bytes8 n); omega) (by have := HR.out.2.size; simp at this; simp; omega) ?_; intro v' w3 hown hgrow)
      have HO := Lib.hid hown
      have HG := Lib.hid (hgrow _ (HR.out.2.alloc (by have := HR.out.2.size; simpa using this) _))
      clear hown hgrow
      go_roundw
      case rel => exact ⟨7, 0, by omega, by omega, rfl, HO.out, HG.out⟩
      case measure => simp [intOf]
    · obtain rfl : S = 0 := by omega
      clear hj hS
      go_wp2_with (at_builtin; refine wpList_append_q .u8 _ rfl _ _ 22 rfl (w.heap.size + 1) 5 1 i0 Tryd.underlying22 hi hz0 hz1 hz2 (by decide) _ _ rfl (HR.out.1.alloc _) _ _ _ [(n % 256).toNat] rfl (Reads.one .u8 wr 5 _ _ (by omega)) (by have := List.length_take_le 7 (bytes8 n); omega) (by have := HR.out.2.size; simp at this; simp; omega) ?_; intro v' w3 hown hgrow)
      have HO := Lib.hid hown
      have HG := Lib.hid (hgrow _ (HR.out.2.alloc (by have := HR.out.2.size; simpa using this) _))
      clear hown hgrow
      go_roundw
      case rel => exact ⟨8, -8, by omega, by omega, rfl, HO.out, HG.out⟩
      case measure => simp [intOf]
    · obtain rfl : S = -8 := by omega
      clear hj hS
      obtain ⟨g0, c0, rfl⟩ := HR.out.1.succ (by simp [bytes8])
      have HRD := Lib.hid HR.out.1.reads
      go_wp2_with fail
      go_loopw [3] (fun v wr => TrimI w n v wr) (fun v _ => lenV v)
      case atStart => exact ⟨g0, 0, 8, c0, bytes8 n, rfl, HRD.out, bytes8_lt n, rfl, by omega, by omega, HR.out.2⟩
      case round =>
        obtain ⟨b, off, len, cap, l, rfl, hrd, hx, hcut, h0, h8, hbw⟩ := hrel
        have HX := Lib.hid hx
        have HCUT := Lib.hid hcut
        have HBW := Lib.hid hbw
        have HRD2 := Lib.hid hrd
        have hle := hrd.le
        have hcm := hrd.max
        unfold maxLen at hcm
        have hln := Lib.hid hrd.length
        clear hrd hx hcut hbw
        by_cases h1l : 1 < len
        · have HI := Lib.hid (isInt_any _ len cap l wr HRD2.out HX.out)
          cases hI : intB l with
          | false =>
            have hc1 : ¬ cap = 1 := by omega
            have HC2 := Lib.hid (cutI_yes (by rw [hln.out]; exact h1l) hI)
            rw [hI] at HI
            clear hI
            go_wp2_with (refine HI.out.mono ?_; rintro e w4 ⟨rfl, nq, rfl⟩)
            go_roundw
            case rel =>
              refine ⟨b, off + 1, len - 1, cap - 1, l.drop 1, ?_, (HRD2.out.drewN nq).drop1 h1l, fun x hx => HX.out x (List.mem_of_mem_drop hx), by rw [← HC2.out]; exact HCUT.out, by omega, by omega, HBW.out.trans ⟨rfl, rfl, rfl, Nat.le_refl _, fun _ _ => rfl⟩⟩
              first | rfl | (congr 1 <;> omega)
            case measure => simp [lenV]; omega
          | true =>
            have HL := Lib.hid (show l = intL n by rw [← HCUT.out]; exact (cutI_no (.inr hI)).symm)
            rw [hI] at HI
            clear hI
            go_wp2_with (refine HI.out.mono ?_; rintro e w4 ⟨rfl, nq, rfl⟩)
            refine (prim_any 0 2 _ len cap l _ (HRD2.out.drewN nq) HX.out (by omega)).mono ?_
            rintro e w5 ⟨⟨V2, rfl, hm5⟩, hb5⟩
            obtain ⟨c2, t2, kk2, ba2, bl2, bc2, ka2, kl2, kc2⟩ := V2
            unfold NV.agg
            dsimp only
            have hbA : Below (w.heap.size + 1) (w.alloc (.cells #[.int .i64 0, .int .i64 0, .bool false, .slice none 0 0, .slice none 0 0] 25)) w5 := (below_drewN HBW.out nq).trans (hb5.mono (by have := HBW.out.size; simpa using this))
            have ca := (cells5 w 0 0 false none 0 0 none 0 0 25).below hbA (by omega)
            have oa := (open5_new w 0 0 false none 0 0 none 0 0 25).below hbA (by omega)
            have HM5 := Lib.hid hm5
            have HBA := Lib.hid hbA
            have HSZ := Lib.hid (show w.heap.size + 1 ≤ wr.heap.size by have := HBW.out.size; simpa using this)
            have z0 := ca.c0
            have z1 := ca.c1
            have z2 := ca.c2
            have z3 := ca.c3
            have z4 := ca.c4
            obtain ⟨f0, f1, f2, f3, f4⟩ := oa
            dsimp only at z0 z1 z2 z3 z4
            simp only [Nat.zero_add] at z0 z1 z2 z3 z4
            clear hm5 hb5 hbA ca
            go_wp2_with fail
            obtain ⟨V, hV⟩ : ∃ V : NV, V = ⟨c2, t2, kk2, ba2, bl2, bc2, ka2, kl2, kc2⟩ := ⟨_, rfl⟩
            have hcs := putNode_cells w5 w.heap.size V z0 z1 z2 z3 z4
            have HP := Lib.hid (show RetsNode w.heap.size (putNode w5 w.heap.size V) (.mk 0 2 false (intL n) []) (.returned V.agg) ∧ Below w.heap.size w (putNode w5 w.heap.size V) by
              refine ⟨⟨V, rfl, ?_⟩, putNode_below (HB0.out.trans (HBA.out.mono (by omega))) (Nat.le_refl _) V⟩
              rw [← HL.out]
              have h5 := HM5.out
              rw [← hV] at h5
              refine (h5.heap (w' := putNode w5 w.heap.size V) fun g hg => putNode_heap _ _ _ _ ?_).wide fun g hg => ?_
              · have := HSZ.out; (try simp at hg); omega
              · have := HSZ.out; (try simp at hg); omega)
            subst hV
            have d0 := hcs.c0
            have d1 := hcs.c1
            have d2 := hcs.c2
            have d3 := hcs.c3
            have d4 := hcs.c4
            dsimp only at d0 d1 d2 d3 d4
            simp only [Nat.zero_add] at d0 d1 d2 d3 d4
            change bodyPost _ _ _ _ _ (putNode w5 w.heap.size ⟨c2, t2, kk2, ba2, bl2, bc2, ka2, kl2, kc2⟩)
            generalize putNode w5 w.heap.size ⟨c2, t2, kk2, ba2, bl2, bc2, ka2, kl2, kc2⟩ = w6 at *
            clear hcs z0 z1 z2 z3 z4 f0 f1 f2 f3 f4
            refine bodyPost_ret (v := .agg #[.int .i64 c2, .int .i64 t2, .bool kk2, .slice ba2 bl2 bc2, .slice ka2 kl2 kc2]) ?_ rfl HP.out
            rw [results_cell_one rfl]
            go_simp
        · have HL := Lib.hid (show l = intL n by rw [← HCUT.out]; exact (cutI_no (.inl (by rw [hln.out]; omega))).symm)
          go_wp2_with fail
          refine (prim_any 0 2 _ len cap l _ HRD2.out HX.out (by omega)).mono ?_
          rintro e w5 ⟨⟨V2, rfl, hm5⟩, hb5⟩
          obtain ⟨c2, t2, kk2, ba2, bl2, bc2, ka2, kl2, kc2⟩ := V2
          unfold NV.agg
          dsimp only
          have hbA : Below (w.heap.size + 1) (w.alloc (.cells #[.int .i64 0, .int .i64 0, .bool false, .slice none 0 0, .slice none 0 0] 25)) w5 := (HBW.out).trans (hb5.mono (by have := HBW.out.size; simpa using this))
          have ca := (cells5 w 0 0 false none 0 0 none 0 0 25).below hbA (by omega)
          have oa := (open5_new w 0 0 false none 0 0 none 0 0 25).below hbA (by omega)
          have HM5 := Lib.hid hm5
          have HBA := Lib.hid hbA
          have HSZ := Lib.hid (show w.heap.size + 1 ≤ wr.heap.size by have := HBW.out.size; simpa using this)
          have z0 := ca.c0
          have z1 := ca.c1
          have z2 := ca.c2
          have z3 := ca.c3
          have z4 := ca.c4
          obtain ⟨f0, f1, f2, f3, f4⟩ := oa
          dsimp only at z0 z1 z2 z3 z4
          simp only [Nat.zero_add] at z0 z1 z2 z3 z4
          clear hm5 hb5 hbA ca
          go_wp2_with fail
          obtain ⟨V, hV⟩ : ∃ V : NV, V = ⟨c2, t2, kk2, ba2, bl2, bc2, ka2, kl2, kc2⟩ := ⟨_, rfl⟩
          have hcs := putNode_cells w5 w.heap.size V z0 z1 z2 z3 z4
          have HP := Lib.hid (show RetsNode w.heap.size (putNode w5 w.heap.size V) (.mk 0 2 false (intL n) []) (.returned V.agg) ∧ Below w.heap.size w (putNode w5 w.heap.size V) by
            refine ⟨⟨V, rfl, ?_⟩, putNode_below (HB0.out.trans (HBA.out.mono (by omega))) (Nat.le_refl _) V⟩
            rw [← HL.out]
            have h5 := HM5.out
            rw [← hV] at h5
            refine (h5.heap (w' := putNode w5 w.heap.size V) fun g hg => putNode_heap _ _ _ _ ?_).wide fun g hg => ?_
            · have := HSZ.out; (try simp at hg); omega
            · have := HSZ.out; (try simp at hg); omega)
          subst hV
          have d0 := hcs.c0
          have d1 := hcs.c1
          have d2 := hcs.c2
          have d3 := hcs.c3
          have d4 := hcs.c4
          dsimp only at d0 d1 d2 d3 d4
          simp only [Nat.zero_add] at d0 d1 d2 d3 d4
          change bodyPost _ _ _ _ _ (putNode w5 w.heap.size ⟨c2, t2, kk2, ba2, bl2, bc2, ka2, kl2, kc2⟩)
          generalize putNode w5 w.heap.size ⟨c2, t2, kk2, ba2, bl2, bc2, ka2, kl2, kc2⟩ = w6 at *
          clear hcs z0 z1 z2 z3 z4 f0 f1 f2 f3 f4
          refine bodyPost_ret (v := .agg #[.int .i64 c2, .int .i64 t2, .bool kk2, .slice ba2 bl2 bc2, .slice ka2 kl2 kc2]) ?_ rfl HP.out
          rw [results_cell_one rfl]
          go_simp

end Go.Proofs.YtkmphiakciihfaaDoor
