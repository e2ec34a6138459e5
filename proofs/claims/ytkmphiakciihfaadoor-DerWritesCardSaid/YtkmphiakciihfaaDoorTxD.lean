/-
  THE REFERENCE's CONTENTS: UTF-8 by its table; each byte of a text.
-/
import Derived.Test.YtkmphiakciihfaaDoorTxC
import Derived.Test.YtkmphiakciihfaaDoorTcK
namespace Go.Proofs.YtkmphiakciihfaaDoor
open Go.RowKit

theorem lead_at (l : List Nat) (hx : Byt l) (i c sz lo hi : Nat) (hil : i < l.length) (hc : gN l i = c) (h128 : 128 ≤ c) (hs : Lib.firstT c % 8 = sz) (hlo : Lib.accLo (Lib.firstT c / 16) = lo) (hhi : Lib.accHi (Lib.firstT c / 16) = hi) :
    validN (l.drop i) = match Lib.checkN (l.length - i) (gN l (i + 1)) (gN l (i + 2)) (gN l (i + 3)) sz lo hi with
      | none => false
      | some k => validN (l.drop (i + k)) := by
  have h := valid_lead (l.drop i) (fun y hy => hx y (List.mem_of_mem_drop hy)) (by rw [List.length_drop]; omega) (by rw [gN_drop, Nat.add_zero, hc]; exact h128)
  rw [gN_drop l i 0, gN_drop, gN_drop, gN_drop, show i + 0 = i from rfl, hc, List.length_drop, hs, hlo, hhi] at h
  rw [h]
  cases Lib.checkN (l.length - i) (gN l (i + 1)) (gN l (i + 2)) (gN l (i + 3)) sz lo hi with
  | none => rfl
  | some k => simp only [List.drop_drop]
theorem first_hi (c v : Nat) (h : Lib.firstT c = v) : Lib.firstT c % 8 = v % 8 ∧ Lib.firstT c / 16 = v / 16 := by rw [h]; exact ⟨rfl, rfl⟩

theorem lead_2 (l : List Nat) (hx : Byt l) (i c lo hi x1 : Nat) (hil : i < l.length) (hc : gN l i = c) (h128 : 128 ≤ c) (hs : Lib.firstT c % 8 = 2) (hlo : Lib.accLo (Lib.firstT c / 16) = lo) (hhi : Lib.accHi (Lib.firstT c / 16) = hi) (h1 : gN l (i + 1) = x1) :
    validN (l.drop i) = if l.length - i < 2 ∨ x1 < lo ∨ hi < x1 then false else validN (l.drop (i + 2)) := by
  rw [lead_at l hx i c 2 lo hi hil hc h128 hs hlo hhi]
  subst h1

  have e : Lib.checkN (l.length - i) (gN l (i + 1)) (gN l (i + 2)) (gN l (i + 3)) 2 lo hi = if l.length - i < 2 ∨ gN l (i + 1) < lo ∨ hi < gN l (i + 1) then none else some 2 := by simp only [Lib.checkN, Nat.reduceEqDiff, if_true, if_false]
  rw [e]
  by_cases h : l.length - i < 2 ∨ gN l (i + 1) < lo ∨ hi < gN l (i + 1)
  · rw [if_pos h, if_pos h]
  · rw [if_neg h, if_neg h]
theorem lead_3 (l : List Nat) (hx : Byt l) (i c lo hi x1 x2 : Nat) (hil : i < l.length) (hc : gN l i = c) (h128 : 128 ≤ c) (hs : Lib.firstT c % 8 = 3) (hlo : Lib.accLo (Lib.firstT c / 16) = lo) (hhi : Lib.accHi (Lib.firstT c / 16) = hi) (h1 : gN l (i + 1) = x1) (h2 : gN l (i + 2) = x2) :
    validN (l.drop i) = if l.length - i < 3 ∨ x1 < lo ∨ hi < x1 ∨ x2 < 128 ∨ 191 < x2 then false else validN (l.drop (i + 3)) := by
  rw [lead_at l hx i c 3 lo hi hil hc h128 hs hlo hhi]
  subst h1 h2

  have e : Lib.checkN (l.length - i) (gN l (i + 1)) (gN l (i + 2)) (gN l (i + 3)) 3 lo hi = if l.length - i < 3 ∨ gN l (i + 1) < lo ∨ hi < gN l (i + 1) ∨ gN l (i + 2) < 128 ∨ 191 < gN l (i + 2) then none else some 3 := by simp only [Lib.checkN, Nat.reduceEqDiff, if_true, if_false]
  rw [e]
  by_cases h : l.length - i < 3 ∨ gN l (i + 1) < lo ∨ hi < gN l (i + 1) ∨ gN l (i + 2) < 128 ∨ 191 < gN l (i + 2)
  · rw [if_pos h, if_pos h]
  · rw [if_neg h, if_neg h]
theorem lead_4 (l : List Nat) (hx : Byt l) (i c lo hi x1 x2 x3 : Nat) (hil : i < l.length) (hc : gN l i = c) (h128 : 128 ≤ c) (hs : Lib.firstT c % 8 = 4) (hlo : Lib.accLo (Lib.firstT c / 16) = lo) (hhi : Lib.accHi (Lib.firstT c / 16) = hi) (h1 : gN l (i + 1) = x1) (h2 : gN l (i + 2) = x2) (h3 : gN l (i + 3) = x3) :
    validN (l.drop i) = if l.length - i < 4 ∨ x1 < lo ∨ hi < x1 ∨ x2 < 128 ∨ 191 < x2 ∨ x3 < 128 ∨ 191 < x3 then false else validN (l.drop (i + 4)) := by
  rw [lead_at l hx i c 4 lo hi hil hc h128 hs hlo hhi]
  subst h1 h2 h3

  have e : Lib.checkN (l.length - i) (gN l (i + 1)) (gN l (i + 2)) (gN l (i + 3)) 4 lo hi = if l.length - i < 4 ∨ gN l (i + 1) < lo ∨ hi < gN l (i + 1) ∨ gN l (i + 2) < 128 ∨ 191 < gN l (i + 2) ∨ gN l (i + 3) < 128 ∨ 191 < gN l (i + 3) then none else some 4 := by simp only [Lib.checkN, Nat.reduceEqDiff, if_true, if_false]
  rw [e]
  by_cases h : l.length - i < 4 ∨ gN l (i + 1) < lo ∨ hi < gN l (i + 1) ∨ gN l (i + 2) < 128 ∨ 191 < gN l (i + 2) ∨ gN l (i + 3) < 128 ∨ 191 < gN l (i + 3)
  · rw [if_pos h, if_pos h]
  · rw [if_neg h, if_neg h]
theorem lead_no (l : List Nat) (hx : Byt l) (i c : Nat) (hil : i < l.length) (hc : gN l i = c) (h128 : 128 ≤ c) (hs : Lib.firstT c = 241) : validN (l.drop i) = false := by
  rw [lead_at l hx i c 1 _ _ hil hc h128 (by rw [hs]) rfl rfl]
  rfl

structure VldI (w : World) (l : List Nat) (k : Nat) (wr : World) : Prop where
  same : validN (l.drop k) = validN l
  world : wr = w

structure InnI (w : World) (lo hi x1 x2 x3 k : Nat) (wr : World) : Prop where
  one : 2 ≤ k → lo ≤ x1 ∧ x1 ≤ hi
  two : 3 ≤ k → 128 ≤ x2 ∧ x2 ≤ 191
  three : 4 ≤ k → 128 ≤ x3 ∧ x3 ≤ 191
  world : wr = w

set_option maxHeartbeats 16000000 in
set_option maxRecDepth 100000 in
theorem rvalid_any (a : Option Addr) (len cap : Nat) (l : List Nat) (w : World) (h : Reads .u8 w a len cap l) (hx : ∀ x ∈ l, x < 256) (hbig : len ≤ 1000000) :
    Calls Tryd.prog 89 #[.slice a len cap] w fun e w' => e = .returned (.bool (validN l)) ∧ w' = w := by
  have hm := h.len_le
  unfold maxLen at hm
  have hl := Lib.hid h.length
  have HC := Lib.hid h.cells
  have HX := Lib.hid hx
  clear h hx
  go_enter Tryd.func89, Tryd.ntmps89
  go_wp2_with fail
  go_loopw [3] (fun i wr => ∃ (k : Nat), k ≤ len ∧ i = .int .i64 (k : Int) ∧ VldI w l k wr) (fun i _ => len - (intOf i).toNat)
  case atStart => exact ⟨0, Nat.zero_le _, rfl, rfl, rfl⟩
  case round =>
    obtain ⟨i, hk, rfl, hr⟩ := hrel
    have hw := hr.world
    subst hw
    have HS := Lib.hid hr.same
    clear hr
    by_cases hlt : i < len
    · obtain ⟨b, off, rfl, hg, hc⟩ := HC.out (by omega)
      have ck := hc i hlt
      have hil : i < l.length := by rw [hl.out]; exact hlt
      have hki : (i : Int) < (len : Int) := by omega
      have c256 := gN_lt HX.out i
      rw [show (l[i]?.getD 0) = gN l i from rfl] at ck
      obtain ⟨c, hce⟩ : ∃ c, gN l i = c := ⟨_, rfl⟩
      rw [hce] at ck c256
      have HCE := Lib.hid hce
      have HCC := Lib.hid hc
      clear hce hc
      by_cases hA : c < 128
      · have zA : (c : Int) < 128 := by omega
        have HN := Lib.hid (show validN (l.drop (i + 1)) = validN l by
          have hd : l.drop i = c :: l.drop (i + 1) := by
            rw [List.drop_eq_getElem_cons hil]
            have e : gN l i = l[i] := by unfold gN; rw [List.getElem?_eq_getElem hil]; rfl
            rw [← e, HCE.out]
          rw [← HS.out, ← List.drop_drop, valid_drop (l.drop i) 1 (by rw [hd]; intro y hy; simp at hy; omega)])
        have zB : (i : Int) + 0 < (len : Int) := by omega
        clear HS
        go_wp2_with fail
        go_loopw [8, 5, 6] (fun k lo hi wx => k = .int .i64 1 ∧ wx = wr) (fun _ _ _ _ => 0)
        case atStart => exact ⟨rfl, rfl⟩
        case round =>
          obtain ⟨rfl, rfl⟩ := hrel
          go_wp2_with fail
          go_roundw
          case rel => exact ⟨i + 1, by omega, by go_num, HN.out, rfl⟩
          case measure => simp [intOf]; omega
      · by_cases hB : 194 ≤ c ∧ c ≤ 223
        · as_aux_lemma =>
          have hT : Lib.firstT c = 2 := by unfold Lib.firstT; (repeat' split); all_goals omega
          obtain ⟨t1, t2⟩ := first_hi c _ hT
          obtain ⟨x1, hx1⟩ : ∃ x, gN l (i + 1) = x := ⟨_, rfl⟩
          obtain ⟨x2, hx2⟩ : ∃ x, gN l (i + 2) = x := ⟨_, rfl⟩
          obtain ⟨x3, hx3⟩ : ∃ x, gN l (i + 3) = x := ⟨_, rfl⟩
          have HLD := Lib.hid (lead_2 l HX.out i c 128 191 x1 hil HCE.out (by omega) (by rw [t1]) (by rw [t2]; rfl) (by rw [t2]; rfl) hx1)
          rw [hl.out, HS.out] at HLD
          clear hT t1 t2 HS
          have zA : ¬ ((c : Int) < 128) := by omega
          have g194 : (194 : Int) ≤ (c : Int) := by omega
          have g224 : ¬ ((224 : Int) ≤ (c : Int)) := by omega
          have g240 : ¬ ((240 : Int) ≤ (c : Int)) := by omega
          have l223 : (c : Int) ≤ 223 := by omega
          have l239 : (c : Int) ≤ 239 := by omega
          have l244 : (c : Int) ≤ 244 := by omega
          have n224 : ((c : Int) == 224) = false := by simp; omega
          have n237 : ((c : Int) == 237) = false := by simp; omega
          have n240 : ((c : Int) == 240) = false := by simp; omega
          have n244 : ((c : Int) == 244) = false := by simp; omega
          clear hA hB
          by_cases hsh : len ≤ i + 1
          · have zs : (len : Int) ≤ (i : Int) + 1 := by omega
            have HF := Lib.hid (show validN l = false by rw [HLD.out, if_pos (.inl (by omega))])
            clear HLD
            go_wp2_with fail
            go_ret
            exact ⟨ret_bool HF.out.symm, rfl⟩
          · have zs : ¬ ((len : Int) ≤ (i : Int) + 1) := by omega
            have d1 := HCC.out (i + 1) (by omega)
            rw [show (l[i + 1]?.getD 0) = x1 from hx1] at d1
            have y1 : x1 < 256 := hx1 ▸ gN_lt HX.out (i + 1)
            have p1 : i + 1 < len := by omega
            have q1 : (i : Int) + 1 < (len : Int) := by omega
            clear hx1 hx2 hx3
            go_wp2_with fail
            go_loopw [8, 5, 6] (fun k lo hi wx => ∃ (kk : Nat), 1 ≤ kk ∧ kk ≤ 2 ∧ k = .int .i64 (kk : Int) ∧ lo = .int .i64 (if kk = 1 then 128 else 128) ∧ hi = .int .i64 (if kk = 1 then 191 else 191) ∧ InnI wr 128 191 x1 x2 x3 kk wx) (fun k _ _ _ => 2 - (intOf k).toNat)
            case atStart => exact ⟨1, Nat.le_refl _, by omega, rfl, rfl, rfl, fun h => by omega, fun h => by omega, fun h => by omega, rfl⟩
            case round =>
              obtain ⟨kk, hk1, hk2, rfl, rfl, rfl, hri⟩ := hrel
              have hw := hri.world
              subst hw
              have HI := Lib.hid hri
              clear hri
              obtain rfl | rfl : kk = 1 ∨ kk = 2 := by omega
              · by_cases ha : x1 < 128
                · have za : (x1 : Int) < 128 := by omega
                  have HF := Lib.hid (show validN l = false by rw [HLD.out, if_pos (by omega)])
                  clear HLD HI
                  go_wp2_with fail
                  go_ret
                  exact ⟨ret_bool HF.out.symm, rfl⟩
                · have za : ¬ ((x1 : Int) < 128) := by omega
                  by_cases hb : 191 < x1
                  · have zb : (191 : Int) < (x1 : Int) := by omega
                    have HF := Lib.hid (show validN l = false by rw [HLD.out, if_pos (by omega)])
                    clear HLD HI
                    go_wp2_with fail
                    go_ret
                    exact ⟨ret_bool HF.out.symm, rfl⟩
                  · have zb : ¬ ((191 : Int) < (x1 : Int)) := by omega
                    have HN := Lib.hid (show InnI wr 128 191 x1 x2 x3 2 wr from ⟨fun _ => ⟨by omega, by omega⟩, fun h => by omega, fun h => by omega, rfl⟩)
                    clear HLD HI ha hb
                    go_wp2_with fail
                    go_roundw
                    case rel => exact ⟨2, by omega, by omega, rfl, rfl, rfl, HN.out⟩
                    case measure => simp [intOf]
              · have HN := Lib.hid (show validN (l.drop (i + 2)) = validN l by
                  have f0 := HI.out.one (by omega)
                  rw [HLD.out, if_neg (by omega)])
                clear HLD HI
                go_wp2_with fail
                go_roundw
                case rel => exact ⟨i + 2, by omega, by go_num, HN.out, rfl⟩
                case measure => simp [intOf]; omega
        · by_cases hB : 224 ≤ c ∧ c ≤ 224
          · as_aux_lemma =>
            have hT : Lib.firstT c = 19 := by unfold Lib.firstT; (repeat' split); all_goals omega
            obtain ⟨t1, t2⟩ := first_hi c _ hT
            obtain ⟨x1, hx1⟩ : ∃ x, gN l (i + 1) = x := ⟨_, rfl⟩
            obtain ⟨x2, hx2⟩ : ∃ x, gN l (i + 2) = x := ⟨_, rfl⟩
            obtain ⟨x3, hx3⟩ : ∃ x, gN l (i + 3) = x := ⟨_, rfl⟩
            have HLD := Lib.hid (lead_3 l HX.out i c 160 191 x1 x2 hil HCE.out (by omega) (by rw [t1]) (by rw [t2]; rfl) (by rw [t2]; rfl) hx1 hx2)
            rw [hl.out, HS.out] at HLD
            clear hT t1 t2 HS
            obtain rfl : c = 224 := by omega
            clear hA hB
            by_cases hsh : len ≤ i + 2
            · have zs : (len : Int) ≤ (i : Int) + 2 := by omega
              have HF := Lib.hid (show validN l = false by rw [HLD.out, if_pos (.inl (by omega))])
              clear HLD
              go_wp2_with fail
              go_ret
              exact ⟨ret_bool HF.out.symm, rfl⟩
            · have zs : ¬ ((len : Int) ≤ (i : Int) + 2) := by omega
              have d1 := HCC.out (i + 1) (by omega)
              rw [show (l[i + 1]?.getD 0) = x1 from hx1] at d1
              have y1 : x1 < 256 := hx1 ▸ gN_lt HX.out (i + 1)
              have p1 : i + 1 < len := by omega
              have q1 : (i : Int) + 1 < (len : Int) := by omega
              have d2 := HCC.out (i + 2) (by omega)
              rw [show (l[i + 2]?.getD 0) = x2 from hx2] at d2
              have y2 : x2 < 256 := hx2 ▸ gN_lt HX.out (i + 2)
              have p2 : i + 2 < len := by omega
              have q2 : (i : Int) + 2 < (len : Int) := by omega
              clear hx1 hx2 hx3
              go_wp2_with fail
              go_loopw [8, 5, 6] (fun k lo hi wx => ∃ (kk : Nat), 1 ≤ kk ∧ kk ≤ 3 ∧ k = .int .i64 (kk : Int) ∧ lo = .int .i64 (if kk = 1 then 160 else 128) ∧ hi = .int .i64 (if kk = 1 then 191 else 191) ∧ InnI wr 160 191 x1 x2 x3 kk wx) (fun k _ _ _ => 3 - (intOf k).toNat)
              case atStart => exact ⟨1, Nat.le_refl _, by omega, rfl, rfl, rfl, fun h => by omega, fun h => by omega, fun h => by omega, rfl⟩
              case round =>
                obtain ⟨kk, hk1, hk2, rfl, rfl, rfl, hri⟩ := hrel
                have hw := hri.world
                subst hw
                have HI := Lib.hid hri
                clear hri
                obtain rfl | rfl | rfl : kk = 1 ∨ kk = 2 ∨ kk = 3 := by omega
                · by_cases ha : x1 < 160
                  · have za : (x1 : Int) < 160 := by omega
                    have HF := Lib.hid (show validN l = false by rw [HLD.out, if_pos (by omega)])
                    clear HLD HI
                    go_wp2_with fail
                    go_ret
                    exact ⟨ret_bool HF.out.symm, rfl⟩
                  · have za : ¬ ((x1 : Int) < 160) := by omega
                    by_cases hb : 191 < x1
                    · have zb : (191 : Int) < (x1 : Int) := by omega
                      have HF := Lib.hid (show validN l = false by rw [HLD.out, if_pos (by omega)])
                      clear HLD HI
                      go_wp2_with fail
                      go_ret
                      exact ⟨ret_bool HF.out.symm, rfl⟩
                    · have zb : ¬ ((191 : Int) < (x1 : Int)) := by omega
                      have HN := Lib.hid (show InnI wr 160 191 x1 x2 x3 2 wr from ⟨fun _ => ⟨by omega, by omega⟩, fun h => by omega, fun h => by omega, rfl⟩)
                      clear HLD HI ha hb
                      go_wp2_with fail
                      go_roundw
                      case rel => exact ⟨2, by omega, by omega, rfl, rfl, rfl, HN.out⟩
                      case measure => simp [intOf]
                · by_cases ha : x2 < 128
                  · have za : (x2 : Int) < 128 := by omega
                    have HF := Lib.hid (show validN l = false by rw [HLD.out, if_pos (by omega)])
                    clear HLD HI
                    go_wp2_with fail
                    go_ret
                    exact ⟨ret_bool HF.out.symm, rfl⟩
                  · have za : ¬ ((x2 : Int) < 128) := by omega
                    by_cases hb : 191 < x2
                    · have zb : (191 : Int) < (x2 : Int) := by omega
                      have HF := Lib.hid (show validN l = false by rw [HLD.out, if_pos (by omega)])
                      clear HLD HI
                      go_wp2_with fail
                      go_ret
                      exact ⟨ret_bool HF.out.symm, rfl⟩
                    · have zb : ¬ ((191 : Int) < (x2 : Int)) := by omega
                      have HN := Lib.hid (show InnI wr 160 191 x1 x2 x3 3 wr from ⟨fun _ => HI.out.one (by omega), fun _ => ⟨by omega, by omega⟩, fun h => by omega, rfl⟩)
                      clear HLD HI ha hb
                      go_wp2_with fail
                      go_roundw
                      case rel => exact ⟨3, by omega, by omega, rfl, rfl, rfl, HN.out⟩
                      case measure => simp [intOf]
                · have HN := Lib.hid (show validN (l.drop (i + 3)) = validN l by
                    have f0 := HI.out.one (by omega)
                    have f1 := HI.out.two (by omega)
                    rw [HLD.out, if_neg (by omega)])
                  clear HLD HI
                  go_wp2_with fail
                  go_roundw
                  case rel => exact ⟨i + 3, by omega, by go_num, HN.out, rfl⟩
                  case measure => simp [intOf]; omega
          · by_cases hB : 225 ≤ c ∧ c ≤ 236
            · as_aux_lemma =>
              have hT : Lib.firstT c = 3 := by unfold Lib.firstT; (repeat' split); all_goals omega
              obtain ⟨t1, t2⟩ := first_hi c _ hT
              obtain ⟨x1, hx1⟩ : ∃ x, gN l (i + 1) = x := ⟨_, rfl⟩
              obtain ⟨x2, hx2⟩ : ∃ x, gN l (i + 2) = x := ⟨_, rfl⟩
              obtain ⟨x3, hx3⟩ : ∃ x, gN l (i + 3) = x := ⟨_, rfl⟩
              have HLD := Lib.hid (lead_3 l HX.out i c 128 191 x1 x2 hil HCE.out (by omega) (by rw [t1]) (by rw [t2]; rfl) (by rw [t2]; rfl) hx1 hx2)
              rw [hl.out, HS.out] at HLD
              clear hT t1 t2 HS
              have zA : ¬ ((c : Int) < 128) := by omega
              have g194 : (194 : Int) ≤ (c : Int) := by omega
              have g224 : (224 : Int) ≤ (c : Int) := by omega
              have g240 : ¬ ((240 : Int) ≤ (c : Int)) := by omega
              have l223 : ¬ ((c : Int) ≤ 223) := by omega
              have l239 : (c : Int) ≤ 239 := by omega
              have l244 : (c : Int) ≤ 244 := by omega
              have n224 : ((c : Int) == 224) = false := by simp; omega
              have n237 : ((c : Int) == 237) = false := by simp; omega
              have n240 : ((c : Int) == 240) = false := by simp; omega
              have n244 : ((c : Int) == 244) = false := by simp; omega
              clear hA hB
              by_cases hsh : len ≤ i + 2
              · have zs : (len : Int) ≤ (i : Int) + 2 := by omega
                have HF := Lib.hid (show validN l = false by rw [HLD.out, if_pos (.inl (by omega))])
                clear HLD
                go_wp2_with fail
                go_ret
                exact ⟨ret_bool HF.out.symm, rfl⟩
              · have zs : ¬ ((len : Int) ≤ (i : Int) + 2) := by omega
                have d1 := HCC.out (i + 1) (by omega)
                rw [show (l[i + 1]?.getD 0) = x1 from hx1] at d1
                have y1 : x1 < 256 := hx1 ▸ gN_lt HX.out (i + 1)
                have p1 : i + 1 < len := by omega
                have q1 : (i : Int) + 1 < (len : Int) := by omega
                have d2 := HCC.out (i + 2) (by omega)
                rw [show (l[i + 2]?.getD 0) = x2 from hx2] at d2
                have y2 : x2 < 256 := hx2 ▸ gN_lt HX.out (i + 2)
                have p2 : i + 2 < len := by omega
                have q2 : (i : Int) + 2 < (len : Int) := by omega
                clear hx1 hx2 hx3
                go_wp2_with fail
                go_loopw [8, 5, 6] (fun k lo hi wx => ∃ (kk : Nat), 1 ≤ kk ∧ kk ≤ 3 ∧ k = .int .i64 (kk : Int) ∧ lo = .int .i64 (if kk = 1 then 128 else 128) ∧ hi = .int .i64 (if kk = 1 then 191 else 191) ∧ InnI wr 128 191 x1 x2 x3 kk wx) (fun k _ _ _ => 3 - (intOf k).toNat)
                case atStart => exact ⟨1, Nat.le_refl _, by omega, rfl, rfl, rfl, fun h => by omega, fun h => by omega, fun h => by omega, rfl⟩
                case round =>
                  obtain ⟨kk, hk1, hk2, rfl, rfl, rfl, hri⟩ := hrel
                  have hw := hri.world
                  subst hw
                  have HI := Lib.hid hri
                  clear hri
                  obtain rfl | rfl | rfl : kk = 1 ∨ kk = 2 ∨ kk = 3 := by omega
                  · by_cases ha : x1 < 128
                    · have za : (x1 : Int) < 128 := by omega
                      have HF := Lib.hid (show validN l = false by rw [HLD.out, if_pos (by omega)])
                      clear HLD HI
                      go_wp2_with fail
                      go_ret
                      exact ⟨ret_bool HF.out.symm, rfl⟩
                    · have za : ¬ ((x1 : Int) < 128) := by omega
                      by_cases hb : 191 < x1
                      · have zb : (191 : Int) < (x1 : Int) := by omega
                        have HF := Lib.hid (show validN l = false by rw [HLD.out, if_pos (by omega)])
                        clear HLD HI
                        go_wp2_with fail
                        go_ret
                        exact ⟨ret_bool HF.out.symm, rfl⟩
                      · have zb : ¬ ((191 : Int) < (x1 : Int)) := by omega
                        have HN := Lib.hid (show InnI wr 128 191 x1 x2 x3 2 wr from ⟨fun _ => ⟨by omega, by omega⟩, fun h => by omega, fun h => by omega, rfl⟩)
                        clear HLD HI ha hb
                        go_wp2_with fail
                        go_roundw
                        case rel => exact ⟨2, by omega, by omega, rfl, rfl, rfl, HN.out⟩
                        case measure => simp [intOf]
                  · by_cases ha : x2 < 128
                    · have za : (x2 : Int) < 128 := by omega
                      have HF := Lib.hid (show validN l = false by rw [HLD.out, if_pos (by omega)])
                      clear HLD HI
                      go_wp2_with fail
                      go_ret
                      exact ⟨ret_bool HF.out.symm, rfl⟩
                    · have za : ¬ ((x2 : Int) < 128) := by omega
                      by_cases hb : 191 < x2
                      · have zb : (191 : Int) < (x2 : Int) := by omega
                        have HF := Lib.hid (show validN l = false by rw [HLD.out, if_pos (by omega)])
                        clear HLD HI
                        go_wp2_with fail
                        go_ret
                        exact ⟨ret_bool HF.out.symm, rfl⟩
                      · have zb : ¬ ((191 : Int) < (x2 : Int)) := by omega
                        have HN := Lib.hid (show InnI wr 128 191 x1 x2 x3 3 wr from ⟨fun _ => HI.out.one (by omega), fun _ => ⟨by omega, by omega⟩, fun h => by omega, rfl⟩)
                        clear HLD HI ha hb
                        go_wp2_with fail
                        go_roundw
                        case rel => exact ⟨3, by omega, by omega, rfl, rfl, rfl, HN.out⟩
                        case measure => simp [intOf]
                  · have HN := Lib.hid (show validN (l.drop (i + 3)) = validN l by
                      have f0 := HI.out.one (by omega)
                      have f1 := HI.out.two (by omega)
                      rw [HLD.out, if_neg (by omega)])
                    clear HLD HI
                    go_wp2_with fail
                    go_roundw
                    case rel => exact ⟨i + 3, by omega, by go_num, HN.out, rfl⟩
                    case measure => simp [intOf]; omega
            · by_cases hB : 237 ≤ c ∧ c ≤ 237
              · as_aux_lemma =>
                have hT : Lib.firstT c = 35 := by unfold Lib.firstT; (repeat' split); all_goals omega
                obtain ⟨t1, t2⟩ := first_hi c _ hT
                obtain ⟨x1, hx1⟩ : ∃ x, gN l (i + 1) = x := ⟨_, rfl⟩
                obtain ⟨x2, hx2⟩ : ∃ x, gN l (i + 2) = x := ⟨_, rfl⟩
                obtain ⟨x3, hx3⟩ : ∃ x, gN l (i + 3) = x := ⟨_, rfl⟩
                have HLD := Lib.hid (lead_3 l HX.out i c 128 159 x1 x2 hil HCE.out (by omega) (by rw [t1]) (by rw [t2]; rfl) (by rw [t2]; rfl) hx1 hx2)
                rw [hl.out, HS.out] at HLD
                clear hT t1 t2 HS
                obtain rfl : c = 237 := by omega
                clear hA hB
                by_cases hsh : len ≤ i + 2
                · have zs : (len : Int) ≤ (i : Int) + 2 := by omega
                  have HF := Lib.hid (show validN l = false by rw [HLD.out, if_pos (.inl (by omega))])
                  clear HLD
                  go_wp2_with fail
                  go_ret
                  exact ⟨ret_bool HF.out.symm, rfl⟩
                · have zs : ¬ ((len : Int) ≤ (i : Int) + 2) := by omega
                  have d1 := HCC.out (i + 1) (by omega)
                  rw [show (l[i + 1]?.getD 0) = x1 from hx1] at d1
                  have y1 : x1 < 256 := hx1 ▸ gN_lt HX.out (i + 1)
                  have p1 : i + 1 < len := by omega
                  have q1 : (i : Int) + 1 < (len : Int) := by omega
                  have d2 := HCC.out (i + 2) (by omega)
                  rw [show (l[i + 2]?.getD 0) = x2 from hx2] at d2
                  have y2 : x2 < 256 := hx2 ▸ gN_lt HX.out (i + 2)
                  have p2 : i + 2 < len := by omega
                  have q2 : (i : Int) + 2 < (len : Int) := by omega
                  clear hx1 hx2 hx3
                  go_wp2_with fail
                  go_loopw [8, 5, 6] (fun k lo hi wx => ∃ (kk : Nat), 1 ≤ kk ∧ kk ≤ 3 ∧ k = .int .i64 (kk : Int) ∧ lo = .int .i64 (if kk = 1 then 128 else 128) ∧ hi = .int .i64 (if kk = 1 then 159 else 191) ∧ InnI wr 128 159 x1 x2 x3 kk wx) (fun k _ _ _ => 3 - (intOf k).toNat)
                  case atStart => exact ⟨1, Nat.le_refl _, by omega, rfl, rfl, rfl, fun h => by omega, fun h => by omega, fun h => by omega, rfl⟩
                  case round =>
                    obtain ⟨kk, hk1, hk2, rfl, rfl, rfl, hri⟩ := hrel
                    have hw := hri.world
                    subst hw
                    have HI := Lib.hid hri
                    clear hri
                    obtain rfl | rfl | rfl : kk = 1 ∨ kk = 2 ∨ kk = 3 := by omega
                    · by_cases ha : x1 < 128
                      · have za : (x1 : Int) < 128 := by omega
                        have HF := Lib.hid (show validN l = false by rw [HLD.out, if_pos (by omega)])
                        clear HLD HI
                        go_wp2_with fail
                        go_ret
                        exact ⟨ret_bool HF.out.symm, rfl⟩
                      · have za : ¬ ((x1 : Int) < 128) := by omega
                        by_cases hb : 159 < x1
                        · have zb : (159 : Int) < (x1 : Int) := by omega
                          have HF := Lib.hid (show validN l = false by rw [HLD.out, if_pos (by omega)])
                          clear HLD HI
                          go_wp2_with fail
                          go_ret
                          exact ⟨ret_bool HF.out.symm, rfl⟩
                        · have zb : ¬ ((159 : Int) < (x1 : Int)) := by omega
                          have HN := Lib.hid (show InnI wr 128 159 x1 x2 x3 2 wr from ⟨fun _ => ⟨by omega, by omega⟩, fun h => by omega, fun h => by omega, rfl⟩)
                          clear HLD HI ha hb
                          go_wp2_with fail
                          go_roundw
                          case rel => exact ⟨2, by omega, by omega, rfl, rfl, rfl, HN.out⟩
                          case measure => simp [intOf]
                    · by_cases ha : x2 < 128
                      · have za : (x2 : Int) < 128 := by omega
                        have HF := Lib.hid (show validN l = false by rw [HLD.out, if_pos (by omega)])
                        clear HLD HI
                        go_wp2_with fail
                        go_ret
                        exact ⟨ret_bool HF.out.symm, rfl⟩
                      · have za : ¬ ((x2 : Int) < 128) := by omega
                        by_cases hb : 191 < x2
                        · have zb : (191 : Int) < (x2 : Int) := by omega
                          have HF := Lib.hid (show validN l = false by rw [HLD.out, if_pos (by omega)])
                          clear HLD HI
                          go_wp2_with fail
                          go_ret
                          exact ⟨ret_bool HF.out.symm, rfl⟩
                        · have zb : ¬ ((191 : Int) < (x2 : Int)) := by omega
                          have HN := Lib.hid (show InnI wr 128 159 x1 x2 x3 3 wr from ⟨fun _ => HI.out.one (by omega), fun _ => ⟨by omega, by omega⟩, fun h => by omega, rfl⟩)
                          clear HLD HI ha hb
                          go_wp2_with fail
                          go_roundw
                          case rel => exact ⟨3, by omega, by omega, rfl, rfl, rfl, HN.out⟩
                          case measure => simp [intOf]
                    · have HN := Lib.hid (show validN (l.drop (i + 3)) = validN l by
                        have f0 := HI.out.one (by omega)
                        have f1 := HI.out.two (by omega)
                        rw [HLD.out, if_neg (by omega)])
                      clear HLD HI
                      go_wp2_with fail
                      go_roundw
                      case rel => exact ⟨i + 3, by omega, by go_num, HN.out, rfl⟩
                      case measure => simp [intOf]; omega
              · by_cases hB : 238 ≤ c ∧ c ≤ 239
                · as_aux_lemma =>
                  have hT : Lib.firstT c = 3 := by unfold Lib.firstT; (repeat' split); all_goals omega
                  obtain ⟨t1, t2⟩ := first_hi c _ hT
                  obtain ⟨x1, hx1⟩ : ∃ x, gN l (i + 1) = x := ⟨_, rfl⟩
                  obtain ⟨x2, hx2⟩ : ∃ x, gN l (i + 2) = x := ⟨_, rfl⟩
                  obtain ⟨x3, hx3⟩ : ∃ x, gN l (i + 3) = x := ⟨_, rfl⟩
                  have HLD := Lib.hid (lead_3 l HX.out i c 128 191 x1 x2 hil HCE.out (by omega) (by rw [t1]) (by rw [t2]; rfl) (by rw [t2]; rfl) hx1 hx2)
                  rw [hl.out, HS.out] at HLD
                  clear hT t1 t2 HS
                  have zA : ¬ ((c : Int) < 128) := by omega
                  have g194 : (194 : Int) ≤ (c : Int) := by omega
                  have g224 : (224 : Int) ≤ (c : Int) := by omega
                  have g240 : ¬ ((240 : Int) ≤ (c : Int)) := by omega
                  have l223 : ¬ ((c : Int) ≤ 223) := by omega
                  have l239 : (c : Int) ≤ 239 := by omega
                  have l244 : (c : Int) ≤ 244 := by omega
                  have n224 : ((c : Int) == 224) = false := by simp; omega
                  have n237 : ((c : Int) == 237) = false := by simp; omega
                  have n240 : ((c : Int) == 240) = false := by simp; omega
                  have n244 : ((c : Int) == 244) = false := by simp; omega
                  clear hA hB
                  by_cases hsh : len ≤ i + 2
                  · have zs : (len : Int) ≤ (i : Int) + 2 := by omega
                    have HF := Lib.hid (show validN l = false by rw [HLD.out, if_pos (.inl (by omega))])
                    clear HLD
                    go_wp2_with fail
                    go_ret
                    exact ⟨ret_bool HF.out.symm, rfl⟩
                  · have zs : ¬ ((len : Int) ≤ (i : Int) + 2) := by omega
                    have d1 := HCC.out (i + 1) (by omega)
                    rw [show (l[i + 1]?.getD 0) = x1 from hx1] at d1
                    have y1 : x1 < 256 := hx1 ▸ gN_lt HX.out (i + 1)
                    have p1 : i + 1 < len := by omega
                    have q1 : (i : Int) + 1 < (len : Int) := by omega
                    have d2 := HCC.out (i + 2) (by omega)
                    rw [show (l[i + 2]?.getD 0) = x2 from hx2] at d2
                    have y2 : x2 < 256 := hx2 ▸ gN_lt HX.out (i + 2)
                    have p2 : i + 2 < len := by omega
                    have q2 : (i : Int) + 2 < (len : Int) := by omega
                    clear hx1 hx2 hx3
                    go_wp2_with fail
                    go_loopw [8, 5, 6] (fun k lo hi wx => ∃ (kk : Nat), 1 ≤ kk ∧ kk ≤ 3 ∧ k = .int .i64 (kk : Int) ∧ lo = .int .i64 (if kk = 1 then 128 else 128) ∧ hi = .int .i64 (if kk = 1 then 191 else 191) ∧ InnI wr 128 191 x1 x2 x3 kk wx) (fun k _ _ _ => 3 - (intOf k).toNat)
                    case atStart => exact ⟨1, Nat.le_refl _, by omega, rfl, rfl, rfl, fun h => by omega, fun h => by omega, fun h => by omega, rfl⟩
                    case round =>
                      obtain ⟨kk, hk1, hk2, rfl, rfl, rfl, hri⟩ := hrel
                      have hw := hri.world
                      subst hw
                      have HI := Lib.hid hri
                      clear hri
                      obtain rfl | rfl | rfl : kk = 1 ∨ kk = 2 ∨ kk = 3 := by omega
                      · by_cases ha : x1 < 128
                        · have za : (x1 : Int) < 128 := by omega
                          have HF := Lib.hid (show validN l = false by rw [HLD.out, if_pos (by omega)])
                          clear HLD HI
                          go_wp2_with fail
                          go_ret
                          exact ⟨ret_bool HF.out.symm, rfl⟩
                        · have za : ¬ ((x1 : Int) < 128) := by omega
                          by_cases hb : 191 < x1
                          · have zb : (191 : Int) < (x1 : Int) := by omega
                            have HF := Lib.hid (show validN l = false by rw [HLD.out, if_pos (by omega)])
                            clear HLD HI
                            go_wp2_with fail
                            go_ret
                            exact ⟨ret_bool HF.out.symm, rfl⟩
                          · have zb : ¬ ((191 : Int) < (x1 : Int)) := by omega
                            have HN := Lib.hid (show InnI wr 128 191 x1 x2 x3 2 wr from ⟨fun _ => ⟨by omega, by omega⟩, fun h => by omega, fun h => by omega, rfl⟩)
                            clear HLD HI ha hb
                            go_wp2_with fail
                            go_roundw
                            case rel => exact ⟨2, by omega, by omega, rfl, rfl, rfl, HN.out⟩
                            case measure => simp [intOf]
                      · by_cases ha : x2 < 128
                        · have za : (x2 : Int) < 128 := by omega
                          have HF := Lib.hid (show validN l = false by rw [HLD.out, if_pos (by omega)])
                          clear HLD HI
                          go_wp2_with fail
                          go_ret
                          exact ⟨ret_bool HF.out.symm, rfl⟩
                        · have za : ¬ ((x2 : Int) < 128) := by omega
                          by_cases hb : 191 < x2
                          · have zb : (191 : Int) < (x2 : Int) := by omega
                            have HF := Lib.hid (show validN l = false by rw [HLD.out, if_pos (by omega)])
                            clear HLD HI
                            go_wp2_with fail
                            go_ret
                            exact ⟨ret_bool HF.out.symm, rfl⟩
                          · have zb : ¬ ((191 : Int) < (x2 : Int)) := by omega
                            have HN := Lib.hid (show InnI wr 128 191 x1 x2 x3 3 wr from ⟨fun _ => HI.out.one (by omega), fun _ => ⟨by omega, by omega⟩, fun h => by omega, rfl⟩)
                            clear HLD HI ha hb
                            go_wp2_with fail
                            go_roundw
                            case rel => exact ⟨3, by omega, by omega, rfl, rfl, rfl, HN.out⟩
                            case measure => simp [intOf]
                      · have HN := Lib.hid (show validN (l.drop (i + 3)) = validN l by
                          have f0 := HI.out.one (by omega)
                          have f1 := HI.out.two (by omega)
                          rw [HLD.out, if_neg (by omega)])
                        clear HLD HI
                        go_wp2_with fail
                        go_roundw
                        case rel => exact ⟨i + 3, by omega, by go_num, HN.out, rfl⟩
                        case measure => simp [intOf]; omega
                · by_cases hB : 240 ≤ c ∧ c ≤ 240
                  · as_aux_lemma =>
                    have hT : Lib.firstT c = 52 := by unfold Lib.firstT; (repeat' split); all_goals omega
                    obtain ⟨t1, t2⟩ := first_hi c _ hT
                    obtain ⟨x1, hx1⟩ : ∃ x, gN l (i + 1) = x := ⟨_, rfl⟩
                    obtain ⟨x2, hx2⟩ : ∃ x, gN l (i + 2) = x := ⟨_, rfl⟩
                    obtain ⟨x3, hx3⟩ : ∃ x, gN l (i + 3) = x := ⟨_, rfl⟩
                    have HLD := Lib.hid (lead_4 l HX.out i c 144 191 x1 x2 x3 hil HCE.out (by omega) (by rw [t1]) (by rw [t2]; rfl) (by rw [t2]; rfl) hx1 hx2 hx3)
                    rw [hl.out, HS.out] at HLD
                    clear hT t1 t2 HS
                    obtain rfl : c = 240 := by omega
                    clear hA hB
                    by_cases hsh : len ≤ i + 3
                    · have zs : (len : Int) ≤ (i : Int) + 3 := by omega
                      have HF := Lib.hid (show validN l = false by rw [HLD.out, if_pos (.inl (by omega))])
                      clear HLD
                      go_wp2_with fail
                      go_ret
                      exact ⟨ret_bool HF.out.symm, rfl⟩
                    · have zs : ¬ ((len : Int) ≤ (i : Int) + 3) := by omega
                      have d1 := HCC.out (i + 1) (by omega)
                      rw [show (l[i + 1]?.getD 0) = x1 from hx1] at d1
                      have y1 : x1 < 256 := hx1 ▸ gN_lt HX.out (i + 1)
                      have p1 : i + 1 < len := by omega
                      have q1 : (i : Int) + 1 < (len : Int) := by omega
                      have d2 := HCC.out (i + 2) (by omega)
                      rw [show (l[i + 2]?.getD 0) = x2 from hx2] at d2
                      have y2 : x2 < 256 := hx2 ▸ gN_lt HX.out (i + 2)
                      have p2 : i + 2 < len := by omega
                      have q2 : (i : Int) + 2 < (len : Int) := by omega
                      have d3 := HCC.out (i + 3) (by omega)
                      rw [show (l[i + 3]?.getD 0) = x3 from hx3] at d3
                      have y3 : x3 < 256 := hx3 ▸ gN_lt HX.out (i + 3)
                      have p3 : i + 3 < len := by omega
                      have q3 : (i : Int) + 3 < (len : Int) := by omega
                      clear hx1 hx2 hx3
                      go_wp2_with fail
                      go_loopw [8, 5, 6] (fun k lo hi wx => ∃ (kk : Nat), 1 ≤ kk ∧ kk ≤ 4 ∧ k = .int .i64 (kk : Int) ∧ lo = .int .i64 (if kk = 1 then 144 else 128) ∧ hi = .int .i64 (if kk = 1 then 191 else 191) ∧ InnI wr 144 191 x1 x2 x3 kk wx) (fun k _ _ _ => 4 - (intOf k).toNat)
                      case atStart => exact ⟨1, Nat.le_refl _, by omega, rfl, rfl, rfl, fun h => by omega, fun h => by omega, fun h => by omega, rfl⟩
                      case round =>
                        obtain ⟨kk, hk1, hk2, rfl, rfl, rfl, hri⟩ := hrel
                        have hw := hri.world
                        subst hw
                        have HI := Lib.hid hri
                        clear hri
                        obtain rfl | rfl | rfl | rfl : kk = 1 ∨ kk = 2 ∨ kk = 3 ∨ kk = 4 := by omega
                        · by_cases ha : x1 < 144
                          · have za : (x1 : Int) < 144 := by omega
                            have HF := Lib.hid (show validN l = false by rw [HLD.out, if_pos (by omega)])
                            clear HLD HI
                            go_wp2_with fail
                            go_ret
                            exact ⟨ret_bool HF.out.symm, rfl⟩
                          · have za : ¬ ((x1 : Int) < 144) := by omega
                            by_cases hb : 191 < x1
                            · have zb : (191 : Int) < (x1 : Int) := by omega
                              have HF := Lib.hid (show validN l = false by rw [HLD.out, if_pos (by omega)])
                              clear HLD HI
                              go_wp2_with fail
                              go_ret
                              exact ⟨ret_bool HF.out.symm, rfl⟩
                            · have zb : ¬ ((191 : Int) < (x1 : Int)) := by omega
                              have HN := Lib.hid (show InnI wr 144 191 x1 x2 x3 2 wr from ⟨fun _ => ⟨by omega, by omega⟩, fun h => by omega, fun h => by omega, rfl⟩)
                              clear HLD HI ha hb
                              go_wp2_with fail
                              go_roundw
                              case rel => exact ⟨2, by omega, by omega, rfl, rfl, rfl, HN.out⟩
                              case measure => simp [intOf]
                        · by_cases ha : x2 < 128
                          · have za : (x2 : Int) < 128 := by omega
                            have HF := Lib.hid (show validN l = false by rw [HLD.out, if_pos (by omega)])
                            clear HLD HI
                            go_wp2_with fail
                            go_ret
                            exact ⟨ret_bool HF.out.symm, rfl⟩
                          · have za : ¬ ((x2 : Int) < 128) := by omega
                            by_cases hb : 191 < x2
                            · have zb : (191 : Int) < (x2 : Int) := by omega
                              have HF := Lib.hid (show validN l = false by rw [HLD.out, if_pos (by omega)])
                              clear HLD HI
                              go_wp2_with fail
                              go_ret
                              exact ⟨ret_bool HF.out.symm, rfl⟩
                            · have zb : ¬ ((191 : Int) < (x2 : Int)) := by omega
                              have HN := Lib.hid (show InnI wr 144 191 x1 x2 x3 3 wr from ⟨fun _ => HI.out.one (by omega), fun _ => ⟨by omega, by omega⟩, fun h => by omega, rfl⟩)
                              clear HLD HI ha hb
                              go_wp2_with fail
                              go_roundw
                              case rel => exact ⟨3, by omega, by omega, rfl, rfl, rfl, HN.out⟩
                              case measure => simp [intOf]
                        · by_cases ha : x3 < 128
                          · have za : (x3 : Int) < 128 := by omega
                            have HF := Lib.hid (show validN l = false by rw [HLD.out, if_pos (by omega)])
                            clear HLD HI
                            go_wp2_with fail
                            go_ret
                            exact ⟨ret_bool HF.out.symm, rfl⟩
                          · have za : ¬ ((x3 : Int) < 128) := by omega
                            by_cases hb : 191 < x3
                            · have zb : (191 : Int) < (x3 : Int) := by omega
                              have HF := Lib.hid (show validN l = false by rw [HLD.out, if_pos (by omega)])
                              clear HLD HI
                              go_wp2_with fail
                              go_ret
                              exact ⟨ret_bool HF.out.symm, rfl⟩
                            · have zb : ¬ ((191 : Int) < (x3 : Int)) := by omega
                              have HN := Lib.hid (show InnI wr 144 191 x1 x2 x3 4 wr from ⟨fun _ => HI.out.one (by omega), fun _ => HI.out.two (by omega), fun _ => ⟨by omega, by omega⟩, rfl⟩)
                              clear HLD HI ha hb
                              go_wp2_with fail
                              go_roundw
                              case rel => exact ⟨4, by omega, by omega, rfl, rfl, rfl, HN.out⟩
                              case measure => simp [intOf]
                        · have HN := Lib.hid (show validN (l.drop (i + 4)) = validN l by
                            have f0 := HI.out.one (by omega)
                            have f1 := HI.out.two (by omega)
                            have f2 := HI.out.three (by omega)
                            rw [HLD.out, if_neg (by omega)])
                          clear HLD HI
                          go_wp2_with fail
                          go_roundw
                          case rel => exact ⟨i + 4, by omega, by go_num, HN.out, rfl⟩
                          case measure => simp [intOf]; omega
                  · by_cases hB : 241 ≤ c ∧ c ≤ 243
                    · as_aux_lemma =>
                      have hT : Lib.firstT c = 4 := by unfold Lib.firstT; (repeat' split); all_goals omega
                      obtain ⟨t1, t2⟩ := first_hi c _ hT
                      obtain ⟨x1, hx1⟩ : ∃ x, gN l (i + 1) = x := ⟨_, rfl⟩
                      obtain ⟨x2, hx2⟩ : ∃ x, gN l (i + 2) = x := ⟨_, rfl⟩
                      obtain ⟨x3, hx3⟩ : ∃ x, gN l (i + 3) = x := ⟨_, rfl⟩
                      have HLD := Lib.hid (lead_4 l HX.out i c 128 191 x1 x2 x3 hil HCE.out (by omega) (by rw [t1]) (by rw [t2]; rfl) (by rw [t2]; rfl) hx1 hx2 hx3)
                      rw [hl.out, HS.out] at HLD
                      clear hT t1 t2 HS
                      have zA : ¬ ((c : Int) < 128) := by omega
                      have g194 : (194 : Int) ≤ (c : Int) := by omega
                      have g224 : (224 : Int) ≤ (c : Int) := by omega
                      have g240 : (240 : Int) ≤ (c : Int) := by omega
                      have l223 : ¬ ((c : Int) ≤ 223) := by omega
                      have l239 : ¬ ((c : Int) ≤ 239) := by omega
                      have l244 : (c : Int) ≤ 244 := by omega
                      have n224 : ((c : Int) == 224) = false := by simp; omega
                      have n237 : ((c : Int) == 237) = false := by simp; omega
                      have n240 : ((c : Int) == 240) = false := by simp; omega
                      have n244 : ((c : Int) == 244) = false := by simp; omega
                      clear hA hB
                      by_cases hsh : len ≤ i + 3
                      · have zs : (len : Int) ≤ (i : Int) + 3 := by omega
                        have HF := Lib.hid (show validN l = false by rw [HLD.out, if_pos (.inl (by omega))])
                        clear HLD
                        go_wp2_with fail
                        go_ret
                        exact ⟨ret_bool HF.out.symm, rfl⟩
                      · have zs : ¬ ((len : Int) ≤ (i : Int) + 3) := by omega
                        have d1 := HCC.out (i + 1) (by omega)
                        rw [show (l[i + 1]?.getD 0) = x1 from hx1] at d1
                        have y1 : x1 < 256 := hx1 ▸ gN_lt HX.out (i + 1)
                        have p1 : i + 1 < len := by omega
                        have q1 : (i : Int) + 1 < (len : Int) := by omega
                        have d2 := HCC.out (i + 2) (by omega)
                        rw [show (l[i + 2]?.getD 0) = x2 from hx2] at d2
                        have y2 : x2 < 256 := hx2 ▸ gN_lt HX.out (i + 2)
                        have p2 : i + 2 < len := by omega
                        have q2 : (i : Int) + 2 < (len : Int) := by omega
                        have d3 := HCC.out (i + 3) (by omega)
                        rw [show (l[i + 3]?.getD 0) = x3 from hx3] at d3
                        have y3 : x3 < 256 := hx3 ▸ gN_lt HX.out (i + 3)
                        have p3 : i + 3 < len := by omega
                        have q3 : (i : Int) + 3 < (len : Int) := by omega
                        clear hx1 hx2 hx3
                        go_wp2_with fail
                        go_loopw [8, 5, 6] (fun k lo hi wx => ∃ (kk : Nat), 1 ≤ kk ∧ kk ≤ 4 ∧ k = .int .i64 (kk : Int) ∧ lo = .int .i64 (if kk = 1 then 128 else 128) ∧ hi = .int .i64 (if kk = 1 then 191 else 191) ∧ InnI wr 128 191 x1 x2 x3 kk wx) (fun k _ _ _ => 4 - (intOf k).toNat)
                        case atStart => exact ⟨1, Nat.le_refl _, by omega, rfl, rfl, rfl, fun h => by omega, fun h => by omega, fun h => by omega, rfl⟩
                        case round =>
                          obtain ⟨kk, hk1, hk2, rfl, rfl, rfl, hri⟩ := hrel
                          have hw := hri.world
                          subst hw
                          have HI := Lib.hid hri
                          clear hri
                          obtain rfl | rfl | rfl | rfl : kk = 1 ∨ kk = 2 ∨ kk = 3 ∨ kk = 4 := by omega
                          · by_cases ha : x1 < 128
                            · have za : (x1 : Int) < 128 := by omega
                              have HF := Lib.hid (show validN l = false by rw [HLD.out, if_pos (by omega)])
                              clear HLD HI
                              go_wp2_with fail
                              go_ret
                              exact ⟨ret_bool HF.out.symm, rfl⟩
                            · have za : ¬ ((x1 : Int) < 128) := by omega
                              by_cases hb : 191 < x1
                              · have zb : (191 : Int) < (x1 : Int) := by omega
                                have HF := Lib.hid (show validN l = false by rw [HLD.out, if_pos (by omega)])
                                clear HLD HI
                                go_wp2_with fail
                                go_ret
                                exact ⟨ret_bool HF.out.symm, rfl⟩
                              · have zb : ¬ ((191 : Int) < (x1 : Int)) := by omega
                                have HN := Lib.hid (show InnI wr 128 191 x1 x2 x3 2 wr from ⟨fun _ => ⟨by omega, by omega⟩, fun h => by omega, fun h => by omega, rfl⟩)
                                clear HLD HI ha hb
                                go_wp2_with fail
                                go_roundw
                                case rel => exact ⟨2, by omega, by omega, rfl, rfl, rfl, HN.out⟩
                                case measure => simp [intOf]
                          · by_cases ha : x2 < 128
                            · have za : (x2 : Int) < 128 := by omega
                              have HF := Lib.hid (show validN l = false by rw [HLD.out, if_pos (by omega)])
                              clear HLD HI
                              go_wp2_with fail
                              go_ret
                              exact ⟨ret_bool HF.out.symm, rfl⟩
                            · have za : ¬ ((x2 : Int) < 128) := by omega
                              by_cases hb : 191 < x2
                              · have zb : (191 : Int) < (x2 : Int) := by omega
                                have HF := Lib.hid (show validN l = false by rw [HLD.out, if_pos (by omega)])
                                clear HLD HI
                                go_wp2_with fail
                                go_ret
                                exact ⟨ret_bool HF.out.symm, rfl⟩
                              · have zb : ¬ ((191 : Int) < (x2 : Int)) := by omega
                                have HN := Lib.hid (show InnI wr 128 191 x1 x2 x3 3 wr from ⟨fun _ => HI.out.one (by omega), fun _ => ⟨by omega, by omega⟩, fun h => by omega, rfl⟩)
                                clear HLD HI ha hb
                                go_wp2_with fail
                                go_roundw
                                case rel => exact ⟨3, by omega, by omega, rfl, rfl, rfl, HN.out⟩
                                case measure => simp [intOf]
                          · by_cases ha : x3 < 128
                            · have za : (x3 : Int) < 128 := by omega
                              have HF := Lib.hid (show validN l = false by rw [HLD.out, if_pos (by omega)])
                              clear HLD HI
                              go_wp2_with fail
                              go_ret
                              exact ⟨ret_bool HF.out.symm, rfl⟩
                            · have za : ¬ ((x3 : Int) < 128) := by omega
                              by_cases hb : 191 < x3
                              · have zb : (191 : Int) < (x3 : Int) := by omega
                                have HF := Lib.hid (show validN l = false by rw [HLD.out, if_pos (by omega)])
                                clear HLD HI
                                go_wp2_with fail
                                go_ret
                                exact ⟨ret_bool HF.out.symm, rfl⟩
                              · have zb : ¬ ((191 : Int) < (x3 : Int)) := by omega
                                have HN := Lib.hid (show InnI wr 128 191 x1 x2 x3 4 wr from ⟨fun _ => HI.out.one (by omega), fun _ => HI.out.two (by omega), fun _ => ⟨by omega, by omega⟩, rfl⟩)
                                clear HLD HI ha hb
                                go_wp2_with fail
                                go_roundw
                                case rel => exact ⟨4, by omega, by omega, rfl, rfl, rfl, HN.out⟩
                                case measure => simp [intOf]
                          · have HN := Lib.hid (show validN (l.drop (i + 4)) = validN l by
                              have f0 := HI.out.one (by omega)
                              have f1 := HI.out.two (by omega)
                              have f2 := HI.out.three (by omega)
                              rw [HLD.out, if_neg (by omega)])
                            clear HLD HI
                            go_wp2_with fail
                            go_roundw
                            case rel => exact ⟨i + 4, by omega, by go_num, HN.out, rfl⟩
                            case measure => simp [intOf]; omega
                    · by_cases hB : 244 ≤ c ∧ c ≤ 244
                      · as_aux_lemma =>
                        have hT : Lib.firstT c = 68 := by unfold Lib.firstT; (repeat' split); all_goals omega
                        obtain ⟨t1, t2⟩ := first_hi c _ hT
                        obtain ⟨x1, hx1⟩ : ∃ x, gN l (i + 1) = x := ⟨_, rfl⟩
                        obtain ⟨x2, hx2⟩ : ∃ x, gN l (i + 2) = x := ⟨_, rfl⟩
                        obtain ⟨x3, hx3⟩ : ∃ x, gN l (i + 3) = x := ⟨_, rfl⟩
                        have HLD := Lib.hid (lead_4 l HX.out i c 128 143 x1 x2 x3 hil HCE.out (by omega) (by rw [t1]) (by rw [t2]; rfl) (by rw [t2]; rfl) hx1 hx2 hx3)
                        rw [hl.out, HS.out] at HLD
                        clear hT t1 t2 HS
                        obtain rfl : c = 244 := by omega
                        clear hA hB
                        by_cases hsh : len ≤ i + 3
                        · have zs : (len : Int) ≤ (i : Int) + 3 := by omega
                          have HF := Lib.hid (show validN l = false by rw [HLD.out, if_pos (.inl (by omega))])
                          clear HLD
                          go_wp2_with fail
                          go_ret
                          exact ⟨ret_bool HF.out.symm, rfl⟩
                        · have zs : ¬ ((len : Int) ≤ (i : Int) + 3) := by omega
                          have d1 := HCC.out (i + 1) (by omega)
                          rw [show (l[i + 1]?.getD 0) = x1 from hx1] at d1
                          have y1 : x1 < 256 := hx1 ▸ gN_lt HX.out (i + 1)
                          have p1 : i + 1 < len := by omega
                          have q1 : (i : Int) + 1 < (len : Int) := by omega
                          have d2 := HCC.out (i + 2) (by omega)
                          rw [show (l[i + 2]?.getD 0) = x2 from hx2] at d2
                          have y2 : x2 < 256 := hx2 ▸ gN_lt HX.out (i + 2)
                          have p2 : i + 2 < len := by omega
                          have q2 : (i : Int) + 2 < (len : Int) := by omega
                          have d3 := HCC.out (i + 3) (by omega)
                          rw [show (l[i + 3]?.getD 0) = x3 from hx3] at d3
                          have y3 : x3 < 256 := hx3 ▸ gN_lt HX.out (i + 3)
                          have p3 : i + 3 < len := by omega
                          have q3 : (i : Int) + 3 < (len : Int) := by omega
                          clear hx1 hx2 hx3
                          go_wp2_with fail
                          go_loopw [8, 5, 6] (fun k lo hi wx => ∃ (kk : Nat), 1 ≤ kk ∧ kk ≤ 4 ∧ k = .int .i64 (kk : Int) ∧ lo = .int .i64 (if kk = 1 then 128 else 128) ∧ hi = .int .i64 (if kk = 1 then 143 else 191) ∧ InnI wr 128 143 x1 x2 x3 kk wx) (fun k _ _ _ => 4 - (intOf k).toNat)
                          case atStart => exact ⟨1, Nat.le_refl _, by omega, rfl, rfl, rfl, fun h => by omega, fun h => by omega, fun h => by omega, rfl⟩
                          case round =>
                            obtain ⟨kk, hk1, hk2, rfl, rfl, rfl, hri⟩ := hrel
                            have hw := hri.world
                            subst hw
                            have HI := Lib.hid hri
                            clear hri
                            obtain rfl | rfl | rfl | rfl : kk = 1 ∨ kk = 2 ∨ kk = 3 ∨ kk = 4 := by omega
                            · by_cases ha : x1 < 128
                              · have za : (x1 : Int) < 128 := by omega
                                have HF := Lib.hid (show validN l = false by rw [HLD.out, if_pos (by omega)])
                                clear HLD HI
                                go_wp2_with fail
                                go_ret
                                exact ⟨ret_bool HF.out.symm, rfl⟩
                              · have za : ¬ ((x1 : Int) < 128) := by omega
                                by_cases hb : 143 < x1
                                · have zb : (143 : Int) < (x1 : Int) := by omega
                                  have HF := Lib.hid (show validN l = false by rw [HLD.out, if_pos (by omega)])
                                  clear HLD HI
                                  go_wp2_with fail
                                  go_ret
                                  exact ⟨ret_bool HF.out.symm, rfl⟩
                                · have zb : ¬ ((143 : Int) < (x1 : Int)) := by omega
                                  have HN := Lib.hid (show InnI wr 128 143 x1 x2 x3 2 wr from ⟨fun _ => ⟨by omega, by omega⟩, fun h => by omega, fun h => by omega, rfl⟩)
                                  clear HLD HI ha hb
                                  go_wp2_with fail
                                  go_roundw
                                  case rel => exact ⟨2, by omega, by omega, rfl, rfl, rfl, HN.out⟩
                                  case measure => simp [intOf]
                            · by_cases ha : x2 < 128
                              · have za : (x2 : Int) < 128 := by omega
                                have HF := Lib.hid (show validN l = false by rw [HLD.out, if_pos (by omega)])
                                clear HLD HI
                                go_wp2_with fail
                                go_ret
                                exact ⟨ret_bool HF.out.symm, rfl⟩
                              · have za : ¬ ((x2 : Int) < 128) := by omega
                                by_cases hb : 191 < x2
                                · have zb : (191 : Int) < (x2 : Int) := by omega
                                  have HF := Lib.hid (show validN l = false by rw [HLD.out, if_pos (by omega)])
                                  clear HLD HI
                                  go_wp2_with fail
                                  go_ret
                                  exact ⟨ret_bool HF.out.symm, rfl⟩
                                · have zb : ¬ ((191 : Int) < (x2 : Int)) := by omega
                                  have HN := Lib.hid (show InnI wr 128 143 x1 x2 x3 3 wr from ⟨fun _ => HI.out.one (by omega), fun _ => ⟨by omega, by omega⟩, fun h => by omega, rfl⟩)
                                  clear HLD HI ha hb
                                  go_wp2_with fail
                                  go_roundw
                                  case rel => exact ⟨3, by omega, by omega, rfl, rfl, rfl, HN.out⟩
                                  case measure => simp [intOf]
                            · by_cases ha : x3 < 128
                              · have za : (x3 : Int) < 128 := by omega
                                have HF := Lib.hid (show validN l = false by rw [HLD.out, if_pos (by omega)])
                                clear HLD HI
                                go_wp2_with fail
                                go_ret
                                exact ⟨ret_bool HF.out.symm, rfl⟩
                              · have za : ¬ ((x3 : Int) < 128) := by omega
                                by_cases hb : 191 < x3
                                · have zb : (191 : Int) < (x3 : Int) := by omega
                                  have HF := Lib.hid (show validN l = false by rw [HLD.out, if_pos (by omega)])
                                  clear HLD HI
                                  go_wp2_with fail
                                  go_ret
                                  exact ⟨ret_bool HF.out.symm, rfl⟩
                                · have zb : ¬ ((191 : Int) < (x3 : Int)) := by omega
                                  have HN := Lib.hid (show InnI wr 128 143 x1 x2 x3 4 wr from ⟨fun _ => HI.out.one (by omega), fun _ => HI.out.two (by omega), fun _ => ⟨by omega, by omega⟩, rfl⟩)
                                  clear HLD HI ha hb
                                  go_wp2_with fail
                                  go_roundw
                                  case rel => exact ⟨4, by omega, by omega, rfl, rfl, rfl, HN.out⟩
                                  case measure => simp [intOf]
                            · have HN := Lib.hid (show validN (l.drop (i + 4)) = validN l by
                                have f0 := HI.out.one (by omega)
                                have f1 := HI.out.two (by omega)
                                have f2 := HI.out.three (by omega)
                                rw [HLD.out, if_neg (by omega)])
                              clear HLD HI
                              go_wp2_with fail
                              go_roundw
                              case rel => exact ⟨i + 4, by omega, by go_num, HN.out, rfl⟩
                              case measure => simp [intOf]; omega
                      · have hno : c < 194 ∨ 244 < c := by omega
                        have hT : Lib.firstT c = 241 := by unfold Lib.firstT; (repeat' split); all_goals omega
                        have HF := Lib.hid (show validN l = false by rw [← HS.out]; exact lead_no l HX.out i c hil HCE.out (by omega) hT)
                        have zA : ¬ ((c : Int) < 128) := by omega
                        clear hT HS
                        rcases hno with hno | hno
                        · have g194 : ¬ ((194 : Int) ≤ (c : Int)) := by omega
                          have g224 : ¬ ((224 : Int) ≤ (c : Int)) := by omega
                          have g240 : ¬ ((240 : Int) ≤ (c : Int)) := by omega
                          go_wp2_with fail
                          go_ret
                          exact ⟨ret_bool HF.out.symm, rfl⟩
                        · have g194 : (194 : Int) ≤ (c : Int) := by omega
                          have g224 : (224 : Int) ≤ (c : Int) := by omega
                          have g240 : (240 : Int) ≤ (c : Int) := by omega
                          have l223 : ¬ ((c : Int) ≤ 223) := by omega
                          have l239 : ¬ ((c : Int) ≤ 239) := by omega
                          have l244 : ¬ ((c : Int) ≤ 244) := by omega
                          go_wp2_with fail
                          go_ret
                          exact ⟨ret_bool HF.out.symm, rfl⟩
    · obtain rfl : i = len := by omega
      have HF := Lib.hid (show validN l = true by rw [← HS.out, List.drop_of_length_le (by rw [hl.out]; exact Nat.le_refl _)]; rfl)
      clear hlt HS
      go_wp2_with fail
      go_ret
      exact ⟨ret_bool HF.out.symm, rfl⟩


structure Eac19I (w : World) (l : List Nat) (k : Nat) (wr : World) : Prop where
  same : (l.drop k).all printB = l.all printB
  world : wr = w

set_option maxHeartbeats 2000000 in
set_option maxRecDepth 100000 in
theorem reach19_any (a : Option Addr) (len cap : Nat) (l : List Nat) (w : World) (h : Reads .u8 w a len cap l) (hx : ∀ x ∈ l, x < 256) :
    Calls Tryd.prog 90 #[.int .i64 19, .slice a len cap] w fun e w' => e = .returned (.bool (l.all printB)) ∧ w' = w := by
  have hm := h.len_le
  unfold maxLen at hm
  have hl := Lib.hid h.length
  have HC := Lib.hid h.cells
  have HX := Lib.hid hx
  clear h hx
  go_enter Tryd.func90, Tryd.ntmps90
  go_wp2_with fail
  go_loopw [5] (fun i wr => ∃ (k : Nat), k ≤ len ∧ i = .int .i64 (k : Int) ∧ Eac19I w l k wr) (fun i _ => len - (intOf i).toNat)
  case atStart => exact ⟨0, Nat.zero_le _, rfl, rfl, rfl⟩
  case round =>
    obtain ⟨k, hk, rfl, hr⟩ := hrel
    have hw := hr.world
    subst hw
    have HS := Lib.hid hr.same
    clear hr
    by_cases hlt : k < len
    · obtain ⟨g, off, rfl, hg, hc⟩ := HC.out (by omega)
      have ck := hc k hlt
      have hkl : k < l.length := by rw [hl.out]; exact hlt
      obtain ⟨x, hxe⟩ : ∃ x, l[k] = x := ⟨_, rfl⟩
      have e0 : (l[k]?.getD 0) = x := by rw [List.getElem?_eq_getElem hkl, ← hxe]; rfl
      rw [e0] at ck
      have HD := Lib.hid (show (l.drop k).all printB = (printB x && (l.drop (k + 1)).all printB) by rw [List.drop_eq_getElem_cons hkl, hxe, List.all_cons])
      have h256 : x < 256 := by rw [← hxe]; exact HX.out _ (List.getElem_mem _)
      have HP := Lib.hid (rprint_any x h256 wr)
      clear hc e0 hxe
      go_wp2_with fail
      refine HP.out.mono ?_
      rintro e w' ⟨rfl, hw'⟩
      obtain rfl := hw'
      clear HP
      cases hp : printB x with
      | false =>
        have HF := Lib.hid (show l.all printB = false by rw [← HS.out, HD.out, hp, Bool.false_and])
        clear hp HD HS
        go_wp2_with fail
        go_ret
        exact ⟨ret_bool HF.out.symm, rfl⟩
      | true =>
        have HN := Lib.hid (show (l.drop (k + 1)).all printB = l.all printB by rw [← HS.out, HD.out, hp, Bool.true_and])
        clear hp HD HS
        go_wp2_with fail
        go_roundw
        case rel => exact ⟨k + 1, by omega, by go_num, HN.out, rfl⟩
        case measure => simp [intOf]; omega
    · obtain rfl : k = len := by omega
      have HF := Lib.hid (show l.all printB = true by rw [← HS.out, List.drop_of_length_le (by rw [hl.out]; exact Nat.le_refl _)]; rfl)
      clear hlt HS
      go_wp2_with fail
      go_ret
      exact ⟨ret_bool HF.out.symm, rfl⟩

structure Eac22I (w : World) (l : List Nat) (k : Nat) (wr : World) : Prop where
  same : (l.drop k).all (fun x => decide (x < 128)) = l.all (fun x => decide (x < 128))
  world : wr = w

set_option maxHeartbeats 2000000 in
set_option maxRecDepth 100000 in
theorem reach22_any (a : Option Addr) (len cap : Nat) (l : List Nat) (w : World) (h : Reads .u8 w a len cap l) (hx : ∀ x ∈ l, x < 256) :
    Calls Tryd.prog 90 #[.int .i64 22, .slice a len cap] w fun e w' => e = .returned (.bool (l.all (fun x => decide (x < 128)))) ∧ w' = w := by
  have hm := h.len_le
  unfold maxLen at hm
  have hl := Lib.hid h.length
  have HC := Lib.hid h.cells
  have HX := Lib.hid hx
  clear h hx
  go_enter Tryd.func90, Tryd.ntmps90
  go_wp2_with fail
  go_loopw [5] (fun i wr => ∃ (k : Nat), k ≤ len ∧ i = .int .i64 (k : Int) ∧ Eac22I w l k wr) (fun i _ => len - (intOf i).toNat)
  case atStart => exact ⟨0, Nat.zero_le _, rfl, rfl, rfl⟩
  case round =>
    obtain ⟨k, hk, rfl, hr⟩ := hrel
    have hw := hr.world
    subst hw
    have HS := Lib.hid hr.same
    clear hr
    by_cases hlt : k < len
    · obtain ⟨g, off, rfl, hg, hc⟩ := HC.out (by omega)
      have ck := hc k hlt
      have hkl : k < l.length := by rw [hl.out]; exact hlt
      obtain ⟨x, hxe⟩ : ∃ x, l[k] = x := ⟨_, rfl⟩
      have e0 : (l[k]?.getD 0) = x := by rw [List.getElem?_eq_getElem hkl, ← hxe]; rfl
      rw [e0] at ck
      have HD := Lib.hid (show (l.drop k).all (fun x => decide (x < 128)) = ((fun x => decide (x < 128)) x && (l.drop (k + 1)).all (fun x => decide (x < 128))) by rw [List.drop_eq_getElem_cons hkl, hxe, List.all_cons])
      have h256 : x < 256 := by rw [← hxe]; exact HX.out _ (List.getElem_mem _)
      have HP := Lib.hid (rprint_any x h256 wr)
      clear hc e0 hxe
      go_wp2_with fail
      refine HP.out.mono ?_
      rintro e w' ⟨rfl, hw'⟩
      obtain rfl := hw'
      clear HP
      generalize printB x = pb
      by_cases hq : x < 128
      · have zq : ¬ ((128 : Int) ≤ (x : Int)) := by omega
        have HN := Lib.hid (show (l.drop (k + 1)).all (fun x => decide (x < 128)) = l.all (fun x => decide (x < 128)) by rw [← HS.out, HD.out, decide_eq_true hq, Bool.true_and])
        clear hq HD HS
        go_wp2_with fail
        go_roundw
        case rel => exact ⟨k + 1, by omega, by go_num, HN.out, rfl⟩
        case measure => simp [intOf]; omega
      · have zq : (128 : Int) ≤ (x : Int) := by omega
        have HF := Lib.hid (show l.all (fun x => decide (x < 128)) = false by rw [← HS.out, HD.out, decide_eq_false hq, Bool.false_and])
        clear hq HD HS
        go_wp2_with fail
        go_ret
        exact ⟨ret_bool HF.out.symm, rfl⟩
    · obtain rfl : k = len := by omega
      have HF := Lib.hid (show l.all (fun x => decide (x < 128)) = true by rw [← HS.out, List.drop_of_length_le (by rw [hl.out]; exact Nat.le_refl _)]; rfl)
      clear hlt HS
      go_wp2_with fail
      go_ret
      exact ⟨ret_bool HF.out.symm, rfl⟩


end Go.Proofs.YtkmphiakciihfaaDoor
