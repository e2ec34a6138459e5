/-
  OID: THE REFERENCE's Text.
-/
import Derived.Test.YtojphfkiblhhiaaDoorOidI
namespace Go.Proofs.YtojphfkiblhhiaaDoor
open Go.RowKit
set_option maxRecDepth 100000

theorem join_snoc (x : List UInt8) (r : List (List UInt8)) (y : List UInt8) : Lib.join ((x :: r) ++ [y]) [46] = Lib.join (x :: r) [46] ++ 46 :: y := by
  rw [List.cons_append, Lib.join_cons, Lib.join_cons]
  simp [Lib.joinTail]

set_option maxHeartbeats 1000000 in
theorem reftext_any (a : Option Addr) (len cap : Nat) (l : List Nat) (w : World) (h : Reads .u64 w a len cap l) :
    Calls Tryd.prog 9 #[.slice a len cap] w fun e w' => e = .returned (.tuple #[.string ⟨(textR l).1.toArray⟩, .int .i64 (textR l).2]) ∧ Below w.heap.size w w' := by
  have H := Lib.hid h
  by_cases hok : OidOk l
  rotate_left
  · have hr := Lib.hid (show textR l = ([], 140) from if_neg hok)
    have hc := Lib.hid (show decide (OidOk l) = false from decide_eq_false hok)
    clear h hok
    go_enter Tryd.func9, Tryd.ntmps9
    go_wp2_with fail
    refine (may_any a len cap l _ H.out).mono ?_
    rintro e w1 ⟨rfl, hb⟩
    rw [hc.out]
    have HB := Lib.hid hb
    clear hb
    go_wp2
    go_ret2
    exact ⟨by rw [hr.out]; rfl, HB.out⟩
  have hr := Lib.hid (show textR l = (textO l, 0) from if_pos hok)
  have hck := Lib.hid (show decide (OidOk l) = true from decide_eq_true hok)
  have hl := h.length
  have hm := h.len_le
  unfold maxLen at hm
  have hcm := h.max
  unfold maxLen at hcm
  have hle := h.le
  obtain ⟨k1, k2, k3, k4, k5, h6⟩ := hok
  have hlen2 : 2 ≤ len := by omega
  have hlen20 : len ≤ 20 := by omega
  obtain ⟨b, off, rfl, hbl, hc⟩ := h.cells (by omega)
  have HL := Lib.hid hl
  have HK3 := Lib.hid k3
  have HC := Lib.hid hc
  clear h hc k1 k2 k3 k4 k5 h6 hl
  go_enter Tryd.func9, Tryd.ntmps9
  go_wp2_with fail
  refine (may_any _ len cap l _ H.out).mono ?_
  rintro e w1 ⟨rfl, hb⟩
  rw [hck.out]
  have H1 := Lib.hid hb
  clear hb
  go_wp2_with fail
  go_loopw [5, 6] (fun sv iv wr => ∃ (i : Nat) (A : List UInt8), iv = .int .i64 (i : Int) ∧ i ≤ len ∧ sv = .string ⟨A.toArray⟩ ∧ A.length ≤ 21 * i ∧ Hid (A = Lib.join ((l.take i).map Lib.decDigits) [46]) ∧ Hid (Below w.heap.size w wr)) (fun _ iv _ => len + 1 - (intOf iv).toNat)
  case atStart => exact ⟨0, [], rfl, by omega, rfl, by simp, Lib.hid rfl, H1⟩
  case round =>
    obtain ⟨i, A, rfl, hi, rfl, hAl, HA, HB⟩ := hrel
    by_cases hlt : i < len
    · obtain ⟨x, hx⟩ : ∃ x, l.getD i 0 = x := ⟨_, rfl⟩
      have ci : wr.cell? ⟨b, off + i, none⟩ = some (.int .u64 (x : Int)) := by
        rw [← hx]
        exact (HB.out.cell (p := ⟨b, off + i, none⟩) hbl).trans (HC.out i hlt)
      have hget := (show l[i]? = some x from by
        rw [List.getD_eq_getElem?_getD] at hx
        rw [List.getElem?_eq_getElem (by have := HL.out; omega)] at hx ⊢
        simpa using hx)
      have hx8 : x < 9223372036854775808 := HK3.out x (List.mem_of_getElem? hget)
      have HX := Lib.hid (show (l.take (i + 1)).map Lib.decDigits = (l.take i).map Lib.decDigits ++ [Lib.decDigits x] by
        rw [List.take_add_one, hget]; simp)
      clear hget hx
      rcases (show i = 0 ∨ 0 < i by omega) with h0 | h0
      · have f2 : decide ((0 : Int) < (i : Int)) = false := by simp; omega
        have f3 : decide (0 < i) = false := by simp; omega
        have HN := Lib.hid (show A ++ Lib.decDigits x = Lib.join ((l.take (i + 1)).map Lib.decDigits) [46] by
          rw [HX.out, HA.out, h0]
          exact (Lib.join_one _ _).symm)
        clear h0
        go_wp2_with fail
        refine (digits_any x (by omega) wr).mono ?_
        rintro e w4 ⟨rfl, hb4⟩
        have HB4 := Lib.hid (HB.out.trans (hb4.mono HB.out.size))
        have HS := Lib.hid (str_add A (Lib.decDigits x))
        clear hb4
        have hDl := dec_lenO x (by omega)
        generalize Lib.decDigits x = D at *
        go_wp2_with fail
        exact ⟨⟨i + 1, A ++ D, by go_num, by omega, by rw [← HS.out], by simp; omega, HN, HB4⟩, by simp [intOf]; omega⟩
      · have f2 : decide ((0 : Int) < (i : Int)) = true := by simp; omega
        have f3 : decide (0 < i) = true := by simp; omega
        have HN := Lib.hid (show (A ++ [46]) ++ Lib.decDigits x = Lib.join ((l.take (i + 1)).map Lib.decDigits) [46] by
          rw [HX.out, HA.out]
          obtain ⟨y, r, hyr⟩ : ∃ y r, (l.take i).map Lib.decDigits = y :: r := by
            cases h9 : (l.take i).map Lib.decDigits with
            | nil =>
              have h8 := congrArg List.length h9
              rw [List.length_map, List.length_take, List.length_nil] at h8
              have := HL.out
              omega
            | cons y r => exact ⟨y, r, rfl⟩
          rw [hyr, join_snoc, List.append_assoc]
          rfl)
        go_wp2_with fail
        refine (digits_any x (by omega) wr).mono ?_
        rintro e w4 ⟨rfl, hb4⟩
        have HB4 := Lib.hid (HB.out.trans (hb4.mono HB.out.size))
        have HS := Lib.hid (show (⟨A.toArray⟩ : ByteArray) ++ ⟨#[46]⟩ ++ ⟨(Lib.decDigits x).toArray⟩ = ⟨((A ++ [46]) ++ Lib.decDigits x).toArray⟩ from by
          rw [← str_add, ← str_add])
        clear hb4
        have hDl := dec_lenO x (by omega)
        generalize Lib.decDigits x = D at *
        go_wp2_with fail
        exact ⟨⟨i + 1, (A ++ [46]) ++ D, by go_num, by omega, by rw [← HS.out], by simp; omega, HN, HB4⟩, by simp [intOf]; omega⟩
    · have hA := Lib.hid (show A = textO l from by
        rw [HA.out, List.take_of_length_le (by have := HL.out; omega)]
        rfl)
      go_wp2
      go_ret2
      exact ⟨by rw [hr.out, ← hA.out]; rfl, HB.out⟩
end Go.Proofs.YtojphfkiblhhiaaDoor
