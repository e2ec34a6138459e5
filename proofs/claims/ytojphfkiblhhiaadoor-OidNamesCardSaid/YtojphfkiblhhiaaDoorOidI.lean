/-
  OID: THE REFERENCE's digits.
-/
import Derived.Test.YtojphfkiblhhiaaDoorOidH
namespace Go.Proofs.YtojphfkiblhhiaaDoor
open Go.RowKit
set_option maxRecDepth 100000

set_option maxHeartbeats 1000000 in
theorem digits_any (n : Nat) (hn : n < 18446744073709551616) (w : World) :
    Calls Tryd.prog 28 #[.int .u64 (n : Int)] w fun e w' => e = .returned (.string ⟨(Lib.decDigits n).toArray⟩) ∧ Below w.heap.size w w' := by
  go_enter Tryd.func28, Tryd.ntmps28
  go_wp2_with fail
  go_loopw [0, 3, 4] (fun nv sv iv wr => ∃ (i m : Nat) (A : List UInt8), iv = .int .i64 (i : Int) ∧ i ≤ 20 ∧ nv = .int .u64 (m : Int) ∧ m < 18446744073709551616 ∧ Hid (m < 10 ^ (20 - i)) ∧ sv = .string ⟨A.toArray⟩ ∧ A.length = i ∧ Hid ((m = 0 ∧ 1 ≤ i ∧ A = Lib.decDigits n) ∨ ((0 < m ∨ i = 0) ∧ Lib.decDigits n = Lib.decDigits m ++ A)) ∧ Hid (Below w.heap.size w wr)) (fun _ _ iv _ => 21 - (intOf iv).toNat)
  case atStart => exact ⟨0, n, [], rfl, by omega, rfl, hn, Lib.hid (Nat.lt_of_lt_of_le hn (by decide)), rfl, rfl, Lib.hid (.inr ⟨.inr rfl, by rw [List.append_nil]⟩), Lib.hid (Below.refl _ _)⟩
  case round =>
    obtain ⟨i, m, A, rfl, hi, rfl, hm, HM, rfl, hAl, HA, HB⟩ := hrel
    by_cases hgo : i < 20 ∧ (i = 0 ∨ 0 < m)
    · obtain ⟨hlt, hor⟩ := hgo
      obtain ⟨q, hq⟩ : ∃ q, m % 10 = q := ⟨_, rfl⟩
      obtain ⟨d, hd⟩ : ∃ d, m / 10 = d := ⟨_, rfl⟩
      have e1 : Int.tmod (m : Int) 10 = (q : Int) := by rw [Int.tmod_eq_emod_of_nonneg (by omega)]; omega
      have e2 : (m : Int) / 10 = (d : Int) := by omega
      have hq9 : q < 10 := by omega
      have hd6 : d < 18446744073709551616 := by omega
      have HD := Lib.hid (show d < 10 ^ (20 - (i + 1)) by
        have h1 := HM.out
        rw [show 20 - i = (20 - (i + 1)) + 1 by omega, Nat.pow_succ] at h1
        omega)
      have HX := Lib.hid (show (d = 0 ∧ 1 ≤ i + 1 ∧ UInt8.ofNat (48 + q) :: A = Lib.decDigits n) ∨ ((0 < d ∨ i + 1 = 0) ∧ Lib.decDigits n = Lib.decDigits d ++ UInt8.ofNat (48 + q) :: A) from by
        have h1 : Lib.decDigits n = Lib.decDigits m ++ A := by
          rcases HA.out with ⟨h1, h2, h3⟩ | ⟨_, h⟩
          · omega
          · exact h
        by_cases h10 : m < 10
        · rw [dec_short m h10] at h1
          exact .inl ⟨by omega, by omega, by rw [h1, show q = m by omega]; rfl⟩
        · rw [dec_step m (by omega), hd, hq, List.append_assoc] at h1
          exact .inr ⟨.inl (by omega), h1⟩)
      have hcv := convB (Bts.one wr 5 (48 + (q : Int)) (UInt8.ofNat (48 + q)) (by rw [UInt8.toNat_ofNat']; omega))
      have HB2 := Lib.hid (HB.out.alloc HB.out.size (.cells #[.int .u8 (48 + (q : Int))] 5))
      have hone : ([UInt8.ofNat (48 + q)] : List UInt8).length = 1 := rfl
      have f1 : decide ((i : Int) < 20) = true := by simp; omega
      have HOR := Lib.hid hor
      have hsj : (⟨#[48 + UInt8.ofNat q]⟩ : ByteArray) ++ ⟨A.toArray⟩ = ⟨(UInt8.ofNat (48 + q) :: A).toArray⟩ := by
        have := str_add [UInt8.ofNat (48 + q)] A
        rw [UInt8.ofNat_add] at this ⊢
        exact this
      have HS := Lib.hid hsj
      clear hq hd hor hsj
      rcases (show i = 0 ∨ (i ≠ 0 ∧ 0 < m) from by have := HOR.out; omega) with h0 | ⟨h0, h1⟩
      · have f2 : ((i : Int) == 0) = true := by simp; omega
        have H0 := Lib.hid h0
        clear h0
        go_wp2_with fail
        exact ⟨⟨i + 1, d, UInt8.ofNat (48 + q) :: A, by go_num, by omega, rfl, hd6, HD, by rw [← HS.out], by rw [List.length_cons, hAl], HX, HB2⟩, by simp [intOf]; omega⟩
      · have f2 : ((i : Int) == 0) = false := by simp; omega
        have f3 : decide ((0 : Int) < (m : Int)) = true := by simp; omega
        go_wp2_with fail
        exact ⟨⟨i + 1, d, UInt8.ofNat (48 + q) :: A, by go_num, by omega, rfl, hd6, HD, by rw [← HS.out], by rw [List.length_cons, hAl], HX, HB2⟩, by simp [intOf]; omega⟩
    · have hA := Lib.hid (show A = Lib.decDigits n from by
        rcases HA.out with ⟨_, _, h3⟩ | ⟨h, h3⟩
        · exact h3
        · exfalso
          have h2 := HM.out
          have : i = 20 := by omega
          rw [this] at h2
          simp at h2
          omega)
      rcases (show ¬ i < 20 ∨ (i < 20 ∧ i ≠ 0 ∧ m = 0) from by omega) with h0 | ⟨h0, h1, h2⟩
      · have f1 : decide ((i : Int) < 20) = false := by simp; omega
        clear hgo
        go_wp2
        go_ret
        exact ⟨by rw [hA.out]; rfl, HB.out⟩
      · have f1 : decide ((i : Int) < 20) = true := by simp; omega
        have f2 : ((i : Int) == 0) = false := by simp; omega
        have f3 : decide ((0 : Int) < (m : Int)) = false := by simp; omega
        clear hgo
        go_wp2
        go_ret
        exact ⟨by rw [hA.out]; rfl, HB.out⟩
end Go.Proofs.YtojphfkiblhhiaaDoor
