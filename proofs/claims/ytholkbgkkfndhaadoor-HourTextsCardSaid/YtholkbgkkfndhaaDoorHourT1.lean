/-
  HOUR: THE REFERENCE's digits AND General.
-/
import Derived.Test.YtholkbgkkfndhaaDoorLib
import Derived.Test.YtholkbgkkfndhaaDoorHourK
import Derived.Test.YtholkbgkkfndhaaDoorHour6
namespace Go.Proofs.YtholkbgkkfndhaaDoor
open Go.RowKit
set_option maxRecDepth 100000

theorem convH {w : World} {a : Option Addr} {len cap : Nat} {l : List UInt8} (h : Bts w a len cap l) :
    (convert 75 9 (.slice a len cap)).run Tryd.prog w = .ok (.string ⟨l.toArray⟩) w :=
  h.convert (P := Tryd.prog) _ _ _ Tryd.underlying75 Tryd.underlying5 Tryd.underlying9

theorem pd_front : ∀ (k n : Nat), pdN (k + 1) n = UInt8.ofNat (48 + n / 10 ^ k % 10) :: pdN k n
  | 0, n => by simp [pdN]
  | k + 1, n => by
    rw [pdN, pd_front k (n / 10), pdN, Nat.div_div_eq_div_mul, ← Nat.pow_succ']
    rfl

set_option maxHeartbeats 1000000 in
theorem refdigits_any (n k : Nat) (hn : n < 1000000) (hk : k ≤ 10) (w : World) :
    Calls Tryd.prog 27 #[.int .i64 (n : Int), .int .i64 (k : Int)] w fun e w' => ∃ A : List UInt8, e = .returned (.string ⟨A.toArray⟩) ∧ Hid (A = pdN k n) ∧ A.length = k ∧ Below w.heap.size w w' := by
  go_enter Tryd.func27, Tryd.ntmps27
  go_wp2_with fail
  go_loopw [0, 5, 6] (fun nv sv iv wr => ∃ (i m : Nat) (A : List UInt8), iv = .int .i64 (i : Int) ∧ i ≤ k ∧ nv = .int .i64 (m : Int) ∧ m < 1000000 ∧ Hid (m = n / 10 ^ i) ∧ sv = .string ⟨A.toArray⟩ ∧ Hid (A = pdN i n) ∧ A.length = i ∧ Hid (Below w.heap.size w wr)) (fun _ _ iv _ => k + 1 - (intOf iv).toNat)
  case atStart => exact ⟨0, n, [], rfl, by omega, rfl, hn, Lib.hid (by simp), rfl, Lib.hid rfl, rfl, Lib.hid (Below.refl _ _)⟩
  case round =>
    obtain ⟨i, m, A, rfl, hi, rfl, hm, HM, rfl, HA, hl, HB⟩ := hrel
    by_cases hlt : i < k
    · obtain ⟨q, hq⟩ : ∃ q, m % 10 = q := ⟨_, rfl⟩
      obtain ⟨d, hd⟩ : ∃ d, m / 10 = d := ⟨_, rfl⟩
      have e1 : Int.tmod (m : Int) 10 = (q : Int) := by rw [Int.tmod_eq_emod_of_nonneg (by omega)]; omega
      have e2 : (m : Int) / 10 = (d : Int) := by omega
      have hq9 : q < 10 := by omega
      have hd6 : d < 1000000 := by omega
      have HD := Lib.hid (show d = n / 10 ^ (i + 1) by rw [← hd, HM.out, Nat.div_div_eq_div_mul, ← Nat.pow_succ])
      have HX := Lib.hid (show UInt8.ofNat (48 + q) :: A = pdN (i + 1) n by rw [pd_front, HA.out, ← hq, HM.out])
      have hcv := convH (Bts.one wr 5 (48 + (q : Int)) (UInt8.ofNat (48 + q)) (by rw [UInt8.toNat_ofNat']; omega))
      have HB2 := Lib.hid (HB.out.alloc HB.out.size (.cells #[.int .u8 (48 + (q : Int))] 5))
      have hone : ([UInt8.ofNat (48 + q)] : List UInt8).length = 1 := rfl
      clear hq hd
      have hsj : (⟨#[48 + UInt8.ofNat q]⟩ : ByteArray) ++ ⟨A.toArray⟩ = ⟨(UInt8.ofNat (48 + q) :: A).toArray⟩ := by
        have := str_add [UInt8.ofNat (48 + q)] A
        rw [UInt8.ofNat_add] at this ⊢
        exact this
      have HS := Lib.hid hsj
      clear hsj
      go_wp2_with fail
      exact ⟨⟨i + 1, d, UInt8.ofNat (48 + q) :: A, by go_num, by omega, rfl, hd6, HD, by rw [← HS.out], HX, by rw [List.length_cons, hl], HB2⟩, by simp [intOf]; omega⟩
    · have hie : i = k := by omega
      subst hie
      go_wp2
      go_ret
      exact ⟨A, rfl, HA, hl, HB.out⟩

end Go.Proofs.YtholkbgkkfndhaaDoor
