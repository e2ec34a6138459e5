/-
  HOUR: THE TABLE THAT strconv.Itoa READS, AND digits.
-/
import Derived.Test.YtholkbgkkfndhaaDoorHour8
import Derived.Test.YtholkbgkkfndhaaDoorShelf
import Derived.Lib.LaidTab
namespace Go.Proofs.YtholkbgkkfndhaaDoor
open Go.RowKit

/-- What strconv's table holds. -/
def Tab (w : World) : Prop := Lib.TabIs Tryd.prog w "internal/strconv.uint64pow10" .u64 Lib.pow10Tab
theorem tab_name : Tryd.prog.globalNamed "internal/strconv.uint64pow10" = some 0 := by kernel_rfl
theorem Tab.lt {w : World} (h : Tab w) : 0 < w.heap.size := by
  unfold Tab Lib.TabIs World.var? at h
  rw [tab_name] at h
  simp only [Option.bind_some] at h
  split at h
  · rename_i hh
    exact (Array.getElem?_eq_some_iff.1 hh).1
  · cases h
theorem Tab.below {w w' : World} (h : Tab w) (hb : Below w.heap.size w w') : Tab w' := by
  have hl := h.lt
  unfold Tab Lib.TabIs World.var? at h ⊢
  rw [tab_name] at h ⊢
  simp only [Option.bind_some] at h ⊢
  rw [hb.block _ hl]
  exact h

theorem str_add (a b : List UInt8) : (⟨a.toArray⟩ : ByteArray) ++ ⟨b.toArray⟩ = ⟨(a ++ b).toArray⟩ := by
  apply ByteArray.ext
  simp

theorem below_grow (w : World) (k : Nat) (os : Array Obj) : Below w.heap.size w (Go.Sort.grow (w.drewN k) os) := by
  refine ⟨rfl, rfl, rfl, ?_, fun b hb => ?_⟩
  · show w.heap.size ≤ (w.heap ++ os).size
    simp
  · show (w.heap ++ os)[b]? = w.heap[b]?
    rw [Array.getElem?_append_left hb]

theorem digits_any (k n : Nat) (hn : n < 10 ^ (k + 1)) (hk : k < 10) (w : World) (ht : Tab w) :
    Calls Tryd.prog 24 #[.int .i64 (n : Int), .int .i64 ((k + 1 : Nat) : Int)] w fun e w' => e = .returned (.string ⟨(pdN (k + 1) n).toArray⟩) ∧ Below w.heap.size w w' := by
  have hlen := dec_len hn
  have hp := padN_eq k n hn
  have hn2 : n < 10000000000 := Nat.lt_of_lt_of_le hn (Nat.pow_le_pow_right (by decide) (show k + 1 ≤ 10 by omega))
  have hit : Lib.itoa (n : Int) = Lib.decDigits n := by
    unfold Lib.itoa
    rw [if_neg (by omega)]
    rfl
  have HP := Lib.hid hp
  have HT := Lib.hid ht
  clear hp hn ht
  go_enter Tryd.func24, Tryd.ntmps24
  go_wp2_with fail
  refine (Tryd.strconv_Itoa (n : Int) (by omega) (by omega) _ HT.out).mono ?_
  rintro e w' ⟨rfl, nd, os, rfl⟩
  rw [hit]
  clear hit
  have hb := below_grow w nd os
  generalize Go.Sort.grow (w.drewN nd) os = w1 at *
  have HB := Lib.hid hb
  clear hb
  go_wp2_with fail
  have hsz : (k : Int) + 1 - ((Lib.decDigits n).length : Int) = ((k + 1 - (Lib.decDigits n).length : Nat) : Int) := by omega
  have hle : k + 1 - (Lib.decDigits n).length ≤ 10 := by omega
  rw [hsz]
  have hrep : padN (k + 1) n = Lib.repeatL [48] (k + 1 - (Lib.decDigits n).length) ++ Lib.decDigits n := rfl
  have HR := Lib.hid hrep
  generalize k + 1 - (Lib.decDigits n).length = c at *
  clear hrep hsz
  refine (Tryd.strings_Repeat ⟨#[48]⟩ c _ (by omega) (by show 1 * c ≤ _; omega)).mono ?_
  rintro e w' ⟨rfl, hb2⟩
  have HB2 := Lib.hid (HB.out.trans (hb2.mono HB.out.size))
  clear hb2 HB
  generalize hD : Lib.decDigits n = D at *
  have hrl : (Lib.repeatL [48] c).length = c := by rw [Lib.repeatL_length]; simp
  have hno : ¬ 9223372036854775807 < (Lib.repeatL [48] c).length + D.length := by omega
  clear hrl
  go_wp2
  go_ret
  refine ⟨?_, HB2.out⟩
  rw [← HP.out, HR.out, ← str_add]
  rfl

end Go.Proofs.YtholkbgkkfndhaaDoor
