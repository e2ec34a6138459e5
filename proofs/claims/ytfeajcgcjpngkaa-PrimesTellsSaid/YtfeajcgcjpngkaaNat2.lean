/-
  WALKS OF NAT's Trim, Of, Uint, AND OF slices.Reverse AT BYTES.
-/
import Derived.Test.YtfeajcgcjpngkaaNat1
import Derived.BigRegion
import Derived.Outline
namespace Go.Proofs.Ytfeajcgcjpngkaa
open Go.RowKit

theorem bareN_nat {l : List Nat} (h : Lim l) : bareN l = nat32 (val32 l) := bareN_eq (by decide) h

set_option maxHeartbeats 400000 in
theorem trim_any (a : Option Addr) (len cap : Nat) (l : List Nat) (w : World) (h : Reads .u32 w a len cap l) (hL : Lim l) :
    Calls Try.prog 31 #[.slice a len cap] w fun e w' => RetsQ2 .u32 39 w.heap.size w' (cutR32 (val32 l)) e ∧ Below w.heap.size w w' := by
  have hb := h.bare
  have hci := cut_iff l hL
  have hbn := bareN_nat hL
  have hmx := h.len_le
  unfold maxLen at hmx
  have hbl := bareN_le l
  rw [h.length] at hbl
  have HB := Lib.hid (bare32_any a len cap l w h)
  generalize bareN l = m at *
  have HM := Lib.hid hb
  clear hb h
  by_cases hc : m.length ≤ 256
  · have hr := Lib.hid (show cutR32 (val32 l) = (m, 0) by rw [cutR_small (hci.1 hc), hbn])
    clear hci hbn
    go_enter Try.func31, Try.ntmps31
    go_wp2_with fail
    refine HB.out.mono ?_
    rintro e w1 ⟨rfl, rfl⟩
    go_wp2_with fail
    refine (may1_any w.heap.size a m.length cap _ (World.cell?_alloc_at _ _ _ _ rfl) true (by simp [hc]) (by omega)).mono ?_
    rintro e w1 ⟨rfl, rfl⟩
    go_wp2_with fail
    refine (clone32_any a m.length cap m _ (HM.out.below ((Below.refl _ _).alloc (Nat.le_refl _) _)) (by omega)).mono ?_
    rintro e w1 ⟨⟨v, rfl, ho⟩, hbel⟩
    go_wp2
    go_ret2
    refine ⟨⟨v, by rw [hr.out]; rfl, ?_⟩, ?_⟩
    · rw [hr.out]; exact ho.mono (by simp)
    · exact ((Below.refl _ _).alloc (Nat.le_refl _) _).trans (hbel.mono (by simp))
  · have hr := Lib.hid (show cutR32 (val32 l) = ([], 20) by rw [cutR_large (fun h => hc (hci.2 h))])
    clear hci hbn
    go_enter Try.func31, Try.ntmps31
    go_wp2_with fail
    refine HB.out.mono ?_
    rintro e w1 ⟨rfl, rfl⟩
    go_wp2_with fail
    refine (may1_any w.heap.size a m.length cap _ (World.cell?_alloc_at _ _ _ _ rfl) false (by simp; omega) (by omega)).mono ?_
    rintro e w1 ⟨rfl, rfl⟩
    go_wp2
    go_ret2
    refine ⟨⟨_, by rw [hr.out]; rfl, ?_⟩, (Below.refl _ _).alloc (Nat.le_refl _) _⟩
    rw [hr.out]; exact OwnQ.nil _ _ _ _

theorem OwnQ.two (q : IntKind) (w : World) (E : TypeId) (B : Nat) (hB : B ≤ w.heap.size) (x y : Int) (c d : Nat) (hx : x = c) (hy : y = d) : OwnQ q E B (w.alloc (.cells #[.int q x, .int q y] E)) (.slice (some ⟨w.heap.size, 0, .none⟩) 2 2) [c, d] := by
  subst hx
  subst hy
  exact World.ownsRow_lit w #[.int q c, .int q d] 2 hB (by unfold maxLen; omega) rfl

theorem two_nat (n : Nat) (hn : n < 18446744073709551616) : bareN [n % 4294967296, n / 4294967296] = nat32 n := by
  have h : Lim [n % 4294967296, n / 4294967296] := by
    intro x hx
    simp only [List.mem_cons, List.not_mem_nil, or_false] at hx
    rcases hx with rfl | rfl <;> omega
  rw [bareN_nat h]
  congr 1
  simp [val32, valB]
  omega

set_option maxHeartbeats 400000 in
theorem of_any (n : Int) (k : Nat) (hk : n = k) (w : World) (hn : k < 18446744073709551616) :
    Calls Try.prog 21 #[.int .u64 n] w fun e w' => RetsQ .u32 39 w.heap.size w' (nat32 k) e ∧ Below w.heap.size w w' := by
  subst hk
  have h2 := two_nat k hn
  have hle := bareN_le [k % 4294967296, k / 4294967296]
  rw [h2] at hle
  have ho := OwnQ.two .u32 w 39 w.heap.size (Nat.le_refl _) ((k : Int) % 4294967296) ((k : Int) / 4294967296) (k % 4294967296) (k / 4294967296) (by omega) (by omega)
  have hr := ho.reads
  have HB := Lib.hid (bare32_any _ _ _ _ _ hr)
  have HO := Lib.hid (ho.upto _ hle)
  have H2 := Lib.hid h2
  have hpre := Lib.hid (bareN_prefix [k % 4294967296, k / 4294967296])
  clear h2 hle ho hr
  go_enter Try.func21, Try.ntmps21
  go_wp2_with fail
  refine HB.out.mono ?_
  rintro e w1 ⟨rfl, rfl⟩
  go_wp2
  go_ret
  refine ⟨⟨_, rfl, ?_⟩, (Below.refl _ _).alloc (Nat.le_refl _) _⟩
  have := HO.out
  rw [← H2.out] at this ⊢
  rwa [← hpre.out] at this

def uintV (v : Nat) : Nat := if v < 18446744073709551616 then v else 0
def UintIs (v : Nat) (e : Ending) : Prop := e = .returned (.tuple #[.int .u64 (uintV v : Nat), .bool (decide (v < 18446744073709551616))])

theorem UintIs.no {v : Nat} (h : ¬ v < 18446744073709551616) : UintIs v (.returned (.tuple #[.int .u64 0, .bool false])) := by simp [UintIs, uintV, h]
theorem UintIs.yes {v : Nat} (h : v < 18446744073709551616) (x : Int) (hx : x = v) : UintIs v (.returned (.tuple #[.int .u64 x, .bool true])) := by simp [UintIs, uintV, h, hx]

theorem or32 (v x : Nat) (hv : v < 4294967296) (hx : x < 4294967296) : bits BinOp.or IntKind.u64 ((v : Int) * 4294967296) (x : Int) = ((4294967296 * v + x : Nat) : Int) := by
  rw [show ((v : Int) * 4294967296) = ((v * 4294967296 : Nat) : Int) from by omega, u64_or_nat _ _ (by omega) (by omega), nat_join 32 _ _ (by omega) (by omega)]
  omega

theorem lim_get {l : List Nat} (h : Lim l) (k : Nat) : l[k]?.getD 0 < 4294967296 := by
  by_cases hk : k < l.length
  · rw [List.getElem?_eq_getElem hk]; exact h _ (List.getElem_mem _)
  · rw [List.getElem?_eq_none (by omega)]; decide

theorem val_two {m : List Nat} (h : m.length ≤ 2) : val32 m = 4294967296 * (m[1]?.getD 0) + m[0]?.getD 0 := by
  match m with
  | [] => rfl
  | [x] => simp [val32, valB]
  | [x, y] => simp [val32, valB, Nat.add_comm]
  | _ :: _ :: _ :: _ => simp at h

set_option maxHeartbeats 400000 in
theorem uint_any (a : Option Addr) (len cap : Nat) (l : List Nat) (w : World) (h : Reads .u32 w a len cap l) (hL : Lim l) :
    Calls Try.prog 44 #[.slice a len cap] w fun e w' => UintIs (val32 l) e ∧ w = w' := by
  have hb := h.bare
  have hmx := h.len_le
  unfold maxLen at hmx
  have hbl := bareN_le l
  rw [h.length] at hbl
  have HB := Lib.hid (bare32_any a len cap l w h)
  have hv := bareN_val 4294967296 l
  have hLm : Lim (bareN l) := fun x hx => hL x (bareN_mem hx)
  have hci : (bareN l).length ≤ 2 ↔ val32 l < 18446744073709551616 := by
    rw [bareN_nat hL, natB_length (by decide)]
  generalize bareN l = m at *
  have HM := Lib.hid hb
  clear hb h
  have HV := Lib.hid hv
  clear hv
  have l1 := lim_get hLm 1
  have l0 := lim_get hLm 0
  by_cases hc : m.length ≤ 2
  · have H2 := Lib.hid (val_two hc)
    have hlt := Lib.hid (hci.1 hc)
    have HLM := Lib.hid hLm
    clear hci hL hLm
    have hn : decide ((2 : Int) < (m.length : Int)) = false := by simp; omega
    have hor := or32 _ _ l1 l0
    go_enter Try.func44, Try.ntmps44
    go_wp2_with fail
    refine HB.out.mono ?_
    rintro e w1 ⟨rfl, rfl⟩
    go_wp2_with fail
    refine (limb_any a m.length cap m _ HM.out 1 1 rfl).mono ?_
    rintro e w1 ⟨rfl, rfl⟩
    go_wp2_with fail
    refine (limb_any a m.length cap m _ HM.out 0 0 rfl).mono ?_
    rintro e w1 ⟨rfl, rfl⟩
    generalize m[1]?.getD 0 = x at *
    generalize m[0]?.getD 0 = y at *
    go_wp2
    go_ret2
    exact ⟨UintIs.yes hlt.out _ (by have := H2.out; have := HV.out; simp only [val32] at *; omega), rfl⟩
  · have hno := Lib.hid (fun h => hc (hci.2 h))
    have hn : decide ((2 : Int) < (m.length : Int)) = true := by simp; omega
    clear hci hL hLm
    go_enter Try.func44, Try.ntmps44
    go_wp2_with fail
    refine HB.out.mono ?_
    rintro e w1 ⟨rfl, rfl⟩
    go_wp2
    go_ret2
    exact ⟨UintIs.no hno.out, rfl⟩

end Go.Proofs.Ytfeajcgcjpngkaa
