/-
  THE LAW's Same, is AND alive.
-/
import Derived.Test.YtfeajcgcjpngkaaNatD
import Derived.Test.YtfeajcgcjpngkaaNatE
import Derived.Test.YtfeajcgcjpngkaaNatF
namespace Go.Proofs.Ytfeajcgcjpngkaa
open Go.RowKit

set_option maxHeartbeats 400000 in
theorem same_any (a a' : Option Addr) (n c n' c' : Nat) (l l' : List Nat) (w : World) (hx : Reads .u32 w a n c l) (hy : Reads .u32 w a' n' c' l') (r : Bool) (hr : r = decide (l = l')) :
    Calls Try.prog 20 #[.slice a n c, .slice a' n' c'] w fun e w' => e = .returned (.bool r) ∧ Below w.heap.size w w' := by
  have HX := Lib.hid hx
  have HY := Lib.hid hy
  have HR := Lib.hid hr
  have hmx := hx.len_le
  have hmy := hy.len_le
  unfold maxLen at hmx hmy
  clear hx hy hr
  by_cases hn : n = n'
  · subst hn
    go_enter Try.func20, Try.ntmps20
    go_wp2
    go_loopw [5] (fun i wr => ∃ k d : Nat, i = .int .i64 k ∧ k ≤ n ∧ wr = w.drewN d ∧ Hid (∀ j, j < k → l[j]?.getD 0 = l'[j]?.getD 0)) (fun i _ => n - (intOf i).toNat)
    case atStart => exact ⟨0, 0, rfl, Nat.zero_le _, rfl, fun j h => by omega⟩
    case round =>
      obtain ⟨k, d, rfl, hk, rfl, hall⟩ := hrel
      by_cases hlt : k < n
      · obtain ⟨b, off, rfl, hbk, hc⟩ := HX.out.cells (by omega)
        obtain ⟨b2, off2, rfl, hbk2, hc2⟩ := HY.out.cells (by omega)
        have hck := hc k hlt
        have hck2 := hc2 k hlt
        clear hc hc2
        by_cases he : l[k]?.getD 0 = l'[k]?.getD 0
        · have HE := Lib.hid he
          rw [he] at hck
          clear he
          generalize hxx : l'[k]?.getD 0 = x at *
          have HXX := Lib.hid hxx
          clear hxx
          have ht : ((x : Int) != (x : Int)) = false := by simp
          go_wp2
          go_quiet (fail)
          go_wp2
          go_roundw
          case rel => exact ⟨k + 1, _, by go_num, by omega, rfl, fun j hj => by
            by_cases e : j < k
            · exact hall.out j e
            · obtain rfl : j = k := by omega
              rw [HE.out, HXX.out]⟩
          case measure => simp [intOf]; omega
        · have hrf := Lib.hid (show r = false by rw [HR.out, decide_eq_false (fun e => he (by rw [e]))])
          generalize l[k]?.getD 0 = x at *
          generalize l'[k]?.getD 0 = y at *
          have ht : ((x : Int) != (y : Int)) = true := by simp; omega
          clear he
          go_wp2
          go_quiet (fail)
          go_wp2
          go_ret
          exact ⟨by rw [hrf.out]; rfl, below_drewN (below_drewN (Below.refl _ _) _) _⟩
      · have hrt := Lib.hid (show r = true by
          rw [HR.out, decide_eq_true_iff]
          apply List.ext_getElem
          · rw [HX.out.length, HY.out.length]
          · intro i h1 h2
            have := hall.out i (by rw [HX.out.length] at h1; omega)
            rwa [List.getElem?_eq_getElem h1, List.getElem?_eq_getElem h2] at this)
        go_wp2
        go_ret
        exact ⟨by rw [hrt.out]; rfl, below_drewN (Below.refl _ _) _⟩
  · have hrf := Lib.hid (show r = false by rw [HR.out, decide_eq_false (fun e => hn (by rw [← HX.out.length, ← HY.out.length, e]))])
    have ht : ((n : Int) != (n' : Int)) = true := by simp; omega
    go_enter Try.func20, Try.ntmps20
    go_wp2
    go_ret
    exact ⟨by rw [hrf.out]; rfl, Below.refl _ _⟩

theorem lt_top {n : Nat} (h : n < 4294967296 ^ 2) : n < topN := Nat.lt_of_lt_of_le h (by unfold topN; exact Nat.pow_le_pow_right (by decide) (by decide))

theorem nat32_lit (l : List Nat) (v : Nat) (h : Lim l) (hb : bareN l = l) (hv : val32 l = v) : nat32 v = l := by rw [← hv, ← bareN_nat h, hb]
theorem nat8_lit (l : List Nat) (v : Nat) (h : Byt l) (hb : bareN l = l) (hv : valB 256 l = v) : natB 256 v = l := by rw [← hv, ← bareN_eq (by decide) h, hb]

/-- Numbers as bytes. -/
def u8s (l : List Nat) : List UInt8 := l.map UInt8.ofNat
theorem u8s_get (l : List Nat) (h : Byt l) (i : Nat) : ((u8s l)[i]?.getD 0).toNat = l[i]?.getD 0 := by
  by_cases hi : i < l.length
  · have := h _ (List.getElem_mem hi)
    simp [u8s, hi, UInt8.toNat_ofNat']
    omega
  · simp [u8s, List.getElem?_eq_none (show l.length ≤ i by omega)]
theorem u8s_inj {l m : List Nat} (h : Byt l) (k : Byt m) (e : u8s l = u8s m) : l = m := by
  apply List.ext_getElem
  · have := congrArg List.length e; simpa [u8s] using this
  · intro i h1 h2
    have e1 := u8s_get l h i
    have e2 := u8s_get m k i
    rw [e] at e1
    rw [e1] at e2
    rwa [List.getElem?_eq_getElem h1, List.getElem?_eq_getElem h2] at e2

theorem Reads.bts {w : World} {a : Option Addr} {n c : Nat} {l : List Nat} (h : Reads .u8 w a n c l) (hB : Byt l) : Bts w a n c (u8s l) :=
  ⟨by rw [u8s, List.length_map, h.length], h.le, h.max, h.nil, fun hp => by
    obtain ⟨b, off, rfl, hb, hc⟩ := h.cells hp
    exact ⟨b, off, rfl, hb, fun i hi => by rw [hc i hi, u8s_get l hB]⟩⟩

theorem conv8 {w : World} {a : Option Addr} {n c : Nat} {l : List Nat} (h : Reads .u8 w a n c l) (hB : Byt l) :
    (convert 94 9 (.slice a n c)).run Try.prog w = .ok (.string (strOf (u8s l))) w :=
  (h.bts hB).convert (P := Try.prog) _ _ _ Try.underlying94 Try.underlying5 Try.underlying9

theorem OwnQ.one (q : IntKind) (w : World) (E : TypeId) (B : Nat) (hB : B ≤ w.heap.size) (x : Int) (c : Nat) (hx : x = c) : OwnQ q E B (w.alloc (.cells #[.int q x] E)) (.slice (some ⟨w.heap.size, 0, .none⟩) 1 1) [c] := by
  subst hx
  exact World.ownsRow_lit w #[.int q c] 1 hB (by unfold maxLen; omega) rfl

end Go.Proofs.Ytfeajcgcjpngkaa