/-
  BYTES AS NUMBERS: what both the numbers and the hashes name. Nothing of the program stands here.
-/
import Derived.Test.YtkmphiakciihfaaDoorNum
namespace Go.Proofs.YtkmphiakciihfaaDoor
open Go.RowKit

abbrev Byt (l : List Nat) : Prop := ∀ x ∈ l, x < 256
/-- Numbers as bytes. -/
def u8s (l : List Nat) : List UInt8 := l.map UInt8.ofNat
theorem u8s_get (l : List Nat) (h : Byt l) (i : Nat) : ((u8s l)[i]?.getD 0).toNat = l[i]?.getD 0 := by
  by_cases hi : i < l.length
  · have := h _ (List.getElem_mem hi)
    simp [u8s, hi, UInt8.toNat_ofNat']
    omega
  · simp [u8s, List.getElem?_eq_none (show l.length ≤ i by omega)]
theorem u8s_inj {l m : List Nat} (h : Byt l) (k : Byt m) (e : u8s l = u8s m) : l = m := by
  apply List.ext_getElem
  · have := congrArg List.length e; simpa [u8s] using this
  · intro i h1 h2
    have e1 := u8s_get l h i
    have e2 := u8s_get m k i
    rw [e] at e1
    rw [e1] at e2
    rwa [List.getElem?_eq_getElem h1, List.getElem?_eq_getElem h2] at e2

theorem Reads.bts {w : World} {a : Option Addr} {n c : Nat} {l : List Nat} (h : Reads .u8 w a n c l) (hB : Byt l) : Bts w a n c (u8s l) :=
  ⟨by rw [u8s, List.length_map, h.length], h.le, h.max, h.nil, fun hp => by
    obtain ⟨b, off, rfl, hb, hc⟩ := h.cells hp
    exact ⟨b, off, rfl, hb, fun i hi => by rw [hc i hi, u8s_get l hB]⟩⟩
end Go.Proofs.YtkmphiakciihfaaDoor
