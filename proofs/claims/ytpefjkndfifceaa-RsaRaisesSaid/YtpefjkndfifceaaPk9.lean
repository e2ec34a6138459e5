/- Part of the proofs: what the functions that the law calls do. -/
import Derived.Test.YtpefjkndfifceaaPk8
set_option linter.unusedVariables false
set_option linter.unusedSimpArgs false
namespace Go.Proofs.Ytpefjkndfifceaa
open Go.RowKit
set_option maxRecDepth 100000
def KeyAt (w : World) (k : Value) (N E D : List Nat) : Prop := ∃ (na : Option Addr) (nn nc : Nat) (ea : Option Addr) (en ec : Nat) (da : Option Addr) (dn dc : Nat), k = .agg #[.slice na nn nc, .slice ea en ec, .slice da dn dc] ∧ (Reads .u8 w na nn nc N ∧ Byt N ∧ nn ≤ 700) ∧ (Reads .u8 w ea en ec E ∧ Byt E ∧ en ≤ 700) ∧ Reads .u8 w da dn dc D ∧ Byt D ∧ dn ≤ 700
theorem KeyAt.below {w w' : World} {k : Value} {N E D : List Nat} (h : KeyAt w k N E D) (hb : Below w.heap.size w w') : KeyAt w' k N E D := by
  obtain ⟨na, nn, nc, ea, en, ec, da, dn, dc, rfl, ⟨h1, h2, h3⟩, ⟨h4, h5, h6⟩, h7, h8, h9⟩ := h
  exact ⟨na, nn, nc, ea, en, ec, da, dn, dc, rfl, ⟨h1.below hb, h2, h3⟩, ⟨h4.below hb, h5, h6⟩, h7.below hb, h8, h9⟩
theorem KeyAt.small {w : World} {k : Value} {N E D : List Nat} (h : KeyAt w k N E D) : (Byt N ∧ N.length ≤ 700) ∧ (Byt E ∧ E.length ≤ 700) ∧ Byt D ∧ D.length ≤ 700 := by
  obtain ⟨na, nn, nc, ea, en, ec, da, dn, dc, rfl, ⟨h1, h2, h3⟩, ⟨h4, h5, h6⟩, h7, h8, h9⟩ := h
  exact ⟨⟨h2, by rw [h1.length]; exact h3⟩, ⟨h5, by rw [h4.length]; exact h6⟩, h8, by rw [h7.length]; exact h9⟩
theorem kraise (k : Value) (N E D : List Nat) (ba : Option Addr) (bn bc : Nat) (B : List Nat) (w : World) (hkey : KeyAt w k N E D) (hB : Reads .u8 w ba bn bc B) (bB : Byt B) (lb : bn ≤ 1000) :
    Calls Try.prog 6 #[k, .slice ba bn bc] w fun e w' => Oc.RetsOwn2 w.heap.size w' (rRaise N E B) e ∧ Below w.heap.size w w' := by
  obtain ⟨na, nn, nc, ea, en, ec, da, dn, dc, rfl, ⟨hN, bN, ln⟩, ⟨hE, bE, le⟩, hD, bD, ld⟩ := hkey
  exact raise_any na nn nc N ea en ec E da dn dc D ba bn bc B w hN bN hE bE hD bD hB bB ln le ld lb
theorem klower (k : Value) (N E D : List Nat) (ba : Option Addr) (bn bc : Nat) (B : List Nat) (w : World) (hkey : KeyAt w k N E D) (hB : Reads .u8 w ba bn bc B) (bB : Byt B) (lb : bn ≤ 1000) :
    Calls Try.prog 9 #[k, .slice ba bn bc] w fun e w' => Oc.RetsOwn2 w.heap.size w' (rLower N E D B) e ∧ Below w.heap.size w w' := by
  obtain ⟨na, nn, nc, ea, en, ec, da, dn, dc, rfl, ⟨hN, bN, ln⟩, ⟨hE, bE, le⟩, hD, bD, ld⟩ := hkey
  exact lower_any na nn nc N ea en ec E da dn dc D ba bn bc B w hN bN hE bE hD bD hB bB ln le ld lb
theorem krraise (k : Value) (N E D : List Nat) (ba : Option Addr) (bn bc : Nat) (B : List Nat) (w : World) (hkey : KeyAt w k N E D) (hB : Reads .u8 w ba bn bc B) (bB : Byt B) (lb : bn ≤ 1000) :
    Calls Try.prog 7 #[k, .slice ba bn bc] w fun e w' => Oc.RetsOwn2 w.heap.size w' (rRaise N E B) e ∧ Below w.heap.size w w' := by
  obtain ⟨na, nn, nc, ea, en, ec, da, dn, dc, rfl, ⟨hN, bN, ln⟩, ⟨hE, bE, le⟩, hD, bD, ld⟩ := hkey
  exact rraise_any na nn nc N ea en ec E da dn dc D ba bn bc B w hN bN hE bE hD bD hB bB ln le ld lb
theorem krlower (k : Value) (N E D : List Nat) (ba : Option Addr) (bn bc : Nat) (B : List Nat) (w : World) (hkey : KeyAt w k N E D) (hB : Reads .u8 w ba bn bc B) (bB : Byt B) (lb : bn ≤ 1000) :
    Calls Try.prog 10 #[k, .slice ba bn bc] w fun e w' => Oc.RetsOwn2 w.heap.size w' (rLower N E D B) e ∧ Below w.heap.size w w' := by
  obtain ⟨na, nn, nc, ea, en, ec, da, dn, dc, rfl, ⟨hN, bN, ln⟩, ⟨hE, bE, le⟩, hD, bD, ld⟩ := hkey
  exact rlower_any na nn nc N ea en ec E da dn dc D ba bn bc B w hN bN hE bE hD bD hB bB ln le ld lb
end Go.Proofs.Ytpefjkndfifceaa
