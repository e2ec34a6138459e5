/-
  DERIVED. GIVEN WITH THE SEED: THE CARDS: each row of YtpefjkndfifceaaGreatDoorRows.lean that lists a variable, with what it lists TIED to the program's text (the seventh form; the later family's looks); each row that meets fmt, with fmt's text TOLD by the authors' own Lean function (tested against real Go, not proved from fmt's source: count such statements apart). THE CARD IS WHAT COUNTS. Prove the row's statement (the work); the ties are given (YtpefjkndfifceaaGreatDoorTie.lean); close each card by the builder's one call (the guide's Derived/Test/ToyasCard.lean, 'card_holds'). Laid BY PROGRAM, IN A SANDBOX (cutbox-door.mjs). By AI agents, Wed Nov 11 2026. No macro, syntax, notation, axiom, sorry.
-/
import Derived.Test.YtpefjkndfifceaaGreatDoorRows
import GoSem.ClaimSeven
namespace Go.Proofs.YtpefjkndfifceaaGreatDoor
namespace Rows

/-- THE TIED CARD OF 'postmarklaw10.RsaSigns'. -/
def rsaSignsCard : Claim7 := { stood := { row := rsaSignsRow, standIns := [], harness := (true, "9a5d7d2b63ac56d0cce6f3df3bd0872d6e158ec27ce3390dd8e5975e0eca5f6f"), looks := false }, kinds := [], alts := [], laidByText := true, laidKinds := [.data], laidTests := true, laidLooks := .later }
def RsaSignsCardSaid : Prop := Claim7.holds Tryz.pinned (.plain (OpenSpec.ofChange rsaSignsSpec)) rsaSignsCard

/-- THE TIED CARD OF 'postmarklaw10.RsaVerifies'. -/
def rsaVerifiesCard : Claim7 := { stood := { row := rsaVerifiesRow, standIns := [], harness := (true, "9a5d7d2b63ac56d0cce6f3df3bd0872d6e158ec27ce3390dd8e5975e0eca5f6f"), looks := false }, kinds := [], alts := [], laidByText := true, laidKinds := [.data], laidTests := true, laidLooks := .later }
def RsaVerifiesCardSaid : Prop := Claim7.holds Tryz.pinned (.plain (OpenSpec.ofChange rsaVerifiesSpec)) rsaVerifiesCard

/-- THE TIED CARD OF 'postmarklaw10.RsaNames'. -/
def rsaNamesCard : Claim7 := { stood := { row := rsaNamesRow, standIns := [], harness := (true, "9a5d7d2b63ac56d0cce6f3df3bd0872d6e158ec27ce3390dd8e5975e0eca5f6f"), looks := false }, kinds := [], alts := [], laidByText := true, laidKinds := [.data], laidTests := true, laidLooks := .later }
def RsaNamesCardSaid : Prop := Claim7.holds Tryz.pinned (.plain (OpenSpec.ofChange rsaNamesSpec)) rsaNamesCard

/-- THE TIED CARD OF 'postmarklaw10.RsaUndoes'. -/
def rsaUndoesCard : Claim7 := { stood := { row := rsaUndoesRow, standIns := [], harness := (true, "9a5d7d2b63ac56d0cce6f3df3bd0872d6e158ec27ce3390dd8e5975e0eca5f6f"), looks := false }, kinds := [], alts := [], laidByText := true, laidKinds := [.data], laidTests := true, laidLooks := .later }
def RsaUndoesCardSaid : Prop := Claim7.holds Tryz.pinned (.plain (OpenSpec.ofChange rsaUndoesSpec)) rsaUndoesCard

/-- THE TIED CARD OF 'postmarklaw10.RsaBack'. -/
def rsaBackCard : Claim7 := { stood := { row := rsaBackRow, standIns := [], harness := (true, "9a5d7d2b63ac56d0cce6f3df3bd0872d6e158ec27ce3390dd8e5975e0eca5f6f"), looks := false }, kinds := [], alts := [], laidByText := true, laidKinds := [.data], laidTests := true, laidLooks := .later }
def RsaBackCardSaid : Prop := Claim7.holds Tryz.pinned (.plain (OpenSpec.ofChange rsaBackSpec)) rsaBackCard

/-- THE TIED CARD OF 'postmarklaw10.RsaOnly'. -/
def rsaOnlyCard : Claim7 := { stood := { row := rsaOnlyRow, standIns := [], harness := (true, "9a5d7d2b63ac56d0cce6f3df3bd0872d6e158ec27ce3390dd8e5975e0eca5f6f"), looks := false }, kinds := [], alts := [], laidByText := true, laidKinds := [.data], laidTests := true, laidLooks := .later }
def RsaOnlyCardSaid : Prop := Claim7.holds Tryz.pinned (.plain (OpenSpec.ofChange rsaOnlySpec)) rsaOnlyCard

/-- THE SECOND FORM's CARD OF 'postmarklaw10.RsaSigns'. -/
def rsaSignsUptoCard : Claim7 := { stood := { row := rsaSignsUptoRow, standIns := [], harness := (true, "9a5d7d2b63ac56d0cce6f3df3bd0872d6e158ec27ce3390dd8e5975e0eca5f6f"), looks := false }, kinds := [], alts := [], laidByText := true, laidKinds := [.data], laidTests := true, laidLooks := .later }
def RsaSignsUptoCardSaid : Prop := Claim7.holds Tryz.pinned (.plain (OpenSpec.upto rsaSignsSpec)) rsaSignsUptoCard

/-- THE SECOND FORM's CARD OF 'postmarklaw10.RsaVerifies'. -/
def rsaVerifiesUptoCard : Claim7 := { stood := { row := rsaVerifiesUptoRow, standIns := [], harness := (true, "9a5d7d2b63ac56d0cce6f3df3bd0872d6e158ec27ce3390dd8e5975e0eca5f6f"), looks := false }, kinds := [], alts := [], laidByText := true, laidKinds := [.data], laidTests := true, laidLooks := .later }
def RsaVerifiesUptoCardSaid : Prop := Claim7.holds Tryz.pinned (.plain (OpenSpec.upto rsaVerifiesSpec)) rsaVerifiesUptoCard

/-- THE SECOND FORM's CARD OF 'postmarklaw10.RsaNames'. -/
def rsaNamesUptoCard : Claim7 := { stood := { row := rsaNamesUptoRow, standIns := [], harness := (true, "9a5d7d2b63ac56d0cce6f3df3bd0872d6e158ec27ce3390dd8e5975e0eca5f6f"), looks := false }, kinds := [], alts := [], laidByText := true, laidKinds := [.data], laidTests := true, laidLooks := .later }
def RsaNamesUptoCardSaid : Prop := Claim7.holds Tryz.pinned (.plain (OpenSpec.upto rsaNamesSpec)) rsaNamesUptoCard

/-- THE SECOND FORM's CARD OF 'postmarklaw10.RsaUndoes'. -/
def rsaUndoesUptoCard : Claim7 := { stood := { row := rsaUndoesUptoRow, standIns := [], harness := (true, "9a5d7d2b63ac56d0cce6f3df3bd0872d6e158ec27ce3390dd8e5975e0eca5f6f"), looks := false }, kinds := [], alts := [], laidByText := true, laidKinds := [.data], laidTests := true, laidLooks := .later }
def RsaUndoesUptoCardSaid : Prop := Claim7.holds Tryz.pinned (.plain (OpenSpec.upto rsaUndoesSpec)) rsaUndoesUptoCard

/-- THE SECOND FORM's CARD OF 'postmarklaw10.RsaBack'. -/
def rsaBackUptoCard : Claim7 := { stood := { row := rsaBackUptoRow, standIns := [], harness := (true, "9a5d7d2b63ac56d0cce6f3df3bd0872d6e158ec27ce3390dd8e5975e0eca5f6f"), looks := false }, kinds := [], alts := [], laidByText := true, laidKinds := [.data], laidTests := true, laidLooks := .later }
def RsaBackUptoCardSaid : Prop := Claim7.holds Tryz.pinned (.plain (OpenSpec.upto rsaBackSpec)) rsaBackUptoCard

/-- THE SECOND FORM's CARD OF 'postmarklaw10.RsaOnly'. -/
def rsaOnlyUptoCard : Claim7 := { stood := { row := rsaOnlyUptoRow, standIns := [], harness := (true, "9a5d7d2b63ac56d0cce6f3df3bd0872d6e158ec27ce3390dd8e5975e0eca5f6f"), looks := false }, kinds := [], alts := [], laidByText := true, laidKinds := [.data], laidTests := true, laidLooks := .later }
def RsaOnlyUptoCardSaid : Prop := Claim7.holds Tryz.pinned (.plain (OpenSpec.upto rsaOnlySpec)) rsaOnlyUptoCard
end Rows
end Go.Proofs.YtpefjkndfifceaaGreatDoor
