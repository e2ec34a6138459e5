/-
  DERIVED. GIVEN WITH THE SEED: THE CARDS: each row of YtcdglhmapijebaaDoorRows.lean that lists a variable, with what it lists TIED to the program's text (the seventh form; the later family's looks); each row that meets fmt, with fmt's text TOLD by the authors' own Lean function (tested against real Go, not proved from fmt's source: count such statements apart). THE CARD IS WHAT COUNTS. Prove the row's statement (the work); the ties are given (YtcdglhmapijebaaDoorTie.lean); close each card by the builder's one call (the guide's Derived/Test/ToyasCard.lean, 'card_holds'). Laid BY PROGRAM, IN A SANDBOX (cutbox-door.mjs). By AI agents, Wed Nov 11 2026. No macro, syntax, notation, axiom, sorry.
-/
import Derived.Test.YtcdglhmapijebaaDoorRows
import GoSem.ClaimSeven
namespace Go.Proofs.YtcdglhmapijebaaDoor
namespace Rows

/-- THE TIED CARD OF 'postmarklaw09.PssTells'. -/
def pssTellsCard : Claim7 := { stood := { row := pssTellsRow, standIns := [], harness := (true, "8468d38896b4a4663ad1060ecda46194bb30e0d2ada3f92113186def50b5f353"), looks := false }, kinds := [], alts := [], laidByText := true, laidKinds := [.data], laidTests := true, laidLooks := .later }
def PssTellsCardSaid : Prop := Claim7.holds Tryd.pinned (.plain (OpenSpec.ofChange pssTellsSpec)) pssTellsCard

/-- THE TIED CARD OF 'postmarklaw09.PssNames'. -/
def pssNamesCard : Claim7 := { stood := { row := pssNamesRow, standIns := [], harness := (true, "8468d38896b4a4663ad1060ecda46194bb30e0d2ada3f92113186def50b5f353"), looks := false }, kinds := [], alts := [], laidByText := true, laidKinds := [.data], laidTests := true, laidLooks := .later }
def PssNamesCardSaid : Prop := Claim7.holds Tryd.pinned (.plain (OpenSpec.ofChange pssNamesSpec)) pssNamesCard

/-- THE TIED CARD OF 'postmarklaw09.PssBack'. -/
def pssBackCard : Claim7 := { stood := { row := pssBackRow, standIns := [], harness := (true, "8468d38896b4a4663ad1060ecda46194bb30e0d2ada3f92113186def50b5f353"), looks := false }, kinds := [], alts := [], laidByText := true, laidKinds := [.data], laidTests := true, laidLooks := .later }
def PssBackCardSaid : Prop := Claim7.holds Tryd.pinned (.plain (OpenSpec.ofChange pssBackSpec)) pssBackCard

/-- THE TIED CARD OF 'postmarklaw09.PssOnly'. -/
def pssOnlyCard : Claim7 := { stood := { row := pssOnlyRow, standIns := [], harness := (true, "8468d38896b4a4663ad1060ecda46194bb30e0d2ada3f92113186def50b5f353"), looks := false }, kinds := [], alts := [], laidByText := true, laidKinds := [.data], laidTests := true, laidLooks := .later }
def PssOnlyCardSaid : Prop := Claim7.holds Tryd.pinned (.plain (OpenSpec.ofChange pssOnlySpec)) pssOnlyCard

/-- THE TIED CARD OF 'postmarklaw09.PssTurned'. -/
def pssTurnedCard : Claim7 := { stood := { row := pssTurnedRow, standIns := [], harness := (true, "8468d38896b4a4663ad1060ecda46194bb30e0d2ada3f92113186def50b5f353"), looks := false }, kinds := [], alts := [], laidByText := true, laidKinds := [.data], laidTests := true, laidLooks := .later }
def PssTurnedCardSaid : Prop := Claim7.holds Tryd.pinned (.plain (OpenSpec.ofChange pssTurnedSpec)) pssTurnedCard

/-- THE SECOND FORM's CARD OF 'postmarklaw09.PssTells'. -/
def pssTellsUptoCard : Claim7 := { stood := { row := pssTellsUptoRow, standIns := [], harness := (true, "8468d38896b4a4663ad1060ecda46194bb30e0d2ada3f92113186def50b5f353"), looks := false }, kinds := [], alts := [], laidByText := true, laidKinds := [.data], laidTests := true, laidLooks := .later }
def PssTellsUptoCardSaid : Prop := Claim7.holds Tryd.pinned (.plain (OpenSpec.upto pssTellsSpec)) pssTellsUptoCard

/-- THE SECOND FORM's CARD OF 'postmarklaw09.PssNames'. -/
def pssNamesUptoCard : Claim7 := { stood := { row := pssNamesUptoRow, standIns := [], harness := (true, "8468d38896b4a4663ad1060ecda46194bb30e0d2ada3f92113186def50b5f353"), looks := false }, kinds := [], alts := [], laidByText := true, laidKinds := [.data], laidTests := true, laidLooks := .later }
def PssNamesUptoCardSaid : Prop := Claim7.holds Tryd.pinned (.plain (OpenSpec.upto pssNamesSpec)) pssNamesUptoCard

/-- THE SECOND FORM's CARD OF 'postmarklaw09.PssBack'. -/
def pssBackUptoCard : Claim7 := { stood := { row := pssBackUptoRow, standIns := [], harness := (true, "8468d38896b4a4663ad1060ecda46194bb30e0d2ada3f92113186def50b5f353"), looks := false }, kinds := [], alts := [], laidByText := true, laidKinds := [.data], laidTests := true, laidLooks := .later }
def PssBackUptoCardSaid : Prop := Claim7.holds Tryd.pinned (.plain (OpenSpec.upto pssBackSpec)) pssBackUptoCard

/-- THE SECOND FORM's CARD OF 'postmarklaw09.PssOnly'. -/
def pssOnlyUptoCard : Claim7 := { stood := { row := pssOnlyUptoRow, standIns := [], harness := (true, "8468d38896b4a4663ad1060ecda46194bb30e0d2ada3f92113186def50b5f353"), looks := false }, kinds := [], alts := [], laidByText := true, laidKinds := [.data], laidTests := true, laidLooks := .later }
def PssOnlyUptoCardSaid : Prop := Claim7.holds Tryd.pinned (.plain (OpenSpec.upto pssOnlySpec)) pssOnlyUptoCard

/-- THE SECOND FORM's CARD OF 'postmarklaw09.PssTurned'. -/
def pssTurnedUptoCard : Claim7 := { stood := { row := pssTurnedUptoRow, standIns := [], harness := (true, "8468d38896b4a4663ad1060ecda46194bb30e0d2ada3f92113186def50b5f353"), looks := false }, kinds := [], alts := [], laidByText := true, laidKinds := [.data], laidTests := true, laidLooks := .later }
def PssTurnedUptoCardSaid : Prop := Claim7.holds Tryd.pinned (.plain (OpenSpec.upto pssTurnedSpec)) pssTurnedUptoCard
end Rows
end Go.Proofs.YtcdglhmapijebaaDoor
