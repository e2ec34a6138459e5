/-
  DERIVED. GIVEN WITH THE SEED: THE CARDS: each row of YtkmphiakciihfaaDoorRows.lean that lists a variable, with what it lists TIED to the program's text (the seventh form; the later family's looks); each row that meets fmt, with fmt's text TOLD by the authors' own Lean function (tested against real Go, not proved from fmt's source: count such statements apart). THE CARD IS WHAT COUNTS. Prove the row's statement (the work); the ties are given (YtkmphiakciihfaaDoorTie.lean); close each card by the builder's one call (the guide's Derived/Test/ToyasCard.lean, 'card_holds'). Laid BY PROGRAM, IN A SANDBOX (cutbox-door.mjs). By AI agents, Wed Nov 11 2026. No macro, syntax, notation, axiom, sorry.
-/
import Derived.Test.YtkmphiakciihfaaDoorRows
import GoSem.ClaimSeven
namespace Go.Proofs.YtkmphiakciihfaaDoor
namespace Rows

/-- THE TIED CARD OF 'postmarklaw12.DerWrites'. -/
def derWritesCard : Claim7 := { stood := { row := derWritesRow, standIns := [], harness := (true, "f5b048366c4fefa787e319345ec5afe1732ef36688be1344c06f3c26613c5333"), looks := false }, kinds := [], alts := [], laidByText := true, laidKinds := [.data, .pinned], laidTests := true, laidLooks := .later }
def DerWritesCardSaid : Prop := Claim7.holds Tryd.pinned (.plain (OpenSpec.ofChange derWritesSpec)) derWritesCard

/-- THE TIED CARD OF 'postmarklaw12.DerSorts'. -/
def derSortsCard : Claim7 := { stood := { row := derSortsRow, standIns := [], harness := (true, "f5b048366c4fefa787e319345ec5afe1732ef36688be1344c06f3c26613c5333"), looks := false }, kinds := [], alts := [], laidByText := true, laidKinds := [.data, .pinned], laidTests := true, laidLooks := .later }
def DerSortsCardSaid : Prop := Claim7.holds Tryd.pinned (.plain (OpenSpec.ofChange derSortsSpec)) derSortsCard

/-- THE TIED CARD OF 'postmarklaw12.DerNames'. -/
def derNamesCard : Claim7 := { stood := { row := derNamesRow, standIns := [], harness := (true, "f5b048366c4fefa787e319345ec5afe1732ef36688be1344c06f3c26613c5333"), looks := false }, kinds := [], alts := [], laidByText := true, laidKinds := [.data, .pinned], laidTests := true, laidLooks := .later }
def DerNamesCardSaid : Prop := Claim7.holds Tryd.pinned (.plain (OpenSpec.ofChange derNamesSpec)) derNamesCard

/-- THE TIED CARD OF 'postmarklaw12.DerOrder'. -/
def derOrderCard : Claim7 := { stood := { row := derOrderRow, standIns := [], harness := (true, "f5b048366c4fefa787e319345ec5afe1732ef36688be1344c06f3c26613c5333"), looks := false }, kinds := [], alts := [], laidByText := true, laidKinds := [.data, .pinned], laidTests := true, laidLooks := .later }
def DerOrderCardSaid : Prop := Claim7.holds Tryd.pinned (.plain (OpenSpec.ofChange derOrderSpec)) derOrderCard

/-- THE TIED CARD OF 'postmarklaw12.DerParts'. -/
def derPartsCard : Claim7 := { stood := { row := derPartsRow, standIns := [], harness := (true, "f5b048366c4fefa787e319345ec5afe1732ef36688be1344c06f3c26613c5333"), looks := false }, kinds := [], alts := [], laidByText := true, laidKinds := [.data, .pinned], laidTests := true, laidLooks := .later }
def DerPartsCardSaid : Prop := Claim7.holds Tryd.pinned (.plain (OpenSpec.ofChange derPartsSpec)) derPartsCard

/-- THE TIED CARD OF 'postmarklaw12.DerApart'. -/
def derApartCard : Claim7 := { stood := { row := derApartRow, standIns := [], harness := (true, "f5b048366c4fefa787e319345ec5afe1732ef36688be1344c06f3c26613c5333"), looks := false }, kinds := [], alts := [], laidByText := true, laidKinds := [.data, .pinned], laidTests := true, laidLooks := .later }
def DerApartCardSaid : Prop := Claim7.holds Tryd.pinned (.plain (OpenSpec.ofChange derApartSpec)) derApartCard

/-- THE SECOND FORM's CARD OF 'postmarklaw12.DerWrites'. -/
def derWritesUptoCard : Claim7 := { stood := { row := derWritesUptoRow, standIns := [], harness := (true, "f5b048366c4fefa787e319345ec5afe1732ef36688be1344c06f3c26613c5333"), looks := false }, kinds := [], alts := [], laidByText := true, laidKinds := [.data, .pinned], laidTests := true, laidLooks := .later }
def DerWritesUptoCardSaid : Prop := Claim7.holds Tryd.pinned (.plain (OpenSpec.upto derWritesSpec)) derWritesUptoCard

/-- THE SECOND FORM's CARD OF 'postmarklaw12.DerSorts'. -/
def derSortsUptoCard : Claim7 := { stood := { row := derSortsUptoRow, standIns := [], harness := (true, "f5b048366c4fefa787e319345ec5afe1732ef36688be1344c06f3c26613c5333"), looks := false }, kinds := [], alts := [], laidByText := true, laidKinds := [.data, .pinned], laidTests := true, laidLooks := .later }
def DerSortsUptoCardSaid : Prop := Claim7.holds Tryd.pinned (.plain (OpenSpec.upto derSortsSpec)) derSortsUptoCard

/-- THE SECOND FORM's CARD OF 'postmarklaw12.DerNames'. -/
def derNamesUptoCard : Claim7 := { stood := { row := derNamesUptoRow, standIns := [], harness := (true, "f5b048366c4fefa787e319345ec5afe1732ef36688be1344c06f3c26613c5333"), looks := false }, kinds := [], alts := [], laidByText := true, laidKinds := [.data, .pinned], laidTests := true, laidLooks := .later }
def DerNamesUptoCardSaid : Prop := Claim7.holds Tryd.pinned (.plain (OpenSpec.upto derNamesSpec)) derNamesUptoCard

/-- THE SECOND FORM's CARD OF 'postmarklaw12.DerOrder'. -/
def derOrderUptoCard : Claim7 := { stood := { row := derOrderUptoRow, standIns := [], harness := (true, "f5b048366c4fefa787e319345ec5afe1732ef36688be1344c06f3c26613c5333"), looks := false }, kinds := [], alts := [], laidByText := true, laidKinds := [.data, .pinned], laidTests := true, laidLooks := .later }
def DerOrderUptoCardSaid : Prop := Claim7.holds Tryd.pinned (.plain (OpenSpec.upto derOrderSpec)) derOrderUptoCard

/-- THE SECOND FORM's CARD OF 'postmarklaw12.DerParts'. -/
def derPartsUptoCard : Claim7 := { stood := { row := derPartsUptoRow, standIns := [], harness := (true, "f5b048366c4fefa787e319345ec5afe1732ef36688be1344c06f3c26613c5333"), looks := false }, kinds := [], alts := [], laidByText := true, laidKinds := [.data, .pinned], laidTests := true, laidLooks := .later }
def DerPartsUptoCardSaid : Prop := Claim7.holds Tryd.pinned (.plain (OpenSpec.upto derPartsSpec)) derPartsUptoCard

/-- THE SECOND FORM's CARD OF 'postmarklaw12.DerApart'. -/
def derApartUptoCard : Claim7 := { stood := { row := derApartUptoRow, standIns := [], harness := (true, "f5b048366c4fefa787e319345ec5afe1732ef36688be1344c06f3c26613c5333"), looks := false }, kinds := [], alts := [], laidByText := true, laidKinds := [.data, .pinned], laidTests := true, laidLooks := .later }
def DerApartUptoCardSaid : Prop := Claim7.holds Tryd.pinned (.plain (OpenSpec.upto derApartSpec)) derApartUptoCard
end Rows
end Go.Proofs.YtkmphiakciihfaaDoor
