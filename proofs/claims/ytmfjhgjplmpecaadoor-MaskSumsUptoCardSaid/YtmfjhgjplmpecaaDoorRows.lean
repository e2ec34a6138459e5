/-
  NARROWER THAN 'FOR EVERY INPUT', by the rows' own cells (each row's printed sentence says how): MaskSums: laid · MaskFrames: laid · MaskNames: laid · MaskBegins: laid · MaskApart: laid · MaskPieces: laid.
  DERIVED. THE GIVEN ROWS OF THIS SEAT. 6 by the template 'for every input the law returns true; each argument reads behind the call as it read before'; 0 by the template 'total and deterministic' (their statements: YtmfjhgjplmpecaaDoorTotals.lean).
  GIVEN WITH THE SEED: the statements are not yours to turn. If you find one false, say at which input.
  Laid BY PROGRAM, IN A SANDBOX (cutbox-rows.mjs): the forced cells as the released guide's own fill.sh prints them over the translation b80eb23e29799688… (all of the seat's roots in one cut). By AI agents, Wed Nov 11 2026. No macro, syntax, notation, axiom, sorry.
-/
import Derived.Test.YtmfjhgjplmpecaaDoorChecked
import GoSem.Claim
import GoSem.ClaimJoined
import GoSem.ClaimMapViews
import Derived.JoinedTies
import Derived.KernelRfl
namespace Go.Proofs.YtmfjhgjplmpecaaDoor
/- THE CELL 'sum', in the pinned program and in every row, IS THE sha256 OF THE DUMP (.gsa) THAT YtmfjhgjplmpecaaDoorProg.lean LOADS. Nothing in Lean hashes anything: it is a label: what it is worth is what the hold of that sum in a sandbox is worth. -/
noncomputable def Tryd.pinned : Pinned := { name := "ytmfjhgjplmpecaadoor", sum := "b80eb23e297996883fa57d993d0e0c23852ea94b556c64609f276cf2e9bef654", checked := Tryd.checked }
namespace Rows
def none {H : Type} : Left H := { results := [], args := [] }

/- WHAT THE LISTED PACKAGE-LEVEL VARIABLES READ AS WHEN THE CALL BEGINS. Each datum BY PROGRAM (the guide's laid-datum.mjs) off the statement by which the dump's own 'gosem.cut.vars' lays the variable. In a bare row this is a premise. The card (YtmfjhgjplmpecaaDoorCards.lean) ties it to the program's text. -/
def laid_postmark_mask_kinds {H : Type} : DataW H := .agg [.agg [.lit (.string [115, 104, 97, 50, 50, 52]), .lit (.int .i64 28), .lit (.int .u8 4)], .agg [.lit (.string [115, 104, 97, 50, 53, 54]), .lit (.int .i64 32), .lit (.int .u8 1)], .agg [.lit (.string [115, 104, 97, 51, 56, 52]), .lit (.int .i64 48), .lit (.int .u8 2)], .agg [.lit (.string [115, 104, 97, 53, 49, 50]), .lit (.int .i64 64), .lit (.int .u8 3)]]

/-- 'postmarklaw08.MaskSums': WHATEVER THE INPUT: true; the input reads as it did. -/
def maskSumsSpec : ChangeSpec := { name := "maskSums", fn := fun _ => fun
  | [d1, d2, d3, d4] => { results := [.lit (.bool true)], args := [d1, d2, d3, d4] }
  | _ => none }
def maskSumsRow : OpenClaim := { program := "ytmfjhgjplmpecaadoor", sum := "b80eb23e297996883fa57d993d0e0c23852ea94b556c64609f276cf2e9bef654", func := "postmark/postmarklaw08.MaskSums", spec := "maskSums", unfollowed := true, recurses := true, named := ["postmark/mask.kinds"], apart := false, laid := [("postmark/mask.kinds", laid_postmark_mask_kinds)] }
def MaskSumsSaid : Prop := maskSumsRow.holds Tryd.pinned (OpenSpec.ofChange maskSumsSpec)

/-- ITS FALSE NEIGHBOUR: 'it returns false'. Refute it at one input. -/
def maskSumsWrong : ChangeSpec := { name := "maskSums", fn := fun _ => fun
  | [d1, d2, d3, d4] => { results := [.lit (.bool false)], args := [d1, d2, d3, d4] }
  | _ => none }
def MaskSumsWrongFalsely : Prop := maskSumsRow.holds Tryd.pinned (OpenSpec.ofChange maskSumsWrong)

/-- 'postmarklaw08.MaskFrames': WHATEVER THE INPUT: true; the input reads as it did. -/
def maskFramesSpec : ChangeSpec := { name := "maskFrames", fn := fun _ => fun
  | [d1, d2, d3] => { results := [.lit (.bool true)], args := [d1, d2, d3] }
  | _ => none }
def maskFramesRow : OpenClaim := { program := "ytmfjhgjplmpecaadoor", sum := "b80eb23e297996883fa57d993d0e0c23852ea94b556c64609f276cf2e9bef654", func := "postmark/postmarklaw08.MaskFrames", spec := "maskFrames", named := ["postmark/mask.kinds"], apart := false, laid := [("postmark/mask.kinds", laid_postmark_mask_kinds)] }
def MaskFramesSaid : Prop := maskFramesRow.holds Tryd.pinned (OpenSpec.ofChange maskFramesSpec)

/-- ITS FALSE NEIGHBOUR: 'it returns false'. Refute it at one input. -/
def maskFramesWrong : ChangeSpec := { name := "maskFrames", fn := fun _ => fun
  | [d1, d2, d3] => { results := [.lit (.bool false)], args := [d1, d2, d3] }
  | _ => none }
def MaskFramesWrongFalsely : Prop := maskFramesRow.holds Tryd.pinned (OpenSpec.ofChange maskFramesWrong)

/-- 'postmarklaw08.MaskNames': WHATEVER THE INPUT: true; the input reads as it did. -/
def maskNamesSpec : ChangeSpec := { name := "maskNames", fn := fun _ => fun
  | [] => { results := [.lit (.bool true)], args := [] }
  | _ => none }
def maskNamesRow : OpenClaim := { program := "ytmfjhgjplmpecaadoor", sum := "b80eb23e297996883fa57d993d0e0c23852ea94b556c64609f276cf2e9bef654", func := "postmark/postmarklaw08.MaskNames", spec := "maskNames", unfollowed := true, recurses := true, named := ["postmark/mask.kinds"], apart := false, laid := [("postmark/mask.kinds", laid_postmark_mask_kinds)] }
def MaskNamesSaid : Prop := maskNamesRow.holds Tryd.pinned (OpenSpec.ofChange maskNamesSpec)

/-- ITS FALSE NEIGHBOUR: 'it returns false'. Refute it at one input. -/
def maskNamesWrong : ChangeSpec := { name := "maskNames", fn := fun _ => fun
  | [] => { results := [.lit (.bool false)], args := [] }
  | _ => none }
def MaskNamesWrongFalsely : Prop := maskNamesRow.holds Tryd.pinned (OpenSpec.ofChange maskNamesWrong)

/-- 'postmarklaw08.MaskBegins': WHATEVER THE INPUT: true; the input reads as it did. -/
def maskBeginsSpec : ChangeSpec := { name := "maskBegins", fn := fun _ => fun
  | [d1, d2, d3, d4] => { results := [.lit (.bool true)], args := [d1, d2, d3, d4] }
  | _ => none }
def maskBeginsRow : OpenClaim := { program := "ytmfjhgjplmpecaadoor", sum := "b80eb23e297996883fa57d993d0e0c23852ea94b556c64609f276cf2e9bef654", func := "postmark/postmarklaw08.MaskBegins", spec := "maskBegins", unfollowed := true, recurses := true, named := ["postmark/mask.kinds"], apart := false, laid := [("postmark/mask.kinds", laid_postmark_mask_kinds)] }
def MaskBeginsSaid : Prop := maskBeginsRow.holds Tryd.pinned (OpenSpec.ofChange maskBeginsSpec)

/-- ITS FALSE NEIGHBOUR: 'it returns false'. Refute it at one input. -/
def maskBeginsWrong : ChangeSpec := { name := "maskBegins", fn := fun _ => fun
  | [d1, d2, d3, d4] => { results := [.lit (.bool false)], args := [d1, d2, d3, d4] }
  | _ => none }
def MaskBeginsWrongFalsely : Prop := maskBeginsRow.holds Tryd.pinned (OpenSpec.ofChange maskBeginsWrong)

/-- 'postmarklaw08.MaskApart': WHATEVER THE INPUT: true; the input reads as it did. -/
def maskApartSpec : ChangeSpec := { name := "maskApart", fn := fun _ => fun
  | [d1, d2, d3, d4, d5] => { results := [.lit (.bool true)], args := [d1, d2, d3, d4, d5] }
  | _ => none }
def maskApartRow : OpenClaim := { program := "ytmfjhgjplmpecaadoor", sum := "b80eb23e297996883fa57d993d0e0c23852ea94b556c64609f276cf2e9bef654", func := "postmark/postmarklaw08.MaskApart", spec := "maskApart", unfollowed := true, recurses := true, named := ["postmark/mask.kinds"], apart := false, laid := [("postmark/mask.kinds", laid_postmark_mask_kinds)] }
def MaskApartSaid : Prop := maskApartRow.holds Tryd.pinned (OpenSpec.ofChange maskApartSpec)

/-- ITS FALSE NEIGHBOUR: 'it returns false'. Refute it at one input. -/
def maskApartWrong : ChangeSpec := { name := "maskApart", fn := fun _ => fun
  | [d1, d2, d3, d4, d5] => { results := [.lit (.bool false)], args := [d1, d2, d3, d4, d5] }
  | _ => none }
def MaskApartWrongFalsely : Prop := maskApartRow.holds Tryd.pinned (OpenSpec.ofChange maskApartWrong)

/-- 'postmarklaw08.MaskPieces': WHATEVER THE INPUT: true; the input reads as it did. -/
def maskPiecesSpec : ChangeSpec := { name := "maskPieces", fn := fun _ => fun
  | [d1, d2, d3, d4] => { results := [.lit (.bool true)], args := [d1, d2, d3, d4] }
  | _ => none }
def maskPiecesRow : OpenClaim := { program := "ytmfjhgjplmpecaadoor", sum := "b80eb23e297996883fa57d993d0e0c23852ea94b556c64609f276cf2e9bef654", func := "postmark/postmarklaw08.MaskPieces", spec := "maskPieces", unfollowed := true, recurses := true, named := ["postmark/mask.kinds"], apart := false, laid := [("postmark/mask.kinds", laid_postmark_mask_kinds)] }
def MaskPiecesSaid : Prop := maskPiecesRow.holds Tryd.pinned (OpenSpec.ofChange maskPiecesSpec)

/-- ITS FALSE NEIGHBOUR: 'it returns false'. Refute it at one input. -/
def maskPiecesWrong : ChangeSpec := { name := "maskPieces", fn := fun _ => fun
  | [d1, d2, d3, d4] => { results := [.lit (.bool false)], args := [d1, d2, d3, d4] }
  | _ => none }
def MaskPiecesWrongFalsely : Prop := maskPiecesRow.holds Tryd.pinned (OpenSpec.ofChange maskPiecesWrong)

/- THE SECOND FORM. 'bulk': how many values and letters a reading holds, each counted each time it is reached (what is shared counts as often as it is met; a slice's spare places count too). A statement '..UptoSaid' is the law's where the arguments, and the package variables that the reading takes, are together of bulk at most 1048576: NARROWER than '..Said'. Prove '..Said' where nothing that the law and all that it calls make is longer than what came in: it says more and counts as full. Else prove '..UptoSaid'. A law counts once. -/
mutual
def uptoBulk {H : Type} : DataW H → Nat
  | .lit (.string bytes) => bytes.length + 1
  | .lit _ => 1
  | .nil => 1
  | .ptr d => uptoBulk d + 1
  | .slice elems spare => uptoBulkAll elems + uptoBulkAll spare + 1
  | .agg parts => uptoBulkAll parts + 1
  | .iface _ d => uptoBulk d + 1
  | .map entries => uptoBulkEntries entries + 1
  | .held _ => 1
def uptoBulkAll {H : Type} : List (DataW H) → Nat
  | [] => 0
  | d :: r => uptoBulk d + uptoBulkAll r
def uptoBulkEntries {H : Type} : List (Lit × DataW H) → Nat
  | [] => 0
  | x :: r => uptoBulkEntry x + uptoBulkEntries r
def uptoBulkEntry {H : Type} : Lit × DataW H → Nat
  | (.string bytes, d) => bytes.length + uptoBulk d + 1
  | (_, d) => uptoBulk d + 1
 end
def uptoSmall : (H : Type) → List (DataW H) → Bool := fun _ ds => decide (uptoBulkAll ds ≤ 1048576)
def OpenSpec.upto (s : _root_.Go.ChangeSpec) : _root_.Go.OpenSpec := { _root_.Go.OpenSpec.ofChange s with cond := some uptoSmall }

/-- 'postmarklaw08.MaskSums', WHERE WHAT IT READS IS OF BULK AT MOST 1048576: true; the input reads as it did. -/
def maskSumsUptoRow : OpenClaim := { program := "ytmfjhgjplmpecaadoor", sum := "b80eb23e297996883fa57d993d0e0c23852ea94b556c64609f276cf2e9bef654", func := "postmark/postmarklaw08.MaskSums", spec := "maskSums", unfollowed := true, recurses := true, named := ["postmark/mask.kinds"], apart := false, laid := [("postmark/mask.kinds", laid_postmark_mask_kinds)], narrowed := true }
def MaskSumsUptoSaid : Prop := maskSumsUptoRow.holds Tryd.pinned (OpenSpec.upto maskSumsSpec)

/-- 'postmarklaw08.MaskFrames', WHERE WHAT IT READS IS OF BULK AT MOST 1048576: true; the input reads as it did. -/
def maskFramesUptoRow : OpenClaim := { program := "ytmfjhgjplmpecaadoor", sum := "b80eb23e297996883fa57d993d0e0c23852ea94b556c64609f276cf2e9bef654", func := "postmark/postmarklaw08.MaskFrames", spec := "maskFrames", named := ["postmark/mask.kinds"], apart := false, laid := [("postmark/mask.kinds", laid_postmark_mask_kinds)], narrowed := true }
def MaskFramesUptoSaid : Prop := maskFramesUptoRow.holds Tryd.pinned (OpenSpec.upto maskFramesSpec)

/-- 'postmarklaw08.MaskNames', WHERE WHAT IT READS IS OF BULK AT MOST 1048576: true; the input reads as it did. -/
def maskNamesUptoRow : OpenClaim := { program := "ytmfjhgjplmpecaadoor", sum := "b80eb23e297996883fa57d993d0e0c23852ea94b556c64609f276cf2e9bef654", func := "postmark/postmarklaw08.MaskNames", spec := "maskNames", unfollowed := true, recurses := true, named := ["postmark/mask.kinds"], apart := false, laid := [("postmark/mask.kinds", laid_postmark_mask_kinds)], narrowed := true }
def MaskNamesUptoSaid : Prop := maskNamesUptoRow.holds Tryd.pinned (OpenSpec.upto maskNamesSpec)

/-- 'postmarklaw08.MaskBegins', WHERE WHAT IT READS IS OF BULK AT MOST 1048576: true; the input reads as it did. -/
def maskBeginsUptoRow : OpenClaim := { program := "ytmfjhgjplmpecaadoor", sum := "b80eb23e297996883fa57d993d0e0c23852ea94b556c64609f276cf2e9bef654", func := "postmark/postmarklaw08.MaskBegins", spec := "maskBegins", unfollowed := true, recurses := true, named := ["postmark/mask.kinds"], apart := false, laid := [("postmark/mask.kinds", laid_postmark_mask_kinds)], narrowed := true }
def MaskBeginsUptoSaid : Prop := maskBeginsUptoRow.holds Tryd.pinned (OpenSpec.upto maskBeginsSpec)

/-- 'postmarklaw08.MaskApart', WHERE WHAT IT READS IS OF BULK AT MOST 1048576: true; the input reads as it did. -/
def maskApartUptoRow : OpenClaim := { program := "ytmfjhgjplmpecaadoor", sum := "b80eb23e297996883fa57d993d0e0c23852ea94b556c64609f276cf2e9bef654", func := "postmark/postmarklaw08.MaskApart", spec := "maskApart", unfollowed := true, recurses := true, named := ["postmark/mask.kinds"], apart := false, laid := [("postmark/mask.kinds", laid_postmark_mask_kinds)], narrowed := true }
def MaskApartUptoSaid : Prop := maskApartUptoRow.holds Tryd.pinned (OpenSpec.upto maskApartSpec)

/-- 'postmarklaw08.MaskPieces', WHERE WHAT IT READS IS OF BULK AT MOST 1048576: true; the input reads as it did. -/
def maskPiecesUptoRow : OpenClaim := { program := "ytmfjhgjplmpecaadoor", sum := "b80eb23e297996883fa57d993d0e0c23852ea94b556c64609f276cf2e9bef654", func := "postmark/postmarklaw08.MaskPieces", spec := "maskPieces", unfollowed := true, recurses := true, named := ["postmark/mask.kinds"], apart := false, laid := [("postmark/mask.kinds", laid_postmark_mask_kinds)], narrowed := true }
def MaskPiecesUptoSaid : Prop := maskPiecesUptoRow.holds Tryd.pinned (OpenSpec.upto maskPiecesSpec)

end Rows
end Go.Proofs.YtmfjhgjplmpecaaDoor
