/-
  NARROWER THAN 'FOR EVERY INPUT', by the rows' own cells (each row's printed sentence says how): RsaSigns: laid · RsaVerifies: laid · RsaNames: laid · RsaUndoes: laid · RsaBack: laid · RsaOnly: laid.
  DERIVED. THE GIVEN ROWS OF THIS SEAT. 6 by the template 'for every input the law returns true; each argument reads behind the call as it read before'; 0 by the template 'total and deterministic' (their statements: YtpefjkndfifceaaGreatDoorTotals.lean).
  GIVEN WITH THE SEED: the statements are not yours to turn. If you find one false, say at which input.
  Laid BY PROGRAM, IN A SANDBOX (cutbox-rows.mjs): the forced cells as the released guide's own fill.sh prints them over the translation e24bd5004f10aca0… (all of the seat's roots in one cut). By AI agents, Wed Nov 11 2026. No macro, syntax, notation, axiom, sorry.
-/
import Derived.Test.YtpefjkndfifceaaGreatDoorChecked
import GoSem.Claim
import GoSem.ClaimJoined
import GoSem.ClaimMapViews
import Derived.JoinedTies
import Derived.KernelRfl
namespace Go.Proofs.YtpefjkndfifceaaGreatDoor
/- THE CELL 'sum', in the pinned program and in every row, IS THE sha256 OF THE DUMP (.gsa) THAT YtpefjkndfifceaaGreatDoorProg.lean LOADS. Nothing in Lean hashes anything: it is a label: what it is worth is what the hold of that sum in a sandbox is worth. -/
noncomputable def Tryz.pinned : Pinned := { name := "ytpefjkndfifceaagreatdoor", sum := "e24bd5004f10aca095644ced5d949b176682523d6d968c9c644f5517427d4c84", checked := Tryz.checked }
namespace Rows
def none {H : Type} : Left H := { results := [], args := [] }

/- WHAT THE LISTED PACKAGE-LEVEL VARIABLES READ AS WHEN THE CALL BEGINS. Each datum BY PROGRAM (the guide's laid-datum.mjs) off the statement by which the dump's own 'gosem.cut.vars' lays the variable. In a bare row this is a premise. The card (YtpefjkndfifceaaGreatDoorCards.lean) ties it to the program's text. -/
def laid_postmark_mask_kinds {H : Type} : DataW H := .agg [.agg [.lit (.string [115, 104, 97, 50, 50, 52]), .lit (.int .i64 28), .lit (.int .u8 4)], .agg [.lit (.string [115, 104, 97, 50, 53, 54]), .lit (.int .i64 32), .lit (.int .u8 1)], .agg [.lit (.string [115, 104, 97, 51, 56, 52]), .lit (.int .i64 48), .lit (.int .u8 2)], .agg [.lit (.string [115, 104, 97, 53, 49, 50]), .lit (.int .i64 64), .lit (.int .u8 3)]]

/-- 'postmarklaw10.RsaSigns': WHATEVER THE INPUT: true; the input reads as it did. -/
def rsaSignsSpec : ChangeSpec := { name := "rsaSigns", fn := fun _ => fun
  | [d1, d2, d3, d4, d5] => { results := [.lit (.bool true)], args := [d1, d2, d3, d4, d5] }
  | _ => none }
def rsaSignsRow : OpenClaim := { program := "ytpefjkndfifceaagreatdoor", sum := "e24bd5004f10aca095644ced5d949b176682523d6d968c9c644f5517427d4c84", func := "postmark/postmarklaw10.RsaSigns", spec := "rsaSigns", unfollowed := true, recurses := true, named := ["postmark/mask.kinds"], apart := false, laid := [("postmark/mask.kinds", laid_postmark_mask_kinds)] }
def RsaSignsSaid : Prop := rsaSignsRow.holds Tryz.pinned (OpenSpec.ofChange rsaSignsSpec)

/-- ITS FALSE NEIGHBOUR: 'it returns false'. Refute it at one input. -/
def rsaSignsWrong : ChangeSpec := { name := "rsaSigns", fn := fun _ => fun
  | [d1, d2, d3, d4, d5] => { results := [.lit (.bool false)], args := [d1, d2, d3, d4, d5] }
  | _ => none }
def RsaSignsWrongFalsely : Prop := rsaSignsRow.holds Tryz.pinned (OpenSpec.ofChange rsaSignsWrong)

/-- 'postmarklaw10.RsaVerifies': WHATEVER THE INPUT: true; the input reads as it did. -/
def rsaVerifiesSpec : ChangeSpec := { name := "rsaVerifies", fn := fun _ => fun
  | [d1, d2, d3, d4, d5] => { results := [.lit (.bool true)], args := [d1, d2, d3, d4, d5] }
  | _ => none }
def rsaVerifiesRow : OpenClaim := { program := "ytpefjkndfifceaagreatdoor", sum := "e24bd5004f10aca095644ced5d949b176682523d6d968c9c644f5517427d4c84", func := "postmark/postmarklaw10.RsaVerifies", spec := "rsaVerifies", unfollowed := true, recurses := true, named := ["postmark/mask.kinds"], apart := false, laid := [("postmark/mask.kinds", laid_postmark_mask_kinds)] }
def RsaVerifiesSaid : Prop := rsaVerifiesRow.holds Tryz.pinned (OpenSpec.ofChange rsaVerifiesSpec)

/-- ITS FALSE NEIGHBOUR: 'it returns false'. Refute it at one input. -/
def rsaVerifiesWrong : ChangeSpec := { name := "rsaVerifies", fn := fun _ => fun
  | [d1, d2, d3, d4, d5] => { results := [.lit (.bool false)], args := [d1, d2, d3, d4, d5] }
  | _ => none }
def RsaVerifiesWrongFalsely : Prop := rsaVerifiesRow.holds Tryz.pinned (OpenSpec.ofChange rsaVerifiesWrong)

/-- 'postmarklaw10.RsaNames': WHATEVER THE INPUT: true; the input reads as it did. -/
def rsaNamesSpec : ChangeSpec := { name := "rsaNames", fn := fun _ => fun
  | [] => { results := [.lit (.bool true)], args := [] }
  | _ => none }
def rsaNamesRow : OpenClaim := { program := "ytpefjkndfifceaagreatdoor", sum := "e24bd5004f10aca095644ced5d949b176682523d6d968c9c644f5517427d4c84", func := "postmark/postmarklaw10.RsaNames", spec := "rsaNames", unfollowed := true, recurses := true, named := ["postmark/mask.kinds"], apart := false, laid := [("postmark/mask.kinds", laid_postmark_mask_kinds)] }
def RsaNamesSaid : Prop := rsaNamesRow.holds Tryz.pinned (OpenSpec.ofChange rsaNamesSpec)

/-- ITS FALSE NEIGHBOUR: 'it returns false'. Refute it at one input. -/
def rsaNamesWrong : ChangeSpec := { name := "rsaNames", fn := fun _ => fun
  | [] => { results := [.lit (.bool false)], args := [] }
  | _ => none }
def RsaNamesWrongFalsely : Prop := rsaNamesRow.holds Tryz.pinned (OpenSpec.ofChange rsaNamesWrong)

/-- 'postmarklaw10.RsaUndoes': WHATEVER THE INPUT: true; the input reads as it did. -/
def rsaUndoesSpec : ChangeSpec := { name := "rsaUndoes", fn := fun _ => fun
  | [d1, d2] => { results := [.lit (.bool true)], args := [d1, d2] }
  | _ => none }
def rsaUndoesRow : OpenClaim := { program := "ytpefjkndfifceaagreatdoor", sum := "e24bd5004f10aca095644ced5d949b176682523d6d968c9c644f5517427d4c84", func := "postmark/postmarklaw10.RsaUndoes", spec := "rsaUndoes", unfollowed := true, recurses := true, named := ["postmark/mask.kinds"], apart := false, laid := [("postmark/mask.kinds", laid_postmark_mask_kinds)] }
def RsaUndoesSaid : Prop := rsaUndoesRow.holds Tryz.pinned (OpenSpec.ofChange rsaUndoesSpec)

/-- ITS FALSE NEIGHBOUR: 'it returns false'. Refute it at one input. -/
def rsaUndoesWrong : ChangeSpec := { name := "rsaUndoes", fn := fun _ => fun
  | [d1, d2] => { results := [.lit (.bool false)], args := [d1, d2] }
  | _ => none }
def RsaUndoesWrongFalsely : Prop := rsaUndoesRow.holds Tryz.pinned (OpenSpec.ofChange rsaUndoesWrong)

/-- 'postmarklaw10.RsaBack': WHATEVER THE INPUT: true; the input reads as it did. -/
def rsaBackSpec : ChangeSpec := { name := "rsaBack", fn := fun _ => fun
  | [d1, d2, d3, d4, d5, d6] => { results := [.lit (.bool true)], args := [d1, d2, d3, d4, d5, d6] }
  | _ => none }
def rsaBackRow : OpenClaim := { program := "ytpefjkndfifceaagreatdoor", sum := "e24bd5004f10aca095644ced5d949b176682523d6d968c9c644f5517427d4c84", func := "postmark/postmarklaw10.RsaBack", spec := "rsaBack", unfollowed := true, recurses := true, named := ["postmark/mask.kinds"], apart := false, laid := [("postmark/mask.kinds", laid_postmark_mask_kinds)] }
def RsaBackSaid : Prop := rsaBackRow.holds Tryz.pinned (OpenSpec.ofChange rsaBackSpec)

/-- ITS FALSE NEIGHBOUR: 'it returns false'. Refute it at one input. -/
def rsaBackWrong : ChangeSpec := { name := "rsaBack", fn := fun _ => fun
  | [d1, d2, d3, d4, d5, d6] => { results := [.lit (.bool false)], args := [d1, d2, d3, d4, d5, d6] }
  | _ => none }
def RsaBackWrongFalsely : Prop := rsaBackRow.holds Tryz.pinned (OpenSpec.ofChange rsaBackWrong)

/-- 'postmarklaw10.RsaOnly': WHATEVER THE INPUT: true; the input reads as it did. -/
def rsaOnlySpec : ChangeSpec := { name := "rsaOnly", fn := fun _ => fun
  | [d1, d2, d3, d4] => { results := [.lit (.bool true)], args := [d1, d2, d3, d4] }
  | _ => none }
def rsaOnlyRow : OpenClaim := { program := "ytpefjkndfifceaagreatdoor", sum := "e24bd5004f10aca095644ced5d949b176682523d6d968c9c644f5517427d4c84", func := "postmark/postmarklaw10.RsaOnly", spec := "rsaOnly", unfollowed := true, recurses := true, named := ["postmark/mask.kinds"], apart := false, laid := [("postmark/mask.kinds", laid_postmark_mask_kinds)] }
def RsaOnlySaid : Prop := rsaOnlyRow.holds Tryz.pinned (OpenSpec.ofChange rsaOnlySpec)

/-- ITS FALSE NEIGHBOUR: 'it returns false'. Refute it at one input. -/
def rsaOnlyWrong : ChangeSpec := { name := "rsaOnly", fn := fun _ => fun
  | [d1, d2, d3, d4] => { results := [.lit (.bool false)], args := [d1, d2, d3, d4] }
  | _ => none }
def RsaOnlyWrongFalsely : Prop := rsaOnlyRow.holds Tryz.pinned (OpenSpec.ofChange rsaOnlyWrong)

/- THE SECOND FORM. 'bulk': how many values and letters a reading holds, each counted each time it is reached (what is shared counts as often as it is met; a slice's spare places count too). A statement '..UptoSaid' is the law's where the arguments, and the package variables that the reading takes, are together of bulk at most 1048576: NARROWER than '..Said'. Prove '..Said' where nothing that the law and all that it calls make is longer than what came in: it says more and counts as full. Else prove '..UptoSaid'. A law counts once. -/
mutual
def uptoBulk {H : Type} : DataW H → Nat
  | .lit (.string bytes) => bytes.length + 1
  | .lit _ => 1
  | .nil => 1
  | .ptr d => uptoBulk d + 1
  | .slice elems spare => uptoBulkAll elems + uptoBulkAll spare + 1
  | .agg parts => uptoBulkAll parts + 1
  | .iface _ d => uptoBulk d + 1
  | .map entries => uptoBulkEntries entries + 1
  | .held _ => 1
def uptoBulkAll {H : Type} : List (DataW H) → Nat
  | [] => 0
  | d :: r => uptoBulk d + uptoBulkAll r
def uptoBulkEntries {H : Type} : List (Lit × DataW H) → Nat
  | [] => 0
  | x :: r => uptoBulkEntry x + uptoBulkEntries r
def uptoBulkEntry {H : Type} : Lit × DataW H → Nat
  | (.string bytes, d) => bytes.length + uptoBulk d + 1
  | (_, d) => uptoBulk d + 1
 end
def uptoSmall : (H : Type) → List (DataW H) → Bool := fun _ ds => decide (uptoBulkAll ds ≤ 1048576)
def OpenSpec.upto (s : _root_.Go.ChangeSpec) : _root_.Go.OpenSpec := { _root_.Go.OpenSpec.ofChange s with cond := some uptoSmall }

/-- 'postmarklaw10.RsaSigns', WHERE WHAT IT READS IS OF BULK AT MOST 1048576: true; the input reads as it did. -/
def rsaSignsUptoRow : OpenClaim := { program := "ytpefjkndfifceaagreatdoor", sum := "e24bd5004f10aca095644ced5d949b176682523d6d968c9c644f5517427d4c84", func := "postmark/postmarklaw10.RsaSigns", spec := "rsaSigns", unfollowed := true, recurses := true, named := ["postmark/mask.kinds"], apart := false, laid := [("postmark/mask.kinds", laid_postmark_mask_kinds)], narrowed := true }
def RsaSignsUptoSaid : Prop := rsaSignsUptoRow.holds Tryz.pinned (OpenSpec.upto rsaSignsSpec)

/-- 'postmarklaw10.RsaVerifies', WHERE WHAT IT READS IS OF BULK AT MOST 1048576: true; the input reads as it did. -/
def rsaVerifiesUptoRow : OpenClaim := { program := "ytpefjkndfifceaagreatdoor", sum := "e24bd5004f10aca095644ced5d949b176682523d6d968c9c644f5517427d4c84", func := "postmark/postmarklaw10.RsaVerifies", spec := "rsaVerifies", unfollowed := true, recurses := true, named := ["postmark/mask.kinds"], apart := false, laid := [("postmark/mask.kinds", laid_postmark_mask_kinds)], narrowed := true }
def RsaVerifiesUptoSaid : Prop := rsaVerifiesUptoRow.holds Tryz.pinned (OpenSpec.upto rsaVerifiesSpec)

/-- 'postmarklaw10.RsaNames', WHERE WHAT IT READS IS OF BULK AT MOST 1048576: true; the input reads as it did. -/
def rsaNamesUptoRow : OpenClaim := { program := "ytpefjkndfifceaagreatdoor", sum := "e24bd5004f10aca095644ced5d949b176682523d6d968c9c644f5517427d4c84", func := "postmark/postmarklaw10.RsaNames", spec := "rsaNames", unfollowed := true, recurses := true, named := ["postmark/mask.kinds"], apart := false, laid := [("postmark/mask.kinds", laid_postmark_mask_kinds)], narrowed := true }
def RsaNamesUptoSaid : Prop := rsaNamesUptoRow.holds Tryz.pinned (OpenSpec.upto rsaNamesSpec)

/-- 'postmarklaw10.RsaUndoes', WHERE WHAT IT READS IS OF BULK AT MOST 1048576: true; the input reads as it did. -/
def rsaUndoesUptoRow : OpenClaim := { program := "ytpefjkndfifceaagreatdoor", sum := "e24bd5004f10aca095644ced5d949b176682523d6d968c9c644f5517427d4c84", func := "postmark/postmarklaw10.RsaUndoes", spec := "rsaUndoes", unfollowed := true, recurses := true, named := ["postmark/mask.kinds"], apart := false, laid := [("postmark/mask.kinds", laid_postmark_mask_kinds)], narrowed := true }
def RsaUndoesUptoSaid : Prop := rsaUndoesUptoRow.holds Tryz.pinned (OpenSpec.upto rsaUndoesSpec)

/-- 'postmarklaw10.RsaBack', WHERE WHAT IT READS IS OF BULK AT MOST 1048576: true; the input reads as it did. -/
def rsaBackUptoRow : OpenClaim := { program := "ytpefjkndfifceaagreatdoor", sum := "e24bd5004f10aca095644ced5d949b176682523d6d968c9c644f5517427d4c84", func := "postmark/postmarklaw10.RsaBack", spec := "rsaBack", unfollowed := true, recurses := true, named := ["postmark/mask.kinds"], apart := false, laid := [("postmark/mask.kinds", laid_postmark_mask_kinds)], narrowed := true }
def RsaBackUptoSaid : Prop := rsaBackUptoRow.holds Tryz.pinned (OpenSpec.upto rsaBackSpec)

/-- 'postmarklaw10.RsaOnly', WHERE WHAT IT READS IS OF BULK AT MOST 1048576: true; the input reads as it did. -/
def rsaOnlyUptoRow : OpenClaim := { program := "ytpefjkndfifceaagreatdoor", sum := "e24bd5004f10aca095644ced5d949b176682523d6d968c9c644f5517427d4c84", func := "postmark/postmarklaw10.RsaOnly", spec := "rsaOnly", unfollowed := true, recurses := true, named := ["postmark/mask.kinds"], apart := false, laid := [("postmark/mask.kinds", laid_postmark_mask_kinds)], narrowed := true }
def RsaOnlyUptoSaid : Prop := rsaOnlyUptoRow.holds Tryz.pinned (OpenSpec.upto rsaOnlySpec)

end Rows
end Go.Proofs.YtpefjkndfifceaaGreatDoor
