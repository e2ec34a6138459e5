/-
  NARROWER THAN 'FOR EVERY INPUT', by the rows' own cells (each row's printed sentence says how): PssTells: laid · PssNames: laid · PssBack: laid · PssOnly: laid · PssTurned: laid.
  DERIVED. THE GIVEN ROWS OF THIS SEAT. 5 by the template 'for every input the law returns true; each argument reads behind the call as it read before'; 0 by the template 'total and deterministic' (their statements: YtcdglhmapijebaaDoorTotals.lean).
  GIVEN WITH THE SEED: the statements are not yours to turn. If you find one false, say at which input.
  Laid BY PROGRAM, IN A SANDBOX (cutbox-rows.mjs): the forced cells as the released guide's own fill.sh prints them over the translation 44da18c3488d737e… (all of the seat's roots in one cut). By AI agents, Wed Nov 11 2026. No macro, syntax, notation, axiom, sorry.
-/
import Derived.Test.YtcdglhmapijebaaDoorChecked
import GoSem.Claim
import GoSem.ClaimJoined
import GoSem.ClaimMapViews
import Derived.JoinedTies
import Derived.KernelRfl
namespace Go.Proofs.YtcdglhmapijebaaDoor
/- THE CELL 'sum', in the pinned program and in every row, IS THE sha256 OF THE DUMP (.gsa) THAT YtcdglhmapijebaaDoorProg.lean LOADS. Nothing in Lean hashes anything: it is a label: what it is worth is what the hold of that sum in a sandbox is worth. -/
noncomputable def Tryd.pinned : Pinned := { name := "ytcdglhmapijebaadoor", sum := "44da18c3488d737e291d610ae2260c4f0c29afc21297231996e5d8a543ec0c37", checked := Tryd.checked }
namespace Rows
def none {H : Type} : Left H := { results := [], args := [] }

/- WHAT THE LISTED PACKAGE-LEVEL VARIABLES READ AS WHEN THE CALL BEGINS. Each datum BY PROGRAM (the guide's laid-datum.mjs) off the statement by which the dump's own 'gosem.cut.vars' lays the variable. In a bare row this is a premise. The card (YtcdglhmapijebaaDoorCards.lean) ties it to the program's text. -/
def laid_postmark_mask_kinds {H : Type} : DataW H := .agg [.agg [.lit (.string [115, 104, 97, 50, 50, 52]), .lit (.int .i64 28), .lit (.int .u8 4)], .agg [.lit (.string [115, 104, 97, 50, 53, 54]), .lit (.int .i64 32), .lit (.int .u8 1)], .agg [.lit (.string [115, 104, 97, 51, 56, 52]), .lit (.int .i64 48), .lit (.int .u8 2)], .agg [.lit (.string [115, 104, 97, 53, 49, 50]), .lit (.int .i64 64), .lit (.int .u8 3)]]

/-- 'postmarklaw09.PssTells': WHATEVER THE INPUT: true; the input reads as it did. -/
def pssTellsSpec : ChangeSpec := { name := "pssTells", fn := fun _ => fun
  | [d] => { results := [.lit (.bool true)], args := [d] }
  | _ => none }
def pssTellsRow : OpenClaim := { program := "ytcdglhmapijebaadoor", sum := "44da18c3488d737e291d610ae2260c4f0c29afc21297231996e5d8a543ec0c37", func := "postmark/postmarklaw09.PssTells", spec := "pssTells", unfollowed := true, recurses := true, named := ["postmark/mask.kinds"], apart := false, laid := [("postmark/mask.kinds", laid_postmark_mask_kinds)] }
def PssTellsSaid : Prop := pssTellsRow.holds Tryd.pinned (OpenSpec.ofChange pssTellsSpec)

/-- ITS FALSE NEIGHBOUR: 'it returns false'. Refute it at one input. -/
def pssTellsWrong : ChangeSpec := { name := "pssTells", fn := fun _ => fun
  | [d] => { results := [.lit (.bool false)], args := [d] }
  | _ => none }
def PssTellsWrongFalsely : Prop := pssTellsRow.holds Tryd.pinned (OpenSpec.ofChange pssTellsWrong)

/-- 'postmarklaw09.PssNames': WHATEVER THE INPUT: true; the input reads as it did. -/
def pssNamesSpec : ChangeSpec := { name := "pssNames", fn := fun _ => fun
  | [] => { results := [.lit (.bool true)], args := [] }
  | _ => none }
def pssNamesRow : OpenClaim := { program := "ytcdglhmapijebaadoor", sum := "44da18c3488d737e291d610ae2260c4f0c29afc21297231996e5d8a543ec0c37", func := "postmark/postmarklaw09.PssNames", spec := "pssNames", unfollowed := true, recurses := true, named := ["postmark/mask.kinds"], apart := false, laid := [("postmark/mask.kinds", laid_postmark_mask_kinds)] }
def PssNamesSaid : Prop := pssNamesRow.holds Tryd.pinned (OpenSpec.ofChange pssNamesSpec)

/-- ITS FALSE NEIGHBOUR: 'it returns false'. Refute it at one input. -/
def pssNamesWrong : ChangeSpec := { name := "pssNames", fn := fun _ => fun
  | [] => { results := [.lit (.bool false)], args := [] }
  | _ => none }
def PssNamesWrongFalsely : Prop := pssNamesRow.holds Tryd.pinned (OpenSpec.ofChange pssNamesWrong)

/-- 'postmarklaw09.PssBack': WHATEVER THE INPUT: true; the input reads as it did. -/
def pssBackSpec : ChangeSpec := { name := "pssBack", fn := fun _ => fun
  | [d1, d2, d3, d4, d5] => { results := [.lit (.bool true)], args := [d1, d2, d3, d4, d5] }
  | _ => none }
def pssBackRow : OpenClaim := { program := "ytcdglhmapijebaadoor", sum := "44da18c3488d737e291d610ae2260c4f0c29afc21297231996e5d8a543ec0c37", func := "postmark/postmarklaw09.PssBack", spec := "pssBack", unfollowed := true, recurses := true, named := ["postmark/mask.kinds"], apart := false, laid := [("postmark/mask.kinds", laid_postmark_mask_kinds)] }
def PssBackSaid : Prop := pssBackRow.holds Tryd.pinned (OpenSpec.ofChange pssBackSpec)

/-- ITS FALSE NEIGHBOUR: 'it returns false'. Refute it at one input. -/
def pssBackWrong : ChangeSpec := { name := "pssBack", fn := fun _ => fun
  | [d1, d2, d3, d4, d5] => { results := [.lit (.bool false)], args := [d1, d2, d3, d4, d5] }
  | _ => none }
def PssBackWrongFalsely : Prop := pssBackRow.holds Tryd.pinned (OpenSpec.ofChange pssBackWrong)

/-- 'postmarklaw09.PssOnly': WHATEVER THE INPUT: true; the input reads as it did. -/
def pssOnlySpec : ChangeSpec := { name := "pssOnly", fn := fun _ => fun
  | [d] => { results := [.lit (.bool true)], args := [d] }
  | _ => none }
def pssOnlyRow : OpenClaim := { program := "ytcdglhmapijebaadoor", sum := "44da18c3488d737e291d610ae2260c4f0c29afc21297231996e5d8a543ec0c37", func := "postmark/postmarklaw09.PssOnly", spec := "pssOnly", unfollowed := true, recurses := true, named := ["postmark/mask.kinds"], apart := false, laid := [("postmark/mask.kinds", laid_postmark_mask_kinds)] }
def PssOnlySaid : Prop := pssOnlyRow.holds Tryd.pinned (OpenSpec.ofChange pssOnlySpec)

/-- ITS FALSE NEIGHBOUR: 'it returns false'. Refute it at one input. -/
def pssOnlyWrong : ChangeSpec := { name := "pssOnly", fn := fun _ => fun
  | [d] => { results := [.lit (.bool false)], args := [d] }
  | _ => none }
def PssOnlyWrongFalsely : Prop := pssOnlyRow.holds Tryd.pinned (OpenSpec.ofChange pssOnlyWrong)

/-- 'postmarklaw09.PssTurned': WHATEVER THE INPUT: true; the input reads as it did. -/
def pssTurnedSpec : ChangeSpec := { name := "pssTurned", fn := fun _ => fun
  | [d1, d2, d3, d4, d5] => { results := [.lit (.bool true)], args := [d1, d2, d3, d4, d5] }
  | _ => none }
def pssTurnedRow : OpenClaim := { program := "ytcdglhmapijebaadoor", sum := "44da18c3488d737e291d610ae2260c4f0c29afc21297231996e5d8a543ec0c37", func := "postmark/postmarklaw09.PssTurned", spec := "pssTurned", unfollowed := true, recurses := true, named := ["postmark/mask.kinds"], apart := false, laid := [("postmark/mask.kinds", laid_postmark_mask_kinds)] }
def PssTurnedSaid : Prop := pssTurnedRow.holds Tryd.pinned (OpenSpec.ofChange pssTurnedSpec)

/-- ITS FALSE NEIGHBOUR: 'it returns false'. Refute it at one input. -/
def pssTurnedWrong : ChangeSpec := { name := "pssTurned", fn := fun _ => fun
  | [d1, d2, d3, d4, d5] => { results := [.lit (.bool false)], args := [d1, d2, d3, d4, d5] }
  | _ => none }
def PssTurnedWrongFalsely : Prop := pssTurnedRow.holds Tryd.pinned (OpenSpec.ofChange pssTurnedWrong)

/- THE SECOND FORM. 'bulk': how many values and letters a reading holds, each counted each time it is reached (what is shared counts as often as it is met; a slice's spare places count too). A statement '..UptoSaid' is the law's where the arguments, and the package variables that the reading takes, are together of bulk at most 1048576: NARROWER than '..Said'. Prove '..Said' where nothing that the law and all that it calls make is longer than what came in: it says more and counts as full. Else prove '..UptoSaid'. A law counts once. -/
mutual
def uptoBulk {H : Type} : DataW H → Nat
  | .lit (.string bytes) => bytes.length + 1
  | .lit _ => 1
  | .nil => 1
  | .ptr d => uptoBulk d + 1
  | .slice elems spare => uptoBulkAll elems + uptoBulkAll spare + 1
  | .agg parts => uptoBulkAll parts + 1
  | .iface _ d => uptoBulk d + 1
  | .map entries => uptoBulkEntries entries + 1
  | .held _ => 1
def uptoBulkAll {H : Type} : List (DataW H) → Nat
  | [] => 0
  | d :: r => uptoBulk d + uptoBulkAll r
def uptoBulkEntries {H : Type} : List (Lit × DataW H) → Nat
  | [] => 0
  | x :: r => uptoBulkEntry x + uptoBulkEntries r
def uptoBulkEntry {H : Type} : Lit × DataW H → Nat
  | (.string bytes, d) => bytes.length + uptoBulk d + 1
  | (_, d) => uptoBulk d + 1
 end
def uptoSmall : (H : Type) → List (DataW H) → Bool := fun _ ds => decide (uptoBulkAll ds ≤ 1048576)
def OpenSpec.upto (s : _root_.Go.ChangeSpec) : _root_.Go.OpenSpec := { _root_.Go.OpenSpec.ofChange s with cond := some uptoSmall }

/-- 'postmarklaw09.PssTells', WHERE WHAT IT READS IS OF BULK AT MOST 1048576: true; the input reads as it did. -/
def pssTellsUptoRow : OpenClaim := { program := "ytcdglhmapijebaadoor", sum := "44da18c3488d737e291d610ae2260c4f0c29afc21297231996e5d8a543ec0c37", func := "postmark/postmarklaw09.PssTells", spec := "pssTells", unfollowed := true, recurses := true, named := ["postmark/mask.kinds"], apart := false, laid := [("postmark/mask.kinds", laid_postmark_mask_kinds)], narrowed := true }
def PssTellsUptoSaid : Prop := pssTellsUptoRow.holds Tryd.pinned (OpenSpec.upto pssTellsSpec)

/-- 'postmarklaw09.PssNames', WHERE WHAT IT READS IS OF BULK AT MOST 1048576: true; the input reads as it did. -/
def pssNamesUptoRow : OpenClaim := { program := "ytcdglhmapijebaadoor", sum := "44da18c3488d737e291d610ae2260c4f0c29afc21297231996e5d8a543ec0c37", func := "postmark/postmarklaw09.PssNames", spec := "pssNames", unfollowed := true, recurses := true, named := ["postmark/mask.kinds"], apart := false, laid := [("postmark/mask.kinds", laid_postmark_mask_kinds)], narrowed := true }
def PssNamesUptoSaid : Prop := pssNamesUptoRow.holds Tryd.pinned (OpenSpec.upto pssNamesSpec)

/-- 'postmarklaw09.PssBack', WHERE WHAT IT READS IS OF BULK AT MOST 1048576: true; the input reads as it did. -/
def pssBackUptoRow : OpenClaim := { program := "ytcdglhmapijebaadoor", sum := "44da18c3488d737e291d610ae2260c4f0c29afc21297231996e5d8a543ec0c37", func := "postmark/postmarklaw09.PssBack", spec := "pssBack", unfollowed := true, recurses := true, named := ["postmark/mask.kinds"], apart := false, laid := [("postmark/mask.kinds", laid_postmark_mask_kinds)], narrowed := true }
def PssBackUptoSaid : Prop := pssBackUptoRow.holds Tryd.pinned (OpenSpec.upto pssBackSpec)

/-- 'postmarklaw09.PssOnly', WHERE WHAT IT READS IS OF BULK AT MOST 1048576: true; the input reads as it did. -/
def pssOnlyUptoRow : OpenClaim := { program := "ytcdglhmapijebaadoor", sum := "44da18c3488d737e291d610ae2260c4f0c29afc21297231996e5d8a543ec0c37", func := "postmark/postmarklaw09.PssOnly", spec := "pssOnly", unfollowed := true, recurses := true, named := ["postmark/mask.kinds"], apart := false, laid := [("postmark/mask.kinds", laid_postmark_mask_kinds)], narrowed := true }
def PssOnlyUptoSaid : Prop := pssOnlyUptoRow.holds Tryd.pinned (OpenSpec.upto pssOnlySpec)

/-- 'postmarklaw09.PssTurned', WHERE WHAT IT READS IS OF BULK AT MOST 1048576: true; the input reads as it did. -/
def pssTurnedUptoRow : OpenClaim := { program := "ytcdglhmapijebaadoor", sum := "44da18c3488d737e291d610ae2260c4f0c29afc21297231996e5d8a543ec0c37", func := "postmark/postmarklaw09.PssTurned", spec := "pssTurned", unfollowed := true, recurses := true, named := ["postmark/mask.kinds"], apart := false, laid := [("postmark/mask.kinds", laid_postmark_mask_kinds)], narrowed := true }
def PssTurnedUptoSaid : Prop := pssTurnedUptoRow.holds Tryd.pinned (OpenSpec.upto pssTurnedSpec)

end Rows
end Go.Proofs.YtcdglhmapijebaaDoor
