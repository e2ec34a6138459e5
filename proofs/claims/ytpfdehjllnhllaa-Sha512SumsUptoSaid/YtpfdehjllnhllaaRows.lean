/-
  No cell of these rows narrows 'for every input' (looked for: loops, veiled, ifaces, maps, wideKeys, modest, calm, conditions, laid).
  DERIVED. THE GIVEN ROWS OF THIS SEAT. 5 by the template 'for every input the law returns true; each argument reads behind the call as it read before'; 0 by the template 'total and deterministic' (their statements: YtpfdehjllnhllaaTotals.lean).
  GIVEN WITH THE SEED: the statements are not yours to turn. If you find one false, say at which input.
  Laid BY PROGRAM, IN A SANDBOX (cutbox-rows.mjs): the forced cells as the released guide's own fill.sh prints them over the translation 9af9cc8a2fd05b8c… (all of the seat's roots in one cut). By AI agents, Wed Nov 11 2026. No macro, syntax, notation, axiom, sorry.
-/
import Derived.Test.YtpfdehjllnhllaaChecked
import GoSem.Claim
import GoSem.ClaimJoined
import GoSem.ClaimMapViews
import Derived.JoinedTies
import Derived.KernelRfl
namespace Go.Proofs.Ytpfdehjllnhllaa
/- THE CELL 'sum', in the pinned program and in every row, IS THE sha256 OF THE DUMP (.gsa) THAT YtpfdehjllnhllaaProg.lean LOADS. Nothing in Lean hashes anything: it is a label: what it is worth is what the hold of that sum in a sandbox is worth. -/
noncomputable def Try.pinned : Pinned := { name := "ytpfdehjllnhllaa", sum := "9af9cc8a2fd05b8cd4669104a950868e12ab6fc87081057139931f8a0e9033ca", checked := Try.checked }
namespace Rows
def none {H : Type} : Left H := { results := [], args := [] }

/-- 'postmarklaw05.Sha512Sums': WHATEVER THE INPUT: true; the input reads as it did. -/
def sha512SumsSpec : ChangeSpec := { name := "sha512Sums", fn := fun _ => fun
  | [d1, d2] => { results := [.lit (.bool true)], args := [d1, d2] }
  | _ => none }
def sha512SumsRow : OpenClaim := { program := "ytpfdehjllnhllaa", sum := "9af9cc8a2fd05b8cd4669104a950868e12ab6fc87081057139931f8a0e9033ca", func := "postmark/postmarklaw05.Sha512Sums", spec := "sha512Sums", unfollowed := true, recurses := true, apart := false }
def Sha512SumsSaid : Prop := sha512SumsRow.holds Try.pinned (OpenSpec.ofChange sha512SumsSpec)

/-- ITS FALSE NEIGHBOUR: 'it returns false'. Refute it at one input. -/
def sha512SumsWrong : ChangeSpec := { name := "sha512Sums", fn := fun _ => fun
  | [d1, d2] => { results := [.lit (.bool false)], args := [d1, d2] }
  | _ => none }
def Sha512SumsWrongFalsely : Prop := sha512SumsRow.holds Try.pinned (OpenSpec.ofChange sha512SumsWrong)

/-- 'postmarklaw05.Sha512Names': WHATEVER THE INPUT: true; the input reads as it did. -/
def sha512NamesSpec : ChangeSpec := { name := "sha512Names", fn := fun _ => fun
  | [] => { results := [.lit (.bool true)], args := [] }
  | _ => none }
def sha512NamesRow : OpenClaim := { program := "ytpfdehjllnhllaa", sum := "9af9cc8a2fd05b8cd4669104a950868e12ab6fc87081057139931f8a0e9033ca", func := "postmark/postmarklaw05.Sha512Names", spec := "sha512Names", unfollowed := true, recurses := true, apart := false }
def Sha512NamesSaid : Prop := sha512NamesRow.holds Try.pinned (OpenSpec.ofChange sha512NamesSpec)

/-- ITS FALSE NEIGHBOUR: 'it returns false'. Refute it at one input. -/
def sha512NamesWrong : ChangeSpec := { name := "sha512Names", fn := fun _ => fun
  | [] => { results := [.lit (.bool false)], args := [] }
  | _ => none }
def Sha512NamesWrongFalsely : Prop := sha512NamesRow.holds Try.pinned (OpenSpec.ofChange sha512NamesWrong)

/-- 'postmarklaw05.Sha512Pieces': WHATEVER THE INPUT: true; the input reads as it did. -/
def sha512PiecesSpec : ChangeSpec := { name := "sha512Pieces", fn := fun _ => fun
  | [d1, d2, d3, d4] => { results := [.lit (.bool true)], args := [d1, d2, d3, d4] }
  | _ => none }
def sha512PiecesRow : OpenClaim := { program := "ytpfdehjllnhllaa", sum := "9af9cc8a2fd05b8cd4669104a950868e12ab6fc87081057139931f8a0e9033ca", func := "postmark/postmarklaw05.Sha512Pieces", spec := "sha512Pieces", unfollowed := true, recurses := true, apart := false }
def Sha512PiecesSaid : Prop := sha512PiecesRow.holds Try.pinned (OpenSpec.ofChange sha512PiecesSpec)

/-- ITS FALSE NEIGHBOUR: 'it returns false'. Refute it at one input. -/
def sha512PiecesWrong : ChangeSpec := { name := "sha512Pieces", fn := fun _ => fun
  | [d1, d2, d3, d4] => { results := [.lit (.bool false)], args := [d1, d2, d3, d4] }
  | _ => none }
def Sha512PiecesWrongFalsely : Prop := sha512PiecesRow.holds Try.pinned (OpenSpec.ofChange sha512PiecesWrong)

/-- 'postmarklaw05.Sha512Copies': WHATEVER THE INPUT: true; the input reads as it did. -/
def sha512CopiesSpec : ChangeSpec := { name := "sha512Copies", fn := fun _ => fun
  | [d1, d2, d3, d4] => { results := [.lit (.bool true)], args := [d1, d2, d3, d4] }
  | _ => none }
def sha512CopiesRow : OpenClaim := { program := "ytpfdehjllnhllaa", sum := "9af9cc8a2fd05b8cd4669104a950868e12ab6fc87081057139931f8a0e9033ca", func := "postmark/postmarklaw05.Sha512Copies", spec := "sha512Copies", unfollowed := true, recurses := true, apart := false }
def Sha512CopiesSaid : Prop := sha512CopiesRow.holds Try.pinned (OpenSpec.ofChange sha512CopiesSpec)

/-- ITS FALSE NEIGHBOUR: 'it returns false'. Refute it at one input. -/
def sha512CopiesWrong : ChangeSpec := { name := "sha512Copies", fn := fun _ => fun
  | [d1, d2, d3, d4] => { results := [.lit (.bool false)], args := [d1, d2, d3, d4] }
  | _ => none }
def Sha512CopiesWrongFalsely : Prop := sha512CopiesRow.holds Try.pinned (OpenSpec.ofChange sha512CopiesWrong)

/-- 'postmarklaw05.Sha512Empty': WHATEVER THE INPUT: true; the input reads as it did. -/
def sha512EmptySpec : ChangeSpec := { name := "sha512Empty", fn := fun _ => fun
  | [d1, d2, d3] => { results := [.lit (.bool true)], args := [d1, d2, d3] }
  | _ => none }
def sha512EmptyRow : OpenClaim := { program := "ytpfdehjllnhllaa", sum := "9af9cc8a2fd05b8cd4669104a950868e12ab6fc87081057139931f8a0e9033ca", func := "postmark/postmarklaw05.Sha512Empty", spec := "sha512Empty", unfollowed := true, recurses := true, apart := false }
def Sha512EmptySaid : Prop := sha512EmptyRow.holds Try.pinned (OpenSpec.ofChange sha512EmptySpec)

/-- ITS FALSE NEIGHBOUR: 'it returns false'. Refute it at one input. -/
def sha512EmptyWrong : ChangeSpec := { name := "sha512Empty", fn := fun _ => fun
  | [d1, d2, d3] => { results := [.lit (.bool false)], args := [d1, d2, d3] }
  | _ => none }
def Sha512EmptyWrongFalsely : Prop := sha512EmptyRow.holds Try.pinned (OpenSpec.ofChange sha512EmptyWrong)

/- THE SECOND FORM. 'bulk': how many values and letters a reading holds, each counted each time it is reached (what is shared counts as often as it is met; a slice's spare places count too). A statement '..UptoSaid' is the law's where the arguments, and the package variables that the reading takes, are together of bulk at most 1048576: NARROWER than '..Said'. Prove '..Said' where nothing that the law and all that it calls make is longer than what came in: it says more and counts as full. Else prove '..UptoSaid'. A law counts once. -/
mutual
def uptoBulk {H : Type} : DataW H → Nat
  | .lit (.string bytes) => bytes.length + 1
  | .lit _ => 1
  | .nil => 1
  | .ptr d => uptoBulk d + 1
  | .slice elems spare => uptoBulkAll elems + uptoBulkAll spare + 1
  | .agg parts => uptoBulkAll parts + 1
  | .iface _ d => uptoBulk d + 1
  | .map entries => uptoBulkEntries entries + 1
  | .held _ => 1
def uptoBulkAll {H : Type} : List (DataW H) → Nat
  | [] => 0
  | d :: r => uptoBulk d + uptoBulkAll r
def uptoBulkEntries {H : Type} : List (Lit × DataW H) → Nat
  | [] => 0
  | x :: r => uptoBulkEntry x + uptoBulkEntries r
def uptoBulkEntry {H : Type} : Lit × DataW H → Nat
  | (.string bytes, d) => bytes.length + uptoBulk d + 1
  | (_, d) => uptoBulk d + 1
 end
def uptoSmall : (H : Type) → List (DataW H) → Bool := fun _ ds => decide (uptoBulkAll ds ≤ 1048576)
def OpenSpec.upto (s : _root_.Go.ChangeSpec) : _root_.Go.OpenSpec := { _root_.Go.OpenSpec.ofChange s with cond := some uptoSmall }

/-- 'postmarklaw05.Sha512Sums', WHERE WHAT IT READS IS OF BULK AT MOST 1048576: true; the input reads as it did. -/
def sha512SumsUptoRow : OpenClaim := { program := "ytpfdehjllnhllaa", sum := "9af9cc8a2fd05b8cd4669104a950868e12ab6fc87081057139931f8a0e9033ca", func := "postmark/postmarklaw05.Sha512Sums", spec := "sha512Sums", unfollowed := true, recurses := true, apart := false, narrowed := true }
def Sha512SumsUptoSaid : Prop := sha512SumsUptoRow.holds Try.pinned (OpenSpec.upto sha512SumsSpec)

/-- 'postmarklaw05.Sha512Names', WHERE WHAT IT READS IS OF BULK AT MOST 1048576: true; the input reads as it did. -/
def sha512NamesUptoRow : OpenClaim := { program := "ytpfdehjllnhllaa", sum := "9af9cc8a2fd05b8cd4669104a950868e12ab6fc87081057139931f8a0e9033ca", func := "postmark/postmarklaw05.Sha512Names", spec := "sha512Names", unfollowed := true, recurses := true, apart := false, narrowed := true }
def Sha512NamesUptoSaid : Prop := sha512NamesUptoRow.holds Try.pinned (OpenSpec.upto sha512NamesSpec)

/-- 'postmarklaw05.Sha512Pieces', WHERE WHAT IT READS IS OF BULK AT MOST 1048576: true; the input reads as it did. -/
def sha512PiecesUptoRow : OpenClaim := { program := "ytpfdehjllnhllaa", sum := "9af9cc8a2fd05b8cd4669104a950868e12ab6fc87081057139931f8a0e9033ca", func := "postmark/postmarklaw05.Sha512Pieces", spec := "sha512Pieces", unfollowed := true, recurses := true, apart := false, narrowed := true }
def Sha512PiecesUptoSaid : Prop := sha512PiecesUptoRow.holds Try.pinned (OpenSpec.upto sha512PiecesSpec)

/-- 'postmarklaw05.Sha512Copies', WHERE WHAT IT READS IS OF BULK AT MOST 1048576: true; the input reads as it did. -/
def sha512CopiesUptoRow : OpenClaim := { program := "ytpfdehjllnhllaa", sum := "9af9cc8a2fd05b8cd4669104a950868e12ab6fc87081057139931f8a0e9033ca", func := "postmark/postmarklaw05.Sha512Copies", spec := "sha512Copies", unfollowed := true, recurses := true, apart := false, narrowed := true }
def Sha512CopiesUptoSaid : Prop := sha512CopiesUptoRow.holds Try.pinned (OpenSpec.upto sha512CopiesSpec)

/-- 'postmarklaw05.Sha512Empty', WHERE WHAT IT READS IS OF BULK AT MOST 1048576: true; the input reads as it did. -/
def sha512EmptyUptoRow : OpenClaim := { program := "ytpfdehjllnhllaa", sum := "9af9cc8a2fd05b8cd4669104a950868e12ab6fc87081057139931f8a0e9033ca", func := "postmark/postmarklaw05.Sha512Empty", spec := "sha512Empty", unfollowed := true, recurses := true, apart := false, narrowed := true }
def Sha512EmptyUptoSaid : Prop := sha512EmptyUptoRow.holds Try.pinned (OpenSpec.upto sha512EmptySpec)

end Rows
end Go.Proofs.Ytpfdehjllnhllaa
