/-
  No cell of these rows narrows 'for every input' (looked for: loops, veiled, ifaces, maps, wideKeys, modest, calm, conditions, laid).
  DERIVED. THE GIVEN ROWS OF THIS SEAT. 5 by the template 'for every input the law returns true; each argument reads behind the call as it read before'; 0 by the template 'total and deterministic' (their statements: YtciigjipoecefaaTotals.lean).
  GIVEN WITH THE SEED: the statements are not yours to turn. If you find one false, say at which input.
  Laid BY PROGRAM, IN A SANDBOX (cutbox-rows.mjs): the forced cells as the released guide's own fill.sh prints them over the translation 534c3ab929ccf655… (all of the seat's roots in one cut). By AI agents, Wed Nov 11 2026. No macro, syntax, notation, axiom, sorry.
-/
import Derived.Test.YtciigjipoecefaaChecked
import GoSem.Claim
import GoSem.ClaimJoined
import GoSem.ClaimMapViews
import Derived.JoinedTies
import Derived.KernelRfl
namespace Go.Proofs.Ytciigjipoecefaa
/- THE CELL 'sum', in the pinned program and in every row, IS THE sha256 OF THE DUMP (.gsa) THAT YtciigjipoecefaaProg.lean LOADS. Nothing in Lean hashes anything: it is a label: what it is worth is what the hold of that sum in a sandbox is worth. -/
noncomputable def Try.pinned : Pinned := { name := "ytciigjipoecefaa", sum := "534c3ab929ccf655a83b4d366ec7eec7299af716c5efded3a341e81a045c2307", checked := Try.checked }
namespace Rows
def none {H : Type} : Left H := { results := [], args := [] }

/-- 'postmarklaw04.Sha256Sums': WHATEVER THE INPUT: true; the input reads as it did. -/
def sha256SumsSpec : ChangeSpec := { name := "sha256Sums", fn := fun _ => fun
  | [d1, d2] => { results := [.lit (.bool true)], args := [d1, d2] }
  | _ => none }
def sha256SumsRow : OpenClaim := { program := "ytciigjipoecefaa", sum := "534c3ab929ccf655a83b4d366ec7eec7299af716c5efded3a341e81a045c2307", func := "postmark/postmarklaw04.Sha256Sums", spec := "sha256Sums", unfollowed := true, recurses := true, apart := false }
def Sha256SumsSaid : Prop := sha256SumsRow.holds Try.pinned (OpenSpec.ofChange sha256SumsSpec)

/-- ITS FALSE NEIGHBOUR: 'it returns false'. Refute it at one input. -/
def sha256SumsWrong : ChangeSpec := { name := "sha256Sums", fn := fun _ => fun
  | [d1, d2] => { results := [.lit (.bool false)], args := [d1, d2] }
  | _ => none }
def Sha256SumsWrongFalsely : Prop := sha256SumsRow.holds Try.pinned (OpenSpec.ofChange sha256SumsWrong)

/-- 'postmarklaw04.Sha256Names': WHATEVER THE INPUT: true; the input reads as it did. -/
def sha256NamesSpec : ChangeSpec := { name := "sha256Names", fn := fun _ => fun
  | [] => { results := [.lit (.bool true)], args := [] }
  | _ => none }
def sha256NamesRow : OpenClaim := { program := "ytciigjipoecefaa", sum := "534c3ab929ccf655a83b4d366ec7eec7299af716c5efded3a341e81a045c2307", func := "postmark/postmarklaw04.Sha256Names", spec := "sha256Names", unfollowed := true, recurses := true, apart := false }
def Sha256NamesSaid : Prop := sha256NamesRow.holds Try.pinned (OpenSpec.ofChange sha256NamesSpec)

/-- ITS FALSE NEIGHBOUR: 'it returns false'. Refute it at one input. -/
def sha256NamesWrong : ChangeSpec := { name := "sha256Names", fn := fun _ => fun
  | [] => { results := [.lit (.bool false)], args := [] }
  | _ => none }
def Sha256NamesWrongFalsely : Prop := sha256NamesRow.holds Try.pinned (OpenSpec.ofChange sha256NamesWrong)

/-- 'postmarklaw04.Sha256Pieces': WHATEVER THE INPUT: true; the input reads as it did. -/
def sha256PiecesSpec : ChangeSpec := { name := "sha256Pieces", fn := fun _ => fun
  | [d1, d2, d3, d4] => { results := [.lit (.bool true)], args := [d1, d2, d3, d4] }
  | _ => none }
def sha256PiecesRow : OpenClaim := { program := "ytciigjipoecefaa", sum := "534c3ab929ccf655a83b4d366ec7eec7299af716c5efded3a341e81a045c2307", func := "postmark/postmarklaw04.Sha256Pieces", spec := "sha256Pieces", unfollowed := true, recurses := true, apart := false }
def Sha256PiecesSaid : Prop := sha256PiecesRow.holds Try.pinned (OpenSpec.ofChange sha256PiecesSpec)

/-- ITS FALSE NEIGHBOUR: 'it returns false'. Refute it at one input. -/
def sha256PiecesWrong : ChangeSpec := { name := "sha256Pieces", fn := fun _ => fun
  | [d1, d2, d3, d4] => { results := [.lit (.bool false)], args := [d1, d2, d3, d4] }
  | _ => none }
def Sha256PiecesWrongFalsely : Prop := sha256PiecesRow.holds Try.pinned (OpenSpec.ofChange sha256PiecesWrong)

/-- 'postmarklaw04.Sha256Copies': WHATEVER THE INPUT: true; the input reads as it did. -/
def sha256CopiesSpec : ChangeSpec := { name := "sha256Copies", fn := fun _ => fun
  | [d1, d2, d3, d4] => { results := [.lit (.bool true)], args := [d1, d2, d3, d4] }
  | _ => none }
def sha256CopiesRow : OpenClaim := { program := "ytciigjipoecefaa", sum := "534c3ab929ccf655a83b4d366ec7eec7299af716c5efded3a341e81a045c2307", func := "postmark/postmarklaw04.Sha256Copies", spec := "sha256Copies", unfollowed := true, recurses := true, apart := false }
def Sha256CopiesSaid : Prop := sha256CopiesRow.holds Try.pinned (OpenSpec.ofChange sha256CopiesSpec)

/-- ITS FALSE NEIGHBOUR: 'it returns false'. Refute it at one input. -/
def sha256CopiesWrong : ChangeSpec := { name := "sha256Copies", fn := fun _ => fun
  | [d1, d2, d3, d4] => { results := [.lit (.bool false)], args := [d1, d2, d3, d4] }
  | _ => none }
def Sha256CopiesWrongFalsely : Prop := sha256CopiesRow.holds Try.pinned (OpenSpec.ofChange sha256CopiesWrong)

/-- 'postmarklaw04.Sha256Empty': WHATEVER THE INPUT: true; the input reads as it did. -/
def sha256EmptySpec : ChangeSpec := { name := "sha256Empty", fn := fun _ => fun
  | [d1, d2, d3] => { results := [.lit (.bool true)], args := [d1, d2, d3] }
  | _ => none }
def sha256EmptyRow : OpenClaim := { program := "ytciigjipoecefaa", sum := "534c3ab929ccf655a83b4d366ec7eec7299af716c5efded3a341e81a045c2307", func := "postmark/postmarklaw04.Sha256Empty", spec := "sha256Empty", unfollowed := true, recurses := true, apart := false }
def Sha256EmptySaid : Prop := sha256EmptyRow.holds Try.pinned (OpenSpec.ofChange sha256EmptySpec)

/-- ITS FALSE NEIGHBOUR: 'it returns false'. Refute it at one input. -/
def sha256EmptyWrong : ChangeSpec := { name := "sha256Empty", fn := fun _ => fun
  | [d1, d2, d3] => { results := [.lit (.bool false)], args := [d1, d2, d3] }
  | _ => none }
def Sha256EmptyWrongFalsely : Prop := sha256EmptyRow.holds Try.pinned (OpenSpec.ofChange sha256EmptyWrong)

/- THE SECOND FORM. 'bulk': how many values and letters a reading holds, each counted each time it is reached (what is shared counts as often as it is met; a slice's spare places count too). A statement '..UptoSaid' is the law's where the arguments, and the package variables that the reading takes, are together of bulk at most 1048576: NARROWER than '..Said'. Prove '..Said' where nothing that the law and all that it calls make is longer than what came in: it says more and counts as full. Else prove '..UptoSaid'. A law counts once. -/
mutual
def uptoBulk {H : Type} : DataW H → Nat
  | .lit (.string bytes) => bytes.length + 1
  | .lit _ => 1
  | .nil => 1
  | .ptr d => uptoBulk d + 1
  | .slice elems spare => uptoBulkAll elems + uptoBulkAll spare + 1
  | .agg parts => uptoBulkAll parts + 1
  | .iface _ d => uptoBulk d + 1
  | .map entries => uptoBulkEntries entries + 1
  | .held _ => 1
def uptoBulkAll {H : Type} : List (DataW H) → Nat
  | [] => 0
  | d :: r => uptoBulk d + uptoBulkAll r
def uptoBulkEntries {H : Type} : List (Lit × DataW H) → Nat
  | [] => 0
  | x :: r => uptoBulkEntry x + uptoBulkEntries r
def uptoBulkEntry {H : Type} : Lit × DataW H → Nat
  | (.string bytes, d) => bytes.length + uptoBulk d + 1
  | (_, d) => uptoBulk d + 1
 end
def uptoSmall : (H : Type) → List (DataW H) → Bool := fun _ ds => decide (uptoBulkAll ds ≤ 1048576)
def OpenSpec.upto (s : _root_.Go.ChangeSpec) : _root_.Go.OpenSpec := { _root_.Go.OpenSpec.ofChange s with cond := some uptoSmall }

/-- 'postmarklaw04.Sha256Sums', WHERE WHAT IT READS IS OF BULK AT MOST 1048576: true; the input reads as it did. -/
def sha256SumsUptoRow : OpenClaim := { program := "ytciigjipoecefaa", sum := "534c3ab929ccf655a83b4d366ec7eec7299af716c5efded3a341e81a045c2307", func := "postmark/postmarklaw04.Sha256Sums", spec := "sha256Sums", unfollowed := true, recurses := true, apart := false, narrowed := true }
def Sha256SumsUptoSaid : Prop := sha256SumsUptoRow.holds Try.pinned (OpenSpec.upto sha256SumsSpec)

/-- 'postmarklaw04.Sha256Names', WHERE WHAT IT READS IS OF BULK AT MOST 1048576: true; the input reads as it did. -/
def sha256NamesUptoRow : OpenClaim := { program := "ytciigjipoecefaa", sum := "534c3ab929ccf655a83b4d366ec7eec7299af716c5efded3a341e81a045c2307", func := "postmark/postmarklaw04.Sha256Names", spec := "sha256Names", unfollowed := true, recurses := true, apart := false, narrowed := true }
def Sha256NamesUptoSaid : Prop := sha256NamesUptoRow.holds Try.pinned (OpenSpec.upto sha256NamesSpec)

/-- 'postmarklaw04.Sha256Pieces', WHERE WHAT IT READS IS OF BULK AT MOST 1048576: true; the input reads as it did. -/
def sha256PiecesUptoRow : OpenClaim := { program := "ytciigjipoecefaa", sum := "534c3ab929ccf655a83b4d366ec7eec7299af716c5efded3a341e81a045c2307", func := "postmark/postmarklaw04.Sha256Pieces", spec := "sha256Pieces", unfollowed := true, recurses := true, apart := false, narrowed := true }
def Sha256PiecesUptoSaid : Prop := sha256PiecesUptoRow.holds Try.pinned (OpenSpec.upto sha256PiecesSpec)

/-- 'postmarklaw04.Sha256Copies', WHERE WHAT IT READS IS OF BULK AT MOST 1048576: true; the input reads as it did. -/
def sha256CopiesUptoRow : OpenClaim := { program := "ytciigjipoecefaa", sum := "534c3ab929ccf655a83b4d366ec7eec7299af716c5efded3a341e81a045c2307", func := "postmark/postmarklaw04.Sha256Copies", spec := "sha256Copies", unfollowed := true, recurses := true, apart := false, narrowed := true }
def Sha256CopiesUptoSaid : Prop := sha256CopiesUptoRow.holds Try.pinned (OpenSpec.upto sha256CopiesSpec)

/-- 'postmarklaw04.Sha256Empty', WHERE WHAT IT READS IS OF BULK AT MOST 1048576: true; the input reads as it did. -/
def sha256EmptyUptoRow : OpenClaim := { program := "ytciigjipoecefaa", sum := "534c3ab929ccf655a83b4d366ec7eec7299af716c5efded3a341e81a045c2307", func := "postmark/postmarklaw04.Sha256Empty", spec := "sha256Empty", unfollowed := true, recurses := true, apart := false, narrowed := true }
def Sha256EmptyUptoSaid : Prop := sha256EmptyUptoRow.holds Try.pinned (OpenSpec.upto sha256EmptySpec)

end Rows
end Go.Proofs.Ytciigjipoecefaa
