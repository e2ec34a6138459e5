/-
  No cell of these rows narrows 'for every input' (looked for: loops, veiled, ifaces, maps, wideKeys, modest, calm, conditions, laid).
  DERIVED. THE GIVEN ROWS OF THIS SEAT. 8 by the template 'for every input the law returns true; each argument reads behind the call as it read before'; 0 by the template 'total and deterministic' (their statements: YtcnpgebjjknheaaTotals.lean).
  GIVEN WITH THE SEED: the statements are not yours to turn. If you find one false, say at which input.
  Laid BY PROGRAM, IN A SANDBOX (cutbox-rows.mjs): the forced cells as the released guide's own fill.sh prints them over the translation 8c0862c3a71bf044… (all of the seat's roots in one cut). By AI agents, Wed Nov 11 2026. No macro, syntax, notation, axiom, sorry.
-/
import Derived.Test.YtcnpgebjjknheaaChecked
import GoSem.Claim
import GoSem.ClaimJoined
import GoSem.ClaimMapViews
import Derived.JoinedTies
import Derived.KernelRfl
namespace Go.Proofs.Ytcnpgebjjknheaa
/- THE CELL 'sum', in the pinned program and in every row, IS THE sha256 OF THE DUMP (.gsa) THAT YtcnpgebjjknheaaProg.lean LOADS. Nothing in Lean hashes anything: it is a label: what it is worth is what the hold of that sum in a sandbox is worth. -/
noncomputable def Try.pinned : Pinned := { name := "ytcnpgebjjknheaa", sum := "8c0862c3a71bf0447a287878300fdca3f1a6726c96632d7fbdb0bfec9bf91672", checked := Try.checked }
namespace Rows
def none {H : Type} : Left H := { results := [], args := [] }

/-- 'postmarklaw06.RatioDivides': WHATEVER THE INPUT: true; the input reads as it did. -/
def ratioDividesSpec : ChangeSpec := { name := "ratioDivides", fn := fun _ => fun
  | [d1, d2] => { results := [.lit (.bool true)], args := [d1, d2] }
  | _ => none }
def ratioDividesRow : OpenClaim := { program := "ytcnpgebjjknheaa", sum := "8c0862c3a71bf0447a287878300fdca3f1a6726c96632d7fbdb0bfec9bf91672", func := "postmark/postmarklaw06.RatioDivides", spec := "ratioDivides", unfollowed := true, recurses := true, apart := false }
def RatioDividesSaid : Prop := ratioDividesRow.holds Try.pinned (OpenSpec.ofChange ratioDividesSpec)

/-- ITS FALSE NEIGHBOUR: 'it returns false'. Refute it at one input. -/
def ratioDividesWrong : ChangeSpec := { name := "ratioDivides", fn := fun _ => fun
  | [d1, d2] => { results := [.lit (.bool false)], args := [d1, d2] }
  | _ => none }
def RatioDividesWrongFalsely : Prop := ratioDividesRow.holds Try.pinned (OpenSpec.ofChange ratioDividesWrong)

/-- 'postmarklaw06.RatioDivisors': WHATEVER THE INPUT: true; the input reads as it did. -/
def ratioDivisorsSpec : ChangeSpec := { name := "ratioDivisors", fn := fun _ => fun
  | [d1, d2] => { results := [.lit (.bool true)], args := [d1, d2] }
  | _ => none }
def ratioDivisorsRow : OpenClaim := { program := "ytcnpgebjjknheaa", sum := "8c0862c3a71bf0447a287878300fdca3f1a6726c96632d7fbdb0bfec9bf91672", func := "postmark/postmarklaw06.RatioDivisors", spec := "ratioDivisors", unfollowed := true, recurses := true, apart := false }
def RatioDivisorsSaid : Prop := ratioDivisorsRow.holds Try.pinned (OpenSpec.ofChange ratioDivisorsSpec)

/-- ITS FALSE NEIGHBOUR: 'it returns false'. Refute it at one input. -/
def ratioDivisorsWrong : ChangeSpec := { name := "ratioDivisors", fn := fun _ => fun
  | [d1, d2] => { results := [.lit (.bool false)], args := [d1, d2] }
  | _ => none }
def RatioDivisorsWrongFalsely : Prop := ratioDivisorsRow.holds Try.pinned (OpenSpec.ofChange ratioDivisorsWrong)

/-- 'postmarklaw06.RatioRests': WHATEVER THE INPUT: true; the input reads as it did. -/
def ratioRestsSpec : ChangeSpec := { name := "ratioRests", fn := fun _ => fun
  | [d1, d2, d3] => { results := [.lit (.bool true)], args := [d1, d2, d3] }
  | _ => none }
def ratioRestsRow : OpenClaim := { program := "ytcnpgebjjknheaa", sum := "8c0862c3a71bf0447a287878300fdca3f1a6726c96632d7fbdb0bfec9bf91672", func := "postmark/postmarklaw06.RatioRests", spec := "ratioRests", unfollowed := true, recurses := true, apart := false }
def RatioRestsSaid : Prop := ratioRestsRow.holds Try.pinned (OpenSpec.ofChange ratioRestsSpec)

/-- ITS FALSE NEIGHBOUR: 'it returns false'. Refute it at one input. -/
def ratioRestsWrong : ChangeSpec := { name := "ratioRests", fn := fun _ => fun
  | [d1, d2, d3] => { results := [.lit (.bool false)], args := [d1, d2, d3] }
  | _ => none }
def RatioRestsWrongFalsely : Prop := ratioRestsRow.holds Try.pinned (OpenSpec.ofChange ratioRestsWrong)

/-- 'postmarklaw06.RatioNames': WHATEVER THE INPUT: true; the input reads as it did. -/
def ratioNamesSpec : ChangeSpec := { name := "ratioNames", fn := fun _ => fun
  | [] => { results := [.lit (.bool true)], args := [] }
  | _ => none }
def ratioNamesRow : OpenClaim := { program := "ytcnpgebjjknheaa", sum := "8c0862c3a71bf0447a287878300fdca3f1a6726c96632d7fbdb0bfec9bf91672", func := "postmark/postmarklaw06.RatioNames", spec := "ratioNames", unfollowed := true, recurses := true, apart := false }
def RatioNamesSaid : Prop := ratioNamesRow.holds Try.pinned (OpenSpec.ofChange ratioNamesSpec)

/-- ITS FALSE NEIGHBOUR: 'it returns false'. Refute it at one input. -/
def ratioNamesWrong : ChangeSpec := { name := "ratioNames", fn := fun _ => fun
  | [] => { results := [.lit (.bool false)], args := [] }
  | _ => none }
def RatioNamesWrongFalsely : Prop := ratioNamesRow.holds Try.pinned (OpenSpec.ofChange ratioNamesWrong)

/-- 'postmarklaw06.RatioBack': WHATEVER THE INPUT: true; the input reads as it did. -/
def ratioBackSpec : ChangeSpec := { name := "ratioBack", fn := fun _ => fun
  | [d1, d2] => { results := [.lit (.bool true)], args := [d1, d2] }
  | _ => none }
def ratioBackRow : OpenClaim := { program := "ytcnpgebjjknheaa", sum := "8c0862c3a71bf0447a287878300fdca3f1a6726c96632d7fbdb0bfec9bf91672", func := "postmark/postmarklaw06.RatioBack", spec := "ratioBack", unfollowed := true, recurses := true, apart := false }
def RatioBackSaid : Prop := ratioBackRow.holds Try.pinned (OpenSpec.ofChange ratioBackSpec)

/-- ITS FALSE NEIGHBOUR: 'it returns false'. Refute it at one input. -/
def ratioBackWrong : ChangeSpec := { name := "ratioBack", fn := fun _ => fun
  | [d1, d2] => { results := [.lit (.bool false)], args := [d1, d2] }
  | _ => none }
def RatioBackWrongFalsely : Prop := ratioBackRow.holds Try.pinned (OpenSpec.ofChange ratioBackWrong)

/-- 'postmarklaw06.RatioParts': WHATEVER THE INPUT: true; the input reads as it did. -/
def ratioPartsSpec : ChangeSpec := { name := "ratioParts", fn := fun _ => fun
  | [d1, d2, d3] => { results := [.lit (.bool true)], args := [d1, d2, d3] }
  | _ => none }
def ratioPartsRow : OpenClaim := { program := "ytcnpgebjjknheaa", sum := "8c0862c3a71bf0447a287878300fdca3f1a6726c96632d7fbdb0bfec9bf91672", func := "postmark/postmarklaw06.RatioParts", spec := "ratioParts", unfollowed := true, recurses := true, apart := false }
def RatioPartsSaid : Prop := ratioPartsRow.holds Try.pinned (OpenSpec.ofChange ratioPartsSpec)

/-- ITS FALSE NEIGHBOUR: 'it returns false'. Refute it at one input. -/
def ratioPartsWrong : ChangeSpec := { name := "ratioParts", fn := fun _ => fun
  | [d1, d2, d3] => { results := [.lit (.bool false)], args := [d1, d2, d3] }
  | _ => none }
def RatioPartsWrongFalsely : Prop := ratioPartsRow.holds Try.pinned (OpenSpec.ofChange ratioPartsWrong)

/-- 'postmarklaw06.RatioCommon': WHATEVER THE INPUT: true; the input reads as it did. -/
def ratioCommonSpec : ChangeSpec := { name := "ratioCommon", fn := fun _ => fun
  | [d1, d2, d3] => { results := [.lit (.bool true)], args := [d1, d2, d3] }
  | _ => none }
def ratioCommonRow : OpenClaim := { program := "ytcnpgebjjknheaa", sum := "8c0862c3a71bf0447a287878300fdca3f1a6726c96632d7fbdb0bfec9bf91672", func := "postmark/postmarklaw06.RatioCommon", spec := "ratioCommon", unfollowed := true, recurses := true, apart := false }
def RatioCommonSaid : Prop := ratioCommonRow.holds Try.pinned (OpenSpec.ofChange ratioCommonSpec)

/-- ITS FALSE NEIGHBOUR: 'it returns false'. Refute it at one input. -/
def ratioCommonWrong : ChangeSpec := { name := "ratioCommon", fn := fun _ => fun
  | [d1, d2, d3] => { results := [.lit (.bool false)], args := [d1, d2, d3] }
  | _ => none }
def RatioCommonWrongFalsely : Prop := ratioCommonRow.holds Try.pinned (OpenSpec.ofChange ratioCommonWrong)

/-- 'postmarklaw06.RatioInverses': WHATEVER THE INPUT: true; the input reads as it did. -/
def ratioInversesSpec : ChangeSpec := { name := "ratioInverses", fn := fun _ => fun
  | [d1, d2] => { results := [.lit (.bool true)], args := [d1, d2] }
  | _ => none }
def ratioInversesRow : OpenClaim := { program := "ytcnpgebjjknheaa", sum := "8c0862c3a71bf0447a287878300fdca3f1a6726c96632d7fbdb0bfec9bf91672", func := "postmark/postmarklaw06.RatioInverses", spec := "ratioInverses", unfollowed := true, recurses := true, apart := false }
def RatioInversesSaid : Prop := ratioInversesRow.holds Try.pinned (OpenSpec.ofChange ratioInversesSpec)

/-- ITS FALSE NEIGHBOUR: 'it returns false'. Refute it at one input. -/
def ratioInversesWrong : ChangeSpec := { name := "ratioInverses", fn := fun _ => fun
  | [d1, d2] => { results := [.lit (.bool false)], args := [d1, d2] }
  | _ => none }
def RatioInversesWrongFalsely : Prop := ratioInversesRow.holds Try.pinned (OpenSpec.ofChange ratioInversesWrong)

/- THE SECOND FORM. 'bulk': how many values and letters a reading holds, each counted each time it is reached (what is shared counts as often as it is met; a slice's spare places count too). A statement '..UptoSaid' is the law's where the arguments, and the package variables that the reading takes, are together of bulk at most 1048576: NARROWER than '..Said'. Prove '..Said' where nothing that the law and all that it calls make is longer than what came in: it says more and counts as full. Else prove '..UptoSaid'. A law counts once. -/
mutual
def uptoBulk {H : Type} : DataW H → Nat
  | .lit (.string bytes) => bytes.length + 1
  | .lit _ => 1
  | .nil => 1
  | .ptr d => uptoBulk d + 1
  | .slice elems spare => uptoBulkAll elems + uptoBulkAll spare + 1
  | .agg parts => uptoBulkAll parts + 1
  | .iface _ d => uptoBulk d + 1
  | .map entries => uptoBulkEntries entries + 1
  | .held _ => 1
def uptoBulkAll {H : Type} : List (DataW H) → Nat
  | [] => 0
  | d :: r => uptoBulk d + uptoBulkAll r
def uptoBulkEntries {H : Type} : List (Lit × DataW H) → Nat
  | [] => 0
  | x :: r => uptoBulkEntry x + uptoBulkEntries r
def uptoBulkEntry {H : Type} : Lit × DataW H → Nat
  | (.string bytes, d) => bytes.length + uptoBulk d + 1
  | (_, d) => uptoBulk d + 1
 end
def uptoSmall : (H : Type) → List (DataW H) → Bool := fun _ ds => decide (uptoBulkAll ds ≤ 1048576)
def OpenSpec.upto (s : _root_.Go.ChangeSpec) : _root_.Go.OpenSpec := { _root_.Go.OpenSpec.ofChange s with cond := some uptoSmall }

/-- 'postmarklaw06.RatioDivides', WHERE WHAT IT READS IS OF BULK AT MOST 1048576: true; the input reads as it did. -/
def ratioDividesUptoRow : OpenClaim := { program := "ytcnpgebjjknheaa", sum := "8c0862c3a71bf0447a287878300fdca3f1a6726c96632d7fbdb0bfec9bf91672", func := "postmark/postmarklaw06.RatioDivides", spec := "ratioDivides", unfollowed := true, recurses := true, apart := false, narrowed := true }
def RatioDividesUptoSaid : Prop := ratioDividesUptoRow.holds Try.pinned (OpenSpec.upto ratioDividesSpec)

/-- 'postmarklaw06.RatioDivisors', WHERE WHAT IT READS IS OF BULK AT MOST 1048576: true; the input reads as it did. -/
def ratioDivisorsUptoRow : OpenClaim := { program := "ytcnpgebjjknheaa", sum := "8c0862c3a71bf0447a287878300fdca3f1a6726c96632d7fbdb0bfec9bf91672", func := "postmark/postmarklaw06.RatioDivisors", spec := "ratioDivisors", unfollowed := true, recurses := true, apart := false, narrowed := true }
def RatioDivisorsUptoSaid : Prop := ratioDivisorsUptoRow.holds Try.pinned (OpenSpec.upto ratioDivisorsSpec)

/-- 'postmarklaw06.RatioRests', WHERE WHAT IT READS IS OF BULK AT MOST 1048576: true; the input reads as it did. -/
def ratioRestsUptoRow : OpenClaim := { program := "ytcnpgebjjknheaa", sum := "8c0862c3a71bf0447a287878300fdca3f1a6726c96632d7fbdb0bfec9bf91672", func := "postmark/postmarklaw06.RatioRests", spec := "ratioRests", unfollowed := true, recurses := true, apart := false, narrowed := true }
def RatioRestsUptoSaid : Prop := ratioRestsUptoRow.holds Try.pinned (OpenSpec.upto ratioRestsSpec)

/-- 'postmarklaw06.RatioNames', WHERE WHAT IT READS IS OF BULK AT MOST 1048576: true; the input reads as it did. -/
def ratioNamesUptoRow : OpenClaim := { program := "ytcnpgebjjknheaa", sum := "8c0862c3a71bf0447a287878300fdca3f1a6726c96632d7fbdb0bfec9bf91672", func := "postmark/postmarklaw06.RatioNames", spec := "ratioNames", unfollowed := true, recurses := true, apart := false, narrowed := true }
def RatioNamesUptoSaid : Prop := ratioNamesUptoRow.holds Try.pinned (OpenSpec.upto ratioNamesSpec)

/-- 'postmarklaw06.RatioBack', WHERE WHAT IT READS IS OF BULK AT MOST 1048576: true; the input reads as it did. -/
def ratioBackUptoRow : OpenClaim := { program := "ytcnpgebjjknheaa", sum := "8c0862c3a71bf0447a287878300fdca3f1a6726c96632d7fbdb0bfec9bf91672", func := "postmark/postmarklaw06.RatioBack", spec := "ratioBack", unfollowed := true, recurses := true, apart := false, narrowed := true }
def RatioBackUptoSaid : Prop := ratioBackUptoRow.holds Try.pinned (OpenSpec.upto ratioBackSpec)

/-- 'postmarklaw06.RatioParts', WHERE WHAT IT READS IS OF BULK AT MOST 1048576: true; the input reads as it did. -/
def ratioPartsUptoRow : OpenClaim := { program := "ytcnpgebjjknheaa", sum := "8c0862c3a71bf0447a287878300fdca3f1a6726c96632d7fbdb0bfec9bf91672", func := "postmark/postmarklaw06.RatioParts", spec := "ratioParts", unfollowed := true, recurses := true, apart := false, narrowed := true }
def RatioPartsUptoSaid : Prop := ratioPartsUptoRow.holds Try.pinned (OpenSpec.upto ratioPartsSpec)

/-- 'postmarklaw06.RatioCommon', WHERE WHAT IT READS IS OF BULK AT MOST 1048576: true; the input reads as it did. -/
def ratioCommonUptoRow : OpenClaim := { program := "ytcnpgebjjknheaa", sum := "8c0862c3a71bf0447a287878300fdca3f1a6726c96632d7fbdb0bfec9bf91672", func := "postmark/postmarklaw06.RatioCommon", spec := "ratioCommon", unfollowed := true, recurses := true, apart := false, narrowed := true }
def RatioCommonUptoSaid : Prop := ratioCommonUptoRow.holds Try.pinned (OpenSpec.upto ratioCommonSpec)

/-- 'postmarklaw06.RatioInverses', WHERE WHAT IT READS IS OF BULK AT MOST 1048576: true; the input reads as it did. -/
def ratioInversesUptoRow : OpenClaim := { program := "ytcnpgebjjknheaa", sum := "8c0862c3a71bf0447a287878300fdca3f1a6726c96632d7fbdb0bfec9bf91672", func := "postmark/postmarklaw06.RatioInverses", spec := "ratioInverses", unfollowed := true, recurses := true, apart := false, narrowed := true }
def RatioInversesUptoSaid : Prop := ratioInversesUptoRow.holds Try.pinned (OpenSpec.upto ratioInversesSpec)

end Rows
end Go.Proofs.Ytcnpgebjjknheaa
