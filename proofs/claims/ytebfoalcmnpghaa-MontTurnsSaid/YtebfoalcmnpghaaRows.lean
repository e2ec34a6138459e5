/-
  No cell of these rows narrows 'for every input' (looked for: loops, veiled, ifaces, maps, wideKeys, modest, calm, conditions, laid).
  DERIVED. THE GIVEN ROWS OF THIS SEAT. 4 by the template 'for every input the law returns true; each argument reads behind the call as it read before'; 0 by the template 'total and deterministic' (their statements: YtebfoalcmnpghaaTotals.lean).
  GIVEN WITH THE SEED: the statements are not yours to turn. If you find one false, say at which input.
  Laid BY PROGRAM, IN A SANDBOX (cutbox-rows.mjs): the forced cells as the released guide's own fill.sh prints them over the translation 3745f66492fd9e30… (all of the seat's roots in one cut). By AI agents, Wed Nov 11 2026. No macro, syntax, notation, axiom, sorry.
-/
import Derived.Test.YtebfoalcmnpghaaChecked
import GoSem.Claim
import GoSem.ClaimJoined
import GoSem.ClaimMapViews
import Derived.JoinedTies
import Derived.KernelRfl
namespace Go.Proofs.Ytebfoalcmnpghaa
/- THE CELL 'sum', in the pinned program and in every row, IS THE sha256 OF THE DUMP (.gsa) THAT YtebfoalcmnpghaaProg.lean LOADS. Nothing in Lean hashes anything: it is a label: what it is worth is what the hold of that sum in a sandbox is worth. -/
noncomputable def Try.pinned : Pinned := { name := "ytebfoalcmnpghaa", sum := "3745f66492fd9e30893789c4064c54c9ca6d7053e44bf2e68312ffc72e93143e", checked := Try.checked }
namespace Rows
def none {H : Type} : Left H := { results := [], args := [] }

/-- 'postmarklaw07.MontWheels': WHATEVER THE INPUT: true; the input reads as it did. -/
def montWheelsSpec : ChangeSpec := { name := "montWheels", fn := fun _ => fun
  | [d1, d2, d3] => { results := [.lit (.bool true)], args := [d1, d2, d3] }
  | _ => none }
def montWheelsRow : OpenClaim := { program := "ytebfoalcmnpghaa", sum := "3745f66492fd9e30893789c4064c54c9ca6d7053e44bf2e68312ffc72e93143e", func := "postmark/postmarklaw07.MontWheels", spec := "montWheels", unfollowed := true, recurses := true, apart := false }
def MontWheelsSaid : Prop := montWheelsRow.holds Try.pinned (OpenSpec.ofChange montWheelsSpec)

/-- ITS FALSE NEIGHBOUR: 'it returns false'. Refute it at one input. -/
def montWheelsWrong : ChangeSpec := { name := "montWheels", fn := fun _ => fun
  | [d1, d2, d3] => { results := [.lit (.bool false)], args := [d1, d2, d3] }
  | _ => none }
def MontWheelsWrongFalsely : Prop := montWheelsRow.holds Try.pinned (OpenSpec.ofChange montWheelsWrong)

/-- 'postmarklaw07.MontPowers': WHATEVER THE INPUT: true; the input reads as it did. -/
def montPowersSpec : ChangeSpec := { name := "montPowers", fn := fun _ => fun
  | [d1, d2, d3] => { results := [.lit (.bool true)], args := [d1, d2, d3] }
  | _ => none }
def montPowersRow : OpenClaim := { program := "ytebfoalcmnpghaa", sum := "3745f66492fd9e30893789c4064c54c9ca6d7053e44bf2e68312ffc72e93143e", func := "postmark/postmarklaw07.MontPowers", spec := "montPowers", unfollowed := true, recurses := true, apart := false }
def MontPowersSaid : Prop := montPowersRow.holds Try.pinned (OpenSpec.ofChange montPowersSpec)

/-- ITS FALSE NEIGHBOUR: 'it returns false'. Refute it at one input. -/
def montPowersWrong : ChangeSpec := { name := "montPowers", fn := fun _ => fun
  | [d1, d2, d3] => { results := [.lit (.bool false)], args := [d1, d2, d3] }
  | _ => none }
def MontPowersWrongFalsely : Prop := montPowersRow.holds Try.pinned (OpenSpec.ofChange montPowersWrong)

/-- 'postmarklaw07.MontTurns': WHATEVER THE INPUT: true; the input reads as it did. -/
def montTurnsSpec : ChangeSpec := { name := "montTurns", fn := fun _ => fun
  | [d1, d2, d3] => { results := [.lit (.bool true)], args := [d1, d2, d3] }
  | _ => none }
def montTurnsRow : OpenClaim := { program := "ytebfoalcmnpghaa", sum := "3745f66492fd9e30893789c4064c54c9ca6d7053e44bf2e68312ffc72e93143e", func := "postmark/postmarklaw07.MontTurns", spec := "montTurns", unfollowed := true, recurses := true, apart := false }
def MontTurnsSaid : Prop := montTurnsRow.holds Try.pinned (OpenSpec.ofChange montTurnsSpec)

/-- ITS FALSE NEIGHBOUR: 'it returns false'. Refute it at one input. -/
def montTurnsWrong : ChangeSpec := { name := "montTurns", fn := fun _ => fun
  | [d1, d2, d3] => { results := [.lit (.bool false)], args := [d1, d2, d3] }
  | _ => none }
def MontTurnsWrongFalsely : Prop := montTurnsRow.holds Try.pinned (OpenSpec.ofChange montTurnsWrong)

/-- 'postmarklaw07.MontRules': WHATEVER THE INPUT: true; the input reads as it did. -/
def montRulesSpec : ChangeSpec := { name := "montRules", fn := fun _ => fun
  | [d1, d2, d3, d4, d5] => { results := [.lit (.bool true)], args := [d1, d2, d3, d4, d5] }
  | _ => none }
def montRulesRow : OpenClaim := { program := "ytebfoalcmnpghaa", sum := "3745f66492fd9e30893789c4064c54c9ca6d7053e44bf2e68312ffc72e93143e", func := "postmark/postmarklaw07.MontRules", spec := "montRules", unfollowed := true, recurses := true, apart := false }
def MontRulesSaid : Prop := montRulesRow.holds Try.pinned (OpenSpec.ofChange montRulesSpec)

/-- ITS FALSE NEIGHBOUR: 'it returns false'. Refute it at one input. -/
def montRulesWrong : ChangeSpec := { name := "montRules", fn := fun _ => fun
  | [d1, d2, d3, d4, d5] => { results := [.lit (.bool false)], args := [d1, d2, d3, d4, d5] }
  | _ => none }
def MontRulesWrongFalsely : Prop := montRulesRow.holds Try.pinned (OpenSpec.ofChange montRulesWrong)

/- THE SECOND FORM. 'bulk': how many values and letters a reading holds, each counted each time it is reached (what is shared counts as often as it is met; a slice's spare places count too). A statement '..UptoSaid' is the law's where the arguments, and the package variables that the reading takes, are together of bulk at most 1048576: NARROWER than '..Said'. Prove '..Said' where nothing that the law and all that it calls make is longer than what came in: it says more and counts as full. Else prove '..UptoSaid'. A law counts once. -/
mutual
def uptoBulk {H : Type} : DataW H → Nat
  | .lit (.string bytes) => bytes.length + 1
  | .lit _ => 1
  | .nil => 1
  | .ptr d => uptoBulk d + 1
  | .slice elems spare => uptoBulkAll elems + uptoBulkAll spare + 1
  | .agg parts => uptoBulkAll parts + 1
  | .iface _ d => uptoBulk d + 1
  | .map entries => uptoBulkEntries entries + 1
  | .held _ => 1
def uptoBulkAll {H : Type} : List (DataW H) → Nat
  | [] => 0
  | d :: r => uptoBulk d + uptoBulkAll r
def uptoBulkEntries {H : Type} : List (Lit × DataW H) → Nat
  | [] => 0
  | x :: r => uptoBulkEntry x + uptoBulkEntries r
def uptoBulkEntry {H : Type} : Lit × DataW H → Nat
  | (.string bytes, d) => bytes.length + uptoBulk d + 1
  | (_, d) => uptoBulk d + 1
 end
def uptoSmall : (H : Type) → List (DataW H) → Bool := fun _ ds => decide (uptoBulkAll ds ≤ 1048576)
def OpenSpec.upto (s : _root_.Go.ChangeSpec) : _root_.Go.OpenSpec := { _root_.Go.OpenSpec.ofChange s with cond := some uptoSmall }

/-- 'postmarklaw07.MontWheels', WHERE WHAT IT READS IS OF BULK AT MOST 1048576: true; the input reads as it did. -/
def montWheelsUptoRow : OpenClaim := { program := "ytebfoalcmnpghaa", sum := "3745f66492fd9e30893789c4064c54c9ca6d7053e44bf2e68312ffc72e93143e", func := "postmark/postmarklaw07.MontWheels", spec := "montWheels", unfollowed := true, recurses := true, apart := false, narrowed := true }
def MontWheelsUptoSaid : Prop := montWheelsUptoRow.holds Try.pinned (OpenSpec.upto montWheelsSpec)

/-- 'postmarklaw07.MontPowers', WHERE WHAT IT READS IS OF BULK AT MOST 1048576: true; the input reads as it did. -/
def montPowersUptoRow : OpenClaim := { program := "ytebfoalcmnpghaa", sum := "3745f66492fd9e30893789c4064c54c9ca6d7053e44bf2e68312ffc72e93143e", func := "postmark/postmarklaw07.MontPowers", spec := "montPowers", unfollowed := true, recurses := true, apart := false, narrowed := true }
def MontPowersUptoSaid : Prop := montPowersUptoRow.holds Try.pinned (OpenSpec.upto montPowersSpec)

/-- 'postmarklaw07.MontTurns', WHERE WHAT IT READS IS OF BULK AT MOST 1048576: true; the input reads as it did. -/
def montTurnsUptoRow : OpenClaim := { program := "ytebfoalcmnpghaa", sum := "3745f66492fd9e30893789c4064c54c9ca6d7053e44bf2e68312ffc72e93143e", func := "postmark/postmarklaw07.MontTurns", spec := "montTurns", unfollowed := true, recurses := true, apart := false, narrowed := true }
def MontTurnsUptoSaid : Prop := montTurnsUptoRow.holds Try.pinned (OpenSpec.upto montTurnsSpec)

/-- 'postmarklaw07.MontRules', WHERE WHAT IT READS IS OF BULK AT MOST 1048576: true; the input reads as it did. -/
def montRulesUptoRow : OpenClaim := { program := "ytebfoalcmnpghaa", sum := "3745f66492fd9e30893789c4064c54c9ca6d7053e44bf2e68312ffc72e93143e", func := "postmark/postmarklaw07.MontRules", spec := "montRules", unfollowed := true, recurses := true, apart := false, narrowed := true }
def MontRulesUptoSaid : Prop := montRulesUptoRow.holds Try.pinned (OpenSpec.upto montRulesSpec)

end Rows
end Go.Proofs.Ytebfoalcmnpghaa
