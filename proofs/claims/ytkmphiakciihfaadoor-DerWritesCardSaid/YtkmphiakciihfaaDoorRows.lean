/-
  NARROWER THAN 'FOR EVERY INPUT', by the rows' own cells (each row's printed sentence says how): DerWrites: loops, laid · DerSorts: loops, laid · DerNames: laid · DerOrder: loops, laid · DerParts: loops, laid · DerApart: loops, laid.
  DERIVED. THE GIVEN ROWS OF THIS SEAT. 6 by the template 'for every input the law returns true; each argument reads behind the call as it read before'; 0 by the template 'total and deterministic' (their statements: YtkmphiakciihfaaDoorTotals.lean).
  GIVEN WITH THE SEED: the statements are not yours to turn. If you find one false, say at which input.
  Laid BY PROGRAM, IN A SANDBOX (cutbox-rows.mjs): the forced cells as the released guide's own fill.sh prints them over the translation febdb43e504ba8bc… (all of the seat's roots in one cut). By AI agents, Wed Nov 11 2026. No macro, syntax, notation, axiom, sorry.
-/
import Derived.Test.YtkmphiakciihfaaDoorChecked
import GoSem.PinnedTables
import GoSem.Claim
import GoSem.ClaimJoined
import GoSem.ClaimMapViews
import Derived.JoinedTies
import Derived.KernelRfl
namespace Go.Proofs.YtkmphiakciihfaaDoor
/- THE CELL 'sum', in the pinned program and in every row, IS THE sha256 OF THE DUMP (.gsa) THAT YtkmphiakciihfaaDoorProg.lean LOADS. Nothing in Lean hashes anything: it is a label: what it is worth is what the hold of that sum in a sandbox is worth. -/
noncomputable def Tryd.pinned : Pinned := { name := "ytkmphiakciihfaadoor", sum := "febdb43e504ba8bc8ff7785783712beb75ddcc1843a7610c3606ae4a02e5b100", checked := Tryd.checked }
namespace Rows
def none {H : Type} : Left H := { results := [], args := [] }

/- WHAT THE LISTED PACKAGE-LEVEL VARIABLES READ AS WHEN THE CALL BEGINS. Each datum BY PROGRAM (the guide's laid-datum.mjs) off the statement by which the dump's own 'gosem.cut.vars' lays the variable. In a bare row this is a premise. The card (YtkmphiakciihfaaDoorCards.lean) ties it to the program's text. -/
def laid_unicode_utf8_acceptRanges {H : Type} : DataW H := .agg [.agg [.lit (.int .u8 128), .lit (.int .u8 191)], .agg [.lit (.int .u8 160), .lit (.int .u8 191)], .agg [.lit (.int .u8 128), .lit (.int .u8 159)], .agg [.lit (.int .u8 144), .lit (.int .u8 191)], .agg [.lit (.int .u8 128), .lit (.int .u8 143)], .agg [.lit (.int .u8 0), .lit (.int .u8 0)], .agg [.lit (.int .u8 0), .lit (.int .u8 0)], .agg [.lit (.int .u8 0), .lit (.int .u8 0)], .agg [.lit (.int .u8 0), .lit (.int .u8 0)], .agg [.lit (.int .u8 0), .lit (.int .u8 0)], .agg [.lit (.int .u8 0), .lit (.int .u8 0)], .agg [.lit (.int .u8 0), .lit (.int .u8 0)], .agg [.lit (.int .u8 0), .lit (.int .u8 0)], .agg [.lit (.int .u8 0), .lit (.int .u8 0)], .agg [.lit (.int .u8 0), .lit (.int .u8 0)], .agg [.lit (.int .u8 0), .lit (.int .u8 0)]]
/-- One of Go's own tables, pinned by name: the form's constant. -/
def laid_unicode_utf8_first : DataW Unit := Go.Pinned.utf8First

/-- 'postmarklaw12.DerWrites': WHATEVER THE INPUT: true; the input reads as it did. -/
def derWritesSpec : ChangeSpec := { name := "derWrites", fn := fun _ => fun
  | [d1, d2] => { results := [.lit (.bool true)], args := [d1, d2] }
  | _ => none }
def derWritesRow : OpenClaim := { program := "ytkmphiakciihfaadoor", sum := "febdb43e504ba8bc8ff7785783712beb75ddcc1843a7610c3606ae4a02e5b100", func := "postmark/postmarklaw12.DerWrites", spec := "derWrites", inPlace := ["internal/bytealg.IndexByteString", "internal/bytealg.Compare"], unfollowed := true, recurses := true, named := ["unicode/utf8.first", "unicode/utf8.acceptRanges"], loops := true, apart := false, laid := [("unicode/utf8.acceptRanges", laid_unicode_utf8_acceptRanges), ("unicode/utf8.first", laid_unicode_utf8_first)] }
def DerWritesSaid : Prop := derWritesRow.holds Tryd.pinned (OpenSpec.ofChange derWritesSpec)

/-- ITS FALSE NEIGHBOUR: 'it returns false'. Refute it at one input. -/
def derWritesWrong : ChangeSpec := { name := "derWrites", fn := fun _ => fun
  | [d1, d2] => { results := [.lit (.bool false)], args := [d1, d2] }
  | _ => none }
def DerWritesWrongFalsely : Prop := derWritesRow.holds Tryd.pinned (OpenSpec.ofChange derWritesWrong)

/-- 'postmarklaw12.DerSorts': WHATEVER THE INPUT: true; the input reads as it did. -/
def derSortsSpec : ChangeSpec := { name := "derSorts", fn := fun _ => fun
  | [d1, d2] => { results := [.lit (.bool true)], args := [d1, d2] }
  | _ => none }
def derSortsRow : OpenClaim := { program := "ytkmphiakciihfaadoor", sum := "febdb43e504ba8bc8ff7785783712beb75ddcc1843a7610c3606ae4a02e5b100", func := "postmark/postmarklaw12.DerSorts", spec := "derSorts", inPlace := ["internal/bytealg.IndexByteString", "internal/bytealg.Compare"], unfollowed := true, recurses := true, named := ["unicode/utf8.first", "unicode/utf8.acceptRanges"], loops := true, apart := false, laid := [("unicode/utf8.acceptRanges", laid_unicode_utf8_acceptRanges), ("unicode/utf8.first", laid_unicode_utf8_first)] }
def DerSortsSaid : Prop := derSortsRow.holds Tryd.pinned (OpenSpec.ofChange derSortsSpec)

/-- ITS FALSE NEIGHBOUR: 'it returns false'. Refute it at one input. -/
def derSortsWrong : ChangeSpec := { name := "derSorts", fn := fun _ => fun
  | [d1, d2] => { results := [.lit (.bool false)], args := [d1, d2] }
  | _ => none }
def DerSortsWrongFalsely : Prop := derSortsRow.holds Tryd.pinned (OpenSpec.ofChange derSortsWrong)

/-- 'postmarklaw12.DerNames': WHATEVER THE INPUT: true; the input reads as it did. -/
def derNamesSpec : ChangeSpec := { name := "derNames", fn := fun _ => fun
  | [] => { results := [.lit (.bool true)], args := [] }
  | _ => none }
def derNamesRow : OpenClaim := { program := "ytkmphiakciihfaadoor", sum := "febdb43e504ba8bc8ff7785783712beb75ddcc1843a7610c3606ae4a02e5b100", func := "postmark/postmarklaw12.DerNames", spec := "derNames", inPlace := ["internal/bytealg.IndexByteString", "internal/bytealg.Compare"], unfollowed := true, recurses := true, named := ["unicode/utf8.first", "unicode/utf8.acceptRanges"], apart := false, laid := [("unicode/utf8.acceptRanges", laid_unicode_utf8_acceptRanges), ("unicode/utf8.first", laid_unicode_utf8_first)] }
def DerNamesSaid : Prop := derNamesRow.holds Tryd.pinned (OpenSpec.ofChange derNamesSpec)

/-- ITS FALSE NEIGHBOUR: 'it returns false'. Refute it at one input. -/
def derNamesWrong : ChangeSpec := { name := "derNames", fn := fun _ => fun
  | [] => { results := [.lit (.bool false)], args := [] }
  | _ => none }
def DerNamesWrongFalsely : Prop := derNamesRow.holds Tryd.pinned (OpenSpec.ofChange derNamesWrong)

/-- 'postmarklaw12.DerOrder': WHATEVER THE INPUT: true; the input reads as it did. -/
def derOrderSpec : ChangeSpec := { name := "derOrder", fn := fun _ => fun
  | [d] => { results := [.lit (.bool true)], args := [d] }
  | _ => none }
def derOrderRow : OpenClaim := { program := "ytkmphiakciihfaadoor", sum := "febdb43e504ba8bc8ff7785783712beb75ddcc1843a7610c3606ae4a02e5b100", func := "postmark/postmarklaw12.DerOrder", spec := "derOrder", inPlace := ["internal/bytealg.IndexByteString", "internal/bytealg.Compare"], unfollowed := true, recurses := true, named := ["unicode/utf8.first", "unicode/utf8.acceptRanges"], loops := true, apart := false, laid := [("unicode/utf8.acceptRanges", laid_unicode_utf8_acceptRanges), ("unicode/utf8.first", laid_unicode_utf8_first)] }
def DerOrderSaid : Prop := derOrderRow.holds Tryd.pinned (OpenSpec.ofChange derOrderSpec)

/-- ITS FALSE NEIGHBOUR: 'it returns false'. Refute it at one input. -/
def derOrderWrong : ChangeSpec := { name := "derOrder", fn := fun _ => fun
  | [d] => { results := [.lit (.bool false)], args := [d] }
  | _ => none }
def DerOrderWrongFalsely : Prop := derOrderRow.holds Tryd.pinned (OpenSpec.ofChange derOrderWrong)

/-- 'postmarklaw12.DerParts': WHATEVER THE INPUT: true; the input reads as it did. -/
def derPartsSpec : ChangeSpec := { name := "derParts", fn := fun _ => fun
  | [d1, d2] => { results := [.lit (.bool true)], args := [d1, d2] }
  | _ => none }
def derPartsRow : OpenClaim := { program := "ytkmphiakciihfaadoor", sum := "febdb43e504ba8bc8ff7785783712beb75ddcc1843a7610c3606ae4a02e5b100", func := "postmark/postmarklaw12.DerParts", spec := "derParts", inPlace := ["internal/bytealg.IndexByteString", "internal/bytealg.Compare"], unfollowed := true, recurses := true, named := ["unicode/utf8.first", "unicode/utf8.acceptRanges"], loops := true, apart := false, laid := [("unicode/utf8.acceptRanges", laid_unicode_utf8_acceptRanges), ("unicode/utf8.first", laid_unicode_utf8_first)] }
def DerPartsSaid : Prop := derPartsRow.holds Tryd.pinned (OpenSpec.ofChange derPartsSpec)

/-- ITS FALSE NEIGHBOUR: 'it returns false'. Refute it at one input. -/
def derPartsWrong : ChangeSpec := { name := "derParts", fn := fun _ => fun
  | [d1, d2] => { results := [.lit (.bool false)], args := [d1, d2] }
  | _ => none }
def DerPartsWrongFalsely : Prop := derPartsRow.holds Tryd.pinned (OpenSpec.ofChange derPartsWrong)

/-- 'postmarklaw12.DerApart': WHATEVER THE INPUT: true; the input reads as it did. -/
def derApartSpec : ChangeSpec := { name := "derApart", fn := fun _ => fun
  | [d1, d2, d3] => { results := [.lit (.bool true)], args := [d1, d2, d3] }
  | _ => none }
def derApartRow : OpenClaim := { program := "ytkmphiakciihfaadoor", sum := "febdb43e504ba8bc8ff7785783712beb75ddcc1843a7610c3606ae4a02e5b100", func := "postmark/postmarklaw12.DerApart", spec := "derApart", inPlace := ["internal/bytealg.IndexByteString", "internal/bytealg.Compare"], unfollowed := true, recurses := true, named := ["unicode/utf8.first", "unicode/utf8.acceptRanges"], loops := true, apart := false, laid := [("unicode/utf8.acceptRanges", laid_unicode_utf8_acceptRanges), ("unicode/utf8.first", laid_unicode_utf8_first)] }
def DerApartSaid : Prop := derApartRow.holds Tryd.pinned (OpenSpec.ofChange derApartSpec)

/-- ITS FALSE NEIGHBOUR: 'it returns false'. Refute it at one input. -/
def derApartWrong : ChangeSpec := { name := "derApart", fn := fun _ => fun
  | [d1, d2, d3] => { results := [.lit (.bool false)], args := [d1, d2, d3] }
  | _ => none }
def DerApartWrongFalsely : Prop := derApartRow.holds Tryd.pinned (OpenSpec.ofChange derApartWrong)

/- THE SECOND FORM. 'bulk': how many values and letters a reading holds, each counted each time it is reached (what is shared counts as often as it is met; a slice's spare places count too). A statement '..UptoSaid' is the law's where the arguments, and the package variables that the reading takes, are together of bulk at most 1048576: NARROWER than '..Said'. Prove '..Said' where nothing that the law and all that it calls make is longer than what came in: it says more and counts as full. Else prove '..UptoSaid'. A law counts once. -/
mutual
def uptoBulk {H : Type} : DataW H → Nat
  | .lit (.string bytes) => bytes.length + 1
  | .lit _ => 1
  | .nil => 1
  | .ptr d => uptoBulk d + 1
  | .slice elems spare => uptoBulkAll elems + uptoBulkAll spare + 1
  | .agg parts => uptoBulkAll parts + 1
  | .iface _ d => uptoBulk d + 1
  | .map entries => uptoBulkEntries entries + 1
  | .held _ => 1
def uptoBulkAll {H : Type} : List (DataW H) → Nat
  | [] => 0
  | d :: r => uptoBulk d + uptoBulkAll r
def uptoBulkEntries {H : Type} : List (Lit × DataW H) → Nat
  | [] => 0
  | x :: r => uptoBulkEntry x + uptoBulkEntries r
def uptoBulkEntry {H : Type} : Lit × DataW H → Nat
  | (.string bytes, d) => bytes.length + uptoBulk d + 1
  | (_, d) => uptoBulk d + 1
 end
def uptoSmall : (H : Type) → List (DataW H) → Bool := fun _ ds => decide (uptoBulkAll ds ≤ 1048576)
def OpenSpec.upto (s : _root_.Go.ChangeSpec) : _root_.Go.OpenSpec := { _root_.Go.OpenSpec.ofChange s with cond := some uptoSmall }

/-- 'postmarklaw12.DerWrites', WHERE WHAT IT READS IS OF BULK AT MOST 1048576: true; the input reads as it did. -/
def derWritesUptoRow : OpenClaim := { program := "ytkmphiakciihfaadoor", sum := "febdb43e504ba8bc8ff7785783712beb75ddcc1843a7610c3606ae4a02e5b100", func := "postmark/postmarklaw12.DerWrites", spec := "derWrites", inPlace := ["internal/bytealg.IndexByteString", "internal/bytealg.Compare"], unfollowed := true, recurses := true, named := ["unicode/utf8.first", "unicode/utf8.acceptRanges"], loops := true, apart := false, laid := [("unicode/utf8.acceptRanges", laid_unicode_utf8_acceptRanges), ("unicode/utf8.first", laid_unicode_utf8_first)], narrowed := true }
def DerWritesUptoSaid : Prop := derWritesUptoRow.holds Tryd.pinned (OpenSpec.upto derWritesSpec)

/-- 'postmarklaw12.DerSorts', WHERE WHAT IT READS IS OF BULK AT MOST 1048576: true; the input reads as it did. -/
def derSortsUptoRow : OpenClaim := { program := "ytkmphiakciihfaadoor", sum := "febdb43e504ba8bc8ff7785783712beb75ddcc1843a7610c3606ae4a02e5b100", func := "postmark/postmarklaw12.DerSorts", spec := "derSorts", inPlace := ["internal/bytealg.IndexByteString", "internal/bytealg.Compare"], unfollowed := true, recurses := true, named := ["unicode/utf8.first", "unicode/utf8.acceptRanges"], loops := true, apart := false, laid := [("unicode/utf8.acceptRanges", laid_unicode_utf8_acceptRanges), ("unicode/utf8.first", laid_unicode_utf8_first)], narrowed := true }
def DerSortsUptoSaid : Prop := derSortsUptoRow.holds Tryd.pinned (OpenSpec.upto derSortsSpec)

/-- 'postmarklaw12.DerNames', WHERE WHAT IT READS IS OF BULK AT MOST 1048576: true; the input reads as it did. -/
def derNamesUptoRow : OpenClaim := { program := "ytkmphiakciihfaadoor", sum := "febdb43e504ba8bc8ff7785783712beb75ddcc1843a7610c3606ae4a02e5b100", func := "postmark/postmarklaw12.DerNames", spec := "derNames", inPlace := ["internal/bytealg.IndexByteString", "internal/bytealg.Compare"], unfollowed := true, recurses := true, named := ["unicode/utf8.first", "unicode/utf8.acceptRanges"], apart := false, laid := [("unicode/utf8.acceptRanges", laid_unicode_utf8_acceptRanges), ("unicode/utf8.first", laid_unicode_utf8_first)], narrowed := true }
def DerNamesUptoSaid : Prop := derNamesUptoRow.holds Tryd.pinned (OpenSpec.upto derNamesSpec)

/-- 'postmarklaw12.DerOrder', WHERE WHAT IT READS IS OF BULK AT MOST 1048576: true; the input reads as it did. -/
def derOrderUptoRow : OpenClaim := { program := "ytkmphiakciihfaadoor", sum := "febdb43e504ba8bc8ff7785783712beb75ddcc1843a7610c3606ae4a02e5b100", func := "postmark/postmarklaw12.DerOrder", spec := "derOrder", inPlace := ["internal/bytealg.IndexByteString", "internal/bytealg.Compare"], unfollowed := true, recurses := true, named := ["unicode/utf8.first", "unicode/utf8.acceptRanges"], loops := true, apart := false, laid := [("unicode/utf8.acceptRanges", laid_unicode_utf8_acceptRanges), ("unicode/utf8.first", laid_unicode_utf8_first)], narrowed := true }
def DerOrderUptoSaid : Prop := derOrderUptoRow.holds Tryd.pinned (OpenSpec.upto derOrderSpec)

/-- 'postmarklaw12.DerParts', WHERE WHAT IT READS IS OF BULK AT MOST 1048576: true; the input reads as it did. -/
def derPartsUptoRow : OpenClaim := { program := "ytkmphiakciihfaadoor", sum := "febdb43e504ba8bc8ff7785783712beb75ddcc1843a7610c3606ae4a02e5b100", func := "postmark/postmarklaw12.DerParts", spec := "derParts", inPlace := ["internal/bytealg.IndexByteString", "internal/bytealg.Compare"], unfollowed := true, recurses := true, named := ["unicode/utf8.first", "unicode/utf8.acceptRanges"], loops := true, apart := false, laid := [("unicode/utf8.acceptRanges", laid_unicode_utf8_acceptRanges), ("unicode/utf8.first", laid_unicode_utf8_first)], narrowed := true }
def DerPartsUptoSaid : Prop := derPartsUptoRow.holds Tryd.pinned (OpenSpec.upto derPartsSpec)

/-- 'postmarklaw12.DerApart', WHERE WHAT IT READS IS OF BULK AT MOST 1048576: true; the input reads as it did. -/
def derApartUptoRow : OpenClaim := { program := "ytkmphiakciihfaadoor", sum := "febdb43e504ba8bc8ff7785783712beb75ddcc1843a7610c3606ae4a02e5b100", func := "postmark/postmarklaw12.DerApart", spec := "derApart", inPlace := ["internal/bytealg.IndexByteString", "internal/bytealg.Compare"], unfollowed := true, recurses := true, named := ["unicode/utf8.first", "unicode/utf8.acceptRanges"], loops := true, apart := false, laid := [("unicode/utf8.acceptRanges", laid_unicode_utf8_acceptRanges), ("unicode/utf8.first", laid_unicode_utf8_first)], narrowed := true }
def DerApartUptoSaid : Prop := derApartUptoRow.holds Tryd.pinned (OpenSpec.upto derApartSpec)

end Rows
end Go.Proofs.YtkmphiakciihfaaDoor
