/-
  utf8's TABLES, OUT OF WHAT THE ROWS LAY.
-/
import Derived.Test.YtkmphiakciihfaaDoorTcL
import Derived.Test.YtkmphiakciihfaaDoorRows
import Derived.Lib.LaidU8T
import Derived.LaidLaws
namespace Go.Proofs.YtkmphiakciihfaaDoor
open Go.RowKit Go.Shelf Go.Lib

def rU : Ren := ⟨fun x => x, fun x => if x = 5 then 5 else if x = 119 then 107 else if x = 138 then 109 else 110, fun g => if g = 3 then 1 else 2⟩

theorem first_eq : Go.Pinned.utf8First = firstData := by kernel_rfl
theorem accept_eq : (Rows.laid_unicode_utf8_acceptRanges : DataW Unit) = acceptData := by kernel_rfl

set_option maxRecDepth 100000 in
theorem tabs_of_laid {W : World} (h : laidMetH Tryd.prog [("unicode/utf8.acceptRanges", Rows.laid_unicode_utf8_acceptRanges), ("unicode/utf8.first", Rows.laid_unicode_utf8_first)] W) : Tabs W := by
  have h' : laidMet Tryd.prog [("unicode/utf8.acceptRanges", acceptData), ("unicode/utf8.first", firstData)] W := by
    rw [← accept_eq, ← first_eq]; exact h
  exact utf8Tabs_of_readsT (P := Tryd.prog) (ρ := rU) ⟨by kernel_rfl, by kernel_rfl, by kernel_rfl, by kernel_rfl⟩ ⟨by kernel_rfl, by kernel_rfl, by kernel_rfl, by kernel_rfl, by kernel_rfl, by kernel_rfl, by kernel_rfl⟩ (laidMet.reads h' (.tail _ (.head _))) (laidMet.reads h' (.head _))

end Go.Proofs.YtkmphiakciihfaaDoor
