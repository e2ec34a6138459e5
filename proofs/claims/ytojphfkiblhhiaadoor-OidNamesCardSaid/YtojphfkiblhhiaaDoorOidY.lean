/-
  OID: FROM WHAT A ROW LISTS AS LAID, the known table among it, TO WHAT THE WALKS ASK.
-/
import Derived.Test.YtojphfkiblhhiaaDoorOidV
namespace Go.Proofs.YtojphfkiblhhiaaDoor
open Go.RowKit
set_option maxRecDepth 100000

theorem kl_of_laid {W : World} (h : laidMetH Tryd.prog [("math/bits.deBruijn32tab", Rows.laid_math_bits_deBruijn32tab), ("math/bits.deBruijn64tab", Rows.laid_math_bits_deBruijn64tab), ("internal/strconv.uint64pow10", Rows.laid_internal_strconv_uint64pow10), ("unicode/utf8.acceptRanges", Rows.laid_unicode_utf8_acceptRanges), ("strconv.ErrRange", Rows.laid_strconv_ErrRange), ("strconv.ErrSyntax", Rows.laid_strconv_ErrSyntax), ("postmark/oid.known", Rows.laid_postmark_oid_known), ("unicode/utf8.first", Rows.laid_unicode_utf8_first)] W) (hS : W.ShapedOpen Tryd.prog) : Libs W ∧ Knowns W := by
  have h0 : laidMet Tryd.prog [("math/bits.deBruijn32tab", Rows.laid_math_bits_deBruijn32tab), ("math/bits.deBruijn64tab", Rows.laid_math_bits_deBruijn64tab), ("internal/strconv.uint64pow10", Rows.laid_internal_strconv_uint64pow10), ("unicode/utf8.acceptRanges", Rows.laid_unicode_utf8_acceptRanges), ("strconv.ErrRange", Rows.laid_strconv_ErrRange), ("strconv.ErrSyntax", Rows.laid_strconv_ErrSyntax), ("postmark/oid.known", Rows.laid_postmark_oid_known), ("unicode/utf8.first", Rows.laid_unicode_utf8_first)] W := h
  have h2 := h0.tail.tail
  have h4 := h2.tail.tail
  have h5 := h4.tail
  have gR : Tryd.prog.globalNamed "strconv.ErrRange" = some 3 := by kernel_rfl
  have gS : Tryd.prog.globalNamed "strconv.ErrSyntax" = some 2 := by kernel_rfl
  refine ⟨⟨?_, ?_, ?_, Tryd.laysM146.s1_3 W hS⟩, knowns_of_laid h5.tail⟩
  · exact Lib.tabIs_of_head (n := 20) (e := 36) (t := 100) tab_name (by kernel_rfl) Tryd.underlying100 Tryd.underlying36 (by kernel_rfl) (by kernel_rfl) h2
  · obtain ⟨a, s, hv, _, _, _⟩ := laid_sentinel (ti := 58) (te := 119) (ts := 9) h5 gS (by kernel_rfl) Tryd.underlying58 err_row Tryd.underlying117 Tryd.underlying119 rfl rfl Tryd.underlying9 (by kernel_rfl) (by kernel_rfl)
    exact ⟨_, by simpa using World.var?_cell gS hv 0, Or.inr ⟨_, _, rfl⟩⟩
  · obtain ⟨a, s, hv, _, _, _⟩ := laid_sentinel (ti := 58) (te := 119) (ts := 9) h4 gR (by kernel_rfl) Tryd.underlying58 err_row Tryd.underlying117 Tryd.underlying119 rfl rfl Tryd.underlying9 (by kernel_rfl) (by kernel_rfl)
    exact ⟨_, by simpa using World.var?_cell gR hv 0, Or.inr ⟨_, _, rfl⟩⟩

end Go.Proofs.YtojphfkiblhhiaaDoor
