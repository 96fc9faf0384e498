/-
  From what StatsSums' row lists of the package variables to what the contracts ask of the world. No conditions.
-/
import Derived.Test.YtfoggbgemdlhbaaDoorStsSums
namespace Go.Proofs.YtfoggbgemdlhbaaDoor
open Go Go.ChangeShapes Go.WideShapes Go.ChangeAt Go.RowKit
abbrev laid7 : List (String × DataW Unit) := [("math/bits.deBruijn32tab", Rows.laid_math_bits_deBruijn32tab), ("math/bits.deBruijn64tab", Rows.laid_math_bits_deBruijn64tab), ("internal/strconv.uint64pow10", Rows.laid_internal_strconv_uint64pow10), ("unicode/utf8.acceptRanges", Rows.laid_unicode_utf8_acceptRanges), ("strconv.ErrRange", Rows.laid_strconv_ErrRange), ("strconv.ErrSyntax", Rows.laid_strconv_ErrSyntax), ("unicode/utf8.first", Rows.laid_unicode_utf8_first)]
theorem tab_of7 {W : World} (h : laidMet Tryd.prog laid7 W) : Nu.TabV W :=
  ⟨Lib.tabIs_of_head Nu.gTab tTab Tryd.underlying104 Tryd.underlying28 cells23 cells65 h.tail.tail⟩
end Go.Proofs.YtfoggbgemdlhbaaDoor
