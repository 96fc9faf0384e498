/-
  From what a row lists of the package variables to what the contracts ask of the world ('Vars'). No conditions.
-/
import Derived.Test.YtggeccndmmmnjaaDoorTxShown
import Derived.Test.YtggeccndmmmnjaaDoorRows
import Derived.Test.YtggeccndmmmnjaaDoorTie
import Derived.Test.YtggeccndmmmnjaaDoorCards
import Derived.Stop.LaidErr
import Derived.Lib.LaidTab
import Derived.ProofKit
import Derived.Handy
import Derived.Lay
import Derived.SevenTiedAt
import Derived.MakeChecks
namespace Go.Proofs.YtggeccndmmmnjaaDoor
open Go Go.ChangeShapes Go.WideShapes Go.ChangeAt Go.RowKit

theorem own : ownKnob Tryd.prog.godebug = none := by kernel_rfl
theorem gSyn : Tryd.prog.globalNamed "strconv.ErrSyntax" = some 3 := by kernel_rfl
theorem gRan : Tryd.prog.globalNamed "strconv.ErrRange" = some 4 := by kernel_rfl
theorem tSyn : (Tryd.prog.globals[3]?).map (·.type) = some 49 := by kernel_rfl
theorem tRan : (Tryd.prog.globals[4]?).map (·.type) = some 49 := by kernel_rfl
theorem tTab : (Tryd.prog.globals[5]?).map (·.type) = some 130 := by kernel_rfl
theorem cellsErr : Tryd.prog.cellsOf 122 = 1 := by kernel_rfl
theorem cellsStr : Tryd.prog.cellsOf 9 = 1 := by kernel_rfl
theorem cellsU64 : Tryd.prog.cellsOf 33 = 1 := by kernel_rfl
theorem cellsPow : Tryd.prog.cellsOf 130 = 20 := by kernel_rfl

abbrev laid7 : List (String × DataW Unit) := [("math/bits.deBruijn32tab", Rows.laid_math_bits_deBruijn32tab), ("math/bits.deBruijn64tab", Rows.laid_math_bits_deBruijn64tab), ("internal/strconv.uint64pow10", Rows.laid_internal_strconv_uint64pow10), ("unicode/utf8.acceptRanges", Rows.laid_unicode_utf8_acceptRanges), ("strconv.ErrRange", Rows.laid_strconv_ErrRange), ("strconv.ErrSyntax", Rows.laid_strconv_ErrSyntax), ("unicode/utf8.first", Rows.laid_unicode_utf8_first)]

theorem star : "*" ++ "errors.errorString" = "*errors.errorString" := by decide
theorem rowErr (u : TypeId) (h : Tryd.prog.typeName? 3 u = some "*errors.errorString") : u = 120 :=
  typeName_ptr_named (nm := "errors.errorString") (by rw [star]; kernel_rfl) (by kernel_rfl) (by decide) u (by rw [star]; exact h)
theorem vars_of {W : World} (h : laidMet Tryd.prog laid7 W) : Nu.Vars W := by
  have h3 := h.tail.tail
  have ht : Lib.TabIs Tryd.prog W "internal/strconv.uint64pow10" .u64 Lib.pow10Tab :=
    Lib.tabIs_of_head Nu.gTab tTab Tryd.underlying130 Tryd.underlying33 cellsU64 cellsPow h3
  obtain ⟨a1, s1, hv1, -, -, -⟩ := laid_sentinel h3.tail.tail gRan tRan Tryd.underlying49 rowErr Tryd.underlying120 Tryd.underlying122 rfl rfl Tryd.underlying9 cellsErr cellsStr
  obtain ⟨a0, s0, hv0, -, -, -⟩ := laid_sentinel h3.tail.tail.tail gSyn tSyn Tryd.underlying49 rowErr Tryd.underlying120 Tryd.underlying122 rfl rfl Tryd.underlying9 cellsErr cellsStr
  exact ⟨⟨_, by have h0 := World.var?_cell gSyn hv0 0; simpa using h0, Or.inr ⟨_, _, rfl⟩⟩, ⟨_, by have h0 := World.var?_cell gRan hv1 0; simpa using h0, Or.inr ⟨_, _, rfl⟩⟩, ht⟩
end Go.Proofs.YtggeccndmmmnjaaDoor
