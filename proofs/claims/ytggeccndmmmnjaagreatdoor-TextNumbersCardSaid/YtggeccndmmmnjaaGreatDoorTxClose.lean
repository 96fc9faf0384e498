/-
  From what a row lists of the package variables to what the contracts ask of the world ('Vars'). No conditions.
-/
import Derived.Test.YtggeccndmmmnjaaGreatDoorTxShown
import Derived.Test.YtggeccndmmmnjaaGreatDoorRows
import Derived.Test.YtggeccndmmmnjaaGreatDoorTie
import Derived.Test.YtggeccndmmmnjaaGreatDoorCards
import Derived.Stop.LaidErr
import Derived.Lib.LaidTab
import Derived.ProofKit
import Derived.Handy
import Derived.Lay
import Derived.SevenTiedAt
import Derived.MakeChecks
namespace Go.Proofs.YtggeccndmmmnjaaGreatDoor
open Go Go.ChangeShapes Go.WideShapes Go.ChangeAt Go.RowKit

theorem own : ownKnob Tryz.prog.godebug = none := by kernel_rfl
theorem gSyn : Tryz.prog.globalNamed "strconv.ErrSyntax" = some 6 := by kernel_rfl
theorem gRan : Tryz.prog.globalNamed "strconv.ErrRange" = some 7 := by kernel_rfl
theorem tSyn : (Tryz.prog.globals[6]?).map (·.type) = some 70 := by kernel_rfl
theorem tRan : (Tryz.prog.globals[7]?).map (·.type) = some 70 := by kernel_rfl
theorem tTab : (Tryz.prog.globals[0]?).map (·.type) = some 110 := by kernel_rfl
theorem cellsErr : Tryz.prog.cellsOf 152 = 1 := by kernel_rfl
theorem cellsStr : Tryz.prog.cellsOf 9 = 1 := by kernel_rfl
theorem cellsU64 : Tryz.prog.cellsOf 32 = 1 := by kernel_rfl
theorem cellsPow : Tryz.prog.cellsOf 110 = 20 := by kernel_rfl

abbrev laid7 : List (String × DataW Unit) := [("math/bits.deBruijn32tab", Rows.laid_math_bits_deBruijn32tab), ("math/bits.deBruijn64tab", Rows.laid_math_bits_deBruijn64tab), ("internal/strconv.uint64pow10", Rows.laid_internal_strconv_uint64pow10), ("unicode/utf8.acceptRanges", Rows.laid_unicode_utf8_acceptRanges), ("strconv.ErrRange", Rows.laid_strconv_ErrRange), ("strconv.ErrSyntax", Rows.laid_strconv_ErrSyntax), ("unicode/utf8.first", Rows.laid_unicode_utf8_first)]

theorem star : "*" ++ "errors.errorString" = "*errors.errorString" := by decide
theorem rowErr (u : TypeId) (h : Tryz.prog.typeName? 3 u = some "*errors.errorString") : u = 150 :=
  typeName_ptr_named (nm := "errors.errorString") (by rw [star]; kernel_rfl) (by kernel_rfl) (by decide) u (by rw [star]; exact h)
theorem vars_of {W : World} (h : laidMet Tryz.prog laid7 W) : Nu.Vars W := by
  have h3 := h.tail.tail
  have ht : Lib.TabIs Tryz.prog W "internal/strconv.uint64pow10" .u64 Lib.pow10Tab :=
    Lib.tabIs_of_head Nu.gTab tTab Tryz.underlying110 Tryz.underlying32 cellsU64 cellsPow h3
  obtain ⟨a1, s1, hv1, -, -, -⟩ := laid_sentinel h3.tail.tail gRan tRan Tryz.underlying70 rowErr Tryz.underlying150 Tryz.underlying152 rfl rfl Tryz.underlying9 cellsErr cellsStr
  obtain ⟨a0, s0, hv0, -, -, -⟩ := laid_sentinel h3.tail.tail.tail gSyn tSyn Tryz.underlying70 rowErr Tryz.underlying150 Tryz.underlying152 rfl rfl Tryz.underlying9 cellsErr cellsStr
  exact ⟨⟨_, by have h0 := World.var?_cell gSyn hv0 0; simpa using h0, Or.inr ⟨_, _, rfl⟩⟩, ⟨_, by have h0 := World.var?_cell gRan hv1 0; simpa using h0, Or.inr ⟨_, _, rfl⟩⟩, ht⟩
end Go.Proofs.YtggeccndmmmnjaaGreatDoor
