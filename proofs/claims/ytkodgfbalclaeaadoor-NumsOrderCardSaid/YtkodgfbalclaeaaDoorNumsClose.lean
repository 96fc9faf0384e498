/-
  From what a row lists of the package variables to what the contracts of layer 1 ask of the world ('Vars'). No conditions.
-/
import Derived.Test.YtkodgfbalclaeaaDoorNumsLaws
import Derived.Test.YtkodgfbalclaeaaDoorRows
import Derived.Test.YtkodgfbalclaeaaDoorTie
import Derived.Test.YtkodgfbalclaeaaDoorCards
import Derived.Stop.LaidErr
import Derived.Lib.LaidTab
import Derived.ProofKit
import Derived.Handy
import Derived.Lay
import Derived.SevenTiedAt
import Derived.MakeChecks
namespace Go.Proofs.YtkodgfbalclaeaaDoor
open Go.ChangeShapes Go.WideShapes Go.ChangeAt Go.RowKit

theorem own : ownKnob Tryd.prog.godebug = none := by kernel_rfl
theorem gSyn : Tryd.prog.globalNamed "strconv.ErrSyntax" = some 0 := by kernel_rfl
theorem gRan : Tryd.prog.globalNamed "strconv.ErrRange" = some 1 := by kernel_rfl
theorem tSyn : (Tryd.prog.globals[0]?).map (·.type) = some 39 := by kernel_rfl
theorem tRan : (Tryd.prog.globals[1]?).map (·.type) = some 39 := by kernel_rfl
theorem tTab : (Tryd.prog.globals[2]?).map (·.type) = some 65 := by kernel_rfl
theorem cells73 : Tryd.prog.cellsOf 73 = 1 := by kernel_rfl
theorem cells9 : Tryd.prog.cellsOf 9 = 1 := by kernel_rfl
theorem cells23 : Tryd.prog.cellsOf 23 = 1 := by kernel_rfl
theorem cells65 : Tryd.prog.cellsOf 65 = 20 := by kernel_rfl

abbrev laid5 : List (String × DataW Unit) := [("math/bits.deBruijn32tab", Rows.laid_math_bits_deBruijn32tab), ("math/bits.deBruijn64tab", Rows.laid_math_bits_deBruijn64tab), ("internal/strconv.uint64pow10", Rows.laid_internal_strconv_uint64pow10), ("strconv.ErrRange", Rows.laid_strconv_ErrRange), ("strconv.ErrSyntax", Rows.laid_strconv_ErrSyntax)]

theorem star : "*" ++ "errors.errorString" = "*errors.errorString" := by decide
theorem rowErr (u : TypeId) (h : Tryd.prog.typeName? 3 u = some "*errors.errorString") : u = 71 :=
  typeName_ptr_named (nm := "errors.errorString") (by rw [star]; kernel_rfl) (by kernel_rfl) (by decide) u (by rw [star]; exact h)

theorem tabEq : (Rows.laid_internal_strconv_uint64pow10 : DataW Unit) = Lib.tabData .u64 Lib.pow10Tab := by rfl
theorem vars_of {W : World} (h : laidMet Tryd.prog laid5 W) : Vars W := by
  have h3 := h.tail.tail
  have ht : Lib.TabIs Tryd.prog W "internal/strconv.uint64pow10" .u64 Lib.pow10Tab :=
    Lib.tabIs_of_head gTab tTab Tryd.underlying65 Tryd.underlying23 cells23 cells65 h3
  obtain ⟨a1, s1, hv1, -, -, -⟩ := laid_sentinel h3.tail gRan tRan Tryd.underlying39 rowErr Tryd.underlying71 Tryd.underlying73 rfl rfl Tryd.underlying9 cells73 cells9
  obtain ⟨a0, s0, hv0, -, -, -⟩ := laid_sentinel h3.tail.tail gSyn tSyn Tryd.underlying39 rowErr Tryd.underlying71 Tryd.underlying73 rfl rfl Tryd.underlying9 cells73 cells9
  exact ⟨⟨_, by have h0 := World.var?_cell gSyn hv0 0; simpa using h0, Or.inr ⟨_, _, rfl⟩⟩, ⟨_, by have h0 := World.var?_cell gRan hv1 0; simpa using h0, Or.inr ⟨_, _, rfl⟩⟩, ht⟩
end Go.Proofs.YtkodgfbalclaeaaDoor
