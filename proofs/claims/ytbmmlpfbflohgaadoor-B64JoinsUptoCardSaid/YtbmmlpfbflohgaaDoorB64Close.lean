/-
  What the cards of layer 3 share: the listed variables. No conditions.
-/
import Derived.Test.YtbmmlpfbflohgaaDoorB64LawsC
import Derived.Test.YtbmmlpfbflohgaaDoorB64LawsD
import Derived.Test.YtbmmlpfbflohgaaDoorRows
import Derived.Test.YtbmmlpfbflohgaaDoorTie
import Derived.Test.YtbmmlpfbflohgaaDoorCards
import Derived.SizedLaws
import Derived.ProofKit
import Derived.Handy
import Derived.Lay
import Derived.SevenTiedAt
import Derived.MakeChecks
namespace Go.Proofs.YtbmmlpfbflohgaaDoor
open Go Go.ChangeShapes Go.WideShapes Go.ChangeAt Go.RowKit

theorem own : ownKnob Tryd.prog.godebug = none := by kernel_rfl
theorem laidOut : laidOutB Tryd.prog = true := by kernel_rfl
abbrev laid3 : List (String × DataW Unit) := [("unicode/utf8.acceptRanges", Rows.laid_unicode_utf8_acceptRanges), ("unicode/utf8.first", Rows.laid_unicode_utf8_first)]
end Go.Proofs.YtbmmlpfbflohgaaDoor
