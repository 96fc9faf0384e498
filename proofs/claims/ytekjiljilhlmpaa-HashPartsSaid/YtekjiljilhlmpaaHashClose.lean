/-
  What the claims of layer 4 share. No conditions.
-/
import Derived.Test.YtekjiljilhlmpaaHashLawsB
import Derived.Test.YtekjiljilhlmpaaHashLawsC
import Derived.SizedLaws
import Derived.Handy
namespace Go.Proofs.Ytekjiljilhlmpaa
open Go Go.RowKit

theorem own : ownKnob Try.prog.godebug = none := by kernel_rfl
end Go.Proofs.Ytekjiljilhlmpaa
