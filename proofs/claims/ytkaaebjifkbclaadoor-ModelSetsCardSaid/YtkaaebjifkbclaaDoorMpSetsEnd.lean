/-
  The law ModelSets beside what closes a card. No conditions.
-/
import Derived.Test.YtkaaebjifkbclaaDoorMpSetsLaw
import Derived.Test.YtkaaebjifkbclaaDoorMpCloseB
