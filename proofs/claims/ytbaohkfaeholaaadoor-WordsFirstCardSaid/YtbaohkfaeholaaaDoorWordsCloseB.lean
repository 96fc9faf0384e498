/-
  All walks of layer 2's laws under one name, beside what closes a card. No conditions.
-/
import Derived.Test.YtbaohkfaeholaaaDoorWordsClose
import Derived.Test.YtbaohkfaeholaaaDoorWordsLong
import Derived.Test.YtbaohkfaeholaaaDoorWordsFirst
import Derived.Test.YtbaohkfaeholaaaDoorWordsJoins
