/-
  What the card of TextLong stands on. No conditions.
-/
import Derived.Test.YtggeccndmmmnjaaDoorTxLong
import Derived.Test.YtggeccndmmmnjaaDoorTxClose
