/-
  What the card of TextNumbers stands on. No conditions.
-/
import Derived.Test.YtggeccndmmmnjaaGreatDoorTxNumbersL
import Derived.Test.YtggeccndmmmnjaaGreatDoorTxClose
