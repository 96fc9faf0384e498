/-
  All walks of layer 1's laws under one name, beside what closes a card. No conditions.
-/
import Derived.Test.YtkodgfbalclaeaaDoorNumsClose
import Derived.Test.YtkodgfbalclaeaaDoorNumsLawsD
