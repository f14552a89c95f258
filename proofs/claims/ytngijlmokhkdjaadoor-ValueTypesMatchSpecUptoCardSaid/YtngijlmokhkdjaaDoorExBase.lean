/-
  What the texts of values give to the trees of expressions.
-/
import Derived.Test.YtngijlmokhkdjaaDoorTxtChkV
