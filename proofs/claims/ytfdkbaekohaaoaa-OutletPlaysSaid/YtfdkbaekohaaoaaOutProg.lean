
/-
  Layer 14: the program's contracts, whole.
-/
import Derived.Test.YtfdkbaekohaaoaaOutFill
