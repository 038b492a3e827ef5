
/-
  Layer 11: the program's own, all of it (pRead_any, alive11).
-/
import Derived.Test.YtohghphegcnfkaaPayAlive
import Derived.Test.YtohghphegcnfkaaPayRef
