
/-
  bytes.Equal.
-/
import Derived.Test.YtfdkbaekohaaoaaProg
import Derived.Test.YtfdkbaekohaaoaaBytes
namespace Go.Proofs.Ytfdkbaekohaaoaa
open Go.RowKit

end Go.Proofs.Ytfdkbaekohaaoaa
