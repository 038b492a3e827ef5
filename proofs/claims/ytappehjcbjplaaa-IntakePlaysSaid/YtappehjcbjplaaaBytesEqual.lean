
/-
  bytes.Equal.
-/
import Derived.Test.YtappehjcbjplaaaProg
import Derived.Test.YtappehjcbjplaaaBytes
namespace Go.Proofs.Ytappehjcbjplaaa
open Go.RowKit

end Go.Proofs.Ytappehjcbjplaaa
