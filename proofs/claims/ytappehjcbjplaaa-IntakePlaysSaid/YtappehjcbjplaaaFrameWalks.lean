
/-
  What the calls of package frame do, a contract each.
-/
import Derived.Test.YtappehjcbjplaaaProg
import Derived.Test.YtappehjcbjplaaaFrameKit
import Derived.Test.YtappehjcbjplaaaWireWalks
import Derived.Test.YtappehjcbjplaaaBytesEqual
namespace Go.Proofs.Ytappehjcbjplaaa
open Go.RowKit

end Go.Proofs.Ytappehjcbjplaaa
