
/-
  What the document's own answers of layer 1 do, a contract each.
-/
import Derived.Test.YtappehjcbjplaaaProg
import Derived.Test.YtappehjcbjplaaaWireMath
import Derived.Test.YtappehjcbjplaaaSame
import Derived.Deep.QuietTactic
import Derived.BigQuiet
import Derived.Outline
namespace Go.Proofs.Ytappehjcbjplaaa
open Go.RowKit

end Go.Proofs.Ytappehjcbjplaaa
