
/-
  What the document's own answers of layer 1 do, a contract each.
-/
import Derived.Test.YtiappeagdnkedaaProg
import Derived.Test.YtiappeagdnkedaaWireMath
import Derived.Test.YtiappeagdnkedaaSame
import Derived.Deep.QuietTactic
import Derived.BigQuiet
import Derived.Outline
namespace Go.Proofs.Ytiappeagdnkedaa
open Go.RowKit

end Go.Proofs.Ytiappeagdnkedaa
