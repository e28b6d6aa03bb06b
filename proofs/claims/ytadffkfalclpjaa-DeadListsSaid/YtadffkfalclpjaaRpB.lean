/-
  The document's own Bytes and Write of pointers.
-/
import Derived.Test.YtadffkfalclpjaaRpA
import Derived.Test.YtadffkfalclpjaaMovP
import Derived.Deep.CutRange
import Derived.Deep.DeepCutAuto
namespace Go.Proofs.Ytadffkfalclpjaa
open Go.RowKit Go.Shelf
set_option maxRecDepth 100000

end Go.Proofs.Ytadffkfalclpjaa
