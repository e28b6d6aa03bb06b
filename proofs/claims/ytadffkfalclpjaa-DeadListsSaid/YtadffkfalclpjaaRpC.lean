/-
  The document's own Write and Read of pointers.
-/
import Derived.Test.YtadffkfalclpjaaRpB
namespace Go.Proofs.Ytadffkfalclpjaa
open Go.RowKit Go.Shelf
set_option maxRecDepth 100000

end Go.Proofs.Ytadffkfalclpjaa
