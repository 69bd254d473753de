/-
  The document's own writer is told a row; conditions: the writer is there, its bytes are not many, the row does not lie in it.
-/
import Derived.Test.YtjfgnoidoeaaeaaRw
namespace Go.Proofs.Ytjfgnoidoeaaeaa
open Go.RowKit
set_option linter.unusedVariables false
set_option linter.unusedSimpArgs false

end Go.Proofs.Ytjfgnoidoeaaeaa
