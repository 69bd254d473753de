/-
  Blank and Read of the program's flash and of the document's; conditions: the flash is there.
-/
import Derived.Test.YtgignmjojlolfaaNew
namespace Go.Proofs.Ytgignmjojlolfaa
open Go.RowKit
set_option linter.unusedVariables false
set_option linter.unusedSimpArgs false

end Go.Proofs.Ytgignmjojlolfaa
