/-
  The contract of the document's Ints: are two lists of numbers the same?
-/
import Derived.Test.YtfhghcodhacneaaGrC
import Derived.Test.YtfhghcodhacneaaChecked
import Derived.BigQuiet
import Derived.Deep.QuietTactic
namespace Go.Proofs.Ytfhghcodhacneaa
open Go.RowKit

end Go.Proofs.Ytfhghcodhacneaa
