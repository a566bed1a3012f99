/-
  Contracts of the document's answer 01: Lay, Cut.
-/
import Derived.Test.YtlonloiacgipeaaRets
import Derived.BigQuiet
import Derived.Deep.QuietTactic
namespace Go.Proofs.Ytlonloiacgipeaa
open Go.RowKit



end Go.Proofs.Ytlonloiacgipeaa
