/-
  Contracts of package table: Patch, With.
-/
import Derived.Test.YtfhghcodhacneaaTab1
import Derived.Test.YtfhghcodhacneaaPat2
namespace Go.Proofs.Ytfhghcodhacneaa
open Go.RowKit
set_option maxRecDepth 10000



end Go.Proofs.Ytfhghcodhacneaa
