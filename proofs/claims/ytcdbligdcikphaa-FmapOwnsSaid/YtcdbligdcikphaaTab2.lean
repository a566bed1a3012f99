/-
  Contracts of package table: Patch, With.
-/
import Derived.Test.YtcdbligdcikphaaTab1
import Derived.Test.YtcdbligdcikphaaPat2
namespace Go.Proofs.Ytcdbligdcikphaa
open Go.RowKit
set_option maxRecDepth 10000



end Go.Proofs.Ytcdbligdcikphaa
