/-
  Contracts of package chart: Make, Patch.
-/
import Derived.Test.YtcdbligdcikphaaChart1
namespace Go.Proofs.Ytcdbligdcikphaa
open Go.RowKit
set_option maxRecDepth 10000



end Go.Proofs.Ytcdbligdcikphaa
