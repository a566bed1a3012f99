/-
  Contracts of package chart: Make, Patch.
-/
import Derived.Test.YtcdbligdcikphaaGreatChart1
namespace Go.Proofs.YtcdbligdcikphaaGreat
open Go.RowKit
set_option maxRecDepth 10000



end Go.Proofs.YtcdbligdcikphaaGreat
