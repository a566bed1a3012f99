/-
  Contracts of package chart: Make, Patch.
-/
import Derived.Test.YtfhghcodhacneaaChart1
namespace Go.Proofs.Ytfhghcodhacneaa
open Go.RowKit
set_option maxRecDepth 10000



end Go.Proofs.Ytfhghcodhacneaa
