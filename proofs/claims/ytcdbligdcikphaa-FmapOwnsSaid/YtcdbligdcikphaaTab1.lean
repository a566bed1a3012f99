/-
  Contracts of package table: isPlace, placeAt, Raw, Get, isFree.
-/
import Derived.Test.YtcdbligdcikphaaIno3
import Derived.Test.YtcdbligdcikphaaGrB
namespace Go.Proofs.Ytcdbligdcikphaa
open Go.RowKit






end Go.Proofs.Ytcdbligdcikphaa
