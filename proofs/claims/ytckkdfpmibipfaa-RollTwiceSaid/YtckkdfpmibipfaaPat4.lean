/-
  Contracts of package patch: All, Bytes.
-/
import Derived.Test.YtckkdfpmibipfaaPat3
import Derived.Test.YtckkdfpmibipfaaBools
import Derived.Test.YtckkdfpmibipfaaPatchB
namespace Go.Proofs.Ytckkdfpmibipfaa
open Go.RowKit



end Go.Proofs.Ytckkdfpmibipfaa
