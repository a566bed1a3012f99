/-
  A result that is a list of numbers of the call's own. Plain.
-/
import Derived.Test.YtfhghcodhacneaaGrC
namespace Go.Proofs.Ytfhghcodhacneaa
open Go.RowKit

/-- A result that is a list of numbers of the call's own. -/
def RetL (w : World) (l : List Int) (e : Ending) (w' : World) : Prop := ∃ v, e = .returned v ∧ OwnC w' w.heap.size 3 v (ivals l) ∧ Below w.heap.size w w'

end Go.Proofs.Ytfhghcodhacneaa
