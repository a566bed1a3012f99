/-
  Contracts of package patch: Lay, part, Was, Same, Meet.
-/
import Derived.Test.YtfhghcodhacneaaPat1
import Derived.Lib.SliceRun
namespace Go.Proofs.Ytfhghcodhacneaa
set_option maxRecDepth 10000
open Go.RowKit






/-- Are two the same? -/
def sameP (p q : Pt) : Bool := decide (p.at_ = q.at_) && decide (p.data = q.data)
theorem sameP_iff {p q : Pt} : sameP p q = true ↔ p = q := by
  obtain ⟨a, l⟩ := p
  obtain ⟨b, m⟩ := q
  simp [sameP]
theorem sameP_self (p : Pt) : sameP p p = true := sameP_iff.2 rfl



end Go.Proofs.Ytfhghcodhacneaa
