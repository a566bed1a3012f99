/-
  What the program's types say of texts.
-/
import Derived.Test.YtbajicgpjggkfaaGreatRows
import Derived.Test.YtbajicgpjggkfaaGreatGrC
namespace Go.Proofs.YtbajicgpjggkfaaGreat
open Go.RowKit

theorem Tryz.stringInfo : (Tryz.prog.info? 9).map (fun i => (i.zero, i.size, i.bytes)) = some (some (.string ⟨#[]⟩), 1, 16) := by kernel_rfl

end Go.Proofs.YtbajicgpjggkfaaGreat
