/-
  What the program's types say of texts.
-/
import Derived.Test.YtojddfebhopkgaaDoorRows
import Derived.Test.YtojddfebhopkgaaDoorList
namespace Go.Proofs.YtojddfebhopkgaaDoor
open Go.RowKit

theorem Tryd.stringInfo : (Tryd.prog.info? 9).map (fun i => (i.zero, i.size, i.bytes)) = some (some (.string ⟨#[]⟩), 1, 16) := by kernel_rfl

end Go.Proofs.YtojddfebhopkgaaDoor
