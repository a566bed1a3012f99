/-
  What the program's types say of texts.
-/
import Derived.Test.YtfgkbjpiffaeeaaRows
import Derived.Test.YtfgkbjpiffaeeaaList
namespace Go.Proofs.Ytfgkbjpiffaeeaa
open Go.RowKit

theorem Try.stringInfo : (Try.prog.info? 9).map (fun i => (i.zero, i.size, i.bytes)) = some (some (.string ⟨#[]⟩), 1, 16) := by kernel_rfl

end Go.Proofs.Ytfgkbjpiffaeeaa
