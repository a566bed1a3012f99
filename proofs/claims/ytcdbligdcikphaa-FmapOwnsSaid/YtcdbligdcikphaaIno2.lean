/-
  The contract of inode's Put.
-/
import Derived.Test.YtcdbligdcikphaaIno1
import Derived.Test.YtcdbligdcikphaaHeldT
namespace Go.Proofs.Ytcdbligdcikphaa
open Go.RowKit
set_option maxRecDepth 10000

/-- The bytes that Put tells. -/
def outI (l : List Int) : List UInt8 := if mayI l then putI l else zeros 32
theorem outI_len {l : List Int} (h : l.length = 11) : (outI l).length = 32 := by
  unfold outI
  split
  · exact putI_len h
  · exact zeros_len _


end Go.Proofs.Ytcdbligdcikphaa
