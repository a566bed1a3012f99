/-
  The contracts of inode's Get and Clean.
-/
import Derived.Test.YtcdbligdcikphaaIno2
import Derived.Deep.CutRange
namespace Go.Proofs.Ytcdbligdcikphaa
open Go.RowKit
set_option maxRecDepth 10000


/-- What Clean tells. -/
def cleanV (b : List UInt8) : List Int := (cleanI b).getD freeI
theorem cleanV_len (b : List UInt8) : (cleanV b).length = 11 := by
  unfold cleanV cleanI
  split
  · exact getI_len b
  · rfl
theorem cleanI_cases (b : List UInt8) : (mayI (getI b) = false → cleanI b = none) ∧ (mayI (getI b) = true → (putI (getI b) == b) = false → cleanI b = none) ∧ (mayI (getI b) = true → (putI (getI b) == b) = true → cleanI b = some (getI b)) := by
  unfold cleanI
  refine ⟨fun h => if_neg (by simp [h]), fun _ h2 => if_neg (by simpa using fun _ => by simpa using h2), fun h1 h2 => if_pos ⟨h1, by simpa using h2⟩⟩


end Go.Proofs.Ytcdbligdcikphaa
