/-
  Texts of this claim joined: Pat3, PatchB.
-/
import Derived.Test.YtknbjdldmednlaaGreatGrF
import Derived.Test.YtknbjdldmednlaaGreatGrA

/-
  Contracts of lists of patches: To and Of of all, All, Bytes.
-/
namespace Go.Proofs.YtknbjdldmednlaaGreat
open Go.RowKit




end Go.Proofs.YtknbjdldmednlaaGreat

/-
  The patches between two blocks: laid into the first they make the second; how many bytes are in any of some patches. Plain; no program is named here.
-/
namespace Go.Proofs.YtknbjdldmednlaaGreat



section
variable {a b : List UInt8}
end

/-- How many of the first K are so. -/
def cntB (f : Nat → Bool) : Nat → Nat
  | 0 => 0
  | K + 1 => cntB f K + (f K).toNat
/-- How many bytes are in any of them. -/
def bytesP (l : List Pt) : Nat := cntB (fun i => l.any (fun p => p.has i)) 256

end Go.Proofs.YtknbjdldmednlaaGreat
