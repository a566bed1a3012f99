/-
  The layings of the library's contracts at this program, in plain words: which number is which.
-/
import Derived.Shelf.Slices.Clone
import Derived.Test.YtckkdfpmibipfaaProg
namespace Go.Proofs
open Go.Shelf
def Ytckkdfpmibipfaa.laysClone_ren : Go.Shelf.Ren := ⟨fun | 15 => 57 | n => n, fun | 22 => 30 | 3 => 3 | 4 => 4 | n => n, fun | n => n⟩
theorem Ytckkdfpmibipfaa.laysClone : Go.Proofs.Lays2.n15 Try.prog Ytckkdfpmibipfaa.laysClone_ren := {
  mixed := by kernel_rfl
  f15 := Try.func57.trans (congrArg some (by kernel_rfl))
  t3 := Try.underlying3
  a3 := Try.isAgg3
  z3 := Try.sizeOf3
  v3 := Try.zeroValue3
  t4 := Try.underlying4
  a4 := Try.isAgg4
  z4 := Try.sizeOf4
  v4 := Try.zeroValue4
  t22 := Try.underlying30
  a22 := Try.isAgg30
  z22 := Try.sizeOf30
  v22 := Try.zeroValue30
  i3 := by kernel_rfl }
end Go.Proofs
