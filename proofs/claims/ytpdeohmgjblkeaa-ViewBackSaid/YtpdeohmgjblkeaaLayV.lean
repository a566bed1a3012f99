/-
  A layout: as a value, and which may be. Plain; no program is named here.
-/
import Derived.Test.YtpdeohmgjblkeaaGrA
namespace Go.Proofs.Ytpdeohmgjblkeaa
open Go.RowKit

/-- A layout. -/
structure Lay14 where
  blocks : Int
  inodes : Int
  merge : Nat
def Lay14.may (l : Lay14) : Bool := decide (16 ≤ l.blocks ∧ l.blocks ≤ 512 ∧ 8 ≤ l.inodes ∧ l.inodes ≤ 128 ∧ l.inodes % 8 = 0 ∧ 2 + l.inodes / 8 < l.blocks)
theorem Lay14.may_iff {l : Lay14} : l.may = true ↔ 16 ≤ l.blocks ∧ l.blocks ≤ 512 ∧ 8 ≤ l.inodes ∧ l.inodes ≤ 128 ∧ l.inodes % 8 = 0 ∧ 2 + l.inodes / 8 < l.blocks := by unfold Lay14.may; simp
/-- A layout as a value. -/
def Lay14.val (l : Lay14) : Array Value := #[.int .i64 l.blocks, .int .i64 l.inodes, .int .u64 (l.merge : Nat)]
theorem Lay14.ext_iff' (l m : Lay14) : l = m ↔ l.blocks = m.blocks ∧ l.inodes = m.inodes ∧ l.merge = m.merge := by
  obtain ⟨a, b, c⟩ := l
  obtain ⟨a', b', c'⟩ := m
  simp

end Go.Proofs.Ytpdeohmgjblkeaa
