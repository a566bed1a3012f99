/-
  Facts on bytes and blocks as this program has them; results that are bytes, or a block.
-/
import Derived.Test.YtennkfpehdijcaaRows
import Derived.Test.YtennkfpehdijcaaBase
namespace Go.Proofs.Ytennkfpehdijcaa
open Go.RowKit

theorem Try.byteInfo : (Try.prog.info? 5).map (fun i => (i.zero, i.size, i.bytes)) = some (some (.int .u8 0), 1, 1) := by kernel_rfl
theorem Try.intInfo : (Try.prog.info? 3).map (fun i => (i.zero, i.size, i.bytes)) = some (some (.int .i64 0), 1, 8) := by kernel_rfl
theorem Try.byteSize : (Try.prog.info? 5).map (·.size) = some 1 := by kernel_rfl
theorem Try.blockSize : (Try.prog.info? 23).map (·.size) = some 256 := by kernel_rfl
theorem Try.blockZero : (Try.prog.info? 23).map (·.zero) = some (some (.agg (bcells (zeros 256)))) := by kernel_rfl
theorem Try.blockFits {l : List UInt8} (h : l.length = 256) : (Try.prog.info? 23).map (·.size) = some (bcells l).size := by rw [bcells_size, h]; exact Try.blockSize

/-- A result that is a slice of bytes. -/
def RetB (w : World) (l : List UInt8) (e : Ending) (w' : World) : Prop := ∃ A n c, e = .returned (.slice A n c) ∧ l.length = n ∧ n ≤ c ∧ c ≤ maxLen ∧ RB w' A l ∧ Below w.heap.size w w'
/-- .. and whether there is one. -/
def RetBB (w : World) (l : List UInt8) (b : Bool) (e : Ending) (w' : World) : Prop := ∃ A n c, e = .returned (.tuple #[.slice A n c, .bool b]) ∧ l.length = n ∧ n ≤ c ∧ c ≤ maxLen ∧ RB w' A l ∧ Below w.heap.size w w'
/-- A result that is a slice of bytes, beside a number. -/
def RetBE (w : World) (l : List UInt8) (v : Int) (e : Ending) (w' : World) : Prop := ∃ A n c, e = .returned (.tuple #[.slice A n c, .int .i64 v]) ∧ l.length = n ∧ n ≤ c ∧ c ≤ maxLen ∧ RB w' A l ∧ Below w.heap.size w w'
/-- A result that is a block. -/
def RetA (w : World) (l : List UInt8) (e : Ending) (w' : World) : Prop := e = .returned (.agg (bcells l)) ∧ Below w.heap.size w w'

end Go.Proofs.Ytennkfpehdijcaa
