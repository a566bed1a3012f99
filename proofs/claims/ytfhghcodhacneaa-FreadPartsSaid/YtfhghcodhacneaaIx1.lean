/-
  Contracts of index's depth, many, isPlace, isDepth, isNumber, numberAt, Place, short, mayBe; '==' of two indexes.
-/
import Derived.Test.YtfhghcodhacneaaRows
import Derived.Test.YtfhghcodhacneaaIdxO
import Derived.Test.YtfhghcodhacneaaGrA
import Derived.Test.YtfhghcodhacneaaMix
import Derived.BigQuiet
namespace Go.Proofs.Ytfhghcodhacneaa
open Go.RowKit

theorem Try.int1Size : (Try.prog.info? 3).map (·.size) = some 1 := by kernel_rfl
theorem extract_to (d : Int) {t : List Int} (h : t.length = 32) : (icells (d :: t)).extract 1 33 = icells t := by
  apply Array.ext_getElem?
  intro i
  rw [Array.getElem?_extract, icells_size, List.length_cons, h, icells_get, icells_get]
  by_cases hi : i < 32
  · rw [if_pos (by omega), show 1 + i = i + 1 from Nat.add_comm 1 i, List.getElem?_cons_succ]
  · rw [if_neg (by omega), List.getElem?_eq_none (by omega)]
    rfl
theorem icells_zero (d : Int) (t : List Int) : (icells (d :: t))[0]? = some (.int .i64 d) := by
  rw [icells_get]
  rfl
end Go.Proofs.Ytfhghcodhacneaa
