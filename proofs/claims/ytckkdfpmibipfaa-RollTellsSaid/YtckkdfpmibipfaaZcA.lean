/-
  Whole numbers by their places, as the cells of a block. Plain; no program is named here.
-/
import Derived.Test.YtckkdfpmibipfaaBase
namespace Go.Proofs.Ytckkdfpmibipfaa
open Go.RowKit

/-- Whole numbers by their places, as cells. -/
def zc (n : Nat) (z : Nat → Int) : Array Value := ((List.range n).map fun k => Value.int .i64 (z k)).toArray
theorem zc_size (n : Nat) (z : Nat → Int) : (zc n z).size = n := by simp [zc]
theorem zc_get {n k : Nat} (z : Nat → Int) (h : k < n) : (zc n z)[k]? = some (.int .i64 (z k)) := by simp [zc, h]
theorem zc_zero (n : Nat) : (List.replicate n (Value.int .i64 0)).toArray = zc n (fun _ => 0) := by
  apply Array.ext_getElem?
  intro i
  by_cases hi : i < n
  · rw [zc_get _ hi]; simp [hi]
  · rw [Array.getElem?_eq_none (by simp; omega), Array.getElem?_eq_none (by rw [zc_size]; omega)]
theorem zc_step (n : Nat) (z : Nat → Int) (k : Nat) : (zc n (fun i => if i < k then z i else 0)).setIfInBounds k (.int .i64 (z k)) = zc n (fun i => if i < k + 1 then z i else 0) := by
  apply Array.ext_getElem?
  intro i
  rw [Array.getElem?_setIfInBounds, zc_size]
  by_cases hi : i < n
  · rw [zc_get _ hi, zc_get _ hi]
    by_cases h : k = i
    · subst h; rw [if_pos rfl, if_pos hi, if_pos (by omega)]
    · rw [if_neg h]
      by_cases h2 : i < k
      · rw [if_pos h2, if_pos (by omega)]
      · rw [if_neg h2, if_neg (by omega)]
  · rw [Array.getElem?_eq_none (by rw [zc_size]; omega), Array.getElem?_eq_none (by rw [zc_size]; omega)]
    by_cases h : k = i
    · rw [if_pos h, if_neg (by omega)]
    · rw [if_neg h]
theorem zc_congr {n : Nat} {y z : Nat → Int} (e : ∀ k, k < n → y k = z k) : zc n y = zc n z := by
  apply Array.ext_getElem?
  intro i
  by_cases hi : i < n
  · rw [zc_get _ hi, zc_get _ hi, e i hi]
  · rw [Array.getElem?_eq_none (by rw [zc_size]; omega), Array.getElem?_eq_none (by rw [zc_size]; omega)]

end Go.Proofs.Ytckkdfpmibipfaa
