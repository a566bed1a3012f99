/-
  N bools as the cells of a block. Plain; no program is named here.
-/
import Derived.Test.YtmcinaigkjfehaaGr1
namespace Go.Proofs.Ytmcinaigkjfehaa
open Go.RowKit

/-- N bools as cells. -/
def fbools (N : Nat) (f : Nat → Bool) : Array Value := ((List.range N).map fun k => Value.bool (f k)).toArray
theorem fbools_size (N : Nat) (f : Nat → Bool) : (fbools N f).size = N := by simp [fbools]
theorem fbools_get (N : Nat) (f : Nat → Bool) (k : Nat) (h : k < N) : (fbools N f)[k]? = some (.bool (f k)) := by
  unfold fbools
  rw [List.getElem?_toArray, List.getElem?_map, List.getElem?_range h]
  rfl
theorem fbools_set (N : Nat) (f : Nat → Bool) (p : Nat) : (fbools N f).setIfInBounds p (.bool true) = fbools N (fun i => f i || decide (i = p)) := by
  unfold fbools
  rw [List.setIfInBounds_toArray]
  congr 1
  apply List.ext_getElem?
  intro k
  rw [List.getElem?_set, List.length_map, List.length_range, List.getElem?_map, List.getElem?_map]
  by_cases hk : k < N
  · rw [List.getElem?_range hk]
    simp only [Option.map_some]
    by_cases hp : p = k
    · subst hp
      rw [if_pos rfl, if_pos hk, decide_eq_true rfl, Bool.or_true]
    · rw [if_neg hp, decide_eq_false (fun h => hp h.symm), Bool.or_false]
  · rw [List.getElem?_eq_none (by rw [List.length_range]; omega)]
    by_cases hp : p = k
    · rw [if_pos hp, if_neg (by omega)]
      rfl
    · rw [if_neg hp]
      rfl
theorem fbools_congr {N : Nat} {f g : Nat → Bool} (h : ∀ i, f i = g i) : fbools N f = fbools N g := by rw [show f = g from funext h]

end Go.Proofs.Ytmcinaigkjfehaa
