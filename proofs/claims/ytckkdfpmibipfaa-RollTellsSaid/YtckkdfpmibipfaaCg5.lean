/-
  The contract of package ready's Waits.
-/
import Derived.Test.YtckkdfpmibipfaaCg4
namespace Go.Proofs.Ytckkdfpmibipfaa
open Go.RowKit

theorem Try.infoInt : (Try.prog.info? 3).map (fun i => (i.zero, i.size, i.bytes)) = some (some (.int .i64 0), 1, 8) := by kernel_rfl
/-- Of the first k those that keep one back. -/
def preW (l : List Cg) (c : Cg) (k : Nat) : List Int := ((l.take k).filter fun d => keepsB d c).map (·.id)
theorem preW_off {l : List Cg} {c : Cg} {k : Nat} (hk : k < l.length) (h : keepsB l[k] c = false) : preW l c (k + 1) = preW l c k := by
  unfold preW
  rw [List.take_succ_eq_append_getElem hk, List.filter_append]
  simp [h]
theorem preW_on {l : List Cg} {c : Cg} {k : Nat} (hk : k < l.length) (h : keepsB l[k] c = true) : preW l c (k + 1) = preW l c k ++ [l[k].id] := by
  unfold preW
  rw [List.take_succ_eq_append_getElem hk, List.filter_append]
  simp [h]
theorem preW_len (l : List Cg) (c : Cg) (k : Nat) : (preW l c k).length ≤ k := by
  unfold preW
  rw [List.length_map]
  exact Nat.le_trans (List.length_filter_le _ _) (by rw [List.length_take]; omega)
theorem waitsC_at {l : List Cg} {p : Nat} {id : Int} (hm : mayC l = true) (hp : p < l.length) (h : l[p].id = id) : waitsC l id = preW l l[p] p := by
  rw [← h, waitsC_mid hm (pre := l.take p) (post := l.drop (p + 1)) (by rw [List.getElem_cons_drop, List.take_append_drop])]
  rfl
theorem waitsC_none {l : List Cg} {id : Int} (h : ∀ c ∈ l, c.id ≠ id) : waitsC l id = [] := by
  unfold waitsC
  rw [splitId_none.2 h]
  split <;> rfl
theorem waitsC_not {l : List Cg} (id : Int) (h : mayC l = false) : waitsC l id = [] := by
  unfold waitsC
  rw [h]
  rfl
theorem RetI.nil_ {w w' : World} (h : Below w.heap.size w w') : RetI w [] (.returned (.slice none 0 0)) w' := ⟨none, 0, 0, rfl, rfl, Nat.le_refl _, by unfold maxLen; omega, RC.nil_ _ _, h⟩
theorem OwnC.retI {w w' : World} {B : Nat} {e : TypeId} {v : Value} {l : List Int} (h : OwnC w' B e v (ivals l)) (hb : Below w.heap.size w w') : RetI w l (.returned v) w' := by
  obtain ⟨A, c, rfl, h1, h2, h3⟩ := h.ints
  exact ⟨A, _, c, rfl, rfl, h1, h2, h3, hb⟩


end Go.Proofs.Ytckkdfpmibipfaa
