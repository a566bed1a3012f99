/-
  The changes of a block parted into those that are ready and those that are held, by places. Plain; no program is named here.
-/
import Derived.Test.YtckkdfpmibipfaaRollA
import Derived.Test.YtckkdfpmibipfaaReadyB
namespace Go.Proofs.Ytckkdfpmibipfaa

theorem may_rise : ∀ {l : List Cg} {b : Int}, mayN b l = true → RiseI (l.map (·.id)) := by
  intro l
  induction l with
  | nil => intro b _; exact List.Pairwise.nil
  | cons c l ih =>
    intro b h
    obtain ⟨_, h2⟩ := mayN_cons.1 h
    rw [List.map_cons]
    refine List.pairwise_cons.2 ⟨fun x hx => ?_, ih h2⟩
    obtain ⟨d, hd, rfl⟩ := List.mem_map.1 hx
    exact mayN_gt h2 d hd
/-- What is laid is what is ready. -/
theorem doneC_ids {l : List Cg} {block : Int} (hm : mayC l = true) : (doneC l block).map (·.id) = readyC l block := by
  have hr := may_rise hm
  refine RiseI.uniq (List.Pairwise.sublist ((List.filter_sublist.trans List.filter_sublist).map _) hr) (List.Pairwise.sublist readyC_sub hr) fun x => ⟨fun h => ?_, fun h => ?_⟩
  · obtain ⟨c, hc, rfl⟩ := List.mem_map.1 h
    have := (List.mem_filter.1 hc).2
    simpa using this
  · obtain ⟨p, c, q, h1, h2, h3, _⟩ := readyC_spec hm x h
    exact List.mem_map.2 ⟨c, List.mem_filter.2 ⟨List.mem_filter.2 ⟨by rw [h1]; simp, by simpa using h3⟩, by rw [h2]; simpa using h⟩, h2⟩

def inF (l : List Cg) (block : Int) (c : Cg) : Bool := (readyC l block).contains c.id && decide (c.block = block)
def outF (l : List Cg) (block : Int) (c : Cg) : Bool := !(readyC l block).contains c.id && decide (c.block = block)
/-- Of the first k: those that are ready; those that are not; and the IDs of those that are ready behind them. -/
def inK (l : List Cg) (block : Int) (k : Nat) : List Cg := (l.take k).filter (inF l block)
def outK (l : List Cg) (block : Int) (k : Nat) : List Cg := (l.take k).filter (outF l block)
def nextK (l : List Cg) (block : Int) (k : Nat) : List Int := ((l.drop k).filter (inF l block)).map (·.id)
theorem inK_all {l : List Cg} {block : Int} {k : Nat} (hk : l.length ≤ k) : inK l block k = doneC l block := by
  unfold inK doneC ofC
  rw [List.take_of_length_le hk, List.filter_filter]
  rfl
theorem outK_all {l : List Cg} {block : Int} {k : Nat} (hk : l.length ≤ k) : outK l block k = restC l block := by
  unfold outK restC ofC
  rw [List.take_of_length_le hk, List.filter_filter]
  rfl
theorem inK_zero (l : List Cg) (block : Int) : inK l block 0 = [] := rfl
theorem outK_zero (l : List Cg) (block : Int) : outK l block 0 = [] := rfl
theorem nextK_zero {l : List Cg} {block : Int} (hm : mayC l = true) : nextK l block 0 = readyC l block := by
  rw [← doneC_ids hm]
  unfold nextK doneC ofC
  rw [List.drop_zero, List.filter_filter]
  rfl
theorem inK_len (l : List Cg) (block : Int) (k : Nat) : (inK l block k).length ≤ k := by
  unfold inK
  exact Nat.le_trans (List.length_filter_le _ _) (by rw [List.length_take]; omega)
theorem outK_len (l : List Cg) (block : Int) (k : Nat) : (outK l block k).length ≤ k := by
  unfold outK
  exact Nat.le_trans (List.length_filter_le _ _) (by rw [List.length_take]; omega)
theorem inK_succ {l : List Cg} {block : Int} {k : Nat} (hk : k < l.length) : inK l block (k + 1) = inK l block k ++ if inF l block l[k] = true then [l[k]] else [] := by
  unfold inK
  rw [List.take_succ_eq_append_getElem hk, List.filter_append, List.filter_cons]
  rfl
theorem outK_succ {l : List Cg} {block : Int} {k : Nat} (hk : k < l.length) : outK l block (k + 1) = outK l block k ++ if outF l block l[k] = true then [l[k]] else [] := by
  unfold outK
  rw [List.take_succ_eq_append_getElem hk, List.filter_append, List.filter_cons]
  rfl
theorem nextK_succ {l : List Cg} {block : Int} {k : Nat} (hk : k < l.length) : nextK l block k = if inF l block l[k] = true then l[k].id :: nextK l block (k + 1) else nextK l block (k + 1) := by
  unfold nextK
  rw [List.drop_eq_getElem_cons hk, List.filter_cons]
  split <;> rfl
theorem nextK_mem {l : List Cg} {block : Int} {k : Nat} {x : Int} (h : x ∈ nextK l block k) : (readyC l block).contains x = true := by
  obtain ⟨c, hc, rfl⟩ := List.mem_map.1 h
  have := (List.mem_filter.1 hc).2
  unfold inF at this
  rw [Bool.and_eq_true] at this
  exact this.1
/-- A change of another block. -/
theorem part_other {l : List Cg} {block : Int} {k : Nat} (hk : k < l.length) (hb : l[k].block ≠ block) : inK l block (k + 1) = inK l block k ∧ outK l block (k + 1) = outK l block k ∧ nextK l block (k + 1) = nextK l block k := by
  have h1 : inF l block l[k] = false := by unfold inF; rw [decide_eq_false hb, Bool.and_false]
  have h2 : outF l block l[k] = false := by unfold outF; rw [decide_eq_false hb, Bool.and_false]
  rw [inK_succ hk, outK_succ hk, nextK_succ hk, h1, h2]
  simp
/-- One that is ready: it is the next one. -/
theorem part_in {l : List Cg} {block : Int} {k : Nat} (hk : k < l.length) (hb : l[k].block = block) (h : (readyC l block).contains l[k].id = true) : inK l block (k + 1) = inK l block k ++ [l[k]] ∧ outK l block (k + 1) = outK l block k ∧ nextK l block k = l[k].id :: nextK l block (k + 1) := by
  have h1 : inF l block l[k] = true := by unfold inF; rw [decide_eq_true hb, h]; rfl
  have h2 : outF l block l[k] = false := by unfold outF; rw [h]; rfl
  rw [inK_succ hk, outK_succ hk, nextK_succ hk, h1, h2]
  simp
/-- One that is not: the next one is another. -/
theorem part_out {l : List Cg} {block : Int} {k : Nat} (hk : k < l.length) (hb : l[k].block = block) (h : (readyC l block).contains l[k].id = false) : inK l block (k + 1) = inK l block k ∧ outK l block (k + 1) = outK l block k ++ [l[k]] ∧ nextK l block (k + 1) = nextK l block k ∧ ∀ x ∈ nextK l block k, x ≠ l[k].id := by
  have h1 : inF l block l[k] = false := by unfold inF; rw [h, Bool.false_and]
  have h2 : outF l block l[k] = true := by unfold outF; rw [decide_eq_true hb, h]; rfl
  refine ⟨by rw [inK_succ hk, h1]; simp, by rw [outK_succ hk, h2]; simp, by rw [nextK_succ hk, h1]; simp, fun x hx e => ?_⟩
  have := nextK_mem hx
  rw [e, h] at this
  cases this
theorem restC_ids {l : List Cg} {block : Int} (hm : mayC l = true) : heldC l block = (restC l block).map (·.id) := by
  unfold heldC
  rw [hm, if_pos rfl]

end Go.Proofs.Ytckkdfpmibipfaa
