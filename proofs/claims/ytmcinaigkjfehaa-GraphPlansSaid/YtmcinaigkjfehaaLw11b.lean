/-
  Small facts for the laws of 11: which blocks a drain and a plan tell.
-/
import Derived.Test.YtmcinaigkjfehaaGr3
import Derived.Test.YtmcinaigkjfehaaCg1
namespace Go.Proofs.Ytmcinaigkjfehaa
open Go.RowKit

theorem drainGo_mem : ∀ n (l : List Cg) z, z ∈ drainGo n l → ∃ c ∈ l, c.block = z := by
  intro n
  induction n with
  | zero => intro l z h; cases h
  | succ n ih =>
    intro l z h
    cases l with
    | nil => cases h
    | cons c l =>
      have h' : z ∈ c.block :: drainGo n (leftC (c :: l) c.block) := h
      rcases List.mem_cons.1 h' with e | e
      · exact ⟨c, by simp, e.symm⟩
      · obtain ⟨d, hd, e2⟩ := ih _ z e
        exact ⟨d, (List.mem_filter.1 hd).1, e2⟩
theorem drainC_mem {l : List Cg} {z : Int} (h : z ∈ drainC l) : ∃ c ∈ l, c.block = z := by
  unfold drainC at h
  split at h
  · exact drainGo_mem _ l z h
  · cases h
theorem planC_mem {l : List Cg} {id z : Int} (h : z ∈ planC l id) : ∃ c ∈ l, c.block = z := by
  rw [planC_drain] at h
  obtain ⟨c, hc, e⟩ := drainC_mem h
  exact ⟨c, (List.mem_filter.1 hc).1, e⟩
theorem block_fits {w : World} {A : Option Addr} {l : List Cg} (h : RdL RdC w A 5 l) {z : Int} (hz : ∃ c ∈ l, c.block = z) : -9223372036854775808 ≤ z ∧ z < 9223372036854775808 := by
  obtain ⟨c, hc, rfl⟩ := hz
  obtain ⟨k, hk, rfl⟩ := List.getElem_of_mem hc
  obtain ⟨_, _, _, _, _, _, _, _, hcv, _⟩ := h.cg hk
  exact ⟨hcv.lo1, hcv.hi1⟩

end Go.Proofs.Ytmcinaigkjfehaa
