/-
  Contracts of package ready's waitsFor, Waits.
-/
import Derived.Test.YtckkdfpmibipfaaCg3
import Derived.Test.YtckkdfpmibipfaaShelf
namespace Go.Proofs.Ytckkdfpmibipfaa
open Go.RowKit Go.Shelf

theorem riseN_le {e b : Int} {l : List Int} (h : riseN e b l = true) : l.Pairwise (· ≤ ·) ∧ ∀ x ∈ l, b < x ∧ x < e := by
  induction l generalizing b with
  | nil => exact ⟨List.Pairwise.nil, by simp⟩
  | cons x l ih =>
    obtain ⟨h1, h2, h3⟩ := riseN_cons.1 h
    obtain ⟨h4, h5⟩ := ih h3
    refine ⟨List.pairwise_cons.2 ⟨fun a ha => by have := (h5 a ha).1; omega, h4⟩, fun y hy => ?_⟩
    rcases List.mem_cons.1 hy with rfl | hy
    · exact ⟨h1, h2⟩
    · have := h5 y hy
      omega
theorem meetP_symm (p q : Pt) : meetP p q = meetP q p := by
  unfold meetP
  congr 1
  funext i
  exact Bool.and_comm _ _


end Go.Proofs.Ytckkdfpmibipfaa
