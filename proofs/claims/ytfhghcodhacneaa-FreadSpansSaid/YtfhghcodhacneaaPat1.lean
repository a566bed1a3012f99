/-
  Contracts of package patch, the small ones: mayBe, end, Check, To, Of, and of the document's Right.
-/
import Derived.Test.YtfhghcodhacneaaGrA
import Derived.Test.YtfhghcodhacneaaPatO
import Derived.BigQuiet
import Derived.Deep.QuietTactic
namespace Go.Proofs.Ytfhghcodhacneaa
open Go.RowKit


theorem right_ways (p : Pt) (n : Nat) (hn : p.data.length = n) : (p.right = true ∧ 1 ≤ n ∧ n ≤ 256 ∧ 0 ≤ p.at_ ∧ p.at_ ≤ 256 - (n : Int)) ∨ (p.right = false ∧ (n = 0 ∨ (1 ≤ n ∧ (p.at_ < 0 ∨ (0 ≤ p.at_ ∧ 256 - (n : Int) < p.at_))))) := by
  subst hn
  cases h : p.right
  · right
    refine ⟨rfl, ?_⟩
    have h2 : ¬ (1 ≤ p.data.length ∧ p.data.length ≤ 256 ∧ 0 ≤ p.at_ ∧ p.at_ ≤ 256 - (p.data.length : Int)) := fun hh => by
      rw [Pt.right_iff.2 hh] at h; cases h
    omega
  · left
    exact ⟨rfl, Pt.right_iff.1 h⟩

end Go.Proofs.Ytfhghcodhacneaa
