/-
  Texts of this claim joined: Pat1, Pat2, Tab2.
-/
import Derived.Test.YtcdbligdcikphaaGreatGrA
import Derived.Test.YtcdbligdcikphaaGreatPatO
import Derived.BigQuiet
import Derived.Deep.QuietTactic
import Derived.Lib.SliceRun
import Derived.Test.YtcdbligdcikphaaGreatTab1

/-
  Contracts of package patch, the small ones: mayBe, end, Check, To, Of, and of the document's Right.
-/
namespace Go.Proofs.YtcdbligdcikphaaGreat
open Go.RowKit


theorem right_ways (p : Pt) (n : Nat) (hn : p.data.length = n) : (p.right = true ∧ 1 ≤ n ∧ n ≤ 256 ∧ 0 ≤ p.at_ ∧ p.at_ ≤ 256 - (n : Int)) ∨ (p.right = false ∧ (n = 0 ∨ (1 ≤ n ∧ (p.at_ < 0 ∨ (0 ≤ p.at_ ∧ 256 - (n : Int) < p.at_))))) := by
  subst hn
  cases h : p.right
  · right
    refine ⟨rfl, ?_⟩
    have h2 : ¬ (1 ≤ p.data.length ∧ p.data.length ≤ 256 ∧ 0 ≤ p.at_ ∧ p.at_ ≤ 256 - (p.data.length : Int)) := fun hh => by
      rw [Pt.right_iff.2 hh] at h; cases h
    omega
  · left
    exact ⟨rfl, Pt.right_iff.1 h⟩

end Go.Proofs.YtcdbligdcikphaaGreat

/-
  Contracts of package patch: Lay, part, Was, Same, Meet.
-/
namespace Go.Proofs.YtcdbligdcikphaaGreat
set_option maxRecDepth 10000
open Go.RowKit






/-- Are two the same? -/
def sameP (p q : Pt) : Bool := decide (p.at_ = q.at_) && decide (p.data = q.data)
theorem sameP_iff {p q : Pt} : sameP p q = true ↔ p = q := by
  obtain ⟨a, l⟩ := p
  obtain ⟨b, m⟩ := q
  simp [sameP]
theorem sameP_self (p : Pt) : sameP p p = true := sameP_iff.2 rfl



end Go.Proofs.YtcdbligdcikphaaGreat

/-
  Contracts of package table: Patch, With.
-/
namespace Go.Proofs.YtcdbligdcikphaaGreat
open Go.RowKit
set_option maxRecDepth 10000



end Go.Proofs.YtcdbligdcikphaaGreat
