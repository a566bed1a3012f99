/-
  Floating numbers as cells. Plain; no program is named here.
-/
import Derived.Test.YtjceaaononbliaaList
namespace Go.Proofs.Ytjceaaononbliaa
open Go.RowKit

/-- Floating numbers as cells. -/
def fvals (l : List Nat) : List Value := l.map (Value.float .f64)
theorem fvals_len (l : List Nat) : (fvals l).length = l.length := by simp [fvals]
theorem RC.flt {w : World} {A : Option Addr} {l : List Nat} (h : RC w A (fvals l)) (k : Nat) (hk : k < l.length) : ∃ ad, A = some ad ∧ w.cell? (ad.add k) = some (.float .f64 l[k]) := by
  obtain ⟨ad, e, hc⟩ := h k (by rw [fvals_len]; exact hk)
  exact ⟨ad, e, by rw [hc]; simp [fvals]⟩

end Go.Proofs.Ytjceaaononbliaa
