/-
  Contracts of package patch, the small ones: mayBe, end, Check, To, Of, and of the document's Right.
-/
import Derived.Test.YtpdeohmgjblkeaaGrA
import Derived.Test.YtpdeohmgjblkeaaPatO
import Derived.BigQuiet
import Derived.Deep.QuietTactic
namespace Go.Proofs.Ytpdeohmgjblkeaa
open Go.RowKit


theorem right_ways (p : Pt) (n : Nat) (hn : p.data.length = n) : (p.right = true ∧ 1 ≤ n ∧ n ≤ 256 ∧ 0 ≤ p.at_ ∧ p.at_ ≤ 256 - (n : Int)) ∨ (p.right = false ∧ (n = 0 ∨ (1 ≤ n ∧ (p.at_ < 0 ∨ (0 ≤ p.at_ ∧ 256 - (n : Int) < p.at_))))) := by
  subst hn
  cases h : p.right
  · right
    refine ⟨rfl, ?_⟩
    have h2 : ¬ (1 ≤ p.data.length ∧ p.data.length ≤ 256 ∧ 0 ≤ p.at_ ∧ p.at_ ≤ 256 - (p.data.length : Int)) := fun hh => by
      rw [Pt.right_iff.2 hh] at h; cases h
    omega
  · left
    exact ⟨rfl, Pt.right_iff.1 h⟩

set_option maxHeartbeats 400000 in
theorem mayBe_any (p : Pt) (A : Option Addr) (n c : Nat) (w : World) (hp : PV w p A n c) :
    Calls Try.prog 85 #[.agg #[.int .i64 p.at_, .slice A n c]] w fun e w' => e = .returned (.bool p.right) ∧ Below w.heap.size w w' := by
  have h0 := hp.lo
  have h1 := hp.hi
  have h2 := hp.cap
  have h3 := hp.max
  unfold maxLen at h3
  have hw := right_ways p n hp.len
  clear hp
  generalize p.right = r at *
  generalize p.at_ = z at *
  rcases hw with ⟨rfl, a1, a2, a3, a4⟩ | ⟨rfl, a1 | ⟨a1, a2 | ⟨a2, a3⟩⟩⟩
  focus (
    have d1 : decide (1 ≤ n) = true := by simpa using a1
    have d2 : decide (0 ≤ z) = true := by simpa using a3
    have d3 : decide (z ≤ 256 - (n : Int)) = true := by simpa using a4)
  rotate_left
  focus (
    have d1 : decide (1 ≤ n) = false := by simp; omega)
  rotate_left
  focus (
    have d1 : decide (1 ≤ n) = true := by simpa using a1
    have d2 : decide (0 ≤ z) = false := by simp; omega)
  rotate_left
  focus (
    have d1 : decide (1 ≤ n) = true := by simpa using a1
    have d2 : decide (0 ≤ z) = true := by simpa using a2
    have d3 : decide (z ≤ 256 - (n : Int)) = false := by simp; omega)
  rotate_left
  all_goals
    go_enter Try.func85, Try.ntmps85
    go_wp2_with (refine wpList_box_row rfl _ _ rfl _ rfl ?_)
    apply Stop.go; intro w1 Hg1 Hb1
    have c0 : w1.cell? ⟨w.heap.size, 0, none⟩ = some (.int .i64 z) := Hb1.out.cell 0
    have c1 : w1.cell? ⟨w.heap.size, 1, none⟩ = some (.slice A _ c) := Hb1.out.cell 1
    go_wp2_with fail
    go_ret
    exact ⟨rfl, Hg1.out.1⟩






end Go.Proofs.Ytpdeohmgjblkeaa
