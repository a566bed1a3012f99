/-
  Where the numbers of a list stand, and how the order tells of it. Plain; no program is named here.
-/
import Derived.Test.YtjceaaononbliaaRealB
namespace Go.Proofs.Ytjceaaononbliaa

/-- Where the one at a place stands. -/
def keyAt (l : List Nat) (k : Nat) : Int := keyN (l.getD k 0)
theorem keyAt_get {l : List Nat} {k : Nat} (h : k < l.length) : keyAt l k = keyN l[k] := by simp [keyAt, List.getD, h]
theorem ordN_pos (x y : Nat) : decide (0 < ordN x y) = decide (keyN y < keyN x) := by
  unfold ordN cmpI
  rw [Bool.eq_iff_iff]
  simp only [decide_eq_true_eq]
  repeat' split
  all_goals omega
theorem ordN_nonpos (x y : Nat) : decide (ordN x y ≤ 0) = decide (keyN x ≤ keyN y) := by
  unfold ordN cmpI
  rw [Bool.eq_iff_iff]
  simp only [decide_eq_true_eq]
  repeat' split
  all_goals omega
theorem ordN_neg (x y : Nat) : decide (ordN x y < 0) = decide (keyN x < keyN y) := by
  unfold ordN cmpI
  rw [Bool.eq_iff_iff]
  simp only [decide_eq_true_eq]
  repeat' split
  all_goals omega
theorem ordN_nonneg (x y : Nat) : decide (0 ≤ ordN x y) = decide (keyN y ≤ keyN x) := by
  unfold ordN cmpI
  rw [Bool.eq_iff_iff]
  simp only [decide_eq_true_eq]
  repeat' split
  all_goals omega

end Go.Proofs.Ytjceaaononbliaa
