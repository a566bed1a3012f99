/-
  A block that is written from the front: what comes behind is noughts. Plain; no program is named here.
-/
import Derived.Test.YtennkfpehdijcaaNum2
namespace Go.Proofs.Ytennkfpehdijcaa
open Go.RowKit

theorem zeros_drop (n k : Nat) : (zeros n).drop k = zeros (n - k) := by simp [zeros]
theorem splice_zeros (p d : List UInt8) (o k : Nat) (ho : p.length = o) : splice (p ++ zeros k) o d = p ++ (d ++ zeros (k - d.length)) := by
  subst ho
  unfold splice
  rw [List.take_left' rfl, ← List.drop_drop, List.drop_left' rfl, zeros_drop, List.append_assoc]
theorem layL_zeros (p d : List UInt8) (o k : Nat) (ho : p.length = o) (hk : o + k = 256) (hd : d.length ≤ k) (h0 : 0 < k) : layL (p ++ zeros k) (o : Nat) d = p ++ (d ++ zeros (k - d.length)) := by
  unfold layL
  rw [if_pos (by unfold isPlaceB; simp; omega), Int.toNat_natCast, List.take_of_length_le (by omega), splice_zeros p d o k ho]
theorem nwithL_zeros (p : List UInt8) (o k W v : Nat) (ho : p.length = o) (h1 : 1 ≤ W) (h4 : W ≤ 4) (hW : W ≤ k) : nwithL (p ++ zeros k) (o : Nat) (W : Nat) v = p ++ (leBytes W v ++ zeros (k - W)) := by
  unfold nwithL
  rw [if_pos (by unfold fitsB; simp [zeros_len]; omega), Int.toNat_natCast, Int.toNat_natCast, splice_zeros p _ o k ho, leBytes_len]

end Go.Proofs.Ytennkfpehdijcaa
