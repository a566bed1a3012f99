/-
  Numbers as bytes, the least part ahead. Plain; no program is named here.
-/
import Derived.Test.YtennkfpehdijcaaBase
namespace Go.Proofs.Ytennkfpehdijcaa
open Go.RowKit

def leVal : List UInt8 → Nat
  | [] => 0
  | b :: l => b.toNat + 256 * leVal l
theorem leVal_lt (l : List UInt8) : leVal l < 2 ^ (8 * l.length) := by
  induction l with
  | nil => simp [leVal]
  | cons b l ih =>
    have hb := b.toNat_lt
    have e : 2 ^ (8 * (l.length + 1)) = 256 * 2 ^ (8 * l.length) := by rw [Nat.mul_add, Nat.pow_add]; omega
    simp only [leVal, List.length_cons]; rw [e]; omega
theorem leVal_snoc (l : List UInt8) (b : UInt8) : leVal (l ++ [b]) = leVal l + b.toNat * 2 ^ (8 * l.length) := by
  induction l with
  | nil => simp [leVal]
  | cons c l ih =>
    have e : 2 ^ (8 * (l.length + 1)) = 256 * 2 ^ (8 * l.length) := by rw [Nat.mul_add, Nat.pow_add]; omega
    simp only [List.cons_append, leVal, ih, List.length_cons]; rw [e, Nat.mul_add, Nat.mul_left_comm]; omega
/-- The lowest n bytes of v, the least part ahead. -/
def leBytes : Nat → Nat → List UInt8
  | 0, _ => []
  | n + 1, v => UInt8.ofNat v :: leBytes n (v / 256)
theorem leBytes_len (n v : Nat) : (leBytes n v).length = n := by induction n generalizing v <;> simp [leBytes, *]
theorem leBytes_succ (n v : Nat) : leBytes (n + 1) v = leBytes n v ++ [UInt8.ofNat (v / 2 ^ (8 * n))] := by
  induction n generalizing v with
  | zero => simp [leBytes]
  | succ n ih =>
    rw [leBytes, ih, leBytes, List.cons_append, Nat.div_div_eq_div_mul]
    congr 4
    rw [Nat.mul_add, Nat.pow_add, Nat.mul_comm]
theorem leVal_leBytes (n v : Nat) (h : v < 2 ^ (8 * n)) : leVal (leBytes n v) = v := by
  induction n generalizing v with
  | zero => simp at h; simp [leBytes, leVal, h]
  | succ n ih =>
    have e : 2 ^ (8 * (n + 1)) = 256 * 2 ^ (8 * n) := by rw [Nat.mul_add, Nat.pow_add]; omega
    rw [leBytes, leVal, ih _ (by omega)]
    simp
    omega
theorem leVal_lt8 (l : List UInt8) (h : l.length ≤ 8) : leVal l < 18446744073709551616 := Nat.lt_of_lt_of_le (leVal_lt l) (Nat.pow_le_pow_right (by omega) (show 8 * l.length ≤ 64 by omega))

end Go.Proofs.Ytennkfpehdijcaa
