/-
  Contracts of package mix's functions of numbers and of one text.
-/
import Derived.Test.YthcbjihdbkpkeaaRows
import Derived.Test.YthcbjihdbkpkeaaMixA
import Derived.BigQuiet
import Derived.Deep.QuietTactic
namespace Go.Proofs.Ythcbjihdbkpkeaa
open Go.RowKit



theorem low_key (h : Nat) (hh : h < 4294967296) (k : Nat) (hk : k ≤ 32) :
    wrap64 (bits BinOp.and IntKind.u64 (h : Int) (IntKind.u64.wrap (IntKind.u64.wrap (2 ^ k) - 1))) = ((lowN h k : Nat) : Int) := by
  have hp : 2 ^ k ≤ 2 ^ 32 := Nat.pow_le_pow_right (by omega) hk
  have h0 := Nat.two_pow_pos k
  have hl := lowN_lt h k
  have e1 : ((2 : Int) ^ k) = ((2 ^ k : Nat) : Int) := by push_cast; rfl
  rw [e1]
  have e2 : IntKind.u64.wrap ((2 ^ k : Nat) : Int) = ((2 ^ k : Nat) : Int) := IntWalk.u64_in _ (by omega)
  rw [e2]
  have e3 : (((2 ^ k : Nat) : Int) - 1) = ((2 ^ k - 1 : Nat) : Int) := by omega
  rw [e3]
  have e4 : IntKind.u64.wrap ((2 ^ k - 1 : Nat) : Int) = ((2 ^ k - 1 : Nat) : Int) := IntWalk.u64_in _ (by omega)
  rw [e4, bits_and_u64_nat _ _ (by omega) (by omega), Nat.and_two_pow_sub_one_eq_mod, ← lowN_nat h k hk]
  unfold wrap64
  omega
theorem low_key32 (h : Nat) (hh : h < 4294967296) : wrap64 (bits BinOp.and IntKind.u64 (h : Int) 4294967295) = ((lowN h 32 : Nat) : Int) := low_key h hh 32 (by omega)
set_option maxHeartbeats 400000 in
theorem low_any (x : Nat) (hx : x < 4294967296) (n : Int) (w : World) :
    Calls Try.prog 30 #[.int .u32 x, .int .i64 n] w fun e w' => e = .returned (.int .i64 (lowN x n : Nat)) ∧ w = w' := by
  by_cases h1 : n < 1
  · have d1 : decide (n < 1) = true := by simpa using h1
    go_enter Try.func30, Try.ntmps30
    go_wp2_with fail
    go_ret
    rw [lowN_below x n h1]
    exact ⟨rfl, rfl⟩
  · have d1 : decide (n < 1) = false := by simpa using h1
    obtain ⟨k, rfl⟩ := Int.eq_ofNat_of_zero_le (show 0 ≤ n by omega)
    by_cases h2 : k ≤ 32
    · have key := low_key x hx k h2
      go_enter Try.func30, Try.ntmps30
      go_wp2
      all_goals
        first
        | (exfalso; omega)
        | (go_ret
           exact ⟨rfl, rfl⟩)
    · have key := low_key32 x hx
      have e := lowN_above x k (by omega)
      go_enter Try.func30, Try.ntmps30
      go_wp2
      all_goals
        first
        | (exfalso; omega)
        | (go_ret
           exact ⟨rfl, rfl⟩)




end Go.Proofs.Ythcbjihdbkpkeaa
