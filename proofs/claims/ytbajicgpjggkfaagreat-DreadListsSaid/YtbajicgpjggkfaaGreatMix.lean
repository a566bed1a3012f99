/-
  Contracts of package mix's functions of numbers and of one text.
-/
import Derived.Test.YtbajicgpjggkfaaGreatRows
import Derived.Test.YtbajicgpjggkfaaGreatGrB
import Derived.BigQuiet
import Derived.Deep.QuietTactic
namespace Go.Proofs.YtbajicgpjggkfaaGreat
open Go.RowKit

set_option maxHeartbeats 400000 in
theorem more_any (h : Nat) (hh : h < 4294967296) (s : ByteArray) (hs : s.size ≤ maxLen) (w : World) :
    Calls Tryz.prog 122 #[.int .u32 h, .string s] w fun e w' => e = .returned (.int .u32 (fnvs h s.data.toList : Nat)) ∧ w = w' := by
  unfold maxLen at hs
  go_enter Tryz.func122, Tryz.ntmps122
  go_wp2
  go_loop [0, 8] (fun v i => ∃ k : Nat, k ≤ s.size ∧ i = .int .i64 k ∧ v = .int .u32 (fnvs h (s.data.toList.take k) : Nat)) (fun _ i => s.size - (intOf i).toNat)
  case atStart => exact ⟨0, Nat.zero_le _, rfl, rfl⟩
  case round =>
    obtain ⟨k, hk, rfl, rfl⟩ := hrel
    by_cases hlt : k < s.size
    · have hf := fnvs_lt h (s.data.toList.take k) hh
      have hsn := fnvs_snoc h (s.data.toList.take k) s[k]
      rw [← mtake_snoc s k hlt] at hsn
      generalize hV : fnvs h (s.data.toList.take k) = V at *
      have key := fnv_step V s[k] hf
      rw [← hsn] at key
      have HK := Lib.hid key
      have HV := Lib.hid hV
      have hb := (s[k]).toNat_lt
      clear key hsn hV
      go_wp2
      go_round
      case rel => exact ⟨k + 1, by omega, by go_num, by rw [HK.out]⟩
      case measure => simp [intOf]; omega
    · go_wp2
      go_ret
      rw [List.take_of_length_le (by simp; omega)]
      exact ⟨rfl, rfl⟩

set_option maxHeartbeats 400000 in
theorem mof_any (s : ByteArray) (hs : s.size ≤ maxLen) (w : World) :
    Calls Tryz.prog 79 #[.string s] w fun e w' => e = .returned (.int .u32 (hashN s : Nat)) ∧ w = w' := by
  go_enter Tryz.func79, Tryz.ntmps79
  go_wp2_with fail
  refine (more_any start start_lt s hs _).mono ?_; rintro e wx ⟨rfl, rfl⟩
  have HX : Hid (fnvs start s.data.toList = hashN s) := rfl
  go_wp2_with fail
  go_ret
  rw [HX.out]
  exact ⟨rfl, rfl⟩

theorem low_key (h : Nat) (hh : h < 4294967296) (k : Nat) (hk : k ≤ 32) :
    wrap64 (bits BinOp.and IntKind.u64 (h : Int) (IntKind.u64.wrap (IntKind.u64.wrap (2 ^ k) - 1))) = ((lowN h k : Nat) : Int) := by
  have hp : 2 ^ k ≤ 2 ^ 32 := Nat.pow_le_pow_right (by omega) hk
  have h0 := Nat.two_pow_pos k
  have hl := lowN_lt h k
  have e1 : ((2 : Int) ^ k) = ((2 ^ k : Nat) : Int) := by push_cast; rfl
  rw [e1]
  have e2 : IntKind.u64.wrap ((2 ^ k : Nat) : Int) = ((2 ^ k : Nat) : Int) := IntWalk.u64_in _ (by omega)
  rw [e2]
  have e3 : (((2 ^ k : Nat) : Int) - 1) = ((2 ^ k - 1 : Nat) : Int) := by omega
  rw [e3]
  have e4 : IntKind.u64.wrap ((2 ^ k - 1 : Nat) : Int) = ((2 ^ k - 1 : Nat) : Int) := IntWalk.u64_in _ (by omega)
  rw [e4, bits_and_u64_nat _ _ (by omega) (by omega), Nat.and_two_pow_sub_one_eq_mod, ← lowN_nat h k hk]
  unfold wrap64
  omega
theorem low_key32 (h : Nat) (hh : h < 4294967296) : wrap64 (bits BinOp.and IntKind.u64 (h : Int) 4294967295) = ((lowN h 32 : Nat) : Int) := low_key h hh 32 (by omega)
set_option maxHeartbeats 400000 in
theorem low_any (x : Nat) (hx : x < 4294967296) (n : Int) (w : World) :
    Calls Tryz.prog 120 #[.int .u32 x, .int .i64 n] w fun e w' => e = .returned (.int .i64 (lowN x n : Nat)) ∧ w = w' := by
  by_cases h1 : n < 1
  · have d1 : decide (n < 1) = true := by simpa using h1
    go_enter Tryz.func120, Tryz.ntmps120
    go_wp2_with fail
    go_ret
    rw [lowN_below x n h1]
    exact ⟨rfl, rfl⟩
  · have d1 : decide (n < 1) = false := by simpa using h1
    obtain ⟨k, rfl⟩ := Int.eq_ofNat_of_zero_le (show 0 ≤ n by omega)
    by_cases h2 : k ≤ 32
    · have key := low_key x hx k h2
      go_enter Tryz.func120, Tryz.ntmps120
      go_wp2
      all_goals
        first
        | (exfalso; omega)
        | (go_ret
           exact ⟨rfl, rfl⟩)
    · have key := low_key32 x hx
      have e := lowN_above x k (by omega)
      go_enter Tryz.func120, Tryz.ntmps120
      go_wp2
      all_goals
        first
        | (exfalso; omega)
        | (go_ret
           exact ⟨rfl, rfl⟩)




end Go.Proofs.YtbajicgpjggkfaaGreat
