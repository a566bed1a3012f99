/-
  Contracts of package mix's functions of numbers and of one text.
-/
import Derived.Test.YtfhghcodhacneaaRows
import Derived.Test.YtfhghcodhacneaaGrB
import Derived.BigQuiet
import Derived.Deep.QuietTactic
namespace Go.Proofs.Ytfhghcodhacneaa
open Go.RowKit

set_option maxHeartbeats 400000 in
theorem more_any (h : Nat) (hh : h < 4294967296) (s : ByteArray) (hs : s.size ≤ maxLen) (w : World) :
    Calls Try.prog 45 #[.int .u32 h, .string s] w fun e w' => e = .returned (.int .u32 (fnvs h s.data.toList : Nat)) ∧ w = w' := by
  unfold maxLen at hs
  go_enter Try.func45, Try.ntmps45
  go_wp2
  go_loop [0, 8] (fun v i => ∃ k : Nat, k ≤ s.size ∧ i = .int .i64 k ∧ v = .int .u32 (fnvs h (s.data.toList.take k) : Nat)) (fun _ i => s.size - (intOf i).toNat)
  case atStart => exact ⟨0, Nat.zero_le _, rfl, rfl⟩
  case round =>
    obtain ⟨k, hk, rfl, rfl⟩ := hrel
    by_cases hlt : k < s.size
    · have hf := fnvs_lt h (s.data.toList.take k) hh
      have hsn := fnvs_snoc h (s.data.toList.take k) s[k]
      rw [← mtake_snoc s k hlt] at hsn
      generalize hV : fnvs h (s.data.toList.take k) = V at *
      have key := fnv_step V s[k] hf
      rw [← hsn] at key
      have HK := Lib.hid key
      have HV := Lib.hid hV
      have hb := (s[k]).toNat_lt
      clear key hsn hV
      go_wp2
      go_round
      case rel => exact ⟨k + 1, by omega, by go_num, by rw [HK.out]⟩
      case measure => simp [intOf]; omega
    · go_wp2
      go_ret
      rw [List.take_of_length_le (by simp; omega)]
      exact ⟨rfl, rfl⟩

set_option maxHeartbeats 400000 in
theorem mof_any (s : ByteArray) (hs : s.size ≤ maxLen) (w : World) :
    Calls Try.prog 30 #[.string s] w fun e w' => e = .returned (.int .u32 (hashN s : Nat)) ∧ w = w' := by
  go_enter Try.func30, Try.ntmps30
  go_wp2_with fail
  refine (more_any start start_lt s hs _).mono ?_; rintro e wx ⟨rfl, rfl⟩
  have HX : Hid (fnvs start s.data.toList = hashN s) := rfl
  go_wp2_with fail
  go_ret
  rw [HX.out]
  exact ⟨rfl, rfl⟩





end Go.Proofs.Ytfhghcodhacneaa
