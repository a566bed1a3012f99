/-
  Contracts of the document's answers 02: the functions of numbers and of one text.
-/
import Derived.Test.YtpdeohmgjblkeaaRows
import Derived.Test.YtpdeohmgjblkeaaMixA
import Derived.BigQuiet
import Derived.Deep.QuietTactic
namespace Go.Proofs.Ytpdeohmgjblkeaa
open Go.RowKit

theorem rfnv_key (V : Nat) (b : UInt8) (hV : V < 4294967296) :
    ((V : Int) - (V : Int) % 256 + bits BinOp.xor IntKind.u64 ((V : Int) % 256) (b.toNat : Int)) * 16777619 % 4294967296 = ((fnv V b : Nat) : Int) := by
  have hb := b.toNat_lt
  have e1 : (V : Int) % 256 = ((V % 256 : Nat) : Int) := by omega
  rw [e1, bits_xor_u64_nat _ _ (by omega) (by omega), ← fnv_ref V b hV]
  have hx : V % 256 ^^^ b.toNat < 2 ^ 8 := Nat.xor_lt_two_pow (by omega) (by omega)
  omega
theorem rfnv_room (V : Nat) (b : UInt8) (_hV : V < 4294967296) : 0 ≤ bits BinOp.xor IntKind.u64 ((V : Int) % 256) (b.toNat : Int) ∧ bits BinOp.xor IntKind.u64 ((V : Int) % 256) (b.toNat : Int) < 256 := by
  have hb := b.toNat_lt
  have e1 : (V : Int) % 256 = ((V % 256 : Nat) : Int) := by omega
  have hx : V % 256 ^^^ b.toNat < 2 ^ 8 := Nat.xor_lt_two_pow (by omega) (by omega)
  rw [e1, bits_xor_u64_nat _ _ (by omega) (by omega)]
  omega
set_option maxHeartbeats 400000 in
theorem rmore_any (h : Nat) (hh : h < 4294967296) (s : ByteArray) (hs : s.size ≤ maxLen) (w : World) :
    Calls Try.prog 86 #[.int .u64 h, .string s] w fun e w' => e = .returned (.int .u64 (fnvs h s.data.toList : Nat)) ∧ w = w' := by
  unfold maxLen at hs
  go_enter Try.func86, Try.ntmps86
  go_wp2
  go_loop [0, 5] (fun v i => ∃ k : Nat, k ≤ s.size ∧ i = .int .i64 k ∧ v = .int .u64 (fnvs h (s.data.toList.take k) : Nat)) (fun _ i => s.size - (intOf i).toNat)
  case atStart => exact ⟨0, Nat.zero_le _, rfl, rfl⟩
  case round =>
    obtain ⟨k, hk, rfl, rfl⟩ := hrel
    by_cases hlt : k < s.size
    · have hf := fnvs_lt h (s.data.toList.take k) hh
      have hsn := fnvs_snoc h (s.data.toList.take k) s[k]
      rw [← mtake_snoc s k hlt] at hsn
      generalize hV : fnvs h (s.data.toList.take k) = V at *
      have key := rfnv_key V s[k] hf
      have room := rfnv_room V s[k] hf
      generalize hX : bits BinOp.xor IntKind.u64 ((V : Int) % 256) (s[k].toNat : Int) = X at *
      rw [← hsn] at key
      have HK := Lib.hid key
      have HX := Lib.hid hX
      have HV := Lib.hid hV
      have hb := (s[k]).toNat_lt
      clear key hsn hV hX
      go_wp2_with (simp only [HX.out])
      go_round
      case rel => exact ⟨k + 1, by omega, by go_num, by rw [HK.out]⟩
      case measure => simp [intOf]; omega
    · go_wp2
      go_ret
      rw [List.take_of_length_le (by simp; omega)]
      exact ⟨rfl, rfl⟩

set_option maxHeartbeats 400000 in
theorem rof_any (s : ByteArray) (hs : s.size ≤ maxLen) (w : World) :
    Calls Try.prog 72 #[.string s] w fun e w' => e = .returned (.int .u64 (hashN s : Nat)) ∧ w = w' := by
  go_enter Try.func72, Try.ntmps72
  go_wp2_with fail
  refine (rmore_any start start_lt s hs _).mono ?_; rintro e wx ⟨rfl, rfl⟩
  have HX : Hid (fnvs start s.data.toList = hashN s) := rfl
  go_wp2_with fail
  go_ret
  rw [HX.out]
  exact ⟨rfl, rfl⟩




end Go.Proofs.Ytpdeohmgjblkeaa
