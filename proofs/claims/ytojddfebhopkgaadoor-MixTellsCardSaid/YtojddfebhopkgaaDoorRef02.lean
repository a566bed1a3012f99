/-
  Contracts of the document's answers 02: the functions of numbers and of one text.
-/
import Derived.Test.YtojddfebhopkgaaDoorRows
import Derived.Test.YtojddfebhopkgaaDoorMixA
import Derived.BigQuiet
import Derived.Deep.QuietTactic
namespace Go.Proofs.YtojddfebhopkgaaDoor
open Go.RowKit

theorem rfnv_key (V : Nat) (b : UInt8) (hV : V < 4294967296) :
    ((V : Int) - (V : Int) % 256 + bits BinOp.xor IntKind.u64 ((V : Int) % 256) (b.toNat : Int)) * 16777619 % 4294967296 = ((fnv V b : Nat) : Int) := by
  have hb := b.toNat_lt
  have e1 : (V : Int) % 256 = ((V % 256 : Nat) : Int) := by omega
  rw [e1, bits_xor_u64_nat _ _ (by omega) (by omega), ← fnv_ref V b hV]
  have hx : V % 256 ^^^ b.toNat < 2 ^ 8 := Nat.xor_lt_two_pow (by omega) (by omega)
  omega
theorem rfnv_room (V : Nat) (b : UInt8) (_hV : V < 4294967296) : 0 ≤ bits BinOp.xor IntKind.u64 ((V : Int) % 256) (b.toNat : Int) ∧ bits BinOp.xor IntKind.u64 ((V : Int) % 256) (b.toNat : Int) < 256 := by
  have hb := b.toNat_lt
  have e1 : (V : Int) % 256 = ((V % 256 : Nat) : Int) := by omega
  have hx : V % 256 ^^^ b.toNat < 2 ^ 8 := Nat.xor_lt_two_pow (by omega) (by omega)
  rw [e1, bits_xor_u64_nat _ _ (by omega) (by omega)]
  omega
set_option maxHeartbeats 400000 in
theorem rmore_any (h : Nat) (hh : h < 4294967296) (s : ByteArray) (hs : s.size ≤ maxLen) (w : World) :
    Calls Tryd.prog 12 #[.int .u64 h, .string s] w fun e w' => e = .returned (.int .u64 (fnvs h s.data.toList : Nat)) ∧ w = w' := by
  unfold maxLen at hs
  go_enter Tryd.func12, Tryd.ntmps12
  go_wp2
  go_loop [0, 5] (fun v i => ∃ k : Nat, k ≤ s.size ∧ i = .int .i64 k ∧ v = .int .u64 (fnvs h (s.data.toList.take k) : Nat)) (fun _ i => s.size - (intOf i).toNat)
  case atStart => exact ⟨0, Nat.zero_le _, rfl, rfl⟩
  case round =>
    obtain ⟨k, hk, rfl, rfl⟩ := hrel
    by_cases hlt : k < s.size
    · have hf := fnvs_lt h (s.data.toList.take k) hh
      have hsn := fnvs_snoc h (s.data.toList.take k) s[k]
      rw [← take_snoc s k hlt] at hsn
      generalize hV : fnvs h (s.data.toList.take k) = V at *
      have key := rfnv_key V s[k] hf
      have room := rfnv_room V s[k] hf
      generalize hX : bits BinOp.xor IntKind.u64 ((V : Int) % 256) (s[k].toNat : Int) = X at *
      rw [← hsn] at key
      have HK := Lib.hid key
      have HX := Lib.hid hX
      have HV := Lib.hid hV
      have hb := (s[k]).toNat_lt
      clear key hsn hV hX
      go_wp2_with (simp only [HX.out])
      go_round
      case rel => exact ⟨k + 1, by omega, by go_num, by rw [HK.out]⟩
      case measure => simp [intOf]; omega
    · go_wp2
      go_ret
      rw [List.take_of_length_le (by simp; omega)]
      exact ⟨rfl, rfl⟩

set_option maxHeartbeats 400000 in
theorem rof_any (s : ByteArray) (hs : s.size ≤ maxLen) (w : World) :
    Calls Tryd.prog 10 #[.string s] w fun e w' => e = .returned (.int .u64 (hashN s : Nat)) ∧ w = w' := by
  go_enter Tryd.func10, Tryd.ntmps10
  go_wp2_with fail
  refine (rmore_any start start_lt s hs _).mono ?_; rintro e wx ⟨rfl, rfl⟩
  have HX : Hid (fnvs start s.data.toList = hashN s) := rfl
  go_wp2_with fail
  go_ret
  rw [HX.out]
  exact ⟨rfl, rfl⟩

theorem rlow_mod (x : Nat) (hx : x < 4294967296) (k : Nat) : wrap64 ((x : Int) % ((2 ^ k : Nat) : Int)) = ((x % 2 ^ k : Nat) : Int) := by
  have h1 : x % 2 ^ k ≤ x := Nat.mod_le _ _
  have e : (x : Int) % ((2 ^ k : Nat) : Int) = ((x % 2 ^ k : Nat) : Int) := by push_cast; rfl
  rw [e]
  unfold wrap64
  omega
set_option maxHeartbeats 400000 in
theorem rlow_any (x : Nat) (hx : x < 4294967296) (n : Int) (w : World) :
    Calls Tryd.prog 14 #[.int .u64 x, .int .i64 n] w fun e w' => e = .returned (.int .i64 (lowN x n : Nat)) ∧ w = w' := by
  generalize hm : (min n 32).toNat = m
  have HL := Lib.hid (show lowN x n = x % 2 ^ m by unfold lowN; rw [hm])
  have Hm := Lib.hid hm
  clear hm
  have hm32 : m ≤ 32 := by rw [← Hm.out]; omega
  go_enter Tryd.func14, Tryd.ntmps14
  go_wp2
  go_loop [5, 6] (fun v i => ∃ k : Nat, k ≤ m ∧ i = .int .i64 k ∧ v = .int .u64 (2 ^ k : Nat)) (fun _ i => m - (intOf i).toNat)
  case atStart => exact ⟨0, Nat.zero_le _, rfl, rfl⟩
  case round =>
    obtain ⟨k, hk, rfl, rfl⟩ := hrel
    by_cases hlt : k < m
    · have h1 := Hm.out
      have d1 : decide ((k : Int) < n) = true := by simp; omega
      have d2 : decide ((k : Int) < 32) = true := by simp; omega
      have hp : 2 ^ k ≤ 2 ^ 31 := Nat.pow_le_pow_right (by omega) (by omega)
      have HP := Lib.hid (Nat.pow_succ 2 k)
      generalize 2 ^ k = K at *
      clear h1
      go_wp2
      go_round
      case rel => exact ⟨k + 1, by omega, by go_num, by rw [HP.out]; congr 1⟩
      case measure => simp [intOf]; omega
    · obtain rfl : k = m := by omega
      have h1 := Hm.out
      have key := rlow_mod x hx k
      rw [← HL.out] at key
      have h0 : ((2 ^ k : Nat) : Int) ≠ 0 := by have := Nat.two_pow_pos k; omega
      by_cases hn : (k : Int) < n
      · have d1 : decide ((k : Int) < n) = true := by simpa using hn
        have d2 : decide ((k : Int) < 32) = false := by simp; omega
        clear h1
        generalize 2 ^ k = K at *
        go_wp2
        go_ret
        exact ⟨rfl, rfl⟩
      · have d1 : decide ((k : Int) < n) = false := by simpa using hn
        clear h1
        generalize 2 ^ k = K at *
        go_wp2
        go_ret
        exact ⟨rfl, rfl⟩

set_option maxHeartbeats 400000 in
theorem rbit_any (x : Nat) (hx : x < 4294967296) (n : Int) (w : World) :
    Calls Tryd.prog 16 #[.int .u64 x, .int .i64 n] w fun e w' => e = .returned (.bool (bitN x n)) ∧ w = w' := by
  by_cases h1 : n < 0
  · have d1 : decide (n < 0) = true := by simpa using h1
    go_enter Tryd.func16, Tryd.ntmps16
    go_wp2_with fail
    go_ret
    have e : bitN x n = false := by simp [bitN]; omega
    rw [e]
    exact ⟨rfl, rfl⟩
  · have d1 : decide (n < 0) = false := by simpa using h1
    by_cases h2 : 31 < n
    · have d2 : decide (31 < n) = true := by simpa using h2
      go_enter Tryd.func16, Tryd.ntmps16
      go_wp2_with fail
      go_ret
      have e : bitN x n = false := by simp [bitN]; omega
      rw [e]
      exact ⟨rfl, rfl⟩
    · have d2 : decide (31 < n) = false := by simpa using h2
      obtain ⟨k, rfl⟩ := Int.eq_ofNat_of_zero_le (show 0 ≤ n by omega)
      have key := bitN_low x k (by omega)
      go_enter Tryd.func16, Tryd.ntmps16
      go_wp2_with fail
      refine (rlow_any x hx _ _).mono ?_; rintro e wx ⟨rfl, rfl⟩
      go_wp2_with fail
      refine (rlow_any x hx _ _).mono ?_; rintro e wx ⟨rfl, rfl⟩
      go_wp2_with fail
      go_ret
      rw [← key]
      refine ⟨?_, rfl⟩
      exact congrArg (fun x => Ending.returned (.bool x)) (by rw [Bool.eq_iff_iff]; simp; omega)

set_option maxHeartbeats 400000 in
theorem ralike_any (a b : Nat) (ha : a < 4294967296) (hb : b < 4294967296) (w : World) :
    Calls Tryd.prog 18 #[.int .u64 a, .int .u64 b] w fun e w' => e = .returned (.int .i64 (alikeN a b : Nat)) ∧ w = w' := by
  go_enter Tryd.func18, Tryd.ntmps18
  go_wp2_with fail
  go_loop [5] (fun i => ∃ k : Nat, k ≤ 32 ∧ i = .int .i64 k ∧ alikeN a b ≤ k) (fun i => (intOf i).toNat)
  case atStart => exact ⟨32, Nat.le_refl _, rfl, alikeN_le a b ha hb⟩
  case round =>
    obtain ⟨k, hk, rfl, hal⟩ := hrel
    by_cases h0 : 0 < k
    · have d1 : decide (0 < (k : Int)) = true := by simpa using h0
      go_wp2_with fail
      refine (rlow_any a ha _ _).mono ?_; rintro e wx ⟨rfl, rfl⟩
      go_wp2_with fail
      refine (rlow_any b hb _ _).mono ?_; rintro e wx ⟨rfl, rfl⟩
      have hlow := alikeN_low a b k ha hb hk
      by_cases he : lowN a k = lowN b k
      · have e1 := hlow.1 he
        obtain rfl : alikeN a b = k := by omega
        have d2 : (((lowN a (alikeN a b) : Nat) : Int) == ((lowN b (alikeN a b) : Nat) : Int)) = true := by simp; omega
        clear hlow he
        go_wp2_with fail
        go_ret
        exact ⟨rfl, rfl⟩
      · have e1 : ¬ k ≤ alikeN a b := fun h => he (hlow.2 h)
        have d2 : (((lowN a k : Nat) : Int) == ((lowN b k : Nat) : Int)) = false := by simp; omega
        clear hlow he
        go_wp2_with fail
        go_round
        case rel => exact ⟨k - 1, by omega, by go_num, by omega⟩
        case measure => simp [intOf]; omega
    · have d1 : decide (0 < (k : Int)) = false := by simp; omega
      have e : alikeN a b = 0 := by omega
      rw [e]
      go_wp2_with fail
      go_ret
      exact ⟨rfl, rfl⟩

end Go.Proofs.YtojddfebhopkgaaDoor
