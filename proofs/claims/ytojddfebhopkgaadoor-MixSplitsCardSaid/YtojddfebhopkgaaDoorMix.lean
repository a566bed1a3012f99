/-
  Contracts of package mix's functions of numbers and of one text.
-/
import Derived.Test.YtojddfebhopkgaaDoorRows
import Derived.Test.YtojddfebhopkgaaDoorMixA
import Derived.BigQuiet
import Derived.Deep.QuietTactic
namespace Go.Proofs.YtojddfebhopkgaaDoor
open Go.RowKit

set_option maxHeartbeats 400000 in
theorem more_any (h : Nat) (hh : h < 4294967296) (s : ByteArray) (hs : s.size ≤ maxLen) (w : World) :
    Calls Tryd.prog 11 #[.int .u32 h, .string s] w fun e w' => e = .returned (.int .u32 (fnvs h s.data.toList : Nat)) ∧ w = w' := by
  unfold maxLen at hs
  go_enter Tryd.func11, Tryd.ntmps11
  go_wp2
  go_loop [0, 8] (fun v i => ∃ k : Nat, k ≤ s.size ∧ i = .int .i64 k ∧ v = .int .u32 (fnvs h (s.data.toList.take k) : Nat)) (fun _ i => s.size - (intOf i).toNat)
  case atStart => exact ⟨0, Nat.zero_le _, rfl, rfl⟩
  case round =>
    obtain ⟨k, hk, rfl, rfl⟩ := hrel
    by_cases hlt : k < s.size
    · have hf := fnvs_lt h (s.data.toList.take k) hh
      have hsn := fnvs_snoc h (s.data.toList.take k) s[k]
      rw [← take_snoc s k hlt] at hsn
      generalize hV : fnvs h (s.data.toList.take k) = V at *
      have key := fnv_step V s[k] hf
      rw [← hsn] at key
      have HK := Lib.hid key
      have HV := Lib.hid hV
      have hb := (s[k]).toNat_lt
      clear key hsn hV
      go_wp2
      go_round
      case rel => exact ⟨k + 1, by omega, by go_num, by rw [HK.out]⟩
      case measure => simp [intOf]; omega
    · go_wp2
      go_ret
      rw [List.take_of_length_le (by simp; omega)]
      exact ⟨rfl, rfl⟩

set_option maxHeartbeats 400000 in
theorem of_any (s : ByteArray) (hs : s.size ≤ maxLen) (w : World) :
    Calls Tryd.prog 9 #[.string s] w fun e w' => e = .returned (.int .u32 (hashN s : Nat)) ∧ w = w' := by
  go_enter Tryd.func9, Tryd.ntmps9
  go_wp2_with fail
  refine (more_any start start_lt s hs _).mono ?_; rintro e wx ⟨rfl, rfl⟩
  have HX : Hid (fnvs start s.data.toList = hashN s) := rfl
  go_wp2_with fail
  go_ret
  rw [HX.out]
  exact ⟨rfl, rfl⟩

theorem low_key (h : Nat) (hh : h < 4294967296) (k : Nat) (hk : k ≤ 32) :
    wrap64 (bits BinOp.and IntKind.u64 (h : Int) (IntKind.u64.wrap (IntKind.u64.wrap (2 ^ k) - 1))) = ((lowN h k : Nat) : Int) := by
  have hp : 2 ^ k ≤ 2 ^ 32 := Nat.pow_le_pow_right (by omega) hk
  have h0 := Nat.two_pow_pos k
  have hl := lowN_lt h k
  have e1 : ((2 : Int) ^ k) = ((2 ^ k : Nat) : Int) := by push_cast; rfl
  rw [e1]
  have e2 : IntKind.u64.wrap ((2 ^ k : Nat) : Int) = ((2 ^ k : Nat) : Int) := IntWalk.u64_in _ (by omega)
  rw [e2]
  have e3 : (((2 ^ k : Nat) : Int) - 1) = ((2 ^ k - 1 : Nat) : Int) := by omega
  rw [e3]
  have e4 : IntKind.u64.wrap ((2 ^ k - 1 : Nat) : Int) = ((2 ^ k - 1 : Nat) : Int) := IntWalk.u64_in _ (by omega)
  rw [e4, bits_and_u64_nat _ _ (by omega) (by omega), Nat.and_two_pow_sub_one_eq_mod, ← lowN_nat h k hk]
  unfold wrap64
  omega
theorem low_key32 (h : Nat) (hh : h < 4294967296) : wrap64 (bits BinOp.and IntKind.u64 (h : Int) 4294967295) = ((lowN h 32 : Nat) : Int) := low_key h hh 32 (by omega)
set_option maxHeartbeats 400000 in
theorem low_any (x : Nat) (hx : x < 4294967296) (n : Int) (w : World) :
    Calls Tryd.prog 13 #[.int .u32 x, .int .i64 n] w fun e w' => e = .returned (.int .i64 (lowN x n : Nat)) ∧ w = w' := by
  by_cases h1 : n < 1
  · have d1 : decide (n < 1) = true := by simpa using h1
    go_enter Tryd.func13, Tryd.ntmps13
    go_wp2_with fail
    go_ret
    rw [lowN_below x n h1]
    exact ⟨rfl, rfl⟩
  · have d1 : decide (n < 1) = false := by simpa using h1
    obtain ⟨k, rfl⟩ := Int.eq_ofNat_of_zero_le (show 0 ≤ n by omega)
    by_cases h2 : k ≤ 32
    · have key := low_key x hx k h2
      go_enter Tryd.func13, Tryd.ntmps13
      go_wp2
      all_goals
        first
        | (exfalso; omega)
        | (go_ret
           exact ⟨rfl, rfl⟩)
    · have key := low_key32 x hx
      have e := lowN_above x k (by omega)
      go_enter Tryd.func13, Tryd.ntmps13
      go_wp2
      all_goals
        first
        | (exfalso; omega)
        | (go_ret
           exact ⟨rfl, rfl⟩)

theorem bit_key (x : Nat) (hx : x < 4294967296) (k : Nat) (hk : k < 32) : (bits BinOp.and IntKind.u32 ((x : Int) / 2 ^ k) 1 == 1) = bitN x k := by
  have h0 := Nat.two_pow_pos k
  have h1 : x / 2 ^ k ≤ x := Nat.div_le_self _ _
  have e1 : (x : Int) / 2 ^ k = ((x / 2 ^ k : Nat) : Int) := by push_cast; rfl
  have e2 : bits .and .u32 ((x / 2 ^ k : Nat) : Int) 1 = ((x / 2 ^ k &&& 1 : Nat) : Int) := bits_and_u32_nat _ 1 (by omega) (by omega)
  rw [e1, e2, bitN_nat x k hk, Nat.and_one_is_mod, Bool.eq_iff_iff]
  simp
  omega
set_option maxHeartbeats 400000 in
theorem bit_any (x : Nat) (hx : x < 4294967296) (n : Int) (w : World) :
    Calls Tryd.prog 15 #[.int .u32 x, .int .i64 n] w fun e w' => e = .returned (.bool (bitN x n)) ∧ w = w' := by
  by_cases h1 : 0 ≤ n
  · by_cases h2 : n < 32
    · obtain ⟨k, rfl⟩ := Int.eq_ofNat_of_zero_le h1
      have key := bit_key x hx k (by omega)
      have d1 : decide (0 ≤ (k : Int)) = true := by simp
      have d2 : decide ((k : Int) < 32) = true := by simpa using h2
      go_enter Tryd.func15, Tryd.ntmps15
      go_wp2
      go_ret
      exact ⟨rfl, rfl⟩
    · have d1 : decide (0 ≤ n) = true := by simpa using h1
      have d2 : decide (n < 32) = false := by simpa using h2
      go_enter Tryd.func15, Tryd.ntmps15
      go_wp2
      go_ret
      have e : bitN x n = false := by simp [bitN]; omega
      rw [e]
      exact ⟨rfl, rfl⟩
  · have d1 : decide (0 ≤ n) = false := by simpa using h1
    go_enter Tryd.func15, Tryd.ntmps15
    go_wp2
    go_ret
    have e : bitN x n = false := by simp [bitN]; omega
    rw [e]
    exact ⟨rfl, rfl⟩

/-- The library's table in its variable. -/
def Tab32 (w : World) : Prop := ∀ j, j < Lib.deBruijn32tab.length → w.cell? ⟨0, j, none⟩ = some (.int .u8 (Lib.deBruijn32tab.getD j 0 : Nat))
theorem tz32_key (x a : Nat) (hx : x < 4294967296) (hx0 : x ≠ 0) (hlow : x &&& (4294967296 - x) = a) :
    bits BinOp.and IntKind.u32 (x : Int) (-(x : Int) % 4294967296) * 125613361 % 4294967296 / 134217728 = ((a * 125613361 % 4294967296 / 134217728 : Nat) : Int) := by
  have e1 : -(x : Int) % 4294967296 = ((4294967296 - x : Nat) : Int) := by omega
  rw [e1, bits_and_u32_nat x _ hx (by omega), hlow]
  omega
set_option maxHeartbeats 1000000 in
theorem tz32_core (x k idx : Nat) (w : World) (hx0 : ((x : Int) == 0) = false)
    (key : bits BinOp.and IntKind.u32 (x : Int) (-(x : Int) % 4294967296) * 125613361 % 4294967296 / 134217728 = (idx : Int))
    (hi : idx < 32) (hk : k < 32) (hcell : w.cell? ⟨0, idx, none⟩ = some (.int .u8 (k : Nat))) :
    Calls Tryd.prog 23 #[.int .u32 x] w fun e w' => e = .returned (.int .i64 (k : Nat)) ∧ w = w' := by
  go_enter Tryd.func23, Tryd.ntmps23
  go_wp2_with (simp only [key])
  go_ret
  exact ⟨rfl, rfl⟩
theorem tz32_zero (w : World) : Calls Tryd.prog 23 #[.int .u32 0] w fun e w' => e = .returned (.int .i64 32) ∧ w = w' := by
  go_enter Tryd.func23, Tryd.ntmps23
  go_wp2
  go_ret
  exact ⟨rfl, rfl⟩
theorem tz32_any (x : Nat) (hx : x < 4294967296) (w : World) (hT : Tab32 w) :
    Calls Tryd.prog 23 #[.int .u32 x] w fun e w' => e = .returned (.int .i64 (Lib.ctz 32 x : Nat)) ∧ w = w' := by
  by_cases hx0 : x = 0
  · subst hx0
    exact tz32_zero w
  · obtain ⟨hlow, hk⟩ := Lib.lowest_bit 32 x hx0 hx
    obtain ⟨hi, htab⟩ := Lib.deBruijn32_at _ hk
    have hcell := hT _ hi
    rw [htab] at hcell
    exact tz32_core x _ _ w (by simp; omega) (tz32_key x _ hx hx0 hlow) hi hk hcell

set_option maxHeartbeats 400000 in
theorem alike_any (a b : Nat) (ha : a < 4294967296) (hb : b < 4294967296) (w : World) (hT : Tab32 w) :
    Calls Tryd.prog 17 #[.int .u32 a, .int .u32 b] w fun e w' => e = .returned (.int .i64 (alikeN a b : Nat)) ∧ w = w' := by
  have hx : a ^^^ b < 2 ^ 32 := Nat.xor_lt_two_pow (by omega) (by omega)
  have key := bits_xor_u32_nat a b ha hb
  go_enter Tryd.func17, Tryd.ntmps17
  go_wp2_with (simp only [key])
  refine (tz32_any (a ^^^ b) (by omega) _ hT).mono ?_; rintro e wx ⟨rfl, rfl⟩
  go_wp2_with fail
  go_ret
  exact ⟨rfl, rfl⟩

end Go.Proofs.YtojddfebhopkgaaDoor
