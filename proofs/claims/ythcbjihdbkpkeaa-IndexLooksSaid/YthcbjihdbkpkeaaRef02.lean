/-
  Contracts of the document's answers 02: the functions of numbers and of one text.
-/
import Derived.Test.YthcbjihdbkpkeaaRows
import Derived.Test.YthcbjihdbkpkeaaMixA
import Derived.BigQuiet
import Derived.Deep.QuietTactic
namespace Go.Proofs.Ythcbjihdbkpkeaa
open Go.RowKit



theorem rlow_mod (x : Nat) (hx : x < 4294967296) (k : Nat) : wrap64 ((x : Int) % ((2 ^ k : Nat) : Int)) = ((x % 2 ^ k : Nat) : Int) := by
  have h1 : x % 2 ^ k ≤ x := Nat.mod_le _ _
  have e : (x : Int) % ((2 ^ k : Nat) : Int) = ((x % 2 ^ k : Nat) : Int) := by push_cast; rfl
  rw [e]
  unfold wrap64
  omega
set_option maxHeartbeats 400000 in
theorem rlow_any (x : Nat) (hx : x < 4294967296) (n : Int) (w : World) :
    Calls Try.prog 17 #[.int .u64 x, .int .i64 n] w fun e w' => e = .returned (.int .i64 (lowN x n : Nat)) ∧ w = w' := by
  generalize hm : (min n 32).toNat = m
  have HL := Lib.hid (show lowN x n = x % 2 ^ m by unfold lowN; rw [hm])
  have Hm := Lib.hid hm
  clear hm
  have hm32 : m ≤ 32 := by rw [← Hm.out]; omega
  go_enter Try.func17, Try.ntmps17
  go_wp2
  go_loop [5, 6] (fun v i => ∃ k : Nat, k ≤ m ∧ i = .int .i64 k ∧ v = .int .u64 (2 ^ k : Nat)) (fun _ i => m - (intOf i).toNat)
  case atStart => exact ⟨0, Nat.zero_le _, rfl, rfl⟩
  case round =>
    obtain ⟨k, hk, rfl, rfl⟩ := hrel
    by_cases hlt : k < m
    · have h1 := Hm.out
      have d1 : decide ((k : Int) < n) = true := by simp; omega
      have d2 : decide ((k : Int) < 32) = true := by simp; omega
      have hp : 2 ^ k ≤ 2 ^ 31 := Nat.pow_le_pow_right (by omega) (by omega)
      have HP := Lib.hid (Nat.pow_succ 2 k)
      generalize 2 ^ k = K at *
      clear h1
      go_wp2
      go_round
      case rel => exact ⟨k + 1, by omega, by go_num, by rw [HP.out]; congr 1⟩
      case measure => simp [intOf]; omega
    · obtain rfl : k = m := by omega
      have h1 := Hm.out
      have key := rlow_mod x hx k
      rw [← HL.out] at key
      have h0 : ((2 ^ k : Nat) : Int) ≠ 0 := by have := Nat.two_pow_pos k; omega
      by_cases hn : (k : Int) < n
      · have d1 : decide ((k : Int) < n) = true := by simpa using hn
        have d2 : decide ((k : Int) < 32) = false := by simp; omega
        clear h1
        generalize 2 ^ k = K at *
        go_wp2
        go_ret
        exact ⟨rfl, rfl⟩
      · have d1 : decide ((k : Int) < n) = false := by simpa using hn
        clear h1
        generalize 2 ^ k = K at *
        go_wp2
        go_ret
        exact ⟨rfl, rfl⟩



end Go.Proofs.Ythcbjihdbkpkeaa
