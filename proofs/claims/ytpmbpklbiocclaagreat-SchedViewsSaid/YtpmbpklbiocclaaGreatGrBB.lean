/-
  Texts of this claim joined: Real5, Pick1.
-/
import Derived.Test.YtpmbpklbiocclaaGreatGrAZ
import Derived.LoopTactic
import Derived.Test.YtpmbpklbiocclaaGreatGrBA
import Derived.Test.YtpmbpklbiocclaaGreatGrBE

/-
  The contract of the document's From: the number of some bits by its parts.
-/
namespace Go.Proofs.YtpmbpklbiocclaaGreat
open Go.RowKit



end Go.Proofs.YtpmbpklbiocclaaGreat

/-
  Contracts of package pick's At and Worth, and of the document's.
-/
namespace Go.Proofs.YtpmbpklbiocclaaGreat
open Go.RowKit

def atZ (n : Int) (x : Nat) : Int :=
  if n < 1 then -1 else if keyN x ≤ 0 then 0 else if 4607182418800017408 ≤ keyN x then n - 1
  else if n - 1 < (wholeW (mulW x (floatOfInt .f64 n)) : Int) then n - 1 else (wholeW (mulW x (floatOfInt .f64 n)) : Int)

theorem toInt64 (x : Nat) (hx : x < 9218868437227405312) (h : wholeW x < 9223372036854775808) : floatToIntVal .f64 x .i64 = some ((wholeW x : Nat) : Int) := by
  unfold floatToIntVal
  rw [toInt_val x hx]
  have h1 : IntKind.i64.min = -9223372036854775808 := by decide
  have h2 : IntKind.i64.max = 9223372036854775807 := by decide
  rw [h1, h2]
  show (if _ then _ else _) = _
  rw [if_pos (by omega)]
theorem key_pos (x : Nat) (hx : x < 9218868437227405312) : keyN x = x := by
  unfold keyN
  rw [if_neg (by omega), if_pos (by omega)]
theorem key_one : keyN 4607182418800017408 = 4607182418800017408 := by decide
theorem key_zero : keyN 0 = 0 := by decide

theorem at_facts (n : Int) (x : Nat) (h1 : 1 ≤ n) (h2 : n < 9223372036854775808) (hx : x < 4607182418800017408) :
    floatBits .mul .f64 x (floatOfInt .f64 n) = some (mulW x (floatOfInt .f64 n)) ∧ floatToIntVal .f64 (mulW x (floatOfInt .f64 n)) .i64 = some ((wholeW (mulW x (floatOfInt .f64 n)) : Nat) : Int) := by
  obtain ⟨m, rfl⟩ : ∃ m : Nat, n = m := ⟨n.toNat, by omega⟩
  have ht := ofInt_top (n := m) (by omega)
  have hm := mul_below (n := m) hx (by omega)
  exact ⟨mul_val x _ (by omega) (by omega), toInt64 _ (by omega) (by omega)⟩

set_option maxHeartbeats 2000000 in
theorem at_any (n : Int) (x : Nat) (hn1 : -9223372036854775808 ≤ n) (hn2 : n < 9223372036854775808) (hx : x < 18446744073709551616) (w : World) :
    Calls Tryz.prog 30 #[.int .i64 n, .float .f64 x] w fun e w' => e = .returned (.int .i64 (atZ n x)) ∧ w' = w := by
  unfold atZ
  have hO0 := fun w => order_any x 0 hx (by decide) w
  have hO1 := fun w => order_any x 4607182418800017408 hx (by decide) w
  have k0 := ordN_nonpos x 0
  have k1 := ordN_nonneg x 4607182418800017408
  rw [key_zero] at k0
  rw [key_one] at k1
  by_cases h1 : n < 1
  · rw [if_pos h1]
    have d0 : decide (n < 1) = true := by simpa using h1
    clear h1 k0 k1 hO0 hO1
    go_enter Tryz.func30, Tryz.ntmps30
    go_wp2_with fail
    go_ret
    exact ⟨rfl, rfl⟩
  · rw [if_neg h1]
    have d0 : decide (n < 1) = false := by simpa using h1
    generalize ordN x 0 = o0 at *
    generalize ordN x 4607182418800017408 = o1 at *
    by_cases h2 : keyN x ≤ 0
    · rw [if_pos h2]
      rw [decide_eq_true h2] at k0
      clear h1 h2 k1 hO1
      go_enter Tryz.func30, Tryz.ntmps30
      go_wp2_with fail
      refine (hO0 _).mono ?_; rintro e w' ⟨rfl, rfl⟩
      go_wp2_with fail
      go_ret
      exact ⟨rfl, rfl⟩
    · rw [if_neg h2]
      rw [decide_eq_false h2] at k0
      have q1 : IntKind.i64.wrap (n - 1) = n - 1 := by rw [IntKind.wrap_i64]; omega
      by_cases h3 : 4607182418800017408 ≤ keyN x
      · rw [if_pos h3]
        rw [decide_eq_true h3] at k1
        clear h1 h2 h3
        go_enter Tryz.func30, Tryz.ntmps30
        go_wp2_with fail
        refine (hO0 _).mono ?_; rintro e w' ⟨rfl, rfl⟩
        go_wp2_with fail
        refine (hO1 _).mono ?_; rintro e w' ⟨rfl, rfl⟩
        go_wp2_with fail
        go_ret
        exact ⟨rfl, rfl⟩
      · rw [if_neg h3]
        rw [decide_eq_false h3] at k1
        have hxs : x < 4607182418800017408 := by
          rcases key_cases x hx with h | h | h | h | h | h | h
          · omega
          · omega
          · omega
          · omega
          · omega
          · have := kind_cases x hx
            have := key_pos x (by omega)
            omega
          · omega
        obtain ⟨f1, f2⟩ := at_facts n x (by omega) hn2 hxs
        have hop := fun (w : World) => run_float_arith (P := Tryz.prog) w .mul 77 .f64 _ _ _ f1
        have hcv := fun (w : World) => run_convert_float_int (P := Tryz.prog) w 77 3 .f64 .i64 _ _ (by rw [Tryz.underlying77]; rfl) Tryz.underlying3 f2
        generalize mulW x (floatOfInt .f64 n) = y at *
        generalize hz : floatOfInt .f64 n = z at *
        generalize ((wholeW y : Nat) : Int) = W at *
        clear h1 h2 h3 hxs f1 f2
        go_enter Tryz.func30, Tryz.ntmps30
        go_wp2_with fail
        refine (hO0 _).mono ?_; rintro e w' ⟨rfl, rfl⟩
        go_wp2_with fail
        refine (hO1 _).mono ?_; rintro e w' ⟨rfl, rfl⟩
        go_wp2_with fail
        all_goals
          go_ret
          exact ⟨congrArg (fun z => Ending.returned (Value.int IntKind.i64 z)) (by omega), rfl⟩



end Go.Proofs.YtpmbpklbiocclaaGreat
