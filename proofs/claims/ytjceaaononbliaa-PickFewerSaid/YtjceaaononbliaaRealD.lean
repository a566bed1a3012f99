/-
  Quotients are numbers, a number less itself is nought, one by a nought. Plain arithmetic; no program is named here.
-/
import Derived.Test.YtjceaaononbliaaRealC
namespace Go.Proofs.Ytjceaaononbliaa
open Ieee

theorem word_nan (s : Bool) (r : Nat) (h : r ≤ 9218868437227405312) : nanB (double.word s r) = false := by
  unfold nanB
  rw [d_word]
  simp only [decide_eq_false_iff_not]
  split <;> omega
theorem nearest_nan (s : Bool) (m : Nat) (p : Int) : nanB (double.nearest s m p) = false := by
  unfold Format.nearest
  split
  · exact word_nan _ _ (by omega)
  · simp only [d_inf]
    exact word_nan _ _ (Nat.min_le_right _ _)
theorem write_num_nan (s : Bool) (m : Nat) (p : Int) : nanB (double.write (.number s m p)) = false := nearest_nan s m p
theorem write_inf_nan (s : Bool) : nanB (double.write (.infinity s)) = false := by
  show nanB (double.word s double.infRung) = false
  exact word_nan _ _ (by rw [d_inf]; omega)
/-- A quotient that there is is a number. -/
theorem quo_nan {x y r : Nat} (h : floatBits .quo .f64 x y = some r) : nanB r = false := by
  have hs : ((double.read x).quotient 54 (double.read y)).map double.write = some r := by
    unfold floatBits Format.div FloatKind.format at h
    simp only at h
    exact h
  obtain ⟨d, hd, rfl⟩ := Option.map_eq_some_iff.1 hs
  revert hd
  cases double.read x <;> cases double.read y <;> simp only [Datum.quotient] <;> intro hd
  all_goals first | (cases hd; done) | skip
  all_goals
    first
    | (split at hd
       · split at hd
         · cases hd
         · cases hd; exact write_inf_nan _
       · cases hd; exact write_num_nan _ _ _)
    | (cases hd; first | exact write_inf_nan _ | exact write_num_nan _ _ _)
theorem quo_lt {x y r : Nat} (h : floatBits .quo .f64 x y = some r) : r < 18446744073709551616 := by
  have h1 := floatBits_wf h
  simpa [Lit.wf] using h1
theorem ofInt_lt (n : Int) : floatOfInt .f64 n < 18446744073709551616 := by
  have h1 := floatOfInt_wf .f64 n
  simpa [Lit.wf] using h1
/-- What is no infinity, less itself. -/
theorem sub_self_num (x : Nat) (hx : x < 18446744073709551616) (h : x % 9223372036854775808 < 9218868437227405312) : floatBits .sub .f64 x x = some 0 := by
  have hs : floatBits .sub .f64 x x = ((double.read x).sum (double.read x).opposite).map double.write := by
    unfold floatBits Format.sub FloatKind.format
    simp only
  rw [hs, read_num x h hx]
  simp only [Datum.opposite, Datum.sum, Option.map_some, Format.write]
  congr 1
  generalize decide (9223372036854775808 ≤ x) = s
  have e : ∀ k m, signed s m k + signed (!s) m k = 0 := fun k m => by
    rw [signed_eq, signed_eq]
    cases s <;> simp <;> omega
  rw [e, if_pos rfl]
  show double.nearest _ 0 _ = 0
  rw [nearest_zero, d_word]
  cases s <;> rfl
theorem sub_self_inf (x : Nat) (hx : x < 18446744073709551616) (h : x % 9223372036854775808 = 9218868437227405312) : floatBits .sub .f64 x x = none := by
  have hs : floatBits .sub .f64 x x = ((double.read x).sum (double.read x).opposite).map double.write := by
    unfold floatBits Format.sub FloatKind.format
    simp only
  rw [hs, read_inf x h hx]
  generalize decide (9223372036854775808 ≤ x) = s
  cases s <;> rfl
theorem one_by_nought : floatBits .quo .f64 4607182418800017408 0 = some 9218868437227405312 := by decide +kernel
theorem one_by_minus : floatBits .quo .f64 4607182418800017408 9223372036854775808 = some 18442240474082181120 := by decide +kernel
theorem nought_by_nought : floatBits .quo .f64 (floatOfInt .f64 0) (floatOfInt .f64 0) = none := by decide +kernel
theorem minus_three_by_nought : floatBits .quo .f64 (floatOfInt .f64 (-3)) (floatOfInt .f64 0) = some 18442240474082181120 := by decide +kernel

/-- Bits of a word: of what is no number the one. -/
def canonW (x : Nat) : Nat := if nanB x then 9221120237041090560 else x
/-- The ratio of two whole numbers. -/
def ratioW (n m : Int) : Nat := match floatBits .quo .f64 (floatOfInt .f64 n) (floatOfInt .f64 m) with | some r => r | none => 9221120237041090560
theorem ratioW_lt (n m : Int) : ratioW n m < 18446744073709551616 := by
  unfold ratioW
  split
  · rename_i h; exact quo_lt h
  · omega
theorem canonW_lt {x : Nat} (h : x < 18446744073709551616) : canonW x < 18446744073709551616 := by unfold canonW; split <;> omega
theorem key_nan {x : Nat} (h : nanB x = true) : keyN x = -18446744073709551616 := by
  have h1 : 9218868437227405312 < x % 9223372036854775808 := by simpa [nanB] using h
  unfold keyN; rw [if_pos h1]
theorem key_canon (x : Nat) : keyN (canonW x) = keyN x := by
  unfold canonW
  cases h : nanB x
  · rw [if_neg (by simp)]
  · rw [if_pos rfl, key_nan h]; decide
/-- Alike is the same, or no number both. -/
theorem key_eq {x y : Nat} (hx : x < 18446744073709551616) (hy : y < 18446744073709551616) : keyN x = keyN y ↔ canonW x = canonW y := by
  unfold canonW keyN nanB
  by_cases h1 : 9218868437227405312 < x % 9223372036854775808 <;> by_cases h2 : 9218868437227405312 < y % 9223372036854775808
  · simp [h1, h2]
  · simp only [h1, h2, if_true, if_false, decide_true, decide_false, Bool.false_eq_true]
    split <;> omega
  · simp only [h1, h2, if_true, if_false, decide_true, decide_false, Bool.false_eq_true]
    split <;> omega
  · simp only [h1, h2, if_false, decide_false, Bool.false_eq_true]
    repeat' split
    all_goals omega

end Go.Proofs.Ytjceaaononbliaa
