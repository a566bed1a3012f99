/-
  Contracts of package pick's At and Worth, and of the document's.
-/
import Derived.Test.YtjceaaononbliaaReal5
import Derived.Test.YtjceaaononbliaaRealM
import Derived.Test.YtjceaaononbliaaRealO
namespace Go.Proofs.Ytjceaaononbliaa
open Go.RowKit

/-- The place that a weight picks. -/
def atZ (n : Int) (x : Nat) : Int :=
  if n < 1 then -1 else if keyN x ≤ 0 then 0 else if 4607182418800017408 ≤ keyN x then n - 1
  else if n - 1 < (wholeW (mulW x (floatOfInt .f64 n)) : Int) then n - 1 else (wholeW (mulW x (floatOfInt .f64 n)) : Int)

theorem toInt64 (x : Nat) (hx : x < 9218868437227405312) (h : wholeW x < 9223372036854775808) : floatToIntVal .f64 x .i64 = some ((wholeW x : Nat) : Int) := by
  unfold floatToIntVal
  rw [toInt_val x hx]
  have h1 : IntKind.i64.min = -9223372036854775808 := by decide
  have h2 : IntKind.i64.max = 9223372036854775807 := by decide
  rw [h1, h2]
  show (if _ then _ else _) = _
  rw [if_pos (by omega)]
theorem key_pos (x : Nat) (hx : x < 9218868437227405312) : keyN x = x := by
  unfold keyN
  rw [if_neg (by omega), if_pos (by omega)]
theorem key_one : keyN 4607182418800017408 = 4607182418800017408 := by decide
theorem key_zero : keyN 0 = 0 := by decide

/-- What At reckons between: the product, and its whole part. -/
theorem at_facts (n : Int) (x : Nat) (h1 : 1 ≤ n) (h2 : n < 9223372036854775808) (hx : x < 4607182418800017408) :
    floatBits .mul .f64 x (floatOfInt .f64 n) = some (mulW x (floatOfInt .f64 n)) ∧ floatToIntVal .f64 (mulW x (floatOfInt .f64 n)) .i64 = some ((wholeW (mulW x (floatOfInt .f64 n)) : Nat) : Int) := by
  obtain ⟨m, rfl⟩ : ∃ m : Nat, n = m := ⟨n.toNat, by omega⟩
  have ht := ofInt_top (n := m) (by omega)
  have hm := mul_below (n := m) hx (by omega)
  exact ⟨mul_val x _ (by omega) (by omega), toInt64 _ (by omega) (by omega)⟩

set_option maxHeartbeats 2000000 in
theorem at_any (n : Int) (x : Nat) (hn1 : -9223372036854775808 ≤ n) (hn2 : n < 9223372036854775808) (hx : x < 18446744073709551616) (w : World) :
    Calls Try.prog 9 #[.int .i64 n, .float .f64 x] w fun e w' => e = .returned (.int .i64 (atZ n x)) ∧ w' = w := by
  unfold atZ
  have hO0 := fun w => order_any x 0 hx (by decide) w
  have hO1 := fun w => order_any x 4607182418800017408 hx (by decide) w
  have k0 := ordN_nonpos x 0
  have k1 := ordN_nonneg x 4607182418800017408
  rw [key_zero] at k0
  rw [key_one] at k1
  by_cases h1 : n < 1
  · rw [if_pos h1]
    have d0 : decide (n < 1) = true := by simpa using h1
    clear h1 k0 k1 hO0 hO1
    go_enter Try.func9, Try.ntmps9
    go_wp2_with fail
    go_ret
    exact ⟨rfl, rfl⟩
  · rw [if_neg h1]
    have d0 : decide (n < 1) = false := by simpa using h1
    generalize ordN x 0 = o0 at *
    generalize ordN x 4607182418800017408 = o1 at *
    by_cases h2 : keyN x ≤ 0
    · rw [if_pos h2]
      rw [decide_eq_true h2] at k0
      clear h1 h2 k1 hO1
      go_enter Try.func9, Try.ntmps9
      go_wp2_with fail
      refine (hO0 _).mono ?_; rintro e w' ⟨rfl, rfl⟩
      go_wp2_with fail
      go_ret
      exact ⟨rfl, rfl⟩
    · rw [if_neg h2]
      rw [decide_eq_false h2] at k0
      have q1 : IntKind.i64.wrap (n - 1) = n - 1 := by rw [IntKind.wrap_i64]; omega
      by_cases h3 : 4607182418800017408 ≤ keyN x
      · rw [if_pos h3]
        rw [decide_eq_true h3] at k1
        clear h1 h2 h3
        go_enter Try.func9, Try.ntmps9
        go_wp2_with fail
        refine (hO0 _).mono ?_; rintro e w' ⟨rfl, rfl⟩
        go_wp2_with fail
        refine (hO1 _).mono ?_; rintro e w' ⟨rfl, rfl⟩
        go_wp2_with fail
        go_ret
        exact ⟨rfl, rfl⟩
      · rw [if_neg h3]
        rw [decide_eq_false h3] at k1
        have hxs : x < 4607182418800017408 := by
          rcases key_cases x hx with h | h | h | h | h | h | h
          · omega
          · omega
          · omega
          · omega
          · omega
          · have := kind_cases x hx
            have := key_pos x (by omega)
            omega
          · omega
        obtain ⟨f1, f2⟩ := at_facts n x (by omega) hn2 hxs
        have hop := fun (w : World) => run_float_arith (P := Try.prog) w .mul 22 .f64 _ _ _ f1
        have hcv := fun (w : World) => run_convert_float_int (P := Try.prog) w 22 3 .f64 .i64 _ _ (by rw [Try.underlying22]; rfl) Try.underlying3 f2
        generalize mulW x (floatOfInt .f64 n) = y at *
        generalize hz : floatOfInt .f64 n = z at *
        generalize ((wholeW y : Nat) : Int) = W at *
        clear h1 h2 h3 hxs f1 f2
        go_enter Try.func9, Try.ntmps9
        go_wp2_with fail
        refine (hO0 _).mono ?_; rintro e w' ⟨rfl, rfl⟩
        go_wp2_with fail
        refine (hO1 _).mono ?_; rintro e w' ⟨rfl, rfl⟩
        go_wp2_with fail
        all_goals
          go_ret
          exact ⟨rfl, rfl⟩

/-! ### The document's At -/
theorem one_tests (x : Nat) (h0 : 0 < x) (h1 : x < 9218868437227405312) :
    (FloatKind.f64.format.order x 4607182418800017408 == some .gt) = decide (4607182418800017408 < x) ∧ (FloatKind.f64.format.order x 4607182418800017408 == some .eq) = decide (x = 4607182418800017408) := by
  have n1 : nanB x = false := by unfold nanB; simp; omega
  have n2 : nanB 4607182418800017408 = false := by decide
  refine ⟨?_, ?_⟩
  · rw [f_gt (by omega) (by decide)]
    unfold ltF sr
    rw [n1, n2, Bool.eq_iff_iff]
    simp only [Bool.not_false, Bool.true_and, decide_eq_true_eq]
    repeat' split
    all_goals omega
  · rw [f_eq (by omega) (by decide)]
    unfold eqF sr
    rw [n1, n2, Bool.eq_iff_iff]
    simp only [Bool.not_false, Bool.true_and, decide_eq_true_eq]
    repeat' split
    all_goals omega

set_option maxHeartbeats 4000000 in
theorem rat_any (n : Int) (x : Nat) (hn1 : -9223372036854775808 ≤ n) (hn2 : n < 9223372036854775808) (hx : x < 18446744073709551616) (w : World) :
    Calls Try.prog 10 #[.int .i64 n, .float .f64 x] w (RetQ (.int .i64 (atZ n x)) w) := by
  have hK := fun w => rkind_any x hx w
  unfold atZ
  by_cases h1 : n < 1
  · rw [if_pos h1]
    have d0 : decide (n < 1) = true := by simpa using h1
    clear h1 hK
    go_enter Try.func10, Try.ntmps10
    go_wp2_with fail
    go_ret
    exact ⟨rfl, 0, rfl⟩
  · rw [if_neg h1]
    have d0 : decide (n < 1) = false := by simpa using h1
    have q1 : IntKind.i64.wrap (n - 1) = n - 1 := by rw [IntKind.wrap_i64]; omega
    have hkey := key_cases x hx
    by_cases h2 : keyN x ≤ 0
    · rw [if_pos h2]
      have d1 : decide (kindN x < 5) = true := by simp; omega
      generalize kindN x = k at *
      clear h1 h2 hkey
      go_enter Try.func10, Try.ntmps10
      go_wp2_with fail
      refine (hK _).mono ?_; rintro e w1 ⟨rfl, k1, rfl⟩
      go_wp2_with fail
      go_ret
      exact ⟨rfl, k1, rfl⟩
    · rw [if_neg h2]
      have d1 : decide (kindN x < 5) = false := by simp; omega
      by_cases h6 : kindN x = 6
      · have d2 : (kindN x == 6) = true := by simpa using h6
        rw [if_pos (by omega)]
        generalize kindN x = k at *
        clear h1 h2 hkey h6
        go_enter Try.func10, Try.ntmps10
        go_wp2_with fail
        refine (hK _).mono ?_; rintro e w1 ⟨rfl, k1, rfl⟩
        go_wp2_with fail
        go_ret
        exact ⟨rfl, k1, rfl⟩
      · have d2 : (kindN x == 6) = false := by simpa using h6
        have hr : 0 < x ∧ x < 9218868437227405312 := by have := kind_cases x hx; omega
        obtain ⟨t1, t2⟩ := one_tests x hr.1 hr.2
        have hkx := key_pos x hr.2
        generalize kindN x = k at *
        by_cases h3 : 4607182418800017408 ≤ keyN x
        · rw [if_pos h3]
          by_cases h4 : x = 4607182418800017408
          · rw [decide_eq_true h4] at t2
            rw [decide_eq_false (by omega)] at t1
            clear h1 h2 hkey h6 hr hkx h3 h4
            go_enter Try.func10, Try.ntmps10
            go_wp2_with fail
            refine (hK _).mono ?_; rintro e w1 ⟨rfl, k1, rfl⟩
            go_wp2_with fail
            go_ret
            exact ⟨rfl, k1, rfl⟩
          · rw [decide_eq_false h4] at t2
            rw [decide_eq_true (by omega)] at t1
            clear h1 h2 hkey h6 hr hkx h3 h4
            go_enter Try.func10, Try.ntmps10
            go_wp2_with fail
            refine (hK _).mono ?_; rintro e w1 ⟨rfl, k1, rfl⟩
            go_wp2_with fail
            go_ret
            exact ⟨rfl, k1, rfl⟩
        · rw [if_neg h3]
          rw [decide_eq_false (by omega)] at t1
          rw [decide_eq_false (by omega)] at t2
          obtain ⟨f1, f2⟩ := at_facts n x (by omega) hn2 (by omega)
          have hop := fun (w : World) => run_float_arith (P := Try.prog) w .mul 22 .f64 _ _ _ f1
          have hcv := fun (w : World) => run_convert_float_int (P := Try.prog) w 22 3 .f64 .i64 _ _ (by rw [Try.underlying22]; rfl) Try.underlying3 f2
          generalize mulW x (floatOfInt .f64 n) = y at *
          generalize hz : floatOfInt .f64 n = z at *
          generalize ((wholeW y : Nat) : Int) = W at *
          clear h1 h2 h3 h6 f1 f2 hkey hr hkx
          by_cases h5 : n - 1 < W
          · rw [if_pos h5]
            have d5 : decide (n - 1 < W) = true := by simpa using h5
            clear h5
            go_enter Try.func10, Try.ntmps10
            go_wp2_with fail
            refine (hK _).mono ?_; rintro e w1 ⟨rfl, k1, rfl⟩
            go_wp2_with fail
            go_ret
            exact ⟨rfl, k1, rfl⟩
          · rw [if_neg h5]
            have d5 : decide (n - 1 < W) = false := by simpa using h5
            clear h5
            go_enter Try.func10, Try.ntmps10
            go_wp2_with fail
            refine (hK _).mono ?_; rintro e w1 ⟨rfl, k1, rfl⟩
            go_wp2_with fail
            go_ret
            exact ⟨rfl, k1, rfl⟩

/-! ### Worth -/
/-- Is it worth it? -/
def worthB (full most : Int) (b : Nat) : Bool := !nanB b && decide (keyN (ratioW full most) ≤ keyN b)
theorem worth_any (full most : Int) (b : Nat) (hb : b < 18446744073709551616) (w : World) :
    Calls Try.prog 16 #[.int .i64 full, .int .i64 most, .int .u64 b] w (RetQ (.bool (worthB full most b)) w) := by
  have hR := fun w => ratio_any full most w
  have hl := ratioW_lt full most
  have k0 := ordN_nonpos (ratioW full most) b
  unfold worthB
  rw [← k0]
  generalize ratioW full most = r at *
  have hO := fun w => order_any r b hl hb w
  have hN := fun w => isNaN_any b hb w
  generalize ordN r b = o at *
  clear k0
  cases hn : nanB b
  · rw [hn] at hN
    go_enter Try.func16, Try.ntmps16
    go_wp2_with fail
    refine (from_any _ _).mono ?_; rintro e w' ⟨rfl, rfl⟩
    go_wp2_with fail
    refine (hN _).mono ?_; rintro e w' ⟨rfl, rfl⟩
    go_wp2_with fail
    refine (hR _).mono ?_; rintro e w1 ⟨rfl, k1, rfl⟩
    go_wp2_with fail
    refine (hO _).mono ?_; rintro e w2 ⟨rfl, h2⟩
    subst h2
    go_wp2_with fail
    go_ret
    exact ⟨by simp, k1, rfl⟩
  · rw [hn] at hN
    clear hR hO
    go_enter Try.func16, Try.ntmps16
    go_wp2_with fail
    refine (from_any _ _).mono ?_; rintro e w' ⟨rfl, rfl⟩
    go_wp2_with fail
    refine (hN _).mono ?_; rintro e w' ⟨rfl, rfl⟩
    go_wp2_with fail
    go_ret
    exact ⟨rfl, 0, rfl⟩

set_option maxHeartbeats 2000000 in
theorem rworth_any (full most : Int) (b : Nat) (hb : b < 18446744073709551616) (w : World) :
    Calls Try.prog 17 #[.int .i64 full, .int .i64 most, .int .u64 b] w (RetQ (.bool (worthB full most b)) w) := by
  have hF := fun w => rfrom_any b hb w
  unfold worthB
  cases hn : nanB b
  · rw [hn] at hF
    have hF2 : ∀ w, Calls Try.prog 29 #[.int .u64 b] w fun e w' => e = .returned (.tuple #[.float .f64 b, .bool true]) ∧ w' = w := hF
    clear hF
    cases hq : floatBits .quo .f64 (floatOfInt .f64 full) (floatOfInt .f64 most) with
    | none =>
      have e0 : ratioW full most = 9221120237041090560 := by unfold ratioW; rw [hq]
      have hop := fun (w : World) => run_float_none (P := Try.prog) w .quo (Or.inr rfl) 22 _ _ hq
      have hop1 := hop w
      have ht := nanT_nan (w.tape w.drawn (.nanBits .f64 (floatOfInt .f64 full) (floatOfInt .f64 most)))
      have hl := nanT_lt (w.tape w.drawn (.nanBits .f64 (floatOfInt .f64 full) (floatOfInt .f64 most)))
      clear hop
      rw [e0, key_nan (show nanB 9221120237041090560 = true by decide), ← key_nan ht]
      generalize hx : floatOfInt .f64 full = x at *
      generalize hy : floatOfInt .f64 most = y at *
      generalize nanT (w.tape w.drawn (.nanBits .f64 x y)) = z at *
      rw [← ordN_nonpos z b]
      have hO := fun w => rorder_any z b hl hb w
      generalize ordN z b = o at *
      clear ht hl hq e0
      go_enter Try.func17, Try.ntmps17
      go_wp2_with fail
      refine (hF2 _).mono ?_; rintro e w' ⟨rfl, rfl⟩
      go_wp2_with fail
      refine (hO _).mono ?_; rintro e w2 ⟨rfl, k2, rfl⟩
      go_wp2_with fail
      go_ret
      exact ⟨by simp, 1 + k2, by first | rfl | rw [World.drewN_drewN]⟩
    | some r =>
      have e0 : ratioW full most = r := by unfold ratioW; rw [hq]
      have hop := fun (w : World) => run_float_arith (P := Try.prog) w .quo 22 .f64 _ _ _ hq
      have hl := quo_lt hq
      rw [e0]
      generalize hx : floatOfInt .f64 full = x at *
      generalize hy : floatOfInt .f64 most = y at *
      rw [← ordN_nonpos r b]
      have hO := fun w => rorder_any r b hl hb w
      generalize ordN r b = o at *
      clear hl hq e0
      go_enter Try.func17, Try.ntmps17
      go_wp2_with fail
      refine (hF2 _).mono ?_; rintro e w' ⟨rfl, rfl⟩
      go_wp2_with fail
      refine (hO _).mono ?_; rintro e w2 ⟨rfl, k2, rfl⟩
      go_wp2_with fail
      go_ret
      exact ⟨by simp, k2, rfl⟩
  · rw [hn] at hF
    have hF2 : ∀ w, Calls Try.prog 29 #[.int .u64 b] w fun e w' => e = .returned (.tuple #[.float .f64 0, .bool false]) ∧ w' = w := hF
    clear hF
    go_enter Try.func17, Try.ntmps17
    go_wp2_with fail
    refine (hF2 _).mono ?_; rintro e w' ⟨rfl, rfl⟩
    go_wp2_with fail
    go_ret
    exact ⟨rfl, 0, rfl⟩

end Go.Proofs.Ytjceaaononbliaa
