/-
  Contracts of package real's Clamp, Bits, From, Ratio, and of the document's Nought, Kind, Order, Same, Clamp.
-/
import Derived.Test.YtjceaaononbliaaReal2
import Derived.Test.YtjceaaononbliaaRealD
namespace Go.Proofs.Ytjceaaononbliaa
open Go.RowKit

/-- The world is as it was, but for what was drawn. -/
def Dr (w w' : World) : Prop := ∃ k, w' = w.drewN k
theorem Dr.refl (w : World) : Dr w w := ⟨0, rfl⟩
theorem Dr.trans {a b c : World} (h : Dr a b) (k : Dr b c) : Dr a c := by
  obtain ⟨m, rfl⟩ := h
  obtain ⟨n, rfl⟩ := k
  exact ⟨m + n, by rw [World.drewN_drewN]⟩
theorem Dr.below {a b : World} (h : Dr a b) : Below a.heap.size a b := by
  obtain ⟨m, rfl⟩ := h
  exact bdrew a m

theorem bits_any (x : Nat) (hx : x < 18446744073709551616) (w : World) :
    Calls Try.prog 37 #[.float .f64 x] w fun e w' => e = .returned (.int .u64 (canonW x)) ∧ w' = w := by
  unfold canonW
  have e1 := Try.callBits x
  cases n : nanB x
  · go_enter Try.func37, Try.ntmps37
    go_wp2_with (go_at_call 28; refine (isNaN_any _ (by assumption) _).mono ?_; rintro _ _ ⟨rfl, rfl⟩)
    go_ret
    exact ⟨rfl, rfl⟩
  · go_enter Try.func37, Try.ntmps37
    go_wp2_with (go_at_call 28; refine (isNaN_any _ (by assumption) _).mono ?_; rintro _ _ ⟨rfl, rfl⟩)
    go_ret
    exact ⟨rfl, rfl⟩
theorem from_any (x : Nat) (w : World) : Calls Try.prog 19 #[.int .u64 x] w fun e w' => e = .returned (.float .f64 x) ∧ w' = w := by
  have e1 := Try.callFrom x
  go_enter Try.func19, Try.ntmps19
  go_wp2_with fail
  go_ret
  exact ⟨rfl, rfl⟩


theorem ratio_any (n m : Int) (w : World) : Calls Try.prog 22 #[.int .i64 n, .int .i64 m] w (RetQ (.float .f64 (ratioW n m)) w) := by
  cases hq : floatBits .quo .f64 (floatOfInt .f64 n) (floatOfInt .f64 m) with
  | none =>
    have e0 : ratioW n m = 9221120237041090560 := by unfold ratioW; rw [hq]
    have hop := fun (w : World) => run_float_none (P := Try.prog) w .quo (Or.inr rfl) 22 _ _ hq
    have ht := nanT_nan (w.tape w.drawn (.nanBits .f64 (floatOfInt .f64 n) (floatOfInt .f64 m)))
    have hl := nanT_lt (w.tape w.drawn (.nanBits .f64 (floatOfInt .f64 n) (floatOfInt .f64 m)))
    rw [e0]
    generalize hx : floatOfInt .f64 n = x at *
    generalize hy : floatOfInt .f64 m = y at *
    have hop1 := hop w
    clear hop
    generalize nanT (w.tape w.drawn (.nanBits .f64 x y)) = z at *
    have ec : canonW z = 9221120237041090560 := by unfold canonW; rw [ht]; rfl
    go_enter Try.func22, Try.ntmps22
    go_wp2_with fail
    refine (bits_any z hl _).mono ?_; rintro e w' ⟨rfl, rfl⟩
    rw [ec]
    go_wp2_with fail
    refine (from_any _ _).mono ?_; rintro e w' ⟨rfl, rfl⟩
    go_wp2_with fail
    go_ret
    exact ⟨rfl, 1, rfl⟩
  | some r =>
    have e0 : ratioW n m = r := by unfold ratioW; rw [hq]
    have hop := fun (w : World) => run_float_arith (P := Try.prog) w .quo 22 .f64 _ _ _ hq
    have hn := quo_nan hq
    have hl := quo_lt hq
    rw [e0]
    have ec : canonW r = r := by unfold canonW; rw [hn]; rfl
    generalize hx : floatOfInt .f64 n = x at *
    generalize hy : floatOfInt .f64 m = y at *
    go_enter Try.func22, Try.ntmps22
    go_wp2_with fail
    refine (bits_any r hl _).mono ?_; rintro e w' ⟨rfl, rfl⟩
    rw [ec]
    go_wp2_with fail
    refine (from_any _ _).mono ?_; rintro e w' ⟨rfl, rfl⟩
    go_wp2_with fail
    go_ret
    exact ⟨rfl, 0, rfl⟩

/-! ### The document's answers -/
theorem rnought_any (x : Nat) (h : x = 0 ∨ x = 9223372036854775808) (w : World) : Calls Try.prog 36 #[.float .f64 x] w fun e w' => e = .returned (.int .i64 (kindN x)) ∧ w' = w := by
  rcases h with rfl | rfl
  · have hop := fun (w : World) => run_float_arith (P := Try.prog) w .quo 22 .f64 _ _ _ one_by_nought
    have e1 : (FloatKind.f64.format.order 9218868437227405312 0 == some .lt) = false := by decide +kernel
    have e2 : kindN 0 = 4 := by decide
    rw [e2]
    go_enter Try.func36, Try.ntmps36
    go_wp2_with fail
    go_ret
    exact ⟨rfl, rfl⟩
  · have hop := fun (w : World) => run_float_arith (P := Try.prog) w .quo 22 .f64 _ _ _ one_by_minus
    have e1 : (FloatKind.f64.format.order 18442240474082181120 0 == some .lt) = true := by decide +kernel
    have e2 : kindN 9223372036854775808 = 3 := by decide
    rw [e2]
    go_enter Try.func36, Try.ntmps36
    go_wp2_with fail
    go_ret
    exact ⟨rfl, rfl⟩

set_option maxHeartbeats 1600000 in
theorem rkind_any (x : Nat) (hx : x < 18446744073709551616) (w : World) : Calls Try.prog 21 #[.float .f64 x] w (RetQ (.int .i64 (kindN x)) w) := by
  have en := f_ne hx hx
  rw [eqF_self, Bool.not_not] at en
  rcases kind_cases x hx with ⟨hn, hk⟩ | ⟨hn, h1, hk⟩ | ⟨hn, h1, h2, hk⟩ | ⟨hn, h1, hk⟩ | ⟨hn, h1, hk⟩ | ⟨hn, h1, h2, hk⟩ | ⟨hn, h1, hk⟩
  · rw [hk]
    rw [hn] at en
    go_enter Try.func21, Try.ntmps21
    go_wp2_with fail
    go_ret
    exact ⟨rfl, 0, rfl⟩
  all_goals
    obtain ⟨t1, t2⟩ := kind_tests x hx hn
    rw [hn] at en
  · have hm : x % 9223372036854775808 = 9218868437227405312 := by omega
    have hop := run_float_none (P := Try.prog) w .sub (Or.inl rfl) 22 x x (sub_self_inf x hx hm)
    have hz := nanT_nan (w.tape w.drawn (.nanBits .f64 x x))
    have hzl := nanT_lt (w.tape w.drawn (.nanBits .f64 x x))
    generalize nanT (w.tape w.drawn (.nanBits .f64 x x)) = z at *
    have e5 := f_ne hzl (show 0 < 18446744073709551616 by decide)
    rw [eqF_nan z 0 hz, Bool.not_false] at e5
    rw [decide_eq_true (by omega)] at t1
    rw [decide_eq_false (by omega)] at t2
    rw [hk]
    clear h1 hm
    go_enter Try.func21, Try.ntmps21
    go_wp2_with fail
    go_ret
    exact ⟨rfl, 1, rfl⟩
  · have hop := fun (w : World) => run_float_arith (P := Try.prog) w .sub 22 .f64 _ _ _ (sub_self_num x hx (by omega))
    have e5 : (FloatKind.f64.format.order 0 0 != some .eq) = false := by decide +kernel
    rw [decide_eq_true (by omega)] at t1
    rw [decide_eq_false (by omega)] at t2
    rw [hk]
    clear h1 h2
    go_enter Try.func21, Try.ntmps21
    go_wp2_with fail
    go_ret
    exact ⟨rfl, 0, rfl⟩
  · rw [decide_eq_false (by omega)] at t1
    rw [decide_eq_true (by omega)] at t2
    have hN := fun w => rnought_any x (Or.inr h1) w
    rw [hk] at hN ⊢
    clear h1
    go_enter Try.func21, Try.ntmps21
    go_wp2_with fail
    refine (hN _).mono ?_; rintro e w' ⟨rfl, rfl⟩
    go_wp2_with fail
    go_ret
    exact ⟨rfl, 0, rfl⟩
  · rw [decide_eq_false (by omega)] at t1
    rw [decide_eq_true (by omega)] at t2
    have hN := fun w => rnought_any x (Or.inl h1) w
    rw [hk] at hN ⊢
    clear h1
    go_enter Try.func21, Try.ntmps21
    go_wp2_with fail
    refine (hN _).mono ?_; rintro e w' ⟨rfl, rfl⟩
    go_wp2_with fail
    go_ret
    exact ⟨rfl, 0, rfl⟩
  · have hop := fun (w : World) => run_float_arith (P := Try.prog) w .sub 22 .f64 _ _ _ (sub_self_num x hx (by omega))
    have e5 : (FloatKind.f64.format.order 0 0 != some .eq) = false := by decide +kernel
    rw [decide_eq_false (by omega)] at t1
    rw [decide_eq_false (by omega)] at t2
    rw [hk]
    clear h1 h2
    go_enter Try.func21, Try.ntmps21
    go_wp2_with fail
    go_ret
    exact ⟨rfl, 0, rfl⟩
  · have hm : x % 9223372036854775808 = 9218868437227405312 := by omega
    have hop := run_float_none (P := Try.prog) w .sub (Or.inl rfl) 22 x x (sub_self_inf x hx hm)
    have hz := nanT_nan (w.tape w.drawn (.nanBits .f64 x x))
    have hzl := nanT_lt (w.tape w.drawn (.nanBits .f64 x x))
    generalize nanT (w.tape w.drawn (.nanBits .f64 x x)) = z at *
    have e5 := f_ne hzl (show 0 < 18446744073709551616 by decide)
    rw [eqF_nan z 0 hz, Bool.not_false] at e5
    rw [decide_eq_false (by omega)] at t1
    rw [decide_eq_false (by omega)] at t2
    rw [hk]
    clear h1 hm
    go_enter Try.func21, Try.ntmps21
    go_wp2_with fail
    go_ret
    exact ⟨rfl, 1, rfl⟩

theorem ord_kinds (x y : Nat) (hx : x < 18446744073709551616) (hy : y < 18446744073709551616) (h : kindN x ≠ kindN y) : ordN x y = if kindN x < kindN y then -1 else 1 := by
  have h1 : cmpI (kindN x) (kindN y) ≠ 0 := fun e => h (cmpI_zero.1 e)
  rw [← ord_kind x y hx hy h1]
  unfold cmpI
  repeat' split
  all_goals omega
theorem ord_same (x y : Nat) (hx : x < 18446744073709551616) (hy : y < 18446744073709551616) (h : kindN x = kindN y) : ordN x y = if ltF x y then -1 else if ltF y x then 1 else 0 := by
  rw [← ord_value x y hx hy (cmpI_zero.2 h)]
  unfold cmpF
  have h1 := kind_nan x
  have h2 := kind_nan y
  rw [h] at h1
  rw [← h1, ← h2]
  by_cases h3 : kindN y = 0
  · rw [decide_eq_true h3, if_pos rfl, if_pos rfl]
    have h4 : nanB x = true := by rw [← h1]; simpa using h3
    rw [ltF_nan x y h4, ltF_nan' y x h4]
    simp
  · rw [decide_eq_false h3, if_neg (by decide), if_neg (by decide)]

set_option maxHeartbeats 1600000 in
theorem rorder_any (x y : Nat) (hx : x < 18446744073709551616) (hy : y < 18446744073709551616) (w : World) :
    Calls Try.prog 30 #[.float .f64 x, .float .f64 y] w (RetQ (.int .i64 (ordN x y)) w) := by
  have e1 := f_lt hx hy
  have e2 := f_gt hx hy
  have hX := fun w => rkind_any x hx w
  have hY := fun w => rkind_any y hy w
  by_cases h : kindN x = kindN y
  · rw [ord_same x y hx hy h]
    have d0 : (kindN x != kindN y) = false := by simpa using h
    generalize kindN x = k at *
    generalize kindN y = l at *
    clear h
    cases l1 : ltF x y
    · rw [l1] at e1
      cases l2 : ltF y x
      · rw [l2] at e2
        go_enter Try.func30, Try.ntmps30
        go_wp2_with fail
        refine (hX _).mono ?_; rintro e w1 ⟨rfl, k1, rfl⟩
        go_wp2_with fail
        refine (hY _).mono ?_; rintro e w2 ⟨rfl, k2, rfl⟩
        go_wp2_with fail
        go_ret
        exact ⟨rfl, k1 + k2, by first | rfl | rw [World.drewN_drewN]⟩
      · rw [l2] at e2
        go_enter Try.func30, Try.ntmps30
        go_wp2_with fail
        refine (hX _).mono ?_; rintro e w1 ⟨rfl, k1, rfl⟩
        go_wp2_with fail
        refine (hY _).mono ?_; rintro e w2 ⟨rfl, k2, rfl⟩
        go_wp2_with fail
        go_ret
        exact ⟨rfl, k1 + k2, by first | rfl | rw [World.drewN_drewN]⟩
    · rw [l1] at e1
      clear e2
      go_enter Try.func30, Try.ntmps30
      go_wp2_with fail
      refine (hX _).mono ?_; rintro e w1 ⟨rfl, k1, rfl⟩
      go_wp2_with fail
      refine (hY _).mono ?_; rintro e w2 ⟨rfl, k2, rfl⟩
      go_wp2_with fail
      go_ret
      exact ⟨rfl, k1 + k2, by first | rfl | rw [World.drewN_drewN]⟩
  · rw [ord_kinds x y hx hy h]
    have d0 : (kindN x != kindN y) = true := by simpa using h
    generalize kindN x = k at *
    generalize kindN y = l at *
    clear e1 e2
    by_cases h2 : k < l
    · rw [if_pos h2]
      have d1 : decide (k < l) = true := by simpa using h2
      clear h h2
      go_enter Try.func30, Try.ntmps30
      go_wp2_with fail
      refine (hX _).mono ?_; rintro e w1 ⟨rfl, k1, rfl⟩
      go_wp2_with fail
      refine (hY _).mono ?_; rintro e w2 ⟨rfl, k2, rfl⟩
      go_wp2_with fail
      refine (hX _).mono ?_; rintro e w3 ⟨rfl, k3, rfl⟩
      go_wp2_with fail
      refine (hY _).mono ?_; rintro e w4 ⟨rfl, k4, rfl⟩
      go_wp2_with fail
      go_ret
      exact ⟨rfl, k1 + (k2 + (k3 + k4)), by first | rfl | simp only [Nat.add_assoc]⟩
    · rw [if_neg h2]
      have d1 : decide (k < l) = false := by simpa using h2
      clear h h2
      go_enter Try.func30, Try.ntmps30
      go_wp2_with fail
      refine (hX _).mono ?_; rintro e w1 ⟨rfl, k1, rfl⟩
      go_wp2_with fail
      refine (hY _).mono ?_; rintro e w2 ⟨rfl, k2, rfl⟩
      go_wp2_with fail
      refine (hX _).mono ?_; rintro e w3 ⟨rfl, k3, rfl⟩
      go_wp2_with fail
      refine (hY _).mono ?_; rintro e w4 ⟨rfl, k4, rfl⟩
      go_wp2_with fail
      go_ret
      exact ⟨rfl, k1 + (k2 + (k3 + k4)), by first | rfl | simp only [Nat.add_assoc]⟩



end Go.Proofs.Ytjceaaononbliaa
