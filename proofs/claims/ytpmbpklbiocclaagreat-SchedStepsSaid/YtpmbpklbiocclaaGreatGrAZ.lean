/-
  Texts of this claim joined: Real2, Real3, RealE.
-/
import Derived.Test.YtpmbpklbiocclaaGreatGrAX
import Derived.Test.YtpmbpklbiocclaaGreatGrBE

namespace Go.Proofs.YtpmbpklbiocclaaGreat
open Go.RowKit

theorem isNaNIr_any (x : Int) (w : World) : Calls Tryz.prog 125 #[.int .i64 x] w fun e w' => e = .returned (.bool false) ∧ w' = w := by
  have e1 : (x != x) = false := by simp
  go_enter Tryz.func125, Tryz.ntmps125
  go_wp2_with fail
  go_ret
  exact ⟨by first | rfl | rw [e1], rfl⟩
theorem isNaNF_any (x : Nat) (hx : x < 18446744073709551616) (w : World) :
    Calls Tryz.prog 129 #[.float .f64 x] w fun e w' => e = .returned (.bool (nanB x)) ∧ w' = w := by
  have e1 := f_ne hx hx
  rw [eqF_self, Bool.not_not] at e1
  go_enter Tryz.func129, Tryz.ntmps129
  go_wp2_with fail
  go_ret
  exact ⟨rfl, rfl⟩
theorem cmpIntR_any (x y : Int) (w : World) : Calls Tryz.prog 93 #[.int .i64 x, .int .i64 y] w fun e w' => e = .returned (.int .i64 (cmpI x y)) ∧ w' = w := by
  unfold cmpI
  by_cases h1 : x < y
  · rw [if_pos h1]
    have d1 : decide (x < y) = true := by simpa using h1
    clear h1
    go_enter Tryz.func93, Tryz.ntmps93
    go_wp2_with (go_at_call 125; refine (isNaNIr_any _ _).mono ?_; rintro _ _ ⟨rfl, rfl⟩)
    go_ret
    exact ⟨rfl, rfl⟩
  · rw [if_neg h1]
    have d1 : decide (x < y) = false := by simpa using h1
    clear h1
    by_cases h2 : y < x
    · rw [if_pos h2]
      have d2 : decide (y < x) = true := by simpa using h2
      clear h2
      go_enter Tryz.func93, Tryz.ntmps93
      go_wp2_with (go_at_call 125; refine (isNaNIr_any _ _).mono ?_; rintro _ _ ⟨rfl, rfl⟩)
      go_ret
      exact ⟨rfl, rfl⟩
    · rw [if_neg h2]
      have d2 : decide (y < x) = false := by simpa using h2
      clear h2
      go_enter Tryz.func93, Tryz.ntmps93
      go_wp2_with (go_at_call 125; refine (isNaNIr_any _ _).mono ?_; rintro _ _ ⟨rfl, rfl⟩)
      go_ret
      exact ⟨rfl, rfl⟩
set_option maxHeartbeats 1600000 in
theorem cmpF_any (x y : Nat) (hx : x < 18446744073709551616) (hy : y < 18446744073709551616) (w : World) : Calls Tryz.prog 95 #[.float .f64 x, .float .f64 y] w fun e w' => e = .returned (.int .i64 (cmpF x y)) ∧ w' = w := by
  have e1 := f_lt hx hy
  have e2 := f_gt hx hy
  unfold cmpF
  cases n1 : nanB x <;> cases n2 : nanB y
  · cases l1 : ltF x y
    · rw [l1] at e1
      cases l2 : ltF y x
      · rw [l2] at e2
        go_enter Tryz.func95, Tryz.ntmps95; go_wp2_with (go_at_call 129; refine (isNaNF_any _ (by assumption) _).mono ?_; rintro _ _ ⟨rfl, rfl⟩); go_ret; exact ⟨rfl, rfl⟩
      · rw [l2] at e2
        go_enter Tryz.func95, Tryz.ntmps95; go_wp2_with (go_at_call 129; refine (isNaNF_any _ (by assumption) _).mono ?_; rintro _ _ ⟨rfl, rfl⟩); go_ret; exact ⟨rfl, rfl⟩
    · rw [l1] at e1
      clear e2
      go_enter Tryz.func95, Tryz.ntmps95; go_wp2_with (go_at_call 129; refine (isNaNF_any _ (by assumption) _).mono ?_; rintro _ _ ⟨rfl, rfl⟩); go_ret; exact ⟨rfl, rfl⟩
  all_goals
    clear e1 e2
    go_enter Tryz.func95, Tryz.ntmps95; go_wp2_with (go_at_call 129; refine (isNaNF_any _ (by assumption) _).mono ?_; rintro _ _ ⟨rfl, rfl⟩); go_ret; exact ⟨rfl, rfl⟩

set_option maxHeartbeats 1600000 in
theorem order_any (x y : Nat) (hx : x < 18446744073709551616) (hy : y < 18446744073709551616) (w : World) :
    Calls Tryz.prog 63 #[.float .f64 x, .float .f64 y] w fun e w' => e = .returned (.int .i64 (ordN x y)) ∧ w' = w := by
  by_cases h : cmpI (kindN x) (kindN y) = 0
  · have hv := Lib.hid (ord_value x y hx hy h)
    obtain ⟨c, hc⟩ : ∃ c, cmpI (kindN x) (kindN y) = c := ⟨_, rfl⟩
    rw [hc] at h
    subst h
    have d1 : ((0 : Int) != 0) = false := by simp
    go_enter Tryz.func63, Tryz.ntmps63
    go_wp2_with (first | (go_at_call 94; refine (kind_any _ (by assumption) _).mono ?_; rintro _ _ ⟨rfl, rfl⟩) | (go_at_call 93; refine (cmpIntR_any _ _ _).mono ?_; rintro _ _ ⟨rfl, rfl⟩; rw [hc]) | (go_at_call 95; refine (cmpF_any x y hx hy _).mono ?_; rintro _ _ ⟨rfl, rfl⟩))
    go_ret
    exact ⟨by rw [← hv.out]; rfl, rfl⟩
  · have hv := Lib.hid (ord_kind x y hx hy h)
    obtain ⟨c, hc⟩ : ∃ c, cmpI (kindN x) (kindN y) = c := ⟨_, rfl⟩
    have d1 : (c != 0) = true := by rw [← hc]; simpa using h
    clear h
    go_enter Tryz.func63, Tryz.ntmps63
    go_wp2_with (first | (go_at_call 94; refine (kind_any _ (by assumption) _).mono ?_; rintro _ _ ⟨rfl, rfl⟩) | (go_at_call 93; refine (cmpIntR_any _ _ _).mono ?_; rintro _ _ ⟨rfl, rfl⟩; rw [hc]))
    go_ret
    exact ⟨by rw [← hv.out, hc]; rfl, rfl⟩

end Go.Proofs.YtpmbpklbiocclaaGreat

namespace Go.Proofs.YtpmbpklbiocclaaGreat
open Go.RowKit

def Dr (w w' : World) : Prop := ∃ k, w' = w.drewN k
theorem Dr.refl (w : World) : Dr w w := ⟨0, rfl⟩
theorem Dr.trans {a b c : World} (h : Dr a b) (k : Dr b c) : Dr a c := by
  obtain ⟨m, rfl⟩ := h
  obtain ⟨n, rfl⟩ := k
  exact ⟨m + n, by rw [World.drewN_drewN]⟩
theorem Dr.below {a b : World} (h : Dr a b) : Below a.heap.size a b := by
  obtain ⟨m, rfl⟩ := h
  exact bdrew a m

theorem fromR_any (x : Nat) (w : World) : Calls Tryz.prog 31 #[.int .u64 x] w fun e w' => e = .returned (.float .f64 x) ∧ w' = w := by
  have e1 := Tryz.callFrom x
  go_enter Tryz.func31, Tryz.ntmps31
  go_wp2_with fail
  go_ret
  exact ⟨rfl, rfl⟩


theorem rnought_any (x : Nat) (h : x = 0 ∨ x = 9223372036854775808) (w : World) : Calls Tryz.prog 110 #[.float .f64 x] w fun e w' => e = .returned (.int .i64 (kindN x)) ∧ w' = w := by
  rcases h with rfl | rfl
  · have hop := fun (w : World) => run_float_arith (P := Tryz.prog) w .quo 77 .f64 _ _ _ one_by_nought
    have e1 : (FloatKind.f64.format.order 9218868437227405312 0 == some .lt) = false := by decide +kernel
    have e2 : kindN 0 = 4 := by decide
    rw [e2]
    go_enter Tryz.func110, Tryz.ntmps110
    go_wp2_with fail
    go_ret
    exact ⟨rfl, rfl⟩
  · have hop := fun (w : World) => run_float_arith (P := Tryz.prog) w .quo 77 .f64 _ _ _ one_by_minus
    have e1 : (FloatKind.f64.format.order 18442240474082181120 0 == some .lt) = true := by decide +kernel
    have e2 : kindN 9223372036854775808 = 3 := by decide
    rw [e2]
    go_enter Tryz.func110, Tryz.ntmps110
    go_wp2_with fail
    go_ret
    exact ⟨rfl, rfl⟩

set_option maxHeartbeats 1600000 in
theorem rkind_any (x : Nat) (hx : x < 18446744073709551616) (w : World) : Calls Tryz.prog 87 #[.float .f64 x] w (RetQ (.int .i64 (kindN x)) w) := by
  have en := f_ne hx hx
  rw [eqF_self, Bool.not_not] at en
  rcases kind_cases x hx with ⟨hn, hk⟩ | ⟨hn, h1, hk⟩ | ⟨hn, h1, h2, hk⟩ | ⟨hn, h1, hk⟩ | ⟨hn, h1, hk⟩ | ⟨hn, h1, h2, hk⟩ | ⟨hn, h1, hk⟩
  · rw [hk]
    rw [hn] at en
    go_enter Tryz.func87, Tryz.ntmps87
    go_wp2_with fail
    go_ret
    exact ⟨rfl, 0, rfl⟩
  all_goals
    obtain ⟨t1, t2⟩ := kind_tests x hx hn
    rw [hn] at en
  · have hm : x % 9223372036854775808 = 9218868437227405312 := by omega
    have hop := run_float_none (P := Tryz.prog) w .sub (Or.inl rfl) 77 x x (sub_self_inf x hx hm)
    have hz := nanT_nan (w.tape w.drawn (.nanBits .f64 x x))
    have hzl := nanT_lt (w.tape w.drawn (.nanBits .f64 x x))
    generalize nanT (w.tape w.drawn (.nanBits .f64 x x)) = z at *
    have e5 := f_ne hzl (show 0 < 18446744073709551616 by decide)
    rw [eqF_nan z 0 hz, Bool.not_false] at e5
    rw [decide_eq_true (by omega)] at t1
    rw [decide_eq_false (by omega)] at t2
    rw [hk]
    clear h1 hm
    go_enter Tryz.func87, Tryz.ntmps87
    go_wp2_with fail
    go_ret
    exact ⟨rfl, 1, rfl⟩
  · have hop := fun (w : World) => run_float_arith (P := Tryz.prog) w .sub 77 .f64 _ _ _ (sub_self_num x hx (by omega))
    have e5 : (FloatKind.f64.format.order 0 0 != some .eq) = false := by decide +kernel
    rw [decide_eq_true (by omega)] at t1
    rw [decide_eq_false (by omega)] at t2
    rw [hk]
    clear h1 h2
    go_enter Tryz.func87, Tryz.ntmps87
    go_wp2_with fail
    go_ret
    exact ⟨rfl, 0, rfl⟩
  · rw [decide_eq_false (by omega)] at t1
    rw [decide_eq_true (by omega)] at t2
    have hN := fun w => rnought_any x (Or.inr h1) w
    rw [hk] at hN ⊢
    clear h1
    go_enter Tryz.func87, Tryz.ntmps87
    go_wp2_with fail
    refine (hN _).mono ?_; rintro e w' ⟨rfl, rfl⟩
    go_wp2_with fail
    go_ret
    exact ⟨rfl, 0, rfl⟩
  · rw [decide_eq_false (by omega)] at t1
    rw [decide_eq_true (by omega)] at t2
    have hN := fun w => rnought_any x (Or.inl h1) w
    rw [hk] at hN ⊢
    clear h1
    go_enter Tryz.func87, Tryz.ntmps87
    go_wp2_with fail
    refine (hN _).mono ?_; rintro e w' ⟨rfl, rfl⟩
    go_wp2_with fail
    go_ret
    exact ⟨rfl, 0, rfl⟩
  · have hop := fun (w : World) => run_float_arith (P := Tryz.prog) w .sub 77 .f64 _ _ _ (sub_self_num x hx (by omega))
    have e5 : (FloatKind.f64.format.order 0 0 != some .eq) = false := by decide +kernel
    rw [decide_eq_false (by omega)] at t1
    rw [decide_eq_false (by omega)] at t2
    rw [hk]
    clear h1 h2
    go_enter Tryz.func87, Tryz.ntmps87
    go_wp2_with fail
    go_ret
    exact ⟨rfl, 0, rfl⟩
  · have hm : x % 9223372036854775808 = 9218868437227405312 := by omega
    have hop := run_float_none (P := Tryz.prog) w .sub (Or.inl rfl) 77 x x (sub_self_inf x hx hm)
    have hz := nanT_nan (w.tape w.drawn (.nanBits .f64 x x))
    have hzl := nanT_lt (w.tape w.drawn (.nanBits .f64 x x))
    generalize nanT (w.tape w.drawn (.nanBits .f64 x x)) = z at *
    have e5 := f_ne hzl (show 0 < 18446744073709551616 by decide)
    rw [eqF_nan z 0 hz, Bool.not_false] at e5
    rw [decide_eq_false (by omega)] at t1
    rw [decide_eq_false (by omega)] at t2
    rw [hk]
    clear h1 hm
    go_enter Tryz.func87, Tryz.ntmps87
    go_wp2_with fail
    go_ret
    exact ⟨rfl, 1, rfl⟩


end Go.Proofs.YtpmbpklbiocclaaGreat

namespace Go.Proofs.YtpmbpklbiocclaaGreat
open Ieee

theorem log2_lt53 {m : Nat} (h : m < 9007199254740992) : m.log2 < 53 := by
  rcases Nat.eq_zero_or_pos m with h0 | h0
  · rw [h0]; decide
  · exact (Nat.log2_lt (by omega)).2 (by rw [show (2 : Nat) ^ 53 = 9007199254740992 by decide]; exact h)

theorem half_two (V : Nat) (hf : fits (V * 2)) (hf2 : fits V) (h : encV (V * 2) < 9218868437227405312) (hV : encV V ≤ 9218868437227405312) :
    floatBits .quo .f64 (encV (V * 2)) 4611686018427387904 = some (encV V) := by
  have hs : floatBits .quo .f64 (encV (V * 2)) 4611686018427387904 = ((double.read (encV (V * 2))).quotient 54 (double.read 4611686018427387904)).map double.write := by
    unfold floatBits Format.div FloatKind.format
    simp only
    rfl
  rw [hs, read_pos _ h, read_two]
  have hv := vl_enc (V * 2) hf
  obtain ⟨r, hr⟩ : ∃ r, encV (V * 2) = r := ⟨_, rfl⟩
  rw [hr] at h hv ⊢
  obtain ⟨a, ha⟩ : ∃ a, r / 4503599627370496 - 1 = a := ⟨_, rfl⟩
  have hml := mg_lt r
  obtain ⟨m, hm⟩ : ∃ m, mg r = m := ⟨_, rfl⟩
  unfold vl at hv
  rw [hm] at hml
  rw [ha, hm] at hv
  rw [ha, hm]
  have hl := log2_lt53 hml
  have hb : (4503599627370496 : Nat).log2 = 52 := by decide
  obtain ⟨k, hk⟩ : ∃ k, 54 + 52 - m.log2 = k := ⟨_, rfl⟩
  have hk54 : 54 ≤ k := by omega
  have e1 : m <<< k = 4503599627370496 * (m * 2 ^ (k - 52)) := by
    rw [Nat.shiftLeft_eq, b_pow, Nat.mul_left_comm, ← Nat.pow_add, show 52 + (k - 52) = k by omega]
  have e2 : 4503599627370496 * (m * 2 ^ (k - 52)) / 4503599627370496 = m * 2 ^ (k - 52) := Nat.mul_div_cancel_left _ (by omega)
  have e3 : 4503599627370496 * (m * 2 ^ (k - 52)) % 4503599627370496 = 0 := Nat.mul_mod_right _ _
  simp only [Datum.quotient, hb, hk, e1, e2, e3]
  rw [if_neg (by omega)]
  simp only [Option.map_some, Format.write]
  congr 1
  rw [show (false ^^ false) = false from rfl, show (0 != 0 : Bool).toNat = 0 from rfl, Nat.add_zero]
  have e4 : 2 * (m * 2 ^ (k - 52)) = m * 2 ^ (k - 51) := by
    rw [Nat.mul_left_comm, ← Nat.pow_succ', show (k - 52).succ = k - 51 by omega]
  rw [e4]
  by_cases h0 : V = 0
  · have hm0 : m = 0 := by
      rw [h0, Nat.zero_mul] at hv
      rcases Nat.mul_eq_zero.1 hv with h | h
      · exact h
      · exact absurd h (Nat.ne_of_gt (Nat.two_pow_pos _))
    rw [hm0, Nat.zero_mul, nearest_zero, d_word_pos, h0, encV_zero]
  · have hp : ((-1074 + (a : Int)) - -51 - (k : Int) - 1) = -1074 + (a : Int) + 50 - k := by omega
    rw [hp]
    -- V * 2 = m * 2 ^ a
    by_cases hak : k ≤ a + 50
    · have e5 : m * 2 ^ (k - 51) * 2 ^ (a + 50 - k) = V := by
        have h2 : 2 * (m * 2 ^ (k - 51) * 2 ^ (a + 50 - k)) = 2 * V := by
          rw [Nat.mul_assoc m, ← Nat.pow_add, Nat.mul_left_comm, ← Nat.pow_succ', show (k - 51 + (a + 50 - k)).succ = a by omega, hv, Nat.mul_comm]
        exact Nat.eq_of_mul_eq_mul_left (by omega) h2
      have e6 : -1074 + (a : Int) + 50 - k = -1074 + ((a + 50 - k : Nat) : Int) := by omega
      have hn : m * 2 ^ (k - 51) ≠ 0 := by
        intro h
        rw [h, Nat.zero_mul] at e5
        omega
      rw [e6, nearest_high false _ _ hn (by rw [e5]; exact hf2), e5, d_word_pos, Nat.min_eq_left hV]
    · have e5 : m * 2 ^ (k - 51) = V * 2 ^ (k - 50 - a) := by
        have h2 : 2 * (m * 2 ^ (k - 51)) = 2 * (V * 2 ^ (k - 50 - a)) := by
          rw [Nat.mul_left_comm, ← Nat.pow_succ', ← Nat.mul_assoc, Nat.mul_comm 2 V, ← hv, Nat.mul_assoc, ← Nat.pow_add, show (k - 51).succ = a + (k - 50 - a) by omega]
        exact Nat.eq_of_mul_eq_mul_left (by omega) h2
      have e6 : -1074 + (a : Int) + 50 - k = -1074 - ((k - 50 - a : Nat) : Int) := by omega
      rw [e6, e5, nearest_low false _ _ h0 hf2, d_word_pos, Nat.min_eq_left hV]

theorem ofNat_enc (p : Nat) (h : p < 9007199254740992) : floatOfInt .f64 (p : Int) = encV (p * 2 ^ 1074) := by
  have hs : floatOfInt .f64 (p : Int) = double.nearest false p 0 := by
    unfold floatOfInt FloatKind.nearest FloatKind.encode FloatKind.format Format.write
    simp only
    rw [show decide ((p : Int) < 0) = false by simp, Int.natAbs_natCast]
  rw [hs]
  rcases Nat.eq_zero_or_pos p with h0 | h0
  · rw [h0, nearest_zero, d_word_pos]
    generalize (2 : Nat) ^ 1074 = T
    rw [Nat.zero_mul, encV_zero]
  · have e : (0 : Int) = -1074 + ((1074 : Nat) : Int) := by omega
    rw [e, nearest_high false p 1074 (by omega) (fits_pow p 1074 h), d_word_pos, Nat.min_eq_left]
    have := encV_lt p 1074 h
    omega
theorem read_top : double.read 4841369599423283200 = .number false 4503599627370496 0 := by decide +kernel
theorem add_top (p : Nat) (h : p < 4503599627370496) : floatBits .add .f64 (encV (p * 2 ^ 1074)) 4841369599423283200 = some (encV ((4503599627370496 + p) * 2 ^ 1074)) := by
  have hs : floatBits .add .f64 (encV (p * 2 ^ 1074)) 4841369599423283200 = ((double.read (encV (p * 2 ^ 1074))).sum (double.read 4841369599423283200)).map double.write := by
    unfold floatBits Format.add FloatKind.format
    simp only
  have hb := encV_lt p 1074 (by omega)
  rw [hs, read_pos _ (by omega), read_top]
  obtain ⟨r, hr⟩ : ∃ r, encV (p * 2 ^ 1074) = r := ⟨_, rfl⟩
  obtain ⟨a, ha⟩ : ∃ a, r / 4503599627370496 - 1 = a := ⟨_, rfl⟩
  obtain ⟨m, hm⟩ : ∃ m, mg r = m := ⟨_, rfl⟩
  obtain ⟨c, hc⟩ : ∃ c, min a 1074 = c := ⟨_, rfl⟩
  have s1 : a - c + c = a := Nat.sub_add_cancel (by rw [← hc]; exact Nat.min_le_left _ _)
  have s2 : 1074 - c + c = 1074 := Nat.sub_add_cancel (by rw [← hc]; exact Nat.min_le_right _ _)
  have hv := vl_enc _ (fits_pow p 1074 (show p < 9007199254740992 by omega))
  rw [hr] at hv ⊢
  unfold vl at hv
  rw [ha, hm] at hv
  rw [ha, hm]
  have e0 : min (-1074 + (a : Int)) 0 = -1074 + (c : Int) := by omega
  simp only [Datum.sum, Option.map_some, Format.write, e0, signed_eq]
  congr 1
  have t1 : ((-1074 + (a : Int)) - (-1074 + (c : Int))).toNat = a - c := by omega
  have t2 : ((0 : Int) - (-1074 + (c : Int))).toNat = 1074 - c := by omega
  rw [t1, t2]
  simp only [Bool.false_eq_true, if_false]
  obtain ⟨X, hX⟩ : ∃ X, m * 2 ^ (a - c) = X := ⟨_, rfl⟩
  obtain ⟨Y, hY⟩ : ∃ Y, 4503599627370496 * 2 ^ (1074 - c) = Y := ⟨_, rfl⟩
  rw [hX, hY]
  have hY0 : 0 < Y := by rw [← hY]; exact Nat.mul_pos (by omega) (Nat.two_pow_pos _)
  have e7 : ((X : Int) + (Y : Int)).natAbs = X + Y := by omega
  rw [if_neg (by omega), decide_eq_false (by omega), e7]
  have e8 : (X + Y) * 2 ^ c = (4503599627370496 + p) * 2 ^ 1074 := by
    rw [Nat.add_mul, Nat.add_mul, ← hX, ← hY, Nat.mul_assoc, Nat.mul_assoc, ← Nat.pow_add, ← Nat.pow_add, s1, s2, hv]
    generalize (2 : Nat) ^ 1074 = T
    rw [Nat.add_comm]
  have hf := fits_pow (4503599627370496 + p) 1074 (by omega)
  have h4 := encV_lt (4503599627370496 + p) 1074 (by omega)
  rw [nearest_high false (X + Y) c (by omega) (by rw [e8]; exact hf), e8, d_word_pos, Nat.min_eq_left (by omega)]

theorem enc_parts (up part : Nat) (h : part < 4503599627370496) : encV ((if 0 < up then 4503599627370496 + part else part) * 2 ^ ((if 0 < up then up else 1) - 1)) = up * 4503599627370496 + part := by
  by_cases h0 : 0 < up
  · rw [if_pos h0, if_pos h0]
    have hl : (4503599627370496 + part).log2 = 52 := by
      have h1 : (4503599627370496 + part).log2 < 53 := log2_lt53 (by omega)
      have h2 : 52 ≤ (4503599627370496 + part).log2 := (Nat.le_log2 (by omega)).2 (by rw [← b_pow]; omega)
      omega
    unfold encV
    rw [log2_mul_pow _ _ (by omega), hl, show 52 + (up - 1) - 52 = up - 1 by omega, Nat.mul_div_cancel _ (Nat.two_pow_pos _)]
    omega
  · rw [if_neg h0, if_neg h0, Nat.sub_self, Nat.pow_zero, Nat.mul_one, show up = 0 by omega, Nat.zero_mul, Nat.zero_add]
    unfold encV
    have hl : part.log2 < 52 ∨ part = 0 := by
      rcases Nat.eq_zero_or_pos part with h1 | h1
      · exact Or.inr h1
      · exact Or.inl ((Nat.log2_lt (by omega)).2 (by rw [← b_pow]; exact h))
    have hl2 : part.log2 - 52 = 0 := by
      rcases hl with h1 | h1
      · omega
      · rw [h1]; decide
    rw [hl2, Nat.zero_mul, Nat.zero_add, Nat.pow_zero, Nat.div_one]

end Go.Proofs.YtpmbpklbiocclaaGreat
