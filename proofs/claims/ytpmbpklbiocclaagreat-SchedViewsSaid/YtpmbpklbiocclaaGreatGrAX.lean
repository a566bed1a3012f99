/-
  Texts of this claim joined: RealB, Real1.
-/
import Derived.Test.YtpmbpklbiocclaaGreatGrAW
import GoSem.Op.Unary
import Derived.Test.YtpmbpklbiocclaaGreatGrAA
import Derived.Test.YtpmbpklbiocclaaGreatChecked
import Derived.Laws.Externs

/-
  Kinds, the order, turning round, and what a difference of a number from itself is. Plain arithmetic; no program is named here.
-/
namespace Go.Proofs.YtpmbpklbiocclaaGreat
open Ieee

def kindN (x : Nat) : Int :=
  if 9218868437227405312 < x % 9223372036854775808 then 0 else if x = 18442240474082181120 then 1 else if 9223372036854775808 < x then 2 else if x = 9223372036854775808 then 3
  else if x = 0 then 4 else if x = 9218868437227405312 then 6 else 5
def keyN (x : Nat) : Int := if 9218868437227405312 < x % 9223372036854775808 then -18446744073709551616 else if x < 9223372036854775808 then (x : Int) else 9223372036854775807 - (x : Int)
def cmpI (x y : Int) : Int := if x < y then -1 else if y < x then 1 else 0
def ordN (x y : Nat) : Int := cmpI (keyN x) (keyN y)

theorem kind_cases (x : Nat) (hx : x < 18446744073709551616) :
    (nanB x = true ∧ kindN x = 0) ∨
    (nanB x = false ∧ x = 18442240474082181120 ∧ kindN x = 1) ∨
    (nanB x = false ∧ 9223372036854775808 < x ∧ x < 18442240474082181120 ∧ kindN x = 2) ∨
    (nanB x = false ∧ x = 9223372036854775808 ∧ kindN x = 3) ∨
    (nanB x = false ∧ x = 0 ∧ kindN x = 4) ∨
    (nanB x = false ∧ 0 < x ∧ x < 9218868437227405312 ∧ kindN x = 5) ∨
    (nanB x = false ∧ x = 9218868437227405312 ∧ kindN x = 6) := by
  unfold nanB kindN
  by_cases h0 : 9218868437227405312 < x % 9223372036854775808
  · left; simp [h0]
  · right
    rw [if_neg h0]
    simp only [decide_eq_false h0, true_and]
    repeat' split
    all_goals omega
theorem nan0 : nanB 0 = false := by decide
theorem ltF_zero (x : Nat) (hx : x < 18446744073709551616) (h : nanB x = false) : ltF x 0 = decide (9223372036854775808 < x) := by
  unfold ltF sr
  rw [h, nan0, Bool.eq_iff_iff]
  simp only [Bool.not_false, Bool.true_and, decide_eq_true_eq]
  split <;> simp <;> omega
theorem eqF_zero (x : Nat) (hx : x < 18446744073709551616) (h : nanB x = false) : eqF x 0 = decide (x = 0 ∨ x = 9223372036854775808) := by
  unfold eqF sr
  rw [h, nan0, Bool.eq_iff_iff]
  simp only [Bool.not_false, Bool.true_and, decide_eq_true_eq]
  split <;> simp <;> omega
theorem eqF_self (x : Nat) : eqF x x = !nanB x := by unfold eqF; cases nanB x <;> simp

def negW (x : Nat) : Nat := if x < 9223372036854775808 then x + 9223372036854775808 else x - 9223372036854775808
theorem negW_lt {x : Nat} (h : x < 18446744073709551616) : negW x < 18446744073709551616 := by unfold negW; split <;> omega
theorem negF (x : Nat) (hx : x < 18446744073709551616) : Op.negFloat .f64 x = negW x := by
  show x ^^^ 2 ^ 63 = _
  have hm : (x ^^^ 2 ^ 63) % 2 ^ 63 = x % 2 ^ 63 := by rw [Nat.xor_mod_two_pow]; simp
  have hd : (x ^^^ 2 ^ 63) / 2 ^ 63 = x / 2 ^ 63 ^^^ 1 := by rw [Nat.xor_div_two_pow, Nat.div_self (Nat.two_pow_pos _)]
  obtain ⟨y, hy⟩ : ∃ y, x ^^^ 2 ^ 63 = y := ⟨_, rfl⟩
  rw [hy] at hm hd ⊢
  rw [← s_pow] at hm hd
  unfold negW
  split
  · rw [show x / 9223372036854775808 = 0 by omega] at hd
    have : (0 ^^^ 1 : Nat) = 1 := by decide
    omega
  · rw [show x / 9223372036854775808 = 1 by omega] at hd
    have : (1 ^^^ 1 : Nat) = 0 := by decide
    omega
theorem inf_up (x : Nat) (hx : x < 18446744073709551616) : ltF 9218868437227405311 x = decide (x = 9218868437227405312) := by
  unfold ltF sr nanB
  rw [Bool.eq_iff_iff]
  simp only [Bool.and_eq_true, Bool.not_eq_true', decide_eq_false_iff_not, decide_eq_true_eq]
  split <;> omega
theorem inf_down (x : Nat) (hx : x < 18446744073709551616) : ltF 9218868437227405311 (negW x) = decide (x = 18442240474082181120) := by
  rw [inf_up _ (negW_lt hx)]
  unfold negW
  rw [Bool.eq_iff_iff]
  simp only [decide_eq_true_eq]
  split <;> omega

def cmpF (x y : Nat) : Int := if nanB x then (if nanB y then 0 else -1) else if nanB y then 1 else if ltF x y then -1 else if ltF y x then 1 else 0
theorem key_cases (x : Nat) (hx : x < 18446744073709551616) :
    (nanB x = true ∧ kindN x = 0 ∧ keyN x = -18446744073709551616) ∨ (nanB x = false ∧ kindN x = 1 ∧ keyN x = -9218868437227405313 ∧ sr x = keyN x + 1) ∨
    (nanB x = false ∧ kindN x = 2 ∧ -9218868437227405313 < keyN x ∧ keyN x < -1 ∧ sr x = keyN x + 1) ∨ (nanB x = false ∧ kindN x = 3 ∧ keyN x = -1 ∧ sr x = keyN x + 1) ∨
    (nanB x = false ∧ kindN x = 4 ∧ keyN x = 0 ∧ sr x = keyN x) ∨ (nanB x = false ∧ kindN x = 5 ∧ 0 < keyN x ∧ keyN x < 9218868437227405312 ∧ sr x = keyN x) ∨ (nanB x = false ∧ kindN x = 6 ∧ keyN x = 9218868437227405312 ∧ sr x = keyN x) := by
  rcases kind_cases x hx with ⟨a0, a1⟩ | ⟨a0, a1, a2⟩ | ⟨a0, a1, a2, a3⟩ | ⟨a0, a1, a2⟩ | ⟨a0, a1, a2⟩ | ⟨a0, a1, a2, a3⟩ | ⟨a0, a1, a2⟩
  · have h : 9218868437227405312 < x % 9223372036854775808 := by simpa [nanB] using a0
    left
    exact ⟨a0, a1, by unfold keyN; rw [if_pos h]⟩
  all_goals
    right
    have h : ¬ 9218868437227405312 < x % 9223372036854775808 := by simpa [nanB] using a0
    unfold keyN sr
    rw [if_neg h]
  · left; refine ⟨a0, a2, ?_, ?_⟩ <;> (repeat' split) <;> omega
  · right; left; refine ⟨a0, a3, ?_, ?_, ?_⟩ <;> (repeat' split) <;> omega
  · right; right; left; refine ⟨a0, a2, ?_, ?_⟩ <;> (repeat' split) <;> omega
  · right; right; right; left; refine ⟨a0, a2, ?_, ?_⟩ <;> (repeat' split) <;> omega
  · right; right; right; right; left; refine ⟨a0, a3, ?_, ?_, ?_⟩ <;> (repeat' split) <;> omega
  · right; right; right; right; right; refine ⟨a0, a2, ?_, ?_⟩ <;> (repeat' split) <;> omega
theorem cmpI_of {a b c d : Int} (h1 : a < b ↔ c < d) (h2 : b < a ↔ d < c) : cmpI a b = cmpI c d := by unfold cmpI; simp only [h1, h2]
theorem cmpI_zero {a b : Int} : cmpI a b = 0 ↔ a = b := by unfold cmpI; (repeat' split) <;> omega
theorem ord_kind (x y : Nat) (hx : x < 18446744073709551616) (hy : y < 18446744073709551616) (h : cmpI (kindN x) (kindN y) ≠ 0) : cmpI (kindN x) (kindN y) = ordN x y := by
  have hne : kindN x ≠ kindN y := fun e => h (cmpI_zero.2 e)
  have ha := key_cases x hx
  have hb := key_cases y hy
  unfold ordN
  generalize kindN x = k at *
  generalize kindN y = l at *
  generalize keyN x = i at *
  generalize keyN y = j at *
  clear h
  refine cmpI_of ?_ ?_ <;> omega
theorem ord_value (x y : Nat) (hx : x < 18446744073709551616) (hy : y < 18446744073709551616) (h : cmpI (kindN x) (kindN y) = 0) : cmpF x y = ordN x y := by
  have he : kindN x = kindN y := cmpI_zero.1 h
  have ha := key_cases x hx
  have hb := key_cases y hy
  clear h
  cases n1 : nanB x
  · cases n2 : nanB y
    · have e : cmpF x y = cmpI (sr x) (sr y) := by unfold cmpF ltF cmpI; simp [n1, n2]
      rw [e]
      simp only [n1, n2, Bool.false_eq_true, false_and, true_and, false_or] at ha hb
      unfold ordN
      generalize kindN x = k at *
      generalize kindN y = l at *
      generalize keyN x = i at *
      generalize keyN y = j at *
      generalize sr x = p at *
      generalize sr y = q at *
      refine cmpI_of ?_ ?_ <;> omega
    · simp only [n1, n2, Bool.false_eq_true, Bool.true_eq_false, false_and, true_and, false_or, or_false] at ha hb
      omega
  · cases n2 : nanB y
    · simp only [n1, n2, Bool.false_eq_true, Bool.true_eq_false, false_and, true_and, false_or, or_false] at ha hb
      omega
    · simp only [n1, n2, Bool.true_eq_false, false_and, true_and, or_false] at ha hb
      unfold cmpF ordN
      rw [n1, n2, ha.2, hb.2, if_pos rfl, if_pos rfl]
      decide

end Go.Proofs.YtpmbpklbiocclaaGreat

/-
  Contracts of package math's and cmp's calls on floating numbers, and of package real's Kind and Order.
-/
namespace Go.Proofs.YtpmbpklbiocclaaGreat
open Go.RowKit


theorem Tryz.callBits (x : Nat) (w : World) : (callFunc 142 #[.float .f64 x]).run Tryz.prog w = .ok (.value (.int .u64 x)) w :=
  run_callFunc_extern Tryz.func142 (by kernel_rfl) (by kernel_rfl) (by kernel_rfl) (e := Extern.MathFloatBits.float64bits) (by kernel_rfl) _ w
theorem Tryz.callFrom (x : Nat) (w : World) : (callFunc 64 #[.int .u64 x]).run Tryz.prog w = .ok (.value (.float .f64 x)) w :=
  run_callFunc_extern Tryz.func64 (by kernel_rfl) (by kernel_rfl) (by kernel_rfl) (e := Extern.MathFloatBits.float64frombits) (by kernel_rfl) _ w

theorem isNaN_any (x : Nat) (hx : x < 18446744073709551616) (w : World) :
    Calls Tryz.prog 126 #[.float .f64 x] w fun e w' => e = .returned (.bool (nanB x)) ∧ w' = w := by
  have e1 := f_ne hx hx
  rw [eqF_self, Bool.not_not] at e1
  go_enter Tryz.func126, Tryz.ntmps126
  go_wp2_with fail
  go_ret
  exact ⟨rfl, rfl⟩

theorem signbit_any (x : Nat) (hx : x < 18446744073709551616) (w : World) :
    Calls Tryz.prog 128 #[.float .f64 x] w fun e w' => e = .returned (.bool (decide (9223372036854775808 ≤ x))) ∧ w' = w := by
  have e1 := Tryz.callBits x
  have e2 : decide (wrap64 (x : Int) < 0) = decide (9223372036854775808 ≤ x) := by
    rw [Bool.eq_iff_iff]
    unfold wrap64
    simp only [decide_eq_true_eq]
    omega
  go_enter Tryz.func128, Tryz.ntmps128
  go_wp2_with fail
  go_ret
  exact ⟨rfl, rfl⟩

theorem isInf_up (x : Nat) (hx : x < 18446744073709551616) (w : World) :
    Calls Tryz.prog 127 #[.float .f64 x, .int .i64 1] w fun e w' => e = .returned (.bool (decide (x = 9218868437227405312))) ∧ w' = w := by
  have e1 := f_gt hx (show 9218868437227405311 < 18446744073709551616 by decide)
  rw [inf_up x hx] at e1
  go_enter Tryz.func127, Tryz.ntmps127
  go_wp2_with fail
  go_ret
  exact ⟨rfl, rfl⟩
theorem isInf_down (x : Nat) (hx : x < 18446744073709551616) (w : World) :
    Calls Tryz.prog 127 #[.float .f64 x, .int .i64 (-1)] w fun e w' => e = .returned (.bool (decide (x = 18442240474082181120))) ∧ w' = w := by
  have e1 := f_gt (negW_lt hx) (show 9218868437227405311 < 18446744073709551616 by decide)
  rw [inf_down x hx] at e1
  have e2 : Op.unary .neg (.float .f64 x) = pure (Value.float .f64 (negW x)) := by
    show pure (Value.float .f64 (Op.negFloat .f64 x)) = _
    rw [negF x hx]
  go_enter Tryz.func127, Tryz.ntmps127
  go_wp2_with fail
  go_ret
  exact ⟨rfl, rfl⟩

def infB (x : Nat) (i : Int) : Bool := if i = 1 then decide (x = 9218868437227405312) else decide (x = 18442240474082181120)
theorem isInf_any (x : Nat) (hx : x < 18446744073709551616) (i : Int) (hi : i = 1 ∨ i = -1) (w : World) :
    Calls Tryz.prog 127 #[.float .f64 x, .int .i64 i] w fun e w' => e = .returned (.bool (infB x i)) ∧ w' = w := by
  rcases hi with rfl | rfl
  · exact isInf_up x hx w
  · exact isInf_down x hx w

theorem kind_tests (x : Nat) (hx : x < 18446744073709551616) (h : nanB x = false) :
    (FloatKind.f64.format.order x 0 == some .lt) = decide (9223372036854775808 < x) ∧ (FloatKind.f64.format.order x 0 == some .eq) = decide (x = 0 ∨ x = 9223372036854775808) :=
  ⟨by rw [f_lt hx (by decide), ltF_zero x hx h], by rw [f_eq hx (by decide), eqF_zero x hx h]⟩

set_option maxHeartbeats 1600000 in
theorem kind_any (x : Nat) (hx : x < 18446744073709551616) (w : World) :
    Calls Tryz.prog 94 #[.float .f64 x] w fun e w' => e = .returned (.int .i64 (kindN x)) ∧ w' = w := by
  rcases kind_cases x hx with ⟨hn, hk⟩ | ⟨hn, h1, hk⟩ | ⟨hn, h1, h2, hk⟩ | ⟨hn, h1, hk⟩ | ⟨hn, h1, hk⟩ | ⟨hn, h1, h2, hk⟩ | ⟨hn, h1, hk⟩
  · go_enter Tryz.func94, Tryz.ntmps94; go_wp2_with (first | (go_at_call 126; refine (isNaN_any x hx _).mono ?_; rintro _ _ ⟨rfl, rfl⟩) | (go_at_call 127; refine (isInf_any x hx _ (by decide) _).mono ?_; rintro _ _ ⟨rfl, rfl⟩) | (go_at_call 128; refine (signbit_any x hx _).mono ?_; rintro _ _ ⟨rfl, rfl⟩)); go_ret; exact ⟨by rw [hk]; rfl, rfl⟩
  all_goals
    obtain ⟨t1, t2⟩ := kind_tests x hx hn
  · have d1 : infB x (-1) = true := by unfold infB; simp; omega
    clear t1 t2 h1
    go_enter Tryz.func94, Tryz.ntmps94; go_wp2_with (first | (go_at_call 126; refine (isNaN_any x hx _).mono ?_; rintro _ _ ⟨rfl, rfl⟩) | (go_at_call 127; refine (isInf_any x hx _ (by decide) _).mono ?_; rintro _ _ ⟨rfl, rfl⟩) | (go_at_call 128; refine (signbit_any x hx _).mono ?_; rintro _ _ ⟨rfl, rfl⟩)); go_ret; exact ⟨by rw [hk]; rfl, rfl⟩
  · have d1 : infB x (-1) = false := by unfold infB; simp; omega
    rw [decide_eq_true h1] at t1
    clear t2 h1 h2
    go_enter Tryz.func94, Tryz.ntmps94; go_wp2_with (first | (go_at_call 126; refine (isNaN_any x hx _).mono ?_; rintro _ _ ⟨rfl, rfl⟩) | (go_at_call 127; refine (isInf_any x hx _ (by decide) _).mono ?_; rintro _ _ ⟨rfl, rfl⟩) | (go_at_call 128; refine (signbit_any x hx _).mono ?_; rintro _ _ ⟨rfl, rfl⟩)); go_ret; exact ⟨by rw [hk]; rfl, rfl⟩
  · have d1 : infB x (-1) = false := by unfold infB; simp; omega
    have d2 : decide (9223372036854775808 ≤ x) = true := by simp; omega
    rw [decide_eq_false (by omega)] at t1
    rw [decide_eq_true (by omega)] at t2
    clear h1
    go_enter Tryz.func94, Tryz.ntmps94; go_wp2_with (first | (go_at_call 126; refine (isNaN_any x hx _).mono ?_; rintro _ _ ⟨rfl, rfl⟩) | (go_at_call 127; refine (isInf_any x hx _ (by decide) _).mono ?_; rintro _ _ ⟨rfl, rfl⟩) | (go_at_call 128; refine (signbit_any x hx _).mono ?_; rintro _ _ ⟨rfl, rfl⟩)); go_ret; exact ⟨by rw [hk]; rfl, rfl⟩
  · have d1 : infB x (-1) = false := by unfold infB; simp; omega
    have d2 : decide (9223372036854775808 ≤ x) = false := by simp; omega
    rw [decide_eq_false (by omega)] at t1
    rw [decide_eq_true (by omega)] at t2
    clear h1
    go_enter Tryz.func94, Tryz.ntmps94; go_wp2_with (first | (go_at_call 126; refine (isNaN_any x hx _).mono ?_; rintro _ _ ⟨rfl, rfl⟩) | (go_at_call 127; refine (isInf_any x hx _ (by decide) _).mono ?_; rintro _ _ ⟨rfl, rfl⟩) | (go_at_call 128; refine (signbit_any x hx _).mono ?_; rintro _ _ ⟨rfl, rfl⟩)); go_ret; exact ⟨by rw [hk]; rfl, rfl⟩
  · have d1 : infB x (-1) = false := by unfold infB; simp; omega
    have d2 : decide (9223372036854775808 ≤ x) = false := by simp; omega
    have d3 : infB x 1 = false := by unfold infB; simp; omega
    rw [decide_eq_false (by omega)] at t1
    rw [decide_eq_false (by omega)] at t2
    clear h1 h2
    go_enter Tryz.func94, Tryz.ntmps94; go_wp2_with (first | (go_at_call 126; refine (isNaN_any x hx _).mono ?_; rintro _ _ ⟨rfl, rfl⟩) | (go_at_call 127; refine (isInf_any x hx _ (by decide) _).mono ?_; rintro _ _ ⟨rfl, rfl⟩) | (go_at_call 128; refine (signbit_any x hx _).mono ?_; rintro _ _ ⟨rfl, rfl⟩)); go_ret; exact ⟨by rw [hk]; rfl, rfl⟩
  · have d1 : infB x (-1) = false := by unfold infB; simp; omega
    have d2 : decide (9223372036854775808 ≤ x) = false := by simp; omega
    have d3 : infB x 1 = true := by unfold infB; simp; omega
    rw [decide_eq_false (by omega)] at t1
    rw [decide_eq_false (by omega)] at t2
    clear h1
    go_enter Tryz.func94, Tryz.ntmps94; go_wp2_with (first | (go_at_call 126; refine (isNaN_any x hx _).mono ?_; rintro _ _ ⟨rfl, rfl⟩) | (go_at_call 127; refine (isInf_any x hx _ (by decide) _).mono ?_; rintro _ _ ⟨rfl, rfl⟩) | (go_at_call 128; refine (signbit_any x hx _).mono ?_; rintro _ _ ⟨rfl, rfl⟩)); go_ret; exact ⟨by rw [hk]; rfl, rfl⟩

end Go.Proofs.YtpmbpklbiocclaaGreat
