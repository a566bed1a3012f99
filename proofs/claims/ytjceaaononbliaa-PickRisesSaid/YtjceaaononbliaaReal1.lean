/-
  Contracts of package math's and cmp's calls on floating numbers, and of package real's Kind and Order.
-/
import Derived.Test.YtjceaaononbliaaRealB
import Derived.Test.YtjceaaononbliaaBase
import Derived.Test.YtjceaaononbliaaChecked
import Derived.Laws.Externs
namespace Go.Proofs.Ytjceaaononbliaa
open Go.RowKit

/-- A wrong operation draws no number. -/
theorem run_float_none {P : Program} (w : World) (op : BinOp) (hop : op = .sub ∨ op = .quo) (t : TypeId) (x y : Nat) (h : floatBits op .f64 x y = none) :
    (binOp op t (.float .f64 x) (.float .f64 y)).run P w = .ok (.float .f64 (nanT (w.tape w.drawn (.nanBits .f64 x y)))) (w.drewN 1) := by
  unfold floatBits at h
  rcases hop with rfl | rfl <;> simp only at h <;> simp [binOp, Op.floatArith, h, choose, Sem.run, Question.forced, Question.cut, nanT] <;> rfl

theorem Try.callBits (x : Nat) (w : World) : (callFunc 42 #[.float .f64 x]).run Try.prog w = .ok (.value (.int .u64 x)) w :=
  run_callFunc_extern Try.func42 (by kernel_rfl) (by kernel_rfl) (by kernel_rfl) (e := Extern.MathFloatBits.float64bits) (by kernel_rfl) _ w
theorem Try.callFrom (x : Nat) (w : World) : (callFunc 33 #[.int .u64 x]).run Try.prog w = .ok (.value (.float .f64 x)) w :=
  run_callFunc_extern Try.func33 (by kernel_rfl) (by kernel_rfl) (by kernel_rfl) (e := Extern.MathFloatBits.float64frombits) (by kernel_rfl) _ w

theorem isNaN_any (x : Nat) (hx : x < 18446744073709551616) (w : World) :
    Calls Try.prog 28 #[.float .f64 x] w fun e w' => e = .returned (.bool (nanB x)) ∧ w' = w := by
  have e1 := f_ne hx hx
  rw [eqF_self, Bool.not_not] at e1
  go_enter Try.func28, Try.ntmps28
  go_wp2_with fail
  go_ret
  exact ⟨rfl, rfl⟩

theorem signbit_any (x : Nat) (hx : x < 18446744073709551616) (w : World) :
    Calls Try.prog 35 #[.float .f64 x] w fun e w' => e = .returned (.bool (decide (9223372036854775808 ≤ x))) ∧ w' = w := by
  have e1 := Try.callBits x
  have e2 : decide (wrap64 (x : Int) < 0) = decide (9223372036854775808 ≤ x) := by
    rw [Bool.eq_iff_iff]
    unfold wrap64
    simp only [decide_eq_true_eq]
    omega
  go_enter Try.func35, Try.ntmps35
  go_wp2_with fail
  go_ret
  exact ⟨rfl, rfl⟩

theorem isInf_up (x : Nat) (hx : x < 18446744073709551616) (w : World) :
    Calls Try.prog 34 #[.float .f64 x, .int .i64 1] w fun e w' => e = .returned (.bool (decide (x = 9218868437227405312))) ∧ w' = w := by
  have e1 := f_gt hx (show 9218868437227405311 < 18446744073709551616 by decide)
  rw [inf_up x hx] at e1
  go_enter Try.func34, Try.ntmps34
  go_wp2_with fail
  go_ret
  exact ⟨rfl, rfl⟩
theorem isInf_down (x : Nat) (hx : x < 18446744073709551616) (w : World) :
    Calls Try.prog 34 #[.float .f64 x, .int .i64 (-1)] w fun e w' => e = .returned (.bool (decide (x = 18442240474082181120))) ∧ w' = w := by
  have e1 := f_gt (negW_lt hx) (show 9218868437227405311 < 18446744073709551616 by decide)
  rw [inf_down x hx] at e1
  have e2 : Op.unary .neg (.float .f64 x) = pure (Value.float .f64 (negW x)) := by
    show pure (Value.float .f64 (Op.negFloat .f64 x)) = _
    rw [negF x hx]
  go_enter Try.func34, Try.ntmps34
  go_wp2_with fail
  go_ret
  exact ⟨rfl, rfl⟩

/-- Is it the infinity of this sign? -/
def infB (x : Nat) (i : Int) : Bool := if i = 1 then decide (x = 9218868437227405312) else decide (x = 18442240474082181120)
theorem isInf_any (x : Nat) (hx : x < 18446744073709551616) (i : Int) (hi : i = 1 ∨ i = -1) (w : World) :
    Calls Try.prog 34 #[.float .f64 x, .int .i64 i] w fun e w' => e = .returned (.bool (infB x i)) ∧ w' = w := by
  rcases hi with rfl | rfl
  · exact isInf_up x hx w
  · exact isInf_down x hx w

/-- The tests that Kind makes, each as a Bool. -/
theorem kind_tests (x : Nat) (hx : x < 18446744073709551616) (h : nanB x = false) :
    (FloatKind.f64.format.order x 0 == some .lt) = decide (9223372036854775808 < x) ∧ (FloatKind.f64.format.order x 0 == some .eq) = decide (x = 0 ∨ x = 9223372036854775808) :=
  ⟨by rw [f_lt hx (by decide), ltF_zero x hx h], by rw [f_eq hx (by decide), eqF_zero x hx h]⟩

set_option maxHeartbeats 1600000 in
theorem kind_any (x : Nat) (hx : x < 18446744073709551616) (w : World) :
    Calls Try.prog 20 #[.float .f64 x] w fun e w' => e = .returned (.int .i64 (kindN x)) ∧ w' = w := by
  rcases kind_cases x hx with ⟨hn, hk⟩ | ⟨hn, h1, hk⟩ | ⟨hn, h1, h2, hk⟩ | ⟨hn, h1, hk⟩ | ⟨hn, h1, hk⟩ | ⟨hn, h1, h2, hk⟩ | ⟨hn, h1, hk⟩
  · go_enter Try.func20, Try.ntmps20; go_wp2_with (first | (go_at_call 28; refine (isNaN_any x hx _).mono ?_; rintro _ _ ⟨rfl, rfl⟩) | (go_at_call 34; refine (isInf_any x hx _ (by decide) _).mono ?_; rintro _ _ ⟨rfl, rfl⟩) | (go_at_call 35; refine (signbit_any x hx _).mono ?_; rintro _ _ ⟨rfl, rfl⟩)); go_ret; exact ⟨by rw [hk]; rfl, rfl⟩
  all_goals
    obtain ⟨t1, t2⟩ := kind_tests x hx hn
  · have d1 : infB x (-1) = true := by unfold infB; simp; omega
    clear t1 t2 h1
    go_enter Try.func20, Try.ntmps20; go_wp2_with (first | (go_at_call 28; refine (isNaN_any x hx _).mono ?_; rintro _ _ ⟨rfl, rfl⟩) | (go_at_call 34; refine (isInf_any x hx _ (by decide) _).mono ?_; rintro _ _ ⟨rfl, rfl⟩) | (go_at_call 35; refine (signbit_any x hx _).mono ?_; rintro _ _ ⟨rfl, rfl⟩)); go_ret; exact ⟨by rw [hk]; rfl, rfl⟩
  · have d1 : infB x (-1) = false := by unfold infB; simp; omega
    rw [decide_eq_true h1] at t1
    clear t2 h1 h2
    go_enter Try.func20, Try.ntmps20; go_wp2_with (first | (go_at_call 28; refine (isNaN_any x hx _).mono ?_; rintro _ _ ⟨rfl, rfl⟩) | (go_at_call 34; refine (isInf_any x hx _ (by decide) _).mono ?_; rintro _ _ ⟨rfl, rfl⟩) | (go_at_call 35; refine (signbit_any x hx _).mono ?_; rintro _ _ ⟨rfl, rfl⟩)); go_ret; exact ⟨by rw [hk]; rfl, rfl⟩
  · have d1 : infB x (-1) = false := by unfold infB; simp; omega
    have d2 : decide (9223372036854775808 ≤ x) = true := by simp; omega
    rw [decide_eq_false (by omega)] at t1
    rw [decide_eq_true (by omega)] at t2
    clear h1
    go_enter Try.func20, Try.ntmps20; go_wp2_with (first | (go_at_call 28; refine (isNaN_any x hx _).mono ?_; rintro _ _ ⟨rfl, rfl⟩) | (go_at_call 34; refine (isInf_any x hx _ (by decide) _).mono ?_; rintro _ _ ⟨rfl, rfl⟩) | (go_at_call 35; refine (signbit_any x hx _).mono ?_; rintro _ _ ⟨rfl, rfl⟩)); go_ret; exact ⟨by rw [hk]; rfl, rfl⟩
  · have d1 : infB x (-1) = false := by unfold infB; simp; omega
    have d2 : decide (9223372036854775808 ≤ x) = false := by simp; omega
    rw [decide_eq_false (by omega)] at t1
    rw [decide_eq_true (by omega)] at t2
    clear h1
    go_enter Try.func20, Try.ntmps20; go_wp2_with (first | (go_at_call 28; refine (isNaN_any x hx _).mono ?_; rintro _ _ ⟨rfl, rfl⟩) | (go_at_call 34; refine (isInf_any x hx _ (by decide) _).mono ?_; rintro _ _ ⟨rfl, rfl⟩) | (go_at_call 35; refine (signbit_any x hx _).mono ?_; rintro _ _ ⟨rfl, rfl⟩)); go_ret; exact ⟨by rw [hk]; rfl, rfl⟩
  · have d1 : infB x (-1) = false := by unfold infB; simp; omega
    have d2 : decide (9223372036854775808 ≤ x) = false := by simp; omega
    have d3 : infB x 1 = false := by unfold infB; simp; omega
    rw [decide_eq_false (by omega)] at t1
    rw [decide_eq_false (by omega)] at t2
    clear h1 h2
    go_enter Try.func20, Try.ntmps20; go_wp2_with (first | (go_at_call 28; refine (isNaN_any x hx _).mono ?_; rintro _ _ ⟨rfl, rfl⟩) | (go_at_call 34; refine (isInf_any x hx _ (by decide) _).mono ?_; rintro _ _ ⟨rfl, rfl⟩) | (go_at_call 35; refine (signbit_any x hx _).mono ?_; rintro _ _ ⟨rfl, rfl⟩)); go_ret; exact ⟨by rw [hk]; rfl, rfl⟩
  · have d1 : infB x (-1) = false := by unfold infB; simp; omega
    have d2 : decide (9223372036854775808 ≤ x) = false := by simp; omega
    have d3 : infB x 1 = true := by unfold infB; simp; omega
    rw [decide_eq_false (by omega)] at t1
    rw [decide_eq_false (by omega)] at t2
    clear h1
    go_enter Try.func20, Try.ntmps20; go_wp2_with (first | (go_at_call 28; refine (isNaN_any x hx _).mono ?_; rintro _ _ ⟨rfl, rfl⟩) | (go_at_call 34; refine (isInf_any x hx _ (by decide) _).mono ?_; rintro _ _ ⟨rfl, rfl⟩) | (go_at_call 35; refine (signbit_any x hx _).mono ?_; rintro _ _ ⟨rfl, rfl⟩)); go_ret; exact ⟨by rw [hk]; rfl, rfl⟩

end Go.Proofs.Ytjceaaononbliaa
