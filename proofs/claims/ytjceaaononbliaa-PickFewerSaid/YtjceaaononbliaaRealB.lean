/-
  Kinds, the order, turning round, and what a difference of a number from itself is. Plain arithmetic; no program is named here.
-/
import Derived.Test.YtjceaaononbliaaRealA
import GoSem.Op.Unary
namespace Go.Proofs.Ytjceaaononbliaa
open Ieee

/-- Of which kind a word is. -/
def kindN (x : Nat) : Int :=
  if 9218868437227405312 < x % 9223372036854775808 then 0 else if x = 18442240474082181120 then 1 else if 9223372036854775808 < x then 2 else if x = 9223372036854775808 then 3
  else if x = 0 then 4 else if x = 9218868437227405312 then 6 else 5
/-- Where a word stands in the order. -/
def keyN (x : Nat) : Int := if 9218868437227405312 < x % 9223372036854775808 then -18446744073709551616 else if x < 9223372036854775808 then (x : Int) else 9223372036854775807 - (x : Int)
def cmpI (x y : Int) : Int := if x < y then -1 else if y < x then 1 else 0
def ordN (x y : Nat) : Int := cmpI (keyN x) (keyN y)

/-- The seven kinds, each with what the tests tell. -/
theorem kind_cases (x : Nat) (hx : x < 18446744073709551616) :
    (nanB x = true ∧ kindN x = 0) ∨
    (nanB x = false ∧ x = 18442240474082181120 ∧ kindN x = 1) ∨
    (nanB x = false ∧ 9223372036854775808 < x ∧ x < 18442240474082181120 ∧ kindN x = 2) ∨
    (nanB x = false ∧ x = 9223372036854775808 ∧ kindN x = 3) ∨
    (nanB x = false ∧ x = 0 ∧ kindN x = 4) ∨
    (nanB x = false ∧ 0 < x ∧ x < 9218868437227405312 ∧ kindN x = 5) ∨
    (nanB x = false ∧ x = 9218868437227405312 ∧ kindN x = 6) := by
  unfold nanB kindN
  by_cases h0 : 9218868437227405312 < x % 9223372036854775808
  · left; simp [h0]
  · right
    rw [if_neg h0]
    simp only [decide_eq_false h0, true_and]
    repeat' split
    all_goals omega
theorem nan0 : nanB 0 = false := by decide
theorem ltF_zero (x : Nat) (hx : x < 18446744073709551616) (h : nanB x = false) : ltF x 0 = decide (9223372036854775808 < x) := by
  unfold ltF sr
  rw [h, nan0, Bool.eq_iff_iff]
  simp only [Bool.not_false, Bool.true_and, decide_eq_true_eq]
  split <;> simp <;> omega
theorem eqF_zero (x : Nat) (hx : x < 18446744073709551616) (h : nanB x = false) : eqF x 0 = decide (x = 0 ∨ x = 9223372036854775808) := by
  unfold eqF sr
  rw [h, nan0, Bool.eq_iff_iff]
  simp only [Bool.not_false, Bool.true_and, decide_eq_true_eq]
  split <;> simp <;> omega
theorem eqF_nan (x y : Nat) (h : nanB x = true) : eqF x y = false := by unfold eqF; simp [h]
theorem ltF_nan (x y : Nat) (h : nanB x = true) : ltF x y = false := by unfold ltF; simp [h]
theorem ltF_nan' (x y : Nat) (h : nanB y = true) : ltF x y = false := by unfold ltF; simp [h]
theorem eqF_self (x : Nat) : eqF x x = !nanB x := by unfold eqF; cases nanB x <;> simp

/-! ### Turned round -/
def negW (x : Nat) : Nat := if x < 9223372036854775808 then x + 9223372036854775808 else x - 9223372036854775808
theorem negW_lt {x : Nat} (h : x < 18446744073709551616) : negW x < 18446744073709551616 := by unfold negW; split <;> omega
theorem negF (x : Nat) (hx : x < 18446744073709551616) : Op.negFloat .f64 x = negW x := by
  show x ^^^ 2 ^ 63 = _
  have hm : (x ^^^ 2 ^ 63) % 2 ^ 63 = x % 2 ^ 63 := by rw [Nat.xor_mod_two_pow]; simp
  have hd : (x ^^^ 2 ^ 63) / 2 ^ 63 = x / 2 ^ 63 ^^^ 1 := by rw [Nat.xor_div_two_pow, Nat.div_self (Nat.two_pow_pos _)]
  obtain ⟨y, hy⟩ : ∃ y, x ^^^ 2 ^ 63 = y := ⟨_, rfl⟩
  rw [hy] at hm hd ⊢
  rw [← s_pow] at hm hd
  unfold negW
  split
  · rw [show x / 9223372036854775808 = 0 by omega] at hd
    have : (0 ^^^ 1 : Nat) = 1 := by decide
    omega
  · rw [show x / 9223372036854775808 = 1 by omega] at hd
    have : (1 ^^^ 1 : Nat) = 0 := by decide
    omega
theorem inf_up (x : Nat) (hx : x < 18446744073709551616) : ltF 9218868437227405311 x = decide (x = 9218868437227405312) := by
  unfold ltF sr nanB
  rw [Bool.eq_iff_iff]
  simp only [Bool.and_eq_true, Bool.not_eq_true', decide_eq_false_iff_not, decide_eq_true_eq]
  split <;> omega
theorem inf_down (x : Nat) (hx : x < 18446744073709551616) : ltF 9218868437227405311 (negW x) = decide (x = 18442240474082181120) := by
  rw [inf_up _ (negW_lt hx)]
  unfold negW
  rw [Bool.eq_iff_iff]
  simp only [decide_eq_true_eq]
  split <;> omega

/-! ### The order by kinds and values -/
theorem kind_nan (x : Nat) : decide (kindN x = 0) = nanB x := by
  unfold kindN nanB
  split <;> simp_all
  repeat' split
  all_goals omega
/-- How cmp.Compare tells of two. -/
def cmpF (x y : Nat) : Int := if nanB x then (if nanB y then 0 else -1) else if nanB y then 1 else if ltF x y then -1 else if ltF y x then 1 else 0
/-- Where each kind stands. -/
theorem key_cases (x : Nat) (hx : x < 18446744073709551616) :
    (nanB x = true ∧ kindN x = 0 ∧ keyN x = -18446744073709551616) ∨ (nanB x = false ∧ kindN x = 1 ∧ keyN x = -9218868437227405313 ∧ sr x = keyN x + 1) ∨
    (nanB x = false ∧ kindN x = 2 ∧ -9218868437227405313 < keyN x ∧ keyN x < -1 ∧ sr x = keyN x + 1) ∨ (nanB x = false ∧ kindN x = 3 ∧ keyN x = -1 ∧ sr x = keyN x + 1) ∨
    (nanB x = false ∧ kindN x = 4 ∧ keyN x = 0 ∧ sr x = keyN x) ∨ (nanB x = false ∧ kindN x = 5 ∧ 0 < keyN x ∧ keyN x < 9218868437227405312 ∧ sr x = keyN x) ∨ (nanB x = false ∧ kindN x = 6 ∧ keyN x = 9218868437227405312 ∧ sr x = keyN x) := by
  rcases kind_cases x hx with ⟨a0, a1⟩ | ⟨a0, a1, a2⟩ | ⟨a0, a1, a2, a3⟩ | ⟨a0, a1, a2⟩ | ⟨a0, a1, a2⟩ | ⟨a0, a1, a2, a3⟩ | ⟨a0, a1, a2⟩
  · have h : 9218868437227405312 < x % 9223372036854775808 := by simpa [nanB] using a0
    left
    exact ⟨a0, a1, by unfold keyN; rw [if_pos h]⟩
  all_goals
    right
    have h : ¬ 9218868437227405312 < x % 9223372036854775808 := by simpa [nanB] using a0
    unfold keyN sr
    rw [if_neg h]
  · left; refine ⟨a0, a2, ?_, ?_⟩ <;> (repeat' split) <;> omega
  · right; left; refine ⟨a0, a3, ?_, ?_, ?_⟩ <;> (repeat' split) <;> omega
  · right; right; left; refine ⟨a0, a2, ?_, ?_⟩ <;> (repeat' split) <;> omega
  · right; right; right; left; refine ⟨a0, a2, ?_, ?_⟩ <;> (repeat' split) <;> omega
  · right; right; right; right; left; refine ⟨a0, a3, ?_, ?_, ?_⟩ <;> (repeat' split) <;> omega
  · right; right; right; right; right; refine ⟨a0, a2, ?_, ?_⟩ <;> (repeat' split) <;> omega
theorem cmpI_of {a b c d : Int} (h1 : a < b ↔ c < d) (h2 : b < a ↔ d < c) : cmpI a b = cmpI c d := by unfold cmpI; simp only [h1, h2]
theorem cmpI_zero {a b : Int} : cmpI a b = 0 ↔ a = b := by unfold cmpI; (repeat' split) <;> omega
/-- How the kinds stand tells where they differ. -/
theorem ord_kind (x y : Nat) (hx : x < 18446744073709551616) (hy : y < 18446744073709551616) (h : cmpI (kindN x) (kindN y) ≠ 0) : cmpI (kindN x) (kindN y) = ordN x y := by
  have hne : kindN x ≠ kindN y := fun e => h (cmpI_zero.2 e)
  have ha := key_cases x hx
  have hb := key_cases y hy
  unfold ordN
  generalize kindN x = k at *
  generalize kindN y = l at *
  generalize keyN x = i at *
  generalize keyN y = j at *
  clear h
  refine cmpI_of ?_ ?_ <;> omega
/-- Where they don't, the values tell. -/
theorem ord_value (x y : Nat) (hx : x < 18446744073709551616) (hy : y < 18446744073709551616) (h : cmpI (kindN x) (kindN y) = 0) : cmpF x y = ordN x y := by
  have he : kindN x = kindN y := cmpI_zero.1 h
  have ha := key_cases x hx
  have hb := key_cases y hy
  clear h
  cases n1 : nanB x
  · cases n2 : nanB y
    · have e : cmpF x y = cmpI (sr x) (sr y) := by unfold cmpF ltF cmpI; simp [n1, n2]
      rw [e]
      simp only [n1, n2, Bool.false_eq_true, false_and, true_and, false_or] at ha hb
      unfold ordN
      generalize kindN x = k at *
      generalize kindN y = l at *
      generalize keyN x = i at *
      generalize keyN y = j at *
      generalize sr x = p at *
      generalize sr y = q at *
      refine cmpI_of ?_ ?_ <;> omega
    · simp only [n1, n2, Bool.false_eq_true, Bool.true_eq_false, false_and, true_and, false_or, or_false] at ha hb
      omega
  · cases n2 : nanB y
    · simp only [n1, n2, Bool.false_eq_true, Bool.true_eq_false, false_and, true_and, false_or, or_false] at ha hb
      omega
    · simp only [n1, n2, Bool.true_eq_false, false_and, true_and, or_false] at ha hb
      unfold cmpF ordN
      rw [n1, n2, ha.2, hb.2, if_pos rfl, if_pos rfl]
      decide

/-! ### No number, as a wrong operation draws it -/
/-- Whatever is drawn for no number. -/
def nanT (t : Nat) : Nat := (t % 2) * 2 ^ 63 + 0x7ff0000000000000 + 1 + (t / 2) % (2 ^ 52 - 1)
theorem nanT_nan (t : Nat) : nanB (nanT t) = true := by
  unfold nanB nanT
  rw [← s_pow, ← b_pow]
  simp only [decide_eq_true_eq]
  obtain ⟨q, hq⟩ : ∃ q, t / 2 % (4503599627370496 - 1) = q := ⟨_, rfl⟩
  rw [hq]
  have h2 : q < 4503599627370495 := by rw [← hq]; exact Nat.mod_lt _ (by omega)
  have h3 : t % 2 = 0 ∨ t % 2 = 1 := by omega
  rcases h3 with h3 | h3 <;> rw [h3] <;> omega
theorem nanT_lt (t : Nat) : nanT t < 18446744073709551616 := by
  unfold nanT
  rw [← s_pow, ← b_pow]
  omega
end Go.Proofs.Ytjceaaononbliaa
