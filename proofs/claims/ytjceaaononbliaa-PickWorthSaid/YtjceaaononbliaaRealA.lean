/-
  Floating numbers of 64 bits as words: where a word stands, how two stand, what halving, doubling and turning round make of one. Plain arithmetic; no program is named here.
-/
import Derived.Laws.FloatArith
namespace Go.Proofs.Ytjceaaononbliaa
open Ieee

/-! ### What a word stands for -/
theorem d_binade : double.binade = 4503599627370496 := by decide
theorem d_sign : double.signWeight = 9223372036854775808 := by decide +kernel
theorem d_inf : double.infRung = 9218868437227405312 := by decide +kernel
theorem d_least : double.leastPlace = -1074 := by decide +kernel
theorem d_frac : double.fractionBits = 52 := rfl
theorem b_pow : (4503599627370496 : Nat) = 2 ^ 52 := by decide
theorem s_pow : (9223372036854775808 : Nat) = 2 ^ 63 := by decide +kernel

/-- The digits of a rung. -/
def mg (r : Nat) : Nat := if r < 4503599627370496 then r else 4503599627370496 + r % 4503599627370496
/-- What a rung is, in units of the last place that there is. -/
def vl (r : Nat) : Nat := mg r * 2 ^ (r / 4503599627370496 - 1)

theorem read_num (w : Nat) (h : w % 9223372036854775808 < 9218868437227405312) (hw : w < 18446744073709551616) :
    double.read w = .number (decide (9223372036854775808 ≤ w)) (mg (w % 9223372036854775808)) (-1074 + ((w % 9223372036854775808 / 4503599627370496 - 1 : Nat) : Int)) := by
  unfold Format.read mg
  rw [d_sign, d_binade, d_inf, d_least]
  have hs : (w / 9223372036854775808 % 2 == 1) = decide (9223372036854775808 ≤ w) := by
    rw [Bool.eq_iff_iff]; simp; omega
  simp only [hs]
  by_cases h1 : w % 9223372036854775808 < 4503599627370496
  · rw [if_pos h1, if_pos h1]
    congr 1
    omega
  · rw [if_neg h1, if_neg h1, if_pos h]
theorem read_inf (w : Nat) (h : w % 9223372036854775808 = 9218868437227405312) (hw : w < 18446744073709551616) :
    double.read w = .infinity (decide (9223372036854775808 ≤ w)) := by
  unfold Format.read
  rw [d_sign, d_binade, d_inf, d_least]
  have hs : (w / 9223372036854775808 % 2 == 1) = decide (9223372036854775808 ≤ w) := by
    rw [Bool.eq_iff_iff]; simp; omega
  simp only [hs]
  rw [if_neg (by omega), if_neg (by omega), if_pos h]
theorem read_nan (w : Nat) (h : 9218868437227405312 < w % 9223372036854775808) : ∃ s f, double.read w = .nan s f := by
  unfold Format.read
  rw [d_sign, d_binade, d_inf, d_least]
  simp only
  rw [if_neg (by omega), if_neg (by omega), if_neg (by omega)]
  exact ⟨_, _, rfl⟩

theorem mg_pos {r : Nat} (h : 0 < r) : 0 < mg r := by unfold mg; split <;> omega
theorem mg_zero : mg 0 = 0 := rfl
theorem mg_lt (r : Nat) : mg r < 9007199254740992 := by unfold mg; split <;> omega
theorem vl_lt {r q : Nat} (h : r < q) : vl r < vl q := by
  unfold vl
  by_cases hq : q < 4503599627370496
  · have e1 : r / 4503599627370496 - 1 = 0 := by omega
    have e2 : q / 4503599627370496 - 1 = 0 := by omega
    rw [e1, e2]
    unfold mg
    rw [if_pos (by omega), if_pos hq]
    omega
  · have hmq : mg q = 4503599627370496 + q % 4503599627370496 := by unfold mg; rw [if_neg hq]
    by_cases hd : r / 4503599627370496 - 1 = q / 4503599627370496 - 1
    · rw [hd]
      refine Nat.mul_lt_mul_of_pos_right ?_ (Nat.two_pow_pos _)
      rw [hmq]
      unfold mg
      split <;> omega
    · have hle : r / 4503599627370496 - 1 + 1 ≤ q / 4503599627370496 - 1 := by
        have := Nat.div_le_div_right (c := 4503599627370496) (Nat.le_of_lt h)
        omega
      have h1 : mg r * 2 ^ (r / 4503599627370496 - 1) < 9007199254740992 * 2 ^ (r / 4503599627370496 - 1) := Nat.mul_lt_mul_of_pos_right (mg_lt r) (Nat.two_pow_pos _)
      have h2 : 2 ^ (r / 4503599627370496 - 1 + 1) ≤ 2 ^ (q / 4503599627370496 - 1) := Nat.pow_le_pow_right (by omega) hle
      rw [Nat.pow_succ] at h2
      have h3 : 4503599627370496 * 2 ^ (q / 4503599627370496 - 1) ≤ mg q * 2 ^ (q / 4503599627370496 - 1) := Nat.mul_le_mul_right _ (by omega)
      omega
theorem vl_lt_iff {r q : Nat} : vl r < vl q ↔ r < q := by
  refine ⟨fun h => ?_, vl_lt⟩
  rcases Nat.lt_trichotomy r q with h1 | h1 | h1
  · exact h1
  · subst h1; omega
  · have := vl_lt h1; omega
theorem vl_eq_iff {r q : Nat} : vl r = vl q ↔ r = q := by
  refine ⟨fun h => ?_, fun h => by rw [h]⟩
  rcases Nat.lt_trichotomy r q with h1 | h1 | h1
  · have := vl_lt h1; omega
  · exact h1
  · have := vl_lt h1; omega

/-! ### How two words stand -/
/-- Is it no number? -/
def nanB (w : Nat) : Bool := decide (9218868437227405312 < w % 9223372036854775808)
/-- Where a word stands, the noughts alike. -/
def sr (w : Nat) : Int := if w < 9223372036854775808 then (w : Int) else 9223372036854775808 - (w : Int)

theorem cmp_eq {x y x' y' : Int} (h1 : x < y ↔ x' < y') (h2 : x = y ↔ x' = y') : compare x y = compare x' y' := by
  simp only [compare, compareOfLessAndEq, h1, h2]
theorem cmpN_eq {x y : Nat} {x' y' : Int} (h1 : x < y ↔ x' < y') (h2 : x = y ↔ x' = y') : compare x y = compare x' y' := by
  simp only [compare, compareOfLessAndEq, h1, h2]
theorem signed_eq (s : Bool) (m k : Nat) : signed s m k = if s then -((m * 2 ^ k : Nat) : Int) else ((m * 2 ^ k : Nat) : Int) := by
  unfold signed
  rw [Nat.shiftLeft_eq]

theorem order_num {w v : Nat} (hw : w < 18446744073709551616) (hv : v < 18446744073709551616) (h1 : w % 9223372036854775808 < 9218868437227405312) (h2 : v % 9223372036854775808 < 9218868437227405312) :
    double.order w v = some (compare (sr w) (sr v)) := by
  unfold Format.order
  rw [read_num w h1 hw, read_num v h2 hv]
  unfold Datum.order
  simp only
  congr 1
  obtain ⟨r, hr⟩ : ∃ r, w % 9223372036854775808 = r := ⟨_, rfl⟩
  obtain ⟨q, hq⟩ : ∃ q, v % 9223372036854775808 = q := ⟨_, rfl⟩
  rw [hr, hq]
  obtain ⟨a, ha⟩ : ∃ a, r / 4503599627370496 - 1 = a := ⟨_, rfl⟩
  obtain ⟨b, hb⟩ : ∃ b, q / 4503599627370496 - 1 = b := ⟨_, rfl⟩
  obtain ⟨c, hc⟩ : ∃ c, min a b = c := ⟨_, rfl⟩
  rw [ha, hb]
  have e1 : ((-1074 + (a : Int)) - min (-1074 + (a : Int)) (-1074 + (b : Int))).toNat = a - c := by omega
  have e2 : ((-1074 + (b : Int)) - min (-1074 + (a : Int)) (-1074 + (b : Int))).toNat = b - c := by omega
  rw [e1, e2, signed_eq, signed_eq]
  obtain ⟨X, hX⟩ : ∃ X, mg r * 2 ^ (a - c) = X := ⟨_, rfl⟩
  obtain ⟨Y, hY⟩ : ∃ Y, mg q * 2 ^ (b - c) = Y := ⟨_, rfl⟩
  rw [hX, hY]
  have hp : 0 < 2 ^ c := Nat.two_pow_pos _
  have vX : X * 2 ^ c = vl r := by
    unfold vl
    rw [ha, ← hX, Nat.mul_assoc, ← Nat.pow_add, Nat.sub_add_cancel (by omega)]
  have vY : Y * 2 ^ c = vl q := by
    unfold vl
    rw [hb, ← hY, Nat.mul_assoc, ← Nat.pow_add, Nat.sub_add_cancel (by omega)]
  have f1 : X < Y ↔ r < q := by
    rw [← vl_lt_iff (r := r) (q := q), ← vX, ← vY]
    exact (Nat.mul_lt_mul_right hp).symm
  have f2 : X = Y ↔ r = q := by
    rw [← vl_eq_iff (r := r) (q := q), ← vX, ← vY]
    exact ⟨fun h => by rw [h], fun h => Nat.eq_of_mul_eq_mul_right hp h⟩
  have f3 : X = 0 ↔ r = 0 := by
    refine ⟨fun h => ?_, fun h => by rw [← hX, h]; simp [mg]⟩
    have h0 : vl r = vl 0 := by rw [← vX, h]; simp [vl, mg]
    exact vl_eq_iff.1 h0
  have f4 : Y = 0 ↔ q = 0 := by
    refine ⟨fun h => ?_, fun h => by rw [← hY, h]; simp [mg]⟩
    have h0 : vl q = vl 0 := by rw [← vY, h]; simp [vl, mg]
    exact vl_eq_iff.1 h0
  clear vX vY hX hY hp e1 e2 hc ha hb
  unfold sr
  by_cases s1 : 9223372036854775808 ≤ w <;> by_cases s2 : 9223372036854775808 ≤ v
  · rw [if_pos (by simpa using s1), if_pos (by simpa using s2), if_neg (by omega), if_neg (by omega)]
    exact cmp_eq (by omega) (by omega)
  · rw [if_pos (by simpa using s1), if_neg (by simpa using s2), if_neg (by omega), if_pos (by omega)]
    exact cmp_eq (by omega) (by omega)
  · rw [if_neg (by simpa using s1), if_pos (by simpa using s2), if_pos (by omega), if_neg (by omega)]
    exact cmp_eq (by omega) (by omega)
  · rw [if_neg (by simpa using s1), if_neg (by simpa using s2), if_pos (by omega), if_pos (by omega)]
    exact cmp_eq (by omega) (by omega)

/-- How two numbers stand: as the places do. -/
theorem order_sr {w v : Nat} (hw : w < 18446744073709551616) (hv : v < 18446744073709551616) (h1 : nanB w = false) (h2 : nanB v = false) :
    double.order w v = some (compare (sr w) (sr v)) := by
  have g1 : w % 9223372036854775808 ≤ 9218868437227405312 := by simpa [nanB] using h1
  have g2 : v % 9223372036854775808 ≤ 9218868437227405312 := by simpa [nanB] using h2
  by_cases i1 : w % 9223372036854775808 = 9218868437227405312 <;> by_cases i2 : v % 9223372036854775808 = 9218868437227405312
  · unfold Format.order
    rw [read_inf w i1 hw, read_inf v i2 hv]
    simp only [Datum.order]
    congr 1
    unfold sr
    by_cases s1 : 9223372036854775808 ≤ w <;> by_cases s2 : 9223372036854775808 ≤ v
    · rw [if_neg (by omega), if_neg (by omega)]; simp only [s1, s2, decide_true]; exact cmpN_eq (by simp; omega) (by simp; omega)
    · rw [if_neg (by omega), if_pos (by omega)]; simp only [s1, s2, decide_true, decide_false]; exact cmpN_eq (by simp; omega) (by simp; omega)
    · rw [if_pos (by omega), if_neg (by omega)]; simp only [s1, s2, decide_true, decide_false]; exact cmpN_eq (by simp; omega) (by simp; omega)
    · rw [if_pos (by omega), if_pos (by omega)]; simp only [s1, s2, decide_false]; exact cmpN_eq (by simp; omega) (by simp; omega)
  · unfold Format.order
    rw [read_inf w i1 hw, read_num v (by omega) hv]
    simp only [Datum.order]
    congr 1
    unfold sr
    by_cases s1 : 9223372036854775808 ≤ w
    · rw [if_pos (by simpa using s1), if_neg (by omega)]
      exact (Int.compare_eq_lt.2 (by split <;> omega)).symm
    · rw [if_neg (by simpa using s1), if_pos (by omega)]
      exact (Int.compare_eq_gt.2 (by split <;> omega)).symm
  · unfold Format.order
    rw [read_num w (by omega) hw, read_inf v i2 hv]
    simp only [Datum.order]
    congr 1
    unfold sr
    by_cases s1 : w < 9223372036854775808 <;> by_cases s2 : v < 9223372036854775808
    · rw [if_neg (by simp; omega), if_pos s1, if_pos s2]
      exact (Int.compare_eq_lt.2 (by omega)).symm
    · rw [if_pos (by simp; omega), if_pos s1, if_neg s2]
      exact (Int.compare_eq_gt.2 (by omega)).symm
    · rw [if_neg (by simp; omega), if_neg s1, if_pos s2]
      exact (Int.compare_eq_lt.2 (by omega)).symm
    · rw [if_pos (by simp; omega), if_neg s1, if_neg s2]
      exact (Int.compare_eq_gt.2 (by omega)).symm
  · exact order_num hw hv (by omega) (by omega)
theorem order_nan_left {w : Nat} (v : Nat) (h : nanB w = true) : double.order w v = none := by
  obtain ⟨s, f, e⟩ := read_nan w (by simpa [nanB] using h)
  unfold Format.order
  rw [e]
  rfl
theorem order_nan_right (w : Nat) {v : Nat} (h : nanB v = true) : double.order w v = none := by
  obtain ⟨s, f, e⟩ := read_nan v (by simpa [nanB] using h)
  unfold Format.order
  rw [e]
  cases double.read w <;> rfl

/-- Equal, less, greater: of two words. -/
def eqF (w v : Nat) : Bool := !nanB w && !nanB v && decide (sr w = sr v)
def ltF (w v : Nat) : Bool := !nanB w && !nanB v && decide (sr w < sr v)
theorem f_eq {w v : Nat} (hw : w < 18446744073709551616) (hv : v < 18446744073709551616) : (FloatKind.f64.format.order w v == some .eq) = eqF w v := by
  show (double.order w v == some .eq) = _
  unfold eqF
  cases h1 : nanB w
  · cases h2 : nanB v
    · rw [order_sr hw hv h1 h2]
      rw [Bool.eq_iff_iff]
      simp
    · rw [order_nan_right w h2]; rfl
  · rw [order_nan_left v h1]; rfl
theorem f_lt {w v : Nat} (hw : w < 18446744073709551616) (hv : v < 18446744073709551616) : (FloatKind.f64.format.order w v == some .lt) = ltF w v := by
  show (double.order w v == some .lt) = _
  unfold ltF
  cases h1 : nanB w
  · cases h2 : nanB v
    · rw [order_sr hw hv h1 h2]
      rw [Bool.eq_iff_iff]
      simp [Int.compare_eq_lt]
    · rw [order_nan_right w h2]; rfl
  · rw [order_nan_left v h1]; rfl
theorem f_gt {w v : Nat} (hw : w < 18446744073709551616) (hv : v < 18446744073709551616) : (FloatKind.f64.format.order w v == some .gt) = ltF v w := by
  show (double.order w v == some .gt) = _
  unfold ltF
  cases h1 : nanB w
  · cases h2 : nanB v
    · rw [order_sr hw hv h1 h2]
      rw [Bool.eq_iff_iff]
      simp [Int.compare_eq_gt]
    · rw [order_nan_right w h2]; rfl
  · rw [order_nan_left v h1]; simp
theorem f_ne {w v : Nat} (hw : w < 18446744073709551616) (hv : v < 18446744073709551616) : (FloatKind.f64.format.order w v != some .eq) = !eqF w v := by
  rw [bne, f_eq hw hv]

end Go.Proofs.Ytjceaaononbliaa
