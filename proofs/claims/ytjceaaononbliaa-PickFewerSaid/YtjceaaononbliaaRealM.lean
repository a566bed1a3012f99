/-
  Rounding keeps the order: products, and whole parts of them. Plain arithmetic; no program is named here.
-/
import Derived.Test.YtjceaaononbliaaRealE
namespace Go.Proofs.Ytjceaaononbliaa
open Ieee

/-- n by 2 ^ d, rounded to nearest, ties to even. -/
def rnd (n d : Nat) : Nat := n / 2 ^ d + (decide (2 ^ d < 2 * (n % 2 ^ d)) || (2 ^ d == 2 * (n % 2 ^ d) && n / 2 ^ d % 2 == 1)).toNat

theorem cut_rnd (s : Bool) (n d : Nat) : Toward.even.cut s n d = rnd n d := by
  unfold Toward.cut rnd
  rw [Nat.one_shiftLeft]
  by_cases h : d ≤ n.log2 + 2
  · rw [Nat.min_eq_left h]
  · rw [Nat.min_eq_right (by omega)]
    have h1 : n < 2 ^ (n.log2 + 1) := Nat.lt_log2_self
    have h2 : 2 ^ (n.log2 + 2) ≤ 2 ^ d := Nat.pow_le_pow_right (by omega) (by omega)
    have h3 : 2 ^ (n.log2 + 2) = 2 * 2 ^ (n.log2 + 1) := by rw [Nat.pow_succ, Nat.mul_comm]
    have c1 : n / 2 ^ (n.log2 + 2) = 0 := Nat.div_eq_of_lt (by omega)
    have c2 : n / 2 ^ d = 0 := Nat.div_eq_of_lt (by omega)
    have c3 : n % 2 ^ (n.log2 + 2) = n := Nat.mod_eq_of_lt (by omega)
    have c4 : n % 2 ^ d = n := Nat.mod_eq_of_lt (by omega)
    simp only [c1, c2, c3, c4]
    have d1 : decide (2 ^ (n.log2 + 2) < 2 * n) = false := by simp; omega
    have d2 : decide (2 ^ d < 2 * n) = false := by simp; omega
    rw [d1, d2]
    simp
theorem rnd_low (n d : Nat) : n / 2 ^ d ≤ rnd n d := by unfold rnd; omega
theorem rnd_high (n d : Nat) : rnd n d ≤ n / 2 ^ d + 1 := by
  unfold rnd
  have := Bool.toNat_le (decide (2 ^ d < 2 * (n % 2 ^ d)) || (2 ^ d == 2 * (n % 2 ^ d) && n / 2 ^ d % 2 == 1))
  omega
theorem rnd_mono {n m : Nat} (d : Nat) (h : n ≤ m) : rnd n d ≤ rnd m d := by
  have hq := Nat.div_le_div_right (c := 2 ^ d) h
  rcases Nat.lt_or_eq_of_le hq with hq | hq
  · have h1 := rnd_high n d
    have h2 := rnd_low m d
    omega
  · have hn := Nat.div_add_mod n (2 ^ d)
    have hm := Nat.div_add_mod m (2 ^ d)
    rw [hq] at hn
    have hr : n % 2 ^ d ≤ m % 2 ^ d := by omega
    unfold rnd
    rw [hq]
    generalize n % 2 ^ d = r at *
    generalize m % 2 ^ d = s at *
    generalize 2 ^ d = g at *
    generalize m / g = q at *
    refine Nat.add_le_add_left ?_ q
    by_cases h1 : g < 2 * r
    · rw [decide_eq_true h1, decide_eq_true (show g < 2 * s by omega)]
      simp
    · rw [decide_eq_false h1, Bool.false_or]
      by_cases h2 : g = 2 * r
      · by_cases h3 : g < 2 * s
        · rw [decide_eq_true h3, Bool.true_or]
          exact Bool.toNat_le _
        · have : r = s := by omega
          subst this
          rw [decide_eq_false h3]
          simp
      · have h4 : (g == 2 * r) = false := by simpa using h2
        rw [h4]
        simp
theorem rnd_scale (n d k : Nat) : rnd (n * 2 ^ k) (d + k) = rnd n d := by
  unfold rnd
  have h1 : n * 2 ^ k / 2 ^ (d + k) = n / 2 ^ d := by rw [Nat.pow_add, Nat.mul_div_mul_right _ _ (Nat.two_pow_pos k)]
  have h2 : n * 2 ^ k % 2 ^ (d + k) = n % 2 ^ d * 2 ^ k := by rw [Nat.pow_add, Nat.mul_mod_mul_right]
  rw [h1, h2, Nat.pow_add]
  have hp := Nat.two_pow_pos k
  have h3 : 2 * (n % 2 ^ d * 2 ^ k) = 2 * (n % 2 ^ d) * 2 ^ k := by rw [Nat.mul_assoc]
  rw [h3]
  have h4 : decide (2 ^ d * 2 ^ k < 2 * (n % 2 ^ d) * 2 ^ k) = decide (2 ^ d < 2 * (n % 2 ^ d)) := by
    rw [Bool.eq_iff_iff]
    simp only [decide_eq_true_eq]
    exact Nat.mul_lt_mul_right hp
  have h5 : (2 ^ d * 2 ^ k == 2 * (n % 2 ^ d) * 2 ^ k) = (2 ^ d == 2 * (n % 2 ^ d)) := by
    rw [Bool.eq_iff_iff]
    simp only [beq_iff_eq]
    exact ⟨fun h => Nat.eq_of_mul_eq_mul_right hp h, fun h => congrArg (· * 2 ^ k) h⟩
  rw [h4, h5]
theorem rnd_zero (n : Nat) : rnd n 0 = n := by
  unfold rnd
  rw [Nat.pow_zero, Nat.div_one, Nat.mod_one]
  rfl

/-- The place of the last digit that is kept. -/
def lastP (m : Nat) (p : Int) : Int := max (p + (m.log2 : Int) - 52) (-1074)
/-- What is kept. -/
def keptP (m : Nat) (p : Int) : Nat := rnd (m * 2 ^ (p - lastP m p).toNat) (lastP m p - p).toNat
theorem nearest_eq (s : Bool) (m : Nat) (p : Int) (h : m ≠ 0) : double.nearest s m p = double.word s (min ((lastP m p + 1074).toNat * 4503599627370496 + keptP m p) 9218868437227405312) := by
  unfold Format.nearest
  rw [if_neg h, d_least, d_frac, d_inf, d_binade]
  simp only [cut_rnd, Nat.shiftLeft_eq]
  rfl
/-- Of one value the word is one. -/
theorem nearest_scale (s : Bool) (m k : Nat) (p : Int) : double.nearest s (m * 2 ^ k) p = double.nearest s m (p + (k : Int)) := by
  rcases Nat.eq_zero_or_pos m with h0 | h0
  · rw [h0, Nat.zero_mul, nearest_zero, nearest_zero]
  · rw [nearest_eq s _ _ (Nat.mul_ne_zero (by omega) (Nat.ne_of_gt (Nat.two_pow_pos k))), nearest_eq s m _ (by omega)]
    have hl : lastP (m * 2 ^ k) p = lastP m (p + (k : Int)) := by
      unfold lastP
      rw [log2_mul_pow m k (by omega)]
      congr 1
      omega
    have hk : keptP (m * 2 ^ k) p = keptP m (p + (k : Int)) := by
      unfold keptP
      rw [hl]
      generalize lastP m (p + (k : Int)) = L
      rw [Nat.mul_assoc, ← Nat.pow_add]
      by_cases h1 : L ≤ p
      · rw [show (L - p).toNat = 0 by omega, show (L - (p + (k : Int))).toNat = 0 by omega, show k + (p - L).toNat = (p + (k : Int) - L).toNat by omega]
      · rw [show (p - L).toNat = 0 by omega, Nat.add_zero]
        by_cases h2 : L ≤ p + k
        · rw [show (L - (p + (k : Int))).toNat = 0 by omega, rnd_zero]
          obtain ⟨u, hu⟩ : ∃ u, (p + (k : Int) - L).toNat = u := ⟨_, rfl⟩
          obtain ⟨v, hv⟩ : ∃ v, (L - p).toNat = v := ⟨_, rfl⟩
          rw [hu, hv]
          have e : m * 2 ^ k = m * 2 ^ u * 2 ^ v := by rw [Nat.mul_assoc, ← Nat.pow_add, show u + v = k by omega]
          have h3 := rnd_scale (m * 2 ^ u) 0 v
          rw [Nat.zero_add, rnd_zero] at h3
          rw [e, h3]
        · rw [show (p + (k : Int) - L).toNat = 0 by omega, Nat.pow_zero, Nat.mul_one, show (L - p).toNat = (L - (p + (k : Int))).toNat + k by omega, rnd_scale]
    rw [hl, hk]
theorem nearest_mono (m n : Nat) (p : Int) (h : m ≤ n) : double.nearest false m p ≤ double.nearest false n p := by
  rcases Nat.eq_zero_or_pos m with h0 | h0
  · rw [h0, nearest_zero, d_word_pos]; exact Nat.zero_le _
  · rw [nearest_eq false m p (by omega), nearest_eq false n p (by omega), d_word_pos, d_word_pos]
    have hlog : m.log2 ≤ n.log2 := (Nat.le_log2 (by omega)).2 (Nat.le_trans (Nat.log2_self_le (by omega)) h)
    have key : (lastP m p + 1074).toNat * 4503599627370496 + keptP m p ≤ (lastP n p + 1074).toNat * 4503599627370496 + keptP n p := by
      by_cases hL : lastP m p = lastP n p
      · unfold keptP
        rw [hL]
        exact Nat.add_le_add_left (rnd_mono _ (Nat.mul_le_mul_right _ h)) _
      · have hlt : lastP m p < lastP n p := by unfold lastP at *; omega
        have hn : lastP n p = p + (n.log2 : Int) - 52 := by unfold lastP at *; omega
        have hm1 : p + (m.log2 : Int) - 52 ≤ lastP m p := by unfold lastP; omega
        have hm2 : -1074 ≤ lastP m p := by unfold lastP; omega
        have k1 : keptP m p ≤ 9007199254740992 := by
          unfold keptP
          generalize lastP m p = L at *
          have hml : m < 2 ^ (m.log2 + 1) := Nat.lt_log2_self
          have e53 : (9007199254740992 : Nat) = 2 ^ 53 := by decide
          by_cases h1 : L ≤ p
          · rw [show (L - p).toNat = 0 by omega, rnd_zero, e53]
            have h2 : m * 2 ^ (p - L).toNat ≤ 2 ^ (m.log2 + 1) * 2 ^ (p - L).toNat := Nat.mul_le_mul_right _ (by omega)
            rw [← Nat.pow_add] at h2
            exact Nat.le_trans h2 (Nat.pow_le_pow_right (by omega) (by omega))
          · rw [show (p - L).toNat = 0 by omega, Nat.pow_zero, Nat.mul_one]
            have h2 := rnd_high m (L - p).toNat
            have h3 : m / 2 ^ (L - p).toNat < 2 ^ 53 := by
              rw [Nat.div_lt_iff_lt_mul (Nat.two_pow_pos _), ← Nat.pow_add]
              exact Nat.lt_of_lt_of_le hml (Nat.pow_le_pow_right (by omega) (by omega))
            rw [← e53] at h3
            omega
        have k2 : 4503599627370496 ≤ keptP n p := by
          unfold keptP
          rw [hn]
          have hnl : 2 ^ n.log2 ≤ n := Nat.log2_self_le (by omega)
          rw [b_pow]
          by_cases h1 : n.log2 ≤ 52
          · rw [show (p + (n.log2 : Int) - 52 - p).toNat = 0 by omega, rnd_zero, show (p - (p + (n.log2 : Int) - 52)).toNat = 52 - n.log2 by omega]
            have h2 : 2 ^ n.log2 * 2 ^ (52 - n.log2) ≤ n * 2 ^ (52 - n.log2) := Nat.mul_le_mul_right _ hnl
            rw [← Nat.pow_add, show n.log2 + (52 - n.log2) = 52 by omega] at h2
            exact h2
          · rw [show (p + (n.log2 : Int) - 52 - p).toNat = n.log2 - 52 by omega, show (p - (p + (n.log2 : Int) - 52)).toNat = 0 by omega, Nat.pow_zero, Nat.mul_one]
            refine Nat.le_trans ?_ (rnd_low _ _)
            rw [Nat.le_div_iff_mul_le (Nat.two_pow_pos _), ← Nat.pow_add, show 52 + (n.log2 - 52) = n.log2 by omega]
            exact hnl
        have h5 : (lastP m p + 1074).toNat + 1 ≤ (lastP n p + 1074).toNat := by omega
        have h6 := Nat.mul_le_mul_right 4503599627370496 h5
        omega
    omega
theorem nearest_le (m : Nat) (p : Int) : double.nearest false m p ≤ 9218868437227405312 := by
  rcases Nat.eq_zero_or_pos m with h0 | h0
  · rw [h0, nearest_zero, d_word_pos]; omega
  · rw [nearest_eq false m p (by omega), d_word_pos]
    exact Nat.min_le_right _ _

/-- A product of two that are not below nought, in units of the last place twice over. -/
def mulW (x y : Nat) : Nat := double.nearest false (vl x * vl y) (-2148)
theorem mul_val (x y : Nat) (hx : x < 9218868437227405312) (hy : y < 9218868437227405312) : floatBits .mul .f64 x y = some (mulW x y) := by
  have hs : floatBits .mul .f64 x y = ((double.read x).product (double.read y)).map double.write := by
    unfold floatBits Format.mul FloatKind.format
    simp only
  rw [hs, read_pos x hx, read_pos y hy]
  simp only [Datum.product, Option.map_some, Format.write]
  congr 1
  rw [show (false ^^ false) = false from rfl]
  unfold mulW vl
  generalize x / 4503599627370496 - 1 = a
  generalize y / 4503599627370496 - 1 = b
  have e : mg x * 2 ^ a * (mg y * 2 ^ b) = mg x * mg y * 2 ^ (a + b) := by
    rw [Nat.pow_add, Nat.mul_assoc, Nat.mul_assoc, Nat.mul_left_comm (2 ^ a)]
  rw [e, nearest_scale]
  congr 1
  omega
theorem vl_le {x y : Nat} (h : x ≤ y) : vl x ≤ vl y := by
  rcases Nat.lt_or_eq_of_le h with h | h
  · exact Nat.le_of_lt (vl_lt h)
  · rw [h]; exact Nat.le_refl _
theorem mulW_mono {x x' y y' : Nat} (hx : x ≤ x') (hy : y ≤ y') : mulW x y ≤ mulW x' y' := nearest_mono _ _ _ (Nat.mul_le_mul (vl_le hx) (vl_le hy))

/-- The whole part. -/
def wholeW (x : Nat) : Nat := vl x / 2 ^ 1074
theorem wholeW_mono {x y : Nat} (h : x ≤ y) : wholeW x ≤ wholeW y := Nat.div_le_div_right (vl_le h)
theorem cut_zero (s : Bool) (n d : Nat) : Toward.zero.cut s n d = n / 2 ^ d := by
  unfold Toward.cut
  rw [Nat.one_shiftLeft]
  simp only [Bool.toNat_false, Nat.add_zero]
  by_cases h : d ≤ n.log2 + 2
  · rw [Nat.min_eq_left h]
  · rw [Nat.min_eq_right (by omega)]
    have h1 : n < 2 ^ (n.log2 + 1) := Nat.lt_log2_self
    have h2 : 2 ^ (n.log2 + 2) ≤ 2 ^ d := Nat.pow_le_pow_right (by omega) (by omega)
    have h3 : 2 ^ (n.log2 + 2) = 2 * 2 ^ (n.log2 + 1) := by rw [Nat.pow_succ, Nat.mul_comm]
    rw [Nat.div_eq_of_lt (by omega), Nat.div_eq_of_lt (by omega)]
theorem toInt_val (x : Nat) (hx : x < 9218868437227405312) : (FloatKind.f64.decode x).toInt .zero = some ((wholeW x : Nat) : Int) := by
  show (double.read x).toInt .zero = _
  rw [read_pos x hx]
  unfold Datum.toInt
  simp only [Datum.integral, cut_zero, Nat.shiftLeft_eq, signed_eq, Nat.pow_zero, Nat.mul_one, Bool.false_eq_true, if_false]
  congr 2
  unfold wholeW vl
  generalize x / 4503599627370496 - 1 = a
  obtain ⟨T, hT⟩ : ∃ T : Nat, T = 1074 := ⟨_, rfl⟩
  have e1 : (-1074 + (a : Int)).toNat = a - T := by omega
  have e2 : (-(-1074 + (a : Int))).toNat = T - a := by omega
  rw [e1, e2, ← hT]
  clear hT e1 e2
  by_cases h : T ≤ a
  · rw [show T - a = 0 by omega, Nat.pow_zero, Nat.div_one]
    rw [show mg x * 2 ^ a = mg x * 2 ^ (a - T) * 2 ^ T by rw [Nat.mul_assoc, ← Nat.pow_add, Nat.sub_add_cancel h], Nat.mul_div_cancel _ (Nat.two_pow_pos T)]
  · rw [show a - T = 0 by omega, Nat.pow_zero, Nat.mul_one]
    have h2 : 2 ^ T = 2 ^ (T - a) * 2 ^ a := by rw [← Nat.pow_add, Nat.sub_add_cancel (by omega)]
    rw [h2, Nat.mul_div_mul_right _ _ (Nat.two_pow_pos a)]

/-- A whole number not below nought, as a floating one: the greater the greater. -/
theorem ofInt_nearest (n : Nat) : floatOfInt .f64 (n : Int) = double.nearest false n 0 := by
  unfold floatOfInt FloatKind.nearest FloatKind.encode FloatKind.format Format.write
  simp only
  rw [show decide ((n : Int) < 0) = false by simp, Int.natAbs_natCast]
theorem ofInt_mono {n m : Nat} (h : n ≤ m) : floatOfInt .f64 (n : Int) ≤ floatOfInt .f64 (m : Int) := by
  rw [ofInt_nearest, ofInt_nearest]; exact nearest_mono _ _ _ h
theorem ofInt_top {n : Nat} (h : n < 9223372036854775808) : floatOfInt .f64 (n : Int) ≤ 4890909195324358656 := by
  have h1 := ofInt_mono (show n ≤ 9223372036854775807 by omega)
  have h2 : floatOfInt .f64 ((9223372036854775807 : Nat) : Int) = 4890909195324358656 := by decide +kernel
  omega
/-- A weight below 1 times a number of things is below 2 ^ 63. -/
theorem mul_below {w n : Nat} (hw : w < 4607182418800017408) (hn : n < 9223372036854775808) : mulW w (floatOfInt .f64 (n : Int)) ≤ 4890909195324358655 ∧ wholeW (mulW w (floatOfInt .f64 (n : Int))) ≤ 9223372036854774784 := by
  have h1 := mulW_mono (show w ≤ 4607182418800017407 by omega) (ofInt_top hn)
  have h2 : mulW 4607182418800017407 4890909195324358656 = 4890909195324358655 := by decide +kernel
  rw [h2] at h1
  have h3 := wholeW_mono h1
  have h4 : wholeW 4890909195324358655 = 9223372036854774784 := by decide +kernel
  exact ⟨h1, by omega⟩
theorem fewer_step : ∀ k : Fin 255, keyN (ratioW (k.val : Nat) 14) ≤ keyN (ratioW ((k.val + 1 : Nat) : Int) 14) := by decide +kernel

end Go.Proofs.Ytjceaaononbliaa
