/-
  Words of exact numbers: the word of digits and a place; doubled, halved, made of a whole number, with a digit more. Plain arithmetic; no program is named here.
-/
import Derived.Test.YtjceaaononbliaaRealB
namespace Go.Proofs.Ytjceaaononbliaa
open Ieee

/-- The word of a number, in units of the last place, that has no digit too many. -/
def encV (V : Nat) : Nat := (V.log2 - 52) * 4503599627370496 + V / 2 ^ (V.log2 - 52)
/-- It has no digit too many. -/
def fits (V : Nat) : Prop := 2 ^ (V.log2 - 52) ∣ V

theorem cut_exact (neg : Bool) (K d : Nat) (hK : 0 < K) : Toward.even.cut neg (K * 2 ^ d) d = K := by
  unfold Toward.cut
  have hn : K * 2 ^ d ≠ 0 := Nat.mul_ne_zero (by omega) (Nat.ne_of_gt (Nat.two_pow_pos d))
  have hl : d ≤ (K * 2 ^ d).log2 := (Nat.le_log2 hn).2 (Nat.le_mul_of_pos_left _ hK)
  rw [Nat.min_eq_left (by omega), Nat.one_shiftLeft]
  simp only [Nat.mul_div_cancel _ (Nat.two_pow_pos d), Nat.mul_mod_left]
  have h1 : decide (2 ^ d < 2 * 0) = false := by simp
  have h2 : (2 ^ d == 2 * 0) = false := by simp
  rw [h1, h2]
  simp

theorem log2_mul_pow (m k : Nat) (h : m ≠ 0) : (m * 2 ^ k).log2 = m.log2 + k := by
  have hn : m * 2 ^ k ≠ 0 := Nat.mul_ne_zero h (Nat.ne_of_gt (Nat.two_pow_pos k))
  have h1 : m.log2 + k ≤ (m * 2 ^ k).log2 := (Nat.le_log2 hn).2 (by rw [Nat.pow_add]; exact Nat.mul_le_mul_right _ (Nat.log2_self_le h))
  have h2 : (m * 2 ^ k).log2 < m.log2 + k + 1 := (Nat.log2_lt hn).2 (by
    rw [show m.log2 + k + 1 = m.log2 + 1 + k by omega, Nat.pow_add]
    exact Nat.mul_lt_mul_of_pos_right Nat.lt_log2_self (Nat.two_pow_pos k))
  omega

theorem d_word (s : Bool) (r : Nat) : double.word s r = if s then 9223372036854775808 + r else r := by unfold Format.word; rw [d_sign]

theorem d_word_pos (r : Nat) : double.word false r = r := by rw [d_word, if_neg (by decide)]

/-- Digits below the last place. -/
theorem nearest_low (s : Bool) (V k : Nat) (hV : V ≠ 0) (hf : fits V) : double.nearest s (V * 2 ^ k) (-1074 - (k : Int)) = double.word s (min (encV V) 9218868437227405312) := by
  obtain ⟨K, hK⟩ := hf
  have hK0 : 0 < K := by
    rcases Nat.eq_zero_or_pos K with h | h
    · rw [h] at hK; omega
    · exact h
  unfold Format.nearest
  rw [if_neg (Nat.mul_ne_zero hV (Nat.ne_of_gt (Nat.two_pow_pos k))), log2_mul_pow V k hV, d_least, d_frac, d_inf, d_binade]
  obtain ⟨e, he⟩ : ∃ e, V.log2 - 52 = e := ⟨_, rfl⟩
  have hlast : max ((-1074 - (k : Int)) + ((V.log2 + k : Nat) : Int) - ((52 : Nat) : Int)) (-1074) = -1074 + (e : Int) := by omega
  simp only [hlast]
  have t1 : ((-1074 - (k : Int)) - (-1074 + (e : Int))).toNat = 0 := by omega
  have t2 : ((-1074 + (e : Int)) - (-1074 - (k : Int))).toNat = e + k := by omega
  have t3 : ((-1074 + (e : Int)) - (-1074)).toNat = e := by omega
  rw [t1, t2, t3, Nat.shiftLeft_zero]
  rw [he] at hK
  have e1 : V * 2 ^ k = K * 2 ^ (e + k) := by
    rw [hK, Nat.pow_add, Nat.mul_comm (2 ^ e) K, Nat.mul_assoc]
  have e2 : V / 2 ^ e = K := by rw [hK]; exact Nat.mul_div_cancel_left _ (Nat.two_pow_pos e)
  rw [e1, cut_exact s K _ hK0]
  unfold encV
  rw [he, e2]
/-- Digits above it. -/
theorem nearest_high (s : Bool) (m k : Nat) (hm : m ≠ 0) (hf : fits (m * 2 ^ k)) : double.nearest s m (-1074 + (k : Int)) = double.word s (min (encV (m * 2 ^ k)) 9218868437227405312) := by
  obtain ⟨K, hK⟩ := hf
  have hV : m * 2 ^ k ≠ 0 := Nat.mul_ne_zero hm (Nat.ne_of_gt (Nat.two_pow_pos k))
  have hK0 : 0 < K := by
    rcases Nat.eq_zero_or_pos K with h | h
    · rw [h] at hK; omega
    · exact h
  unfold Format.nearest
  rw [if_neg hm, d_least, d_frac, d_inf, d_binade]
  have hl := log2_mul_pow m k hm
  obtain ⟨e, he⟩ : ∃ e, (m * 2 ^ k).log2 - 52 = e := ⟨_, rfl⟩
  have hlast : max ((-1074 + (k : Int)) + ((m.log2 : Nat) : Int) - ((52 : Nat) : Int)) (-1074) = -1074 + (e : Int) := by omega
  simp only [hlast]
  have t1 : ((-1074 + (k : Int)) - (-1074 + (e : Int))).toNat = k - e := by omega
  have t2 : ((-1074 + (e : Int)) - (-1074 + (k : Int))).toNat = e - k := by omega
  have t3 : ((-1074 + (e : Int)) - (-1074)).toNat = e := by omega
  rw [t1, t2, t3, Nat.shiftLeft_eq]
  rw [he] at hK
  have e1 : m * 2 ^ (k - e) = K * 2 ^ (e - k) := by
    by_cases h : e ≤ k
    · rw [show e - k = 0 by omega, Nat.pow_zero, Nat.mul_one]
      have h2 : 2 ^ e * (m * 2 ^ (k - e)) = 2 ^ e * K := by
        rw [← hK, Nat.mul_left_comm, ← Nat.pow_add, show e + (k - e) = k by omega]
      exact Nat.eq_of_mul_eq_mul_left (Nat.two_pow_pos e) h2
    · rw [show k - e = 0 by omega, Nat.pow_zero, Nat.mul_one]
      have h2 : 2 ^ k * m = 2 ^ k * (K * 2 ^ (e - k)) := by
        rw [Nat.mul_comm (2 ^ k) m, hK, Nat.mul_left_comm, ← Nat.pow_add, show k + (e - k) = e by omega, Nat.mul_comm]
      exact Nat.eq_of_mul_eq_mul_left (Nat.two_pow_pos k) h2
  have e2 : m * 2 ^ k / 2 ^ e = K := by rw [hK]; exact Nat.mul_div_cancel_left _ (Nat.two_pow_pos e)
  rw [e1, cut_exact s K _ hK0]
  unfold encV
  rw [he, e2]
theorem nearest_zero (s : Bool) (p : Int) : double.nearest s 0 p = double.word s 0 := by unfold Format.nearest; rw [if_pos rfl]
theorem encV_zero : encV 0 = 0 := by decide

/-- A number of at most 53 digits, moved up. -/
theorem fits_pow (M j : Nat) (h : M < 9007199254740992) : fits (M * 2 ^ j) := by
  unfold fits
  rcases Nat.eq_zero_or_pos M with h0 | h0
  · rw [h0, Nat.zero_mul]; exact Nat.dvd_zero _
  · rw [log2_mul_pow M j (by omega)]
    have h1 : M.log2 < 53 := (Nat.log2_lt (by omega)).2 (by rw [show (2 : Nat) ^ 53 = 9007199254740992 by decide]; exact h)
    exact Nat.dvd_trans (Nat.pow_dvd_pow 2 (show M.log2 + j - 52 ≤ j by omega)) (Nat.dvd_mul_left _ _)
theorem encV_top (V : Nat) : V / 2 ^ (V.log2 - 52) < 9007199254740992 := by
  rw [Nat.div_lt_iff_lt_mul (Nat.two_pow_pos _)]
  refine Nat.lt_of_lt_of_le (Nat.lt_log2_self) ?_
  rw [show (9007199254740992 : Nat) = 2 ^ 53 by decide, ← Nat.pow_add]
  exact Nat.pow_le_pow_right (by omega) (by omega)
theorem encV_lt (M j : Nat) (h : M < 9007199254740992) : encV (M * 2 ^ j) < (j + 2) * 4503599627370496 := by
  unfold encV
  have ht := encV_top (M * 2 ^ j)
  rcases Nat.eq_zero_or_pos M with h0 | h0
  · subst h0
    simp
  · have hl := log2_mul_pow M j (by omega)
    have h1 : M.log2 < 53 := (Nat.log2_lt (by omega)).2 (by rw [show (2 : Nat) ^ 53 = 9007199254740992 by decide]; exact h)
    have h2 : (M * 2 ^ j).log2 - 52 ≤ j := by omega
    generalize (M * 2 ^ j) / 2 ^ ((M * 2 ^ j).log2 - 52) = q at *
    have h3 : ((M * 2 ^ j).log2 - 52) * 4503599627370496 ≤ j * 4503599627370496 := Nat.mul_le_mul_right _ h2
    omega
/-- The word stands for it. -/
theorem vl_enc (V : Nat) (hf : fits V) : vl (encV V) = V := by
  obtain ⟨K, hK⟩ := hf
  unfold encV
  obtain ⟨e, he⟩ : ∃ e, V.log2 - 52 = e := ⟨_, rfl⟩
  have ht := encV_top V
  rw [he] at hK ht ⊢
  have e2 : V / 2 ^ e = K := by
    have h3 : V / 2 ^ e = 2 ^ e * K / 2 ^ e := congrArg (· / 2 ^ e) hK
    rw [h3]; exact Nat.mul_div_cancel_left _ (Nat.two_pow_pos e)
  rw [e2] at ht ⊢
  unfold vl mg
  by_cases h : V.log2 < 52
  · have e0 : e = 0 := by omega
    subst e0
    rw [Nat.pow_zero, Nat.one_mul] at hK
    have hKl : K < 4503599627370496 := by
      rw [← hK, b_pow]
      rcases Nat.eq_zero_or_pos V with h0 | h0
      · rw [h0]; exact Nat.two_pow_pos _
      · exact (Nat.log2_lt (by omega)).1 h
    rw [if_pos (by omega), Nat.zero_mul, Nat.zero_add, show K / 4503599627370496 - 1 = 0 by omega, Nat.pow_zero, Nat.mul_one, hK]
  · have hV0 : V ≠ 0 := by intro h0; rw [h0] at h; exact h (by decide)
    have hge : 2 ^ e * 4503599627370496 ≤ V := by
      rw [b_pow, ← Nat.pow_add, show e + 52 = V.log2 by omega]
      exact Nat.log2_self_le hV0
    have hKg : 4503599627370496 ≤ K := by
      rw [hK] at hge
      exact Nat.le_of_mul_le_mul_left hge (Nat.two_pow_pos e)
    have h1 : (e * 4503599627370496 + K) / 4503599627370496 - 1 = e := by omega
    have h2 : 4503599627370496 + (e * 4503599627370496 + K) % 4503599627370496 = K := by omega
    rw [if_neg (by omega), h1, h2, Nat.mul_comm]
    exact hK.symm

/-! ### What is read of it -/
theorem read_pos (r : Nat) (h : r < 9218868437227405312) : double.read r = .number false (mg r) (-1074 + ((r / 4503599627370496 - 1 : Nat) : Int)) := by
  have e : r % 9223372036854775808 = r := Nat.mod_eq_of_lt (by omega)
  have h1 := read_num r (by omega) (by omega)
  rw [e, decide_eq_false (by omega)] at h1
  exact h1
theorem read_two : double.read 4611686018427387904 = .number false 4503599627370496 (-51) := by decide +kernel

/-- Doubled. -/
theorem mul_two (V : Nat) (hf : fits V) (hf2 : fits (V * 2)) (h : encV V < 9218868437227405312) :
    floatBits .mul .f64 (encV V) 4611686018427387904 = some (min (encV (V * 2)) 9218868437227405312) := by
  have hs : floatBits .mul .f64 (encV V) 4611686018427387904 = ((double.read (encV V)).product (double.read 4611686018427387904)).map double.write := by
    unfold floatBits Format.mul FloatKind.format
    simp only
  rw [hs, read_pos _ h, read_two]
  have hv := vl_enc V hf
  obtain ⟨r, hr⟩ : ∃ r, encV V = r := ⟨_, rfl⟩
  rw [hr] at h hv ⊢
  obtain ⟨a, ha⟩ : ∃ a, r / 4503599627370496 - 1 = a := ⟨_, rfl⟩
  obtain ⟨m, hm⟩ : ∃ m, mg r = m := ⟨_, rfl⟩
  unfold vl at hv
  rw [ha, hm] at hv
  rw [ha, hm]
  simp only [Datum.product, Option.map_some, Format.write]
  congr 1
  rw [show (false ^^ false) = false from rfl]
  by_cases h0 : m = 0
  · subst h0
    rw [Nat.zero_mul, nearest_zero, d_word_pos]
    rw [Nat.zero_mul] at hv
    rw [← hv, Nat.zero_mul, encV_zero, Nat.zero_min]
  · by_cases h51 : 51 ≤ a
    · have e1 : m * 4503599627370496 * 2 ^ (a - 51) = V * 2 := by
        rw [← hv, b_pow, Nat.mul_assoc, ← Nat.pow_add, Nat.mul_assoc, ← Nat.pow_succ, show 52 + (a - 51) = a + 1 by omega]
      have e2 : (-1074 + (a : Int)) + -51 = -1074 + ((a - 51 : Nat) : Int) := by omega
      rw [e2, nearest_high false _ _ (by omega) (by rw [e1]; exact hf2), e1, d_word_pos]
    · have e1 : m * 4503599627370496 = V * 2 * 2 ^ (51 - a) := by
        rw [← hv, b_pow, Nat.mul_assoc, Nat.mul_assoc, ← Nat.pow_succ', ← Nat.pow_add, show a + (51 - a + 1) = 52 by omega]
      have e2 : (-1074 + (a : Int)) + -51 = -1074 - ((51 - a : Nat) : Int) := by omega
      have hV2 : V * 2 ≠ 0 := by
        intro h1
        rw [h1, Nat.zero_mul] at e1
        omega
      rw [e2, e1, nearest_low false _ _ hV2 hf2, d_word_pos]

end Go.Proofs.Ytjceaaononbliaa
