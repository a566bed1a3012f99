/-
  Numbers behind package mix: the hash, its lowest bits, how many of them two have alike. Plain; no program is named here.
-/
import Derived.Test.YtpdeohmgjblkeaaGrA
import Derived.Lib.TrailingZeros
import Derived.Laws.Bits64
import Derived.Laws.Bits64b
namespace Go.Proofs.Ytpdeohmgjblkeaa
open Go.RowKit

def fnv (h : Nat) (b : UInt8) : Nat := (h ^^^ b.toNat) * 16777619 % 4294967296
def fnvs (h : Nat) (l : List UInt8) : Nat := l.foldl fnv h
def start : Nat := 2166136261
def hashN (s : ByteArray) : Nat := fnvs start s.data.toList
theorem start_lt : start < 4294967296 := by unfold start; omega
def lowN (h : Nat) (n : Int) : Nat := h % 2 ^ (min n 32).toNat
def bitN (h : Nat) (i : Int) : Bool := decide (0 ≤ i ∧ i < 32 ∧ h / 2 ^ i.toNat % 2 = 1)
def alikeN (a b : Nat) : Nat := Lib.ctz 32 (a ^^^ b)

theorem xor_zero_iff (a b : Nat) : a ^^^ b = 0 ↔ a = b := by
  constructor
  · intro h
    apply Nat.eq_of_testBit_eq
    intro i
    have h1 : (a ^^^ b).testBit i = false := by rw [h]; simp
    rw [Nat.testBit_xor] at h1
    revert h1
    cases a.testBit i <;> cases b.testBit i <;> simp
  · intro h
    rw [h, Nat.xor_self]
theorem mod_next (x k : Nat) : x % 2 ^ (k + 1) = x % 2 ^ k + 2 ^ k * (x / 2 ^ k % 2) := Nat.mod_pow_succ
theorem fnv_lt (h : Nat) (b : UInt8) : fnv h b < 4294967296 := Nat.mod_lt _ (by omega)
theorem fnvs_lt (h : Nat) (l : List UInt8) (hh : h < 4294967296) : fnvs h l < 4294967296 := by
  induction l generalizing h with
  | nil => exact hh
  | cons b l ih => exact ih _ (fnv_lt _ _)
theorem fnvs_nil (h : Nat) : fnvs h [] = h := rfl
theorem fnvs_snoc (h : Nat) (l : List UInt8) (b : UInt8) : fnvs h (l ++ [b]) = fnv (fnvs h l) b := by
  unfold fnvs
  rw [List.foldl_append, List.foldl_cons, List.foldl_nil]
theorem fnvs_append (h : Nat) (l m : List UInt8) : fnvs h (l ++ m) = fnvs (fnvs h l) m := by
  unfold fnvs
  rw [List.foldl_append]
theorem hashN_lt (s : ByteArray) : hashN s < 4294967296 := fnvs_lt start _ start_lt
theorem mtake_snoc (s : ByteArray) (k : Nat) (h : k < s.size) : s.data.toList.take (k + 1) = s.data.toList.take k ++ [s[k]] := by
  rw [List.take_succ_eq_append_getElem (by simpa using h)]; rfl
theorem bits_xor_u32_nat (a b : Nat) (ha : a < 4294967296) (hb : b < 4294967296) : bits .xor .u32 (a : Int) (b : Int) = ((a ^^^ b : Nat) : Int) := by
  have hx : a ^^^ b < 2 ^ 32 := Nat.xor_lt_two_pow (by omega) (by omega)
  have h1 : (BitVec.ofInt 32 (a : Int)).toNat = a := by
    rw [BitVec.ofInt_natCast, BitVec.toNat_ofNat]; exact Nat.mod_eq_of_lt (by omega)
  have h2 : (BitVec.ofInt 32 (b : Int)).toNat = b := by
    rw [BitVec.ofInt_natCast, BitVec.toNat_ofNat]; exact Nat.mod_eq_of_lt (by omega)
  show IntKind.u32.wrap ((BitVec.ofInt 32 (a : Int) ^^^ BitVec.ofInt 32 (b : Int)).toNat : Int) = _
  rw [BitVec.toNat_xor, h1, h2]
  simp [IntKind.wrap, IntKind.signed, IntKind.bits]
  omega
theorem bits_and_u32_nat (a b : Nat) (ha : a < 4294967296) (hb : b < 4294967296) : bits .and .u32 (a : Int) (b : Int) = ((a &&& b : Nat) : Int) := by
  have hx : a &&& b < 2 ^ 32 := Nat.and_lt_two_pow _ (by omega)
  have h1 : (BitVec.ofInt 32 (a : Int)).toNat = a := by
    rw [BitVec.ofInt_natCast, BitVec.toNat_ofNat]; exact Nat.mod_eq_of_lt (by omega)
  have h2 : (BitVec.ofInt 32 (b : Int)).toNat = b := by
    rw [BitVec.ofInt_natCast, BitVec.toNat_ofNat]; exact Nat.mod_eq_of_lt (by omega)
  show IntKind.u32.wrap ((BitVec.ofInt 32 (a : Int) &&& BitVec.ofInt 32 (b : Int)).toNat : Int) = _
  rw [BitVec.toNat_and, h1, h2]
  simp [IntKind.wrap, IntKind.signed, IntKind.bits]
  omega
/-- The program's step. -/
theorem fnv_step (h : Nat) (b : UInt8) (hh : h < 4294967296) : bits .xor .u32 (h : Int) (b.toNat : Int) * 16777619 % 4294967296 = ((fnv h b : Nat) : Int) := by
  have hb := b.toNat_lt
  rw [bits_xor_u32_nat h b.toNat hh (by omega), fnv]
  omega
theorem xor_low (h b : Nat) (hb : b < 256) : h ^^^ b = h - h % 256 + (h % 256 ^^^ b) := by
  have h1 : (h ^^^ b) % 2 ^ 8 = h % 2 ^ 8 ^^^ b % 2 ^ 8 := Nat.xor_mod_two_pow
  have h2 : (h ^^^ b) / 2 ^ 8 = h / 2 ^ 8 ^^^ b / 2 ^ 8 := Nat.xor_div_two_pow
  have h3 : b / 2 ^ 8 = 0 := by omega
  have h4 : b % 2 ^ 8 = b := by omega
  rw [h3, Nat.xor_zero] at h2
  rw [h4] at h1
  have h5 : (2 : Nat) ^ 8 = 256 := by decide
  rw [h5] at h1 h2
  omega
/-- The document's step. -/
theorem fnv_ref (h : Nat) (b : UInt8) (_hh : h < 4294967296) : (h - h % 256 + (h % 256 ^^^ b.toNat)) * 16777619 % 4294967296 = fnv h b := by
  rw [← xor_low h b.toNat b.toNat_lt, fnv]

theorem lowN_lt (h : Nat) (n : Int) : lowN h n < 4294967296 := by
  have h1 : h % 2 ^ (min n 32).toNat < 2 ^ (min n 32).toNat := Nat.mod_lt _ (Nat.two_pow_pos _)
  have h2 : 2 ^ (min n 32).toNat ≤ 2 ^ 32 := Nat.pow_le_pow_right (by omega) (by omega)
  unfold lowN
  omega
theorem lowN_nat (h k : Nat) (hk : k ≤ 32) : lowN h k = h % 2 ^ k := by
  unfold lowN
  congr 2
  omega
theorem lowN_below (h : Nat) (n : Int) (hn : n < 1) : lowN h n = 0 := by
  have : (min n 32).toNat = 0 := by omega
  unfold lowN
  rw [this]
  omega
theorem lowN_above (h : Nat) (n : Int) (hn : 32 ≤ n) : lowN h n = lowN h 32 := by
  unfold lowN
  congr 2
  omega
theorem bitN_nat (x k : Nat) (hk : k < 32) : bitN x k = decide (x / 2 ^ k % 2 = 1) := by
  unfold bitN
  have h1 : ((k : Int)).toNat = k := by omega
  rw [h1]
  apply decide_eq_decide.2
  omega
theorem bitN_low (h : Nat) (k : Nat) (hk : k < 32) : (lowN h (k + 1 : Nat) != lowN h k) = bitN h k := by
  rw [lowN_nat h _ (by omega), lowN_nat h _ (by omega), mod_next, bitN_nat h k hk]
  have h2 := Nat.two_pow_pos k
  have h3 : h / 2 ^ k % 2 = 0 ∨ h / 2 ^ k % 2 = 1 := by omega
  rcases h3 with e | e <;> rw [e] <;> simp
theorem alikeN_comm (a b : Nat) : alikeN a b = alikeN b a := by unfold alikeN; rw [Nat.xor_comm]
theorem ctz_dvd (x k : Nat) (hx : x < 2 ^ 32) (hk : k ≤ 32) : x % 2 ^ k = 0 ↔ k ≤ Lib.ctz 32 x := by
  by_cases h0 : x = 0
  · subst h0
    simp [Lib.ctz]; omega
  · obtain ⟨m, hm, hc⟩ := Lib.ctzFrom_spec 32 x (by omega) hx
    have e : Lib.ctz 32 x = Lib.ctzFrom 32 x := by simp [Lib.ctz, h0]
    rw [e]
    generalize Lib.ctzFrom 32 x = c at *
    constructor
    · intro h
      apply Nat.le_of_not_lt
      intro hlt
      have h1 : 2 ^ (c + 1) ∣ x := Nat.dvd_trans (Nat.pow_dvd_pow 2 (by omega)) (Nat.dvd_of_mod_eq_zero h)
      rw [hm, Nat.pow_succ] at h1
      have h2 : 2 ∣ 2 * m + 1 := Nat.dvd_of_mul_dvd_mul_left (Nat.two_pow_pos c) h1
      omega
    · intro h
      apply Nat.mod_eq_zero_of_dvd
      rw [hm]
      exact Nat.dvd_trans (Nat.pow_dvd_pow 2 h) (Nat.dvd_mul_right _ _)
theorem alikeN_le (a b : Nat) (ha : a < 4294967296) (hb : b < 4294967296) : alikeN a b ≤ 32 := by
  have hx : a ^^^ b < 2 ^ 32 := Nat.xor_lt_two_pow (by omega) (by omega)
  unfold alikeN
  by_cases h0 : a ^^^ b = 0
  · rw [h0]; simp [Lib.ctz]
  · have := (Lib.lowest_bit 32 _ h0 hx).2
    omega
/-- As many of the lowest bits are the same as they are alike. -/
theorem alikeN_low (a b k : Nat) (ha : a < 4294967296) (hb : b < 4294967296) (hk : k ≤ 32) : lowN a k = lowN b k ↔ k ≤ alikeN a b := by
  have hx : a ^^^ b < 2 ^ 32 := Nat.xor_lt_two_pow (by omega) (by omega)
  rw [lowN_nat a k hk, lowN_nat b k hk, alikeN, ← ctz_dvd _ k hx hk, Nat.xor_mod_two_pow, xor_zero_iff]
theorem alikeN_all (a b : Nat) (ha : a < 4294967296) (hb : b < 4294967296) : alikeN a b = 32 ↔ a = b := by
  have h := alikeN_low a b 32 ha hb (by omega)
  have h1 := alikeN_le a b ha hb
  rw [lowN_nat _ _ (by omega), lowN_nat _ _ (by omega), Nat.mod_eq_of_lt (by omega), Nat.mod_eq_of_lt (by omega)] at h
  rw [h]
  omega
theorem alikeN_next (a b : Nat) (ha : a < 4294967296) (hb : b < 4294967296) (h : alikeN a b ≠ 32) : bitN a (alikeN a b : Nat) ≠ bitN b (alikeN a b : Nat) := by
  have h1 := alikeN_le a b ha hb
  have h2 := (alikeN_low a b (alikeN a b) ha hb h1).2 (Nat.le_refl _)
  have h3 : ¬ lowN a (alikeN a b + 1 : Nat) = lowN b (alikeN a b + 1 : Nat) := fun e => by
    have := (alikeN_low a b (alikeN a b + 1) ha hb (by omega)).1 e
    omega
  generalize hk : alikeN a b = k at *
  rw [lowN_nat _ _ (by omega), lowN_nat _ _ (by omega), mod_next, mod_next] at h3
  rw [lowN_nat _ _ (by omega), lowN_nat _ _ (by omega)] at h2
  rw [bitN_nat a k (by omega), bitN_nat b k (by omega)]
  intro h4
  have h5 : a / 2 ^ k % 2 = b / 2 ^ k % 2 := by
    have h6 := decide_eq_decide.1 h4
    omega
  rw [h2, h5] at h3
  exact h3 rfl

/-! Texts by a bit of their hash. -/
def mhasB (b : Int) (s : ByteArray) : Bool := bitN (hashN s) b
def stayL (b : Int) (l : List ByteArray) : List ByteArray := l.filter fun s => !mhasB b s
def goL (b : Int) (l : List ByteArray) : List ByteArray := l.filter (mhasB b)
theorem stayL_len (b : Int) (l : List ByteArray) : (stayL b l).length ≤ l.length := List.length_filter_le _ _
theorem goL_len (b : Int) (l : List ByteArray) : (goL b l).length ≤ l.length := List.length_filter_le _ _
theorem stayL_next (b : Int) (l : List ByteArray) (k : Nat) (hk : k < l.length) : stayL b (l.take (k + 1)) = if mhasB b l[k] then stayL b (l.take k) else stayL b (l.take k) ++ [l[k]] := by
  unfold stayL
  rw [List.take_succ_eq_append_getElem hk, List.filter_append]
  cases h : mhasB b l[k] <;> simp [h]
theorem goL_next (b : Int) (l : List ByteArray) (k : Nat) (hk : k < l.length) : goL b (l.take (k + 1)) = if mhasB b l[k] then goL b (l.take k) ++ [l[k]] else goL b (l.take k) := by
  unfold goL
  rw [List.take_succ_eq_append_getElem hk, List.filter_append]
  cases h : mhasB b l[k] <;> simp [h]
def someL (b : Int) (want : Bool) (l : List ByteArray) : List ByteArray := l.filter fun s => mhasB b s == want
theorem someL_len (b : Int) (want : Bool) (l : List ByteArray) : (someL b want l).length ≤ l.length := List.length_filter_le _ _
theorem someL_next (b : Int) (want : Bool) (l : List ByteArray) (k : Nat) (hk : k < l.length) : someL b want (l.take (k + 1)) = if mhasB b l[k] == want then someL b want (l.take k) ++ [l[k]] else someL b want (l.take k) := by
  unfold someL
  rw [List.take_succ_eq_append_getElem hk, List.filter_append]
  cases h : mhasB b l[k] == want <;> simp [h]
theorem someL_true (b : Int) (l : List ByteArray) : someL b true l = goL b l := by
  unfold someL goL
  congr 1
  funext s
  simp
theorem someL_false (b : Int) (l : List ByteArray) : someL b false l = stayL b l := by
  unfold someL stayL
  congr 1
  funext s
  simp
def longB (l : List ByteArray) (many size : Int) : Bool := decide (many < l.length) || l.any fun s => decide (size < s.size)

end Go.Proofs.Ytpdeohmgjblkeaa
