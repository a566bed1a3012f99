/-
  Texts of this claim joined: MixA, SuperA, LayV, SuperB, SuperC, GeomA, InoA, PatchA, TabA, ChartA.
-/
import Derived.Test.YtkakihbfhmiabaaGreatGrAA
import Derived.Lib.TrailingZeros
import Derived.Laws.Bits64
import Derived.Laws.Bits64b
import Derived.Laws.BitsLemmas

/-
  Numbers behind package mix: the hash, its lowest bits, how many of them two have alike. Plain; no program is named here.
-/
namespace Go.Proofs.YtkakihbfhmiabaaGreat
open Go.RowKit

def fnv (h : Nat) (b : UInt8) : Nat := (h ^^^ b.toNat) * 16777619 % 4294967296
def fnvs (h : Nat) (l : List UInt8) : Nat := l.foldl fnv h
def start : Nat := 2166136261
def hashN (s : ByteArray) : Nat := fnvs start s.data.toList
theorem start_lt : start < 4294967296 := by unfold start; omega
def lowN (h : Nat) (n : Int) : Nat := h % 2 ^ (min n 32).toNat
def bitN (h : Nat) (i : Int) : Bool := decide (0 ≤ i ∧ i < 32 ∧ h / 2 ^ i.toNat % 2 = 1)
def alikeN (a b : Nat) : Nat := Lib.ctz 32 (a ^^^ b)

theorem xor_zero_iff (a b : Nat) : a ^^^ b = 0 ↔ a = b := by
  constructor
  · intro h
    apply Nat.eq_of_testBit_eq
    intro i
    have h1 : (a ^^^ b).testBit i = false := by rw [h]; simp
    rw [Nat.testBit_xor] at h1
    revert h1
    cases a.testBit i <;> cases b.testBit i <;> simp
  · intro h
    rw [h, Nat.xor_self]
theorem mod_next (x k : Nat) : x % 2 ^ (k + 1) = x % 2 ^ k + 2 ^ k * (x / 2 ^ k % 2) := Nat.mod_pow_succ
theorem fnv_lt (h : Nat) (b : UInt8) : fnv h b < 4294967296 := Nat.mod_lt _ (by omega)
theorem fnvs_lt (h : Nat) (l : List UInt8) (hh : h < 4294967296) : fnvs h l < 4294967296 := by
  induction l generalizing h with
  | nil => exact hh
  | cons b l ih => exact ih _ (fnv_lt _ _)
theorem fnvs_nil (h : Nat) : fnvs h [] = h := rfl
theorem fnvs_snoc (h : Nat) (l : List UInt8) (b : UInt8) : fnvs h (l ++ [b]) = fnv (fnvs h l) b := by
  unfold fnvs
  rw [List.foldl_append, List.foldl_cons, List.foldl_nil]
theorem fnvs_append (h : Nat) (l m : List UInt8) : fnvs h (l ++ m) = fnvs (fnvs h l) m := by
  unfold fnvs
  rw [List.foldl_append]
theorem hashN_lt (s : ByteArray) : hashN s < 4294967296 := fnvs_lt start _ start_lt
theorem mtake_snoc (s : ByteArray) (k : Nat) (h : k < s.size) : s.data.toList.take (k + 1) = s.data.toList.take k ++ [s[k]] := by
  rw [List.take_succ_eq_append_getElem (by simpa using h)]; rfl
theorem bits_xor_u32_nat (a b : Nat) (ha : a < 4294967296) (hb : b < 4294967296) : bits .xor .u32 (a : Int) (b : Int) = ((a ^^^ b : Nat) : Int) := by
  have hx : a ^^^ b < 2 ^ 32 := Nat.xor_lt_two_pow (by omega) (by omega)
  have h1 : (BitVec.ofInt 32 (a : Int)).toNat = a := by
    rw [BitVec.ofInt_natCast, BitVec.toNat_ofNat]; exact Nat.mod_eq_of_lt (by omega)
  have h2 : (BitVec.ofInt 32 (b : Int)).toNat = b := by
    rw [BitVec.ofInt_natCast, BitVec.toNat_ofNat]; exact Nat.mod_eq_of_lt (by omega)
  show IntKind.u32.wrap ((BitVec.ofInt 32 (a : Int) ^^^ BitVec.ofInt 32 (b : Int)).toNat : Int) = _
  rw [BitVec.toNat_xor, h1, h2]
  simp [IntKind.wrap, IntKind.signed, IntKind.bits]
  omega
theorem bits_and_u32_nat (a b : Nat) (ha : a < 4294967296) (hb : b < 4294967296) : bits .and .u32 (a : Int) (b : Int) = ((a &&& b : Nat) : Int) := by
  have hx : a &&& b < 2 ^ 32 := Nat.and_lt_two_pow _ (by omega)
  have h1 : (BitVec.ofInt 32 (a : Int)).toNat = a := by
    rw [BitVec.ofInt_natCast, BitVec.toNat_ofNat]; exact Nat.mod_eq_of_lt (by omega)
  have h2 : (BitVec.ofInt 32 (b : Int)).toNat = b := by
    rw [BitVec.ofInt_natCast, BitVec.toNat_ofNat]; exact Nat.mod_eq_of_lt (by omega)
  show IntKind.u32.wrap ((BitVec.ofInt 32 (a : Int) &&& BitVec.ofInt 32 (b : Int)).toNat : Int) = _
  rw [BitVec.toNat_and, h1, h2]
  simp [IntKind.wrap, IntKind.signed, IntKind.bits]
  omega
/-- The program's step. -/
theorem fnv_step (h : Nat) (b : UInt8) (hh : h < 4294967296) : bits .xor .u32 (h : Int) (b.toNat : Int) * 16777619 % 4294967296 = ((fnv h b : Nat) : Int) := by
  have hb := b.toNat_lt
  rw [bits_xor_u32_nat h b.toNat hh (by omega), fnv]
  omega
theorem xor_low (h b : Nat) (hb : b < 256) : h ^^^ b = h - h % 256 + (h % 256 ^^^ b) := by
  have h1 : (h ^^^ b) % 2 ^ 8 = h % 2 ^ 8 ^^^ b % 2 ^ 8 := Nat.xor_mod_two_pow
  have h2 : (h ^^^ b) / 2 ^ 8 = h / 2 ^ 8 ^^^ b / 2 ^ 8 := Nat.xor_div_two_pow
  have h3 : b / 2 ^ 8 = 0 := by omega
  have h4 : b % 2 ^ 8 = b := by omega
  rw [h3, Nat.xor_zero] at h2
  rw [h4] at h1
  have h5 : (2 : Nat) ^ 8 = 256 := by decide
  rw [h5] at h1 h2
  omega
/-- The document's step. -/
theorem fnv_ref (h : Nat) (b : UInt8) (_hh : h < 4294967296) : (h - h % 256 + (h % 256 ^^^ b.toNat)) * 16777619 % 4294967296 = fnv h b := by
  rw [← xor_low h b.toNat b.toNat_lt, fnv]

theorem lowN_lt (h : Nat) (n : Int) : lowN h n < 4294967296 := by
  have h1 : h % 2 ^ (min n 32).toNat < 2 ^ (min n 32).toNat := Nat.mod_lt _ (Nat.two_pow_pos _)
  have h2 : 2 ^ (min n 32).toNat ≤ 2 ^ 32 := Nat.pow_le_pow_right (by omega) (by omega)
  unfold lowN
  omega
theorem lowN_nat (h k : Nat) (hk : k ≤ 32) : lowN h k = h % 2 ^ k := by
  unfold lowN
  congr 2
  omega
theorem lowN_below (h : Nat) (n : Int) (hn : n < 1) : lowN h n = 0 := by
  have : (min n 32).toNat = 0 := by omega
  unfold lowN
  rw [this]
  omega
theorem lowN_above (h : Nat) (n : Int) (hn : 32 ≤ n) : lowN h n = lowN h 32 := by
  unfold lowN
  congr 2
  omega
theorem bitN_nat (x k : Nat) (hk : k < 32) : bitN x k = decide (x / 2 ^ k % 2 = 1) := by
  unfold bitN
  have h1 : ((k : Int)).toNat = k := by omega
  rw [h1]
  apply decide_eq_decide.2
  omega
theorem bitN_low (h : Nat) (k : Nat) (hk : k < 32) : (lowN h (k + 1 : Nat) != lowN h k) = bitN h k := by
  rw [lowN_nat h _ (by omega), lowN_nat h _ (by omega), mod_next, bitN_nat h k hk]
  have h2 := Nat.two_pow_pos k
  have h3 : h / 2 ^ k % 2 = 0 ∨ h / 2 ^ k % 2 = 1 := by omega
  rcases h3 with e | e <;> rw [e] <;> simp
theorem alikeN_comm (a b : Nat) : alikeN a b = alikeN b a := by unfold alikeN; rw [Nat.xor_comm]
theorem ctz_dvd (x k : Nat) (hx : x < 2 ^ 32) (hk : k ≤ 32) : x % 2 ^ k = 0 ↔ k ≤ Lib.ctz 32 x := by
  by_cases h0 : x = 0
  · subst h0
    simp [Lib.ctz]; omega
  · obtain ⟨m, hm, hc⟩ := Lib.ctzFrom_spec 32 x (by omega) hx
    have e : Lib.ctz 32 x = Lib.ctzFrom 32 x := by simp [Lib.ctz, h0]
    rw [e]
    generalize Lib.ctzFrom 32 x = c at *
    constructor
    · intro h
      apply Nat.le_of_not_lt
      intro hlt
      have h1 : 2 ^ (c + 1) ∣ x := Nat.dvd_trans (Nat.pow_dvd_pow 2 (by omega)) (Nat.dvd_of_mod_eq_zero h)
      rw [hm, Nat.pow_succ] at h1
      have h2 : 2 ∣ 2 * m + 1 := Nat.dvd_of_mul_dvd_mul_left (Nat.two_pow_pos c) h1
      omega
    · intro h
      apply Nat.mod_eq_zero_of_dvd
      rw [hm]
      exact Nat.dvd_trans (Nat.pow_dvd_pow 2 h) (Nat.dvd_mul_right _ _)
theorem alikeN_le (a b : Nat) (ha : a < 4294967296) (hb : b < 4294967296) : alikeN a b ≤ 32 := by
  have hx : a ^^^ b < 2 ^ 32 := Nat.xor_lt_two_pow (by omega) (by omega)
  unfold alikeN
  by_cases h0 : a ^^^ b = 0
  · rw [h0]; simp [Lib.ctz]
  · have := (Lib.lowest_bit 32 _ h0 hx).2
    omega
/-- As many of the lowest bits are the same as they are alike. -/
theorem alikeN_low (a b k : Nat) (ha : a < 4294967296) (hb : b < 4294967296) (hk : k ≤ 32) : lowN a k = lowN b k ↔ k ≤ alikeN a b := by
  have hx : a ^^^ b < 2 ^ 32 := Nat.xor_lt_two_pow (by omega) (by omega)
  rw [lowN_nat a k hk, lowN_nat b k hk, alikeN, ← ctz_dvd _ k hx hk, Nat.xor_mod_two_pow, xor_zero_iff]
theorem alikeN_all (a b : Nat) (ha : a < 4294967296) (hb : b < 4294967296) : alikeN a b = 32 ↔ a = b := by
  have h := alikeN_low a b 32 ha hb (by omega)
  have h1 := alikeN_le a b ha hb
  rw [lowN_nat _ _ (by omega), lowN_nat _ _ (by omega), Nat.mod_eq_of_lt (by omega), Nat.mod_eq_of_lt (by omega)] at h
  rw [h]
  omega
theorem alikeN_next (a b : Nat) (ha : a < 4294967296) (hb : b < 4294967296) (h : alikeN a b ≠ 32) : bitN a (alikeN a b : Nat) ≠ bitN b (alikeN a b : Nat) := by
  have h1 := alikeN_le a b ha hb
  have h2 := (alikeN_low a b (alikeN a b) ha hb h1).2 (Nat.le_refl _)
  have h3 : ¬ lowN a (alikeN a b + 1 : Nat) = lowN b (alikeN a b + 1 : Nat) := fun e => by
    have := (alikeN_low a b (alikeN a b + 1) ha hb (by omega)).1 e
    omega
  generalize hk : alikeN a b = k at *
  rw [lowN_nat _ _ (by omega), lowN_nat _ _ (by omega), mod_next, mod_next] at h3
  rw [lowN_nat _ _ (by omega), lowN_nat _ _ (by omega)] at h2
  rw [bitN_nat a k (by omega), bitN_nat b k (by omega)]
  intro h4
  have h5 : a / 2 ^ k % 2 = b / 2 ^ k % 2 := by
    have h6 := decide_eq_decide.1 h4
    omega
  rw [h2, h5] at h3
  exact h3 rfl

/-! Texts by a bit of their hash. -/
def mhasB (b : Int) (s : ByteArray) : Bool := bitN (hashN s) b
def stayL (b : Int) (l : List ByteArray) : List ByteArray := l.filter fun s => !mhasB b s
def goL (b : Int) (l : List ByteArray) : List ByteArray := l.filter (mhasB b)
theorem stayL_len (b : Int) (l : List ByteArray) : (stayL b l).length ≤ l.length := List.length_filter_le _ _
theorem goL_len (b : Int) (l : List ByteArray) : (goL b l).length ≤ l.length := List.length_filter_le _ _
theorem stayL_next (b : Int) (l : List ByteArray) (k : Nat) (hk : k < l.length) : stayL b (l.take (k + 1)) = if mhasB b l[k] then stayL b (l.take k) else stayL b (l.take k) ++ [l[k]] := by
  unfold stayL
  rw [List.take_succ_eq_append_getElem hk, List.filter_append]
  cases h : mhasB b l[k] <;> simp [h]
theorem goL_next (b : Int) (l : List ByteArray) (k : Nat) (hk : k < l.length) : goL b (l.take (k + 1)) = if mhasB b l[k] then goL b (l.take k) ++ [l[k]] else goL b (l.take k) := by
  unfold goL
  rw [List.take_succ_eq_append_getElem hk, List.filter_append]
  cases h : mhasB b l[k] <;> simp [h]
def someL (b : Int) (want : Bool) (l : List ByteArray) : List ByteArray := l.filter fun s => mhasB b s == want
theorem someL_len (b : Int) (want : Bool) (l : List ByteArray) : (someL b want l).length ≤ l.length := List.length_filter_le _ _
theorem someL_next (b : Int) (want : Bool) (l : List ByteArray) (k : Nat) (hk : k < l.length) : someL b want (l.take (k + 1)) = if mhasB b l[k] == want then someL b want (l.take k) ++ [l[k]] else someL b want (l.take k) := by
  unfold someL
  rw [List.take_succ_eq_append_getElem hk, List.filter_append]
  cases h : mhasB b l[k] == want <;> simp [h]
theorem someL_true (b : Int) (l : List ByteArray) : someL b true l = goL b l := by
  unfold someL goL
  congr 1
  funext s
  simp
theorem someL_false (b : Int) (l : List ByteArray) : someL b false l = stayL b l := by
  unfold someL stayL
  congr 1
  funext s
  simp
def longB (l : List ByteArray) (many size : Int) : Bool := decide (many < l.length) || l.any fun s => decide (size < s.size)

end Go.Proofs.YtkakihbfhmiabaaGreat

/-
  The hash of bytes: one byte that is another one makes another hash (the factor is odd, so each step can be undone). Plain; no program is named here.
-/
namespace Go.Proofs.YtkakihbfhmiabaaGreat

theorem odd_inj {M p q k u v : Nat} (hpq : p * q = M * k + 1) (hu : u < M) (hv : v < M) (h : u * p % M = v * p % M) : u = v := by
  have key : ∀ x, x < M → (x * p % M) * q % M = x := fun x hx => by
    rw [Nat.mod_mul_mod, Nat.mul_assoc, hpq, Nat.mul_add, Nat.mul_one, Nat.mul_left_comm, Nat.mul_add_mod, Nat.mod_eq_of_lt hx]
  rw [← key u hu, h, key v hv]
theorem factor_inv : 16777619 * 899433627 = 4294967296 * 3513497 + 1 := by decide
theorem xor_back (a x : Nat) : (a ^^^ x) ^^^ x = a := by rw [Nat.xor_assoc, Nat.xor_self, Nat.xor_zero]
theorem xor_lt32 {a : Nat} (h : a < 4294967296) (b : UInt8) : a ^^^ b.toNat < 4294967296 :=
  Nat.xor_lt_two_pow (n := 32) h (Nat.lt_trans b.toNat_lt (by decide))
/-- Of two hashes that a byte is added to. -/
theorem fnv_inj {a b : Nat} {x : UInt8} (ha : a < 4294967296) (hb : b < 4294967296) (h : fnv a x = fnv b x) : a = b := by
  unfold fnv at h
  have h1 := odd_inj factor_inv (xor_lt32 ha x) (xor_lt32 hb x) h
  rw [← xor_back a x.toNat, h1, xor_back]
/-- Of two bytes that are added to a hash. -/
theorem fnv_byte {a : Nat} {x y : UInt8} (ha : a < 4294967296) (h : fnv a x = fnv a y) : x = y := by
  unfold fnv at h
  have h1 := odd_inj factor_inv (xor_lt32 ha x) (xor_lt32 ha y) h
  have h2 : x.toNat = y.toNat := by
    rw [← xor_back x.toNat a, Nat.xor_comm x.toNat a, h1, Nat.xor_comm a y.toNat, xor_back]
  exact UInt8.toNat_inj.1 h2
theorem fnvs_inj {l : List UInt8} : ∀ {a b : Nat}, a < 4294967296 → b < 4294967296 → fnvs a l = fnvs b l → a = b := by
  induction l with
  | nil => intro a b _ _ h; exact h
  | cons c l ih => intro a b ha hb h; exact fnv_inj ha hb (ih (fnv_lt _ _) (fnv_lt _ _) h)
/-- One byte is another one: so is the hash. -/
theorem fnvs_set {h : Nat} (hh : h < 4294967296) (l : List UInt8) (k : Nat) (hk : k < l.length) (x : UInt8) (hx : l[k] ≠ x) : fnvs h (l.set k x) ≠ fnvs h l := fun e => by
  have e1 : l = l.take k ++ l[k] :: l.drop (k + 1) := by rw [List.getElem_cons_drop, List.take_append_drop]
  have e2 : l.set k x = l.take k ++ x :: l.drop (k + 1) := by rw [List.set_eq_take_append_cons_drop, if_pos hk]
  rw [e2] at e
  have e3 : fnvs h l = fnvs h (l.take k ++ l[k] :: l.drop (k + 1)) := congrArg _ e1
  rw [e3, fnvs_append, fnvs_append] at e
  have h1 := fnvs_lt h (l.take k) hh
  have e4 : fnvs (fnv (fnvs h (l.take k)) x) (l.drop (k + 1)) = fnvs (fnv (fnvs h (l.take k)) l[k]) (l.drop (k + 1)) := e
  exact hx (fnv_byte h1 (fnvs_inj (fnv_lt _ _) (fnv_lt _ _) e4)).symm

end Go.Proofs.YtkakihbfhmiabaaGreat

/-
  A layout: as a value, and which may be. Plain; no program is named here.
-/
namespace Go.Proofs.YtkakihbfhmiabaaGreat
open Go.RowKit

/-- A layout. -/
structure Lay14 where
  blocks : Int
  inodes : Int
  merge : Nat
def Lay14.may (l : Lay14) : Bool := decide (16 ≤ l.blocks ∧ l.blocks ≤ 512 ∧ 8 ≤ l.inodes ∧ l.inodes ≤ 128 ∧ l.inodes % 8 = 0 ∧ 2 + l.inodes / 8 < l.blocks)
theorem Lay14.may_iff {l : Lay14} : l.may = true ↔ 16 ≤ l.blocks ∧ l.blocks ≤ 512 ∧ 8 ≤ l.inodes ∧ l.inodes ≤ 128 ∧ l.inodes % 8 = 0 ∧ 2 + l.inodes / 8 < l.blocks := by unfold Lay14.may; simp
/-- A layout as a value. -/
def Lay14.val (l : Lay14) : Array Value := #[.int .i64 l.blocks, .int .i64 l.inodes, .int .u64 (l.merge : Nat)]
theorem Lay14.ext_iff' (l m : Lay14) : l = m ↔ l.blocks = m.blocks ∧ l.inodes = m.inodes ∧ l.merge = m.merge := by
  obtain ⟨a, b, c⟩ := l
  obtain ⟨a', b', c'⟩ := m
  simp

end Go.Proofs.YtkakihbfhmiabaaGreat

/-
  A layout as a block of 256 bytes, and back: one byte that is another one is enough that it is none. Plain; no program is named here.
-/
namespace Go.Proofs.YtkakihbfhmiabaaGreat

/-- The text escheat1, as bytes. -/
def magic : List UInt8 := [101, 115, 99, 104, 101, 97, 116, 49]
/-- The first 20 bytes. -/
def Lay14.head (l : Lay14) : List UInt8 := magic ++ (leBytes 2 l.blocks.toNat ++ (leBytes 2 l.inodes.toNat ++ leBytes 8 l.merge))
theorem Lay14.head_len (l : Lay14) : l.head.length = 20 := by
  unfold Lay14.head
  simp only [List.length_append, leBytes_len]
  rfl
/-- The whole block. -/
def Lay14.put (l : Lay14) : List UInt8 := l.head ++ (leBytes 4 (fnvs start l.head) ++ zeros 232)
theorem Lay14.put_len (l : Lay14) : l.put.length = 256 := by
  unfold Lay14.put
  simp only [List.length_append, leBytes_len, zeros_len, l.head_len]
theorem Lay14.put_head (l : Lay14) : l.put.take 20 = l.head := by
  unfold Lay14.put
  rw [List.take_append_of_le_length (by rw [l.head_len]; exact Nat.le_refl _), List.take_of_length_le (by rw [l.head_len]; exact Nat.le_refl _)]
theorem Lay14.put_hash (l : Lay14) : (l.put.drop 20).take 4 = leBytes 4 (fnvs start l.head) := by
  unfold Lay14.put
  rw [List.drop_left' l.head_len, List.take_left' (leBytes_len _ _)]
/-- What a block's bytes tell. -/
def seen14 (b : List UInt8) : Lay14 := ⟨(leVal ((b.drop 8).take 2) : Nat), (leVal ((b.drop 10).take 2) : Nat), leVal ((b.drop 12).take 8)⟩
theorem Lay14.seen_head {l : Lay14} (h : l.may = true) (hm : l.merge < 18446744073709551616) (r : List UInt8) : seen14 (l.head ++ r) = l := by
  have hh := Lay14.may_iff.1 h
  have e1 : ((l.head ++ r).drop 8).take 2 = leBytes 2 l.blocks.toNat := by
    unfold Lay14.head
    rw [List.append_assoc, List.drop_left' (by rfl), List.append_assoc, List.take_left' (leBytes_len _ _)]
  have e2 : ((l.head ++ r).drop 10).take 2 = leBytes 2 l.inodes.toNat := by
    unfold Lay14.head
    rw [List.append_assoc, List.append_assoc, ← List.append_assoc, List.drop_left' (by rw [List.length_append, leBytes_len]; rfl), List.append_assoc, List.take_left' (leBytes_len _ _)]
  have e3 : ((l.head ++ r).drop 12).take 8 = leBytes 8 l.merge := by
    unfold Lay14.head
    rw [List.append_assoc, List.append_assoc, List.append_assoc, ← List.append_assoc, ← List.append_assoc, List.drop_left' (by rw [List.length_append, List.length_append, leBytes_len, leBytes_len]; rfl), List.take_left' (leBytes_len _ _)]
  unfold seen14
  rw [e1, e2, e3, leVal_leBytes _ _ (by omega), leVal_leBytes _ _ (by omega), leVal_leBytes _ _ hm]
  obtain ⟨b, i, m⟩ := l
  simp only [Lay14.mk.injEq, and_true] at hh ⊢
  omega
theorem Lay14.seen_put {l : Lay14} (h : l.may = true) (hm : l.merge < 18446744073709551616) : seen14 l.put = l := Lay14.seen_head h hm _
/-- The layout that may be of which a block is Put. -/
def get14 (b : List UInt8) : Option Lay14 := if (seen14 b).may = true ∧ (seen14 b).put = b then some (seen14 b) else none
/-- 14.3: got again. -/
theorem get_put14 {l : Lay14} (h : l.may = true) (hm : l.merge < 18446744073709551616) : get14 l.put = some l := by
  unfold get14
  rw [Lay14.seen_put h hm, if_pos ⟨h, rfl⟩]
theorem get_some14 {b : List UInt8} {l : Lay14} (h : get14 b = some l) : l.may = true ∧ l.put = b := by
  unfold get14 at h
  split at h
  · injection h with h
    subst h
    assumption
  · cases h
/-- 14.3: two that may be have the same block just if they are the same. -/
theorem put_inj14 {l m : Lay14} (hl : l.may = true) (hlm : l.merge < 18446744073709551616) (hm : m.may = true) (hmm : m.merge < 18446744073709551616) (h : l.put = m.put) : l = m := by
  rw [← Lay14.seen_put hl hlm, h, Lay14.seen_put hm hmm]
theorem fnvs_start_lt (l : List UInt8) : fnvs start l < 4294967296 := fnvs_lt _ _ start_lt
theorem seen_merge (b : List UInt8) : (seen14 b).merge < 18446744073709551616 := leVal_lt8 _ (by rw [List.length_take]; omega)
/-- 14.3: a block in which just one byte is another one is none. -/
theorem one_byte14 {l : Lay14} (h : l.may = true) (hlm : l.merge < 18446744073709551616) {k : Nat} (hk : k < 256) {x : UInt8} (hx : l.put.set k x ≠ l.put) : get14 (l.put.set k x) = none := by
  cases hg : get14 (l.put.set k x) with
  | none => rfl
  | some m =>
    exfalso
    have hmm : m.merge < 18446744073709551616 := by
      unfold get14 at hg
      split at hg
      · injection hg with hg
        rw [← hg]
        exact seen_merge _
      · cases hg
    obtain ⟨h1, h2⟩ := get_some14 hg
    by_cases hk2 : k < 20
    · have e1 : m.head = l.head.set k x := by rw [← m.put_head, h2, List.take_set, l.put_head]
      have e2 : leBytes 4 (fnvs start m.head) = leBytes 4 (fnvs start l.head) := by
        rw [← m.put_hash, h2, ← l.put_hash, List.drop_set_of_lt hk2]
      have e3 : fnvs start m.head = fnvs start l.head := by
        rw [← leVal_leBytes 4 (fnvs start m.head) (fnvs_start_lt _), e2, leVal_leBytes 4 _ (fnvs_start_lt _)]
      have hkl : k < l.head.length := by rw [l.head_len]; exact hk2
      have hne : l.head[k] ≠ x := fun e => hx (by
        have e5 : l.put[k]? = some x := by
          have e6 : (l.put.take 20)[k]? = some x := by rw [l.put_head, List.getElem?_eq_getElem hkl, e]
          rwa [List.getElem?_take_of_lt hk2] at e6
        obtain ⟨hlt, e7⟩ := List.getElem?_eq_some_iff.1 e5
        rw [← e7]
        exact List.set_getElem_self hlt)
      rw [e1] at e3
      exact fnvs_set start_lt l.head k hkl x hne e3
    · have e1 : m.head = l.head := by rw [← m.put_head, h2, List.take_set_of_le (by omega), l.put_head]
      have e2 : m = l := by
        rw [← Lay14.seen_head h1 hmm [], e1, Lay14.seen_head h hlm []]
      rw [e2] at h2
      exact hx h2.symm

end Go.Proofs.YtkakihbfhmiabaaGreat

/-
  A block that is written from the front: what comes behind is noughts.
-/
namespace Go.Proofs.YtkakihbfhmiabaaGreat
open Go.RowKit

theorem putL_zeros (v : Nat) : putL (zeros 8) 0 8 v = leBytes 8 v := by
  unfold putL
  rw [if_pos (by decide)]
  exact splice_all (zeros 8) (leBytes 8 v) (by rw [leBytes_len, zeros_len])
theorem magic_len : magic.length = 8 := rfl

/-! The program's way to a layout's block, step by step. -/
theorem put_step1 : layL (zeros 256) 0 magic = magic ++ zeros 248 := layL_zeros [] magic 0 256 rfl rfl (by rw [magic_len]; omega) (by omega)
theorem put_step2 (n : Nat) : nwithL (magic ++ zeros 248) 8 2 n = (magic ++ leBytes 2 n) ++ zeros 246 := by
  have h := nwithL_zeros magic 8 248 2 n rfl (by omega) (by omega) (by omega)
  rw [List.append_assoc]
  exact h
theorem put_step3 (n m : Nat) : nwithL ((magic ++ leBytes 2 n) ++ zeros 246) 10 2 m = ((magic ++ leBytes 2 n) ++ leBytes 2 m) ++ zeros 244 := by
  have h := nwithL_zeros (magic ++ leBytes 2 n) 10 246 2 m (by rw [List.length_append, leBytes_len, magic_len]) (by omega) (by omega) (by omega)
  rw [List.append_assoc (magic ++ leBytes 2 n)]
  exact h
theorem put_step4 (n m v : Nat) : layL (((magic ++ leBytes 2 n) ++ leBytes 2 m) ++ zeros 244) 12 (leBytes 8 v) = (((magic ++ leBytes 2 n) ++ leBytes 2 m) ++ leBytes 8 v) ++ zeros 236 := by
  have h := layL_zeros ((magic ++ leBytes 2 n) ++ leBytes 2 m) (leBytes 8 v) 12 244 (by rw [List.length_append, List.length_append, leBytes_len, leBytes_len, magic_len]) rfl (by rw [leBytes_len]; omega) (by omega)
  rw [leBytes_len] at h
  rw [List.append_assoc ((magic ++ leBytes 2 n) ++ leBytes 2 m)]
  exact h
theorem Lay14.head_eq (l : Lay14) : ((magic ++ leBytes 2 l.blocks.toNat) ++ leBytes 2 l.inodes.toNat) ++ leBytes 8 l.merge = l.head := by
  unfold Lay14.head
  rw [List.append_assoc, List.append_assoc]
theorem put_cut (l : Lay14) : ncutL (l.head ++ zeros 236) 0 20 = l.head := by
  unfold ncutL
  rw [if_pos (by decide)]
  exact List.take_left' l.head_len
theorem put_step5 (l : Lay14) : nwithL (l.head ++ zeros 236) 20 4 (fnvs start l.head) = l.put := by
  have h := nwithL_zeros l.head 20 236 4 (fnvs start l.head) l.head_len (by omega) (by omega) (by omega)
  exact h
/-- The document's way. -/
theorem put_doc (l : Lay14) : rlayL (zeros 256) 0 (l.head ++ leBytes 4 (fnvs start l.head)) = l.put := by
  unfold rlayL
  have hl : (l.head ++ leBytes 4 (fnvs start l.head)).length = 24 := by rw [List.length_append, leBytes_len, l.head_len]
  rw [if_pos (by simp), zeros_len, List.take_of_length_le (by rw [hl]; decide)]
  have h := splice_zeros [] (l.head ++ leBytes 4 (fnvs start l.head)) 0 256 rfl
  rw [hl] at h
  unfold Lay14.put
  rw [← List.append_assoc]
  exact h
theorem put_all (l : Lay14) : ∃ X1 X2 X3 X4 : List UInt8, layL (zeros 256) 0 magic = X1 ∧ nwithL X1 8 2 l.blocks.toNat = X2 ∧ nwithL X2 10 2 l.inodes.toNat = X3 ∧ layL X3 12 (leBytes 8 l.merge) = X4 ∧ ncutL X4 0 20 = l.head ∧ nwithL X4 20 4 (fnvs start l.head) = l.put ∧
    X1.length = 256 ∧ X2.length = 256 ∧ X3.length = 256 ∧ X4.length = 256 := by
  refine ⟨_, _, _, _, rfl, rfl, rfl, rfl, ?_, ?_, ?_, ?_, ?_, ?_⟩
  · rw [put_step1, put_step2, put_step3, put_step4, l.head_eq, put_cut]
  · rw [put_step1, put_step2, put_step3, put_step4, l.head_eq, put_step5]
  · exact layL_len _ _ _ (zeros_len _)
  · rw [nwithL_len]; exact layL_len _ _ _ (zeros_len _)
  · rw [nwithL_len, nwithL_len]; exact layL_len _ _ _ (zeros_len _)
  · exact layL_len _ _ _ (by rw [nwithL_len, nwithL_len]; exact layL_len _ _ _ (zeros_len _))
theorem hashN_bytes (l : List UInt8) : hashN ⟨l.toArray⟩ = fnvs start l := rfl

theorem getN_seen (b : List UInt8) (hb : b.length = 256) : getN b 8 2 4 = leVal ((b.drop 8).take 2) ∧ getN b 10 2 4 = leVal ((b.drop 10).take 2) ∧ getN b 12 8 8 = leVal ((b.drop 12).take 8) := by
  refine ⟨?_, ?_, ?_⟩ <;> unfold getN <;> rw [if_pos (by unfold fitsB; rw [hb]; decide)] <;> rfl

end Go.Proofs.YtkakihbfhmiabaaGreat

/-
  Where a device's things stand, by its layout, in plain numbers. No program is named here.
-/
namespace Go.Proofs.YtkakihbfhmiabaaGreat

/-- The first block that has inodes. -/
def Lay14.tf (l : Lay14) : Int := if l.may then 2 else 0
/-- How many such there are. -/
def Lay14.tn (l : Lay14) : Int := if l.may then l.inodes / 8 else 0
/-- The first data block. -/
def Lay14.data (l : Lay14) : Int := l.tf + l.tn
/-- How many data blocks there are. -/
def Lay14.many (l : Lay14) : Int := if l.may then l.blocks - l.data else 0
/-- Is it a data block? -/
def Lay14.isD (l : Lay14) (no : Int) : Bool := l.may && decide (l.data ≤ no ∧ no < l.blocks)
/-- Is there this inode? -/
def Lay14.isI (l : Lay14) (i : Int) : Bool := l.may && decide (1 ≤ i ∧ i ≤ l.inodes)
/-- The block that has it, and its place there. -/
def Lay14.wb (l : Lay14) (i : Int) : Int := if l.isI i then 2 + (i - 1) / 8 else 0
def Lay14.wk (l : Lay14) (i : Int) : Int := if l.isI i then (i - 1) % 8 else 0
/-- Does an inode stand there, and which one? -/
def Lay14.has (l : Lay14) (b k : Int) : Bool := decide (2 ≤ b ∧ b < l.data ∧ 0 ≤ k ∧ k < 8)
def Lay14.ino (l : Lay14) (b k : Int) : Int := if l.has b k then (b - 2) * 8 + k + 1 else 0
/-- Of which area a block is. -/
def Lay14.area (l : Lay14) (no : Int) : Int := if l.may = true ∧ 0 ≤ no ∧ no < l.blocks then (if no < 2 then no + 1 else if no < l.data then 3 else 4) else 0

section
variable {l : Lay14}
theorem Lay14.on (h : l.may = true) : l.tf = 2 ∧ l.tn = l.inodes / 8 ∧ l.inodes = 8 * l.tn ∧ 1 ≤ l.tn ∧ l.tn ≤ 16 ∧ l.data = 2 + l.tn ∧ l.data < l.blocks ∧ 16 ≤ l.blocks ∧ l.blocks ≤ 512 ∧ l.many = l.blocks - l.data := by
  have hh := Lay14.may_iff.1 h
  have h1 : l.tf = 2 := by unfold Lay14.tf; rw [if_pos h]
  have h2 : l.tn = l.inodes / 8 := by unfold Lay14.tn; rw [if_pos h]
  have h3 : l.data = 2 + l.tn := by unfold Lay14.data; rw [h1]
  have h4 : l.many = l.blocks - l.data := by unfold Lay14.many; rw [if_pos h]
  omega
theorem Lay14.off (h : l.may = false) : l.tf = 0 ∧ l.tn = 0 ∧ l.data = 0 ∧ l.many = 0 := by
  have h1 : l.tf = 0 := by unfold Lay14.tf; rw [if_neg (by simp [h])]
  have h2 : l.tn = 0 := by unfold Lay14.tn; rw [if_neg (by simp [h])]
  refine ⟨h1, h2, by unfold Lay14.data; rw [h1, h2]; rfl, by unfold Lay14.many; rw [if_neg (by simp [h])]⟩
theorem Lay14.bounds (l : Lay14) : 0 ≤ l.tf ∧ l.tf ≤ 2 ∧ 0 ≤ l.tn ∧ l.tn ≤ 16 ∧ 0 ≤ l.data ∧ l.data ≤ 18 := by
  cases h : l.may
  · have := Lay14.off h; omega
  · have := Lay14.on h; omega
theorem Lay14.isD_on (h : l.may = true) (no : Int) : l.isD no = decide (l.data ≤ no ∧ no < l.blocks) := by unfold Lay14.isD; rw [h]; rfl
theorem Lay14.isD_off (h : l.may = false) (no : Int) : l.isD no = false := by unfold Lay14.isD; rw [h]; rfl
theorem Lay14.isI_on (h : l.may = true) (i : Int) : l.isI i = decide (1 ≤ i ∧ i ≤ l.inodes) := by unfold Lay14.isI; rw [h]; rfl
theorem Lay14.isI_off (h : l.may = false) (i : Int) : l.isI i = false := by unfold Lay14.isI; rw [h]; rfl
theorem Lay14.area_off (h : l.may = false) (no : Int) : l.area no = 0 := by unfold Lay14.area; rw [if_neg (by simp [h])]
theorem Lay14.area_out (no : Int) (h : no < 0 ∨ l.blocks ≤ no) : l.area no = 0 := by unfold Lay14.area; rw [if_neg (by omega)]
theorem Lay14.area_low (h : l.may = true) (no : Int) (h0 : 0 ≤ no) (h2 : no < 2) : l.area no = no + 1 := by
  have := Lay14.on h
  unfold Lay14.area; rw [if_pos ⟨h, h0, by omega⟩, if_pos h2]
theorem Lay14.area_ino (h : l.may = true) (no : Int) (h2 : 2 ≤ no) (h3 : no < l.data) : l.area no = 3 := by
  have := Lay14.on h
  unfold Lay14.area; rw [if_pos ⟨h, by omega, by omega⟩, if_neg (by omega), if_pos h3]
theorem Lay14.area_data (h : l.may = true) (no : Int) (h2 : l.data ≤ no) (h3 : no < l.blocks) : l.area no = 4 := by
  have := Lay14.on h
  unfold Lay14.area; rw [if_pos ⟨h, by omega, by omega⟩, if_neg (by omega), if_neg (by omega)]
/-- An area is what lies between two blocks. -/
theorem Lay14.area3_iff (h : l.may = true) (no : Int) : l.area no = 3 ↔ 2 ≤ no ∧ no < l.data := by
  have := Lay14.on h
  constructor
  · intro e
    unfold Lay14.area at e
    split at e
    · split at e
      · omega
      · split at e <;> omega
    · omega
  · exact fun ⟨h1, h2⟩ => Lay14.area_ino h no h1 h2
theorem Lay14.area4_iff (h : l.may = true) (no : Int) : l.area no = 4 ↔ l.data ≤ no ∧ no < l.blocks := by
  have := Lay14.on h
  constructor
  · intro e
    unfold Lay14.area at e
    split at e
    · split at e
      · omega
      · split at e <;> omega
    · omega
  · exact fun ⟨h1, h2⟩ => Lay14.area_data h no h1 h2
/-- 15.2: IsData is of the areas. -/
theorem Lay14.isD_area (no : Int) : l.isD no = decide (l.area no = 4) := by
  cases h : l.may
  · rw [Lay14.isD_off h, Lay14.area_off h]; rfl
  · rw [Lay14.isD_on h]
    exact decide_eq_decide.2 (Lay14.area4_iff h no).symm
theorem Lay14.has_area (b k : Int) : l.has b k = true ↔ l.area b = 3 ∧ 0 ≤ k ∧ k < 8 := by
  unfold Lay14.has
  rw [decide_eq_true_eq]
  cases h : l.may
  · have := Lay14.off h
    rw [Lay14.area_off h]
    omega
  · rw [Lay14.area3_iff h]
    omega
/-- 15.3: where an inode stands. -/
theorem Lay14.where_on {i : Int} (h : l.isI i = true) : l.may = true ∧ 1 ≤ i ∧ i ≤ l.inodes ∧ l.wb i = 2 + (i - 1) / 8 ∧ l.wk i = (i - 1) % 8 ∧ l.has (l.wb i) (l.wk i) = true ∧ l.ino (l.wb i) (l.wk i) = i := by
  have hm : l.may = true ∧ 1 ≤ i ∧ i ≤ l.inodes := by
    unfold Lay14.isI at h
    rw [Bool.and_eq_true, decide_eq_true_eq] at h
    exact h
  have ho := Lay14.on hm.1
  have hb : l.wb i = 2 + (i - 1) / 8 := by unfold Lay14.wb; rw [if_pos h]
  have hk : l.wk i = (i - 1) % 8 := by unfold Lay14.wk; rw [if_pos h]
  have hh : l.has (l.wb i) (l.wk i) = true := by
    unfold Lay14.has
    rw [decide_eq_true_eq, hb, hk]
    omega
  refine ⟨hm.1, hm.2.1, hm.2.2, hb, hk, hh, ?_⟩
  unfold Lay14.ino
  rw [if_pos hh, hb, hk]
  omega
theorem Lay14.where_off {i : Int} (h : l.isI i = false) : l.wb i = 0 ∧ l.wk i = 0 := by
  unfold Lay14.wb Lay14.wk
  rw [if_neg (by simp [h]), if_neg (by simp [h])]
  exact ⟨rfl, rfl⟩
end

/-- How many of the blocks from k on lie in lo .. hi, and the first one of them. -/
def cntF (lo hi k : Nat) : Nat := hi - (if k < lo then lo else k)
def fstF (lo hi k : Nat) : Nat := if cntF lo hi k = 0 then 0 else (if k < lo then lo else k)
theorem cntF_in {lo hi k : Nat} (h1 : lo ≤ k) (h2 : k < hi) : cntF lo hi k = cntF lo hi (k + 1) + 1 ∧ fstF lo hi k = k := by
  have e : cntF lo hi k = hi - k := by unfold cntF; rw [if_neg (by omega)]
  have e' : cntF lo hi (k + 1) = hi - (k + 1) := by unfold cntF; rw [if_neg (by omega)]
  refine ⟨by omega, ?_⟩
  unfold fstF
  rw [if_neg (by omega), if_neg (by omega)]
theorem cntF_out {lo hi k : Nat} (h : k < lo ∨ hi ≤ k) : cntF lo hi k = cntF lo hi (k + 1) ∧ fstF lo hi k = fstF lo hi (k + 1) := by
  by_cases hk : k < lo
  · have e : cntF lo hi k = hi - lo := by unfold cntF; rw [if_pos hk]
    have e' : cntF lo hi (k + 1) = hi - lo := by unfold cntF; split <;> omega
    refine ⟨by omega, ?_⟩
    unfold fstF
    rw [e, e', if_pos hk]
    split
    · rfl
    · split <;> omega
  · have e : cntF lo hi k = 0 := by unfold cntF; rw [if_neg hk]; omega
    have e' : cntF lo hi (k + 1) = 0 := by unfold cntF; split <;> omega
    refine ⟨by omega, ?_⟩
    unfold fstF
    rw [if_pos e, if_pos e']
theorem cntF_end {lo hi k : Nat} (h : hi ≤ k) : cntF lo hi k = 0 ∧ fstF lo hi k = 0 := by
  have e : cntF lo hi k = 0 := by unfold cntF; split <;> omega
  exact ⟨e, by unfold fstF; rw [if_pos e]⟩
theorem cntF_zero (lo hi : Nat) : cntF lo hi 0 = hi - lo := by unfold cntF; split <;> omega
theorem fstF_zero {lo hi : Nat} (h : lo < hi) : fstF lo hi 0 = lo := by
  unfold fstF
  rw [cntF_zero, if_neg (by omega)]
  split <;> omega

/-- The numbers below n. -/
def upN (n : Nat) : List Int := (List.range n).map (fun (k : Nat) => (k : Int))
theorem upN_len (n : Nat) : (upN n).length = n := by simp [upN]
theorem upN_succ (n : Nat) : upN (n + 1) = upN n ++ [(n : Int)] := by simp [upN, List.range_succ]
theorem upN_get (n k : Nat) (h : k < (upN n).length) : (upN n)[k] = (k : Int) := by simp [upN]

end Go.Proofs.YtkakihbfhmiabaaGreat

/-
  An inode as eleven numbers and as 32 bytes. Plain; no program is named here.
-/
namespace Go.Proofs.YtkakihbfhmiabaaGreat
open Go.RowKit

/-- Numbers as cells. -/
def icells (l : List Int) : Array Value := (l.map (Value.int .i64)).toArray
theorem icells_size (l : List Int) : (icells l).size = l.length := by simp [icells]
theorem icells_get (l : List Int) (k : Nat) : (icells l)[k]? = (l[k]?).map (Value.int .i64) := by simp [icells]
theorem icells_set (l : List Int) (k : Nat) (x : Int) : (icells l).setIfInBounds k (.int .i64 x) = icells (l.set k x) := by
  apply Array.ext_getElem?
  intro i
  simp [icells, List.map_set]
theorem oneCell_icells (l : List Int) : (icells l).all (·.oneCell') = true := by
  simp [icells, Value.oneCell']
def fld (l : List Int) (k : Nat) : Int := l.getD k 0
theorem fld_get (l : List Int) (k : Nat) (h : k < l.length) : l[k]? = some (fld l k) := by
  unfold fld
  rw [List.getD_eq_getElem?_getD, List.getElem?_eq_getElem h]
  rfl
theorem Blk.fld {w : World} {g : Nat} {t : TypeId} {l : List Int} (h : Blk w g t (icells l)) (k : Nat) (hk : k < l.length) : w.cell? ⟨g, k, none⟩ = some (.int .i64 (fld l k)) := by
  rw [h.cell, icells_get, fld_get l k hk]
  rfl

/-- Direct, then Indirect. -/
def nums (l : List Int) : List Int := l.drop 4
theorem nums_len {l : List Int} (h : l.length = 11) : (nums l).length = 7 := by unfold nums; rw [List.length_drop, h]
theorem fld_nums (l : List Int) (k : Nat) : fld (nums l) k = fld l (4 + k) := by
  unfold nums fld
  rw [List.getD_eq_getElem?_getD, List.getD_eq_getElem?_getD, List.getElem?_drop]

def shortB (n : Int) : Bool := decide (0 ≤ n ∧ n ≤ 65535)
def sizeB (n : Int) : Bool := decide (0 ≤ n ∧ n ≤ 34304)
/-- The free inode. -/
def freeI : List Int := [0, 0, 0, 0, 0, 0, 0, 0, 0, 0, 0]
/-- It may be. -/
def mayI (l : List Int) : Bool :=
  if fld l 0 = 0 then decide (l = freeI)
  else (decide (fld l 0 = 1 ∨ fld l 0 = 2) && (shortB (fld l 1) && (shortB (fld l 3) && (sizeB (fld l 2) && (nums l).all shortB))))
def flatI (ns : List Int) : List UInt8 := ns.flatMap fun n => leBytes 2 n.toNat
theorem flatI_len (ns : List Int) : (flatI ns).length = 2 * ns.length := by
  induction ns with
  | nil => rfl
  | cons n ns ih =>
    unfold flatI at ih ⊢
    rw [List.flatMap_cons, List.length_append, ih, leBytes_len, List.length_cons]
    omega
theorem flatI_snoc (ns : List Int) (n : Int) : flatI (ns ++ [n]) = flatI ns ++ leBytes 2 n.toNat := by
  unfold flatI
  rw [List.flatMap_append]
  simp
/-- The first ten bytes. -/
def headI (l : List Int) : List UInt8 := UInt8.ofNat (fld l 0).toNat :: 0 :: (leBytes 2 (fld l 1).toNat ++ (leBytes 4 (fld l 2).toNat ++ leBytes 2 (fld l 3).toNat))
theorem headI_len (l : List Int) : (headI l).length = 10 := by
  unfold headI
  simp only [List.length_cons, List.length_append, leBytes_len]
/-- 16.1. -/
def putI (l : List Int) : List UInt8 := headI l ++ (flatI (nums l) ++ zeros 8)
theorem putI_len {l : List Int} (h : l.length = 11) : (putI l).length = 32 := by
  unfold putI
  simp only [List.length_append, headI_len, flatI_len, nums_len h, zeros_len]

/-- The number that n bytes from o on are. -/
def leV (b : List UInt8) (o n : Nat) : Nat := leVal ((b.drop o).take n)
/-- What Get has told behind k numbers of Direct; z in the place of Indirect. -/
def gotK (b : List UInt8) (k : Nat) (z : Int) : List Int :=
  [((leV b 0 1 : Nat) : Int), ((leV b 2 2 : Nat) : Int), ((leV b 4 4 : Nat) : Int), ((leV b 8 2 : Nat) : Int)] ++ (((List.range 6).map fun i => if i < k then ((leV b (10 + 2 * i) 2 : Nat) : Int) else 0) ++ [z])
theorem gotK_len (b : List UInt8) (k : Nat) (z : Int) : (gotK b k z).length = 11 := rfl
theorem gotK_set (b : List UInt8) (z : Int) : ∀ k, k < 6 → (gotK b k z).set (4 + k) ((leV b (10 + 2 * k) 2 : Nat) : Int) = gotK b (k + 1) z := by
  intro k hk
  match k, hk with
  | 0, _ => rfl
  | 1, _ => rfl
  | 2, _ => rfl
  | 3, _ => rfl
  | 4, _ => rfl
  | 5, _ => rfl
theorem gotK_last (b : List UInt8) (z v : Int) : (gotK b 6 z).set 10 v = gotK b 6 v := rfl
/-- 16.2: Get. -/
def getI (b : List UInt8) : List Int := gotK b 6 ((leV b 22 2 : Nat) : Int)
theorem getI_len (b : List UInt8) : (getI b).length = 11 := rfl
def cleanI (b : List UInt8) : Option (List Int) := if mayI (getI b) = true ∧ putI (getI b) = b then some (getI b) else none

theorem list_eleven {l : List Int} (h : l.length = 11) : ∃ a0 a1 a2 a3 a4 a5 a6 a7 a8 a9 a10, l = [a0, a1, a2, a3, a4, a5, a6, a7, a8, a9, a10] := by
  match l, h with
  | [a0, a1, a2, a3, a4, a5, a6, a7, a8, a9, a10], _ => exact ⟨a0, a1, a2, a3, a4, a5, a6, a7, a8, a9, a10, rfl⟩
/-- What may be is within its bytes. -/
theorem mayI_in {l : List Int} (hl : l.length = 11) (h : mayI l = true) : (0 ≤ fld l 0 ∧ fld l 0 ≤ 2) ∧ (0 ≤ fld l 1 ∧ fld l 1 ≤ 65535) ∧ (0 ≤ fld l 2 ∧ fld l 2 ≤ 34304) ∧ (0 ≤ fld l 3 ∧ fld l 3 ≤ 65535) ∧ ∀ k, k < 7 → 0 ≤ fld (nums l) k ∧ fld (nums l) k ≤ 65535 := by
  unfold mayI at h
  split at h
  · have e : l = freeI := of_decide_eq_true h
    subst e
    refine ⟨by decide, by decide, by decide, by decide, fun k hk => ?_⟩
    have : ∀ k, k < 7 → 0 ≤ fld (nums freeI) k ∧ fld (nums freeI) k ≤ 65535 := by decide
    exact this k hk
  · simp only [Bool.and_eq_true, decide_eq_true_eq, shortB, sizeB, List.all_eq_true] at h
    obtain ⟨h0, h1, h3, h2, h4⟩ := h
    refine ⟨by omega, h1, h2, h3, fun k hk => h4 _ ?_⟩
    have e := fld_get (nums l) k (by rw [nums_len hl]; exact hk)
    exact List.mem_of_getElem? e
theorem leV_two (v : Nat) (h : v < 65536) (p r : List UInt8) (o : Nat) (ho : p.length = o) : leV (p ++ (leBytes 2 v ++ r)) o 2 = v := by
  unfold leV
  rw [List.drop_left' ho, List.take_left' (leBytes_len _ _), leVal_leBytes _ _ (by omega)]
theorem leV_four (v : Nat) (h : v < 4294967296) (p r : List UInt8) (o : Nat) (ho : p.length = o) : leV (p ++ (leBytes 4 v ++ r)) o 4 = v := by
  unfold leV
  rw [List.drop_left' ho, List.take_left' (leBytes_len _ _), leVal_leBytes _ _ (by omega)]
theorem leV_nums (p r : List UInt8) (hp : p.length = 10) (ns : List Int) (k : Nat) (hk : k < ns.length) (h : 0 ≤ fld ns k ∧ fld ns k ≤ 65535) : ((leV (p ++ (flatI ns ++ r)) (10 + 2 * k) 2 : Nat) : Int) = fld ns k := by
  have e0 := fld_get ns k hk
  have e1 : ns = ns.take k ++ (fld ns k :: ns.drop (k + 1)) := by
    obtain ⟨h1, h2⟩ := List.getElem?_eq_some_iff.1 e0
    rw [← h2, List.getElem_cons_drop, List.take_append_drop]
  have e2 : flatI ns = flatI (ns.take k) ++ (leBytes 2 (fld ns k).toNat ++ flatI (ns.drop (k + 1))) := by
    have e3 : flatI ns = flatI (ns.take k ++ (fld ns k :: ns.drop (k + 1))) := congrArg _ e1
    rw [e3]
    unfold flatI
    rw [List.flatMap_append, List.flatMap_cons]
  rw [e2, List.append_assoc, List.append_assoc, ← List.append_assoc, leV_two _ (by omega) _ _ _ (by rw [List.length_append, hp, flatI_len, List.length_take]; omega)]
  omega
/-- 16.4: got again. -/
theorem get_putI {l : List Int} (hl : l.length = 11) (h : mayI l = true) : getI (putI l) = l := by
  obtain ⟨h0, h1, h2, h3, h4⟩ := mayI_in hl h
  have e0 : ((leV (putI l) 0 1 : Nat) : Int) = fld l 0 := by
    have : leV (putI l) 0 1 = (UInt8.ofNat (fld l 0).toNat).toNat := by
      unfold putI headI leV
      simp [leVal]
    rw [this]
    simp
    omega
  have e1 : ((leV (putI l) 2 2 : Nat) : Int) = fld l 1 := by
    have e : putI l = [UInt8.ofNat (fld l 0).toNat, 0] ++ (leBytes 2 (fld l 1).toNat ++ ((leBytes 4 (fld l 2).toNat ++ leBytes 2 (fld l 3).toNat) ++ (flatI (nums l) ++ zeros 8))) := by
      unfold putI headI
      simp
    rw [e, leV_two _ (by omega) _ _ 2 rfl]
    omega
  have e2 : ((leV (putI l) 4 4 : Nat) : Int) = fld l 2 := by
    have e : putI l = ([UInt8.ofNat (fld l 0).toNat, 0] ++ leBytes 2 (fld l 1).toNat) ++ (leBytes 4 (fld l 2).toNat ++ (leBytes 2 (fld l 3).toNat ++ (flatI (nums l) ++ zeros 8))) := by
      unfold putI headI
      simp
    rw [e, leV_four _ (by omega) _ _ 4 (by rw [List.length_append, leBytes_len]; rfl)]
    omega
  have e3 : ((leV (putI l) 8 2 : Nat) : Int) = fld l 3 := by
    have e : putI l = ([UInt8.ofNat (fld l 0).toNat, 0] ++ (leBytes 2 (fld l 1).toNat ++ leBytes 4 (fld l 2).toNat)) ++ (leBytes 2 (fld l 3).toNat ++ (flatI (nums l) ++ zeros 8)) := by
      unfold putI headI
      simp
    rw [e, leV_two _ (by omega) _ _ 8 (by rw [List.length_append, List.length_append, leBytes_len, leBytes_len]; rfl)]
    omega
  have e4 : ∀ k, k < 7 → ((leV (putI l) (10 + 2 * k) 2 : Nat) : Int) = fld l (4 + k) := fun k hk => by
    unfold putI
    rw [leV_nums _ _ (headI_len l) (nums l) k (by rw [nums_len hl]; exact hk) (h4 k hk), fld_nums]
  have q0 := e4 0 (by omega)
  have q1 := e4 1 (by omega)
  have q2 := e4 2 (by omega)
  have q3 := e4 3 (by omega)
  have q4 := e4 4 (by omega)
  have q5 := e4 5 (by omega)
  have q6 := e4 6 (by omega)
  have e5 : getI (putI l) = [fld l 0, fld l 1, fld l 2, fld l 3, fld l 4, fld l 5, fld l 6, fld l 7, fld l 8, fld l 9, fld l 10] := by
    rw [← e0, ← e1, ← e2, ← e3, ← q0, ← q1, ← q2, ← q3, ← q4, ← q5, ← q6]
    rfl
  rw [e5]
  obtain ⟨a0, a1, a2, a3, a4, a5, a6, a7, a8, a9, a10, rfl⟩ := list_eleven hl
  rfl
theorem putI_inj {l m : List Int} (hl : l.length = 11) (hm : m.length = 11) (h : mayI l = true) (h' : mayI m = true) (e : putI l = putI m) : l = m := by
  rw [← get_putI hl h, e, get_putI hm h']
theorem clean_putI {l : List Int} (hl : l.length = 11) (h : mayI l = true) : cleanI (putI l) = some l := by
  unfold cleanI
  rw [get_putI hl h, if_pos ⟨h, rfl⟩]

/-! The program's way to the bytes. -/
def walkI (l : List Int) (k : Nat) : List UInt8 := (headI l ++ flatI ((nums l).take k)) ++ zeros (246 - 2 * k)
theorem walkI_len {l : List Int} (hl : l.length = 11) (k : Nat) (hk : k ≤ 7) : (walkI l k).length = 256 := by
  unfold walkI
  rw [List.length_append, List.length_append, headI_len, flatI_len, List.length_take, nums_len hl, zeros_len]
  omega
theorem take_succ_getI {α : Type} (l : List α) (k : Nat) (x : α) (h : l[k]? = some x) : l.take (k + 1) = l.take k ++ [x] := by
  obtain ⟨hk, rfl⟩ := List.getElem?_eq_some_iff.1 h
  rw [List.take_succ_eq_append_getElem hk]
theorem walkI_step {l : List Int} (hl : l.length = 11) (k : Nat) (hk : k < 7) : nwithL (walkI l k) ((10 + 2 * k : Nat) : Int) 2 (fld (nums l) k).toNat = walkI l (k + 1) := by
  unfold walkI
  have h1 : (headI l ++ flatI ((nums l).take k)).length = 10 + 2 * k := by
    rw [List.length_append, headI_len, flatI_len, List.length_take, nums_len hl]; omega
  have h := nwithL_zeros (headI l ++ flatI ((nums l).take k)) (10 + 2 * k) (246 - 2 * k) 2 (fld (nums l) k).toNat h1 (by omega) (by omega) (by omega)
  have e := fld_get (nums l) k (by rw [nums_len hl]; exact hk)
  have e2 : (nums l).take (k + 1) = (nums l).take k ++ [fld (nums l) k] := take_succ_getI _ _ _ e
  rw [e2, flatI_snoc, show 246 - 2 * (k + 1) = 246 - 2 * k - 2 from by omega]
  rw [← List.append_assoc (headI l), List.append_assoc (headI l ++ flatI ((nums l).take k))]
  exact h
theorem walkI_end {l : List Int} (hl : l.length = 11) : (walkI l 7).take 32 = putI l := by
  unfold walkI putI
  have e1 : (nums l).take 7 = nums l := List.take_of_length_le (by rw [nums_len hl]; omega)
  rw [e1]
  have e2 : zeros (246 - 2 * 7) = zeros 8 ++ zeros 224 := by unfold zeros; rw [List.replicate_append_replicate]
  rw [e2, List.append_assoc, ← List.append_assoc (flatI (nums l)), ← List.append_assoc (headI l)]
  exact List.take_left' (by rw [List.length_append, headI_len, List.length_append, flatI_len, nums_len hl, zeros_len])
theorem put_allI {l : List Int} (_hl : l.length = 11) : ∃ X0 X1 X2 : List UInt8, nwithL (zeros 256) 0 1 (fld l 0).toNat = X0 ∧ nwithL X0 2 2 (fld l 1).toNat = X1 ∧ nwithL X1 4 4 (fld l 2).toNat = X2 ∧ nwithL X2 8 2 (fld l 3).toNat = walkI l 0 ∧ X0.length = 256 ∧ X1.length = 256 ∧ X2.length = 256 := by
  refine ⟨_, _, _, rfl, rfl, rfl, ?_, ?_, ?_, ?_⟩
  · have s0 : nwithL (zeros 256) 0 1 (fld l 0).toNat = [UInt8.ofNat (fld l 0).toNat, 0] ++ zeros 254 := nwithL_zeros [] 0 256 1 (fld l 0).toNat rfl (by omega) (by omega) (by omega)
    have s1 := nwithL_zeros [UInt8.ofNat (fld l 0).toNat, 0] 2 254 2 (fld l 1).toNat rfl (by omega) (by omega) (by omega)
    have s2 := nwithL_zeros ([UInt8.ofNat (fld l 0).toNat, 0] ++ leBytes 2 (fld l 1).toNat) 4 252 4 (fld l 2).toNat (by rw [List.length_append, leBytes_len]; rfl) (by omega) (by omega) (by omega)
    have s3 := nwithL_zeros (([UInt8.ofNat (fld l 0).toNat, 0] ++ leBytes 2 (fld l 1).toNat) ++ leBytes 4 (fld l 2).toNat) 8 248 2 (fld l 3).toNat (by rw [List.length_append, List.length_append, leBytes_len, leBytes_len]; rfl) (by omega) (by omega) (by omega)
    rw [← List.append_assoc] at s1 s2 s3
    have e : walkI l 0 = (([UInt8.ofNat (fld l 0).toNat, 0] ++ leBytes 2 (fld l 1).toNat) ++ leBytes 4 (fld l 2).toNat) ++ leBytes 2 (fld l 3).toNat ++ zeros (248 - 2) := by
      unfold walkI headI
      simp [flatI]
    rw [e, ← s3]
    have t1 : nwithL ([UInt8.ofNat (fld l 0).toNat, 0] ++ zeros 254) 2 2 (fld l 1).toNat = [UInt8.ofNat (fld l 0).toNat, 0] ++ leBytes 2 (fld l 1).toNat ++ zeros 252 := s1
    have t2 : nwithL ([UInt8.ofNat (fld l 0).toNat, 0] ++ leBytes 2 (fld l 1).toNat ++ zeros 252) 4 4 (fld l 2).toNat = [UInt8.ofNat (fld l 0).toNat, 0] ++ leBytes 2 (fld l 1).toNat ++ leBytes 4 (fld l 2).toNat ++ zeros 248 := s2
    rw [s0, t1, t2]
    rfl
  · rw [nwithL_len, zeros_len]
  · rw [nwithL_len, nwithL_len, zeros_len]
  · rw [nwithL_len, nwithL_len, nwithL_len, zeros_len]

/-! The program's way back: the bytes stand at the front of a block. -/
theorem ofL_32 (b : List UInt8) (hb : b.length = 32) : layL (zeros 256) 0 b = b ++ zeros 224 := by
  have h := layL_zeros [] b 0 256 rfl rfl (by omega) (by omega)
  rw [hb] at h
  exact h
theorem getN_pad (b r : List UInt8) (hb : b.length = 32) (o W : Nat) (h1 : 1 ≤ W) (h4 : W ≤ 4) (hW : o + W ≤ 32) : getN (b ++ r) (o : Nat) (W : Nat) 4 = leV b o W := by
  unfold getN leV
  rw [if_pos (by unfold fitsB; rw [List.length_append, hb]; simp; omega), Int.toNat_natCast, Int.toNat_natCast, List.drop_append_of_le_length (by omega), List.take_append_of_le_length (by rw [List.length_drop, hb]; omega)]

/-- How many blocks. -/
def blocksI (n : Int) : Int := (max 0 (min n 34304) + 255) / 256

end Go.Proofs.YtkakihbfhmiabaaGreat

/-
  Patches of a block's bytes: which may be, what laying one makes, what it takes the place of; and the runs in which two blocks are unlike. Plain; no program is named here.
-/
namespace Go.Proofs.YtkakihbfhmiabaaGreat

/-- A number and some bytes. -/
structure Pt where
  at_ : Int
  data : List UInt8
instance : Inhabited Pt := ⟨⟨0, []⟩⟩
/-- May it be? -/
def Pt.right (p : Pt) : Bool := decide (1 ≤ p.data.length ∧ p.data.length ≤ 256 ∧ 0 ≤ p.at_ ∧ p.at_ ≤ 256 - (p.data.length : Int))
theorem Pt.right_iff {p : Pt} : p.right = true ↔ 1 ≤ p.data.length ∧ p.data.length ≤ 256 ∧ 0 ≤ p.at_ ∧ p.at_ ≤ 256 - (p.data.length : Int) := by unfold Pt.right; simp
/-- Where it begins. -/
def Pt.lo (p : Pt) : Nat := p.at_.toNat
/-- Is a byte in it? -/
def Pt.has (p : Pt) (i : Nat) : Bool := p.right && decide (p.lo ≤ i ∧ i < p.lo + p.data.length)
theorem Pt.has_iff {p : Pt} {i : Nat} : p.has i = true ↔ p.right = true ∧ p.lo ≤ i ∧ i < p.lo + p.data.length := by unfold Pt.has; simp
theorem Pt.has_lt {p : Pt} {i : Nat} (h : p.has i = true) : i < 256 := by
  obtain ⟨h1, h2, h3⟩ := Pt.has_iff.1 h
  have := Pt.right_iff.1 h1
  unfold Pt.lo at *
  omega
/-- A block with it. -/
def layP (L : List UInt8) (p : Pt) : List UInt8 := if p.right then splice L p.lo p.data else L
theorem Pt.fits {p : Pt} (h : p.right = true) {L : List UInt8} (hL : L.length = 256) : p.lo + p.data.length ≤ L.length := by
  have := Pt.right_iff.1 h
  unfold Pt.lo
  omega
theorem layP_len {L : List UInt8} (p : Pt) (hL : L.length = 256) : (layP L p).length = 256 := by
  unfold layP
  split
  · rename_i h; rw [splice_len _ _ _ (Pt.fits h hL), hL]
  · exact hL
theorem layP_get {L : List UInt8} (p : Pt) (hL : L.length = 256) (i : Nat) : (layP L p)[i]? = if p.has i then p.data[i - p.lo]? else L[i]? := by
  unfold layP Pt.has
  by_cases h : p.right = true
  · rw [if_pos h, splice_get _ _ _ (Pt.fits h hL), h]
    simp only [Bool.true_and, decide_eq_true_eq]
  · rw [if_neg h]
    have h' : p.right = false := by simpa using h
    rw [h']
    simp
theorem layP_wrong {L : List UInt8} {p : Pt} (h : p.right = false) : layP L p = L := by unfold layP; rw [h]; rfl
/-- All, one behind the other. -/
def layAll (L : List UInt8) (l : List Pt) : List UInt8 := l.foldl layP L
theorem layAll_len {L : List UInt8} (l : List Pt) (hL : L.length = 256) : (layAll L l).length = 256 := by
  induction l generalizing L with
  | nil => exact hL
  | cons p l ih => exact ih (layP_len p hL)
theorem layAll_snoc (L : List UInt8) (l : List Pt) (p : Pt) : layAll L (l ++ [p]) = layP (layAll L l) p := by unfold layAll; rw [List.foldl_append]; rfl
/-- Do two meet? -/
def meetP (p q : Pt) : Bool := (List.range 256).any fun i => p.has i && q.has i
theorem meetP_iff {p q : Pt} : meetP p q = true ↔ ∃ i, p.has i = true ∧ q.has i = true := by
  unfold meetP
  rw [List.any_eq_true]
  constructor
  · rintro ⟨i, _, h⟩
    exact ⟨i, by simpa using h⟩
  · rintro ⟨i, h1, h2⟩
    exact ⟨i, by simpa using Pt.has_lt h1, by simp [h1, h2]⟩
/-- Told by where they begin and end. -/
theorem meetP_ends (p q : Pt) : meetP p q = (p.right && q.right && decide (p.at_ < q.at_ + q.data.length) && decide (q.at_ < p.at_ + p.data.length)) := by
  rw [Bool.eq_iff_iff, meetP_iff]
  simp only [Bool.and_eq_true, decide_eq_true_eq]
  constructor
  · rintro ⟨i, h1, h2⟩
    obtain ⟨a1, a2, a3⟩ := Pt.has_iff.1 h1
    obtain ⟨b1, b2, b3⟩ := Pt.has_iff.1 h2
    have := Pt.right_iff.1 a1
    have := Pt.right_iff.1 b1
    unfold Pt.lo at *
    exact ⟨⟨⟨a1, b1⟩, by omega⟩, by omega⟩
  · rintro ⟨⟨⟨a1, b1⟩, h1⟩, h2⟩
    have r1 := Pt.right_iff.1 a1
    have r2 := Pt.right_iff.1 b1
    refine ⟨max p.lo q.lo, Pt.has_iff.2 ⟨a1, by omega, ?_⟩, Pt.has_iff.2 ⟨b1, by omega, ?_⟩⟩ <;> (unfold Pt.lo; omega)
/-- What it takes the place of. -/
def wasP (L : List UInt8) (p : Pt) : Pt := if p.right then ⟨p.at_, (L.drop p.lo).take p.data.length⟩ else ⟨0, []⟩
theorem wasP_right {L : List UInt8} {p : Pt} (hL : L.length = 256) (h : p.right = true) : wasP L p = ⟨p.at_, (L.drop p.lo).take p.data.length⟩ ∧ (wasP L p).data.length = p.data.length ∧ (wasP L p).right = true ∧ (wasP L p).lo = p.lo := by
  have hf := Pt.fits h hL
  have e : wasP L p = ⟨p.at_, (L.drop p.lo).take p.data.length⟩ := by unfold wasP; rw [if_pos h]
  have hl : ((L.drop p.lo).take p.data.length).length = p.data.length := by simp; omega
  refine ⟨e, by rw [e]; exact hl, ?_, by rw [e]; rfl⟩
  rw [e]
  have := Pt.right_iff.1 h
  apply Pt.right_iff.2
  simp only [hl]
  exact this
theorem wasP_wrong {L : List UInt8} {p : Pt} (h : p.right = false) : wasP L p = ⟨0, []⟩ := by unfold wasP; rw [h]; rfl
theorem wasP_has {L : List UInt8} {p : Pt} (hL : L.length = 256) (i : Nat) : (wasP L p).has i = p.has i := by
  cases h : p.right
  · rw [wasP_wrong h]; unfold Pt.has; rw [h]; rfl
  · obtain ⟨_, h2, h3, h4⟩ := wasP_right hL h
    unfold Pt.has
    rw [h2, h3, h4, h]
theorem wasP_get {L : List UInt8} {p : Pt} {i : Nat} (hL : L.length = 256) (h : p.has i = true) : (wasP L p).data[i - (wasP L p).lo]? = L[i]? := by
  obtain ⟨h1, h2, h3⟩ := Pt.has_iff.1 h
  obtain ⟨e, _, _, h4⟩ := wasP_right hL h1
  rw [h4, e]
  show ((L.drop p.lo).take p.data.length)[i - p.lo]? = _
  rw [List.getElem?_take_of_lt (by omega), List.getElem?_drop]
  congr 1; omega
/-- What was there takes it back. -/
theorem lay_back {L : List UInt8} (p : Pt) (hL : L.length = 256) : layP (layP L p) (wasP L p) = L := by
  apply List.ext_getElem?
  intro i
  rw [layP_get _ (layP_len p hL), wasP_has hL, layP_get p hL]
  cases h : p.has i
  · rfl
  · rw [if_pos rfl, wasP_get hL h]
theorem lay_twice {L : List UInt8} (p : Pt) (hL : L.length = 256) : layP (layP L p) p = layP L p := by
  apply List.ext_getElem?
  intro i
  rw [layP_get _ (layP_len p hL), layP_get p hL]
  cases h : p.has i <;> rfl
theorem lay_swap {L : List UInt8} (p q : Pt) (hL : L.length = 256) (h : meetP p q = false) : layP (layP L p) q = layP (layP L q) p := by
  apply List.ext_getElem?
  intro i
  rw [layP_get _ (layP_len p hL), layP_get _ (layP_len q hL), layP_get p hL, layP_get q hL]
  cases h1 : p.has i <;> cases h2 : q.has i
  · rfl
  · rfl
  · rfl
  · rw [meetP_iff.2 ⟨i, h1, h2⟩] at h; cases h
/-- The one that is laid last is there whole. -/
theorem lay_last {L : List UInt8} (q : Pt) (hL : L.length = 256) (h : q.right = true) : wasP (layP L q) q = q := by
  have hL' := layP_len q hL
  obtain ⟨e, h2, _, h4⟩ := wasP_right hL' h
  have hd : ((layP L q).drop q.lo).take q.data.length = q.data := by
    apply List.ext_getElem?
    intro k
    by_cases hk : k < q.data.length
    · rw [List.getElem?_take_of_lt hk, List.getElem?_drop, layP_get q hL, if_pos (Pt.has_iff.2 ⟨h, by omega, by omega⟩)]
      congr 1; omega
    · rw [List.getElem?_eq_none (by simp; omega), List.getElem?_eq_none (by omega)]
  rw [e, hd]

/-! ### Runs -/
/-- Of the first k the runs of those that are so: where each begins, and how long it is. -/
def runsTo (u : Nat → Bool) : Nat → List (Nat × Nat)
  | 0 => []
  | k + 1 => if u k then (if k = 0 ∨ u (k - 1) = false then runsTo u k ++ [(k, 1)] else (runsTo u k).dropLast ++ [(((runsTo u k).getLastD (0, 0)).1, ((runsTo u k).getLastD (0, 0)).2 + 1)]) else runsTo u k
theorem runs_off (u : Nat → Bool) (k : Nat) (h : u k = false) : runsTo u (k + 1) = runsTo u k := by
  show (if u k then _ else _) = _
  rw [h]; rfl
theorem runs_new (u : Nat → Bool) (k : Nat) (h : u k = true) (hb : k = 0 ∨ u (k - 1) = false) : runsTo u (k + 1) = runsTo u k ++ [(k, 1)] := by
  show (if u k then _ else _) = _
  rw [h, if_pos rfl, if_pos hb]
theorem runs_more (u : Nat → Bool) (k s n : Nat) (l : List (Nat × Nat)) (h : u k = true) (hb : k ≠ 0 ∧ u (k - 1) = true) (e : runsTo u k = l ++ [(s, n)]) : runsTo u (k + 1) = l ++ [(s, n + 1)] := by
  show (if u k then _ else _) = _
  rw [h, if_pos rfl, if_neg (by rw [hb.2]; simp; exact hb.1), e]
  simp
/-- A whole run, from where it begins. -/
theorem runs_run (u : Nat → Bool) (s n : Nat) (h0 : s = 0 ∨ u (s - 1) = false) (h : ∀ j, s ≤ j → j < s + (n + 1) → u j = true) : runsTo u (s + (n + 1)) = runsTo u s ++ [(s, n + 1)] := by
  induction n with
  | zero => exact runs_new u s (h s (by omega) (by omega)) h0
  | succ n ih =>
    have h1 := ih (fun j j1 j2 => h j j1 (by omega))
    exact runs_more u (s + (n + 1)) s (n + 1) _ (h _ (by omega) (by omega)) ⟨by omega, h _ (by omega) (by omega)⟩ h1
/-- Such runs as they must be: each is so throughout, begins and ends where it must, and they rise. -/
structure RunsOk (u : Nat → Bool) (k : Nat) (l : List (Nat × Nat)) : Prop where
  pos : ∀ r ∈ l, 1 ≤ r.2 ∧ r.1 + r.2 ≤ k
  in_ : ∀ r ∈ l, ∀ j, r.1 ≤ j → j < r.1 + r.2 → u j = true
  all : ∀ j, j < k → u j = true → ∃ r ∈ l, r.1 ≤ j ∧ j < r.1 + r.2
  rise : List.Pairwise (fun r s => r.1 + r.2 < s.1) l
  last : ∀ l' r, l = l' ++ [r] → k ≠ 0 → u (k - 1) = true → r.1 + r.2 = k
  gap : k ≠ 0 → u (k - 1) = false → ∀ r ∈ l, r.1 + r.2 < k
theorem runs_ok (u : Nat → Bool) (k : Nat) : RunsOk u k (runsTo u k) := by
  induction k with
  | zero => exact ⟨by simp [runsTo], by simp [runsTo], fun j h => by omega, by simp [runsTo], fun _ _ _ h => by simp at h, fun h => by simp at h⟩
  | succ k ih =>
    cases hu : u k
    · rw [runs_off u k hu]
      refine ⟨fun r hr => ?_, ih.in_, fun j hj huj => ?_, ih.rise, fun l' r _ _ h => ?_, fun _ _ r hr => ?_⟩
      · have := ih.pos r hr; omega
      · by_cases hjk : j = k
        · rw [hjk, hu] at huj; cases huj
        · exact ih.all j (by omega) huj
      · rw [show k + 1 - 1 = k by omega, hu] at h; cases h
      · have := ih.pos r hr; omega
    · by_cases hb : k = 0 ∨ u (k - 1) = false
      · rw [runs_new u k hu hb]
        have hgap : ∀ r ∈ runsTo u k, r.1 + r.2 < k := fun r hr => by
          rcases hb with hb | hb
          · subst hb; simp [runsTo] at hr
          · by_cases hk : k = 0
            · subst hk; simp [runsTo] at hr
            · exact ih.gap hk hb r hr
        refine ⟨fun r hr => ?_, fun r hr j j1 j2 => ?_, fun j hj huj => ?_, ?_, fun l' r e _ _ => ?_, fun _ h => ?_⟩
        · rw [List.mem_append, List.mem_singleton] at hr
          rcases hr with hr | rfl
          · have := ih.pos r hr; omega
          · show 1 ≤ 1 ∧ k + 1 ≤ k + 1; omega
        · rw [List.mem_append, List.mem_singleton] at hr
          rcases hr with hr | rfl
          · exact ih.in_ r hr j j1 j2
          · have : j = k := by simp at j1 j2; omega
            rw [this]; exact hu
        · by_cases hjk : j = k
          · exact ⟨(k, 1), by simp, by simp [hjk]⟩
          · obtain ⟨r, hr, h1⟩ := ih.all j (by omega) huj
            exact ⟨r, by simp [hr], h1⟩
        · rw [List.pairwise_append]
          exact ⟨ih.rise, by simp, fun r hr s hs => by rw [List.mem_singleton] at hs; rw [hs]; exact hgap r hr⟩
        · obtain ⟨_, e2⟩ := List.append_inj' e rfl
          simp at e2; rw [← e2]
        · rw [show k + 1 - 1 = k by omega, hu] at h; cases h
      · have hk : k ≠ 0 ∧ u (k - 1) = true := by
          refine ⟨fun h => hb (Or.inl h), ?_⟩
          cases h : u (k - 1)
          · exact absurd (Or.inr h) hb
          · rfl
        obtain ⟨r0, hr0, h0⟩ := ih.all (k - 1) (by omega) hk.2
        obtain ⟨l, r, e⟩ : ∃ l r, runsTo u k = l ++ [r] := by
          cases hl : runsTo u k with
          | nil => rw [hl] at hr0; simp at hr0
          | cons x xs => exact ⟨_, _, (List.dropLast_concat_getLast (by simp)).symm⟩
        obtain ⟨s, n⟩ := r
        have hlast := ih.last l (s, n) e hk.1 hk.2
        rw [runs_more u k s n l hu hk e]
        have hpos := ih.pos
        have hin := ih.in_
        have hall := ih.all
        have hrise := ih.rise
        rw [e] at hpos hin hall hrise
        rw [List.pairwise_append] at hrise
        simp only at hlast
        refine ⟨fun r hr => ?_, fun r hr j j1 j2 => ?_, fun j hj huj => ?_, ?_, fun l' r e _ _ => ?_, fun _ h => ?_⟩
        · rw [List.mem_append, List.mem_singleton] at hr
          rcases hr with hr | rfl
          · have := hpos r (by simp [hr]); omega
          · show 1 ≤ n + 1 ∧ s + (n + 1) ≤ k + 1; omega
        · rw [List.mem_append, List.mem_singleton] at hr
          rcases hr with hr | rfl
          · exact hin r (by simp [hr]) j j1 j2
          · simp only at j1 j2
            by_cases hjk : j = k
            · rw [hjk]; exact hu
            · exact hin (s, n) (by simp) j j1 (by show j < s + n; omega)
        · by_cases hjk : j = k
          · exact ⟨(s, n + 1), by simp, by show s ≤ j ∧ j < s + (n + 1); omega⟩
          · obtain ⟨r, hr, h1⟩ := hall j (by omega) huj
            rw [List.mem_append, List.mem_singleton] at hr
            rcases hr with hr | rfl
            · exact ⟨r, by simp [hr], h1⟩
            · exact ⟨(s, n + 1), by simp, by show s ≤ j ∧ j < s + (n + 1); simp only at h1; omega⟩
        · rw [List.pairwise_append]
          exact ⟨hrise.1, by simp, fun r hr t ht => by rw [List.mem_singleton] at ht; rw [ht]; exact hrise.2.2 r hr (s, n) (by simp)⟩
        · obtain ⟨_, e2⟩ := List.append_inj' e rfl
          simp at e2
          rw [← e2]
          show s + (n + 1) = k + 1
          omega
        · rw [show k + 1 - 1 = k by omega, hu] at h; cases h

end Go.Proofs.YtkakihbfhmiabaaGreat

/-
  The eight inodes of a block. Plain; no program is named here.
-/
namespace Go.Proofs.YtkakihbfhmiabaaGreat

/-- Is it a place? -/
def placeB (k : Int) : Bool := decide (0 ≤ k ∧ k < 8)
theorem placeB_nat {q : Nat} (h : q < 8) : placeB (q : Int) = true := by unfold placeB; simp; omega
theorem placeB_true {k : Int} (h : placeB k = true) : ∃ q : Nat, q < 8 ∧ k = (q : Int) := by
  unfold placeB at h
  have h := of_decide_eq_true h
  exact ⟨k.toNat, by omega, by omega⟩
theorem placeB_false {k : Int} (h : placeB k = false) : k < 0 ∨ 8 ≤ k := by
  unfold placeB at h
  have h := of_decide_eq_false h
  omega

/-- 17.1: Raw. -/
def rawT (b : List UInt8) (k : Int) : List UInt8 := if placeB k then (b.drop (32 * k.toNat)).take 32 else zeros 32
theorem rawT_nat (b : List UInt8) {q : Nat} (h : q < 8) : rawT b (q : Int) = (b.drop (32 * q)).take 32 := by
  unfold rawT
  rw [placeB_nat h, Int.toNat_natCast]
  rfl
theorem rawT_no (b : List UInt8) {k : Int} (h : placeB k = false) : rawT b k = zeros 32 := by
  unfold rawT
  rw [h]
  rfl
theorem rawT_len {b : List UInt8} (hb : b.length = 256) (k : Int) : (rawT b k).length = 32 := by
  cases h : placeB k
  · rw [rawT_no b h, zeros_len]
  · obtain ⟨q, hq, rfl⟩ := placeB_true h
    rw [rawT_nat b hq, List.length_take, List.length_drop, hb]
    omega
/-- What copy has of the block's rest. -/
theorem rawT_copy {b : List UInt8} (hb : b.length = 256) {q : Nat} (h : q < 8) : splice (zeros 32) 0 (((b.drop (32 * q)).take (256 - 32 * q)).take 32) = rawT b (q : Int) := by
  have e : ((b.drop (32 * q)).take (256 - 32 * q)).take 32 = rawT b (q : Int) := by
    rw [rawT_nat b h, List.take_take]
    congr 1
    omega
  rw [e, splice_all _ _ (by rw [rawT_len hb, zeros_len])]
/-- 17.1: Get. -/
def getT (b : List UInt8) (k : Int) : Option (List Int) := if placeB k then cleanI (rawT b k) else none
theorem getT_nat (b : List UInt8) {q : Nat} (h : q < 8) : getT b (q : Int) = cleanI (rawT b (q : Int)) := by
  unfold getT
  rw [placeB_nat h]
  rfl
theorem getT_no (b : List UInt8) {k : Int} (h : placeB k = false) : getT b k = none := by
  unfold getT
  rw [h]
  rfl
def getTV (b : List UInt8) (k : Int) : List Int := (getT b k).getD freeI
theorem getTV_len (b : List UInt8) (k : Int) : (getTV b k).length = 11 := by
  unfold getTV getT cleanI
  split
  · split
    · exact getI_len _
    · rfl
  · rfl
/-- 17.1: Patch, and With. -/
def patT (k : Int) (l : List Int) : Pt := if placeB k && mayI l then ⟨32 * k, putI l⟩ else ⟨0, []⟩
def errT (k : Int) (l : List Int) : Int := if placeB k then (if mayI l then 0 else 1) else 2
def withT (b : List UInt8) (k : Int) (l : List Int) : List UInt8 := layP b (patT k l)
theorem patT_no {k : Int} {l : List Int} (h : placeB k = false) : patT k l = ⟨0, []⟩ := by unfold patT; rw [h]; rfl
theorem patT_not {k : Int} {l : List Int} (h : mayI l = false) : patT k l = ⟨0, []⟩ := by unfold patT; rw [h, Bool.and_false]; rfl
theorem patT_nat {q : Nat} (hq : q < 8) {l : List Int} (h : mayI l = true) : patT (q : Int) l = ⟨((32 * q : Nat) : Int), putI l⟩ := by
  unfold patT
  rw [h, placeB_nat hq]
  simp
theorem errT_no {k : Int} {l : List Int} (h : placeB k = false) : errT k l = 2 := by unfold errT; rw [h]; rfl
theorem errT_nat {q : Nat} (hq : q < 8) (l : List Int) : errT (q : Int) l = if mayI l then 0 else 1 := by unfold errT; rw [placeB_nat hq]; rfl
theorem errT_ways (k : Int) (l : List Int) : errT k l = 0 ∨ ((errT k l = 1 ∨ errT k l = 2) ∧ patT k l = ⟨0, []⟩) := by
  cases h : placeB k
  · exact Or.inr ⟨Or.inr (errT_no h), patT_no h⟩
  · cases h' : mayI l
    · exact Or.inr ⟨Or.inl (by unfold errT; rw [h, h']; rfl), patT_not h'⟩
    · exact Or.inl (by unfold errT; rw [h, h']; rfl)
theorem withT_len {b : List UInt8} (hb : b.length = 256) (k : Int) (l : List Int) : (withT b k l).length = 256 := layP_len _ hb
theorem withT_no {b : List UInt8} {k : Int} {l : List Int} (h : placeB k = false) : withT b k l = b := by
  unfold withT
  rw [patT_no h]
  exact layP_wrong rfl
theorem withT_not {b : List UInt8} {k : Int} {l : List Int} (h : mayI l = false) : withT b k l = b := by
  unfold withT
  rw [patT_not h]
  exact layP_wrong rfl
theorem withT_nat {b : List UInt8} {q : Nat} (hq : q < 8) {l : List Int} (hl : l.length = 11) (h : mayI l = true) : withT b (q : Int) l = splice b (32 * q) (putI l) := by
  unfold withT
  rw [patT_nat hq h]
  have hr : (⟨((32 * q : Nat) : Int), putI l⟩ : Pt).right = true := Pt.right_iff.2 ⟨by rw [putI_len hl]; omega, by rw [putI_len hl]; omega, by show (0 : Int) ≤ ((32 * q : Nat) : Int); omega, by rw [putI_len hl]; show ((32 * q : Nat) : Int) ≤ _; omega⟩
  unfold layP
  rw [hr]
  rfl
/-- 17.3: the place itself. -/
theorem rawT_same {b : List UInt8} (hb : b.length = 256) {q : Nat} (hq : q < 8) {l : List Int} (hl : l.length = 11) (h : mayI l = true) : rawT (withT b (q : Int) l) (q : Int) = putI l := by
  rw [withT_nat hq hl h, rawT_nat _ hq]
  apply List.ext_getElem?
  intro i
  have hp := putI_len hl
  by_cases hi : i < 32
  · rw [List.getElem?_take_of_lt hi, List.getElem?_drop, splice_get _ _ _ (by rw [hp, hb]; omega), if_pos (by rw [hp]; omega)]
    congr 1
    omega
  · rw [List.getElem?_eq_none (by rw [List.length_take]; omega), List.getElem?_eq_none (by rw [hp]; omega)]
/-- .. and any other one. -/
theorem rawT_other {b : List UInt8} (hb : b.length = 256) {q r : Nat} (hq : q < 8) (hr : r < 8) (hne : r ≠ q) {l : List Int} (hl : l.length = 11) : rawT (withT b (q : Int) l) (r : Int) = rawT b (r : Int) := by
  cases h : mayI l
  · rw [withT_not h]
  · rw [withT_nat hq hl h, rawT_nat _ hr, rawT_nat _ hr]
    apply List.ext_getElem?
    intro i
    have hp := putI_len hl
    by_cases hi : i < 32
    · rw [List.getElem?_take_of_lt hi, List.getElem?_take_of_lt hi, List.getElem?_drop, List.getElem?_drop, splice_get _ _ _ (by rw [hp, hb]; omega), if_neg (by rw [hp]; omega)]
    · rw [List.getElem?_eq_none (by rw [List.length_take]; omega), List.getElem?_eq_none (by rw [List.length_take]; omega)]
theorem getT_same {b : List UInt8} (hb : b.length = 256) {q : Nat} (hq : q < 8) {l : List Int} (hl : l.length = 11) (h : mayI l = true) : getT (withT b (q : Int) l) (q : Int) = some l := by
  rw [getT_nat _ hq, rawT_same hb hq hl h, clean_putI hl h]
theorem getT_other {b : List UInt8} (hb : b.length = 256) {q r : Nat} (hq : q < 8) (hr : r < 8) (hne : r ≠ q) {l : List Int} (hl : l.length = 11) : getT (withT b (q : Int) l) (r : Int) = getT b (r : Int) := by
  rw [getT_nat _ hr, getT_nat _ hr, rawT_other hb hq hr hne hl]
/-- Inodes are put in any order. -/
theorem withT_swap {b : List UInt8} (hb : b.length = 256) {q r : Nat} (hq : q < 8) (hr : r < 8) (hne : q ≠ r) {l m : List Int} (hl : l.length = 11) (hm : m.length = 11) (h : mayI l = true) (h' : mayI m = true) :
    withT (withT b (r : Int) m) (q : Int) l = withT (withT b (q : Int) l) (r : Int) m := by
  rw [withT_nat hq hl h, withT_nat hr hm h', withT_nat hr hm h', withT_nat hq hl h]
  have hp := putI_len hl
  have hp' := putI_len hm
  have g1 : (splice b (32 * r) (putI m)).length = 256 := by rw [splice_len _ _ _ (by rw [hp', hb]; omega), hb]
  have g2 : (splice b (32 * q) (putI l)).length = 256 := by rw [splice_len _ _ _ (by rw [hp, hb]; omega), hb]
  apply List.ext_getElem?
  intro i
  rw [splice_get _ _ _ (by rw [hp, g1]; omega), splice_get _ _ _ (by rw [hp', hb]; omega), splice_get _ _ _ (by rw [hp', g2]; omega), splice_get _ _ _ (by rw [hp, hb]; omega), hp, hp']
  by_cases c1 : 32 * q ≤ i ∧ i < 32 * q + 32
  · rw [if_pos c1, if_neg (by omega), if_pos c1]
  · rw [if_neg c1, if_neg c1]

/-! From the place 8 - m on. -/
def freeT (b : List UInt8) (q : Nat) : Bool := rawT b (q : Int) == zeros 32
/-- The first one of which f holds. -/
def fstT (f : Nat → Bool) : Nat → Nat × Bool
  | 0 => (0, false)
  | m + 1 => if f (7 - m) then (7 - m, true) else fstT f m
/-- Those of which it does not. -/
def usedT (f : Nat → Bool) : Nat → List Int
  | 0 => []
  | m + 1 => if f (7 - m) then usedT f m else (((7 - m : Nat)) : Int) :: usedT f m
/-- Does g hold of all? -/
def allT (g : Nat → Bool) : Nat → Bool
  | 0 => true
  | m + 1 => allT g m && g (7 - m)
theorem usedT_len (f : Nat → Bool) : ∀ m, (usedT f m).length ≤ m := by
  intro m
  induction m with
  | zero => exact Nat.le_refl _
  | succ m ih =>
    unfold usedT
    split
    · omega
    · rw [List.length_cons]; omega
theorem fstT_lt (f : Nat → Bool) : ∀ m, (fstT f m).1 < 8 := by
  intro m
  induction m with
  | zero => show 0 < 8; omega
  | succ m ih =>
    unfold fstT
    split
    · show 7 - m < 8; omega
    · exact ih
theorem at_up {m k : Nat} (h : m + k = 7) : 7 - m = k := by omega
theorem fstT_yes {f : Nat → Bool} {k : Nat} (hk : k < 8) (h : f k = true) : fstT f (8 - k) = (k, true) := by
  obtain ⟨m, hm⟩ : ∃ m, m + k = 7 := ⟨7 - k, by omega⟩
  rw [show 8 - k = m + 1 from by omega]
  unfold fstT
  rw [at_up hm, h]
  rfl
theorem fstT_no {f : Nat → Bool} {k : Nat} (hk : k < 8) (h : f k = false) : fstT f (8 - k) = fstT f (8 - (k + 1)) := by
  obtain ⟨m, hm⟩ : ∃ m, m + k = 7 := ⟨7 - k, by omega⟩
  rw [show 8 - k = m + 1 from by omega, show 8 - (k + 1) = m from by omega]
  show (if f (7 - m) then (7 - m, true) else fstT f m) = fstT f m
  rw [at_up hm, h]
  rfl
theorem usedT_yes {f : Nat → Bool} {k : Nat} (hk : k < 8) (h : f k = true) : usedT f (8 - k) = usedT f (8 - (k + 1)) := by
  obtain ⟨m, hm⟩ : ∃ m, m + k = 7 := ⟨7 - k, by omega⟩
  rw [show 8 - k = m + 1 from by omega, show 8 - (k + 1) = m from by omega]
  show (if f (7 - m) then usedT f m else (((7 - m : Nat)) : Int) :: usedT f m) = usedT f m
  rw [at_up hm, h]
  rfl
theorem usedT_no {f : Nat → Bool} {k : Nat} (hk : k < 8) (h : f k = false) : usedT f (8 - k) = (k : Int) :: usedT f (8 - (k + 1)) := by
  obtain ⟨m, hm⟩ : ∃ m, m + k = 7 := ⟨7 - k, by omega⟩
  rw [show 8 - k = m + 1 from by omega, show 8 - (k + 1) = m from by omega]
  show (if f (7 - m) then usedT f m else (((7 - m : Nat)) : Int) :: usedT f m) = (k : Int) :: usedT f m
  rw [at_up hm, h]
  rfl
theorem allT_at {g : Nat → Bool} {k : Nat} (hk : k < 8) : allT g (8 - k) = (allT g (8 - (k + 1)) && g k) := by
  obtain ⟨m, hm⟩ : ∃ m, m + k = 7 := ⟨7 - k, by omega⟩
  rw [show 8 - k = m + 1 from by omega, show 8 - (k + 1) = m from by omega]
  show (allT g m && g (7 - m)) = _
  rw [at_up hm]

end Go.Proofs.YtkakihbfhmiabaaGreat

/-
  Bits of lists of bytes: plain arithmetic; no program is named here.
-/
namespace Go.Proofs.YtkakihbfhmiabaaGreat
open Go.RowKit

/-- Bit k of these bytes. -/
def bitAt (L : List UInt8) (k : Nat) : Bool := (L.getD (k / 8) 0).toNat.testBit (k % 8)
def isBitB (i : Int) : Bool := decide (0 ≤ i ∧ i < 2048)
def hasB (L : List UInt8) (i : Int) : Bool := isBitB i && bitAt L i.toNat
/-- The number of the first n bits of f. -/
def byteOf (f : Nat → Bool) : Nat → Nat
  | 0 => 0
  | n + 1 => byteOf f n + (if f n then 2 ^ n else 0)
/-- m bytes with these bits. -/
def blockL (m : Nat) (f : Nat → Bool) : List UInt8 := (List.range m).map fun j => UInt8.ofNat (byteOf (fun k => f (8 * j + k)) 8)
/-- These bits with one more way. -/
def setF (f : Nat → Bool) (i : Int) (on : Bool) (k : Nat) : Bool := if (k : Int) = i then on else f k
def withL (L : List UInt8) (i : Int) (on : Bool) : List UInt8 := blockL L.length (setF (bitAt L) i on)
/-- The first i bits alone. -/
def cutF (f : Nat → Bool) (i : Nat) (k : Nat) : Bool := decide (k < i) && f k
/-- How many bits count. -/
def topN (n : Int) : Nat := (min n 2048).toNat
def setN (f : Nat → Bool) (m : Nat) : List Nat := (List.range m).filter f
def firstO (f : Nat → Bool) (fr : Int) (m : Nat) : Option Nat := (List.range m).find? fun k => decide (fr ≤ (k : Int)) && !f k
def makeF (l : List Int) (k : Nat) : Bool := l.any fun i => decide ((k : Int) = i)

theorem byteOf_succ (f : Nat → Bool) (n : Nat) : byteOf f (n + 1) = byteOf f n + (if f n then 2 ^ n else 0) := rfl
theorem ofNat_byte {n : Nat} (h : n < 256) : (UInt8.ofNat n).toNat = n := by
  rw [UInt8.toNat_ofNat']
  exact Nat.mod_eq_of_lt h
theorem byteOf_lt (f : Nat → Bool) (n : Nat) : byteOf f n < 2 ^ n := by
  induction n with
  | zero => simp [byteOf]
  | succ n ih =>
    rw [byteOf_succ, Nat.pow_succ]
    split <;> omega
theorem byteOf_bit (f : Nat → Bool) (n k : Nat) : (byteOf f n).testBit k = (decide (k < n) && f k) := by
  induction n with
  | zero => simp [byteOf]
  | succ n ih =>
    have h := byteOf_lt f n
    have e : byteOf f (n + 1) = 2 ^ n * (f n).toNat + byteOf f n := by
      rw [byteOf_succ]
      cases f n <;> simp <;> omega
    rw [e, Nat.testBit_two_pow_mul_add _ h]
    by_cases hk : k < n
    · rw [if_pos hk, ih]
      simp [hk, show k < n + 1 by omega]
    · rw [if_neg hk]
      by_cases hk2 : k = n
      · subst hk2
        simp
        cases f k <;> simp
      · simp [show ¬ k < n + 1 by omega]
        cases f n
        · simp
        · rw [Bool.eq_false_iff]
          intro h1
          have h2 : k - n = 0 := Nat.testBit_one_eq_true_iff_self_eq_zero.1 h1
          omega
theorem byteOf_congr {f g : Nat → Bool} (n : Nat) (h : ∀ k, k < n → f k = g k) : byteOf f n = byteOf g n := by
  induction n with
  | zero => rfl
  | succ n ih => rw [byteOf_succ, byteOf_succ, ih fun k hk => h k (by omega), h n (by omega)]
theorem byteOf_cut (f : Nat → Bool) (r n : Nat) (h : r ≤ n) : byteOf (fun k => decide (k < r) && f k) n = byteOf f r := by
  induction n with
  | zero => obtain rfl : r = 0 := by omega
            rfl
  | succ n ih =>
    by_cases hr : r = n + 1
    · subst hr
      exact byteOf_congr _ fun k hk => by simp [hk]
    · rw [byteOf_succ, ih (by omega)]
      simp [show ¬ n < r by omega]
theorem byteOf_byte (f : Nat → Bool) : (UInt8.ofNat (byteOf f 8)).toNat = byteOf f 8 := ofNat_byte (byteOf_lt f 8)
theorem byteOf_byte' (f : Nat → Bool) (r : Nat) (h : r ≤ 8) : (UInt8.ofNat (byteOf f r)).toNat = byteOf f r :=
  ofNat_byte (Nat.lt_of_lt_of_le (byteOf_lt f r) (Nat.pow_le_pow_right (n := 2) (by omega) h))

theorem blockL_len (m : Nat) (f : Nat → Bool) : (blockL m f).length = m := by simp [blockL]
theorem blockL_get (m : Nat) (f : Nat → Bool) (j : Nat) (h : j < m) : (blockL m f).getD j 0 = UInt8.ofNat (byteOf (fun k => f (8 * j + k)) 8) := by
  simp [blockL, List.getD, List.getElem?_map, List.getElem?_range h]
theorem bitAt_blockL (m : Nat) (f : Nat → Bool) (k : Nat) (h : k < 8 * m) : bitAt (blockL m f) k = f k := by
  unfold bitAt
  rw [blockL_get _ _ _ (by omega), byteOf_byte, byteOf_bit, decide_eq_true (by omega), show 8 * (k / 8) + k % 8 = k by omega]
  rfl
theorem bitAt_past (L : List UInt8) (k : Nat) (h : 8 * L.length ≤ k) : bitAt L k = false := by
  unfold bitAt
  rw [List.getD_eq_getElem?_getD, List.getElem?_eq_none (by omega)]
  simp
theorem bytes_ext {L M : List UInt8} (hl : L.length = M.length) (h : ∀ k, k < 8 * L.length → bitAt L k = bitAt M k) : L = M := by
  apply List.ext_getElem hl
  intro j h1 h2
  apply UInt8.toNat_inj.1
  apply Nat.eq_of_testBit_eq
  intro r
  by_cases hr : r < 8
  · have hb := h (8 * j + r) (by omega)
    unfold bitAt at hb
    rw [show (8 * j + r) / 8 = j by omega, show (8 * j + r) % 8 = r by omega] at hb
    simpa [List.getD, h1, h2] using hb
  · have p1 := L[j].toNat_lt
    have p2 := M[j].toNat_lt
    have hp : 2 ^ 8 ≤ 2 ^ r := Nat.pow_le_pow_right (by omega) (by omega)
    rw [Nat.testBit_lt_two_pow (by omega), Nat.testBit_lt_two_pow (by omega)]
theorem blockL_congr {m : Nat} {f g : Nat → Bool} (h : ∀ k, k < 8 * m → f k = g k) : blockL m f = blockL m g :=
  bytes_ext (by rw [blockL_len, blockL_len]) fun k hk => by
    rw [blockL_len] at hk
    rw [bitAt_blockL _ _ _ hk, bitAt_blockL _ _ _ hk, h k hk]
theorem blockL_bits (L : List UInt8) : blockL L.length (bitAt L) = L :=
  bytes_ext (blockL_len _ _) fun k hk => by
    rw [blockL_len] at hk
    exact bitAt_blockL _ _ _ hk
theorem withL_len (L : List UInt8) (i : Int) (on : Bool) : (withL L i on).length = L.length := blockL_len _ _
theorem bitAt_withL (L : List UInt8) (i : Int) (on : Bool) (k : Nat) (h : k < 8 * L.length) : bitAt (withL L i on) k = if (k : Int) = i then on else bitAt L k := bitAt_blockL _ _ _ h
theorem withL_out (L : List UInt8) (i : Int) (on : Bool) (h : i < 0 ∨ 8 * (L.length : Int) ≤ i) : withL L i on = L := by
  refine Eq.trans (blockL_congr fun k hk => ?_) (blockL_bits L)
  unfold setF
  rw [if_neg (by omega)]
/-- One byte's bit by itself. -/
theorem withL_set (L : List UInt8) (i : Nat) (on : Bool) (h : i < 8 * L.length) (x : UInt8) (hx : ∀ r, r < 8 → x.toNat.testBit r = if r = i % 8 then on else (L.getD (i / 8) 0).toNat.testBit r) : L.set (i / 8) x = withL L i on :=
  bytes_ext (by rw [withL_len, List.length_set]) fun k hk => by
    rw [List.length_set] at hk
    rw [bitAt_withL _ _ _ _ hk]
    unfold bitAt
    by_cases hj : k / 8 = i / 8
    · have e : (L.set (i / 8) x).getD (k / 8) 0 = x := by
        rw [hj]
        simp [List.getD, show i / 8 < L.length by omega]
      rw [e, hx _ (by omega), hj]
      by_cases hr : k % 8 = i % 8
      · rw [if_pos hr, if_pos (by omega)]
      · rw [if_neg hr, if_neg (by omega)]
    · have e : (L.set (i / 8) x).getD (k / 8) 0 = L.getD (k / 8) 0 := by
        simp [List.getD, show ¬ i / 8 = k / 8 by omega]
      rw [e, if_neg (by omega)]

/-! ### A byte and a mask -/

theorem and_mask (x r : Nat) : (x &&& 2 ^ r = 0) ↔ x.testBit r = false := by
  constructor
  · intro h
    have h1 : (x &&& 2 ^ r).testBit r = false := by rw [h]; simp
    simpa [Nat.testBit_and, Nat.testBit_two_pow_self] using h1
  · intro h
    apply Nat.eq_of_testBit_eq
    intro k
    rw [Nat.testBit_and]
    by_cases hk : r = k
    · subst hk; simp [h]
    · simp [Nat.testBit_two_pow_of_ne hk]
theorem pow_byte {r : Nat} (h : r < 8) : 2 ^ r < 256 := Nat.lt_of_lt_of_le (Nat.pow_lt_pow_right (by omega) h) (Nat.le_refl _)
theorem bits_and_mask (x : UInt8) (r : Nat) (h : r < 8) : bits .and .u8 (x.toNat : Int) ((2 ^ r : Nat) : Int) = ((x.toNat &&& 2 ^ r : Nat) : Int) :=
  (bits_nat .u8 8 (by decide) wraps_u8 _ _ x.toNat_lt (pow_byte h)).1
theorem bits_or_mask (x : UInt8) (r : Nat) (h : r < 8) : bits .or .u8 (x.toNat : Int) ((2 ^ r : Nat) : Int) = ((UInt8.ofNat (x.toNat ||| 2 ^ r)).toNat : Int) := by
  have hlt : x.toNat ||| 2 ^ r < 2 ^ 8 := Nat.or_lt_two_pow x.toNat_lt (pow_byte h)
  rw [(bits_nat .u8 8 (by decide) wraps_u8 _ _ x.toNat_lt (pow_byte h)).2, ofNat_byte hlt]
theorem bits_not_mask (x : UInt8) (r : Nat) (h : r < 8) : bits .andNot .u8 (x.toNat : Int) ((2 ^ r : Nat) : Int) = ((UInt8.ofNat (x.toNat &&& (2 ^ 8 - (2 ^ r + 1)))).toNat : Int) := by
  have hp := pow_byte h
  have hx := x.toNat_lt
  have h1 : (BitVec.ofInt 8 (x.toNat : Int)).toNat = x.toNat := by
    rw [BitVec.ofInt_natCast, BitVec.toNat_ofNat]; exact Nat.mod_eq_of_lt (by omega)
  have h2 : (BitVec.ofInt 8 ((2 ^ r : Nat) : Int)).toNat = 2 ^ r := by
    rw [BitVec.ofInt_natCast, BitVec.toNat_ofNat]; exact Nat.mod_eq_of_lt (by omega)
  have hle : x.toNat &&& (2 ^ 8 - (2 ^ r + 1)) ≤ x.toNat := Nat.and_le_left
  show IntKind.u8.wrap ((BitVec.ofInt 8 (x.toNat : Int) &&& ~~~ BitVec.ofInt 8 ((2 ^ r : Nat) : Int)).toNat : Int) = _
  rw [BitVec.toNat_and, BitVec.toNat_not, h1, h2, show 2 ^ 8 - 1 - 2 ^ r = 2 ^ 8 - (2 ^ r + 1) by omega, wraps_u8 _ (by omega) (by omega), ofNat_byte (by omega)]
/-- The byte with a bit set, or not. -/
def flipU (x : UInt8) (r : Nat) (on : Bool) : UInt8 := if on then UInt8.ofNat (x.toNat ||| 2 ^ r) else UInt8.ofNat (x.toNat &&& (2 ^ 8 - (2 ^ r + 1)))
theorem flipU_bit (x : UInt8) (r : Nat) (h : r < 8) (on : Bool) (k : Nat) (hk : k < 8) : (flipU x r on).toNat.testBit k = if k = r then on else x.toNat.testBit k := by
  have hp := pow_byte h
  have hx := x.toNat_lt
  unfold flipU
  cases on
  · have hle : x.toNat &&& (2 ^ 8 - (2 ^ r + 1)) ≤ x.toNat := Nat.and_le_left
    have e : (UInt8.ofNat (x.toNat &&& (2 ^ 8 - (2 ^ r + 1)))).toNat = x.toNat &&& (2 ^ 8 - (2 ^ r + 1)) := ofNat_byte (by omega)
    rw [if_neg (by simp), e, Nat.testBit_and, Nat.testBit_two_pow_sub_succ (by omega), decide_eq_true hk]
    by_cases hkr : k = r
    · subst hkr; simp [Nat.testBit_two_pow_self]
    · simp [hkr, Nat.testBit_two_pow_of_ne (fun h => hkr h.symm)]
  · have hlt : x.toNat ||| 2 ^ r < 2 ^ 8 := Nat.or_lt_two_pow hx (by omega)
    have e : (UInt8.ofNat (x.toNat ||| 2 ^ r)).toNat = x.toNat ||| 2 ^ r := ofNat_byte hlt
    rw [if_pos rfl, e, Nat.testBit_or]
    by_cases hkr : k = r
    · subst hkr; simp [Nat.testBit_two_pow_self]
    · simp [hkr, Nat.testBit_two_pow_of_ne (fun h => hkr h.symm)]
theorem withL_flip (L : List UInt8) (i : Nat) (on : Bool) (h : i < 8 * L.length) : L.set (i / 8) (flipU (L.getD (i / 8) 0) (i % 8) on) = withL L i on :=
  withL_set L i on h _ fun r hr => flipU_bit _ _ (by omega) _ _ hr

/-! ### A block, bit by bit -/

theorem block_at (m : Nat) (f : Nat → Bool) (i : Nat) (h : i < 8 * m) : (blockL m (cutF f i)).getD (i / 8) 0 = UInt8.ofNat (byteOf (fun k => f (8 * (i / 8) + k)) (i % 8)) := by
  rw [blockL_get _ _ _ (by omega)]
  congr 1
  rw [← byteOf_cut (fun k => f (8 * (i / 8) + k)) (i % 8) 8 (by omega)]
  refine byteOf_congr _ fun k _ => ?_
  unfold cutF
  congr 1
  apply decide_eq_decide.2
  omega
theorem block_next (m : Nat) (f : Nat → Bool) (i : Nat) (h : i < 8 * m) (hf : f i = true) :
    (blockL m (cutF f i)).set (i / 8) (UInt8.ofNat (byteOf (fun k => f (8 * (i / 8) + k)) (i % 8) + 2 ^ (i % 8))) = blockL m (cutF f (i + 1)) := by
  have e : byteOf (fun k => f (8 * (i / 8) + k)) (i % 8) + 2 ^ (i % 8) = byteOf (fun k => f (8 * (i / 8) + k)) (i % 8 + 1) := by
    rw [byteOf_succ, if_pos (by show f (8 * (i / 8) + i % 8) = true; rw [show 8 * (i / 8) + i % 8 = i by omega]; exact hf)]
  rw [e]
  apply List.ext_getElem?
  intro j
  rw [List.getElem?_set, blockL_len]
  by_cases hj : i / 8 = j
  · subst hj
    rw [if_pos rfl, if_pos (by omega)]
    unfold blockL
    rw [List.getElem?_map, List.getElem?_range (by omega)]
    simp only [Option.map_some]
    congr 2
    rw [← byteOf_cut (fun k => f (8 * (i / 8) + k)) (i % 8 + 1) 8 (by omega)]
    refine byteOf_congr _ fun k _ => ?_
    unfold cutF
    congr 1
    apply decide_eq_decide.2
    omega
  · rw [if_neg hj]
    by_cases hm : j < m
    · unfold blockL
      rw [List.getElem?_map, List.getElem?_map, List.getElem?_range hm]
      simp only [Option.map_some]
      congr 2
      refine byteOf_congr _ fun k hk => ?_
      unfold cutF
      congr 1
      apply decide_eq_decide.2
      omega
    · rw [List.getElem?_eq_none (by rw [blockL_len]; omega), List.getElem?_eq_none (by rw [blockL_len]; omega)]
theorem block_stay (m : Nat) (f : Nat → Bool) (i : Nat) (hf : f i = false) : blockL m (cutF f (i + 1)) = blockL m (cutF f i) :=
  blockL_congr fun k _ => by
    unfold cutF
    by_cases hk : k = i
    · subst hk; simp [hf]
    · congr 1
      apply decide_eq_decide.2
      omega
theorem block_start (m : Nat) (f : Nat → Bool) : blockL m (cutF f 0) = zeros m :=
  bytes_ext (by rw [blockL_len, zeros_len]) fun k hk => by
    rw [blockL_len] at hk
    rw [bitAt_blockL _ _ _ hk]
    unfold bitAt zeros cutF
    simp [List.getD, show k / 8 < m by omega]
theorem block_end (m : Nat) (f : Nat → Bool) : blockL m (cutF f (8 * m)) = blockL m f :=
  blockL_congr fun k hk => by
    unfold cutF
    rw [decide_eq_true hk]
    rfl

/-! ### What is set, what is first -/

theorem setN_next (f : Nat → Bool) (m : Nat) : setN f (m + 1) = setN f m ++ if f m then [m] else [] := by
  unfold setN
  rw [List.range_succ, List.filter_append]
  cases h : f m <;> simp [h]
theorem setN_len (f : Nat → Bool) (m : Nat) : (setN f m).length ≤ m := by
  unfold setN
  exact Nat.le_trans (List.length_filter_le _ _) (by simp)
theorem setN_mono (f : Nat → Bool) {m n : Nat} (h : m ≤ n) : (setN f m).length ≤ (setN f n).length := by
  induction n with
  | zero => obtain rfl : m = 0 := by omega
            exact Nat.le_refl _
  | succ n ih =>
    by_cases hm : m = n + 1
    · subst hm; exact Nat.le_refl _
    · rw [setN_next, List.length_append]
      have := ih (by omega)
      omega
theorem setN_congr {f g : Nat → Bool} (m : Nat) (h : ∀ k, k < m → f k = g k) : setN f m = setN g m := by
  unfold setN
  exact List.filter_congr fun k hk => h k (List.mem_range.1 hk)
theorem firstO_some (f : Nat → Bool) (fr : Int) (m k : Nat) (hk : k < m) (h1 : fr ≤ k) (h2 : f k = false) (h3 : ∀ j : Nat, fr ≤ j → j < k → f j = true) : firstO f fr m = some k := by
  unfold firstO
  rw [List.find?_range_eq_some]
  refine ⟨by simp [h1, h2], by simpa using hk, fun j hj => ?_⟩
  by_cases h : fr ≤ (j : Int)
  · simp [h3 j h hj]
  · simp [h]
theorem firstO_none (f : Nat → Bool) (fr : Int) (m : Nat) (h3 : ∀ j : Nat, fr ≤ j → j < m → f j = true) : firstO f fr m = none := by
  unfold firstO
  rw [List.find?_range_eq_none]
  intro j hj
  by_cases h : fr ≤ (j : Int)
  · simp [h3 j h hj]
  · simp [h]
theorem firstO_is {f : Nat → Bool} {fr : Int} {m k : Nat} (h : firstO f fr m = some k) : k < m ∧ fr ≤ k ∧ f k = false ∧ ∀ j : Nat, fr ≤ j → j < k → f j = true := by
  unfold firstO at h
  rw [List.find?_range_eq_some] at h
  obtain ⟨h1, h2, h3⟩ := h
  simp at h1 h2
  refine ⟨h2, h1.1, h1.2, fun j h4 h5 => ?_⟩
  have := h3 j h5
  simpa [h4] using this
theorem firstO_not {f : Nat → Bool} {fr : Int} {m : Nat} (h : firstO f fr m = none) : ∀ j : Nat, fr ≤ j → j < m → f j = true := by
  unfold firstO at h
  rw [List.find?_range_eq_none] at h
  intro j h4 h5
  have := h j h5
  simpa [h4] using this
theorem firstO_congr {f g : Nat → Bool} (fr : Int) (m : Nat) (h : ∀ k, k < m → f k = g k) : firstO f fr m = firstO g fr m := by
  cases e : firstO f fr m with
  | none => exact (firstO_none g fr m fun j h1 h2 => by rw [← h j h2]; exact firstO_not e j h1 h2).symm
  | some k =>
    obtain ⟨h1, h2, h3, h4⟩ := firstO_is e
    exact (firstO_some g fr m k h1 h2 (by rw [← h k h1]; exact h3) fun j h5 h6 => by rw [← h j (by omega)]; exact h4 j h5 h6).symm

/-- The bits that are set, as whole numbers. -/
def setI (f : Nat → Bool) (m : Nat) : List Int := (setN f m).map fun (k : Nat) => (k : Int)
theorem setI_len (f : Nat → Bool) (m : Nat) : (setI f m).length = (setN f m).length := by simp [setI]
theorem setI_on (f : Nat → Bool) (m : Nat) (h : f m = true) : setI f (m + 1) = setI f m ++ [(m : Int)] := by
  unfold setI
  rw [setN_next, h]
  simp
theorem setI_off (f : Nat → Bool) (m : Nat) (h : f m = false) : setI f (m + 1) = setI f m := by
  unfold setI
  rw [setN_next, h]
  simp

/-! ### A block of some bits -/

theorem makeF_snoc (l : List Int) (i : Int) (k : Nat) : makeF (l ++ [i]) k = setF (makeF l) i true k := by
  unfold makeF setF
  rw [List.any_append]
  by_cases h : (k : Int) = i
  · simp [h]
  · simp [h]
theorem make_next (m : Nat) (l : List Int) (i : Int) : withL (blockL m (makeF l)) i true = blockL m (makeF (l ++ [i])) := by
  unfold withL
  rw [blockL_len]
  refine blockL_congr fun k hk => ?_
  rw [makeF_snoc]
  unfold setF
  rw [bitAt_blockL _ _ _ hk]
theorem make_start (m : Nat) : blockL m (makeF []) = zeros m := by
  rw [← block_start m (fun _ => false)]
  refine blockL_congr fun k _ => ?_
  simp [makeF, cutF]

/-! ### Halving -/

theorem bit_half (x k : Nat) : decide (x / 2 ^ k % 2 = 1) = x.testBit k := by
  rw [Nat.testBit_eq_decide_div_mod_eq]

end Go.Proofs.YtkakihbfhmiabaaGreat
