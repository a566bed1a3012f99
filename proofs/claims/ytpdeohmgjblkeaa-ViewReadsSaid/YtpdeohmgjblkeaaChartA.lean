/-
  Bits of lists of bytes: plain arithmetic; no program is named here.
-/
import Derived.Test.YtpdeohmgjblkeaaGrA
import Derived.Laws.BitsLemmas
namespace Go.Proofs.Ytpdeohmgjblkeaa
open Go.RowKit

/-- Bit k of these bytes. -/
def bitAt (L : List UInt8) (k : Nat) : Bool := (L.getD (k / 8) 0).toNat.testBit (k % 8)
def isBitB (i : Int) : Bool := decide (0 ≤ i ∧ i < 2048)
def hasB (L : List UInt8) (i : Int) : Bool := isBitB i && bitAt L i.toNat
/-- The number of the first n bits of f. -/
def byteOf (f : Nat → Bool) : Nat → Nat
  | 0 => 0
  | n + 1 => byteOf f n + (if f n then 2 ^ n else 0)
/-- m bytes with these bits. -/
def blockL (m : Nat) (f : Nat → Bool) : List UInt8 := (List.range m).map fun j => UInt8.ofNat (byteOf (fun k => f (8 * j + k)) 8)
/-- These bits with one more way. -/
def setF (f : Nat → Bool) (i : Int) (on : Bool) (k : Nat) : Bool := if (k : Int) = i then on else f k
def withL (L : List UInt8) (i : Int) (on : Bool) : List UInt8 := blockL L.length (setF (bitAt L) i on)
/-- The first i bits alone. -/
def cutF (f : Nat → Bool) (i : Nat) (k : Nat) : Bool := decide (k < i) && f k
/-- How many bits count. -/
def topN (n : Int) : Nat := (min n 2048).toNat
def setN (f : Nat → Bool) (m : Nat) : List Nat := (List.range m).filter f
def firstO (f : Nat → Bool) (fr : Int) (m : Nat) : Option Nat := (List.range m).find? fun k => decide (fr ≤ (k : Int)) && !f k
def makeF (l : List Int) (k : Nat) : Bool := l.any fun i => decide ((k : Int) = i)

theorem byteOf_succ (f : Nat → Bool) (n : Nat) : byteOf f (n + 1) = byteOf f n + (if f n then 2 ^ n else 0) := rfl
theorem ofNat_byte {n : Nat} (h : n < 256) : (UInt8.ofNat n).toNat = n := by
  rw [UInt8.toNat_ofNat']
  exact Nat.mod_eq_of_lt h
theorem byteOf_lt (f : Nat → Bool) (n : Nat) : byteOf f n < 2 ^ n := by
  induction n with
  | zero => simp [byteOf]
  | succ n ih =>
    rw [byteOf_succ, Nat.pow_succ]
    split <;> omega
theorem byteOf_bit (f : Nat → Bool) (n k : Nat) : (byteOf f n).testBit k = (decide (k < n) && f k) := by
  induction n with
  | zero => simp [byteOf]
  | succ n ih =>
    have h := byteOf_lt f n
    have e : byteOf f (n + 1) = 2 ^ n * (f n).toNat + byteOf f n := by
      rw [byteOf_succ]
      cases f n <;> simp <;> omega
    rw [e, Nat.testBit_two_pow_mul_add _ h]
    by_cases hk : k < n
    · rw [if_pos hk, ih]
      simp [hk, show k < n + 1 by omega]
    · rw [if_neg hk]
      by_cases hk2 : k = n
      · subst hk2
        simp
        cases f k <;> simp
      · simp [show ¬ k < n + 1 by omega]
        cases f n
        · simp
        · rw [Bool.eq_false_iff]
          intro h1
          have h2 : k - n = 0 := Nat.testBit_one_eq_true_iff_self_eq_zero.1 h1
          omega
theorem byteOf_congr {f g : Nat → Bool} (n : Nat) (h : ∀ k, k < n → f k = g k) : byteOf f n = byteOf g n := by
  induction n with
  | zero => rfl
  | succ n ih => rw [byteOf_succ, byteOf_succ, ih fun k hk => h k (by omega), h n (by omega)]
theorem byteOf_cut (f : Nat → Bool) (r n : Nat) (h : r ≤ n) : byteOf (fun k => decide (k < r) && f k) n = byteOf f r := by
  induction n with
  | zero => obtain rfl : r = 0 := by omega
            rfl
  | succ n ih =>
    by_cases hr : r = n + 1
    · subst hr
      exact byteOf_congr _ fun k hk => by simp [hk]
    · rw [byteOf_succ, ih (by omega)]
      simp [show ¬ n < r by omega]
theorem byteOf_byte (f : Nat → Bool) : (UInt8.ofNat (byteOf f 8)).toNat = byteOf f 8 := ofNat_byte (byteOf_lt f 8)
theorem byteOf_byte' (f : Nat → Bool) (r : Nat) (h : r ≤ 8) : (UInt8.ofNat (byteOf f r)).toNat = byteOf f r :=
  ofNat_byte (Nat.lt_of_lt_of_le (byteOf_lt f r) (Nat.pow_le_pow_right (n := 2) (by omega) h))

theorem blockL_len (m : Nat) (f : Nat → Bool) : (blockL m f).length = m := by simp [blockL]
theorem blockL_get (m : Nat) (f : Nat → Bool) (j : Nat) (h : j < m) : (blockL m f).getD j 0 = UInt8.ofNat (byteOf (fun k => f (8 * j + k)) 8) := by
  simp [blockL, List.getD, List.getElem?_map, List.getElem?_range h]
theorem bitAt_blockL (m : Nat) (f : Nat → Bool) (k : Nat) (h : k < 8 * m) : bitAt (blockL m f) k = f k := by
  unfold bitAt
  rw [blockL_get _ _ _ (by omega), byteOf_byte, byteOf_bit, decide_eq_true (by omega), show 8 * (k / 8) + k % 8 = k by omega]
  rfl
theorem bitAt_past (L : List UInt8) (k : Nat) (h : 8 * L.length ≤ k) : bitAt L k = false := by
  unfold bitAt
  rw [List.getD_eq_getElem?_getD, List.getElem?_eq_none (by omega)]
  simp
theorem bytes_ext {L M : List UInt8} (hl : L.length = M.length) (h : ∀ k, k < 8 * L.length → bitAt L k = bitAt M k) : L = M := by
  apply List.ext_getElem hl
  intro j h1 h2
  apply UInt8.toNat_inj.1
  apply Nat.eq_of_testBit_eq
  intro r
  by_cases hr : r < 8
  · have hb := h (8 * j + r) (by omega)
    unfold bitAt at hb
    rw [show (8 * j + r) / 8 = j by omega, show (8 * j + r) % 8 = r by omega] at hb
    simpa [List.getD, h1, h2] using hb
  · have p1 := L[j].toNat_lt
    have p2 := M[j].toNat_lt
    have hp : 2 ^ 8 ≤ 2 ^ r := Nat.pow_le_pow_right (by omega) (by omega)
    rw [Nat.testBit_lt_two_pow (by omega), Nat.testBit_lt_two_pow (by omega)]
theorem blockL_congr {m : Nat} {f g : Nat → Bool} (h : ∀ k, k < 8 * m → f k = g k) : blockL m f = blockL m g :=
  bytes_ext (by rw [blockL_len, blockL_len]) fun k hk => by
    rw [blockL_len] at hk
    rw [bitAt_blockL _ _ _ hk, bitAt_blockL _ _ _ hk, h k hk]
theorem blockL_bits (L : List UInt8) : blockL L.length (bitAt L) = L :=
  bytes_ext (blockL_len _ _) fun k hk => by
    rw [blockL_len] at hk
    exact bitAt_blockL _ _ _ hk
theorem withL_len (L : List UInt8) (i : Int) (on : Bool) : (withL L i on).length = L.length := blockL_len _ _
theorem bitAt_withL (L : List UInt8) (i : Int) (on : Bool) (k : Nat) (h : k < 8 * L.length) : bitAt (withL L i on) k = if (k : Int) = i then on else bitAt L k := bitAt_blockL _ _ _ h
theorem withL_out (L : List UInt8) (i : Int) (on : Bool) (h : i < 0 ∨ 8 * (L.length : Int) ≤ i) : withL L i on = L := by
  refine Eq.trans (blockL_congr fun k hk => ?_) (blockL_bits L)
  unfold setF
  rw [if_neg (by omega)]
/-- One byte's bit by itself. -/
theorem withL_set (L : List UInt8) (i : Nat) (on : Bool) (h : i < 8 * L.length) (x : UInt8) (hx : ∀ r, r < 8 → x.toNat.testBit r = if r = i % 8 then on else (L.getD (i / 8) 0).toNat.testBit r) : L.set (i / 8) x = withL L i on :=
  bytes_ext (by rw [withL_len, List.length_set]) fun k hk => by
    rw [List.length_set] at hk
    rw [bitAt_withL _ _ _ _ hk]
    unfold bitAt
    by_cases hj : k / 8 = i / 8
    · have e : (L.set (i / 8) x).getD (k / 8) 0 = x := by
        rw [hj]
        simp [List.getD, show i / 8 < L.length by omega]
      rw [e, hx _ (by omega), hj]
      by_cases hr : k % 8 = i % 8
      · rw [if_pos hr, if_pos (by omega)]
      · rw [if_neg hr, if_neg (by omega)]
    · have e : (L.set (i / 8) x).getD (k / 8) 0 = L.getD (k / 8) 0 := by
        simp [List.getD, show ¬ i / 8 = k / 8 by omega]
      rw [e, if_neg (by omega)]

/-! ### A byte and a mask -/

theorem and_mask (x r : Nat) : (x &&& 2 ^ r = 0) ↔ x.testBit r = false := by
  constructor
  · intro h
    have h1 : (x &&& 2 ^ r).testBit r = false := by rw [h]; simp
    simpa [Nat.testBit_and, Nat.testBit_two_pow_self] using h1
  · intro h
    apply Nat.eq_of_testBit_eq
    intro k
    rw [Nat.testBit_and]
    by_cases hk : r = k
    · subst hk; simp [h]
    · simp [Nat.testBit_two_pow_of_ne hk]
theorem pow_byte {r : Nat} (h : r < 8) : 2 ^ r < 256 := Nat.lt_of_lt_of_le (Nat.pow_lt_pow_right (by omega) h) (Nat.le_refl _)
theorem bits_and_mask (x : UInt8) (r : Nat) (h : r < 8) : bits .and .u8 (x.toNat : Int) ((2 ^ r : Nat) : Int) = ((x.toNat &&& 2 ^ r : Nat) : Int) :=
  (bits_nat .u8 8 (by decide) wraps_u8 _ _ x.toNat_lt (pow_byte h)).1
theorem bits_or_mask (x : UInt8) (r : Nat) (h : r < 8) : bits .or .u8 (x.toNat : Int) ((2 ^ r : Nat) : Int) = ((UInt8.ofNat (x.toNat ||| 2 ^ r)).toNat : Int) := by
  have hlt : x.toNat ||| 2 ^ r < 2 ^ 8 := Nat.or_lt_two_pow x.toNat_lt (pow_byte h)
  rw [(bits_nat .u8 8 (by decide) wraps_u8 _ _ x.toNat_lt (pow_byte h)).2, ofNat_byte hlt]
theorem bits_not_mask (x : UInt8) (r : Nat) (h : r < 8) : bits .andNot .u8 (x.toNat : Int) ((2 ^ r : Nat) : Int) = ((UInt8.ofNat (x.toNat &&& (2 ^ 8 - (2 ^ r + 1)))).toNat : Int) := by
  have hp := pow_byte h
  have hx := x.toNat_lt
  have h1 : (BitVec.ofInt 8 (x.toNat : Int)).toNat = x.toNat := by
    rw [BitVec.ofInt_natCast, BitVec.toNat_ofNat]; exact Nat.mod_eq_of_lt (by omega)
  have h2 : (BitVec.ofInt 8 ((2 ^ r : Nat) : Int)).toNat = 2 ^ r := by
    rw [BitVec.ofInt_natCast, BitVec.toNat_ofNat]; exact Nat.mod_eq_of_lt (by omega)
  have hle : x.toNat &&& (2 ^ 8 - (2 ^ r + 1)) ≤ x.toNat := Nat.and_le_left
  show IntKind.u8.wrap ((BitVec.ofInt 8 (x.toNat : Int) &&& ~~~ BitVec.ofInt 8 ((2 ^ r : Nat) : Int)).toNat : Int) = _
  rw [BitVec.toNat_and, BitVec.toNat_not, h1, h2, show 2 ^ 8 - 1 - 2 ^ r = 2 ^ 8 - (2 ^ r + 1) by omega, wraps_u8 _ (by omega) (by omega), ofNat_byte (by omega)]
/-- The byte with a bit set, or not. -/
def flipU (x : UInt8) (r : Nat) (on : Bool) : UInt8 := if on then UInt8.ofNat (x.toNat ||| 2 ^ r) else UInt8.ofNat (x.toNat &&& (2 ^ 8 - (2 ^ r + 1)))
theorem flipU_bit (x : UInt8) (r : Nat) (h : r < 8) (on : Bool) (k : Nat) (hk : k < 8) : (flipU x r on).toNat.testBit k = if k = r then on else x.toNat.testBit k := by
  have hp := pow_byte h
  have hx := x.toNat_lt
  unfold flipU
  cases on
  · have hle : x.toNat &&& (2 ^ 8 - (2 ^ r + 1)) ≤ x.toNat := Nat.and_le_left
    have e : (UInt8.ofNat (x.toNat &&& (2 ^ 8 - (2 ^ r + 1)))).toNat = x.toNat &&& (2 ^ 8 - (2 ^ r + 1)) := ofNat_byte (by omega)
    rw [if_neg (by simp), e, Nat.testBit_and, Nat.testBit_two_pow_sub_succ (by omega), decide_eq_true hk]
    by_cases hkr : k = r
    · subst hkr; simp [Nat.testBit_two_pow_self]
    · simp [hkr, Nat.testBit_two_pow_of_ne (fun h => hkr h.symm)]
  · have hlt : x.toNat ||| 2 ^ r < 2 ^ 8 := Nat.or_lt_two_pow hx (by omega)
    have e : (UInt8.ofNat (x.toNat ||| 2 ^ r)).toNat = x.toNat ||| 2 ^ r := ofNat_byte hlt
    rw [if_pos rfl, e, Nat.testBit_or]
    by_cases hkr : k = r
    · subst hkr; simp [Nat.testBit_two_pow_self]
    · simp [hkr, Nat.testBit_two_pow_of_ne (fun h => hkr h.symm)]
theorem withL_flip (L : List UInt8) (i : Nat) (on : Bool) (h : i < 8 * L.length) : L.set (i / 8) (flipU (L.getD (i / 8) 0) (i % 8) on) = withL L i on :=
  withL_set L i on h _ fun r hr => flipU_bit _ _ (by omega) _ _ hr

/-! ### A block, bit by bit -/

theorem block_at (m : Nat) (f : Nat → Bool) (i : Nat) (h : i < 8 * m) : (blockL m (cutF f i)).getD (i / 8) 0 = UInt8.ofNat (byteOf (fun k => f (8 * (i / 8) + k)) (i % 8)) := by
  rw [blockL_get _ _ _ (by omega)]
  congr 1
  rw [← byteOf_cut (fun k => f (8 * (i / 8) + k)) (i % 8) 8 (by omega)]
  refine byteOf_congr _ fun k _ => ?_
  unfold cutF
  congr 1
  apply decide_eq_decide.2
  omega
theorem block_next (m : Nat) (f : Nat → Bool) (i : Nat) (h : i < 8 * m) (hf : f i = true) :
    (blockL m (cutF f i)).set (i / 8) (UInt8.ofNat (byteOf (fun k => f (8 * (i / 8) + k)) (i % 8) + 2 ^ (i % 8))) = blockL m (cutF f (i + 1)) := by
  have e : byteOf (fun k => f (8 * (i / 8) + k)) (i % 8) + 2 ^ (i % 8) = byteOf (fun k => f (8 * (i / 8) + k)) (i % 8 + 1) := by
    rw [byteOf_succ, if_pos (by show f (8 * (i / 8) + i % 8) = true; rw [show 8 * (i / 8) + i % 8 = i by omega]; exact hf)]
  rw [e]
  apply List.ext_getElem?
  intro j
  rw [List.getElem?_set, blockL_len]
  by_cases hj : i / 8 = j
  · subst hj
    rw [if_pos rfl, if_pos (by omega)]
    unfold blockL
    rw [List.getElem?_map, List.getElem?_range (by omega)]
    simp only [Option.map_some]
    congr 2
    rw [← byteOf_cut (fun k => f (8 * (i / 8) + k)) (i % 8 + 1) 8 (by omega)]
    refine byteOf_congr _ fun k _ => ?_
    unfold cutF
    congr 1
    apply decide_eq_decide.2
    omega
  · rw [if_neg hj]
    by_cases hm : j < m
    · unfold blockL
      rw [List.getElem?_map, List.getElem?_map, List.getElem?_range hm]
      simp only [Option.map_some]
      congr 2
      refine byteOf_congr _ fun k hk => ?_
      unfold cutF
      congr 1
      apply decide_eq_decide.2
      omega
    · rw [List.getElem?_eq_none (by rw [blockL_len]; omega), List.getElem?_eq_none (by rw [blockL_len]; omega)]
theorem block_stay (m : Nat) (f : Nat → Bool) (i : Nat) (hf : f i = false) : blockL m (cutF f (i + 1)) = blockL m (cutF f i) :=
  blockL_congr fun k _ => by
    unfold cutF
    by_cases hk : k = i
    · subst hk; simp [hf]
    · congr 1
      apply decide_eq_decide.2
      omega
theorem block_start (m : Nat) (f : Nat → Bool) : blockL m (cutF f 0) = zeros m :=
  bytes_ext (by rw [blockL_len, zeros_len]) fun k hk => by
    rw [blockL_len] at hk
    rw [bitAt_blockL _ _ _ hk]
    unfold bitAt zeros cutF
    simp [List.getD, show k / 8 < m by omega]
theorem block_end (m : Nat) (f : Nat → Bool) : blockL m (cutF f (8 * m)) = blockL m f :=
  blockL_congr fun k hk => by
    unfold cutF
    rw [decide_eq_true hk]
    rfl

/-! ### What is set, what is first -/

theorem setN_next (f : Nat → Bool) (m : Nat) : setN f (m + 1) = setN f m ++ if f m then [m] else [] := by
  unfold setN
  rw [List.range_succ, List.filter_append]
  cases h : f m <;> simp [h]
theorem setN_len (f : Nat → Bool) (m : Nat) : (setN f m).length ≤ m := by
  unfold setN
  exact Nat.le_trans (List.length_filter_le _ _) (by simp)
theorem setN_mono (f : Nat → Bool) {m n : Nat} (h : m ≤ n) : (setN f m).length ≤ (setN f n).length := by
  induction n with
  | zero => obtain rfl : m = 0 := by omega
            exact Nat.le_refl _
  | succ n ih =>
    by_cases hm : m = n + 1
    · subst hm; exact Nat.le_refl _
    · rw [setN_next, List.length_append]
      have := ih (by omega)
      omega
theorem setN_congr {f g : Nat → Bool} (m : Nat) (h : ∀ k, k < m → f k = g k) : setN f m = setN g m := by
  unfold setN
  exact List.filter_congr fun k hk => h k (List.mem_range.1 hk)
theorem firstO_some (f : Nat → Bool) (fr : Int) (m k : Nat) (hk : k < m) (h1 : fr ≤ k) (h2 : f k = false) (h3 : ∀ j : Nat, fr ≤ j → j < k → f j = true) : firstO f fr m = some k := by
  unfold firstO
  rw [List.find?_range_eq_some]
  refine ⟨by simp [h1, h2], by simpa using hk, fun j hj => ?_⟩
  by_cases h : fr ≤ (j : Int)
  · simp [h3 j h hj]
  · simp [h]
theorem firstO_none (f : Nat → Bool) (fr : Int) (m : Nat) (h3 : ∀ j : Nat, fr ≤ j → j < m → f j = true) : firstO f fr m = none := by
  unfold firstO
  rw [List.find?_range_eq_none]
  intro j hj
  by_cases h : fr ≤ (j : Int)
  · simp [h3 j h hj]
  · simp [h]
theorem firstO_is {f : Nat → Bool} {fr : Int} {m k : Nat} (h : firstO f fr m = some k) : k < m ∧ fr ≤ k ∧ f k = false ∧ ∀ j : Nat, fr ≤ j → j < k → f j = true := by
  unfold firstO at h
  rw [List.find?_range_eq_some] at h
  obtain ⟨h1, h2, h3⟩ := h
  simp at h1 h2
  refine ⟨h2, h1.1, h1.2, fun j h4 h5 => ?_⟩
  have := h3 j h5
  simpa [h4] using this
theorem firstO_not {f : Nat → Bool} {fr : Int} {m : Nat} (h : firstO f fr m = none) : ∀ j : Nat, fr ≤ j → j < m → f j = true := by
  unfold firstO at h
  rw [List.find?_range_eq_none] at h
  intro j h4 h5
  have := h j h5
  simpa [h4] using this
theorem firstO_congr {f g : Nat → Bool} (fr : Int) (m : Nat) (h : ∀ k, k < m → f k = g k) : firstO f fr m = firstO g fr m := by
  cases e : firstO f fr m with
  | none => exact (firstO_none g fr m fun j h1 h2 => by rw [← h j h2]; exact firstO_not e j h1 h2).symm
  | some k =>
    obtain ⟨h1, h2, h3, h4⟩ := firstO_is e
    exact (firstO_some g fr m k h1 h2 (by rw [← h k h1]; exact h3) fun j h5 h6 => by rw [← h j (by omega)]; exact h4 j h5 h6).symm

/-- The bits that are set, as whole numbers. -/
def setI (f : Nat → Bool) (m : Nat) : List Int := (setN f m).map fun (k : Nat) => (k : Int)
theorem setI_len (f : Nat → Bool) (m : Nat) : (setI f m).length = (setN f m).length := by simp [setI]
theorem setI_on (f : Nat → Bool) (m : Nat) (h : f m = true) : setI f (m + 1) = setI f m ++ [(m : Int)] := by
  unfold setI
  rw [setN_next, h]
  simp
theorem setI_off (f : Nat → Bool) (m : Nat) (h : f m = false) : setI f (m + 1) = setI f m := by
  unfold setI
  rw [setN_next, h]
  simp

/-! ### A block of some bits -/

theorem makeF_snoc (l : List Int) (i : Int) (k : Nat) : makeF (l ++ [i]) k = setF (makeF l) i true k := by
  unfold makeF setF
  rw [List.any_append]
  by_cases h : (k : Int) = i
  · simp [h]
  · simp [h]
theorem make_next (m : Nat) (l : List Int) (i : Int) : withL (blockL m (makeF l)) i true = blockL m (makeF (l ++ [i])) := by
  unfold withL
  rw [blockL_len]
  refine blockL_congr fun k hk => ?_
  rw [makeF_snoc]
  unfold setF
  rw [bitAt_blockL _ _ _ hk]
theorem make_start (m : Nat) : blockL m (makeF []) = zeros m := by
  rw [← block_start m (fun _ => false)]
  refine blockL_congr fun k _ => ?_
  simp [makeF, cutF]

/-! ### Halving -/

theorem bit_half (x k : Nat) : decide (x / 2 ^ k % 2 = 1) = x.testBit k := by
  rw [Nat.testBit_eq_decide_div_mod_eq]

end Go.Proofs.Ytpdeohmgjblkeaa
