/-
  Texts of this claim joined: ViewA, ViewB, IdxA, IdxB, PtsA, FmpA, FmpD.
-/
import Derived.Test.YtkakihbfhmiabaaGreatGrAB
import Derived.Test.YtkakihbfhmiabaaGreatGrAC
import Derived.Test.YtkakihbfhmiabaaGreatGrAA

/-
  A device as it is read from its blocks: its layout, its inodes, its used blocks. Plain; no program is named here.
-/
namespace Go.Proofs.YtkakihbfhmiabaaGreat
open Go.RowKit

/-- The block of a number, noughts where there is none. -/
def bkV (L : List (List UInt8)) (no : Int) : List UInt8 := if decide (0 ≤ no) then L.getD no.toNat (zeros 256) else zeros 256
theorem bkV_len {L : List (List UInt8)} (hL : Bks L) (no : Int) : (bkV L no).length = 256 := by
  unfold bkV
  split
  · rw [List.getD_eq_getElem?_getD]
    by_cases h : no.toNat < L.length
    · rw [List.getElem?_eq_getElem h]
      exact hL.get h
    · rw [List.getElem?_eq_none (by omega)]
      exact zeros_len _
  · exact zeros_len _
theorem bkV_at {L : List (List UInt8)} {k : Nat} (hk : k < L.length) : bkV L (k : Int) = L[k] := by
  unfold bkV
  rw [decide_eq_true (show (0 : Int) ≤ (k : Int) by omega), if_pos rfl, Int.toNat_natCast, List.getD_eq_getElem?_getD, List.getElem?_eq_getElem hk]
  rfl
theorem bkV_off {L : List (List UInt8)} {no : Int} (h : no < 0 ∨ (L.length : Int) ≤ no) : bkV L no = zeros 256 := by
  unfold bkV
  by_cases h0 : 0 ≤ no
  · rw [if_pos (by simpa using h0), List.getD_eq_getElem?_getD, List.getElem?_eq_none (by omega)]
    rfl
  · rw [if_neg (by simpa using h0)]
/-- 21.1: the layout of blocks, if they are a device. -/
def layW (L : List (List UInt8)) : Option Lay14 := if L.length = 0 then none else match get14 (bkV L 0) with
  | some l => if l.blocks = (L.length : Int) then some l else none
  | none => none
theorem layW_nil {L : List (List UInt8)} (h : L.length = 0) : layW L = none := by unfold layW; rw [if_pos h]
theorem layW_none {L : List (List UInt8)} (h0 : get14 (bkV L 0) = none) : layW L = none := by
  unfold layW
  rw [h0]
  split <;> rfl
theorem layW_other {L : List (List UInt8)} {l : Lay14} (h0 : get14 (bkV L 0) = some l) (h : l.blocks ≠ (L.length : Int)) : layW L = none := by
  unfold layW
  rw [h0]
  simp only [if_neg h]
  split <;> rfl
theorem layW_some {L : List (List UInt8)} {l : Lay14} (hL : L.length ≠ 0) (h0 : get14 (bkV L 0) = some l) (h : l.blocks = (L.length : Int)) : layW L = some l := by
  unfold layW
  rw [if_neg hL, h0]
  simp only [if_pos h]
theorem layW_is {L : List (List UInt8)} {l : Lay14} (h : layW L = some l) : L.length ≠ 0 ∧ get14 (bkV L 0) = some l ∧ l.blocks = (L.length : Int) := by
  by_cases h0 : L.length = 0
  · rw [layW_nil h0] at h; cases h
  · cases hg : get14 (bkV L 0) with
    | none => rw [layW_none hg] at h; cases h
    | some m =>
      by_cases hb : m.blocks = (L.length : Int)
      · rw [layW_some h0 hg hb] at h
        injection h with h
        subst h
        exact ⟨h0, rfl, hb⟩
      · rw [layW_other hg hb] at h; cases h
theorem get14_may {b : List UInt8} {l : Lay14} (h : get14 b = some l) : l.may = true ∧ l = seen14 b := by
  unfold get14 at h
  split at h
  · rename_i hh
    injection h with h
    subst h
    exact ⟨hh.1, rfl⟩
  · cases h
theorem layW_may {L : List (List UInt8)} {l : Lay14} (h : layW L = some l) : l.may = true := (get14_may (layW_is h).2.1).1
/-- .. as a value. -/
def layV (L : List (List UInt8)) : Lay14 := (layW L).getD ⟨0, 0, 0⟩
theorem layV_none {L : List (List UInt8)} (h : layW L = none) : layV L = ⟨0, 0, 0⟩ := by unfold layV; rw [h]; rfl
theorem layV_some {L : List (List UInt8)} {l : Lay14} (h : layW L = some l) : layV L = l := by unfold layV; rw [h]; rfl
/-- 21.3: an inode of blocks with this layout. -/
def inoW (L : List (List UInt8)) (l : Lay14) (i : Int) : List Int := if l.isI i && decide (l.wb i < (L.length : Int)) then getTV (bkV L (l.wb i)) (l.wk i) else freeI
theorem inoW_len (L : List (List UInt8)) (l : Lay14) (i : Int) : (inoW L l i).length = 11 := by
  unfold inoW
  split
  · exact getTV_len _ _
  · rfl
theorem inoW_off {L : List (List UInt8)} {l : Lay14} {i : Int} (h : l.isI i = false) : inoW L l i = freeI := by unfold inoW; rw [h]; rfl
theorem inoW_far {L : List (List UInt8)} {l : Lay14} {i : Int} (h : (L.length : Int) ≤ l.wb i) : inoW L l i = freeI := by
  unfold inoW
  rw [decide_eq_false (by omega), Bool.and_false]
  rfl
theorem inoW_on {L : List (List UInt8)} {l : Lay14} {i : Int} (h : l.isI i = true) (hw : l.wb i < (L.length : Int)) : inoW L l i = getTV (bkV L (l.wb i)) (l.wk i) := by
  unfold inoW
  rw [h, decide_eq_true hw]
  rfl
/-- .. those there are, of the first n. -/
def allW (L : List (List UInt8)) (l : Lay14) : Nat → List Int
  | 0 => []
  | n + 1 => if fld (inoW L l ((n : Int) + 1)) 0 = 0 then allW L l n else allW L l n ++ [(n : Int) + 1]
theorem allW_no {L : List (List UInt8)} {l : Lay14} {n : Nat} (h : fld (inoW L l ((n : Int) + 1)) 0 = 0) : allW L l (n + 1) = allW L l n := if_pos h
theorem allW_yes {L : List (List UInt8)} {l : Lay14} {n : Nat} (h : fld (inoW L l ((n : Int) + 1)) 0 ≠ 0) : allW L l (n + 1) = allW L l n ++ [(n : Int) + 1] := if_neg h
theorem allW_len (L : List (List UInt8)) (l : Lay14) (n : Nat) : (allW L l n).length ≤ n := by
  induction n with
  | zero => exact Nat.le_refl _
  | succ n ih =>
    by_cases h : fld (inoW L l ((n : Int) + 1)) 0 = 0
    · rw [allW_no h]; omega
    · rw [allW_yes h, List.length_append]
      simp
      omega
/-- Is a block's bit set? -/
def usedW (L : List (List UInt8)) (no : Int) : Bool := decide (0 ≤ no ∧ no < (L.length : Int)) && hasB (bkV L 1) no
theorem usedW_off {L : List (List UInt8)} {no : Int} (h : no < 0 ∨ (L.length : Int) ≤ no) : usedW L no = false := by
  unfold usedW
  rw [decide_eq_false (by omega)]
  rfl
theorem usedW_on {L : List (List UInt8)} {no : Int} (h : 0 ≤ no ∧ no < (L.length : Int)) : usedW L no = hasB (bkV L 1) no := by
  unfold usedW
  rw [decide_eq_true h]
  rfl

end Go.Proofs.YtkakihbfhmiabaaGreat

/-
  A view: a layout and what its function tells; what is read of it, and that for blocks this is what they are. Plain; no program is named here.
-/
namespace Go.Proofs.YtkakihbfhmiabaaGreat
open Go.RowKit

/-- 21.2: a block of a view. -/
def vBk (l : Lay14) (T : Int → List UInt8) (no : Int) : List UInt8 := if decide (0 ≤ no ∧ no < l.blocks) then T no else zeros 256
theorem vBk_on {l : Lay14} (T : Int → List UInt8) {no : Int} (h : 0 ≤ no ∧ no < l.blocks) : vBk l T no = T no := by unfold vBk; rw [decide_eq_true h]; rfl
theorem vBk_off {l : Lay14} (T : Int → List UInt8) {no : Int} (h : ¬ (0 ≤ no ∧ no < l.blocks)) : vBk l T no = zeros 256 := by unfold vBk; rw [decide_eq_false h]; rfl
theorem vBk_len {l : Lay14} {T : Int → List UInt8} (hT : ∀ no, (T no).length = 256) (no : Int) : (vBk l T no).length = 256 := by
  unfold vBk
  split
  · exact hT no
  · exact zeros_len _
/-- 21.3: an inode of a view. -/
def vIno (l : Lay14) (T : Int → List UInt8) (i : Int) : List Int := if l.isI i then getTV (vBk l T (l.wb i)) (l.wk i) else freeI
theorem vIno_len (l : Lay14) (T : Int → List UInt8) (i : Int) : (vIno l T i).length = 11 := by
  unfold vIno
  split
  · exact getTV_len _ _
  · rfl
theorem vIno_on {l : Lay14} (T : Int → List UInt8) {i : Int} (h : l.isI i = true) : vIno l T i = getTV (vBk l T (l.wb i)) (l.wk i) := by unfold vIno; rw [h]; rfl
theorem vIno_off {l : Lay14} (T : Int → List UInt8) {i : Int} (h : l.isI i = false) : vIno l T i = freeI := by unfold vIno; rw [h]; rfl
/-- .. those there are, of the first n. -/
def vAll (l : Lay14) (T : Int → List UInt8) : Nat → List Int
  | 0 => []
  | n + 1 => if fld (vIno l T ((n : Int) + 1)) 0 = 0 then vAll l T n else vAll l T n ++ [(n : Int) + 1]
theorem vAll_no {l : Lay14} {T : Int → List UInt8} {n : Nat} (h : fld (vIno l T ((n : Int) + 1)) 0 = 0) : vAll l T (n + 1) = vAll l T n := if_pos h
theorem vAll_yes {l : Lay14} {T : Int → List UInt8} {n : Nat} (h : fld (vIno l T ((n : Int) + 1)) 0 ≠ 0) : vAll l T (n + 1) = vAll l T n ++ [(n : Int) + 1] := if_neg h
theorem vAll_len (l : Lay14) (T : Int → List UInt8) (n : Nat) : (vAll l T n).length ≤ n := by
  induction n with
  | zero => exact Nat.le_refl _
  | succ n ih =>
    by_cases h : fld (vIno l T ((n : Int) + 1)) 0 = 0
    · rw [vAll_no h]; omega
    · rw [vAll_yes h, List.length_append]
      simp
      omega
/-- How many inodes, how many blocks there may be. -/
def vIn (l : Lay14) : Nat := if l.may then l.inodes.toNat else 0
def vBn (l : Lay14) : Nat := if l.may then l.blocks.toNat else 0
theorem vIn_on {l : Lay14} (h : l.may = true) : vIn l = l.inodes.toNat := by unfold vIn; rw [h]; rfl
theorem vIn_off {l : Lay14} (h : l.may = false) : vIn l = 0 := by unfold vIn; rw [h]; rfl
theorem vBn_on {l : Lay14} (h : l.may = true) : vBn l = l.blocks.toNat := by unfold vBn; rw [h]; rfl
theorem vBn_off {l : Lay14} (h : l.may = false) : vBn l = 0 := by unfold vBn; rw [h]; rfl
theorem vIn_le (l : Lay14) : vIn l ≤ 128 := by
  cases h : l.may
  · rw [vIn_off h]; omega
  · rw [vIn_on h]
    have := Lay14.may_iff.1 h
    omega
theorem vBn_le (l : Lay14) : vBn l ≤ 512 := by
  cases h : l.may
  · rw [vBn_off h]; omega
  · rw [vBn_on h]
    have := Lay14.may_iff.1 h
    omega
/-- Is a block used? -/
def vUse (l : Lay14) (T : Int → List UInt8) (no : Int) : Bool := l.may && (decide (0 ≤ no ∧ no < l.blocks) && hasB (vBk l T 1) no)
theorem vUse_off {l : Lay14} (T : Int → List UInt8) {no : Int} (h : l.may = false ∨ ¬ (0 ≤ no ∧ no < l.blocks)) : vUse l T no = false := by
  unfold vUse
  rcases h with h | h
  · rw [h]; rfl
  · rw [decide_eq_false h, Bool.false_and, Bool.and_false]
theorem vUse_on {l : Lay14} (T : Int → List UInt8) {no : Int} (h : l.may = true) (h' : 0 ≤ no ∧ no < l.blocks) : vUse l T no = hasB (vBk l T 1) no := by
  unfold vUse
  rw [h, decide_eq_true h']
  rfl
/-- The image. -/
def vImg (l : Lay14) (T : Int → List UInt8) (n : Nat) : List (List UInt8) := (List.range n).map fun k : Nat => vBk l T (k : Int)
theorem vImg_len (l : Lay14) (T : Int → List UInt8) (n : Nat) : (vImg l T n).length = n := by unfold vImg; rw [List.length_map, List.length_range]
theorem vImg_next (l : Lay14) (T : Int → List UInt8) (n : Nat) : vImg l T (n + 1) = vImg l T n ++ [vBk l T (n : Int)] := by unfold vImg; rw [List.range_succ, List.map_append]; rfl
theorem vImg_bks {l : Lay14} {T : Int → List UInt8} (hT : ∀ no, (T no).length = 256) (n : Nat) : Bks (vImg l T n) := fun x hx => by
  obtain ⟨k, _, rfl⟩ := List.mem_map.1 hx
  exact vBk_len hT _

/-! ### The view of blocks -/
section
variable {L : List (List UInt8)} {l : Lay14}
theorem vBk_is (h : layW L = some l) (no : Int) : vBk l (bkV L) no = bkV L no := by
  have hb := (layW_is h).2.2
  by_cases hn : 0 ≤ no ∧ no < l.blocks
  · exact vBk_on _ hn
  · rw [vBk_off _ hn, bkV_off (by omega)]
theorem wb_in (hm : l.may = true) {i : Int} (hi : l.isI i = true) : 0 ≤ l.wb i ∧ l.wb i < l.blocks := by
  have ho := Lay14.on hm
  have he : l.wb i = 2 + (i - 1) / 8 := by unfold Lay14.wb; rw [if_pos hi]
  unfold Lay14.isI at hi
  rw [Bool.and_eq_true, decide_eq_true_eq] at hi
  rw [he]
  omega
theorem vIno_is (h : layW L = some l) (i : Int) : vIno l (bkV L) i = inoW L l i := by
  cases hi : l.isI i
  · rw [vIno_off _ hi, inoW_off hi]
  · have hw := wb_in (layW_may h) hi
    have hb := (layW_is h).2.2
    rw [vIno_on _ hi, inoW_on hi (by omega), vBk_is h]
theorem vAll_is (h : layW L = some l) (n : Nat) : vAll l (bkV L) n = allW L l n := by
  induction n with
  | zero => rfl
  | succ n ih => unfold vAll allW; rw [vIno_is h, ih]
theorem vUse_is (h : layW L = some l) (no : Int) : vUse l (bkV L) no = usedW L no := by
  have hb := (layW_is h).2.2
  unfold vUse usedW
  rw [layW_may h, vBk_is h, hb, Bool.true_and]
theorem vBn_is (h : layW L = some l) : vBn l = L.length := by
  rw [vBn_on (layW_may h), (layW_is h).2.2, Int.toNat_natCast]
theorem vImg_is (h : layW L = some l) : vImg l (bkV L) (vBn l) = L := by
  rw [vBn_is h]
  apply List.ext_getElem?
  intro k
  unfold vImg
  rw [List.getElem?_map]
  by_cases hk : k < L.length
  · rw [List.getElem?_range hk, List.getElem?_eq_getElem hk]
    show some (vBk l (bkV L) (k : Int)) = _
    rw [vBk_is h, bkV_at hk]
  · rw [List.getElem?_eq_none (by rw [List.length_range]; omega), List.getElem?_eq_none (by omega)]
    rfl
end

end Go.Proofs.YtkakihbfhmiabaaGreat

/-
  An index: a depth and 32 numbers; classes of places; what is fixed, doubled, set, written and read. Plain; no program is named here.
-/
namespace Go.Proofs.YtkakihbfhmiabaaGreat
open Go.RowKit

/-- The depth as it counts. -/
def dpN (d : Int) : Nat := (max 0 (min d 5)).toNat
theorem dpN_le (d : Int) : dpN d ≤ 5 := by unfold dpN; omega
theorem dpN_in {d : Int} (h0 : 0 ≤ d) (h5 : d ≤ 5) : ((dpN d : Nat) : Int) = d := by unfold dpN; omega
theorem pow32 {D : Nat} (h : D ≤ 5) : 2 ^ D ≤ 32 := Nat.pow_le_pow_right (n := 2) (by omega) h

/-- Are two places of one class of b bits? -/
def isB (b i p : Nat) : Bool := i % 2 ^ b == p % 2 ^ b
theorem isB_iff {b i p : Nat} : isB b i p = true ↔ i % 2 ^ b = p % 2 ^ b := by simp [isB]
theorem isB_refl (b i : Nat) : isB b i i = true := by simp [isB]
theorem mod_of_le {b c : Nat} (h : b ≤ c) (i : Nat) : i % 2 ^ c % 2 ^ b = i % 2 ^ b := Nat.mod_mod_of_dvd i (Nat.pow_dvd_pow 2 h)
theorem isB_mono {b c i p : Nat} (h : b ≤ c) (hc : isB c i p = true) : isB b i p = true := by
  rw [isB_iff] at hc ⊢
  rw [← mod_of_le h i, ← mod_of_le h p, hc]
theorem isB_top {D i p : Nat} (hi : i < 2 ^ D) (hp : p < 2 ^ D) : isB D i p = true ↔ i = p := by
  rw [isB_iff, Nat.mod_eq_of_lt hi, Nat.mod_eq_of_lt hp]
/-- Of one class of b bits, but not of one more: so are just those of the other half. -/
theorem isB_half {b i k p : Nat} (hi : isB b i p = true) (hn : isB (b + 1) i p = false) : isB (b + 1) k i = true ↔ isB b k p = true ∧ isB (b + 1) k p = false := by
  have hn' : ¬ (i % 2 ^ (b + 1) = p % 2 ^ (b + 1)) := fun h => by rw [isB_iff.2 h] at hn; cases hn
  rw [isB_iff] at hi
  have e1 := mod_next i b
  have e2 := mod_next p b
  have e3 := mod_next k b
  have q1 : i / 2 ^ b % 2 < 2 := Nat.mod_lt _ (by omega)
  have q2 : p / 2 ^ b % 2 < 2 := Nat.mod_lt _ (by omega)
  have q3 : k / 2 ^ b % 2 < 2 := Nat.mod_lt _ (by omega)
  have hf : isB (b + 1) k p = false ↔ ¬ (k % 2 ^ (b + 1) = p % 2 ^ (b + 1)) := by
    rw [← isB_iff, Bool.not_eq_true]
  rw [hf, isB_iff, isB_iff]
  have l1 : i % 2 ^ b < 2 ^ b := Nat.mod_lt _ (Nat.two_pow_pos b)
  have l2 : p % 2 ^ b < 2 ^ b := Nat.mod_lt _ (Nat.two_pow_pos b)
  have l3 : k % 2 ^ b < 2 ^ b := Nat.mod_lt _ (Nat.two_pow_pos b)
  rw [e1, e2] at hn'
  rw [e1, e2, e3]
  generalize i / 2 ^ b % 2 = x1 at *
  generalize p / 2 ^ b % 2 = x2 at *
  generalize k / 2 ^ b % 2 = x3 at *
  generalize i % 2 ^ b = y1 at *
  generalize p % 2 ^ b = y2 at *
  generalize k % 2 ^ b = y3 at *
  generalize 2 ^ b = B at *
  clear e1 e2 e3 hf
  obtain rfl | rfl : x1 = 0 ∨ x1 = 1 := by omega
  all_goals obtain rfl | rfl : x2 = 0 ∨ x2 = 1 := by omega
  all_goals obtain rfl | rfl : x3 = 0 ∨ x3 = 1 := by omega
  all_goals omega

/-- The places of a class, rising. -/
def clsL (D p b : Nat) : List Nat := (List.range (2 ^ D)).filter (fun i => isB b i p)
theorem clsL_mem {D p b i : Nat} : i ∈ clsL D p b ↔ i < 2 ^ D ∧ isB b i p = true := by
  unfold clsL
  rw [List.mem_filter, List.mem_range]
/-- How many bits count. -/
def bitI (D : Nat) (b : Int) : Nat := (max 0 (min b D)).toNat
theorem bitI_le (D : Nat) (b : Int) : bitI D b ≤ D := by unfold bitI; omega
/-- More bits than the depth tell the place alone. -/
theorem lowN_class {D i p : Nat} (h5 : D ≤ 5) (hi : i < 2 ^ D) (hp : p < 2 ^ D) (b : Int) : (lowN i b == lowN p b) = isB (bitI D b) i p := by
  have h32 := pow32 h5
  by_cases hb : b < D
  · have e : bitI D b = (min b 32).toNat := by unfold bitI; omega
    rw [e]
    rfl
  · have e : bitI D b = D := by unfold bitI; omega
    have e1 : ∀ x, x < 2 ^ D → lowN x b = x := fun x hx => by
      unfold lowN
      refine Nat.mod_eq_of_lt (Nat.lt_of_lt_of_le hx (Nat.pow_le_pow_right (by omega) (by omega)))
    rw [e, e1 i hi, e1 p hp]
    unfold isB
    rw [Nat.mod_eq_of_lt hi, Nat.mod_eq_of_lt hp]

/-- The first number below n of which f holds; n, if there is none. -/
def lstN (f : Nat → Bool) : Nat → Nat
  | 0 => 0
  | n + 1 => if lstN f n < n then lstN f n else if f n then n else n + 1
theorem lstN_spec (f : Nat → Bool) : ∀ n, lstN f n ≤ n ∧ (lstN f n < n → f (lstN f n) = true) ∧ ∀ j, j < lstN f n → f j = false
  | 0 => ⟨Nat.le_refl _, fun h => absurd h (Nat.not_lt_zero _), fun j h => absurd h (Nat.not_lt_zero _)⟩
  | n + 1 => by
    obtain ⟨h1, h2, h3⟩ := lstN_spec f n
    unfold lstN
    by_cases hlt : lstN f n < n
    · rw [if_pos hlt]
      exact ⟨by omega, fun _ => h2 hlt, h3⟩
    · rw [if_neg hlt]
      have e : lstN f n = n := by omega
      rw [e] at h3
      cases hf : f n
      · rw [if_neg (by simp)]
        refine ⟨Nat.le_refl _, fun h => absurd h (by omega), fun j hj => ?_⟩
        by_cases hj' : j = n
        · rw [hj']; exact hf
        · exact h3 j (by omega)
      · rw [if_pos rfl]
        exact ⟨by omega, fun _ => hf, h3⟩
theorem lstN_is {f : Nat → Bool} {n k : Nat} (h1 : k ≤ n) (h2 : k < n → f k = true) (h3 : ∀ j, j < k → f j = false) : lstN f n = k := by
  obtain ⟨g1, g2, g3⟩ := lstN_spec f n
  rcases Nat.lt_trichotomy (lstN f n) k with h | h | h
  · have := g2 (by omega)
    rw [h3 _ h] at this
    cases this
  · exact h
  · have := h2 (by omega)
    rw [g3 _ h] at this
    cases this

/-- Have all of the place's class of b bits its block? -/
def sameB (D : Nat) (t : List Int) (p b : Nat) : Bool := (List.range (2 ^ D)).all fun i => !isB b i p || fld t i == fld t p
theorem sameB_iff {D : Nat} {t : List Int} {p b : Nat} : sameB D t p b = true ↔ ∀ i, i < 2 ^ D → isB b i p = true → fld t i = fld t p := by
  unfold sameB
  rw [List.all_eq_true]
  constructor
  · intro h i hi hb
    have := h i (List.mem_range.2 hi)
    rw [hb] at this
    simpa using this
  · intro h i hi
    cases hb : isB b i p
    · rfl
    · simpa using h i (List.mem_range.1 hi) hb
theorem sameB_mono {D : Nat} {t : List Int} {p b c : Nat} (h : b ≤ c) (hs : sameB D t p b = true) : sameB D t p c = true :=
  sameB_iff.2 fun i hi hb => sameB_iff.1 hs i hi (isB_mono h hb)
theorem sameB_top {D : Nat} {t : List Int} {p : Nat} (hp : p < 2 ^ D) : sameB D t p D = true :=
  sameB_iff.2 fun i hi hb => by rw [(isB_top hi hp).1 hb]
/-- 19.2: Bits of a place that is there. -/
def xbitsN (D : Nat) (t : List Int) (p : Nat) : Nat := if fld t p = 0 then D else lstN (sameB D t p) D
theorem xbitsN_le (D : Nat) (t : List Int) (p : Nat) : xbitsN D t p ≤ D := by
  unfold xbitsN
  split
  · exact Nat.le_refl _
  · exact (lstN_spec _ _).1
theorem xbitsN_same {D : Nat} {t : List Int} {p : Nat} (hp : p < 2 ^ D) : sameB D t p (xbitsN D t p) = true := by
  unfold xbitsN
  split
  · exact sameB_top hp
  · have h := lstN_spec (sameB D t p) D
    by_cases hlt : lstN (sameB D t p) D < D
    · exact h.2.1 hlt
    · rw [show lstN (sameB D t p) D = D by omega]
      exact sameB_top hp
theorem xbitsN_low {D : Nat} {t : List Int} {p j : Nat} (h0 : fld t p ≠ 0) (hj : j < xbitsN D t p) : sameB D t p j = false := by
  unfold xbitsN at hj
  rw [if_neg h0] at hj
  exact (lstN_spec _ _).2.2 j hj
/-- The program's way: downwards, as long as one bit fewer does. -/
theorem xbitsN_down {D : Nat} {t : List Int} {p k : Nat} (h0 : fld t p ≠ 0) (hk : k ≤ D) (hs : sameB D t p k = true) (hn : k = 0 ∨ sameB D t p (k - 1) = false) : xbitsN D t p = k := by
  unfold xbitsN
  rw [if_neg h0]
  refine lstN_is hk (fun _ => hs) fun j hj => ?_
  rcases hn with h | h
  · omega
  · cases hsj : sameB D t p j
    · rfl
    · rw [sameB_mono (show j ≤ k - 1 by omega) hsj] at h
      cases h
/-- The document's way: upwards, till all are. -/
theorem xbitsN_up {D : Nat} {t : List Int} {p k : Nat} (h0 : fld t p ≠ 0) (hk : k ≤ D) (hs : k < D → sameB D t p k = true) (hn : ∀ j, j < k → sameB D t p j = false) : xbitsN D t p = k := by
  unfold xbitsN
  rw [if_neg h0]
  exact lstN_is hk hs hn

/-- Have the places that have this one's block just a class? -/
def wholeB (D : Nat) (t : List Int) (p : Nat) : Bool := (List.range (D + 1)).any fun b => (List.range (2 ^ D)).all fun i => (fld t i == fld t p) == isB b i p
theorem wholeB_iff {D : Nat} {t : List Int} {p : Nat} : wholeB D t p = true ↔ ∃ b, b ≤ D ∧ ∀ i, i < 2 ^ D → (fld t i = fld t p ↔ isB b i p = true) := by
  unfold wholeB
  rw [List.any_eq_true]
  constructor
  · rintro ⟨b, hb, h⟩
    refine ⟨b, by have := List.mem_range.1 hb; omega, fun i hi => ?_⟩
    have := List.all_eq_true.1 h i (List.mem_range.2 hi)
    have e : (fld t i == fld t p) = isB b i p := by simpa using this
    rw [← e]
    simp
  · rintro ⟨b, hb, h⟩
    refine ⟨b, List.mem_range.2 (by omega), List.all_eq_true.2 fun i hi => ?_⟩
    have := h i (List.mem_range.1 hi)
    have e : (fld t i == fld t p) = isB b i p := by
      rw [Bool.eq_iff_iff, ← this]
      simp
    simpa using e
/-- The class is then that of Bits. -/
theorem wholeB_bits {D : Nat} {t : List Int} {p : Nat} (hp : p < 2 ^ D) (h0 : fld t p ≠ 0) : wholeB D t p = true ↔ ∀ i, i < 2 ^ D → (fld t i = fld t p ↔ isB (xbitsN D t p) i p = true) := by
  constructor
  · intro h i hi
    obtain ⟨b, hb, hw⟩ := wholeB_iff.1 h
    have hs : sameB D t p b = true := sameB_iff.2 fun j hj hbj => (hw j hj).2 hbj
    have hle : xbitsN D t p ≤ b := by
      rcases Nat.lt_or_ge b (xbitsN D t p) with hlt | hge
      · rw [xbitsN_low h0 hlt] at hs
        cases hs
      · exact hge
    constructor
    · intro e
      exact isB_mono hle ((hw i hi).1 e)
    · intro e
      exact sameB_iff.1 (xbitsN_same hp) i hi e
  · intro h
    exact wholeB_iff.2 ⟨_, xbitsN_le D t p, h⟩
theorem wholeB_other {D : Nat} {t : List Int} {p q : Nat} (hq : q < 2 ^ D) (e : fld t q = fld t p) (h : wholeB D t p = true) : wholeB D t q = true := by
  obtain ⟨b, hb, hw⟩ := wholeB_iff.1 h
  refine wholeB_iff.2 ⟨b, hb, fun i hi => ?_⟩
  have h1 := (hw q hq).1 e
  rw [e, hw i hi, isB_iff, isB_iff, isB_iff.1 h1]
theorem wholeB_same {D : Nat} {t : List Int} {p q : Nat} (hp : p < 2 ^ D) (hq : q < 2 ^ D) (e : fld t q = fld t p) : wholeB D t q = wholeB D t p :=
  Bool.eq_iff_iff.2 ⟨wholeB_other hp e.symm, wholeB_other hq e⟩
/-- How many places have this one's block. -/
def xcntB (_D : Nat) (t : List Int) (p k : Nat) : Nat := ((List.range k).filter fun i => fld t i == fld t p).length
theorem filter_all_of_len {α : Type} {f g : α → Bool} : ∀ {l : List α}, (∀ x ∈ l, g x = true → f x = true) → (l.filter f).length = (l.filter g).length → ∀ x ∈ l, f x = g x
  | [], _, _, x, hx => by simp at hx
  | a :: l, h, e, x, hx => by
    have ht : ∀ x ∈ l, g x = true → f x = true := fun x hx => h x (List.mem_cons_of_mem _ hx)
    have hle : (l.filter g).length ≤ (l.filter f).length := by
      clear e hx h
      induction l with
      | nil => simp
      | cons c l ih =>
        have ih' := ih (fun x hx => ht x (List.mem_cons_of_mem _ hx))
        have hc := ht c List.mem_cons_self
        rw [List.filter_cons, List.filter_cons]
        cases hg : g c
        · cases hf : f c <;> simp <;> omega
        · rw [hc hg]; simp; omega
    rw [List.filter_cons, List.filter_cons] at e
    have ha := h a List.mem_cons_self
    cases hg : g a
    · cases hf : f a
      · rw [hg, hf] at e
        rcases List.mem_cons.1 hx with rfl | hx
        · rw [hg, hf]
        · exact filter_all_of_len ht (by simpa using e) x hx
      · rw [hg, hf] at e
        simp at e
        omega
    · rw [hg, ha hg] at e
      rcases List.mem_cons.1 hx with rfl | hx
      · rw [hg, ha hg]
      · exact filter_all_of_len ht (by simpa using e) x hx
/-- The program's test: as many as the class of Bits has. -/
theorem wholeB_cnt {D : Nat} {t : List Int} {p : Nat} (hp : p < 2 ^ D) (h0 : fld t p ≠ 0) : wholeB D t p = decide (xcntB D t p (2 ^ D) = (clsL D p (xbitsN D t p)).length) := by
  rw [Bool.eq_iff_iff, wholeB_bits hp h0, decide_eq_true_eq]
  unfold xcntB clsL
  constructor
  · intro h
    congr 1
    refine List.filter_congr fun i hi => ?_
    rw [Bool.eq_iff_iff, ← h i (List.mem_range.1 hi)]
    simp
  · intro h i hi
    have := filter_all_of_len (f := fun i => fld t i == fld t p) (g := fun i => isB (xbitsN D t p) i p) (fun x hx hg => by simpa using sameB_iff.1 (xbitsN_same hp) x (List.mem_range.1 hx) hg) h i (List.mem_range.2 hi)
    have this : (fld t i == fld t p) = isB (xbitsN D t p) i p := this
    rw [← this]
    simp
theorem xcntB_succ (D : Nat) (t : List Int) (p k : Nat) : xcntB D t p (k + 1) = xcntB D t p k + (if fld t k == fld t p then 1 else 0) := by
  unfold xcntB
  rw [List.range_succ, List.filter_append, List.length_append]
  cases h : (fld t k == fld t p) <;> simp [h]

/-- Has no place ahead its block? -/
def firstB (t : List Int) (p : Nat) : Bool := (List.range p).all fun k => !(fld t k == fld t p)
theorem firstB_iff {t : List Int} {p : Nat} : firstB t p = true ↔ ∀ k, k < p → fld t k ≠ fld t p := by
  unfold firstB
  rw [List.all_eq_true]
  constructor
  · intro h k hk
    simpa using h k (List.mem_range.2 hk)
  · intro h k hk
    simpa using h k (List.mem_range.1 hk)
/-- Does the place keep its block? -/
def keepB (D : Nat) (t : List Int) (p : Nat) : Bool := shortB (fld t p) && (firstB t p || wholeB D t p)

/-! 32 numbers, each told. -/
def mapT (f : Nat → Int) : List Int := (List.range 32).map f
theorem mapT_len (f : Nat → Int) : (mapT f).length = 32 := by simp [mapT]
theorem mapT_at (f : Nat → Int) (i : Nat) (h : i < 32) : fld (mapT f) i = f i := by
  unfold mapT fld
  rw [List.getD_eq_getElem?_getD, List.getElem?_map, List.getElem?_range h]
  rfl
theorem fld_out (l : List Int) (i : Nat) (h : l.length ≤ i) : fld l i = 0 := by
  unfold fld
  rw [List.getD_eq_getElem?_getD, List.getElem?_eq_none h]
  rfl
theorem ext32 {t u : List Int} (ht : t.length = 32) (hu : u.length = 32) (h : ∀ i, i < 32 → fld t i = fld u i) : t = u := by
  apply List.ext_getElem?
  intro i
  by_cases hi : i < 32
  · rw [fld_get t i (by omega), fld_get u i (by omega), h i hi]
  · rw [List.getElem?_eq_none (by omega), List.getElem?_eq_none (by omega)]
theorem mapT_self {t : List Int} (ht : t.length = 32) : mapT (fld t) = t := ext32 (mapT_len _) ht fun i hi => mapT_at _ i hi
theorem fld_set (l : List Int) (i k : Nat) (v : Int) (hi : i < l.length) : fld (l.set i v) k = if k = i then v else fld l k := by
  unfold fld
  rw [List.getD_eq_getElem?_getD, List.getD_eq_getElem?_getD, List.getElem?_set]
  by_cases h : i = k
  · subst h
    rw [if_pos rfl, if_pos hi, if_pos rfl]
    rfl
  · rw [if_neg h, if_neg (fun e => h e.symm)]
theorem mapT_set (f g : Nat → Int) (i : Nat) (v : Int) (hi : i < 32) (h : ∀ k, k < 32 → g k = if k = i then v else f k) : (mapT f).set i v = mapT g :=
  ext32 (by rw [List.length_set, mapT_len]) (mapT_len _) fun k hk => by
    rw [fld_set _ _ _ _ (by rw [mapT_len]; exact hi), mapT_at _ k hk, mapT_at _ k hk, h k hk]
def zeroT : List Int := mapT fun _ => 0
theorem zeroT_len : zeroT.length = 32 := mapT_len _

/-- Nothing beyond the places. -/
def shortT (D : Nat) (t : List Int) : List Int := mapT fun i => if i < 2 ^ D then fld t i else 0
/-- 19.4, after the first k places. -/
def fixF (D : Nat) (t : List Int) (k i : Nat) : Int := if i < 2 ^ D then (if i < k then (if keepB D t i then fld t i else 0) else fld t i) else 0
def fixK (D : Nat) (t : List Int) (k : Nat) : List Int := mapT (fixF D t k)
def xfixT (D : Nat) (t : List Int) : List Int := fixK D t (2 ^ D)
theorem xfixT_len (D : Nat) (t : List Int) : (xfixT D t).length = 32 := mapT_len _
theorem fixK_len (D : Nat) (t : List Int) (k : Nat) : (fixK D t k).length = 32 := mapT_len _
theorem fixK_zero (D : Nat) (t : List Int) : fixK D t 0 = shortT D t := by
  unfold fixK shortT fixF
  refine congrArg mapT (funext fun i => ?_)
  rw [if_neg (Nat.not_lt_zero i)]
theorem fixK_keep {D : Nat} {t : List Int} {k : Nat} (h : keepB D t k = true) : fixK D t (k + 1) = fixK D t k := by
  refine ext32 (mapT_len _) (mapT_len _) fun i hi => ?_
  unfold fixK
  rw [mapT_at _ i hi, mapT_at _ i hi]
  unfold fixF
  by_cases e : i = k
  · subst e
    rw [if_pos (show i < i + 1 by omega), if_neg (show ¬ i < i by omega), if_pos h]
  · simp only [show i < k + 1 ↔ i < k by omega]
theorem fixK_same {D : Nat} {t : List Int} {k : Nat} (h : fld t k = 0) : fixK D t (k + 1) = fixK D t k := by
  refine ext32 (mapT_len _) (mapT_len _) fun i hi => ?_
  unfold fixK
  rw [mapT_at _ i hi, mapT_at _ i hi]
  unfold fixF
  by_cases e : i = k
  · subst e
    rw [h]
    simp
  · simp only [show i < k + 1 ↔ i < k by omega]
theorem fixK_drop {D : Nat} {t : List Int} {k : Nat} (hk : k < 2 ^ D) (h5 : D ≤ 5) (h : keepB D t k = false) : (fixK D t k).set k 0 = fixK D t (k + 1) := by
  have h32 := pow32 h5
  refine mapT_set _ _ k 0 (by omega) fun i hi => ?_
  unfold fixF
  by_cases e : i = k
  · subst e
    rw [if_pos hk, if_pos (show i < i + 1 by omega), if_neg (by rw [h]; simp), if_pos rfl]
  · simp only [show i < k + 1 ↔ i < k by omega, if_neg e]
theorem xfixT_at (D : Nat) (t : List Int) (i : Nat) (hi : i < 32) : fld (xfixT D t) i = if i < 2 ^ D then (if keepB D t i then fld t i else 0) else 0 := by
  unfold xfixT fixK
  rw [mapT_at _ i hi]
  unfold fixF
  by_cases h : i < 2 ^ D
  · rw [if_pos h, if_pos h, if_pos h]
  · rw [if_neg h, if_neg h]
/-- 19.1: is it right? -/
def inD (d : Int) : Bool := decide (0 ≤ d ∧ d ≤ 5)
def rightX (d : Int) (t : List Int) : Bool := inD d && (xfixT (dpN d) t == t)
/-- What Fix tells. -/
def fixD (d : Int) : Int := if inD d then d else 0
def fixV (d : Int) (t : List Int) : List Int := if inD d then xfixT (dpN d) t else zeroT
theorem fixV_len (d : Int) (t : List Int) : (fixV d t).length = 32 := by
  unfold fixV
  split
  · exact xfixT_len _ _
  · exact zeroT_len
theorem fix_right (d : Int) (t : List Int) : (fixD d == d && fixV d t == t) = rightX d t := by
  unfold fixD fixV rightX
  cases h : inD d
  · have hd : ¬ (0 = d) := fun e => by
      unfold inD at h
      have := of_decide_eq_false h
      omega
    simp [hd]
  · simp
theorem rightX_iff {d : Int} {t : List Int} : rightX d t = true ↔ (0 ≤ d ∧ d ≤ 5) ∧ xfixT (dpN d) t = t := by
  unfold rightX inD
  simp

end Go.Proofs.YtkakihbfhmiabaaGreat

/-
  What is fixed is right; what is right and doubled, or parted, is right; an index as bytes, and back. Plain; no program is named here.
-/
namespace Go.Proofs.YtkakihbfhmiabaaGreat
open Go.RowKit

/-! 19.6 -/
/-- In a right index each block but 0 has a class. -/
theorem right_whole {D : Nat} {t : List Int} (h5 : D ≤ 5) (h : xfixT D t = t) {p : Nat} (hp : p < 2 ^ D) (h0 : fld t p ≠ 0) : shortB (fld t p) = true ∧ wholeB D t p = true := by
  have h32 := pow32 h5
  have hat : ∀ i, i < 2 ^ D → (if keepB D t i then fld t i else 0) = fld t i := fun i hi => by
    have := xfixT_at D t i (by omega)
    rw [h, if_pos hi] at this
    exact this.symm
  have hk : ∀ i, i < 2 ^ D → fld t i ≠ 0 → keepB D t i = true := fun i hi hne => by
    have := hat i hi
    cases hb : keepB D t i
    · rw [hb] at this
      exact absurd this.symm hne
    · rfl
  have hkp := hk p hp h0
  unfold keepB at hkp
  rw [Bool.and_eq_true, Bool.or_eq_true] at hkp
  refine ⟨hkp.1, ?_⟩
  rcases hkp.2 with hf | hw
  · cases hw : wholeB D t p
    · -- then it stands alone: a class of all bits
      have hal : ∀ i, i < 2 ^ D → fld t i = fld t p → i = p := fun i hi e => by
        have hki := hk i hi (by rw [e]; exact h0)
        unfold keepB at hki
        rw [wholeB_same hp hi e, hw, Bool.or_false, Bool.and_eq_true] at hki
        rcases Nat.lt_trichotomy i p with hlt | heq | hgt
        · exact absurd e (firstB_iff.1 hf i hlt)
        · exact heq
        · exact absurd e.symm (firstB_iff.1 hki.2 p hgt)
      have : wholeB D t p = true := wholeB_iff.2 ⟨D, Nat.le_refl _, fun i hi => by
        rw [isB_top hi hp]
        exact ⟨hal i hi, fun e => by rw [e]⟩⟩
      rw [hw] at this
      exact this
    · rfl
  · exact hw
/-- .. and the other way round. -/
theorem xright_of {D : Nat} {t : List Int} (ht : t.length = 32) (hz : ∀ i, i < 32 → 2 ^ D ≤ i → fld t i = 0) (hw : ∀ i, i < 2 ^ D → fld t i ≠ 0 → shortB (fld t i) = true ∧ wholeB D t i = true) : xfixT D t = t := by
  refine ext32 (xfixT_len _ _) ht fun i hi => ?_
  rw [xfixT_at D t i hi]
  by_cases h : i < 2 ^ D
  · rw [if_pos h]
    by_cases h0 : fld t i = 0
    · rw [h0]; simp
    · have := hw i h h0
      unfold keepB
      rw [this.1, this.2]
      simp
  · rw [if_neg h, hz i hi (by omega)]
/-- A fixed index is fixed as it is. -/
theorem xfixT_fix {D : Nat} (h5 : D ≤ 5) (t : List Int) : xfixT D (xfixT D t) = xfixT D t := by
  have h32 := pow32 h5
  have hat : ∀ i, i < 2 ^ D → fld (xfixT D t) i = if keepB D t i then fld t i else 0 := fun i hi => by rw [xfixT_at D t i (by omega), if_pos hi]
  have hkeep : ∀ i, i < 2 ^ D → fld (xfixT D t) i ≠ 0 → keepB D t i = true ∧ fld (xfixT D t) i = fld t i := fun i hi hne => by
    rw [hat i hi] at hne ⊢
    cases hb : keepB D t i
    · rw [hb] at hne
      exact absurd rfl hne
    · exact ⟨rfl, rfl⟩
  refine xright_of (xfixT_len _ _) (fun i hi hge => by rw [xfixT_at D t i hi, if_neg (by omega)]) fun i hi hne => ?_
  obtain ⟨hk, e⟩ := hkeep i hi hne
  have h0 : fld t i ≠ 0 := by rw [← e]; exact hne
  unfold keepB at hk
  rw [Bool.and_eq_true, Bool.or_eq_true] at hk
  refine ⟨by rw [e]; exact hk.1, ?_⟩
  cases hw : wholeB D t i
  · -- the first one alone
    have hf : firstB t i = true := by
      rcases hk.2 with h | h
      · exact h
      · rw [hw] at h; cases h
    refine wholeB_iff.2 ⟨D, Nat.le_refl _, fun j hj => ?_⟩
    rw [isB_top hj hi]
    constructor
    · intro ej
      obtain ⟨hkj, e2⟩ := hkeep j hj (by rw [ej]; exact hne)
      have e3 : fld t j = fld t i := by rw [← e2, ej, e]
      unfold keepB at hkj
      rw [wholeB_same hi hj e3, hw, Bool.or_false, Bool.and_eq_true] at hkj
      rcases Nat.lt_trichotomy j i with hlt | heq | hgt
      · exact absurd e3 (firstB_iff.1 hf j hlt)
      · exact heq
      · exact absurd e3.symm (firstB_iff.1 hkj.2 i hgt)
    · rintro rfl
      rfl
  · obtain ⟨b, hb, hc⟩ := wholeB_iff.1 hw
    refine wholeB_iff.2 ⟨b, hb, fun j hj => ?_⟩
    rw [← hc j hj, e]
    constructor
    · intro ej
      rw [← (hkeep j hj (by rw [ej]; exact h0)).2, ej]
    · intro ej
      have : keepB D t j = true := by
        unfold keepB
        rw [ej, wholeB_same hi hj ej, hw]
        simp [hk.1]
      rw [hat j hj, this, ← ej]
      rfl
theorem fix_is_right (d : Int) (t : List Int) : rightX (fixD d) (fixV d t) = true := by
  unfold fixD fixV
  cases h : inD d
  · have e : xfixT (dpN 0) zeroT = zeroT := by decide +kernel
    simp only [Bool.false_eq_true, if_false]
    exact rightX_iff.2 ⟨⟨by omega, by omega⟩, e⟩
  · rw [rightX_iff]
    refine ⟨?_, xfixT_fix (dpN_le d) t⟩
    unfold inD at h
    exact of_decide_eq_true h
theorem fix_right_same {d : Int} {t : List Int} (h : rightX d t = true) : fixD d = d ∧ fixV d t = t := by
  have := fix_right d t
  rw [h, Bool.and_eq_true] at this
  exact ⟨by simpa using this.1, by simpa using this.2⟩
theorem fixV_at (d : Int) (t : List Int) (i : Nat) (hi : i < 32) (h0 : fld (fixV d t) i ≠ 0) : fld (fixV d t) i = fld t i := by
  unfold fixV at h0 ⊢
  cases h : inD d
  · rw [h, if_neg (by simp)] at h0
    exact absurd (mapT_at _ i hi) h0
  · rw [h] at h0
    simp only [if_true] at h0 ⊢
    rw [xfixT_at (dpN d) t i hi] at h0 ⊢
    by_cases h1 : i < 2 ^ dpN d
    · rw [if_pos h1] at h0 ⊢
      cases h2 : keepB (dpN d) t i
      · rw [h2] at h0; exact absurd rfl h0
      · rfl
    · rw [if_neg h1] at h0
      exact absurd rfl h0

/-! 19.3: Double, and 19.5. -/
def dblT (D : Nat) (t : List Int) : List Int := mapT fun i => if 2 ^ D ≤ i ∧ i < 2 ^ (D + 1) then fld t (i - 2 ^ D) else fld t i
theorem dblT_len (D : Nat) (t : List Int) : (dblT D t).length = 32 := mapT_len _
theorem dblT_at {D : Nat} (h4 : D ≤ 4) (t : List Int) (i : Nat) (hi : i < 2 ^ (D + 1)) : fld (dblT D t) i = fld t (i % 2 ^ D) := by
  have h32 := pow32 (show D + 1 ≤ 5 by omega)
  have e : 2 ^ (D + 1) = 2 * 2 ^ D := by rw [Nat.pow_succ]; omega
  unfold dblT
  rw [mapT_at _ i (by omega)]
  by_cases h : 2 ^ D ≤ i
  · rw [if_pos ⟨h, hi⟩, Nat.mod_eq_sub_mod h, Nat.mod_eq_of_lt (by omega)]
  · rw [if_neg (by omega), Nat.mod_eq_of_lt (by omega)]
theorem dblT_right {D : Nat} (h4 : D ≤ 4) {t : List Int} (h : xfixT D t = t) : xfixT (D + 1) (dblT D t) = dblT D t := by
  have h32 := pow32 (show D + 1 ≤ 5 by omega)
  have hp : 0 < 2 ^ D := Nat.two_pow_pos D
  refine xright_of (dblT_len _ _) (fun i hi hge => ?_) fun i hi hne => ?_
  · have e : 2 ^ (D + 1) = 2 * 2 ^ D := by rw [Nat.pow_succ]; omega
    unfold dblT
    rw [mapT_at _ i hi, if_neg (by omega), ← h, xfixT_at D t i hi, if_neg (by omega)]
  · rw [dblT_at h4 t i hi] at hne ⊢
    have hj : i % 2 ^ D < 2 ^ D := Nat.mod_lt _ hp
    have := right_whole (by omega) h hj hne
    refine ⟨this.1, ?_⟩
    obtain ⟨b, hb, hc⟩ := wholeB_iff.1 this.2
    refine wholeB_iff.2 ⟨b, by omega, fun k hk => ?_⟩
    rw [dblT_at h4 t k hk, dblT_at h4 t i hi, hc (k % 2 ^ D) (Nat.mod_lt _ hp), isB_iff, isB_iff, mod_of_le hb, mod_of_le hb]

/-! 19.3: Set, and 19.2's parts. -/
def setK (t : List Int) (l : List Nat) (v : Int) : List Int := l.foldl (fun t i => t.set i v) t
theorem setK_len (l : List Nat) (v : Int) : ∀ t : List Int, (setK t l v).length = t.length := by
  induction l with
  | nil => intro t; rfl
  | cons i l ih => intro t; exact (ih (t.set i v)).trans List.length_set
theorem setK_snoc (t : List Int) (l : List Nat) (i : Nat) (v : Int) : setK t (l ++ [i]) v = (setK t l v).set i v := by
  unfold setK
  rw [List.foldl_append]
  rfl
theorem setK_at (l : List Nat) (v : Int) (k : Nat) : ∀ t : List Int, (∀ i ∈ l, i < t.length) → fld (setK t l v) k = if k ∈ l then v else fld t k := by
  induction l with
  | nil => intro t _; simp [setK]
  | cons i l ih =>
    intro t h
    have hi := h i List.mem_cons_self
    have e : fld (setK t (i :: l) v) k = fld (setK (t.set i v) l v) k := rfl
    rw [e, ih (t.set i v) (fun j hj => by rw [List.length_set]; exact h j (List.mem_cons_of_mem _ hj)), fld_set _ _ _ _ hi]
    by_cases h1 : k ∈ l
    · rw [if_pos h1, if_pos (List.mem_cons_of_mem _ h1)]
    · rw [if_neg h1]
      by_cases h2 : k = i
      · rw [if_pos h2, if_pos (by rw [h2]; exact List.mem_cons_self)]
      · rw [if_neg h2, if_neg (by simp [h1, h2])]
/-- 19.2: Places. -/
def plcL (d : Int) (p b : Int) : List Nat := if 0 ≤ p ∧ p < (2 ^ dpN d : Nat) then clsL (dpN d) p.toNat (bitI (dpN d) b) else []
theorem plcL_lt {d p b : Int} {i : Nat} (h : i ∈ plcL d p b) : i < 2 ^ dpN d := by
  unfold plcL at h
  split at h
  · exact (clsL_mem.1 h).1
  · simp at h
theorem plcL_len (d p b : Int) : (plcL d p b).length ≤ 32 := by
  have h32 := pow32 (dpN_le d)
  unfold plcL clsL
  split
  · exact Nat.le_trans (List.length_filter_le _ _) (by rw [List.length_range]; exact h32)
  · simp
def setX (d : Int) (t : List Int) (p b v : Int) : List Int := setK t (plcL d p b) v
theorem setX_len (d : Int) (t : List Int) (p b v : Int) : (setX d t p b v).length = t.length := setK_len _ _ _
theorem parts_at {d : Int} {t : List Int} (ht : t.length = 32) {p b : Nat} (hp : p < 2 ^ dpN d) (hb : b ≤ dpN d) (v : Int) (i : Nat) (hi : i < 2 ^ dpN d) : fld (setX d t p b v) i = if isB b i p then v else fld t i := by
  have h32 := pow32 (dpN_le d)
  have e : plcL d p b = clsL (dpN d) p b := by
    unfold plcL
    rw [if_pos (by omega), Int.toNat_natCast]
    congr 1
    unfold bitI
    omega
  unfold setX
  rw [e, setK_at _ _ _ _ (fun j hj => by have := (clsL_mem.1 hj).1; omega)]
  cases h : isB b i p
  · rw [if_neg (fun hm => by rw [(clsL_mem.1 hm).2] at h; cases h)]
    rfl
  · rw [if_pos (clsL_mem.2 ⟨hi, h⟩)]
    rfl
/-- One half of a block's class has a new block: it is right. -/
theorem parts_right {d : Int} {t : List Int} (ht : t.length = 32) (h : xfixT (dpN d) t = t) {p : Nat} (hp : p < 2 ^ dpN d) (h0 : fld t p ≠ 0) (hb : xbitsN (dpN d) t p < dpN d) {v : Int} (hv : shortB v = true) (hn : ∀ i, i < 2 ^ dpN d → fld t i ≠ v) :
    xfixT (dpN d) (setX d t p ((xbitsN (dpN d) t p + 1 : Nat) : Int) v) = setX d t p ((xbitsN (dpN d) t p + 1 : Nat) : Int) v := by
  have h5 := dpN_le d
  have h32 := pow32 h5
  have hw := right_whole h5 h hp h0
  have hc := (wholeB_bits hp h0).1 hw.2
  have hat := fun i hi => parts_at (d := d) ht hp (show xbitsN (dpN d) t p + 1 ≤ dpN d by omega) v i hi
  refine xright_of (by rw [setX_len, ht]) (fun i hi hge => ?_) fun i hi hne => ?_
  · unfold setX
    rw [setK_at _ _ _ _ (fun j hj => by have := plcL_lt hj; omega), if_neg (fun hm => by have := plcL_lt hm; omega), ← h, xfixT_at _ t i hi, if_neg (by omega)]
  · generalize setX d t p ((xbitsN (dpN d) t p + 1 : Nat) : Int) v = z at *
    generalize xbitsN (dpN d) t p = b at *
    cases hi1 : isB (b + 1) i p
    · have ei : fld z i = fld t i := by rw [hat i hi, hi1]; rfl
      rw [ei] at hne
      have hwi := right_whole h5 h hi hne
      refine ⟨by rw [ei]; exact hwi.1, ?_⟩
      cases hi2 : isB b i p
      · -- a block of another class
        obtain ⟨c, hcd, hcc⟩ := wholeB_iff.1 hwi.2
        refine wholeB_iff.2 ⟨c, hcd, fun k hk => ?_⟩
        rw [ei, hat k hk]
        cases hk1 : isB (b + 1) k p
        · exact hcc k hk
        · have hk2 : isB b k p = true := isB_mono (by omega) hk1
          have e1 : fld t k = fld t p := (hc k hk).2 hk2
          have e2 : fld t i ≠ fld t p := fun e => by rw [(hc i hi).1 e] at hi2; cases hi2
          constructor
          · intro e
            exact absurd e.symm (hn i hi)
          · intro e
            exact absurd ((hcc k hk).2 e) (by rw [e1]; exact e2.symm)
      · -- the other half
        refine wholeB_iff.2 ⟨b + 1, by omega, fun k hk => ?_⟩
        rw [ei, isB_half hi2 hi1, hat k hk, (hc i hi).2 hi2]
        cases hk1 : isB (b + 1) k p
        · rw [← hc k hk]
          simp
        · constructor
          · intro e
            exact absurd e.symm (hn p hp)
          · intro e
            cases e.2
    · have ei : fld z i = v := by rw [hat i hi, hi1]; rfl
      refine ⟨by rw [ei]; exact hv, wholeB_iff.2 ⟨b + 1, by omega, fun k hk => ?_⟩⟩
      rw [ei, hat k hk]
      have e1 : isB (b + 1) k i = isB (b + 1) k p := by
        unfold isB
        rw [isB_iff.1 hi1]
      rw [e1]
      cases hk1 : isB (b + 1) k p
      · simp only [Bool.false_eq_true, if_false, iff_false]
        exact hn k hk
      · simp

/-! 19.3: Buckets. -/
def buckK (t : List Int) : Nat → List Int
  | 0 => []
  | k + 1 => if fld t k = 0 then buckK t k else if (buckK t k).contains (fld t k) then buckK t k else buckK t k ++ [fld t k]
theorem buckK_succ (t : List Int) (k : Nat) : buckK t (k + 1) = if fld t k = 0 then buckK t k else if (buckK t k).contains (fld t k) then buckK t k else buckK t k ++ [fld t k] := rfl
theorem buckK_len (t : List Int) : ∀ k, (buckK t k).length ≤ k
  | 0 => Nat.le_refl _
  | k + 1 => by
    have ih := buckK_len t k
    rw [buckK_succ]
    split
    · omega
    · split
      · omega
      · rw [List.length_append, List.length_singleton]; omega
theorem buckK_mem {t : List Int} {v : Int} (hv : v ≠ 0) : ∀ {k : Nat}, v ∈ buckK t k ↔ ∃ i, i < k ∧ fld t i = v
  | 0 => by simp [buckK]
  | k + 1 => by
    have ih := buckK_mem (t := t) hv (k := k)
    have hs : (∃ i, i < k + 1 ∧ fld t i = v) ↔ (v ∈ buckK t k ∨ fld t k = v) := by
      rw [ih]
      constructor
      · rintro ⟨i, hi, e⟩
        by_cases h : i = k
        · subst h; exact Or.inr e
        · exact Or.inl ⟨i, by omega, e⟩
      · rintro (⟨i, hi, e⟩ | e)
        · exact ⟨i, by omega, e⟩
        · exact ⟨k, by omega, e⟩
    rw [hs, buckK_succ]
    split
    · next h0 =>
      rw [h0]
      exact ⟨Or.inl, fun h => h.elim id fun e => absurd e.symm hv⟩
    · split
      · next h1 =>
        have h1 : fld t k ∈ buckK t k := by simpa using h1
        exact ⟨Or.inl, fun h => h.elim id fun e => by rw [← e]; exact h1⟩
      · rw [List.mem_append, List.mem_singleton]
        exact or_congr Iff.rfl eq_comm

/-! 19.1: as bytes. -/
def mayX (d : Int) (t : List Int) : Bool := t.all shortB && inD d
def headX (d : Int) : List UInt8 := 105 :: 100 :: 120 :: 33 :: UInt8.ofNat d.toNat :: zeros 27
theorem headX_len (d : Int) : (headX d).length = 32 := by simp [headX, zeros]
def putX (d : Int) (t : List Int) : List UInt8 := headX d ++ (flatI t ++ zeros 160)
theorem putX_len {t : List Int} (ht : t.length = 32) (d : Int) : (putX d t).length = 256 := by
  unfold putX
  rw [List.length_append, List.length_append, headX_len, flatI_len, zeros_len]
  omega
def outX (d : Int) (t : List Int) : List UInt8 := if mayX d t then putX d t else zeros 256
theorem outX_len {t : List Int} (ht : t.length = 32) (d : Int) : (outX d t).length = 256 := by
  unfold outX
  split
  · exact putX_len ht d
  · exact zeros_len _
/-- Behind the first k numbers. -/
def walkX (d : Int) (t : List Int) (k : Nat) : List UInt8 := (headX d ++ flatI (t.take k)) ++ zeros (224 - 2 * k)
theorem walkX_len {t : List Int} (ht : t.length = 32) (d : Int) (k : Nat) (hk : k ≤ 32) : (walkX d t k).length = 256 := by
  unfold walkX
  rw [List.length_append, List.length_append, headX_len, flatI_len, List.length_take, ht, zeros_len]
  omega
theorem walkX_step {t : List Int} (ht : t.length = 32) (d : Int) (k : Nat) (hk : k < 32) : nwithL (walkX d t k) ((32 + 2 * k : Nat) : Int) 2 (fld t k).toNat = walkX d t (k + 1) := by
  unfold walkX
  have h1 : (headX d ++ flatI (t.take k)).length = 32 + 2 * k := by
    rw [List.length_append, headX_len, flatI_len, List.length_take, ht]; omega
  have h := nwithL_zeros (headX d ++ flatI (t.take k)) (32 + 2 * k) (224 - 2 * k) 2 (fld t k).toNat h1 (by omega) (by omega) (by omega)
  have e := fld_get t k (by rw [ht]; exact hk)
  have e2 : t.take (k + 1) = t.take k ++ [fld t k] := take_succ_getI _ _ _ e
  rw [e2, flatI_snoc, show 224 - 2 * (k + 1) = 224 - 2 * k - 2 from by omega]
  rw [← List.append_assoc (headX d), List.append_assoc (headX d ++ flatI (t.take k))]
  exact h
theorem walkX_end {t : List Int} (ht : t.length = 32) (d : Int) : walkX d t 32 = putX d t := by
  unfold walkX putX
  rw [List.take_of_length_le (by omega), List.append_assoc]
theorem walkX_start (d : Int) (t : List Int) : nwithL (layL (zeros 256) 0 [105, 100, 120, 33]) 4 1 d.toNat = walkX d t 0 := by
  have h0 : layL (zeros 256) 0 [105, 100, 120, 33] = [105, 100, 120, 33] ++ zeros 252 := layL_zeros [] [105, 100, 120, 33] 0 256 rfl rfl (by decide) (by omega)
  have h1 := nwithL_zeros [105, 100, 120, 33] 4 252 1 d.toNat rfl (by omega) (by omega) (by omega)
  rw [h0]
  refine h1.trans ?_
  unfold walkX headX
  have e : zeros (252 - 1) = zeros 27 ++ zeros 224 := by unfold zeros; rw [List.replicate_append_replicate]
  rw [e]
  simp [leBytes, flatI]
/-- The document's way: the bytes behind the first k numbers. -/
def docX (d : Int) (t : List Int) (k : Nat) : List UInt8 := headX d ++ flatI (t.take k)
theorem docX_len {t : List Int} (ht : t.length = 32) (d : Int) (k : Nat) (hk : k ≤ 32) : (docX d t k).length = 32 + 2 * k := by
  unfold docX
  rw [List.length_append, headX_len, flatI_len, List.length_take, ht]
  omega
theorem docX_step {t : List Int} (ht : t.length = 32) (d : Int) (k : Nat) (hk : k < 32) : docX d t (k + 1) = docX d t k ++ leBytes 2 (fld t k).toNat := by
  unfold docX
  rw [take_succ_getI _ _ _ (fld_get t k (by rw [ht]; exact hk)), flatI_snoc, List.append_assoc]

/-- What is read. -/
def gotD (b : List UInt8) : Int := ((leV b 4 1 : Nat) : Int)
def gotF (b : List UInt8) (k i : Nat) : Int := if i < k then ((leV b (32 + 2 * i) 2 : Nat) : Int) else 0
def gotX (b : List UInt8) (k : Nat) : List Int := mapT (gotF b k)
def gotT (b : List UInt8) : List Int := gotX b 32
theorem gotX_len (b : List UInt8) (k : Nat) : (gotX b k).length = 32 := mapT_len _
theorem gotT_len (b : List UInt8) : (gotT b).length = 32 := mapT_len _
theorem gotX_zero (b : List UInt8) : gotX b 0 = zeroT := by
  unfold gotX zeroT gotF
  simp
theorem gotX_step (b : List UInt8) (k : Nat) (hk : k < 32) : (gotX b k).set k ((leV b (32 + 2 * k) 2 : Nat) : Int) = gotX b (k + 1) := by
  refine mapT_set _ _ k _ hk fun i hi => ?_
  unfold gotF
  by_cases e : i = k
  · subst e
    rw [if_pos (show i < i + 1 by omega), if_pos rfl]
  · simp only [show i < k + 1 ↔ i < k by omega, if_neg e]
/-- Is there an index, of which the block is Put, with nothing beyond its places? -/
def getB (b : List UInt8) : Bool := mayX (gotD b) (gotT b) && (putX (gotD b) (gotT b) == b && shortT (dpN (gotD b)) (gotT b) == gotT b)
def getD_ (b : List UInt8) : Int := if getB b then gotD b else 0
def getT_ (b : List UInt8) : List Int := if getB b then gotT b else zeroT
theorem getT_len (b : List UInt8) : (getT_ b).length = 32 := by
  unfold getT_
  split
  · exact gotT_len b
  · exact zeroT_len
theorem gotD_put {d : Int} {t : List Int} (h : mayX d t = true) : gotD (putX d t) = d := by
  unfold mayX inD at h
  simp only [Bool.and_eq_true, decide_eq_true_eq] at h
  have e : leV (putX d t) 4 1 = (UInt8.ofNat d.toNat).toNat := by
    unfold putX headX leV
    simp [leVal]
  unfold gotD
  rw [e]
  simp
  omega
theorem gotT_put {d : Int} {t : List Int} (ht : t.length = 32) (h : mayX d t = true) : gotT (putX d t) = t := by
  unfold mayX at h
  rw [Bool.and_eq_true, List.all_eq_true] at h
  refine ext32 (gotT_len _) ht fun i hi => ?_
  unfold gotT gotX
  rw [mapT_at _ i hi]
  unfold gotF
  rw [if_pos hi]
  have hs := h.1 (fld t i) (List.mem_of_getElem? (fld_get t i (by omega)))
  unfold shortB at hs
  have hs := of_decide_eq_true hs
  have e0 := fld_get t i (by omega)
  have e1 : t = t.take i ++ (fld t i :: t.drop (i + 1)) := by
    obtain ⟨h1, h2⟩ := List.getElem?_eq_some_iff.1 e0
    rw [← h2, List.getElem_cons_drop, List.take_append_drop]
  have e2 : flatI t = flatI (t.take i) ++ (leBytes 2 (fld t i).toNat ++ flatI (t.drop (i + 1))) := by
    have e3 : flatI t = flatI (t.take i ++ (fld t i :: t.drop (i + 1))) := congrArg _ e1
    rw [e3]
    unfold flatI
    rw [List.flatMap_append, List.flatMap_cons]
  unfold putX
  rw [e2, List.append_assoc, List.append_assoc, ← List.append_assoc, leV_two _ (by omega) _ _ _ (by rw [List.length_append, headX_len, flatI_len, List.length_take]; omega)]
  omega
theorem right_may {d : Int} {t : List Int} (ht : t.length = 32) (h : rightX d t = true) : mayX d t = true := by
  obtain ⟨hd, h⟩ := rightX_iff.1 h
  unfold mayX inD
  rw [Bool.and_eq_true, List.all_eq_true]
  refine ⟨fun v hv => ?_, by simpa using hd⟩
  obtain ⟨i, hi, rfl⟩ := List.getElem_of_mem hv
  have e : t[i] = fld t i := by
    have := fld_get t i hi
    rw [List.getElem?_eq_getElem hi] at this
    injection this
  rw [e]
  by_cases h0 : fld t i = 0
  · rw [h0]; rfl
  · by_cases h1 : i < 2 ^ dpN d
    · exact (right_whole (dpN_le d) h h1 h0).1
    · have := xfixT_at (dpN d) t i (by omega)
      rw [h, if_neg h1] at this
      exact absurd this h0
theorem right_short {d : Int} {t : List Int} (ht : t.length = 32) (h : rightX d t = true) : shortT (dpN d) t = t := by
  obtain ⟨_, h⟩ := rightX_iff.1 h
  refine ext32 (mapT_len _) ht fun i hi => ?_
  unfold shortT
  rw [mapT_at _ i hi]
  split
  · rfl
  · next h1 =>
    have := xfixT_at (dpN d) t i hi
    rw [h, if_neg h1] at this
    exact this.symm
/-- 19.5: got again. -/
theorem get_put {d : Int} {t : List Int} (ht : t.length = 32) (h : rightX d t = true) : getB (putX d t) = true ∧ getD_ (putX d t) = d ∧ getT_ (putX d t) = t := by
  have hm := right_may ht h
  have hg : getB (putX d t) = true := by
    unfold getB
    rw [gotD_put hm, gotT_put ht hm, hm, right_short ht h]
    simp
  unfold getD_ getT_
  rw [hg]
  exact ⟨rfl, gotD_put hm, gotT_put ht hm⟩
/-- What stands beyond the places, one by one. -/
theorem shortT_iff {D : Nat} {t : List Int} (ht : t.length = 32) : shortT D t = t ↔ ∀ i, i < 32 → 2 ^ D ≤ i → fld t i = 0 := by
  constructor
  · intro h i hi hge
    rw [← h]
    unfold shortT
    rw [mapT_at _ i hi, if_neg (by omega)]
  · intro h
    refine ext32 (mapT_len _) ht fun i hi => ?_
    unfold shortT
    rw [mapT_at _ i hi]
    split
    · rfl
    · exact (h i hi (by omega)).symm

end Go.Proofs.YtkakihbfhmiabaaGreat

/-
  A block as 128 numbers of two bytes: got, put, listed, counted, kept. Plain; no program is named here.
-/
namespace Go.Proofs.YtkakihbfhmiabaaGreat
open Go.RowKit

def placeQ (k : Int) : Bool := decide (0 ≤ k ∧ k < 128)
theorem placeQ_true {k : Int} (h : placeQ k = true) : ∃ q : Nat, q < 128 ∧ k = (q : Int) := by
  unfold placeQ at h
  rw [decide_eq_true_eq] at h
  exact ⟨k.toNat, by omega, by omega⟩
theorem placeQ_nat {q : Nat} (h : q < 128) : placeQ (q : Int) = true := by unfold placeQ; rw [decide_eq_true_eq]; omega
theorem placeQ_false {k : Int} (h : placeQ k = false) : k < 0 ∨ 0 ≤ k ∧ 127 < k := by
  unfold placeQ at h
  rw [decide_eq_false_iff_not] at h
  omega
theorem short_iff {x : Int} : shortB x = true ↔ 0 ≤ x ∧ x ≤ 65535 := by unfold shortB; rw [decide_eq_true_eq]
theorem short_false {x : Int} (h : shortB x = false) : x < 0 ∨ 0 ≤ x ∧ 65535 < x := by
  unfold shortB at h
  rw [decide_eq_false_iff_not] at h
  omega

/-! ### The number of a place -/
theorem leV2_lt (b : List UInt8) (o : Nat) : leV b o 2 < 65536 := by
  refine Nat.lt_of_lt_of_le (leVal_lt _) ?_
  have : 8 * ((b.drop o).take 2).length ≤ 16 := by rw [List.length_take]; omega
  exact Nat.pow_le_pow_right (by omega) this
def nmQ (b : List UInt8) (k : Nat) : Int := ((leV b (2 * k) 2 : Nat) : Int)
theorem nmQ_in (b : List UInt8) (k : Nat) : 0 ≤ nmQ b k ∧ nmQ b k ≤ 65535 := by
  have := leV2_lt b (2 * k)
  unfold nmQ
  omega
theorem getN_nm {b : List UInt8} (hb : b.length = 256) {k : Nat} (hk : k < 128) : ((getN b ((2 * k : Nat) : Int) 2 4 : Nat) : Int) = nmQ b k := by
  unfold getN nmQ leV
  rw [if_pos (by unfold fitsB; rw [decide_eq_true_eq, hb]; omega)]
  rfl
def getQ (b : List UInt8) (k : Int) : Int := if placeQ k then nmQ b k.toNat else 0
theorem getQ_nat (b : List UInt8) {q : Nat} (h : q < 128) : getQ b (q : Int) = nmQ b q := by
  unfold getQ
  rw [placeQ_nat h]
  rfl
theorem getQ_no (b : List UInt8) {k : Int} (h : placeQ k = false) : getQ b k = 0 := by unfold getQ; rw [h]; rfl
def numsQ (b : List UInt8) : List Int := (List.range 128).map (nmQ b)
theorem numsQ_len (b : List UInt8) : (numsQ b).length = 128 := by unfold numsQ; rw [List.length_map, List.length_range]
theorem numsQ_at (b : List UInt8) {k : Nat} (hk : k < 128) : fld (numsQ b) k = nmQ b k := by
  unfold fld numsQ
  rw [List.getD_eq_getElem?_getD, List.getElem?_map, List.getElem?_range hk]
  rfl
theorem fld_get0 (l : List Int) (k : Nat) (h : l.length ≤ k) : fld l k = 0 := by
  unfold fld
  rw [List.getD_eq_getElem?_getD, List.getElem?_eq_none h]
  rfl
theorem ext128 {t u : List Int} (ht : t.length = 128) (hu : u.length = 128) (h : ∀ i, i < 128 → fld t i = fld u i) : t = u := by
  apply List.ext_getElem?
  intro i
  by_cases hi : i < 128
  · rw [fld_get t i (by omega), fld_get u i (by omega), h i hi]
  · rw [List.getElem?_eq_none (by omega), List.getElem?_eq_none (by omega)]
theorem fldQ_set (l : List Int) (i k : Nat) (v : Int) (hi : i < l.length) : fld (l.set i v) k = if k = i then v else fld l k := by
  unfold fld
  rw [List.getD_eq_getElem?_getD, List.getD_eq_getElem?_getD, List.getElem?_set]
  by_cases h : i = k
  · rw [if_pos h, if_pos hi, if_pos h.symm]
    rfl
  · rw [if_neg h, if_neg (fun e => h e.symm)]
theorem fld_snoc (l : List Int) (k : Nat) (x : Int) (hk : l.length = k) : fld (l ++ [x]) k = x := by
  subst hk
  unfold fld
  rw [List.getD_eq_getElem?_getD, List.getElem?_append_right (Nat.le_refl _)]
  simp

/-! ### Numbers as a block -/
def fineL (l : List Int) : Prop := ∀ k, k < l.length → 0 ≤ fld l k ∧ fld l k ≤ 65535
theorem numsQ_fine (b : List UInt8) : fineL (numsQ b) := fun k hk => by
  rw [numsQ_len] at hk
  rw [numsQ_at b hk]
  exact nmQ_in b k
theorem fineL_set {l : List Int} (h : fineL l) (k : Nat) {v : Int} (hv : 0 ≤ v ∧ v ≤ 65535) : fineL (l.set k v) := fun i hi => by
  rw [List.length_set] at hi
  by_cases hk : k < l.length
  · rw [fldQ_set l k i v hk]
    by_cases e : i = k
    · rw [if_pos e]; exact hv
    · rw [if_neg e]; exact h i hi
  · rw [List.set_eq_of_length_le (by omega)]
    exact h i hi
def blkQ (l : List Int) : List UInt8 := flatI l ++ zeros (256 - 2 * l.length)
theorem blkQ_len {l : List Int} (h : l.length ≤ 128) : (blkQ l).length = 256 := by
  unfold blkQ
  rw [List.length_append, flatI_len, zeros_len]
  omega
theorem blkQ_nil : blkQ [] = zeros 256 := rfl
theorem blkQ_all {l : List Int} (h : l.length = 128) : blkQ l = flatI l := by
  unfold blkQ
  rw [h]
  exact List.append_nil _
/-- One number more, the program's way. -/
theorem blkQ_next {l : List Int} {k : Nat} (hl : l.length = k) (hk : k < 128) (x : Int) : nwithL (blkQ l) ((2 * k : Nat) : Int) 2 x.toNat = blkQ (l ++ [x]) := by
  unfold blkQ
  have e := nwithL_zeros (flatI l) (2 * k) (256 - 2 * k) 2 x.toNat (by rw [flatI_len, hl]) (by omega) (by omega) (by omega)
  rw [hl, List.length_append, hl, flatI_snoc, List.append_assoc]
  exact e
theorem rlay_blkQ {l : List Int} (h : l.length ≤ 128) : rlayL (zeros 256) 0 (flatI l) = blkQ l := by
  have hf := flatI_len l
  unfold rlayL blkQ
  rw [if_pos (by rw [zeros_len]; decide), zeros_len, List.take_of_length_le (by rw [hf]; show _ ≤ 256; omega)]
  have e := splice_zeros [] (flatI l) 0 256 rfl
  rw [List.nil_append, List.nil_append, hf] at e
  exact e
theorem le2 (v : Nat) : leBytes 2 v = [UInt8.ofNat v, UInt8.ofNat (v / 256)] := rfl
theorem flatI_cons (x : Int) (l : List Int) : flatI (x :: l) = leBytes 2 x.toNat ++ flatI l := by unfold flatI; rw [List.flatMap_cons]
theorem flatI_drop (l : List Int) (k : Nat) : (flatI l).drop (2 * k) = flatI (l.drop k) := by
  induction l generalizing k with
  | nil => simp [flatI]
  | cons x l ih =>
    cases k with
    | zero => rfl
    | succ k =>
      rw [flatI_cons, le2, List.drop_succ_cons, ← ih k, show 2 * (k + 1) = 2 * k + 2 from by omega]
      rfl
theorem flatI_at {l : List Int} (h : fineL l) {k : Nat} (hk : k < l.length) : nmQ (flatI l) k = fld l k := by
  have hx := h k hk
  have e : l.drop k = fld l k :: l.drop (k + 1) := by
    have := fld_get l k hk
    rw [List.getElem?_eq_getElem hk] at this
    rw [List.drop_eq_getElem_cons hk, Option.some.inj this]
  unfold nmQ leV
  rw [flatI_drop, e, flatI_cons, List.take_left' (leBytes_len _ _), leVal_leBytes _ _ (by omega)]
  omega
theorem numsQ_blkQ {l : List Int} (hl : l.length = 128) (h : fineL l) : numsQ (blkQ l) = l := by
  rw [blkQ_all hl]
  exact ext128 (numsQ_len _) hl fun i hi => by rw [numsQ_at _ hi, flatI_at h (by omega)]
theorem nmQ_blkQ {l : List Int} (hl : l.length = 128) (h : fineL l) {k : Nat} (hk : k < 128) : nmQ (blkQ l) k = fld l k := by
  rw [← numsQ_at _ hk, numsQ_blkQ hl h]
theorem le2_two (x y : UInt8) : leBytes 2 (leVal [x, y]) = [x, y] := by
  have hx := x.toNat_lt
  have hy := y.toNat_lt
  rw [le2]
  congr 1
  · apply UInt8.toNat_inj.1
    simp [leVal]
  · congr 1
    apply UInt8.toNat_inj.1
    simp [leVal]
    omega
theorem flatI_nums (b : List UInt8) (n : Nat) (h : 2 * n ≤ b.length) : flatI ((List.range n).map (nmQ b)) = b.take (2 * n) := by
  induction n with
  | zero => rfl
  | succ n ih =>
    rw [List.range_succ, List.map_append, List.map_cons, List.map_nil, flatI_snoc, ih (by omega)]
    have e : (b.drop (2 * n)).take 2 = [b[2 * n]'(by omega), b[2 * n + 1]'(by omega)] := by
      rw [List.drop_eq_getElem_cons (by omega), List.drop_eq_getElem_cons (by omega)]
      rfl
    have e2 : (nmQ b n).toNat = leVal [b[2 * n]'(by omega), b[2 * n + 1]'(by omega)] := by
      unfold nmQ leV
      rw [Int.toNat_natCast, e]
    rw [e2, le2_two, ← e, show 2 * (n + 1) = 2 * n + 2 from by omega, List.take_add]
theorem blkQ_numsQ {b : List UInt8} (h : b.length = 256) : blkQ (numsQ b) = b := by
  rw [blkQ_all (numsQ_len b)]
  unfold numsQ
  rw [flatI_nums b 128 (by omega), List.take_of_length_le (by omega)]
theorem numsQ_inj {b c : List UInt8} (hb : b.length = 256) (hc : c.length = 256) (h : numsQ b = numsQ c) : b = c := by
  rw [← blkQ_numsQ hb, ← blkQ_numsQ hc, h]
theorem flatI_set (l : List Int) (k : Nat) (v : Int) (hk : k < l.length) : splice (flatI l) (2 * k) (leBytes 2 v.toNat) = flatI (l.set k v) := by
  unfold splice
  rw [leBytes_len]
  induction l generalizing k with
  | nil => cases hk
  | cons x l ih =>
    cases k with
    | zero => rw [List.set_cons_zero, flatI_cons, flatI_cons, le2 x.toNat]; rfl
    | succ k =>
      have := ih k (by simpa using hk)
      rw [List.set_cons_succ, flatI_cons, flatI_cons, ← this, le2 x.toNat, show 2 * (k + 1) = 2 * k + 2 from by omega, show 2 * k + 2 + 2 = (2 * k + 2) + 1 + 1 from rfl]
      rfl
/-- A number anew, the program's way. -/
theorem blkQ_set {l : List Int} (hl : l.length = 128) {k : Nat} (hk : k < 128) (v : Int) : nwithL (blkQ l) ((2 * k : Nat) : Int) 2 v.toNat = blkQ (l.set k v) := by
  rw [blkQ_all hl, blkQ_all (by rw [List.length_set, hl]), ← flatI_set l k v (by omega)]
  unfold nwithL
  rw [if_pos (by unfold fitsB; rw [decide_eq_true_eq, flatI_len, hl]; omega)]
  rfl

/-! ### Patch, Make -/
def patQ (k x : Int) : Pt := if placeQ k && shortB x then ⟨2 * k, leBytes 2 x.toNat⟩ else ⟨0, []⟩
def patE (k x : Int) : Int := if placeQ k then (if shortB x then 0 else 1) else 2
theorem patQ_no {k : Int} (h : placeQ k = false) (x : Int) : patQ k x = ⟨0, []⟩ ∧ patE k x = 2 := by unfold patQ patE; rw [h]; exact ⟨rfl, rfl⟩
theorem patQ_not {k : Int} (h : placeQ k = true) {x : Int} (hx : shortB x = false) : patQ k x = ⟨0, []⟩ ∧ patE k x = 1 := by unfold patQ patE; rw [h, hx]; exact ⟨rfl, rfl⟩
theorem patQ_yes {k : Int} (h : placeQ k = true) {x : Int} (hx : shortB x = true) : patQ k x = ⟨2 * k, leBytes 2 x.toNat⟩ ∧ patE k x = 0 := by unfold patQ patE; rw [h, hx]; exact ⟨rfl, rfl⟩
theorem layP_blkQ {b : List UInt8} (hb : b.length = 256) {k : Nat} (hk : k < 128) {x : Int} (hx : shortB x = true) : layP b (patQ (k : Int) x) = blkQ ((numsQ b).set k x) := by
  rw [(patQ_yes (placeQ_nat hk) hx).1]
  unfold layP
  rw [if_pos (Pt.right_iff.2 ⟨by rw [leBytes_len]; omega, by rw [leBytes_len]; omega, by show 0 ≤ 2 * (k : Int); omega, by show 2 * (k : Int) ≤ _; rw [leBytes_len]; omega⟩)]
  show splice b (2 * (k : Int)).toNat _ = _
  rw [show (2 * (k : Int)).toNat = 2 * k from by omega, blkQ_all (by rw [List.length_set, numsQ_len]), ← flatI_set _ k x (by rw [numsQ_len]; exact hk), ← blkQ_all (numsQ_len b), blkQ_numsQ hb]
def mkE (l : List Int) : Int := if 128 < l.length then 2 else if l.all shortB then 0 else 1
def mkB (l : List Int) : List UInt8 := if mkE l = 0 then blkQ l else zeros 256
theorem mk_many {l : List Int} (h : 128 < l.length) : mkE l = 2 ∧ mkB l = zeros 256 := by
  have : mkE l = 2 := by unfold mkE; rw [if_pos h]
  exact ⟨this, by unfold mkB; rw [this]; rfl⟩
theorem mk_not {l : List Int} (h : l.length ≤ 128) (hf : l.all shortB = false) : mkE l = 1 ∧ mkB l = zeros 256 := by
  have : mkE l = 1 := by unfold mkE; rw [if_neg (by omega), hf]; rfl
  exact ⟨this, by unfold mkB; rw [this]; rfl⟩
theorem mk_yes {l : List Int} (h : l.length ≤ 128) (hf : l.all shortB = true) : mkE l = 0 ∧ mkB l = blkQ l := by
  have : mkE l = 0 := by unfold mkE; rw [if_neg (by omega), hf]; rfl
  exact ⟨this, by unfold mkB; rw [this]; rfl⟩
theorem mkB_len (l : List Int) : (mkB l).length = 256 := by
  unfold mkB
  by_cases h : mkE l = 0
  · rw [if_pos h]
    refine blkQ_len ?_
    unfold mkE at h
    by_cases h2 : 128 < l.length
    · rw [if_pos h2] at h; cases h
    · omega
  · rw [if_neg h, zeros_len]
theorem fine_all {l : List Int} (h : fineL l) : l.all shortB = true := by
  rw [List.all_eq_true]
  intro x hx
  obtain ⟨k, hk, e⟩ := List.getElem_of_mem hx
  have := h k hk
  have e2 := fld_get l k hk
  rw [List.getElem?_eq_getElem hk, e] at e2
  rw [← Option.some.inj e2] at this
  exact short_iff.2 this
theorem all_fine {l : List Int} (h : l.all shortB = true) : fineL l := fun k hk => by
  rw [List.all_eq_true] at h
  have e := fld_get l k hk
  rw [List.getElem?_eq_getElem hk] at e
  have := h _ (List.getElem_mem hk)
  rw [Option.some.inj e] at this
  exact short_iff.1 this

/-! ### List, Last -/
def lisQ (b : List UInt8) : Nat → List Int
  | 0 => []
  | n + 1 => if nmQ b n = 0 then lisQ b n else lisQ b n ++ [nmQ b n]
theorem lisQ_no {b : List UInt8} {n : Nat} (h : nmQ b n = 0) : lisQ b (n + 1) = lisQ b n := if_pos h
theorem lisQ_yes {b : List UInt8} {n : Nat} (h : nmQ b n ≠ 0) : lisQ b (n + 1) = lisQ b n ++ [nmQ b n] := if_neg h
def lstQ (b : List UInt8) : Nat → Nat
  | 0 => 0
  | n + 1 => if nmQ b n = 0 then lstQ b n else n + 1
theorem lstQ_no {b : List UInt8} {n : Nat} (h : nmQ b n = 0) : lstQ b (n + 1) = lstQ b n := if_pos h
theorem lstQ_yes {b : List UInt8} {n : Nat} (h : nmQ b n ≠ 0) : lstQ b (n + 1) = n + 1 := if_neg h
theorem lstQ_le (b : List UInt8) (n : Nat) : lstQ b n ≤ n := by
  induction n with
  | zero => exact Nat.le_refl _
  | succ n ih =>
    by_cases h : nmQ b n = 0
    · rw [lstQ_no h]; omega
    · rw [lstQ_yes h]; omega
theorem lisQ_len (b : List UInt8) (n : Nat) : (lisQ b n).length ≤ n := by
  induction n with
  | zero => exact Nat.le_refl _
  | succ n ih =>
    by_cases h : nmQ b n = 0
    · rw [lisQ_no h]; omega
    · rw [lisQ_yes h, List.length_append]
      simp
      omega
theorem lisQ_lst (b : List UInt8) (n : Nat) : (lisQ b n).length ≤ lstQ b n := by
  induction n with
  | zero => exact Nat.le_refl _
  | succ n ih =>
    by_cases h : nmQ b n = 0
    · rw [lisQ_no h, lstQ_no h]; exact ih
    · rw [lstQ_yes h]; exact lisQ_len b (n + 1)
theorem lisQ_mem {b : List UInt8} {n : Nat} {x : Int} (h : x ∈ lisQ b n) : ∃ k, k < n ∧ nmQ b k ≠ 0 ∧ x = nmQ b k := by
  induction n with
  | zero => cases h
  | succ n ih =>
    by_cases h0 : nmQ b n = 0
    · rw [lisQ_no h0] at h
      obtain ⟨k, h1, h2⟩ := ih h
      exact ⟨k, by omega, h2⟩
    · rw [lisQ_yes h0, List.mem_append] at h
      rcases h with h | h
      · obtain ⟨k, h1, h2⟩ := ih h
        exact ⟨k, by omega, h2⟩
      · rw [List.mem_singleton] at h
        exact ⟨n, by omega, h0, h⟩
theorem lstQ_mono {b c : List UInt8} (n : Nat) (h : ∀ k, k < n → nmQ b k ≠ 0 → nmQ c k ≠ 0) : lstQ b n ≤ lstQ c n := by
  induction n with
  | zero => exact Nat.le_refl _
  | succ n ih =>
    have := ih fun k hk => h k (by omega)
    by_cases h0 : nmQ b n = 0
    · rw [lstQ_no h0]
      by_cases h1 : nmQ c n = 0
      · rw [lstQ_no h1]; exact this
      · rw [lstQ_yes h1]
        have := lstQ_le b n
        omega
    · rw [lstQ_yes h0, lstQ_yes (h n (by omega) h0)]
      exact Nat.le_refl _

/-! ### Keep -/
/-- Is a number kept in the statements? -/
def kpB (e : Int) (k : Nat) (x : Int) : Bool := decide (x < e) && !decide (k % 3 = 2)
def stepK (e : Int) (k : Nat) (s : List Int) : List Int := if kpB e k (fld s k) then s else s.set k 0
def keepL (e : Int) (l : List Int) : Nat → List Int
  | 0 => l
  | n + 1 => stepK e n (keepL e l n)
theorem stepK_len (e : Int) (k : Nat) (s : List Int) : (stepK e k s).length = s.length := by
  unfold stepK
  split
  · rfl
  · rw [List.length_set]
theorem stepK_yes {e : Int} {k : Nat} {s : List Int} (h : kpB e k (fld s k) = true) : stepK e k s = s := by unfold stepK; rw [h]; rfl
theorem stepK_no {e : Int} {k : Nat} {s : List Int} (h : kpB e k (fld s k) = false) : stepK e k s = s.set k 0 := by unfold stepK; rw [h]; rfl
theorem set_same (s : List Int) (k : Nat) : s.set k (fld s k) = s := by
  by_cases hk : k < s.length
  · have e := fld_get s k hk
    rw [List.getElem?_eq_getElem hk] at e
    rw [← Option.some.inj e, List.set_getElem_self]
  · rw [List.set_eq_of_length_le (by omega)]
theorem stepK_zero {e : Int} {k : Nat} {s : List Int} (h : fld s k = 0) : stepK e k s = s := by
  unfold stepK
  split
  · rfl
  · have := set_same s k
    rw [h] at this
    exact this
theorem keepL_len (e : Int) (l : List Int) (n : Nat) : (keepL e l n).length = l.length := by
  induction n with
  | zero => rfl
  | succ n ih => rw [keepL, stepK_len, ih]
theorem stepK_at (e : Int) (k : Nat) (s : List Int) (i : Nat) : fld (stepK e k s) i = if i = k ∧ kpB e k (fld s k) = false then 0 else fld s i := by
  cases h : kpB e k (fld s k)
  · rw [stepK_no h]
    by_cases hk : k < s.length
    · rw [fldQ_set s k i 0 hk]
      by_cases e : i = k
      · rw [if_pos e, if_pos ⟨e, rfl⟩]
      · rw [if_neg e, if_neg (fun c => e c.1)]
    · rw [List.set_eq_of_length_le (by omega)]
      by_cases e : i = k
      · rw [if_pos ⟨e, rfl⟩, e, fld_get0 s k (by omega)]
      · rw [if_neg (fun c => e c.1)]
  · rw [stepK_yes h, if_neg (fun c => by cases c.2)]
theorem keepL_at (e : Int) (l : List Int) (n i : Nat) : fld (keepL e l n) i = if i < n ∧ kpB e i (fld l i) = false then 0 else fld l i := by
  induction n with
  | zero => rw [if_neg (fun c => absurd c.1 (by omega))]; rfl
  | succ n ih =>
    rw [keepL, stepK_at]
    by_cases hi : i = n
    · subst hi
      have hc : fld (keepL e l i) i = fld l i := by rw [ih, if_neg (fun c => absurd c.1 (Nat.lt_irrefl i))]
      rw [hc]
      by_cases hk : kpB e i (fld l i) = false
      · rw [if_pos ⟨rfl, hk⟩, if_pos ⟨by omega, hk⟩]
      · rw [if_neg (fun c => hk c.2), if_neg (fun c => hk c.2)]
    · rw [if_neg (fun c => hi c.1), ih]
      by_cases hk : i < n ∧ kpB e i (fld l i) = false
      · rw [if_pos hk, if_pos ⟨by omega, hk.2⟩]
      · rw [if_neg hk, if_neg (fun c => hk ⟨by omega, c.2⟩)]
theorem keepL_cur (e : Int) (l : List Int) (n : Nat) : fld (keepL e l n) n = fld l n := by
  rw [keepL_at, if_neg (fun c => absurd c.1 (by omega))]
theorem keepL_fine {e : Int} {l : List Int} (h : fineL l) (n : Nat) : fineL (keepL e l n) := fun k hk => by
  rw [keepL_len] at hk
  rw [keepL_at]
  split
  · omega
  · exact h k hk
def keepQ (e : Int) (b : List UInt8) : List UInt8 := blkQ (keepL e (numsQ b) 128)
theorem keepQ_len (e : Int) (b : List UInt8) : (keepQ e b).length = 256 := blkQ_len (by rw [keepL_len, numsQ_len]; omega)
theorem keepQ_at (e : Int) (b : List UInt8) {k : Nat} (hk : k < 128) : nmQ (keepQ e b) k = if kpB e k (nmQ b k) = false then 0 else nmQ b k := by
  unfold keepQ
  rw [nmQ_blkQ (by rw [keepL_len, numsQ_len]) (keepL_fine (numsQ_fine b) 128) hk, keepL_at, numsQ_at b hk]
  by_cases h : kpB e k (nmQ b k) = false
  · rw [if_pos ⟨hk, h⟩, if_pos h]
  · rw [if_neg (fun c => h c.2), if_neg h]
theorem keepQ_again (e : Int) (b : List UInt8) : keepQ e (keepQ e b) = keepQ e b := by
  refine numsQ_inj (keepQ_len _ _) (keepQ_len _ _) (ext128 (numsQ_len _) (numsQ_len _) fun i hi => ?_)
  rw [numsQ_at _ hi, numsQ_at _ hi, keepQ_at e _ hi, keepQ_at e b hi]
  by_cases h : kpB e i (nmQ b i) = false
  · rw [if_pos h]; split <;> rfl
  · rw [if_neg h, if_neg h]
theorem keepQ_below {e : Int} {b : List UInt8} {x : Int} (h : x ∈ lisQ (keepQ e b) 128) : x < e := by
  obtain ⟨k, hk, h0, rfl⟩ := lisQ_mem h
  rw [keepQ_at e b hk] at h0 ⊢
  by_cases hc : kpB e k (nmQ b k) = false
  · rw [if_pos hc] at h0
    exact absurd rfl h0
  · rw [if_neg hc]
    have : kpB e k (nmQ b k) = true := by simpa using hc
    unfold kpB at this
    rw [Bool.and_eq_true, decide_eq_true_eq] at this
    exact this.1
theorem keepQ_last (e : Int) (b : List UInt8) : lstQ (keepQ e b) 128 ≤ lstQ b 128 := lstQ_mono 128 fun k hk h => by
  rw [keepQ_at e b hk] at h
  by_cases hc : kpB e k (nmQ b k) = false
  · rw [if_pos hc] at h
    exact absurd rfl h
  · rw [if_neg hc] at h
    exact h

end Go.Proofs.YtkakihbfhmiabaaGreat

/-
  Which blocks an inode of a view owns. Plain; no program is named here.
-/
namespace Go.Proofs.YtkakihbfhmiabaaGreat
open Go.RowKit

/-- A data block, or 0. -/
def datF (l : Lay14) (no : Int) : Int := if l.isD no then no else 0
theorem isD_pos {l : Lay14} {no : Int} (h : l.isD no = true) : no ≠ 0 ∧ 0 ≤ no ∧ no < l.blocks := by
  unfold Lay14.isD at h
  rw [Bool.and_eq_true, decide_eq_true_eq] at h
  have := Lay14.on h.1
  omega
theorem datF_yes {l : Lay14} {no : Int} (h : l.isD no = true) : datF l no = no := by unfold datF; rw [h]; rfl
theorem datF_no {l : Lay14} {no : Int} (h : l.isD no = false) : datF l no = 0 := by unfold datF; rw [h]; rfl
theorem datF_is {l : Lay14} {no : Int} (h : datF l no ≠ 0) : l.isD (datF l no) = true := by
  cases hd : l.isD no
  · exact absurd (datF_no hd) h
  · rw [datF_yes hd]; exact hd
theorem datF_iff {l : Lay14} {no : Int} : datF l no = 0 ↔ l.isD no = false := by
  cases hd : l.isD no
  · rw [datF_no hd]; simp
  · rw [datF_yes hd]
    have := (isD_pos hd).1
    simp [this]
/-- 22.1: the block k of a file. -/
def atF (l : Lay14) (T : Int → List UInt8) (X : List Int) (k : Nat) : Int :=
  if fld X 0 = 1 then (if k < 6 then datF l (fld X (4 + k)) else if l.isD (fld X 10) then datF l (nmQ (vBk l T (fld X 10)) (k - 6)) else 0) else 0
section
variable {l : Lay14} {T : Int → List UInt8} {X : List Int}
theorem atF_kind (h : fld X 0 ≠ 1) (k : Nat) : atF l T X k = 0 := if_neg h
theorem atF_low (h : fld X 0 = 1) {k : Nat} (hk : k < 6) : atF l T X k = datF l (fld X (4 + k)) := by unfold atF; rw [if_pos h, if_pos hk]
theorem atF_high (h : fld X 0 = 1) (hd : l.isD (fld X 10) = true) (k : Nat) : atF l T X (6 + k) = datF l (nmQ (vBk l T (fld X 10)) k) := by
  unfold atF
  rw [if_pos h, if_neg (by omega), if_pos hd, show 6 + k - 6 = k from by omega]
theorem atF_none (hd : l.isD (fld X 10) = false) {k : Nat} (hk : 6 ≤ k) : atF l T X k = 0 := by
  unfold atF
  by_cases h : fld X 0 = 1
  · rw [if_pos h, if_neg (by omega), if_neg (by rw [hd]; simp)]
  · rw [if_neg h]
theorem atF_is {k : Nat} (h : atF l T X k ≠ 0) : l.isD (atF l T X k) = true := by
  unfold atF at h ⊢
  split at h
  · rename_i h1
    rw [if_pos h1]
    split at h
    · rename_i h2
      rw [if_pos h2]
      exact datF_is h
    · rename_i h2
      rw [if_neg h2]
      split at h
      · rename_i h3
        rw [if_pos h3]
        exact datF_is h
      · exact absurd rfl h
  · exact absurd rfl h
/-- .. asked at any number. -/
def atI (l : Lay14) (T : Int → List UInt8) (X : List Int) (k : Int) : Int := if decide (0 ≤ k ∧ k < 134) then atF l T X k.toNat else 0
theorem atI_nat {k : Nat} (h : k < 134) : atI l T X (k : Int) = atF l T X k := by unfold atI; rw [decide_eq_true (by omega)]; rfl
theorem atI_off {k : Int} (h : ¬ (0 ≤ k ∧ k < 134)) : atI l T X k = 0 := by unfold atI; rw [decide_eq_false h]; rfl
/-- The first n of the 134 blocks, noughts behind them. -/
def partF (l : Lay14) (T : Int → List UInt8) (X : List Int) (n : Nat) : List Int := (List.range 134).map fun j : Nat => if j < n then atF l T X j else 0
theorem partF_len (n : Nat) : (partF l T X n).length = 134 := by unfold partF; rw [List.length_map, List.length_range]
theorem partF_at (n : Nat) {k : Nat} (hk : k < 134) : fld (partF l T X n) k = if k < n then atF l T X k else 0 := by
  unfold fld partF
  rw [List.getD_eq_getElem?_getD, List.getElem?_map, List.getElem?_range hk]
  rfl
theorem ext134 {t u : List Int} (ht : t.length = 134) (hu : u.length = 134) (h : ∀ i, i < 134 → fld t i = fld u i) : t = u := by
  apply List.ext_getElem?
  intro i
  by_cases hi : i < 134
  · rw [fld_get t i (by omega), fld_get u i (by omega), h i hi]
  · rw [List.getElem?_eq_none (by omega), List.getElem?_eq_none (by omega)]
theorem partF_zero : partF l T X 0 = List.replicate 134 0 := by
  refine ext134 (partF_len _) (by rw [List.length_replicate]) fun i hi => ?_
  rw [partF_at 0 hi, if_neg (by omega)]
  unfold fld
  rw [List.getD_eq_getElem?_getD, List.getElem?_replicate, if_pos hi]
  rfl
theorem partF_set {n : Nat} (hn : n < 134) : (partF l T X n).set n (atF l T X n) = partF l T X (n + 1) := by
  refine ext134 (by rw [List.length_set, partF_len]) (partF_len _) fun i hi => ?_
  rw [fldQ_set _ n i _ (by rw [partF_len]; exact hn), partF_at (n + 1) hi]
  by_cases h : i = n
  · rw [if_pos h, if_pos (by omega), h]
  · rw [if_neg h, partF_at n hi]
    by_cases h2 : i < n
    · rw [if_pos h2, if_pos (by omega)]
    · rw [if_neg h2, if_neg (by omega)]
theorem partF_same {n m : Nat} (hnm : n ≤ m) (h : ∀ k, n ≤ k → k < m → atF l T X k = 0) : partF l T X n = partF l T X m := by
  refine ext134 (partF_len _) (partF_len _) fun i hi => ?_
  rw [partF_at n hi, partF_at m hi]
  by_cases h1 : i < n
  · rw [if_pos h1, if_pos (by omega)]
  · rw [if_neg h1]
    by_cases h2 : i < m
    · rw [if_pos h2, h i (by omega) h2]
    · rw [if_neg h2]
theorem partF_kind (h : fld X 0 ≠ 1) : partF l T X 0 = partF l T X 134 := partF_same (by omega) fun k _ _ => atF_kind h k
theorem partF_none (hd : l.isD (fld X 10) = false) : partF l T X 6 = partF l T X 134 := partF_same (by omega) fun k h _ => atF_none hd h
/-- All 134. -/
def allF (l : Lay14) (T : Int → List UInt8) (X : List Int) : List Int := partF l T X 134
theorem allF_len : (allF l T X).length = 134 := partF_len _
theorem allF_at {k : Nat} (hk : k < 134) : fld (allF l T X) k = atF l T X k := by unfold allF; rw [partF_at 134 hk, if_pos hk]
end
/-- Those but 0. -/
def someF (t : List Int) : List Int := t.filter fun x => x != 0
theorem someF_nil : someF [] = [] := rfl
theorem someF_snoc (t : List Int) (x : Int) : someF (t ++ [x]) = if x = 0 then someF t else someF t ++ [x] := by
  unfold someF
  rw [List.filter_append]
  by_cases h : x = 0
  · subst h; rw [if_pos rfl]; simp
  · rw [if_neg h, List.filter_cons_of_pos (by simpa using h), List.filter_nil]
theorem someF_next {t : List Int} {k : Nat} (hk : k < t.length) : someF (t.take (k + 1)) = if fld t k = 0 then someF (t.take k) else someF (t.take k) ++ [fld t k] := by
  have e := fld_get t k hk
  rw [List.getElem?_eq_getElem hk] at e
  rw [List.take_succ_eq_append_getElem hk, someF_snoc, Option.some.inj e]
theorem someF_len (t : List Int) : (someF t).length ≤ t.length := List.length_filter_le _ _
theorem someF_split (t : List Int) (n : Nat) : someF t = someF (t.take n) ++ someF (t.drop n) := by
  unfold someF
  rw [← List.filter_append, List.take_append_drop]
theorem someF_mem {t : List Int} {x : Int} : x ∈ someF t ↔ x ∈ t ∧ x ≠ 0 := by unfold someF; rw [List.mem_filter]; simp
/-- 22.2: is there an index, and which? -/
def isF (l : Lay14) (T : Int → List UInt8) (X : List Int) : Bool := decide (fld X 0 = 2) && (l.isD (fld X 4) && getB (vBk l T (fld X 4)))
def ixD (l : Lay14) (T : Int → List UInt8) (X : List Int) : Int := if decide (fld X 0 = 2) && l.isD (fld X 4) then getD_ (vBk l T (fld X 4)) else 0
def ixT (l : Lay14) (T : Int → List UInt8) (X : List Int) : List Int := if decide (fld X 0 = 2) && l.isD (fld X 4) then getT_ (vBk l T (fld X 4)) else zeroT
section
variable {l : Lay14} {T : Int → List UInt8} {X : List Int}
theorem ixT_len : (ixT l T X).length = 32 := by
  unfold ixT
  split
  · exact getT_len _
  · exact zeroT_len
theorem ix_off (h : fld X 0 ≠ 2 ∨ l.isD (fld X 4) = false) : isF l T X = false ∧ ixD l T X = 0 ∧ ixT l T X = zeroT := by
  have e : (decide (fld X 0 = 2) && l.isD (fld X 4)) = false := by
    rcases h with h | h
    · rw [decide_eq_false h]; rfl
    · rw [h, Bool.and_false]
  unfold isF ixD ixT
  rw [← Bool.and_assoc, e]
  exact ⟨rfl, rfl, rfl⟩
theorem ix_on (h : fld X 0 = 2) (hd : l.isD (fld X 4) = true) : isF l T X = getB (vBk l T (fld X 4)) ∧ ixD l T X = getD_ (vBk l T (fld X 4)) ∧ ixT l T X = getT_ (vBk l T (fld X 4)) := by
  unfold isF ixD ixT
  rw [decide_eq_true h, hd]
  exact ⟨rfl, rfl, rfl⟩
theorem isF_is (h : isF l T X = true) : fld X 0 = 2 ∧ l.isD (fld X 4) = true := by
  unfold isF at h
  rw [Bool.and_eq_true, Bool.and_eq_true, decide_eq_true_eq] at h
  exact ⟨h.1, h.2.1⟩
end
/-- .. its buckets. -/
def dataF (l : Lay14) (t : List Int) : List Int := t.filter fun x => l.isD x
theorem dataF_next {l : Lay14} {t : List Int} {k : Nat} (hk : k < t.length) : dataF l (t.take (k + 1)) = if l.isD (fld t k) = true then dataF l (t.take k) ++ [fld t k] else dataF l (t.take k) := by
  have e := fld_get t k hk
  rw [List.getElem?_eq_getElem hk] at e
  unfold dataF
  rw [List.take_succ_eq_append_getElem hk, List.filter_append, Option.some.inj e]
  cases h : l.isD (fld t k)
  · rw [if_neg (by simp), List.filter_cons_of_neg (by rw [h]; simp)]; simp
  · rw [if_pos rfl, List.filter_cons_of_pos h]; simp
theorem dataF_len (l : Lay14) (t : List Int) : (dataF l t).length ≤ t.length := List.length_filter_le _ _
def bukF (l : Lay14) (T : Int → List UInt8) (X : List Int) : List Int := if isF l T X then dataF l (buckK (ixT l T X) (2 ^ dpN (ixD l T X))) else []
/-- 22.3: what it owns. -/
def indF (l : Lay14) (X : List Int) : List Int := if decide (fld X 0 = 1) && l.isD (fld X 10) then [fld X 10] else []
def ownF (l : Lay14) (T : Int → List UInt8) (X : List Int) : List Int :=
  if fld X 0 = 2 then (if isF l T X then [fld X 4] else []) ++ bukF l T X else someF ((allF l T X).take 6) ++ (indF l X ++ someF ((allF l T X).drop 6))
def beyF (l : Lay14) (T : Int → List UInt8) (X : List Int) (n : Nat) : List Int := ((List.range n).filter fun k : Nat => decide (blocksI (fld X 2) ≤ (k : Int)) && atF l T X k != 0).map fun k : Nat => (k : Int)
section
variable {l : Lay14} {T : Int → List UInt8} {X : List Int}
theorem beyF_next (n : Nat) : beyF l T X (n + 1) = if blocksI (fld X 2) ≤ (n : Int) ∧ atF l T X n ≠ 0 then beyF l T X n ++ [(n : Int)] else beyF l T X n := by
  unfold beyF
  rw [List.range_succ, List.filter_append]
  by_cases h : blocksI (fld X 2) ≤ (n : Int) ∧ atF l T X n ≠ 0
  · rw [if_pos h, List.filter_cons_of_pos (by rw [decide_eq_true h.1]; simpa using h.2), List.filter_nil, List.map_append]; rfl
  · rw [if_neg h, List.filter_cons_of_neg (by
      intro hc
      rw [Bool.and_eq_true, decide_eq_true_eq] at hc
      exact h ⟨hc.1, by simpa using hc.2⟩), List.filter_nil, List.append_nil]
theorem beyF_mem {n : Nat} {x : Int} (h : x ∈ beyF l T X n) : ∃ k : Nat, k < n ∧ x = (k : Int) ∧ atF l T X k ≠ 0 := by
  unfold beyF at h
  obtain ⟨k, hk, rfl⟩ := List.mem_map.1 h
  rw [List.mem_filter, List.mem_range, Bool.and_eq_true] at hk
  exact ⟨k, hk.1, rfl, by simpa using hk.2.2⟩
theorem beyF_len (n : Nat) : (beyF l T X n).length ≤ n := by
  unfold beyF
  rw [List.length_map]
  exact Nat.le_trans (List.length_filter_le _ _) (Nat.le_of_eq (List.length_range))
theorem bukF_len : (bukF l T X).length ≤ 32 := by
  unfold bukF
  split
  · have h1 := dataF_len l (buckK (ixT l T X) (2 ^ dpN (ixD l T X)))
    have h2 := buckK_len (ixT l T X) (2 ^ dpN (ixD l T X))
    have h3 := pow32 (dpN_le (ixD l T X))
    omega
  · simp
theorem ownF_len : (ownF l T X).length ≤ 135 := by
  unfold ownF
  split
  · rw [List.length_append]
    have := @bukF_len l T X
    split <;> simp <;> omega
  · rw [List.length_append, List.length_append]
    have h1 := someF_len ((allF l T X).take 6)
    have h2 := someF_len ((allF l T X).drop 6)
    rw [List.length_take, allF_len] at h1
    rw [List.length_drop, allF_len] at h2
    have h3 : (indF l X).length ≤ 1 := by unfold indF; split <;> simp
    omega
/-! 22.4 -/
theorem all_is {x : Int} (h : x ∈ someF (allF l T X)) : l.isD x = true := by
  obtain ⟨h1, h2⟩ := someF_mem.1 h
  obtain ⟨k, hk, rfl⟩ := List.getElem_of_mem h1
  have hk' : k < 134 := by rw [allF_len] at hk; exact hk
  have e := fld_get (allF l T X) k hk
  rw [List.getElem?_eq_getElem hk, allF_at hk'] at e
  rw [Option.some.inj e] at h2 ⊢
  exact atF_is h2
theorem own_is {x : Int} (h : x ∈ ownF l T X) : l.isD x = true := by
  unfold ownF at h
  split at h
  · rw [List.mem_append] at h
    rcases h with h | h
    · cases hi : isF l T X
      · rw [hi] at h; simp at h
      · rw [hi] at h
        simp at h
        rw [h]
        exact (isF_is hi).2
    · unfold bukF at h
      split at h
      · unfold dataF at h
        rw [List.mem_filter] at h
        exact h.2
      · simp at h
  · rw [List.mem_append, List.mem_append] at h
    rcases h with h | h | h
    · exact all_is (by rw [someF_split _ 6]; exact List.mem_append_left _ h)
    · unfold indF at h
      split at h
      · rename_i hc
        rw [Bool.and_eq_true] at hc
        simp at h
        rw [h]
        exact hc.2
      · simp at h
    · exact all_is (by rw [someF_split _ 6]; exact List.mem_append_right _ h)
theorem all_none (h : fld X 0 ≠ 1) : someF (allF l T X) = [] := by
  have e : allF l T X = partF l T X 0 := (partF_kind h).symm
  rw [e, partF_zero]
  decide
theorem all_own {x : Int} (h : x ∈ someF (allF l T X)) : x ∈ ownF l T X := by
  by_cases hk : fld X 0 = 1
  · unfold ownF
    rw [if_neg (by omega), List.mem_append, List.mem_append]
    rw [someF_split _ 6, List.mem_append] at h
    rcases h with h | h
    · exact Or.inl h
    · exact Or.inr (Or.inr h)
  · rw [all_none hk] at h
    cases h
theorem at_all {k : Nat} (hk : k < 134) (h : atF l T X k ≠ 0) : atF l T X k ∈ someF (allF l T X) := by
  rw [someF_mem]
  refine ⟨?_, h⟩
  have e := fld_get (allF l T X) k (by rw [allF_len]; exact hk)
  rw [allF_at hk] at e
  exact List.mem_of_getElem? e
theorem own_one (h : fld X 0 = 1) : (ownF l T X).length ≤ (someF (allF l T X)).length + 1 := by
  unfold ownF
  rw [if_neg (by omega), someF_split (allF l T X) 6, List.length_append, List.length_append, List.length_append]
  have h3 : (indF l X).length ≤ 1 := by unfold indF; split <;> simp
  omega
theorem bey_none (h : fld X 0 ≠ 1) (n : Nat) : beyF l T X n = [] := by
  have : ∀ x, x ∉ beyF l T X n := fun x hx => by
    obtain ⟨k, _, _, hk⟩ := beyF_mem hx
    exact hk (atF_kind h k)
  exact List.eq_nil_iff_forall_not_mem.2 this
end

end Go.Proofs.YtkakihbfhmiabaaGreat

/-
  A file's numbers as they are told, then those of data blocks alone; what it owns, part by part. Plain; no program is named here.
-/
namespace Go.Proofs.YtkakihbfhmiabaaGreat
open Go.RowKit

theorem ext_fld {n : Nat} {t u : List Int} (ht : t.length = n) (hu : u.length = n) (h : ∀ i, i < n → fld t i = fld u i) : t = u := by
  apply List.ext_getElem?
  intro i
  by_cases hi : i < n
  · rw [fld_get t i (by omega), fld_get u i (by omega), h i hi]
  · rw [List.getElem?_eq_none (by omega), List.getElem?_eq_none (by omega)]
theorem fld_take (l : List Int) (n k : Nat) (h : k < n) : fld (l.take n) k = fld l k := by
  unfold fld
  rw [List.getD_eq_getElem?_getD, List.getD_eq_getElem?_getD, List.getElem?_take_of_lt h]
theorem fld_drop (l : List Int) (n k : Nat) : fld (l.drop n) k = fld l (n + k) := by
  unfold fld
  rw [List.getD_eq_getElem?_getD, List.getD_eq_getElem?_getD, List.getElem?_drop]
theorem fld_map (f : Int → Int) (l : List Int) (k : Nat) (h : k < l.length) : fld (l.map f) k = f (fld l k) := by
  have e := fld_get l k h
  have e2 := fld_get (l.map f) k (by rw [List.length_map]; exact h)
  rw [List.getElem?_map, e] at e2
  exact (Option.some.inj e2).symm
theorem nmQ_zeros (k : Nat) : nmQ (zeros 256) k = 0 := by
  have h : ∀ n, leVal (List.replicate n (0 : UInt8)) = 0 := fun n => by
    induction n with
    | zero => rfl
    | succ n ih => rw [List.replicate_succ, leVal, ih]; rfl
  unfold nmQ leV zeros
  rw [List.drop_replicate, List.take_replicate, h]
  rfl
theorem getQ_zeros (k : Int) : getQ (zeros 256) k = 0 := by
  unfold getQ
  split
  · exact nmQ_zeros _
  · rfl
theorem datF_zero (l : Lay14) : datF l 0 = 0 := by unfold datF; split <;> rfl
theorem getQ_in (b : List UInt8) (k : Int) : 0 ≤ getQ b k ∧ getQ b k ≤ 65535 := by
  unfold getQ
  split
  · exact nmQ_in b _
  · omega

/-- The block that tells more of them; noughts, where there is none. -/
def ptrF (l : Lay14) (T : Int → List UInt8) (X : List Int) : List UInt8 := if l.isD (fld X 10) then vBk l T (fld X 10) else zeros 256
/-- The six that the inode tells. -/
def dirF (X : List Int) : List Int := (X.drop 4).take 6
theorem dirF_len {X : List Int} (h : X.length = 11) : (dirF X).length = 6 := by unfold dirF; rw [List.length_take, List.length_drop, h]; rfl
theorem dirF_at (X : List Int) {k : Nat} (h : k < 6) : fld (dirF X) k = fld X (4 + k) := by unfold dirF; rw [fld_take _ _ _ h, fld_drop]
/-- All 134, of the block's the first n. -/
def rawF (X : List Int) (b : List UInt8) (n : Nat) : List Int := (List.range 134).map fun j : Nat => if j < 6 then fld X (4 + j) else if j < 6 + n then nmQ b (j - 6) else 0
theorem rawF_len (X : List Int) (b : List UInt8) (n : Nat) : (rawF X b n).length = 134 := by unfold rawF; rw [List.length_map, List.length_range]
theorem rawF_at (X : List Int) (b : List UInt8) (n : Nat) {k : Nat} (hk : k < 134) : fld (rawF X b n) k = if k < 6 then fld X (4 + k) else if k < 6 + n then nmQ b (k - 6) else 0 := by
  unfold fld rawF
  rw [List.getD_eq_getElem?_getD, List.getElem?_map, List.getElem?_range hk]
  rfl
theorem fld_zeros (n k : Nat) : fld (List.replicate n (0 : Int)) k = 0 := by
  unfold fld
  rw [List.getD_eq_getElem?_getD, List.getElem?_replicate]
  split <;> rfl
theorem rawF_zero {X : List Int} (hX : X.length = 11) (b : List UInt8) {P : List Int} (hP : P = List.replicate 134 0) : P.take 0 ++ dirF X ++ P.drop (0 + 6) = rawF X b 0 := by
  subst hP
  have hd := dirF_len hX
  refine ext_fld (n := 134) ?_ (rawF_len _ _ _) fun i hi => ?_
  · rw [List.take_zero, List.nil_append, List.length_append, List.length_drop, List.length_replicate, hd]
  · rw [rawF_at _ _ _ hi, List.take_zero, List.nil_append]
    by_cases h : i < 6
    · rw [if_pos h, ← dirF_at X h]
      unfold fld
      rw [List.getD_eq_getElem?_getD, List.getD_eq_getElem?_getD, List.getElem?_append_left (by omega)]
    · rw [if_neg h, if_neg (by omega)]
      have e : fld (dirF X ++ (List.replicate 134 (0 : Int)).drop (0 + 6)) i = fld ((List.replicate 134 (0 : Int)).drop (0 + 6)) (i - 6) := by
        unfold fld
        rw [List.getD_eq_getElem?_getD, List.getD_eq_getElem?_getD, List.getElem?_append_right (by omega), hd]
      rw [e, fld_drop, fld_zeros]
theorem rawF_set (X : List Int) (b : List UInt8) {n : Nat} (hn : n < 128) : (rawF X b n).set (6 + n) (nmQ b n) = rawF X b (n + 1) := by
  refine ext134 (by rw [List.length_set, rawF_len]) (rawF_len _ _ _) fun i hi => ?_
  rw [fldQ_set _ (6 + n) i _ (by rw [rawF_len]; omega), rawF_at _ _ _ hi, rawF_at _ _ _ hi]
  by_cases h : i = 6 + n
  · subst h
    rw [if_pos rfl, if_neg (by omega), if_pos (by omega), show 6 + n - 6 = n from by omega]
  · rw [if_neg h]
    by_cases h6 : i < 6
    · rw [if_pos h6, if_pos h6]
    · rw [if_neg h6, if_neg h6]
      by_cases h2 : i < 6 + n
      · rw [if_pos h2, if_pos (by omega)]
      · rw [if_neg h2, if_neg (by omega)]
/-- .. the first n of them gone through: what is no data block is 0. -/
def mixF (l : Lay14) (r : List Int) (n : Nat) : List Int := (List.range 134).map fun j : Nat => if j < n then datF l (fld r j) else fld r j
theorem mixF_len (l : Lay14) (r : List Int) (n : Nat) : (mixF l r n).length = 134 := by unfold mixF; rw [List.length_map, List.length_range]
theorem mixF_at (l : Lay14) (r : List Int) (n : Nat) {k : Nat} (hk : k < 134) : fld (mixF l r n) k = if k < n then datF l (fld r k) else fld r k := by
  unfold fld mixF
  rw [List.getD_eq_getElem?_getD, List.getElem?_map, List.getElem?_range hk]
  rfl
theorem mixF_zero (l : Lay14) {r : List Int} (hr : r.length = 134) : mixF l r 0 = r := ext134 (mixF_len _ _ _) hr fun i hi => by rw [mixF_at _ _ _ hi, if_neg (by omega)]
theorem mixF_set (l : Lay14) (r : List Int) {n : Nat} (hn : n < 134) : (mixF l r n).set n (datF l (fld r n)) = mixF l r (n + 1) := by
  refine ext134 (by rw [List.length_set, mixF_len]) (mixF_len _ _ _) fun i hi => ?_
  rw [fldQ_set _ n i _ (by rw [mixF_len]; exact hn), mixF_at _ _ _ hi, mixF_at _ _ _ hi]
  by_cases h : i = n
  · subst h
    rw [if_pos rfl, if_pos (by omega)]
  · rw [if_neg h]
    by_cases h2 : i < n
    · rw [if_pos h2, if_pos (by omega)]
    · rw [if_neg h2, if_neg (by omega)]
section
variable {l : Lay14} {T : Int → List UInt8} {X : List Int}
theorem ptrF_len (hT : ∀ no, (T no).length = 256) : (ptrF l T X).length = 256 := by
  unfold ptrF
  split
  · exact vBk_len hT _
  · exact zeros_len _
theorem ptrF_yes (h : l.isD (fld X 10) = true) : ptrF l T X = vBk l T (fld X 10) := by unfold ptrF; rw [h]; rfl
theorem ptrF_no (h : l.isD (fld X 10) = false) : ptrF l T X = zeros 256 := by unfold ptrF; rw [h]; rfl
theorem atF_ptr (h : fld X 0 = 1) (k : Nat) : atF l T X (6 + k) = datF l (nmQ (ptrF l T X) k) := by
  cases hd : l.isD (fld X 10)
  · rw [atF_none hd (by omega), ptrF_no hd, nmQ_zeros, datF_zero]
  · rw [atF_high h hd, ptrF_yes hd]
theorem atI_ptr (h : fld X 0 = 1) {k : Int} (hk : 6 ≤ k) : atI l T X k = datF l (getQ (ptrF l T X) (k - 6)) := by
  by_cases h2 : k < 134
  · obtain ⟨q, rfl⟩ := Int.eq_ofNat_of_zero_le (show 0 ≤ k by omega)
    have := atF_ptr (l := l) (T := T) h (q - 6)
    rw [show 6 + (q - 6) = q from by omega] at this
    rw [atI_nat (by omega), this, show (q : Int) - 6 = ((q - 6 : Nat) : Int) from by omega, getQ_nat _ (by omega)]
  · rw [atI_off (by omega), getQ_no _ (by unfold placeQ; rw [decide_eq_false_iff_not]; omega), datF_zero]
theorem atI_low (h : fld X 0 = 1) {q : Nat} (hq : q < 6) : atI l T X (q : Int) = datF l (fld X (4 + q)) := by rw [atI_nat (by omega)]; exact atF_low h hq
theorem atI_kind (h : fld X 0 ≠ 1) (k : Int) : atI l T X k = 0 := by
  by_cases h2 : 0 ≤ k ∧ k < 134
  · obtain ⟨q, rfl⟩ := Int.eq_ofNat_of_zero_le h2.1
    rw [atI_nat (by omega)]
    exact atF_kind h q
  · exact atI_off h2
theorem mixF_all (h : fld X 0 = 1) : mixF l (rawF X (ptrF l T X) 128) 134 = allF l T X := by
  refine ext134 (mixF_len _ _ _) allF_len fun i hi => ?_
  rw [mixF_at _ _ _ hi, if_pos hi, rawF_at _ _ _ hi, allF_at hi]
  by_cases h6 : i < 6
  · rw [if_pos h6, atF_low h h6]
  · have := atF_ptr (l := l) (T := T) h (i - 6)
    rw [show 6 + (i - 6) = i from by omega] at this
    rw [if_neg h6, if_pos (by omega), this]
theorem allF_zero (h : fld X 0 ≠ 1) : allF l T X = List.replicate 134 0 := by
  have e : allF l T X = partF l T X 0 := (partF_kind h).symm
  rw [e, partF_zero]
end
/-! What is owned -/
theorem some_dat (l : Lay14) (t : List Int) : someF (t.map (datF l)) = dataF l t := by
  unfold someF dataF
  induction t with
  | nil => rfl
  | cons x t ih =>
    rw [List.map_cons]
    cases hd : l.isD x
    · rw [datF_no hd, List.filter_cons_of_neg (by simp), List.filter_cons_of_neg (by simp [hd]), ih]
    · rw [datF_yes hd, List.filter_cons_of_pos (by simpa using (isD_pos hd).1), List.filter_cons_of_pos hd, ih]
theorem data_some (l : Lay14) (t : List Int) : dataF l (someF t) = dataF l t := by
  unfold someF dataF
  rw [List.filter_filter]
  refine List.filter_congr fun x _ => ?_
  cases hd : l.isD x
  · rfl
  · have := (isD_pos hd).1
    simp [this]
theorem lis_some (b : List UInt8) : ∀ n, lisQ b n = someF ((List.range n).map (nmQ b))
  | 0 => rfl
  | n + 1 => by
    rw [List.range_succ, List.map_append, List.map_cons, List.map_nil, someF_snoc, ← lis_some b n]
    rfl
section
variable {l : Lay14} {T : Int → List UInt8} {X : List Int}
theorem all_dir (h : fld X 0 = 1) (hX : X.length = 11) : (allF l T X).take 6 = (dirF X).map (datF l) := by
  have hd := dirF_len hX
  refine ext_fld (n := 6) (by rw [List.length_take, allF_len]; rfl) (by rw [List.length_map, hd]) fun i hi => ?_
  rw [fld_take _ _ _ hi, fld_map _ _ _ (by omega), dirF_at X hi, allF_at (by omega), atF_low h hi]
theorem all_ptr (h : fld X 0 = 1) : (allF l T X).drop 6 = (numsQ (ptrF l T X)).map (datF l) := by
  refine ext_fld (n := 128) (by rw [List.length_drop, allF_len]) (by rw [List.length_map, numsQ_len]) fun i hi => ?_
  rw [fld_drop, fld_map _ _ _ (by rw [numsQ_len]; exact hi), numsQ_at _ hi, allF_at (by omega), atF_ptr h]
theorem data_zeros (l : Lay14) : dataF l (numsQ (zeros 256)) = [] := by
  rw [← data_some]
  have e : someF (numsQ (zeros 256)) = [] := by
    unfold someF
    rw [List.filter_eq_nil_iff]
    intro x hx
    unfold numsQ at hx
    obtain ⟨k, _, rfl⟩ := List.mem_map.1 hx
    rw [nmQ_zeros]
    decide
  rw [e]
  rfl
/-- .. of a file. -/
theorem own_file (h : fld X 0 = 1) (hX : X.length = 11) : ownF l T X = if l.isD (fld X 10) then (dataF l (dirF X) ++ [fld X 10]) ++ dataF l (lisQ (vBk l T (fld X 10)) 128) else dataF l (dirF X) := by
  unfold ownF
  rw [if_neg (by omega), all_dir h hX, all_ptr h, some_dat, some_dat]
  unfold indF
  rw [decide_eq_true h, Bool.true_and]
  cases hd : l.isD (fld X 10)
  · rw [ptrF_no hd, data_zeros]
    simp
  · rw [ptrF_yes hd, lis_some, data_some, if_pos rfl, if_pos rfl, ← List.append_assoc]
    rfl
theorem own_dir (h : fld X 0 = 2) : ownF l T X = if isF l T X then [fld X 4] ++ bukF l T X else [] := by
  unfold ownF
  rw [if_pos h]
  cases hi : isF l T X
  · unfold bukF
    rw [hi]
    rfl
  · rfl
theorem own_other (h1 : fld X 0 ≠ 1) (h2 : fld X 0 ≠ 2) : ownF l T X = [] := by
  have hz := all_none (l := l) (T := T) h1
  rw [someF_split _ 6, List.append_eq_nil_iff] at hz
  unfold ownF indF
  rw [if_neg h2, hz.1, hz.2, decide_eq_false h1]
  rfl
end

end Go.Proofs.YtkakihbfhmiabaaGreat
