/-
  A device as it is read from its blocks: its layout, its inodes, its used blocks. Plain; no program is named here.
-/
import Derived.Test.YtpdeohmgjblkeaaSuperC
import Derived.Test.YtpdeohmgjblkeaaGeomA
import Derived.Test.YtpdeohmgjblkeaaTabA
import Derived.Test.YtpdeohmgjblkeaaChartA
import Derived.Test.YtpdeohmgjblkeaaGrB
namespace Go.Proofs.Ytpdeohmgjblkeaa
open Go.RowKit

/-- The block of a number, noughts where there is none. -/
def bkV (L : List (List UInt8)) (no : Int) : List UInt8 := if decide (0 ≤ no) then L.getD no.toNat (zeros 256) else zeros 256
theorem bkV_len {L : List (List UInt8)} (hL : Bks L) (no : Int) : (bkV L no).length = 256 := by
  unfold bkV
  split
  · rw [List.getD_eq_getElem?_getD]
    by_cases h : no.toNat < L.length
    · rw [List.getElem?_eq_getElem h]
      exact hL.get h
    · rw [List.getElem?_eq_none (by omega)]
      exact zeros_len _
  · exact zeros_len _
theorem bkV_at {L : List (List UInt8)} {k : Nat} (hk : k < L.length) : bkV L (k : Int) = L[k] := by
  unfold bkV
  rw [decide_eq_true (show (0 : Int) ≤ (k : Int) by omega), if_pos rfl, Int.toNat_natCast, List.getD_eq_getElem?_getD, List.getElem?_eq_getElem hk]
  rfl
theorem bkV_off {L : List (List UInt8)} {no : Int} (h : no < 0 ∨ (L.length : Int) ≤ no) : bkV L no = zeros 256 := by
  unfold bkV
  by_cases h0 : 0 ≤ no
  · rw [if_pos (by simpa using h0), List.getD_eq_getElem?_getD, List.getElem?_eq_none (by omega)]
    rfl
  · rw [if_neg (by simpa using h0)]
/-- 21.1: the layout of blocks, if they are a device. -/
def layW (L : List (List UInt8)) : Option Lay14 := if L.length = 0 then none else match get14 (bkV L 0) with
  | some l => if l.blocks = (L.length : Int) then some l else none
  | none => none
theorem layW_nil {L : List (List UInt8)} (h : L.length = 0) : layW L = none := by unfold layW; rw [if_pos h]
theorem layW_none {L : List (List UInt8)} (h0 : get14 (bkV L 0) = none) : layW L = none := by
  unfold layW
  rw [h0]
  split <;> rfl
theorem layW_other {L : List (List UInt8)} {l : Lay14} (h0 : get14 (bkV L 0) = some l) (h : l.blocks ≠ (L.length : Int)) : layW L = none := by
  unfold layW
  rw [h0]
  simp only [if_neg h]
  split <;> rfl
theorem layW_some {L : List (List UInt8)} {l : Lay14} (hL : L.length ≠ 0) (h0 : get14 (bkV L 0) = some l) (h : l.blocks = (L.length : Int)) : layW L = some l := by
  unfold layW
  rw [if_neg hL, h0]
  simp only [if_pos h]
theorem layW_is {L : List (List UInt8)} {l : Lay14} (h : layW L = some l) : L.length ≠ 0 ∧ get14 (bkV L 0) = some l ∧ l.blocks = (L.length : Int) := by
  by_cases h0 : L.length = 0
  · rw [layW_nil h0] at h; cases h
  · cases hg : get14 (bkV L 0) with
    | none => rw [layW_none hg] at h; cases h
    | some m =>
      by_cases hb : m.blocks = (L.length : Int)
      · rw [layW_some h0 hg hb] at h
        injection h with h
        subst h
        exact ⟨h0, rfl, hb⟩
      · rw [layW_other hg hb] at h; cases h
theorem get14_may {b : List UInt8} {l : Lay14} (h : get14 b = some l) : l.may = true ∧ l = seen14 b := by
  unfold get14 at h
  split at h
  · rename_i hh
    injection h with h
    subst h
    exact ⟨hh.1, rfl⟩
  · cases h
theorem layW_may {L : List (List UInt8)} {l : Lay14} (h : layW L = some l) : l.may = true := (get14_may (layW_is h).2.1).1
/-- .. as a value. -/
def layV (L : List (List UInt8)) : Lay14 := (layW L).getD ⟨0, 0, 0⟩
theorem layV_none {L : List (List UInt8)} (h : layW L = none) : layV L = ⟨0, 0, 0⟩ := by unfold layV; rw [h]; rfl
theorem layV_some {L : List (List UInt8)} {l : Lay14} (h : layW L = some l) : layV L = l := by unfold layV; rw [h]; rfl
/-- 21.3: an inode of blocks with this layout. -/
def inoW (L : List (List UInt8)) (l : Lay14) (i : Int) : List Int := if l.isI i && decide (l.wb i < (L.length : Int)) then getTV (bkV L (l.wb i)) (l.wk i) else freeI
theorem inoW_len (L : List (List UInt8)) (l : Lay14) (i : Int) : (inoW L l i).length = 11 := by
  unfold inoW
  split
  · exact getTV_len _ _
  · rfl
theorem inoW_off {L : List (List UInt8)} {l : Lay14} {i : Int} (h : l.isI i = false) : inoW L l i = freeI := by unfold inoW; rw [h]; rfl
theorem inoW_far {L : List (List UInt8)} {l : Lay14} {i : Int} (h : (L.length : Int) ≤ l.wb i) : inoW L l i = freeI := by
  unfold inoW
  rw [decide_eq_false (by omega), Bool.and_false]
  rfl
theorem inoW_on {L : List (List UInt8)} {l : Lay14} {i : Int} (h : l.isI i = true) (hw : l.wb i < (L.length : Int)) : inoW L l i = getTV (bkV L (l.wb i)) (l.wk i) := by
  unfold inoW
  rw [h, decide_eq_true hw]
  rfl
/-- .. those there are, of the first n. -/
def allW (L : List (List UInt8)) (l : Lay14) : Nat → List Int
  | 0 => []
  | n + 1 => if fld (inoW L l ((n : Int) + 1)) 0 = 0 then allW L l n else allW L l n ++ [(n : Int) + 1]
theorem allW_no {L : List (List UInt8)} {l : Lay14} {n : Nat} (h : fld (inoW L l ((n : Int) + 1)) 0 = 0) : allW L l (n + 1) = allW L l n := if_pos h
theorem allW_yes {L : List (List UInt8)} {l : Lay14} {n : Nat} (h : fld (inoW L l ((n : Int) + 1)) 0 ≠ 0) : allW L l (n + 1) = allW L l n ++ [(n : Int) + 1] := if_neg h
theorem allW_len (L : List (List UInt8)) (l : Lay14) (n : Nat) : (allW L l n).length ≤ n := by
  induction n with
  | zero => exact Nat.le_refl _
  | succ n ih =>
    by_cases h : fld (inoW L l ((n : Int) + 1)) 0 = 0
    · rw [allW_no h]; omega
    · rw [allW_yes h, List.length_append]
      simp
      omega
/-- Is a block's bit set? -/
def usedW (L : List (List UInt8)) (no : Int) : Bool := decide (0 ≤ no ∧ no < (L.length : Int)) && hasB (bkV L 1) no
theorem usedW_off {L : List (List UInt8)} {no : Int} (h : no < 0 ∨ (L.length : Int) ≤ no) : usedW L no = false := by
  unfold usedW
  rw [decide_eq_false (by omega)]
  rfl
theorem usedW_on {L : List (List UInt8)} {no : Int} (h : 0 ≤ no ∧ no < (L.length : Int)) : usedW L no = hasB (bkV L 1) no := by
  unfold usedW
  rw [decide_eq_true h]
  rfl

end Go.Proofs.Ytpdeohmgjblkeaa
