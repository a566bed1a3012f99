/-
  A view: a layout and what its function tells; what is read of it, and that for blocks this is what they are. Plain; no program is named here.
-/
import Derived.Test.YtpdeohmgjblkeaaViewA
namespace Go.Proofs.Ytpdeohmgjblkeaa
open Go.RowKit

/-- 21.2: a block of a view. -/
def vBk (l : Lay14) (T : Int → List UInt8) (no : Int) : List UInt8 := if decide (0 ≤ no ∧ no < l.blocks) then T no else zeros 256
theorem vBk_on {l : Lay14} (T : Int → List UInt8) {no : Int} (h : 0 ≤ no ∧ no < l.blocks) : vBk l T no = T no := by unfold vBk; rw [decide_eq_true h]; rfl
theorem vBk_off {l : Lay14} (T : Int → List UInt8) {no : Int} (h : ¬ (0 ≤ no ∧ no < l.blocks)) : vBk l T no = zeros 256 := by unfold vBk; rw [decide_eq_false h]; rfl
theorem vBk_len {l : Lay14} {T : Int → List UInt8} (hT : ∀ no, (T no).length = 256) (no : Int) : (vBk l T no).length = 256 := by
  unfold vBk
  split
  · exact hT no
  · exact zeros_len _
/-- 21.3: an inode of a view. -/
def vIno (l : Lay14) (T : Int → List UInt8) (i : Int) : List Int := if l.isI i then getTV (vBk l T (l.wb i)) (l.wk i) else freeI
theorem vIno_len (l : Lay14) (T : Int → List UInt8) (i : Int) : (vIno l T i).length = 11 := by
  unfold vIno
  split
  · exact getTV_len _ _
  · rfl
theorem vIno_on {l : Lay14} (T : Int → List UInt8) {i : Int} (h : l.isI i = true) : vIno l T i = getTV (vBk l T (l.wb i)) (l.wk i) := by unfold vIno; rw [h]; rfl
theorem vIno_off {l : Lay14} (T : Int → List UInt8) {i : Int} (h : l.isI i = false) : vIno l T i = freeI := by unfold vIno; rw [h]; rfl
/-- .. those there are, of the first n. -/
def vAll (l : Lay14) (T : Int → List UInt8) : Nat → List Int
  | 0 => []
  | n + 1 => if fld (vIno l T ((n : Int) + 1)) 0 = 0 then vAll l T n else vAll l T n ++ [(n : Int) + 1]
theorem vAll_no {l : Lay14} {T : Int → List UInt8} {n : Nat} (h : fld (vIno l T ((n : Int) + 1)) 0 = 0) : vAll l T (n + 1) = vAll l T n := if_pos h
theorem vAll_yes {l : Lay14} {T : Int → List UInt8} {n : Nat} (h : fld (vIno l T ((n : Int) + 1)) 0 ≠ 0) : vAll l T (n + 1) = vAll l T n ++ [(n : Int) + 1] := if_neg h
theorem vAll_len (l : Lay14) (T : Int → List UInt8) (n : Nat) : (vAll l T n).length ≤ n := by
  induction n with
  | zero => exact Nat.le_refl _
  | succ n ih =>
    by_cases h : fld (vIno l T ((n : Int) + 1)) 0 = 0
    · rw [vAll_no h]; omega
    · rw [vAll_yes h, List.length_append]
      simp
      omega
/-- How many inodes, how many blocks there may be. -/
def vIn (l : Lay14) : Nat := if l.may then l.inodes.toNat else 0
def vBn (l : Lay14) : Nat := if l.may then l.blocks.toNat else 0
theorem vIn_on {l : Lay14} (h : l.may = true) : vIn l = l.inodes.toNat := by unfold vIn; rw [h]; rfl
theorem vIn_off {l : Lay14} (h : l.may = false) : vIn l = 0 := by unfold vIn; rw [h]; rfl
theorem vBn_on {l : Lay14} (h : l.may = true) : vBn l = l.blocks.toNat := by unfold vBn; rw [h]; rfl
theorem vBn_off {l : Lay14} (h : l.may = false) : vBn l = 0 := by unfold vBn; rw [h]; rfl
theorem vIn_le (l : Lay14) : vIn l ≤ 128 := by
  cases h : l.may
  · rw [vIn_off h]; omega
  · rw [vIn_on h]
    have := Lay14.may_iff.1 h
    omega
theorem vBn_le (l : Lay14) : vBn l ≤ 512 := by
  cases h : l.may
  · rw [vBn_off h]; omega
  · rw [vBn_on h]
    have := Lay14.may_iff.1 h
    omega
/-- Is a block used? -/
def vUse (l : Lay14) (T : Int → List UInt8) (no : Int) : Bool := l.may && (decide (0 ≤ no ∧ no < l.blocks) && hasB (vBk l T 1) no)
theorem vUse_off {l : Lay14} (T : Int → List UInt8) {no : Int} (h : l.may = false ∨ ¬ (0 ≤ no ∧ no < l.blocks)) : vUse l T no = false := by
  unfold vUse
  rcases h with h | h
  · rw [h]; rfl
  · rw [decide_eq_false h, Bool.false_and, Bool.and_false]
theorem vUse_on {l : Lay14} (T : Int → List UInt8) {no : Int} (h : l.may = true) (h' : 0 ≤ no ∧ no < l.blocks) : vUse l T no = hasB (vBk l T 1) no := by
  unfold vUse
  rw [h, decide_eq_true h']
  rfl
/-- The image. -/
def vImg (l : Lay14) (T : Int → List UInt8) (n : Nat) : List (List UInt8) := (List.range n).map fun k : Nat => vBk l T (k : Int)
theorem vImg_len (l : Lay14) (T : Int → List UInt8) (n : Nat) : (vImg l T n).length = n := by unfold vImg; rw [List.length_map, List.length_range]
theorem vImg_next (l : Lay14) (T : Int → List UInt8) (n : Nat) : vImg l T (n + 1) = vImg l T n ++ [vBk l T (n : Int)] := by unfold vImg; rw [List.range_succ, List.map_append]; rfl
theorem vImg_bks {l : Lay14} {T : Int → List UInt8} (hT : ∀ no, (T no).length = 256) (n : Nat) : Bks (vImg l T n) := fun x hx => by
  obtain ⟨k, _, rfl⟩ := List.mem_map.1 hx
  exact vBk_len hT _

/-! ### The view of blocks -/
section
variable {L : List (List UInt8)} {l : Lay14}
theorem vBk_is (h : layW L = some l) (no : Int) : vBk l (bkV L) no = bkV L no := by
  have hb := (layW_is h).2.2
  by_cases hn : 0 ≤ no ∧ no < l.blocks
  · exact vBk_on _ hn
  · rw [vBk_off _ hn, bkV_off (by omega)]
theorem wb_in (hm : l.may = true) {i : Int} (hi : l.isI i = true) : 0 ≤ l.wb i ∧ l.wb i < l.blocks := by
  have ho := Lay14.on hm
  have he : l.wb i = 2 + (i - 1) / 8 := by unfold Lay14.wb; rw [if_pos hi]
  unfold Lay14.isI at hi
  rw [Bool.and_eq_true, decide_eq_true_eq] at hi
  rw [he]
  omega
theorem vIno_is (h : layW L = some l) (i : Int) : vIno l (bkV L) i = inoW L l i := by
  cases hi : l.isI i
  · rw [vIno_off _ hi, inoW_off hi]
  · have hw := wb_in (layW_may h) hi
    have hb := (layW_is h).2.2
    rw [vIno_on _ hi, inoW_on hi (by omega), vBk_is h]
theorem vAll_is (h : layW L = some l) (n : Nat) : vAll l (bkV L) n = allW L l n := by
  induction n with
  | zero => rfl
  | succ n ih => unfold vAll allW; rw [vIno_is h, ih]
theorem vUse_is (h : layW L = some l) (no : Int) : vUse l (bkV L) no = usedW L no := by
  have hb := (layW_is h).2.2
  unfold vUse usedW
  rw [layW_may h, vBk_is h, hb, Bool.true_and]
theorem vBn_is (h : layW L = some l) : vBn l = L.length := by
  rw [vBn_on (layW_may h), (layW_is h).2.2, Int.toNat_natCast]
theorem vImg_is (h : layW L = some l) : vImg l (bkV L) (vBn l) = L := by
  rw [vBn_is h]
  apply List.ext_getElem?
  intro k
  unfold vImg
  rw [List.getElem?_map]
  by_cases hk : k < L.length
  · rw [List.getElem?_range hk, List.getElem?_eq_getElem hk]
    show some (vBk l (bkV L) (k : Int)) = _
    rw [vBk_is h, bkV_at hk]
  · rw [List.getElem?_eq_none (by rw [List.length_range]; omega), List.getElem?_eq_none (by omega)]
    rfl
end

end Go.Proofs.Ytpdeohmgjblkeaa
