/-
  Where a device's things stand, by its layout, in plain numbers. No program is named here.
-/
import Derived.Test.YtpdeohmgjblkeaaLayV
namespace Go.Proofs.Ytpdeohmgjblkeaa

/-- The first block that has inodes. -/
def Lay14.tf (l : Lay14) : Int := if l.may then 2 else 0
/-- How many such there are. -/
def Lay14.tn (l : Lay14) : Int := if l.may then l.inodes / 8 else 0
/-- The first data block. -/
def Lay14.data (l : Lay14) : Int := l.tf + l.tn
/-- How many data blocks there are. -/
def Lay14.many (l : Lay14) : Int := if l.may then l.blocks - l.data else 0
/-- Is it a data block? -/
def Lay14.isD (l : Lay14) (no : Int) : Bool := l.may && decide (l.data ≤ no ∧ no < l.blocks)
/-- Is there this inode? -/
def Lay14.isI (l : Lay14) (i : Int) : Bool := l.may && decide (1 ≤ i ∧ i ≤ l.inodes)
/-- The block that has it, and its place there. -/
def Lay14.wb (l : Lay14) (i : Int) : Int := if l.isI i then 2 + (i - 1) / 8 else 0
def Lay14.wk (l : Lay14) (i : Int) : Int := if l.isI i then (i - 1) % 8 else 0
/-- Does an inode stand there, and which one? -/
def Lay14.has (l : Lay14) (b k : Int) : Bool := decide (2 ≤ b ∧ b < l.data ∧ 0 ≤ k ∧ k < 8)
def Lay14.ino (l : Lay14) (b k : Int) : Int := if l.has b k then (b - 2) * 8 + k + 1 else 0
/-- Of which area a block is. -/
def Lay14.area (l : Lay14) (no : Int) : Int := if l.may = true ∧ 0 ≤ no ∧ no < l.blocks then (if no < 2 then no + 1 else if no < l.data then 3 else 4) else 0

section
variable {l : Lay14}
theorem Lay14.on (h : l.may = true) : l.tf = 2 ∧ l.tn = l.inodes / 8 ∧ l.inodes = 8 * l.tn ∧ 1 ≤ l.tn ∧ l.tn ≤ 16 ∧ l.data = 2 + l.tn ∧ l.data < l.blocks ∧ 16 ≤ l.blocks ∧ l.blocks ≤ 512 ∧ l.many = l.blocks - l.data := by
  have hh := Lay14.may_iff.1 h
  have h1 : l.tf = 2 := by unfold Lay14.tf; rw [if_pos h]
  have h2 : l.tn = l.inodes / 8 := by unfold Lay14.tn; rw [if_pos h]
  have h3 : l.data = 2 + l.tn := by unfold Lay14.data; rw [h1]
  have h4 : l.many = l.blocks - l.data := by unfold Lay14.many; rw [if_pos h]
  omega
theorem Lay14.off (h : l.may = false) : l.tf = 0 ∧ l.tn = 0 ∧ l.data = 0 ∧ l.many = 0 := by
  have h1 : l.tf = 0 := by unfold Lay14.tf; rw [if_neg (by simp [h])]
  have h2 : l.tn = 0 := by unfold Lay14.tn; rw [if_neg (by simp [h])]
  refine ⟨h1, h2, by unfold Lay14.data; rw [h1, h2]; rfl, by unfold Lay14.many; rw [if_neg (by simp [h])]⟩
theorem Lay14.bounds (l : Lay14) : 0 ≤ l.tf ∧ l.tf ≤ 2 ∧ 0 ≤ l.tn ∧ l.tn ≤ 16 ∧ 0 ≤ l.data ∧ l.data ≤ 18 := by
  cases h : l.may
  · have := Lay14.off h; omega
  · have := Lay14.on h; omega
theorem Lay14.isD_on (h : l.may = true) (no : Int) : l.isD no = decide (l.data ≤ no ∧ no < l.blocks) := by unfold Lay14.isD; rw [h]; rfl
theorem Lay14.isD_off (h : l.may = false) (no : Int) : l.isD no = false := by unfold Lay14.isD; rw [h]; rfl
theorem Lay14.isI_on (h : l.may = true) (i : Int) : l.isI i = decide (1 ≤ i ∧ i ≤ l.inodes) := by unfold Lay14.isI; rw [h]; rfl
theorem Lay14.isI_off (h : l.may = false) (i : Int) : l.isI i = false := by unfold Lay14.isI; rw [h]; rfl
theorem Lay14.area_off (h : l.may = false) (no : Int) : l.area no = 0 := by unfold Lay14.area; rw [if_neg (by simp [h])]
theorem Lay14.area_out (no : Int) (h : no < 0 ∨ l.blocks ≤ no) : l.area no = 0 := by unfold Lay14.area; rw [if_neg (by omega)]
theorem Lay14.area_low (h : l.may = true) (no : Int) (h0 : 0 ≤ no) (h2 : no < 2) : l.area no = no + 1 := by
  have := Lay14.on h
  unfold Lay14.area; rw [if_pos ⟨h, h0, by omega⟩, if_pos h2]
theorem Lay14.area_ino (h : l.may = true) (no : Int) (h2 : 2 ≤ no) (h3 : no < l.data) : l.area no = 3 := by
  have := Lay14.on h
  unfold Lay14.area; rw [if_pos ⟨h, by omega, by omega⟩, if_neg (by omega), if_pos h3]
theorem Lay14.area_data (h : l.may = true) (no : Int) (h2 : l.data ≤ no) (h3 : no < l.blocks) : l.area no = 4 := by
  have := Lay14.on h
  unfold Lay14.area; rw [if_pos ⟨h, by omega, by omega⟩, if_neg (by omega), if_neg (by omega)]
/-- An area is what lies between two blocks. -/
theorem Lay14.area3_iff (h : l.may = true) (no : Int) : l.area no = 3 ↔ 2 ≤ no ∧ no < l.data := by
  have := Lay14.on h
  constructor
  · intro e
    unfold Lay14.area at e
    split at e
    · split at e
      · omega
      · split at e <;> omega
    · omega
  · exact fun ⟨h1, h2⟩ => Lay14.area_ino h no h1 h2
theorem Lay14.area4_iff (h : l.may = true) (no : Int) : l.area no = 4 ↔ l.data ≤ no ∧ no < l.blocks := by
  have := Lay14.on h
  constructor
  · intro e
    unfold Lay14.area at e
    split at e
    · split at e
      · omega
      · split at e <;> omega
    · omega
  · exact fun ⟨h1, h2⟩ => Lay14.area_data h no h1 h2
/-- 15.2: IsData is of the areas. -/
theorem Lay14.isD_area (no : Int) : l.isD no = decide (l.area no = 4) := by
  cases h : l.may
  · rw [Lay14.isD_off h, Lay14.area_off h]; rfl
  · rw [Lay14.isD_on h]
    exact decide_eq_decide.2 (Lay14.area4_iff h no).symm
theorem Lay14.has_area (b k : Int) : l.has b k = true ↔ l.area b = 3 ∧ 0 ≤ k ∧ k < 8 := by
  unfold Lay14.has
  rw [decide_eq_true_eq]
  cases h : l.may
  · have := Lay14.off h
    rw [Lay14.area_off h]
    omega
  · rw [Lay14.area3_iff h]
    omega
/-- 15.3: where an inode stands. -/
theorem Lay14.where_on {i : Int} (h : l.isI i = true) : l.may = true ∧ 1 ≤ i ∧ i ≤ l.inodes ∧ l.wb i = 2 + (i - 1) / 8 ∧ l.wk i = (i - 1) % 8 ∧ l.has (l.wb i) (l.wk i) = true ∧ l.ino (l.wb i) (l.wk i) = i := by
  have hm : l.may = true ∧ 1 ≤ i ∧ i ≤ l.inodes := by
    unfold Lay14.isI at h
    rw [Bool.and_eq_true, decide_eq_true_eq] at h
    exact h
  have ho := Lay14.on hm.1
  have hb : l.wb i = 2 + (i - 1) / 8 := by unfold Lay14.wb; rw [if_pos h]
  have hk : l.wk i = (i - 1) % 8 := by unfold Lay14.wk; rw [if_pos h]
  have hh : l.has (l.wb i) (l.wk i) = true := by
    unfold Lay14.has
    rw [decide_eq_true_eq, hb, hk]
    omega
  refine ⟨hm.1, hm.2.1, hm.2.2, hb, hk, hh, ?_⟩
  unfold Lay14.ino
  rw [if_pos hh, hb, hk]
  omega
theorem Lay14.where_off {i : Int} (h : l.isI i = false) : l.wb i = 0 ∧ l.wk i = 0 := by
  unfold Lay14.wb Lay14.wk
  rw [if_neg (by simp [h]), if_neg (by simp [h])]
  exact ⟨rfl, rfl⟩
end

/-- How many of the blocks from k on lie in lo .. hi, and the first one of them. -/
def cntF (lo hi k : Nat) : Nat := hi - (if k < lo then lo else k)
def fstF (lo hi k : Nat) : Nat := if cntF lo hi k = 0 then 0 else (if k < lo then lo else k)
theorem cntF_in {lo hi k : Nat} (h1 : lo ≤ k) (h2 : k < hi) : cntF lo hi k = cntF lo hi (k + 1) + 1 ∧ fstF lo hi k = k := by
  have e : cntF lo hi k = hi - k := by unfold cntF; rw [if_neg (by omega)]
  have e' : cntF lo hi (k + 1) = hi - (k + 1) := by unfold cntF; rw [if_neg (by omega)]
  refine ⟨by omega, ?_⟩
  unfold fstF
  rw [if_neg (by omega), if_neg (by omega)]
theorem cntF_out {lo hi k : Nat} (h : k < lo ∨ hi ≤ k) : cntF lo hi k = cntF lo hi (k + 1) ∧ fstF lo hi k = fstF lo hi (k + 1) := by
  by_cases hk : k < lo
  · have e : cntF lo hi k = hi - lo := by unfold cntF; rw [if_pos hk]
    have e' : cntF lo hi (k + 1) = hi - lo := by unfold cntF; split <;> omega
    refine ⟨by omega, ?_⟩
    unfold fstF
    rw [e, e', if_pos hk]
    split
    · rfl
    · split <;> omega
  · have e : cntF lo hi k = 0 := by unfold cntF; rw [if_neg hk]; omega
    have e' : cntF lo hi (k + 1) = 0 := by unfold cntF; split <;> omega
    refine ⟨by omega, ?_⟩
    unfold fstF
    rw [if_pos e, if_pos e']
theorem cntF_end {lo hi k : Nat} (h : hi ≤ k) : cntF lo hi k = 0 ∧ fstF lo hi k = 0 := by
  have e : cntF lo hi k = 0 := by unfold cntF; split <;> omega
  exact ⟨e, by unfold fstF; rw [if_pos e]⟩
theorem cntF_zero (lo hi : Nat) : cntF lo hi 0 = hi - lo := by unfold cntF; split <;> omega
theorem fstF_zero {lo hi : Nat} (h : lo < hi) : fstF lo hi 0 = lo := by
  unfold fstF
  rw [cntF_zero, if_neg (by omega)]
  split <;> omega

/-- The numbers below n. -/
def upN (n : Nat) : List Int := (List.range n).map (fun (k : Nat) => (k : Int))
theorem upN_len (n : Nat) : (upN n).length = n := by simp [upN]
theorem upN_succ (n : Nat) : upN (n + 1) = upN n ++ [(n : Int)] := by simp [upN, List.range_succ]
theorem upN_get (n k : Nat) (h : k < (upN n).length) : (upN n)[k] = (k : Int) := by simp [upN]

end Go.Proofs.Ytpdeohmgjblkeaa
