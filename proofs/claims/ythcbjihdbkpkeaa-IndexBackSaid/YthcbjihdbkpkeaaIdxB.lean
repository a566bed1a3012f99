/-
  What is fixed is right; what is right and doubled, or parted, is right; an index as bytes, and back. Plain; no program is named here.
-/
import Derived.Test.YthcbjihdbkpkeaaIdxA
namespace Go.Proofs.Ythcbjihdbkpkeaa
open Go.RowKit

/-! 19.6 -/
/-- In a right index each block but 0 has a class. -/
theorem right_whole {D : Nat} {t : List Int} (h5 : D ≤ 5) (h : xfixT D t = t) {p : Nat} (hp : p < 2 ^ D) (h0 : fld t p ≠ 0) : shortB (fld t p) = true ∧ wholeB D t p = true := by
  have h32 := pow32 h5
  have hat : ∀ i, i < 2 ^ D → (if keepB D t i then fld t i else 0) = fld t i := fun i hi => by
    have := xfixT_at D t i (by omega)
    rw [h, if_pos hi] at this
    exact this.symm
  have hk : ∀ i, i < 2 ^ D → fld t i ≠ 0 → keepB D t i = true := fun i hi hne => by
    have := hat i hi
    cases hb : keepB D t i
    · rw [hb] at this
      exact absurd this.symm hne
    · rfl
  have hkp := hk p hp h0
  unfold keepB at hkp
  rw [Bool.and_eq_true, Bool.or_eq_true] at hkp
  refine ⟨hkp.1, ?_⟩
  rcases hkp.2 with hf | hw
  · cases hw : wholeB D t p
    · -- then it stands alone: a class of all bits
      have hal : ∀ i, i < 2 ^ D → fld t i = fld t p → i = p := fun i hi e => by
        have hki := hk i hi (by rw [e]; exact h0)
        unfold keepB at hki
        rw [wholeB_same hp hi e, hw, Bool.or_false, Bool.and_eq_true] at hki
        rcases Nat.lt_trichotomy i p with hlt | heq | hgt
        · exact absurd e (firstB_iff.1 hf i hlt)
        · exact heq
        · exact absurd e.symm (firstB_iff.1 hki.2 p hgt)
      have : wholeB D t p = true := wholeB_iff.2 ⟨D, Nat.le_refl _, fun i hi => by
        rw [isB_top hi hp]
        exact ⟨hal i hi, fun e => by rw [e]⟩⟩
      rw [hw] at this
      exact this
    · rfl
  · exact hw
/-- .. and the other way round. -/
theorem xright_of {D : Nat} {t : List Int} (ht : t.length = 32) (hz : ∀ i, i < 32 → 2 ^ D ≤ i → fld t i = 0) (hw : ∀ i, i < 2 ^ D → fld t i ≠ 0 → shortB (fld t i) = true ∧ wholeB D t i = true) : xfixT D t = t := by
  refine ext32 (xfixT_len _ _) ht fun i hi => ?_
  rw [xfixT_at D t i hi]
  by_cases h : i < 2 ^ D
  · rw [if_pos h]
    by_cases h0 : fld t i = 0
    · rw [h0]; simp
    · have := hw i h h0
      unfold keepB
      rw [this.1, this.2]
      simp
  · rw [if_neg h, hz i hi (by omega)]
/-- A fixed index is fixed as it is. -/
theorem xfixT_fix {D : Nat} (h5 : D ≤ 5) (t : List Int) : xfixT D (xfixT D t) = xfixT D t := by
  have h32 := pow32 h5
  have hat : ∀ i, i < 2 ^ D → fld (xfixT D t) i = if keepB D t i then fld t i else 0 := fun i hi => by rw [xfixT_at D t i (by omega), if_pos hi]
  have hkeep : ∀ i, i < 2 ^ D → fld (xfixT D t) i ≠ 0 → keepB D t i = true ∧ fld (xfixT D t) i = fld t i := fun i hi hne => by
    rw [hat i hi] at hne ⊢
    cases hb : keepB D t i
    · rw [hb] at hne
      exact absurd rfl hne
    · exact ⟨rfl, rfl⟩
  refine xright_of (xfixT_len _ _) (fun i hi hge => by rw [xfixT_at D t i hi, if_neg (by omega)]) fun i hi hne => ?_
  obtain ⟨hk, e⟩ := hkeep i hi hne
  have h0 : fld t i ≠ 0 := by rw [← e]; exact hne
  unfold keepB at hk
  rw [Bool.and_eq_true, Bool.or_eq_true] at hk
  refine ⟨by rw [e]; exact hk.1, ?_⟩
  cases hw : wholeB D t i
  · -- the first one alone
    have hf : firstB t i = true := by
      rcases hk.2 with h | h
      · exact h
      · rw [hw] at h; cases h
    refine wholeB_iff.2 ⟨D, Nat.le_refl _, fun j hj => ?_⟩
    rw [isB_top hj hi]
    constructor
    · intro ej
      obtain ⟨hkj, e2⟩ := hkeep j hj (by rw [ej]; exact hne)
      have e3 : fld t j = fld t i := by rw [← e2, ej, e]
      unfold keepB at hkj
      rw [wholeB_same hi hj e3, hw, Bool.or_false, Bool.and_eq_true] at hkj
      rcases Nat.lt_trichotomy j i with hlt | heq | hgt
      · exact absurd e3 (firstB_iff.1 hf j hlt)
      · exact heq
      · exact absurd e3.symm (firstB_iff.1 hkj.2 i hgt)
    · rintro rfl
      rfl
  · obtain ⟨b, hb, hc⟩ := wholeB_iff.1 hw
    refine wholeB_iff.2 ⟨b, hb, fun j hj => ?_⟩
    rw [← hc j hj, e]
    constructor
    · intro ej
      rw [← (hkeep j hj (by rw [ej]; exact h0)).2, ej]
    · intro ej
      have : keepB D t j = true := by
        unfold keepB
        rw [ej, wholeB_same hi hj ej, hw]
        simp [hk.1]
      rw [hat j hj, this, ← ej]
      rfl
theorem fix_is_right (d : Int) (t : List Int) : rightX (fixD d) (fixV d t) = true := by
  unfold fixD fixV
  cases h : inD d
  · have e : xfixT (dpN 0) zeroT = zeroT := by decide +kernel
    simp only [Bool.false_eq_true, if_false]
    exact rightX_iff.2 ⟨⟨by omega, by omega⟩, e⟩
  · rw [rightX_iff]
    refine ⟨?_, xfixT_fix (dpN_le d) t⟩
    unfold inD at h
    exact of_decide_eq_true h
theorem fix_right_same {d : Int} {t : List Int} (h : rightX d t = true) : fixD d = d ∧ fixV d t = t := by
  have := fix_right d t
  rw [h, Bool.and_eq_true] at this
  exact ⟨by simpa using this.1, by simpa using this.2⟩
theorem fixV_at (d : Int) (t : List Int) (i : Nat) (hi : i < 32) (h0 : fld (fixV d t) i ≠ 0) : fld (fixV d t) i = fld t i := by
  unfold fixV at h0 ⊢
  cases h : inD d
  · rw [h, if_neg (by simp)] at h0
    exact absurd (mapT_at _ i hi) h0
  · rw [h] at h0
    simp only [if_true] at h0 ⊢
    rw [xfixT_at (dpN d) t i hi] at h0 ⊢
    by_cases h1 : i < 2 ^ dpN d
    · rw [if_pos h1] at h0 ⊢
      cases h2 : keepB (dpN d) t i
      · rw [h2] at h0; exact absurd rfl h0
      · rfl
    · rw [if_neg h1] at h0
      exact absurd rfl h0

/-! 19.3: Double, and 19.5. -/
def dblT (D : Nat) (t : List Int) : List Int := mapT fun i => if 2 ^ D ≤ i ∧ i < 2 ^ (D + 1) then fld t (i - 2 ^ D) else fld t i
theorem dblT_len (D : Nat) (t : List Int) : (dblT D t).length = 32 := mapT_len _
theorem dblT_at {D : Nat} (h4 : D ≤ 4) (t : List Int) (i : Nat) (hi : i < 2 ^ (D + 1)) : fld (dblT D t) i = fld t (i % 2 ^ D) := by
  have h32 := pow32 (show D + 1 ≤ 5 by omega)
  have e : 2 ^ (D + 1) = 2 * 2 ^ D := by rw [Nat.pow_succ]; omega
  unfold dblT
  rw [mapT_at _ i (by omega)]
  by_cases h : 2 ^ D ≤ i
  · rw [if_pos ⟨h, hi⟩, Nat.mod_eq_sub_mod h, Nat.mod_eq_of_lt (by omega)]
  · rw [if_neg (by omega), Nat.mod_eq_of_lt (by omega)]
theorem dblT_right {D : Nat} (h4 : D ≤ 4) {t : List Int} (h : xfixT D t = t) : xfixT (D + 1) (dblT D t) = dblT D t := by
  have h32 := pow32 (show D + 1 ≤ 5 by omega)
  have hp : 0 < 2 ^ D := Nat.two_pow_pos D
  refine xright_of (dblT_len _ _) (fun i hi hge => ?_) fun i hi hne => ?_
  · have e : 2 ^ (D + 1) = 2 * 2 ^ D := by rw [Nat.pow_succ]; omega
    unfold dblT
    rw [mapT_at _ i hi, if_neg (by omega), ← h, xfixT_at D t i hi, if_neg (by omega)]
  · rw [dblT_at h4 t i hi] at hne ⊢
    have hj : i % 2 ^ D < 2 ^ D := Nat.mod_lt _ hp
    have := right_whole (by omega) h hj hne
    refine ⟨this.1, ?_⟩
    obtain ⟨b, hb, hc⟩ := wholeB_iff.1 this.2
    refine wholeB_iff.2 ⟨b, by omega, fun k hk => ?_⟩
    rw [dblT_at h4 t k hk, dblT_at h4 t i hi, hc (k % 2 ^ D) (Nat.mod_lt _ hp), isB_iff, isB_iff, mod_of_le hb, mod_of_le hb]

/-! 19.3: Set, and 19.2's parts. -/
def setK (t : List Int) (l : List Nat) (v : Int) : List Int := l.foldl (fun t i => t.set i v) t
theorem setK_len (l : List Nat) (v : Int) : ∀ t : List Int, (setK t l v).length = t.length := by
  induction l with
  | nil => intro t; rfl
  | cons i l ih => intro t; exact (ih (t.set i v)).trans List.length_set
theorem setK_snoc (t : List Int) (l : List Nat) (i : Nat) (v : Int) : setK t (l ++ [i]) v = (setK t l v).set i v := by
  unfold setK
  rw [List.foldl_append]
  rfl
theorem setK_at (l : List Nat) (v : Int) (k : Nat) : ∀ t : List Int, (∀ i ∈ l, i < t.length) → fld (setK t l v) k = if k ∈ l then v else fld t k := by
  induction l with
  | nil => intro t _; simp [setK]
  | cons i l ih =>
    intro t h
    have hi := h i List.mem_cons_self
    have e : fld (setK t (i :: l) v) k = fld (setK (t.set i v) l v) k := rfl
    rw [e, ih (t.set i v) (fun j hj => by rw [List.length_set]; exact h j (List.mem_cons_of_mem _ hj)), fld_set _ _ _ _ hi]
    by_cases h1 : k ∈ l
    · rw [if_pos h1, if_pos (List.mem_cons_of_mem _ h1)]
    · rw [if_neg h1]
      by_cases h2 : k = i
      · rw [if_pos h2, if_pos (by rw [h2]; exact List.mem_cons_self)]
      · rw [if_neg h2, if_neg (by simp [h1, h2])]
/-- 19.2: Places. -/
def plcL (d : Int) (p b : Int) : List Nat := if 0 ≤ p ∧ p < (2 ^ dpN d : Nat) then clsL (dpN d) p.toNat (bitI (dpN d) b) else []
theorem plcL_lt {d p b : Int} {i : Nat} (h : i ∈ plcL d p b) : i < 2 ^ dpN d := by
  unfold plcL at h
  split at h
  · exact (clsL_mem.1 h).1
  · simp at h
theorem plcL_len (d p b : Int) : (plcL d p b).length ≤ 32 := by
  have h32 := pow32 (dpN_le d)
  unfold plcL clsL
  split
  · exact Nat.le_trans (List.length_filter_le _ _) (by rw [List.length_range]; exact h32)
  · simp
def setX (d : Int) (t : List Int) (p b v : Int) : List Int := setK t (plcL d p b) v
theorem setX_len (d : Int) (t : List Int) (p b v : Int) : (setX d t p b v).length = t.length := setK_len _ _ _
theorem parts_at {d : Int} {t : List Int} (ht : t.length = 32) {p b : Nat} (hp : p < 2 ^ dpN d) (hb : b ≤ dpN d) (v : Int) (i : Nat) (hi : i < 2 ^ dpN d) : fld (setX d t p b v) i = if isB b i p then v else fld t i := by
  have h32 := pow32 (dpN_le d)
  have e : plcL d p b = clsL (dpN d) p b := by
    unfold plcL
    rw [if_pos (by omega), Int.toNat_natCast]
    congr 1
    unfold bitI
    omega
  unfold setX
  rw [e, setK_at _ _ _ _ (fun j hj => by have := (clsL_mem.1 hj).1; omega)]
  cases h : isB b i p
  · rw [if_neg (fun hm => by rw [(clsL_mem.1 hm).2] at h; cases h)]
    rfl
  · rw [if_pos (clsL_mem.2 ⟨hi, h⟩)]
    rfl
/-- One half of a block's class has a new block: it is right. -/
theorem parts_right {d : Int} {t : List Int} (ht : t.length = 32) (h : xfixT (dpN d) t = t) {p : Nat} (hp : p < 2 ^ dpN d) (h0 : fld t p ≠ 0) (hb : xbitsN (dpN d) t p < dpN d) {v : Int} (hv : shortB v = true) (hn : ∀ i, i < 2 ^ dpN d → fld t i ≠ v) :
    xfixT (dpN d) (setX d t p ((xbitsN (dpN d) t p + 1 : Nat) : Int) v) = setX d t p ((xbitsN (dpN d) t p + 1 : Nat) : Int) v := by
  have h5 := dpN_le d
  have h32 := pow32 h5
  have hw := right_whole h5 h hp h0
  have hc := (wholeB_bits hp h0).1 hw.2
  have hat := fun i hi => parts_at (d := d) ht hp (show xbitsN (dpN d) t p + 1 ≤ dpN d by omega) v i hi
  refine xright_of (by rw [setX_len, ht]) (fun i hi hge => ?_) fun i hi hne => ?_
  · unfold setX
    rw [setK_at _ _ _ _ (fun j hj => by have := plcL_lt hj; omega), if_neg (fun hm => by have := plcL_lt hm; omega), ← h, xfixT_at _ t i hi, if_neg (by omega)]
  · generalize setX d t p ((xbitsN (dpN d) t p + 1 : Nat) : Int) v = z at *
    generalize xbitsN (dpN d) t p = b at *
    cases hi1 : isB (b + 1) i p
    · have ei : fld z i = fld t i := by rw [hat i hi, hi1]; rfl
      rw [ei] at hne
      have hwi := right_whole h5 h hi hne
      refine ⟨by rw [ei]; exact hwi.1, ?_⟩
      cases hi2 : isB b i p
      · -- a block of another class
        obtain ⟨c, hcd, hcc⟩ := wholeB_iff.1 hwi.2
        refine wholeB_iff.2 ⟨c, hcd, fun k hk => ?_⟩
        rw [ei, hat k hk]
        cases hk1 : isB (b + 1) k p
        · exact hcc k hk
        · have hk2 : isB b k p = true := isB_mono (by omega) hk1
          have e1 : fld t k = fld t p := (hc k hk).2 hk2
          have e2 : fld t i ≠ fld t p := fun e => by rw [(hc i hi).1 e] at hi2; cases hi2
          constructor
          · intro e
            exact absurd e.symm (hn i hi)
          · intro e
            exact absurd ((hcc k hk).2 e) (by rw [e1]; exact e2.symm)
      · -- the other half
        refine wholeB_iff.2 ⟨b + 1, by omega, fun k hk => ?_⟩
        rw [ei, isB_half hi2 hi1, hat k hk, (hc i hi).2 hi2]
        cases hk1 : isB (b + 1) k p
        · rw [← hc k hk]
          simp
        · constructor
          · intro e
            exact absurd e.symm (hn p hp)
          · intro e
            cases e.2
    · have ei : fld z i = v := by rw [hat i hi, hi1]; rfl
      refine ⟨by rw [ei]; exact hv, wholeB_iff.2 ⟨b + 1, by omega, fun k hk => ?_⟩⟩
      rw [ei, hat k hk]
      have e1 : isB (b + 1) k i = isB (b + 1) k p := by
        unfold isB
        rw [isB_iff.1 hi1]
      rw [e1]
      cases hk1 : isB (b + 1) k p
      · simp only [Bool.false_eq_true, if_false, iff_false]
        exact hn k hk
      · simp

/-! 19.3: Buckets. -/
def buckK (t : List Int) : Nat → List Int
  | 0 => []
  | k + 1 => if fld t k = 0 then buckK t k else if (buckK t k).contains (fld t k) then buckK t k else buckK t k ++ [fld t k]
theorem buckK_succ (t : List Int) (k : Nat) : buckK t (k + 1) = if fld t k = 0 then buckK t k else if (buckK t k).contains (fld t k) then buckK t k else buckK t k ++ [fld t k] := rfl
theorem buckK_len (t : List Int) : ∀ k, (buckK t k).length ≤ k
  | 0 => Nat.le_refl _
  | k + 1 => by
    have ih := buckK_len t k
    rw [buckK_succ]
    split
    · omega
    · split
      · omega
      · rw [List.length_append, List.length_singleton]; omega
theorem buckK_mem {t : List Int} {v : Int} (hv : v ≠ 0) : ∀ {k : Nat}, v ∈ buckK t k ↔ ∃ i, i < k ∧ fld t i = v
  | 0 => by simp [buckK]
  | k + 1 => by
    have ih := buckK_mem (t := t) hv (k := k)
    have hs : (∃ i, i < k + 1 ∧ fld t i = v) ↔ (v ∈ buckK t k ∨ fld t k = v) := by
      rw [ih]
      constructor
      · rintro ⟨i, hi, e⟩
        by_cases h : i = k
        · subst h; exact Or.inr e
        · exact Or.inl ⟨i, by omega, e⟩
      · rintro (⟨i, hi, e⟩ | e)
        · exact ⟨i, by omega, e⟩
        · exact ⟨k, by omega, e⟩
    rw [hs, buckK_succ]
    split
    · next h0 =>
      rw [h0]
      exact ⟨Or.inl, fun h => h.elim id fun e => absurd e.symm hv⟩
    · split
      · next h1 =>
        have h1 : fld t k ∈ buckK t k := by simpa using h1
        exact ⟨Or.inl, fun h => h.elim id fun e => by rw [← e]; exact h1⟩
      · rw [List.mem_append, List.mem_singleton]
        exact or_congr Iff.rfl eq_comm

/-! 19.1: as bytes. -/
def mayX (d : Int) (t : List Int) : Bool := t.all shortB && inD d
def headX (d : Int) : List UInt8 := 105 :: 100 :: 120 :: 33 :: UInt8.ofNat d.toNat :: zeros 27
theorem headX_len (d : Int) : (headX d).length = 32 := by simp [headX, zeros]
def putX (d : Int) (t : List Int) : List UInt8 := headX d ++ (flatI t ++ zeros 160)
theorem putX_len {t : List Int} (ht : t.length = 32) (d : Int) : (putX d t).length = 256 := by
  unfold putX
  rw [List.length_append, List.length_append, headX_len, flatI_len, zeros_len]
  omega
def outX (d : Int) (t : List Int) : List UInt8 := if mayX d t then putX d t else zeros 256
theorem outX_len {t : List Int} (ht : t.length = 32) (d : Int) : (outX d t).length = 256 := by
  unfold outX
  split
  · exact putX_len ht d
  · exact zeros_len _
/-- Behind the first k numbers. -/
def walkX (d : Int) (t : List Int) (k : Nat) : List UInt8 := (headX d ++ flatI (t.take k)) ++ zeros (224 - 2 * k)
theorem walkX_len {t : List Int} (ht : t.length = 32) (d : Int) (k : Nat) (hk : k ≤ 32) : (walkX d t k).length = 256 := by
  unfold walkX
  rw [List.length_append, List.length_append, headX_len, flatI_len, List.length_take, ht, zeros_len]
  omega
theorem walkX_step {t : List Int} (ht : t.length = 32) (d : Int) (k : Nat) (hk : k < 32) : nwithL (walkX d t k) ((32 + 2 * k : Nat) : Int) 2 (fld t k).toNat = walkX d t (k + 1) := by
  unfold walkX
  have h1 : (headX d ++ flatI (t.take k)).length = 32 + 2 * k := by
    rw [List.length_append, headX_len, flatI_len, List.length_take, ht]; omega
  have h := nwithL_zeros (headX d ++ flatI (t.take k)) (32 + 2 * k) (224 - 2 * k) 2 (fld t k).toNat h1 (by omega) (by omega) (by omega)
  have e := fld_get t k (by rw [ht]; exact hk)
  have e2 : t.take (k + 1) = t.take k ++ [fld t k] := take_succ_getI _ _ _ e
  rw [e2, flatI_snoc, show 224 - 2 * (k + 1) = 224 - 2 * k - 2 from by omega]
  rw [← List.append_assoc (headX d), List.append_assoc (headX d ++ flatI (t.take k))]
  exact h
theorem walkX_end {t : List Int} (ht : t.length = 32) (d : Int) : walkX d t 32 = putX d t := by
  unfold walkX putX
  rw [List.take_of_length_le (by omega), List.append_assoc]
theorem walkX_start (d : Int) (t : List Int) : nwithL (layL (zeros 256) 0 [105, 100, 120, 33]) 4 1 d.toNat = walkX d t 0 := by
  have h0 : layL (zeros 256) 0 [105, 100, 120, 33] = [105, 100, 120, 33] ++ zeros 252 := layL_zeros [] [105, 100, 120, 33] 0 256 rfl rfl (by decide) (by omega)
  have h1 := nwithL_zeros [105, 100, 120, 33] 4 252 1 d.toNat rfl (by omega) (by omega) (by omega)
  rw [h0]
  refine h1.trans ?_
  unfold walkX headX
  have e : zeros (252 - 1) = zeros 27 ++ zeros 224 := by unfold zeros; rw [List.replicate_append_replicate]
  rw [e]
  simp [leBytes, flatI]
/-- The document's way: the bytes behind the first k numbers. -/
def docX (d : Int) (t : List Int) (k : Nat) : List UInt8 := headX d ++ flatI (t.take k)
theorem docX_len {t : List Int} (ht : t.length = 32) (d : Int) (k : Nat) (hk : k ≤ 32) : (docX d t k).length = 32 + 2 * k := by
  unfold docX
  rw [List.length_append, headX_len, flatI_len, List.length_take, ht]
  omega
theorem docX_step {t : List Int} (ht : t.length = 32) (d : Int) (k : Nat) (hk : k < 32) : docX d t (k + 1) = docX d t k ++ leBytes 2 (fld t k).toNat := by
  unfold docX
  rw [take_succ_getI _ _ _ (fld_get t k (by rw [ht]; exact hk)), flatI_snoc, List.append_assoc]

/-- What is read. -/
def gotD (b : List UInt8) : Int := ((leV b 4 1 : Nat) : Int)
def gotF (b : List UInt8) (k i : Nat) : Int := if i < k then ((leV b (32 + 2 * i) 2 : Nat) : Int) else 0
def gotX (b : List UInt8) (k : Nat) : List Int := mapT (gotF b k)
def gotT (b : List UInt8) : List Int := gotX b 32
theorem gotX_len (b : List UInt8) (k : Nat) : (gotX b k).length = 32 := mapT_len _
theorem gotT_len (b : List UInt8) : (gotT b).length = 32 := mapT_len _
theorem gotX_zero (b : List UInt8) : gotX b 0 = zeroT := by
  unfold gotX zeroT gotF
  simp
theorem gotX_step (b : List UInt8) (k : Nat) (hk : k < 32) : (gotX b k).set k ((leV b (32 + 2 * k) 2 : Nat) : Int) = gotX b (k + 1) := by
  refine mapT_set _ _ k _ hk fun i hi => ?_
  unfold gotF
  by_cases e : i = k
  · subst e
    rw [if_pos (show i < i + 1 by omega), if_pos rfl]
  · simp only [show i < k + 1 ↔ i < k by omega, if_neg e]
/-- Is there an index, of which the block is Put, with nothing beyond its places? -/
def getB (b : List UInt8) : Bool := mayX (gotD b) (gotT b) && (putX (gotD b) (gotT b) == b && shortT (dpN (gotD b)) (gotT b) == gotT b)
def getD_ (b : List UInt8) : Int := if getB b then gotD b else 0
def getT_ (b : List UInt8) : List Int := if getB b then gotT b else zeroT
theorem getT_len (b : List UInt8) : (getT_ b).length = 32 := by
  unfold getT_
  split
  · exact gotT_len b
  · exact zeroT_len
theorem gotD_put {d : Int} {t : List Int} (h : mayX d t = true) : gotD (putX d t) = d := by
  unfold mayX inD at h
  simp only [Bool.and_eq_true, decide_eq_true_eq] at h
  have e : leV (putX d t) 4 1 = (UInt8.ofNat d.toNat).toNat := by
    unfold putX headX leV
    simp [leVal]
  unfold gotD
  rw [e]
  simp
  omega
theorem gotT_put {d : Int} {t : List Int} (ht : t.length = 32) (h : mayX d t = true) : gotT (putX d t) = t := by
  unfold mayX at h
  rw [Bool.and_eq_true, List.all_eq_true] at h
  refine ext32 (gotT_len _) ht fun i hi => ?_
  unfold gotT gotX
  rw [mapT_at _ i hi]
  unfold gotF
  rw [if_pos hi]
  have hs := h.1 (fld t i) (List.mem_of_getElem? (fld_get t i (by omega)))
  unfold shortB at hs
  have hs := of_decide_eq_true hs
  have e0 := fld_get t i (by omega)
  have e1 : t = t.take i ++ (fld t i :: t.drop (i + 1)) := by
    obtain ⟨h1, h2⟩ := List.getElem?_eq_some_iff.1 e0
    rw [← h2, List.getElem_cons_drop, List.take_append_drop]
  have e2 : flatI t = flatI (t.take i) ++ (leBytes 2 (fld t i).toNat ++ flatI (t.drop (i + 1))) := by
    have e3 : flatI t = flatI (t.take i ++ (fld t i :: t.drop (i + 1))) := congrArg _ e1
    rw [e3]
    unfold flatI
    rw [List.flatMap_append, List.flatMap_cons]
  unfold putX
  rw [e2, List.append_assoc, List.append_assoc, ← List.append_assoc, leV_two _ (by omega) _ _ _ (by rw [List.length_append, headX_len, flatI_len, List.length_take]; omega)]
  omega
theorem right_may {d : Int} {t : List Int} (ht : t.length = 32) (h : rightX d t = true) : mayX d t = true := by
  obtain ⟨hd, h⟩ := rightX_iff.1 h
  unfold mayX inD
  rw [Bool.and_eq_true, List.all_eq_true]
  refine ⟨fun v hv => ?_, by simpa using hd⟩
  obtain ⟨i, hi, rfl⟩ := List.getElem_of_mem hv
  have e : t[i] = fld t i := by
    have := fld_get t i hi
    rw [List.getElem?_eq_getElem hi] at this
    injection this
  rw [e]
  by_cases h0 : fld t i = 0
  · rw [h0]; rfl
  · by_cases h1 : i < 2 ^ dpN d
    · exact (right_whole (dpN_le d) h h1 h0).1
    · have := xfixT_at (dpN d) t i (by omega)
      rw [h, if_neg h1] at this
      exact absurd this h0
theorem right_short {d : Int} {t : List Int} (ht : t.length = 32) (h : rightX d t = true) : shortT (dpN d) t = t := by
  obtain ⟨_, h⟩ := rightX_iff.1 h
  refine ext32 (mapT_len _) ht fun i hi => ?_
  unfold shortT
  rw [mapT_at _ i hi]
  split
  · rfl
  · next h1 =>
    have := xfixT_at (dpN d) t i hi
    rw [h, if_neg h1] at this
    exact this.symm
/-- 19.5: got again. -/
theorem get_put {d : Int} {t : List Int} (ht : t.length = 32) (h : rightX d t = true) : getB (putX d t) = true ∧ getD_ (putX d t) = d ∧ getT_ (putX d t) = t := by
  have hm := right_may ht h
  have hg : getB (putX d t) = true := by
    unfold getB
    rw [gotD_put hm, gotT_put ht hm, hm, right_short ht h]
    simp
  unfold getD_ getT_
  rw [hg]
  exact ⟨rfl, gotD_put hm, gotT_put ht hm⟩
/-- What stands beyond the places, one by one. -/
theorem shortT_iff {D : Nat} {t : List Int} (ht : t.length = 32) : shortT D t = t ↔ ∀ i, i < 32 → 2 ^ D ≤ i → fld t i = 0 := by
  constructor
  · intro h i hi hge
    rw [← h]
    unfold shortT
    rw [mapT_at _ i hi, if_neg (by omega)]
  · intro h
    refine ext32 (mapT_len _) ht fun i hi => ?_
    unfold shortT
    rw [mapT_at _ i hi]
    split
    · rfl
    · exact (h i hi (by omega)).symm

end Go.Proofs.Ythcbjihdbkpkeaa
