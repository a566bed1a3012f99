/-
  A file's numbers as they are told, then those of data blocks alone; what it owns, part by part. Plain; no program is named here.
-/
import Derived.Test.YtfhghcodhacneaaGrD
namespace Go.Proofs.Ytfhghcodhacneaa
open Go.RowKit

theorem ext_fld {n : Nat} {t u : List Int} (ht : t.length = n) (hu : u.length = n) (h : ∀ i, i < n → fld t i = fld u i) : t = u := by
  apply List.ext_getElem?
  intro i
  by_cases hi : i < n
  · rw [fld_get t i (by omega), fld_get u i (by omega), h i hi]
  · rw [List.getElem?_eq_none (by omega), List.getElem?_eq_none (by omega)]
theorem fld_take (l : List Int) (n k : Nat) (h : k < n) : fld (l.take n) k = fld l k := by
  unfold fld
  rw [List.getD_eq_getElem?_getD, List.getD_eq_getElem?_getD, List.getElem?_take_of_lt h]
theorem fld_drop (l : List Int) (n k : Nat) : fld (l.drop n) k = fld l (n + k) := by
  unfold fld
  rw [List.getD_eq_getElem?_getD, List.getD_eq_getElem?_getD, List.getElem?_drop]
theorem fld_map (f : Int → Int) (l : List Int) (k : Nat) (h : k < l.length) : fld (l.map f) k = f (fld l k) := by
  have e := fld_get l k h
  have e2 := fld_get (l.map f) k (by rw [List.length_map]; exact h)
  rw [List.getElem?_map, e] at e2
  exact (Option.some.inj e2).symm
theorem nmQ_zeros (k : Nat) : nmQ (zeros 256) k = 0 := by
  have h : ∀ n, leVal (List.replicate n (0 : UInt8)) = 0 := fun n => by
    induction n with
    | zero => rfl
    | succ n ih => rw [List.replicate_succ, leVal, ih]; rfl
  unfold nmQ leV zeros
  rw [List.drop_replicate, List.take_replicate, h]
  rfl
theorem getQ_zeros (k : Int) : getQ (zeros 256) k = 0 := by
  unfold getQ
  split
  · exact nmQ_zeros _
  · rfl
theorem datF_zero (l : Lay14) : datF l 0 = 0 := by unfold datF; split <;> rfl
theorem getQ_in (b : List UInt8) (k : Int) : 0 ≤ getQ b k ∧ getQ b k ≤ 65535 := by
  unfold getQ
  split
  · exact nmQ_in b _
  · omega

/-- The block that tells more of them; noughts, where there is none. -/
def ptrF (l : Lay14) (T : Int → List UInt8) (X : List Int) : List UInt8 := if l.isD (fld X 10) then vBk l T (fld X 10) else zeros 256
/-- The six that the inode tells. -/
def dirF (X : List Int) : List Int := (X.drop 4).take 6
theorem dirF_len {X : List Int} (h : X.length = 11) : (dirF X).length = 6 := by unfold dirF; rw [List.length_take, List.length_drop, h]; rfl
theorem dirF_at (X : List Int) {k : Nat} (h : k < 6) : fld (dirF X) k = fld X (4 + k) := by unfold dirF; rw [fld_take _ _ _ h, fld_drop]
/-- All 134, of the block's the first n. -/
def rawF (X : List Int) (b : List UInt8) (n : Nat) : List Int := (List.range 134).map fun j : Nat => if j < 6 then fld X (4 + j) else if j < 6 + n then nmQ b (j - 6) else 0
theorem rawF_len (X : List Int) (b : List UInt8) (n : Nat) : (rawF X b n).length = 134 := by unfold rawF; rw [List.length_map, List.length_range]
theorem rawF_at (X : List Int) (b : List UInt8) (n : Nat) {k : Nat} (hk : k < 134) : fld (rawF X b n) k = if k < 6 then fld X (4 + k) else if k < 6 + n then nmQ b (k - 6) else 0 := by
  unfold fld rawF
  rw [List.getD_eq_getElem?_getD, List.getElem?_map, List.getElem?_range hk]
  rfl
theorem fld_zeros (n k : Nat) : fld (List.replicate n (0 : Int)) k = 0 := by
  unfold fld
  rw [List.getD_eq_getElem?_getD, List.getElem?_replicate]
  split <;> rfl
theorem rawF_zero {X : List Int} (hX : X.length = 11) (b : List UInt8) {P : List Int} (hP : P = List.replicate 134 0) : P.take 0 ++ dirF X ++ P.drop (0 + 6) = rawF X b 0 := by
  subst hP
  have hd := dirF_len hX
  refine ext_fld (n := 134) ?_ (rawF_len _ _ _) fun i hi => ?_
  · rw [List.take_zero, List.nil_append, List.length_append, List.length_drop, List.length_replicate, hd]
  · rw [rawF_at _ _ _ hi, List.take_zero, List.nil_append]
    by_cases h : i < 6
    · rw [if_pos h, ← dirF_at X h]
      unfold fld
      rw [List.getD_eq_getElem?_getD, List.getD_eq_getElem?_getD, List.getElem?_append_left (by omega)]
    · rw [if_neg h, if_neg (by omega)]
      have e : fld (dirF X ++ (List.replicate 134 (0 : Int)).drop (0 + 6)) i = fld ((List.replicate 134 (0 : Int)).drop (0 + 6)) (i - 6) := by
        unfold fld
        rw [List.getD_eq_getElem?_getD, List.getD_eq_getElem?_getD, List.getElem?_append_right (by omega), hd]
      rw [e, fld_drop, fld_zeros]
theorem rawF_set (X : List Int) (b : List UInt8) {n : Nat} (hn : n < 128) : (rawF X b n).set (6 + n) (nmQ b n) = rawF X b (n + 1) := by
  refine ext134 (by rw [List.length_set, rawF_len]) (rawF_len _ _ _) fun i hi => ?_
  rw [fldQ_set _ (6 + n) i _ (by rw [rawF_len]; omega), rawF_at _ _ _ hi, rawF_at _ _ _ hi]
  by_cases h : i = 6 + n
  · subst h
    rw [if_pos rfl, if_neg (by omega), if_pos (by omega), show 6 + n - 6 = n from by omega]
  · rw [if_neg h]
    by_cases h6 : i < 6
    · rw [if_pos h6, if_pos h6]
    · rw [if_neg h6, if_neg h6]
      by_cases h2 : i < 6 + n
      · rw [if_pos h2, if_pos (by omega)]
      · rw [if_neg h2, if_neg (by omega)]
/-- .. the first n of them gone through: what is no data block is 0. -/
def mixF (l : Lay14) (r : List Int) (n : Nat) : List Int := (List.range 134).map fun j : Nat => if j < n then datF l (fld r j) else fld r j
theorem mixF_len (l : Lay14) (r : List Int) (n : Nat) : (mixF l r n).length = 134 := by unfold mixF; rw [List.length_map, List.length_range]
theorem mixF_at (l : Lay14) (r : List Int) (n : Nat) {k : Nat} (hk : k < 134) : fld (mixF l r n) k = if k < n then datF l (fld r k) else fld r k := by
  unfold fld mixF
  rw [List.getD_eq_getElem?_getD, List.getElem?_map, List.getElem?_range hk]
  rfl
theorem mixF_zero (l : Lay14) {r : List Int} (hr : r.length = 134) : mixF l r 0 = r := ext134 (mixF_len _ _ _) hr fun i hi => by rw [mixF_at _ _ _ hi, if_neg (by omega)]
theorem mixF_set (l : Lay14) (r : List Int) {n : Nat} (hn : n < 134) : (mixF l r n).set n (datF l (fld r n)) = mixF l r (n + 1) := by
  refine ext134 (by rw [List.length_set, mixF_len]) (mixF_len _ _ _) fun i hi => ?_
  rw [fldQ_set _ n i _ (by rw [mixF_len]; exact hn), mixF_at _ _ _ hi, mixF_at _ _ _ hi]
  by_cases h : i = n
  · subst h
    rw [if_pos rfl, if_pos (by omega)]
  · rw [if_neg h]
    by_cases h2 : i < n
    · rw [if_pos h2, if_pos (by omega)]
    · rw [if_neg h2, if_neg (by omega)]
section
variable {l : Lay14} {T : Int → List UInt8} {X : List Int}
theorem ptrF_len (hT : ∀ no, (T no).length = 256) : (ptrF l T X).length = 256 := by
  unfold ptrF
  split
  · exact vBk_len hT _
  · exact zeros_len _
theorem ptrF_yes (h : l.isD (fld X 10) = true) : ptrF l T X = vBk l T (fld X 10) := by unfold ptrF; rw [h]; rfl
theorem ptrF_no (h : l.isD (fld X 10) = false) : ptrF l T X = zeros 256 := by unfold ptrF; rw [h]; rfl
theorem atF_ptr (h : fld X 0 = 1) (k : Nat) : atF l T X (6 + k) = datF l (nmQ (ptrF l T X) k) := by
  cases hd : l.isD (fld X 10)
  · rw [atF_none hd (by omega), ptrF_no hd, nmQ_zeros, datF_zero]
  · rw [atF_high h hd, ptrF_yes hd]
theorem atI_ptr (h : fld X 0 = 1) {k : Int} (hk : 6 ≤ k) : atI l T X k = datF l (getQ (ptrF l T X) (k - 6)) := by
  by_cases h2 : k < 134
  · obtain ⟨q, rfl⟩ := Int.eq_ofNat_of_zero_le (show 0 ≤ k by omega)
    have := atF_ptr (l := l) (T := T) h (q - 6)
    rw [show 6 + (q - 6) = q from by omega] at this
    rw [atI_nat (by omega), this, show (q : Int) - 6 = ((q - 6 : Nat) : Int) from by omega, getQ_nat _ (by omega)]
  · rw [atI_off (by omega), getQ_no _ (by unfold placeQ; rw [decide_eq_false_iff_not]; omega), datF_zero]
theorem atI_low (h : fld X 0 = 1) {q : Nat} (hq : q < 6) : atI l T X (q : Int) = datF l (fld X (4 + q)) := by rw [atI_nat (by omega)]; exact atF_low h hq
theorem atI_kind (h : fld X 0 ≠ 1) (k : Int) : atI l T X k = 0 := by
  by_cases h2 : 0 ≤ k ∧ k < 134
  · obtain ⟨q, rfl⟩ := Int.eq_ofNat_of_zero_le h2.1
    rw [atI_nat (by omega)]
    exact atF_kind h q
  · exact atI_off h2
theorem mixF_all (h : fld X 0 = 1) : mixF l (rawF X (ptrF l T X) 128) 134 = allF l T X := by
  refine ext134 (mixF_len _ _ _) allF_len fun i hi => ?_
  rw [mixF_at _ _ _ hi, if_pos hi, rawF_at _ _ _ hi, allF_at hi]
  by_cases h6 : i < 6
  · rw [if_pos h6, atF_low h h6]
  · have := atF_ptr (l := l) (T := T) h (i - 6)
    rw [show 6 + (i - 6) = i from by omega] at this
    rw [if_neg h6, if_pos (by omega), this]
theorem allF_zero (h : fld X 0 ≠ 1) : allF l T X = List.replicate 134 0 := by
  have e : allF l T X = partF l T X 0 := (partF_kind h).symm
  rw [e, partF_zero]
end
/-! What is owned -/
theorem some_dat (l : Lay14) (t : List Int) : someF (t.map (datF l)) = dataF l t := by
  unfold someF dataF
  induction t with
  | nil => rfl
  | cons x t ih =>
    rw [List.map_cons]
    cases hd : l.isD x
    · rw [datF_no hd, List.filter_cons_of_neg (by simp), List.filter_cons_of_neg (by simp [hd]), ih]
    · rw [datF_yes hd, List.filter_cons_of_pos (by simpa using (isD_pos hd).1), List.filter_cons_of_pos hd, ih]
theorem data_some (l : Lay14) (t : List Int) : dataF l (someF t) = dataF l t := by
  unfold someF dataF
  rw [List.filter_filter]
  refine List.filter_congr fun x _ => ?_
  cases hd : l.isD x
  · rfl
  · have := (isD_pos hd).1
    simp [this]
theorem lis_some (b : List UInt8) : ∀ n, lisQ b n = someF ((List.range n).map (nmQ b))
  | 0 => rfl
  | n + 1 => by
    rw [List.range_succ, List.map_append, List.map_cons, List.map_nil, someF_snoc, ← lis_some b n]
    rfl
section
variable {l : Lay14} {T : Int → List UInt8} {X : List Int}
theorem all_dir (h : fld X 0 = 1) (hX : X.length = 11) : (allF l T X).take 6 = (dirF X).map (datF l) := by
  have hd := dirF_len hX
  refine ext_fld (n := 6) (by rw [List.length_take, allF_len]; rfl) (by rw [List.length_map, hd]) fun i hi => ?_
  rw [fld_take _ _ _ hi, fld_map _ _ _ (by omega), dirF_at X hi, allF_at (by omega), atF_low h hi]
theorem all_ptr (h : fld X 0 = 1) : (allF l T X).drop 6 = (numsQ (ptrF l T X)).map (datF l) := by
  refine ext_fld (n := 128) (by rw [List.length_drop, allF_len]) (by rw [List.length_map, numsQ_len]) fun i hi => ?_
  rw [fld_drop, fld_map _ _ _ (by rw [numsQ_len]; exact hi), numsQ_at _ hi, allF_at (by omega), atF_ptr h]
theorem data_zeros (l : Lay14) : dataF l (numsQ (zeros 256)) = [] := by
  rw [← data_some]
  have e : someF (numsQ (zeros 256)) = [] := by
    unfold someF
    rw [List.filter_eq_nil_iff]
    intro x hx
    unfold numsQ at hx
    obtain ⟨k, _, rfl⟩ := List.mem_map.1 hx
    rw [nmQ_zeros]
    decide
  rw [e]
  rfl
/-- .. of a file. -/
theorem own_file (h : fld X 0 = 1) (hX : X.length = 11) : ownF l T X = if l.isD (fld X 10) then (dataF l (dirF X) ++ [fld X 10]) ++ dataF l (lisQ (vBk l T (fld X 10)) 128) else dataF l (dirF X) := by
  unfold ownF
  rw [if_neg (by omega), all_dir h hX, all_ptr h, some_dat, some_dat]
  unfold indF
  rw [decide_eq_true h, Bool.true_and]
  cases hd : l.isD (fld X 10)
  · rw [ptrF_no hd, data_zeros]
    simp
  · rw [ptrF_yes hd, lis_some, data_some, if_pos rfl, if_pos rfl, ← List.append_assoc]
    rfl
theorem own_dir (h : fld X 0 = 2) : ownF l T X = if isF l T X then [fld X 4] ++ bukF l T X else [] := by
  unfold ownF
  rw [if_pos h]
  cases hi : isF l T X
  · unfold bukF
    rw [hi]
    rfl
  · rfl
theorem own_other (h1 : fld X 0 ≠ 1) (h2 : fld X 0 ≠ 2) : ownF l T X = [] := by
  have hz := all_none (l := l) (T := T) h1
  rw [someF_split _ 6, List.append_eq_nil_iff] at hz
  unfold ownF indF
  rw [if_neg h2, hz.1, hz.2, decide_eq_false h1]
  rfl
end

end Go.Proofs.Ytfhghcodhacneaa
