/-
  Names, and texts in order: what the document's chapter 3 says, as functions and laws on lists. Plain; no program is named here.
-/
import Derived.Test.YtfgkbjpiffaeeaaList
import Derived.Lib.SlicesCompact
import Derived.Lib.RowBridge
import Derived.Shelf.Spec.SearchS
namespace Go.Proofs.Ytfgkbjpiffaeeaa
open Go.RowKit

/-! Names. -/
def badB (b : UInt8) : Bool := b == 0 || b == 47
def rightB (l : List UInt8) : Bool := decide (1 ≤ l.length) && (decide (l.length ≤ 24) && (!(l == [46]) && (!(l == [46, 46]) && !l.any badB)))
def rightN (s : ByteArray) : Bool := rightB s.data.toList
theorem rightN_short {s : ByteArray} (h : s.size < 1) : rightN s = false := by
  have : s.data.toList.length = s.size := by simp
  unfold rightN rightB
  rw [decide_eq_false (by omega)]
  rfl
theorem rightN_long {s : ByteArray} (h : 24 < s.size) : rightN s = false := by
  have : s.data.toList.length = s.size := by simp
  unfold rightN rightB
  rw [decide_eq_false (show ¬ s.data.toList.length ≤ 24 by omega)]
  simp
theorem rightN_bad {s : ByteArray} (h : s.data.toList.any badB = true) : rightN s = false := by
  unfold rightN rightB
  rw [h]
  simp
theorem rightN_size {s : ByteArray} (h : rightN s = true) : 1 ≤ s.size ∧ s.size ≤ 24 := by
  have : s.data.toList.length = s.size := by simp
  unfold rightN rightB at h
  simp only [Bool.and_eq_true, decide_eq_true_eq] at h
  omega
theorem bytes_data {s : ByteArray} {l : List UInt8} : s = ⟨l.toArray⟩ ↔ s.data.toList = l := by
  cases s with
  | mk d =>
    constructor
    · intro h
      injection h with h
      rw [h]
    · intro h
      rw [← h]

/-! The order of texts. -/
def ltS (a b : ByteArray) : Bool := Op.bytesLess a.toList b.toList
theorem less_eq : ∀ (x y : List UInt8), Op.bytesLess x y = decide (x < y)
  | [], [] => by simp [Op.bytesLess]
  | _ :: _, [] => by simp [Op.bytesLess]
  | [], _ :: _ => by simp [Op.bytesLess]
  | a :: x, b :: y => by
    rw [Op.bytesLess, less_eq x y]
    simp only [List.cons_lt_cons_iff]
    by_cases h1 : a < b <;> by_cases h2 : a = b <;> by_cases h3 : x < y <;> simp [h1, h2, h3]
theorem ltS_eq (a b : ByteArray) : ltS a b = decide (a.data.toList < b.data.toList) := by
  unfold ltS
  rw [ByteArray.toList_eq, ByteArray.toList_eq, less_eq]
theorem ltS_iff (a b : ByteArray) : ltS a b = true ↔ a.data.toList < b.data.toList := by rw [ltS_eq]; simp
theorem ltS_irrefl (a : ByteArray) : ltS a a = false := by rw [ltS_eq]; simp [List.lt_irrefl]
theorem ltS_trans {a b c : ByteArray} (h : ltS a b = true) (k : ltS b c = true) : ltS a c = true := by
  rw [ltS_iff] at *
  exact List.lt_trans h k
theorem ltS_asymm {a b : ByteArray} (h : ltS a b = true) : ltS b a = false := by
  cases k : ltS b a with
  | false => rfl
  | true =>
    have := ltS_trans h k
    rw [ltS_irrefl] at this
    cases this
theorem ltS_tri {a b : ByteArray} (h : ltS a b = false) (k : ltS b a = false) : a = b := by
  rw [ltS_eq] at h k
  simp only [decide_eq_false_iff_not, List.not_lt] at h k
  have e := List.le_antisymm k h
  cases a with
  | mk x => cases b with
    | mk y => exact congrArg ByteArray.mk (Array.toList_inj.1 e)
theorem ltS_ne {a b : ByteArray} (h : ltS a b = true) : a ≠ b := by
  rintro rfl
  rw [ltS_irrefl] at h
  cases h
/-- Of two unlike texts just one is less. -/
theorem ltS_one (a b : ByteArray) : (ltS a b == ltS b a) = decide (a = b) := by
  by_cases h : a = b
  · subst h; simp
  · rw [decide_eq_false h]
    cases h1 : ltS a b
    · cases h2 : ltS b a
      · exact absurd (ltS_tri h1 h2) h
      · rfl
    · rw [ltS_asymm h1]
      rfl

/-- They rise. -/
def RiseS (l : List ByteArray) : Prop := l.Pairwise fun a b => ltS a b = true
theorem RiseS.uniq : ∀ {l m : List ByteArray}, RiseS l → RiseS m → (∀ x, x ∈ l ↔ x ∈ m) → l = m
  | [], [], _, _, _ => rfl
  | [], b :: m, _, _, h => absurd ((h b).2 (by simp)) (by simp)
  | a :: l, [], _, _, h => absurd ((h a).1 (by simp)) (by simp)
  | a :: l, b :: m, hl, hm, h => by
    have hl' := List.pairwise_cons.1 hl
    have hm' := List.pairwise_cons.1 hm
    have e : a = b := by
      have h1 := (h a).1 (by simp)
      have h2 := (h b).2 (by simp)
      rcases List.mem_cons.1 h1 with h1 | h1
      · exact h1
      · rcases List.mem_cons.1 h2 with h2 | h2
        · exact h2.symm
        · have k1 := hm'.1 a h1
          have k2 := hl'.1 b h2
          rw [ltS_asymm k1] at k2
          cases k2
    subst e
    congr 1
    refine RiseS.uniq hl'.2 hm'.2 fun x => ⟨fun hx => ?_, fun hx => ?_⟩
    · rcases List.mem_cons.1 ((h x).1 (List.mem_cons_of_mem _ hx)) with e | e
      · subst e
        have := hl'.1 x hx
        rw [ltS_irrefl] at this
        cases this
      · exact e
    · rcases List.mem_cons.1 ((h x).2 (List.mem_cons_of_mem _ hx)) with e | e
      · subst e
        have := hm'.1 x hx
        rw [ltS_irrefl] at this
        cases this
      · exact e

/-! What slices.Sort and slices.Compact make of texts. -/
theorem compactUpTo_rises (d : Array (List UInt8)) (hs : ∀ i j, i ≤ j → j < d.size → d[i]! ≤ d[j]!) : ∀ m, m ≤ d.size → (Lib.compactUpTo d m).Pairwise (· < ·) ∧ ∀ x, x ∈ Lib.compactUpTo d m ↔ ∃ j, j < m ∧ d[j]! = x
  | 0, _ => by simp [Lib.compactUpTo]
  | m + 1, hm => by
    obtain ⟨h1, h2⟩ := compactUpTo_rises d hs m (by omega)
    rw [Lib.compactUpTo_succ]
    by_cases hk : Lib.keeps d m = true
    · rw [if_pos hk]
      refine ⟨List.pairwise_append.2 ⟨h1, by simp, fun x hx y hy => ?_⟩, fun x => ?_⟩
      · rw [List.mem_singleton] at hy
        subst hy
        obtain ⟨j, hj, rfl⟩ := (h2 x).1 hx
        have hle := hs j m (by omega) (by omega)
        unfold Lib.keeps at hk
        rw [decide_eq_true_eq] at hk
        rcases hk with hk | hk
        · omega
        · rcases List.le_iff_lt_or_eq.1 hle with h | h
          · exact h
          · exfalso
            have a1 := hs j (m - 1) (by omega) (by omega)
            have a2 := hs (m - 1) m (by omega) (by omega)
            rw [h] at a1
            exact hk (List.le_antisymm a1 a2)
      · rw [List.mem_append, h2, List.mem_singleton]
        constructor
        · rintro (⟨j, hj, e⟩ | rfl)
          · exact ⟨j, by omega, e⟩
          · exact ⟨m, by omega, rfl⟩
        · rintro ⟨j, hj, e⟩
          by_cases hjm : j = m
          · subst hjm; exact Or.inr e.symm
          · exact Or.inl ⟨j, by omega, e⟩
    · rw [if_neg hk, List.append_nil]
      refine ⟨h1, fun x => ?_⟩
      rw [h2]
      constructor
      · rintro ⟨j, hj, e⟩
        exact ⟨j, by omega, e⟩
      · rintro ⟨j, hj, e⟩
        by_cases hjm : j = m
        · subst hjm
          unfold Lib.keeps at hk
          rw [decide_eq_true_eq] at hk
          have h0 : ¬ j = 0 := fun h => hk (Or.inl h)
          have h3 : d[j]! = d[j - 1]! := Classical.byContradiction fun h => hk (Or.inr h)
          exact ⟨j - 1, by omega, by rw [← h3]; exact e⟩
        · exact ⟨j, by omega, e⟩
def sortL (l : List (List UInt8)) : List (List UInt8) := Lib.compact (l.mergeSort fun x y => decide (x ≤ y))
theorem sortL_rises (l : List (List UInt8)) : (sortL l).Pairwise (· < ·) ∧ ∀ x, x ∈ sortL l ↔ x ∈ l := by
  have hp : (l.mergeSort fun x y => decide (x ≤ y)).Pairwise (fun x y => decide (x ≤ y) = true) :=
    List.pairwise_mergeSort (fun a b c h1 h2 => by simp only [decide_eq_true_eq] at *; exact List.le_trans h1 h2) (fun a b => by simp only [Bool.or_eq_true, decide_eq_true_eq]; exact List.le_total a b) l
  have hm : ∀ x, x ∈ (l.mergeSort fun x y => decide (x ≤ y)) ↔ x ∈ l := fun x => (List.mergeSort_perm l _).mem_iff
  unfold sortL Lib.compact
  generalize (l.mergeSort fun x y => decide (x ≤ y)) = m at *
  have hs : ∀ i j, i ≤ j → j < m.toArray.size → m.toArray[i]! ≤ m.toArray[j]! := by
    intro i j hij hj
    have hj' : j < m.length := by simpa using hj
    rw [getElem!_pos _ i (by simp; omega), getElem!_pos _ j hj]
    simp only [List.getElem_toArray]
    by_cases e : i = j
    · subst e; exact List.le_refl _
    · have := List.pairwise_iff_getElem.1 hp i j (by omega) hj' (by omega)
      simpa using this
  obtain ⟨h1, h2⟩ := compactUpTo_rises m.toArray hs m.length (by simp)
  refine ⟨h1, fun x => ?_⟩
  rw [h2, ← hm x, List.mem_iff_getElem]
  constructor
  · rintro ⟨j, hj, e⟩
    exact ⟨j, hj, by rw [← e, getElem!_pos _ j (by simpa using hj)]; simp⟩
  · rintro ⟨j, hj, e⟩
    exact ⟨j, hj, by rw [← e, getElem!_pos _ j (by simpa using hj)]; simp⟩
/-- The texts of a list, each once, so that they rise. -/
def sortS (l : List ByteArray) : List ByteArray := (sortL (l.map (·.data.toList))).map fun b => ⟨b.toArray⟩
theorem sortS_rises (l : List ByteArray) : RiseS (sortS l) := by
  unfold RiseS sortS
  rw [List.pairwise_map]
  exact (sortL_rises _).1.imp fun h => by rw [ltS_iff]; exact h
theorem sortS_mem (l : List ByteArray) (s : ByteArray) : s ∈ sortS l ↔ s ∈ l := by
  unfold sortS
  rw [List.mem_map]
  constructor
  · rintro ⟨b, hb, rfl⟩
    obtain ⟨t, ht, e⟩ := List.mem_map.1 (((sortL_rises _).2 b).1 hb)
    rw [← bytes_data.2 e]
    exact ht
  · intro h
    exact ⟨s.data.toList, ((sortL_rises _).2 _).2 (List.mem_map.2 ⟨s, h, rfl⟩), by simp⟩
theorem sortS_len (l : List ByteArray) : (sortS l).length ≤ l.length := by
  unfold sortS sortL
  rw [List.length_map]
  refine Nat.le_trans (Lib.compact_length_le _) ?_
  rw [List.length_mergeSort, List.length_map]
  exact Nat.le_refl _
theorem sortS_sort (l : List ByteArray) : sortS (sortS l) = sortS l :=
  (sortS_rises _).uniq (sortS_rises _) fun x => sortS_mem _ x
theorem svals_sortS (l : List ByteArray) : svals (sortS l) = (sortL (l.map (·.data.toList))).map fun b => Value.string ⟨b.toArray⟩ := by
  unfold svals sortS
  rw [List.map_map]
  rfl

/-! How many are less, and whether it is one of them. -/
def fewerN (l : List ByteArray) (s : ByteArray) : Nat := l.countP fun x => ltS x s
def inB (l : List ByteArray) (s : ByteArray) : Bool := l.any fun x => decide (x = s)
theorem inB_true {l : List ByteArray} {s : ByteArray} (h : s ∈ l) : inB l s = true := List.any_eq_true.2 ⟨s, h, by simp⟩
theorem inB_false {l : List ByteArray} {s : ByteArray} (h : s ∉ l) : inB l s = false := List.any_eq_false.2 fun x hx e => h (by simp at e; rw [← e]; exact hx)
theorem fewerN_le (l : List ByteArray) (s : ByteArray) : fewerN l s ≤ l.length := List.countP_le_length
theorem fewerN_none {l : List ByteArray} {s : ByteArray} (h : ∀ x ∈ l, ltS x s = false) : fewerN l s = 0 := by
  unfold fewerN
  rw [List.countP_eq_zero]
  intro x hx
  rw [h x hx]
  simp
theorem fewerN_iff : ∀ {l : List ByteArray} (s : ByteArray), RiseS l → ∀ t (ht : t < l.length), ltS l[t] s = true ↔ t < fewerN l s
  | a :: l, s, hr, t, ht => by
    have hr' := List.pairwise_cons.1 hr
    cases ha : ltS a s
    · have hn : ∀ x ∈ l, ltS x s = false := fun x hx => by
        cases hx2 : ltS x s with
        | false => rfl
        | true =>
          have := ltS_trans (hr'.1 x hx) hx2
          rw [ha] at this
          cases this
      have h0 : fewerN (a :: l) s = 0 := fewerN_none fun x hx => by
        rcases List.mem_cons.1 hx with rfl | hx
        · exact ha
        · exact hn x hx
      have h1 : ltS (a :: l)[t] s = false := by
        have := List.getElem_mem ht
        rcases List.mem_cons.1 this with e | e
        · rw [e]; exact ha
        · exact hn _ e
      rw [h0, h1]
      simp
    · have h1 : fewerN (a :: l) s = fewerN l s + 1 := by unfold fewerN; rw [List.countP_cons, ha]; rfl
      rw [h1]
      cases t with
      | zero => simp [ha]
      | succ t =>
        rw [List.getElem_cons_succ, fewerN_iff s hr'.2 t (by simpa using ht)]
        omega
theorem place_rises {l : List ByteArray} (s : ByteArray) (hr : RiseS l) (n : Nat) (hn : l.length = n) :
    Lib.bsGo (fun t => Op.bytesLess (l.getD t s).toList s.toList) n 0 n = fewerN l s ∧ decide (fewerN l s < n ∧ l.getD (fewerN l s) s = s) = inB l s := by
  subst hn
  constructor
  · refine Lib.bsGo_spec _ (fewerN l s) (fun t ht => ?_) (fun t ht => ?_) _ _ _ (by omega) (by omega) (fewerN_le l s)
    · have h1 : t < l.length := Nat.lt_of_lt_of_le ht (fewerN_le l s)
      have := (fewerN_iff s hr t h1).2 ht
      show ltS (l.getD t s) s = true
      simpa [List.getD, h1] using this
    · show ltS (l.getD t s) s = false
      by_cases h1 : t < l.length
      · cases h2 : ltS l[t] s with
        | false => simpa [List.getD, h1] using h2
        | true =>
          have := (fewerN_iff s hr t h1).1 h2
          omega
      · have : l.getD t s = s := by simp [List.getD, show l.length ≤ t by omega]
        rw [this, ltS_irrefl]
  · by_cases hm : s ∈ l
    · rw [inB_true hm]
      obtain ⟨i, hi, e⟩ := List.mem_iff_getElem.1 hm
      have h1 : ¬ i < fewerN l s := fun h => by
        have := (fewerN_iff s hr i hi).2 h
        rw [e, ltS_irrefl] at this
        cases this
      have h2 : ¬ fewerN l s < i := fun h => by
        have k1 : ltS l[fewerN l s] l[i] = true := List.pairwise_iff_getElem.1 hr _ _ (by omega) hi h
        rw [e] at k1
        have := (fewerN_iff s hr _ (by omega)).1 k1
        omega
      have h3 : fewerN l s = i := by omega
      rw [h3]
      simp [List.getD, hi, e]
    · rw [inB_false hm, decide_eq_false_iff_not]
      rintro ⟨h1, h2⟩
      apply hm
      rw [← h2]
      simp [List.getD, h1]
theorem bsGo_le (less : Nat → Bool) : ∀ (f lo hi : Nat), lo ≤ hi → Lib.bsGo less f lo hi ≤ hi
  | 0, lo, hi, h => by simpa [Lib.bsGo] using h
  | f + 1, lo, hi, h => by
    unfold Lib.bsGo
    by_cases h1 : lo < hi
    · rw [if_pos h1]
      cases less ((lo + hi) / 2)
      · rw [if_neg (by simp)]
        exact Nat.le_trans (bsGo_le less f lo _ (by omega)) (by omega)
      · rw [if_pos rfl]
        exact bsGo_le less f _ hi (by omega)
    · rw [if_neg h1]
      exact h
theorem fewerN_next (l : List ByteArray) (s : ByteArray) (k : Nat) (hk : k < l.length) : fewerN (l.take (k + 1)) s = fewerN (l.take k) s + if ltS l[k] s then 1 else 0 := by
  unfold fewerN
  rw [List.take_succ_eq_append_getElem hk, List.countP_append, List.countP_singleton]
theorem inB_next (l : List ByteArray) (s : ByteArray) (k : Nat) (hk : k < l.length) : inB (l.take (k + 1)) s = (inB (l.take k) s || decide (l[k] = s)) := by
  unfold inB
  rw [List.take_succ_eq_append_getElem hk, List.any_append]
  simp

/-- Does each one stand behind the one ahead of it? -/
def riseB (l : List ByteArray) : Bool := (List.range (l.length - 1)).all fun i => ltS (l.getD i ⟨#[]⟩) (l.getD (i + 1) ⟨#[]⟩)
theorem riseB_next {l : List ByteArray} (h : riseB l = true) (i : Nat) (hi : i + 1 < l.length) : ltS l[i] l[i + 1] = true := by
  have := List.all_eq_true.1 h i (List.mem_range.2 (by omega))
  simpa [List.getD, hi, show i < l.length by omega] using this
theorem riseB_not {l : List ByteArray} (i : Nat) (hi : i + 1 < l.length) (h : ltS l[i] l[i + 1] = false) : riseB l = false := by
  unfold riseB
  rw [List.all_eq_false]
  exact ⟨i, List.mem_range.2 (by omega), by simpa [List.getD, hi, show i < l.length by omega] using h⟩
theorem riseB_all {l : List ByteArray} (h : ∀ i, (hi : i + 1 < l.length) → ltS l[i] l[i + 1] = true) : riseB l = true := by
  unfold riseB
  rw [List.all_eq_true]
  intro i hi
  have hi' := List.mem_range.1 hi
  have := h i (by omega)
  simpa [List.getD, show i + 1 < l.length by omega, show i < l.length by omega] using this
theorem riseB_rises {l : List ByteArray} (h : riseB l = true) : RiseS l := by
  refine List.pairwise_iff_getElem.2 fun i j hi hj hij => ?_
  induction j with
  | zero => omega
  | succ j ih =>
    have h1 := riseB_next h j hj
    by_cases e : i = j
    · subst e; exact h1
    · exact ltS_trans (ih (by omega) (by omega)) h1

/-! One less than another, byte by byte. -/
theorem less_step (A B : List UInt8) (k : Nat) (ha : k < A.length) (hb : k < B.length) :
    Op.bytesLess (A.drop k) (B.drop k) = (decide (A[k] < B[k]) || (A[k] == B[k] && Op.bytesLess (A.drop (k + 1)) (B.drop (k + 1)))) := by
  rw [List.drop_eq_getElem_cons ha, List.drop_eq_getElem_cons hb, Op.bytesLess]
theorem less_end (A B : List UInt8) (k : Nat) (h : A.length ≤ k ∨ B.length ≤ k) (ha : k ≤ A.length) (hb : k ≤ B.length) : Op.bytesLess (A.drop k) (B.drop k) = decide (A.length < B.length) := by
  by_cases h1 : B.length ≤ k
  · rw [List.drop_of_length_le h1, decide_eq_false (by omega)]
    cases A.drop k <;> rfl
  · rw [List.drop_of_length_le (show A.length ≤ k by omega), decide_eq_true (by omega), List.drop_eq_getElem_cons (by omega)]
    rfl

end Go.Proofs.Ytfgkbjpiffaeeaa
