/-
  What sorting and compacting make of numbers; the blocks of a list by places. Plain; no program is named here.
-/
import Derived.Test.YtkhgoblmfcaapaaReadyB
import Derived.Lib.SlicesCompact
import Derived.Lib.RowBridge
namespace Go.Proofs.Ytkhgoblmfcaapaa

theorem compactUpToI_rises (d : Array Int) (hs : ∀ i j, i ≤ j → j < d.size → d[i]! ≤ d[j]!) : ∀ m, m ≤ d.size → (Lib.compactUpTo d m).Pairwise (· < ·) ∧ ∀ x, x ∈ Lib.compactUpTo d m ↔ ∃ j, j < m ∧ d[j]! = x
  | 0, _ => by simp [Lib.compactUpTo]
  | m + 1, hm => by
    obtain ⟨h1, h2⟩ := compactUpToI_rises d hs m (by omega)
    rw [Lib.compactUpTo_succ]
    by_cases hk : Lib.keeps d m = true
    · rw [if_pos hk]
      refine ⟨List.pairwise_append.2 ⟨h1, by simp, fun x hx y hy => ?_⟩, fun x => ?_⟩
      · rw [List.mem_singleton] at hy
        subst hy
        obtain ⟨j, hj, rfl⟩ := (h2 x).1 hx
        have hle := hs j m (by omega) (by omega)
        unfold Lib.keeps at hk
        rw [decide_eq_true_eq] at hk
        rcases hk with hk | hk
        · omega
        · have a1 := hs j (m - 1) (by omega) (by omega)
          have a2 := hs (m - 1) m (by omega) (by omega)
          omega
      · rw [List.mem_append, h2, List.mem_singleton]
        constructor
        · rintro (⟨j, hj, e⟩ | rfl)
          · exact ⟨j, by omega, e⟩
          · exact ⟨m, by omega, rfl⟩
        · rintro ⟨j, hj, e⟩
          by_cases hjm : j = m
          · subst hjm; exact Or.inr e.symm
          · exact Or.inl ⟨j, by omega, e⟩
    · rw [if_neg hk, List.append_nil]
      refine ⟨h1, fun x => ?_⟩
      rw [h2]
      constructor
      · rintro ⟨j, hj, e⟩
        exact ⟨j, by omega, e⟩
      · rintro ⟨j, hj, e⟩
        by_cases hjm : j = m
        · subst hjm
          unfold Lib.keeps at hk
          rw [decide_eq_true_eq] at hk
          have h0 : ¬ j = 0 := fun h => hk (Or.inl h)
          have h3 : d[j]! = d[j - 1]! := Classical.byContradiction fun h => hk (Or.inr h)
          exact ⟨j - 1, by omega, by rw [← h3]; exact e⟩
        · exact ⟨j, by omega, e⟩
def sortI (l : List Int) : List Int := Lib.compact (l.mergeSort fun x y => decide (x ≤ y))
theorem sortI_rises (l : List Int) : RiseI (sortI l) ∧ ∀ x, x ∈ sortI l ↔ x ∈ l := by
  have hp : (l.mergeSort fun x y => decide (x ≤ y)).Pairwise (fun x y => decide (x ≤ y) = true) :=
    List.pairwise_mergeSort (fun a b c h1 h2 => by simp only [decide_eq_true_eq] at *; omega) (fun a b => by simp only [Bool.or_eq_true, decide_eq_true_eq]; omega) l
  have hm : ∀ x, x ∈ (l.mergeSort fun x y => decide (x ≤ y)) ↔ x ∈ l := fun x => (List.mergeSort_perm l _).mem_iff
  unfold sortI Lib.compact
  generalize (l.mergeSort fun x y => decide (x ≤ y)) = m at *
  have hs : ∀ i j, i ≤ j → j < m.toArray.size → m.toArray[i]! ≤ m.toArray[j]! := by
    intro i j hij hj
    have hj' : j < m.length := by simpa using hj
    rw [getElem!_pos _ i (by simp; omega), getElem!_pos _ j hj]
    simp only [List.getElem_toArray]
    by_cases e : i = j
    · subst e; exact Int.le_refl _
    · have := List.pairwise_iff_getElem.1 hp i j (by omega) hj' (by omega)
      simpa using this
  obtain ⟨h1, h2⟩ := compactUpToI_rises m.toArray hs m.length (by simp)
  refine ⟨h1, fun x => ?_⟩
  rw [h2, ← hm x, List.mem_iff_getElem]
  constructor
  · rintro ⟨j, hj, e⟩
    exact ⟨j, hj, by rw [← e, getElem!_pos _ j (by simpa using hj)]; simp⟩
  · rintro ⟨j, hj, e⟩
    exact ⟨j, hj, by rw [← e, getElem!_pos _ j (by simpa using hj)]; simp⟩
theorem sortI_blocks (l : List Cg) : sortI (l.map (·.block)) = blocksC l :=
  (sortI_rises _).1.uniq (blocksC_rise l) fun x => by rw [(sortI_rises _).2, blocksC_mem]; simp
/-- May one stand behind the first m that rise? -/
def behind (S : List Int) (m : Nat) (b : Int) : Bool := decide (m = 0) || decide (S.getD (m - 1) 0 < b)
theorem rise_get {S : List Int} (h : RiseI S) {i j : Nat} (hij : i < j) (hj : j < S.length) : S[i]'(by omega) < S[j] := List.pairwise_iff_getElem.1 h i j (by omega) hj hij
theorem behind_end {S : List Int} (h : RiseI S) {b : Int} (hb : b ∈ S) : behind S S.length b = false := by
  obtain ⟨i, hi, rfl⟩ := List.getElem_of_mem hb
  unfold behind
  have e : S.getD (S.length - 1) 0 = S[S.length - 1]'(by omega) := by simp [List.getD, show S.length - 1 < S.length by omega]
  rw [e, decide_eq_false (by omega), Bool.false_or]
  apply decide_eq_false
  by_cases hc : i = S.length - 1
  · subst hc; omega
  · have := rise_get h (i := i) (j := S.length - 1) (by omega) (by omega)
    omega
theorem behind_next {S : List Int} (h : RiseI S) {m : Nat} (hm : m < S.length) : behind S m S[m] = true := by
  unfold behind
  by_cases h0 : m = 0
  · simp [h0]
  · have e : S.getD (m - 1) 0 = S[m - 1]'(by omega) := by simp [List.getD, show m - 1 < S.length by omega]
    have := rise_get h (i := m - 1) (j := m) (by omega) hm
    rw [e, decide_eq_true this, Bool.or_true]
theorem behind_least {S : List Int} (h : RiseI S) {m : Nat} (hm : m < S.length) {b : Int} (hb : b ∈ S) (hbe : behind S m b = true) : S[m] ≤ b := by
  obtain ⟨i, hi, rfl⟩ := List.getElem_of_mem hb
  apply Classical.byContradiction
  intro hlt
  have him : i < m := by
    rcases Nat.lt_trichotomy i m with h1 | h1 | h1
    · exact h1
    · subst h1; omega
    · have := rise_get h h1 hi; omega
  unfold behind at hbe
  rw [decide_eq_false (by omega), Bool.false_or] at hbe
  have e : S.getD (m - 1) 0 = S[m - 1]'(by omega) := by simp [List.getD, show m - 1 < S.length by omega]
  have hbe := of_decide_eq_true hbe
  rw [e] at hbe
  by_cases hc : i = m - 1
  · subst hc; omega
  · have := rise_get h (i := i) (j := m - 1) (by omega) (by omega)
    omega
/-- The least of the first j that stands behind; whether there is one. -/
def Least (S : List Int) (m : Nat) (l : List Cg) (j : Nat) (x : Int) (f : Bool) : Prop :=
  (f = false ∧ ∀ i (h : i < l.length), i < j → behind S m l[i].block = false) ∨
  (f = true ∧ (∃ i, ∃ h : i < l.length, i < j ∧ l[i].block = x) ∧ behind S m x = true ∧ ∀ i (h : i < l.length), i < j → behind S m l[i].block = true → x ≤ l[i].block)
theorem Least.start (S : List Int) (m : Nat) (l : List Cg) (x : Int) : Least S m l 0 x false := Or.inl ⟨rfl, fun i _ h => absurd h (Nat.not_lt_zero _)⟩
theorem Least.skip {S : List Int} {m : Nat} {l : List Cg} {j : Nat} {x : Int} {f : Bool} (h : Least S m l j x f) (hj : j < l.length) (hb : behind S m l[j].block = false) : Least S m l (j + 1) x f := by
  rcases h with ⟨rfl, h1⟩ | ⟨rfl, ⟨i, hi, h1, h2⟩, h3, h4⟩
  · refine Or.inl ⟨rfl, fun i hi hij => ?_⟩
    by_cases hc : i = j
    · subst hc; exact hb
    · exact h1 i hi (by omega)
  · refine Or.inr ⟨rfl, ⟨i, hi, by omega, h2⟩, h3, fun k hk hkj hbk => ?_⟩
    by_cases hc : k = j
    · subst hc; rw [hb] at hbk; cases hbk
    · exact h4 k hk (by omega) hbk
theorem Least.keep {S : List Int} {m : Nat} {l : List Cg} {j : Nat} {x : Int} (h : Least S m l j x true) (hj : j < l.length) (hx : x ≤ l[j].block) : Least S m l (j + 1) x true := by
  rcases h with ⟨h0, _⟩ | ⟨_, ⟨i, hi, h1, h2⟩, h3, h4⟩
  · cases h0
  · refine Or.inr ⟨rfl, ⟨i, hi, by omega, h2⟩, h3, fun k hk hkj hbk => ?_⟩
    by_cases hc : k = j
    · subst hc; exact hx
    · exact h4 k hk (by omega) hbk
theorem Least.put {S : List Int} {m : Nat} {l : List Cg} {j : Nat} {x : Int} {f : Bool} (h : Least S m l j x f) (hj : j < l.length) (hb : behind S m l[j].block = true) (hx : f = false ∨ l[j].block < x) : Least S m l (j + 1) l[j].block true := by
  refine Or.inr ⟨rfl, ⟨j, hj, by omega, rfl⟩, hb, fun k hk hkj hbk => ?_⟩
  by_cases hc : k = j
  · subst hc; exact Int.le_refl _
  · rcases h with ⟨_, h1⟩ | ⟨h0, _, _, h4⟩
    · rw [h1 k hk (by omega)] at hbk; cases hbk
    · rcases hx with hx | hx
      · rw [h0] at hx; cases hx
      · have := h4 k hk (by omega) hbk
        omega
theorem Least.end_no {l : List Cg} {m : Nat} {x : Int} (h : Least (blocksC l) m l l.length x false) (hm : m ≤ (blocksC l).length) : m = (blocksC l).length := by
  rcases h with ⟨_, h1⟩ | ⟨h0, _⟩
  · apply Classical.byContradiction
    intro hne
    have hlt : m < (blocksC l).length := by omega
    obtain ⟨c, hc, he⟩ := (blocksC_mem l _).1 (List.getElem_mem hlt)
    obtain ⟨i, hi, rfl⟩ := List.getElem_of_mem hc
    have := h1 i hi hi
    rw [he, behind_next (blocksC_rise l) hlt] at this
    cases this
  · cases h0
theorem Least.end_yes {l : List Cg} {m : Nat} {x : Int} (h : Least (blocksC l) m l l.length x true) (hm : m ≤ (blocksC l).length) : ∃ h : m < (blocksC l).length, (blocksC l)[m] = x := by
  rcases h with ⟨h0, _⟩ | ⟨_, ⟨i, hi, _, h2⟩, h3, h4⟩
  · cases h0
  · have hx : x ∈ blocksC l := (blocksC_mem l _).2 ⟨_, List.getElem_mem hi, h2⟩
    have hlt : m < (blocksC l).length := by
      apply Classical.byContradiction
      intro hne
      obtain rfl : m = (blocksC l).length := by omega
      rw [behind_end (blocksC_rise l) hx] at h3
      cases h3
    refine ⟨hlt, Int.le_antisymm (behind_least (blocksC_rise l) hlt hx h3) ?_⟩
    obtain ⟨c, hc, he⟩ := (blocksC_mem l _).1 (List.getElem_mem hlt)
    obtain ⟨k, hk, rfl⟩ := List.getElem_of_mem hc
    have := h4 k hk hk (by rw [he]; exact behind_next (blocksC_rise l) hlt)
    rw [he] at this
    exact this
theorem blocksC_len (l : List Cg) : (blocksC l).length ≤ l.length := by
  rw [← sortI_blocks]
  unfold sortI
  refine Nat.le_trans (Lib.compact_length_le _) ?_
  rw [List.length_mergeSort, List.length_map]
  exact Nat.le_refl _

end Go.Proofs.Ytkhgoblmfcaapaa
