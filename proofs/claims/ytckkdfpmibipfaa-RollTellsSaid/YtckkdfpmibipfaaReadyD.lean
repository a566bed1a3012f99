/-
  Which changes of a block are ready, place by place, and which bytes those have that are not: as a loop goes through them. Plain; no program is named here.
-/
import Derived.Test.YtckkdfpmibipfaaReadyB
namespace Go.Proofs.Ytckkdfpmibipfaa

/-- What is ready among the first i. -/
def rdN (l : List Cg) (block : Int) : Nat → List Int
  | 0 => []
  | i + 1 => if (l.getD i default).block = block ∧ ((waitsC l (l.getD i default).id).all fun x => (rdN l block i).contains x) = true then rdN l block i ++ [(l.getD i default).id] else rdN l block i
theorem rdN_succ {l : List Cg} {block : Int} {i : Nat} (hi : i < l.length) :
    rdN l block (i + 1) = if l[i].block = block ∧ ((waitsC l l[i].id).all fun x => (rdN l block i).contains x) = true then rdN l block i ++ [l[i].id] else rdN l block i := by
  have e : l.getD i default = l[i] := by simp [List.getD, hi]
  show (if _ then _ else _) = _
  rw [e]
theorem readyC_rdN {l : List Cg} (block : Int) (hm : mayC l = true) : readyC l block = rdN l block l.length := by
  have key : ∀ i, i ≤ l.length → readyC l block = readyGo block (l.take i) (rdN l block i) (l.drop i) := by
    intro i
    induction i with
    | zero => intro _; unfold readyC; rw [if_pos hm]; rfl
    | succ i ih =>
      intro hi
      rw [ih (by omega), readyGo_at hm (by omega), rdN_succ (by omega)]
  rw [key l.length (Nat.le_refl _), List.take_length, List.drop_length]
  rfl
theorem mayC_ids {l : List Cg} (hm : mayC l = true) {i j : Nat} (hi : i < l.length) (hj : j < l.length) (h : l[i].id = l[j].id) : i = j := by
  have key : ∀ (b : Int) (l : List Cg), mayN b l = true → ∀ i j (hj : j < l.length) (hij : i < j), (l[i]'(by omega)).id < l[j].id := by
    intro b l
    induction l generalizing b with
    | nil => intro _ i j hj; simp at hj
    | cons c l ih =>
      intro hm i j hj hij
      obtain ⟨h1, h2⟩ := mayN_cons.1 hm
      cases j with
      | zero => omega
      | succ j =>
        have hj' : j < l.length := by simpa using hj
        cases i with
        | zero =>
          have := mayN_gt h2 l[j] (List.getElem_mem hj')
          simpa using this
        | succ i =>
          have := ih c.id h2 i j hj' (by omega)
          simpa using this
  rcases Nat.lt_trichotomy i j with h1 | h1 | h1
  · have := key 0 l hm i j hj h1; omega
  · exact h1
  · have := key 0 l hm j i hi h1; omega
theorem rdN_mem {l : List Cg} {block : Int} {i : Nat} (hi : i ≤ l.length) : ∀ x ∈ rdN l block i, ∃ k, ∃ h : k < l.length, k < i ∧ l[k].id = x := by
  induction i with
  | zero => intro x hx; simp [rdN] at hx
  | succ i ih =>
    intro x hx
    rw [rdN_succ (by omega)] at hx
    split at hx
    · rcases List.mem_append.1 hx with hx | hx
      · obtain ⟨k, h, h1, h2⟩ := ih (by omega) x hx
        exact ⟨k, h, by omega, h2⟩
      · rw [List.mem_singleton] at hx
        exact ⟨i, by omega, by omega, hx.symm⟩
    · obtain ⟨k, h, h1, h2⟩ := ih (by omega) x hx
      exact ⟨k, h, by omega, h2⟩
theorem rdN_len (l : List Cg) (block : Int) (i : Nat) : (rdN l block i).length ≤ i := by
  induction i with
  | zero => simp [rdN]
  | succ i ih =>
    unfold rdN
    split
    · rw [List.length_append]; simp; omega
    · omega
/-- A byte that one has which is not ready. -/
def heldN (l : List Cg) (block : Int) (i j : Nat) : Bool := (l.take i).any fun d => decide (d.block = block) && !(rdN l block i).contains d.id && d.p.has j
theorem heldN_iff {l : List Cg} {block : Int} {i j : Nat} : heldN l block i j = true ↔ ∃ k, ∃ h : k < l.length, k < i ∧ l[k].block = block ∧ l[k].id ∉ rdN l block i ∧ l[k].p.has j = true := by
  unfold heldN
  rw [List.any_eq_true]
  constructor
  · rintro ⟨d, hd, h⟩
    obtain ⟨k, hk, rfl⟩ := List.getElem_of_mem hd
    have hk' : k < l.length ∧ k < i := by simp at hk; omega
    rw [List.getElem_take] at h
    simp at h
    exact ⟨k, hk'.1, hk'.2, h.1.1, h.1.2, h.2⟩
  · rintro ⟨k, hk, hki, h1, h2, h3⟩
    exact ⟨l[k], List.mem_take_iff_getElem.2 ⟨k, by omega, rfl⟩, by simp [h1, h2, h3]⟩
theorem heldN_zero (l : List Cg) (block : Int) (j : Nat) : heldN l block 0 j = false := rfl
/-- Of the block's number, and not: who was not ready ahead is not ready. -/
theorem rdN_old {l : List Cg} {block : Int} (hm : mayC l = true) {i k : Nat} (hi : i < l.length) (hk : k < i) : l[k].id ∈ rdN l block (i + 1) ↔ l[k].id ∈ rdN l block i := by
  rw [rdN_succ hi]
  split
  · rw [List.mem_append, List.mem_singleton]
    constructor
    · rintro (h | h)
      · exact h
      · have := mayC_ids hm (by omega) hi h; omega
    · exact Or.inl
  · exact Iff.rfl
theorem rdN_self {l : List Cg} {block : Int} (hm : mayC l = true) {i : Nat} (hi : i < l.length) : l[i].id ∉ rdN l block i := fun h => by
  obtain ⟨k, hk, h1, h2⟩ := rdN_mem (by omega) _ h
  have := mayC_ids hm hk hi h2
  omega
/-- Of another block. -/
theorem rd_skip {l : List Cg} {block : Int} {i : Nat} (hi : i < l.length) (hb : l[i].block ≠ block) : rdN l block (i + 1) = rdN l block i ∧ ∀ j, heldN l block (i + 1) j = heldN l block i j := by
  have e : rdN l block (i + 1) = rdN l block i := by rw [rdN_succ hi, if_neg (fun h => hb h.1)]
  refine ⟨e, fun j => ?_⟩
  rw [Bool.eq_iff_iff, heldN_iff, heldN_iff, e]
  constructor
  · rintro ⟨k, hk, h1, h2, h3⟩
    have hne : k ≠ i := fun h => by subst h; exact hb h2
    exact ⟨k, hk, by omega, h2, h3⟩
  · rintro ⟨k, hk, h1, h2⟩
    exact ⟨k, hk, by omega, h2⟩
/-- Is there one of this number? -/
def hasId (l : List Cg) (x : Int) : Bool := l.any fun c => decide (c.id = x)
theorem hasId_iff {l : List Cg} {x : Int} : hasId l x = true ↔ ∃ c ∈ l, c.id = x := by unfold hasId; simp
/-- Is one of the first n so? -/
def anyN (f : Nat → Bool) : Nat → Bool
  | 0 => false
  | n + 1 => anyN f n || f n
theorem anyN_iff {f : Nat → Bool} {n : Nat} : anyN f n = true ↔ ∃ j, j < n ∧ f j = true := by
  induction n with
  | zero => simp [anyN]
  | succ n ih =>
    show (anyN f n || f n) = true ↔ _
    rw [Bool.or_eq_true, ih]
    constructor
    · rintro (⟨j, h1, h2⟩ | h)
      · exact ⟨j, by omega, h2⟩
      · exact ⟨n, by omega, h⟩
    · rintro ⟨j, h1, h2⟩
      by_cases h : j = n
      · subst h; exact Or.inr h2
      · exact Or.inl ⟨j, by omega, h2⟩
/-- What keeps the one at place i back: a byte that is held, or a need that is left. -/
def hitN (l : List Cg) (block : Int) (i : Nat) (c : Cg) : Bool := anyN (fun j => heldN l block i (c.p.lo + j)) c.p.data.length || c.needs.any fun x => hasId l x && !(rdN l block i).contains x
theorem riseN_below {e b : Int} {l : List Int} (h : riseN e b l = true) : ∀ x ∈ l, x < e := by
  induction l generalizing b with
  | nil => simp
  | cons x l ih =>
    obtain ⟨_, h2, h3⟩ := riseN_cons.1 h
    intro y hy
    rcases List.mem_cons.1 hy with rfl | hy
    · exact h2
    · exact ih h3 y hy
theorem hit_iff {l : List Cg} {block : Int} {i : Nat} (hm : mayC l = true) (hi : i < l.length) (hb : l[i].block = block) : ((waitsC l l[i].id).all fun x => (rdN l block i).contains x) = !hitN l block i l[i] := by
  obtain ⟨_, _, hr, hn⟩ := mayN_iff.1 hm i hi
  have hl : l = l.take i ++ l[i] :: l.drop (i + 1) := by rw [List.getElem_cons_drop, List.take_append_drop]
  have hlo := Pt.right_iff.1 hr
  rw [waitsC_mid hm hl]
  rw [Bool.eq_iff_iff, Bool.not_eq_true', List.all_eq_true]
  have keeps : ∀ d, keepsB d l[i] = true ↔ (d.block = block ∧ meetP d.p l[i].p = true) ∨ d.id ∈ l[i].needs := fun d => by
    unfold keepsB
    rw [hb]
    simp
  constructor
  · intro h
    rw [Bool.eq_false_iff]
    intro hit
    unfold hitN at hit
    rw [Bool.or_eq_true] at hit
    have bad : ∀ k (hk : k < l.length), k < i → keepsB l[k] l[i] = true → l[k].id ∉ rdN l block i → False := fun k hk hki h1 h2 => by
      have := h l[k].id (List.mem_map.2 ⟨l[k], List.mem_filter.2 ⟨List.mem_take_iff_getElem.2 ⟨k, by omega, rfl⟩, h1⟩, rfl⟩)
      exact h2 (by simpa using this)
    rcases hit with hit | hit
    · obtain ⟨j, hj, hh⟩ := anyN_iff.1 hit
      obtain ⟨k, hk, hki, h1, h2, h3⟩ := heldN_iff.1 hh
      refine bad k hk hki ((keeps _).2 (Or.inl ⟨h1, meetP_iff.2 ⟨_, h3, Pt.has_iff.2 ⟨hr, by omega, by omega⟩⟩⟩)) h2
    · obtain ⟨x, hx, hh⟩ := List.any_eq_true.1 hit
      rw [Bool.and_eq_true] at hh
      obtain ⟨c, hc, hcx⟩ := hasId_iff.1 hh.1
      obtain ⟨k, hk, rfl⟩ := List.getElem_of_mem hc
      have hlt := riseN_below hn x hx
      have hki : k < i := by
        rcases Nat.lt_trichotomy k i with h1 | h1 | h1
        · exact h1
        · subst h1; omega
        · have key : ∀ a b (hb : b < l.length) (hab : a < b), (l[a]'(by omega)).id < l[b].id := by
            intro a b hb hab
            induction b with
            | zero => omega
            | succ b ih =>
              have h5 := (mayN_iff.1 hm (b + 1) hb).1
              rw [if_neg (by omega)] at h5
              simp only [Nat.add_sub_cancel] at h5
              by_cases hab' : a = b
              · subst hab'; exact h5
              · have := ih (by omega) (by omega)
                omega
          have := key i k hk h1
          omega
      exact bad k hk hki ((keeps _).2 (Or.inr (by rw [hcx]; exact hx))) (by rw [hcx]; simpa using hh.2)
  · intro hit x hx
    obtain ⟨d, hd, rfl⟩ := List.mem_map.1 hx
    obtain ⟨hd1, hd2⟩ := List.mem_filter.1 hd
    obtain ⟨k, hk, rfl⟩ := List.mem_take_iff_getElem.1 hd1
    have hkl : k < l.length := by omega
    rw [show ((rdN l block i).contains l[k].id = true) ↔ l[k].id ∈ rdN l block i by simp]
    apply Classical.byContradiction
    intro hno
    unfold hitN at hit
    rw [Bool.or_eq_false_iff] at hit
    rcases (keeps _).1 hd2 with ⟨h1, h2⟩ | h1
    · obtain ⟨j, h3, h4⟩ := meetP_iff.1 h2
      obtain ⟨_, h5, h6⟩ := Pt.has_iff.1 h4
      have : anyN (fun j => heldN l block i (l[i].p.lo + j)) l[i].p.data.length = true := anyN_iff.2 ⟨j - l[i].p.lo, by omega, by
        rw [show l[i].p.lo + (j - l[i].p.lo) = j by omega]
        exact heldN_iff.2 ⟨k, hkl, by omega, h1, hno, h3⟩⟩
      rw [this] at hit
      cases hit.1
    · have : (l[i].needs.any fun x => hasId l x && !(rdN l block i).contains x) = true := List.any_eq_true.2 ⟨_, h1, by
        rw [Bool.and_eq_true]
        exact ⟨hasId_iff.2 ⟨_, List.getElem_mem hkl, rfl⟩, by simpa using hno⟩⟩
      rw [this] at hit
      cases hit.2
/-- One of the block that is kept back: its bytes are held. -/
theorem rd_hit {l : List Cg} {block : Int} {i : Nat} (hm : mayC l = true) (hi : i < l.length) (hb : l[i].block = block) (h : hitN l block i l[i] = true) :
    rdN l block (i + 1) = rdN l block i ∧ ∀ j, heldN l block (i + 1) j = (heldN l block i j || decide (l[i].p.lo ≤ j ∧ j < l[i].p.lo + l[i].p.data.length)) := by
  have e : rdN l block (i + 1) = rdN l block i := by
    rw [rdN_succ hi, if_neg (fun hh => by rw [hit_iff hm hi hb, h] at hh; simp at hh)]
  refine ⟨e, fun j => ?_⟩
  obtain ⟨_, _, hr, _⟩ := mayN_iff.1 hm i hi
  rw [Bool.eq_iff_iff, Bool.or_eq_true, heldN_iff, heldN_iff, e]
  simp only [decide_eq_true_eq]
  constructor
  · rintro ⟨k, hk, h1, h2, h3, h4⟩
    by_cases hki : k = i
    · subst hki
      exact Or.inr (Pt.has_iff.1 h4).2
    · exact Or.inl ⟨k, hk, by omega, h2, h3, h4⟩
  · rintro (⟨k, hk, h1, h2⟩ | hj)
    · exact ⟨k, hk, by omega, h2⟩
    · exact ⟨i, hi, by omega, hb, rdN_self hm hi, Pt.has_iff.2 ⟨hr, hj⟩⟩
/-- One that is ready. -/
theorem rd_free {l : List Cg} {block : Int} {i : Nat} (hm : mayC l = true) (hi : i < l.length) (hb : l[i].block = block) (h : hitN l block i l[i] = false) :
    rdN l block (i + 1) = rdN l block i ++ [l[i].id] ∧ ∀ j, heldN l block (i + 1) j = heldN l block i j := by
  have e : rdN l block (i + 1) = rdN l block i ++ [l[i].id] := by
    rw [rdN_succ hi, if_pos ⟨hb, by rw [hit_iff hm hi hb, h]; rfl⟩]
  refine ⟨e, fun j => ?_⟩
  rw [Bool.eq_iff_iff, heldN_iff, heldN_iff]
  constructor
  · rintro ⟨k, hk, h1, h2, h3, h4⟩
    by_cases hki : k = i
    · subst hki
      exact absurd (by rw [e]; simp) h3
    · exact ⟨k, hk, by omega, h2, fun hh => h3 ((rdN_old hm hi (by omega)).2 hh), h4⟩
  · rintro ⟨k, hk, h1, h2, h3, h4⟩
    exact ⟨k, hk, by omega, h2, fun hh => h3 ((rdN_old hm hi h1).1 hh), h4⟩

end Go.Proofs.Ytckkdfpmibipfaa
