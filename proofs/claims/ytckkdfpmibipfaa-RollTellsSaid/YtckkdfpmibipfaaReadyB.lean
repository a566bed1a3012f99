/-
  Lists of changes by their places: as loops go through them; the blocks of a list, rising. Plain; no program is named here.
-/
import Derived.Test.YtckkdfpmibipfaaReadyA
namespace Go.Proofs.Ytckkdfpmibipfaa

theorem riseN_cons {e b x : Int} {l : List Int} : riseN e b (x :: l) = true ↔ b < x ∧ x < e ∧ riseN e x l = true := by
  show (decide (b < x) && decide (x < e) && riseN e x l) = true ↔ _
  simp only [Bool.and_eq_true, decide_eq_true_eq, and_assoc]
theorem riseN_iff {e b : Int} {l : List Int} : riseN e b l = true ↔ ∀ i (h : i < l.length), l[i] < e ∧ (if i = 0 then b < l[i] else l[i - 1] < l[i]) := by
  induction l generalizing b with
  | nil => simp [riseN]
  | cons x l ih =>
    rw [riseN_cons, ih]
    constructor
    · rintro ⟨h1, h2, h3⟩ i hi
      cases i with
      | zero => simpa using ⟨h2, h1⟩
      | succ i =>
        have hi' : i < l.length := by simpa using hi
        obtain ⟨h4, h5⟩ := h3 i hi'
        refine ⟨by simpa using h4, ?_⟩
        rw [if_neg (by omega)]
        cases i with
        | zero => simpa using h5
        | succ i => simpa using h5
    · intro h
      have h0 := h 0 (by simp)
      refine ⟨by simpa using h0.2, by simpa using h0.1, fun i hi => ?_⟩
      have h1 := h (i + 1) (by simpa using hi)
      refine ⟨by simpa using h1.1, ?_⟩
      have h2 := h1.2
      rw [if_neg (by omega)] at h2
      cases i with
      | zero => simpa using h2
      | succ i => simpa using h2
theorem mayN_iff {b : Int} {l : List Cg} : mayN b l = true ↔ ∀ i (h : i < l.length), (if i = 0 then b < l[i].id else l[i - 1].id < l[i].id) ∧ 0 ≤ l[i].block ∧ l[i].p.right = true ∧ riseN l[i].id 0 l[i].needs = true := by
  induction l generalizing b with
  | nil => simp [mayN]
  | cons x l ih =>
    rw [mayN_cons, Cg.may_iff, ih]
    constructor
    · rintro ⟨⟨h1, h2⟩, h3⟩ i hi
      cases i with
      | zero => simpa using ⟨h1, h2⟩
      | succ i =>
        have hi' : i < l.length := by simpa using hi
        obtain ⟨h4, h5⟩ := h3 i hi'
        refine ⟨?_, by simpa using h5⟩
        rw [if_neg (by omega)]
        cases i with
        | zero => simpa using h4
        | succ i => simpa using h4
    · intro h
      have h0 := h 0 (by simp)
      refine ⟨by simpa using h0, fun i hi => ?_⟩
      have h1 := h (i + 1) (by simpa using hi)
      refine ⟨?_, by simpa using h1.2⟩
      have h2 := h1.1
      rw [if_neg (by omega)] at h2
      cases i with
      | zero => simpa using h2
      | succ i => simpa using h2
/-- At its place one stands behind what is ahead. -/
theorem splitId_at {l : List Cg} {id : Int} {k : Nat} (hk : k < l.length) (h : l[k].id = id) (hb : ∀ j (hj : j < k), (l[j]'(by omega)).id ≠ id) : splitId id l = some (l.take k, l[k]) := by
  induction l generalizing k with
  | nil => simp at hk
  | cons c l ih =>
    unfold splitId
    cases k with
    | zero =>
      have h' : c.id = id := by simpa using h
      rw [if_pos h']
      rfl
    | succ k =>
      have hk' : k < l.length := by simpa using hk
      have h0 : ¬ c.id = id := by simpa using hb 0 (by omega)
      have h5 := ih hk' (by simpa using h) (fun j hj => by simpa using hb (j + 1) (by omega))
      rw [if_neg h0, h5]
      simp
/-- One step of readyGo, by the place. -/
theorem readyGo_at {block : Int} {l : List Cg} {out : List Int} {i : Nat} (hm : mayC l = true) (hi : i < l.length) :
    readyGo block (l.take i) out (l.drop i) = readyGo block (l.take (i + 1)) (if l[i].block = block ∧ ((waitsC l l[i].id).all fun x => out.contains x) = true then out ++ [l[i].id] else out) (l.drop (i + 1)) := by
  have hl : l = l.take i ++ l[i] :: l.drop (i + 1) := by rw [List.getElem_cons_drop, List.take_append_drop]
  rw [waitsC_mid hm hl, List.take_succ_eq_append_getElem hi]
  conv => lhs; rw [← List.getElem_cons_drop hi]
  conv => lhs; unfold readyGo
  rw [List.all_map, show ((fun x => out.contains x) ∘ fun x : Cg => x.id) = fun d : Cg => out.contains d.id from rfl]
  by_cases h : l[i].block = block ∧ ((l.take i).filter fun d => keepsB d l[i]).all (fun d => out.contains d.id) = true
  · rw [if_pos h, if_pos h]
  · rw [if_neg h, if_neg h]

/-! The blocks of a list, rising, each once. -/
def insI (x : Int) : List Int → List Int
  | [] => [x]
  | y :: l => if x < y then x :: y :: l else if x = y then y :: l else y :: insI x l
def RiseI (l : List Int) : Prop := l.Pairwise (· < ·)
theorem insI_mem {x : Int} {l : List Int} : ∀ y, y ∈ insI x l ↔ y = x ∨ y ∈ l := by
  induction l with
  | nil => intro y; simp [insI]
  | cons z l ih =>
    intro y
    unfold insI
    split
    · simp
    · split
      · rename_i h
        subst h
        simp
      · rw [List.mem_cons, ih]
        simp only [List.mem_cons]
        constructor
        · rintro (h | h | h)
          · exact Or.inr (Or.inl h)
          · exact Or.inl h
          · exact Or.inr (Or.inr h)
        · rintro (h | h | h)
          · exact Or.inr (Or.inl h)
          · exact Or.inl h
          · exact Or.inr (Or.inr h)
theorem insI_rise {x : Int} {l : List Int} (h : RiseI l) : RiseI (insI x l) := by
  induction l with
  | nil => exact List.pairwise_singleton _ _
  | cons z l ih =>
    obtain ⟨h1, h2⟩ := List.pairwise_cons.1 h
    unfold insI
    split
    · rename_i hlt
      exact List.pairwise_cons.2 ⟨fun a ha => by
        rcases List.mem_cons.1 ha with rfl | ha
        · exact hlt
        · have := h1 a ha; omega, h⟩
    · split
      · exact h
      · refine List.pairwise_cons.2 ⟨fun a ha => ?_, ih h2⟩
        rcases (insI_mem a).1 ha with rfl | ha
        · omega
        · exact h1 a ha
theorem RiseI.uniq {l l' : List Int} (h : RiseI l) (h' : RiseI l') (hm : ∀ x, x ∈ l ↔ x ∈ l') : l = l' := by
  induction l generalizing l' with
  | nil =>
    cases l' with
    | nil => rfl
    | cons y l' => exact absurd ((hm y).2 (by simp)) (by simp)
  | cons x l ih =>
    cases l' with
    | nil => exact absurd ((hm x).1 (by simp)) (by simp)
    | cons y l' =>
      obtain ⟨h1, h2⟩ := List.pairwise_cons.1 h
      obtain ⟨h3, h4⟩ := List.pairwise_cons.1 h'
      have e : x = y := by
        rcases List.mem_cons.1 ((hm x).1 (by simp)) with e | e
        · exact e
        · rcases List.mem_cons.1 ((hm y).2 (by simp)) with e' | e'
          · exact e'.symm
          · have a := h3 x e
            have b := h1 y e'
            omega
      subst e
      congr 1
      refine ih h2 h4 fun z => ?_
      have hz := hm z
      simp only [List.mem_cons] at hz
      constructor
      · intro h5
        rcases hz.1 (Or.inr h5) with e | e
        · have := h1 z h5; omega
        · exact e
      · intro h5
        rcases hz.2 (Or.inr h5) with e | e
        · have := h3 z h5; omega
        · exact e
def blocksC (l : List Cg) : List Int := l.foldr (fun c s => insI c.block s) []
theorem blocksC_rise (l : List Cg) : RiseI (blocksC l) := by
  induction l with
  | nil => exact List.Pairwise.nil
  | cons c l ih => exact insI_rise ih
theorem blocksC_mem (l : List Cg) : ∀ x, x ∈ blocksC l ↔ ∃ c ∈ l, c.block = x := by
  induction l with
  | nil => intro x; simp [blocksC]
  | cons c l ih =>
    intro x
    show x ∈ insI c.block (blocksC l) ↔ _
    rw [insI_mem, ih]
    simp only [List.mem_cons, exists_eq_or_imp]
    constructor
    · rintro (h | h)
      · exact Or.inl h.symm
      · exact Or.inr h
    · rintro (h | h)
      · exact Or.inl h.symm
      · exact Or.inr h
/-- One more, that is behind all that are there. -/
theorem RiseI.snoc {l : List Int} {x : Int} (h : RiseI l) (hx : ∀ y ∈ l, y < x) : RiseI (l ++ [x]) := by
  unfold RiseI
  rw [List.pairwise_append]
  exact ⟨h, List.pairwise_singleton _ _, fun a ha b hb => by rw [List.mem_singleton] at hb; subst hb; exact hx a ha⟩

end Go.Proofs.Ytckkdfpmibipfaa
