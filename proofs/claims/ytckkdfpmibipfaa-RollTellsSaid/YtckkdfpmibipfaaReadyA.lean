/-
  Lists of changes: which may be, for whom one waits, which of a block's are ready, what is left; and that what is ready goes in order. Plain; no program is named here.
-/
import Derived.Test.YtckkdfpmibipfaaPatchA
namespace Go.Proofs.Ytckkdfpmibipfaa

/-- A change. -/
structure Cg where
  id : Int
  block : Int
  p : Pt
  needs : List Int
instance : Inhabited Cg := ⟨⟨0, 0, ⟨0, []⟩, []⟩⟩
/-- Do numbers rise, behind one, below an end? -/
def riseN (e : Int) : Int → List Int → Bool
  | _, [] => true
  | b, x :: l => decide (b < x) && decide (x < e) && riseN e x l
/-- May one be, behind a number? -/
def Cg.may (b : Int) (c : Cg) : Bool := decide (b < c.id) && decide (0 ≤ c.block) && c.p.right && riseN c.id 0 c.needs
/-- May a list be, behind a number? -/
def mayN : Int → List Cg → Bool
  | _, [] => true
  | b, c :: l => c.may b && mayN c.id l
def mayC (l : List Cg) : Bool := mayN 0 l
theorem mayN_cons {b : Int} {c : Cg} {l : List Cg} : mayN b (c :: l) = true ↔ c.may b = true ∧ mayN c.id l = true := by
  show (c.may b && mayN c.id l) = true ↔ _
  rw [Bool.and_eq_true]
theorem Cg.may_iff {b : Int} {c : Cg} : c.may b = true ↔ b < c.id ∧ 0 ≤ c.block ∧ c.p.right = true ∧ riseN c.id 0 c.needs = true := by
  unfold Cg.may
  simp only [Bool.and_eq_true, decide_eq_true_eq]
  constructor
  · rintro ⟨⟨⟨h1, h2⟩, h3⟩, h4⟩; exact ⟨h1, h2, h3, h4⟩
  · rintro ⟨h1, h2, h3, h4⟩; exact ⟨⟨⟨h1, h2⟩, h3⟩, h4⟩
theorem mayN_down {b b' : Int} (h : b' ≤ b) {l : List Cg} (hm : mayN b l = true) : mayN b' l = true := by
  cases l with
  | nil => rfl
  | cons c l =>
    obtain ⟨h1, h2⟩ := mayN_cons.1 hm
    have h3 := Cg.may_iff.1 h1
    exact mayN_cons.2 ⟨Cg.may_iff.2 ⟨by omega, h3.2⟩, h2⟩
theorem mayN_gt {b : Int} {l : List Cg} (hm : mayN b l = true) : ∀ c ∈ l, b < c.id := by
  induction l generalizing b with
  | nil => intro c hc; simp at hc
  | cons d l ih =>
    obtain ⟨h1, h2⟩ := mayN_cons.1 hm
    have h3 := (Cg.may_iff.1 h1).1
    intro c hc
    rcases List.mem_cons.1 hc with rfl | hc
    · exact h3
    · have := ih h2 c hc; omega
theorem mayN_filter {b : Int} {l : List Cg} (p : Cg → Bool) (hm : mayN b l = true) : mayN b (l.filter p) = true := by
  induction l generalizing b with
  | nil => rfl
  | cons c l ih =>
    obtain ⟨h1, h2⟩ := mayN_cons.1 hm
    rw [List.filter_cons]
    split
    · exact mayN_cons.2 ⟨h1, ih h2⟩
    · have h3 := (Cg.may_iff.1 h1).1
      exact ih (mayN_down (by omega) h2)
/-- IDs tell changes apart. -/
theorem may_id {b : Int} {l : List Cg} (hm : mayN b l = true) {c d : Cg} (hc : c ∈ l) (hd : d ∈ l) (h : c.id = d.id) : c = d := by
  induction l generalizing b with
  | nil => simp at hc
  | cons e l ih =>
    obtain ⟨h1, h2⟩ := mayN_cons.1 hm
    have hg := mayN_gt h2
    rcases List.mem_cons.1 hc with e1 | hc1
    · rcases List.mem_cons.1 hd with e2 | hd1
      · rw [e1, e2]
      · have := hg d hd1; rw [e1] at h; omega
    · rcases List.mem_cons.1 hd with e2 | hd1
      · have := hg c hc1; rw [e2] at h; omega
      · exact ih h2 hc1 hd1

/-- The first of this ID, and what is ahead of it. -/
def splitId (id : Int) : List Cg → Option (List Cg × Cg)
  | [] => none
  | c :: l => if c.id = id then some ([], c) else (splitId id l).map fun x => (c :: x.1, x.2)
def findC (l : List Cg) (id : Int) : Option Cg := (splitId id l).map (·.2)
/-- Does one that stands ahead keep another one back? -/
def keepsB (d c : Cg) : Bool := (decide (d.block = c.block) && meetP d.p c.p) || c.needs.contains d.id
/-- For whom the one of this ID waits. -/
def waitsC (l : List Cg) (id : Int) : List Int :=
  if mayC l then (match splitId id l with
    | none => []
    | some (pre, c) => (pre.filter fun d => keepsB d c).map (·.id)) else []
/-- Those of a block that are ready, the list gone through with what stands ahead, and those of it that are ready. -/
def readyGo (block : Int) : List Cg → List Int → List Cg → List Int
  | _, out, [] => out
  | pre, out, c :: l =>
    if c.block = block ∧ ((pre.filter fun d => keepsB d c).all fun d => out.contains d.id) then readyGo block (pre ++ [c]) (out ++ [c.id]) l
    else readyGo block (pre ++ [c]) out l
def readyC (l : List Cg) (block : Int) : List Int := if mayC l then readyGo block [] [] l else []
def ofC (l : List Cg) (block : Int) : List Cg := l.filter fun c => decide (c.block = block)
def withoutC (l : List Cg) (ids : List Int) : List Cg := l.filter fun c => !ids.contains c.id

theorem splitId_some {id : Int} {l : List Cg} {pre : List Cg} {c : Cg} (h : splitId id l = some (pre, c)) : c.id = id ∧ ∃ post, l = pre ++ c :: post ∧ ∀ d ∈ pre, d.id ≠ id := by
  induction l generalizing pre with
  | nil => cases h
  | cons d l ih =>
    unfold splitId at h
    by_cases hd : d.id = id
    · rw [if_pos hd] at h
      simp only [Option.some.injEq, Prod.mk.injEq] at h
      obtain ⟨rfl, rfl⟩ := h
      exact ⟨hd, l, rfl, fun _ h => by simp at h⟩
    · rw [if_neg hd] at h
      obtain ⟨⟨pre', c'⟩, h1, h2⟩ := Option.map_eq_some_iff.1 h
      simp only [Prod.mk.injEq] at h2
      obtain ⟨rfl, rfl⟩ := h2
      obtain ⟨h3, post, rfl, h4⟩ := ih h1
      refine ⟨h3, post, rfl, fun e he => ?_⟩
      rcases List.mem_cons.1 he with rfl | he
      · exact hd
      · exact h4 e he
theorem splitId_mid {l pre post : List Cg} {c : Cg} {b : Int} (hm : mayN b l = true) (hl : l = pre ++ c :: post) : splitId c.id l = some (pre, c) := by
  subst hl
  induction pre generalizing b with
  | nil => rw [List.nil_append]; simp [splitId]
  | cons d pre ih =>
    rw [List.cons_append] at hm ⊢
    obtain ⟨h1, h2⟩ := mayN_cons.1 hm
    have hg := mayN_gt h2 c (by simp)
    unfold splitId
    rw [if_neg (by omega), ih h2]
    rfl
theorem splitId_none {id : Int} {l : List Cg} : splitId id l = none ↔ ∀ c ∈ l, c.id ≠ id := by
  induction l with
  | nil => simp [splitId]
  | cons d l ih =>
    unfold splitId
    by_cases hd : d.id = id
    · rw [if_pos hd]
      simp [hd]
    · rw [if_neg hd, Option.map_eq_none_iff, ih]
      simp [hd]
/-- What waitsC says of one that stands in the list. -/
theorem waitsC_mid {l pre post : List Cg} {c : Cg} (hm : mayC l = true) (hl : l = pre ++ c :: post) : waitsC l c.id = (pre.filter fun d => keepsB d c).map (·.id) := by
  unfold waitsC
  rw [if_pos hm, splitId_mid hm hl]

/-- What readyGo tells: whatever it adds is of the block, stands in the list, and all that keep it back are there. -/
theorem readyGo_spec (block : Int) (l0 : List Cg) : ∀ (l pre : List Cg) (out : List Int), l0 = pre ++ l →
    (∀ x ∈ out, ∃ p c q, l0 = p ++ c :: q ∧ c.id = x ∧ c.block = block ∧ ∀ d ∈ p, keepsB d c = true → d.id ∈ out) →
    ∀ x ∈ readyGo block pre out l, ∃ p c q, l0 = p ++ c :: q ∧ c.id = x ∧ c.block = block ∧ ∀ d ∈ p, keepsB d c = true → d.id ∈ readyGo block pre out l := by
  intro l
  induction l with
  | nil => intro pre out _ h; exact h
  | cons c l ih =>
    intro pre out hl h
    unfold readyGo
    split
    · rename_i hc
      refine ih _ _ (by rw [hl]; simp) ?_
      intro x hx
      rcases List.mem_append.1 hx with hx | hx
      · obtain ⟨p, d, q, h1, h2, h3, h4⟩ := h x hx
        exact ⟨p, d, q, h1, h2, h3, fun e he hk => List.mem_append.2 (Or.inl (h4 e he hk))⟩
      · rw [List.mem_singleton] at hx
        subst hx
        refine ⟨pre, c, l, hl, rfl, hc.1, fun d hd hk => List.mem_append.2 (Or.inl ?_)⟩
        have h5 := List.all_eq_true.1 hc.2 d (List.mem_filter.2 ⟨hd, hk⟩)
        simpa using h5
    · exact ih _ _ (by rw [hl]; simp) h
theorem readyC_spec {l : List Cg} {block : Int} (hm : mayC l = true) : ∀ x ∈ readyC l block, ∃ p c q, l = p ++ c :: q ∧ c.id = x ∧ c.block = block ∧ ∀ d ∈ p, keepsB d c = true → d.id ∈ readyC l block := by
  unfold readyC
  rw [if_pos hm]
  exact readyGo_spec block l l [] [] rfl (fun x hx => by simp at hx)
/-- (a), (b) of 9.5: a ready one is found, of its block; and it waits for ready ones alone. -/
theorem readyC_found {l : List Cg} {block : Int} (hm : mayC l = true) {x : Int} (hx : x ∈ readyC l block) : ∃ c, findC l x = some c ∧ c.block = block := by
  obtain ⟨p, c, q, h1, h2, h3, _⟩ := readyC_spec hm x hx
  refine ⟨c, ?_, h3⟩
  unfold findC
  rw [← h2, splitId_mid hm h1]
  rfl
theorem readyC_waits {l : List Cg} {block : Int} (hm : mayC l = true) {x : Int} (hx : x ∈ readyC l block) : ∀ y ∈ waitsC l x, y ∈ readyC l block := by
  obtain ⟨p, c, q, h1, h2, _, h4⟩ := readyC_spec hm x hx
  intro y hy
  rw [← h2, waitsC_mid hm h1] at hy
  obtain ⟨d, hd, rfl⟩ := List.mem_map.1 hy
  obtain ⟨hd1, hd2⟩ := List.mem_filter.1 hd
  exact h4 d hd1 hd2
/-- readyGo only goes on. -/
theorem readyGo_more (block : Int) : ∀ (l pre : List Cg) (out : List Int), ∃ t, readyGo block pre out l = out ++ t ∧ t.Sublist (l.map (·.id)) := by
  intro l
  induction l with
  | nil => intro pre out; exact ⟨[], by simp [readyGo], by simp⟩
  | cons c l ih =>
    intro pre out
    unfold readyGo
    split
    · obtain ⟨t, h1, h2⟩ := ih (pre ++ [c]) (out ++ [c.id])
      exact ⟨c.id :: t, by rw [h1]; simp, by rw [List.map_cons]; exact List.Sublist.cons_cons _ h2⟩
    · obtain ⟨t, h1, h2⟩ := ih (pre ++ [c]) out
      exact ⟨t, h1, by rw [List.map_cons]; exact List.Sublist.cons _ h2⟩
theorem readyC_sub {l : List Cg} {block : Int} : (readyC l block).Sublist (l.map (·.id)) := by
  unfold readyC
  split
  · obtain ⟨t, h1, h2⟩ := readyGo_more block l [] []
    rw [h1, List.nil_append]
    exact h2
  · simp
/-- 9.4: the first of a list that may be is ready, and waits for none. -/
theorem readyC_first {c : Cg} {l : List Cg} (hm : mayC (c :: l) = true) : ∃ t, readyC (c :: l) c.block = c.id :: t := by
  unfold readyC
  rw [if_pos hm]
  unfold readyGo
  rw [if_pos ⟨rfl, by simp⟩]
  obtain ⟨t, h1, _⟩ := readyGo_more c.block l ([] ++ [c]) ([] ++ [c.id])
  exact ⟨t, by rw [h1]; rfl⟩
theorem waitsC_first {c : Cg} {l : List Cg} (hm : mayC (c :: l) = true) : waitsC (c :: l) c.id = [] := by
  rw [waitsC_mid hm (pre := []) (post := l) rfl]
  rfl

/-- (c): what is left may be, and is as much less as is ready. -/
theorem withoutC_may {l : List Cg} (ids : List Int) (hm : mayC l = true) : mayC (withoutC l ids) = true := mayN_filter _ hm
theorem without_len {b : Int} : ∀ (l : List Cg) (r : List Int), mayN b l = true → r.Sublist (l.map (·.id)) → (l.filter fun c => !r.contains c.id).length + r.length = l.length := by
  intro l
  induction l generalizing b with
  | nil =>
    intro r _ hs
    have : r = [] := by simpa using hs
    subst this
    rfl
  | cons c l ih =>
    intro r hm hs
    obtain ⟨h1, h2⟩ := mayN_cons.1 hm
    have hg := mayN_gt h2
    rw [List.map_cons] at hs
    have key : ∀ r' : List Int, r'.Sublist (l.map (·.id)) → c.id ∉ r' := fun r' hs' hin => by
      obtain ⟨d, hd, he⟩ := List.mem_map.1 (hs'.subset hin)
      have := hg d hd
      omega
    rcases List.sublist_cons_iff.1 hs with h | ⟨r', rfl, h⟩
    · have hn := key r h
      have h5 := ih r h2 h
      rw [List.filter_cons, if_pos (by simpa using hn), List.length_cons, List.length_cons]
      omega
    · have h5 := ih r' h2 h
      have e : (l.filter fun d => !(c.id :: r').contains d.id) = l.filter fun d => !r'.contains d.id := by
        apply List.filter_congr
        intro d hd
        have := hg d hd
        simp
        intro _
        omega
      rw [List.filter_cons, if_neg (by simp), e, List.length_cons, List.length_cons]
      omega
theorem withoutC_len {l : List Cg} {block : Int} (hm : mayC l = true) : (withoutC l (readyC l block)).length + (readyC l block).length = l.length := without_len l _ hm readyC_sub
/-- (d): a change that is left waits for no more than it did. -/
theorem withoutC_waits {l : List Cg} (ids : List Int) (hm : mayC l = true) {c : Cg} (hc : c ∈ withoutC l ids) : ∀ y ∈ waitsC (withoutC l ids) c.id, y ∈ waitsC l c.id := by
  obtain ⟨hc1, hc2⟩ := List.mem_filter.1 hc
  obtain ⟨p, q, hpq⟩ := List.append_of_mem hc1
  have hw : withoutC l ids = (p.filter fun c => !ids.contains c.id) ++ c :: (q.filter fun c => !ids.contains c.id) := by
    unfold withoutC
    rw [hpq, List.filter_append, List.filter_cons, if_pos hc2]
  rw [waitsC_mid (withoutC_may ids hm) hw, waitsC_mid hm hpq]
  intro y hy
  obtain ⟨d, hd, rfl⟩ := List.mem_map.1 hy
  obtain ⟨hd1, hd2⟩ := List.mem_filter.1 hd
  obtain ⟨hd3, _⟩ := List.mem_filter.1 hd1
  exact List.mem_map.2 ⟨d, List.mem_filter.2 ⟨hd3, hd2⟩, rfl⟩

end Go.Proofs.Ytckkdfpmibipfaa
