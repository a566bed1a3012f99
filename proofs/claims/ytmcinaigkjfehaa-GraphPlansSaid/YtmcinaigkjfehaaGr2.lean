/-
  Texts of this claim joined: OpenV, ReadyA, OpenC, RowsN, OwnL, ChgA, ReadyB.
-/
import Derived.Test.YtmcinaigkjfehaaGr1
import Derived.Deep.Grids
import Derived.Great.BuildSlice
import Derived.Great.FillDense
import Derived.Deep.AppendLies

/-
  Lists of numbers and of bools that came in. Plain; no program is named here.
-/
namespace Go.Proofs.Ytmcinaigkjfehaa
open Go.ChangeShapes Go.WideShapes Go.ChangeAt Go.RowKit

section
variable {H : Type} {enc : TypeId × Value → H} {P : Program}
/-- A slice of numbers of one kind. -/
theorem open_int_list {w : World} {base : Nat} {r : Reach} {b0 : Nat} {t e : TypeId} {k : IntKind} {v : Value} {d : DataW H} {ps : List MemPlace} {spare : Nat → Bool} {held : Bool} (ht : P.underlying t = some (.slice e)) (he : P.underlying e = some (.int k)) (hc : P.cellsOf e = 1)
    (hv : Value.okWide P w r b0 t v) (h : DataW.Trod enc P w base spare held t v d ps) :
    ∃ (A : Option Addr) (n c : Nat) (l : List Int), v = .slice A n c ∧ l.length = n ∧ n ≤ c ∧ c ≤ maxLen ∧ RC w A (l.map (Value.int k)) ∧ ∀ z ∈ l, (Lit.int k z).wf = true := by
  obtain ⟨a0, n, c, rfl⟩ := okWide_slice ht hv
  obtain ⟨fuel, hf⟩ := h
  rcases open_ints ht he hc hf with ⟨hcs, _⟩ | ⟨a, n', c', zs, hcs, _, hl, hm, hz, _, hcell, hw⟩
  · simp [Value.cells] at hcs
    obtain ⟨rfl, rfl, rfl⟩ := hcs
    exact ⟨none, 0, 0, [], rfl, rfl, by omega, by unfold maxLen; omega, RC.nil_ _ _, by simp⟩
  · simp [Value.cells] at hcs
    obtain ⟨rfl, rfl, rfl⟩ := hcs
    have hnz : n ≤ zs.length := by rw [hz]; split <;> omega
    refine ⟨some a, n, c, zs.take n, rfl, by simp; omega, hl, hm, fun j hj => ⟨a, rfl, ?_⟩, fun z h => hw z (List.mem_of_mem_take h)⟩
    have hj' : j < n := by simp at hj; omega
    rw [hcell j (by omega)]
    simp [List.getD, show j < zs.length by omega]
/-- A slice of bools. -/
theorem open_bool_list {w : World} {base : Nat} {r : Reach} {b0 : Nat} {t e : TypeId} {v : Value} {d : DataW H} {ps : List MemPlace} {held : Bool} (ht : P.underlying t = some (.slice e)) (he : P.underlying e = some .bool) (hc : P.cellsOf e = 1)
    (hv : Value.okWide P w r b0 t v) (h : DataW.Trod enc P w base (fun _ => true) held t v d ps) :
    ∃ (A : Option Addr) (n c : Nat) (l : List Bool), v = .slice A n c ∧ l.length = n ∧ n ≤ c ∧ c ≤ maxLen ∧ RC w A (bvals l) := by
  obtain ⟨a0, n, c, rfl⟩ := okWide_slice ht hv
  obtain ⟨fuel, hf⟩ := h
  rcases Go.Deep.open_bools ht he hc hf with ⟨hcs, _⟩ | ⟨a, n', c', B, hcs, _, hl, hm, _, hcell⟩
  · simp [Value.cells] at hcs
    obtain ⟨rfl, rfl, rfl⟩ := hcs
    exact ⟨none, 0, 0, [], rfl, rfl, by omega, by unfold maxLen; omega, RC.nil_ _ _⟩
  · simp [Value.cells] at hcs
    obtain ⟨rfl, rfl, rfl⟩ := hcs
    refine ⟨some a, n, c, (List.range n).map B, rfl, by simp, hl, hm, fun j hj => ⟨a, rfl, ?_⟩⟩
    have hj' : j < n := by simpa [bvals] using hj
    rw [hcell j (by omega)]
    simp [bvals]
end

end Go.Proofs.Ytmcinaigkjfehaa

/-
  Lists of changes: which may be, for whom one waits, which of a block's are ready, what is left; and that what is ready goes in order. Plain; no program is named here.
-/
namespace Go.Proofs.Ytmcinaigkjfehaa

/-- A change. -/
structure Cg where
  id : Int
  block : Int
  p : Pt
  needs : List Int
instance : Inhabited Cg := ⟨⟨0, 0, ⟨0, []⟩, []⟩⟩
/-- Do numbers rise, behind one, below an end? -/
def riseN (e : Int) : Int → List Int → Bool
  | _, [] => true
  | b, x :: l => decide (b < x) && decide (x < e) && riseN e x l
/-- May one be, behind a number? -/
def Cg.may (b : Int) (c : Cg) : Bool := decide (b < c.id) && decide (0 ≤ c.block) && c.p.right && riseN c.id 0 c.needs
/-- May a list be, behind a number? -/
def mayN : Int → List Cg → Bool
  | _, [] => true
  | b, c :: l => c.may b && mayN c.id l
def mayC (l : List Cg) : Bool := mayN 0 l
theorem mayN_cons {b : Int} {c : Cg} {l : List Cg} : mayN b (c :: l) = true ↔ c.may b = true ∧ mayN c.id l = true := by
  show (c.may b && mayN c.id l) = true ↔ _
  rw [Bool.and_eq_true]
theorem Cg.may_iff {b : Int} {c : Cg} : c.may b = true ↔ b < c.id ∧ 0 ≤ c.block ∧ c.p.right = true ∧ riseN c.id 0 c.needs = true := by
  unfold Cg.may
  simp only [Bool.and_eq_true, decide_eq_true_eq]
  constructor
  · rintro ⟨⟨⟨h1, h2⟩, h3⟩, h4⟩; exact ⟨h1, h2, h3, h4⟩
  · rintro ⟨h1, h2, h3, h4⟩; exact ⟨⟨⟨h1, h2⟩, h3⟩, h4⟩
theorem mayN_down {b b' : Int} (h : b' ≤ b) {l : List Cg} (hm : mayN b l = true) : mayN b' l = true := by
  cases l with
  | nil => rfl
  | cons c l =>
    obtain ⟨h1, h2⟩ := mayN_cons.1 hm
    have h3 := Cg.may_iff.1 h1
    exact mayN_cons.2 ⟨Cg.may_iff.2 ⟨by omega, h3.2⟩, h2⟩
theorem mayN_gt {b : Int} {l : List Cg} (hm : mayN b l = true) : ∀ c ∈ l, b < c.id := by
  induction l generalizing b with
  | nil => intro c hc; simp at hc
  | cons d l ih =>
    obtain ⟨h1, h2⟩ := mayN_cons.1 hm
    have h3 := (Cg.may_iff.1 h1).1
    intro c hc
    rcases List.mem_cons.1 hc with rfl | hc
    · exact h3
    · have := ih h2 c hc; omega
theorem mayN_filter {b : Int} {l : List Cg} (p : Cg → Bool) (hm : mayN b l = true) : mayN b (l.filter p) = true := by
  induction l generalizing b with
  | nil => rfl
  | cons c l ih =>
    obtain ⟨h1, h2⟩ := mayN_cons.1 hm
    rw [List.filter_cons]
    split
    · exact mayN_cons.2 ⟨h1, ih h2⟩
    · have h3 := (Cg.may_iff.1 h1).1
      exact ih (mayN_down (by omega) h2)
/-- IDs tell changes apart. -/
theorem may_id {b : Int} {l : List Cg} (hm : mayN b l = true) {c d : Cg} (hc : c ∈ l) (hd : d ∈ l) (h : c.id = d.id) : c = d := by
  induction l generalizing b with
  | nil => simp at hc
  | cons e l ih =>
    obtain ⟨h1, h2⟩ := mayN_cons.1 hm
    have hg := mayN_gt h2
    rcases List.mem_cons.1 hc with e1 | hc1
    · rcases List.mem_cons.1 hd with e2 | hd1
      · rw [e1, e2]
      · have := hg d hd1; rw [e1] at h; omega
    · rcases List.mem_cons.1 hd with e2 | hd1
      · have := hg c hc1; rw [e2] at h; omega
      · exact ih h2 hc1 hd1

/-- The first of this ID, and what is ahead of it. -/
def splitId (id : Int) : List Cg → Option (List Cg × Cg)
  | [] => none
  | c :: l => if c.id = id then some ([], c) else (splitId id l).map fun x => (c :: x.1, x.2)
def findC (l : List Cg) (id : Int) : Option Cg := (splitId id l).map (·.2)
/-- Does one that stands ahead keep another one back? -/
def keepsB (d c : Cg) : Bool := (decide (d.block = c.block) && meetP d.p c.p) || c.needs.contains d.id
/-- For whom the one of this ID waits. -/
def waitsC (l : List Cg) (id : Int) : List Int :=
  if mayC l then (match splitId id l with
    | none => []
    | some (pre, c) => (pre.filter fun d => keepsB d c).map (·.id)) else []
/-- Those of a block that are ready, the list gone through with what stands ahead, and those of it that are ready. -/
def readyGo (block : Int) : List Cg → List Int → List Cg → List Int
  | _, out, [] => out
  | pre, out, c :: l =>
    if c.block = block ∧ ((pre.filter fun d => keepsB d c).all fun d => out.contains d.id) then readyGo block (pre ++ [c]) (out ++ [c.id]) l
    else readyGo block (pre ++ [c]) out l
def readyC (l : List Cg) (block : Int) : List Int := if mayC l then readyGo block [] [] l else []
def ofC (l : List Cg) (block : Int) : List Cg := l.filter fun c => decide (c.block = block)
def withoutC (l : List Cg) (ids : List Int) : List Cg := l.filter fun c => !ids.contains c.id

theorem splitId_some {id : Int} {l : List Cg} {pre : List Cg} {c : Cg} (h : splitId id l = some (pre, c)) : c.id = id ∧ ∃ post, l = pre ++ c :: post ∧ ∀ d ∈ pre, d.id ≠ id := by
  induction l generalizing pre with
  | nil => cases h
  | cons d l ih =>
    unfold splitId at h
    by_cases hd : d.id = id
    · rw [if_pos hd] at h
      simp only [Option.some.injEq, Prod.mk.injEq] at h
      obtain ⟨rfl, rfl⟩ := h
      exact ⟨hd, l, rfl, fun _ h => by simp at h⟩
    · rw [if_neg hd] at h
      obtain ⟨⟨pre', c'⟩, h1, h2⟩ := Option.map_eq_some_iff.1 h
      simp only [Prod.mk.injEq] at h2
      obtain ⟨rfl, rfl⟩ := h2
      obtain ⟨h3, post, rfl, h4⟩ := ih h1
      refine ⟨h3, post, rfl, fun e he => ?_⟩
      rcases List.mem_cons.1 he with rfl | he
      · exact hd
      · exact h4 e he
theorem splitId_mid {l pre post : List Cg} {c : Cg} {b : Int} (hm : mayN b l = true) (hl : l = pre ++ c :: post) : splitId c.id l = some (pre, c) := by
  subst hl
  induction pre generalizing b with
  | nil => rw [List.nil_append]; simp [splitId]
  | cons d pre ih =>
    rw [List.cons_append] at hm ⊢
    obtain ⟨h1, h2⟩ := mayN_cons.1 hm
    have hg := mayN_gt h2 c (by simp)
    unfold splitId
    rw [if_neg (by omega), ih h2]
    rfl
theorem splitId_none {id : Int} {l : List Cg} : splitId id l = none ↔ ∀ c ∈ l, c.id ≠ id := by
  induction l with
  | nil => simp [splitId]
  | cons d l ih =>
    unfold splitId
    by_cases hd : d.id = id
    · rw [if_pos hd]
      simp [hd]
    · rw [if_neg hd, Option.map_eq_none_iff, ih]
      simp [hd]
/-- What waitsC says of one that stands in the list. -/
theorem waitsC_mid {l pre post : List Cg} {c : Cg} (hm : mayC l = true) (hl : l = pre ++ c :: post) : waitsC l c.id = (pre.filter fun d => keepsB d c).map (·.id) := by
  unfold waitsC
  rw [if_pos hm, splitId_mid hm hl]

/-- What readyGo tells: whatever it adds is of the block, stands in the list, and all that keep it back are there. -/
theorem readyGo_spec (block : Int) (l0 : List Cg) : ∀ (l pre : List Cg) (out : List Int), l0 = pre ++ l →
    (∀ x ∈ out, ∃ p c q, l0 = p ++ c :: q ∧ c.id = x ∧ c.block = block ∧ ∀ d ∈ p, keepsB d c = true → d.id ∈ out) →
    ∀ x ∈ readyGo block pre out l, ∃ p c q, l0 = p ++ c :: q ∧ c.id = x ∧ c.block = block ∧ ∀ d ∈ p, keepsB d c = true → d.id ∈ readyGo block pre out l := by
  intro l
  induction l with
  | nil => intro pre out _ h; exact h
  | cons c l ih =>
    intro pre out hl h
    unfold readyGo
    split
    · rename_i hc
      refine ih _ _ (by rw [hl]; simp) ?_
      intro x hx
      rcases List.mem_append.1 hx with hx | hx
      · obtain ⟨p, d, q, h1, h2, h3, h4⟩ := h x hx
        exact ⟨p, d, q, h1, h2, h3, fun e he hk => List.mem_append.2 (Or.inl (h4 e he hk))⟩
      · rw [List.mem_singleton] at hx
        subst hx
        refine ⟨pre, c, l, hl, rfl, hc.1, fun d hd hk => List.mem_append.2 (Or.inl ?_)⟩
        have h5 := List.all_eq_true.1 hc.2 d (List.mem_filter.2 ⟨hd, hk⟩)
        simpa using h5
    · exact ih _ _ (by rw [hl]; simp) h
theorem readyC_spec {l : List Cg} {block : Int} (hm : mayC l = true) : ∀ x ∈ readyC l block, ∃ p c q, l = p ++ c :: q ∧ c.id = x ∧ c.block = block ∧ ∀ d ∈ p, keepsB d c = true → d.id ∈ readyC l block := by
  unfold readyC
  rw [if_pos hm]
  exact readyGo_spec block l l [] [] rfl (fun x hx => by simp at hx)
/-- (a), (b) of 9.5: a ready one is found, of its block; and it waits for ready ones alone. -/
theorem readyC_found {l : List Cg} {block : Int} (hm : mayC l = true) {x : Int} (hx : x ∈ readyC l block) : ∃ c, findC l x = some c ∧ c.block = block := by
  obtain ⟨p, c, q, h1, h2, h3, _⟩ := readyC_spec hm x hx
  refine ⟨c, ?_, h3⟩
  unfold findC
  rw [← h2, splitId_mid hm h1]
  rfl
theorem readyC_waits {l : List Cg} {block : Int} (hm : mayC l = true) {x : Int} (hx : x ∈ readyC l block) : ∀ y ∈ waitsC l x, y ∈ readyC l block := by
  obtain ⟨p, c, q, h1, h2, _, h4⟩ := readyC_spec hm x hx
  intro y hy
  rw [← h2, waitsC_mid hm h1] at hy
  obtain ⟨d, hd, rfl⟩ := List.mem_map.1 hy
  obtain ⟨hd1, hd2⟩ := List.mem_filter.1 hd
  exact h4 d hd1 hd2
/-- readyGo only goes on. -/
theorem readyGo_more (block : Int) : ∀ (l pre : List Cg) (out : List Int), ∃ t, readyGo block pre out l = out ++ t ∧ t.Sublist (l.map (·.id)) := by
  intro l
  induction l with
  | nil => intro pre out; exact ⟨[], by simp [readyGo], by simp⟩
  | cons c l ih =>
    intro pre out
    unfold readyGo
    split
    · obtain ⟨t, h1, h2⟩ := ih (pre ++ [c]) (out ++ [c.id])
      exact ⟨c.id :: t, by rw [h1]; simp, by rw [List.map_cons]; exact List.Sublist.cons_cons _ h2⟩
    · obtain ⟨t, h1, h2⟩ := ih (pre ++ [c]) out
      exact ⟨t, h1, by rw [List.map_cons]; exact List.Sublist.cons _ h2⟩
theorem readyC_sub {l : List Cg} {block : Int} : (readyC l block).Sublist (l.map (·.id)) := by
  unfold readyC
  split
  · obtain ⟨t, h1, h2⟩ := readyGo_more block l [] []
    rw [h1, List.nil_append]
    exact h2
  · simp
/-- 9.4: the first of a list that may be is ready, and waits for none. -/
theorem readyC_first {c : Cg} {l : List Cg} (hm : mayC (c :: l) = true) : ∃ t, readyC (c :: l) c.block = c.id :: t := by
  unfold readyC
  rw [if_pos hm]
  unfold readyGo
  rw [if_pos ⟨rfl, by simp⟩]
  obtain ⟨t, h1, _⟩ := readyGo_more c.block l ([] ++ [c]) ([] ++ [c.id])
  exact ⟨t, by rw [h1]; rfl⟩
theorem waitsC_first {c : Cg} {l : List Cg} (hm : mayC (c :: l) = true) : waitsC (c :: l) c.id = [] := by
  rw [waitsC_mid hm (pre := []) (post := l) rfl]
  rfl

/-- (c): what is left may be, and is as much less as is ready. -/
theorem withoutC_may {l : List Cg} (ids : List Int) (hm : mayC l = true) : mayC (withoutC l ids) = true := mayN_filter _ hm
theorem without_len {b : Int} : ∀ (l : List Cg) (r : List Int), mayN b l = true → r.Sublist (l.map (·.id)) → (l.filter fun c => !r.contains c.id).length + r.length = l.length := by
  intro l
  induction l generalizing b with
  | nil =>
    intro r _ hs
    have : r = [] := by simpa using hs
    subst this
    rfl
  | cons c l ih =>
    intro r hm hs
    obtain ⟨h1, h2⟩ := mayN_cons.1 hm
    have hg := mayN_gt h2
    rw [List.map_cons] at hs
    have key : ∀ r' : List Int, r'.Sublist (l.map (·.id)) → c.id ∉ r' := fun r' hs' hin => by
      obtain ⟨d, hd, he⟩ := List.mem_map.1 (hs'.subset hin)
      have := hg d hd
      omega
    rcases List.sublist_cons_iff.1 hs with h | ⟨r', rfl, h⟩
    · have hn := key r h
      have h5 := ih r h2 h
      rw [List.filter_cons, if_pos (by simpa using hn), List.length_cons, List.length_cons]
      omega
    · have h5 := ih r' h2 h
      have e : (l.filter fun d => !(c.id :: r').contains d.id) = l.filter fun d => !r'.contains d.id := by
        apply List.filter_congr
        intro d hd
        have := hg d hd
        simp
        intro _
        omega
      rw [List.filter_cons, if_neg (by simp), e, List.length_cons, List.length_cons]
      omega
theorem withoutC_len {l : List Cg} {block : Int} (hm : mayC l = true) : (withoutC l (readyC l block)).length + (readyC l block).length = l.length := without_len l _ hm readyC_sub
/-- (d): a change that is left waits for no more than it did. -/
theorem withoutC_waits {l : List Cg} (ids : List Int) (hm : mayC l = true) {c : Cg} (hc : c ∈ withoutC l ids) : ∀ y ∈ waitsC (withoutC l ids) c.id, y ∈ waitsC l c.id := by
  obtain ⟨hc1, hc2⟩ := List.mem_filter.1 hc
  obtain ⟨p, q, hpq⟩ := List.append_of_mem hc1
  have hw : withoutC l ids = (p.filter fun c => !ids.contains c.id) ++ c :: (q.filter fun c => !ids.contains c.id) := by
    unfold withoutC
    rw [hpq, List.filter_append, List.filter_cons, if_pos hc2]
  rw [waitsC_mid (withoutC_may ids hm) hw, waitsC_mid hm hpq]
  intro y hy
  obtain ⟨d, hd, rfl⟩ := List.mem_map.1 hy
  obtain ⟨hd1, hd2⟩ := List.mem_filter.1 hd
  obtain ⟨hd3, _⟩ := List.mem_filter.1 hd1
  exact List.mem_map.2 ⟨d, List.mem_filter.2 ⟨hd3, hd2⟩, rfl⟩

end Go.Proofs.Ytmcinaigkjfehaa

/-
  Changes that came in (structs of two numbers, a patch, a slice of numbers), and slices of these. Plain; no program is named here.
-/
namespace Go.Proofs.Ytmcinaigkjfehaa
open Go.ChangeShapes Go.WideShapes Go.ChangeAt Go.RowKit

/-- Five cells that read as a change. -/
structure RCg (w : World) (v0 v1 v2 v3 v4 : Value) (c : Cg) : Prop where
  e0 : v0 = .int .i64 c.id
  e1 : v1 = .int .i64 c.block
  lo0 : -9223372036854775808 ≤ c.id
  hi0 : c.id < 9223372036854775808
  lo1 : -9223372036854775808 ≤ c.block
  hi1 : c.block < 9223372036854775808
  p : RP w v2 v3 c.p
  needs : ∃ A m, v4 = .slice A c.needs.length m ∧ c.needs.length ≤ m ∧ m ≤ maxLen ∧ RC w A (ivals c.needs)
  nb : ∀ z ∈ c.needs, -9223372036854775808 ≤ z ∧ z < 9223372036854775808
theorem RCg.below {w w' : World} {v0 v1 v2 v3 v4 : Value} {c : Cg} (h : RCg w v0 v1 v2 v3 v4 c) (hb : Below w.heap.size w w') : RCg w' v0 v1 v2 v3 v4 c := by
  obtain ⟨A, m, e, h1, h2, h3⟩ := h.needs
  exact ⟨h.e0, h.e1, h.lo0, h.hi0, h.lo1, h.hi1, h.p.below hb, ⟨A, m, e, h1, h2, h3.below hb⟩, h.nb⟩
/-- A slice with this address reads as these. -/
def RCL (w : World) (A : Option Addr) (l : List Cg) : Prop :=
  ∀ k (h : k < l.length), ∃ ad v0 v1 v2 v3 v4, A = some ad ∧ w.cell? (ad.add (k * 5)) = some v0 ∧ w.cell? (ad.add (k * 5 + 1)) = some v1 ∧ w.cell? (ad.add (k * 5 + 2)) = some v2 ∧ w.cell? (ad.add (k * 5 + 3)) = some v3 ∧ w.cell? (ad.add (k * 5 + 4)) = some v4 ∧ RCg w v0 v1 v2 v3 v4 l[k]
theorem RCL.below {w w' : World} {A : Option Addr} {l : List Cg} (h : RCL w A l) (hb : Below w.heap.size w w') : RCL w' A l := fun k hk => by
  obtain ⟨ad, v0, v1, v2, v3, v4, e, h0, h1, h2, h3, h4, hp⟩ := h k hk
  exact ⟨ad, v0, v1, v2, v3, v4, e, by rw [hb.cell (block_lt_of_cell h0), h0], by rw [hb.cell (block_lt_of_cell h1), h1], by rw [hb.cell (block_lt_of_cell h2), h2], by rw [hb.cell (block_lt_of_cell h3), h3], by rw [hb.cell (block_lt_of_cell h4), h4], hp.below hb⟩

section
variable {H : Type} {enc : TypeId × Value → H} {P : Program}
/-- A slice of numbers, at its cell. -/
theorem open_nums_at {w : World} {base fuel : Nat} {t e : TypeId} {cs : List Value} {x : DataW H × List MemPlace} {spare : Nat → Bool} {held : Bool} (ht : P.underlying t = some (.slice e)) (he : P.underlying e = some (.int .i64)) (hc : P.cellsOf e = 1)
    (hf : DataW.trod enc P w base spare held fuel t cs = some x) :
    ∃ (A : Option Addr) (n c : Nat) (l : List Int), cs = [.slice A n c] ∧ l.length = n ∧ n ≤ c ∧ c ≤ maxLen ∧ RC w A (ivals l) ∧ ∀ z ∈ l, -9223372036854775808 ≤ z ∧ z < 9223372036854775808 := by
  rcases open_ints ht he hc hf with ⟨hcs, _⟩ | ⟨a, n, c, zs, hcs, _, hl, hm, hz, _, hcell, hw⟩
  · exact ⟨none, 0, 0, [], hcs, rfl, by omega, by unfold maxLen; omega, RC.nil_ _ _, by simp⟩
  · have hnz : n ≤ zs.length := by rw [hz]; split <;> omega
    refine ⟨some a, n, c, zs.take n, hcs, by simp; omega, hl, hm, fun j hj => ⟨a, rfl, ?_⟩, fun z h => ?_⟩
    · have hj' : j < n := by simp [ivals] at hj; omega
      rw [hcell j (by omega)]
      simp [ivals, List.getD, show j < zs.length by omega]
    · have hb := bounds_i64 (hw z (List.mem_of_mem_take h))
      exact ⟨hb.1, by omega⟩
theorem open_change_at {w : World} {base fuel : Nat} {s sp e en : TypeId} {f0 f1 f2 f3 p0 p1 : Field} {spare : Nat → Bool} {held : Bool} {c0 c1 c2 c3 c4 : Value} {x : DataW H × List MemPlace}
    (hs : P.underlying s = some (.struct #[f0, f1, f2, f3])) (h0 : P.underlying f0.type = some (.int .i64)) (k0 : P.cellsOf f0.type = 1) (h1 : P.underlying f1.type = some (.int .i64)) (k1 : P.cellsOf f1.type = 1)
    (h2 : f2.type = sp) (k2 : P.cellsOf f2.type = 2) (h3 : P.underlying f3.type = some (.slice en)) (k3 : P.cellsOf f3.type = 1) (hen : P.underlying en = some (.int .i64)) (kn : P.cellsOf en = 1)
    (hp : P.underlying sp = some (.struct #[p0, p1])) (hp0 : P.underlying p0.type = some (.int .i64)) (kp0 : P.cellsOf p0.type = 1) (hp1 : P.underlying p1.type = some (.slice e)) (kp1 : P.cellsOf p1.type = 1) (he : P.underlying e = some (.int .u8)) (hc : P.cellsOf e = 1) (op0 : p0.offset = 0) (op1 : p1.offset = 1)
    (o0 : f0.offset = 0) (o1 : f1.offset = 1) (o2 : f2.offset = 2) (o3 : f3.offset = 4)
    (h : DataW.trod enc P w base spare held fuel s [c0, c1, c2, c3, c4] = some x) : ∃ p, RCg w c0 c1 c2 c3 c4 p := by
  obtain ⟨y0, y1, y2, y3, n, hx, _, g0, g1, g2, g3⟩ := Go.Joins.trod_struct4 hs h
  rw [o0, k0] at g0
  rw [o1, k1] at g1
  rw [o2, k2] at g2
  rw [o3, k3] at g3
  simp at g0 g1 g2 g3
  obtain ⟨z0, e0, -, w0⟩ := DataW.trod_int h0 g0
  obtain ⟨z1, e1, -, w1⟩ := DataW.trod_int h1 g1
  rw [h2] at g2
  obtain ⟨pt, hpt⟩ := open_patch_at (c0 := c2) (c1 := c3) hp hp0 kp0 hp1 kp1 he hc op0 op1 g2
  obtain ⟨A, m, c, l, e3, hl, hm, hcm, hr, hb⟩ := open_nums_at h3 hen kn g3
  simp at e0 e1 e3
  subst e0; subst e1; subst e3; subst hl
  have b0 := bounds_i64 w0
  have b1 := bounds_i64 w1
  exact ⟨⟨z0, z1, pt, l⟩, rfl, rfl, b0.1, by show z0 < _; omega, b1.1, by show z1 < _; omega, hpt, ⟨A, c, rfl, hm, hcm, hr⟩, hb⟩
/-- A slice of changes. -/
theorem open_changes {w : World} {base : Nat} {r : Reach} {b0 : Nat} {t s sp e en : TypeId} {f0 f1 f2 f3 p0 p1 : Field} {v : Value} {d : DataW H} {ps : List MemPlace} {held : Bool} (ht : P.underlying t = some (.slice s))
    (hs : P.underlying s = some (.struct #[f0, f1, f2, f3])) (hC : P.cellsOf s = 5) (h0 : P.underlying f0.type = some (.int .i64)) (k0 : P.cellsOf f0.type = 1) (h1 : P.underlying f1.type = some (.int .i64)) (k1 : P.cellsOf f1.type = 1)
    (h2 : f2.type = sp) (k2 : P.cellsOf f2.type = 2) (h3 : P.underlying f3.type = some (.slice en)) (k3 : P.cellsOf f3.type = 1) (hen : P.underlying en = some (.int .i64)) (kn : P.cellsOf en = 1)
    (hp : P.underlying sp = some (.struct #[p0, p1])) (hp0 : P.underlying p0.type = some (.int .i64)) (kp0 : P.cellsOf p0.type = 1) (hp1 : P.underlying p1.type = some (.slice e)) (kp1 : P.cellsOf p1.type = 1) (he : P.underlying e = some (.int .u8)) (hc : P.cellsOf e = 1) (op0 : p0.offset = 0) (op1 : p1.offset = 1)
    (o0 : f0.offset = 0) (o1 : f1.offset = 1) (o2 : f2.offset = 2) (o3 : f3.offset = 4) (hv : Value.okWide P w r b0 t v) (h : DataW.Trod enc P w base (fun _ => true) held t v d ps) :
    ∃ (A : Option Addr) (n c : Nat) (l : List Cg), v = .slice A n c ∧ l.length = n ∧ n ≤ c ∧ c ≤ maxLen ∧ RCL w A l := by
  obtain ⟨a0, n, c, rfl⟩ := okWide_slice ht hv
  obtain ⟨fuel, hf⟩ := h
  rcases Go.Deep.open_slice ht hf with ⟨hcs, _⟩ | ⟨a, n', c', m, k, D, Pl, hcs, _, hl, hm, hmm, _, hx⟩
  · simp [Value.cells] at hcs
    obtain ⟨rfl, rfl, rfl⟩ := hcs
    exact ⟨none, 0, 0, [], rfl, rfl, by omega, by unfold maxLen; omega, fun k hk => absurd hk (by simp)⟩
  · simp only [if_true] at hmm
    simp [Value.cells] at hcs
    obtain ⟨rfl, rfl, rfl⟩ := hcs
    rw [hC] at hx
    have hall : ∀ i, i < m → ∃ p : Cg, ∃ v0 v1 v2 v3 v4, w.cell? (a.add (i * 5)) = some v0 ∧ w.cell? (a.add (i * 5 + 1)) = some v1 ∧ w.cell? (a.add (i * 5 + 2)) = some v2 ∧ w.cell? (a.add (i * 5 + 3)) = some v3 ∧ w.cell? (a.add (i * 5 + 4)) = some v4 ∧ RCg w v0 v1 v2 v3 v4 p := fun i hi => by
      obtain ⟨cs', g1, g2⟩ := hx i hi
      obtain ⟨_, hlen, hg⟩ := World.cells?_some g1
      match cs', hlen with
      | [c0, c1, c2, c3, c4], _ =>
        obtain ⟨p, hp'⟩ := open_change_at (c0 := c0) (c1 := c1) (c2 := c2) (c3 := c3) (c4 := c4) hs h0 k0 h1 k1 h2 k2 h3 k3 hen kn hp hp0 kp0 hp1 kp1 he hc op0 op1 o0 o1 o2 o3 g2
        have e0 := hg 0 (by omega)
        have e1 := hg 1 (by omega)
        have e2 := hg 2 (by omega)
        have e3 := hg 3 (by omega)
        have e4 := hg 4 (by omega)
        rw [add_of_add] at e0 e1 e2 e3 e4
        exact ⟨p, c0, c1, c2, c3, c4, by simpa using e0, by simpa using e1, by simpa using e2, by simpa using e3, by simpa using e4, hp'⟩
    obtain ⟨B, hB⟩ := Go.Deep.choose_lt (α := Cg) (p := fun i p => ∃ v0 v1 v2 v3 v4, w.cell? (a.add (i * 5)) = some v0 ∧ w.cell? (a.add (i * 5 + 1)) = some v1 ∧ w.cell? (a.add (i * 5 + 2)) = some v2 ∧ w.cell? (a.add (i * 5 + 3)) = some v3 ∧ w.cell? (a.add (i * 5 + 4)) = some v4 ∧ RCg w v0 v1 v2 v3 v4 p) hall
    refine ⟨some a, n, c, (List.range n).map B, rfl, by simp, hl, hm, fun j hj => ?_⟩
    have hj' : j < n := by simpa using hj
    obtain ⟨v0, v1, v2, v3, v4, g0, g1, g2, g3, g4, hp'⟩ := hB j (by omega)
    exact ⟨a, v0, v1, v2, v3, v4, rfl, g0, g1, g2, g3, g4, by simpa using hp'⟩
end

end Go.Proofs.Ytmcinaigkjfehaa

/-
  Rows of structs of N one-cell fields, of the call's own: one struct made as a slice, appended, read. Plain; no program is named here.
-/
namespace Go.Proofs.Ytmcinaigkjfehaa
open Go.RowKit

theorem flatN_len {N : Nat} {L : List (List Value)} (h : ∀ r ∈ L, r.length = N) : L.flatten.length = L.length * N := by
  induction L with
  | nil => simp
  | cons x L ih =>
    rw [List.flatten_cons, List.length_append, ih (fun r hr => h r (List.mem_cons_of_mem _ hr)), h x (by simp), List.length_cons, Nat.add_mul, Nat.one_mul, Nat.add_comm]
theorem flatN_get {N : Nat} {L : List (List Value)} (h : ∀ r ∈ L, r.length = N) {k i : Nat} (hk : k < L.length) (hi : i < N) : L.flatten[k * N + i]? = L[k][i]? := by
  induction L generalizing k with
  | nil => simp at hk
  | cons x L ih =>
    have hx := h x (by simp)
    rw [List.flatten_cons]
    cases k with
    | zero =>
      rw [Nat.zero_mul, Nat.zero_add, List.getElem?_append_left (by omega)]
      rfl
    | succ k =>
      have hk' : k < L.length := by simpa using hk
      rw [List.getElem?_append_right (by rw [hx, Nat.add_mul]; omega)]
      have e : (k + 1) * N + i - x.length = k * N + i := by rw [hx, Nat.add_mul]; omega
      rw [e, ih (fun r hr => h r (List.mem_cons_of_mem _ hr)) hk']
      rfl
/-- A slice with this address has these cells, N for each element. -/
def RN (w : World) (A : Option Addr) (N : Nat) (L : List (List Value)) : Prop :=
  ∀ k (h : k < L.length) i, i < N → ∃ ad x, A = some ad ∧ L[k][i]? = some x ∧ w.cell? (ad.add (k * N + i)) = some x
theorem RN.below {w w' : World} {A : Option Addr} {N : Nat} {L : List (List Value)} (h : RN w A N L) (hb : Below w.heap.size w w') : RN w' A N L := fun k hk i hi => by
  obtain ⟨ad, x, e, hx, hc⟩ := h k hk i hi
  exact ⟨ad, x, e, hx, by rw [hb.cell (block_lt_of_cell hc), hc]⟩
/-- .. of the call's own. -/
def OwnN (w : World) (B : Nat) (e : TypeId) (N : Nat) (v : Value) (L : List (List Value)) : Prop := (∀ r ∈ L, r.length = N) ∧ w.ownsRow B e N v L.length L.flatten
theorem OwnN.nil_ (w : World) (B : Nat) (e : TypeId) (N : Nat) : OwnN w B e N (.slice none 0 0) [] := ⟨fun r hr => by simp at hr, World.ownsRow_nil w B e N⟩
theorem OwnN.lt {w : World} {B : Nat} {e : TypeId} {N : Nat} {v : Value} {L : List (List Value)} (h : OwnN w B e N v L) : ∀ k, v.ownBlock = some k → B ≤ k ∧ k < w.heap.size := World.ownsRow.lt h.2
theorem OwnN.ext {w w' : World} {B : Nat} {e : TypeId} {N : Nat} {v : Value} {L : List (List Value)} (h : OwnN w B e N v L) (hb : Below w.heap.size w w') : OwnN w' B e N v L := by
  obtain ⟨hL, hl, h | ⟨g, cap, cur, hv, hbg, hg, h⟩⟩ := h
  · exact ⟨hL, hl, Or.inl h⟩
  · exact ⟨hL, hl, Or.inr ⟨g, cap, cur, hv, hbg, Blk.ext hg hb, h⟩⟩
theorem OwnN.read {w : World} {B : Nat} {e : TypeId} {N : Nat} {v : Value} {L : List (List Value)} (h : OwnN w B e N v L) : ∃ A c, v = .slice A L.length c ∧ L.length ≤ c ∧ c ≤ maxLen ∧ RN w A N L := by
  obtain ⟨hL, hl, h | ⟨g, cap, cur, hv, hb, hg, hn, hc, hs, ht⟩⟩ := h
  · refine ⟨none, 0, by rw [h.1, h.2], by omega, by unfold maxLen; omega, fun k hk => ?_⟩
    have := h.2
    omega
  · refine ⟨_, cap, hv, hn, hc, fun k hk i hi => ?_⟩
    have hil : i < L[k].length := by rw [hL _ (List.getElem_mem hk)]; exact hi
    refine ⟨_, L[k][i], rfl, List.getElem?_eq_getElem hil, ?_⟩
    have h2 : (cur.toList.take (L.length * N))[k * N + i]? = L.flatten[k * N + i]? := by rw [ht]
    have hlt : k * N + i < L.length * N := by
      have : (k + 1) * N ≤ L.length * N := Nat.mul_le_mul_right N hk
      rw [Nat.add_mul] at this
      omega
    rw [List.getElem?_take_of_lt hlt, flatN_get hL hk hi, List.getElem?_eq_getElem hil] at h2
    rw [addr_add0, cell_of_row w g _ cur e (0, 0) hg]
    simpa using h2
/-- .. no element of which is there: the block is empty, or there is none. -/
theorem OwnN.zero (w : World) (B : Nat) (e : TypeId) (N g : Nat) (hB : B ≤ g) (hg : Blk w g e #[]) : OwnN w B e N (.slice (some ⟨g, 0, none⟩) 0 0) [] :=
  ⟨fun r hr => by simp at hr, by simp, Or.inr ⟨g, 0, #[], rfl, hB, hg, Nat.le_refl _, by unfold maxLen; omega, by simp, by simp⟩⟩

section
variable {P : Program} {ops : Array Oper} {rest : List Oper} {o : Oper} {a : Act} {w : World} {K : Act → World → Prop} {Q : Exit → Act → World → Prop}
/-- A slice of one struct. -/
theorem run_build_row (P : Program) (w : World) (t e : TypeId) (ht : P.underlying t = some (.slice e)) (N by_ : Nat) (z : Value) (hi : (P.info? e).map (fun i => (i.zero, i.size, i.bytes)) = some (some z, N, by_)) (h0 : 0 < N) (hN : N ≤ 65536) (cs : Array Value) (hcs : cs.size = N) :
    (Instr.buildSlice t 1 #[(0, .agg cs)]).run P w = .ok (.slice (some ⟨w.heap.size, 0, none⟩) 1 1) (w.alloc (.cells cs e)) := by
  obtain ⟨i, h1, h2, h3, h4⟩ := info_parts hi
  have hsz : ((Array.range (1 * N)).map (z.cells[· % z.cells.size]!)).size = N := by rw [Array.size_map, Array.size_range, Nat.one_mul]
  have hf : Instr.fill (fun j => some (j * N, N)) ((Array.range (1 * N)).map (z.cells[· % z.cells.size]!)) [(0, .agg cs)] = some cs := by
    generalize (Array.range (1 * N)).map (z.cells[· % z.cells.size]!) = c0 at hsz
    have hw := Go.Great.fill_whole (s := N) h0 [.agg cs] c0 (fun v hv => by
      rw [List.mem_singleton] at hv
      subst hv
      exact hcs) (by rw [hsz, List.length_singleton, Nat.one_mul])
    have e1 : (([.agg cs] : List Value).flatMap fun v => v.cells.toList).toArray = cs := by
      rw [List.flatMap_cons, List.flatMap_nil, List.append_nil]
      exact Array.toArray_toList
    rw [e1] at hw
    exact hw
  exact run_buildSlice (P := P) w t e 1 #[(0, .agg cs)] cs i z ht h1 h2 (by rw [h3]; omega) (by rw [h3]; omega) (by rw [h3]; exact hf)
theorem ow_build_row (t e : TypeId) (x : Operand) (ho : o.op = .buildSlice t 1 #[(0, x)]) (ht : P.underlying t = some (.slice e)) (N by_ : Nat) (z : Value) (hi : (P.info? e).map (fun i => (i.zero, i.size, i.bytes)) = some (some z, N, by_)) (h0 : 0 < N) (hN : N ≤ 65536)
    (cs : Array Value) (hx : a.eval x = .agg cs) (hcs : cs.size = N) (h : Stop (∀ w', Hid (Grew w w') → Hid (Blk w' w.heap.size e cs) → K (a.put o.dst (.slice (some ⟨w.heap.size, 0, none⟩) 1 1)) w')) : o.wp P a w K Q := by
  unfold Oper.wp execOp
  simp only [ho, hx, Sem.run_bind, List.map_toArray, List.map_cons, List.map_nil, run_build_row P w t e ht N by_ z hi h0 hN cs hcs, Result.andThen_ok]
  exact h _ (Grew.alloc w _) (Blk.new w e _)
theorem wpList_build_row (hgd : Region.wanted o (yielded ops a.tmps) = true) (t e : TypeId) (x : Operand) (ho : o.op = .buildSlice t 1 #[(0, x)]) (ht : P.underlying t = some (.slice e)) (N by_ : Nat) (z : Value) (hi : (P.info? e).map (fun i => (i.zero, i.size, i.bytes)) = some (some z, N, by_)) (h0 : 0 < N) (hN : N ≤ 65536)
    (cs : Array Value) (hx : a.eval x = .agg cs) (hcs : cs.size = N) (h : Stop (∀ w', Hid (Grew w w') → Hid (Blk w' w.heap.size e cs) → wpList P ops Q rest (a.put o.dst (.slice (some ⟨w.heap.size, 0, none⟩) 1 1)) w')) : wpList P ops Q (o :: rest) a w :=
  wpList_wanted hgd fun _ hK => ow_build_row t e x ho ht N by_ z hi h0 hN cs hx hcs (fun w' h1 h2 => hK _ _ (h w' h1 h2))
/-- append of structs to a slice of the call's own: where it lies, and that no block but its own has changed. -/
theorem run_append_row (P : Program) (w : World) (t ty e : TypeId) (ht : P.underlying t = some (.slice e)) (N by_ : Nat) (z : Value) (hi : (P.info? e).map (fun i => (i.zero, i.size, i.bytes)) = some (some z, N, by_)) (hz : z.cells.size = N) (h0 : 0 < N)
    (B : Nat) (v : Value) (L : List (List Value)) (hown : OwnN w B e N v L) (ad : Addr) (n c : Nat) (M : List (List Value)) (hM : ∀ r ∈ M, r.length = N ∧ ∀ u ∈ r, u.oneCell' = true) (hn : M.length = n) (hn0 : 0 < n) (hr : RN w (some ad) N M) (hB : B ≤ w.heap.size) (hlen : L.length + n ≤ 140737488355328) (hby : (L.length + n) * by_ ≤ 140737488355328) :
    ∃ g cap w', (Builtin.append_ #[t, t] ty #[v, .slice (some ad) n c]).run P w = .ok (.slice (some ⟨g, 0, none⟩) (L.length + n) cap) w' ∧ OwnN w' B e N (.slice (some ⟨g, 0, none⟩) (L.length + n) cap) (L ++ M) ∧ Below B w w' ∧ w.grownBy w' v.ownBlock ∧ (v.ownBlock = some g ∨ g = w.heap.size) ∧ g < w'.heap.size := by
  obtain ⟨i, h1, h2, h3, h4⟩ := info_parts hi
  have hM1 : ∀ r ∈ M, r.length = N := fun r hr => (hM r hr).1
  have hfl := flatN_len hM1
  obtain ⟨g, cap, w', hrun, ho, hg, hw, hlt⟩ := run_append_lies (P := P) (w := w) t ty B e i z N by_ ht h1 h2 h3 h4 hz h0 v L.length _ hown.2 ad n c M.flatten (by rw [hfl, hn]) (fun j u hj => by
    have hjl : j < M.length * N := by
      have := (List.getElem?_eq_some_iff.1 hj).1
      rwa [hfl] at this
    have hk : j / N < M.length := (Nat.div_lt_iff_lt_mul h0).2 hjl
    obtain ⟨ad', x, e1, hx, hc⟩ := hr (j / N) hk (j % N) (Nat.mod_lt _ h0)
    injection e1 with e1
    subst e1
    have hjj : j / N * N + j % N = j := by rw [Nat.mul_comm]; exact Nat.div_add_mod j N
    rw [hjj] at hc
    have h5 := flatN_get hM1 hk (Nat.mod_lt j h0)
    rw [hjj, hj, hx] at h5
    injection h5 with h5
    rw [hc, h5]) (fun u hu => by
    obtain ⟨r, hr1, hr2⟩ := List.mem_flatten.1 hu
    exact (hM r hr1).2 u hr2) hn0 (by unfold maxLen; omega) hby hB w.heap.size rfl
  refine ⟨g, cap, w', hrun, ⟨fun r hr => ?_, ?_⟩, (Below.refl B w).grown hg hB (fun k hk => (hown.lt k hk).1), hg, hw, hlt⟩
  · rcases List.mem_append.1 hr with hr | hr
    · exact hown.1 r hr
    · exact hM1 r hr
  · rw [List.length_append, hn, List.flatten_append]
    exact ho
/-- One struct that lies in a block of its own, as a row. -/
theorem RN.one {w : World} {g N : Nat} {e : TypeId} {cs : Array Value} (hg : Blk w g e cs) (hcs : cs.size = N) : RN w (some ⟨g, 0, none⟩) N [cs.toList] := fun k hk i hi => by
  have h0 : k = 0 := by simpa using hk
  subst h0
  refine ⟨_, cs[i]'(by omega), rfl, by simp [show i < cs.size by omega], ?_⟩
  rw [addr_add0, Nat.zero_mul, Nat.zero_add, hg.cell, Array.getElem?_eq_getElem (by omega)]
theorem ow_append_row1 (s x : Operand) (t e : TypeId) (ho : o.op = .call { callee := .builtin .append, args := #[s, x], argTypes := #[t, t] })
    (ht : P.underlying t = some (.slice e)) (N by_ : Nat) (z : Value) (hi : (P.info? e).map (fun i => (i.zero, i.size, i.bytes)) = some (some z, N, by_)) (hz : z.cells.size = N) (h0 : 0 < N)
    (B : Nat) (v : Value) (L : List (List Value)) (hs : a.eval s = v) (hown : OwnN w B e N v L) (g0 : Nat) (cs : Array Value) (hx : a.eval x = .slice (some ⟨g0, 0, none⟩) 1 1) (hg : Blk w g0 e cs) (hcs : cs.size = N) (h1 : cs.all (·.oneCell') = true) (hB : B ≤ w.heap.size) (hlen : L.length + 1 ≤ 140737488355328) (hby : (L.length + 1) * by_ ≤ 140737488355328)
    (h : Stop (∀ g cap w', Hid (OwnN w' B e N (.slice (some ⟨g, 0, none⟩) (L.length + 1) cap) (L ++ [cs.toList])) → Hid (Below B w w') → Hid (w.grownBy w' v.ownBlock) → Hid ((v.ownBlock = some g ∨ g = w.heap.size) ∧ g < w'.heap.size) → K (a.put o.dst (.slice (some ⟨g, 0, none⟩) (L.length + 1) cap)) w')) : o.wp P a w K Q := by
  obtain ⟨g, cap, w', hrun, g1, g2, g3, g4, g5⟩ := run_append_row P w t o.type e ht N by_ z hi hz h0 B v L hown ⟨g0, 0, none⟩ 1 1 [cs.toList] (fun r hr => by
    rw [List.mem_singleton] at hr
    subst hr
    exact ⟨by rw [Array.length_toList]; exact hcs, fun u hu => Array.all_eq_true_iff_forall_mem.1 h1 u (Array.mem_toList_iff.1 hu)⟩) rfl (by decide) (RN.one hg hcs) hB hlen hby
  unfold Oper.wp execOp
  simp only [ho, resolve, invoke, builtin, Sem.run_bind, Sem.run_pure, Result.andThen_ok, List.map_toArray, List.map_cons, List.map_nil, hs, hx, hrun]
  exact h g cap w' g1 g2 g3 ⟨g4, g5⟩
theorem wpList_append_row1 (hgd : Region.wanted o (yielded ops a.tmps) = true) (s x : Operand) (t e : TypeId) (ho : o.op = .call { callee := .builtin .append, args := #[s, x], argTypes := #[t, t] })
    (ht : P.underlying t = some (.slice e)) (N by_ : Nat) (z : Value) (hi : (P.info? e).map (fun i => (i.zero, i.size, i.bytes)) = some (some z, N, by_)) (hz : z.cells.size = N) (h0 : 0 < N)
    (B : Nat) (v : Value) (L : List (List Value)) (hs : a.eval s = v) (hown : OwnN w B e N v L) (g0 : Nat) (cs : Array Value) (hx : a.eval x = .slice (some ⟨g0, 0, none⟩) 1 1) (hg : Blk w g0 e cs) (hcs : cs.size = N) (h1 : cs.all (·.oneCell') = true) (hB : B ≤ w.heap.size) (hlen : L.length + 1 ≤ 140737488355328) (hby : (L.length + 1) * by_ ≤ 140737488355328)
    (h : Stop (∀ g cap w', Hid (OwnN w' B e N (.slice (some ⟨g, 0, none⟩) (L.length + 1) cap) (L ++ [cs.toList])) → Hid (Below B w w') → Hid (w.grownBy w' v.ownBlock) → Hid ((v.ownBlock = some g ∨ g = w.heap.size) ∧ g < w'.heap.size) → wpList P ops Q rest (a.put o.dst (.slice (some ⟨g, 0, none⟩) (L.length + 1) cap)) w')) : wpList P ops Q (o :: rest) a w :=
  wpList_wanted hgd fun _ hK => ow_append_row1 s x t e ho ht N by_ z hi hz h0 B v L hs hown g0 cs hx hg hcs h1 hB hlen hby (fun g cap w' q1 q2 q3 q4 => hK _ _ (h g cap w' q1 q2 q3 q4))
end

end Go.Proofs.Ytmcinaigkjfehaa

/-
  Lists of structs of the call's own whose slices lie elsewhere: what each row reads as stays, as the list grows. Plain; no program is named here.
-/
namespace Go.Proofs.Ytmcinaigkjfehaa
open Go.RowKit

/-- The blocks to which a row's slices lead (those that are not empty). -/
def leads : Value → Option Nat
  | .slice (some ad) n _ => if n = 0 then none else some ad.block
  | _ => none
def blocksOf (r : List Value) : List Nat := r.filterMap leads
theorem mem_blocksOf {r : List Value} {g : Nat} : g ∈ blocksOf r ↔ ∃ v ∈ r, leads v = some g := by unfold blocksOf; rw [List.mem_filterMap]
/-- How rows read: what they lead to is there, and as long as that stays, it reads so. -/
structure Rds (α : Type) where
  R : World → List Value → α → Prop
  stable : ∀ {w w' : World} {r x}, R w r x → (∀ g ∈ blocksOf r, w'.heap[g]? = w.heap[g]?) → R w' r x
  there : ∀ {w : World} {r x}, R w r x → ∀ g ∈ blocksOf r, g < w.heap.size
theorem Rds.below {α : Type} (D : Rds α) {w w' : World} {r : List Value} {x : α} (h : D.R w r x) (hb : Below w.heap.size w w') : D.R w' r x := D.stable h fun g hg => hb.block g (D.there h g hg)

/-- A list of the call's own that reads as these. -/
def OwnL {α : Type} (D : Rds α) (w : World) (B : Nat) (e : TypeId) (N : Nat) (v : Value) (l : List α) : Prop :=
  ∃ rows, OwnN w B e N v rows ∧ rows.length = l.length ∧ (∀ k (h : k < rows.length) (h' : k < l.length), D.R w rows[k] l[k]) ∧ ∀ r ∈ rows, ∀ g ∈ blocksOf r, v.ownBlock ≠ some g
theorem OwnL.nil_ {α : Type} (D : Rds α) (w : World) (B : Nat) (e : TypeId) (N : Nat) : OwnL D w B e N (.slice none 0 0) [] :=
  ⟨[], OwnN.nil_ w B e N, rfl, fun k h => absurd h (by simp), fun r hr => by simp at hr⟩
theorem OwnL.zero {α : Type} (D : Rds α) (w : World) (B : Nat) (e : TypeId) (N g : Nat) (hB : B ≤ g) (hg : Blk w g e #[]) : OwnL D w B e N (.slice (some ⟨g, 0, none⟩) 0 0) [] :=
  ⟨[], OwnN.zero w B e N g hB hg, rfl, fun k h => absurd h (by simp), fun r hr => by simp at hr⟩
theorem OwnL.ext {α : Type} {D : Rds α} {w w' : World} {B : Nat} {e : TypeId} {N : Nat} {v : Value} {l : List α} (h : OwnL D w B e N v l) (hb : Below w.heap.size w w') : OwnL D w' B e N v l := by
  obtain ⟨rows, h1, h2, h3, h4⟩ := h
  exact ⟨rows, h1.ext hb, h2, fun k hk hk' => D.below (h3 k hk hk') hb, h4⟩
/-- A slice with this address reads as these. -/
def RdL {α : Type} (D : Rds α) (w : World) (A : Option Addr) (N : Nat) (l : List α) : Prop :=
  ∃ rows : List (List Value), (∀ r ∈ rows, r.length = N) ∧ RN w A N rows ∧ rows.length = l.length ∧ ∀ k (h : k < rows.length) (h' : k < l.length), D.R w rows[k] l[k]
theorem RdL.below {α : Type} {D : Rds α} {w w' : World} {A : Option Addr} {N : Nat} {l : List α} (h : RdL D w A N l) (hb : Below w.heap.size w w') : RdL D w' A N l := by
  obtain ⟨rows, h0, h1, h2, h3⟩ := h
  exact ⟨rows, h0, h1.below hb, h2, fun k hk hk' => D.below (h3 k hk hk') hb⟩
theorem OwnL.read {α : Type} {D : Rds α} {w : World} {B : Nat} {e : TypeId} {N : Nat} {v : Value} {l : List α} (h : OwnL D w B e N v l) : ∃ A c, v = .slice A l.length c ∧ l.length ≤ c ∧ c ≤ maxLen ∧ RdL D w A N l := by
  obtain ⟨rows, h1, h2, h3, _⟩ := h
  obtain ⟨A, c, hv, q1, q2, hr⟩ := h1.read
  rw [h2] at hv q1
  exact ⟨A, c, hv, q1, q2, rows, h1.1, hr, h2, h3⟩
/-- The row at a place. -/
theorem RdL.at_ {α : Type} {D : Rds α} {w : World} {A : Option Addr} {N : Nat} {l : List α} (h : RdL D w A N l) {k : Nat} (hk : k < l.length) (h0 : 0 < N) :
    ∃ ad r, A = some ad ∧ r.length = N ∧ D.R w r l[k] ∧ ∀ j v, r[j]? = some v → w.cell? ((ad.add (k * N)).add j) = some v := by
  obtain ⟨rows, h1, h2, h3, h4⟩ := h
  have hk' : k < rows.length := by omega
  obtain ⟨ad, _, e, _, _⟩ := h2 k hk' 0 h0
  refine ⟨ad, rows[k], e, h1 _ (List.getElem_mem hk'), h4 k hk' hk, fun j v hj => ?_⟩
  have hjl : j < N := by
    have := (List.getElem?_eq_some_iff.1 hj).1
    rwa [h1 _ (List.getElem_mem hk')] at this
  obtain ⟨ad', x, e', hx, hc⟩ := h2 k hk' j hjl
  rw [e] at e'
  injection e' with e'
  subst e'
  rw [hj] at hx
  injection hx with hx
  subst hx
  rw [add_of_add]
  exact hc
/-- One more: a row of the call's own behind an append. -/
theorem OwnL.snoc {α : Type} {D : Rds α} {w w' : World} {B : Nat} {e : TypeId} {N : Nat} {v : Value} {l : List α} {r : List Value} {x : α} {rows : List (List Value)} {g cap n : Nat}
    (_h1 : OwnN w B e N v rows) (h2 : rows.length = l.length) (h3 : ∀ k (h : k < rows.length) (h' : k < l.length), D.R w rows[k] l[k]) (h4 : ∀ r ∈ rows, ∀ g ∈ blocksOf r, v.ownBlock ≠ some g)
    (hr : D.R w r x) (hrv : ∀ g ∈ blocksOf r, v.ownBlock ≠ some g) (ho : OwnN w' B e N (.slice (some ⟨g, 0, none⟩) n cap) (rows ++ [r])) (hg : w.grownBy w' v.ownBlock) (hw : v.ownBlock = some g ∨ g = w.heap.size) : OwnL D w' B e N (.slice (some ⟨g, 0, none⟩) n cap) (l ++ [x]) := by
  have key : ∀ r' x', D.R w r' x' → (∀ g ∈ blocksOf r', v.ownBlock ≠ some g) → D.R w' r' x' := fun r' x' hr' ha => D.stable hr' fun q hq => hg.block q (D.there hr' q hq) (fun e => ha q hq e.symm)
  have far : ∀ r' x', D.R w r' x' → (∀ g ∈ blocksOf r', v.ownBlock ≠ some g) → ∀ q ∈ blocksOf r', (Value.slice (some ⟨g, 0, none⟩) n cap).ownBlock ≠ some q := fun r' x' hr' ha q hq e => by
    have e' : g = q := by simpa [Value.ownBlock] using e
    subst e'
    rcases hw with hw | hw
    · exact ha g hq hw
    · have := D.there hr' g hq
      omega
  refine ⟨rows ++ [r], ho, by simp [h2], fun k hk hk' => ?_, fun r' hr' => ?_⟩
  · by_cases hlt : k < rows.length
    · rw [List.getElem_append_left hlt, List.getElem_append_left (by omega)]
      exact key _ _ (h3 k hlt (by omega)) (h4 _ (List.getElem_mem hlt))
    · have hkr : k = rows.length := by simp at hk; omega
      subst hkr
      simp only [List.getElem_append_right (Nat.le_refl _), Nat.sub_self, List.getElem_cons_zero]
      rw [List.getElem_append_right (by omega)]
      simp only [h2, Nat.sub_self, List.getElem_cons_zero]
      exact key _ _ hr hrv
  · rcases List.mem_append.1 hr' with hr' | hr'
    · obtain ⟨k, hk, rfl⟩ := List.getElem_of_mem hr'
      exact far _ _ (h3 k hk (by omega)) (h4 _ (List.getElem_mem hk))
    · rw [List.mem_singleton] at hr'
      subst hr'
      exact far _ _ hr hrv

section
variable {P : Program} {ops : Array Oper} {rest : List Oper} {o : Oper} {a : Act} {w : World} {K : Act → World → Prop} {Q : Exit → Act → World → Prop}
/-- append of one struct, made just ahead as a slice of one. -/
theorem ow_append_L {α : Type} (D : Rds α) (s x : Operand) (t e : TypeId) (ho : o.op = .call { callee := .builtin .append, args := #[s, x], argTypes := #[t, t] })
    (ht : P.underlying t = some (.slice e)) (N by_ : Nat) (z : Value) (hi : (P.info? e).map (fun i => (i.zero, i.size, i.bytes)) = some (some z, N, by_)) (hz : z.cells.size = N) (h0 : 0 < N)
    (B : Nat) (v : Value) (l : List α) (hs : a.eval s = v) (hown : OwnL D w B e N v l) (g0 : Nat) (cs : Array Value) (hx : a.eval x = .slice (some ⟨g0, 0, none⟩) 1 1) (hg : Blk w g0 e cs) (hcs : cs.size = N) (h1 : cs.all (·.oneCell') = true) (y : α) (hy : D.R w cs.toList y) (ha : ∀ g ∈ blocksOf cs.toList, v.ownBlock ≠ some g)
    (hB : B ≤ w.heap.size) (hlen : l.length + 1 ≤ 140737488355328) (hby : (l.length + 1) * by_ ≤ 140737488355328)
    (h : Stop (∀ g cap w', Hid (OwnL D w' B e N (.slice (some ⟨g, 0, none⟩) (l.length + 1) cap) (l ++ [y])) → Hid (Below B w w') → Hid (w.grownBy w' v.ownBlock) → Hid ((v.ownBlock = some g ∨ g = w.heap.size) ∧ g < w'.heap.size) → K (a.put o.dst (.slice (some ⟨g, 0, none⟩) (l.length + 1) cap)) w')) : o.wp P a w K Q := by
  obtain ⟨rows, r1, r2, r3, r4⟩ := hown
  refine ow_append_row1 s x t e ho ht N by_ z hi hz h0 B v rows hs r1 g0 cs hx hg hcs h1 hB (by omega) (by rw [r2]; exact hby) ?_
  intro g cap w' q1 q2 q3 q4
  rw [r2] at q1 ⊢
  exact h g cap w' (Lib.hid (OwnL.snoc r1 r2 r3 r4 hy ha q1.out q3.out q4.out.1)) q2 q3 q4
theorem wpList_append_L {α : Type} (D : Rds α) (hgd : Region.wanted o (yielded ops a.tmps) = true) (s x : Operand) (t e : TypeId) (ho : o.op = .call { callee := .builtin .append, args := #[s, x], argTypes := #[t, t] })
    (ht : P.underlying t = some (.slice e)) (N by_ : Nat) (z : Value) (hi : (P.info? e).map (fun i => (i.zero, i.size, i.bytes)) = some (some z, N, by_)) (hz : z.cells.size = N) (h0 : 0 < N)
    (B : Nat) (v : Value) (l : List α) (hs : a.eval s = v) (hown : OwnL D w B e N v l) (g0 : Nat) (cs : Array Value) (hx : a.eval x = .slice (some ⟨g0, 0, none⟩) 1 1) (hg : Blk w g0 e cs) (hcs : cs.size = N) (h1 : cs.all (·.oneCell') = true) (y : α) (hy : D.R w cs.toList y) (ha : ∀ g ∈ blocksOf cs.toList, v.ownBlock ≠ some g)
    (hB : B ≤ w.heap.size) (hlen : l.length + 1 ≤ 140737488355328) (hby : (l.length + 1) * by_ ≤ 140737488355328)
    (h : Stop (∀ g cap w', Hid (OwnL D w' B e N (.slice (some ⟨g, 0, none⟩) (l.length + 1) cap) (l ++ [y])) → Hid (Below B w w') → Hid (w.grownBy w' v.ownBlock) → Hid ((v.ownBlock = some g ∨ g = w.heap.size) ∧ g < w'.heap.size) → wpList P ops Q rest (a.put o.dst (.slice (some ⟨g, 0, none⟩) (l.length + 1) cap)) w')) : wpList P ops Q (o :: rest) a w :=
  wpList_wanted hgd fun _ hK => ow_append_L D s x t e ho ht N by_ z hi hz h0 B v l hs hown g0 cs hx hg hcs h1 y hy ha hB hlen hby (fun g cap w' q1 q2 q3 q4 => hK _ _ (h g cap w' q1 q2 q3 q4))
end

end Go.Proofs.Ytmcinaigkjfehaa

/-
  Changes as rows of five cells: how they read, from whatever list they are. Plain; no program is named here.
-/
namespace Go.Proofs.Ytmcinaigkjfehaa
open Go.RowKit

theorem RB.same {w w' : World} {A : Option Addr} {l : List UInt8} (h : RB w A l) (hs : 0 < l.length → ∀ ad, A = some ad → w'.heap[ad.block]? = w.heap[ad.block]?) : RB w' A l := fun k hk => by
  obtain ⟨ad, e, hc⟩ := h k hk
  refine ⟨ad, e, ?_⟩
  rw [World.cell?_of_block (w := w) (w' := w') (a := ad.add k) (by rw [block_of_add]; exact hs (by omega) ad e)]
  exact hc
theorem RC.same {w w' : World} {A : Option Addr} {l : List Value} (h : RC w A l) (hs : 0 < l.length → ∀ ad, A = some ad → w'.heap[ad.block]? = w.heap[ad.block]?) : RC w' A l := fun k hk => by
  obtain ⟨ad, e, hc⟩ := h k hk
  refine ⟨ad, e, ?_⟩
  rw [World.cell?_of_block (w := w) (w' := w') (a := ad.add k) (by rw [block_of_add]; exact hs (by omega) ad e)]
  exact hc
theorem leads_slice (ad : Addr) (n c : Nat) : leads (.slice (some ad) n c) = if n = 0 then none else some ad.block := rfl
/-- A change as a row. -/
def RdC : Rds Cg where
  R := fun w r c => ∃ v0 v1 v2 v3 v4, r = [v0, v1, v2, v3, v4] ∧ RCg w v0 v1 v2 v3 v4 c
  stable := by
    rintro w w' r c ⟨v0, v1, v2, v3, v4, rfl, h⟩ hs
    obtain ⟨A, m, e4, q1, q2, hr4⟩ := h.needs
    obtain ⟨A3, m3, e3, q3, q4, hr3⟩ := h.p.bytes
    refine ⟨v0, v1, v2, v3, v4, rfl, h.e0, h.e1, h.lo0, h.hi0, h.lo1, h.hi1, ⟨h.p.num, h.p.lo, h.p.hi, A3, m3, e3, q3, q4, ?_⟩, ⟨A, m, e4, q1, q2, ?_⟩, h.nb⟩
    · refine RB.same hr3 fun hl ad ha => hs ad.block (mem_blocksOf.2 ⟨v3, by simp, ?_⟩)
      subst ha
      rw [e3, leads_slice, if_neg (by omega)]
    · refine RC.same hr4 fun hl ad ha => hs ad.block (mem_blocksOf.2 ⟨v4, by simp, ?_⟩)
      subst ha
      rw [ivals_len] at hl
      rw [e4, leads_slice, if_neg (by omega)]
  there := by
    rintro w r c ⟨v0, v1, v2, v3, v4, rfl, h⟩ g hg
    obtain ⟨v, hv, hl⟩ := mem_blocksOf.1 hg
    obtain ⟨A, m, e4, q1, q2, hr4⟩ := h.needs
    obtain ⟨A3, m3, e3, q3, q4, hr3⟩ := h.p.bytes
    simp only [List.mem_cons, List.mem_nil_iff, or_false] at hv
    rcases hv with rfl | rfl | rfl | rfl | rfl
    · rw [h.e0] at hl; cases hl
    · rw [h.e1] at hl; cases hl
    · rw [h.p.num] at hl; cases hl
    · rw [e3] at hl
      cases A3 with
      | none => cases hl
      | some ad =>
        rw [leads_slice] at hl
        by_cases hz : c.p.data.length = 0
        · rw [if_pos hz] at hl; cases hl
        · rw [if_neg hz] at hl
          injection hl with hl
          subst hl
          obtain ⟨ad', e', hc⟩ := hr3 0 (by omega)
          injection e' with e'
          subst e'
          have := block_lt_of_cell hc
          rwa [block_of_add] at this
    · rw [e4] at hl
      cases A with
      | none => cases hl
      | some ad =>
        rw [leads_slice] at hl
        by_cases hz : c.needs.length = 0
        · rw [if_pos hz] at hl; cases hl
        · rw [if_neg hz] at hl
          injection hl with hl
          subst hl
          obtain ⟨ad', e', hc⟩ := hr4 0 (by rw [ivals_len]; omega)
          injection e' with e'
          subst e'
          have := block_lt_of_cell hc
          rwa [block_of_add] at this
/-- Changes that came in, as rows. -/
theorem RCL.rd {w : World} {A : Option Addr} {l : List Cg} (h : RCL w A l) : RdL RdC w A 5 l := by
  have hall : ∀ k, k < l.length → ∃ r : List Value, ∃ v0 v1 v2 v3 v4, r = [v0, v1, v2, v3, v4] ∧ (∀ hk : k < l.length, RCg w v0 v1 v2 v3 v4 l[k]) ∧ ∃ ad, A = some ad ∧ ∀ i v, r[i]? = some v → w.cell? (ad.add (k * 5 + i)) = some v := fun k hk => by
    obtain ⟨ad, v0, v1, v2, v3, v4, e, h0, h1, h2, h3, h4, hr⟩ := h k hk
    refine ⟨_, v0, v1, v2, v3, v4, rfl, fun _ => hr, ad, e, fun i v hi => ?_⟩
    match i, hi with
    | 0, hi => simp at hi; subst hi; exact h0
    | 1, hi => simp at hi; subst hi; exact h1
    | 2, hi => simp at hi; subst hi; exact h2
    | 3, hi => simp at hi; subst hi; exact h3
    | 4, hi => simp at hi; subst hi; exact h4
  obtain ⟨F, hF⟩ := Go.Deep.choose_lt (α := List Value) (p := fun k r => ∃ v0 v1 v2 v3 v4, r = [v0, v1, v2, v3, v4] ∧ (∀ hk : k < l.length, RCg w v0 v1 v2 v3 v4 l[k]) ∧ ∃ ad, A = some ad ∧ ∀ i v, r[i]? = some v → w.cell? (ad.add (k * 5 + i)) = some v) hall
  refine ⟨(List.range l.length).map F, fun r hr => ?_, fun k hk i hi => ?_, by simp, fun k hk hk' => ?_⟩
  · obtain ⟨k, hk, rfl⟩ := List.mem_map.1 hr
    obtain ⟨v0, v1, v2, v3, v4, e, _⟩ := hF k (by simpa using hk)
    rw [e]
    rfl
  · have hk' : k < l.length := by simpa using hk
    obtain ⟨v0, v1, v2, v3, v4, e, _, ad, ea, hc⟩ := hF k hk'
    have hl : i < (F k).length := by rw [e]; exact hi
    exact ⟨ad, (F k)[i], ea, by simp [List.getElem?_eq_getElem hl], hc i _ (List.getElem?_eq_getElem hl)⟩
  · obtain ⟨v0, v1, v2, v3, v4, e, hr, _⟩ := hF k hk'
    exact ⟨v0, v1, v2, v3, v4, by simpa using e, hr hk'⟩
/-- The change at a place: its cells, where the walk looks for them. -/
theorem RdL.change {w : World} {A : Option Addr} {l : List Cg} (h : RdL RdC w A 5 l) {k : Nat} (hk : k < l.length) :
    ∃ ad v0 v1 v2 v3 v4, A = some ad ∧ RCg w v0 v1 v2 v3 v4 l[k] ∧ w.cell? (ad.add (k * 5)) = some v0 ∧ w.cell? ((ad.add (k * 5)).add 1) = some v1 ∧ w.cell? ((ad.add (k * 5)).add 2) = some v2 ∧ w.cell? ((ad.add (k * 5)).add 3) = some v3 ∧ w.cell? ((ad.add (k * 5)).add 4) = some v4 := by
  obtain ⟨ad, r, e, _, ⟨v0, v1, v2, v3, v4, rfl, hr⟩, hc⟩ := h.at_ hk (by decide)
  have h0 := hc 0 v0 rfl
  rw [add_of_add, Nat.add_zero] at h0
  exact ⟨ad, v0, v1, v2, v3, v4, e, hr, h0, hc 1 v1 rfl, hc 2 v2 rfl, hc 3 v3 rfl, hc 4 v4 rfl⟩

end Go.Proofs.Ytmcinaigkjfehaa

/-
  Lists of changes by their places: as loops go through them; the blocks of a list, rising. Plain; no program is named here.
-/
namespace Go.Proofs.Ytmcinaigkjfehaa

theorem riseN_cons {e b x : Int} {l : List Int} : riseN e b (x :: l) = true ↔ b < x ∧ x < e ∧ riseN e x l = true := by
  show (decide (b < x) && decide (x < e) && riseN e x l) = true ↔ _
  simp only [Bool.and_eq_true, decide_eq_true_eq, and_assoc]
theorem riseN_iff {e b : Int} {l : List Int} : riseN e b l = true ↔ ∀ i (h : i < l.length), l[i] < e ∧ (if i = 0 then b < l[i] else l[i - 1] < l[i]) := by
  induction l generalizing b with
  | nil => simp [riseN]
  | cons x l ih =>
    rw [riseN_cons, ih]
    constructor
    · rintro ⟨h1, h2, h3⟩ i hi
      cases i with
      | zero => simpa using ⟨h2, h1⟩
      | succ i =>
        have hi' : i < l.length := by simpa using hi
        obtain ⟨h4, h5⟩ := h3 i hi'
        refine ⟨by simpa using h4, ?_⟩
        rw [if_neg (by omega)]
        cases i with
        | zero => simpa using h5
        | succ i => simpa using h5
    · intro h
      have h0 := h 0 (by simp)
      refine ⟨by simpa using h0.2, by simpa using h0.1, fun i hi => ?_⟩
      have h1 := h (i + 1) (by simpa using hi)
      refine ⟨by simpa using h1.1, ?_⟩
      have h2 := h1.2
      rw [if_neg (by omega)] at h2
      cases i with
      | zero => simpa using h2
      | succ i => simpa using h2
theorem mayN_iff {b : Int} {l : List Cg} : mayN b l = true ↔ ∀ i (h : i < l.length), (if i = 0 then b < l[i].id else l[i - 1].id < l[i].id) ∧ 0 ≤ l[i].block ∧ l[i].p.right = true ∧ riseN l[i].id 0 l[i].needs = true := by
  induction l generalizing b with
  | nil => simp [mayN]
  | cons x l ih =>
    rw [mayN_cons, Cg.may_iff, ih]
    constructor
    · rintro ⟨⟨h1, h2⟩, h3⟩ i hi
      cases i with
      | zero => simpa using ⟨h1, h2⟩
      | succ i =>
        have hi' : i < l.length := by simpa using hi
        obtain ⟨h4, h5⟩ := h3 i hi'
        refine ⟨?_, by simpa using h5⟩
        rw [if_neg (by omega)]
        cases i with
        | zero => simpa using h4
        | succ i => simpa using h4
    · intro h
      have h0 := h 0 (by simp)
      refine ⟨by simpa using h0, fun i hi => ?_⟩
      have h1 := h (i + 1) (by simpa using hi)
      refine ⟨?_, by simpa using h1.2⟩
      have h2 := h1.1
      rw [if_neg (by omega)] at h2
      cases i with
      | zero => simpa using h2
      | succ i => simpa using h2
/-- At its place one stands behind what is ahead. -/
theorem splitId_at {l : List Cg} {id : Int} {k : Nat} (hk : k < l.length) (h : l[k].id = id) (hb : ∀ j (hj : j < k), (l[j]'(by omega)).id ≠ id) : splitId id l = some (l.take k, l[k]) := by
  induction l generalizing k with
  | nil => simp at hk
  | cons c l ih =>
    unfold splitId
    cases k with
    | zero =>
      have h' : c.id = id := by simpa using h
      rw [if_pos h']
      rfl
    | succ k =>
      have hk' : k < l.length := by simpa using hk
      have h0 : ¬ c.id = id := by simpa using hb 0 (by omega)
      have h5 := ih hk' (by simpa using h) (fun j hj => by simpa using hb (j + 1) (by omega))
      rw [if_neg h0, h5]
      simp
/-- One step of readyGo, by the place. -/
theorem readyGo_at {block : Int} {l : List Cg} {out : List Int} {i : Nat} (hm : mayC l = true) (hi : i < l.length) :
    readyGo block (l.take i) out (l.drop i) = readyGo block (l.take (i + 1)) (if l[i].block = block ∧ ((waitsC l l[i].id).all fun x => out.contains x) = true then out ++ [l[i].id] else out) (l.drop (i + 1)) := by
  have hl : l = l.take i ++ l[i] :: l.drop (i + 1) := by rw [List.getElem_cons_drop, List.take_append_drop]
  rw [waitsC_mid hm hl, List.take_succ_eq_append_getElem hi]
  conv => lhs; rw [← List.getElem_cons_drop hi]
  conv => lhs; unfold readyGo
  rw [List.all_map, show ((fun x => out.contains x) ∘ fun x : Cg => x.id) = fun d : Cg => out.contains d.id from rfl]
  by_cases h : l[i].block = block ∧ ((l.take i).filter fun d => keepsB d l[i]).all (fun d => out.contains d.id) = true
  · rw [if_pos h, if_pos h]
  · rw [if_neg h, if_neg h]

/-! The blocks of a list, rising, each once. -/
def insI (x : Int) : List Int → List Int
  | [] => [x]
  | y :: l => if x < y then x :: y :: l else if x = y then y :: l else y :: insI x l
def RiseI (l : List Int) : Prop := l.Pairwise (· < ·)
theorem insI_mem {x : Int} {l : List Int} : ∀ y, y ∈ insI x l ↔ y = x ∨ y ∈ l := by
  induction l with
  | nil => intro y; simp [insI]
  | cons z l ih =>
    intro y
    unfold insI
    split
    · simp
    · split
      · rename_i h
        subst h
        simp
      · rw [List.mem_cons, ih]
        simp only [List.mem_cons]
        constructor
        · rintro (h | h | h)
          · exact Or.inr (Or.inl h)
          · exact Or.inl h
          · exact Or.inr (Or.inr h)
        · rintro (h | h | h)
          · exact Or.inr (Or.inl h)
          · exact Or.inl h
          · exact Or.inr (Or.inr h)
theorem insI_rise {x : Int} {l : List Int} (h : RiseI l) : RiseI (insI x l) := by
  induction l with
  | nil => exact List.pairwise_singleton _ _
  | cons z l ih =>
    obtain ⟨h1, h2⟩ := List.pairwise_cons.1 h
    unfold insI
    split
    · rename_i hlt
      exact List.pairwise_cons.2 ⟨fun a ha => by
        rcases List.mem_cons.1 ha with rfl | ha
        · exact hlt
        · have := h1 a ha; omega, h⟩
    · split
      · exact h
      · refine List.pairwise_cons.2 ⟨fun a ha => ?_, ih h2⟩
        rcases (insI_mem a).1 ha with rfl | ha
        · omega
        · exact h1 a ha
theorem RiseI.uniq {l l' : List Int} (h : RiseI l) (h' : RiseI l') (hm : ∀ x, x ∈ l ↔ x ∈ l') : l = l' := by
  induction l generalizing l' with
  | nil =>
    cases l' with
    | nil => rfl
    | cons y l' => exact absurd ((hm y).2 (by simp)) (by simp)
  | cons x l ih =>
    cases l' with
    | nil => exact absurd ((hm x).1 (by simp)) (by simp)
    | cons y l' =>
      obtain ⟨h1, h2⟩ := List.pairwise_cons.1 h
      obtain ⟨h3, h4⟩ := List.pairwise_cons.1 h'
      have e : x = y := by
        rcases List.mem_cons.1 ((hm x).1 (by simp)) with e | e
        · exact e
        · rcases List.mem_cons.1 ((hm y).2 (by simp)) with e' | e'
          · exact e'.symm
          · have a := h3 x e
            have b := h1 y e'
            omega
      subst e
      congr 1
      refine ih h2 h4 fun z => ?_
      have hz := hm z
      simp only [List.mem_cons] at hz
      constructor
      · intro h5
        rcases hz.1 (Or.inr h5) with e | e
        · have := h1 z h5; omega
        · exact e
      · intro h5
        rcases hz.2 (Or.inr h5) with e | e
        · have := h3 z h5; omega
        · exact e
def blocksC (l : List Cg) : List Int := l.foldr (fun c s => insI c.block s) []
theorem blocksC_rise (l : List Cg) : RiseI (blocksC l) := by
  induction l with
  | nil => exact List.Pairwise.nil
  | cons c l ih => exact insI_rise ih
theorem blocksC_mem (l : List Cg) : ∀ x, x ∈ blocksC l ↔ ∃ c ∈ l, c.block = x := by
  induction l with
  | nil => intro x; simp [blocksC]
  | cons c l ih =>
    intro x
    show x ∈ insI c.block (blocksC l) ↔ _
    rw [insI_mem, ih]
    simp only [List.mem_cons, exists_eq_or_imp]
    constructor
    · rintro (h | h)
      · exact Or.inl h.symm
      · exact Or.inr h
    · rintro (h | h)
      · exact Or.inl h.symm
      · exact Or.inr h
/-- One more, that is behind all that are there. -/
theorem RiseI.snoc {l : List Int} {x : Int} (h : RiseI l) (hx : ∀ y ∈ l, y < x) : RiseI (l ++ [x]) := by
  unfold RiseI
  rw [List.pairwise_append]
  exact ⟨h, List.pairwise_singleton _ _, fun a ha b hb => by rw [List.mem_singleton] at hb; subst hb; exact hx a ha⟩

end Go.Proofs.Ytmcinaigkjfehaa
