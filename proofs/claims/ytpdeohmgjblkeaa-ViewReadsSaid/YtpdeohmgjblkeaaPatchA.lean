/-
  Patches of a block's bytes: which may be, what laying one makes, what it takes the place of; and the runs in which two blocks are unlike. Plain; no program is named here.
-/
import Derived.Test.YtpdeohmgjblkeaaGrA
namespace Go.Proofs.Ytpdeohmgjblkeaa

/-- A number and some bytes. -/
structure Pt where
  at_ : Int
  data : List UInt8
instance : Inhabited Pt := ⟨⟨0, []⟩⟩
/-- May it be? -/
def Pt.right (p : Pt) : Bool := decide (1 ≤ p.data.length ∧ p.data.length ≤ 256 ∧ 0 ≤ p.at_ ∧ p.at_ ≤ 256 - (p.data.length : Int))
theorem Pt.right_iff {p : Pt} : p.right = true ↔ 1 ≤ p.data.length ∧ p.data.length ≤ 256 ∧ 0 ≤ p.at_ ∧ p.at_ ≤ 256 - (p.data.length : Int) := by unfold Pt.right; simp
/-- Where it begins. -/
def Pt.lo (p : Pt) : Nat := p.at_.toNat
/-- Is a byte in it? -/
def Pt.has (p : Pt) (i : Nat) : Bool := p.right && decide (p.lo ≤ i ∧ i < p.lo + p.data.length)
theorem Pt.has_iff {p : Pt} {i : Nat} : p.has i = true ↔ p.right = true ∧ p.lo ≤ i ∧ i < p.lo + p.data.length := by unfold Pt.has; simp
theorem Pt.has_lt {p : Pt} {i : Nat} (h : p.has i = true) : i < 256 := by
  obtain ⟨h1, h2, h3⟩ := Pt.has_iff.1 h
  have := Pt.right_iff.1 h1
  unfold Pt.lo at *
  omega
/-- A block with it. -/
def layP (L : List UInt8) (p : Pt) : List UInt8 := if p.right then splice L p.lo p.data else L
theorem Pt.fits {p : Pt} (h : p.right = true) {L : List UInt8} (hL : L.length = 256) : p.lo + p.data.length ≤ L.length := by
  have := Pt.right_iff.1 h
  unfold Pt.lo
  omega
theorem layP_len {L : List UInt8} (p : Pt) (hL : L.length = 256) : (layP L p).length = 256 := by
  unfold layP
  split
  · rename_i h; rw [splice_len _ _ _ (Pt.fits h hL), hL]
  · exact hL
theorem layP_get {L : List UInt8} (p : Pt) (hL : L.length = 256) (i : Nat) : (layP L p)[i]? = if p.has i then p.data[i - p.lo]? else L[i]? := by
  unfold layP Pt.has
  by_cases h : p.right = true
  · rw [if_pos h, splice_get _ _ _ (Pt.fits h hL), h]
    simp only [Bool.true_and, decide_eq_true_eq]
  · rw [if_neg h]
    have h' : p.right = false := by simpa using h
    rw [h']
    simp
theorem layP_wrong {L : List UInt8} {p : Pt} (h : p.right = false) : layP L p = L := by unfold layP; rw [h]; rfl
/-- All, one behind the other. -/
def layAll (L : List UInt8) (l : List Pt) : List UInt8 := l.foldl layP L
theorem layAll_len {L : List UInt8} (l : List Pt) (hL : L.length = 256) : (layAll L l).length = 256 := by
  induction l generalizing L with
  | nil => exact hL
  | cons p l ih => exact ih (layP_len p hL)
theorem layAll_snoc (L : List UInt8) (l : List Pt) (p : Pt) : layAll L (l ++ [p]) = layP (layAll L l) p := by unfold layAll; rw [List.foldl_append]; rfl
/-- Do two meet? -/
def meetP (p q : Pt) : Bool := (List.range 256).any fun i => p.has i && q.has i
theorem meetP_iff {p q : Pt} : meetP p q = true ↔ ∃ i, p.has i = true ∧ q.has i = true := by
  unfold meetP
  rw [List.any_eq_true]
  constructor
  · rintro ⟨i, _, h⟩
    exact ⟨i, by simpa using h⟩
  · rintro ⟨i, h1, h2⟩
    exact ⟨i, by simpa using Pt.has_lt h1, by simp [h1, h2]⟩
/-- Told by where they begin and end. -/
theorem meetP_ends (p q : Pt) : meetP p q = (p.right && q.right && decide (p.at_ < q.at_ + q.data.length) && decide (q.at_ < p.at_ + p.data.length)) := by
  rw [Bool.eq_iff_iff, meetP_iff]
  simp only [Bool.and_eq_true, decide_eq_true_eq]
  constructor
  · rintro ⟨i, h1, h2⟩
    obtain ⟨a1, a2, a3⟩ := Pt.has_iff.1 h1
    obtain ⟨b1, b2, b3⟩ := Pt.has_iff.1 h2
    have := Pt.right_iff.1 a1
    have := Pt.right_iff.1 b1
    unfold Pt.lo at *
    exact ⟨⟨⟨a1, b1⟩, by omega⟩, by omega⟩
  · rintro ⟨⟨⟨a1, b1⟩, h1⟩, h2⟩
    have r1 := Pt.right_iff.1 a1
    have r2 := Pt.right_iff.1 b1
    refine ⟨max p.lo q.lo, Pt.has_iff.2 ⟨a1, by omega, ?_⟩, Pt.has_iff.2 ⟨b1, by omega, ?_⟩⟩ <;> (unfold Pt.lo; omega)
/-- What it takes the place of. -/
def wasP (L : List UInt8) (p : Pt) : Pt := if p.right then ⟨p.at_, (L.drop p.lo).take p.data.length⟩ else ⟨0, []⟩
theorem wasP_right {L : List UInt8} {p : Pt} (hL : L.length = 256) (h : p.right = true) : wasP L p = ⟨p.at_, (L.drop p.lo).take p.data.length⟩ ∧ (wasP L p).data.length = p.data.length ∧ (wasP L p).right = true ∧ (wasP L p).lo = p.lo := by
  have hf := Pt.fits h hL
  have e : wasP L p = ⟨p.at_, (L.drop p.lo).take p.data.length⟩ := by unfold wasP; rw [if_pos h]
  have hl : ((L.drop p.lo).take p.data.length).length = p.data.length := by simp; omega
  refine ⟨e, by rw [e]; exact hl, ?_, by rw [e]; rfl⟩
  rw [e]
  have := Pt.right_iff.1 h
  apply Pt.right_iff.2
  simp only [hl]
  exact this
theorem wasP_wrong {L : List UInt8} {p : Pt} (h : p.right = false) : wasP L p = ⟨0, []⟩ := by unfold wasP; rw [h]; rfl
theorem wasP_has {L : List UInt8} {p : Pt} (hL : L.length = 256) (i : Nat) : (wasP L p).has i = p.has i := by
  cases h : p.right
  · rw [wasP_wrong h]; unfold Pt.has; rw [h]; rfl
  · obtain ⟨_, h2, h3, h4⟩ := wasP_right hL h
    unfold Pt.has
    rw [h2, h3, h4, h]
theorem wasP_get {L : List UInt8} {p : Pt} {i : Nat} (hL : L.length = 256) (h : p.has i = true) : (wasP L p).data[i - (wasP L p).lo]? = L[i]? := by
  obtain ⟨h1, h2, h3⟩ := Pt.has_iff.1 h
  obtain ⟨e, _, _, h4⟩ := wasP_right hL h1
  rw [h4, e]
  show ((L.drop p.lo).take p.data.length)[i - p.lo]? = _
  rw [List.getElem?_take_of_lt (by omega), List.getElem?_drop]
  congr 1; omega
/-- What was there takes it back. -/
theorem lay_back {L : List UInt8} (p : Pt) (hL : L.length = 256) : layP (layP L p) (wasP L p) = L := by
  apply List.ext_getElem?
  intro i
  rw [layP_get _ (layP_len p hL), wasP_has hL, layP_get p hL]
  cases h : p.has i
  · rfl
  · rw [if_pos rfl, wasP_get hL h]
theorem lay_twice {L : List UInt8} (p : Pt) (hL : L.length = 256) : layP (layP L p) p = layP L p := by
  apply List.ext_getElem?
  intro i
  rw [layP_get _ (layP_len p hL), layP_get p hL]
  cases h : p.has i <;> rfl
theorem lay_swap {L : List UInt8} (p q : Pt) (hL : L.length = 256) (h : meetP p q = false) : layP (layP L p) q = layP (layP L q) p := by
  apply List.ext_getElem?
  intro i
  rw [layP_get _ (layP_len p hL), layP_get _ (layP_len q hL), layP_get p hL, layP_get q hL]
  cases h1 : p.has i <;> cases h2 : q.has i
  · rfl
  · rfl
  · rfl
  · rw [meetP_iff.2 ⟨i, h1, h2⟩] at h; cases h
/-- The one that is laid last is there whole. -/
theorem lay_last {L : List UInt8} (q : Pt) (hL : L.length = 256) (h : q.right = true) : wasP (layP L q) q = q := by
  have hL' := layP_len q hL
  obtain ⟨e, h2, _, h4⟩ := wasP_right hL' h
  have hd : ((layP L q).drop q.lo).take q.data.length = q.data := by
    apply List.ext_getElem?
    intro k
    by_cases hk : k < q.data.length
    · rw [List.getElem?_take_of_lt hk, List.getElem?_drop, layP_get q hL, if_pos (Pt.has_iff.2 ⟨h, by omega, by omega⟩)]
      congr 1; omega
    · rw [List.getElem?_eq_none (by simp; omega), List.getElem?_eq_none (by omega)]
  rw [e, hd]

/-! ### Runs -/
/-- Of the first k the runs of those that are so: where each begins, and how long it is. -/
def runsTo (u : Nat → Bool) : Nat → List (Nat × Nat)
  | 0 => []
  | k + 1 => if u k then (if k = 0 ∨ u (k - 1) = false then runsTo u k ++ [(k, 1)] else (runsTo u k).dropLast ++ [(((runsTo u k).getLastD (0, 0)).1, ((runsTo u k).getLastD (0, 0)).2 + 1)]) else runsTo u k
theorem runs_off (u : Nat → Bool) (k : Nat) (h : u k = false) : runsTo u (k + 1) = runsTo u k := by
  show (if u k then _ else _) = _
  rw [h]; rfl
theorem runs_new (u : Nat → Bool) (k : Nat) (h : u k = true) (hb : k = 0 ∨ u (k - 1) = false) : runsTo u (k + 1) = runsTo u k ++ [(k, 1)] := by
  show (if u k then _ else _) = _
  rw [h, if_pos rfl, if_pos hb]
theorem runs_more (u : Nat → Bool) (k s n : Nat) (l : List (Nat × Nat)) (h : u k = true) (hb : k ≠ 0 ∧ u (k - 1) = true) (e : runsTo u k = l ++ [(s, n)]) : runsTo u (k + 1) = l ++ [(s, n + 1)] := by
  show (if u k then _ else _) = _
  rw [h, if_pos rfl, if_neg (by rw [hb.2]; simp; exact hb.1), e]
  simp
/-- A whole run, from where it begins. -/
theorem runs_run (u : Nat → Bool) (s n : Nat) (h0 : s = 0 ∨ u (s - 1) = false) (h : ∀ j, s ≤ j → j < s + (n + 1) → u j = true) : runsTo u (s + (n + 1)) = runsTo u s ++ [(s, n + 1)] := by
  induction n with
  | zero => exact runs_new u s (h s (by omega) (by omega)) h0
  | succ n ih =>
    have h1 := ih (fun j j1 j2 => h j j1 (by omega))
    exact runs_more u (s + (n + 1)) s (n + 1) _ (h _ (by omega) (by omega)) ⟨by omega, h _ (by omega) (by omega)⟩ h1
/-- Such runs as they must be: each is so throughout, begins and ends where it must, and they rise. -/
structure RunsOk (u : Nat → Bool) (k : Nat) (l : List (Nat × Nat)) : Prop where
  pos : ∀ r ∈ l, 1 ≤ r.2 ∧ r.1 + r.2 ≤ k
  in_ : ∀ r ∈ l, ∀ j, r.1 ≤ j → j < r.1 + r.2 → u j = true
  all : ∀ j, j < k → u j = true → ∃ r ∈ l, r.1 ≤ j ∧ j < r.1 + r.2
  rise : List.Pairwise (fun r s => r.1 + r.2 < s.1) l
  last : ∀ l' r, l = l' ++ [r] → k ≠ 0 → u (k - 1) = true → r.1 + r.2 = k
  gap : k ≠ 0 → u (k - 1) = false → ∀ r ∈ l, r.1 + r.2 < k
theorem runs_ok (u : Nat → Bool) (k : Nat) : RunsOk u k (runsTo u k) := by
  induction k with
  | zero => exact ⟨by simp [runsTo], by simp [runsTo], fun j h => by omega, by simp [runsTo], fun _ _ _ h => by simp at h, fun h => by simp at h⟩
  | succ k ih =>
    cases hu : u k
    · rw [runs_off u k hu]
      refine ⟨fun r hr => ?_, ih.in_, fun j hj huj => ?_, ih.rise, fun l' r _ _ h => ?_, fun _ _ r hr => ?_⟩
      · have := ih.pos r hr; omega
      · by_cases hjk : j = k
        · rw [hjk, hu] at huj; cases huj
        · exact ih.all j (by omega) huj
      · rw [show k + 1 - 1 = k by omega, hu] at h; cases h
      · have := ih.pos r hr; omega
    · by_cases hb : k = 0 ∨ u (k - 1) = false
      · rw [runs_new u k hu hb]
        have hgap : ∀ r ∈ runsTo u k, r.1 + r.2 < k := fun r hr => by
          rcases hb with hb | hb
          · subst hb; simp [runsTo] at hr
          · by_cases hk : k = 0
            · subst hk; simp [runsTo] at hr
            · exact ih.gap hk hb r hr
        refine ⟨fun r hr => ?_, fun r hr j j1 j2 => ?_, fun j hj huj => ?_, ?_, fun l' r e _ _ => ?_, fun _ h => ?_⟩
        · rw [List.mem_append, List.mem_singleton] at hr
          rcases hr with hr | rfl
          · have := ih.pos r hr; omega
          · show 1 ≤ 1 ∧ k + 1 ≤ k + 1; omega
        · rw [List.mem_append, List.mem_singleton] at hr
          rcases hr with hr | rfl
          · exact ih.in_ r hr j j1 j2
          · have : j = k := by simp at j1 j2; omega
            rw [this]; exact hu
        · by_cases hjk : j = k
          · exact ⟨(k, 1), by simp, by simp [hjk]⟩
          · obtain ⟨r, hr, h1⟩ := ih.all j (by omega) huj
            exact ⟨r, by simp [hr], h1⟩
        · rw [List.pairwise_append]
          exact ⟨ih.rise, by simp, fun r hr s hs => by rw [List.mem_singleton] at hs; rw [hs]; exact hgap r hr⟩
        · obtain ⟨_, e2⟩ := List.append_inj' e rfl
          simp at e2; rw [← e2]
        · rw [show k + 1 - 1 = k by omega, hu] at h; cases h
      · have hk : k ≠ 0 ∧ u (k - 1) = true := by
          refine ⟨fun h => hb (Or.inl h), ?_⟩
          cases h : u (k - 1)
          · exact absurd (Or.inr h) hb
          · rfl
        obtain ⟨r0, hr0, h0⟩ := ih.all (k - 1) (by omega) hk.2
        obtain ⟨l, r, e⟩ : ∃ l r, runsTo u k = l ++ [r] := by
          cases hl : runsTo u k with
          | nil => rw [hl] at hr0; simp at hr0
          | cons x xs => exact ⟨_, _, (List.dropLast_concat_getLast (by simp)).symm⟩
        obtain ⟨s, n⟩ := r
        have hlast := ih.last l (s, n) e hk.1 hk.2
        rw [runs_more u k s n l hu hk e]
        have hpos := ih.pos
        have hin := ih.in_
        have hall := ih.all
        have hrise := ih.rise
        rw [e] at hpos hin hall hrise
        rw [List.pairwise_append] at hrise
        simp only at hlast
        refine ⟨fun r hr => ?_, fun r hr j j1 j2 => ?_, fun j hj huj => ?_, ?_, fun l' r e _ _ => ?_, fun _ h => ?_⟩
        · rw [List.mem_append, List.mem_singleton] at hr
          rcases hr with hr | rfl
          · have := hpos r (by simp [hr]); omega
          · show 1 ≤ n + 1 ∧ s + (n + 1) ≤ k + 1; omega
        · rw [List.mem_append, List.mem_singleton] at hr
          rcases hr with hr | rfl
          · exact hin r (by simp [hr]) j j1 j2
          · simp only at j1 j2
            by_cases hjk : j = k
            · rw [hjk]; exact hu
            · exact hin (s, n) (by simp) j j1 (by show j < s + n; omega)
        · by_cases hjk : j = k
          · exact ⟨(s, n + 1), by simp, by show s ≤ j ∧ j < s + (n + 1); omega⟩
          · obtain ⟨r, hr, h1⟩ := hall j (by omega) huj
            rw [List.mem_append, List.mem_singleton] at hr
            rcases hr with hr | rfl
            · exact ⟨r, by simp [hr], h1⟩
            · exact ⟨(s, n + 1), by simp, by show s ≤ j ∧ j < s + (n + 1); simp only at h1; omega⟩
        · rw [List.pairwise_append]
          exact ⟨hrise.1, by simp, fun r hr t ht => by rw [List.mem_singleton] at ht; rw [ht]; exact hrise.2.2 r hr (s, n) (by simp)⟩
        · obtain ⟨_, e2⟩ := List.append_inj' e rfl
          simp at e2
          rw [← e2]
          show s + (n + 1) = k + 1
          omega
        · rw [show k + 1 - 1 = k by omega, hu] at h; cases h

end Go.Proofs.Ytpdeohmgjblkeaa
