/-
  Blocks written by counting for how many each change still waits: what holds at each step, and that behind it just that is done which a block's writing does. Plain; no program is named here.
-/
import Derived.Test.YtmcinaigkjfehaaGr3
namespace Go.Proofs.Ytmcinaigkjfehaa

/-- A function with another value at one place. -/
def updF' {β : Type} (f : Nat → β) (i : Nat) (x : β) : Nat → β := fun j => if j = i then x else f j
def updM' {β : Type} (f : Int → β) (i : Int) (x : β) : Int → β := fun j => if j = i then x else f j
/-- Those that wait for one. -/
def behR (R : Nat → List Nat) (n k : Nat) : List Nat := (List.range n).filter fun i => (R i).contains k
theorem behR_mem {R : Nat → List Nat} {n k i : Nat} : i ∈ behR R n k ↔ i < n ∧ k ∈ R i := by
  unfold behR
  rw [List.mem_filter, List.mem_range, List.contains_iff_mem]
theorem behR_len (R : Nat → List Nat) (n k : Nat) : (behR R n k).length ≤ n := by
  have := List.length_filter_le (fun i => (R i).contains k) (List.range n)
  rwa [List.length_range] at this
theorem behR_nodup (R : Nat → List Nat) (n k : Nat) : (behR R n k).Nodup := List.nodup_range.filter _
/-- For how many one waits that are not done. -/
def opn (R : Nat → List Nat) (D : Nat → Bool) (i : Nat) : Nat := ((R i).filter fun k => !D k).length
/-- How many are not done. -/
def cntU (n : Nat) (D : Nat → Bool) : Nat := ((List.range n).filter fun i => !D i).length
/-- One more is done. -/
def addD (D : Nat → Bool) (a : Nat) : Nat → Bool := fun i => D i || decide (i = a)
theorem filter_less {r : List Nat} (hr : r.Nodup) (D : Nat → Bool) {a : Nat} (ha : D a = false) : (r.filter fun k => !addD D a k).length + (if a ∈ r then 1 else 0) = (r.filter fun k => !D k).length := by
  induction r with
  | nil => simp
  | cons x r ih =>
    obtain ⟨h1, h2⟩ := List.nodup_cons.1 hr
    have ih := ih h2
    by_cases e : x = a
    · subst e
      have h3 : x ∉ r := h1
      rw [if_neg h3] at ih
      have e1 : addD D x x = true := by unfold addD; simp
      rw [List.filter_cons, List.filter_cons, if_neg (by rw [e1]; simp), if_pos (by simp), if_pos (by rw [ha]; rfl)]
      simp only [List.length_cons]
      omega
    · have e1 : addD D a x = D x := by unfold addD; simp [e]
      have e2 : (a ∈ x :: r) ↔ a ∈ r := by
        rw [List.mem_cons]
        exact ⟨fun h => h.elim (fun h => absurd h.symm e) (fun h => h), Or.inr⟩
      rw [List.filter_cons, List.filter_cons, e1]
      by_cases h4 : a ∈ r
      · rw [if_pos (e2.2 h4)]
        rw [if_pos h4] at ih
        split
        · simp only [List.length_cons]; omega
        · exact ih
      · rw [if_neg (fun h => h4 (e2.1 h))]
        rw [if_neg h4] at ih
        split
        · simp only [List.length_cons]; omega
        · exact ih
theorem cntU_less {n : Nat} {D : Nat → Bool} {a : Nat} (ha : D a = false) (han : a < n) : cntU n (addD D a) + 1 = cntU n D := by
  have := filter_less (r := List.range n) List.nodup_range D ha
  rw [if_pos (List.mem_range.2 han)] at this
  exact this
theorem cntU_le (n : Nat) (D : Nat → Bool) : cntU n D ≤ n := by
  have := List.length_filter_le (fun i => !D i) (List.range n)
  rwa [List.length_range] at this
theorem nodup_len {r : List Nat} {n : Nat} (h : r.Nodup) (hn : ∀ x ∈ r, x < n) : r.length ≤ n := by
  induction n generalizing r with
  | zero =>
    cases r with
    | nil => simp
    | cons x r => have := hn x (by simp); omega
  | succ n ih =>
    by_cases hm : n ∈ r
    · have h1 := ih (h.erase n) (fun x hx => by
        have h2 := (h.mem_erase_iff).1 hx
        have := hn x h2.2
        have := h2.1
        omega)
      rw [List.length_erase_of_mem hm] at h1
      omega
    · have := ih h (fun x hx => by
        have h1 := hn x hx
        have : x ≠ n := fun e => hm (e ▸ hx)
        omega)
      omega

/-- What holds between two writes. -/
structure Ws (l : List Cg) (R : Nat → List Nat) (n : Nat) (D : Nat → Bool) (O : Nat → Nat) (N : Int → List Nat) : Prop where
  op : ∀ i, i < n → O i = opn R D i
  mem : ∀ i, i < n → (i ∈ N (cgA l i).block ↔ (D i = false ∧ O i = 0))
  nb : ∀ b, ∀ i ∈ N b, i < n ∧ (cgA l i).block = b
  nd : ∀ b, (N b).Nodup
  closed : ∀ i, i < n → D i = true → ∀ k ∈ R i, D k = true
/-- What holds while block b is written: D0 was done ahead; T are still to be done, U still to be told. -/
structure Wi (l : List Cg) (R : Nat → List Nat) (n : Nat) (b : Int) (D0 D : Nat → Bool) (O : Nat → Nat) (N : Int → List Nat) (T U : List Nat) : Prop where
  op : ∀ i, i < n → O i = opn R D i + (if i ∈ U then 1 else 0)
  mem : ∀ i, i < n → ((i ∈ N (cgA l i).block ∨ i ∈ T) ↔ (D i = false ∧ O i = 0))
  nb : ∀ b, ∀ i ∈ N b, i < n ∧ (cgA l i).block = b
  nd : ∀ b, (N b).Nodup
  tb : ∀ i ∈ T, i < n ∧ (cgA l i).block = b
  td : T.Nodup
  tn : ∀ i ∈ T, i ∉ N b
  ud : U.Nodup
  ub : ∀ i ∈ U, i < n ∧ D i = false
  closed : ∀ i, i < n → D i = true → ∀ k ∈ R i, D k = true
  mono : ∀ i, D0 i = true → D i = true
  new : ∀ i, i < n → D i = true → D0 i = false → (cgA l i).block = b
section
variable {l : List Cg} {R : Nat → List Nat} {n : Nat} {b : Int} {D0 D : Nat → Bool} {O : Nat → Nat} {N : Int → List Nat} {T U : List Nat}
theorem Ws.wi (h : Ws l R n D O N) (b : Int) : Wi l R n b D D O N [] [] where
  op i hi := by rw [h.op i hi]; simp
  mem i hi := by rw [← h.mem i hi]; simp
  nb := h.nb
  nd := h.nd
  tb i hi := by cases hi
  td := List.nodup_nil
  tn i hi := by cases hi
  ud := List.nodup_nil
  ub i hi := by cases hi
  closed := h.closed
  mono _ h := h
  new i _ h1 h2 := by rw [h1] at h2; cases h2
theorem Wi.ws (h : Wi l R n b D0 D O N [] []) : Ws l R n D O N where
  op i hi := by rw [h.op i hi]; simp
  mem i hi := by rw [← h.mem i hi]; simp
  nb := h.nb
  nd := h.nd
  closed := h.closed
/-- Those of the block that are next are taken up. -/
theorem Wi.up (h : Wi l R n b D0 D O N [] []) : Wi l R n b D0 D O (updM' N b []) (N b) [] where
  op := h.op
  mem i hi := by
    rw [← h.mem i hi]
    unfold updM'
    by_cases e : (cgA l i).block = b
    · rw [if_pos e, e]; simp
    · rw [if_neg e]
      constructor
      · rintro (h1 | h1)
        · exact Or.inl h1
        · exact absurd (h.nb b i h1).2 e
      · rintro (h1 | h1)
        · exact Or.inl h1
        · cases h1
  nb c i hi := by
    unfold updM' at hi
    split at hi
    · cases hi
    · exact h.nb c i hi
  nd c := by
    unfold updM'
    split
    · exact List.nodup_nil
    · exact h.nd c
  tb i hi := h.nb b i hi
  td := h.nd b
  tn i _ := by unfold updM'; rw [if_pos rfl]; simp
  ud := h.ud
  ub := h.ub
  closed := h.closed
  mono := h.mono
  new := h.new
/-- One of them is done: those that wait for it are to be told. -/
theorem Wi.done {a : Nat} (hR : RowsOK l n R) (h : Wi l R n b D0 D O N (a :: T) []) : Wi l R n b D0 (addD D a) O N T (behR R n a) := by
  obtain ⟨han, hab⟩ := h.tb a (by simp)
  obtain ⟨hDa, hOa⟩ := (h.mem a han).1 (Or.inr (by simp))
  obtain ⟨hnT, hTd⟩ := List.nodup_cons.1 h.td
  have hself : a ∉ R a := fun hh => by have := hR.lt a han a hh; omega
  have hcl : ∀ k ∈ R a, D k = true := fun k hk => by
    have h1 := h.op a han
    rw [hOa] at h1
    have h2 : opn R D a = 0 := by omega
    unfold opn at h2
    have h3 := List.filter_eq_nil_iff.1 (List.eq_nil_of_length_eq_zero h2) k hk
    simpa using h3
  have hadd : ∀ i, addD D a i = true ↔ (D i = true ∨ i = a) := fun i => by unfold addD; simp
  refine ⟨fun i hi => ?_, fun i hi => ?_, h.nb, h.nd, fun i hi => h.tb i (by simp [hi]), hTd, fun i hi => h.tn i (by simp [hi]), behR_nodup R n a, fun i hi => ?_, fun i hi hd k hk => ?_, fun i hi => (hadd i).2 (Or.inl (h.mono i hi)), fun i hi hd h0 => ?_⟩
  · have hnd : (R i).Nodup := (hR.rise i hi).imp (fun h => Nat.ne_of_lt h)
    have h1 := filter_less hnd D hDa
    have h2 := h.op i hi
    rw [h2]
    unfold opn
    rw [← h1]
    by_cases e : a ∈ R i
    · rw [if_pos e, if_pos (behR_mem.2 ⟨hi, e⟩)]; simp
    · rw [if_neg e, if_neg (fun hh => e (behR_mem.1 hh).2)]; simp
  · by_cases e : i = a
    · subst e
      have e1 : addD D i i = true := (hadd i).2 (Or.inr rfl)
      rw [e1]
      constructor
      · rintro (h1 | h1)
        · rw [hab] at h1
          exact absurd h1 (h.tn i (by simp))
        · exact absurd h1 hnT
      · rintro ⟨h1, _⟩; cases h1
    · have e1 : addD D a i = D i := by unfold addD; simp [e]
      rw [e1, ← h.mem i hi]
      simp [e]
  · obtain ⟨hi, hk⟩ := behR_mem.1 hi
    refine ⟨hi, ?_⟩
    have e : i ≠ a := fun e => hself (e ▸ hk)
    have e1 : addD D a i = D i := by unfold addD; simp [e]
    rw [e1]
    cases hd : D i
    · rfl
    · rw [h.closed i hi hd a hk] at hDa; cases hDa
  · rcases (hadd i).1 hd with h1 | h1
    · exact (hadd k).2 (Or.inl (h.closed i hi h1 k hk))
    · subst h1
      exact (hadd k).2 (Or.inl (hcl k hk))
  · rcases (hadd i).1 hd with h1 | h1
    · exact h.new i hi h1 h0
    · subst h1; exact hab
/-- One that waited is told. -/
theorem Wi.tell {i : Nat} (h : Wi l R n b D0 D O N T (i :: U)) : 1 ≤ O i ∧ Wi l R n b D0 D (updF' O i (O i - 1)) (if O i - 1 = 0 then updM' N (cgA l i).block (N (cgA l i).block ++ [i]) else N) T U := by
  obtain ⟨hin, hDi⟩ := h.ub i (by simp)
  obtain ⟨hnU, hUd⟩ := List.nodup_cons.1 h.ud
  have hO := h.op i hin
  rw [if_pos (by simp)] at hO
  have hnot : ¬ (i ∈ N (cgA l i).block ∨ i ∈ T) := fun hh => by have := ((h.mem i hin).1 hh).2; omega
  have hnN : i ∉ N (cgA l i).block := fun hh => hnot (Or.inl hh)
  have hnT : i ∉ T := fun hh => hnot (Or.inr hh)
  refine ⟨by omega, fun j hj => ?_, fun j hj => ?_, fun c j hj => ?_, fun c => ?_, h.tb, h.td, fun j hj hN => ?_, hUd, fun j hj => h.ub j (by simp [hj]), h.closed, h.mono, h.new⟩
  · unfold updF'
    by_cases e : j = i
    · subst e
      rw [if_pos rfl, if_neg hnU]
      omega
    · rw [if_neg e, h.op j hj]
      simp [e]
  · unfold updF'
    by_cases e : j = i
    · subst e
      rw [if_pos rfl]
      by_cases e0 : O j - 1 = 0
      · rw [if_pos e0]
        unfold updM'
        rw [if_pos rfl]
        exact ⟨fun _ => ⟨hDi, e0⟩, fun _ => Or.inl (by simp)⟩
      · rw [if_neg e0]
        exact ⟨fun hh => absurd hh hnot, fun hh => absurd hh.2 e0⟩
    · rw [if_neg e, ← h.mem j hj]
      have key : j ∈ (if O i - 1 = 0 then updM' N (cgA l i).block (N (cgA l i).block ++ [i]) else N) (cgA l j).block ↔ j ∈ N (cgA l j).block := by
        split
        · unfold updM'
          split
          · rename_i e2
            rw [e2]
            simp [e]
          · exact Iff.rfl
        · exact Iff.rfl
      rw [key]
  · split at hj
    · unfold updM' at hj
      split at hj
      · rename_i e
        rcases List.mem_append.1 hj with h1 | h1
        · rw [e]; exact h.nb _ j h1
        · have : j = i := by simpa using h1
          subst this
          exact ⟨hin, e.symm⟩
      · exact h.nb c j hj
    · exact h.nb c j hj
  · split
    · unfold updM'
      split
      · exact List.nodup_append.2 ⟨h.nd _, by simp, fun x hx y hy => by
          have : y = i := by simpa using hy
          subst this
          exact fun e => hnN (e ▸ hx)⟩
      · exact h.nd c
    · exact h.nd c
  · have hb := (h.tb j hj).2
    split at hN
    · unfold updM' at hN
      split at hN
      · rename_i e
        rcases List.mem_append.1 hN with h1 | h1
        · exact h.tn j hj (by rw [e]; exact h1)
        · have : j = i := by simpa using h1
          subst this
          exact hnT hj
      · exact h.tn j hj hN
    · exact h.tn j hj hN
/-- Behind it all: the block is written. -/
theorem Wi.wrote (h : Wi l R l.length b D0 D O N [] []) (hN : N b = []) : Wrote l R b D0 D where
  mono := h.mono
  closed := h.closed
  new := h.new
  full i hi hb hk := by
    cases hD : D i
    · have h0 : opn R D i = 0 := by
        unfold opn
        rw [List.length_eq_zero_iff, List.filter_eq_nil_iff]
        intro k hk'
        rw [hk k hk']
        simp
      have h1 := h.op i hi
      rw [h0] at h1
      have h2 := (h.mem i hi).2 ⟨hD, by rw [h1]; simp⟩
      rw [hb, hN] at h2
      rcases h2 with h2 | h2 <;> cases h2
    · rfl
end
/-- At the beginning, behind the first ones. -/
structure Wb (l : List Cg) (R : Nat → List Nat) (t : Nat) (O : Nat → Nat) (N : Int → List Nat) (H : Nat → List Nat) : Prop where
  o : ∀ i, O i = if i < t then (R i).length else 0
  n : ∀ b, N b = (List.range t).filter fun i => decide ((cgA l i).block = b) && (R i).isEmpty
  h : ∀ k, H k = behR R t k
theorem Wb.start (l : List Cg) (R : Nat → List Nat) : Wb l R 0 (fun _ => 0) (fun _ => []) (fun _ => []) := ⟨fun i => by rw [if_neg (Nat.not_lt_zero i)], fun _ => rfl, fun _ => rfl⟩
/-- The lists of those that wait, as the first ones of a row are told. -/
def tellH (R : Nat → List Nat) (t j : Nat) (H : Nat → List Nat) : Nat → List Nat := fun k => if k ∈ (R t).take j then H k ++ [t] else H k
theorem tellH_zero (R : Nat → List Nat) (t : Nat) (H : Nat → List Nat) : tellH R t 0 H = H := funext fun k => by unfold tellH; simp
theorem tellH_succ {R : Nat → List Nat} {t j : Nat} {H : Nat → List Nat} (hr : (R t).Pairwise (· < ·)) (hj : j < (R t).length) : updF' (tellH R t j H) (R t)[j] (H (R t)[j] ++ [t]) = tellH R t (j + 1) H ∧ tellH R t j H (R t)[j] = H (R t)[j] := by
  have hnot : (R t)[j] ∉ (R t).take j := fun hh => by
    obtain ⟨i, hi, e⟩ := List.getElem_of_mem hh
    have hij : i < j := by simp at hi; omega
    have := List.pairwise_iff_getElem.1 hr i j (by omega) hj hij
    simp at e
    omega
  refine ⟨funext fun k => ?_, by unfold tellH; rw [if_neg hnot]⟩
  unfold updF' tellH
  by_cases e : k = (R t)[j]
  · subst e
    rw [if_pos rfl, if_pos (by rw [List.take_succ_eq_append_getElem hj]; exact List.mem_append.2 (Or.inr (List.mem_singleton.2 rfl)))]
  · rw [if_neg e]
    have : k ∈ (R t).take (j + 1) ↔ k ∈ (R t).take j := by
      rw [List.take_succ_eq_append_getElem hj, List.mem_append, List.mem_singleton]
      exact ⟨fun h => h.elim (fun h => h) (fun h => absurd h e), Or.inl⟩
    by_cases h : k ∈ (R t).take j
    · rw [if_pos h, if_pos (this.2 h)]
    · rw [if_neg h, if_neg (fun h2 => h (this.1 h2))]
theorem Wb.next {l : List Cg} {R : Nat → List Nat} {t : Nat} {O : Nat → Nat} {N : Int → List Nat} {H : Nat → List Nat} (h : Wb l R t O N H) : Wb l R (t + 1) (updF' O t (R t).length) (if (R t).length = 0 then updM' N (cgA l t).block (N (cgA l t).block ++ [t]) else N) (tellH R t (R t).length H) where
  o i := by
    unfold updF'
    by_cases e : i = t
    · subst e; rw [if_pos rfl, if_pos (Nat.lt_succ_self _)]
    · rw [if_neg e, h.o]
      by_cases h2 : i < t
      · rw [if_pos h2, if_pos (by omega)]
      · rw [if_neg h2, if_neg (by omega)]
  n b := by
    rw [List.range_succ, List.filter_append, ← h.n b]
    by_cases e : (R t).length = 0
    · rw [if_pos e]
      have e2 : (R t).isEmpty = true := by rw [List.isEmpty_iff]; exact List.eq_nil_of_length_eq_zero e
      unfold updM'
      by_cases e3 : b = (cgA l t).block
      · subst e3; rw [if_pos rfl]; simp [e2]
      · rw [if_neg e3]
        have : (cgA l t).block ≠ b := fun e4 => e3 e4.symm
        simp [this]
    · rw [if_neg e]
      have e2 : (R t).isEmpty = false := by
        cases hh : R t with
        | nil => rw [hh] at e; exact absurd rfl e
        | cons => rfl
      simp [e2]
  h k := by
    unfold tellH behR
    rw [List.take_length, List.range_succ, List.filter_append, h.h k]
    unfold behR
    by_cases e : k ∈ R t
    · rw [if_pos e]; simp [e]
    · rw [if_neg e]; simp [e]
theorem Wb.ws {l : List Cg} {R : Nat → List Nat} {n : Nat} {O : Nat → Nat} {N : Int → List Nat} {H : Nat → List Nat} (h : Wb l R n O N H) : Ws l R n (fun _ => false) O N where
  op i hi := by
    rw [h.o, if_pos hi]
    unfold opn
    rw [List.filter_eq_self.2 (by simp)]
  mem i hi := by
    rw [h.n, List.mem_filter, h.o, if_pos hi]
    simp [hi]
  nb b i hi := by
    rw [h.n, List.mem_filter] at hi
    simp at hi
    exact ⟨hi.1, hi.2.1⟩
  nd b := by rw [h.n]; exact List.nodup_range.filter _
  closed i _ hD := by cases hD

end Go.Proofs.Ytmcinaigkjfehaa
