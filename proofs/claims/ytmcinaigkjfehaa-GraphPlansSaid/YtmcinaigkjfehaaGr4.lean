/-
  Texts of this claim joined: WaitB, FamA, MapI, MapV, ZcA.
-/
import Derived.Test.YtmcinaigkjfehaaGr3
import Derived.Test.YtmcinaigkjfehaaGr1
import Derived.Test.YtmcinaigkjfehaaPatO
import Derived.Maps.OwnSet
import Derived.Maps.OwnOps
import Derived.Maps.RangeWalk

/-
  Of those of a block that meet one the last one at each byte; and that such rows, with the places of what is needed, are rows by places. Plain; no program is named here.
-/
namespace Go.Proofs.Ytmcinaigkjfehaa

theorem snocInd {α : Type} {p : List α → Prop} (h0 : p []) (h1 : ∀ l a, p l → p (l ++ [a])) (l : List α) : p l := by
  have key : ∀ l : List α, p l.reverse := by
    intro l
    induction l with
    | nil => exact h0
    | cons a l ih => rw [List.reverse_cons]; exact h1 _ _ ih
  have := key l.reverse
  rwa [List.reverse_reverse] at this
/-- The last of these at a byte, as one more; 0, if there is none. -/
def lastP (l : List Cg) (pl : List Nat) (q : Nat) : Nat := pl.foldl (fun s a => if (cgA l a).p.has q then a + 1 else s) 0
theorem lastP_nil (l : List Cg) (q : Nat) : lastP l [] q = 0 := rfl
theorem lastP_snoc (l : List Cg) (pl : List Nat) (a q : Nat) : lastP l (pl ++ [a]) q = if (cgA l a).p.has q then a + 1 else lastP l pl q := by
  unfold lastP
  rw [List.foldl_append]
  rfl
theorem lastP_mem (l : List Cg) (q : Nat) : ∀ pl : List Nat, ∀ k, lastP l pl q = k + 1 → k ∈ pl ∧ (cgA l k).p.has q = true := by
  intro pl
  induction pl using snocInd with
  | h0 => intro k h; cases h
  | h1 pl a ih =>
    intro k h
    rw [lastP_snoc] at h
    split at h
    · rename_i hh
      have : a = k := by omega
      subst this
      exact ⟨by simp, hh⟩
    · obtain ⟨h1, h2⟩ := ih k h
      exact ⟨by simp [h1], h2⟩
theorem lastP_ge (l : List Cg) (q : Nat) : ∀ pl : List Nat, pl.Pairwise (· < ·) → ∀ a ∈ pl, (cgA l a).p.has q = true → a + 1 ≤ lastP l pl q := by
  intro pl
  induction pl using snocInd with
  | h0 => intro _ a h; cases h
  | h1 pl b ih =>
    intro hp a ha hh
    rw [lastP_snoc]
    obtain ⟨h1, _, h3⟩ := List.pairwise_append.1 hp
    split
    · rcases List.mem_append.1 ha with h | h
      · have := h3 a h b (by simp); omega
      · have : a = b := by simpa using h
        omega
    · rename_i hn
      rcases List.mem_append.1 ha with h | h
      · exact ih h1 a h hh
      · have : a = b := by simpa using h
        subst this
        exact absurd hh hn
theorem lastP_le (l : List Cg) (pl : List Nat) (q n : Nat) (h : ∀ a ∈ pl, a < n) : lastP l pl q ≤ n := by
  rcases Nat.eq_zero_or_pos (lastP l pl q) with e | e
  · omega
  · obtain ⟨k, hk⟩ : ∃ k, lastP l pl q = k + 1 := ⟨lastP l pl q - 1, by omega⟩
    have := h k (lastP_mem l q pl k hk).1
    omega
/-- Those of one block that stand in a list. -/
def plB (l : List Cg) (n : Nat) (b : Int) : List Nat := (List.range n).filter fun a => decide ((cgA l a).block = b)
theorem plB_mem {l : List Cg} {n : Nat} {b : Int} {a : Nat} : a ∈ plB l n b ↔ a < n ∧ (cgA l a).block = b := by
  unfold plB
  rw [List.mem_filter, List.mem_range, decide_eq_true_eq]
theorem range_rise (n : Nat) : (List.range n).Pairwise (· < ·) := List.pairwise_lt_range
theorem plB_rise (l : List Cg) (n : Nat) (b : Int) : (plB l n b).Pairwise (· < ·) := (range_rise n).filter _
theorem plB_zero (l : List Cg) (b : Int) : plB l 0 b = [] := rfl
theorem plB_on {l : List Cg} {n : Nat} {b : Int} (h : (cgA l n).block = b) : plB l (n + 1) b = plB l n b ++ [n] := by
  unfold plB
  rw [List.range_succ, List.filter_append]
  simp [h]
theorem plB_off {l : List Cg} {n : Nat} {b : Int} (h : (cgA l n).block ≠ b) : plB l (n + 1) b = plB l n b := by
  unfold plB
  rw [List.range_succ, List.filter_append]
  simp [h]
theorem plB_len (l : List Cg) (n : Nat) (b : Int) : (plB l n b).length ≤ n := by
  have := List.length_filter_le (fun a => decide ((cgA l a).block = b)) (List.range n)
  rw [List.length_range] at this
  exact this
/-- Those ahead of one of a list that rises. -/
theorem take_below {P : List Nat} (hp : P.Pairwise (· < ·)) {t : Nat} (ht : t < P.length) : P.filter (fun x => decide (x < P[t])) = P.take t := by
  obtain ⟨z, hz⟩ : ∃ z, P[t] = z := ⟨_, rfl⟩
  have e0 : P.filter (fun x => decide (x < z)) = (P.take t).filter (fun x => decide (x < z)) ++ (P.drop t).filter (fun x => decide (x < z)) := by
    rw [← List.filter_append, List.take_append_drop]
  rw [hz, e0, ← hz]
  have e1 : (P.take t).filter (fun x => decide (x < P[t])) = P.take t := by
    rw [List.filter_eq_self]
    intro x hx
    obtain ⟨j, hj, rfl⟩ := List.getElem_of_mem hx
    have hjt : j < t := by simp at hj; omega
    have := List.pairwise_iff_getElem.1 hp j t (by omega) ht hjt
    simpa using this
  have e2 : (P.drop t).filter (fun x => decide (x < P[t])) = [] := by
    rw [List.filter_eq_nil_iff]
    intro x hx
    obtain ⟨j, hj, rfl⟩ := List.getElem_of_mem hx
    have hj' : t + j < P.length := by simp at hj; omega
    rw [List.getElem_drop]
    by_cases h0 : j = 0
    · subst h0; simp
    · have := List.pairwise_iff_getElem.1 hp t (t + j) ht hj' (by omega)
      simp; omega
  rw [e1, e2, List.append_nil]
/-- What the bytes of one tell: of those of P ahead of it the last ones. -/
def MtB (l : List Cg) (P : List Nat) (k : Nat) (y : Int) : Prop := ∃ q, (cgA l k).p.has q = true ∧ 0 < lastP l (P.filter fun x => decide (x < k)) q ∧ ((lastP l (P.filter fun x => decide (x < k)) q : Nat) : Int) = y + 1
/-- What the needs of one tell: the places of those that there are. -/
def NdB (l : List Cg) (k : Nat) (y : Int) : Prop := ∃ j : Nat, j < l.length ∧ y = j ∧ (cgA l j).id ∈ (cgA l k).needs
/-- Rows that hold these, and rise, are rows by places. -/
theorem rows_ok {l : List Cg} (hm : mayC l = true) {R : Nat → List Nat} (hr : ∀ i, i < l.length → (R i).Pairwise (· < ·)) (hR : ∀ i, i < l.length → ∀ k : Nat, k ∈ R i ↔ (NdB l i k ∨ MtB l (plB l l.length (cgA l i).block) i k)) : RowsOK l l.length R := by
  have need : ∀ i, i < l.length → ∀ j, j < l.length → (cgA l j).id ∈ (cgA l i).needs → j < i := fun i hi j hj h => by
    have h1 := (mayN_iff.1 hm i hi).2.2.2
    rw [← cgA_eq hi] at h1
    have h2 := riseN_below h1 _ h
    rcases Nat.lt_trichotomy j i with h3 | h3 | h3
    · exact h3
    · subst h3; omega
    · have := ids_lt hm hj h3
      rw [← cgA_eq hi, ← cgA_eq hj] at this
      omega
  have meet : ∀ i, i < l.length → ∀ k : Nat, MtB l (plB l l.length (cgA l i).block) i k → k < i ∧ (cgA l k).block = (cgA l i).block ∧ ∃ q, (cgA l k).p.has q = true ∧ (cgA l i).p.has q = true := fun i hi k ⟨q, h1, h2, h3⟩ => by
    have h8 : lastP l ((plB l l.length (cgA l i).block).filter fun x => decide (x < i)) q = k + 1 := by omega
    obtain ⟨h4, h5⟩ := lastP_mem l q _ k h8
    obtain ⟨h6, h7⟩ := List.mem_filter.1 h4
    exact ⟨by simpa using h7, (plB_mem.1 h6).2, q, h5, h1⟩
  refine ⟨fun i hi k hk => ?_, fun i hi k hk => ?_, fun i hi k hki hk => ?_, hr⟩
  · rcases (hR i hi k).1 hk with ⟨j, hj, e, hn⟩ | h
    · have : k = j := by omega
      subst this
      exact need i hi k hj hn
    · exact (meet i hi k h).1
  · unfold keepsB
    rcases (hR i hi k).1 hk with ⟨j, hj, e, hn⟩ | h
    · have : k = j := by omega
      subst this
      rw [List.contains_iff_mem.2 hn, Bool.or_true]
    · obtain ⟨_, h2, h3⟩ := meet i hi k h
      rw [meetP_iff.2 h3]
      simp [h2]
  · have hk0 := hk
    unfold keepsB at hk
    rcases Bool.or_eq_true_iff.1 hk with h | h
    · simp only [Bool.and_eq_true, decide_eq_true_eq] at h
      obtain ⟨hb, hmt⟩ := h
      obtain ⟨q, h1, h2⟩ := meetP_iff.1 hmt
      have hmem : k ∈ (plB l l.length (cgA l i).block).filter fun x => decide (x < i) := List.mem_filter.2 ⟨plB_mem.2 ⟨by omega, hb⟩, by simpa using hki⟩
      have hge := lastP_ge l q _ ((plB_rise l l.length (cgA l i).block).filter _) k hmem h1
      obtain ⟨k', hk'⟩ : ∃ k', lastP l ((plB l l.length (cgA l i).block).filter fun x => decide (x < i)) q = k' + 1 := ⟨lastP l ((plB l l.length (cgA l i).block).filter fun x => decide (x < i)) q - 1, by omega⟩
      have hM : MtB l (plB l l.length (cgA l i).block) i k' := ⟨q, h2, by omega, by rw [hk']; rfl⟩
      have hR' := (hR i hi k').2 (Or.inr hM)
      by_cases e : k = k'
      · subst e; exact Or.inl hR'
      · refine Or.inr ⟨k', hR', by omega, ?_⟩
        obtain ⟨h4, h5⟩ := lastP_mem l q _ k' hk'
        obtain ⟨h6, h7⟩ := List.mem_filter.1 h4
        unfold keepsB
        rw [meetP_iff.2 ⟨q, h1, h5⟩]
        simp [hb, (plB_mem.1 h6).2]
    · refine Or.inl ((hR i hi k).2 (Or.inl ⟨k, by omega, rfl, List.contains_iff_mem.1 h⟩))

end Go.Proofs.Ytmcinaigkjfehaa

/-
  Lists of numbers of the call's own that grow side by side, by whatever they are told apart: what an append to one leaves of all. Plain; no program is named here.
-/
namespace Go.Proofs.Ytmcinaigkjfehaa
open Go.RowKit

/-- A function with another value at one place. -/
def updF {ι β : Type} [DecidableEq ι] (f : ι → β) (i : ι) (x : β) : ι → β := fun j => if j = i then x else f j
theorem updF_same {ι β : Type} [DecidableEq ι] (f : ι → β) (i : ι) (x : β) : updF f i x i = x := if_pos rfl
theorem updF_other {ι β : Type} [DecidableEq ι] (f : ι → β) {i j : ι} (x : β) (h : j ≠ i) : updF f i x j = f j := if_neg h
/-- Of the blocks from one on, those that were there are as they were. -/
def HiS (B : Nat) (w w' : World) : Prop := ∀ k, B ≤ k → k < w.heap.size → w'.heap[k]? = w.heap[k]?
theorem HiS.of_only {B g : Nat} {w w' : World} (h : Only w w' g) (hg : g < B) : HiS B w w' := fun k hk _ => h.block k (by omega)
theorem HiS.of_below {B : Nat} {w w' : World} (h : Below w.heap.size w w') : HiS B w w' := fun k _ hl => h.block k hl
theorem HiS.of_grown {B b : Nat} {w w' : World} (h : w.grownBy w' (some b)) (hb : b < B) : HiS B w w' := fun k hk hl => h.block k hl (fun e => by injection e with e; omega)
theorem OwnC.hi {w w' : World} {B : Nat} {e : TypeId} {v : Value} {l : List Value} (h : OwnC w B e v l) (hs : HiS B w w') : OwnC w' B e v l := by
  obtain ⟨hl, h | ⟨k, cap, cur, hv, hbk, hk, h⟩⟩ := h
  · exact ⟨hl, Or.inl h⟩
  · exact ⟨hl, Or.inr ⟨k, cap, cur, hv, hbk, (hs k hbk (Blk.lt hk)).trans hk, h⟩⟩
/-- Lists of numbers of the call's own, no two of them in one block. -/
structure Fam {ι : Type} (w : World) (B : Nat) (e : TypeId) (S : ι → Value) (X : ι → List Int) : Prop where
  own : ∀ i, OwnC w B e (S i) (ivals (X i))
  apart : ∀ i j, i ≠ j → Apart (S i) (S j)
section
variable {ι : Type} {w w' : World} {B : Nat} {e : TypeId} {S : ι → Value} {X : ι → List Int}
theorem Fam.none (w : World) (B : Nat) (e : TypeId) : Fam (ι := ι) w B e (fun _ => .slice none 0 0) (fun _ => []) := ⟨fun _ => OwnC.nil_ w B e, fun _ _ _ => Apart.nil_ _⟩
theorem Fam.hi (h : Fam w B e S X) (hs : HiS B w w') : Fam w' B e S X := ⟨fun i => (h.own i).hi hs, h.apart⟩
theorem Fam.ext (h : Fam w B e S X) (hb : Below w.heap.size w w') : Fam w' B e S X := h.hi (HiS.of_below hb)
theorem Fam.congr {S' : ι → Value} {X' : ι → List Int} (h : Fam w B e S X) (hS : ∀ i, S' i = S i) (hX : ∀ i, X' i = X i) : Fam w B e S' X' := by
  rw [show S' = S from funext hS, show X' = X from funext hX]; exact h
/-- One more at the end of one. -/
theorem Fam.add [DecidableEq ι] (h : Fam w B e S X) {i : ι} {v : Value} {L : List Int} (ha : Added w w' B (S i) v) (ho : OwnC w' B e v (ivals L)) : Fam w' B e (updF S i v) (updF X i L) where
  own j := by
    by_cases hj : j = i
    · subst hj; rw [updF_same, updF_same]; exact ho
    · rw [updF_other _ _ hj, updF_other _ _ hj]; exact (ha.keep B e (S j) _ (h.own j) (h.apart j i hj)).1
  apart j k hjk := by
    by_cases hj : j = i
    · subst hj
      rw [updF_same, updF_other _ _ (Ne.symm hjk)]
      exact (ha.keep B e (S k) _ (h.own k) (h.apart k j (Ne.symm hjk))).2.symm
    · rw [updF_other _ _ hj]
      by_cases hk : k = i
      · subst hk
        rw [updF_same]
        exact (ha.keep B e (S j) _ (h.own j) (h.apart j k hjk)).2
      · rw [updF_other _ _ hk]; exact h.apart j k hjk
/-- One is cleared. -/
theorem Fam.clear [DecidableEq ι] (h : Fam w B e S X) (i : ι) : Fam w B e (updF S i (.slice Option.none 0 0)) (updF X i []) where
  own j := by
    by_cases hj : j = i
    · subst hj; rw [updF_same, updF_same]; exact OwnC.nil_ _ _ _
    · rw [updF_other _ _ hj, updF_other _ _ hj]; exact h.own j
  apart j k hjk := by
    by_cases hj : j = i
    · subst hj; rw [updF_same]; exact Apart.nil_ _
    · by_cases hk : k = i
      · subst hk; rw [updF_same]; exact (Apart.nil_ _).symm
      · rw [updF_other _ _ hj, updF_other _ _ hk]; exact h.apart j k hjk
/-- One is moved to another place, and cleared where it stood. -/
theorem Fam.move [DecidableEq ι] (h : Fam w B e S X) {i j : ι} (hij : i ≠ j) : Fam w B e (updF (updF S j (S i)) i (.slice Option.none 0 0)) (updF (updF X j (X i)) i []) where
  own k := by
    by_cases hk : k = i
    · subst hk; rw [updF_same, updF_same]; exact OwnC.nil_ _ _ _
    · rw [updF_other _ _ hk, updF_other _ _ hk]
      by_cases hk2 : k = j
      · subst hk2; rw [updF_same, updF_same]; exact h.own i
      · rw [updF_other _ _ hk2, updF_other _ _ hk2]; exact h.own k
  apart k m hkm := by
    by_cases hk : k = i
    · subst hk; rw [updF_same]; exact Apart.nil_ _
    · by_cases hm : m = i
      · subst hm; rw [updF_same]; exact (Apart.nil_ _).symm
      · rw [updF_other _ _ hk, updF_other _ _ hm]
        by_cases hk2 : k = j
        · subst hk2
          rw [updF_same, updF_other _ _ (Ne.symm hkm)]
          exact h.apart i m (Ne.symm hm)
        · rw [updF_other _ _ hk2]
          by_cases hm2 : m = j
          · subst hm2
            rw [updF_same]
            exact h.apart k i hk
          · rw [updF_other _ _ hm2]; exact h.apart k m hkm
end

/-- Where what an append leaves lies: in the old block, or in a new one; and nothing else has changed. -/
structure Lies (w w' : World) (v v' : Value) : Prop where
  grown : w.grownBy w' v.ownBlock
  place : v'.ownBlock = v.ownBlock ∨ v'.ownBlock = some w.heap.size
/-- Of what was there nothing has changed but blocks of G, and those of the lists. -/
structure Turns {ι : Type} (G : Nat → Prop) (w w' : World) (S S' : ι → Value) : Prop where
  os : w'.os = w.os
  tape : w'.tape = w.tape
  output : w'.output = w.output
  size : w.heap.size ≤ w'.heap.size
  keep : ∀ r, r < w.heap.size → ¬ G r → (∀ i, (S i).ownBlock ≠ some r) → w'.heap[r]? = w.heap[r]? ∧ ∀ i, (S' i).ownBlock ≠ some r
section
variable {ι : Type} {G : Nat → Prop} {w w' w'' : World} {S S' S'' : ι → Value}
theorem Turns.refl (G : Nat → Prop) (w : World) (S : ι → Value) : Turns G w w S S := ⟨rfl, rfl, rfl, Nat.le_refl _, fun _ _ _ h => ⟨rfl, h⟩⟩
theorem Turns.trans (h : Turns G w w' S S') (k : Turns G w' w'' S' S'') : Turns G w w'' S S'' :=
  ⟨k.os.trans h.os, k.tape.trans h.tape, k.output.trans h.output, Nat.le_trans h.size k.size, fun r hr hg hs => by
    obtain ⟨h1, h2⟩ := h.keep r hr hg hs
    obtain ⟨h3, h4⟩ := k.keep r (Nat.lt_of_lt_of_le hr h.size) hg h2
    exact ⟨h3.trans h1, h4⟩⟩
theorem Turns.mono {G' : Nat → Prop} (h : Turns G w w' S S') (hg : ∀ r, r < w.heap.size → G r → G' r) : Turns G' w w' S S' :=
  ⟨h.os, h.tape, h.output, h.size, fun r hr hG hs => h.keep r hr (fun g => hG (hg r hr g)) hs⟩
theorem Turns.of_below (G : Nat → Prop) (S : ι → Value) (h : Below w.heap.size w w') : Turns G w w' S S := ⟨h.os, h.tape, h.output, h.size, fun r hr _ hs => ⟨h.block r hr, hs⟩⟩
theorem Turns.of_only (S : ι → Value) {g : Nat} (h : Only w w' g) (hg : G g) : Turns G w w' S S :=
  ⟨h.os, h.tape, h.output, Nat.le_of_eq h.size.symm, fun r _ hG hs => ⟨h.block r (fun e => hG (e ▸ hg)), hs⟩⟩
theorem Turns.of_grown (S : ι → Value) {g : Nat} (h : w.grownBy w' (some g)) (hg : G g) : Turns G w w' S S :=
  ⟨h.os, h.tape, h.output, h.size, fun r hr hG hs => ⟨h.block r hr (fun e => by injection e with e; exact hG (e ▸ hg)), hs⟩⟩
theorem Turns.of_lies [DecidableEq ι] (G : Nat → Prop) {i : ι} {v : Value} (h : Lies w w' (S i) v) : Turns G w w' S (updF S i v) :=
  ⟨h.grown.os, h.grown.tape, h.grown.output, h.grown.size, fun r hr _ hs => ⟨h.grown.block r hr (fun e => hs i e.symm), fun j => by
    by_cases hj : j = i
    · subst hj
      rw [updF_same]
      rcases h.place with e | e
      · rw [e]; exact hs j
      · rw [e]; intro e2; injection e2 with e2; omega
    · rw [updF_other _ _ hj]; exact hs j⟩⟩
theorem Turns.below {B : Nat} (h : Turns G w w' S S') (hG : ∀ r, G r → B ≤ r) (hS : ∀ i k, (S i).ownBlock = some k → B ≤ k) (hB : B ≤ w.heap.size) : Below B w w' :=
  ⟨h.os, h.tape, h.output, h.size, fun r hr => (h.keep r (by omega) (fun g => by have := hG r g; omega) (fun i e => by have := hS i r e; omega)).1⟩
/-- What a list's values become does not matter to what no list's block is. -/
theorem Turns.vals {T : ι → Value} (h : Turns G w w' S S') (hT : ∀ i r, (T i).ownBlock = some r → ∃ j, (S' j).ownBlock = some r) : Turns G w w' S T :=
  ⟨h.os, h.tape, h.output, h.size, fun r hr hG hs => by
    obtain ⟨h1, h2⟩ := h.keep r hr hG hs
    exact ⟨h1, fun i e => by obtain ⟨j, hj⟩ := hT i r e; exact h2 j hj⟩⟩
/-- No list lies in this block. -/
def NoB (S : ι → Value) (r : Nat) : Prop := ∀ i, (S i).ownBlock ≠ some r
theorem NoB.upd [DecidableEq ι] {r : Nat} {i : ι} {v : Value} (h : NoB S r) (hl : Lies w w' (S i) v) (hr : r < w.heap.size) : NoB (updF S i v) r := fun j => by
  by_cases hj : j = i
  · subst hj
    rw [updF_same]
    rcases hl.place with e | e
    · rw [e]; exact h j
    · rw [e]; intro e2; injection e2 with e2; omega
  · rw [updF_other _ _ hj]; exact h j
theorem NoB.nil [DecidableEq ι] {r : Nat} (h : NoB S r) (i : ι) : NoB (updF S i (.slice none 0 0)) r := fun j => by
  by_cases hj : j = i
  · subst hj; rw [updF_same]; simp [Value.ownBlock]
  · rw [updF_other _ _ hj]; exact h j
theorem Fam.onlyNo {B : Nat} {e : TypeId} {X : ι → List Int} (h : Fam w B e S X) {r : Nat} (hn : NoB S r) (ho : Only w w' r) : Fam w' B e S X := ⟨fun i => by
  obtain ⟨hl, h1 | ⟨k, cap, cur, hv, hbk, hk, h1⟩⟩ := h.own i
  · exact ⟨hl, Or.inl h1⟩
  · refine ⟨hl, Or.inr ⟨k, cap, cur, hv, hbk, Blk.only hk ho (fun e => hn i ?_), h1⟩⟩
    rw [hv, e]; rfl, h.apart⟩
theorem Lies.blk {g : Nat} {t : TypeId} {cs : Array Value} {v v' : Value} (h : Lies w w' v v') (hg : Blk w g t cs) (hn : v.ownBlock ≠ some g) : Blk w' g t cs :=
  (h.grown.block g hg.lt (fun e => hn e.symm)).trans hg
theorem Fam.lt {B : Nat} {e : TypeId} {X : ι → List Int} (h : Fam w B e S X) (i : ι) : ∀ k, (S i).ownBlock = some k → B ≤ k ∧ k < w.heap.size := (h.own i).lt
end

theorem Fam.no {ι : Type} {w : World} {B : Nat} {e : TypeId} {S : ι → Value} {X : ι → List Int} (h : Fam w B e S X) {r : Nat} (hr : r < B ∨ w.heap.size ≤ r) : NoB S r := fun i e => by
  have := h.lt i r e
  omega
/-! Values by their places, as the cells of a block. -/
def vc (n : Nat) (S : Nat → Value) : Array Value := ((List.range n).map S).toArray
theorem vc_size (n : Nat) (S : Nat → Value) : (vc n S).size = n := by simp [vc]
theorem vc_get {n k : Nat} (S : Nat → Value) (h : k < n) : (vc n S)[k]? = some (S k) := by simp [vc, h]
theorem vc_rep (n : Nat) (z : Value) : (List.replicate n z).toArray = vc n (fun _ => z) := by
  apply Array.ext_getElem?
  intro i
  by_cases hi : i < n
  · rw [vc_get _ hi]; simp [hi]
  · rw [Array.getElem?_eq_none (by simp; omega), Array.getElem?_eq_none (by rw [vc_size]; omega)]
theorem vc_set (n : Nat) (S : Nat → Value) (k : Nat) (v : Value) : (vc n S).setIfInBounds k v = vc n (updF S k v) := by
  apply Array.ext_getElem?
  intro i
  rw [Array.getElem?_setIfInBounds, vc_size]
  by_cases hi : i < n
  · rw [vc_get _ hi, vc_get _ hi]
    by_cases h : k = i
    · subst h; rw [if_pos rfl, if_pos hi, updF_same]
    · rw [if_neg h, updF_other _ _ (Ne.symm h)]
  · rw [Array.getElem?_eq_none (by rw [vc_size]; omega), Array.getElem?_eq_none (by rw [vc_size]; omega)]
    by_cases h : k = i
    · rw [if_pos h, if_neg (by omega)]
    · rw [if_neg h]
theorem vc_congr {n : Nat} {S T : Nat → Value} (e : ∀ k, k < n → S k = T k) : vc n S = vc n T := by
  apply Array.ext_getElem?
  intro i
  by_cases hi : i < n
  · rw [vc_get _ hi, vc_get _ hi, e i hi]
  · rw [Array.getElem?_eq_none (by rw [vc_size]; omega), Array.getElem?_eq_none (by rw [vc_size]; omega)]

section
variable {P : Program} {ops : Array Oper} {rest : List Oper} {o : Oper} {a : Act} {w : World} {K : Act → World → Prop} {Q : Exit → Act → World → Prop}
/-- append of one number, which lies in a block of its own, at whatever world. -/
theorem ow_append_int (s x : Operand) (t e : TypeId) (ho : o.op = .call { callee := .builtin .append, args := #[s, x], argTypes := #[t, t] })
    (ht : P.underlying t = some (.slice e)) (z : Value) (by_ : Nat) (hi : (P.info? e).map (fun i => (i.zero, i.size, i.bytes)) = some (some z, 1, by_)) (hz : z.cells.size = 1)
    (B : Nat) (v : Value) (l : List Int) (hs : a.eval s = v) (hown : OwnC w B e v (ivals l)) (X : Int) (g0 : Nat) (hx : a.eval x = .slice (some ⟨g0, 0, none⟩) 1 1) (e0 : TypeId) (hg : Blk w g0 e0 #[.int .i64 X])
    (hB : B ≤ w.heap.size) (hlen : l.length + 1 ≤ maxLen) (hby : (l.length + 1) * by_ ≤ 140737488355328)
    (h : Stop (∀ v' w', Hid (OwnC w' B e v' (ivals (l ++ [X]))) → Hid (Added w w' B v v') → Hid (Lies w w' v v') → K (a.put o.dst v') w')) : o.wp P a w K Q := by
  obtain ⟨v', w', hr, h1, h2, h3⟩ := run_append_one P w t o.type e ht z by_ hi hz B v (ivals l) hown (.int .i64 X) rfl ⟨g0, 0, none⟩ 1 (hg.cell 0) hB (by rw [ivals_len]; exact hlen) (by rw [ivals_len]; exact hby)
  unfold Oper.wp execOp
  simp only [ho, resolve, invoke, builtin, Sem.run_bind, Sem.run_pure, Result.andThen_ok, List.map_toArray, List.map_cons, List.map_nil, hs, hx, hr]
  rw [ivals_snoc] at h1
  refine h v' w' h1 ⟨?_, fun B' e' u m hu hap => ⟨?_, fun k hk => ?_⟩⟩ ⟨h2, h3⟩
  · refine (Below.refl B w).grown h2 hB ?_
    intro k hk
    exact (hown.lt k hk).1
  · refine World.ownsRow.kept hu h2 ?_
    cases hb : u.ownBlock with
    | none => exact Or.inl rfl
    | some k => exact Or.inr fun e => hap k hb e.symm
  · have hlt := (hu.lt k hk).2
    rcases h3 with h3 | h3 <;> rw [h3]
    · exact hap k hk
    · simp
      omega
theorem wpList_append_int (hgd : Region.wanted o (yielded ops a.tmps) = true) (s x : Operand) (t e : TypeId) (ho : o.op = .call { callee := .builtin .append, args := #[s, x], argTypes := #[t, t] })
    (ht : P.underlying t = some (.slice e)) (z : Value) (by_ : Nat) (hi : (P.info? e).map (fun i => (i.zero, i.size, i.bytes)) = some (some z, 1, by_)) (hz : z.cells.size = 1)
    (B : Nat) (v : Value) (l : List Int) (hs : a.eval s = v) (hown : OwnC w B e v (ivals l)) (X : Int) (g0 : Nat) (hx : a.eval x = .slice (some ⟨g0, 0, none⟩) 1 1) (e0 : TypeId) (hg : Blk w g0 e0 #[.int .i64 X])
    (hB : B ≤ w.heap.size) (hlen : l.length + 1 ≤ maxLen) (hby : (l.length + 1) * by_ ≤ 140737488355328)
    (h : Stop (∀ v' w', Hid (OwnC w' B e v' (ivals (l ++ [X]))) → Hid (Added w w' B v v') → Hid (Lies w w' v v') → wpList P ops Q rest (a.put o.dst v') w')) : wpList P ops Q (o :: rest) a w :=
  wpList_wanted hgd fun _ hK => ow_append_int s x t e ho ht z by_ hi hz B v l hs hown X g0 hx e0 hg hB hlen hby (fun v' w' h1 h2 h3 => hK _ _ (h v' w' h1 h2 h3))
end

end Go.Proofs.Ytmcinaigkjfehaa

/-
  A map of the call's own that is keyed by an int, as a function: made, looked up (with 'ok' or without), written, struck from, counted. Plain; no program is named here.
-/
namespace Go.Proofs.Ytmcinaigkjfehaa
open Go.RowKit Go.Maps

/-- Elements of one plain type: as values, as what they read as; which is the zero one. -/
structure El (P : Program) (e : TypeId) (β : Type) where
  v : β → Value
  l : β → Lit
  z : β
  ok : β → Prop
  zok : ok z
  rd : ∀ x, ok x → plainElem (H := Unit) P e (v x) = some (.lit (l x), [])
  inv : ∀ u x ps, plainElem (H := Unit) P e u = some (.lit (l x), ps) → u = v x
  zero : ∀ w, (zeroValue e).run P w = .ok (v z) w
theorem zero_of {P : Program} {e : TypeId} {u : Value} (hi : (P.info? e).map (·.zero) = some (some u)) (w : World) : (zeroValue e).run P w = .ok u w := by
  obtain ⟨i, h1, h2⟩ := Option.map_eq_some_iff.1 hi
  simp [zeroValue, typeInfo, h1, h2]
/-- bool. -/
def El.bool {P : Program} {e : TypeId} (he : P.underlying e = some .bool) (hi : (P.info? e).map (·.zero) = some (some (.bool false))) : El P e Bool where
  v := Value.bool
  l := Lit.bool
  z := false
  ok := fun _ => True
  zok := trivial
  rd := fun x _ => plainElem_bool he x
  inv := fun u x ps h => by
    unfold plainElem at h
    rw [he] at h
    cases u <;> simp at h
    rw [h.1]
  zero := zero_of hi
/-- int. -/
def El.int {P : Program} {e : TypeId} (he : P.underlying e = some (.int .i64)) (hi : (P.info? e).map (·.zero) = some (some (.int .i64 0))) : El P e Int where
  v := Value.int .i64
  l := Lit.int .i64
  z := 0
  ok := fun x => (Lit.int .i64 x).wf = true
  zok := by decide
  rd := fun _ hx => plainElem_int he hx
  inv := fun u x ps h => by
    obtain ⟨a, rfl, hz, _⟩ := plainElem_int_inv he h
    simp only [Prod.mk.injEq, DataW.lit.injEq, Lit.int.injEq] at hz
    rw [hz.1.2]
  zero := zero_of hi

/-- Block b is a map of at most n entries: this at this key. -/
def MapI {β : Type} (w : World) (P : Program) (K e : TypeId) (E : El P e β) (b n : Nat) (m : Int → Option β) : Prop :=
  ∃ D : DataW Unit, w.ownsMap P K (plainElem P e) b n D ∧ IsMap D ∧ (∀ k x, m k = some x → E.ok x) ∧ ∀ k, D.atKey (.int .i64 k) (.lit (E.l E.z)) = .lit (E.l ((m k).getD E.z)) ∧ Maps.has D (.int .i64 k) = (m k).isSome

section
variable {β : Type} {P : Program} {K e t : TypeId} {E : El P e β} {w w' : World} {b n : Nat} {m : Int → Option β}
theorem MapI.made (w : World) (P : Program) (K e : TypeId) (E : El P e β) : MapI (w.alloc (.map #[] 0)) P K e E w.heap.size 0 (fun _ => none) :=
  ⟨.map [], World.ownsMap_made w P K _, isMap_empty, fun _ x (h : none = some x) => (by cases h), fun _ => ⟨rfl, rfl⟩⟩
theorem MapI.lt (h : MapI w P K e E b n m) : b < w.heap.size := by obtain ⟨_, h1, _⟩ := h; exact h1.lt
theorem MapI.mono (h : MapI w P K e E b n m) {n' : Nat} (hn : n ≤ n') : MapI w P K e E b n' m := by
  obtain ⟨D, h1, h2⟩ := h
  exact ⟨D, h1.mono hn, h2⟩
/-- It stays where its block stays. -/
theorem MapI.same (h : MapI w P K e E b n m) (hb : w'.heap[b]? = w.heap[b]?) : MapI w' P K e E b n m := by
  obtain ⟨D, ⟨es, clock, h0, h1⟩, h2⟩ := h
  exact ⟨D, ⟨es, clock, hb.trans h0, h1⟩, h2⟩
theorem MapI.ext (h : MapI w P K e E b n m) (hb : Below w.heap.size w w') : MapI w' P K e E b n m := h.same (hb.block b h.lt)
theorem MapI.only (h : MapI w P K e E b n m) {g : Nat} (ho : Only w w' g) (hg : b ≠ g) : MapI w' P K e E b n m := h.same (ho.block b hg)
theorem MapI.grown (h : MapI w P K e E b n m) {row : Option Nat} (hg : w.grownBy w' row) (hne : some b ≠ row) : MapI w' P K e E b n m := h.same (hg.block b h.lt hne)
/-- m[k]. -/
theorem MapI.look (h : MapI w P K e E b n m) (hk : P.underlying K = some (.int .i64)) (ht : P.underlying t = some (.map K e)) (k : Int) (hw : (Lit.int .i64 k).wf = true) :
    (Instr.lookup t (.map (some b)) (.int .i64 k) false).run P w = .ok (E.v ((m k).getD E.z)) w := by
  obtain ⟨D, h1, _, _, h4⟩ := h
  obtain ⟨v, ps, hrun, hv⟩ := h1.lookup (int_keyed hk) ht (E.zero w) (E.rd _ E.zok) (keyOf_int_mk hk hw)
  rw [(h4 k).1] at hv
  rw [hrun, E.inv _ _ _ hv]
/-- v, ok := m[k]. -/
theorem MapI.look_ok (h : MapI w P K e E b n m) (hk : P.underlying K = some (.int .i64)) (ht : P.underlying t = some (.map K e)) (k : Int) (hw : (Lit.int .i64 k).wf = true) :
    (Instr.lookup t (.map (some b)) (.int .i64 k) true).run P w = .ok (.tuple #[E.v ((m k).getD E.z), .bool (m k).isSome]) w := by
  obtain ⟨D, h1, _, _, h4⟩ := h
  obtain ⟨v, ps, hrun, hv⟩ := h1.look_ok (int_keyed hk) ht (E.zero w) (E.rd _ E.zok) (keyOf_int_mk hk hw)
  rw [(h4 k).1] at hv
  rw [hrun, E.inv _ _ _ hv, (h4 k).2]
/-- The function with another value at one key. -/
def updM (m : Int → Option β) (k : Int) (x : Option β) : Int → Option β := fun j => if j = k then x else m j
/-- m[k] = x. -/
theorem MapI.store (h : MapI w P K e E b n m) (hk : P.underlying K = some (.int .i64)) (ht : P.underlying t = some (.map K e)) (hn : n < maxLen) (k : Int) (hw : (Lit.int .i64 k).wf = true) (x : β) (hx : E.ok x) :
    ∃ w', (Instr.mapUpdate t (.map (some b)) (.int .i64 k) (E.v x)).run P w = .ok () w' ∧ MapI w' P K e E b (n + 1) (updM m k (some x)) ∧ w.grownBy w' (some b) := by
  obtain ⟨D, h1, h2, h3, h4⟩ := h
  obtain ⟨w', hrun, r1, r2⟩ := h1.update (int_keyed hk) ht hn (keyOf_int_mk hk hw) (E.rd x hx)
  refine ⟨w', hrun, ⟨_, r1, h2.put _ _, fun j y hy => ?_, fun j => ?_⟩, r2⟩
  · unfold updM at hy
    split at hy
    · injection hy with hy
      rw [← hy]
      exact hx
    · exact h3 j y hy
  · unfold updM
    by_cases hj : j = k
    · subst hj
      rw [if_pos rfl, atKey_put_same (k := .int .i64 j) h2 trivial, has_put_same (k := .int .i64 j) h2 trivial]
      exact ⟨rfl, rfl⟩
    · rw [if_neg hj, atKey_put_other (by intro h; injection h with _ h; exact hj h), has_put_other (by intro h; injection h with _ h; exact hj h)]
      exact h4 j
end

section
variable {β : Type} {P : Program} {ops : Array Oper} {rest : List Oper} {o : Oper} {a : Act} {w : World} {L : Act → World → Prop} {Q : Exit → Act → World → Prop} {b n : Nat} {m : Int → Option β}
theorem exec_look {o : Oper} (t : TypeId) (x y : Operand) (ho : o.op = .lookup t x y false) (K e : TypeId) (E : El P e β) (hk : P.underlying K = some (.int .i64)) (ht : P.underlying t = some (.map K e))
    (hx : a.eval x = .map (some b)) (hM : MapI w P K e E b n m) (k : Int) (hy : a.eval y = .int .i64 k) (hw : (Lit.int .i64 k).wf = true) : (execOp a.eval o).run P w = .ok (.value (E.v ((m k).getD E.z))) w := by
  unfold execOp
  simp only [ho, hx, hy, Sem.run_bind, Sem.run_pure, Result.andThen_ok, hM.look hk ht k hw]
theorem exec_look_ok {o : Oper} (t : TypeId) (x y : Operand) (ho : o.op = .lookup t x y true) (K e : TypeId) (E : El P e β) (hk : P.underlying K = some (.int .i64)) (ht : P.underlying t = some (.map K e))
    (hx : a.eval x = .map (some b)) (hM : MapI w P K e E b n m) (k : Int) (hy : a.eval y = .int .i64 k) (hw : (Lit.int .i64 k).wf = true) : (execOp a.eval o).run P w = .ok (.value (.tuple #[E.v ((m k).getD E.z), .bool (m k).isSome])) w := by
  unfold execOp
  simp only [ho, hx, hy, Sem.run_bind, Sem.run_pure, Result.andThen_ok, hM.look_ok hk ht k hw]
theorem wpList_look (hgd : Region.wanted o (yielded ops a.tmps) = true) (t : TypeId) (x y : Operand) (ho : o.op = .lookup t x y false) (K e : TypeId) (E : El P e β) (hk : P.underlying K = some (.int .i64)) (ht : P.underlying t = some (.map K e))
    (hx : a.eval x = .map (some b)) (hM : MapI w P K e E b n m) (k : Int) (hy : a.eval y = .int .i64 k) (hw : (Lit.int .i64 k).wf = true) (u : Value) (hu : E.v ((m k).getD E.z) = u) (h : wpList P ops Q rest (a.put o.dst u) w) : wpList P ops Q (o :: rest) a w := by
  refine wpList_wanted hgd fun K' hK => ?_
  unfold Oper.wp
  rw [exec_look t x y ho K e E hk ht hx hM k hy hw, hu]
  exact hK _ _ h
theorem wpList_look_ok (hgd : Region.wanted o (yielded ops a.tmps) = true) (t : TypeId) (x y : Operand) (ho : o.op = .lookup t x y true) (K e : TypeId) (E : El P e β) (hk : P.underlying K = some (.int .i64)) (ht : P.underlying t = some (.map K e))
    (hx : a.eval x = .map (some b)) (hM : MapI w P K e E b n m) (k : Int) (hy : a.eval y = .int .i64 k) (hw : (Lit.int .i64 k).wf = true) (u : Value) (hu : E.v ((m k).getD E.z) = u) (r : Bool) (hr : (m k).isSome = r)
    (h : wpList P ops Q rest (a.put o.dst (.tuple #[u, .bool r])) w) : wpList P ops Q (o :: rest) a w := by
  refine wpList_wanted hgd fun K' hK => ?_
  unfold Oper.wp
  rw [exec_look_ok t x y ho K e E hk ht hx hM k hy hw, hu, hr]
  exact hK _ _ h
theorem ow_map_store (t : TypeId) (x y z : Operand) (ho : o.op = .mapUpdate t x y z) (K e : TypeId) (E : El P e β) (hk : P.underlying K = some (.int .i64)) (ht : P.underlying t = some (.map K e))
    (hx : a.eval x = .map (some b)) (hM : MapI w P K e E b n m) (hn : n < maxLen) (k : Int) (hy : a.eval y = .int .i64 k) (hw : (Lit.int .i64 k).wf = true) (u : β) (hz : a.eval z = E.v u) (hu : E.ok u)
    (h : Stop (∀ w', Hid (MapI w' P K e E b (n + 1) (updM m k (some u))) → Hid (w.grownBy w' (some b)) → L (a.put o.dst undef) w')) : o.wp P a w L Q := by
  obtain ⟨w', hrun, r1, r2⟩ := hM.store hk ht hn k hw u hu
  unfold Oper.wp execOp
  simp only [ho, hx, hy, hz, Sem.run_bind, Sem.run_pure, Result.andThen_ok, hrun]
  exact h w' r1 r2
theorem wpList_map_store (hgd : Region.wanted o (yielded ops a.tmps) = true) (t : TypeId) (x y z : Operand) (ho : o.op = .mapUpdate t x y z) (K e : TypeId) (E : El P e β) (hk : P.underlying K = some (.int .i64)) (ht : P.underlying t = some (.map K e))
    (hx : a.eval x = .map (some b)) (hM : MapI w P K e E b n m) (hn : n < maxLen) (k : Int) (hy : a.eval y = .int .i64 k) (hw : (Lit.int .i64 k).wf = true) (u : β) (hz : a.eval z = E.v u) (hu : E.ok u)
    (h : Stop (∀ w', Hid (MapI w' P K e E b (n + 1) (updM m k (some u))) → Hid (w.grownBy w' (some b)) → wpList P ops Q rest (a.put o.dst undef) w')) : wpList P ops Q (o :: rest) a w :=
  wpList_wanted hgd fun _ hK => ow_map_store t x y z ho K e E hk ht hx hM hn k hy hw u hz hu (fun w' h1 h2 => hK _ _ (h w' h1 h2))
end

end Go.Proofs.Ytmcinaigkjfehaa

/-
  A map of the call's own from ints to slices, as a function to values: what a value leads to is no part of it. Made, looked up, written, gone through. Plain; no program is named here.
-/
namespace Go.Proofs.Ytmcinaigkjfehaa
open Go.RowKit Go.Maps

/-- An element as it stands. -/
def tokR (v : Value) : Option (DataW Value × List MemPlace) := some (.held v, [])
def nilS : Value := .slice none 0 0
/-- Block b is a map of at most n entries: this at this key. -/
def MapV (w : World) (P : Program) (K : TypeId) (b n : Nat) (m : Int → Option Value) : Prop :=
  ∃ D : DataW Value, w.ownsMap P K tokR b n D ∧ IsMap D ∧ ∀ k, D.atKey (.int .i64 k) (.held nilS) = .held ((m k).getD nilS) ∧ Maps.has D (.int .i64 k) = (m k).isSome
/-- The same map, gone through: block r is under way; which keys are still to come. -/
def MapR (w : World) (P : Program) (K : TypeId) (b r n : Nat) (m : Int → Option Value) (left : Int → Bool) (cnt : Nat) : Prop :=
  ∃ (D : DataW Value) (L : Lit → Bool), w.ranges P K tokR b r n D L cnt ∧ IsMap D ∧ (∀ k, D.atKey (.int .i64 k) (.held nilS) = .held ((m k).getD nilS) ∧ Maps.has D (.int .i64 k) = (m k).isSome) ∧ (∀ k, L (.int .i64 k) = left k)

section
variable {P : Program} {K e t : TypeId} {w w' : World} {b r n : Nat} {m : Int → Option Value} {left : Int → Bool} {cnt : Nat}
theorem MapV.made (w : World) (P : Program) (K : TypeId) : MapV (w.alloc (.map #[] 0)) P K w.heap.size 0 (fun _ => none) :=
  ⟨.map [], World.ownsMap_made w P K _, isMap_empty, fun _ => ⟨rfl, rfl⟩⟩
theorem MapV.lt (h : MapV w P K b n m) : b < w.heap.size := by obtain ⟨_, h1, _⟩ := h; exact h1.lt
theorem MapV.mono (h : MapV w P K b n m) {n' : Nat} (hn : n ≤ n') : MapV w P K b n' m := by
  obtain ⟨D, h1, h2⟩ := h
  exact ⟨D, h1.mono hn, h2⟩
theorem MapV.same (h : MapV w P K b n m) (hb : w'.heap[b]? = w.heap[b]?) : MapV w' P K b n m := by
  obtain ⟨D, ⟨es, clock, h0, h1⟩, h2⟩ := h
  exact ⟨D, ⟨es, clock, hb.trans h0, h1⟩, h2⟩
theorem MapV.ext (h : MapV w P K b n m) (hb : Below w.heap.size w w') : MapV w' P K b n m := h.same (hb.block b h.lt)
theorem MapV.below {B : Nat} (h : MapV w P K b n m) (hb : Below B w w') (hB : b < B) : MapV w' P K b n m := h.same (hb.block b hB)
theorem MapV.only (h : MapV w P K b n m) {g : Nat} (ho : Only w w' g) (hg : b ≠ g) : MapV w' P K b n m := h.same (ho.block b hg)
theorem MapV.look (h : MapV w P K b n m) (hk : P.underlying K = some (.int .i64)) (ht : P.underlying t = some (.map K e)) (hz : (P.info? e).map (·.zero) = some (some nilS)) (k : Int) (hw : (Lit.int .i64 k).wf = true) :
    (Instr.lookup t (.map (some b)) (.int .i64 k) false).run P w = .ok ((m k).getD nilS) w := by
  obtain ⟨D, h1, _, h4⟩ := h
  obtain ⟨v, ps, hrun, hv⟩ := h1.lookup (int_keyed hk) ht (zero_of hz w) (show tokR nilS = some (.held nilS, []) from rfl) (keyOf_int_mk hk hw)
  rw [(h4 k).1] at hv
  unfold tokR at hv
  injection hv with hv
  injection hv with hv _
  injection hv with hv
  rw [hrun, hv]
theorem MapV.store (h : MapV w P K b n m) (hk : P.underlying K = some (.int .i64)) (ht : P.underlying t = some (.map K e)) (hn : n < maxLen) (k : Int) (hw : (Lit.int .i64 k).wf = true) (x : Value) :
    ∃ w', (Instr.mapUpdate t (.map (some b)) (.int .i64 k) x).run P w = .ok () w' ∧ MapV w' P K b (n + 1) (updM m k (some x)) ∧ w.grownBy w' (some b) := by
  obtain ⟨D, h1, h2, h4⟩ := h
  obtain ⟨w', hrun, r1, r2⟩ := h1.update (int_keyed hk) ht hn (keyOf_int_mk hk hw) (show tokR x = some (.held x, []) from rfl)
  refine ⟨w', hrun, ⟨_, r1, h2.put _ _, fun j => ?_⟩, r2⟩
  unfold updM
  by_cases hj : j = k
  · subst hj
    rw [if_pos rfl, atKey_put_same (k := .int .i64 j) h2 trivial, has_put_same (k := .int .i64 j) h2 trivial]
    exact ⟨rfl, rfl⟩
  · rw [if_neg hj, atKey_put_other (by intro h; injection h with _ h; exact hj h), has_put_other (by intro h; injection h with _ h; exact hj h)]
    exact h4 j
theorem MapR.map (h : MapR w P K b r n m left cnt) : MapV w P K b n m := by
  obtain ⟨D, L, h1, h2, h3, _⟩ := h
  exact ⟨D, h1.owns, h2, h3⟩
theorem MapR.lt (h : MapR w P K b r n m left cnt) : r < w.heap.size := by obtain ⟨_, _, h1, _⟩ := h; exact h1.lt
theorem MapR.left_eq (h : MapR w P K b r n m left cnt) : w.rangeLeft b r = cnt := by obtain ⟨_, _, h1, _⟩ := h; exact h1.left_eq
theorem MapR.same (h : MapR w P K b r n m left cnt) (hb : w'.heap[b]? = w.heap[b]?) (hr : w'.heap[r]? = w.heap[r]?) : MapR w' P K b r n m left cnt := by
  obtain ⟨D, L, ⟨es, clock, since, seen, c0, h0, h1, h2, h3, h4, h5⟩, q⟩ := h
  exact ⟨D, L, ⟨es, clock, since, seen, c0, hb.trans h0, h1, h2, h3, hr.trans h4, h5⟩, q⟩
theorem MapR.ext (h : MapR w P K b r n m left cnt) (hb : Below w.heap.size w w') : MapR w' P K b r n m left cnt := h.same (hb.block b h.map.lt) (hb.block r h.lt)
theorem MapV.range (h : MapV w P K b n m) (hk : P.underlying K = some (.int .i64)) (ht : P.underlying t = some (.map K e)) :
    ∃ w' cnt, (Instr.range t (.map (some b))).run P w = .ok (.pointer (some ⟨w.heap.size, 0, none⟩)) w' ∧ MapR w' P K b w.heap.size n m (fun k => (m k).isSome) cnt ∧ Below w.heap.size w w' := by
  obtain ⟨D, h1, h2, h3⟩ := h
  obtain ⟨w', hrun, hr, hg, _⟩ := h1.range (int_keyed hk) ht
  exact ⟨w', _, hrun, ⟨D, _, hr, h2, h3, fun k => (h3 k).2⟩, ⟨hg.os, hg.tape, hg.output, hg.size, fun k hk => hg.block k hk (by simp)⟩⟩
/-- The step: nothing is left, or one comes that was. -/
theorem MapR.next (h : MapR w P K b r n m left cnt) (hk : P.underlying K = some (.int .i64)) (ty : TypeId) :
    (cnt = 0 ∧ (∀ k, left k = false) ∧ (Instr.next (.pointer (some ⟨r, 0, none⟩)) false ty).run P w = .ok (.tuple #[.bool false]) w) ∨
    ∃ (k : Int) (w' : World) (cnt' : Nat), left k = true ∧ (Instr.next (.pointer (some ⟨r, 0, none⟩)) false ty).run P w = .ok (.tuple #[.bool true, .int .i64 k, (m k).getD nilS]) w' ∧
      MapR w' P K b r n m (fun j => left j && !decide (j = k)) cnt' ∧ cnt' < cnt ∧ w.grownBy w' (some r) ∧ w'.heap.size = w.heap.size ∧ (Instr.entry (.pointer (some ⟨r, 0, none⟩))).run P w' = .ok (.tuple #[.int .i64 k, (m k).getD nilS]) w' := by
  obtain ⟨D, L, h1, h2, h3, h4⟩ := h
  rcases h1.next (int_keyed hk) ty with ⟨q1, q2, q3⟩ | ⟨key, v, kl, y, w', cnt', q1, q2, q3, q4, q5, q6, q7, q8, q9, q10⟩
  · exact Or.inl ⟨q1, fun k => by rw [← h4 k]; exact q2 _, q3⟩
  · obtain ⟨x, rfl, rfl, hw⟩ := keyOf_int_inv hk q1
    have e1 := q4 (.held nilS)
    unfold tokR at q3
    injection q3 with q3
    subst q3
    rw [(h3 x).1] at e1
    injection e1 with e1
    rw [← e1] at q5 q10
    refine Or.inr ⟨x, w', cnt', by rw [← h4 x]; exact q2, q5, ⟨D, _, q6, h2, h3, fun j => ?_⟩, q7, q8, q9, q10⟩
    simp only [h4 j]
    by_cases hj : j = x
    · subst hj
      simp [Lit.sameKey]
    · have hne : Lit.int .i64 j ≠ Lit.int .i64 x := fun h => by injection h with _ h; exact hj h
      rw [Maps.sameKey_ne hne]
      simp [hj]
end

section
variable {P : Program} {ops : Array Oper} {rest : List Oper} {o : Oper} {a : Act} {w : World} {L : Act → World → Prop} {Q : Exit → Act → World → Prop} {b r n : Nat} {m : Int → Option Value} {left : Int → Bool} {cnt : Nat}
theorem exec_lookV {o : Oper} (t : TypeId) (x y : Operand) (ho : o.op = .lookup t x y false) (K e : TypeId) (hk : P.underlying K = some (.int .i64)) (ht : P.underlying t = some (.map K e)) (hz : (P.info? e).map (·.zero) = some (some nilS))
    (hx : a.eval x = .map (some b)) (hM : MapV w P K b n m) (k : Int) (hy : a.eval y = .int .i64 k) (hw : (Lit.int .i64 k).wf = true) : (execOp a.eval o).run P w = .ok (.value ((m k).getD nilS)) w := by
  unfold execOp
  simp only [ho, hx, hy, Sem.run_bind, Sem.run_pure, Result.andThen_ok, hM.look hk ht hz k hw]
theorem wpList_lookV (hgd : Region.wanted o (yielded ops a.tmps) = true) (t : TypeId) (x y : Operand) (ho : o.op = .lookup t x y false) (K e : TypeId) (hk : P.underlying K = some (.int .i64)) (ht : P.underlying t = some (.map K e)) (hz : (P.info? e).map (·.zero) = some (some nilS))
    (hx : a.eval x = .map (some b)) (hM : MapV w P K b n m) (k : Int) (hy : a.eval y = .int .i64 k) (hw : (Lit.int .i64 k).wf = true) (u : Value) (hu : (m k).getD nilS = u) (h : wpList P ops Q rest (a.put o.dst u) w) : wpList P ops Q (o :: rest) a w := by
  refine wpList_wanted hgd fun K' hK => ?_
  unfold Oper.wp
  rw [exec_lookV t x y ho K e hk ht hz hx hM k hy hw, hu]
  exact hK _ _ h
theorem ow_mapV_store (t : TypeId) (x y z : Operand) (ho : o.op = .mapUpdate t x y z) (K e : TypeId) (hk : P.underlying K = some (.int .i64)) (ht : P.underlying t = some (.map K e))
    (hx : a.eval x = .map (some b)) (hM : MapV w P K b n m) (hn : n < maxLen) (k : Int) (hy : a.eval y = .int .i64 k) (hw : (Lit.int .i64 k).wf = true) (u : Value) (hz : a.eval z = u)
    (h : Stop (∀ w', Hid (MapV w' P K b (n + 1) (updM m k (some u))) → Hid (w.grownBy w' (some b)) → L (a.put o.dst undef) w')) : o.wp P a w L Q := by
  obtain ⟨w', hrun, r1, r2⟩ := hM.store hk ht hn k hw u
  unfold Oper.wp execOp
  simp only [ho, hx, hy, hz, Sem.run_bind, Sem.run_pure, Result.andThen_ok, hrun]
  exact h w' r1 r2
theorem wpList_mapV_store (hgd : Region.wanted o (yielded ops a.tmps) = true) (t : TypeId) (x y z : Operand) (ho : o.op = .mapUpdate t x y z) (K e : TypeId) (hk : P.underlying K = some (.int .i64)) (ht : P.underlying t = some (.map K e))
    (hx : a.eval x = .map (some b)) (hM : MapV w P K b n m) (hn : n < maxLen) (k : Int) (hy : a.eval y = .int .i64 k) (hw : (Lit.int .i64 k).wf = true) (u : Value) (hz : a.eval z = u)
    (h : Stop (∀ w', Hid (MapV w' P K b (n + 1) (updM m k (some u))) → Hid (w.grownBy w' (some b)) → wpList P ops Q rest (a.put o.dst undef) w')) : wpList P ops Q (o :: rest) a w :=
  wpList_wanted hgd fun _ hK => ow_mapV_store t x y z ho K e hk ht hx hM hn k hy hw u hz (fun w' h1 h2 => hK _ _ (h w' h1 h2))
theorem wpList_makeV (hgd : Region.wanted o (yielded ops a.tmps) = true) (t : TypeId) (ho : o.op = .makeMap t none) (K0 : TypeId)
    (h : Stop (∀ w', Hid (Grew w w') → Hid (MapV w' P K0 w.heap.size 0 (fun _ => none)) → wpList P ops Q rest (a.put o.dst (.map (some w.heap.size))) w')) : wpList P ops Q (o :: rest) a w := by
  refine wpList_wanted hgd fun K hK => ?_
  have hr : (Instr.makeMap t none).run P w = .ok (.map (some w.heap.size)) (w.alloc (.map #[] 0)) := rfl
  unfold Oper.wp execOp
  simp only [ho, Sem.run_bind, Sem.run_pure, Option.map_none, hr, Result.andThen_ok]
  exact hK _ _ (h _ (Grew.alloc w _) (MapV.made w P K0))
theorem wpList_rangeV (hgd : Region.wanted o (yielded ops a.tmps) = true) (t : TypeId) (x : Operand) (ho : o.op = .range t x) (K e : TypeId) (hk : P.underlying K = some (.int .i64)) (ht : P.underlying t = some (.map K e))
    (hx : a.eval x = .map (some b)) (hM : MapV w P K b n m)
    (h : Stop (∀ w' cnt, Hid (MapR w' P K b w.heap.size n m (fun k => (m k).isSome) cnt) → Hid (Below w.heap.size w w') → wpList P ops Q rest (a.put o.dst (.pointer (some ⟨w.heap.size, 0, none⟩))) w')) : wpList P ops Q (o :: rest) a w := by
  refine wpList_wanted hgd fun K' hK => ?_
  obtain ⟨w', cnt, hrun, r1, r2⟩ := hM.range hk ht
  unfold Oper.wp execOp
  simp only [ho, hx, Sem.run_bind, Sem.run_pure, Result.andThen_ok, hrun]
  exact hK _ _ (h w' cnt r1 r2)
/-- The step, at the operation: two ways. -/
theorem wpList_nextV (hgd : Region.wanted o (yielded ops a.tmps) = true) (x : Operand) (ho : o.op = .next x false) (K : TypeId) (hk : P.underlying K = some (.int .i64))
    (hx : a.eval x = .pointer (some ⟨r, 0, none⟩)) (hM : MapR w P K b r n m left cnt)
    (h0 : Stop ((∀ k, left k = false) → wpList P ops Q rest (a.put o.dst (.tuple #[.bool false])) w))
    (h : Stop (∀ (k : Int) (w' : World) (cnt' : Nat), left k = true → Hid (MapR w' P K b r n m (fun j => left j && !decide (j = k)) cnt') → cnt' < cnt → Hid (w.grownBy w' (some r)) → w'.heap.size = w.heap.size → (Instr.entry (.pointer (some ⟨r, 0, none⟩))).run P w' = .ok (.tuple #[.int .i64 k, (m k).getD nilS]) w' → wpList P ops Q rest (a.put o.dst (.tuple #[.bool true, .int .i64 k, (m k).getD nilS])) w')) : wpList P ops Q (o :: rest) a w := by
  refine wpList_wanted hgd fun K' hK => ?_
  rcases hM.next hk o.type with ⟨_, q2, q3⟩ | ⟨k, w', cnt', q1, q2, q3, q4, q5, q6, q7⟩
  · unfold Oper.wp execOp
    simp only [ho, hx, Sem.run_bind, Sem.run_pure, Result.andThen_ok, q3]
    exact hK _ _ (h0 q2)
  · unfold Oper.wp execOp
    simp only [ho, hx, Sem.run_bind, Sem.run_pure, Result.andThen_ok, q2]
    exact hK _ _ (h k w' cnt' q1 q3 q4 q5 q6 q7)
end

end Go.Proofs.Ytmcinaigkjfehaa

/-
  Whole numbers by their places, as the cells of a block. Plain; no program is named here.
-/
namespace Go.Proofs.Ytmcinaigkjfehaa
open Go.RowKit

/-- Whole numbers by their places, as cells. -/
def zc (n : Nat) (z : Nat → Int) : Array Value := ((List.range n).map fun k => Value.int .i64 (z k)).toArray
theorem zc_size (n : Nat) (z : Nat → Int) : (zc n z).size = n := by simp [zc]
theorem zc_get {n k : Nat} (z : Nat → Int) (h : k < n) : (zc n z)[k]? = some (.int .i64 (z k)) := by simp [zc, h]
theorem zc_zero (n : Nat) : (List.replicate n (Value.int .i64 0)).toArray = zc n (fun _ => 0) := by
  apply Array.ext_getElem?
  intro i
  by_cases hi : i < n
  · rw [zc_get _ hi]; simp [hi]
  · rw [Array.getElem?_eq_none (by simp; omega), Array.getElem?_eq_none (by rw [zc_size]; omega)]
theorem zc_step (n : Nat) (z : Nat → Int) (k : Nat) : (zc n (fun i => if i < k then z i else 0)).setIfInBounds k (.int .i64 (z k)) = zc n (fun i => if i < k + 1 then z i else 0) := by
  apply Array.ext_getElem?
  intro i
  rw [Array.getElem?_setIfInBounds, zc_size]
  by_cases hi : i < n
  · rw [zc_get _ hi, zc_get _ hi]
    by_cases h : k = i
    · subst h; rw [if_pos rfl, if_pos hi, if_pos (by omega)]
    · rw [if_neg h]
      by_cases h2 : i < k
      · rw [if_pos h2, if_pos (by omega)]
      · rw [if_neg h2, if_neg (by omega)]
  · rw [Array.getElem?_eq_none (by rw [zc_size]; omega), Array.getElem?_eq_none (by rw [zc_size]; omega)]
    by_cases h : k = i
    · rw [if_pos h, if_neg (by omega)]
    · rw [if_neg h]
theorem zc_congr {n : Nat} {y z : Nat → Int} (e : ∀ k, k < n → y k = z k) : zc n y = zc n z := by
  apply Array.ext_getElem?
  intro i
  by_cases hi : i < n
  · rw [zc_get _ hi, zc_get _ hi, e i hi]
  · rw [Array.getElem?_eq_none (by rw [zc_size]; omega), Array.getElem?_eq_none (by rw [zc_size]; omega)]

end Go.Proofs.Ytmcinaigkjfehaa
