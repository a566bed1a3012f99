/-
  The document's way of sorting, plain: the least of those that stand behind what is sorted already. No program is named here.
-/
import Derived.Test.YtbajicgpjggkfaaGreatGrP
namespace Go.Proofs.YtbajicgpjggkfaaGreat
open Go.RowKit

def noText : ByteArray := ⟨#[]⟩
/-- Is x behind the first k of L? -/
def aboveB (L : List ByteArray) (k : Nat) (x : ByteArray) : Bool := k == 0 || ltS (L.getD (k - 1) noText) x
/-- s is the least of the first j of l that stand behind the first k of L, if there is one (b). -/
structure BestS (L l : List ByteArray) (k j : Nat) (b : Bool) (s : ByteArray) : Prop where
  some_in : b = true → s ∈ l.take j ∧ aboveB L k s = true ∧ ∀ x ∈ l.take j, aboveB L k x = true → ltS x s = false
  none_in : b = false → ∀ x ∈ l.take j, aboveB L k x = false
section
variable {L l : List ByteArray} {k j : Nat} {b : Bool} {s : ByteArray}
theorem BestS.start (L l : List ByteArray) (k : Nat) (s : ByteArray) : BestS L l k 0 false s := ⟨fun h => (by cases h), fun _ x hx => (by simp at hx)⟩
theorem mem_take_succ {x : ByteArray} (hj : j < l.length) : x ∈ l.take (j + 1) ↔ x ∈ l.take j ∨ x = l[j] := by
  rw [List.take_succ_eq_append_getElem hj, List.mem_append, List.mem_singleton]
theorem BestS.skip (h : BestS L l k j b s) (hj : j < l.length) (ha : aboveB L k l[j] = false) : BestS L l k (j + 1) b s := by
  refine ⟨fun hb => ?_, fun hb x hx => ?_⟩
  · obtain ⟨h1, h2, h3⟩ := h.some_in hb
    refine ⟨(mem_take_succ hj).2 (Or.inl h1), h2, fun x hx hax => ?_⟩
    rcases (mem_take_succ hj).1 hx with hx | rfl
    · exact h3 x hx hax
    · rw [ha] at hax
      cases hax
  · rcases (mem_take_succ hj).1 hx with hx | rfl
    · exact h.none_in hb x hx
    · exact ha
theorem BestS.takes (h : BestS L l k j b s) (hj : j < l.length) (ha : aboveB L k l[j] = true) (hl : b = false ∨ ltS l[j] s = true) : BestS L l k (j + 1) true l[j] := by
  refine ⟨fun _ => ⟨(mem_take_succ hj).2 (Or.inr rfl), ha, fun x hx hax => ?_⟩, fun hb => (by cases hb)⟩
  rcases (mem_take_succ hj).1 hx with hx | rfl
  · cases hb : b with
    | false =>
      rw [h.none_in hb x hx] at hax
      cases hax
    | true =>
      rcases hl with hl | hl
      · rw [hb] at hl
        cases hl
      · cases hx2 : ltS x l[j] with
        | false => rfl
        | true =>
          have h1 := (h.some_in hb).2.2 x hx hax
          rw [ltS_trans hx2 hl] at h1
          cases h1
  · exact ltS_irrefl _
theorem BestS.stays (h : BestS L l k j true s) (hj : j < l.length) (hl : ltS l[j] s = false) : BestS L l k (j + 1) true s := by
  obtain ⟨h1, h2, h3⟩ := h.some_in rfl
  refine ⟨fun _ => ⟨(mem_take_succ hj).2 (Or.inl h1), h2, fun x hx hax => ?_⟩, fun hb => (by cases hb)⟩
  rcases (mem_take_succ hj).1 hx with hx | rfl
  · exact h3 x hx hax
  · exact hl
theorem BestS.in_ (h : BestS L l k j true s) : s ∈ l := List.mem_of_mem_take (h.some_in rfl).1

theorem above_next {L : List ByteArray} (hr : RiseS L) (k : Nat) (hk : k < L.length) : aboveB L k L[k] = true := by
  unfold aboveB
  by_cases h0 : k = 0
  · simp [h0]
  · have h1 : ltS L[k - 1] L[k] = true := List.pairwise_iff_getElem.1 hr (k - 1) k (by omega) hk (by omega)
    have h2 : L.getD (k - 1) noText = L[k - 1] := by simp [List.getD, show k - 1 < L.length by omega]
    rw [h2, h1]
    simp
theorem above_at {L : List ByteArray} (hr : RiseS L) (k i : Nat) (hi : i < L.length) (hk : k ≤ L.length) (h : aboveB L k L[i] = true) : k ≤ i := by
  apply Classical.byContradiction
  intro hlt
  unfold aboveB at h
  have h0 : (k == 0) = false := by simp; omega
  have h2 : L.getD (k - 1) noText = L[k - 1] := by simp [List.getD, show k - 1 < L.length by omega]
  rw [h0, h2, Bool.false_or] at h
  by_cases e : i = k - 1
  · subst e
    rw [ltS_irrefl] at h
    cases h
  · have h1 : ltS L[i] L[k - 1] = true := List.pairwise_iff_getElem.1 hr i (k - 1) hi (by omega) (by omega)
    rw [ltS_asymm h1] at h
    cases h
theorem BestS.none_all (h : BestS (sortS l) l k l.length false s) : (sortS l).take k = sortS l := by
  apply List.take_of_length_le
  apply Classical.byContradiction
  intro hlt
  have hk2 : k < (sortS l).length := by omega
  have h1 := above_next (sortS_rises l) k hk2
  have h2 := h.none_in rfl (sortS l)[k] (by rw [List.take_of_length_le (Nat.le_refl _)]; exact (sortS_mem l _).1 (List.getElem_mem hk2))
  rw [h1] at h2
  cases h2
theorem BestS.some_next (h : BestS (sortS l) l k l.length true s) (hk : k ≤ (sortS l).length) : k < (sortS l).length ∧ (sortS l).take (k + 1) = (sortS l).take k ++ [s] := by
  obtain ⟨h1, h2, h3⟩ := h.some_in rfl
  rw [List.take_of_length_le (Nat.le_refl _)] at h1
  obtain ⟨i, hi, e⟩ := List.mem_iff_getElem.1 ((sortS_mem l s).2 h1)
  have hki := above_at (sortS_rises l) k i hi hk (by rw [e]; exact h2)
  have hk2 : k < (sortS l).length := by omega
  have h4 := h3 (sortS l)[k] (by rw [List.take_of_length_le (Nat.le_refl _)]; exact (sortS_mem l _).1 (List.getElem_mem hk2)) (above_next (sortS_rises l) k hk2)
  have h5 : k = i := by
    apply Classical.byContradiction
    intro hne
    have h6 : ltS (sortS l)[k] (sortS l)[i] = true := List.pairwise_iff_getElem.1 (sortS_rises l) k i hk2 hi (by omega)
    rw [e, h4] at h6
    cases h6
  subst h5
  exact ⟨hk2, by rw [List.take_succ_eq_append_getElem hk2, e]⟩
end

/-! Where a text stands among others. -/
def placeN (l : List ByteArray) (s : ByteArray) : Nat := Lib.bsGo (fun t => Op.bytesLess (l.getD t s).toList s.toList) l.length 0 l.length
def nplaceB (l : List ByteArray) (s : ByteArray) : Bool := decide (placeN l s < l.length ∧ l.getD (placeN l s) s = s)
theorem placeN_le (l : List ByteArray) (s : ByteArray) : placeN l s ≤ l.length := bsGo_le _ _ _ _ (Nat.zero_le _)
theorem place_fewer {l : List ByteArray} (s : ByteArray) (h : RiseS l) : placeN l s = fewerN l s ∧ nplaceB l s = inB l s := by
  obtain ⟨h1, h2⟩ := place_rises s h l.length rfl
  refine ⟨h1, ?_⟩
  unfold nplaceB placeN
  rw [h1]
  exact h2

end Go.Proofs.YtbajicgpjggkfaaGreat
