/-
  The program's: end (a block's changes that were written are left no more; who waited for them waits for fewer).
-/
import Derived.Test.YtknbjdldmednlaaGreatCa10
import Derived.Deep.LoopGhost
namespace Go.Proofs.YtknbjdldmednlaaGreat
open Go.RowKit

/-- For how many of these one waits, some of the last one's met. -/
def mcN (ids : List Int) (dep : Int → Int → Bool) (L : List Int) (p k : Nat) (j : Int) : Nat := mN dep (L.take p) j + (if j ∈ kPart ids dep L p k then 1 else 0)
section
variable {ids : List Int} {dep : Int → Int → Bool} {L : List Int} {p k : Nat}
theorem mcN_zero (j : Int) : mcN ids dep L 0 0 j = 0 := by
  unfold mcN
  rw [kPart_zero, if_neg (by simp)]
  rfl
theorem mcN_next (hp : p < L.length) {i : Int} (he : L[p] = i) (hk : k = (bN ids dep i).length) {j : Int} (hj : j ∈ ids) : mcN ids dep L (p + 1) 0 j = mcN ids dep L p k j := by
  subst he
  unfold mcN
  rw [take_snoc hp, mN_snoc, kPart_zero, kPart_at hp, hk, List.take_length, if_neg (c := j ∈ []) (by simp)]
  by_cases hd : dep L[p] j = true
  · rw [if_pos (bN_mem.2 ⟨hj, hd⟩), if_pos hd]
  · rw [if_neg (fun hh => hd (bN_mem.1 hh).2), if_neg hd]
theorem mcN_step (hi : ids.Nodup) (hp : p < L.length) {i : Int} (he : L[p] = i) (hk : k < (bN ids dep i).length) {j : Int} (hj : (bN ids dep i)[k] = j) (x : Int) : mcN ids dep L p (k + 1) x = mcN ids dep L p k x + (if x = j then 1 else 0) := by
  subst he; subst hj
  have hno := nodup_take_not (bN_nodup (dep := dep) hi L[p]) hk
  unfold mcN
  rw [kPart_at hp, kPart_at hp, take_snoc hk]
  by_cases hx : x = (bN ids dep L[p])[k]
  · rw [if_pos hx, hx, if_neg hno, if_pos (List.mem_append.2 (Or.inr (List.mem_singleton.2 rfl)))]
  · rw [if_neg hx]
    by_cases h1 : x ∈ (bN ids dep L[p]).take k
    · rw [if_pos h1, if_pos (List.mem_append.2 (Or.inl h1))]
    · rw [if_neg h1, if_neg (fun h => (List.mem_append.1 h).elim h1 fun h => hx (List.mem_singleton.1 h))]
theorem mcN_low (hi : ids.Nodup) (hn : L.Nodup) (hs : ∀ x ∈ L, x ∈ ids) (hp : p < L.length) {i : Int} (he : L[p] = i) (hk : k < (bN ids dep i).length) {j : Int} (hj : (bN ids dep i)[k] = j) : mcN ids dep L p k j < wN ids dep j := by
  subst he; subst hj
  have hno := nodup_take_not (bN_nodup (dep := dep) hi L[p]) hk
  have hm := bN_mem.1 (List.getElem_mem hk)
  have h2 := mN_le (ids := ids) (dep := dep) (nodup_take hn (p + 1)) (fun x hx => hs x (List.mem_of_mem_take hx)) (bN ids dep L[p])[k]
  rw [take_snoc hp, mN_snoc, if_pos hm.2] at h2
  unfold mcN
  rw [kPart_at hp, if_neg hno]
  omega
theorem mcN_end (hp : L.length ≤ p) (j : Int) : mcN ids dep L p k j = mN dep L j := by
  unfold mcN
  have e : kPart ids dep L p k = [] := by unfold kPart; rw [List.getElem?_eq_none hp]
  rw [e, if_neg (by simp), List.take_of_length_le hp]
  rfl
end
/-- Some are done, some of the last one's waiters are told. -/
structure EI (S : CS) (ids : List Int) (dep : Int → Int → Bool) (L : List Int) (p k : Nat) (Wt : Int → Int) (Fr : Int → List Int) : Prop where
  w : ∀ j ∈ ids, Wt j = (wN ids dep j : Int) - (mcN ids dep L p k j : Int)
  f : ∀ c, S.kn c = true → (Fr c).Nodup ∧ ∀ j, j ∈ Fr c ↔ j ∈ ids ∧ (S.cg j).block = c ∧ Wt j = 0
section
variable {S : CS} {ids : List Int} {dep : Int → Int → Bool} {L : List Int} {p k : Nat} {Wt : Int → Int} {Fr : Int → List Int}
theorem EI.start (h : Gr S ids dep) : EI S ids dep L 0 0 S.waits S.free where
  w j hj := by rw [h.waits j hj, mcN_zero]; simp
  f c hc := by
    obtain ⟨h1, h2⟩ := h.fre c hc
    refine ⟨h1, fun j => ?_⟩
    rw [h2]
    constructor
    · rintro ⟨a, b, c⟩; exact ⟨a, b, by rw [h.waits j a, c]; rfl⟩
    · rintro ⟨a, b, c⟩; exact ⟨a, b, by rw [h.waits j a] at c; omega⟩
theorem EI.next (h : EI S ids dep L p k Wt Fr) (hp : p < L.length) {i : Int} (he : L[p] = i) (hk : k = (bN ids dep i).length) : EI S ids dep L (p + 1) 0 Wt Fr where
  w j hj := by rw [mcN_next hp he hk hj]; exact h.w j hj
  f := h.f
theorem EI.zero (h : EI S ids dep L p k Wt Fr) (hi : ids.Nodup) (hp : p < L.length) {i : Int} (he : L[p] = i) (hk : k < (bN ids dep i).length) {j : Int} (hj : (bN ids dep i)[k] = j) (hw : Wt j - 1 = 0) (hkn : S.kn (S.cg j).block = true) :
    EI S ids dep L p (k + 1) (updF Wt j 0) (updF Fr (S.cg j).block (Fr (S.cg j).block ++ [j])) := by
  have hjm := (bN_mem.1 (show j ∈ bN ids dep i from hj ▸ List.getElem_mem hk)).1
  have hnot : j ∉ Fr (S.cg j).block := fun hh => by have := (((h.f _ hkn).2 j).1 hh).2.2; omega
  refine ⟨fun x hx => ?_, fun c hc => ?_⟩
  · have h1 := h.w x hx
    rw [mcN_step hi hp he hk hj]
    by_cases e : x = j
    · subst e
      rw [updF_same, if_pos rfl]; omega
    · rw [updF_other _ _ e, if_neg e]; omega
  · by_cases ec : c = (S.cg j).block
    · subst ec
      rw [updF_same]
      obtain ⟨h1, h2⟩ := h.f _ hc
      refine ⟨List.nodup_append.2 ⟨h1, by simp, fun a ha b hb e => ?_⟩, fun x => ?_⟩
      · rw [List.mem_singleton] at hb; subst hb; subst e; exact hnot ha
      · rw [List.mem_append, List.mem_singleton, h2]
        by_cases e : x = j
        · subst e
          rw [updF_same]
          exact ⟨fun _ => ⟨hjm, rfl, rfl⟩, fun _ => Or.inr rfl⟩
        · rw [updF_other _ _ e]
          simp [e]
    · rw [updF_other _ _ ec]
      obtain ⟨h1, h2⟩ := h.f _ hc
      refine ⟨h1, fun x => ?_⟩
      rw [h2]
      by_cases e : x = j
      · subst e
        constructor
        · rintro ⟨_, hh, _⟩; exact absurd hh.symm ec
        · rintro ⟨_, hh, _⟩; exact absurd hh.symm ec
      · rw [updF_other _ _ e]
theorem EI.step (h : EI S ids dep L p k Wt Fr) (hi : ids.Nodup) (hp : p < L.length) {i : Int} (he : L[p] = i) (hk : k < (bN ids dep i).length) {j : Int} (hj : (bN ids dep i)[k] = j) {x : Int} (hx : Wt j - 1 = x) (hw : x ≠ 0) (hw2 : 1 ≤ Wt j) :
    EI S ids dep L p (k + 1) (updF Wt j x) Fr := by
  refine ⟨fun y hy => ?_, fun c hc => ?_⟩
  · have h1 := h.w y hy
    rw [mcN_step hi hp he hk hj]
    by_cases e : y = j
    · subst e
      rw [updF_same, if_pos rfl]; omega
    · rw [updF_other _ _ e, if_neg e]; omega
  · obtain ⟨h1, h2⟩ := h.f _ hc
    refine ⟨h1, fun y => ?_⟩
    rw [h2]
    by_cases e : y = j
    · subst e
      rw [updF_same]
      constructor
      · rintro ⟨_, _, hh⟩; omega
      · rintro ⟨_, _, hh⟩; exact absurd hh hw
    · rw [updF_other _ _ e]
end
/-- Without those that are done. -/
def lfT (f : Int → Bool) (l : List Int) : Int → Bool := fun i => f i && !l.contains i
theorem lfT_nil (f : Int → Bool) : lfT f [] = f := by funext i; unfold lfT; simp
theorem lfT_step (f : Int → Bool) {l : List Int} {p : Nat} (hp : p < l.length) {i : Int} (hi : l[p] = i) : updF (lfT f (l.take p)) i false = lfT f (l.take (p + 1)) := by
  subst hi
  funext j
  rw [take_snoc hp]
  unfold updF lfT
  by_cases e : j = l[p]
  · rw [if_pos e, e, List.contains_iff_mem.2 (List.mem_append.2 (Or.inr (List.mem_singleton.2 rfl)))]
    simp
  · rw [if_neg e]
    have h : (l.take p ++ [l[p]]).contains j = (l.take p).contains j := by
      rw [Bool.eq_iff_iff, List.contains_iff_mem, List.contains_iff_mem, List.mem_append, List.mem_singleton]
      exact ⟨fun h => h.resolve_right e, Or.inl⟩
    rw [h]

end Go.Proofs.YtknbjdldmednlaaGreat
