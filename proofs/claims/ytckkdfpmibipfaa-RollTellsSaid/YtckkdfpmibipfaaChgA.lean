/-
  Changes as rows of five cells: how they read, from whatever list they are. Plain; no program is named here.
-/
import Derived.Test.YtckkdfpmibipfaaOpenC
import Derived.Test.YtckkdfpmibipfaaOwnL
namespace Go.Proofs.Ytckkdfpmibipfaa
open Go.RowKit

theorem RB.same {w w' : World} {A : Option Addr} {l : List UInt8} (h : RB w A l) (hs : 0 < l.length → ∀ ad, A = some ad → w'.heap[ad.block]? = w.heap[ad.block]?) : RB w' A l := fun k hk => by
  obtain ⟨ad, e, hc⟩ := h k hk
  refine ⟨ad, e, ?_⟩
  rw [World.cell?_of_block (w := w) (w' := w') (a := ad.add k) (by rw [block_of_add]; exact hs (by omega) ad e)]
  exact hc
theorem RC.same {w w' : World} {A : Option Addr} {l : List Value} (h : RC w A l) (hs : 0 < l.length → ∀ ad, A = some ad → w'.heap[ad.block]? = w.heap[ad.block]?) : RC w' A l := fun k hk => by
  obtain ⟨ad, e, hc⟩ := h k hk
  refine ⟨ad, e, ?_⟩
  rw [World.cell?_of_block (w := w) (w' := w') (a := ad.add k) (by rw [block_of_add]; exact hs (by omega) ad e)]
  exact hc
theorem leads_slice (ad : Addr) (n c : Nat) : leads (.slice (some ad) n c) = if n = 0 then none else some ad.block := rfl
/-- A change as a row. -/
def RdC : Rds Cg where
  R := fun w r c => ∃ v0 v1 v2 v3 v4, r = [v0, v1, v2, v3, v4] ∧ RCg w v0 v1 v2 v3 v4 c
  stable := by
    rintro w w' r c ⟨v0, v1, v2, v3, v4, rfl, h⟩ hs
    obtain ⟨A, m, e4, q1, q2, hr4⟩ := h.needs
    obtain ⟨A3, m3, e3, q3, q4, hr3⟩ := h.p.bytes
    refine ⟨v0, v1, v2, v3, v4, rfl, h.e0, h.e1, h.lo0, h.hi0, h.lo1, h.hi1, ⟨h.p.num, h.p.lo, h.p.hi, A3, m3, e3, q3, q4, ?_⟩, ⟨A, m, e4, q1, q2, ?_⟩, h.nb⟩
    · refine RB.same hr3 fun hl ad ha => hs ad.block (mem_blocksOf.2 ⟨v3, by simp, ?_⟩)
      subst ha
      rw [e3, leads_slice, if_neg (by omega)]
    · refine RC.same hr4 fun hl ad ha => hs ad.block (mem_blocksOf.2 ⟨v4, by simp, ?_⟩)
      subst ha
      rw [ivals_len] at hl
      rw [e4, leads_slice, if_neg (by omega)]
  there := by
    rintro w r c ⟨v0, v1, v2, v3, v4, rfl, h⟩ g hg
    obtain ⟨v, hv, hl⟩ := mem_blocksOf.1 hg
    obtain ⟨A, m, e4, q1, q2, hr4⟩ := h.needs
    obtain ⟨A3, m3, e3, q3, q4, hr3⟩ := h.p.bytes
    simp only [List.mem_cons, List.mem_nil_iff, or_false] at hv
    rcases hv with rfl | rfl | rfl | rfl | rfl
    · rw [h.e0] at hl; cases hl
    · rw [h.e1] at hl; cases hl
    · rw [h.p.num] at hl; cases hl
    · rw [e3] at hl
      cases A3 with
      | none => cases hl
      | some ad =>
        rw [leads_slice] at hl
        by_cases hz : c.p.data.length = 0
        · rw [if_pos hz] at hl; cases hl
        · rw [if_neg hz] at hl
          injection hl with hl
          subst hl
          obtain ⟨ad', e', hc⟩ := hr3 0 (by omega)
          injection e' with e'
          subst e'
          have := block_lt_of_cell hc
          rwa [block_of_add] at this
    · rw [e4] at hl
      cases A with
      | none => cases hl
      | some ad =>
        rw [leads_slice] at hl
        by_cases hz : c.needs.length = 0
        · rw [if_pos hz] at hl; cases hl
        · rw [if_neg hz] at hl
          injection hl with hl
          subst hl
          obtain ⟨ad', e', hc⟩ := hr4 0 (by rw [ivals_len]; omega)
          injection e' with e'
          subst e'
          have := block_lt_of_cell hc
          rwa [block_of_add] at this
/-- Changes that came in, as rows. -/
theorem RCL.rd {w : World} {A : Option Addr} {l : List Cg} (h : RCL w A l) : RdL RdC w A 5 l := by
  have hall : ∀ k, k < l.length → ∃ r : List Value, ∃ v0 v1 v2 v3 v4, r = [v0, v1, v2, v3, v4] ∧ (∀ hk : k < l.length, RCg w v0 v1 v2 v3 v4 l[k]) ∧ ∃ ad, A = some ad ∧ ∀ i v, r[i]? = some v → w.cell? (ad.add (k * 5 + i)) = some v := fun k hk => by
    obtain ⟨ad, v0, v1, v2, v3, v4, e, h0, h1, h2, h3, h4, hr⟩ := h k hk
    refine ⟨_, v0, v1, v2, v3, v4, rfl, fun _ => hr, ad, e, fun i v hi => ?_⟩
    match i, hi with
    | 0, hi => simp at hi; subst hi; exact h0
    | 1, hi => simp at hi; subst hi; exact h1
    | 2, hi => simp at hi; subst hi; exact h2
    | 3, hi => simp at hi; subst hi; exact h3
    | 4, hi => simp at hi; subst hi; exact h4
  obtain ⟨F, hF⟩ := Go.Deep.choose_lt (α := List Value) (p := fun k r => ∃ v0 v1 v2 v3 v4, r = [v0, v1, v2, v3, v4] ∧ (∀ hk : k < l.length, RCg w v0 v1 v2 v3 v4 l[k]) ∧ ∃ ad, A = some ad ∧ ∀ i v, r[i]? = some v → w.cell? (ad.add (k * 5 + i)) = some v) hall
  refine ⟨(List.range l.length).map F, fun r hr => ?_, fun k hk i hi => ?_, by simp, fun k hk hk' => ?_⟩
  · obtain ⟨k, hk, rfl⟩ := List.mem_map.1 hr
    obtain ⟨v0, v1, v2, v3, v4, e, _⟩ := hF k (by simpa using hk)
    rw [e]
    rfl
  · have hk' : k < l.length := by simpa using hk
    obtain ⟨v0, v1, v2, v3, v4, e, _, ad, ea, hc⟩ := hF k hk'
    have hl : i < (F k).length := by rw [e]; exact hi
    exact ⟨ad, (F k)[i], ea, by simp [List.getElem?_eq_getElem hl], hc i _ (List.getElem?_eq_getElem hl)⟩
  · obtain ⟨v0, v1, v2, v3, v4, e, hr, _⟩ := hF k hk'
    exact ⟨v0, v1, v2, v3, v4, by simpa using e, hr hk'⟩
/-- The change at a place: its cells, where the walk looks for them. -/
theorem RdL.change {w : World} {A : Option Addr} {l : List Cg} (h : RdL RdC w A 5 l) {k : Nat} (hk : k < l.length) :
    ∃ ad v0 v1 v2 v3 v4, A = some ad ∧ RCg w v0 v1 v2 v3 v4 l[k] ∧ w.cell? (ad.add (k * 5)) = some v0 ∧ w.cell? ((ad.add (k * 5)).add 1) = some v1 ∧ w.cell? ((ad.add (k * 5)).add 2) = some v2 ∧ w.cell? ((ad.add (k * 5)).add 3) = some v3 ∧ w.cell? ((ad.add (k * 5)).add 4) = some v4 := by
  obtain ⟨ad, r, e, _, ⟨v0, v1, v2, v3, v4, rfl, hr⟩, hc⟩ := h.at_ hk (by decide)
  have h0 := hc 0 v0 rfl
  rw [add_of_add, Nat.add_zero] at h0
  exact ⟨ad, v0, v1, v2, v3, v4, e, hr, h0, hc 1 v1 rfl, hc 2 v2 rfl, hc 3 v3 rfl, hc 4 v4 rfl⟩

end Go.Proofs.Ytckkdfpmibipfaa
