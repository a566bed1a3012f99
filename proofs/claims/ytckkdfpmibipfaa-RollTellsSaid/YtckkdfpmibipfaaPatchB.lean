/-
  The patches between two blocks: laid into the first they make the second; how many bytes are in any of some patches. Plain; no program is named here.
-/
import Derived.Test.YtckkdfpmibipfaaPatchA
namespace Go.Proofs.Ytckkdfpmibipfaa

/-- What is laid of patches that all have another block's bytes. -/
theorem layAll_from {L : List UInt8} (M : List UInt8) (hL : L.length = 256) (l : List Pt) (h : ∀ p ∈ l, ∀ i, p.has i = true → p.data[i - p.lo]? = M[i]?) (i : Nat) :
    (layAll L l)[i]? = if l.any (fun p => p.has i) then M[i]? else L[i]? := by
  induction l generalizing L with
  | nil => rfl
  | cons p l ih =>
    show (layAll (layP L p) l)[i]? = _
    rw [ih (layP_len p hL) (fun q hq => h q (List.mem_cons_of_mem _ hq)), layP_get p hL, List.any_cons]
    cases h1 : p.has i
    · rw [Bool.false_or]; rfl
    · rw [Bool.true_or, if_pos rfl, if_pos rfl, h p (by simp) i h1]
      split <;> rfl

/-- Where two blocks are unlike. -/
def unlike (a b : List UInt8) (i : Nat) : Bool := !(a.getD i 0 == b.getD i 0)
/-- The patches that lead from a to b. -/
def ptOf (b : List UInt8) (r : Nat × Nat) : Pt := ⟨(r.1 : Int), (b.drop r.1).take r.2⟩
def diffP (a b : List UInt8) : List Pt := (runsTo (unlike a b) 256).map (ptOf b)
theorem ptOf_len {b : List UInt8} (hb : b.length = 256) {r : Nat × Nat} (h : r.1 + r.2 ≤ 256) : (ptOf b r).data.length = r.2 := by
  simp [ptOf]; omega
theorem ptOf_right {b : List UInt8} (hb : b.length = 256) {r : Nat × Nat} (h : 1 ≤ r.2 ∧ r.1 + r.2 ≤ 256) : (ptOf b r).right = true := by
  have hl := ptOf_len hb h.2
  apply Pt.right_iff.2
  rw [hl]
  show 1 ≤ r.2 ∧ r.2 ≤ 256 ∧ (0 : Int) ≤ (r.1 : Int) ∧ (r.1 : Int) ≤ 256 - (r.2 : Int)
  omega
theorem ptOf_lo (b : List UInt8) (r : Nat × Nat) : (ptOf b r).lo = r.1 := rfl
theorem ptOf_has {b : List UInt8} (hb : b.length = 256) {r : Nat × Nat} (h : 1 ≤ r.2 ∧ r.1 + r.2 ≤ 256) (i : Nat) : (ptOf b r).has i = decide (r.1 ≤ i ∧ i < r.1 + r.2) := by
  unfold Pt.has
  rw [ptOf_right hb h, ptOf_len hb h.2, ptOf_lo, Bool.true_and]
theorem ptOf_data {b : List UInt8} {r : Nat × Nat} {i : Nat} (h1 : r.1 ≤ i) (h2 : i < r.1 + r.2) : (ptOf b r).data[i - (ptOf b r).lo]? = b[i]? := by
  rw [ptOf_lo]
  show ((b.drop r.1).take r.2)[i - r.1]? = _
  rw [List.getElem?_take_of_lt (by omega), List.getElem?_drop]
  congr 1; omega

section
variable {a b : List UInt8}
theorem diffP_right (hb : b.length = 256) : ∀ p ∈ diffP a b, p.right = true := fun p hp => by
  obtain ⟨r, hr, rfl⟩ := List.mem_map.1 hp
  exact ptOf_right hb ((runs_ok (unlike a b) 256).pos r hr)
theorem diffP_any (hb : b.length = 256) (i : Nat) : (diffP a b).any (fun p => p.has i) = (decide (i < 256) && unlike a b i) := by
  have ok := runs_ok (unlike a b) 256
  rw [Bool.eq_iff_iff, List.any_eq_true]
  simp only [Bool.and_eq_true, decide_eq_true_eq]
  constructor
  · rintro ⟨p, hp, h⟩
    obtain ⟨r, hr, rfl⟩ := List.mem_map.1 hp
    have hp := ok.pos r hr
    rw [ptOf_has hb hp] at h
    have h := of_decide_eq_true h
    exact ⟨by omega, ok.in_ r hr i h.1 h.2⟩
  · rintro ⟨h1, h2⟩
    obtain ⟨r, hr, h3⟩ := ok.all i h1 h2
    exact ⟨ptOf b r, List.mem_map.2 ⟨r, hr, rfl⟩, by rw [ptOf_has hb (ok.pos r hr)]; exact decide_eq_true h3⟩
theorem unlike_off (ha : a.length = 256) (hb : b.length = 256) {i : Nat} (h : unlike a b i = false) : a[i]? = b[i]? := by
  unfold unlike at h
  by_cases hi : i < 256
  · have h1 : a.getD i 0 = b.getD i 0 := by simpa using h
    simp only [List.getD, List.getElem?_eq_getElem (show i < a.length by omega), List.getElem?_eq_getElem (show i < b.length by omega), Option.getD_some] at h1
    rw [List.getElem?_eq_getElem (by omega), List.getElem?_eq_getElem (by omega), h1]
  · rw [List.getElem?_eq_none (by omega), List.getElem?_eq_none (by omega)]
/-- Laid into the first they make the second. -/
theorem diffP_leads (ha : a.length = 256) (hb : b.length = 256) : layAll a (diffP a b) = b := by
  apply List.ext_getElem?
  intro i
  rw [layAll_from b ha _ (fun p hp j hj => by
    obtain ⟨r, hr, rfl⟩ := List.mem_map.1 hp
    rw [ptOf_has hb ((runs_ok (unlike a b) 256).pos r hr)] at hj
    have hj := of_decide_eq_true hj
    exact ptOf_data hj.1 hj.2), diffP_any hb]
  by_cases hi : i < 256
  · rw [decide_eq_true hi, Bool.true_and]
    cases h : unlike a b i
    · exact unlike_off ha hb h
    · rfl
  · rw [decide_eq_false hi]
    show a[i]? = b[i]?
    rw [List.getElem?_eq_none (by omega), List.getElem?_eq_none (by omega)]
/-- What was there, laid behind, makes the first again. -/
theorem diffP_back (ha : a.length = 256) (hb : b.length = 256) : layAll b ((diffP a b).map (wasP a)) = a := by
  apply List.ext_getElem?
  intro i
  rw [layAll_from a hb _ (fun p hp j hj => by
    obtain ⟨q, hq, rfl⟩ := List.mem_map.1 hp
    rw [wasP_has ha] at hj
    exact wasP_get ha hj)]
  have e : ((diffP a b).map (wasP a)).any (fun p => p.has i) = (diffP a b).any (fun p => p.has i) := by
    rw [List.any_map]
    congr 1
    funext p
    exact wasP_has ha i
  rw [e, diffP_any hb]
  by_cases hi : i < 256
  · rw [decide_eq_true hi, Bool.true_and]
    cases h : unlike a b i
    · exact (unlike_off ha hb h).symm
    · rfl
  · rw [decide_eq_false hi]
    show b[i]? = a[i]?
    rw [List.getElem?_eq_none (by omega), List.getElem?_eq_none (by omega)]
/-- There is none just if both are the same. -/
theorem diffP_nil (ha : a.length = 256) (hb : b.length = 256) : diffP a b = [] ↔ a = b := by
  constructor
  · intro h
    have h1 := diffP_leads ha hb
    rw [h] at h1
    exact h1
  · intro h
    subst h
    cases hd : diffP a a with
    | nil => rfl
    | cons p l =>
      have h1 := diffP_any (a := a) hb p.lo
      have hr := diffP_right (a := a) hb p (by rw [hd]; simp)
      rw [hd, List.any_cons] at h1
      have h2 : p.has p.lo = true := Pt.has_iff.2 ⟨hr, Nat.le_refl _, by have := Pt.right_iff.1 hr; omega⟩
      rw [h2] at h1
      have h3 : unlike a a p.lo = false := by unfold unlike; simp
      rw [h3] at h1
      simp at h1
end

/-- How many of the first K are so. -/
def cntB (f : Nat → Bool) : Nat → Nat
  | 0 => 0
  | K + 1 => cntB f K + (f K).toNat
theorem cntB_max (f : Nat → Bool) (K : Nat) : cntB f K ≤ K := by
  induction K with
  | zero => exact Nat.le_refl _
  | succ K ih => unfold cntB; have := Bool.toNat_le (f K); omega
theorem cntB_congr {f g : Nat → Bool} {K : Nat} (h : ∀ i, i < K → f i = g i) : cntB f K = cntB g K := by
  induction K with
  | zero => rfl
  | succ K ih => unfold cntB; rw [ih (fun i hi => h i (by omega)), h K (by omega)]
theorem cntB_or (f g : Nat → Bool) (K : Nat) (h : ∀ i, i < K → f i = true → g i = false) : cntB (fun i => f i || g i) K = cntB f K + cntB g K := by
  induction K with
  | zero => rfl
  | succ K ih =>
    have h1 := ih (fun i hi => h i (by omega))
    have h2 := h K (by omega)
    show cntB (fun i => f i || g i) K + (f K || g K).toNat = cntB f K + (f K).toNat + (cntB g K + (g K).toNat)
    rw [h1]
    cases hf : f K
    · rw [Bool.false_or]; simp; omega
    · rw [h2 hf]; simp; omega
theorem cntB_span (s n K : Nat) (h : s + n ≤ K) : cntB (fun i => decide (s ≤ i ∧ i < s + n)) K = n := by
  have key : ∀ K, cntB (fun i => decide (s ≤ i ∧ i < s + n)) K = min (K - s) n := fun K => by
    induction K with
    | zero => simp [cntB]
    | succ K ih =>
      unfold cntB
      rw [ih]
      by_cases hk : s ≤ K ∧ K < s + n
      · rw [decide_eq_true hk]; show _ + 1 = _; omega
      · rw [decide_eq_false hk]; show _ + 0 = _; omega
  rw [key]; omega
/-- How many bytes are in any of them. -/
def bytesP (l : List Pt) : Nat := cntB (fun i => l.any (fun p => p.has i)) 256
/-- Of patches that rise and are apart: as many as all of theirs. -/
theorem bytesP_runs {b : List UInt8} (hb : b.length = 256) (l : List (Nat × Nat)) (hp : ∀ r ∈ l, 1 ≤ r.2 ∧ r.1 + r.2 ≤ 256) (hr : List.Pairwise (fun r s => r.1 + r.2 < s.1) l) :
    bytesP (l.map (ptOf b)) = (l.map (·.2)).sum := by
  induction l with
  | nil =>
    show cntB _ 256 = 0
    have key : ∀ K, cntB (fun i => ([] : List Pt).any fun p => p.has i) K = 0 := fun K => by
      induction K with
      | zero => rfl
      | succ K ih => unfold cntB; rw [ih]; rfl
    exact key 256
  | cons r l ih =>
    rw [List.pairwise_cons] at hr
    have h1 := ih (fun s hs => hp s (List.mem_cons_of_mem _ hs)) hr.2
    have hpr := hp r (by simp)
    unfold bytesP at h1 ⊢
    simp only [List.map_cons, List.any_cons, List.sum_cons]
    have h2 : cntB (fun i => (ptOf b r).has i) 256 = r.2 := by
      rw [cntB_congr (g := fun i => decide (r.1 ≤ i ∧ i < r.1 + r.2)) (fun i _ => ptOf_has hb hpr i)]
      exact cntB_span _ _ _ hpr.2
    rw [cntB_or, h1, h2]
    · intro i _ hi
      rw [ptOf_has hb hpr] at hi
      have hi := of_decide_eq_true hi
      rw [Bool.eq_false_iff]
      intro h
      rw [List.any_eq_true] at h
      obtain ⟨p, hpm, hpi⟩ := h
      obtain ⟨s, hs, rfl⟩ := List.mem_map.1 hpm
      rw [ptOf_has hb (hp s (List.mem_cons_of_mem _ hs))] at hpi
      have hpi := of_decide_eq_true hpi
      have := hr.1 s hs
      omega

end Go.Proofs.Ytckkdfpmibipfaa
