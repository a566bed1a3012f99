/-
  Blocks that are merged two by two. Plain; no program is named here.
-/
import Derived.Test.YtjceaaononbliaaSortA
namespace Go.Proofs.Ytjceaaononbliaa

section
variable {T : Nat → Nat → Prop}
theorem Merged.below {f f' : Nat → Nat} {a b n : Nat} (h : Merged T f f' a b) (hb : b ≤ n) (hv : ∀ k, k < n → f k < n) : ∀ k, k < n → f' k < n := fun k hk => by
  by_cases hk2 : a ≤ k ∧ k < b
  · obtain ⟨j, _, j2, e⟩ := h.into k hk2.1 hk2.2
    rw [e]; exact hv j (by omega)
  · rw [h.out k (by omega)]; exact hv k hk
theorem Merged.none (f : Nat → Nat) {a b : Nat} (h : b ≤ a + 1) : Merged T f f a b := ⟨Srt.none h, Into.refl _ _ _, Out.refl _ _ _⟩
/-- One more has been put into its place. -/
theorem Merged.more {f f1 f2 : Nat → Nat} {a i : Nat} (h1 : Merged T f f1 a i) (h2 : Merged T f1 f2 a (i + 1)) : Merged T f f2 a (i + 1) :=
  ⟨h2.srt, (h1.into.wide h1.out (Nat.le_refl _) (by omega)).trans h2.into, (h1.out.wide (Nat.le_refl _) (by omega)).trans h2.out⟩
/-- The next one beside what has been put in order. -/
theorem Merged.next {f f1 : Nat → Nat} {a i b : Nat} (h : Merged T f f1 a i) (_hi : a ≤ i) (hb : i < b) (hl : ∀ p q, a ≤ p → p < q → q < b → f p < f q) : Two T f1 a i (i + 1) :=
  ⟨h.srt, Srt.none (Nat.le_refl _), fun p q p1 p2 q1 q2 => by
    obtain ⟨j, j1, j2, e⟩ := h.into p p1 p2
    rw [e, h.out q (by omega)]
    exact hl j q j1 (by omega) (by omega)⟩

/-- From s to e all is in order, and nothing from elsewhere. -/
structure Blo (T : Nat → Nat → Prop) (f : Nat → Nat) (s e : Nat) : Prop where
  srt : Srt T f s e
  in_ : ∀ k, s ≤ k → k < e → s ≤ f k ∧ f k < e
theorem Blo.congr {f g : Nat → Nat} {s e : Nat} (h : Blo T f s e) (hg : ∀ k, s ≤ k → k < e → g k = f k) : Blo T g s e :=
  ⟨h.srt.congr hg, fun k k1 k2 => by rw [hg k k1 k2]; exact h.in_ k k1 k2⟩
theorem Blo.of {f f' : Nat → Nat} {s e : Nat} (h : Merged T f f' s e) (hf : ∀ k, s ≤ k → k < e → s ≤ f k ∧ f k < e) : Blo T f' s e :=
  ⟨h.srt, fun k k1 k2 => by obtain ⟨j, j1, j2, e⟩ := h.into k k1 k2; rw [e]; exact hf j j1 j2⟩
theorem Blo.two {f : Nat → Nat} {a m b : Nat} (h1 : Blo T f a m) (h2 : Blo T f m b) : Two T f a m b :=
  ⟨h1.srt, h2.srt, fun p q p1 p2 q1 q2 => by have := h1.in_ p p1 p2; have := h2.in_ q q1 q2; omega⟩
theorem Blo.both {f : Nat → Nat} {a m b : Nat} (h1 : Blo T f a m) (h2 : Blo T f m b) (h3 : a ≤ m) (h4 : m ≤ b) : ∀ k, a ≤ k → k < b → a ≤ f k ∧ f k < b := fun k k1 k2 => by
  by_cases hk : k < m
  · have := h1.in_ k k1 hk; omega
  · have := h2.in_ k (by omega) k2; omega

theorem dvd_gap {d s a : Nat} (h1 : d ∣ s) (h2 : d ∣ a) (h : s < a) : s + d ≤ a := by
  have := Nat.le_of_dvd (by omega) (Nat.dvd_sub h2 h1)
  omega

/-- The first blocks are in order, and the rest is as it was. -/
structure InsI (T : Nat → Nat → Prop) (f : Nat → Nat) (a : Nat) : Prop where
  done : ∀ s, 20 ∣ s → s < a → Blo T f s (s + 20)
  rest : ∀ k, a ≤ k → f k = k
/-- Each block is in order. -/
def Done (T : Nat → Nat → Prop) (f : Nat → Nat) (n d : Nat) : Prop := ∀ s, d ∣ s → s < n → Blo T f s (min (s + d) n)
theorem InsI.step {f f' : Nat → Nat} {a : Nat} (h : InsI T f a) (ha : 20 ∣ a) (hm : Merged T f f' a (a + 20)) : InsI T f' (a + 20) :=
  ⟨fun s hs hsa => by
    by_cases hsa' : s < a
    · have := dvd_gap hs ha hsa'
      exact (h.done s hs hsa').congr fun k k1 k2 => hm.out k (by omega)
    · have : s = a := by
        rcases Nat.lt_or_eq_of_le (Nat.not_lt.1 hsa') with h1 | h1
        · have := dvd_gap ha hs h1; omega
        · exact h1.symm
      subst this
      exact Blo.of hm fun k k1 k2 => by rw [h.rest k k1]; omega,
   fun k hk => by rw [hm.out k (by omega)]; exact h.rest k (by omega)⟩
theorem InsI.end_ {f f' : Nat → Nat} {a n : Nat} (h : InsI T f a) (ha : 20 ∣ a) (han : a ≤ n) (hn : n < a + 20) (hm : Merged T f f' a n) : Done T f' n 20 := fun s hs hsn => by
  by_cases hsa' : s < a
  · have := dvd_gap hs ha hsa'
    rw [show min (s + 20) n = s + 20 by omega]
    exact (h.done s hs hsa').congr fun k k1 k2 => hm.out k (by omega)
  · have : s = a := by
      rcases Nat.lt_or_eq_of_le (Nat.not_lt.1 hsa') with h1 | h1
      · have := dvd_gap ha hs h1; omega
      · exact h1.symm
    subst this
    rw [show min (s + 20) n = n by omega]
    exact Blo.of hm fun k k1 k2 => by rw [h.rest k k1]; omega

/-- The first blocks are merged two by two, the rest is not. -/
structure MrgI (T : Nat → Nat → Prop) (f : Nat → Nat) (n d a : Nat) : Prop where
  done : ∀ s, 2 * d ∣ s → s < a → Blo T f s (s + 2 * d)
  rest : ∀ s, d ∣ s → a ≤ s → s < n → Blo T f s (min (s + d) n)
theorem MrgI.start {f : Nat → Nat} {n d : Nat} (h : Done T f n d) : MrgI T f n d 0 := ⟨fun s _ h => by omega, fun s hs _ hn => h s hs hn⟩
theorem dvd_half {d a : Nat} (h : 2 * d ∣ a) : d ∣ a := Nat.dvd_trans (Nat.dvd_mul_left d 2) h
theorem MrgI.pair {f : Nat → Nat} {n d a : Nat} (h : MrgI T f n d a) (hd : 0 < d) (ha : 2 * d ∣ a) (hn : a + d < n) : Blo T f a (a + d) ∧ Blo T f (a + d) (min (a + 2 * d) n) := by
  have h1 := h.rest a (dvd_half ha) (Nat.le_refl _) (by omega)
  have h2 := h.rest (a + d) (Nat.dvd_add (dvd_half ha) (Nat.dvd_refl d)) (by omega) hn
  rw [show min (a + d) n = a + d by omega] at h1
  rw [show min (a + d + d) n = min (a + 2 * d) n by omega] at h2
  exact ⟨h1, h2⟩
theorem MrgI.step {f f' : Nat → Nat} {n d a : Nat} (h : MrgI T f n d a) (hd : 0 < d) (ha : 2 * d ∣ a) (hn : a + 2 * d ≤ n) (hm : Merged T f f' a (a + 2 * d)) : MrgI T f' n d (a + 2 * d) := by
  obtain ⟨p1, p2⟩ := h.pair hd ha (by omega)
  rw [show min (a + 2 * d) n = a + 2 * d by omega] at p2
  refine ⟨fun s hs hsa => ?_, fun s hs hsa hsn => (h.rest s hs (by omega) hsn).congr fun k k1 k2 => hm.out k (by omega)⟩
  by_cases hsa' : s < a
  · have := dvd_gap hs ha hsa'
    exact (h.done s hs hsa').congr fun k k1 k2 => hm.out k (by omega)
  · have : s = a := by
      rcases Nat.lt_or_eq_of_le (Nat.not_lt.1 hsa') with h1 | h1
      · have := dvd_gap ha hs h1; omega
      · exact h1.symm
    subst this
    exact Blo.of hm (Blo.both p1 p2 (by omega) (by omega))
theorem MrgI.end_ {f f' : Nat → Nat} {n d a : Nat} (h : MrgI T f n d a) (hd : 0 < d) (ha : 2 * d ∣ a) (han : a ≤ n) (hn : n < a + 2 * d) (hm : (a + d < n ∧ Merged T f f' a n) ∨ (n ≤ a + d ∧ f' = f)) : Done T f' n (2 * d) := fun s hs hsn => by
  have ho : ∀ k, k < a → f' k = f k := fun k hk => by
    rcases hm with ⟨_, hm⟩ | ⟨_, hm⟩
    · exact hm.out k (Or.inl hk)
    · rw [hm]
  by_cases hsa' : s < a
  · have hg := dvd_gap hs ha hsa'
    have hb := (h.done s hs hsa').congr fun k k1 k2 => ho k (by omega)
    rw [show min (s + 2 * d) n = s + 2 * d by omega]
    exact hb
  · have : s = a := by
      rcases Nat.lt_or_eq_of_le (Nat.not_lt.1 hsa') with h1 | h1
      · have := dvd_gap ha hs h1; omega
      · exact h1.symm
    subst this
    rw [show min (s + 2 * d) n = n by omega]
    rcases hm with ⟨h1, hm⟩ | ⟨h1, hm⟩
    · obtain ⟨p1, p2⟩ := h.pair hd ha h1
      rw [show min (s + 2 * d) n = n by omega] at p2
      exact Blo.of hm (Blo.both p1 p2 (by omega) (by omega))
    · rw [hm]
      have h2 := h.rest s (dvd_half ha) (Nat.le_refl _) hsn
      rw [show min (s + d) n = n by omega] at h2
      exact h2
end

end Go.Proofs.Ytjceaaononbliaa
