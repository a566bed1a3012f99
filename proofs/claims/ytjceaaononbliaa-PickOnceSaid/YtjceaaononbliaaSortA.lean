/-
  Numbers by their places: exchanges, turns of two blocks, merging in order. Plain; no program is named here.
-/
namespace Go.Proofs.Ytjceaaononbliaa

/-- Another number in one place. -/
def upd (f : Nat → Nat) (k x : Nat) : Nat → Nat := fun i => if i = k then x else f i
/-- Two places exchanged. -/
def swp (f : Nat → Nat) (i j : Nat) : Nat → Nat := fun k => if k = j then f i else if k = i then f j else f k
theorem swp_upd (f : Nat → Nat) (i j : Nat) : upd (upd f i (f j)) j (f i) = swp f i j := by funext k; unfold upd swp; rfl
/-- Two blocks of m exchanged. -/
def swpR (f : Nat → Nat) (a b m : Nat) : Nat → Nat := fun k => if a ≤ k ∧ k < a + m then f (k + b - a) else if b ≤ k ∧ k < b + m then f (k + a - b) else f k
theorem swpR_zero (f : Nat → Nat) (a b : Nat) : swpR f a b 0 = f := by
  funext k; unfold swpR; rw [if_neg (by omega), if_neg (by omega)]
theorem swpR_next (f : Nat → Nat) (a b m : Nat) (h : a + m < b) : swp (swpR f a b m) (a + m) (b + m) = swpR f a b (m + 1) := by
  have e1 : swpR f a b m (a + m) = f (a + m) := by unfold swpR; rw [if_neg (by omega), if_neg (by omega)]
  have e2 : swpR f a b m (b + m) = f (b + m) := by unfold swpR; rw [if_neg (by omega), if_neg (by omega)]
  funext k
  unfold swp
  rw [e1, e2]
  unfold swpR
  by_cases h1 : k = b + m
  · rw [if_pos h1, if_neg (by omega), if_pos (by omega)]; congr 1; omega
  · rw [if_neg h1]
    by_cases h2 : k = a + m
    · rw [if_pos h2, if_pos (by omega)]; congr 1; omega
    · rw [if_neg h2]
      by_cases h3 : a ≤ k ∧ k < a + m
      · rw [if_pos h3, if_pos (by omega)]
      · rw [if_neg h3, if_neg (show ¬ (a ≤ k ∧ k < a + (m + 1)) by omega)]
        by_cases h4 : b ≤ k ∧ k < b + m
        · rw [if_pos h4, if_pos (by omega)]
        · rw [if_neg h4, if_neg (by omega)]
/-- The blocks from a to m and from m to b, turned. -/
def rot (f : Nat → Nat) (a m b : Nat) : Nat → Nat := fun k => if k < a then f k else if k < a + (b - m) then f (k + m - a) else if k < b then f (k + m - b) else f k
theorem rot_none (f : Nat → Nat) (a m b : Nat) (h : m ≤ a ∨ b ≤ m) (h1 : a ≤ m) (h2 : m ≤ b) : rot f a m b = f := by
  funext k
  unfold rot
  (repeat' split) <;> first | rfl | (exfalso; omega) | (refine congrArg f ?_; omega)
/-- The first block is the greater. -/
theorem rot_left (f : Nat → Nat) (m i j : Nat) (hi : i ≤ m) (h : j < i) : rot (swpR f (m - i) m j) (m - i + j) m (m + j) = rot f (m - i) m (m + j) := by
  funext k
  unfold rot swpR
  (repeat' split) <;> first | rfl | (exfalso; omega) | (refine congrArg f ?_; omega)
/-- The second block is the greater. -/
theorem rot_right (f : Nat → Nat) (m i j : Nat) (hi : i ≤ m) (h : i < j) : rot (swpR f (m - i) (m + j - i) i) (m - i) m (m + j - i) = rot f (m - i) m (m + j) := by
  funext k
  unfold rot swpR
  (repeat' split) <;> first | rfl | (exfalso; omega) | (refine congrArg f ?_; omega)
/-- Both are as great. -/
theorem rot_same (f : Nat → Nat) (m i : Nat) (hi : i ≤ m) : swpR f (m - i) m i = rot f (m - i) m (m + i) := by
  funext k
  unfold rot swpR
  (repeat' split) <;> first | rfl | (exfalso; omega) | (refine congrArg f ?_; omega)
section
variable (T : Nat → Nat → Prop)
/-- From a to b they rise. -/
def Srt (f : Nat → Nat) (a b : Nat) : Prop := ∀ p q, a ≤ p → p < q → q < b → T (f p) (f q)
end
/-- From a to b nothing has come that was not there. -/
def Into (f f' : Nat → Nat) (a b : Nat) : Prop := ∀ k, a ≤ k → k < b → ∃ j, a ≤ j ∧ j < b ∧ f' k = f j
/-- Beyond a and b all is as it was. -/
def Out (f f' : Nat → Nat) (a b : Nat) : Prop := ∀ k, k < a ∨ b ≤ k → f' k = f k
theorem Into.refl (f : Nat → Nat) (a b : Nat) : Into f f a b := fun k h1 h2 => ⟨k, h1, h2, rfl⟩
theorem Into.trans {f g h : Nat → Nat} {a b : Nat} (h1 : Into f g a b) (h2 : Into g h a b) : Into f h a b := fun k k1 k2 => by
  obtain ⟨j, j1, j2, e⟩ := h2 k k1 k2
  obtain ⟨i, i1, i2, e'⟩ := h1 j j1 j2
  exact ⟨i, i1, i2, by rw [e, e']⟩
theorem Out.refl (f : Nat → Nat) (a b : Nat) : Out f f a b := fun _ _ => rfl
theorem Out.trans {f g h : Nat → Nat} {a b : Nat} (h1 : Out f g a b) (h2 : Out g h a b) : Out f h a b := fun k hk => by rw [h2 k hk, h1 k hk]
theorem Out.wide {f g : Nat → Nat} {a b a' b' : Nat} (h : Out f g a b) (h1 : a' ≤ a) (h2 : b ≤ b') : Out f g a' b' := fun k hk => h k (by omega)
theorem Into.wide {f g : Nat → Nat} {a b a' b' : Nat} (h : Into f g a b) (ho : Out f g a b) (h1 : a' ≤ a) (h2 : b ≤ b') : Into f g a' b' := fun k k1 k2 => by
  by_cases hk : a ≤ k ∧ k < b
  · obtain ⟨j, j1, j2, e⟩ := h k hk.1 hk.2
    exact ⟨j, by omega, by omega, e⟩
  · exact ⟨k, k1, k2, ho k (by omega)⟩
theorem swp_out (f : Nat → Nat) {i j a b : Nat} (hi : a ≤ i ∧ i < b) (hj : a ≤ j ∧ j < b) : Out f (swp f i j) a b := fun k hk => by
  unfold swp; rw [if_neg (by omega), if_neg (by omega)]
theorem swp_into (f : Nat → Nat) {i j a b : Nat} (hi : a ≤ i ∧ i < b) (hj : a ≤ j ∧ j < b) : Into f (swp f i j) a b := fun k k1 k2 => by
  unfold swp
  by_cases h1 : k = j
  · rw [if_pos h1]; exact ⟨i, hi.1, hi.2, rfl⟩
  · rw [if_neg h1]
    by_cases h2 : k = i
    · rw [if_pos h2]; exact ⟨j, hj.1, hj.2, rfl⟩
    · rw [if_neg h2]; exact ⟨k, k1, k2, rfl⟩
theorem rot_out (f : Nat → Nat) {a m b : Nat} (h1 : a ≤ m) (h2 : m ≤ b) : Out f (rot f a m b) a b := fun k hk => by
  unfold rot
  by_cases k1 : k < a
  · rw [if_pos k1]
  · rw [if_neg k1, if_neg (by omega), if_neg (by omega)]
theorem rot_into (f : Nat → Nat) {a m b : Nat} (h1 : a ≤ m) (h2 : m ≤ b) : Into f (rot f a m b) a b := fun k k1 k2 => by
  unfold rot
  rw [if_neg (by omega)]
  by_cases k3 : k < a + (b - m)
  · rw [if_pos k3]; exact ⟨k + m - a, by omega, by omega, rfl⟩
  · rw [if_neg k3, if_pos k2]; exact ⟨k + m - b, by omega, by omega, rfl⟩

/-- What merging leaves from a to b. -/
structure Merged (T : Nat → Nat → Prop) (f f' : Nat → Nat) (a b : Nat) : Prop where
  srt : Srt T f' a b
  into : Into f f' a b
  out : Out f f' a b

section
variable {T : Nat → Nat → Prop}
theorem Srt.part {f : Nat → Nat} {a b a' b' : Nat} (h : Srt T f a b) (h1 : a ≤ a') (h2 : b' ≤ b) : Srt T f a' b' := fun p q p1 p2 p3 => h p q (by omega) p2 (by omega)
theorem Srt.congr {f g : Nat → Nat} {a b : Nat} (h : Srt T f a b) (e : ∀ k, a ≤ k → k < b → g k = f k) : Srt T g a b := fun p q p1 p2 p3 => by
  rw [e p p1 (by omega), e q (by omega) p3]; exact h p q p1 p2 p3
theorem Srt.none {f : Nat → Nat} {a b : Nat} (h : b ≤ a + 1) : Srt T f a b := fun p q p1 p2 p3 => by omega
/-- Two rising parts of which the first is ahead. -/
theorem Srt.join {f : Nat → Nat} {a m b : Nat} (h1 : Srt T f a m) (h2 : Srt T f m b) (h : ∀ p q, a ≤ p → p < m → m ≤ q → q < b → T (f p) (f q)) : Srt T f a b := fun p q p1 p2 p3 => by
  by_cases hq : q < m
  · exact h1 p q p1 p2 hq
  · by_cases hp : p < m
    · exact h p q p1 hp (by omega) p3
    · exact h2 p q (by omega) p2 p3

/-- How the test tells, of one that stood ahead and one behind it. -/
structure Tells (T : Nat → Nat → Prop) (c : Nat → Nat → Bool) : Prop where
  yes : ∀ x y, x < y → c y x = true → T y x
  no : ∀ x y, x < y → c y x = false → T x y
  trans : ∀ x y z, T x y → T y z → T x z

/-- What is to be merged: two rising parts, of which the first stood ahead. -/
structure Two (T : Nat → Nat → Prop) (f : Nat → Nat) (a m b : Nat) : Prop where
  left : Srt T f a m
  right : Srt T f m b
  lt : ∀ p q, a ≤ p → p < m → m ≤ q → q < b → f p < f q

/-- The turn in the middle: where the search has ended at s, with e the place beside it. -/
structure Mid (c : Nat → Nat → Bool) (f : Nat → Nat) (a m b s e : Nat) : Prop where
  as : a ≤ s
  sm : s ≤ m
  me : m ≤ e
  eb : e ≤ b
  low : s = a ∨ e = b ∨ (0 < s ∧ e < b ∧ c (f e) (f (s - 1)) = false)
  high : s = m ∨ e = m ∨ (0 < e ∧ c (f (e - 1)) (f s) = true)

/-- Behind the turn each half is to be merged by itself, and the first is ahead of the second. -/
theorem Mid.halves {c : Nat → Nat → Bool} (hc : Tells T c) {f : Nat → Nat} {a m b s e : Nat} (h2 : Two T f a m b) (h : Mid c f a m b s e) :
    Two T (rot f s m e) a s (s + (e - m)) ∧ Two T (rot f s m e) (s + (e - m)) e b ∧ ∀ p q, a ≤ p → p < s + (e - m) → s + (e - m) ≤ q → q < b → T (rot f s m e p) (rot f s m e q) := by
  obtain ⟨h_as, h_sm, h_me, h_eb, h_low, h_high⟩ := h
  -- where the four pieces lie
  have v1 : ∀ k, k < s → rot f s m e k = f k := fun k hk => by unfold rot; rw [if_pos hk]
  have v2 : ∀ k, s ≤ k → k < s + (e - m) → rot f s m e k = f (k + m - s) := fun k k1 k2 => by unfold rot; rw [if_neg (by omega), if_pos k2]
  have v3 : ∀ k, s + (e - m) ≤ k → k < e → rot f s m e k = f (k + m - e) := fun k k1 k2 => by unfold rot; rw [if_neg (by omega), if_neg (by omega), if_pos k2]
  have v4 : ∀ k, e ≤ k → rot f s m e k = f k := fun k k1 => by unfold rot; rw [if_neg (by omega), if_neg (by omega), if_neg (by omega)]
  refine ⟨⟨?_, ?_, ?_⟩, ⟨?_, ?_, ?_⟩, ?_⟩
  · intro p q p1 p2 p3
    rw [v1 p (by omega), v1 q p3]
    exact h2.left p q p1 p2 (by omega)
  · intro p q p1 p2 p3
    rw [v2 p p1 (by omega), v2 q (by omega) p3]
    exact h2.right _ _ (by omega) (by omega) (by omega)
  · intro p q p1 p2 p3 p4
    rw [v1 p p2, v2 q p3 p4]
    exact h2.lt _ _ p1 (by omega) (by omega) (by omega)
  · intro p q p1 p2 p3
    rw [v3 p p1 (by omega), v3 q (by omega) p3]
    exact h2.left _ _ (by omega) (by omega) (by omega)
  · intro p q p1 p2 p3
    rw [v4 p p1, v4 q (by omega)]
    exact h2.right _ _ (by omega) p2 p3
  · intro p q p1 p2 p3 p4
    rw [v3 p p1 p2, v4 q p3]
    exact h2.lt _ _ (by omega) (by omega) (by omega) p4
  · intro p q p1 p2 q1 q2
    by_cases hp : p < s
    · rw [v1 p hp]
      by_cases hq : q < e
      · rw [v3 q q1 hq]
        exact h2.left _ _ p1 (by omega) (by omega)
      · rw [v4 q (by omega)]
        rcases h_low with h | h | ⟨h, h', h''⟩
        · omega
        · omega
        · have t0 : T (f (s - 1)) (f e) := hc.no _ _ (h2.lt _ _ (by omega) (by omega) (by omega) (by omega)) h''
          have t1 : T (f p) (f e) := by
            by_cases hps : p = s - 1
            · rw [hps]; exact t0
            · exact hc.trans _ _ _ (h2.left p (s - 1) p1 (by omega) (by omega)) t0
          by_cases hqe : q = e
          · rw [hqe]; exact t1
          · exact hc.trans _ _ _ t1 (h2.right e q (by omega) (by omega) q2)
    · rw [v2 p (by omega) p2]
      by_cases hq : q < e
      · rw [v3 q q1 hq]
        rcases h_high with h | h | ⟨h, h''⟩
        · omega
        · omega
        · have t0 : T (f (e - 1)) (f s) := hc.yes _ _ (h2.lt _ _ (by omega) (by omega) (by omega) (by omega)) h''
          have t1 : T (f (p + m - s)) (f s) := by
            by_cases hps : p + m - s = e - 1
            · rw [hps]; exact t0
            · exact hc.trans _ _ _ (h2.right _ (e - 1) (by omega) (by omega) (by omega)) t0
          by_cases hqe : q + m - e = s
          · rw [hqe]; exact t1
          · exact hc.trans _ _ _ t1 (h2.left s _ (by omega) (by omega) (by omega))
      · rw [v4 q (by omega)]
        exact h2.right _ _ (by omega) (by omega) q2

/-- One that is merged in halves is merged. -/
theorem Merged.halves {f f1 f2 f3 : Nat → Nat} {a d b : Nat} (hd : a ≤ d ∧ d ≤ b) (hi : Into f f1 a b) (ho : Out f f1 a b) (h1 : Merged T f1 f2 a d) (h2 : Merged T f2 f3 d b)
    (hx : ∀ p q, a ≤ p → p < d → d ≤ q → q < b → T (f1 p) (f1 q)) : Merged T f f3 a b := by
  refine ⟨Srt.join (h1.srt.congr fun k k1 k2 => h2.out k (Or.inl k2)) h2.srt fun p q p1 p2 q1 q2 => ?_, ?_, ?_⟩
  · rw [h2.out p (Or.inl p2)]
    obtain ⟨j, j1, j2, e⟩ := h1.into p p1 p2
    obtain ⟨i, i1, i2, e'⟩ := h2.into q q1 q2
    rw [e, e', h1.out i (Or.inr i1)]
    exact hx j i j1 j2 i1 i2
  · exact (hi.trans (h1.into.wide h1.out (Nat.le_refl _) hd.2)).trans (h2.into.wide h2.out hd.1 (Nat.le_refl _))
  · exact (ho.trans (h1.out.wide (Nat.le_refl _) hd.2)).trans (h2.out.wide hd.1 (Nat.le_refl _))
/-- With nothing in one of the two parts all is merged. -/
theorem Two.done {f : Nat → Nat} {a m b : Nat} (h : Two T f a m b) (he : m ≤ a ∨ b ≤ m) (h1 : a ≤ m) (h2 : m ≤ b) : Merged T f f a b := by
  refine ⟨?_, Into.refl _ _ _, Out.refl _ _ _⟩
  rcases he with he | he
  · have : m = a := by omega
    subst this; exact h.right
  · have : m = b := by omega
    subst this; exact h.left
theorem Two.congr {f g : Nat → Nat} {a m b : Nat} (h : Two T f a m b) (h1 : a ≤ m) (h2 : m ≤ b) (e : ∀ k, a ≤ k → k < b → g k = f k) : Two T g a m b :=
  ⟨h.left.congr fun k k1 k2 => e k k1 (by omega), h.right.congr fun k k1 k2 => e k (by omega) k2, fun p q p1 p2 q1 q2 => by rw [e p p1 (by omega), e q (by omega) q2]; exact h.lt p q p1 p2 q1 q2⟩

/-- One at a, moved up to the place ahead of i. -/
def upTo (f : Nat → Nat) (a i : Nat) : Nat → Nat := fun k => if a ≤ k ∧ k + 1 < i then f (k + 1) else if k + 1 = i ∧ a ≤ k then f a else f k
theorem upTo_start (f : Nat → Nat) (a : Nat) : upTo f a (a + 1) = f := by
  funext k
  unfold upTo
  (repeat' split) <;> first | rfl | (exfalso; omega) | (refine congrArg f ?_; omega)
theorem upTo_next (f : Nat → Nat) (a k : Nat) (h : a ≤ k) : swp (upTo f a (k + 1)) k (k + 1) = upTo f a (k + 2) := by
  have e1 : upTo f a (k + 1) k = f a := by unfold upTo; rw [if_neg (by omega), if_pos (by omega)]
  have e2 : upTo f a (k + 1) (k + 1) = f (k + 1) := by unfold upTo; rw [if_neg (by omega), if_neg (by omega)]
  funext j
  unfold swp
  rw [e1, e2]
  by_cases h1 : j = k + 1
  · rw [if_pos h1]; unfold upTo; rw [if_neg (by omega), if_pos (by omega)]
  · rw [if_neg h1]
    by_cases h2 : j = k
    · rw [if_pos h2, h2]; unfold upTo; rw [if_pos (by omega)]
    · rw [if_neg h2]
      unfold upTo
      by_cases h3 : a ≤ j ∧ j + 1 < k + 1
      · rw [if_pos h3, if_pos (by omega)]
      · rw [if_neg h3, if_neg (by omega), if_neg (by omega), if_neg (by omega)]
/-- The left part is one alone, and the search has ended at i. -/
theorem Two.one_left {c : Nat → Nat → Bool} (hc : Tells T c) {f : Nat → Nat} {a b i : Nat} (h : Two T f a (a + 1) b) (h1 : a + 1 ≤ i) (h2 : i ≤ b)
    (hl : i = a + 1 ∨ c (f (i - 1)) (f a) = true) (hh : i = b ∨ c (f i) (f a) = false) : Merged T f (upTo f a i) a b := by
  have v1 : ∀ k, a ≤ k → k + 1 < i → upTo f a i k = f (k + 1) := fun k k1 k2 => by unfold upTo; rw [if_pos ⟨k1, k2⟩]
  have v2 : upTo f a i (i - 1) = f a := by unfold upTo; rw [if_neg (by omega), if_pos (by omega)]
  have v3 : ∀ k, k < a ∨ i ≤ k → upTo f a i k = f k := fun k hk => by unfold upTo; rw [if_neg (by omega), if_neg (by omega)]
  have lo : ∀ k, a + 1 ≤ k → k < i → T (f k) (f a) := fun k k1 k2 => by
    rcases hl with hl | hl
    · omega
    · have t0 : T (f (i - 1)) (f a) := hc.yes _ _ (h.lt _ _ (Nat.le_refl _) (by omega) (by omega) (by omega)) hl
      by_cases e : k = i - 1
      · rw [e]; exact t0
      · exact hc.trans _ _ _ (h.right k (i - 1) k1 (by omega) (by omega)) t0
  have hi : ∀ k, i ≤ k → k < b → T (f a) (f k) := fun k k1 k2 => by
    rcases hh with hh | hh
    · omega
    · have t0 : T (f a) (f i) := hc.no _ _ (h.lt _ _ (Nat.le_refl _) (by omega) (by omega) (by omega)) hh
      by_cases e : k = i
      · rw [e]; exact t0
      · exact hc.trans _ _ _ t0 (h.right i k h1 (by omega) k2)
  refine ⟨fun p q p1 p2 p3 => ?_, fun k k1 k2 => ?_, fun k hk => v3 k (by omega)⟩
  · by_cases hq : q + 1 < i
    · rw [v1 p p1 (by omega), v1 q (by omega) hq]
      exact h.right _ _ (by omega) (by omega) (by omega)
    · by_cases hqe : q = i - 1
      · rw [hqe, v2, v1 p p1 (by omega)]
        exact lo _ (by omega) (by omega)
      · rw [v3 q (by omega)]
        by_cases hp : p + 1 < i
        · rw [v1 p p1 hp]
          exact h.right _ _ (by omega) (by omega) p3
        · by_cases hpe : p = i - 1
          · rw [hpe, v2]
            exact hi q (by omega) p3
          · rw [v3 p (by omega)]
            exact h.right _ _ (by omega) p2 p3
  · by_cases k3 : k + 1 < i
    · exact ⟨k + 1, by omega, by omega, v1 k k1 k3⟩
    · by_cases k4 : k = i - 1
      · exact ⟨a, Nat.le_refl _, by omega, by rw [k4]; exact v2⟩
      · exact ⟨k, k1, k2, v3 k (by omega)⟩

/-- One at m, moved down to the place i. -/
def downTo (f : Nat → Nat) (i m : Nat) : Nat → Nat := fun k => if i < k ∧ k ≤ m then f (k - 1) else if k = i ∧ i ≤ m then f m else f k
theorem downTo_start (f : Nat → Nat) (m : Nat) : downTo f m m = f := by
  funext k
  unfold downTo
  (repeat' split) <;> first | rfl | (exfalso; omega) | (refine congrArg f ?_; omega)
theorem downTo_next (f : Nat → Nat) (k m : Nat) (h : k < m) : swp (downTo f (k + 1) m) (k + 1) k = downTo f k m := by
  have e1 : downTo f (k + 1) m (k + 1) = f m := by unfold downTo; rw [if_neg (by omega), if_pos (by omega)]
  have e2 : downTo f (k + 1) m k = f k := by unfold downTo; rw [if_neg (by omega), if_neg (by omega)]
  funext j
  unfold swp
  rw [e1, e2]
  by_cases h1 : j = k
  · rw [if_pos h1]; unfold downTo; rw [if_neg (by omega), if_pos (by omega)]
  · rw [if_neg h1]
    by_cases h2 : j = k + 1
    · rw [if_pos h2, h2]; unfold downTo; rw [if_pos (by omega)]; rfl
    · rw [if_neg h2]
      unfold downTo
      by_cases h3 : k + 1 < j ∧ j ≤ m
      · rw [if_pos h3, if_pos (by omega)]
      · rw [if_neg h3, if_neg (by omega), if_neg (by omega), if_neg (by omega)]
/-- The right part is one alone, and the search has ended at i. -/
theorem Two.one_right {c : Nat → Nat → Bool} (hc : Tells T c) {f : Nat → Nat} {a m i : Nat} (h : Two T f a m (m + 1)) (h1 : a ≤ i) (h2 : i ≤ m)
    (hl : i = a ∨ (0 < i ∧ c (f m) (f (i - 1)) = false)) (hh : i = m ∨ c (f m) (f i) = true) : Merged T f (downTo f i m) a (m + 1) := by
  have v1 : ∀ k, i < k → k ≤ m → downTo f i m k = f (k - 1) := fun k k1 k2 => by unfold downTo; rw [if_pos ⟨k1, k2⟩]
  have v2 : downTo f i m i = f m := by unfold downTo; rw [if_neg (by omega), if_pos (by omega)]
  have v3 : ∀ k, k < i ∨ m < k → downTo f i m k = f k := fun k hk => by unfold downTo; rw [if_neg (by omega), if_neg (by omega)]
  have lo : ∀ k, a ≤ k → k < i → T (f k) (f m) := fun k k1 k2 => by
    rcases hl with hl | ⟨_, hl⟩
    · omega
    · have t0 : T (f (i - 1)) (f m) := hc.no _ _ (h.lt _ _ (by omega) (by omega) (by omega) (by omega)) hl
      by_cases e : k = i - 1
      · rw [e]; exact t0
      · exact hc.trans _ _ _ (h.left k (i - 1) k1 (by omega) (by omega)) t0
  have hi : ∀ k, i ≤ k → k < m → T (f m) (f k) := fun k k1 k2 => by
    rcases hh with hh | hh
    · omega
    · have t0 : T (f m) (f i) := hc.yes _ _ (h.lt _ _ (by omega) (by omega) (by omega) (by omega)) hh
      by_cases e : k = i
      · rw [e]; exact t0
      · exact hc.trans _ _ _ t0 (h.left i k h1 (by omega) k2)
  refine ⟨fun p q p1 p2 p3 => ?_, fun k k1 k2 => ?_, fun k hk => v3 k (by omega)⟩
  · by_cases hp : i < p
    · rw [v1 p hp (by omega), v1 q (by omega) (by omega)]
      exact h.left _ _ (by omega) (by omega) (by omega)
    · by_cases hpe : p = i
      · rw [hpe, v2, v1 q (by omega) (by omega)]
        exact hi _ (by omega) (by omega)
      · rw [v3 p (by omega)]
        by_cases hq : i < q
        · rw [v1 q hq (by omega)]
          exact h.left _ _ p1 (by omega) (by omega)
        · by_cases hqe : q = i
          · rw [hqe, v2]
            exact lo p p1 (by omega)
          · rw [v3 q (by omega)]
            exact h.left _ _ p1 p2 (by omega)
  · by_cases k3 : i < k
    · exact ⟨k - 1, by omega, by omega, v1 k k3 (by omega)⟩
    · by_cases k4 : k = i
      · exact ⟨m, by omega, by omega, by rw [k4]; exact v2⟩
      · exact ⟨k, k1, k2, v3 k (by omega)⟩
end

end Go.Proofs.Ytjceaaononbliaa
