/-
  An index: a depth and 32 numbers; classes of places; what is fixed, doubled, set, written and read. Plain; no program is named here.
-/
import Derived.Test.YthcbjihdbkpkeaaInoA
import Derived.Test.YthcbjihdbkpkeaaMixA
namespace Go.Proofs.Ythcbjihdbkpkeaa
open Go.RowKit

/-- The depth as it counts. -/
def dpN (d : Int) : Nat := (max 0 (min d 5)).toNat
theorem dpN_le (d : Int) : dpN d ≤ 5 := by unfold dpN; omega
theorem dpN_in {d : Int} (h0 : 0 ≤ d) (h5 : d ≤ 5) : ((dpN d : Nat) : Int) = d := by unfold dpN; omega
theorem pow32 {D : Nat} (h : D ≤ 5) : 2 ^ D ≤ 32 := Nat.pow_le_pow_right (n := 2) (by omega) h

/-- Are two places of one class of b bits? -/
def isB (b i p : Nat) : Bool := i % 2 ^ b == p % 2 ^ b
theorem isB_iff {b i p : Nat} : isB b i p = true ↔ i % 2 ^ b = p % 2 ^ b := by simp [isB]
theorem isB_refl (b i : Nat) : isB b i i = true := by simp [isB]
theorem mod_of_le {b c : Nat} (h : b ≤ c) (i : Nat) : i % 2 ^ c % 2 ^ b = i % 2 ^ b := Nat.mod_mod_of_dvd i (Nat.pow_dvd_pow 2 h)
theorem isB_mono {b c i p : Nat} (h : b ≤ c) (hc : isB c i p = true) : isB b i p = true := by
  rw [isB_iff] at hc ⊢
  rw [← mod_of_le h i, ← mod_of_le h p, hc]
theorem isB_top {D i p : Nat} (hi : i < 2 ^ D) (hp : p < 2 ^ D) : isB D i p = true ↔ i = p := by
  rw [isB_iff, Nat.mod_eq_of_lt hi, Nat.mod_eq_of_lt hp]
/-- Of one class of b bits, but not of one more: so are just those of the other half. -/
theorem isB_half {b i k p : Nat} (hi : isB b i p = true) (hn : isB (b + 1) i p = false) : isB (b + 1) k i = true ↔ isB b k p = true ∧ isB (b + 1) k p = false := by
  have hn' : ¬ (i % 2 ^ (b + 1) = p % 2 ^ (b + 1)) := fun h => by rw [isB_iff.2 h] at hn; cases hn
  rw [isB_iff] at hi
  have e1 := mod_next i b
  have e2 := mod_next p b
  have e3 := mod_next k b
  have q1 : i / 2 ^ b % 2 < 2 := Nat.mod_lt _ (by omega)
  have q2 : p / 2 ^ b % 2 < 2 := Nat.mod_lt _ (by omega)
  have q3 : k / 2 ^ b % 2 < 2 := Nat.mod_lt _ (by omega)
  have hf : isB (b + 1) k p = false ↔ ¬ (k % 2 ^ (b + 1) = p % 2 ^ (b + 1)) := by
    rw [← isB_iff, Bool.not_eq_true]
  rw [hf, isB_iff, isB_iff]
  have l1 : i % 2 ^ b < 2 ^ b := Nat.mod_lt _ (Nat.two_pow_pos b)
  have l2 : p % 2 ^ b < 2 ^ b := Nat.mod_lt _ (Nat.two_pow_pos b)
  have l3 : k % 2 ^ b < 2 ^ b := Nat.mod_lt _ (Nat.two_pow_pos b)
  rw [e1, e2] at hn'
  rw [e1, e2, e3]
  generalize i / 2 ^ b % 2 = x1 at *
  generalize p / 2 ^ b % 2 = x2 at *
  generalize k / 2 ^ b % 2 = x3 at *
  generalize i % 2 ^ b = y1 at *
  generalize p % 2 ^ b = y2 at *
  generalize k % 2 ^ b = y3 at *
  generalize 2 ^ b = B at *
  clear e1 e2 e3 hf
  obtain rfl | rfl : x1 = 0 ∨ x1 = 1 := by omega
  all_goals obtain rfl | rfl : x2 = 0 ∨ x2 = 1 := by omega
  all_goals obtain rfl | rfl : x3 = 0 ∨ x3 = 1 := by omega
  all_goals omega

/-- The places of a class, rising. -/
def clsL (D p b : Nat) : List Nat := (List.range (2 ^ D)).filter (fun i => isB b i p)
theorem clsL_mem {D p b i : Nat} : i ∈ clsL D p b ↔ i < 2 ^ D ∧ isB b i p = true := by
  unfold clsL
  rw [List.mem_filter, List.mem_range]
/-- How many bits count. -/
def bitI (D : Nat) (b : Int) : Nat := (max 0 (min b D)).toNat
theorem bitI_le (D : Nat) (b : Int) : bitI D b ≤ D := by unfold bitI; omega
/-- More bits than the depth tell the place alone. -/
theorem lowN_class {D i p : Nat} (h5 : D ≤ 5) (hi : i < 2 ^ D) (hp : p < 2 ^ D) (b : Int) : (lowN i b == lowN p b) = isB (bitI D b) i p := by
  have h32 := pow32 h5
  by_cases hb : b < D
  · have e : bitI D b = (min b 32).toNat := by unfold bitI; omega
    rw [e]
    rfl
  · have e : bitI D b = D := by unfold bitI; omega
    have e1 : ∀ x, x < 2 ^ D → lowN x b = x := fun x hx => by
      unfold lowN
      refine Nat.mod_eq_of_lt (Nat.lt_of_lt_of_le hx (Nat.pow_le_pow_right (by omega) (by omega)))
    rw [e, e1 i hi, e1 p hp]
    unfold isB
    rw [Nat.mod_eq_of_lt hi, Nat.mod_eq_of_lt hp]

/-- The first number below n of which f holds; n, if there is none. -/
def lstN (f : Nat → Bool) : Nat → Nat
  | 0 => 0
  | n + 1 => if lstN f n < n then lstN f n else if f n then n else n + 1
theorem lstN_spec (f : Nat → Bool) : ∀ n, lstN f n ≤ n ∧ (lstN f n < n → f (lstN f n) = true) ∧ ∀ j, j < lstN f n → f j = false
  | 0 => ⟨Nat.le_refl _, fun h => absurd h (Nat.not_lt_zero _), fun j h => absurd h (Nat.not_lt_zero _)⟩
  | n + 1 => by
    obtain ⟨h1, h2, h3⟩ := lstN_spec f n
    unfold lstN
    by_cases hlt : lstN f n < n
    · rw [if_pos hlt]
      exact ⟨by omega, fun _ => h2 hlt, h3⟩
    · rw [if_neg hlt]
      have e : lstN f n = n := by omega
      rw [e] at h3
      cases hf : f n
      · rw [if_neg (by simp)]
        refine ⟨Nat.le_refl _, fun h => absurd h (by omega), fun j hj => ?_⟩
        by_cases hj' : j = n
        · rw [hj']; exact hf
        · exact h3 j (by omega)
      · rw [if_pos rfl]
        exact ⟨by omega, fun _ => hf, h3⟩
theorem lstN_is {f : Nat → Bool} {n k : Nat} (h1 : k ≤ n) (h2 : k < n → f k = true) (h3 : ∀ j, j < k → f j = false) : lstN f n = k := by
  obtain ⟨g1, g2, g3⟩ := lstN_spec f n
  rcases Nat.lt_trichotomy (lstN f n) k with h | h | h
  · have := g2 (by omega)
    rw [h3 _ h] at this
    cases this
  · exact h
  · have := h2 (by omega)
    rw [g3 _ h] at this
    cases this

/-- Have all of the place's class of b bits its block? -/
def sameB (D : Nat) (t : List Int) (p b : Nat) : Bool := (List.range (2 ^ D)).all fun i => !isB b i p || fld t i == fld t p
theorem sameB_iff {D : Nat} {t : List Int} {p b : Nat} : sameB D t p b = true ↔ ∀ i, i < 2 ^ D → isB b i p = true → fld t i = fld t p := by
  unfold sameB
  rw [List.all_eq_true]
  constructor
  · intro h i hi hb
    have := h i (List.mem_range.2 hi)
    rw [hb] at this
    simpa using this
  · intro h i hi
    cases hb : isB b i p
    · rfl
    · simpa using h i (List.mem_range.1 hi) hb
theorem sameB_mono {D : Nat} {t : List Int} {p b c : Nat} (h : b ≤ c) (hs : sameB D t p b = true) : sameB D t p c = true :=
  sameB_iff.2 fun i hi hb => sameB_iff.1 hs i hi (isB_mono h hb)
theorem sameB_top {D : Nat} {t : List Int} {p : Nat} (hp : p < 2 ^ D) : sameB D t p D = true :=
  sameB_iff.2 fun i hi hb => by rw [(isB_top hi hp).1 hb]
/-- 19.2: Bits of a place that is there. -/
def xbitsN (D : Nat) (t : List Int) (p : Nat) : Nat := if fld t p = 0 then D else lstN (sameB D t p) D
theorem xbitsN_le (D : Nat) (t : List Int) (p : Nat) : xbitsN D t p ≤ D := by
  unfold xbitsN
  split
  · exact Nat.le_refl _
  · exact (lstN_spec _ _).1
theorem xbitsN_same {D : Nat} {t : List Int} {p : Nat} (hp : p < 2 ^ D) : sameB D t p (xbitsN D t p) = true := by
  unfold xbitsN
  split
  · exact sameB_top hp
  · have h := lstN_spec (sameB D t p) D
    by_cases hlt : lstN (sameB D t p) D < D
    · exact h.2.1 hlt
    · rw [show lstN (sameB D t p) D = D by omega]
      exact sameB_top hp
theorem xbitsN_low {D : Nat} {t : List Int} {p j : Nat} (h0 : fld t p ≠ 0) (hj : j < xbitsN D t p) : sameB D t p j = false := by
  unfold xbitsN at hj
  rw [if_neg h0] at hj
  exact (lstN_spec _ _).2.2 j hj
/-- The program's way: downwards, as long as one bit fewer does. -/
theorem xbitsN_down {D : Nat} {t : List Int} {p k : Nat} (h0 : fld t p ≠ 0) (hk : k ≤ D) (hs : sameB D t p k = true) (hn : k = 0 ∨ sameB D t p (k - 1) = false) : xbitsN D t p = k := by
  unfold xbitsN
  rw [if_neg h0]
  refine lstN_is hk (fun _ => hs) fun j hj => ?_
  rcases hn with h | h
  · omega
  · cases hsj : sameB D t p j
    · rfl
    · rw [sameB_mono (show j ≤ k - 1 by omega) hsj] at h
      cases h
/-- The document's way: upwards, till all are. -/
theorem xbitsN_up {D : Nat} {t : List Int} {p k : Nat} (h0 : fld t p ≠ 0) (hk : k ≤ D) (hs : k < D → sameB D t p k = true) (hn : ∀ j, j < k → sameB D t p j = false) : xbitsN D t p = k := by
  unfold xbitsN
  rw [if_neg h0]
  exact lstN_is hk hs hn

/-- Have the places that have this one's block just a class? -/
def wholeB (D : Nat) (t : List Int) (p : Nat) : Bool := (List.range (D + 1)).any fun b => (List.range (2 ^ D)).all fun i => (fld t i == fld t p) == isB b i p
theorem wholeB_iff {D : Nat} {t : List Int} {p : Nat} : wholeB D t p = true ↔ ∃ b, b ≤ D ∧ ∀ i, i < 2 ^ D → (fld t i = fld t p ↔ isB b i p = true) := by
  unfold wholeB
  rw [List.any_eq_true]
  constructor
  · rintro ⟨b, hb, h⟩
    refine ⟨b, by have := List.mem_range.1 hb; omega, fun i hi => ?_⟩
    have := List.all_eq_true.1 h i (List.mem_range.2 hi)
    have e : (fld t i == fld t p) = isB b i p := by simpa using this
    rw [← e]
    simp
  · rintro ⟨b, hb, h⟩
    refine ⟨b, List.mem_range.2 (by omega), List.all_eq_true.2 fun i hi => ?_⟩
    have := h i (List.mem_range.1 hi)
    have e : (fld t i == fld t p) = isB b i p := by
      rw [Bool.eq_iff_iff, ← this]
      simp
    simpa using e
/-- The class is then that of Bits. -/
theorem wholeB_bits {D : Nat} {t : List Int} {p : Nat} (hp : p < 2 ^ D) (h0 : fld t p ≠ 0) : wholeB D t p = true ↔ ∀ i, i < 2 ^ D → (fld t i = fld t p ↔ isB (xbitsN D t p) i p = true) := by
  constructor
  · intro h i hi
    obtain ⟨b, hb, hw⟩ := wholeB_iff.1 h
    have hs : sameB D t p b = true := sameB_iff.2 fun j hj hbj => (hw j hj).2 hbj
    have hle : xbitsN D t p ≤ b := by
      rcases Nat.lt_or_ge b (xbitsN D t p) with hlt | hge
      · rw [xbitsN_low h0 hlt] at hs
        cases hs
      · exact hge
    constructor
    · intro e
      exact isB_mono hle ((hw i hi).1 e)
    · intro e
      exact sameB_iff.1 (xbitsN_same hp) i hi e
  · intro h
    exact wholeB_iff.2 ⟨_, xbitsN_le D t p, h⟩
theorem wholeB_other {D : Nat} {t : List Int} {p q : Nat} (hq : q < 2 ^ D) (e : fld t q = fld t p) (h : wholeB D t p = true) : wholeB D t q = true := by
  obtain ⟨b, hb, hw⟩ := wholeB_iff.1 h
  refine wholeB_iff.2 ⟨b, hb, fun i hi => ?_⟩
  have h1 := (hw q hq).1 e
  rw [e, hw i hi, isB_iff, isB_iff, isB_iff.1 h1]
theorem wholeB_same {D : Nat} {t : List Int} {p q : Nat} (hp : p < 2 ^ D) (hq : q < 2 ^ D) (e : fld t q = fld t p) : wholeB D t q = wholeB D t p :=
  Bool.eq_iff_iff.2 ⟨wholeB_other hp e.symm, wholeB_other hq e⟩
/-- How many places have this one's block. -/
def xcntB (_D : Nat) (t : List Int) (p k : Nat) : Nat := ((List.range k).filter fun i => fld t i == fld t p).length
theorem filter_all_of_len {α : Type} {f g : α → Bool} : ∀ {l : List α}, (∀ x ∈ l, g x = true → f x = true) → (l.filter f).length = (l.filter g).length → ∀ x ∈ l, f x = g x
  | [], _, _, x, hx => by simp at hx
  | a :: l, h, e, x, hx => by
    have ht : ∀ x ∈ l, g x = true → f x = true := fun x hx => h x (List.mem_cons_of_mem _ hx)
    have hle : (l.filter g).length ≤ (l.filter f).length := by
      clear e hx h
      induction l with
      | nil => simp
      | cons c l ih =>
        have ih' := ih (fun x hx => ht x (List.mem_cons_of_mem _ hx))
        have hc := ht c List.mem_cons_self
        rw [List.filter_cons, List.filter_cons]
        cases hg : g c
        · cases hf : f c <;> simp <;> omega
        · rw [hc hg]; simp; omega
    rw [List.filter_cons, List.filter_cons] at e
    have ha := h a List.mem_cons_self
    cases hg : g a
    · cases hf : f a
      · rw [hg, hf] at e
        rcases List.mem_cons.1 hx with rfl | hx
        · rw [hg, hf]
        · exact filter_all_of_len ht (by simpa using e) x hx
      · rw [hg, hf] at e
        simp at e
        omega
    · rw [hg, ha hg] at e
      rcases List.mem_cons.1 hx with rfl | hx
      · rw [hg, ha hg]
      · exact filter_all_of_len ht (by simpa using e) x hx
/-- The program's test: as many as the class of Bits has. -/
theorem wholeB_cnt {D : Nat} {t : List Int} {p : Nat} (hp : p < 2 ^ D) (h0 : fld t p ≠ 0) : wholeB D t p = decide (xcntB D t p (2 ^ D) = (clsL D p (xbitsN D t p)).length) := by
  rw [Bool.eq_iff_iff, wholeB_bits hp h0, decide_eq_true_eq]
  unfold xcntB clsL
  constructor
  · intro h
    congr 1
    refine List.filter_congr fun i hi => ?_
    rw [Bool.eq_iff_iff, ← h i (List.mem_range.1 hi)]
    simp
  · intro h i hi
    have := filter_all_of_len (f := fun i => fld t i == fld t p) (g := fun i => isB (xbitsN D t p) i p) (fun x hx hg => by simpa using sameB_iff.1 (xbitsN_same hp) x (List.mem_range.1 hx) hg) h i (List.mem_range.2 hi)
    have this : (fld t i == fld t p) = isB (xbitsN D t p) i p := this
    rw [← this]
    simp
theorem xcntB_succ (D : Nat) (t : List Int) (p k : Nat) : xcntB D t p (k + 1) = xcntB D t p k + (if fld t k == fld t p then 1 else 0) := by
  unfold xcntB
  rw [List.range_succ, List.filter_append, List.length_append]
  cases h : (fld t k == fld t p) <;> simp [h]

/-- Has no place ahead its block? -/
def firstB (t : List Int) (p : Nat) : Bool := (List.range p).all fun k => !(fld t k == fld t p)
theorem firstB_iff {t : List Int} {p : Nat} : firstB t p = true ↔ ∀ k, k < p → fld t k ≠ fld t p := by
  unfold firstB
  rw [List.all_eq_true]
  constructor
  · intro h k hk
    simpa using h k (List.mem_range.2 hk)
  · intro h k hk
    simpa using h k (List.mem_range.1 hk)
/-- Does the place keep its block? -/
def keepB (D : Nat) (t : List Int) (p : Nat) : Bool := shortB (fld t p) && (firstB t p || wholeB D t p)

/-! 32 numbers, each told. -/
def mapT (f : Nat → Int) : List Int := (List.range 32).map f
theorem mapT_len (f : Nat → Int) : (mapT f).length = 32 := by simp [mapT]
theorem mapT_at (f : Nat → Int) (i : Nat) (h : i < 32) : fld (mapT f) i = f i := by
  unfold mapT fld
  rw [List.getD_eq_getElem?_getD, List.getElem?_map, List.getElem?_range h]
  rfl
theorem fld_out (l : List Int) (i : Nat) (h : l.length ≤ i) : fld l i = 0 := by
  unfold fld
  rw [List.getD_eq_getElem?_getD, List.getElem?_eq_none h]
  rfl
theorem ext32 {t u : List Int} (ht : t.length = 32) (hu : u.length = 32) (h : ∀ i, i < 32 → fld t i = fld u i) : t = u := by
  apply List.ext_getElem?
  intro i
  by_cases hi : i < 32
  · rw [fld_get t i (by omega), fld_get u i (by omega), h i hi]
  · rw [List.getElem?_eq_none (by omega), List.getElem?_eq_none (by omega)]
theorem mapT_self {t : List Int} (ht : t.length = 32) : mapT (fld t) = t := ext32 (mapT_len _) ht fun i hi => mapT_at _ i hi
theorem fld_set (l : List Int) (i k : Nat) (v : Int) (hi : i < l.length) : fld (l.set i v) k = if k = i then v else fld l k := by
  unfold fld
  rw [List.getD_eq_getElem?_getD, List.getD_eq_getElem?_getD, List.getElem?_set]
  by_cases h : i = k
  · subst h
    rw [if_pos rfl, if_pos hi, if_pos rfl]
    rfl
  · rw [if_neg h, if_neg (fun e => h e.symm)]
theorem mapT_set (f g : Nat → Int) (i : Nat) (v : Int) (hi : i < 32) (h : ∀ k, k < 32 → g k = if k = i then v else f k) : (mapT f).set i v = mapT g :=
  ext32 (by rw [List.length_set, mapT_len]) (mapT_len _) fun k hk => by
    rw [fld_set _ _ _ _ (by rw [mapT_len]; exact hi), mapT_at _ k hk, mapT_at _ k hk, h k hk]
def zeroT : List Int := mapT fun _ => 0
theorem zeroT_len : zeroT.length = 32 := mapT_len _

/-- Nothing beyond the places. -/
def shortT (D : Nat) (t : List Int) : List Int := mapT fun i => if i < 2 ^ D then fld t i else 0
/-- 19.4, after the first k places. -/
def fixF (D : Nat) (t : List Int) (k i : Nat) : Int := if i < 2 ^ D then (if i < k then (if keepB D t i then fld t i else 0) else fld t i) else 0
def fixK (D : Nat) (t : List Int) (k : Nat) : List Int := mapT (fixF D t k)
def xfixT (D : Nat) (t : List Int) : List Int := fixK D t (2 ^ D)
theorem xfixT_len (D : Nat) (t : List Int) : (xfixT D t).length = 32 := mapT_len _
theorem fixK_len (D : Nat) (t : List Int) (k : Nat) : (fixK D t k).length = 32 := mapT_len _
theorem fixK_zero (D : Nat) (t : List Int) : fixK D t 0 = shortT D t := by
  unfold fixK shortT fixF
  refine congrArg mapT (funext fun i => ?_)
  rw [if_neg (Nat.not_lt_zero i)]
theorem fixK_keep {D : Nat} {t : List Int} {k : Nat} (h : keepB D t k = true) : fixK D t (k + 1) = fixK D t k := by
  refine ext32 (mapT_len _) (mapT_len _) fun i hi => ?_
  unfold fixK
  rw [mapT_at _ i hi, mapT_at _ i hi]
  unfold fixF
  by_cases e : i = k
  · subst e
    rw [if_pos (show i < i + 1 by omega), if_neg (show ¬ i < i by omega), if_pos h]
  · simp only [show i < k + 1 ↔ i < k by omega]
theorem fixK_same {D : Nat} {t : List Int} {k : Nat} (h : fld t k = 0) : fixK D t (k + 1) = fixK D t k := by
  refine ext32 (mapT_len _) (mapT_len _) fun i hi => ?_
  unfold fixK
  rw [mapT_at _ i hi, mapT_at _ i hi]
  unfold fixF
  by_cases e : i = k
  · subst e
    rw [h]
    simp
  · simp only [show i < k + 1 ↔ i < k by omega]
theorem fixK_drop {D : Nat} {t : List Int} {k : Nat} (hk : k < 2 ^ D) (h5 : D ≤ 5) (h : keepB D t k = false) : (fixK D t k).set k 0 = fixK D t (k + 1) := by
  have h32 := pow32 h5
  refine mapT_set _ _ k 0 (by omega) fun i hi => ?_
  unfold fixF
  by_cases e : i = k
  · subst e
    rw [if_pos hk, if_pos (show i < i + 1 by omega), if_neg (by rw [h]; simp), if_pos rfl]
  · simp only [show i < k + 1 ↔ i < k by omega, if_neg e]
theorem xfixT_at (D : Nat) (t : List Int) (i : Nat) (hi : i < 32) : fld (xfixT D t) i = if i < 2 ^ D then (if keepB D t i then fld t i else 0) else 0 := by
  unfold xfixT fixK
  rw [mapT_at _ i hi]
  unfold fixF
  by_cases h : i < 2 ^ D
  · rw [if_pos h, if_pos h, if_pos h]
  · rw [if_neg h, if_neg h]
/-- 19.1: is it right? -/
def inD (d : Int) : Bool := decide (0 ≤ d ∧ d ≤ 5)
def rightX (d : Int) (t : List Int) : Bool := inD d && (xfixT (dpN d) t == t)
/-- What Fix tells. -/
def fixD (d : Int) : Int := if inD d then d else 0
def fixV (d : Int) (t : List Int) : List Int := if inD d then xfixT (dpN d) t else zeroT
theorem fixV_len (d : Int) (t : List Int) : (fixV d t).length = 32 := by
  unfold fixV
  split
  · exact xfixT_len _ _
  · exact zeroT_len
theorem fix_right (d : Int) (t : List Int) : (fixD d == d && fixV d t == t) = rightX d t := by
  unfold fixD fixV rightX
  cases h : inD d
  · have hd : ¬ (0 = d) := fun e => by
      unfold inD at h
      have := of_decide_eq_false h
      omega
    simp [hd]
  · simp
theorem rightX_iff {d : Int} {t : List Int} : rightX d t = true ↔ (0 ≤ d ∧ d ≤ 5) ∧ xfixT (dpN d) t = t := by
  unfold rightX inD
  simp

end Go.Proofs.Ythcbjihdbkpkeaa
