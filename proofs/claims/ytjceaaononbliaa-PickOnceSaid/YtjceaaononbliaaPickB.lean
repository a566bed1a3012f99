/-
  The rank of a list of floating numbers: how two places stand, and how many stand ahead. Plain; no program is named here.
-/
import Derived.Test.YtjceaaononbliaaSortB
import Derived.Test.YtjceaaononbliaaRealO
namespace Go.Proofs.Ytjceaaononbliaa

/-- Does the place x stand ahead of y in the rank? -/
def Rk (l : List Nat) (x y : Nat) : Prop := keyAt l y < keyAt l x ∨ (keyAt l x = keyAt l y ∧ x < y)
def rkB (l : List Nat) (x y : Nat) : Bool := decide (keyAt l y < keyAt l x ∨ (keyAt l x = keyAt l y ∧ x < y))
theorem rkB_iff {l : List Nat} {x y : Nat} : rkB l x y = true ↔ Rk l x y := by unfold rkB Rk; simp
theorem Rk.irrefl {l : List Nat} {x : Nat} (h : Rk l x x) : False := by unfold Rk at h; omega
theorem Rk.trans {l : List Nat} {x y z : Nat} (h : Rk l x y) (k : Rk l y z) : Rk l x z := by unfold Rk at *; omega
theorem Rk.total (l : List Nat) (x y : Nat) : Rk l x y ∨ x = y ∨ Rk l y x := by unfold Rk; omega

/-- The places in order. -/
structure Ranked (l : List Nat) (n : Nat) (f : Nat → Nat) : Prop where
  srt : Srt (Rk l) f 0 n
  lt : ∀ k, k < n → f k < n
theorem Ranked.inj {l : List Nat} {n : Nat} {f : Nat → Nat} (h : Ranked l n f) {i j : Nat} (hi : i < j) (hj : j < n) : f i ≠ f j := fun e => by
  have h1 := h.srt i j (Nat.zero_le _) hi hj
  rw [e] at h1
  exact h1.irrefl
theorem Ranked.falls {l : List Nat} {n : Nat} {f : Nat → Nat} (h : Ranked l n f) {i : Nat} (hj : i + 1 < n) : keyAt l (f (i + 1)) ≤ keyAt l (f i) := by
  have h1 := h.srt i (i + 1) (Nat.zero_le _) (by omega) hj
  unfold Rk at h1
  omega

/-- How many of the first K are so. -/
def cntN (P : Nat → Bool) : Nat → Nat
  | 0 => 0
  | K + 1 => cntN P K + (P K).toNat
theorem cntN_le (P Q : Nat → Bool) (K : Nat) (h : ∀ k, k < K → P k = true → Q k = true) : cntN P K ≤ cntN Q K := by
  induction K with
  | zero => exact Nat.le_refl _
  | succ K ih =>
    have h1 := ih (fun k hk => h k (by omega))
    have h2 := h K (by omega)
    unfold cntN
    cases hp : P K
    · simp; omega
    · rw [h2 hp]; simp; omega
theorem cntN_lt (P Q : Nat → Bool) (K i : Nat) (hi : i < K) (h : ∀ k, k < K → P k = true → Q k = true) (hP : P i = false) (hQ : Q i = true) : cntN P K < cntN Q K := by
  induction K with
  | zero => omega
  | succ K ih =>
    have h2 := h K (by omega)
    unfold cntN
    by_cases e : i = K
    · subst e
      have h1 := cntN_le P Q i (fun k hk => h k (by omega))
      rw [hP, hQ]; simp; omega
    · have h1 := ih (by omega) (fun k hk => h k (by omega))
      cases hp : P K
      · simp; omega
      · rw [h2 hp]; simp; omega
theorem cntN_max (P : Nat → Bool) (K : Nat) : cntN P K ≤ K := by
  induction K with
  | zero => exact Nat.le_refl _
  | succ K ih => unfold cntN; have := Bool.toNat_le (P K); omega

/-- How many of the first K stand ahead of i. -/
def aheadN (l : List Nat) (i K : Nat) : Nat := cntN (fun k => rkB l k i) K
theorem aheadN_next (l : List Nat) (i K : Nat) : aheadN l i (K + 1) = aheadN l i K + (rkB l K i).toNat := rfl
theorem rkB_self (l : List Nat) (i : Nat) : rkB l i i = false := by
  rw [Bool.eq_false_iff]; intro h; exact (rkB_iff.1 h).irrefl
theorem aheadN_lt {l : List Nat} {i j n : Nat} (hi : i < n) (h : Rk l i j) : aheadN l i n < aheadN l j n :=
  cntN_lt _ _ n i hi (fun _ _ hk => rkB_iff.2 ((rkB_iff.1 hk).trans h)) (rkB_self l i) (rkB_iff.2 h)
theorem aheadN_max {l : List Nat} {i n : Nat} (hi : i < n) : aheadN l i n < n := by
  have h := cntN_lt (fun k => rkB l k i) (fun _ => true) n i hi (fun _ _ _ => rfl) (rkB_self l i) rfl
  have h2 := cntN_max (fun _ => true) n
  unfold aheadN
  omega
theorem aheadN_inj {l : List Nat} {i j n : Nat} (hi : i < n) (hj : j < n) (h : aheadN l i n = aheadN l j n) : i = j := by
  rcases Rk.total l i j with h1 | h1 | h1
  · have := aheadN_lt hi h1; omega
  · exact h1
  · have := aheadN_lt hj h1; omega
/-- Ahead of the one at p of the rank stand just p. -/
theorem Ranked.ahead {l : List Nat} {n : Nat} {f : Nat → Nat} (h : Ranked l n f) {p : Nat} (hp : p < n) : aheadN l (f p) n = p := by
  have up : ∀ p, p < n → p ≤ aheadN l (f p) n := fun p => by
    induction p with
    | zero => intro _; exact Nat.zero_le _
    | succ p ih =>
      intro hp
      have h1 := ih (by omega)
      have h2 := aheadN_lt (h.lt p (by omega)) (h.srt p (p + 1) (Nat.zero_le _) (by omega) hp)
      omega
  have down : ∀ q, q < n → aheadN l (f (n - 1 - q)) n ≤ n - 1 - q := fun q => by
    induction q with
    | zero =>
      intro hq
      have := aheadN_max (l := l) (h.lt (n - 1) (by omega))
      simp only [Nat.sub_zero]
      omega
    | succ q ih =>
      intro hq
      have h1 := ih (by omega)
      have h2 := aheadN_lt (h.lt (n - 1 - (q + 1)) (by omega)) (h.srt (n - 1 - (q + 1)) (n - 1 - q) (Nat.zero_le _) (by omega) (by omega))
      omega
  have h1 := up p hp
  have h2 := down (n - 1 - p) (by omega)
  rw [show n - 1 - (n - 1 - p) = p by omega] at h2
  omega

/-- How the test of the sort tells. -/
def rkC (l : List Nat) (x y : Nat) : Int := ordN (l.getD y 0) (l.getD x 0)
theorem rkC_tells (l : List Nat) : Tells (Rk l) (fun x y => decide (rkC l x y < 0)) := by
  refine ⟨fun x y hxy h => ?_, fun x y hxy h => ?_, fun x y z h k => h.trans k⟩
  · unfold rkC at h
    rw [ordN_neg] at h
    have h1 : keyAt l x < keyAt l y := of_decide_eq_true h
    exact Or.inl h1
  · unfold rkC at h
    rw [ordN_neg] at h
    have h1 : ¬ keyAt l x < keyAt l y := of_decide_eq_false h
    unfold Rk
    omega

end Go.Proofs.Ytjceaaononbliaa
