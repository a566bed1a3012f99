/-
  A region that draws its order and ends in one operation z (a store, say) behind which S need not hold: what hangs on S alone is taken first, where z waits for it. Plain; no program is named here.
-/
import Derived.Test.YtfhghcodhacneaaGrC
namespace Go.Proofs.Ytfhghcodhacneaa
open Go.RowKit

section
variable {P : Program} {ops : Array Oper} {Q : Exit → Act → World → Prop} {S : World → Prop} {z : Nat}

/-- Whatever comes up next; behind each but z, S holds. -/
def wpAnyT (P : Program) (ops : Array Oper) (Q : Exit → Act → World → Prop) (S : World → Prop) (z : Nat) : Nat → Array Bool → Act → World → Prop
  | 0, listed, a, w => Region.ready .any ops listed = [] ∧ Q .normal a w
  | fuel + 1, listed, a, w => (Region.ready .any ops listed = [] → Q .normal a w) ∧ ∀ i ∈ Region.ready .any ops listed, wpOp P ops Q i (fun a' w' => (i = z ∨ S w') ∧ wpAnyT P ops Q S z fuel (listed.setIfInBounds i true) a' w') a w
theorem wpAny_of_tail : ∀ (fuel : Nat) (listed : Array Bool) (a : Act) (w : World), wpAnyT P ops Q S z fuel listed a w → wpAny P .any ops Q fuel listed a w := by
  intro fuel
  induction fuel with
  | zero => intro listed a w h; exact h
  | succ fuel ih => intro listed a w h; exact ⟨h.1, fun i hi => wpOp_mono (fun a' w' h' => ih _ a' w' h'.2) (h.2 i hi)⟩
/-- One that waits for i. -/
def waitsOn (ops : Array Oper) (i j : Nat) : Bool := match ops[j]? with
  | some o => o.after.any fun e => Region.binds .any e && e.on == i
  | none => false
/-- None of a row from i to z has come up, each waiting for the one ahead of it. -/
def aheadB (ops : Array Oper) (listed : Array Bool) (z : Nat) : Nat → Nat → Bool
  | 0, _ => false
  | f + 1, i => !(listed.getD i true) && ((i == z) || (List.range ops.size).any fun j => waitsOn ops i j && aheadB ops listed z f j)
theorem not_ready_of_waits {listed : Array Bool} {i j : Nat} (hw : waitsOn ops i j = true) (hi : listed.getD i true = false) : j ∉ Region.ready .any ops listed := by
  intro hj
  obtain ⟨_, o, ho, hall⟩ := mem_ready.1 hj
  unfold waitsOn at hw
  rw [ho] at hw
  obtain ⟨e, he, hb⟩ := Array.any_eq_true'.1 hw
  rw [Bool.and_eq_true, beq_iff_eq] at hb
  have h1 := hall e he hb.1
  rw [hb.2] at h1
  rcases Nat.lt_or_ge i listed.size with h' | h'
  · simp [h'] at hi h1; rw [hi] at h1; cases h1
  · simp [Array.getElem?_eq_none h'] at h1
theorem ahead_step {listed : Array Bool} {j : Nat} (hj : j ∈ Region.ready .any ops listed) : ∀ (f i : Nat), aheadB ops listed z f i = true → j ≠ i → aheadB ops (listed.setIfInBounds j true) z f i = true ∧ j ≠ z := by
  intro f
  induction f with
  | zero => intro i h _; cases h
  | succ f ih =>
    intro i h hne
    unfold aheadB at h
    rw [Bool.and_eq_true, Bool.not_eq_true', Bool.or_eq_true] at h
    have h0 : (listed.setIfInBounds j true).getD i true = false := by rw [getD_set_ne true hne]; exact h.1
    rcases h.2 with h2 | h2
    · have e : i = z := by simpa using h2
      refine ⟨?_, fun e2 => hne (e2.trans e.symm)⟩
      unfold aheadB
      rw [h0, h2]
      rfl
    · rw [List.any_eq_true] at h2
      obtain ⟨k, hk, hkk⟩ := h2
      rw [Bool.and_eq_true] at hkk
      have hjk : j ≠ k := fun e => not_ready_of_waits hkk.1 h.1 (e ▸ hj)
      obtain ⟨h3, h4⟩ := ih k hkk.2 hjk
      refine ⟨?_, h4⟩
      unfold aheadB
      rw [h0, Bool.not_false, Bool.true_and, Bool.or_eq_true]
      exact Or.inr (List.any_eq_true.2 ⟨k, hk, by rw [hkk.1, h3]; rfl⟩)
/-- One that may come up now, and that z waits for, may be taken first. -/
theorem wpAnyT_first {i : Nat} {oi : Oper} {v : Value} (hi : ops[i]? = some oi) (hsel : ∀ (j : Nat) (o : Oper) cs b, ops[j]? = some o → o.op ≠ .select cs b)
    (hQ : ∀ c a w, Q (.panic c) (a.put oi.dst v) w → Q (.panic c) a w) (F : Nat) : ∀ (fuel : Nat) (listed : Array Bool) (a : Act) (w : World), aheadB ops listed z F i = true →
      (∀ j oj, ops[j]? = some oj → j ≠ i → listed.getD j true = false → (∀ e ∈ oj.after, Region.binds .any e = true → e.on ≠ i) → oi.apart ops oj = true) →
      i ∈ Region.ready .any ops listed → YieldsIf P ops S oi v a → S w → wpAnyT P ops Q S z fuel (listed.setIfInBounds i true) (a.put oi.dst v) w → wpAnyT P ops Q S z (fuel + 1) listed a w := by
  intro fuel
  induction fuel with
  | zero =>
    intro listed a w _ _ hr hy hS H
    refine ⟨fun h => (by rw [h] at hr; cases hr), fun j hj => ?_⟩
    by_cases hji : j = i
    · subst hji
      exact hy.wpOp hi hS ⟨Or.inr hS, H⟩
    · have := ready_mono hj hji
      rw [H.1] at this
      cases this
  | succ fuel ih =>
    intro listed a w ha hfree hr hy hS H
    refine ⟨fun h => (by rw [h] at hr; cases hr), fun j hj => ?_⟩
    by_cases hji : j = i
    · subst hji
      exact hy.wpOp hi hS ⟨Or.inr hS, H⟩
    · obtain ⟨ha2, hjz⟩ := ahead_step hj F i ha hji
      obtain ⟨hjun, oj, hoj, hall⟩ := mem_ready.1 hj
      have hnot : ∀ e ∈ oj.after, Region.binds .any e = true → e.on ≠ i := fun e he hb heq => by
        have h1 := hall e he hb
        have h0 := (mem_ready.1 hr).1
        rw [heq] at h1
        rcases Nat.lt_or_ge i listed.size with h' | h'
        · simp [h'] at h0 h1; rw [h0] at h1; cases h1
        · simp [Array.getElem?_eq_none h'] at h1
      have h2 := wpOp_putIf hoj (hfree j oj hoj hji hjun hnot) (fun cs b => hsel i oi cs b hi) (fun cs b => hsel j oj cs b hoj) hQ hy (H.2 j (ready_mono hj hji))
      have hfree' : ∀ k ok, ops[k]? = some ok → k ≠ i → (listed.setIfInBounds j true).getD k true = false → (∀ e ∈ ok.after, Region.binds .any e = true → e.on ≠ i) → oi.apart ops ok = true := fun k ok hk hki hun hno => by
        refine hfree k ok hk hki ?_ hno
        by_cases hjk : j = k
        · subst hjk; exact hjun
        · rw [getD_set_ne true hjk] at hun; exact hun
      refine wpOp_mono (fun a' w' h3 => ?_) h2
      have hS3 := h3.2.1.resolve_left hjz
      refine ⟨Or.inr hS3, ih (listed.setIfInBounds j true) a' w' ha2 hfree' (ready_mono hr (Ne.symm hji)) h3.1 hS3 ?_⟩
      rw [Array.setIfInBounds_comm _ _ hji]
      exact h3.2.2
end

section
variable {P : Program} {l : List Oper} {Q : Exit → Act → World → Prop} {S : World → Prop} {z : Nat} {listed : List Bool} {n : Nat} {a : Act} {w : World}
/-- What is left of the region. -/
def WT (P : Program) (l : List Oper) (Q : Exit → Act → World → Prop) (S : World → Prop) (z : Nat) (listed : List Bool) (n : Nat) (a : Act) (w : World) : Prop :=
  wpAnyT P l.toArray Q S z n listed.toArray a w
theorem WT.start {id : Nat} (z : Nat) (listed : List Bool) (n : Nat) (hl : listed = List.replicate l.length false) (hn : l.length = n) (hm : P.follows .mixedOrders = true) (hS : S w.drew) (h : S w.drew → WT P l Q S z listed n a w.drew) : (Code.region id l.toArray true).wp P Q a w := by
  have h' := h hS
  subst hl; subst hn
  have e : (List.replicate l.length false).toArray = Array.replicate l.toArray.size false := by simp
  unfold WT at h'
  rw [e] at h'
  exact wp_region_any hm (wpAny_of_tail _ _ _ _ (by simpa using h'))
/-- The side conditions of a take, one Bool. -/
def takesT (l : List Oper) (listed : List Bool) (z i : Nat) : Bool := takes l listed i && aheadB l.toArray listed.toArray z l.length i
theorem WT.take (i : Nat) (o : Oper) (v : Value) (hi : l[i]? = some o) (ht : takesT l listed z i = true) (hQ : ∀ c a w, Q (.panic c) (a.put o.dst v) w → Q (.panic c) a w)
    (hw : Region.wanted o (yielded l.toArray a.tmps) = true) (hS : S w) (hy : ∀ w, S w → (execOp a.eval o).run P w = .ok (.value v) w)
    (h : WT P l Q S z (listed.set i true) n (a.put o.dst v) w) : WT P l Q S z listed (n + 1) a w := by
  simp only [takesT, takes, Bool.and_eq_true] at ht
  have hi' : l.toArray[i]? = some o := by simpa using hi
  refine wpAnyT_first (oi := o) (v := v) hi' (Region.noSelect_spec ht.1.1.1) hQ l.length n _ a w ht.2 (Region.free_spec hi' ht.1.1.2) (by simpa using ht.1.2) (Or.inl ⟨hw, hy⟩) hS ?_
  unfold WT at h
  simpa using h
/-- .. with what is the same at every place laid in. -/
theorem WT.tk {v : Value} (i : Nat) {o : Oper} (h : WT P l Q S z (listed.set i true) n (a.put o.dst v) w) (hi : l[i]? = some o := by exact rfl) (ht : takesT l listed z i = true := by kernel_rfl) (hQ : ∀ c a w, Q (.panic c) (a.put o.dst v) w → Q (.panic c) a w := by exact fun _ _ _ h => h)
    (hw : Region.wanted o (yielded l.toArray a.tmps) = true := by exact rfl) (hS : S w := by assumption) (hy : ∀ w, S w → (execOp a.eval o).run P w = .ok (.value v) w := by intro w hSw; (try dsimp only at hSw); first | (go_simp; done) | (go_simp; with_reducible rfl)) : WT P l Q S z listed (n + 1) a w :=
  WT.take i o v hi ht hQ hw hS hy h
theorem WT.tv {v : Value} (i : Nat) {o : Oper} (hi : l[i]? = some o) (hy : ∀ w, S w → (execOp a.eval o).run P w = .ok (.value v) w) (h : WT P l Q S z (listed.set i true) n (a.put o.dst v) w) (ht : takesT l listed z i = true := by kernel_rfl) (hQ : ∀ c a w, Q (.panic c) (a.put o.dst v) w → Q (.panic c) a w := by exact fun _ _ _ h => h)
    (hw : Region.wanted o (yielded l.toArray a.tmps) = true := by exact rfl) (hS : S w := by assumption) : WT P l Q S z listed (n + 1) a w :=
  WT.take i o v hi ht hQ hw hS hy h
theorem WT.all {rs : List Nat} (hr : Region.ready .any l.toArray listed.toArray = rs) (hne : rs ≠ [])
    (h : ∀ i ∈ rs, wpOp P l.toArray Q i (fun a' w' => (i = z ∨ S w') ∧ wpAnyT P l.toArray Q S z n (listed.toArray.setIfInBounds i true) a' w') a w) : WT P l Q S z listed (n + 1) a w :=
  ⟨fun h0 => absurd (hr ▸ h0) hne, hr ▸ h⟩
/-- The only one that may come up. -/
theorem WT.only (i : Nat) (o : Oper) (hi : l[i]? = some o) (hr : Region.ready .any l.toArray listed.toArray = [i]) (hw : Region.wanted o (yielded l.toArray a.tmps) = true)
    (h : ∀ K : Act → World → Prop, (∀ a' w', S w' → WT P l Q S z (listed.set i true) n a' w' → K a' w') → o.wp P a w K Q) : WT P l Q S z listed (n + 1) a w := by
  refine WT.all (rs := [i]) hr (by simp) fun j hj => ?_
  obtain rfl : j = i := by simpa using hj
  have hi' : l.toArray[j]? = some o := by simpa using hi
  unfold Go.wpOp
  simp only [hi', hw, if_true]
  refine Or.inl (h _ fun a' w' h1 h2 => ⟨Or.inr h1, ?_⟩)
  unfold WT at h2
  simpa using h2
/-- .. the last one. -/
theorem WT.last (o : Oper) (hi : l[z]? = some o) (hr : Region.ready .any l.toArray listed.toArray = [z]) (hw : Region.wanted o (yielded l.toArray a.tmps) = true)
    (h : ∀ K : Act → World → Prop, (∀ a' w', WT P l Q S z (listed.set z true) n a' w' → K a' w') → o.wp P a w K Q) : WT P l Q S z listed (n + 1) a w := by
  refine WT.all (rs := [z]) hr (by simp) fun j hj => ?_
  obtain rfl : j = z := by simpa using hj
  have hi' : l.toArray[j]? = some o := by simpa using hi
  unfold Go.wpOp
  simp only [hi', hw, if_true]
  refine Or.inl (h _ fun a' w' h2 => ⟨Or.inl (by first | rfl | trivial), ?_⟩)
  unfold WT at h2
  simpa using h2
theorem WT.two (i j : Nat) (oi oj : Oper) (hi : l[i]? = some oi) (hj : l[j]? = some oj) (hr : Region.ready .any l.toArray listed.toArray = [i, j]) (hwi : Region.wanted oi (yielded l.toArray a.tmps) = true) (hwj : Region.wanted oj (yielded l.toArray a.tmps) = true)
    (h1 : ∀ K : Act → World → Prop, (∀ a' w', S w' → WT P l Q S z (listed.set i true) n a' w' → K a' w') → oi.wp P a w K Q)
    (h2 : ∀ K : Act → World → Prop, (∀ a' w', S w' → WT P l Q S z (listed.set j true) n a' w' → K a' w') → oj.wp P a w K Q) : WT P l Q S z listed (n + 1) a w := by
  refine WT.all (rs := [i, j]) hr (by simp) fun k hk => ?_
  have hi' : l.toArray[i]? = some oi := by simpa using hi
  have hj' : l.toArray[j]? = some oj := by simpa using hj
  have hk' : k = i ∨ k = j := by simpa using hk
  rcases hk' with rfl | rfl
  · unfold Go.wpOp
    simp only [hi', hwi, if_true]
    refine Or.inl (h1 _ fun a' w' g1 g2 => ⟨Or.inr g1, ?_⟩)
    unfold WT at g2
    simpa using g2
  · unfold Go.wpOp
    simp only [hj', hwj, if_true]
    refine Or.inl (h2 _ fun a' w' g1 g2 => ⟨Or.inr g1, ?_⟩)
    unfold WT at g2
    simpa using g2
theorem WT.done (hr : Region.ready .any l.toArray listed.toArray = []) (h : Q .normal a w) : WT P l Q S z listed n a w := by
  unfold WT
  cases n with
  | zero => exact ⟨hr, h⟩
  | succ n => exact ⟨fun _ => h, by rw [hr]; simp⟩
end

end Go.Proofs.Ytfhghcodhacneaa
