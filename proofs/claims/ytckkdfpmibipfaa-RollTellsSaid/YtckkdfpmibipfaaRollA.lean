/-
  A block as it is written: its view, its image, what is held; and that nothing is lost by that. Plain; no program is named here.
-/
import Derived.Test.YtckkdfpmibipfaaReadyA
namespace Go.Proofs.Ytckkdfpmibipfaa

/-- The patches of some changes, laid in order. -/
def laidC (L : List UInt8) (l : List Cg) : List UInt8 := layAll L (l.map (·.p))
theorem laidC_nil (L : List UInt8) : laidC L [] = L := rfl
theorem laidC_cons (L : List UInt8) (c : Cg) (l : List Cg) : laidC L (c :: l) = laidC (layP L c.p) l := rfl
theorem laidC_len {L : List UInt8} (l : List Cg) (hL : L.length = 256) : (laidC L l).length = 256 := layAll_len _ hL
def viewC (L : List UInt8) (l : List Cg) (block : Int) : List UInt8 := if mayC l then laidC L (ofC l block) else L
/-- Those of a block that are ready, as changes. -/
def doneC (l : List Cg) (block : Int) : List Cg := (ofC l block).filter fun c => (readyC l block).contains c.id
def imageC (L : List UInt8) (l : List Cg) (block : Int) : List UInt8 := laidC L (doneC l block)
def restC (l : List Cg) (block : Int) : List Cg := (ofC l block).filter fun c => !(readyC l block).contains c.id
def heldC (l : List Cg) (block : Int) : List Int := if mayC l then (restC l block).map (·.id) else []
/-- What is left behind a write. -/
def leftC (l : List Cg) (block : Int) : List Cg := withoutC l (readyC l block)
theorem readyC_wrong {l : List Cg} (h : mayC l = false) (block : Int) : readyC l block = [] := by unfold readyC; rw [h]; rfl
theorem leftC_wrong {l : List Cg} (h : mayC l = false) (block : Int) : leftC l block = l := by
  unfold leftC withoutC
  rw [readyC_wrong h]
  exact List.filter_eq_self.2 (fun c _ => by simp)
theorem imageC_wrong {l : List Cg} (h : mayC l = false) (L : List UInt8) (block : Int) : imageC L l block = L := by
  unfold imageC doneC
  rw [readyC_wrong h]
  have e : (ofC l block).filter (fun c => ([] : List Int).contains c.id) = [] := List.filter_eq_nil_iff.2 (fun c _ => by simp)
  rw [e]
  rfl

/-- One that meets none of some others may as well be laid behind them. -/
theorem laid_past {L : List UInt8} (hL : L.length = 256) (c : Cg) : ∀ l : List Cg, (∀ d ∈ l, meetP c.p d.p = false) → laidC (layP L c.p) l = layP (laidC L l) c.p := by
  intro l
  induction l generalizing L with
  | nil => intro _; rfl
  | cons d l ih =>
    intro h
    rw [laidC_cons, laidC_cons, lay_swap c.p d.p hL (h d (by simp))]
    exact ih (layP_len _ hL) (fun e he => h e (List.mem_cons_of_mem _ he))
theorem laidC_append (L : List UInt8) (l l' : List Cg) : laidC L (l ++ l') = laidC (laidC L l) l' := by
  unfold laidC layAll
  rw [List.map_append, List.foldl_append]
/-- Those of one kind first, then those of the other, if none of the other that stands ahead meets one. -/
theorem laid_parts (f : Cg → Bool) : ∀ (l : List Cg) (L : List UInt8), L.length = 256 → l.Pairwise (fun d c => f d = false → f c = true → meetP d.p c.p = false) →
    laidC L l = laidC (laidC L (l.filter f)) (l.filter fun c => !f c) := by
  intro l
  induction l with
  | nil => intro L _ _; rfl
  | cons c l ih =>
    intro L hL hp
    obtain ⟨h1, h2⟩ := List.pairwise_cons.1 hp
    rw [laidC_cons, ih _ (layP_len _ hL) h2]
    cases hf : f c
    · rw [List.filter_cons_of_neg (by simp [hf]), List.filter_cons_of_pos (by simp [hf]), laidC_cons]
      rw [laid_past hL c _ (fun d hd => by
        obtain ⟨hd1, hd2⟩ := List.mem_filter.1 hd
        exact h1 d hd1 hf hd2)]
    · rw [List.filter_cons_of_pos hf, List.filter_cons_of_neg (by simp [hf]), laidC_cons]

/-- Of a block: what is held does not meet what is ready behind it. -/
theorem held_far {l : List Cg} {block : Int} (hm : mayC l = true) : (ofC l block).Pairwise fun d c => (readyC l block).contains d.id = false → (readyC l block).contains c.id = true → meetP d.p c.p = false := by
  have key : ∀ p c q, l = p ++ c :: q → c.block = block → (readyC l block).contains c.id = true → ∀ d ∈ p, d.block = block → (readyC l block).contains d.id = false → meetP d.p c.p = false := by
    intro p c q hl hcb hc d hd hdb hdr
    have hmem : c.id ∈ readyC l block := by simpa using hc
    obtain ⟨p', c', q', h1, h2, _, h4⟩ := readyC_spec hm _ hmem
    have s1 := splitId_mid hm hl
    have s2 := splitId_mid hm h1
    rw [h2, s1] at s2
    injection s2 with s2
    simp only [Prod.mk.injEq] at s2
    obtain ⟨rfl, rfl⟩ := s2
    cases hmt : meetP d.p c.p
    · rfl
    · have hk : keepsB d c = true := by unfold keepsB; rw [hmt, decide_eq_true (by rw [hdb, hcb])]; rfl
      have := h4 d hd hk
      rw [show (readyC l block).contains d.id = true by simpa using this] at hdr
      cases hdr
  have gen : ∀ (t p : List Cg), l = p ++ t → (t.filter fun c => decide (c.block = block)).Pairwise fun d c => (readyC l block).contains d.id = false → (readyC l block).contains c.id = true → meetP d.p c.p = false := by
    intro t
    induction t with
    | nil => intro p _; exact List.Pairwise.nil
    | cons d t ih =>
      intro p hl
      have h5 := ih (p ++ [d]) (by rw [hl]; simp)
      rw [List.filter_cons]
      split
      · rename_i hd
        refine List.pairwise_cons.2 ⟨fun c hc hdr hcr => ?_, h5⟩
        obtain ⟨hc1, hc2⟩ := List.mem_filter.1 hc
        obtain ⟨u, v, rfl⟩ := List.append_of_mem hc1
        exact key (p ++ d :: u) c v (by rw [hl]; simp) (by simpa using hc2) hcr d (by simp) (by simpa using hd) hdr
      · exact h5
  exact gen l [] rfl
/-- What is left of a block is what is held of it. -/
theorem ofC_left {l : List Cg} {block : Int} : ofC (leftC l block) block = restC l block := by
  unfold ofC leftC restC withoutC ofC
  rw [List.filter_filter, List.filter_filter]
  congr 1
  funext c
  rw [Bool.and_comm]
/-- 10.4: nothing is lost. -/
theorem view_keeps {L : List UInt8} (hL : L.length = 256) (l : List Cg) (block : Int) : viewC (imageC L l block) (leftC l block) block = viewC L l block := by
  cases hm : mayC l
  · rw [leftC_wrong hm, imageC_wrong hm]
  · unfold viewC
    rw [hm, if_pos rfl, show mayC (leftC l block) = true from withoutC_may _ hm, if_pos rfl, ofC_left]
    unfold imageC doneC restC
    exact (laid_parts (fun c => (readyC l block).contains c.id) (ofC l block) L hL (held_far hm)).symm
/-- .. of another block nothing is written. -/
theorem ofC_other {l : List Cg} {block b' : Int} (hm : mayC l = true) (hb : b' ≠ block) : ofC (leftC l block) b' = ofC l b' := by
  unfold ofC leftC withoutC
  rw [List.filter_filter]
  apply List.filter_congr
  intro c hc
  by_cases h : c.block = b'
  · have hn : c.id ∉ readyC l block := fun hin => by
      obtain ⟨p, d, q, h1, h2, h3, _⟩ := readyC_spec hm _ hin
      have hd : d ∈ l := by rw [h1]; simp
      have := may_id hm hd hc h2
      subst this
      exact hb (h.symm.trans h3)
    simp [h, hn]
  · simp [h]
theorem view_other (L : List UInt8) (l : List Cg) {block b' : Int} (hb : b' ≠ block) : viewC L (leftC l block) b' = viewC L l b' := by
  cases hm : mayC l
  · rw [leftC_wrong hm]
  · unfold viewC
    rw [hm, if_pos rfl, show mayC (leftC l block) = true from withoutC_may _ hm, if_pos rfl, ofC_other hm hb]

/-! 10.5 -/
/-- readyGo has all that it can have: one whose keepers are all there is there. -/
theorem readyGo_full (block : Int) : ∀ (l pre : List Cg) (out : List Int) (b : Int), mayN b (pre ++ l) = true → ∀ p c q, pre ++ l = p ++ c :: q → pre.length ≤ p.length → c.block = block → (∀ d ∈ p, keepsB d c = true → d.id ∈ readyGo block pre out l) → c.id ∈ readyGo block pre out l := by
  intro l
  induction l with
  | nil =>
    intro pre out b _ p c q hl hlen
    have h := congrArg List.length hl
    simp at h
    omega
  | cons e l ih =>
    intro pre out b hm p c q hl hlen hcb hk
    by_cases hp : pre.length = p.length
    · have hpe : pre = p ∧ e :: l = c :: q := List.append_inj hl hp
      obtain ⟨rfl, h2⟩ := hpe
      injection h2 with h2 h3
      subst h2; subst h3
      -- c is the next one: all that keep it back are in 'out'
      unfold readyGo at hk ⊢
      by_cases hc : e.block = block ∧ ((pre.filter fun d => keepsB d e).all fun d => out.contains d.id) = true
      · rw [if_pos hc]
        obtain ⟨t, h5, _⟩ := readyGo_more block l (pre ++ [e]) (out ++ [e.id])
        rw [h5]
        simp
      · exfalso
        rw [if_neg hc] at hk
        refine hc ⟨hcb, List.all_eq_true.2 fun d hd => ?_⟩
        obtain ⟨hd1, hd2⟩ := List.mem_filter.1 hd
        have h6 := hk d hd1 hd2
        obtain ⟨t, h7, h8⟩ := readyGo_more block l (pre ++ [e]) out
        rw [h7] at h6
        rcases List.mem_append.1 h6 with h6 | h6
        · simpa using h6
        · exfalso
          have h9 := h8.subset h6
          obtain ⟨x, hx, hxe⟩ := List.mem_map.1 h9
          have hdd : d = x := may_id hm (List.mem_append.2 (Or.inl hd1)) (List.mem_append.2 (Or.inr (List.mem_cons_of_mem _ hx))) hxe.symm
          subst hdd
          -- d stands on both sides
          obtain ⟨u, v, rfl⟩ := List.append_of_mem hd1
          have hm' := hm
          rw [List.append_assoc, List.cons_append] at hm'
          have hs := splitId_mid hm' (pre := u) (c := d) (post := v ++ e :: l) rfl
          obtain ⟨u2, v2, rfl⟩ := List.append_of_mem hx
          have hs2 := splitId_mid hm' (pre := u ++ d :: (v ++ e :: u2)) (c := d) (post := v2) (by simp)
          rw [hs] at hs2
          injection hs2 with hs2
          simp only [Prod.mk.injEq] at hs2
          have := congrArg List.length hs2.1
          simp at this
    · have hl' : (pre ++ [e]) ++ l = p ++ c :: q := by rw [List.append_assoc]; exact hl
      have hm' : mayN b ((pre ++ [e]) ++ l) = true := by rw [List.append_assoc]; exact hm
      unfold readyGo at hk ⊢
      split
      · rename_i hc
        rw [if_pos hc] at hk
        exact ih (pre ++ [e]) _ b hm' p c q hl' (by simp; omega) hcb hk
      · rename_i hc
        rw [if_neg hc] at hk
        exact ih (pre ++ [e]) _ b hm' p c q hl' (by simp; omega) hcb hk
theorem readyC_full {l : List Cg} {block : Int} (hm : mayC l = true) {p q : List Cg} {c : Cg} (hl : l = p ++ c :: q) (hcb : c.block = block) (hk : ∀ d ∈ p, keepsB d c = true → d.id ∈ readyC l block) : c.id ∈ readyC l block := by
  unfold readyC at hk ⊢
  rw [if_pos hm] at hk ⊢
  exact readyGo_full block l [] [] 0 hm p c q hl (Nat.zero_le _) hcb hk
/-- The first that readyGo finds is kept back by none. -/
theorem readyGo_head (block : Int) : ∀ (l pre : List Cg) x t, readyGo block pre [] l = x :: t → ∃ p c q, pre ++ l = p ++ c :: q ∧ c.id = x ∧ c.block = block ∧ ∀ d ∈ p, keepsB d c = false := by
  intro l
  induction l with
  | nil => intro pre x t h; cases h
  | cons e l ih =>
    intro pre x t h
    unfold readyGo at h
    by_cases hc : e.block = block ∧ ((pre.filter fun d => keepsB d e).all fun d => ([] : List Int).contains d.id) = true
    · rw [if_pos hc] at h
      obtain ⟨t', h1, _⟩ := readyGo_more block l (pre ++ [e]) ([] ++ [e.id])
      rw [h1] at h
      have hx : e.id = x := by simpa using congrArg List.head? h
      refine ⟨pre, e, l, rfl, hx, hc.1, fun d hd => ?_⟩
      cases hk : keepsB d e
      · rfl
      · have := List.all_eq_true.1 hc.2 d (List.mem_filter.2 ⟨hd, hk⟩)
        simp at this
    · rw [if_neg hc] at h
      obtain ⟨p, c, q, h1, h2⟩ := ih (pre ++ [e]) x t h
      exact ⟨p, c, q, by rw [← h1]; simp, h2⟩
/-- Written again at once, nothing more is ready. -/
theorem ready_left {l : List Cg} {block : Int} : readyC (leftC l block) block = [] := by
  cases hm : mayC l
  · rw [leftC_wrong hm, readyC_wrong hm]
  · have hm2 : mayC (leftC l block) = true := withoutC_may _ hm
    cases hr : readyC (leftC l block) block with
    | nil => rfl
    | cons x t =>
      exfalso
      have hr' := hr
      unfold readyC at hr'
      rw [if_pos hm2] at hr'
      obtain ⟨p, c, q, h1, h2, h3, h4⟩ := readyGo_head block _ _ _ _ hr'
      rw [List.nil_append] at h1
      have hcl : c ∈ leftC l block := by rw [h1]; simp
      obtain ⟨hc1, hc2⟩ := List.mem_filter.1 hcl
      obtain ⟨u, v, huv⟩ := List.append_of_mem hc1
      have hleft : leftC l block = (u.filter fun c => !(readyC l block).contains c.id) ++ c :: (v.filter fun c => !(readyC l block).contains c.id) := by
        have e : leftC l block = l.filter fun c => !(readyC l block).contains c.id := rfl
        rw [e]
        conv => lhs; arg 2; rw [huv]
        rw [List.filter_append, List.filter_cons, if_pos hc2]
      have s1 := splitId_mid hm2 h1
      have s2 := splitId_mid hm2 hleft
      rw [s1] at s2
      injection s2 with s2
      simp only [Prod.mk.injEq] at s2
      have hin : c.id ∈ readyC l block := readyC_full hm huv h3 fun d hd hk => by
        by_cases hdr : d.id ∈ readyC l block
        · exact hdr
        · exfalso
          have hdp : d ∈ p := by
            rw [s2.1]
            exact List.mem_filter.2 ⟨hd, by simpa using hdr⟩
          have := h4 d hdp
          rw [hk] at this
          cases this
      have : (readyC l block).contains c.id = true := by simpa using hin
      rw [this] at hc2
      cases hc2
theorem left_left {l : List Cg} {block : Int} : leftC (leftC l block) block = leftC l block := by
  have e : leftC (leftC l block) block = (leftC l block).filter fun c => !(readyC (leftC l block) block).contains c.id := rfl
  rw [e, ready_left]
  exact List.filter_eq_self.2 (fun c _ => by simp)
theorem image_left (L : List UInt8) (l : List Cg) (block : Int) : imageC L (leftC l block) block = L := by
  unfold imageC doneC
  rw [ready_left]
  have e : (ofC (leftC l block) block).filter (fun c => ([] : List Int).contains c.id) = [] := List.filter_eq_nil_iff.2 (fun c _ => by simp)
  rw [e]
  rfl
theorem held_left {l : List Cg} {block : Int} : heldC (leftC l block) block = heldC l block := by
  cases hm : mayC l
  · rw [leftC_wrong hm]
  · have hm2 : mayC (leftC l block) = true := withoutC_may _ hm
    unfold heldC
    rw [hm, hm2, if_pos rfl, if_pos rfl]
    congr 1
    have e : restC (leftC l block) block = (ofC (leftC l block) block).filter fun c => !(readyC (leftC l block) block).contains c.id := rfl
    rw [e, ready_left, ofC_left]
    exact List.filter_eq_self.2 (fun c _ => by simp)
/-- If nothing is held, the image is the view. -/
theorem image_all {l : List Cg} {block : Int} (L : List UInt8) (h : heldC l block = []) : imageC L l block = viewC L l block := by
  cases hm : mayC l
  · rw [imageC_wrong hm]
    unfold viewC
    rw [hm]
    rfl
  · unfold heldC at h
    rw [hm, if_pos rfl] at h
    have h0 : restC l block = [] := List.map_eq_nil_iff.1 h
    unfold viewC imageC
    rw [hm, if_pos rfl]
    congr 1
    unfold doneC
    refine List.filter_eq_self.2 fun c hc => ?_
    cases hr : (readyC l block).contains c.id
    · have : c ∈ restC l block := List.mem_filter.2 ⟨hc, by rw [hr]; rfl⟩
      rw [h0] at this
      simp at this
    · rfl

end Go.Proofs.Ytckkdfpmibipfaa
