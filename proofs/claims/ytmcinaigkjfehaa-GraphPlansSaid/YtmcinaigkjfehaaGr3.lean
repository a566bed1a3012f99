/-
  Texts of this claim joined: RollA, GraphA, GraphB, SchedA, ReadyD, GraphC, WaitA.
-/
import Derived.Test.YtmcinaigkjfehaaGr2

/-
  A block as it is written: its view, its image, what is held; and that nothing is lost by that. Plain; no program is named here.
-/
namespace Go.Proofs.Ytmcinaigkjfehaa

/-- The patches of some changes, laid in order. -/
def laidC (L : List UInt8) (l : List Cg) : List UInt8 := layAll L (l.map (·.p))
theorem laidC_nil (L : List UInt8) : laidC L [] = L := rfl
theorem laidC_cons (L : List UInt8) (c : Cg) (l : List Cg) : laidC L (c :: l) = laidC (layP L c.p) l := rfl
theorem laidC_len {L : List UInt8} (l : List Cg) (hL : L.length = 256) : (laidC L l).length = 256 := layAll_len _ hL
def viewC (L : List UInt8) (l : List Cg) (block : Int) : List UInt8 := if mayC l then laidC L (ofC l block) else L
/-- Those of a block that are ready, as changes. -/
def doneC (l : List Cg) (block : Int) : List Cg := (ofC l block).filter fun c => (readyC l block).contains c.id
def imageC (L : List UInt8) (l : List Cg) (block : Int) : List UInt8 := laidC L (doneC l block)
def restC (l : List Cg) (block : Int) : List Cg := (ofC l block).filter fun c => !(readyC l block).contains c.id
def heldC (l : List Cg) (block : Int) : List Int := if mayC l then (restC l block).map (·.id) else []
/-- What is left behind a write. -/
def leftC (l : List Cg) (block : Int) : List Cg := withoutC l (readyC l block)
theorem readyC_wrong {l : List Cg} (h : mayC l = false) (block : Int) : readyC l block = [] := by unfold readyC; rw [h]; rfl
theorem leftC_wrong {l : List Cg} (h : mayC l = false) (block : Int) : leftC l block = l := by
  unfold leftC withoutC
  rw [readyC_wrong h]
  exact List.filter_eq_self.2 (fun c _ => by simp)
theorem imageC_wrong {l : List Cg} (h : mayC l = false) (L : List UInt8) (block : Int) : imageC L l block = L := by
  unfold imageC doneC
  rw [readyC_wrong h]
  have e : (ofC l block).filter (fun c => ([] : List Int).contains c.id) = [] := List.filter_eq_nil_iff.2 (fun c _ => by simp)
  rw [e]
  rfl

/-- One that meets none of some others may as well be laid behind them. -/
theorem laid_past {L : List UInt8} (hL : L.length = 256) (c : Cg) : ∀ l : List Cg, (∀ d ∈ l, meetP c.p d.p = false) → laidC (layP L c.p) l = layP (laidC L l) c.p := by
  intro l
  induction l generalizing L with
  | nil => intro _; rfl
  | cons d l ih =>
    intro h
    rw [laidC_cons, laidC_cons, lay_swap c.p d.p hL (h d (by simp))]
    exact ih (layP_len _ hL) (fun e he => h e (List.mem_cons_of_mem _ he))
theorem laidC_append (L : List UInt8) (l l' : List Cg) : laidC L (l ++ l') = laidC (laidC L l) l' := by
  unfold laidC layAll
  rw [List.map_append, List.foldl_append]
/-- Those of one kind first, then those of the other, if none of the other that stands ahead meets one. -/
theorem laid_parts (f : Cg → Bool) : ∀ (l : List Cg) (L : List UInt8), L.length = 256 → l.Pairwise (fun d c => f d = false → f c = true → meetP d.p c.p = false) →
    laidC L l = laidC (laidC L (l.filter f)) (l.filter fun c => !f c) := by
  intro l
  induction l with
  | nil => intro L _ _; rfl
  | cons c l ih =>
    intro L hL hp
    obtain ⟨h1, h2⟩ := List.pairwise_cons.1 hp
    rw [laidC_cons, ih _ (layP_len _ hL) h2]
    cases hf : f c
    · rw [List.filter_cons_of_neg (by simp [hf]), List.filter_cons_of_pos (by simp [hf]), laidC_cons]
      rw [laid_past hL c _ (fun d hd => by
        obtain ⟨hd1, hd2⟩ := List.mem_filter.1 hd
        exact h1 d hd1 hf hd2)]
    · rw [List.filter_cons_of_pos hf, List.filter_cons_of_neg (by simp [hf]), laidC_cons]

/-- Of a block: what is held does not meet what is ready behind it. -/
theorem held_far {l : List Cg} {block : Int} (hm : mayC l = true) : (ofC l block).Pairwise fun d c => (readyC l block).contains d.id = false → (readyC l block).contains c.id = true → meetP d.p c.p = false := by
  have key : ∀ p c q, l = p ++ c :: q → c.block = block → (readyC l block).contains c.id = true → ∀ d ∈ p, d.block = block → (readyC l block).contains d.id = false → meetP d.p c.p = false := by
    intro p c q hl hcb hc d hd hdb hdr
    have hmem : c.id ∈ readyC l block := by simpa using hc
    obtain ⟨p', c', q', h1, h2, _, h4⟩ := readyC_spec hm _ hmem
    have s1 := splitId_mid hm hl
    have s2 := splitId_mid hm h1
    rw [h2, s1] at s2
    injection s2 with s2
    simp only [Prod.mk.injEq] at s2
    obtain ⟨rfl, rfl⟩ := s2
    cases hmt : meetP d.p c.p
    · rfl
    · have hk : keepsB d c = true := by unfold keepsB; rw [hmt, decide_eq_true (by rw [hdb, hcb])]; rfl
      have := h4 d hd hk
      rw [show (readyC l block).contains d.id = true by simpa using this] at hdr
      cases hdr
  have gen : ∀ (t p : List Cg), l = p ++ t → (t.filter fun c => decide (c.block = block)).Pairwise fun d c => (readyC l block).contains d.id = false → (readyC l block).contains c.id = true → meetP d.p c.p = false := by
    intro t
    induction t with
    | nil => intro p _; exact List.Pairwise.nil
    | cons d t ih =>
      intro p hl
      have h5 := ih (p ++ [d]) (by rw [hl]; simp)
      rw [List.filter_cons]
      split
      · rename_i hd
        refine List.pairwise_cons.2 ⟨fun c hc hdr hcr => ?_, h5⟩
        obtain ⟨hc1, hc2⟩ := List.mem_filter.1 hc
        obtain ⟨u, v, rfl⟩ := List.append_of_mem hc1
        exact key (p ++ d :: u) c v (by rw [hl]; simp) (by simpa using hc2) hcr d (by simp) (by simpa using hd) hdr
      · exact h5
  exact gen l [] rfl
/-- What is left of a block is what is held of it. -/
theorem ofC_left {l : List Cg} {block : Int} : ofC (leftC l block) block = restC l block := by
  unfold ofC leftC restC withoutC ofC
  rw [List.filter_filter, List.filter_filter]
  congr 1
  funext c
  rw [Bool.and_comm]
/-- 10.4: nothing is lost. -/
theorem view_keeps {L : List UInt8} (hL : L.length = 256) (l : List Cg) (block : Int) : viewC (imageC L l block) (leftC l block) block = viewC L l block := by
  cases hm : mayC l
  · rw [leftC_wrong hm, imageC_wrong hm]
  · unfold viewC
    rw [hm, if_pos rfl, show mayC (leftC l block) = true from withoutC_may _ hm, if_pos rfl, ofC_left]
    unfold imageC doneC restC
    exact (laid_parts (fun c => (readyC l block).contains c.id) (ofC l block) L hL (held_far hm)).symm
/-- .. of another block nothing is written. -/
theorem ofC_other {l : List Cg} {block b' : Int} (hm : mayC l = true) (hb : b' ≠ block) : ofC (leftC l block) b' = ofC l b' := by
  unfold ofC leftC withoutC
  rw [List.filter_filter]
  apply List.filter_congr
  intro c hc
  by_cases h : c.block = b'
  · have hn : c.id ∉ readyC l block := fun hin => by
      obtain ⟨p, d, q, h1, h2, h3, _⟩ := readyC_spec hm _ hin
      have hd : d ∈ l := by rw [h1]; simp
      have := may_id hm hd hc h2
      subst this
      exact hb (h.symm.trans h3)
    simp [h, hn]
  · simp [h]
theorem view_other (L : List UInt8) (l : List Cg) {block b' : Int} (hb : b' ≠ block) : viewC L (leftC l block) b' = viewC L l b' := by
  cases hm : mayC l
  · rw [leftC_wrong hm]
  · unfold viewC
    rw [hm, if_pos rfl, show mayC (leftC l block) = true from withoutC_may _ hm, if_pos rfl, ofC_other hm hb]

/-! 10.5 -/
/-- readyGo has all that it can have: one whose keepers are all there is there. -/
theorem readyGo_full (block : Int) : ∀ (l pre : List Cg) (out : List Int) (b : Int), mayN b (pre ++ l) = true → ∀ p c q, pre ++ l = p ++ c :: q → pre.length ≤ p.length → c.block = block → (∀ d ∈ p, keepsB d c = true → d.id ∈ readyGo block pre out l) → c.id ∈ readyGo block pre out l := by
  intro l
  induction l with
  | nil =>
    intro pre out b _ p c q hl hlen
    have h := congrArg List.length hl
    simp at h
    omega
  | cons e l ih =>
    intro pre out b hm p c q hl hlen hcb hk
    by_cases hp : pre.length = p.length
    · have hpe : pre = p ∧ e :: l = c :: q := List.append_inj hl hp
      obtain ⟨rfl, h2⟩ := hpe
      injection h2 with h2 h3
      subst h2; subst h3
      -- c is the next one: all that keep it back are in 'out'
      unfold readyGo at hk ⊢
      by_cases hc : e.block = block ∧ ((pre.filter fun d => keepsB d e).all fun d => out.contains d.id) = true
      · rw [if_pos hc]
        obtain ⟨t, h5, _⟩ := readyGo_more block l (pre ++ [e]) (out ++ [e.id])
        rw [h5]
        simp
      · exfalso
        rw [if_neg hc] at hk
        refine hc ⟨hcb, List.all_eq_true.2 fun d hd => ?_⟩
        obtain ⟨hd1, hd2⟩ := List.mem_filter.1 hd
        have h6 := hk d hd1 hd2
        obtain ⟨t, h7, h8⟩ := readyGo_more block l (pre ++ [e]) out
        rw [h7] at h6
        rcases List.mem_append.1 h6 with h6 | h6
        · simpa using h6
        · exfalso
          have h9 := h8.subset h6
          obtain ⟨x, hx, hxe⟩ := List.mem_map.1 h9
          have hdd : d = x := may_id hm (List.mem_append.2 (Or.inl hd1)) (List.mem_append.2 (Or.inr (List.mem_cons_of_mem _ hx))) hxe.symm
          subst hdd
          -- d stands on both sides
          obtain ⟨u, v, rfl⟩ := List.append_of_mem hd1
          have hm' := hm
          rw [List.append_assoc, List.cons_append] at hm'
          have hs := splitId_mid hm' (pre := u) (c := d) (post := v ++ e :: l) rfl
          obtain ⟨u2, v2, rfl⟩ := List.append_of_mem hx
          have hs2 := splitId_mid hm' (pre := u ++ d :: (v ++ e :: u2)) (c := d) (post := v2) (by simp)
          rw [hs] at hs2
          injection hs2 with hs2
          simp only [Prod.mk.injEq] at hs2
          have := congrArg List.length hs2.1
          simp at this
    · have hl' : (pre ++ [e]) ++ l = p ++ c :: q := by rw [List.append_assoc]; exact hl
      have hm' : mayN b ((pre ++ [e]) ++ l) = true := by rw [List.append_assoc]; exact hm
      unfold readyGo at hk ⊢
      split
      · rename_i hc
        rw [if_pos hc] at hk
        exact ih (pre ++ [e]) _ b hm' p c q hl' (by simp; omega) hcb hk
      · rename_i hc
        rw [if_neg hc] at hk
        exact ih (pre ++ [e]) _ b hm' p c q hl' (by simp; omega) hcb hk
theorem readyC_full {l : List Cg} {block : Int} (hm : mayC l = true) {p q : List Cg} {c : Cg} (hl : l = p ++ c :: q) (hcb : c.block = block) (hk : ∀ d ∈ p, keepsB d c = true → d.id ∈ readyC l block) : c.id ∈ readyC l block := by
  unfold readyC at hk ⊢
  rw [if_pos hm] at hk ⊢
  exact readyGo_full block l [] [] 0 hm p c q hl (Nat.zero_le _) hcb hk
/-- The first that readyGo finds is kept back by none. -/
theorem readyGo_head (block : Int) : ∀ (l pre : List Cg) x t, readyGo block pre [] l = x :: t → ∃ p c q, pre ++ l = p ++ c :: q ∧ c.id = x ∧ c.block = block ∧ ∀ d ∈ p, keepsB d c = false := by
  intro l
  induction l with
  | nil => intro pre x t h; cases h
  | cons e l ih =>
    intro pre x t h
    unfold readyGo at h
    by_cases hc : e.block = block ∧ ((pre.filter fun d => keepsB d e).all fun d => ([] : List Int).contains d.id) = true
    · rw [if_pos hc] at h
      obtain ⟨t', h1, _⟩ := readyGo_more block l (pre ++ [e]) ([] ++ [e.id])
      rw [h1] at h
      have hx : e.id = x := by simpa using congrArg List.head? h
      refine ⟨pre, e, l, rfl, hx, hc.1, fun d hd => ?_⟩
      cases hk : keepsB d e
      · rfl
      · have := List.all_eq_true.1 hc.2 d (List.mem_filter.2 ⟨hd, hk⟩)
        simp at this
    · rw [if_neg hc] at h
      obtain ⟨p, c, q, h1, h2⟩ := ih (pre ++ [e]) x t h
      exact ⟨p, c, q, by rw [← h1]; simp, h2⟩
/-- Written again at once, nothing more is ready. -/
theorem ready_left {l : List Cg} {block : Int} : readyC (leftC l block) block = [] := by
  cases hm : mayC l
  · rw [leftC_wrong hm, readyC_wrong hm]
  · have hm2 : mayC (leftC l block) = true := withoutC_may _ hm
    cases hr : readyC (leftC l block) block with
    | nil => rfl
    | cons x t =>
      exfalso
      have hr' := hr
      unfold readyC at hr'
      rw [if_pos hm2] at hr'
      obtain ⟨p, c, q, h1, h2, h3, h4⟩ := readyGo_head block _ _ _ _ hr'
      rw [List.nil_append] at h1
      have hcl : c ∈ leftC l block := by rw [h1]; simp
      obtain ⟨hc1, hc2⟩ := List.mem_filter.1 hcl
      obtain ⟨u, v, huv⟩ := List.append_of_mem hc1
      have hleft : leftC l block = (u.filter fun c => !(readyC l block).contains c.id) ++ c :: (v.filter fun c => !(readyC l block).contains c.id) := by
        have e : leftC l block = l.filter fun c => !(readyC l block).contains c.id := rfl
        rw [e]
        conv => lhs; arg 2; rw [huv]
        rw [List.filter_append, List.filter_cons, if_pos hc2]
      have s1 := splitId_mid hm2 h1
      have s2 := splitId_mid hm2 hleft
      rw [s1] at s2
      injection s2 with s2
      simp only [Prod.mk.injEq] at s2
      have hin : c.id ∈ readyC l block := readyC_full hm huv h3 fun d hd hk => by
        by_cases hdr : d.id ∈ readyC l block
        · exact hdr
        · exfalso
          have hdp : d ∈ p := by
            rw [s2.1]
            exact List.mem_filter.2 ⟨hd, by simpa using hdr⟩
          have := h4 d hdp
          rw [hk] at this
          cases this
      have : (readyC l block).contains c.id = true := by simpa using hin
      rw [this] at hc2
      cases hc2
theorem left_left {l : List Cg} {block : Int} : leftC (leftC l block) block = leftC l block := by
  have e : leftC (leftC l block) block = (leftC l block).filter fun c => !(readyC (leftC l block) block).contains c.id := rfl
  rw [e, ready_left]
  exact List.filter_eq_self.2 (fun c _ => by simp)
theorem image_left (L : List UInt8) (l : List Cg) (block : Int) : imageC L (leftC l block) block = L := by
  unfold imageC doneC
  rw [ready_left]
  have e : (ofC (leftC l block) block).filter (fun c => ([] : List Int).contains c.id) = [] := List.filter_eq_nil_iff.2 (fun c _ => by simp)
  rw [e]
  rfl
theorem held_left {l : List Cg} {block : Int} : heldC (leftC l block) block = heldC l block := by
  cases hm : mayC l
  · rw [leftC_wrong hm]
  · have hm2 : mayC (leftC l block) = true := withoutC_may _ hm
    unfold heldC
    rw [hm, hm2, if_pos rfl, if_pos rfl]
    congr 1
    have e : restC (leftC l block) block = (ofC (leftC l block) block).filter fun c => !(readyC (leftC l block) block).contains c.id := rfl
    rw [e, ready_left, ofC_left]
    exact List.filter_eq_self.2 (fun c _ => by simp)
/-- If nothing is held, the image is the view. -/
theorem image_all {l : List Cg} {block : Int} (L : List UInt8) (h : heldC l block = []) : imageC L l block = viewC L l block := by
  cases hm : mayC l
  · rw [imageC_wrong hm]
    unfold viewC
    rw [hm]
    rfl
  · unfold heldC at h
    rw [hm, if_pos rfl] at h
    have h0 : restC l block = [] := List.map_eq_nil_iff.1 h
    unfold viewC imageC
    rw [hm, if_pos rfl]
    congr 1
    unfold doneC
    refine List.filter_eq_self.2 fun c hc => ?_
    cases hr : (readyC l block).contains c.id
    · have : c ∈ restC l block := List.mem_filter.2 ⟨hc, by rw [hr]; rfl⟩
      rw [h0] at this
      simp at this
    · rfl

end Go.Proofs.Ytmcinaigkjfehaa

/-
  All that a change needs; how deep that goes; rows of blocks by which it is done, and by which all is. Plain; no program is named here.
-/
namespace Go.Proofs.Ytmcinaigkjfehaa

theorem RiseI.len {a b : List Int} (ha : RiseI a) (hb : RiseI b) (h : ∀ x ∈ a, x ∈ b) : a.length ≤ b.length := by
  induction b generalizing a with
  | nil =>
    cases a with
    | nil => exact Nat.le_refl _
    | cons x a => exact absurd (h x (by simp)) (by simp)
  | cons y b ih =>
    obtain ⟨h3, h4⟩ := List.pairwise_cons.1 hb
    cases a with
    | nil => exact Nat.zero_le _
    | cons x a =>
      obtain ⟨h1, h2⟩ := List.pairwise_cons.1 ha
      refine Nat.succ_le_succ (ih h2 h4 fun z hz => ?_)
      have hxz := h1 z hz
      rcases List.mem_cons.1 (h z (List.mem_cons_of_mem _ hz)) with e | e
      · exfalso
        rcases List.mem_cons.1 (h x (by simp)) with e' | e'
        · omega
        · have := h3 x e'; omega
      · exact e
theorem RiseI.sub {a b : List Int} (hb : RiseI b) (h : a.Sublist b) : RiseI a := List.Pairwise.sublist h hb
theorem ids_rise {b : Int} {l : List Cg} (hm : mayN b l = true) : RiseI (l.map (·.id)) := by
  induction l generalizing b with
  | nil => exact List.Pairwise.nil
  | cons c l ih =>
    obtain ⟨_, h2⟩ := mayN_cons.1 hm
    refine List.pairwise_cons.2 ⟨fun x hx => ?_, ih h2⟩
    obtain ⟨d, hd, rfl⟩ := List.mem_map.1 hx
    exact mayN_gt h2 d hd
/-- What stands ahead has a lesser number. -/
theorem ahead_lt {b : Int} {l p q : List Cg} {c : Cg} (hm : mayN b l = true) (hl : l = p ++ c :: q) : ∀ d ∈ p, d.id < c.id := by
  subst hl
  induction p generalizing b with
  | nil => intro d hd; simp at hd
  | cons e p ih =>
    rw [List.cons_append] at hm
    obtain ⟨_, h2⟩ := mayN_cons.1 hm
    intro d hd
    rcases List.mem_cons.1 hd with rfl | hd
    · exact mayN_gt h2 c (by simp)
    · exact ih h2 d hd
theorem mem_split {l : List Cg} {c : Cg} (h : c ∈ l) : ∃ p q, l = p ++ c :: q := List.append_of_mem h
theorem waitsC_lt {l : List Cg} (hm : mayC l = true) {x y : Int} (h : y ∈ waitsC l x) : y < x := by
  unfold waitsC at h
  rw [if_pos hm] at h
  cases hs : splitId x l with
  | none => rw [hs] at h; simp at h
  | some pc =>
    obtain ⟨p, c⟩ := pc
    rw [hs] at h
    obtain ⟨h1, q, h2, _⟩ := splitId_some hs
    obtain ⟨d, hd, rfl⟩ := List.mem_map.1 h
    have := ahead_lt hm h2 d (List.mem_filter.1 hd).1
    omega
theorem waitsC_mem {l : List Cg} {x y : Int} (h : y ∈ waitsC l x) : ∃ d ∈ l, d.id = y := by
  unfold waitsC at h
  split at h
  · cases hs : splitId x l with
    | none => rw [hs] at h; simp at h
    | some pc =>
      obtain ⟨p, c⟩ := pc
      rw [hs] at h
      obtain ⟨_, q, h2, _⟩ := splitId_some hs
      obtain ⟨d, hd, rfl⟩ := List.mem_map.1 h
      exact ⟨d, by rw [h2]; exact List.mem_append.2 (Or.inl (List.mem_filter.1 hd).1), rfl⟩
  · simp at h

/-- From the last one down: which are wanted, and what these want. The list lies the other way round. -/
def allGo : List Cg → List Int → List Int
  | [], _ => []
  | c :: r, want => if c.id ∈ want then allGo r (want ++ (r.filter fun d => keepsB d c).map (·.id)) ++ [c.id] else allGo r want
def allC (l : List Cg) (id : Int) : List Int := if mayC l = true ∧ ∃ c ∈ l, c.id = id then allGo l.reverse [id] else []
theorem allGo_sub : ∀ (r : List Cg) (want : List Int), (allGo r want).Sublist (r.reverse.map (·.id)) := by
  intro r
  induction r with
  | nil => intro _; exact List.Sublist.refl _
  | cons c r ih =>
    intro want
    unfold allGo
    rw [List.reverse_cons, List.map_append]
    split
    · exact List.Sublist.append (ih _) (List.Sublist.refl _)
    · exact List.Sublist.trans (ih _) (List.sublist_append_left _ _)
/-- Whatever is wanted, and there, is told. -/
theorem allGo_want : ∀ (r : List Cg) (want : List Int), ∀ c ∈ r, c.id ∈ want → c.id ∈ allGo r want := by
  intro r
  induction r with
  | nil => intro _ c hc; simp at hc
  | cons e r ih =>
    intro want c hc hw
    unfold allGo
    rcases List.mem_cons.1 hc with rfl | hc1
    · rw [if_pos hw]
      simp
    · split
      · exact List.mem_append.2 (Or.inl (ih _ c hc1 (List.mem_append.2 (Or.inl hw))))
      · exact ih _ c hc1 hw
/-- Each that is told is wanted, or keeps back one that is told. -/
theorem allGo_from : ∀ (r : List Cg) (want : List Int), ∀ x ∈ allGo r want, x ∈ want ∨ ∃ u c v, r = u ++ c :: v ∧ c.id ∈ allGo r want ∧ ∃ d ∈ v, d.id = x ∧ keepsB d c = true := by
  intro r
  induction r with
  | nil => intro _ x hx; simp [allGo] at hx
  | cons e r ih =>
    intro want x hx
    unfold allGo at hx ⊢
    by_cases he : e.id ∈ want
    · rw [if_pos he] at hx ⊢
      rcases List.mem_append.1 hx with hx | hx
      · rcases ih _ x hx with h | ⟨u, c, v, h1, h2, h3⟩
        · rcases List.mem_append.1 h with h | h
          · exact Or.inl h
          · obtain ⟨d, hd, rfl⟩ := List.mem_map.1 h
            obtain ⟨hd1, hd2⟩ := List.mem_filter.1 hd
            exact Or.inr ⟨[], e, r, rfl, by simp, d, hd1, rfl, hd2⟩
        · exact Or.inr ⟨e :: u, c, v, by rw [h1]; rfl, List.mem_append.2 (Or.inl h2), h3⟩
      · rw [List.mem_singleton] at hx
        subst hx
        exact Or.inl he
    · rw [if_neg he] at hx ⊢
      rcases ih _ x hx with h | ⟨u, c, v, h1, h2, h3⟩
      · exact Or.inl h
      · exact Or.inr ⟨e :: u, c, v, by rw [h1]; rfl, h2, h3⟩
/-- .. and whatever keeps back one that is told is told. -/
theorem allGo_closed : ∀ (r : List Cg) (want : List Int), r.Pairwise (fun c d => d.id < c.id) → ∀ u c v, r = u ++ c :: v → c.id ∈ allGo r want → ∀ d ∈ v, keepsB d c = true → d.id ∈ allGo r want := by
  intro r
  induction r with
  | nil => intro _ _ u c v h; simp at h
  | cons e r ih =>
    intro want hp u c v hr hc d hd hk
    obtain ⟨h1, h2⟩ := List.pairwise_cons.1 hp
    cases u with
    | nil =>
      simp only [List.nil_append, List.cons.injEq] at hr
      obtain ⟨rfl, rfl⟩ := hr
      unfold allGo at hc ⊢
      by_cases he : e.id ∈ want
      · rw [if_pos he]
        exact List.mem_append.2 (Or.inl (allGo_want r _ d hd (List.mem_append.2 (Or.inr (List.mem_map.2 ⟨d, List.mem_filter.2 ⟨hd, hk⟩, rfl⟩)))))
      · exfalso
        rw [if_neg he] at hc
        have h5 := (allGo_sub r want).subset hc
        obtain ⟨x, hx, hxe⟩ := List.mem_map.1 h5
        have := h1 x (List.mem_reverse.1 hx)
        omega
    | cons e' u =>
      simp only [List.cons_append, List.cons.injEq] at hr
      obtain ⟨rfl, hr⟩ := hr
      have hcr : c ∈ r := by rw [hr]; simp
      have hne : c.id ≠ e.id := by have := h1 c hcr; omega
      unfold allGo at hc ⊢
      split
      · rename_i he
        rw [if_pos he] at hc
        rcases List.mem_append.1 hc with hc | hc
        · exact List.mem_append.2 (Or.inl (ih _ h2 u c v hr hc d hd hk))
        · rw [List.mem_singleton] at hc
          exact absurd hc hne
      · rename_i he
        rw [if_neg he] at hc
        exact ih _ h2 u c v hr hc d hd hk
theorem rev_fall {b : Int} {l : List Cg} (hm : mayN b l = true) : l.reverse.Pairwise (fun c d => d.id < c.id) := by
  rw [List.pairwise_reverse]
  have h := ids_rise hm
  unfold RiseI at h
  rwa [List.pairwise_map] at h

section
variable {l : List Cg} {id : Int} (hm : mayC l = true) (hid : ∃ c ∈ l, c.id = id)
include hm hid
theorem allC_eq : allC l id = allGo l.reverse [id] := by unfold allC; rw [if_pos ⟨hm, hid⟩]
theorem allC_sub : (allC l id).Sublist (l.map (·.id)) := by
  rw [allC_eq hm hid]
  have h := allGo_sub l.reverse [id]
  rwa [List.reverse_reverse] at h
theorem allC_rise : RiseI (allC l id) := RiseI.sub (ids_rise hm) (allC_sub hm hid)
theorem allC_self : id ∈ allC l id := by
  obtain ⟨c, hc, rfl⟩ := hid
  rw [allC_eq hm ⟨c, hc, rfl⟩]
  exact allGo_want _ _ c (List.mem_reverse.2 hc) (by simp)
theorem allC_closed {x y : Int} (hx : x ∈ allC l id) (hy : y ∈ waitsC l x) : y ∈ allC l id := by
  rw [allC_eq hm hid] at hx ⊢
  unfold waitsC at hy
  rw [if_pos hm] at hy
  cases hs : splitId x l with
  | none => rw [hs] at hy; simp at hy
  | some pc =>
    obtain ⟨p, c⟩ := pc
    rw [hs] at hy
    obtain ⟨h1, q, h2, _⟩ := splitId_some hs
    obtain ⟨d, hd, rfl⟩ := List.mem_map.1 hy
    obtain ⟨hd1, hd2⟩ := List.mem_filter.1 hd
    rw [← h1] at hx
    exact allGo_closed _ _ (rev_fall hm) q.reverse c p.reverse (by rw [h2]; simp) hx d (List.mem_reverse.2 hd1) hd2
theorem allC_from {x : Int} (hx : x ∈ allC l id) : x = id ∨ ∃ z ∈ allC l id, x ∈ waitsC l z := by
  rw [allC_eq hm hid] at hx ⊢
  rcases allGo_from _ _ x hx with h | ⟨u, c, v, h1, h2, d, hd, rfl, hk⟩
  · exact Or.inl (by simpa using h)
  · refine Or.inr ⟨c.id, h2, ?_⟩
    have hl : l = v.reverse ++ c :: u.reverse := by
      have := congrArg List.reverse h1
      rw [List.reverse_reverse] at this
      rw [this]
      simp
    rw [waitsC_mid hm hl]
    exact List.mem_map.2 ⟨d, List.mem_filter.2 ⟨List.mem_reverse.2 hd, hk⟩, rfl⟩
theorem allC_le {x : Int} (hx : x ∈ allC l id) : x ≤ id := by
  have key : ∀ n : Nat, ∀ x ∈ allC l id, (l.map (·.id)).length ≤ n + (l.map (·.id)).countP (fun z => decide (z ≤ x)) → x ≤ id := by
    intro n
    induction n with
    | zero =>
      intro x hx hn
      rcases allC_from hm hid hx with h | ⟨z, hz, hxz⟩
      · omega
      · exfalso
        have hzx := waitsC_lt hm hxz
        have hall := List.countP_eq_length.1 (Nat.le_antisymm List.countP_le_length (by rw [Nat.zero_add] at hn; exact hn))
        have hzm := (allC_sub hm hid).subset hz
        have := hall z hzm
        simp at this
        omega
    | succ n ih =>
      intro x hx hn
      rcases allC_from hm hid hx with h | ⟨z, hz, hxz⟩
      · omega
      · have hzx := waitsC_lt hm hxz
        have hzm := (allC_sub hm hid).subset hz
        have hlt : (l.map (·.id)).countP (fun y => decide (y ≤ x)) < (l.map (·.id)).countP (fun y => decide (y ≤ z)) := by
          have h1 : (l.map (·.id)).countP (fun y => decide (y ≤ z)) = (l.map (·.id)).countP (fun y => decide (y ≤ x)) + (l.map (·.id)).countP (fun y => decide (x < y) && decide (y ≤ z)) := by
            generalize l.map (·.id) = a
            induction a with
            | nil => rfl
            | cons y a ih =>
              simp only [List.countP_cons, ih]
              by_cases q1 : y ≤ x
              · have q2 : y ≤ z := by omega
                have q3 : ¬ x < y := by omega
                simp [q1, q2, q3]
                omega
              · by_cases q2 : y ≤ z
                · have q3 : x < y := by omega
                  simp [q1, q2, q3]
                  omega
                · simp [q1, q2]
          have h2 : 0 < (l.map (·.id)).countP (fun y => decide (x < y) && decide (y ≤ z)) := List.countP_pos_iff.2 ⟨z, hzm, by simp; omega⟩
          omega
        have := ih z hz (by omega)
        omega
  exact key _ x hx (Nat.le_add_right _ _)
end

end Go.Proofs.Ytmcinaigkjfehaa

/-
  Rows of blocks: by which a change is done, by which all is; how deep. Plain; no program is named here.
-/
namespace Go.Proofs.Ytmcinaigkjfehaa

/-- Is there one of this number? -/
def HasId (l : List Cg) (a : Int) : Prop := ∃ c ∈ l, c.id = a
instance (l : List Cg) (a : Int) : Decidable (HasId l a) := decidable_of_iff (a ∈ l.map (·.id)) (by
  unfold HasId
  rw [List.mem_map])
theorem findC_some {l : List Cg} {a : Int} : HasId l a ↔ (findC l a).isSome = true := by
  unfold findC HasId
  rw [Option.isSome_map]
  cases h : splitId a l with
  | none => simpa using splitId_none.1 h
  | some pc =>
    obtain ⟨p, c⟩ := pc
    obtain ⟨h1, q, h2, _⟩ := splitId_some h
    simp only [Option.isSome_some, iff_true]
    exact ⟨c, by rw [h2]; simp, h1⟩
theorem leftC_may {l : List Cg} (b : Int) (hm : mayC l = true) : mayC (leftC l b) = true := withoutC_may _ hm
theorem leftC_has {l : List Cg} {b a : Int} (h : HasId (leftC l b) a) : HasId l a := by
  obtain ⟨c, hc, he⟩ := h
  exact ⟨c, (List.mem_filter.1 hc).1, he⟩
theorem leftC_done {l : List Cg} {b a : Int} (h : a ∈ readyC l b) : ¬ HasId (leftC l b) a := by
  rintro ⟨c, hc, rfl⟩
  have h2 := (List.mem_filter.1 hc).2
  have h3 : (readyC l b).contains c.id = true := by simpa using h
  simp only [h3] at h2
  cases h2
def afterC (l : List Cg) (blocks : List Int) : List Cg := blocks.foldl leftC l
theorem afterC_cons (l : List Cg) (b : Int) (r : List Int) : afterC l (b :: r) = afterC (leftC l b) r := rfl
def blockOf (l : List Cg) (x : Int) : Int := ((findC l x).map (·.block)).getD 0

theorem allC_none {l : List Cg} {id : Int} (h : ¬ HasId l id) : allC l id = [] := by
  unfold allC
  rw [if_neg fun hh => h hh.2]
/-- The least that is needed is ready, when its block is written. -/
theorem allC_head {l : List Cg} {id x : Int} {t : List Int} (hm : mayC l = true) (h : allC l id = x :: t) : HasId l x ∧ x ∈ readyC l (blockOf l x) := by
  have hid : HasId l id := by
    refine Decidable.byContradiction fun hn => ?_
    rw [allC_none hn] at h
    cases h
  have hr := allC_rise hm hid
  have hx : x ∈ allC l id := by rw [h]; simp
  obtain ⟨c, hc, hcx⟩ := List.mem_map.1 ((allC_sub hm hid).subset hx)
  obtain ⟨p, q, hl⟩ := mem_split hc
  have hbo : blockOf l x = c.block := by
    unfold blockOf findC
    rw [← hcx, splitId_mid hm hl]
    rfl
  refine ⟨⟨c, hc, hcx⟩, ?_⟩
  rw [hbo, ← hcx]
  refine readyC_full hm hl rfl fun d hd hk => ?_
  exfalso
  have hdw : d.id ∈ waitsC l x := by
    rw [← hcx, waitsC_mid hm hl]
    exact List.mem_map.2 ⟨d, List.mem_filter.2 ⟨hd, hk⟩, rfl⟩
  have hda := allC_closed hm hid hx hdw
  have hlt := waitsC_lt hm hdw
  rw [h] at hda hr
  obtain ⟨h1, _⟩ := List.pairwise_cons.1 hr
  rcases List.mem_cons.1 hda with e | e
  · omega
  · have := h1 _ e; omega
/-- What is needed of less is needed of all. -/
theorem allC_mono {l l' : List Cg} {id e : Int} (hm : mayC l = true) (hm' : mayC l' = true) (hid : HasId l id) (he : HasId l' e) (hin : e ∈ allC l id) (hw : ∀ z, HasId l' z → ∀ y ∈ waitsC l' z, y ∈ waitsC l z) : ∀ z ∈ allC l' e, z ∈ allC l id := by
  have key : ∀ n : Nat, ∀ z ∈ allC l' e, (e - z).toNat ≤ n → z ∈ allC l id := by
    intro n
    induction n with
    | zero =>
      intro z hz hn
      rcases allC_from hm' he hz with h | ⟨y, hy, hzy⟩
      · rw [h]; exact hin
      · have h1 := waitsC_lt hm' hzy
        have h2 := allC_le hm' he hy
        omega
    | succ n ih =>
      intro z hz hn
      rcases allC_from hm' he hz with h | ⟨y, hy, hzy⟩
      · rw [h]; exact hin
      · have h1 := waitsC_lt hm' hzy
        have h2 := allC_le hm' he hy
        have h3 := ih y hy (by omega)
        have hyl : HasId l' y := by
          obtain ⟨c, hc, hcy⟩ := List.mem_map.1 ((allC_sub hm' he).subset hy)
          exact ⟨c, hc, hcy⟩
        exact allC_closed hm hid h3 (hw y hyl z hzy)
  intro z hz
  exact key _ z hz (Nat.le_refl _)
theorem allC_left {l : List Cg} {id b : Int} (hm : mayC l = true) : ∀ z ∈ allC (leftC l b) id, z ∈ allC l id := by
  by_cases h : HasId (leftC l b) id
  · refine allC_mono hm (leftC_may b hm) (leftC_has h) h (allC_self hm (leftC_has h)) ?_
    rintro z ⟨c, hc, rfl⟩ y hy
    exact withoutC_waits _ hm hc y hy
  · intro z hz
    rw [allC_none h] at hz
    simp at hz

/-- How many of some numbers are there. -/
def cntI (A : List Int) (l : List Cg) : Nat := (A.filter fun a => decide (HasId l a)).length
theorem cntI_le {A : List Int} {l : List Cg} (hA : RiseI A) (hm : mayC l = true) : cntI A l ≤ l.length := by
  have h := RiseI.len (RiseI.sub hA List.filter_sublist) (ids_rise hm) (a := A.filter fun a => decide (HasId l a)) fun x hx => by
    obtain ⟨c, hc, he⟩ := of_decide_eq_true (List.mem_filter.1 hx).2
    exact List.mem_map.2 ⟨c, hc, he⟩
  rwa [List.length_map] at h
theorem cntI_less {A : List Int} {l l' : List Cg} {x : Int} (hx : x ∈ A) (h1 : HasId l x) (h2 : ¬ HasId l' x) (h3 : ∀ a, HasId l' a → HasId l a) : cntI A l' < cntI A l := by
  unfold cntI
  have hsub : ∀ B : List Int, (B.filter fun a => decide (HasId l' a)).length ≤ (B.filter fun a => decide (HasId l a)).length := by
    intro B
    induction B with
    | nil => exact Nat.le_refl _
    | cons y B ih =>
      rw [List.filter_cons, List.filter_cons]
      by_cases q : HasId l' y
      · rw [if_pos (decide_eq_true q), if_pos (decide_eq_true (h3 y q))]
        exact Nat.succ_le_succ ih
      · rw [if_neg (by simpa using q)]
        split
        · exact Nat.le_succ_of_le ih
        · exact ih
  induction A with
  | nil => simp at hx
  | cons y A ih =>
    rw [List.filter_cons, List.filter_cons]
    rcases List.mem_cons.1 hx with e | e
    · subst e
      rw [if_neg (by simpa using h2), if_pos (decide_eq_true h1)]
      exact Nat.lt_succ_of_le (hsub A)
    · have h4 := ih e
      by_cases q : HasId l' y
      · rw [if_pos (decide_eq_true q), if_pos (decide_eq_true (h3 y q))]
        exact Nat.succ_lt_succ h4
      · rw [if_neg (by simpa using q)]
        split
        · exact Nat.lt_succ_of_lt h4
        · exact h4

def planGo : Nat → List Cg → Int → List Int
  | 0, _, _ => []
  | n + 1, l, id => match allC l id with
    | [] => []
    | x :: _ => blockOf l x :: planGo n (leftC l (blockOf l x)) id
def planC (l : List Cg) (id : Int) : List Int := planGo l.length l id
/-- What a plan does: it is no longer than what of A is there; each step does one of A, while the change is still there; behind it it is not. -/
theorem planGo_spec {A : List Int} {id : Int} : ∀ n l, mayC l = true → (∀ z ∈ allC l id, z ∈ A) → cntI A l ≤ n →
    (planGo n l id).length ≤ cntI A l ∧ ¬ HasId (afterC l (planGo n l id)) id ∧ (HasId l id → planGo n l id ≠ []) ∧
    ∀ i, i < (planGo n l id).length → HasId (afterC l ((planGo n l id).take i)) id ∧ ∃ a ∈ A, HasId (afterC l ((planGo n l id).take i)) a ∧ ¬ HasId (afterC l ((planGo n l id).take (i + 1))) a := by
  intro n
  induction n with
  | zero =>
    intro l hm hA hn
    have hno : ¬ HasId l id := fun h => by
      have h1 := hA id (allC_self hm h)
      have h2 : id ∈ A.filter fun a => decide (HasId l a) := List.mem_filter.2 ⟨h1, decide_eq_true h⟩
      have h3 := List.length_pos_of_mem h2
      unfold cntI at hn
      omega
    exact ⟨Nat.zero_le _, hno, fun h => absurd h hno, fun i hi => absurd hi (by simp [planGo])⟩
  | succ n ih =>
    intro l hm hA hn
    unfold planGo
    cases hc : allC l id with
    | nil =>
      have hno : ¬ HasId l id := fun h => by
        have := allC_self hm h
        rw [hc] at this
        simp at this
      exact ⟨Nat.zero_le _, hno, fun h => absurd h hno, fun i hi => absurd hi (by simp)⟩
    | cons x t =>
      simp only
      obtain ⟨hx1, hx2⟩ := allC_head hm hc
      generalize blockOf l x = b at hx2
      have hxA : x ∈ A := hA x (by rw [hc]; simp)
      have hid : HasId l id := by
        refine Decidable.byContradiction fun hno => ?_
        rw [allC_none hno] at hc
        cases hc
      have hxn := leftC_done hx2
      have hlt := cntI_less (l' := leftC l b) hxA hx1 hxn (fun a => leftC_has)
      obtain ⟨g1, g2, g3, g4⟩ := ih (leftC l b) (leftC_may b hm) (fun z hz => hA z (allC_left hm z hz)) (by omega)
      refine ⟨by rw [List.length_cons]; omega, by rw [afterC_cons]; exact g2, fun _ => by simp, fun i hi => ?_⟩
      cases i with
      | zero =>
        refine ⟨hid, x, hxA, hx1, ?_⟩
        rw [List.take_succ_cons, List.take_zero]
        exact hxn
      | succ i =>
        rw [List.length_cons] at hi
        obtain ⟨k1, a, k2, k3, k4⟩ := g4 i (by omega)
        rw [List.take_succ_cons, List.take_succ_cons, afterC_cons, afterC_cons]
        exact ⟨k1, a, k2, k3, k4⟩
theorem planC_spec {l : List Cg} {id : Int} (hm : mayC l = true) (hid : HasId l id) :
    planC l id ≠ [] ∧ (planC l id).length ≤ (allC l id).length ∧ ¬ HasId (afterC l (planC l id)) id ∧
    ∀ i, i < (planC l id).length → HasId (afterC l ((planC l id).take i)) id ∧ ∃ a ∈ allC l id, HasId (afterC l ((planC l id).take i)) a ∧ ¬ HasId (afterC l ((planC l id).take (i + 1))) a := by
  obtain ⟨g1, g2, g3, g4⟩ := planGo_spec (A := allC l id) (id := id) l.length l hm (fun z hz => hz) (cntI_le (allC_rise hm hid) hm)
  exact ⟨g3 hid, Nat.le_trans g1 (List.length_filter_le _ _), g2, g4⟩

def drainGo : Nat → List Cg → List Int
  | 0, _ => []
  | _ + 1, [] => []
  | n + 1, c :: l => c.block :: drainGo n (leftC (c :: l) c.block)
def drainC (l : List Cg) : List Int := if mayC l then drainGo l.length l else []
theorem drainGo_spec : ∀ n l, mayC l = true → l.length ≤ n → afterC l (drainGo n l) = [] ∧ (drainGo n l).length ≤ l.length := by
  intro n
  induction n with
  | zero =>
    intro l _ hn
    have : l = [] := List.eq_nil_of_length_eq_zero (by omega)
    subst this
    exact ⟨rfl, Nat.le_refl _⟩
  | succ n ih =>
    intro l hm hn
    cases l with
    | nil => exact ⟨rfl, Nat.le_refl _⟩
    | cons c l =>
      obtain ⟨t, ht⟩ := readyC_first hm
      have hlen := withoutC_len (block := c.block) hm
      rw [ht, List.length_cons] at hlen
      have hl : (leftC (c :: l) c.block).length < (c :: l).length := by
        show (withoutC (c :: l) (readyC (c :: l) c.block)).length < _
        rw [ht]
        omega
      obtain ⟨g1, g2⟩ := ih (leftC (c :: l) c.block) (leftC_may _ hm) (by omega)
      exact ⟨g1, by show (drainGo n _).length + 1 ≤ _; omega⟩
theorem ofC_after {l : List Cg} {b : Int} : ∀ r : List Int, mayC l = true → b ∉ r → ofC (afterC l r) b = ofC l b := by
  intro r
  induction r generalizing l with
  | nil => intro _ _; rfl
  | cons x r ih =>
    intro hm hb
    rw [afterC_cons, ih (leftC_may x hm) (fun h => hb (List.mem_cons_of_mem _ h)), ofC_other hm (fun h => hb (by rw [h]; simp))]
theorem RiseI.fits {a : List Int} (ha : RiseI a) : ∀ r : List Int, (∀ x ∈ a, x ∈ r) → a.length ≤ r.length := by
  induction a with
  | nil => intro r _; exact Nat.zero_le _
  | cons x a ih =>
    intro r h
    obtain ⟨h1, h2⟩ := List.pairwise_cons.1 ha
    have hx := h x (by simp)
    have h3 := ih h2 (r.erase x) fun y hy => (List.mem_erase_of_ne (by have := h1 y hy; omega)).2 (h y (List.mem_cons_of_mem _ hy))
    rw [List.length_erase_of_mem hx] at h3
    have := List.length_pos_of_mem hx
    rw [List.length_cons]
    omega
theorem drainC_spec {l : List Cg} (hm : mayC l = true) : afterC l (drainC l) = [] ∧ (drainC l).length ≤ l.length ∧ (blocksC l).length ≤ (drainC l).length := by
  unfold drainC
  rw [if_pos hm]
  obtain ⟨g1, g2⟩ := drainGo_spec l.length l hm (Nat.le_refl _)
  refine ⟨g1, g2, (blocksC_rise l).fits _ fun b hb => ?_⟩
  refine Decidable.byContradiction fun hn => ?_
  obtain ⟨c, hc, hcb⟩ := (blocksC_mem l b).1 hb
  have h5 := ofC_after (drainGo l.length l) hm hn
  rw [g1] at h5
  have h6 : c ∈ ofC l b := List.mem_filter.2 ⟨hc, by simpa using hcb⟩
  rw [← h5] at h6
  simp [ofC] at h6

/-! How deep. -/
def maxL : List Nat → Nat
  | [] => 0
  | x :: l => max x (maxL l)
theorem maxL_le {l : List Nat} {m : Nat} (h : ∀ x ∈ l, x ≤ m) : maxL l ≤ m := by
  induction l with
  | nil => exact Nat.zero_le _
  | cons x l ih =>
    have h1 := h x (by simp)
    have h2 := ih fun y hy => h y (List.mem_cons_of_mem _ hy)
    unfold maxL
    omega
def deepGo : List (Cg × Nat) → List Cg → List (Cg × Nat)
  | acc, [] => acc
  | acc, c :: l => deepGo (acc ++ [(c, maxL ((acc.filter fun d => keepsB d.1 c).map (·.2)) + 1)]) l
theorem deepGo_spec {l0 : List Cg} (hm : mayC l0 = true) : ∀ (l : List Cg) (acc : List (Cg × Nat)), l0 = acc.map (·.1) ++ l → (∀ x ∈ acc, x.2 ≤ (allC l0 x.1.id).length) → (deepGo acc l).map (·.1) = l0 ∧ ∀ x ∈ deepGo acc l, x.2 ≤ (allC l0 x.1.id).length := by
  intro l
  induction l with
  | nil => intro acc hl h; exact ⟨by rw [hl]; simp [deepGo], h⟩
  | cons c l ih =>
    intro acc hl h
    unfold deepGo
    refine ih _ (by rw [hl]; simp) fun x hx => ?_
    rcases List.mem_append.1 hx with hx | hx
    · exact h x hx
    · rw [List.mem_singleton] at hx
      subst hx
      have hc : HasId l0 c.id := ⟨c, by rw [hl]; simp, rfl⟩
      have hpos : 1 ≤ (allC l0 c.id).length := List.length_pos_of_mem (allC_self hm hc)
      have key : maxL ((acc.filter fun d => keepsB d.1 c).map (·.2)) ≤ (allC l0 c.id).length - 1 := maxL_le fun y hy => by
        obtain ⟨d, hd, rfl⟩ := List.mem_map.1 hy
        obtain ⟨hd1, hd2⟩ := List.mem_filter.1 hd
        have hdl : d.1 ∈ acc.map (·.1) := List.mem_map.2 ⟨d, hd1, rfl⟩
        have hdm : HasId l0 d.1.id := ⟨d.1, by rw [hl]; exact List.mem_append.2 (Or.inl hdl), rfl⟩
        have hw : d.1.id ∈ waitsC l0 c.id := by
          rw [waitsC_mid hm hl]
          exact List.mem_map.2 ⟨d.1, List.mem_filter.2 ⟨hdl, hd2⟩, rfl⟩
        have hda := allC_closed hm hc (allC_self hm hc) hw
        have hlt := waitsC_lt hm hw
        have hsub := allC_mono hm hm hc hdm hda (fun z _ y hy => hy)
        have hle : (allC l0 d.1.id ++ [c.id]).length ≤ (allC l0 c.id).length := RiseI.len (RiseI.snoc (allC_rise hm hdm) fun y hy => by
          have := allC_le hm hdm hy
          omega) (allC_rise hm hc) fun y hy => by
          rcases List.mem_append.1 hy with hy | hy
          · exact hsub y hy
          · rw [List.mem_singleton] at hy
            rw [hy]
            exact allC_self hm hc
        rw [List.length_append, List.length_singleton] at hle
        have := h d hd1
        omega
      show maxL _ + 1 ≤ (allC l0 c.id).length
      omega
def depthC (l : List Cg) (id : Int) : Nat := if mayC l then (((deepGo [] l).find? fun x => decide (x.1.id = id)).map (·.2)).getD 0 else 0
theorem depthC_le {l : List Cg} {id : Int} (hm : mayC l = true) : depthC l id ≤ (allC l id).length := by
  unfold depthC
  rw [if_pos hm]
  obtain ⟨_, h⟩ := deepGo_spec hm l [] rfl (fun x hx => by simp at hx)
  cases hf : (deepGo [] l).find? fun x => decide (x.1.id = id) with
  | none => exact Nat.zero_le _
  | some x =>
    have h1 := h x (List.mem_of_find?_eq_some hf)
    have h2 := List.find?_some hf
    have h3 : x.1.id = id := by simpa using h2
    rw [h3] at h1
    exact h1

end Go.Proofs.Ytmcinaigkjfehaa

/-
  Rounds: each makes what is left less deep by one at least. Plain; no program is named here.
-/
namespace Go.Proofs.Ytmcinaigkjfehaa

theorem le_maxL {l : List Nat} {x : Nat} (h : x ∈ l) : x ≤ maxL l := by
  induction l with
  | nil => simp at h
  | cons y l ih =>
    show x ≤ max y (maxL l)
    rcases List.mem_cons.1 h with rfl | h
    · omega
    · have := ih h; omega
theorem deepGo_pre : ∀ (l : List Cg) (acc : List (Cg × Nat)), ∃ t, deepGo acc l = acc ++ t ∧ t.map (·.1) = l := by
  intro l
  induction l with
  | nil => intro acc; exact ⟨[], by simp [deepGo], rfl⟩
  | cons c l ih =>
    intro acc
    unfold deepGo
    obtain ⟨t, h1, h2⟩ := ih (acc ++ [(c, maxL ((acc.filter fun d => keepsB d.1 c).map (·.2)) + 1)])
    exact ⟨(c, maxL ((acc.filter fun d => keepsB d.1 c).map (·.2)) + 1) :: t, by rw [h1]; simp, by rw [List.map_cons, h2]⟩
theorem deepGo_val : ∀ (l : List Cg) (acc u v : List (Cg × Nat)) (x : Cg × Nat), deepGo acc l = u ++ x :: v → acc.length ≤ u.length → x.2 = maxL ((u.filter fun d => keepsB d.1 x.1).map (·.2)) + 1 := by
  intro l
  induction l with
  | nil =>
    intro acc u v x h hlen
    have h1 := congrArg List.length h
    simp [deepGo] at h1
    omega
  | cons c l ih =>
    intro acc u v x h hlen
    unfold deepGo at h
    by_cases hl : acc.length = u.length
    · obtain ⟨t, h1, _⟩ := deepGo_pre l (acc ++ [(c, maxL ((acc.filter fun d => keepsB d.1 c).map (·.2)) + 1)])
      rw [h1, List.append_assoc] at h
      obtain ⟨rfl, h2⟩ := List.append_inj h hl
      rw [List.singleton_append] at h2
      injection h2 with h2 _
      rw [← h2]
    · exact ih _ u v x h (by simp; omega)
section
variable {l : List Cg}
theorem depthC_at (hm : mayC l = true) {p q : List Cg} {c : Cg} (hl : l = p ++ c :: q) : ∃ u n v, deepGo [] l = u ++ (c, n) :: v ∧ u.map (·.1) = p ∧ depthC l c.id = n := by
  obtain ⟨t, h1, h2⟩ := deepGo_pre l []
  rw [List.nil_append] at h1
  have h3 : t.map (·.1) = p ++ c :: q := by rw [h2, hl]
  obtain ⟨u, w, h4, h5, h6⟩ := List.map_eq_append_iff.1 h3
  obtain ⟨x, v, h7, h8, _⟩ := List.map_eq_cons_iff.1 h6
  subst h7; subst h8
  obtain ⟨c', n⟩ := x
  refine ⟨u, n, v, by rw [h1, h4], h5, ?_⟩
  unfold depthC
  rw [if_pos hm, h1, h4, List.find?_append]
  have hnone : u.find? (fun x => decide (x.1.id = c'.id)) = none := List.find?_eq_none.2 fun y hy => by
    have hyp : y.1 ∈ p := by rw [← h5]; exact List.mem_map.2 ⟨y, hy, rfl⟩
    have hlt : y.1.id < c'.id := ahead_lt hm hl y.1 hyp
    simp only [decide_eq_true_eq]
    omega
  rw [hnone]
  simp
theorem depthC_eq (hm : mayC l = true) {p q : List Cg} {c : Cg} (hl : l = p ++ c :: q) : depthC l c.id = maxL ((p.filter fun d => keepsB d c).map fun d => depthC l d.id) + 1 := by
  obtain ⟨u, n, v, h1, h2, h3⟩ := depthC_at hm hl
  rw [h3]
  have h4 := deepGo_val l [] u v (c, n) h1 (Nat.zero_le _)
  have h5 : ((u.filter fun d => keepsB d.1 c).map (·.2)) = (p.filter fun d => keepsB d c).map fun d => depthC l d.id := by
    have key : ∀ (s r : List (Cg × Nat)), u = s ++ r → (r.filter fun d => keepsB d.1 c).map (·.2) = ((r.map (·.1)).filter fun d => keepsB d c).map fun d => depthC l d.id := by
      intro s r
      induction r generalizing s with
      | nil => intro _; rfl
      | cons y r ih =>
        intro hu
        have h6 := ih (s ++ [y]) (by rw [hu]; simp)
        have hly : l = s.map (·.1) ++ y.1 :: (r.map (·.1) ++ c :: q) := by rw [hl, ← h2, hu]; simp
        obtain ⟨u', n', v', k1, k2, k3⟩ := depthC_at hm hly
        have k4 : u' ++ (y.1, n') :: v' = s ++ y :: (r ++ (c, n) :: v) := by rw [← k1, h1, hu]; simp
        have k5 : u'.length = s.length := by
          have := congrArg List.length k2
          simpa using this
        obtain ⟨_, k6⟩ := List.append_inj k4 k5
        injection k6 with k6 _
        have hy2 : depthC l y.1.id = y.2 := by rw [k3, ← k6]
        rw [List.map_cons, List.filter_cons, List.filter_cons]
        split
        · rw [List.map_cons, List.map_cons, h6, hy2]
        · exact h6
    have := key [] u rfl
    rw [h2] at this
    exact this
  rw [h5] at h4
  exact h4
theorem depthC_pos (hm : mayC l = true) {c : Cg} (hc : c ∈ l) : 1 ≤ depthC l c.id := by
  obtain ⟨p, q, hl⟩ := mem_split hc
  rw [depthC_eq hm hl]
  omega
end

theorem afterC_may {l : List Cg} : ∀ r : List Int, mayC l = true → mayC (afterC l r) = true := by
  intro r
  induction r generalizing l with
  | nil => intro h; exact h
  | cons b r ih => intro h; exact ih (leftC_may b h)
theorem afterC_mem {l : List Cg} : ∀ (r : List Int) {c : Cg}, c ∈ afterC l r → c ∈ l := by
  intro r
  induction r generalizing l with
  | nil => intro c h; exact h
  | cons b r ih => intro c h; exact (List.mem_filter.1 (ih h)).1
theorem afterC_waits {l : List Cg} : ∀ (r : List Int), mayC l = true → ∀ {c : Cg}, c ∈ afterC l r → ∀ y ∈ waitsC (afterC l r) c.id, y ∈ waitsC l c.id := by
  intro r
  induction r generalizing l with
  | nil => intro _ c _ y hy; exact hy
  | cons b r ih =>
    intro hm c hc y hy
    have h1 := ih (leftC_may b hm) hc y hy
    exact withoutC_waits _ hm (afterC_mem r hc) y h1
/-- One that waits for none is done, when its block is written. -/
theorem free_ready {l : List Cg} {c : Cg} (hm : mayC l = true) (hc : c ∈ l) (hw : waitsC l c.id = []) : c.id ∈ readyC l c.block := by
  obtain ⟨p, q, hl⟩ := mem_split hc
  refine readyC_full hm hl rfl fun d hd hk => ?_
  exfalso
  have : d.id ∈ waitsC l c.id := by
    rw [waitsC_mid hm hl]
    exact List.mem_map.2 ⟨d, List.mem_filter.2 ⟨hd, hk⟩, rfl⟩
  rw [hw] at this
  simp at this
theorem free_done {l : List Cg} {c : Cg} : ∀ r : List Int, mayC l = true → c ∈ l → waitsC l c.id = [] → c.block ∈ r → c ∉ afterC l r := by
  intro r
  induction r generalizing l with
  | nil => intro _ _ _ h; simp at h
  | cons b r ih =>
    intro hm hc hw hb hin
    rw [afterC_cons] at hin
    have hcl := afterC_mem r hin
    have hbc : b ≠ c.block := fun e => by
      subst e
      exact leftC_done (free_ready hm hc hw) ⟨c, hcl, rfl⟩
    refine ih (leftC_may b hm) hcl ?_ ?_ hin
    · refine List.eq_nil_iff_forall_not_mem.2 fun y hy => ?_
      have := withoutC_waits _ hm hcl y hy
      rw [hw] at this
      simp at this
    · rcases List.mem_cons.1 hb with e | e
      · exact absurd e.symm hbc
      · exact e
def roundC (l : List Cg) : List Cg := afterC l (blocksC l)
def deepC (l : List Cg) : Nat := maxL (l.map fun c => depthC l c.id)
/-- What is left behind a round is less deep. -/
theorem round_less {l : List Cg} (hm : mayC l = true) : ∀ c ∈ roundC l, depthC (roundC l) c.id + 1 ≤ depthC l c.id := by
  have hm' : mayC (roundC l) = true := afterC_may _ hm
  have key : ∀ n : Nat, ∀ (p q : List Cg) (c : Cg), p.length ≤ n → roundC l = p ++ c :: q → depthC (roundC l) c.id + 1 ≤ depthC l c.id := by
    intro n
    induction n with
    | zero =>
      intro p q c hp hl
      have hc : c ∈ roundC l := by rw [hl]; simp
      have hp0 : p = [] := List.eq_nil_of_length_eq_zero (by omega)
      subst hp0
      rw [depthC_eq hm' hl]
      obtain ⟨p0, q0, hl0⟩ := mem_split (afterC_mem _ hc)
      rw [depthC_eq hm hl0]
      have hw : waitsC l c.id ≠ [] := fun hw => free_done _ hm (afterC_mem _ hc) hw ((blocksC_mem l _).2 ⟨c, afterC_mem _ hc, rfl⟩) hc
      rw [waitsC_mid hm hl0] at hw
      cases hf : p0.filter fun d => keepsB d c with
      | nil => rw [hf] at hw; exact absurd rfl hw
      | cons d t =>
        have hd : d ∈ p0.filter fun d => keepsB d c := by rw [hf]; simp
        have hdl : d ∈ l := by rw [hl0]; exact List.mem_append.2 (Or.inl (List.mem_filter.1 hd).1)
        have h1 := depthC_pos hm hdl
        have h2 : depthC l d.id ≤ maxL ((d :: t).map fun d => depthC l d.id) := le_maxL (List.mem_map.2 ⟨d, by simp, rfl⟩)
        show maxL [] + 1 + 1 ≤ _
        unfold maxL at *
        omega
    | succ n ih =>
      intro p q c hp hl
      have hc : c ∈ roundC l := by rw [hl]; simp
      rw [depthC_eq hm' hl]
      obtain ⟨p0, q0, hl0⟩ := mem_split (afterC_mem _ hc)
      have hw : waitsC l c.id ≠ [] := fun hw => free_done _ hm (afterC_mem _ hc) hw ((blocksC_mem l _).2 ⟨c, afterC_mem _ hc, rfl⟩) hc
      have hge : 2 ≤ depthC l c.id := by
        rw [depthC_eq hm hl0]
        rw [waitsC_mid hm hl0] at hw
        cases hf : p0.filter fun d => keepsB d c with
        | nil => rw [hf] at hw; exact absurd rfl hw
        | cons d t =>
          have hd : d ∈ p0.filter fun d => keepsB d c := by rw [hf]; simp
          have hdl : d ∈ l := by rw [hl0]; exact List.mem_append.2 (Or.inl (List.mem_filter.1 hd).1)
          have h1 := depthC_pos hm hdl
          have h2 : depthC l d.id ≤ maxL ((d :: t).map fun d => depthC l d.id) := le_maxL (List.mem_map.2 ⟨d, by simp, rfl⟩)
          omega
      have hmax : maxL ((p.filter fun d => keepsB d c).map fun d => depthC (roundC l) d.id) ≤ depthC l c.id - 2 := maxL_le fun x hx => by
        obtain ⟨d, hd, rfl⟩ := List.mem_map.1 hx
        obtain ⟨hd1, hd2⟩ := List.mem_filter.1 hd
        obtain ⟨u, v, hu⟩ := mem_split hd1
        have h1 := ih u (v ++ c :: q) d (by rw [hu] at hp; simp at hp; omega) (by rw [hl, hu]; simp)
        -- d is among those for which c waited
        have hdw : d.id ∈ waitsC (roundC l) c.id := by
          rw [waitsC_mid hm' hl]
          exact List.mem_map.2 ⟨d, hd, rfl⟩
        have hdw2 := afterC_waits _ hm hc _ hdw
        rw [waitsC_mid hm hl0] at hdw2
        obtain ⟨e, he, hee⟩ := List.mem_map.1 hdw2
        have h2 : depthC l e.id ≤ maxL ((p0.filter fun d => keepsB d c).map fun d => depthC l d.id) := le_maxL (List.mem_map.2 ⟨e, he, rfl⟩)
        rw [hee] at h2
        have h3 := depthC_eq hm hl0
        omega
      omega
  intro c hc
  obtain ⟨p, q, hl⟩ := mem_split hc
  exact key _ p q c (Nat.le_refl _) hl
theorem deepC_zero {l : List Cg} (hm : mayC l = true) (h : deepC l = 0) : l = [] := by
  cases l with
  | nil => rfl
  | cons c l =>
    have h1 := depthC_pos hm (c := c) (by simp)
    have h2 : depthC (c :: l) c.id ≤ deepC (c :: l) := le_maxL (List.mem_map.2 ⟨c, by simp, rfl⟩)
    omega
/-- 13.3. -/
theorem deepC_round {l : List Cg} (hm : mayC l = true) : deepC (roundC l) ≤ deepC l - 1 := maxL_le fun x hx => by
  obtain ⟨c, hc, rfl⟩ := List.mem_map.1 hx
  have h1 := round_less hm c hc
  have h2 : depthC l c.id ≤ deepC l := le_maxL (List.mem_map.2 ⟨c, afterC_mem _ hc, rfl⟩)
  omega

end Go.Proofs.Ytmcinaigkjfehaa

/-
  Which changes of a block are ready, place by place, and which bytes those have that are not: as a loop goes through them. Plain; no program is named here.
-/
namespace Go.Proofs.Ytmcinaigkjfehaa

/-- What is ready among the first i. -/
def rdN (l : List Cg) (block : Int) : Nat → List Int
  | 0 => []
  | i + 1 => if (l.getD i default).block = block ∧ ((waitsC l (l.getD i default).id).all fun x => (rdN l block i).contains x) = true then rdN l block i ++ [(l.getD i default).id] else rdN l block i
theorem rdN_succ {l : List Cg} {block : Int} {i : Nat} (hi : i < l.length) :
    rdN l block (i + 1) = if l[i].block = block ∧ ((waitsC l l[i].id).all fun x => (rdN l block i).contains x) = true then rdN l block i ++ [l[i].id] else rdN l block i := by
  have e : l.getD i default = l[i] := by simp [List.getD, hi]
  show (if _ then _ else _) = _
  rw [e]
theorem readyC_rdN {l : List Cg} (block : Int) (hm : mayC l = true) : readyC l block = rdN l block l.length := by
  have key : ∀ i, i ≤ l.length → readyC l block = readyGo block (l.take i) (rdN l block i) (l.drop i) := by
    intro i
    induction i with
    | zero => intro _; unfold readyC; rw [if_pos hm]; rfl
    | succ i ih =>
      intro hi
      rw [ih (by omega), readyGo_at hm (by omega), rdN_succ (by omega)]
  rw [key l.length (Nat.le_refl _), List.take_length, List.drop_length]
  rfl
theorem mayC_ids {l : List Cg} (hm : mayC l = true) {i j : Nat} (hi : i < l.length) (hj : j < l.length) (h : l[i].id = l[j].id) : i = j := by
  have key : ∀ (b : Int) (l : List Cg), mayN b l = true → ∀ i j (hj : j < l.length) (hij : i < j), (l[i]'(by omega)).id < l[j].id := by
    intro b l
    induction l generalizing b with
    | nil => intro _ i j hj; simp at hj
    | cons c l ih =>
      intro hm i j hj hij
      obtain ⟨h1, h2⟩ := mayN_cons.1 hm
      cases j with
      | zero => omega
      | succ j =>
        have hj' : j < l.length := by simpa using hj
        cases i with
        | zero =>
          have := mayN_gt h2 l[j] (List.getElem_mem hj')
          simpa using this
        | succ i =>
          have := ih c.id h2 i j hj' (by omega)
          simpa using this
  rcases Nat.lt_trichotomy i j with h1 | h1 | h1
  · have := key 0 l hm i j hj h1; omega
  · exact h1
  · have := key 0 l hm j i hi h1; omega
theorem rdN_mem {l : List Cg} {block : Int} {i : Nat} (hi : i ≤ l.length) : ∀ x ∈ rdN l block i, ∃ k, ∃ h : k < l.length, k < i ∧ l[k].id = x := by
  induction i with
  | zero => intro x hx; simp [rdN] at hx
  | succ i ih =>
    intro x hx
    rw [rdN_succ (by omega)] at hx
    split at hx
    · rcases List.mem_append.1 hx with hx | hx
      · obtain ⟨k, h, h1, h2⟩ := ih (by omega) x hx
        exact ⟨k, h, by omega, h2⟩
      · rw [List.mem_singleton] at hx
        exact ⟨i, by omega, by omega, hx.symm⟩
    · obtain ⟨k, h, h1, h2⟩ := ih (by omega) x hx
      exact ⟨k, h, by omega, h2⟩
theorem rdN_len (l : List Cg) (block : Int) (i : Nat) : (rdN l block i).length ≤ i := by
  induction i with
  | zero => simp [rdN]
  | succ i ih =>
    unfold rdN
    split
    · rw [List.length_append]; simp; omega
    · omega
/-- A byte that one has which is not ready. -/
def heldN (l : List Cg) (block : Int) (i j : Nat) : Bool := (l.take i).any fun d => decide (d.block = block) && !(rdN l block i).contains d.id && d.p.has j
theorem heldN_iff {l : List Cg} {block : Int} {i j : Nat} : heldN l block i j = true ↔ ∃ k, ∃ h : k < l.length, k < i ∧ l[k].block = block ∧ l[k].id ∉ rdN l block i ∧ l[k].p.has j = true := by
  unfold heldN
  rw [List.any_eq_true]
  constructor
  · rintro ⟨d, hd, h⟩
    obtain ⟨k, hk, rfl⟩ := List.getElem_of_mem hd
    have hk' : k < l.length ∧ k < i := by simp at hk; omega
    rw [List.getElem_take] at h
    simp at h
    exact ⟨k, hk'.1, hk'.2, h.1.1, h.1.2, h.2⟩
  · rintro ⟨k, hk, hki, h1, h2, h3⟩
    exact ⟨l[k], List.mem_take_iff_getElem.2 ⟨k, by omega, rfl⟩, by simp [h1, h2, h3]⟩
theorem heldN_zero (l : List Cg) (block : Int) (j : Nat) : heldN l block 0 j = false := rfl
/-- Of the block's number, and not: who was not ready ahead is not ready. -/
theorem rdN_old {l : List Cg} {block : Int} (hm : mayC l = true) {i k : Nat} (hi : i < l.length) (hk : k < i) : l[k].id ∈ rdN l block (i + 1) ↔ l[k].id ∈ rdN l block i := by
  rw [rdN_succ hi]
  split
  · rw [List.mem_append, List.mem_singleton]
    constructor
    · rintro (h | h)
      · exact h
      · have := mayC_ids hm (by omega) hi h; omega
    · exact Or.inl
  · exact Iff.rfl
theorem rdN_self {l : List Cg} {block : Int} (hm : mayC l = true) {i : Nat} (hi : i < l.length) : l[i].id ∉ rdN l block i := fun h => by
  obtain ⟨k, hk, h1, h2⟩ := rdN_mem (by omega) _ h
  have := mayC_ids hm hk hi h2
  omega
/-- Of another block. -/
theorem rd_skip {l : List Cg} {block : Int} {i : Nat} (hi : i < l.length) (hb : l[i].block ≠ block) : rdN l block (i + 1) = rdN l block i ∧ ∀ j, heldN l block (i + 1) j = heldN l block i j := by
  have e : rdN l block (i + 1) = rdN l block i := by rw [rdN_succ hi, if_neg (fun h => hb h.1)]
  refine ⟨e, fun j => ?_⟩
  rw [Bool.eq_iff_iff, heldN_iff, heldN_iff, e]
  constructor
  · rintro ⟨k, hk, h1, h2, h3⟩
    have hne : k ≠ i := fun h => by subst h; exact hb h2
    exact ⟨k, hk, by omega, h2, h3⟩
  · rintro ⟨k, hk, h1, h2⟩
    exact ⟨k, hk, by omega, h2⟩
/-- Is there one of this number? -/
def hasId (l : List Cg) (x : Int) : Bool := l.any fun c => decide (c.id = x)
theorem hasId_iff {l : List Cg} {x : Int} : hasId l x = true ↔ ∃ c ∈ l, c.id = x := by unfold hasId; simp
/-- Is one of the first n so? -/
def anyN (f : Nat → Bool) : Nat → Bool
  | 0 => false
  | n + 1 => anyN f n || f n
theorem anyN_iff {f : Nat → Bool} {n : Nat} : anyN f n = true ↔ ∃ j, j < n ∧ f j = true := by
  induction n with
  | zero => simp [anyN]
  | succ n ih =>
    show (anyN f n || f n) = true ↔ _
    rw [Bool.or_eq_true, ih]
    constructor
    · rintro (⟨j, h1, h2⟩ | h)
      · exact ⟨j, by omega, h2⟩
      · exact ⟨n, by omega, h⟩
    · rintro ⟨j, h1, h2⟩
      by_cases h : j = n
      · subst h; exact Or.inr h2
      · exact Or.inl ⟨j, by omega, h2⟩
/-- What keeps the one at place i back: a byte that is held, or a need that is left. -/
def hitN (l : List Cg) (block : Int) (i : Nat) (c : Cg) : Bool := anyN (fun j => heldN l block i (c.p.lo + j)) c.p.data.length || c.needs.any fun x => hasId l x && !(rdN l block i).contains x
theorem riseN_below {e b : Int} {l : List Int} (h : riseN e b l = true) : ∀ x ∈ l, x < e := by
  induction l generalizing b with
  | nil => simp
  | cons x l ih =>
    obtain ⟨_, h2, h3⟩ := riseN_cons.1 h
    intro y hy
    rcases List.mem_cons.1 hy with rfl | hy
    · exact h2
    · exact ih h3 y hy
theorem hit_iff {l : List Cg} {block : Int} {i : Nat} (hm : mayC l = true) (hi : i < l.length) (hb : l[i].block = block) : ((waitsC l l[i].id).all fun x => (rdN l block i).contains x) = !hitN l block i l[i] := by
  obtain ⟨_, _, hr, hn⟩ := mayN_iff.1 hm i hi
  have hl : l = l.take i ++ l[i] :: l.drop (i + 1) := by rw [List.getElem_cons_drop, List.take_append_drop]
  have hlo := Pt.right_iff.1 hr
  rw [waitsC_mid hm hl]
  rw [Bool.eq_iff_iff, Bool.not_eq_true', List.all_eq_true]
  have keeps : ∀ d, keepsB d l[i] = true ↔ (d.block = block ∧ meetP d.p l[i].p = true) ∨ d.id ∈ l[i].needs := fun d => by
    unfold keepsB
    rw [hb]
    simp
  constructor
  · intro h
    rw [Bool.eq_false_iff]
    intro hit
    unfold hitN at hit
    rw [Bool.or_eq_true] at hit
    have bad : ∀ k (hk : k < l.length), k < i → keepsB l[k] l[i] = true → l[k].id ∉ rdN l block i → False := fun k hk hki h1 h2 => by
      have := h l[k].id (List.mem_map.2 ⟨l[k], List.mem_filter.2 ⟨List.mem_take_iff_getElem.2 ⟨k, by omega, rfl⟩, h1⟩, rfl⟩)
      exact h2 (by simpa using this)
    rcases hit with hit | hit
    · obtain ⟨j, hj, hh⟩ := anyN_iff.1 hit
      obtain ⟨k, hk, hki, h1, h2, h3⟩ := heldN_iff.1 hh
      refine bad k hk hki ((keeps _).2 (Or.inl ⟨h1, meetP_iff.2 ⟨_, h3, Pt.has_iff.2 ⟨hr, by omega, by omega⟩⟩⟩)) h2
    · obtain ⟨x, hx, hh⟩ := List.any_eq_true.1 hit
      rw [Bool.and_eq_true] at hh
      obtain ⟨c, hc, hcx⟩ := hasId_iff.1 hh.1
      obtain ⟨k, hk, rfl⟩ := List.getElem_of_mem hc
      have hlt := riseN_below hn x hx
      have hki : k < i := by
        rcases Nat.lt_trichotomy k i with h1 | h1 | h1
        · exact h1
        · subst h1; omega
        · have key : ∀ a b (hb : b < l.length) (hab : a < b), (l[a]'(by omega)).id < l[b].id := by
            intro a b hb hab
            induction b with
            | zero => omega
            | succ b ih =>
              have h5 := (mayN_iff.1 hm (b + 1) hb).1
              rw [if_neg (by omega)] at h5
              simp only [Nat.add_sub_cancel] at h5
              by_cases hab' : a = b
              · subst hab'; exact h5
              · have := ih (by omega) (by omega)
                omega
          have := key i k hk h1
          omega
      exact bad k hk hki ((keeps _).2 (Or.inr (by rw [hcx]; exact hx))) (by rw [hcx]; simpa using hh.2)
  · intro hit x hx
    obtain ⟨d, hd, rfl⟩ := List.mem_map.1 hx
    obtain ⟨hd1, hd2⟩ := List.mem_filter.1 hd
    obtain ⟨k, hk, rfl⟩ := List.mem_take_iff_getElem.1 hd1
    have hkl : k < l.length := by omega
    rw [show ((rdN l block i).contains l[k].id = true) ↔ l[k].id ∈ rdN l block i by simp]
    apply Classical.byContradiction
    intro hno
    unfold hitN at hit
    rw [Bool.or_eq_false_iff] at hit
    rcases (keeps _).1 hd2 with ⟨h1, h2⟩ | h1
    · obtain ⟨j, h3, h4⟩ := meetP_iff.1 h2
      obtain ⟨_, h5, h6⟩ := Pt.has_iff.1 h4
      have : anyN (fun j => heldN l block i (l[i].p.lo + j)) l[i].p.data.length = true := anyN_iff.2 ⟨j - l[i].p.lo, by omega, by
        rw [show l[i].p.lo + (j - l[i].p.lo) = j by omega]
        exact heldN_iff.2 ⟨k, hkl, by omega, h1, hno, h3⟩⟩
      rw [this] at hit
      cases hit.1
    · have : (l[i].needs.any fun x => hasId l x && !(rdN l block i).contains x) = true := List.any_eq_true.2 ⟨_, h1, by
        rw [Bool.and_eq_true]
        exact ⟨hasId_iff.2 ⟨_, List.getElem_mem hkl, rfl⟩, by simpa using hno⟩⟩
      rw [this] at hit
      cases hit.2
/-- One of the block that is kept back: its bytes are held. -/
theorem rd_hit {l : List Cg} {block : Int} {i : Nat} (hm : mayC l = true) (hi : i < l.length) (hb : l[i].block = block) (h : hitN l block i l[i] = true) :
    rdN l block (i + 1) = rdN l block i ∧ ∀ j, heldN l block (i + 1) j = (heldN l block i j || decide (l[i].p.lo ≤ j ∧ j < l[i].p.lo + l[i].p.data.length)) := by
  have e : rdN l block (i + 1) = rdN l block i := by
    rw [rdN_succ hi, if_neg (fun hh => by rw [hit_iff hm hi hb, h] at hh; simp at hh)]
  refine ⟨e, fun j => ?_⟩
  obtain ⟨_, _, hr, _⟩ := mayN_iff.1 hm i hi
  rw [Bool.eq_iff_iff, Bool.or_eq_true, heldN_iff, heldN_iff, e]
  simp only [decide_eq_true_eq]
  constructor
  · rintro ⟨k, hk, h1, h2, h3, h4⟩
    by_cases hki : k = i
    · subst hki
      exact Or.inr (Pt.has_iff.1 h4).2
    · exact Or.inl ⟨k, hk, by omega, h2, h3, h4⟩
  · rintro (⟨k, hk, h1, h2⟩ | hj)
    · exact ⟨k, hk, by omega, h2⟩
    · exact ⟨i, hi, by omega, hb, rdN_self hm hi, Pt.has_iff.2 ⟨hr, hj⟩⟩
/-- One that is ready. -/
theorem rd_free {l : List Cg} {block : Int} {i : Nat} (hm : mayC l = true) (hi : i < l.length) (hb : l[i].block = block) (h : hitN l block i l[i] = false) :
    rdN l block (i + 1) = rdN l block i ++ [l[i].id] ∧ ∀ j, heldN l block (i + 1) j = heldN l block i j := by
  have e : rdN l block (i + 1) = rdN l block i ++ [l[i].id] := by
    rw [rdN_succ hi, if_pos ⟨hb, by rw [hit_iff hm hi hb, h]; rfl⟩]
  refine ⟨e, fun j => ?_⟩
  rw [Bool.eq_iff_iff, heldN_iff, heldN_iff]
  constructor
  · rintro ⟨k, hk, h1, h2, h3, h4⟩
    by_cases hki : k = i
    · subst hki
      exact absurd (by rw [e]; simp) h3
    · exact ⟨k, hk, by omega, h2, fun hh => h3 ((rdN_old hm hi (by omega)).2 hh), h4⟩
  · rintro ⟨k, hk, h1, h2, h3, h4⟩
    exact ⟨k, hk, by omega, h2, fun hh => h3 ((rdN_old hm hi h1).1 hh), h4⟩

end Go.Proofs.Ytmcinaigkjfehaa

/-
  All and Depth by places, as marks and numbers beside a list. Plain; no program is named here.
-/
namespace Go.Proofs.Ytmcinaigkjfehaa

/-- The ID at a place. -/
def idA (l : List Cg) (k : Nat) : Int := (l.getD k default).id
theorem idA_eq {l : List Cg} {k : Nat} (h : k < l.length) : idA l k = l[k].id := by unfold idA; simp [List.getD, h]
theorem ids_lt {l : List Cg} (hm : mayC l = true) {i j : Nat} (hj : j < l.length) (hij : i < j) : (l[i]'(by omega)).id < l[j].id := by
  have h := List.pairwise_iff_getElem.1 (ids_rise hm) i j (by rw [List.length_map]; omega) (by rw [List.length_map]; omega) hij
  simpa using h
theorem has_at {l : List Cg} {x : Int} (h : HasId l x) : ∃ k, ∃ hk : k < l.length, l[k].id = x := by
  obtain ⟨c, hc, e⟩ := h
  obtain ⟨k, hk, rfl⟩ := List.getElem_of_mem hc
  exact ⟨k, hk, e⟩
theorem at_has {l : List Cg} {k : Nat} (hk : k < l.length) : HasId l l[k].id := ⟨l[k], List.getElem_mem hk, rfl⟩

/-- What the marks tell when those from m on have been gone through. -/
structure Marks (l : List Cg) (id : Int) (m : Nat) (f : Nat → Bool) : Prop where
  self : ∀ j (_ : j < l.length), l[j].id = id → f j = true
  sound : ∀ j (_ : j < l.length), f j = true → l[j].id ∈ allC l id
  closed : ∀ j (_ : j < l.length), m ≤ j → f j = true → ∀ k (_ : k < l.length), l[k].id ∈ waitsC l l[j].id → f k = true
theorem Marks.start {l : List Cg} {id : Int} (hm : mayC l = true) {p : Nat} (hp : p < l.length) (hid : l[p].id = id) : Marks l id l.length (fun j => decide (j = p)) where
  self := fun j hj e => decide_eq_true (mayC_ids hm hj hp (e.trans hid.symm))
  sound := fun j hj e => by
    have e : j = p := by simpa using e
    subst e
    rw [hid]
    exact allC_self hm (hid ▸ at_has hp)
  closed := fun j hj h => absurd hj (by omega)
theorem Marks.off {l : List Cg} {id : Int} {m : Nat} {f : Nat → Bool} (h : Marks l id (m + 1) f) (hf : f m = false) : Marks l id m f where
  self := h.self
  sound := h.sound
  closed := fun j hj hmj hfj => by
    by_cases e : j = m
    · subst e
      rw [hf] at hfj
      cases hfj
    · exact h.closed j hj (by omega) hfj
theorem Marks.on {l : List Cg} {id : Int} {m : Nat} {f : Nat → Bool} (hm : mayC l = true) (hid : HasId l id) (h : Marks l id (m + 1) f) (hml : m < l.length) (hf : f m = true) : Marks l id m (fun j => f j || (waitsC l l[m].id).contains (idA l j)) where
  self := fun j hj e => by rw [h.self j hj e, Bool.true_or]
  sound := fun j hj e => by
    rcases Bool.or_eq_true_iff.1 e with e | e
    · exact h.sound j hj e
    · rw [idA_eq hj] at e
      exact allC_closed hm hid (h.sound m hml hf) (by simpa using e)
  closed := fun j hj hmj e k hk hw => by
    by_cases ej : j = m
    · subst ej
      rw [idA_eq hk, List.contains_iff_mem.2 hw, Bool.or_true]
    · have hfj : f j = true := by
        rcases Bool.or_eq_true_iff.1 e with e | e
        · exact e
        · rw [idA_eq hj] at e
          have h1 := waitsC_lt hm (show l[j].id ∈ waitsC l l[m].id by simpa using e)
          have h2 := ids_lt hm hj (show m < j by omega)
          omega
      rw [h.closed j hj (by omega) hfj k hk hw, Bool.true_or]

/-- The IDs of those of the first k that are marked. -/
def markK (l : List Cg) (f : Nat → Bool) (k : Nat) : List Int := ((List.range k).filter f).map (idA l)
theorem markK_zero (l : List Cg) (f : Nat → Bool) : markK l f 0 = [] := rfl
theorem markK_on {l : List Cg} {f : Nat → Bool} {k : Nat} (h : f k = true) : markK l f (k + 1) = markK l f k ++ [idA l k] := by
  unfold markK
  rw [List.range_succ, List.filter_append, List.map_append, List.filter_cons_of_pos h]
  rfl
theorem markK_off {l : List Cg} {f : Nat → Bool} {k : Nat} (h : f k = false) : markK l f (k + 1) = markK l f k := by
  unfold markK
  rw [List.range_succ, List.filter_append, List.filter_cons_of_neg (by simp [h])]
  simp
theorem markK_len (l : List Cg) (f : Nat → Bool) (k : Nat) : (markK l f k).length ≤ k := by
  unfold markK
  rw [List.length_map]
  exact Nat.le_trans (List.length_filter_le _ _) (by rw [List.length_range]; exact Nat.le_refl _)
theorem markK_mem {l : List Cg} {f : Nat → Bool} {k : Nat} {x : Int} : x ∈ markK l f k ↔ ∃ j, j < k ∧ f j = true ∧ idA l j = x := by
  unfold markK
  simp only [List.mem_map, List.mem_filter, List.mem_range, and_assoc]
theorem markK_rise {l : List Cg} (hm : mayC l = true) (f : Nat → Bool) : ∀ k, k ≤ l.length → RiseI (markK l f k) := by
  intro k
  induction k with
  | zero => intro _; exact List.Pairwise.nil
  | succ k ih =>
    intro hk
    cases hf : f k
    · rw [markK_off hf]
      exact ih (by omega)
    · rw [markK_on hf]
      refine RiseI.snoc (ih (by omega)) fun y hy => ?_
      obtain ⟨j, hj, _, rfl⟩ := markK_mem.1 hy
      rw [idA_eq (by omega), idA_eq (by omega)]
      exact ids_lt hm (by omega) hj
/-- Gone through to the end, they are what the change needs. -/
theorem Marks.done {l : List Cg} {id : Int} {f : Nat → Bool} (hm : mayC l = true) (hid : HasId l id) (h : Marks l id 0 f) : markK l f l.length = allC l id := by
  refine RiseI.uniq (markK_rise hm f _ (Nat.le_refl _)) (allC_rise hm hid) fun x => ⟨fun hx => ?_, fun hx => ?_⟩
  · obtain ⟨j, hj, hf, rfl⟩ := markK_mem.1 hx
    rw [idA_eq hj]
    exact h.sound j hj hf
  · have key : ∀ d : Nat, ∀ x ∈ allC l id, (id - x).toNat ≤ d → ∃ j, ∃ hj : j < l.length, f j = true ∧ l[j].id = x := by
      intro d
      induction d with
      | zero =>
        intro x hx hd
        have h1 := allC_le hm hid hx
        have e : x = id := by omega
        obtain ⟨k, hk, hkx⟩ := has_at hid
        exact ⟨k, hk, h.self k hk hkx, by rw [hkx, e]⟩
      | succ d ih =>
        intro x hx hd
        rcases allC_from hm hid hx with e | ⟨z, hz, hw⟩
        · obtain ⟨k, hk, hkx⟩ := has_at hid
          exact ⟨k, hk, h.self k hk hkx, by rw [hkx, e]⟩
        · have h1 := waitsC_lt hm hw
          have h2 := allC_le hm hid hz
          obtain ⟨j, hj, hfj, rfl⟩ := ih z hz (by omega)
          obtain ⟨d', hd', e'⟩ := waitsC_mem hw
          obtain ⟨k, hk, hkx⟩ := has_at ⟨d', hd', e'⟩
          exact ⟨k, hk, h.closed j hj (Nat.zero_le _) hfj k hk (by rw [hkx]; exact hw), hkx⟩
    obtain ⟨j, hj, hf, e⟩ := key _ x hx (Nat.le_refl _)
    exact markK_mem.2 ⟨j, hj, hf, by rw [idA_eq hj, e]⟩
/-- One more of those for which one waits is marked. -/
def wantK (l : List Cg) (f : Nat → Bool) (W : List Int) (k j : Nat) : Bool := f j || (W.take k).contains (idA l j)
theorem wantK_zero (l : List Cg) (f : Nat → Bool) (W : List Int) (j : Nat) : wantK l f W 0 j = f j := by unfold wantK; simp
theorem wantK_all (l : List Cg) (f : Nat → Bool) (W : List Int) (j : Nat) : wantK l f W W.length j = (f j || W.contains (idA l j)) := by unfold wantK; rw [List.take_length]
theorem wantK_succ {l : List Cg} (hm : mayC l = true) (f : Nat → Bool) {W : List Int} {k q : Nat} (hk : k < W.length) (hq : q < l.length) (e : l[q].id = W[k]) {j : Nat} (hj : j < l.length) : wantK l f W (k + 1) j = (wantK l f W k j || decide (j = q)) := by
  unfold wantK
  rw [List.take_succ_eq_append_getElem hk, List.contains_append, ← Bool.or_assoc]
  congr 1
  rw [idA_eq hj, ← e]
  by_cases h : j = q
  · subst h; simp
  · have h2 : l[j].id ≠ l[q].id := fun e => h (mayC_ids hm hj hq e)
    simp [h, h2]
/-- The most of some, one by one. -/
theorem maxL_snoc (l : List Nat) (x : Nat) : maxL (l ++ [x]) = max (maxL l) x := by
  induction l with
  | nil => simp [maxL]
  | cons y l ih =>
    rw [List.cons_append]
    unfold maxL
    rw [ih]
    omega
theorem depth_at {l : List Cg} (hm : mayC l = true) {i : Nat} (hi : i < l.length) : depthC l l[i].id = maxL ((waitsC l l[i].id).map (depthC l)) + 1 := by
  have hl : l = l.take i ++ l[i] :: l.drop (i + 1) := by rw [← List.drop_eq_getElem_cons hi, List.take_append_drop]
  rw [waitsC_mid hm hl, List.map_map]
  exact depthC_eq hm hl
theorem depthC_no {l : List Cg} {id : Int} (h : ¬ HasId l id) : depthC l id = 0 := by
  unfold depthC
  split
  · rename_i hm
    cases hf : (deepGo [] l).find? fun x => decide (x.1.id = id) with
    | none => rfl
    | some x =>
      exfalso
      have h1 := List.mem_of_find?_eq_some hf
      have h2 : x.1.id = id := by simpa using List.find?_some hf
      obtain ⟨t, ht1, ht2⟩ := deepGo_pre l []
      rw [List.nil_append] at ht1
      refine h ⟨x.1, ?_, h2⟩
      rw [← ht2, ← ht1]
      exact List.mem_map.2 ⟨x, h1, rfl⟩
  · rfl
theorem depthC_wrong {l : List Cg} {id : Int} (h : mayC l = false) : depthC l id = 0 := by unfold depthC; rw [h]; rfl
theorem allC_wrong {l : List Cg} {id : Int} (h : mayC l = false) : allC l id = [] := by unfold allC; rw [if_neg (by rw [h]; simp)]
theorem wait_ahead {l : List Cg} (hm : mayC l = true) {i q : Nat} (hi : i < l.length) (hq : q < l.length) (h : l[q].id ∈ waitsC l l[i].id) : q < i := by
  have h1 := waitsC_lt hm h
  rcases Nat.lt_or_ge q i with h2 | h2
  · exact h2
  · exfalso
    by_cases e : q = i
    · subst e; omega
    · have := ids_lt hm hq (show i < q by omega); omega

end Go.Proofs.Ytmcinaigkjfehaa

/-
  Who waits for whom, by places: rows that hold of those that meet one only the last one at each byte, and what of them follows: all that one needs, how deep that goes, what a block's writing does, plans and drains. Plain; no program is named here.
-/
namespace Go.Proofs.Ytmcinaigkjfehaa

/-- The change at a place. -/
def cgA (l : List Cg) (k : Nat) : Cg := l.getD k default
theorem cgA_eq {l : List Cg} {k : Nat} (h : k < l.length) : cgA l k = l[k] := by simp [cgA, List.getD, h]
theorem cgA_take {l : List Cg} {k m : Nat} (h : k < m) : cgA (l.take m) k = cgA l k := by
  simp [cgA, List.getD, List.getElem?_take_of_lt h]
theorem idA_cgA (l : List Cg) (k : Nat) : idA l k = (cgA l k).id := rfl
theorem split_at {l : List Cg} {i : Nat} (hi : i < l.length) : l = l.take i ++ cgA l i :: l.drop (i + 1) := by
  rw [cgA_eq hi]
  simp
theorem waits_at {l : List Cg} (hm : mayC l = true) {i : Nat} (hi : i < l.length) {y : Int} : y ∈ waitsC l (cgA l i).id ↔ ∃ k, k < i ∧ keepsB (cgA l k) (cgA l i) = true ∧ (cgA l k).id = y := by
  rw [waitsC_mid hm (split_at hi), List.mem_map]
  constructor
  · rintro ⟨d, hd, rfl⟩
    obtain ⟨hd, hk⟩ := List.mem_filter.1 hd
    obtain ⟨k, hk', rfl⟩ := List.getElem_of_mem hd
    have hki : k < i := by simp at hk'; omega
    have e : (l.take i)[k] = cgA l k := by rw [cgA_eq (by omega)]; simp
    rw [e] at hk ⊢
    exact ⟨k, hki, hk, rfl⟩
  · rintro ⟨k, hki, hk, rfl⟩
    refine ⟨cgA l k, List.mem_filter.2 ⟨?_, hk⟩, rfl⟩
    rw [cgA_eq (by omega)]
    have : (l.take i)[k]'(by simp; omega) = l[k] := by simp
    rw [← this]
    exact List.getElem_mem _

/-- Rows by places: those for which one waits, though of those that meet it perhaps not all. -/
structure RowsOK (l : List Cg) (n : Nat) (R : Nat → List Nat) : Prop where
  lt : ∀ i, i < n → ∀ k ∈ R i, k < i
  sound : ∀ i, i < n → ∀ k ∈ R i, keepsB (cgA l k) (cgA l i) = true
  cover : ∀ i, i < n → ∀ k, k < i → keepsB (cgA l k) (cgA l i) = true → k ∈ R i ∨ ∃ k' ∈ R i, k < k' ∧ keepsB (cgA l k) (cgA l k') = true
  rise : ∀ i, i < n → (R i).Pairwise (· < ·)
theorem RowsOK.of_take {l : List Cg} {n : Nat} {R : Nat → List Nat} (h : RowsOK (l.take n) n R) : RowsOK l n R where
  lt := h.lt
  sound i hi k hk := by
    have := h.sound i hi k hk
    rwa [cgA_take hi, cgA_take (by have := h.lt i hi k hk; omega)] at this
  cover i hi k hk hkk := by
    rcases h.cover i hi k hk (by rw [cgA_take hi, cgA_take (by omega)]; exact hkk) with h1 | ⟨k', h1, h2, h3⟩
    · exact Or.inl h1
    · have := h.lt i hi k' h1
      rw [cgA_take (by omega), cgA_take (by omega)] at h3
      exact Or.inr ⟨k', h1, h2, h3⟩
  rise := h.rise
theorem RowsOK.closed {l : List Cg} {n : Nat} {R : Nat → List Nat} (h : RowsOK l n R) {f : Nat → Bool} (hf : ∀ i, i < n → f i = true → ∀ k ∈ R i, f k = true) : ∀ i, i < n → f i = true → ∀ k, k < i → keepsB (cgA l k) (cgA l i) = true → f k = true := by
  intro i
  induction i using Nat.strongRecOn with
  | _ i ih =>
    intro hi hfi k hk hkk
    rcases h.cover i hi k hk hkk with h1 | ⟨k', h1, h2, h3⟩
    · exact hf i hi hfi k h1
    · have := h.lt i hi k' h1
      exact ih k' this (by omega) (hf i hi hfi k' h1) k h2 h3
theorem RowsOK.len {l : List Cg} {n : Nat} {R : Nat → List Nat} (h : RowsOK l n R) {i : Nat} (hi : i < n) : (R i).length ≤ n := by
  have key : ∀ (r : List Nat) (m : Nat), r.Pairwise (· < ·) → (∀ x ∈ r, x < m) → r.length ≤ m := by
    intro r
    induction r with
    | nil => intro m _ _; simp
    | cons x r ih =>
      intro m hp hx
      obtain ⟨h1, h2⟩ := List.pairwise_cons.1 hp
      have hpos := hx x (by simp)
      -- those behind the first lie above it: shift them down by one
      have h3 := ih (m := m) h2 (fun y hy => hx y (by simp [hy]))
      have h4 : ∀ (s : List Nat) (b m : Nat), s.Pairwise (· < ·) → (∀ y ∈ s, b ≤ y ∧ y < m) → b ≤ m → s.length + b ≤ m := by
        intro s
        induction s with
        | nil => intro b m _ _ hb; simpa using hb
        | cons y s ihs =>
          intro b m hp hy hb
          obtain ⟨g1, g2⟩ := List.pairwise_cons.1 hp
          have gy := hy y (by simp)
          have := ihs (y + 1) m g2 (fun z hz => ⟨g1 z hz, (hy z (by simp [hz])).2⟩) (by omega)
          simp only [List.length_cons]
          omega
      have := h4 (x :: r) 0 m hp (fun y hy => ⟨Nat.zero_le _, hx y hy⟩) (Nat.zero_le _)
      omega
  exact key _ _ (h.rise i hi) (fun x hx => by have := h.lt i hi x hx; omega)

/-- Marks, gone through from the last one on, by rows. -/
structure MarkR (l : List Cg) (R : Nat → List Nat) (id : Int) (p m : Nat) (f : Nat → Bool) : Prop where
  self : f p = true
  sound : ∀ j, j ≤ p → f j = true → (cgA l j).id ∈ allC l id
  closed : ∀ j, j ≤ p → m ≤ j → f j = true → ∀ k ∈ R j, f k = true
section
variable {l : List Cg} {R : Nat → List Nat} {id : Int} {p m : Nat} {f : Nat → Bool}
theorem MarkR.start (hm : mayC l = true) (hp : p < l.length) (hid : (cgA l p).id = id) : MarkR l R id p (p + 1) (fun j => decide (j = p)) where
  self := by simp
  sound j hj e := by
    have e : j = p := by simpa using e
    subst e
    rw [hid]
    exact allC_self hm ⟨cgA l j, by rw [cgA_eq hp]; exact List.getElem_mem _, hid⟩
  closed j hj hmj := by omega
theorem MarkR.off (h : MarkR l R id p (m + 1) f) (hf : f m = false) : MarkR l R id p m f where
  self := h.self
  sound := h.sound
  closed j hj hmj e := by
    by_cases ej : j = m
    · subst ej; rw [hf] at e; cases e
    · exact h.closed j hj (by omega) e
theorem MarkR.on (hm : mayC l = true) (hp : p < l.length) (hid : (cgA l p).id = id) (hR : RowsOK l (p + 1) R) (h : MarkR l R id p (m + 1) f) (hmp : m ≤ p) (hf : f m = true) : MarkR l R id p m (fun j => f j || (R m).contains j) where
  self := by rw [h.self, Bool.true_or]
  sound j hj e := by
    rcases Bool.or_eq_true_iff.1 e with e | e
    · exact h.sound j hj e
    · have e : j ∈ R m := by simpa using e
      have hk := hR.sound m (by omega) j e
      have hlt := hR.lt m (by omega) j e
      have hI : HasId l id := ⟨cgA l p, by rw [cgA_eq hp]; exact List.getElem_mem _, hid⟩
      exact allC_closed hm hI (h.sound m hmp hf) ((waits_at hm (by omega)).2 ⟨j, hlt, hk, rfl⟩)
  closed j hj hmj e k hk := by
    by_cases ej : j = m
    · subst ej
      rw [List.contains_iff_mem.2 hk, Bool.or_true]
    · have hfj : f j = true := by
        rcases Bool.or_eq_true_iff.1 e with e | e
        · exact e
        · have e : j ∈ R m := by simpa using e
          have := hR.lt m (by omega) j e
          omega
      rw [h.closed j hj (by omega) hfj k hk, Bool.true_or]
/-- Behind all: those that are marked are all that it needs. -/
theorem MarkR.done (hm : mayC l = true) (hp : p < l.length) (hid : (cgA l p).id = id) (hR : RowsOK l (p + 1) R) (h : MarkR l R id p 0 f) : markK l f (p + 1) = allC l id := by
  have hI : HasId l id := ⟨cgA l p, by rw [cgA_eq hp]; exact List.getElem_mem _, hid⟩
  have hc := hR.closed (f := f) (fun i hi => h.closed i (by omega) (Nat.zero_le _))
  have hM : Marks l id 0 (fun j => decide (j ≤ p) && f j) := {
    self := fun j hj e => by
      have : j = p := mayC_ids hm hj hp (by rw [e, ← cgA_eq hp, hid])
      subst this
      rw [h.self]; simp
    sound := fun j hj e => by
      simp only [Bool.and_eq_true, decide_eq_true_eq] at e
      rw [← cgA_eq hj]
      exact h.sound j e.1 e.2
    closed := fun j hj _ e k hk hw => by
      simp only [Bool.and_eq_true, decide_eq_true_eq] at e
      rw [← cgA_eq hj] at hw
      obtain ⟨k', h1, h2, h3⟩ := (waits_at hm hj).1 hw
      have : k' = k := mayC_ids hm (by omega) hk (by rw [← cgA_eq (by omega), h3])
      subst this
      rw [hc j (by omega) e.2 k' h1 h2]
      simp; omega }
  have hd := hM.done hm hI
  rw [← hd]
  have key : ∀ k, p + 1 ≤ k → k ≤ l.length → markK l (fun j => decide (j ≤ p) && f j) k = markK l f (p + 1) := by
    intro k
    induction k with
    | zero => intro h; omega
    | succ k ih =>
      intro h1 h2
      by_cases hk : k = p
      · subst hk
        unfold markK
        congr 1
        apply List.filter_congr
        intro x hx
        have : x ≤ k := by have := List.mem_range.1 hx; omega
        simp [this]
      · rw [markK_off (by simp; omega)]
        exact ih (by omega) (by omega)
  exact (key l.length (by omega) (Nat.le_refl _)).symm
end

/-- How deep one is, by rows. -/
theorem maxL_eq {a b : List Nat} (h1 : ∀ x ∈ a, ∃ y ∈ b, x ≤ y) (h2 : ∀ x ∈ b, ∃ y ∈ a, x ≤ y) : maxL a = maxL b :=
  Nat.le_antisymm (maxL_le fun x hx => by obtain ⟨y, hy, hxy⟩ := h1 x hx; exact Nat.le_trans hxy (le_maxL hy)) (maxL_le fun x hx => by obtain ⟨y, hy, hxy⟩ := h2 x hx; exact Nat.le_trans hxy (le_maxL hy))
theorem depth_rows {l : List Cg} {R : Nat → List Nat} {n : Nat} (hm : mayC l = true) (hn : n ≤ l.length) (hR : RowsOK l n R) {i : Nat} (hi : i < n) : depthC l (cgA l i).id = maxL ((R i).map fun k => depthC l (cgA l k).id) + 1 := by
  have hil : i < l.length := by omega
  have h0 := depth_at hm hil
  rw [← cgA_eq hil] at h0
  rw [h0]
  congr 1
  apply maxL_eq
  · intro x hx
    obtain ⟨y, hy, rfl⟩ := List.mem_map.1 hx
    obtain ⟨k, h1, h2, rfl⟩ := (waits_at hm hil).1 hy
    rcases hR.cover i hi k h1 h2 with h3 | ⟨k', h3, h4, h5⟩
    · exact ⟨_, List.mem_map.2 ⟨k, h3, rfl⟩, Nat.le_refl _⟩
    · refine ⟨_, List.mem_map.2 ⟨k', h3, rfl⟩, ?_⟩
      have hk' := hR.lt i hi k' h3
      have e := depth_at hm (show k' < l.length by omega)
      rw [← cgA_eq (by omega)] at e
      have hw : (cgA l k).id ∈ waitsC l (cgA l k').id := (waits_at hm (by omega)).2 ⟨k, h4, h5, rfl⟩
      have := le_maxL (List.mem_map.2 ⟨_, hw, rfl⟩ : depthC l (cgA l k).id ∈ (waitsC l (cgA l k').id).map (depthC l))
      omega
  · intro x hx
    obtain ⟨k, hk, rfl⟩ := List.mem_map.1 hx
    exact ⟨_, List.mem_map.2 ⟨_, (waits_at hm hil).2 ⟨k, hR.lt i hi k hk, hR.sound i hi k hk, rfl⟩, rfl⟩, Nat.le_refl _⟩

/-! ### Changes that are done, by places -/
/-- What is left. -/
def leftD (l : List Cg) (D : Nat → Bool) : List Cg := withoutC l (markK l D l.length)
theorem mark_iff {l : List Cg} (hm : mayC l = true) (D : Nat → Bool) {i : Nat} (hi : i < l.length) : (cgA l i).id ∈ markK l D l.length ↔ D i = true := by
  rw [markK_mem]
  constructor
  · rintro ⟨j, hj, hD, e⟩
    rw [idA_eq hj, cgA_eq hi] at e
    have := mayC_ids hm hj hi e
    subst this
    exact hD
  · intro h
    exact ⟨i, hi, h, rfl⟩
theorem leftD_none (l : List Cg) : leftD l (fun _ => false) = l := by
  have : markK l (fun _ => false) l.length = [] := by simp [markK]
  unfold leftD withoutC
  rw [this]
  simp
theorem leftD_mem {l : List Cg} (hm : mayC l = true) {D : Nat → Bool} {c : Cg} : c ∈ leftD l D ↔ ∃ k, k < l.length ∧ D k = false ∧ cgA l k = c := by
  unfold leftD withoutC
  rw [List.mem_filter]
  constructor
  · rintro ⟨h1, h2⟩
    obtain ⟨k, hk, rfl⟩ := List.getElem_of_mem h1
    rw [← cgA_eq hk] at h2
    refine ⟨k, hk, ?_, cgA_eq hk⟩
    cases hD : D k
    · rfl
    · rw [List.contains_iff_mem.2 ((mark_iff hm D hk).2 hD)] at h2; cases h2
  · rintro ⟨k, hk, hD, rfl⟩
    refine ⟨by rw [cgA_eq hk]; exact List.getElem_mem _, ?_⟩
    have : (cgA l k).id ∉ markK l D l.length := fun h => by rw [(mark_iff hm D hk).1 h] at hD; cases hD
    simpa using this
theorem leftD_split {l : List Cg} (hm : mayC l = true) {D : Nat → Bool} {i : Nat} (hi : i < l.length) (hD : D i = false) :
    ∃ p q, leftD l D = p ++ cgA l i :: q ∧ ∀ c, c ∈ p ↔ ∃ k, k < i ∧ D k = false ∧ cgA l k = c := by
  have hs := split_at hi
  have hid : ∀ k, k < l.length → ((!(markK l D l.length).contains (cgA l k).id) = true ↔ D k = false) := fun k hk => by
    have := mark_iff hm D hk
    cases hDk : D k
    · rw [hDk] at this
      simpa using this
    · rw [hDk] at this
      simpa using this
  refine ⟨(l.take i).filter (fun c => !(markK l D l.length).contains c.id), (l.drop (i + 1)).filter (fun c => !(markK l D l.length).contains c.id), ?_, fun c => ?_⟩
  · unfold leftD withoutC
    conv => lhs; rw [hs]
    rw [List.filter_append, List.filter_cons, ← hs]
    rw [if_pos ((hid i hi).2 hD)]
  · rw [List.mem_filter]
    constructor
    · rintro ⟨h1, h2⟩
      obtain ⟨k, hk, rfl⟩ := List.getElem_of_mem h1
      have hki : k < i := by simp at hk; omega
      have e : (l.take i)[k] = cgA l k := by rw [cgA_eq (by omega)]; simp
      rw [e] at h2 ⊢
      exact ⟨k, hki, (hid k (by omega)).1 h2, rfl⟩
    · rintro ⟨k, hki, hDk, rfl⟩
      refine ⟨?_, (hid k (by omega)).2 hDk⟩
      rw [cgA_eq (by omega)]
      have : (l.take i)[k]'(by simp; omega) = l[k] := by simp
      rw [← this]
      exact List.getElem_mem _
theorem leftD_may {l : List Cg} (hm : mayC l = true) (D : Nat → Bool) : mayC (leftD l D) = true := withoutC_may _ hm
/-- What a block's writing does, by places. -/
structure Wrote (l : List Cg) (R : Nat → List Nat) (b : Int) (D D' : Nat → Bool) : Prop where
  mono : ∀ i, D i = true → D' i = true
  closed : ∀ i, i < l.length → D' i = true → ∀ k ∈ R i, D' k = true
  new : ∀ i, i < l.length → D' i = true → D i = false → (cgA l i).block = b
  full : ∀ i, i < l.length → (cgA l i).block = b → (∀ k ∈ R i, D' k = true) → D' i = true
theorem Wrote.ready {l : List Cg} {R : Nat → List Nat} {b : Int} {D D' : Nat → Bool} (hm : mayC l = true) (hR : RowsOK l l.length R) (h : Wrote l R b D D') :
    ∀ i, i < l.length → D i = false → (D' i = true ↔ (cgA l i).id ∈ readyC (leftD l D) b) := by
  have hc := hR.closed (f := D') h.closed
  have hmL := leftD_may hm D
  intro i
  induction i using Nat.strongRecOn with
  | _ i ih =>
    intro hi hD
    obtain ⟨p, q, hs, hp⟩ := leftD_split hm hi hD
    constructor
    · intro hD'
      refine readyC_full hmL hs (h.new i hi hD' hD) fun d hd hk => ?_
      obtain ⟨k, hki, hDk, rfl⟩ := (hp d).1 hd
      exact (ih k hki (by omega) hDk).1 (hc i hi hD' k hki hk)
    · intro hx
      obtain ⟨p', c, q', hs', hcid, hcb, hk⟩ := readyC_spec hmL _ hx
      have hci : c = cgA l i := may_id hmL (by rw [hs']; simp) (by rw [hs]; simp) hcid
      have e1 := splitId_mid hmL hs
      have e2 := splitId_mid hmL hs'
      rw [hci] at e2
      rw [e1] at e2
      simp only [Option.some.injEq, Prod.mk.injEq, and_true] at e2
      subst hci
      refine h.full i hi hcb fun k hkR => ?_
      have hki := hR.lt i hi k hkR
      cases hDk : D k
      · exact (ih k hki (by omega) hDk).2 (hk _ (by rw [← e2]; exact (hp _).2 ⟨k, hki, hDk, rfl⟩) (hR.sound i hi k hkR))
      · exact h.mono k hDk
theorem Wrote.left {l : List Cg} {R : Nat → List Nat} {b : Int} {D D' : Nat → Bool} (hm : mayC l = true) (hR : RowsOK l l.length R) (h : Wrote l R b D D') : leftD l D' = leftC (leftD l D) b := by
  have hr := h.ready hm hR
  unfold leftC
  conv => rhs; unfold withoutC
  conv => rhs; rhs; unfold leftD withoutC
  rw [List.filter_filter]
  conv => lhs; unfold leftD withoutC
  apply List.filter_congr
  intro c hc
  obtain ⟨i, hi, rfl⟩ := List.getElem_of_mem hc
  rw [← cgA_eq hi]
  have h1 := mark_iff hm D' hi
  have h2 := mark_iff hm D hi
  cases hD : D i
  · have h3 := hr i hi hD
    rw [hD] at h2
    have e2 : (markK l D l.length).contains (cgA l i).id = false := by simpa using h2
    rw [e2]
    cases hD' : D' i
    · rw [hD'] at h1 h3
      have e1 : (markK l D' l.length).contains (cgA l i).id = false := by simpa using h1
      have e3 : (readyC (leftD l D) b).contains (cgA l i).id = false := by simpa using h3
      rw [e1, e3]; rfl
    · have e1 : (markK l D' l.length).contains (cgA l i).id = true := by simpa using h1.2 hD'
      have e3 : (readyC (leftD l D) b).contains (cgA l i).id = true := by simpa using h3.1 hD'
      rw [e1, e3]; rfl
  · have e1 : (markK l D' l.length).contains (cgA l i).id = true := by simpa using h1.2 (h.mono i hD)
    have e2 : (markK l D l.length).contains (cgA l i).id = true := by simpa using h2.2 hD
    rw [e1, e2]
    simp

/-! ### Drains and plans -/
theorem leftC_less {c : Cg} {l : List Cg} (hm : mayC (c :: l) = true) : (leftC (c :: l) c.block).length + 1 ≤ (c :: l).length := by
  have := withoutC_len (block := c.block) hm
  obtain ⟨t, ht⟩ := readyC_first hm
  rw [ht] at this
  unfold leftC
  rw [ht]
  simp only [List.length_cons] at this ⊢
  omega
theorem drainGo_more : ∀ n m l, mayC l = true → l.length ≤ n → l.length ≤ m → drainGo n l = drainGo m l := by
  intro n
  induction n with
  | zero =>
    intro m l _ h1 _
    have : l = [] := List.eq_nil_of_length_eq_zero (by omega)
    subst this
    cases m <;> rfl
  | succ n ih =>
    intro m l hm h1 h2
    cases l with
    | nil => cases m <;> rfl
    | cons c l =>
      cases m with
      | zero => simp at h2
      | succ m =>
        have := leftC_less hm
        show c.block :: drainGo n _ = c.block :: drainGo m _
        rw [ih m _ (leftC_may _ hm) (by omega) (by omega)]
/-- A drain, from what is left on. -/
def drN (l : List Cg) : List Int := drainGo l.length l
theorem drN_nil : drN [] = [] := rfl
theorem drN_cons {c : Cg} {l : List Cg} (hm : mayC (c :: l) = true) : drN (c :: l) = c.block :: drN (leftC (c :: l) c.block) := by
  have h1 := leftC_less hm
  show c.block :: drainGo l.length _ = _
  unfold drN
  rw [drainGo_more l.length _ _ (leftC_may _ hm) (by simp only [List.length_cons] at h1; omega) (Nat.le_refl _)]
theorem drainC_drN {l : List Cg} (hm : mayC l = true) : drainC l = drN l := by unfold drainC drN; rw [if_pos hm]
/-- All that one needs, as changes. -/
def subC (l : List Cg) (id : Int) : List Cg := l.filter fun c => (allC l id).contains c.id
theorem subC_may {l : List Cg} {id : Int} (hm : mayC l = true) : mayC (subC l id) = true := mayN_filter _ hm
theorem sub_filter_split {l p q : List Cg} {c : Cg} (f : Cg → Bool) (hl : l = p ++ c :: q) (hc : f c = true) : l.filter f = p.filter f ++ c :: q.filter f := by
  rw [hl, List.filter_append, List.filter_cons, if_pos hc]
theorem sub_ready {l : List Cg} {id b : Int} (hm : mayC l = true) (hid : HasId l id) : ∀ i, i < l.length → (cgA l i).id ∈ allC l id → ((cgA l i).id ∈ readyC (subC l id) b ↔ (cgA l i).id ∈ readyC l b) := by
  have hmS := subC_may (id := id) hm
  intro i
  induction i using Nat.strongRecOn with
  | _ i ih =>
    intro hi ha
    have hs := split_at hi
    have hsS := sub_filter_split (fun c => (allC l id).contains c.id) hs (List.contains_iff_mem.2 ha)
    have hin : ∀ d ∈ l.take i, ∃ k, k < i ∧ cgA l k = d := fun d hd => by
      obtain ⟨k, hk, rfl⟩ := List.getElem_of_mem hd
      have hki : k < i := by simp at hk; omega
      exact ⟨k, hki, by rw [cgA_eq (by omega)]; simp⟩
    constructor
    · intro hx
      obtain ⟨p', c, q', hs', hcid, hcb, hk⟩ := readyC_spec hmS _ hx
      have hci : c = cgA l i := may_id hmS (by rw [hs']; simp) (show cgA l i ∈ subC l id by unfold subC; rw [hsS]; simp) hcid
      have e1 := splitId_mid hmS (show subC l id = _ from hsS)
      have e2 := splitId_mid hmS hs'
      rw [hci] at e2
      rw [e1] at e2
      simp only [Option.some.injEq, Prod.mk.injEq, and_true] at e2
      subst hci
      refine readyC_full hm hs hcb fun d hd hkd => ?_
      obtain ⟨k, hki, rfl⟩ := hin d hd
      have hka : (cgA l k).id ∈ allC l id := allC_closed hm hid ha ((waits_at hm hi).2 ⟨k, hki, hkd, rfl⟩)
      exact (ih k hki (by omega) hka).1 (hk _ (by rw [← e2]; exact List.mem_filter.2 ⟨hd, List.contains_iff_mem.2 hka⟩) hkd)
    · intro hx
      obtain ⟨p', c, q', hs', hcid, hcb, hk⟩ := readyC_spec hm _ hx
      have hci : c = cgA l i := may_id hm (by rw [hs']; simp) (by rw [cgA_eq hi]; exact List.getElem_mem _) hcid
      have e1 := splitId_mid hm hs
      have e2 := splitId_mid hm hs'
      rw [hci] at e2
      rw [e1] at e2
      simp only [Option.some.injEq, Prod.mk.injEq, and_true] at e2
      subst hci
      refine readyC_full hmS (show subC l id = _ from hsS) hcb fun d hd hkd => ?_
      obtain ⟨hd, hda⟩ := List.mem_filter.1 hd
      obtain ⟨k, hki, rfl⟩ := hin d hd
      have hka : (cgA l k).id ∈ allC l id := List.contains_iff_mem.1 hda
      exact (ih k hki (by omega) hka).2 (hk _ (by rw [← e2]; exact hd) hkd)
theorem all_left_iff {l : List Cg} {id b : Int} (hm : mayC l = true) (hid : HasId l id) {x : Int} (hx : x ∉ readyC l b) : x ∈ allC l id ↔ x ∈ allC (leftC l b) id := by
  constructor
  · intro h
    have hmL := leftC_may b hm
    have stay : ∀ y, y ∉ readyC l b → HasId l y → HasId (leftC l b) y := fun y hy ⟨c, hc, e⟩ => ⟨c, by
      unfold leftC withoutC
      rw [List.mem_filter]
      subst e
      exact ⟨hc, by simpa using hy⟩, e⟩
    -- from the change itself on, down to it
    have key : ∀ n : Nat, ∀ x, x ∈ allC l id → x ∉ readyC l b → (id - x).toNat ≤ n → x ∈ allC (leftC l b) id := by
      intro n
      induction n with
      | zero =>
        intro x hx hr hn
        have := allC_le hm hid hx
        have e : x = id := by omega
        subst e
        exact allC_self hmL (stay _ hr hid)
      | succ n ih =>
        intro x hx hr hn
        rcases allC_from hm hid hx with e | ⟨z, hz, hw⟩
        · subst e
          exact allC_self hmL (stay _ hr hid)
        · have hlt := waitsC_lt hm hw
          have hzr : z ∉ readyC l b := fun h => hr (readyC_waits hm h x hw)
          have hzL := ih z hz hzr (by have := allC_le hm hid hz; omega)
          have hidL : HasId (leftC l b) id := by
            by_cases h : HasId (leftC l b) id
            · exact h
            · rw [allC_none h] at hzL; cases hzL
          refine allC_closed hmL hidL hzL ?_
          -- it still waits for it
          obtain ⟨c, hcl, hcz⟩ := stay z hzr (by
            obtain ⟨c, hc, e⟩ := List.mem_map.1 ((allC_sub hm hid).subset hz)
            exact ⟨c, hc, e⟩)
          have hcl' : c ∈ l := (List.mem_filter.1 hcl).1
          obtain ⟨j, hj, rfl⟩ := List.getElem_of_mem hcl'
          rw [← cgA_eq hj] at hcz hcl
          subst hcz
          obtain ⟨k, hkj, hkk, hkx⟩ := (waits_at hm hj).1 hw
          have hs := split_at hj
          have hr' : (fun c : Cg => !(readyC l b).contains c.id) (cgA l j) = true := by simpa using hzr
          have hsL : leftC l b = _ := sub_filter_split (fun c : Cg => !(readyC l b).contains c.id) hs hr'
          rw [waitsC_mid hmL hsL, List.mem_map]
          refine ⟨cgA l k, List.mem_filter.2 ⟨List.mem_filter.2 ⟨?_, ?_⟩, hkk⟩, hkx⟩
          · rw [cgA_eq (by omega)]
            have : (l.take j)[k]'(by simp; omega) = l[k] := by simp
            rw [← this]
            exact List.getElem_mem _
          · rw [hkx]; simpa using hr
    exact key _ x h hx (Nat.le_refl _)
  · exact allC_left hm x
theorem sub_left {l : List Cg} {id b : Int} (hm : mayC l = true) (hid : HasId l id) : leftC (subC l id) b = subC (leftC l b) id := by
  unfold leftC
  conv => lhs; unfold withoutC
  conv => lhs; rhs; unfold subC
  rw [List.filter_filter]
  conv => rhs; unfold subC withoutC
  rw [List.filter_filter]
  apply List.filter_congr
  intro c hc
  obtain ⟨i, hi, rfl⟩ := List.getElem_of_mem hc
  rw [← cgA_eq hi]
  by_cases hr : (cgA l i).id ∈ readyC l b
  · have e1 : (readyC l b).contains (cgA l i).id = true := List.contains_iff_mem.2 hr
    rw [e1]
    by_cases ha : (cgA l i).id ∈ allC l id
    · rw [List.contains_iff_mem.2 ((sub_ready hm hid i hi ha).2 hr)]; simp
    · have : (allC l id).contains (cgA l i).id = false := by simpa using ha
      rw [this]; simp
  · have e1 : (readyC l b).contains (cgA l i).id = false := by simpa using hr
    have e2 := all_left_iff (b := b) hm hid hr
    rw [e1]
    by_cases ha : (cgA l i).id ∈ allC l id
    · have e3 : (readyC (subC l id) b).contains (cgA l i).id = false := by
        have := fun h => hr ((sub_ready hm hid i hi ha).1 h)
        simpa using this
      rw [e3, List.contains_iff_mem.2 ha]
      have := List.contains_iff_mem.2 (e2.1 ha)
      unfold leftC withoutC at this
      rw [this]
      rfl
    · have e3 : (allC l id).contains (cgA l i).id = false := by simpa using ha
      have e4 : (allC (leftC l b) id).contains (cgA l i).id = false := by
        have := fun h => ha (e2.2 h)
        simpa using this
      unfold leftC withoutC at e4
      rw [e3, e4]; simp
theorem subC_ids {l : List Cg} {id : Int} (hm : mayC l = true) (hid : HasId l id) : (subC l id).map (·.id) = allC l id := by
  refine RiseI.uniq (ids_rise (b := 0) (subC_may hm)) (allC_rise hm hid) fun x => ?_
  constructor
  · intro h
    obtain ⟨c, hc, rfl⟩ := List.mem_map.1 h
    exact List.contains_iff_mem.1 (List.mem_filter.1 hc).2
  · intro h
    obtain ⟨c, hc, rfl⟩ := List.mem_map.1 ((allC_sub hm hid).subset h)
    exact List.mem_map.2 ⟨c, List.mem_filter.2 ⟨hc, List.contains_iff_mem.2 h⟩, rfl⟩
theorem subC_none {l : List Cg} {id : Int} (h : ¬ HasId l id ∨ mayC l = false) : subC l id = [] := by
  have : allC l id = [] := by
    rcases h with h | h
    · exact allC_none h
    · exact allC_wrong h
  unfold subC
  rw [this]
  simp
/-- A plan is a drain of all that the change needs. -/
theorem planGo_drain : ∀ n l id, mayC l = true → (subC l id).length ≤ n → planGo n l id = drN (subC l id) := by
  intro n
  induction n with
  | zero =>
    intro l id hm h
    have : subC l id = [] := List.eq_nil_of_length_eq_zero (by omega)
    rw [this]
    rfl
  | succ n ih =>
    intro l id hm h
    by_cases hid : HasId l id
    · have hids := subC_ids hm hid
      cases hs : subC l id with
      | nil =>
        rw [hs] at hids
        show (match allC l id with | [] => [] | x :: _ => blockOf l x :: planGo n (leftC l (blockOf l x)) id) = _
        rw [← hids]
        rfl
      | cons c s =>
        rw [hs] at hids
        have hcl : c ∈ l := (List.mem_filter.1 (show c ∈ subC l id by rw [hs]; simp)).1
        have hb : blockOf l c.id = c.block := by
          obtain ⟨p, q, hl⟩ := mem_split hcl
          unfold blockOf findC
          rw [splitId_mid hm hl]
          rfl
        have hmS := subC_may (id := id) hm
        rw [hs] at hmS
        show (match allC l id with | [] => [] | x :: _ => blockOf l x :: planGo n (leftC l (blockOf l x)) id) = _
        rw [← hids]
        show blockOf l c.id :: planGo n (leftC l (blockOf l c.id)) id = _
        rw [hb, drN_cons hmS, ← hs, sub_left hm hid]
        rw [ih _ id (leftC_may _ hm)]
        rw [← sub_left hm hid, hs]
        have := leftC_less hmS
        rw [hs] at h
        omega
    · rw [subC_none (Or.inl hid)]
      show (match allC l id with | [] => [] | x :: _ => blockOf l x :: planGo n (leftC l (blockOf l x)) id) = _
      rw [allC_none hid]
      rfl
theorem planC_drain {l : List Cg} {id : Int} : planC l id = drainC (subC l id) := by
  cases hm : mayC l
  · rw [subC_none (Or.inr hm)]
    unfold planC
    cases l with
    | nil => rfl
    | cons c l =>
      show (match allC (c :: l) id with | [] => [] | x :: _ => blockOf (c :: l) x :: planGo l.length (leftC (c :: l) (blockOf (c :: l) x)) id) = _
      rw [allC_wrong hm]
      rfl
  · rw [drainC_drN (subC_may hm)]
    exact planGo_drain _ l id hm (List.length_filter_le _ _)

end Go.Proofs.Ytmcinaigkjfehaa
