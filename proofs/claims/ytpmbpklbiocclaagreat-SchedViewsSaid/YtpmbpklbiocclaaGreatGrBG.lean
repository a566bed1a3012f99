/-
  Texts of this claim joined: GraphC, WaitA, WaitB, ZcA, Bools, DeepA.
-/
import Derived.Test.YtpmbpklbiocclaaGreatGrAY
import Derived.Test.YtpmbpklbiocclaaGreatGrAA
import Derived.Test.YtpmbpklbiocclaaGreatGrAD

/-
  All and Depth by places, as marks and numbers beside a list. Plain; no program is named here.
-/
namespace Go.Proofs.YtpmbpklbiocclaaGreat

def idA (l : List Cg) (k : Nat) : Int := (l.getD k default).id
theorem idA_eq {l : List Cg} {k : Nat} (h : k < l.length) : idA l k = l[k].id := by unfold idA; simp [List.getD, h]
theorem ids_lt {l : List Cg} (hm : mayC l = true) {i j : Nat} (hj : j < l.length) (hij : i < j) : (l[i]'(by omega)).id < l[j].id := by
  have h := List.pairwise_iff_getElem.1 (ids_rise hm) i j (by rw [List.length_map]; omega) (by rw [List.length_map]; omega) hij
  simpa using h
theorem has_at {l : List Cg} {x : Int} (h : HasId l x) : ∃ k, ∃ hk : k < l.length, l[k].id = x := by
  obtain ⟨c, hc, e⟩ := h
  obtain ⟨k, hk, rfl⟩ := List.getElem_of_mem hc
  exact ⟨k, hk, e⟩
theorem at_has {l : List Cg} {k : Nat} (hk : k < l.length) : HasId l l[k].id := ⟨l[k], List.getElem_mem hk, rfl⟩

structure Marks (l : List Cg) (id : Int) (m : Nat) (f : Nat → Bool) : Prop where
  self : ∀ j (_ : j < l.length), l[j].id = id → f j = true
  sound : ∀ j (_ : j < l.length), f j = true → l[j].id ∈ allC l id
  closed : ∀ j (_ : j < l.length), m ≤ j → f j = true → ∀ k (_ : k < l.length), l[k].id ∈ waitsC l l[j].id → f k = true
theorem Marks.start {l : List Cg} {id : Int} (hm : mayC l = true) {p : Nat} (hp : p < l.length) (hid : l[p].id = id) : Marks l id l.length (fun j => decide (j = p)) where
  self := fun j hj e => decide_eq_true (mayC_ids hm hj hp (e.trans hid.symm))
  sound := fun j hj e => by
    have e : j = p := by simpa using e
    subst e
    rw [hid]
    exact allC_self hm (hid ▸ at_has hp)
  closed := fun j hj h => absurd hj (by omega)
theorem Marks.off {l : List Cg} {id : Int} {m : Nat} {f : Nat → Bool} (h : Marks l id (m + 1) f) (hf : f m = false) : Marks l id m f where
  self := h.self
  sound := h.sound
  closed := fun j hj hmj hfj => by
    by_cases e : j = m
    · subst e
      rw [hf] at hfj
      cases hfj
    · exact h.closed j hj (by omega) hfj
theorem Marks.on {l : List Cg} {id : Int} {m : Nat} {f : Nat → Bool} (hm : mayC l = true) (hid : HasId l id) (h : Marks l id (m + 1) f) (hml : m < l.length) (hf : f m = true) : Marks l id m (fun j => f j || (waitsC l l[m].id).contains (idA l j)) where
  self := fun j hj e => by rw [h.self j hj e, Bool.true_or]
  sound := fun j hj e => by
    rcases Bool.or_eq_true_iff.1 e with e | e
    · exact h.sound j hj e
    · rw [idA_eq hj] at e
      exact allC_closed hm hid (h.sound m hml hf) (by simpa using e)
  closed := fun j hj hmj e k hk hw => by
    by_cases ej : j = m
    · subst ej
      rw [idA_eq hk, List.contains_iff_mem.2 hw, Bool.or_true]
    · have hfj : f j = true := by
        rcases Bool.or_eq_true_iff.1 e with e | e
        · exact e
        · rw [idA_eq hj] at e
          have h1 := waitsC_lt hm (show l[j].id ∈ waitsC l l[m].id by simpa using e)
          have h2 := ids_lt hm hj (show m < j by omega)
          omega
      rw [h.closed j hj (by omega) hfj k hk hw, Bool.true_or]

def markK (l : List Cg) (f : Nat → Bool) (k : Nat) : List Int := ((List.range k).filter f).map (idA l)
theorem markK_on {l : List Cg} {f : Nat → Bool} {k : Nat} (h : f k = true) : markK l f (k + 1) = markK l f k ++ [idA l k] := by
  unfold markK
  rw [List.range_succ, List.filter_append, List.map_append, List.filter_cons_of_pos h]
  rfl
theorem markK_off {l : List Cg} {f : Nat → Bool} {k : Nat} (h : f k = false) : markK l f (k + 1) = markK l f k := by
  unfold markK
  rw [List.range_succ, List.filter_append, List.filter_cons_of_neg (by simp [h])]
  simp
theorem markK_mem {l : List Cg} {f : Nat → Bool} {k : Nat} {x : Int} : x ∈ markK l f k ↔ ∃ j, j < k ∧ f j = true ∧ idA l j = x := by
  unfold markK
  simp only [List.mem_map, List.mem_filter, List.mem_range, and_assoc]
theorem markK_rise {l : List Cg} (hm : mayC l = true) (f : Nat → Bool) : ∀ k, k ≤ l.length → RiseI (markK l f k) := by
  intro k
  induction k with
  | zero => intro _; exact List.Pairwise.nil
  | succ k ih =>
    intro hk
    cases hf : f k
    · rw [markK_off hf]
      exact ih (by omega)
    · rw [markK_on hf]
      refine RiseI.snoc (ih (by omega)) fun y hy => ?_
      obtain ⟨j, hj, _, rfl⟩ := markK_mem.1 hy
      rw [idA_eq (by omega), idA_eq (by omega)]
      exact ids_lt hm (by omega) hj
theorem Marks.done {l : List Cg} {id : Int} {f : Nat → Bool} (hm : mayC l = true) (hid : HasId l id) (h : Marks l id 0 f) : markK l f l.length = allC l id := by
  refine RiseI.uniq (markK_rise hm f _ (Nat.le_refl _)) (allC_rise hm hid) fun x => ⟨fun hx => ?_, fun hx => ?_⟩
  · obtain ⟨j, hj, hf, rfl⟩ := markK_mem.1 hx
    rw [idA_eq hj]
    exact h.sound j hj hf
  · have key : ∀ d : Nat, ∀ x ∈ allC l id, (id - x).toNat ≤ d → ∃ j, ∃ hj : j < l.length, f j = true ∧ l[j].id = x := by
      intro d
      induction d with
      | zero =>
        intro x hx hd
        have h1 := allC_le hm hid hx
        have e : x = id := by omega
        obtain ⟨k, hk, hkx⟩ := has_at hid
        exact ⟨k, hk, h.self k hk hkx, by rw [hkx, e]⟩
      | succ d ih =>
        intro x hx hd
        rcases allC_from hm hid hx with e | ⟨z, hz, hw⟩
        · obtain ⟨k, hk, hkx⟩ := has_at hid
          exact ⟨k, hk, h.self k hk hkx, by rw [hkx, e]⟩
        · have h1 := waitsC_lt hm hw
          have h2 := allC_le hm hid hz
          obtain ⟨j, hj, hfj, rfl⟩ := ih z hz (by omega)
          obtain ⟨d', hd', e'⟩ := waitsC_mem hw
          obtain ⟨k, hk, hkx⟩ := has_at ⟨d', hd', e'⟩
          exact ⟨k, hk, h.closed j hj (Nat.zero_le _) hfj k hk (by rw [hkx]; exact hw), hkx⟩
    obtain ⟨j, hj, hf, e⟩ := key _ x hx (Nat.le_refl _)
    exact markK_mem.2 ⟨j, hj, hf, by rw [idA_eq hj, e]⟩
theorem maxL_snoc (l : List Nat) (x : Nat) : maxL (l ++ [x]) = max (maxL l) x := by
  induction l with
  | nil => simp [maxL]
  | cons y l ih =>
    rw [List.cons_append]
    unfold maxL
    rw [ih]
    omega
theorem depth_at {l : List Cg} (hm : mayC l = true) {i : Nat} (hi : i < l.length) : depthC l l[i].id = maxL ((waitsC l l[i].id).map (depthC l)) + 1 := by
  have hl : l = l.take i ++ l[i] :: l.drop (i + 1) := by rw [← List.drop_eq_getElem_cons hi, List.take_append_drop]
  rw [waitsC_mid hm hl, List.map_map]
  exact depthC_eq hm hl
theorem depthC_no {l : List Cg} {id : Int} (h : ¬ HasId l id) : depthC l id = 0 := by
  unfold depthC
  split
  · rename_i hm
    cases hf : (deepGo [] l).find? fun x => decide (x.1.id = id) with
    | none => rfl
    | some x =>
      exfalso
      have h1 := List.mem_of_find?_eq_some hf
      have h2 : x.1.id = id := by simpa using List.find?_some hf
      obtain ⟨t, ht1, ht2⟩ := deepGo_pre l []
      rw [List.nil_append] at ht1
      refine h ⟨x.1, ?_, h2⟩
      rw [← ht2, ← ht1]
      exact List.mem_map.2 ⟨x, h1, rfl⟩
  · rfl
theorem depthC_wrong {l : List Cg} {id : Int} (h : mayC l = false) : depthC l id = 0 := by unfold depthC; rw [h]; rfl
theorem allC_wrong {l : List Cg} {id : Int} (h : mayC l = false) : allC l id = [] := by unfold allC; rw [if_neg (by rw [h]; simp)]

end Go.Proofs.YtpmbpklbiocclaaGreat

/-
  Who waits for whom, by places: rows that hold of those that meet one only the last one at each byte, and what of them follows: all that one needs, how deep that goes, what a block's writing does, plans and drains. Plain; no program is named here.
-/
namespace Go.Proofs.YtpmbpklbiocclaaGreat

def cgA (l : List Cg) (k : Nat) : Cg := l.getD k default
theorem cgA_eq {l : List Cg} {k : Nat} (h : k < l.length) : cgA l k = l[k] := by simp [cgA, List.getD, h]
theorem cgA_take {l : List Cg} {k m : Nat} (h : k < m) : cgA (l.take m) k = cgA l k := by
  simp [cgA, List.getD, List.getElem?_take_of_lt h]
theorem split_at {l : List Cg} {i : Nat} (hi : i < l.length) : l = l.take i ++ cgA l i :: l.drop (i + 1) := by
  rw [cgA_eq hi]
  simp
theorem waits_at {l : List Cg} (hm : mayC l = true) {i : Nat} (hi : i < l.length) {y : Int} : y ∈ waitsC l (cgA l i).id ↔ ∃ k, k < i ∧ keepsB (cgA l k) (cgA l i) = true ∧ (cgA l k).id = y := by
  rw [waitsC_mid hm (split_at hi), List.mem_map]
  constructor
  · rintro ⟨d, hd, rfl⟩
    obtain ⟨hd, hk⟩ := List.mem_filter.1 hd
    obtain ⟨k, hk', rfl⟩ := List.getElem_of_mem hd
    have hki : k < i := by simp at hk'; omega
    have e : (l.take i)[k] = cgA l k := by rw [cgA_eq (by omega)]; simp
    rw [e] at hk ⊢
    exact ⟨k, hki, hk, rfl⟩
  · rintro ⟨k, hki, hk, rfl⟩
    refine ⟨cgA l k, List.mem_filter.2 ⟨?_, hk⟩, rfl⟩
    rw [cgA_eq (by omega)]
    have : (l.take i)[k]'(by simp; omega) = l[k] := by simp
    rw [← this]
    exact List.getElem_mem _

structure RowsOK (l : List Cg) (n : Nat) (R : Nat → List Nat) : Prop where
  lt : ∀ i, i < n → ∀ k ∈ R i, k < i
  sound : ∀ i, i < n → ∀ k ∈ R i, keepsB (cgA l k) (cgA l i) = true
  cover : ∀ i, i < n → ∀ k, k < i → keepsB (cgA l k) (cgA l i) = true → k ∈ R i ∨ ∃ k' ∈ R i, k < k' ∧ keepsB (cgA l k) (cgA l k') = true
  rise : ∀ i, i < n → (R i).Pairwise (· < ·)
theorem RowsOK.of_take {l : List Cg} {n : Nat} {R : Nat → List Nat} (h : RowsOK (l.take n) n R) : RowsOK l n R where
  lt := h.lt
  sound i hi k hk := by
    have := h.sound i hi k hk
    rwa [cgA_take hi, cgA_take (by have := h.lt i hi k hk; omega)] at this
  cover i hi k hk hkk := by
    rcases h.cover i hi k hk (by rw [cgA_take hi, cgA_take (by omega)]; exact hkk) with h1 | ⟨k', h1, h2, h3⟩
    · exact Or.inl h1
    · have := h.lt i hi k' h1
      rw [cgA_take (by omega), cgA_take (by omega)] at h3
      exact Or.inr ⟨k', h1, h2, h3⟩
  rise := h.rise
theorem RowsOK.closed {l : List Cg} {n : Nat} {R : Nat → List Nat} (h : RowsOK l n R) {f : Nat → Bool} (hf : ∀ i, i < n → f i = true → ∀ k ∈ R i, f k = true) : ∀ i, i < n → f i = true → ∀ k, k < i → keepsB (cgA l k) (cgA l i) = true → f k = true := by
  intro i
  induction i using Nat.strongRecOn with
  | _ i ih =>
    intro hi hfi k hk hkk
    rcases h.cover i hi k hk hkk with h1 | ⟨k', h1, h2, h3⟩
    · exact hf i hi hfi k h1
    · have := h.lt i hi k' h1
      exact ih k' this (by omega) (hf i hi hfi k' h1) k h2 h3
theorem RowsOK.len {l : List Cg} {n : Nat} {R : Nat → List Nat} (h : RowsOK l n R) {i : Nat} (hi : i < n) : (R i).length ≤ n := by
  have key : ∀ (r : List Nat) (m : Nat), r.Pairwise (· < ·) → (∀ x ∈ r, x < m) → r.length ≤ m := by
    intro r
    induction r with
    | nil => intro m _ _; simp
    | cons x r ih =>
      intro m hp hx
      obtain ⟨h1, h2⟩ := List.pairwise_cons.1 hp
      have hpos := hx x (by simp)
      -- those behind the first lie above it: shift them down by one
      have h3 := ih (m := m) h2 (fun y hy => hx y (by simp [hy]))
      have h4 : ∀ (s : List Nat) (b m : Nat), s.Pairwise (· < ·) → (∀ y ∈ s, b ≤ y ∧ y < m) → b ≤ m → s.length + b ≤ m := by
        intro s
        induction s with
        | nil => intro b m _ _ hb; simpa using hb
        | cons y s ihs =>
          intro b m hp hy hb
          obtain ⟨g1, g2⟩ := List.pairwise_cons.1 hp
          have gy := hy y (by simp)
          have := ihs (y + 1) m g2 (fun z hz => ⟨g1 z hz, (hy z (by simp [hz])).2⟩) (by omega)
          simp only [List.length_cons]
          omega
      have := h4 (x :: r) 0 m hp (fun y hy => ⟨Nat.zero_le _, hx y hy⟩) (Nat.zero_le _)
      omega
  exact key _ _ (h.rise i hi) (fun x hx => by have := h.lt i hi x hx; omega)

structure MarkR (l : List Cg) (R : Nat → List Nat) (id : Int) (p m : Nat) (f : Nat → Bool) : Prop where
  self : f p = true
  sound : ∀ j, j ≤ p → f j = true → (cgA l j).id ∈ allC l id
  closed : ∀ j, j ≤ p → m ≤ j → f j = true → ∀ k ∈ R j, f k = true
section
variable {l : List Cg} {R : Nat → List Nat} {id : Int} {p m : Nat} {f : Nat → Bool}
theorem MarkR.start (hm : mayC l = true) (hp : p < l.length) (hid : (cgA l p).id = id) : MarkR l R id p (p + 1) (fun j => decide (j = p)) where
  self := by simp
  sound j hj e := by
    have e : j = p := by simpa using e
    subst e
    rw [hid]
    exact allC_self hm ⟨cgA l j, by rw [cgA_eq hp]; exact List.getElem_mem _, hid⟩
  closed j hj hmj := by omega
theorem MarkR.off (h : MarkR l R id p (m + 1) f) (hf : f m = false) : MarkR l R id p m f where
  self := h.self
  sound := h.sound
  closed j hj hmj e := by
    by_cases ej : j = m
    · subst ej; rw [hf] at e; cases e
    · exact h.closed j hj (by omega) e
theorem MarkR.on (hm : mayC l = true) (hp : p < l.length) (hid : (cgA l p).id = id) (hR : RowsOK l (p + 1) R) (h : MarkR l R id p (m + 1) f) (hmp : m ≤ p) (hf : f m = true) : MarkR l R id p m (fun j => f j || (R m).contains j) where
  self := by rw [h.self, Bool.true_or]
  sound j hj e := by
    rcases Bool.or_eq_true_iff.1 e with e | e
    · exact h.sound j hj e
    · have e : j ∈ R m := by simpa using e
      have hk := hR.sound m (by omega) j e
      have hlt := hR.lt m (by omega) j e
      have hI : HasId l id := ⟨cgA l p, by rw [cgA_eq hp]; exact List.getElem_mem _, hid⟩
      exact allC_closed hm hI (h.sound m hmp hf) ((waits_at hm (by omega)).2 ⟨j, hlt, hk, rfl⟩)
  closed j hj hmj e k hk := by
    by_cases ej : j = m
    · subst ej
      rw [List.contains_iff_mem.2 hk, Bool.or_true]
    · have hfj : f j = true := by
        rcases Bool.or_eq_true_iff.1 e with e | e
        · exact e
        · have e : j ∈ R m := by simpa using e
          have := hR.lt m (by omega) j e
          omega
      rw [h.closed j hj (by omega) hfj k hk, Bool.true_or]
theorem MarkR.done (hm : mayC l = true) (hp : p < l.length) (hid : (cgA l p).id = id) (hR : RowsOK l (p + 1) R) (h : MarkR l R id p 0 f) : markK l f (p + 1) = allC l id := by
  have hI : HasId l id := ⟨cgA l p, by rw [cgA_eq hp]; exact List.getElem_mem _, hid⟩
  have hc := hR.closed (f := f) (fun i hi => h.closed i (by omega) (Nat.zero_le _))
  have hM : Marks l id 0 (fun j => decide (j ≤ p) && f j) := {
    self := fun j hj e => by
      have : j = p := mayC_ids hm hj hp (by rw [e, ← cgA_eq hp, hid])
      subst this
      rw [h.self]; simp
    sound := fun j hj e => by
      simp only [Bool.and_eq_true, decide_eq_true_eq] at e
      rw [← cgA_eq hj]
      exact h.sound j e.1 e.2
    closed := fun j hj _ e k hk hw => by
      simp only [Bool.and_eq_true, decide_eq_true_eq] at e
      rw [← cgA_eq hj] at hw
      obtain ⟨k', h1, h2, h3⟩ := (waits_at hm hj).1 hw
      have : k' = k := mayC_ids hm (by omega) hk (by rw [← cgA_eq (by omega), h3])
      subst this
      rw [hc j (by omega) e.2 k' h1 h2]
      simp; omega }
  have hd := hM.done hm hI
  rw [← hd]
  have key : ∀ k, p + 1 ≤ k → k ≤ l.length → markK l (fun j => decide (j ≤ p) && f j) k = markK l f (p + 1) := by
    intro k
    induction k with
    | zero => intro h; omega
    | succ k ih =>
      intro h1 h2
      by_cases hk : k = p
      · subst hk
        unfold markK
        congr 1
        apply List.filter_congr
        intro x hx
        have : x ≤ k := by have := List.mem_range.1 hx; omega
        simp [this]
      · rw [markK_off (by simp; omega)]
        exact ih (by omega) (by omega)
  exact (key l.length (by omega) (Nat.le_refl _)).symm
end

theorem maxL_eq {a b : List Nat} (h1 : ∀ x ∈ a, ∃ y ∈ b, x ≤ y) (h2 : ∀ x ∈ b, ∃ y ∈ a, x ≤ y) : maxL a = maxL b :=
  Nat.le_antisymm (maxL_le fun x hx => by obtain ⟨y, hy, hxy⟩ := h1 x hx; exact Nat.le_trans hxy (le_maxL hy)) (maxL_le fun x hx => by obtain ⟨y, hy, hxy⟩ := h2 x hx; exact Nat.le_trans hxy (le_maxL hy))
theorem depth_rows {l : List Cg} {R : Nat → List Nat} {n : Nat} (hm : mayC l = true) (hn : n ≤ l.length) (hR : RowsOK l n R) {i : Nat} (hi : i < n) : depthC l (cgA l i).id = maxL ((R i).map fun k => depthC l (cgA l k).id) + 1 := by
  have hil : i < l.length := by omega
  have h0 := depth_at hm hil
  rw [← cgA_eq hil] at h0
  rw [h0]
  congr 1
  apply maxL_eq
  · intro x hx
    obtain ⟨y, hy, rfl⟩ := List.mem_map.1 hx
    obtain ⟨k, h1, h2, rfl⟩ := (waits_at hm hil).1 hy
    rcases hR.cover i hi k h1 h2 with h3 | ⟨k', h3, h4, h5⟩
    · exact ⟨_, List.mem_map.2 ⟨k, h3, rfl⟩, Nat.le_refl _⟩
    · refine ⟨_, List.mem_map.2 ⟨k', h3, rfl⟩, ?_⟩
      have hk' := hR.lt i hi k' h3
      have e := depth_at hm (show k' < l.length by omega)
      rw [← cgA_eq (by omega)] at e
      have hw : (cgA l k).id ∈ waitsC l (cgA l k').id := (waits_at hm (by omega)).2 ⟨k, h4, h5, rfl⟩
      have := le_maxL (List.mem_map.2 ⟨_, hw, rfl⟩ : depthC l (cgA l k).id ∈ (waitsC l (cgA l k').id).map (depthC l))
      omega
  · intro x hx
    obtain ⟨k, hk, rfl⟩ := List.mem_map.1 hx
    exact ⟨_, List.mem_map.2 ⟨_, (waits_at hm hil).2 ⟨k, hR.lt i hi k hk, hR.sound i hi k hk, rfl⟩, rfl⟩, Nat.le_refl _⟩

def leftD (l : List Cg) (D : Nat → Bool) : List Cg := withoutC l (markK l D l.length)
theorem mark_iff {l : List Cg} (hm : mayC l = true) (D : Nat → Bool) {i : Nat} (hi : i < l.length) : (cgA l i).id ∈ markK l D l.length ↔ D i = true := by
  rw [markK_mem]
  constructor
  · rintro ⟨j, hj, hD, e⟩
    rw [idA_eq hj, cgA_eq hi] at e
    have := mayC_ids hm hj hi e
    subst this
    exact hD
  · intro h
    exact ⟨i, hi, h, rfl⟩
theorem leftD_split {l : List Cg} (hm : mayC l = true) {D : Nat → Bool} {i : Nat} (hi : i < l.length) (hD : D i = false) :
    ∃ p q, leftD l D = p ++ cgA l i :: q ∧ ∀ c, c ∈ p ↔ ∃ k, k < i ∧ D k = false ∧ cgA l k = c := by
  have hs := split_at hi
  have hid : ∀ k, k < l.length → ((!(markK l D l.length).contains (cgA l k).id) = true ↔ D k = false) := fun k hk => by
    have := mark_iff hm D hk
    cases hDk : D k
    · rw [hDk] at this
      simpa using this
    · rw [hDk] at this
      simpa using this
  refine ⟨(l.take i).filter (fun c => !(markK l D l.length).contains c.id), (l.drop (i + 1)).filter (fun c => !(markK l D l.length).contains c.id), ?_, fun c => ?_⟩
  · unfold leftD withoutC
    conv => lhs; rw [hs]
    rw [List.filter_append, List.filter_cons, ← hs]
    rw [if_pos ((hid i hi).2 hD)]
  · rw [List.mem_filter]
    constructor
    · rintro ⟨h1, h2⟩
      obtain ⟨k, hk, rfl⟩ := List.getElem_of_mem h1
      have hki : k < i := by simp at hk; omega
      have e : (l.take i)[k] = cgA l k := by rw [cgA_eq (by omega)]; simp
      rw [e] at h2 ⊢
      exact ⟨k, hki, (hid k (by omega)).1 h2, rfl⟩
    · rintro ⟨k, hki, hDk, rfl⟩
      refine ⟨?_, (hid k (by omega)).2 hDk⟩
      rw [cgA_eq (by omega)]
      have : (l.take i)[k]'(by simp; omega) = l[k] := by simp
      rw [← this]
      exact List.getElem_mem _
theorem leftD_may {l : List Cg} (hm : mayC l = true) (D : Nat → Bool) : mayC (leftD l D) = true := withoutC_may _ hm
structure Wrote (l : List Cg) (R : Nat → List Nat) (b : Int) (D D' : Nat → Bool) : Prop where
  mono : ∀ i, D i = true → D' i = true
  closed : ∀ i, i < l.length → D' i = true → ∀ k ∈ R i, D' k = true
  new : ∀ i, i < l.length → D' i = true → D i = false → (cgA l i).block = b
  full : ∀ i, i < l.length → (cgA l i).block = b → (∀ k ∈ R i, D' k = true) → D' i = true
theorem Wrote.ready {l : List Cg} {R : Nat → List Nat} {b : Int} {D D' : Nat → Bool} (hm : mayC l = true) (hR : RowsOK l l.length R) (h : Wrote l R b D D') :
    ∀ i, i < l.length → D i = false → (D' i = true ↔ (cgA l i).id ∈ readyC (leftD l D) b) := by
  have hc := hR.closed (f := D') h.closed
  have hmL := leftD_may hm D
  intro i
  induction i using Nat.strongRecOn with
  | _ i ih =>
    intro hi hD
    obtain ⟨p, q, hs, hp⟩ := leftD_split hm hi hD
    constructor
    · intro hD'
      refine readyC_full hmL hs (h.new i hi hD' hD) fun d hd hk => ?_
      obtain ⟨k, hki, hDk, rfl⟩ := (hp d).1 hd
      exact (ih k hki (by omega) hDk).1 (hc i hi hD' k hki hk)
    · intro hx
      obtain ⟨p', c, q', hs', hcid, hcb, hk⟩ := readyC_spec hmL _ hx
      have hci : c = cgA l i := may_id hmL (by rw [hs']; simp) (by rw [hs]; simp) hcid
      have e1 := splitId_mid hmL hs
      have e2 := splitId_mid hmL hs'
      rw [hci] at e2
      rw [e1] at e2
      simp only [Option.some.injEq, Prod.mk.injEq, and_true] at e2
      subst hci
      refine h.full i hi hcb fun k hkR => ?_
      have hki := hR.lt i hi k hkR
      cases hDk : D k
      · exact (ih k hki (by omega) hDk).2 (hk _ (by rw [← e2]; exact (hp _).2 ⟨k, hki, hDk, rfl⟩) (hR.sound i hi k hkR))
      · exact h.mono k hDk
theorem Wrote.left {l : List Cg} {R : Nat → List Nat} {b : Int} {D D' : Nat → Bool} (hm : mayC l = true) (hR : RowsOK l l.length R) (h : Wrote l R b D D') : leftD l D' = leftC (leftD l D) b := by
  have hr := h.ready hm hR
  unfold leftC
  conv => rhs; unfold withoutC
  conv => rhs; rhs; unfold leftD withoutC
  rw [List.filter_filter]
  conv => lhs; unfold leftD withoutC
  apply List.filter_congr
  intro c hc
  obtain ⟨i, hi, rfl⟩ := List.getElem_of_mem hc
  rw [← cgA_eq hi]
  have h1 := mark_iff hm D' hi
  have h2 := mark_iff hm D hi
  cases hD : D i
  · have h3 := hr i hi hD
    rw [hD] at h2
    have e2 : (markK l D l.length).contains (cgA l i).id = false := by simpa using h2
    rw [e2]
    cases hD' : D' i
    · rw [hD'] at h1 h3
      have e1 : (markK l D' l.length).contains (cgA l i).id = false := by simpa using h1
      have e3 : (readyC (leftD l D) b).contains (cgA l i).id = false := by simpa using h3
      rw [e1, e3]; rfl
    · have e1 : (markK l D' l.length).contains (cgA l i).id = true := by simpa using h1.2 hD'
      have e3 : (readyC (leftD l D) b).contains (cgA l i).id = true := by simpa using h3.1 hD'
      rw [e1, e3]; rfl
  · have e1 : (markK l D' l.length).contains (cgA l i).id = true := by simpa using h1.2 (h.mono i hD)
    have e2 : (markK l D l.length).contains (cgA l i).id = true := by simpa using h2.2 hD
    rw [e1, e2]
    simp

def subC (l : List Cg) (id : Int) : List Cg := l.filter fun c => (allC l id).contains c.id
theorem subC_may {l : List Cg} {id : Int} (hm : mayC l = true) : mayC (subC l id) = true := mayN_filter _ hm
theorem subC_ids {l : List Cg} {id : Int} (hm : mayC l = true) (hid : HasId l id) : (subC l id).map (·.id) = allC l id := by
  refine RiseI.uniq (ids_rise (b := 0) (subC_may hm)) (allC_rise hm hid) fun x => ?_
  constructor
  · intro h
    obtain ⟨c, hc, rfl⟩ := List.mem_map.1 h
    exact List.contains_iff_mem.1 (List.mem_filter.1 hc).2
  · intro h
    obtain ⟨c, hc, rfl⟩ := List.mem_map.1 ((allC_sub hm hid).subset h)
    exact List.mem_map.2 ⟨c, List.mem_filter.2 ⟨hc, List.contains_iff_mem.2 h⟩, rfl⟩
theorem subC_none {l : List Cg} {id : Int} (h : ¬ HasId l id ∨ mayC l = false) : subC l id = [] := by
  have : allC l id = [] := by
    rcases h with h | h
    · exact allC_none h
    · exact allC_wrong h
  unfold subC
  rw [this]
  simp

end Go.Proofs.YtpmbpklbiocclaaGreat

/-
  Of those of a block that meet one the last one at each byte; and that such rows, with the places of what is needed, are rows by places. Plain; no program is named here.
-/
namespace Go.Proofs.YtpmbpklbiocclaaGreat

theorem snocInd {α : Type} {p : List α → Prop} (h0 : p []) (h1 : ∀ l a, p l → p (l ++ [a])) (l : List α) : p l := by
  have key : ∀ l : List α, p l.reverse := by
    intro l
    induction l with
    | nil => exact h0
    | cons a l ih => rw [List.reverse_cons]; exact h1 _ _ ih
  have := key l.reverse
  rwa [List.reverse_reverse] at this
def lastP (l : List Cg) (pl : List Nat) (q : Nat) : Nat := pl.foldl (fun s a => if (cgA l a).p.has q then a + 1 else s) 0
theorem lastP_snoc (l : List Cg) (pl : List Nat) (a q : Nat) : lastP l (pl ++ [a]) q = if (cgA l a).p.has q then a + 1 else lastP l pl q := by
  unfold lastP
  rw [List.foldl_append]
  rfl
theorem lastP_mem (l : List Cg) (q : Nat) : ∀ pl : List Nat, ∀ k, lastP l pl q = k + 1 → k ∈ pl ∧ (cgA l k).p.has q = true := by
  intro pl
  induction pl using snocInd with
  | h0 => intro k h; cases h
  | h1 pl a ih =>
    intro k h
    rw [lastP_snoc] at h
    split at h
    · rename_i hh
      have : a = k := by omega
      subst this
      exact ⟨by simp, hh⟩
    · obtain ⟨h1, h2⟩ := ih k h
      exact ⟨by simp [h1], h2⟩
theorem lastP_ge (l : List Cg) (q : Nat) : ∀ pl : List Nat, pl.Pairwise (· < ·) → ∀ a ∈ pl, (cgA l a).p.has q = true → a + 1 ≤ lastP l pl q := by
  intro pl
  induction pl using snocInd with
  | h0 => intro _ a h; cases h
  | h1 pl b ih =>
    intro hp a ha hh
    rw [lastP_snoc]
    obtain ⟨h1, _, h3⟩ := List.pairwise_append.1 hp
    split
    · rcases List.mem_append.1 ha with h | h
      · have := h3 a h b (by simp); omega
      · have : a = b := by simpa using h
        omega
    · rename_i hn
      rcases List.mem_append.1 ha with h | h
      · exact ih h1 a h hh
      · have : a = b := by simpa using h
        subst this
        exact absurd hh hn
theorem lastP_le (l : List Cg) (pl : List Nat) (q n : Nat) (h : ∀ a ∈ pl, a < n) : lastP l pl q ≤ n := by
  rcases Nat.eq_zero_or_pos (lastP l pl q) with e | e
  · omega
  · obtain ⟨k, hk⟩ : ∃ k, lastP l pl q = k + 1 := ⟨lastP l pl q - 1, by omega⟩
    have := h k (lastP_mem l q pl k hk).1
    omega
def plB (l : List Cg) (n : Nat) (b : Int) : List Nat := (List.range n).filter fun a => decide ((cgA l a).block = b)
theorem plB_mem {l : List Cg} {n : Nat} {b : Int} {a : Nat} : a ∈ plB l n b ↔ a < n ∧ (cgA l a).block = b := by
  unfold plB
  rw [List.mem_filter, List.mem_range, decide_eq_true_eq]
theorem range_rise (n : Nat) : (List.range n).Pairwise (· < ·) := List.pairwise_lt_range
theorem plB_rise (l : List Cg) (n : Nat) (b : Int) : (plB l n b).Pairwise (· < ·) := (range_rise n).filter _
theorem plB_zero (l : List Cg) (b : Int) : plB l 0 b = [] := rfl
theorem plB_on {l : List Cg} {n : Nat} {b : Int} (h : (cgA l n).block = b) : plB l (n + 1) b = plB l n b ++ [n] := by
  unfold plB
  rw [List.range_succ, List.filter_append]
  simp [h]
theorem plB_off {l : List Cg} {n : Nat} {b : Int} (h : (cgA l n).block ≠ b) : plB l (n + 1) b = plB l n b := by
  unfold plB
  rw [List.range_succ, List.filter_append]
  simp [h]
theorem plB_len (l : List Cg) (n : Nat) (b : Int) : (plB l n b).length ≤ n := by
  have := List.length_filter_le (fun a => decide ((cgA l a).block = b)) (List.range n)
  rw [List.length_range] at this
  exact this
theorem take_below {P : List Nat} (hp : P.Pairwise (· < ·)) {t : Nat} (ht : t < P.length) : P.filter (fun x => decide (x < P[t])) = P.take t := by
  obtain ⟨z, hz⟩ : ∃ z, P[t] = z := ⟨_, rfl⟩
  have e0 : P.filter (fun x => decide (x < z)) = (P.take t).filter (fun x => decide (x < z)) ++ (P.drop t).filter (fun x => decide (x < z)) := by
    rw [← List.filter_append, List.take_append_drop]
  rw [hz, e0, ← hz]
  have e1 : (P.take t).filter (fun x => decide (x < P[t])) = P.take t := by
    rw [List.filter_eq_self]
    intro x hx
    obtain ⟨j, hj, rfl⟩ := List.getElem_of_mem hx
    have hjt : j < t := by simp at hj; omega
    have := List.pairwise_iff_getElem.1 hp j t (by omega) ht hjt
    simpa using this
  have e2 : (P.drop t).filter (fun x => decide (x < P[t])) = [] := by
    rw [List.filter_eq_nil_iff]
    intro x hx
    obtain ⟨j, hj, rfl⟩ := List.getElem_of_mem hx
    have hj' : t + j < P.length := by simp at hj; omega
    rw [List.getElem_drop]
    by_cases h0 : j = 0
    · subst h0; simp
    · have := List.pairwise_iff_getElem.1 hp t (t + j) ht hj' (by omega)
      simp; omega
  rw [e1, e2, List.append_nil]
def MtB (l : List Cg) (P : List Nat) (k : Nat) (y : Int) : Prop := ∃ q, (cgA l k).p.has q = true ∧ 0 < lastP l (P.filter fun x => decide (x < k)) q ∧ ((lastP l (P.filter fun x => decide (x < k)) q : Nat) : Int) = y + 1
def NdB (l : List Cg) (k : Nat) (y : Int) : Prop := ∃ j : Nat, j < l.length ∧ y = j ∧ (cgA l j).id ∈ (cgA l k).needs
theorem rows_ok {l : List Cg} (hm : mayC l = true) {R : Nat → List Nat} (hr : ∀ i, i < l.length → (R i).Pairwise (· < ·)) (hR : ∀ i, i < l.length → ∀ k : Nat, k ∈ R i ↔ (NdB l i k ∨ MtB l (plB l l.length (cgA l i).block) i k)) : RowsOK l l.length R := by
  have need : ∀ i, i < l.length → ∀ j, j < l.length → (cgA l j).id ∈ (cgA l i).needs → j < i := fun i hi j hj h => by
    have h1 := (mayN_iff.1 hm i hi).2.2.2
    rw [← cgA_eq hi] at h1
    have h2 := riseN_below h1 _ h
    rcases Nat.lt_trichotomy j i with h3 | h3 | h3
    · exact h3
    · subst h3; omega
    · have := ids_lt hm hj h3
      rw [← cgA_eq hi, ← cgA_eq hj] at this
      omega
  have meet : ∀ i, i < l.length → ∀ k : Nat, MtB l (plB l l.length (cgA l i).block) i k → k < i ∧ (cgA l k).block = (cgA l i).block ∧ ∃ q, (cgA l k).p.has q = true ∧ (cgA l i).p.has q = true := fun i hi k ⟨q, h1, h2, h3⟩ => by
    have h8 : lastP l ((plB l l.length (cgA l i).block).filter fun x => decide (x < i)) q = k + 1 := by omega
    obtain ⟨h4, h5⟩ := lastP_mem l q _ k h8
    obtain ⟨h6, h7⟩ := List.mem_filter.1 h4
    exact ⟨by simpa using h7, (plB_mem.1 h6).2, q, h5, h1⟩
  refine ⟨fun i hi k hk => ?_, fun i hi k hk => ?_, fun i hi k hki hk => ?_, hr⟩
  · rcases (hR i hi k).1 hk with ⟨j, hj, e, hn⟩ | h
    · have : k = j := by omega
      subst this
      exact need i hi k hj hn
    · exact (meet i hi k h).1
  · unfold keepsB
    rcases (hR i hi k).1 hk with ⟨j, hj, e, hn⟩ | h
    · have : k = j := by omega
      subst this
      rw [List.contains_iff_mem.2 hn, Bool.or_true]
    · obtain ⟨_, h2, h3⟩ := meet i hi k h
      rw [meetP_iff.2 h3]
      simp [h2]
  · have hk0 := hk
    unfold keepsB at hk
    rcases Bool.or_eq_true_iff.1 hk with h | h
    · simp only [Bool.and_eq_true, decide_eq_true_eq] at h
      obtain ⟨hb, hmt⟩ := h
      obtain ⟨q, h1, h2⟩ := meetP_iff.1 hmt
      have hmem : k ∈ (plB l l.length (cgA l i).block).filter fun x => decide (x < i) := List.mem_filter.2 ⟨plB_mem.2 ⟨by omega, hb⟩, by simpa using hki⟩
      have hge := lastP_ge l q _ ((plB_rise l l.length (cgA l i).block).filter _) k hmem h1
      obtain ⟨k', hk'⟩ : ∃ k', lastP l ((plB l l.length (cgA l i).block).filter fun x => decide (x < i)) q = k' + 1 := ⟨lastP l ((plB l l.length (cgA l i).block).filter fun x => decide (x < i)) q - 1, by omega⟩
      have hM : MtB l (plB l l.length (cgA l i).block) i k' := ⟨q, h2, by omega, by rw [hk']; rfl⟩
      have hR' := (hR i hi k').2 (Or.inr hM)
      by_cases e : k = k'
      · subst e; exact Or.inl hR'
      · refine Or.inr ⟨k', hR', by omega, ?_⟩
        obtain ⟨h4, h5⟩ := lastP_mem l q _ k' hk'
        obtain ⟨h6, h7⟩ := List.mem_filter.1 h4
        unfold keepsB
        rw [meetP_iff.2 ⟨q, h1, h5⟩]
        simp [hb, (plB_mem.1 h6).2]
    · refine Or.inl ((hR i hi k).2 (Or.inl ⟨k, by omega, rfl, List.contains_iff_mem.1 h⟩))

end Go.Proofs.YtpmbpklbiocclaaGreat

/-
  Whole numbers by their places, as the cells of a block. Plain; no program is named here.
-/
namespace Go.Proofs.YtpmbpklbiocclaaGreat
open Go.RowKit

def zc (n : Nat) (z : Nat → Int) : Array Value := ((List.range n).map fun k => Value.int .i64 (z k)).toArray
theorem zc_size (n : Nat) (z : Nat → Int) : (zc n z).size = n := by simp [zc]
theorem zc_get {n k : Nat} (z : Nat → Int) (h : k < n) : (zc n z)[k]? = some (.int .i64 (z k)) := by simp [zc, h]
theorem zc_zero (n : Nat) : (List.replicate n (Value.int .i64 0)).toArray = zc n (fun _ => 0) := by
  apply Array.ext_getElem?
  intro i
  by_cases hi : i < n
  · rw [zc_get _ hi]; simp [hi]
  · rw [Array.getElem?_eq_none (by simp; omega), Array.getElem?_eq_none (by rw [zc_size]; omega)]
theorem zc_step (n : Nat) (z : Nat → Int) (k : Nat) : (zc n (fun i => if i < k then z i else 0)).setIfInBounds k (.int .i64 (z k)) = zc n (fun i => if i < k + 1 then z i else 0) := by
  apply Array.ext_getElem?
  intro i
  rw [Array.getElem?_setIfInBounds, zc_size]
  by_cases hi : i < n
  · rw [zc_get _ hi, zc_get _ hi]
    by_cases h : k = i
    · subst h; rw [if_pos rfl, if_pos hi, if_pos (by omega)]
    · rw [if_neg h]
      by_cases h2 : i < k
      · rw [if_pos h2, if_pos (by omega)]
      · rw [if_neg h2, if_neg (by omega)]
  · rw [Array.getElem?_eq_none (by rw [zc_size]; omega), Array.getElem?_eq_none (by rw [zc_size]; omega)]
    by_cases h : k = i
    · rw [if_pos h, if_neg (by omega)]
    · rw [if_neg h]
theorem zc_congr {n : Nat} {y z : Nat → Int} (e : ∀ k, k < n → y k = z k) : zc n y = zc n z := by
  apply Array.ext_getElem?
  intro i
  by_cases hi : i < n
  · rw [zc_get _ hi, zc_get _ hi, e i hi]
  · rw [Array.getElem?_eq_none (by rw [zc_size]; omega), Array.getElem?_eq_none (by rw [zc_size]; omega)]

end Go.Proofs.YtpmbpklbiocclaaGreat

/-
  N bools as the cells of a block. Plain; no program is named here.
-/
namespace Go.Proofs.YtpmbpklbiocclaaGreat
open Go.RowKit


end Go.Proofs.YtpmbpklbiocclaaGreat

/-
  The depth of one more that needs all of them: deeper by one than the deepest. Plain; no program is named here.
-/
namespace Go.Proofs.YtpmbpklbiocclaaGreat

theorem deepGo_app : ∀ (l r : List Cg) (acc : List (Cg × Nat)), deepGo acc (l ++ r) = deepGo (deepGo acc l) r := by
  intro l
  induction l with
  | nil => intro r acc; rfl
  | cons c l ih => intro r acc; exact ih r _
theorem depthC_pre {l r : List Cg} (hm : mayC l = true) (hm2 : mayC (l ++ r) = true) {c : Cg} (hc : c ∈ l) : depthC (l ++ r) c.id = depthC l c.id := by
  obtain ⟨p, q, hl⟩ := mem_split hc
  obtain ⟨u, n, v, h1, h2, h3⟩ := depthC_at hm hl
  obtain ⟨u', n', v', k1, k2, k3⟩ := depthC_at hm2 (show l ++ r = p ++ c :: (q ++ r) by rw [hl, List.append_assoc, List.cons_append])
  obtain ⟨t, e1, _⟩ := deepGo_pre r (deepGo [] l)
  rw [deepGo_app, e1, h1, List.append_assoc] at k1
  have hlen : u.length = u'.length := by
    have e2 := congrArg List.length h2
    have e3 := congrArg List.length k2
    rw [List.length_map] at e2 e3
    omega
  obtain ⟨_, k4⟩ := List.append_inj k1 hlen
  rw [List.cons_append] at k4
  injection k4 with k4 _
  injection k4 with _ k4
  rw [h3, k3, k4]
def moreC (l : List Cg) (m : Cg) : Prop := m.block = 0 ∧ m.p = ⟨0, [0]⟩ ∧ m.needs = l.map (·.id) ∧ ∀ c ∈ l, c.id < m.id
theorem more_may {l : List Cg} {m : Cg} (hm : mayC l = true) (h : moreC l m) (h0 : 0 < m.id) : mayC (l ++ [m]) = true := by
  obtain ⟨h1, h2, h3, h4⟩ := h
  refine mayN_snoc (by rw [h1]; exact Int.le_refl _) (by rw [h2]; decide) ?_ l 0 hm h0 h4
  rw [h3]
  refine riseN_of _ 0 ?_ fun x hx => ?_
  · exact idsC_rise hm
  · obtain ⟨c, hc, rfl⟩ := List.mem_map.1 hx
    exact ⟨mayN_gt hm c hc, h4 c hc⟩
theorem more_depth {l : List Cg} {m : Cg} (hm : mayC l = true) (h : moreC l m) (h0 : 0 < m.id) : depthC (l ++ [m]) m.id = deepC l + 1 := by
  have hm2 := more_may hm h h0
  rw [depthC_eq hm2 (show l ++ [m] = l ++ m :: [] from rfl)]
  have e1 : (l.filter fun d => keepsB d m) = l := List.filter_eq_self.2 fun d hd => by
    unfold keepsB
    rw [Bool.or_eq_true]
    refine Or.inr (List.contains_iff_mem.2 ?_)
    rw [h.2.2.1]
    exact List.mem_map.2 ⟨d, hd, rfl⟩
  rw [e1, List.map_congr_left (fun d hd => depthC_pre hm hm2 hd)]
  rfl

end Go.Proofs.YtpmbpklbiocclaaGreat
