/-
  Layer 25: nodes; which is the first of a number; a tree that grows, and its order. Plain; no program is named here.
-/
import Derived.Test.YtkakihbfhmiabaaGreatGrAE
import Derived.Test.YtkakihbfhmiabaaGreatGrAN
namespace Go.Proofs.YtkakihbfhmiabaaGreat
open Go.RowKit

/-- A node. -/
structure Nd where
  ino : Int
  kind : Int
  links : Int
  parent : Int
  size : Int
  data : List UInt8
  names : List En
instance : Inhabited Nd := ⟨⟨0, 0, 0, 0, 0, [], []⟩⟩

/-! ### The first of a number -/
def fstI : List Nd → Int → Option Nat
  | [], _ => none
  | n :: t, i => if n.ino = i then some 0 else (fstI t i).map (· + 1)
theorem fstI_at : ∀ {t : List Nd} {i : Int} {k : Nat}, fstI t i = some k → ∃ n, t[k]? = some n ∧ n.ino = i
  | [], _, _, h => by cases h
  | n :: t, i, k, h => by
    unfold fstI at h
    by_cases h1 : n.ino = i
    · rw [if_pos h1] at h
      injection h with h
      subst h
      exact ⟨n, rfl, h1⟩
    · rw [if_neg h1] at h
      obtain ⟨j, hj, rfl⟩ := Option.map_eq_some_iff.1 h
      obtain ⟨m, hm, e⟩ := fstI_at hj
      exact ⟨m, by simpa using hm, e⟩
theorem fstI_lt {t : List Nd} {i : Int} {k : Nat} (h : fstI t i = some k) : k < t.length := by
  obtain ⟨n, hn, _⟩ := fstI_at h
  exact (List.getElem?_eq_some_iff.1 hn).1
theorem fstI_none : ∀ {t : List Nd} {i : Int}, fstI t i = none ↔ ∀ n ∈ t, n.ino ≠ i
  | [], _ => ⟨fun _ n hn => by simp at hn, fun _ => rfl⟩
  | n :: t, i => by
    unfold fstI
    by_cases h1 : n.ino = i
    · rw [if_pos h1]
      exact ⟨fun h => (by cases h), fun h => absurd h1 (h n (by simp))⟩
    · rw [if_neg h1, Option.map_eq_none_iff, fstI_none]
      exact ⟨fun h m hm => by
        rcases List.mem_cons.1 hm with rfl | hm
        · exact h1
        · exact h m hm, fun h m hm => h m (by simp [hm])⟩
theorem fstI_some {t : List Nd} {i : Int} : (fstI t i).isSome = true ↔ ∃ n ∈ t, n.ino = i := by
  cases h : fstI t i with
  | none =>
    have := fstI_none.1 h
    exact ⟨fun h => (by cases h), fun ⟨n, hn, e⟩ => absurd e (this n hn)⟩
  | some k =>
    obtain ⟨n, hn, e⟩ := fstI_at h
    exact ⟨fun _ => ⟨n, List.mem_of_getElem? hn, e⟩, fun _ => rfl⟩
theorem fstI_of : ∀ {t : List Nd} {i : Int} {k : Nat} {n : Nd}, t[k]? = some n → n.ino = i → (∀ j, j < k → ∀ m, t[j]? = some m → m.ino ≠ i) → fstI t i = some k
  | [], _, _, _, h, _, _ => by simp at h
  | m :: t, i, 0, n, h, e, _ => by
    simp at h
    subst h
    unfold fstI
    rw [if_pos e]
  | m :: t, i, k + 1, n, h, e, hf => by
    have h0 := hf 0 (by omega) m rfl
    have := fstI_of (t := t) (k := k) (by simpa using h) e fun j hj m' hm' => hf (j + 1) (by omega) m' (by simpa using hm')
    unfold fstI
    rw [if_neg h0, this]
    rfl
theorem fstI_first : ∀ {t : List Nd} {i : Int} {k : Nat}, fstI t i = some k → ∀ j, j < k → ∀ m, t[j]? = some m → m.ino ≠ i
  | [], _, _, h => by cases h
  | n :: t, i, k, h => by
    unfold fstI at h
    by_cases h1 : n.ino = i
    · rw [if_pos h1] at h
      injection h with h
      subst h
      intro j hj
      omega
    · rw [if_neg h1] at h
      obtain ⟨j, hj, rfl⟩ := Option.map_eq_some_iff.1 h
      intro q hq m hm
      match q, hm with
      | 0, hm => simp at hm; subst hm; exact h1
      | q + 1, hm => exact fstI_first hj q (by omega) m (by simpa using hm)
/-- .. as the program tells it. -/
def whI (t : List Nd) (i : Int) : Int := match fstI t i with
  | some k => (k : Int)
  | none => -1
theorem whI_some {t : List Nd} {i : Int} {k : Nat} (h : fstI t i = some k) : whI t i = (k : Int) := by unfold whI; rw [h]
theorem whI_none {t : List Nd} {i : Int} (h : fstI t i = none) : whI t i = -1 := by unfold whI; rw [h]
theorem whI_neg {t : List Nd} {i : Int} : decide (whI t i < 0) = !(fstI t i).isSome := by
  cases h : fstI t i with
  | none => rw [whI_none h]; rfl
  | some k => rw [whI_some h]; simp
/-- How many names tell a number. -/
def cntE (l : List En) (i : Int) : Nat := (l.filter fun e => decide (e.ino = i)).length
def cntT (t : List Nd) (i : Int) : Nat := (t.map fun n => cntE n.names i).sum
theorem cntE_next {l : List En} {k : Nat} {e : En} (h : l[k]? = some e) (i : Int) : cntE (l.take (k + 1)) i = cntE (l.take k) i + if e.ino = i then 1 else 0 := by
  obtain ⟨hk, rfl⟩ := List.getElem?_eq_some_iff.1 h
  unfold cntE
  rw [List.take_succ_eq_append_getElem hk, List.filter_append, List.length_append]
  by_cases h1 : l[k].ino = i
  · rw [if_pos h1, List.filter_cons_of_pos (by simpa using h1)]; rfl
  · rw [if_neg h1, List.filter_cons_of_neg (by simpa using h1)]; rfl
theorem cntE_len (l : List En) (i : Int) : cntE l i ≤ l.length := List.length_filter_le _ _
theorem cntT_next {t : List Nd} {k : Nat} {n : Nd} (h : t[k]? = some n) (i : Int) : cntT (t.take (k + 1)) i = cntT (t.take k) i + cntE n.names i := by
  obtain ⟨hk, rfl⟩ := List.getElem?_eq_some_iff.1 h
  unfold cntT
  rw [List.take_succ_eq_append_getElem hk, List.map_append, List.sum_append]
  simp
theorem cntT_pos {t : List Nd} {i : Int} {n : Nd} {e : En} (hn : n ∈ t) (he : e ∈ n.names) (h : e.ino = i) : 1 ≤ cntT t i := by
  induction t with
  | nil => simp at hn
  | cons m t ih =>
    unfold cntT
    rw [List.map_cons, List.sum_cons]
    rcases List.mem_cons.1 hn with rfl | hn
    · have : 0 < (n.names.filter fun e => decide (e.ino = i)).length := List.length_pos_of_mem (List.mem_filter.2 ⟨he, by simpa using h⟩)
      unfold cntE
      omega
    · have := ih hn
      unfold cntT at this
      omega

/-! ### A tree that grows: one more for each name that tells none of it -/
section
variable (N : Int → Nd)
def addP (t : List Nd) (e : En) : List Nd := if (fstI t e.ino).isSome then t else t ++ [N e.ino]
def growP (t : List Nd) (l : List En) : List Nd := l.foldl (addP N) t
def stepP (t : List Nd) (k : Nat) : List Nd := match t[k]? with
  | some n => growP N t n.names
  | none => t
def treeW : Nat → List Nd
  | 0 => [N 1]
  | k + 1 => stepP N (treeW k) k
end
section
variable {N : Int → Nd}
theorem growP_next {l : List En} {k : Nat} {e : En} (t : List Nd) (h : l[k]? = some e) : growP N t (l.take (k + 1)) = addP N (growP N t (l.take k)) e := by
  obtain ⟨hk, rfl⟩ := List.getElem?_eq_some_iff.1 h
  unfold growP
  rw [List.take_succ_eq_append_getElem hk, List.foldl_append]
  rfl
theorem addP_pre (t : List Nd) (e : En) : ∃ u, addP N t e = t ++ u := by
  unfold addP
  split
  · exact ⟨[], by simp⟩
  · exact ⟨_, rfl⟩
theorem growP_pre : ∀ (l : List En) (t : List Nd), ∃ u, growP N t l = t ++ u
  | [], t => ⟨[], by simp [growP]⟩
  | e :: l, t => by
    obtain ⟨u, hu⟩ := addP_pre (N := N) t e
    obtain ⟨v, hv⟩ := growP_pre l (addP N t e)
    refine ⟨u ++ v, ?_⟩
    show growP N (addP N t e) l = _
    rw [hv, hu, List.append_assoc]
theorem stepP_some {t : List Nd} {k : Nat} {n : Nd} (h : t[k]? = some n) : stepP N t k = growP N t n.names := by unfold stepP; rw [h]
theorem stepP_none {t : List Nd} {k : Nat} (h : t.length ≤ k) : stepP N t k = t := by unfold stepP; rw [List.getElem?_eq_none h]
theorem stepP_pre (t : List Nd) (k : Nat) : ∃ u, stepP N t k = t ++ u := by
  unfold stepP
  split
  · exact growP_pre _ _
  · exact ⟨[], by simp⟩
theorem mem_addP {t : List Nd} {e : En} {n : Nd} (h : n ∈ t) : n ∈ addP N t e := by
  obtain ⟨u, hu⟩ := addP_pre (N := N) t e
  rw [hu]
  exact List.mem_append_left _ h
theorem mem_growP {t : List Nd} {l : List En} {n : Nd} (h : n ∈ t) : n ∈ growP N t l := by
  obtain ⟨u, hu⟩ := growP_pre (N := N) l t
  rw [hu]
  exact List.mem_append_left _ h
/-- What a tree that grew is: each is what its number tells, once, from 1 to 128; each but 1 is told by a name of one. -/
structure WI (N : Int → Nd) (t : List Nd) : Prop where
  is_ : ∀ n ∈ t, n = N n.ino
  once : (t.map (·.ino)).Nodup
  low : ∀ n ∈ t, 1 ≤ n.ino ∧ n.ino ≤ 128
  told : ∀ n ∈ t, n.ino = 1 ∨ ∃ m ∈ t, ∃ e ∈ m.names, e.ino = n.ino
theorem WI.add {t : List Nd} (h : WI N t) (hN : ∀ i, (N i).ino = i) {m : Nd} {e : En} (hm : m ∈ t) (he : e ∈ m.names) (hr : 1 ≤ e.ino ∧ e.ino ≤ 128) : WI N (addP N t e) := by
  unfold addP
  split
  · exact h
  · next hn =>
    have hne : ∀ n ∈ t, n.ino ≠ e.ino := fun n hn' e' => hn (fstI_some.2 ⟨n, hn', e'⟩)
    refine ⟨fun n hn' => ?_, ?_, fun n hn' => ?_, fun n hn' => ?_⟩
    · rcases List.mem_append.1 hn' with hn' | hn'
      · exact h.is_ n hn'
      · rw [List.mem_singleton] at hn'
        rw [hn', hN]
    · rw [List.map_append, List.nodup_append]
      refine ⟨h.once, by simp, fun a ha b hb => ?_⟩
      obtain ⟨n, hn', rfl⟩ := List.mem_map.1 ha
      simp [hN] at hb
      rw [hb]
      exact hne n hn'
    · rcases List.mem_append.1 hn' with hn' | hn'
      · exact h.low n hn'
      · rw [List.mem_singleton] at hn'
        rw [hn', hN]
        exact hr
    · rcases List.mem_append.1 hn' with hn' | hn'
      · rcases h.told n hn' with h1 | ⟨m', hm', h1⟩
        · exact Or.inl h1
        · exact Or.inr ⟨m', List.mem_append_left _ hm', h1⟩
      · rw [List.mem_singleton] at hn'
        exact Or.inr ⟨m, List.mem_append_left _ hm, e, he, by rw [hn', hN]⟩
theorem WI.grow (hN : ∀ i, (N i).ino = i) : ∀ {l : List En} {t : List Nd} {m : Nd}, WI N t → m ∈ t → (∀ e ∈ l, e ∈ m.names) → (∀ e ∈ l, 1 ≤ e.ino ∧ e.ino ≤ 128) → WI N (growP N t l)
  | [], _, _, h, _, _, _ => h
  | e :: l, t, m, h, hm, h1, h2 => WI.grow hN (l := l) (h.add hN hm (h1 e (by simp)) (h2 e (by simp))) (mem_addP hm) (fun e he => h1 e (by simp [he])) fun e he => h2 e (by simp [he])
theorem WI.tree (hN : ∀ i, (N i).ino = i) (hE : ∀ i, ∀ e ∈ (N i).names, 1 ≤ e.ino ∧ e.ino ≤ 128) : ∀ k, WI N (treeW N k)
  | 0 => by
    refine ⟨fun n hn => ?_, by simp [treeW], fun n hn => ?_, fun n hn => Or.inl ?_⟩ <;> (simp only [treeW, List.mem_singleton] at hn; rw [hn])
    · rw [hN]
    · rw [hN]; omega
    · exact hN 1
  | k + 1 => by
    have h := WI.tree hN hE k
    show WI N (stepP N (treeW N k) k)
    cases hk : (treeW N k)[k]? with
    | none => rw [stepP_none (List.getElem?_eq_none_iff.1 hk)]; exact h
    | some n =>
      rw [stepP_some hk]
      have hn := List.mem_of_getElem? hk
      exact WI.grow hN h hn (fun e he => he) fun e he => hE n.ino e (by rw [← h.is_ n hn]; exact he)
theorem nodup_len25 {A : List Int} (hA : A.Nodup) : ∀ {B : List Int}, (∀ x ∈ A, x ∈ B) → A.length ≤ B.length := by
  induction A with
  | nil => intro B _; exact Nat.zero_le _
  | cons a A ih =>
    intro B hs
    obtain ⟨h1, h2⟩ := List.nodup_cons.1 hA
    have hb : a ∈ B := hs a (by simp)
    have h3 := ih h2 (B := B.erase a) fun y hy => (List.mem_erase_of_ne (fun e => h1 (by rw [← e]; exact hy))).2 (hs y (by simp [hy]))
    rw [List.length_erase_of_mem hb] at h3
    have h4 : 0 < B.length := List.length_pos_of_mem hb
    simp only [List.length_cons]
    omega
theorem WI.len {t : List Nd} (h : WI N t) : t.length ≤ 128 := by
  have h1 := nodup_len25 h.once (B := (List.range 128).map fun k : Nat => (k : Int) + 1) fun x hx => by
    obtain ⟨n, hn, rfl⟩ := List.mem_map.1 hx
    have := h.low n hn
    exact List.mem_map.2 ⟨(n.ino - 1).toNat, List.mem_range.2 (by omega), by omega⟩
  simpa using h1
/-- Of those gone through each name tells one. -/
def Closed (t : List Nd) (k : Nat) : Prop := ∀ j n, j < k → t[j]? = some n → ∀ e ∈ n.names, ∃ m ∈ t, m.ino = e.ino
theorem addP_has (hN : ∀ i, (N i).ino = i) (t : List Nd) (e : En) : ∃ m ∈ addP N t e, m.ino = e.ino := by
  unfold addP
  split
  · next h => exact fstI_some.1 h
  · exact ⟨N e.ino, by simp, hN _⟩
theorem growP_has (hN : ∀ i, (N i).ino = i) : ∀ (l : List En) (t : List Nd), ∀ e ∈ l, ∃ m ∈ growP N t l, m.ino = e.ino
  | [], _, e, he => by simp at he
  | a :: l, t, e, he => by
    rcases List.mem_cons.1 he with rfl | he
    · obtain ⟨m, hm, h⟩ := addP_has hN t e
      exact ⟨m, show m ∈ growP N (addP N t e) l from mem_growP hm, h⟩
    · exact growP_has hN l (addP N t a) e he
theorem Closed.step (hN : ∀ i, (N i).ino = i) {t : List Nd} {k : Nat} (h : Closed t k) : Closed (stepP N t k) (k + 1) := by
  obtain ⟨u, hu⟩ := stepP_pre (N := N) t k
  intro j n hj hn e he
  by_cases hjt : j < t.length
  · have hn' : t[j]? = some n := by rw [hu, List.getElem?_append_left hjt] at hn; exact hn
    rcases Nat.lt_or_ge j k with hjk | hjk
    · obtain ⟨m, hm, h1⟩ := h j n hjk hn' e he
      exact ⟨m, by rw [hu]; exact List.mem_append_left _ hm, h1⟩
    · obtain rfl : j = k := by omega
      rw [stepP_some hn']
      exact growP_has hN _ _ e he
  · have hk : t.length ≤ k := by omega
    rw [stepP_none hk] at hn
    rw [List.getElem?_eq_none (by omega)] at hn
    cases hn
theorem Closed.tree (hN : ∀ i, (N i).ino = i) : ∀ k, Closed (treeW N k) k
  | 0 => fun j n hj => by omega
  | k + 1 => (Closed.tree hN k).step hN
theorem treeW_stop {k : Nat} (h : (treeW N k).length ≤ k) : ∀ m, treeW N (k + m) = treeW N k
  | 0 => rfl
  | m + 1 => by
    have ih := treeW_stop h m
    show stepP N (treeW N (k + m)) (k + m) = _
    rw [ih, stepP_none (by omega)]
theorem treeW_end (hN : ∀ i, (N i).ino = i) (hE : ∀ i, ∀ e ∈ (N i).names, 1 ≤ e.ino ∧ e.ino ≤ 128) {k : Nat} (h : (treeW N k).length = k) : treeW N 128 = treeW N k := by
  have hl := (WI.tree hN hE k).len
  have := treeW_stop (N := N) (k := k) (by omega) (128 - k)
  rw [← this]
  congr 1
  omega
theorem treeW_pos : ∀ k, 0 < (treeW N k).length
  | 0 => by simp [treeW]
  | k + 1 => by
    obtain ⟨u, hu⟩ := stepP_pre (N := N) (treeW N k) k
    show 0 < (stepP N (treeW N k) k).length
    rw [hu, List.length_append]
    have := treeW_pos k
    omega
theorem treeW_head : ∀ k, (treeW N k)[0]? = some (N 1)
  | 0 => rfl
  | k + 1 => by
    obtain ⟨u, hu⟩ := stepP_pre (N := N) (treeW N k) k
    show (stepP N (treeW N k) k)[0]? = _
    rw [hu, List.getElem?_append_left (treeW_pos k)]
    exact treeW_head k
end

/-! ### By rising numbers -/
def insN (n : Nd) : List Nd → List Nd
  | [] => [n]
  | m :: l => if n.ino ≤ m.ino then n :: m :: l else m :: insN n l
def srtN (t : List Nd) : List Nd := t.foldr insN []
theorem insN_perm (n : Nd) : ∀ l : List Nd, (insN n l).Perm (n :: l)
  | [] => List.Perm.refl _
  | m :: l => by
    unfold insN
    split
    · exact List.Perm.refl _
    · exact ((insN_perm n l).cons m).trans (List.Perm.swap n m l)
theorem srtN_perm : ∀ t : List Nd, (srtN t).Perm t
  | [] => List.Perm.refl _
  | n :: t => (insN_perm n (srtN t)).trans ((srtN_perm t).cons n)
theorem insN_rise (n : Nd) : ∀ {l : List Nd}, l.Pairwise (fun a b => a.ino ≤ b.ino) → (insN n l).Pairwise fun a b => a.ino ≤ b.ino
  | [], _ => List.pairwise_singleton _ _
  | m :: l, h => by
    obtain ⟨h1, h2⟩ := List.pairwise_cons.1 h
    unfold insN
    split
    · next hle =>
      refine List.pairwise_cons.2 ⟨fun x hx => ?_, h⟩
      rcases List.mem_cons.1 hx with rfl | hx
      · exact hle
      · have := h1 x hx; omega
    · next hle =>
      refine List.pairwise_cons.2 ⟨fun x hx => ?_, insN_rise n h2⟩
      rcases List.mem_cons.1 ((insN_perm n l).mem_iff.1 hx) with rfl | hx
      · omega
      · exact h1 x hx
theorem srtN_le : ∀ t : List Nd, (srtN t).Pairwise fun a b => a.ino ≤ b.ino
  | [] => List.Pairwise.nil
  | n :: t => insN_rise n (srtN_le t)
theorem rise_uniq : ∀ {l m : List Nd}, l.Pairwise (fun a b => a.ino < b.ino) → m.Pairwise (fun a b => a.ino < b.ino) → l.Perm m → l = m
  | [], m, _, _, h => by have := h.length_eq; simp at this; exact (List.eq_nil_of_length_eq_zero this.symm).symm
  | a :: l, [], _, _, h => by have := h.length_eq; simp at this
  | a :: l, b :: m, h1, h2, h => by
    obtain ⟨a1, a2⟩ := List.pairwise_cons.1 h1
    obtain ⟨b1, b2⟩ := List.pairwise_cons.1 h2
    have hab : a = b := by
      have ha : a ∈ b :: m := h.mem_iff.1 (by simp)
      have hb : b ∈ a :: l := h.mem_iff.2 (by simp)
      rcases List.mem_cons.1 ha with e | ha
      · exact e
      · rcases List.mem_cons.1 hb with e | hb
        · exact e.symm
        · have := b1 a ha
          have := a1 b hb
          omega
    subst hab
    rw [rise_uniq a2 b2 (List.Perm.cons_inv h)]
theorem lt_of_le_once {l : List Nd} (h : l.Pairwise fun a b => a.ino ≤ b.ino) (hn : (l.map (·.ino)).Nodup) : l.Pairwise fun a b => a.ino < b.ino := by
  rw [List.nodup_iff_pairwise_ne, List.pairwise_map] at hn
  exact (h.and hn).imp fun {a b} h => by omega
theorem srtN_rise {t : List Nd} (h : (t.map (·.ino)).Nodup) : (srtN t).Pairwise fun a b => a.ino < b.ino := lt_of_le_once (srtN_le t) ((((srtN_perm t).map (·.ino)).nodup_iff).2 h)
/-- Whatever is sorted, of nodes of which each number is once. -/
theorem srtN_of {t m : List Nd} (h : (t.map (·.ino)).Nodup) (hp : m.Perm t) (hs : m.Pairwise fun a b => a.ino ≤ b.ino) : m = srtN t :=
  rise_uniq (lt_of_le_once hs (((hp.map (·.ino)).nodup_iff).2 h)) (srtN_rise h) (hp.trans (srtN_perm t).symm)

/-! ### The tree of a view -/
def isKd (k : Int) : Bool := decide (k = 1) || decide (k = 2)
def namP (l : Lay14) (T : Int → List UInt8) (X : List Int) : List En := (srtE (lisD l T X)).filter fun e => isKd (fld (vIno l T e.ino) 0)
def nodX (l : Lay14) (T : Int → List UInt8) (i : Int) (X : List Int) : Nd := ⟨i, fld X 0, fld X 1, fld X 3, (sizeR X : Int), segR l T X 0 (sizeR X), namP l T X⟩
def nodP (l : Lay14) (T : Int → List UInt8) (i : Int) : Nd := nodX l T i (vIno l T i)
def treeP (l : Lay14) (T : Int → List UInt8) : List Nd := if fld (vIno l T 1) 0 = 2 then srtN (treeW (nodP l T) 128) else []
section
variable {l : Lay14} {T : Int → List UInt8}
theorem nodP_ino (i : Int) : (nodP l T i).ino = i := rfl
theorem namP_in {X : List Int} {e : En} (h : e ∈ namP l T X) : e ∈ lisD l T X ∧ isKd (fld (vIno l T e.ino) 0) = true := by
  obtain ⟨h1, h2⟩ := List.mem_filter.1 h
  exact ⟨srtE_in.1 h1, h2⟩
theorem lisD_may {X : List Int} {e : En} (h : e ∈ lisD l T X) : mayE e = true := by
  obtain ⟨p, hp, hi⟩ := lisD_in.1 h
  obtain ⟨k, e', _, _, h3, h4, h5⟩ := lkD_some.1 hp
  have hm : mayE e' = true := (readE_iff.1 h3).1
  rw [h5] at hi
  have : e'.ino = e.ino := hi
  obtain ⟨n, i⟩ := e
  obtain ⟨n', i'⟩ := e'
  simp only at this h4
  subst this
  subst h4
  exact hm
theorem nodP_low (i : Int) : ∀ e ∈ (nodP l T i).names, 1 ≤ e.ino ∧ e.ino ≤ 128 := fun _ he => (mayE_iff.1 (lisD_may (namP_in he).1)).2
end

end Go.Proofs.YtkakihbfhmiabaaGreat
