/-
  Layer 25: what a path comes to, and all paths of a tree. Plain; no program is named here.
-/
import Derived.Test.YtkakihbfhmiabaaGreatTreA
import Derived.Test.YtkakihbfhmiabaaGreatGrAE
namespace Go.Proofs.YtkakihbfhmiabaaGreat
open Go.RowKit

/-! ### The first of a name; what names come to -/
def fstN : List En → ByteArray → Option En
  | [], _ => none
  | e :: l, s => if e.name = s then some e else fstN l s
theorem fstN_none : ∀ {l : List En} {s : ByteArray}, (∀ e ∈ l, e.name ≠ s) → fstN l s = none
  | [], _, _ => rfl
  | e :: l, s, h => by
    unfold fstN
    rw [if_neg (h e (by simp))]
    exact fstN_none fun e he => h e (by simp [he])
theorem fstN_at : ∀ {l : List En} {s : ByteArray} {k : Nat} {e : En}, l[k]? = some e → e.name = s → (∀ j, j < k → ∀ m, l[j]? = some m → m.name ≠ s) → fstN l s = some e
  | [], _, _, _, h, _, _ => by simp at h
  | m :: l, s, 0, e, h, hs, _ => by
    simp at h
    subst h
    unfold fstN
    rw [if_pos hs]
  | m :: l, s, k + 1, e, h, hs, hf => by
    have h0 := hf 0 (by omega) m rfl
    unfold fstN
    rw [if_neg h0]
    exact fstN_at (k := k) (by simpa using h) hs fun j hj m' hm' => hf (j + 1) (by omega) m' (by simpa using hm')
theorem fstN_mem {l : List En} (hd : l.Pairwise fun a b => a.name ≠ b.name) {e : En} (h : e ∈ l) : fstN l e.name = some e := by
  induction l with
  | nil => simp at h
  | cons a l ih =>
    obtain ⟨h1, h2⟩ := List.pairwise_cons.1 hd
    unfold fstN
    rcases List.mem_cons.1 h with rfl | h
    · rw [if_pos rfl]
    · rw [if_neg (h1 e h)]
      exact ih h2 h
/-- The place to which a name of the one at k leads. -/
def belE (t : List Nd) : Option En → Option Nat
  | none => none
  | some e => if e.ino < 0 then none else fstI t e.ino
def belN (t : List Nd) (n : Nd) (s : ByteArray) : Option Nat := belE t (fstN n.names s)
def belP (t : List Nd) (k : Nat) (s : ByteArray) : Option Nat := match t[k]? with
  | none => none
  | some n => belN t n s
def atP (t : List Nd) (o : Option Nat) (l : List ByteArray) : Option Nat := l.foldl (fun o s => o.bind fun k => belP t k s) o
theorem atP_snoc (t : List Nd) (o : Option Nat) (l : List ByteArray) (s : ByteArray) : atP t o (l ++ [s]) = (atP t o l).bind fun k => belP t k s := by unfold atP; rw [List.foldl_append]; rfl
theorem atP_next {t : List Nd} {o : Option Nat} {l : List ByteArray} {k : Nat} {s : ByteArray} (h : l[k]? = some s) : atP t o (l.take (k + 1)) = (atP t o (l.take k)).bind fun k => belP t k s := by
  obtain ⟨hk, rfl⟩ := List.getElem?_eq_some_iff.1 h
  rw [List.take_succ_eq_append_getElem hk, atP_snoc]
theorem atP_none (t : List Nd) : ∀ l : List ByteArray, atP t none l = none
  | [] => rfl
  | _ :: l => atP_none t l
theorem atP_stop {t : List Nd} {o : Option Nat} {l : List ByteArray} {k : Nat} (h : atP t o (l.take k) = none) : atP t o l = none := by
  have e : l = l.take k ++ l.drop k := (List.take_append_drop k l).symm
  rw [e]
  unfold atP at h ⊢
  rw [List.foldl_append, h]
  exact atP_none t _
theorem belP_lt {t : List Nd} {k : Nat} {s : ByteArray} {j : Nat} (h : belP t k s = some j) : j < t.length := by
  unfold belP at h
  split at h
  · cases h
  · unfold belN belE at h
    split at h
    · cases h
    · split at h
      · cases h
      · exact fstI_lt h
theorem atP_lt {t : List Nd} {o : Option Nat} (ho : ∀ j, o = some j → j < t.length) : ∀ {l : List ByteArray} {k : Nat}, atP t o l = some k → k < t.length := by
  intro l k h
  rcases List.eq_nil_or_concat l with rfl | ⟨l, s, rfl⟩
  · exact ho k h
  · rw [List.concat_eq_append, atP_snoc] at h
    obtain ⟨j, _, h⟩ := Option.bind_eq_some_iff.1 h
    exact belP_lt h

/-! ### All paths -/
def slashP : ByteArray := ⟨#[47]⟩
def joinP (p s : ByteArray) : ByteArray := p ++ slashP ++ s
def joinA (l : List ByteArray) : ByteArray := l.foldl joinP ⟨#[]⟩
theorem joinA_snoc (l : List ByteArray) (s : ByteArray) : joinA (l ++ [s]) = joinP (joinA l) s := by unfold joinA; rw [List.foldl_append]; rfl
theorem joinP_list (p s : ByteArray) : (joinP p s).data.toList = p.data.toList ++ 47 :: s.data.toList := by
  unfold joinP slashP
  rw [ByteArray.data_append, ByteArray.data_append, Array.toList_append, Array.toList_append]
  simp
def kindAt (t : List Nd) (k : Nat) : Int := match t[k]? with
  | some n => n.kind
  | none => 0
def namesAt (t : List Nd) (k : Nat) : List En := match t[k]? with
  | some n => n.names
  | none => []
theorem kindAt_some {t : List Nd} {k : Nat} {n : Nd} (h : t[k]? = some n) : kindAt t k = n.kind := by unfold kindAt; rw [h]
theorem namesAt_some {t : List Nd} {k : Nat} {n : Nd} (h : t[k]? = some n) : namesAt t k = n.names := by unfold namesAt; rw [h]
/-- The directories that were come to, by which path; the numbers struck out; the paths. -/
structure Wy where
  ways : List (Nat × ByteArray)
  gone : List Int
  out : List ByteArray
def leftP (t : List Nd) (gone : List Int) (i : Int) : Option Nat := if i ∈ gone then none else fstI t i
def stepO (t : List Nd) (q : ByteArray) (s : Wy) (i : Int) : Option Nat → Wy
  | none => ⟨s.ways, s.gone, s.out ++ [q]⟩
  | some n => if kindAt t n = 2 then ⟨s.ways ++ [(n, q)], s.gone ++ [i], s.out ++ [q]⟩ else ⟨s.ways, s.gone, s.out ++ [q]⟩
def stepE (t : List Nd) (p : ByteArray) (s : Wy) (e : En) : Wy := stepO t (joinP p e.name) s e.ino (leftP t s.gone e.ino)
def rowE (t : List Nd) (p : ByteArray) (s : Wy) (l : List En) : Wy := l.foldl (stepE t p) s
def stepY (t : List Nd) (s : Wy) (k : Nat) : Wy := match s.ways[k]? with
  | some q => rowE t q.2 s (namesAt t q.1)
  | none => s
def wayW (t : List Nd) (r : Nat) : Nat → Wy
  | 0 => ⟨[(r, ⟨#[]⟩)], [1], []⟩
  | k + 1 => stepY t (wayW t r k) k
def outP (t : List Nd) : List ByteArray := match fstI t 1 with
  | some r => if kindAt t r = 2 then (wayW t r t.length).out else []
  | none => []
def pathP (t : List Nd) : List ByteArray := sortS (outP t)
section
variable {t : List Nd} {p : ByteArray} {s : Wy}
theorem rowE_next {l : List En} {k : Nat} {e : En} (h : l[k]? = some e) : rowE t p s (l.take (k + 1)) = stepE t p (rowE t p s (l.take k)) e := by
  obtain ⟨hk, rfl⟩ := List.getElem?_eq_some_iff.1 h
  unfold rowE
  rw [List.take_succ_eq_append_getElem hk, List.foldl_append]
  rfl
theorem rowE_cons (e : En) (l : List En) : rowE t p s (e :: l) = rowE t p (stepE t p s e) l := rfl
theorem stepY_some {k : Nat} {n : Nat} {q : ByteArray} (h : s.ways[k]? = some (n, q)) : stepY t s k = rowE t q s (namesAt t n) := by unfold stepY; rw [h]
theorem stepY_none {k : Nat} (h : s.ways.length ≤ k) : stepY t s k = s := by unfold stepY; rw [List.getElem?_eq_none h]
/-- What holds all along. -/
structure WY (t : List Nd) (s : Wy) : Prop where
  is_ : ∀ w ∈ s.ways, kindAt t w.1 = 2 ∧ ∃ i ∈ s.gone, fstI t i = some w.1
  once : (s.ways.map (·.1)).Nodup
theorem stepE_cases (e : En) : stepE t p s e = ⟨s.ways, s.gone, s.out ++ [joinP p e.name]⟩ ∨ ∃ n, e.ino ∉ s.gone ∧ fstI t e.ino = some n ∧ kindAt t n = 2 ∧ stepE t p s e = ⟨s.ways ++ [(n, joinP p e.name)], s.gone ++ [e.ino], s.out ++ [joinP p e.name]⟩ := by
  unfold stepE leftP
  by_cases h : e.ino ∈ s.gone
  · rw [if_pos h]; exact Or.inl rfl
  · rw [if_neg h]
    cases hf : fstI t e.ino with
    | none => exact Or.inl rfl
    | some n =>
      simp only [stepO]
      by_cases hk : kindAt t n = 2
      · rw [if_pos hk]; exact Or.inr ⟨n, h, rfl, hk, rfl⟩
      · rw [if_neg hk]; exact Or.inl rfl
theorem WY.step (h : WY t s) (e : En) : WY t (stepE t p s e) := by
  rcases stepE_cases (t := t) (p := p) (s := s) e with h1 | ⟨n, hg, hf, hk, h1⟩
  · rw [h1]; exact ⟨h.is_, h.once⟩
  · rw [h1]
    refine ⟨fun w hw => ?_, ?_⟩
    · rcases List.mem_append.1 hw with hw | hw
      · obtain ⟨a, i, hi, b⟩ := h.is_ w hw
        exact ⟨a, i, List.mem_append_left _ hi, b⟩
      · rw [List.mem_singleton] at hw
        subst hw
        exact ⟨hk, e.ino, by simp, hf⟩
    · rw [List.map_append, List.nodup_append]
      refine ⟨h.once, by simp, fun a ha b hb => ?_⟩
      obtain ⟨w, hw, rfl⟩ := List.mem_map.1 ha
      simp at hb
      subst hb
      rintro rfl
      obtain ⟨_, i, hi, hfi⟩ := h.is_ w hw
      obtain ⟨m, hm, rfl⟩ := fstI_at hfi
      obtain ⟨m', hm', e'⟩ := fstI_at hf
      rw [hm] at hm'
      injection hm' with hm'
      subst hm'
      exact hg (by rw [← e']; exact hi)
theorem WY.row : ∀ {l : List En} {s : Wy}, WY t s → WY t (rowE t p s l)
  | [], _, h => h
  | e :: l, _, h => WY.row (l := l) (h.step e)
theorem WY.start {r : Nat} (h : fstI t 1 = some r) (hk : kindAt t r = 2) : WY t (wayW t r 0) := by
  refine ⟨fun w hw => ?_, by simp [wayW]⟩
  simp only [wayW, List.mem_singleton] at hw
  subst hw
  exact ⟨hk, 1, by simp [wayW], h⟩
theorem WY.way {r : Nat} (h : fstI t 1 = some r) (hk : kindAt t r = 2) : ∀ k, WY t (wayW t r k)
  | 0 => WY.start h hk
  | k + 1 => by
    have ih := WY.way h hk k
    show WY t (stepY t (wayW t r k) k)
    unfold stepY
    split
    · exact ih.row
    · exact ih
theorem nodup_nat {A : List Nat} (hA : A.Nodup) : ∀ {B : List Nat}, (∀ x ∈ A, x ∈ B) → A.length ≤ B.length := by
  induction A with
  | nil => intro B _; exact Nat.zero_le _
  | cons a A ih =>
    intro B hs
    obtain ⟨h1, h2⟩ := List.nodup_cons.1 hA
    have hb : a ∈ B := hs a (by simp)
    have h3 := ih h2 (B := B.erase a) fun y hy => (List.mem_erase_of_ne (fun e => h1 (by rw [← e]; exact hy))).2 (hs y (by simp [hy]))
    rw [List.length_erase_of_mem hb] at h3
    have h4 : 0 < B.length := List.length_pos_of_mem hb
    simp only [List.length_cons]
    omega
theorem WY.lt (h : WY t s) : ∀ w ∈ s.ways, w.1 < t.length := fun w hw => by
  obtain ⟨_, i, _, hf⟩ := h.is_ w hw
  exact fstI_lt hf
theorem WY.len (h : WY t s) : s.ways.length ≤ t.length := by
  have := nodup_nat h.once (B := List.range t.length) fun x hx => by
    obtain ⟨w, hw, rfl⟩ := List.mem_map.1 hx
    exact List.mem_range.2 (h.lt w hw)
  simpa using this
theorem wayW_stop {r k : Nat} (h : (wayW t r k).ways.length ≤ k) : ∀ m, wayW t r (k + m) = wayW t r k
  | 0 => rfl
  | m + 1 => by
    have ih := wayW_stop h m
    show stepY t (wayW t r (k + m)) (k + m) = _
    rw [ih, stepY_none (by omega)]
theorem wayW_end {r k : Nat} (h : fstI t 1 = some r) (hk : kindAt t r = 2) (hl : (wayW t r k).ways.length = k) : wayW t r t.length = wayW t r k := by
  have h1 := (WY.way h hk k).len
  have := wayW_stop (t := t) (r := r) (k := k) (by omega) (t.length - k)
  rw [← this]
  congr 1
  omega
theorem stepE_pre (e : En) : ∃ u, (stepE t p s e).ways = s.ways ++ u := by
  rcases stepE_cases (t := t) (p := p) (s := s) e with h | ⟨n, _, _, _, h⟩ <;> rw [h]
  · exact ⟨[], by simp⟩
  · exact ⟨_, rfl⟩
theorem rowE_pre : ∀ (l : List En) (s : Wy), ∃ u, (rowE t p s l).ways = s.ways ++ u
  | [], s => ⟨[], by simp [rowE]⟩
  | e :: l, s => by
    obtain ⟨u, hu⟩ := stepE_pre (t := t) (p := p) (s := s) e
    obtain ⟨v, hv⟩ := rowE_pre l (stepE t p s e)
    exact ⟨u ++ v, by rw [rowE_cons, hv, hu, List.append_assoc]⟩
theorem stepY_pre (s : Wy) (k : Nat) : ∃ u, (stepY t s k).ways = s.ways ++ u := by
  unfold stepY
  split
  · exact rowE_pre _ _
  · exact ⟨[], by simp⟩
theorem stepE_out (e : En) : (stepE t p s e).out = s.out ++ [joinP p e.name] := by
  rcases stepE_cases (t := t) (p := p) (s := s) e with h | ⟨n, _, _, _, h⟩ <;> rw [h]
theorem rowE_out : ∀ (l : List En) (s : Wy), (rowE t p s l).out = s.out ++ l.map fun e => joinP p e.name
  | [], s => by simp [rowE]
  | e :: l, s => by rw [rowE_cons, rowE_out l, stepE_out, List.append_assoc]; rfl
/-- How many paths: of each directory that was gone through as many as it has names. -/
def sumN (t : List Nd) (l : List (Nat × ByteArray)) : Nat := (l.map fun w => (namesAt t w.1).length).sum
theorem wayW_out (r : Nat) : ∀ k, (wayW t r k).out.length = sumN t ((wayW t r k).ways.take k)
  | 0 => rfl
  | k + 1 => by
    have ih := wayW_out r k
    show (stepY t (wayW t r k) k).out.length = sumN t ((stepY t (wayW t r k) k).ways.take (k + 1))
    rcases Nat.lt_or_ge k (wayW t r k).ways.length with hk | hk
    · obtain ⟨w, hw⟩ : ∃ w, (wayW t r k).ways[k]? = some w := ⟨_, List.getElem?_eq_getElem hk⟩
      obtain ⟨n, q⟩ := w
      rw [stepY_some hw, rowE_out, List.length_append, List.length_map, ih]
      obtain ⟨u, hu⟩ := rowE_pre (t := t) (p := q) (namesAt t n) (wayW t r k)
      rw [hu, List.take_append_of_le_length (by omega), List.take_succ_eq_append_getElem hk]
      unfold sumN
      rw [List.map_append, List.sum_append]
      have e : (wayW t r k).ways[k] = (n, q) := by
        rw [List.getElem?_eq_getElem hk] at hw
        injection hw
      rw [e]
      simp
    · rw [stepY_none hk, ih, List.take_of_length_le hk, List.take_of_length_le (by omega)]
theorem sum_once {f : Nat → Nat} : ∀ {A B : List Nat}, A.Nodup → (∀ x ∈ A, x ∈ B) → (A.map f).sum ≤ (B.map f).sum
  | [], _, _, _ => by simp
  | a :: A, B, hA, hs => by
    obtain ⟨h1, h2⟩ := List.nodup_cons.1 hA
    have hb : a ∈ B := hs a (by simp)
    have h3 := sum_once (f := f) h2 (B := B.erase a) fun y hy => (List.mem_erase_of_ne (fun e => h1 (by rw [← e]; exact hy))).2 (hs y (by simp [hy]))
    have h4 := ((List.perm_cons_erase hb).map f).sum_nat
    rw [h4]
    simp only [List.map_cons, List.sum_cons]
    omega
theorem range_sum (t : List Nd) : ((List.range t.length).map fun k => (namesAt t k).length).sum = (t.map fun n => n.names.length).sum := by
  congr 1
  apply List.ext_getElem?
  intro i
  rw [List.getElem?_map, List.getElem?_map]
  by_cases hi : i < t.length
  · rw [List.getElem?_range hi, List.getElem?_eq_getElem hi]
    show some (namesAt t i).length = some _
    rw [namesAt_some (List.getElem?_eq_getElem hi)]
  · rw [List.getElem?_eq_none (by simp; omega), List.getElem?_eq_none (by omega)]
    rfl
/-- How many names a tree has. -/
def allN (t : List Nd) : Nat := (t.map fun n => n.names.length).sum
theorem out_len {r : Nat} (h : fstI t 1 = some r) (hk : kindAt t r = 2) (k : Nat) : (wayW t r k).out.length ≤ allN t := by
  have hw := WY.way h hk k
  rw [wayW_out]
  have h1 : ((wayW t r k).ways.take k).map (·.1) = ((wayW t r k).ways.map (·.1)).take k := List.map_take
  have h2 : (((wayW t r k).ways.take k).map (·.1)).Nodup := by rw [h1]; exact hw.once.sublist (List.take_sublist _ _)
  have h3 := sum_once (f := fun j => (namesAt t j).length) h2 (B := List.range t.length) fun x hx => by
    obtain ⟨w, hw', rfl⟩ := List.mem_map.1 hx
    exact List.mem_range.2 (hw.lt w (List.mem_of_mem_take hw'))
  rw [range_sum] at h3
  unfold sumN allN
  rw [List.map_map] at h3
  exact h3
theorem outP_len (t : List Nd) : (outP t).length ≤ allN t := by
  unfold outP
  cases h : fstI t 1 with
  | none => simp
  | some r =>
    simp only
    split
    · next hk => exact out_len h hk _
    · simp
end

/-! ### What is come to by each path of a good tree -/
structure TG (t : List Nd) : Prop where
  apart : ∀ n ∈ t, n.names.Pairwise fun a b => a.name ≠ b.name
  right : ∀ n ∈ t, ∀ e ∈ n.names, rightN e.name = true ∧ 0 ≤ e.ino ∧ ∃ m ∈ t, m.ino = e.ino
/-- Names that lead there. -/
def Leads (t : List Nd) (p : ByteArray) (k : Nat) : Prop := ∃ l, p = joinA l ∧ (∀ s ∈ l, rightN s = true) ∧ atP t (fstI t 1) l = some k
/-- A path with at least one name, that leads somewhere. -/
def Goes (t : List Nd) (p : ByteArray) : Prop := ∃ l, l ≠ [] ∧ p = joinA l ∧ (∀ s ∈ l, rightN s = true) ∧ (atP t (fstI t 1) l).isSome = true
theorem TG.next {t : List Nd} (h : TG t) {p : ByteArray} {k : Nat} (hp : Leads t p k) {e : En} (he : e ∈ namesAt t k) : Goes t (joinP p e.name) ∧ ∀ n, fstI t e.ino = some n → Leads t (joinP p e.name) n := by
  obtain ⟨l, rfl, hr, ha⟩ := hp
  cases hk : t[k]? with
  | none => unfold namesAt at he; rw [hk] at he; simp at he
  | some n =>
    rw [namesAt_some hk] at he
    have hn := List.mem_of_getElem? hk
    obtain ⟨h1, h2, h3⟩ := h.right n hn e he
    have hb : atP t (fstI t 1) (l ++ [e.name]) = fstI t e.ino := by
      rw [atP_snoc, ha]
      show belP t k e.name = _
      unfold belP
      rw [hk]
      show belE t (fstN n.names e.name) = _
      rw [fstN_mem (h.apart n hn) he]
      unfold belE
      simp only
      rw [if_neg (by omega)]
    have hr' : ∀ s ∈ l ++ [e.name], rightN s = true := fun s hs => by
      rcases List.mem_append.1 hs with hs | hs
      · exact hr s hs
      · rw [List.mem_singleton] at hs
        rw [hs]
        exact h1
    refine ⟨⟨l ++ [e.name], by simp, (joinA_snoc _ _).symm, hr', by rw [hb]; exact fstI_some.2 h3⟩, fun m hm => ⟨l ++ [e.name], (joinA_snoc _ _).symm, hr', by rw [hb, hm]⟩⟩
structure WG (t : List Nd) (s : Wy) : Prop where
  way : ∀ w ∈ s.ways, Leads t w.2 w.1
  out : ∀ p ∈ s.out, Goes t p
theorem WG.row {t : List Nd} (h : TG t) {p : ByteArray} {k : Nat} (hp : Leads t p k) : ∀ {l : List En} {s : Wy}, WG t s → (∀ e ∈ l, e ∈ namesAt t k) → WG t (rowE t p s l)
  | [], _, hs, _ => hs
  | e :: l, s, hs, hl => by
    rw [rowE_cons]
    refine WG.row h hp (l := l) ?_ fun e he => hl e (by simp [he])
    obtain ⟨h1, h2⟩ := h.next hp (hl e (by simp))
    have ho : ∀ q ∈ s.out ++ [joinP p e.name], Goes t q := fun q hq => by
      rcases List.mem_append.1 hq with hq | hq
      · exact hs.out q hq
      · rw [List.mem_singleton] at hq
        rw [hq]
        exact h1
    rcases stepE_cases (t := t) (p := p) (s := s) e with h3 | ⟨n, _, hf, _, h3⟩ <;> rw [h3]
    · exact ⟨hs.way, ho⟩
    · refine ⟨fun w hw => ?_, ho⟩
      rcases List.mem_append.1 hw with hw | hw
      · exact hs.way w hw
      · rw [List.mem_singleton] at hw
        rw [hw]
        exact h2 n hf
theorem WG.way_ {t : List Nd} (h : TG t) {r : Nat} (hr : fstI t 1 = some r) : ∀ k, WG t (wayW t r k)
  | 0 => ⟨fun w hw => by
      simp only [wayW, List.mem_singleton] at hw
      subst hw
      exact ⟨[], rfl, fun s hs => by simp at hs, hr⟩, fun p hp => by simp [wayW] at hp⟩
  | k + 1 => by
    have ih := WG.way_ h hr k
    show WG t (stepY t (wayW t r k) k)
    cases hk : (wayW t r k).ways[k]? with
    | none => rw [stepY_none (List.getElem?_eq_none_iff.1 hk)]; exact ih
    | some w =>
      obtain ⟨n, q⟩ := w
      rw [stepY_some hk]
      exact WG.row h (ih.way _ (List.mem_of_getElem? hk)) ih fun e he => he
theorem TG.goes {t : List Nd} (h : TG t) : ∀ p ∈ outP t, Goes t p := by
  unfold outP
  cases hr : fstI t 1 with
  | none => intro p hp; simp at hp
  | some r =>
    simp only
    split
    · exact (WG.way_ h hr _).out
    · intro p hp; simp at hp

end Go.Proofs.YtkakihbfhmiabaaGreat
