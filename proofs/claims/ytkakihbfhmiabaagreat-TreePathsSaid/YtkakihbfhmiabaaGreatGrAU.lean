/-
  Texts of this claim joined: SavA, SrtK.
-/
import Derived.Test.YtkakihbfhmiabaaGreatGrAC
import Derived.Test.YtkakihbfhmiabaaGreatGrAJ
import Derived.Shelf.GgSortFunc.RowK

/-
  A world in which some blocks may have changed, and all others are as they were; append of one value, or one row, told so. Plain; no program is named here.
-/
namespace Go.Proofs.YtkakihbfhmiabaaGreat
open Go.RowKit

/-- All blocks but these are as they were. -/
structure Save (F : Nat → Prop) (w w' : World) : Prop where
  os : w'.os = w.os
  tape : w'.tape = w.tape
  output : w'.output = w.output
  size : w.heap.size ≤ w'.heap.size
  block : ∀ k, k < w.heap.size → ¬ F k → w'.heap[k]? = w.heap[k]?
/-- The new ones were among the old ones, or are of blocks that are new. -/
def Next (w : World) (F F' : Nat → Prop) : Prop := ∀ k, F' k → F k ∨ w.heap.size ≤ k
/-- The block of a slice. -/
def Has (v : Value) (k : Nat) : Prop := v.ownBlock = some k
def Off (F : Nat → Prop) (v : Value) : Prop := ∀ k, v.ownBlock = some k → ¬ F k
section
variable {w w' w'' : World} {F F' F'' : Nat → Prop} {B : Nat}
theorem Save.of_below (h : Below w.heap.size w w') : Save F w w' := ⟨h.os, h.tape, h.output, h.size, fun k hk _ => h.block k hk⟩
theorem Save.refl : Save F w w := Save.of_below (Below.refl _ _)
theorem Save.below (h : Save F w w') (hF : ∀ k, F k → B ≤ k) (hB : B ≤ w.heap.size) : Below B w w' := ⟨h.os, h.tape, h.output, h.size, fun k hk => h.block k (Nat.lt_of_lt_of_le hk hB) fun hk' => absurd (hF k hk') (by omega)⟩
theorem Save.trans (h : Save F w w') (hn : Next w F F') (h' : Save F' w' w'') : Save F w w'' :=
  ⟨h'.os.trans h.os, h'.tape.trans h.tape, h'.output.trans h.output, Nat.le_trans h.size h'.size, fun k hk hf => (h'.block k (Nat.lt_of_lt_of_le hk h.size) fun hf' => (hn k hf').elim hf (by omega)).trans (h.block k hk hf)⟩
theorem Save.ext (h : Save F w w') (h' : Below w'.heap.size w' w'') : Save F w w'' := ⟨h'.os.trans h.os, h'.tape.trans h.tape, h'.output.trans h.output, Nat.le_trans h.size h'.size, fun k hk hf => (h'.block k (Nat.lt_of_lt_of_le hk h.size)).trans (h.block k hk hf)⟩
theorem Next.refl (w : World) (F : Nat → Prop) : Next w F F := fun _ h => Or.inl h
theorem Next.trans (h : Next w F F') (hs : w.heap.size ≤ w'.heap.size) (h' : Next w' F' F'') : Next w F F'' := fun k hk => (h' k hk).elim (h k) fun h => Or.inr (by omega)
theorem Blk.save {g : Nat} {t : TypeId} {cs : Array Value} (h : Blk w g t cs) (hs : Save F w w') (hF : ¬ F g) : Blk w' g t cs := (hs.block g h.lt hF).trans h
theorem OwnC.save {e : TypeId} {v : Value} {l : List Value} (h : OwnC w B e v l) (hs : Save F w w') (hF : Off F v) : OwnC w' B e v l := by
  obtain ⟨hl, h | ⟨g, cap, cur, hv, hbg, hg, h⟩⟩ := h
  · exact ⟨hl, Or.inl h⟩
  · exact ⟨hl, Or.inr ⟨g, cap, cur, hv, hbg, Blk.save hg hs (hF g (by rw [hv]; rfl)), h⟩⟩
theorem OwnN.save {e : TypeId} {N : Nat} {v : Value} {L : List (List Value)} (h : OwnN w B e N v L) (hs : Save F w w') (hF : Off F v) : OwnN w' B e N v L := by
  obtain ⟨hL, hl, h | ⟨g, cap, cur, hv, hbg, hg, h⟩⟩ := h
  · exact ⟨hL, hl, Or.inl h⟩
  · exact ⟨hL, hl, Or.inr ⟨g, cap, cur, hv, hbg, Blk.save hg hs (hF g (by rw [hv]; rfl)), h⟩⟩
theorem off_next {g : Nat} (hg : g < w.heap.size) (h : ¬ F g) (hn : Next w F F') : ¬ F' g := fun h' => (hn g h').elim h (by omega)
theorem Off.next {v : Value} (h : Off F v) (hlt : ∀ k, v.ownBlock = some k → k < w.heap.size) (hn : Next w F F') : Off F' v := fun k hk => off_next (hlt k hk) (h k hk) hn
theorem Save.weak (h : Save F w w') (hF : ∀ k, F k → F' k) : Save F' w w' := ⟨h.os, h.tape, h.output, h.size, fun k hk hf => h.block k hk fun h' => hf (hF k h')⟩
theorem Save.only {g : Nat} (h : Save F w w') (ho : Only w' w'' g) (hg : F g) : Save F w w'' := ⟨ho.os.trans h.os, ho.tape.trans h.tape, ho.output.trans h.output, Nat.le_trans h.size (Nat.le_of_eq ho.size.symm), fun k hk hf => (ho.block k fun e => hf (by rw [e]; exact hg)).trans (h.block k hk hf)⟩
theorem Off.new {v : Value} (hF : ∀ k, F k → k < w.heap.size) (hv : ∀ k, v.ownBlock = some k → w.heap.size ≤ k) : Off F v := fun k hk hf => by
  have := hF k hf
  have := hv k hk
  omega
/-- A block that is off what may change, and stays so. -/
structure Sure (F : Nat → Prop) (w : World) (g : Nat) (t : TypeId) (cs : Array Value) : Prop where
  blk : Blk w g t cs
  off : ¬ F g
theorem Sure.ext {g : Nat} {t : TypeId} {cs : Array Value} (h : Sure F w g t cs) (hb : Below w.heap.size w w') : Sure F w' g t cs := ⟨h.blk.ext hb, h.off⟩
theorem Sure.next {g : Nat} {t : TypeId} {cs : Array Value} (h : Sure F w g t cs) (hs : Save F w w') (hn : Next w F F') : Sure F' w' g t cs := ⟨h.blk.save hs h.off, off_next h.blk.lt h.off hn⟩
structure SureC (F : Nat → Prop) (w : World) (B : Nat) (e : TypeId) (v : Value) (l : List Value) : Prop where
  own : OwnC w B e v l
  off : Off F v
theorem SureC.ext {e : TypeId} {v : Value} {l : List Value} (h : SureC F w B e v l) (hb : Below w.heap.size w w') : SureC F w' B e v l := ⟨h.own.ext hb, h.off⟩
theorem SureC.next {e : TypeId} {v : Value} {l : List Value} (h : SureC F w B e v l) (hs : Save F w w') (hn : Next w F F') : SureC F' w' B e v l := ⟨h.own.save hs h.off, h.off.next (fun k hk => (h.own.lt k hk).2) hn⟩
theorem SureC.rc {e : TypeId} {A : Option Addr} {n c : Nat} {l : List Value} (h : SureC F w B e (.slice A n c) l) : RC w A l := by
  obtain ⟨A', c', hv, _, _, hr⟩ := h.own.read
  injection hv with h1 _ _
  rw [h1]
  exact hr
structure SureN (F : Nat → Prop) (w : World) (B : Nat) (e : TypeId) (N : Nat) (v : Value) (L : List (List Value)) : Prop where
  own : OwnN w B e N v L
  off : Off F v
theorem SureN.ext {e : TypeId} {N : Nat} {v : Value} {L : List (List Value)} (h : SureN F w B e N v L) (hb : Below w.heap.size w w') : SureN F w' B e N v L := ⟨h.own.ext hb, h.off⟩
theorem SureN.next {e : TypeId} {N : Nat} {v : Value} {L : List (List Value)} (h : SureN F w B e N v L) (hs : Save F w w') (hn : Next w F F') : SureN F' w' B e N v L := ⟨h.own.save hs h.off, h.off.next (fun k hk => (h.own.lt k hk).2) hn⟩
theorem Save.of_grown {v : Value} (h : w.grownBy w' v.ownBlock) : Save (Has v) w w' := ⟨h.os, h.tape, h.output, h.size, fun k hk hf => h.block k hk fun e => hf e.symm⟩
theorem Next.one {v : Value} {g n c : Nat} (h : v.ownBlock = some g ∨ g = w.heap.size) : Next w (Has v) (Has (.slice (some ⟨g, 0, none⟩) n c)) := fun k hk => by
  have e : g = k := by simpa [Has, Value.ownBlock] using hk
  subst e
  exact h.imp id fun h => Nat.le_of_eq h.symm
end

section
variable {P : Program} {ops : Array Oper} {rest : List Oper} {o : Oper} {a : Act} {w : World} {Q : Exit → Act → World → Prop}
/-- append of one value, boxed just ahead. -/
theorem wpList_append_oneS (hgd : Region.wanted o (yielded ops a.tmps) = true) (s x : Operand) (t e : TypeId) (ho : o.op = .call { callee := .builtin .append, args := #[s, x], argTypes := #[t, t] })
    (ht : P.underlying t = some (.slice e)) (z : Value) (by_ : Nat) (hi : (P.info? e).map (fun i => (i.zero, i.size, i.bytes)) = some (some z, 1, by_)) (hz : z.cells.size = 1)
    (B : Nat) (v : Value) (l : List Value) (hs : a.eval s = v) (hown : OwnC w B e v l) (X : Value) (hX : X.oneCell' = true) (hx : a.eval x = .slice (some ⟨w.heap.size, 0, none⟩) 1 1)
    (hB : B ≤ w.heap.size) (hlen : l.length + 1 ≤ maxLen) (hby : (l.length + 1) * by_ ≤ 140737488355328)
    (h : Stop (∀ v' w', Hid (OwnC w' B e v' (l ++ [X])) → Hid (Save (Has v) w w') → Hid (Next w (Has v) (Has v')) → wpList P ops Q rest (a.put o.dst v') w')) : wpList P ops Q (o :: rest) a (w.alloc (.cells #[X] e)) := by
  refine wpList_wanted hgd fun K hK => ?_
  obtain ⟨v', w', hr, h1, h2, h3⟩ := run_append_one P (w.alloc (.cells #[X] e)) t o.type e ht z by_ hi hz B v l (World.ownsRow.alloc hown _) X hX ⟨w.heap.size, 0, none⟩ 1 (by have h := cell_one_new w X e 0 X rfl; rwa [addr_add0] at h) (by simp; omega) hlen hby
  unfold Oper.wp execOp
  simp only [ho, resolve, invoke, builtin, Sem.run_bind, Sem.run_pure, Result.andThen_ok, List.map_toArray, List.map_cons, List.map_nil, hs, hx, hr]
  have hal : Below w.heap.size w (w.alloc (.cells #[X] e)) := (Below.refl _ _).alloc (Nat.le_refl _) _
  refine hK _ _ (h v' w' h1 ?_ fun k hk => ?_)
  · exact (Save.of_below hal).trans (Next.refl _ _) (Save.of_grown h2)
  · unfold Has at hk ⊢
    rcases h3 with h3 | h3
    · exact Or.inl (by rw [← h3]; exact hk)
    · rw [h3] at hk
      injection hk with hk
      right
      simp at hk
      omega
/-- append of one row. -/
theorem wpList_append_rowS (hgd : Region.wanted o (yielded ops a.tmps) = true) (s x : Operand) (t e : TypeId) (ho : o.op = .call { callee := .builtin .append, args := #[s, x], argTypes := #[t, t] })
    (ht : P.underlying t = some (.slice e)) (N by_ : Nat) (z : Value) (hi : (P.info? e).map (fun i => (i.zero, i.size, i.bytes)) = some (some z, N, by_)) (hz : z.cells.size = N) (h0 : 0 < N)
    (B : Nat) (v : Value) (L : List (List Value)) (hs : a.eval s = v) (hown : OwnN w B e N v L) (g0 : Nat) (cs : Array Value) (hx : a.eval x = .slice (some ⟨g0, 0, none⟩) 1 1) (hg : Blk w g0 e cs) (hcs : cs.size = N) (h1 : cs.all (·.oneCell') = true) (hB : B ≤ w.heap.size) (hlen : L.length + 1 ≤ 140737488355328) (hby : (L.length + 1) * by_ ≤ 140737488355328)
    (h : Stop (∀ gn cap w', Hid (OwnN w' B e N (.slice (some ⟨gn, 0, none⟩) (L.length + 1) cap) (L ++ [cs.toList])) → Hid (Save (Has v) w w') → Hid (Next w (Has v) (Has (.slice (some ⟨gn, 0, none⟩) (L.length + 1) cap))) → wpList P ops Q rest (a.put o.dst (.slice (some ⟨gn, 0, none⟩) (L.length + 1) cap)) w')) : wpList P ops Q (o :: rest) a w :=
  wpList_append_row1 hgd s x t e ho ht N by_ z hi hz h0 B v L hs hown g0 cs hx hg hcs h1 hB hlen hby fun gn cap w' q1 _ q3 q4 => h gn cap w' q1 (Save.of_grown q3) (Next.one q4.1)
end

end Go.Proofs.YtkakihbfhmiabaaGreat

/-
  Rows of the call's own, and the library's words for a row that is sorted (elements of k cells). Plain; no program is named here.
-/
namespace Go.Proofs.YtkakihbfhmiabaaGreat
open Go.RowKit Go.Sort

section
variable {α : Type} [Inhabited α]
theorem flatK_flat {enc : α → List Value} {k : Nat} (hk : ∀ x, (enc x).length = k) (h0 : 0 < k) (M : List α) : (flatK enc k M.toArray).toList = (M.map enc).flatten := by
  have hM : ∀ r ∈ M.map enc, r.length = k := fun r hr => by
    obtain ⟨x, _, rfl⟩ := List.mem_map.1 hr
    exact hk x
  have hl : (M.map enc).flatten.length = M.length * k := by rw [flatN_len hM, List.length_map]
  apply List.ext_getElem?
  intro t
  by_cases ht : t < M.length * k
  · have hj : t / k < M.length := (Nat.div_lt_iff_lt_mul h0).2 ht
    have hr := Nat.mod_lt t h0
    have e : t / k * k + t % k = t := by rw [Nat.mul_comm]; exact Nat.div_add_mod t k
    have h1 := flatN_get hM (k := t / k) (i := t % k) (by rw [List.length_map]; exact hj) hr
    rw [e] at h1
    rw [h1, Array.getElem?_toList]
    have hs : t < (flatK enc k M.toArray).size := by rw [size_flatK]; simpa using ht
    rw [Array.getElem?_eq_getElem hs]
    have h2 := get_flatK enc k M.toArray t (by simpa using ht)
    rw [getElem!_pos _ t hs] at h2
    rw [h2]
    have h3 : M.toArray[t / k]! = M[t / k] := by simp [hj]
    rw [h3, List.getElem_map]
    rw [List.getElem?_eq_getElem (by rw [hk]; exact hr), getElem!_pos _ _ (by rw [hk]; exact hr)]
  · rw [List.getElem?_eq_none (by simp; omega), List.getElem?_eq_none (by omega)]
/-- DOWN: the row 'Holds' the elements. -/
theorem OwnN.holdsK {enc : α → List Value} {k : Nat} (hk : ∀ x, (enc x).length = k) (h0 : 0 < k) {w : World} {B : Nat} {e : TypeId} {g n c : Nat} {L : List α} (h : OwnN w B e k (.slice (some ⟨g, 0, none⟩) n c) (L.map enc)) : HoldsK enc k w g 0 L.toArray := by
  have hL := h.1
  have hf := flatK_flat hk h0 L
  obtain ⟨hr, h | ⟨g', cap, cur, hv, hb, hg, hn, hc, hs, ht⟩⟩ := h.2
  · cases h.1
  · injection hv with h1 _ _
    injection h1 with h1
    injection h1 with h1 _ _
    subst h1
    intro j hj
    refine ⟨?_, by simp [World.frozen?, hg]⟩
    have hj' : j < L.length * k := by simpa using hj
    have h2 : (cur.toList.take ((L.map enc).length * k))[j]? = (flatK enc k L.toArray).toList[j]? := by rw [ht, hf]
    rw [List.getElem?_take_of_lt (by rw [List.length_map]; exact hj'), Array.getElem?_toList, Array.getElem?_toList, Array.getElem?_eq_getElem hj] at h2
    rw [Nat.zero_add, cell_of_row w g j cur e (0, 0) hg, h2, getElem!_pos _ j hj]
    rfl
/-- UP: behind the sort it is the call's own still. -/
theorem OwnN.sorted {enc : α → List Value} {k : Nat} (hk : ∀ x, (enc x).length = k) (h0 : 0 < k) {w : World} {B : Nat} {e : TypeId} {g n c : Nat} {L M : List α} (h : OwnN w B e k (.slice (some ⟨g, 0, none⟩) n c) (L.map enc)) (hM : M.length = L.length) (q : Nat) (os : Array Obj) :
    OwnN (grow (putRowK enc k (Sort.ahead w q) g 0 M.toArray) os) B e k (.slice (some ⟨g, 0, none⟩) n c) (M.map enc) := by
  have hlt := (h.lt g rfl).2
  have hf := flatK_flat hk h0 M
  obtain ⟨hr, h | ⟨g', cap, cur, hv, hb, hg, hn, hc, hs, ht⟩⟩ := h.2
  · cases h.1
  · injection hv with h1 h2 h3
    injection h1 with h1
    injection h1 with h1 _ _
    subst h1
    subst h3
    have hMr : ∀ r ∈ M.map enc, r.length = k := fun r hr => by
      obtain ⟨x, _, rfl⟩ := List.mem_map.1 hr
      exact hk x
    refine ⟨hMr, by rw [flatN_len hMr], Or.inr ⟨g, c, putCells id 0 (flatK enc k M.toArray) cur, by rw [h2, List.length_map, List.length_map, hM], hb, ?_, by rw [List.length_map] at hn ⊢; omega, hc, by simpa [putCells] using hs, ?_⟩⟩
    · have h4 : (putRowK enc k (Sort.ahead w q) g 0 M.toArray).heap[g]? = some (.cells (putCells id 0 (flatK enc k M.toArray) cur) e (0, 0)) := by simp [putRowK, putRow, mapBlock, Sort.ahead, Array.getElem?_modify, hg, onCells]
      show ((putRowK enc k (Sort.ahead w q) g 0 M.toArray).heap ++ os)[g]? = _
      rw [Array.getElem?_append_left, h4]
      rcases Nat.lt_or_ge g (putRowK enc k (Sort.ahead w q) g 0 M.toArray).heap.size with h5 | h5
      · exact h5
      · rw [Array.getElem?_eq_none h5] at h4
        cases h4
    · rw [← hf]
      apply List.ext_getElem?
      intro j
      rw [List.length_map, List.getElem?_take, Array.getElem?_toList, Array.getElem?_toList]
      by_cases hj : j < M.length * k
      · have hjf : j < (flatK enc k M.toArray).size := by simpa using hj
        have hcs : (L.map enc).length * k ≤ c * k := Nat.mul_le_mul_right k hn
        have hjc : j < cur.size := by rw [List.length_map] at hcs; rw [hs]; rw [hM] at hj; omega
        simp only [if_pos hj, putCells, Array.getElem?_mapIdx, Array.getElem?_eq_getElem hjc, Option.map_some]
        rw [if_pos ⟨Nat.zero_le _, by omega⟩, Array.getElem?_eq_getElem hjf, Nat.sub_zero, getElem!_pos _ j hjf]
        rfl
      · rw [if_neg hj, Array.getElem?_eq_none (by simpa using hj)]
theorem Save.sorted (enc : α → List Value) (k : Nat) (w : World) (g : Nat) (d : Array α) (q : Nat) (os : Array Obj) (F : Nat → Prop) (hF : F g) : Save F w (grow (putRowK enc k (Sort.ahead w q) g 0 d) os) := by
  refine ⟨rfl, rfl, rfl, ?_, fun j hj hf => ?_⟩
  · show w.heap.size ≤ ((putRowK enc k (Sort.ahead w q) g 0 d).heap ++ os).size
    simp [putRowK, putRow, mapBlock, Sort.ahead]
  · have hne : g ≠ j := fun e => hf (by rw [← e]; exact hF)
    show ((putRowK enc k (Sort.ahead w q) g 0 d).heap ++ os)[j]? = _
    rw [Array.getElem?_append_left (by simpa [putRowK, putRow, mapBlock, Sort.ahead] using hj)]
    simp [putRowK, putRow, mapBlock, Sort.ahead, Array.getElem?_modify, hne]
theorem Below.of_grow (w : World) (os : Array Obj) : Below w.heap.size w (grow w os) := ⟨rfl, rfl, rfl, by simp [grow], fun k hk => by
  show (w.heap ++ os)[k]? = _
  rw [Array.getElem?_append_left hk]⟩
/-- What the library says of a row that is sorted, in words on lists. -/
theorem perm_list {L : List α} {d' : Array α} (h : PermIn 0 L.toArray.size L.toArray d') : d'.toList.Perm L := by
  obtain ⟨h1, _, h3⟩ := h
  have e1 : L.toArray.extract 0 L.toArray.size = L.toArray := by simp
  have e2 : d'.extract 0 L.toArray.size = d' := by rw [← h1]; simp
  rw [e1, e2] at h3
  simpa using h3
theorem sorted_list {lt : α → α → Bool} {n : Nat} {d' : Array α} (hn : d'.size = n) (h : SortedIn lt 0 n d') : d'.toList.Pairwise fun a b => lt b a = false := by
  rw [List.pairwise_iff_getElem]
  intro i j hi hj hij
  have hi' : i < d'.size := by simpa using hi
  have hj' : j < d'.size := by simpa using hj
  have := h i j (Nat.zero_le _) hij (by omega)
  rw [getElem!_pos d' i hi', getElem!_pos d' j hj'] at this
  simpa using this
end

end Go.Proofs.YtkakihbfhmiabaaGreat
