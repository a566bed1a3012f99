/-
  Lists of structs of the call's own whose slices lie elsewhere: what each row reads as stays, as the list grows. Plain; no program is named here.
-/
import Derived.Test.YtckkdfpmibipfaaRowsN
namespace Go.Proofs.Ytckkdfpmibipfaa
open Go.RowKit

/-- The blocks to which a row's slices lead (those that are not empty). -/
def leads : Value → Option Nat
  | .slice (some ad) n _ => if n = 0 then none else some ad.block
  | _ => none
def blocksOf (r : List Value) : List Nat := r.filterMap leads
theorem mem_blocksOf {r : List Value} {g : Nat} : g ∈ blocksOf r ↔ ∃ v ∈ r, leads v = some g := by unfold blocksOf; rw [List.mem_filterMap]
/-- How rows read: what they lead to is there, and as long as that stays, it reads so. -/
structure Rds (α : Type) where
  R : World → List Value → α → Prop
  stable : ∀ {w w' : World} {r x}, R w r x → (∀ g ∈ blocksOf r, w'.heap[g]? = w.heap[g]?) → R w' r x
  there : ∀ {w : World} {r x}, R w r x → ∀ g ∈ blocksOf r, g < w.heap.size
theorem Rds.below {α : Type} (D : Rds α) {w w' : World} {r : List Value} {x : α} (h : D.R w r x) (hb : Below w.heap.size w w') : D.R w' r x := D.stable h fun g hg => hb.block g (D.there h g hg)

/-- A list of the call's own that reads as these. -/
def OwnL {α : Type} (D : Rds α) (w : World) (B : Nat) (e : TypeId) (N : Nat) (v : Value) (l : List α) : Prop :=
  ∃ rows, OwnN w B e N v rows ∧ rows.length = l.length ∧ (∀ k (h : k < rows.length) (h' : k < l.length), D.R w rows[k] l[k]) ∧ ∀ r ∈ rows, ∀ g ∈ blocksOf r, v.ownBlock ≠ some g
theorem OwnL.nil_ {α : Type} (D : Rds α) (w : World) (B : Nat) (e : TypeId) (N : Nat) : OwnL D w B e N (.slice none 0 0) [] :=
  ⟨[], OwnN.nil_ w B e N, rfl, fun k h => absurd h (by simp), fun r hr => by simp at hr⟩
theorem OwnL.zero {α : Type} (D : Rds α) (w : World) (B : Nat) (e : TypeId) (N g : Nat) (hB : B ≤ g) (hg : Blk w g e #[]) : OwnL D w B e N (.slice (some ⟨g, 0, none⟩) 0 0) [] :=
  ⟨[], OwnN.zero w B e N g hB hg, rfl, fun k h => absurd h (by simp), fun r hr => by simp at hr⟩
theorem OwnL.ext {α : Type} {D : Rds α} {w w' : World} {B : Nat} {e : TypeId} {N : Nat} {v : Value} {l : List α} (h : OwnL D w B e N v l) (hb : Below w.heap.size w w') : OwnL D w' B e N v l := by
  obtain ⟨rows, h1, h2, h3, h4⟩ := h
  exact ⟨rows, h1.ext hb, h2, fun k hk hk' => D.below (h3 k hk hk') hb, h4⟩
/-- A slice with this address reads as these. -/
def RdL {α : Type} (D : Rds α) (w : World) (A : Option Addr) (N : Nat) (l : List α) : Prop :=
  ∃ rows : List (List Value), (∀ r ∈ rows, r.length = N) ∧ RN w A N rows ∧ rows.length = l.length ∧ ∀ k (h : k < rows.length) (h' : k < l.length), D.R w rows[k] l[k]
theorem RdL.below {α : Type} {D : Rds α} {w w' : World} {A : Option Addr} {N : Nat} {l : List α} (h : RdL D w A N l) (hb : Below w.heap.size w w') : RdL D w' A N l := by
  obtain ⟨rows, h0, h1, h2, h3⟩ := h
  exact ⟨rows, h0, h1.below hb, h2, fun k hk hk' => D.below (h3 k hk hk') hb⟩
theorem OwnL.read {α : Type} {D : Rds α} {w : World} {B : Nat} {e : TypeId} {N : Nat} {v : Value} {l : List α} (h : OwnL D w B e N v l) : ∃ A c, v = .slice A l.length c ∧ l.length ≤ c ∧ c ≤ maxLen ∧ RdL D w A N l := by
  obtain ⟨rows, h1, h2, h3, _⟩ := h
  obtain ⟨A, c, hv, q1, q2, hr⟩ := h1.read
  rw [h2] at hv q1
  exact ⟨A, c, hv, q1, q2, rows, h1.1, hr, h2, h3⟩
/-- The row at a place. -/
theorem RdL.at_ {α : Type} {D : Rds α} {w : World} {A : Option Addr} {N : Nat} {l : List α} (h : RdL D w A N l) {k : Nat} (hk : k < l.length) (h0 : 0 < N) :
    ∃ ad r, A = some ad ∧ r.length = N ∧ D.R w r l[k] ∧ ∀ j v, r[j]? = some v → w.cell? ((ad.add (k * N)).add j) = some v := by
  obtain ⟨rows, h1, h2, h3, h4⟩ := h
  have hk' : k < rows.length := by omega
  obtain ⟨ad, _, e, _, _⟩ := h2 k hk' 0 h0
  refine ⟨ad, rows[k], e, h1 _ (List.getElem_mem hk'), h4 k hk' hk, fun j v hj => ?_⟩
  have hjl : j < N := by
    have := (List.getElem?_eq_some_iff.1 hj).1
    rwa [h1 _ (List.getElem_mem hk')] at this
  obtain ⟨ad', x, e', hx, hc⟩ := h2 k hk' j hjl
  rw [e] at e'
  injection e' with e'
  subst e'
  rw [hj] at hx
  injection hx with hx
  subst hx
  rw [add_of_add]
  exact hc
/-- One more: a row of the call's own behind an append. -/
theorem OwnL.snoc {α : Type} {D : Rds α} {w w' : World} {B : Nat} {e : TypeId} {N : Nat} {v : Value} {l : List α} {r : List Value} {x : α} {rows : List (List Value)} {g cap n : Nat}
    (_h1 : OwnN w B e N v rows) (h2 : rows.length = l.length) (h3 : ∀ k (h : k < rows.length) (h' : k < l.length), D.R w rows[k] l[k]) (h4 : ∀ r ∈ rows, ∀ g ∈ blocksOf r, v.ownBlock ≠ some g)
    (hr : D.R w r x) (hrv : ∀ g ∈ blocksOf r, v.ownBlock ≠ some g) (ho : OwnN w' B e N (.slice (some ⟨g, 0, none⟩) n cap) (rows ++ [r])) (hg : w.grownBy w' v.ownBlock) (hw : v.ownBlock = some g ∨ g = w.heap.size) : OwnL D w' B e N (.slice (some ⟨g, 0, none⟩) n cap) (l ++ [x]) := by
  have key : ∀ r' x', D.R w r' x' → (∀ g ∈ blocksOf r', v.ownBlock ≠ some g) → D.R w' r' x' := fun r' x' hr' ha => D.stable hr' fun q hq => hg.block q (D.there hr' q hq) (fun e => ha q hq e.symm)
  have far : ∀ r' x', D.R w r' x' → (∀ g ∈ blocksOf r', v.ownBlock ≠ some g) → ∀ q ∈ blocksOf r', (Value.slice (some ⟨g, 0, none⟩) n cap).ownBlock ≠ some q := fun r' x' hr' ha q hq e => by
    have e' : g = q := by simpa [Value.ownBlock] using e
    subst e'
    rcases hw with hw | hw
    · exact ha g hq hw
    · have := D.there hr' g hq
      omega
  refine ⟨rows ++ [r], ho, by simp [h2], fun k hk hk' => ?_, fun r' hr' => ?_⟩
  · by_cases hlt : k < rows.length
    · rw [List.getElem_append_left hlt, List.getElem_append_left (by omega)]
      exact key _ _ (h3 k hlt (by omega)) (h4 _ (List.getElem_mem hlt))
    · have hkr : k = rows.length := by simp at hk; omega
      subst hkr
      simp only [List.getElem_append_right (Nat.le_refl _), Nat.sub_self, List.getElem_cons_zero]
      rw [List.getElem_append_right (by omega)]
      simp only [h2, Nat.sub_self, List.getElem_cons_zero]
      exact key _ _ hr hrv
  · rcases List.mem_append.1 hr' with hr' | hr'
    · obtain ⟨k, hk, rfl⟩ := List.getElem_of_mem hr'
      exact far _ _ (h3 k hk (by omega)) (h4 _ (List.getElem_mem hk))
    · rw [List.mem_singleton] at hr'
      subst hr'
      exact far _ _ hr hrv

section
variable {P : Program} {ops : Array Oper} {rest : List Oper} {o : Oper} {a : Act} {w : World} {K : Act → World → Prop} {Q : Exit → Act → World → Prop}
/-- append of one struct, made just ahead as a slice of one. -/
theorem ow_append_L {α : Type} (D : Rds α) (s x : Operand) (t e : TypeId) (ho : o.op = .call { callee := .builtin .append, args := #[s, x], argTypes := #[t, t] })
    (ht : P.underlying t = some (.slice e)) (N by_ : Nat) (z : Value) (hi : (P.info? e).map (fun i => (i.zero, i.size, i.bytes)) = some (some z, N, by_)) (hz : z.cells.size = N) (h0 : 0 < N)
    (B : Nat) (v : Value) (l : List α) (hs : a.eval s = v) (hown : OwnL D w B e N v l) (g0 : Nat) (cs : Array Value) (hx : a.eval x = .slice (some ⟨g0, 0, none⟩) 1 1) (hg : Blk w g0 e cs) (hcs : cs.size = N) (h1 : cs.all (·.oneCell') = true) (y : α) (hy : D.R w cs.toList y) (ha : ∀ g ∈ blocksOf cs.toList, v.ownBlock ≠ some g)
    (hB : B ≤ w.heap.size) (hlen : l.length + 1 ≤ 140737488355328) (hby : (l.length + 1) * by_ ≤ 140737488355328)
    (h : Stop (∀ g cap w', Hid (OwnL D w' B e N (.slice (some ⟨g, 0, none⟩) (l.length + 1) cap) (l ++ [y])) → Hid (Below B w w') → Hid (w.grownBy w' v.ownBlock) → Hid ((v.ownBlock = some g ∨ g = w.heap.size) ∧ g < w'.heap.size) → K (a.put o.dst (.slice (some ⟨g, 0, none⟩) (l.length + 1) cap)) w')) : o.wp P a w K Q := by
  obtain ⟨rows, r1, r2, r3, r4⟩ := hown
  refine ow_append_row1 s x t e ho ht N by_ z hi hz h0 B v rows hs r1 g0 cs hx hg hcs h1 hB (by omega) (by rw [r2]; exact hby) ?_
  intro g cap w' q1 q2 q3 q4
  rw [r2] at q1 ⊢
  exact h g cap w' (Lib.hid (OwnL.snoc r1 r2 r3 r4 hy ha q1.out q3.out q4.out.1)) q2 q3 q4
theorem wpList_append_L {α : Type} (D : Rds α) (hgd : Region.wanted o (yielded ops a.tmps) = true) (s x : Operand) (t e : TypeId) (ho : o.op = .call { callee := .builtin .append, args := #[s, x], argTypes := #[t, t] })
    (ht : P.underlying t = some (.slice e)) (N by_ : Nat) (z : Value) (hi : (P.info? e).map (fun i => (i.zero, i.size, i.bytes)) = some (some z, N, by_)) (hz : z.cells.size = N) (h0 : 0 < N)
    (B : Nat) (v : Value) (l : List α) (hs : a.eval s = v) (hown : OwnL D w B e N v l) (g0 : Nat) (cs : Array Value) (hx : a.eval x = .slice (some ⟨g0, 0, none⟩) 1 1) (hg : Blk w g0 e cs) (hcs : cs.size = N) (h1 : cs.all (·.oneCell') = true) (y : α) (hy : D.R w cs.toList y) (ha : ∀ g ∈ blocksOf cs.toList, v.ownBlock ≠ some g)
    (hB : B ≤ w.heap.size) (hlen : l.length + 1 ≤ 140737488355328) (hby : (l.length + 1) * by_ ≤ 140737488355328)
    (h : Stop (∀ g cap w', Hid (OwnL D w' B e N (.slice (some ⟨g, 0, none⟩) (l.length + 1) cap) (l ++ [y])) → Hid (Below B w w') → Hid (w.grownBy w' v.ownBlock) → Hid ((v.ownBlock = some g ∨ g = w.heap.size) ∧ g < w'.heap.size) → wpList P ops Q rest (a.put o.dst (.slice (some ⟨g, 0, none⟩) (l.length + 1) cap)) w')) : wpList P ops Q (o :: rest) a w :=
  wpList_wanted hgd fun _ hK => ow_append_L D s x t e ho ht N by_ z hi hz h0 B v l hs hown g0 cs hx hg hcs h1 y hy ha hB hlen hby (fun g cap w' q1 q2 q3 q4 => hK _ _ (h g cap w' q1 q2 q3 q4))
end

end Go.Proofs.Ytckkdfpmibipfaa
