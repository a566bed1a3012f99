/-
  Texts of this claim joined: OwnL, NdM.
-/
import Derived.Test.YtkakihbfhmiabaaGreatGrAS
import Derived.Test.YtkakihbfhmiabaaGreatTreB
import Derived.Test.YtkakihbfhmiabaaGreatGrAU
import Derived.Test.YtkakihbfhmiabaaGreatGrAG

/-
  Lists of structs of the call's own whose slices lie elsewhere: what each row reads as stays, as the list grows. Plain; no program is named here.
-/
namespace Go.Proofs.YtkakihbfhmiabaaGreat
open Go.RowKit

/-- The blocks to which a row's slices lead (those that are not empty). -/
def leads : Value → Option Nat
  | .slice (some ad) n _ => if n = 0 then none else some ad.block
  | _ => none
def blocksOf (r : List Value) : List Nat := r.filterMap leads
theorem mem_blocksOf {r : List Value} {g : Nat} : g ∈ blocksOf r ↔ ∃ v ∈ r, leads v = some g := by unfold blocksOf; rw [List.mem_filterMap]
/-- How rows read: what they lead to is there, and as long as that stays, it reads so. -/
structure Rds (α : Type) where
  R : World → List Value → α → Prop
  stable : ∀ {w w' : World} {r x}, R w r x → (∀ g ∈ blocksOf r, w'.heap[g]? = w.heap[g]?) → R w' r x
  there : ∀ {w : World} {r x}, R w r x → ∀ g ∈ blocksOf r, g < w.heap.size
theorem Rds.below {α : Type} (D : Rds α) {w w' : World} {r : List Value} {x : α} (h : D.R w r x) (hb : Below w.heap.size w w') : D.R w' r x := D.stable h fun g hg => hb.block g (D.there h g hg)

/-- A list of the call's own that reads as these. -/
def OwnL {α : Type} (D : Rds α) (w : World) (B : Nat) (e : TypeId) (N : Nat) (v : Value) (l : List α) : Prop :=
  ∃ rows, OwnN w B e N v rows ∧ rows.length = l.length ∧ (∀ k (h : k < rows.length) (h' : k < l.length), D.R w rows[k] l[k]) ∧ ∀ r ∈ rows, ∀ g ∈ blocksOf r, v.ownBlock ≠ some g
theorem OwnL.nil_ {α : Type} (D : Rds α) (w : World) (B : Nat) (e : TypeId) (N : Nat) : OwnL D w B e N (.slice none 0 0) [] :=
  ⟨[], OwnN.nil_ w B e N, rfl, fun k h => absurd h (by simp), fun r hr => by simp at hr⟩
theorem OwnL.zero {α : Type} (D : Rds α) (w : World) (B : Nat) (e : TypeId) (N g : Nat) (hB : B ≤ g) (hg : Blk w g e #[]) : OwnL D w B e N (.slice (some ⟨g, 0, none⟩) 0 0) [] :=
  ⟨[], OwnN.zero w B e N g hB hg, rfl, fun k h => absurd h (by simp), fun r hr => by simp at hr⟩
theorem OwnL.ext {α : Type} {D : Rds α} {w w' : World} {B : Nat} {e : TypeId} {N : Nat} {v : Value} {l : List α} (h : OwnL D w B e N v l) (hb : Below w.heap.size w w') : OwnL D w' B e N v l := by
  obtain ⟨rows, h1, h2, h3, h4⟩ := h
  exact ⟨rows, h1.ext hb, h2, fun k hk hk' => D.below (h3 k hk hk') hb, h4⟩
/-- A slice with this address reads as these. -/
def RdL {α : Type} (D : Rds α) (w : World) (A : Option Addr) (N : Nat) (l : List α) : Prop :=
  ∃ rows : List (List Value), (∀ r ∈ rows, r.length = N) ∧ RN w A N rows ∧ rows.length = l.length ∧ ∀ k (h : k < rows.length) (h' : k < l.length), D.R w rows[k] l[k]
theorem RdL.below {α : Type} {D : Rds α} {w w' : World} {A : Option Addr} {N : Nat} {l : List α} (h : RdL D w A N l) (hb : Below w.heap.size w w') : RdL D w' A N l := by
  obtain ⟨rows, h0, h1, h2, h3⟩ := h
  exact ⟨rows, h0, h1.below hb, h2, fun k hk hk' => D.below (h3 k hk hk') hb⟩
theorem OwnL.read {α : Type} {D : Rds α} {w : World} {B : Nat} {e : TypeId} {N : Nat} {v : Value} {l : List α} (h : OwnL D w B e N v l) : ∃ A c, v = .slice A l.length c ∧ l.length ≤ c ∧ c ≤ maxLen ∧ RdL D w A N l := by
  obtain ⟨rows, h1, h2, h3, _⟩ := h
  obtain ⟨A, c, hv, q1, q2, hr⟩ := h1.read
  rw [h2] at hv q1
  exact ⟨A, c, hv, q1, q2, rows, h1.1, hr, h2, h3⟩
/-- The row at a place. -/
theorem RdL.at_ {α : Type} {D : Rds α} {w : World} {A : Option Addr} {N : Nat} {l : List α} (h : RdL D w A N l) {k : Nat} (hk : k < l.length) (h0 : 0 < N) :
    ∃ ad r, A = some ad ∧ r.length = N ∧ D.R w r l[k] ∧ ∀ j v, r[j]? = some v → w.cell? ((ad.add (k * N)).add j) = some v := by
  obtain ⟨rows, h1, h2, h3, h4⟩ := h
  have hk' : k < rows.length := by omega
  obtain ⟨ad, _, e, _, _⟩ := h2 k hk' 0 h0
  refine ⟨ad, rows[k], e, h1 _ (List.getElem_mem hk'), h4 k hk' hk, fun j v hj => ?_⟩
  have hjl : j < N := by
    have := (List.getElem?_eq_some_iff.1 hj).1
    rwa [h1 _ (List.getElem_mem hk')] at this
  obtain ⟨ad', x, e', hx, hc⟩ := h2 k hk' j hjl
  rw [e] at e'
  injection e' with e'
  subst e'
  rw [hj] at hx
  injection hx with hx
  subst hx
  rw [add_of_add]
  exact hc
/-- One more: a row of the call's own behind an append. -/
theorem OwnL.snoc {α : Type} {D : Rds α} {w w' : World} {B : Nat} {e : TypeId} {N : Nat} {v : Value} {l : List α} {r : List Value} {x : α} {rows : List (List Value)} {g cap n : Nat}
    (_h1 : OwnN w B e N v rows) (h2 : rows.length = l.length) (h3 : ∀ k (h : k < rows.length) (h' : k < l.length), D.R w rows[k] l[k]) (h4 : ∀ r ∈ rows, ∀ g ∈ blocksOf r, v.ownBlock ≠ some g)
    (hr : D.R w r x) (hrv : ∀ g ∈ blocksOf r, v.ownBlock ≠ some g) (ho : OwnN w' B e N (.slice (some ⟨g, 0, none⟩) n cap) (rows ++ [r])) (hg : w.grownBy w' v.ownBlock) (hw : v.ownBlock = some g ∨ g = w.heap.size) : OwnL D w' B e N (.slice (some ⟨g, 0, none⟩) n cap) (l ++ [x]) := by
  have key : ∀ r' x', D.R w r' x' → (∀ g ∈ blocksOf r', v.ownBlock ≠ some g) → D.R w' r' x' := fun r' x' hr' ha => D.stable hr' fun q hq => hg.block q (D.there hr' q hq) (fun e => ha q hq e.symm)
  have far : ∀ r' x', D.R w r' x' → (∀ g ∈ blocksOf r', v.ownBlock ≠ some g) → ∀ q ∈ blocksOf r', (Value.slice (some ⟨g, 0, none⟩) n cap).ownBlock ≠ some q := fun r' x' hr' ha q hq e => by
    have e' : g = q := by simpa [Value.ownBlock] using e
    subst e'
    rcases hw with hw | hw
    · exact ha g hq hw
    · have := D.there hr' g hq
      omega
  refine ⟨rows ++ [r], ho, by simp [h2], fun k hk hk' => ?_, fun r' hr' => ?_⟩
  · by_cases hlt : k < rows.length
    · rw [List.getElem_append_left hlt, List.getElem_append_left (by omega)]
      exact key _ _ (h3 k hlt (by omega)) (h4 _ (List.getElem_mem hlt))
    · have hkr : k = rows.length := by simp at hk; omega
      subst hkr
      simp only [List.getElem_append_right (Nat.le_refl _), Nat.sub_self, List.getElem_cons_zero]
      rw [List.getElem_append_right (by omega)]
      simp only [h2, Nat.sub_self, List.getElem_cons_zero]
      exact key _ _ hr hrv
  · rcases List.mem_append.1 hr' with hr' | hr'
    · obtain ⟨k, hk, rfl⟩ := List.getElem_of_mem hr'
      exact far _ _ (h3 k hk (by omega)) (h4 _ (List.getElem_mem hk))
    · rw [List.mem_singleton] at hr'
      subst hr'
      exact far _ _ hr hrv

section
variable {P : Program} {ops : Array Oper} {rest : List Oper} {o : Oper} {a : Act} {w : World} {K : Act → World → Prop} {Q : Exit → Act → World → Prop}
/-- append of one struct, made just ahead as a slice of one. -/
theorem ow_append_L {α : Type} (D : Rds α) (s x : Operand) (t e : TypeId) (ho : o.op = .call { callee := .builtin .append, args := #[s, x], argTypes := #[t, t] })
    (ht : P.underlying t = some (.slice e)) (N by_ : Nat) (z : Value) (hi : (P.info? e).map (fun i => (i.zero, i.size, i.bytes)) = some (some z, N, by_)) (hz : z.cells.size = N) (h0 : 0 < N)
    (B : Nat) (v : Value) (l : List α) (hs : a.eval s = v) (hown : OwnL D w B e N v l) (g0 : Nat) (cs : Array Value) (hx : a.eval x = .slice (some ⟨g0, 0, none⟩) 1 1) (hg : Blk w g0 e cs) (hcs : cs.size = N) (h1 : cs.all (·.oneCell') = true) (y : α) (hy : D.R w cs.toList y) (ha : ∀ g ∈ blocksOf cs.toList, v.ownBlock ≠ some g)
    (hB : B ≤ w.heap.size) (hlen : l.length + 1 ≤ 140737488355328) (hby : (l.length + 1) * by_ ≤ 140737488355328)
    (h : Stop (∀ g cap w', Hid (OwnL D w' B e N (.slice (some ⟨g, 0, none⟩) (l.length + 1) cap) (l ++ [y])) → Hid (Below B w w') → Hid (w.grownBy w' v.ownBlock) → Hid ((v.ownBlock = some g ∨ g = w.heap.size) ∧ g < w'.heap.size) → K (a.put o.dst (.slice (some ⟨g, 0, none⟩) (l.length + 1) cap)) w')) : o.wp P a w K Q := by
  obtain ⟨rows, r1, r2, r3, r4⟩ := hown
  refine ow_append_row1 s x t e ho ht N by_ z hi hz h0 B v rows hs r1 g0 cs hx hg hcs h1 hB (by omega) (by rw [r2]; exact hby) ?_
  intro g cap w' q1 q2 q3 q4
  rw [r2] at q1 ⊢
  exact h g cap w' (Lib.hid (OwnL.snoc r1 r2 r3 r4 hy ha q1.out q3.out q4.out.1)) q2 q3 q4
theorem wpList_append_L {α : Type} (D : Rds α) (hgd : Region.wanted o (yielded ops a.tmps) = true) (s x : Operand) (t e : TypeId) (ho : o.op = .call { callee := .builtin .append, args := #[s, x], argTypes := #[t, t] })
    (ht : P.underlying t = some (.slice e)) (N by_ : Nat) (z : Value) (hi : (P.info? e).map (fun i => (i.zero, i.size, i.bytes)) = some (some z, N, by_)) (hz : z.cells.size = N) (h0 : 0 < N)
    (B : Nat) (v : Value) (l : List α) (hs : a.eval s = v) (hown : OwnL D w B e N v l) (g0 : Nat) (cs : Array Value) (hx : a.eval x = .slice (some ⟨g0, 0, none⟩) 1 1) (hg : Blk w g0 e cs) (hcs : cs.size = N) (h1 : cs.all (·.oneCell') = true) (y : α) (hy : D.R w cs.toList y) (ha : ∀ g ∈ blocksOf cs.toList, v.ownBlock ≠ some g)
    (hB : B ≤ w.heap.size) (hlen : l.length + 1 ≤ 140737488355328) (hby : (l.length + 1) * by_ ≤ 140737488355328)
    (h : Stop (∀ g cap w', Hid (OwnL D w' B e N (.slice (some ⟨g, 0, none⟩) (l.length + 1) cap) (l ++ [y])) → Hid (Below B w w') → Hid (w.grownBy w' v.ownBlock) → Hid ((v.ownBlock = some g ∨ g = w.heap.size) ∧ g < w'.heap.size) → wpList P ops Q rest (a.put o.dst (.slice (some ⟨g, 0, none⟩) (l.length + 1) cap)) w')) : wpList P ops Q (o :: rest) a w :=
  wpList_wanted hgd fun _ hK => ow_append_L D s x t e ho ht N by_ z hi hz h0 B v l hs hown g0 cs hx hg hcs h1 y hy ha hB hlen hby (fun g cap w' q1 q2 q3 q4 => hK _ _ (h g cap w' q1 q2 q3 q4))
end

end Go.Proofs.YtkakihbfhmiabaaGreat

/-
  Layer 25: nodes in memory: seven cells each, the last two lead elsewhere. Plain; no program is named here.
-/
namespace Go.Proofs.YtkakihbfhmiabaaGreat
open Go.RowKit

/-- A node's cells, its two slices told by where they lie. -/
structure Nc where
  ino : Int
  kind : Int
  links : Int
  parent : Int
  size : Int
  A : Option Addr
  n : Nat
  c : Nat
  S : Option Addr
  m : Nat
  d : Nat
instance : Inhabited Nc := ⟨⟨0, 0, 0, 0, 0, none, 0, 0, none, 0, 0⟩⟩
def nrow (x : Nc) : List Value := [.int .i64 x.ino, .int .i64 x.kind, .int .i64 x.links, .int .i64 x.parent, .int .i64 x.size, .slice x.A x.n x.c, .slice x.S x.m x.d]
theorem nrow_len (x : Nc) : (nrow x).length = 7 := rfl
theorem nrow_one (x : Nc) : ∀ v ∈ nrow x, v.oneCell' = true := fun v hv => by
  simp only [nrow, List.mem_cons, List.mem_nil_iff, or_false] at hv
  rcases hv with rfl | rfl | rfl | rfl | rfl | rfl | rfl <;> rfl
def ncells (x : Nc) : Array Value := #[.int .i64 x.ino, .int .i64 x.kind, .int .i64 x.links, .int .i64 x.parent, .int .i64 x.size, .slice x.A x.n x.c, .slice x.S x.m x.d]
theorem ncells_one (x : Nc) : (ncells x).all (·.oneCell') = true := by simp [ncells, Value.oneCell']
/-- It reads as this node. -/
structure RNc (w : World) (x : Nc) (n : Nd) : Prop where
  ino : x.ino = n.ino
  kind : x.kind = n.kind
  links : x.links = n.links
  parent : x.parent = n.parent
  size : x.size = n.size
  dn : x.n = n.data.length
  dc : x.n ≤ x.c
  dm : x.c ≤ maxLen
  data : RB w x.A n.data
  sn : x.m = n.names.length
  sc : x.m ≤ x.d
  sm : x.d ≤ maxLen
  names : RN w x.S 2 (erows n.names)
theorem RB.stay {w w' : World} {A : Option Addr} {l : List UInt8} (h : RB w A l) (hs : 0 < l.length → ∀ ad, A = some ad → w'.heap[ad.block]? = w.heap[ad.block]?) : RB w' A l := fun k hk => by
  obtain ⟨ad, e, hc⟩ := h k hk
  refine ⟨ad, e, ?_⟩
  rw [World.cell?_of_block (w := w) (w' := w') (a := ad.add k) (by rw [block_of_add]; exact hs (by omega) ad e)]
  exact hc
theorem RN.stay {w w' : World} {A : Option Addr} {N : Nat} {L : List (List Value)} (h : RN w A N L) (hs : 0 < L.length → ∀ ad, A = some ad → w'.heap[ad.block]? = w.heap[ad.block]?) : RN w' A N L := fun k hk i hi => by
  obtain ⟨ad, x, e, hx, hc⟩ := h k hk i hi
  refine ⟨ad, x, e, hx, ?_⟩
  rw [World.cell?_of_block (w := w) (w' := w') (a := ad.add (k * N + i)) (by rw [block_of_add]; exact hs (by omega) ad e)]
  exact hc
theorem leads_some (ad : Addr) (n c : Nat) : leads (.slice (some ad) n c) = if n = 0 then none else some ad.block := rfl
theorem RNc.stay {w w' : World} {x : Nc} {n : Nd} (h : RNc w x n) (hs : ∀ g ∈ blocksOf (nrow x), w'.heap[g]? = w.heap[g]?) : RNc w' x n := by
  refine ⟨h.ino, h.kind, h.links, h.parent, h.size, h.dn, h.dc, h.dm, RB.stay h.data fun hl ad ha => ?_, h.sn, h.sc, h.sm, RN.stay h.names fun hl ad ha => ?_⟩
  · exact hs ad.block (mem_blocksOf.2 ⟨.slice x.A x.n x.c, by simp [nrow], by rw [ha, leads_some, if_neg (by rw [h.dn]; omega)]⟩)
  · rw [erows_len] at hl
    exact hs ad.block (mem_blocksOf.2 ⟨.slice x.S x.m x.d, by simp [nrow], by rw [ha, leads_some, if_neg (by rw [h.sn]; omega)]⟩)
theorem RNc.below {w w' : World} {x : Nc} {n : Nd} (h : RNc w x n) (hb : Below w.heap.size w w') : RNc w' x n := ⟨h.ino, h.kind, h.links, h.parent, h.size, h.dn, h.dc, h.dm, h.data.below hb, h.sn, h.sc, h.sm, h.names.below hb⟩
theorem RNc.there {w : World} {x : Nc} {n : Nd} (h : RNc w x n) : ∀ g ∈ blocksOf (nrow x), g < w.heap.size := by
  intro g hg
  obtain ⟨v, hv, hl⟩ := mem_blocksOf.1 hg
  simp only [nrow, List.mem_cons, List.mem_nil_iff, or_false] at hv
  rcases hv with rfl | rfl | rfl | rfl | rfl | rfl | rfl
  · cases hl
  · cases hl
  · cases hl
  · cases hl
  · cases hl
  · cases hA : x.A with
    | none => rw [hA] at hl; cases hl
    | some ad =>
      rw [hA, leads_some] at hl
      by_cases hz : x.n = 0
      · rw [if_pos hz] at hl; cases hl
      · rw [if_neg hz] at hl
        injection hl with hl
        subst hl
        obtain ⟨ad', e', hc⟩ := h.data 0 (by have := h.dn; omega)
        rw [hA] at e'
        injection e' with e'
        subst e'
        have := block_lt_of_cell hc
        rwa [block_of_add] at this
  · cases hA : x.S with
    | none => rw [hA] at hl; cases hl
    | some ad =>
      rw [hA, leads_some] at hl
      by_cases hz : x.m = 0
      · rw [if_pos hz] at hl; cases hl
      · rw [if_neg hz] at hl
        injection hl with hl
        subst hl
        obtain ⟨ad', _, e', _, hc⟩ := h.names 0 (by rw [erows_len]; have := h.sn; omega) 0 (by omega)
        rw [hA] at e'
        injection e' with e'
        subst e'
        have := block_lt_of_cell hc
        rwa [block_of_add] at this
def RdN : Rds Nd where
  R := fun w r n => ∃ x, r = nrow x ∧ RNc w x n
  stable := by
    rintro w w' r n ⟨x, rfl, h⟩ hs
    exact ⟨x, rfl, h.stay hs⟩
  there := by
    rintro w r n ⟨x, rfl, h⟩
    exact h.there
/-- The node at a place. -/
theorem RdL.node {w : World} {A : Option Addr} {t : List Nd} (h : RdL RdN w A 7 t) {k : Nat} {n : Nd} (hk : t[k]? = some n) :
    ∃ ad x, A = some ad ∧ RNc w x n ∧ ∀ j v, (nrow x)[j]? = some v → w.cell? ((ad.add (k * 7)).add j) = some v := by
  obtain ⟨hkl, rfl⟩ := List.getElem?_eq_some_iff.1 hk
  obtain ⟨ad, r, e, _, ⟨x, rfl, hr⟩, hc⟩ := h.at_ hkl (by decide)
  exact ⟨ad, x, e, hr, hc⟩
/-- A field's cell by the walk's address. -/
theorem cell_add {w : World} {p : Addr} {u v : Value} {j : Nat} (h0 : w.cell? p = some u) (h : w.cell? (p.add j) = some v) : w.cell? ⟨p.block, p.off + j, none⟩ = some v := by
  have hs : p.spot = none := World.cell?_spot h0
  rw [← h]
  congr 1
  unfold Addr.add
  split
  · next e => rw [e, Nat.add_zero, ← hs]
  · rfl
theorem add_zero_addr (ad : Addr) : ad.add 0 = ad := by unfold Addr.add; rw [if_pos rfl]
theorem node_at {w : World} {ad : Addr} {x : Nc} {k : Nat} (h : ∀ j v, (nrow x)[j]? = some v → w.cell? ((ad.add (k * 7)).add j) = some v) (j : Nat) (v : Value) (hj : (nrow x)[j]? = some v) : w.cell? ⟨(ad.add (k * 7)).block, (ad.add (k * 7)).off + j, none⟩ = some v := by
  have h0 := h 0 _ rfl
  rw [add_zero_addr] at h0
  exact cell_add h0 (h j v hj)
/-- A slice of one row, just made. -/
theorem OwnN.lit1 {w : World} {B g N : Nat} {e : TypeId} {cs : Array Value} {r : List Value} (hB : B ≤ g) (hg : Blk w g e cs) (hc : cs.toList = r) (hN : r.length = N) : OwnN w B e N (.slice (some ⟨g, 0, none⟩) 1 1) [r] := by
  have hsz : cs.size = N := by rw [← hN, ← hc, Array.length_toList]
  refine ⟨fun x hx => by rw [List.mem_singleton] at hx; rw [hx]; exact hN, by simp [hN], Or.inr ⟨g, 1, cs, rfl, hB, hg, Nat.le_refl _, by unfold maxLen; omega, by rw [hsz, Nat.one_mul], ?_⟩⟩
  rw [hc, List.take_of_length_le (by simp [hN])]
  simp
/-- The node at a place of a list of the call's own: what it leads to lies elsewhere. -/
theorem OwnL.node {w : World} {B : Nat} {e : TypeId} {v : Value} {t : List Nd} (h : OwnL RdN w B e 7 v t) {k : Nat} {n : Nd} (hk : t[k]? = some n) :
    ∃ ad c x, v = .slice (some ad) t.length c ∧ RNc w x n ∧ (∀ j u, (nrow x)[j]? = some u → w.cell? ((ad.add (k * 7)).add j) = some u) ∧ ∀ g ∈ blocksOf (nrow x), v.ownBlock ≠ some g := by
  obtain ⟨hkl, rfl⟩ := List.getElem?_eq_some_iff.1 hk
  obtain ⟨rows, h1, h2, h3, h4⟩ := h
  have hkr : k < rows.length := by omega
  obtain ⟨A, c, hv, _, _, hr⟩ := h1.read
  obtain ⟨ad, rfl⟩ := hr.adr hkr (by decide)
  obtain ⟨x, hx, hxn⟩ := h3 k hkr hkl
  have hrow := hr.row (List.getElem?_eq_getElem hkr) (h1.1 _ (List.getElem_mem hkr))
  have hoff := h4 _ (List.getElem_mem hkr)
  rw [hx] at hrow hoff
  exact ⟨ad, c, x, by rw [hv, h2], hxn, hrow, hoff⟩
/-- A list of nodes is what the call hands back, its own. -/
def RetT (w : World) (e : TypeId) (t : List Nd) (x : Ending) (w' : World) : Prop := ∃ v, x = .returned v ∧ OwnL RdN w' w.heap.size e 7 v t ∧ Below w.heap.size w w'

end Go.Proofs.YtkakihbfhmiabaaGreat
