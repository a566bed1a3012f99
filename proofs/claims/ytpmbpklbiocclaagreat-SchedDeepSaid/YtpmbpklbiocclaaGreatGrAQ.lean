/-
  Texts of this claim joined: Dup, Ref12a.
-/
import Derived.Test.YtpmbpklbiocclaaGreatGrAF
import Derived.Test.YtpmbpklbiocclaaGreatGrAA
import Derived.Test.YtpmbpklbiocclaaGreatGrAO

/-
  A whole slice appended to an empty one: append(T{}, l...); an element of a list of the call's own that is stored anew; slices of bytes, and bools, as rows of one cell. Plain; no program is named here.
-/
namespace Go.Proofs.YtpmbpklbiocclaaGreat
open Go.RowKit

section
variable {P : Program} {ops : Array Oper} {rest : List Oper} {o : Oper} {a : Act} {w : World} {K : Act → World → Prop} {Q : Exit → Act → World → Prop}
theorem run_build0N (P : Program) (w : World) (t e : TypeId) (ht : P.underlying t = some (.slice e)) (N : Nat) (hs : (P.info? e).map (·.size) = some N) : (Instr.buildSlice t 0 #[]).run P w = .ok (.slice (some ⟨w.heap.size, 0, none⟩) 0 0) (w.alloc (.cells #[] e)) := by
  obtain ⟨i, hq, hsz⟩ := Option.map_eq_some_iff.1 hs
  have e0 : ∀ f : Nat → Value, Array.map f (Array.range 0) = #[] := fun f => Array.eq_empty_of_size_eq_zero (by simp)
  simp [Instr.buildSlice, run_underlying ht, sizeOf, typeInfo, hq, Instr.fill]
  rw [e0]
  rfl
theorem wpList_build0N (hgd : Region.wanted o (yielded ops a.tmps) = true) (t e : TypeId) (ho : o.op = .buildSlice t 0 #[]) (ht : P.underlying t = some (.slice e)) (N : Nat) (hs : (P.info? e).map (·.size) = some N)
    (h : Stop (∀ w', Hid (Grew w w') → Hid (Blk w' w.heap.size e #[]) → wpList P ops Q rest (a.put o.dst (.slice (some ⟨w.heap.size, 0, none⟩) 0 0)) w')) : wpList P ops Q (o :: rest) a w := by
  refine wpList_wanted hgd fun K hK => ?_
  unfold Oper.wp execOp
  simp only [ho, Sem.run_bind, List.map_toArray, List.map_nil, run_build0N P w t e ht N hs, Result.andThen_ok]
  exact hK _ _ (h _ (Grew.alloc w _) (Blk.new w e _))
theorem ow_build0N (t e : TypeId) (ho : o.op = .buildSlice t 0 #[]) (ht : P.underlying t = some (.slice e)) (N : Nat) (hs : (P.info? e).map (·.size) = some N)
    (h : Stop (∀ w', Hid (Grew w w') → Hid (Blk w' w.heap.size e #[]) → K (a.put o.dst (.slice (some ⟨w.heap.size, 0, none⟩) 0 0)) w')) : o.wp P a w K Q := by
  unfold Oper.wp execOp
  simp only [ho, Sem.run_bind, List.map_toArray, List.map_nil, run_build0N P w t e ht N hs, Result.andThen_ok]
  exact h _ (Grew.alloc w _) (Blk.new w e _)
theorem run_append_copyN (P : Program) (w : World) (t ty e : TypeId) (ht : P.underlying t = some (.slice e)) (N by_ : Nat) (z : Value) (hi : (P.info? e).map (fun i => (i.zero, i.size, i.bytes)) = some (some z, N, by_)) (hz : z.cells.size = N) (h0 : 0 < N)
    (g0 : Nat) (hg0 : Blk w g0 e #[]) (A : Option Addr) (n c : Nat) (M : List (List Value)) (hM : ∀ r ∈ M, r.length = N ∧ ∀ u ∈ r, u.oneCell' = true) (hn : M.length = n) (hr : RN w A N M) (hlen : n ≤ 140737488355328) (hby : n * by_ ≤ 140737488355328) :
    ∃ v' w', (Builtin.append_ #[t, t] ty #[.slice (some ⟨g0, 0, none⟩) 0 0, .slice A n c]).run P w = .ok v' w' ∧ OwnN w' g0 e N v' M ∧ Below g0 w w' ∧ w.grownBy w' (some g0) := by
  obtain ⟨i, h1, h2, h3, h4⟩ := info_parts hi
  by_cases hn0 : n = 0
  · subst hn0
    have hl : M = [] := List.eq_nil_of_length_eq_zero hn
    subst hl
    have hrun : (Builtin.append_ #[t, t] ty #[.slice (some ⟨g0, 0, none⟩) 0 0, .slice A 0 c]).run P w = .ok (.slice (some ⟨g0, 0, none⟩) 0 0) w := by
      cases A with
      | none => simp [Builtin.append_, run_underlying ht, sizeOf, typeInfo, h1, Builtin.lenOf, Builtin.firstCells, storeCells]
      | some ad => simp [Builtin.append_, run_underlying ht, sizeOf, typeInfo, h1, Builtin.lenOf, Builtin.firstCells, storeCells, loadCells, loadCellsFrom]
    exact ⟨_, _, hrun, OwnN.zero w g0 e N g0 (Nat.le_refl _) hg0, Below.refl _ _, ⟨rfl, rfl, rfl, Nat.le_refl _, fun _ _ _ => rfl⟩⟩
  · obtain ⟨ad, _, rfl, _, _⟩ := hr 0 (by omega) 0 h0
    obtain ⟨g, cap, w', hrun, q1, q2, q3, _, _⟩ := run_append_row P w t ty e ht N by_ z hi hz h0 g0 (.slice (some ⟨g0, 0, none⟩) 0 0) [] (OwnN.zero w g0 e N g0 (Nat.le_refl _) hg0) ad n c M hM hn (by omega) hr (Nat.le_of_lt hg0.lt) (by simpa using hlen) (by simpa using hby)
    exact ⟨_, w', hrun, q1, q2, q3⟩
theorem run_append_copy {α : Type} (D : Rds α) (h1 : ∀ w r y, D.R w r y → ∀ u ∈ r, u.oneCell' = true) (P : Program) (w0 w : World) (t ty e : TypeId) (ht : P.underlying t = some (.slice e)) (N by_ : Nat) (z : Value) (hi : (P.info? e).map (fun i => (i.zero, i.size, i.bytes)) = some (some z, N, by_)) (hz : z.cells.size = N) (h0 : 0 < N)
    (g0 : Nat) (hg0 : Blk w g0 e #[]) (A : Option Addr) (n c : Nat) (l : List α) (hn : l.length = n) (hr : RdL D w0 A N l) (hb : Below w0.heap.size w0 w) (hw0 : w0.heap.size ≤ g0) (hlen : n ≤ 140737488355328) (hby : n * by_ ≤ 140737488355328) :
    ∃ v' w', (Builtin.append_ #[t, t] ty #[.slice (some ⟨g0, 0, none⟩) 0 0, .slice A n c]).run P w = .ok v' w' ∧ OwnL D w' g0 e N v' l ∧ Below g0 w w' := by
  obtain ⟨rows, r1, r2, r3, r4⟩ := hr
  obtain ⟨v', w', hrun, q1, q2, _⟩ := run_append_copyN P w t ty e ht N by_ z hi hz h0 g0 hg0 A n c rows (fun r hr => by
    obtain ⟨k, hk, rfl⟩ := List.getElem_of_mem hr
    exact ⟨r1 _ hr, h1 _ _ _ (r4 k hk (by omega))⟩) (by omega) (r2.below hb) hlen hby
  have hb2 : Below w0.heap.size w0 w' := hb.trans (q2.mono hw0)
  refine ⟨v', w', hrun, ⟨rows, q1, r3, fun k hk hk' => D.below (r4 k hk hk') hb2, fun r hr g hg e => ?_⟩, q2⟩
  obtain ⟨k, hk, rfl⟩ := List.getElem_of_mem hr
  have h2 := D.there (r4 k hk (by omega)) g hg
  have h3 := (q1.lt g e).1
  omega
theorem wpList_append_copy {α : Type} (D : Rds α) (h1 : ∀ w r y, D.R w r y → ∀ u ∈ r, u.oneCell' = true) (hgd : Region.wanted o (yielded ops a.tmps) = true) (s x : Operand) (t e : TypeId) (ho : o.op = .call { callee := .builtin .append, args := #[s, x], argTypes := #[t, t] })
    (ht : P.underlying t = some (.slice e)) (N by_ : Nat) (z : Value) (hi : (P.info? e).map (fun i => (i.zero, i.size, i.bytes)) = some (some z, N, by_)) (hz : z.cells.size = N) (h0 : 0 < N)
    (g0 : Nat) (hs : a.eval s = .slice (some ⟨g0, 0, none⟩) 0 0) (hg0 : Blk w g0 e #[]) (w0 : World) (A : Option Addr) (n c : Nat) (l : List α) (hx : a.eval x = .slice A n c) (hn : l.length = n) (hr : RdL D w0 A N l) (hb : Below w0.heap.size w0 w) (hw0 : w0.heap.size ≤ g0) (hlen : n ≤ 140737488355328) (hby : n * by_ ≤ 140737488355328)
    (h : Stop (∀ v' w', Hid (OwnL D w' g0 e N v' l) → Hid (Below g0 w w') → wpList P ops Q rest (a.put o.dst v') w')) : wpList P ops Q (o :: rest) a w := by
  refine wpList_wanted hgd fun K hK => ?_
  obtain ⟨v', w', hrun, q1, q2⟩ := run_append_copy D h1 P w0 w t o.type e ht N by_ z hi hz h0 g0 hg0 A n c l hn hr hb hw0 hlen hby
  unfold Oper.wp execOp
  simp only [ho, resolve, invoke, builtin, Sem.run_bind, Sem.run_pure, Result.andThen_ok, List.map_toArray, List.map_cons, List.map_nil, hs, hx, hrun]
  exact hK _ _ (h v' w' q1 q2)
end
def RdBs : Rds (List UInt8) where
  R := fun w r L => ∃ A c, r = [.slice A L.length c] ∧ L.length ≤ c ∧ c ≤ maxLen ∧ RB w A L
  stable := by
    rintro w w' r L ⟨A, c, rfl, h1, h2, h3⟩ hs
    refine ⟨A, c, rfl, h1, h2, RB.same h3 fun hl ad ha => hs ad.block (mem_blocksOf.2 ⟨_, List.mem_singleton.2 rfl, ?_⟩)⟩
    subst ha
    rw [leads_slice, if_neg (by omega)]
  there := by
    rintro w r L ⟨A, c, rfl, h1, h2, h3⟩ g hg
    obtain ⟨v, hv, hl⟩ := mem_blocksOf.1 hg
    rw [List.mem_singleton] at hv
    subst hv
    cases A with
    | none => cases hl
    | some ad =>
      rw [leads_slice] at hl
      by_cases hz : L.length = 0
      · rw [if_pos hz] at hl; cases hl
      · rw [if_neg hz] at hl
        injection hl with hl
        subst hl
        obtain ⟨ad', e', hc⟩ := h3 0 (by omega)
        injection e' with e'
        subst e'
        have := block_lt_of_cell hc
        rwa [block_of_add] at this
theorem RdBs.one : ∀ w r y, RdBs.R w r y → ∀ u ∈ r, u.oneCell' = true := by
  rintro w r y ⟨A, c, rfl, _⟩ u hu
  rw [List.mem_singleton] at hu
  subst hu
  rfl
theorem RdC.one : ∀ w r y, RdC.R w r y → ∀ u ∈ r, u.oneCell' = true := by
  rintro w r y ⟨v0, v1, v2, v3, v4, rfl, h⟩ u hu
  obtain ⟨A, m, e4, _⟩ := h.needs
  obtain ⟨A3, m3, e3, _⟩ := h.p.bytes
  simp only [List.mem_cons, List.mem_nil_iff, or_false] at hu
  rcases hu with rfl | rfl | rfl | rfl | rfl
  · rw [h.e0]; rfl
  · rw [h.e1]; rfl
  · rw [h.p.num]; rfl
  · rw [e3]; rfl
  · rw [e4]; rfl
def RdT : Rds Bool where
  R := fun _ r b => r = [.bool b]
  stable := fun h _ => h
  there := by
    rintro w r b rfl g hg
    obtain ⟨v, hv, hl⟩ := mem_blocksOf.1 hg
    rw [List.mem_singleton] at hv
    subst hv
    cases hl
theorem RdT.one : ∀ w r y, RdT.R w r y → ∀ u ∈ r, u.oneCell' = true := by
  rintro w r y rfl u hu
  rw [List.mem_singleton] at hu
  subst hu
  rfl
theorem RdL.bytes {w : World} {A : Option Addr} {l : List (List UInt8)} (h : RdL RdBs w A 1 l) {k : Nat} (hk : k < l.length) :
    ∃ ad B c, A = some ad ∧ w.cell? (ad.add k) = some (.slice B l[k].length c) ∧ l[k].length ≤ c ∧ c ≤ maxLen ∧ RB w B l[k] := by
  obtain ⟨ad, r, e, _, ⟨B, c, rfl, q1, q2, q3⟩, hc⟩ := h.at_ hk (by decide)
  have h0 := hc 0 _ rfl
  rw [add_of_add, Nat.add_zero, Nat.mul_one] at h0
  exact ⟨ad, B, c, e, h0, q1, q2, q3⟩
theorem RdL.bool {w : World} {A : Option Addr} {l : List Bool} (h : RdL RdT w A 1 l) {k : Nat} (hk : k < l.length) : ∃ ad, A = some ad ∧ w.cell? (ad.add k) = some (.bool l[k]) := by
  obtain ⟨ad, r, e, _, hr, hc⟩ := h.at_ hk (by decide)
  have hr' : r = [.bool l[k]] := hr
  subst hr'
  have h0 := hc 0 _ rfl
  rw [add_of_add, Nat.add_zero, Nat.mul_one] at h0
  exact ⟨ad, e, h0⟩
theorem flat1_set : ∀ (rows : List (List Value)) (k : Nat) (u : Value), (∀ r ∈ rows, r.length = 1) → (rows.set k [u]).flatten = rows.flatten.set k u := by
  intro rows
  induction rows with
  | nil => intro k u _; rfl
  | cons r rows ih =>
    intro k u h
    have hr : r.length = 1 := h r (by simp)
    match r, hr with
    | [x], _ =>
      cases k with
      | zero => rfl
      | succ k =>
        show x :: (rows.set k [u]).flatten = x :: (rows.flatten.set k u)
        rw [ih k u (fun r hr => h r (List.mem_cons_of_mem _ hr))]
theorem take_set_lt : ∀ (l : List Value) (n k : Nat) (u : Value), (l.set k u).take n = (l.take n).set k u := by
  intro l
  induction l with
  | nil => intro n k u; simp
  | cons x l ih =>
    intro n k u
    cases n with
    | zero => simp
    | succ n =>
      cases k with
      | zero => rfl
      | succ k =>
        show x :: (l.set k u).take n = x :: (l.take n).set k u
        rw [ih]
theorem OwnL.blk1 {α : Type} {D : Rds α} {w : World} {B : Nat} {e : TypeId} {v : Value} {l : List α} (h : OwnL D w B e 1 v l) (hl : 0 < l.length) :
    ∃ g cap cur, v = .slice (some ⟨g, 0, none⟩) l.length cap ∧ B ≤ g ∧ Blk w g e cur ∧ l.length ≤ cap ∧ cap ≤ maxLen ∧ cur.size = cap ∧
      ∀ {w' : World} {k : Nat} {u : Value} {y : α}, k < l.length → Only w w' g → Blk w' g e (cur.setIfInBounds k u) → D.R w' [u] y → (∀ q ∈ blocksOf [u], q ≠ g) → OwnL D w' B e 1 v (l.set k y) := by
  obtain ⟨rows, ⟨r1, hlen, h0 | ⟨g, cap, cur, hv, hb, hg, hn, hc, hs, ht⟩⟩, r2, r3, r4⟩ := h
  · exfalso; have := h0.2; omega
  · rw [r2] at hv hn
    refine ⟨g, cap, cur, hv, hb, hg, hn, hc, by omega, fun {w' k u y} hk ho hbk hy hf => ?_⟩
    have hown : v.ownBlock = some g := by rw [hv]; rfl
    refine ⟨rows.set k [u], ⟨fun r hr => ?_, ?_⟩, by simp [r2], fun j hj hj' => ?_, fun r hr q hq => ?_⟩
    · rcases List.mem_or_eq_of_mem_set hr with hr | hr
      · exact r1 r hr
      · subst hr; rfl
    · rw [List.length_set, flat1_set rows k u r1]
      refine ⟨by rw [List.length_set]; exact hlen, Or.inr ⟨g, cap, _, by rw [r2]; exact hv, hb, hbk, by rw [r2]; exact hn, hc, by simpa using hs, ?_⟩⟩
      rw [Array.toList_setIfInBounds, take_set_lt, ht]
    · by_cases ejk : j = k
      · subst ejk
        rw [List.getElem_set_self, List.getElem_set_self]
        exact hy
      · rw [List.getElem_set_ne (Ne.symm ejk), List.getElem_set_ne (Ne.symm ejk)]
        have hj1 : j < rows.length := by simpa using hj
        have hj2 : j < l.length := by simpa using hj'
        refine D.stable (r3 j hj1 hj2) fun q hq => ho.block q (fun e => ?_)
        subst e
        exact r4 _ (List.getElem_mem hj1) q hq hown
    · rcases List.mem_or_eq_of_mem_set hr with hr | hr
      · exact r4 r hr q hq
      · subst hr
        rw [hown]
        intro e
        injection e with e
        exact hf q hq e.symm
theorem OwnL.reads {α : Type} {D : Rds α} {w : World} {B : Nat} {e : TypeId} {N : Nat} {A : Option Addr} {n c : Nat} {l : List α} (h : OwnL D w B e N (.slice A n c) l) : l.length = n ∧ n ≤ c ∧ c ≤ maxLen ∧ RdL D w A N l := by
  obtain ⟨A', c', e, h1, h2, h3⟩ := h.read
  injection e with e1 e2 e3
  subst e1; subst e2; subst e3
  exact ⟨rfl, h1, h2, h3⟩
theorem no_blocks (b : Bool) (g : Nat) : ∀ q ∈ blocksOf [Value.bool b], q ≠ g := fun q hq => by
  obtain ⟨v, hv, hl⟩ := mem_blocksOf.1 hq
  rw [List.mem_singleton] at hv
  subst hv
  cases hl

def RdP {α : Type} (D : Rds α) (p : Nat → Prop) : Rds α where
  R := fun w r y => D.R w r y ∧ ∀ q ∈ blocksOf r, p q
  stable := fun h hs => ⟨D.stable h.1 hs, h.2⟩
  there := fun h => D.there h.1
theorem RdP.one {α : Type} {D : Rds α} {p : Nat → Prop} (h1 : ∀ w r y, D.R w r y → ∀ u ∈ r, u.oneCell' = true) : ∀ w r y, (RdP D p).R w r y → ∀ u ∈ r, u.oneCell' = true := fun w r y h => h1 w r y h.1
theorem RdL.toP {α : Type} {D : Rds α} {p : Nat → Prop} {w : World} {A : Option Addr} {N : Nat} {l : List α} (h : RdL D w A N l) (hp : ∀ q, q < w.heap.size → p q) : RdL (RdP D p) w A N l := by
  obtain ⟨rows, h0, h1, h2, h3⟩ := h
  exact ⟨rows, h0, h1, h2, fun k hk hk' => ⟨h3 k hk hk', fun q hq => hp q (D.there (h3 k hk hk') q hq)⟩⟩
theorem RdL.ofP {α : Type} {D : Rds α} {p : Nat → Prop} {w : World} {A : Option Addr} {N : Nat} {l : List α} (h : RdL (RdP D p) w A N l) : RdL D w A N l := by
  obtain ⟨rows, h0, h1, h2, h3⟩ := h
  exact ⟨rows, h0, h1, h2, fun k hk hk' => (h3 k hk hk').1⟩
theorem OwnL.onlyP {α : Type} {D : Rds α} {p : Nat → Prop} {w w' : World} {B : Nat} {e : TypeId} {N : Nat} {v : Value} {l : List α} (h : OwnL (RdP D p) w B e N v l) {g : Nat} (ho : Only w w' g) (hg : ∀ k, v.ownBlock = some k → k ≠ g) (hp : ∀ q, p q → q ≠ g) : OwnL (RdP D p) w' B e N v l := by
  obtain ⟨rows, ⟨r1, hlen, hx⟩, r2, r3, r4⟩ := h
  refine ⟨rows, ⟨r1, hlen, ?_⟩, r2, fun k hk hk' => (RdP D p).stable (r3 k hk hk') fun q hq => ho.block q (hp q ((r3 k hk hk').2 q hq)), r4⟩
  rcases hx with h0 | ⟨g', cap, cur, hv, hb, hh, h5⟩
  · exact Or.inl h0
  · exact Or.inr ⟨g', cap, cur, hv, hb, (ho.block g' (hg g' (by rw [hv]; rfl))).trans hh, h5⟩
theorem OwnL.lt2 {α : Type} {D : Rds α} {w : World} {B : Nat} {e : TypeId} {N : Nat} {v : Value} {l : List α} (h : OwnL D w B e N v l) : ∀ k, v.ownBlock = some k → B ≤ k ∧ k < w.heap.size := by
  obtain ⟨rows, h1, _⟩ := h
  exact h1.lt

end Go.Proofs.YtpmbpklbiocclaaGreat

/-
  The document's cache as a value of seven cells; contracts of the document's Much, Done, Known.
-/
namespace Go.Proofs.YtpmbpklbiocclaaGreat
open Go.RowKit

theorem Tryz.dcZero : (Tryz.prog.info? 32).map (·.zero) = some (some (.agg #[.slice none 0 0, .slice none 0 0, .int .i64 0, .int .i64 0, .bool false, .int .i64 0, .slice none 0 0])) := by kernel_rfl
theorem Tryz.dcSize : (Tryz.prog.info? 32).map (·.size) = some 7 := by kernel_rfl
structure DCV (w : World) (x : DC) (Ab : Option Addr) (nb cb : Nat) (Al : Option Addr) (nl cl : Nat) (Ak : Option Addr) (nk ck : Nat) : Prop where
  hnb : x.base.length = nb
  hcb : nb ≤ cb
  hmb : nb ≤ 512
  base : RdL RdBs w Ab 1 x.base
  hnl : x.list.length = nl
  hcl : nl ≤ cl
  hml : nl ≤ 1000
  list : RdL RdC w Al 5 x.list
  hnk : x.knows.length = nk
  hck : nk ≤ ck
  hmk : nk ≤ 512
  knows : RdL RdT w Ak 1 x.knows
  need : ∀ c ∈ x.list, c.needs.length ≤ 1000
theorem DCV.below {w w' : World} {x : DC} {Ab : Option Addr} {nb cb : Nat} {Al : Option Addr} {nl cl : Nat} {Ak : Option Addr} {nk ck : Nat} (h : DCV w x Ab nb cb Al nl cl Ak nk ck) (hb : Below w.heap.size w w') : DCV w' x Ab nb cb Al nl cl Ak nk ck :=
  ⟨h.hnb, h.hcb, h.hmb, h.base.below hb, h.hnl, h.hcl, h.hml, h.list.below hb, h.hnk, h.hck, h.hmk, h.knows.below hb, h.need⟩
theorem RdL.ablk {α : Type} {D : Rds α} {w : World} {A : Option Addr} {N : Nat} {l : List α} (h : RdL D w A N l) (hN : 0 < N) (hl : 0 < l.length) : ∀ ad, A = some ad → ad.block < w.heap.size := fun ad e => by
  obtain ⟨rows, h1, h2, h3, h4⟩ := h
  obtain ⟨ad', x, e', _, hc⟩ := h2 0 (by omega) 0 hN
  rw [e] at e'
  injection e' with e'
  subst e'
  have := block_lt_of_cell hc
  rwa [block_of_add] at this
theorem RdL.onlyR {α : Type} {D : Rds α} {p : Nat → Prop} {w w' : World} {A : Option Addr} {N : Nat} {l : List α} (h : RdL (RdP D p) w A N l) {g : Nat} (ho : Only w w' g) (hg : ¬ p g) (ha : 0 < l.length → ∀ ad, A = some ad → ad.block ≠ g) : RdL (RdP D p) w' A N l := by
  obtain ⟨rows, h1, h2, h3, h4⟩ := h
  refine ⟨rows, h1, fun k hk i hi => ?_, h3, fun k hk hk' => (RdP D p).stable (h4 k hk hk') fun q hq => ho.block q (fun e => hg (e ▸ (h4 k hk hk').2 q hq))⟩
  obtain ⟨ad, x, e, hx, hc⟩ := h2 k hk i hi
  refine ⟨ad, x, e, hx, ?_⟩
  rw [World.cell?_of_block (w := w) (w' := w') (by rw [block_of_add]; exact ho.block _ (ha (by omega) ad e))]
  exact hc
theorem RdL.onlyT {w w' : World} {A : Option Addr} {l : List Bool} {q : Nat} (h : RdL RdT w A 1 l) (ho : Only w w' q) (ha : 0 < l.length → ∀ ad, A = some ad → ad.block ≠ q) : RdL RdT w' A 1 l := by
  obtain ⟨rows, h1, h2, h3, h4⟩ := h
  refine ⟨rows, h1, fun k hk i hi => ?_, h3, h4⟩
  obtain ⟨ad, x, e, hx, hc⟩ := h2 k hk i hi
  refine ⟨ad, x, e, hx, ?_⟩
  rw [World.cell?_of_block (w := w) (w' := w') (by rw [block_of_add]; exact ho.block _ (ha (by omega) ad e))]
  exact hc
theorem RdL.monoP {α : Type} {D : Rds α} {p p' : Nat → Prop} {w : World} {A : Option Addr} {N : Nat} {l : List α} (h : RdL (RdP D p) w A N l) (hp : ∀ q, q < w.heap.size → p q → p' q) : RdL (RdP D p') w A N l := by
  obtain ⟨rows, h1, h2, h3, h4⟩ := h
  exact ⟨rows, h1, h2, h3, fun k hk hk' => ⟨(h4 k hk hk').1, fun q hq => hp q (D.there (h4 k hk hk').1 q hq) ((h4 k hk hk').2 q hq)⟩⟩
structure DCQ (p : Nat → Prop) (w : World) (x : DC) (Ab : Option Addr) (nb cb : Nat) (Al : Option Addr) (nl cl : Nat) (Ak : Option Addr) (nk ck : Nat) : Prop where
  v : DCV w x Ab nb cb Al nl cl Ak nk ck
  bp : RdL (RdP RdBs p) w Ab 1 x.base
  lp : RdL (RdP RdC p) w Al 5 x.list
  b0 : 0 < x.base.length → ∀ ad, Ab = some ad → p ad.block
  l0 : 0 < x.list.length → ∀ ad, Al = some ad → p ad.block
  k0 : 0 < x.knows.length → ∀ ad, Ak = some ad → p ad.block
theorem DCQ.below {p : Nat → Prop} {w w' : World} {x : DC} {Ab : Option Addr} {nb cb : Nat} {Al : Option Addr} {nl cl : Nat} {Ak : Option Addr} {nk ck : Nat} (h : DCQ p w x Ab nb cb Al nl cl Ak nk ck) (hb : Below w.heap.size w w') : DCQ p w' x Ab nb cb Al nl cl Ak nk ck :=
  ⟨h.v.below hb, h.bp.below hb, h.lp.below hb, h.b0, h.l0, h.k0⟩
theorem DCQ.only {p : Nat → Prop} {w w' : World} {x : DC} {Ab : Option Addr} {nb cb : Nat} {Al : Option Addr} {nl cl : Nat} {Ak : Option Addr} {nk ck : Nat} (h : DCQ p w x Ab nb cb Al nl cl Ak nk ck) {g : Nat} (ho : Only w w' g) (hg : ¬ p g) : DCQ p w' x Ab nb cb Al nl cl Ak nk ck := by
  have hb := h.bp.onlyR ho hg (fun hl ad e e2 => hg (e2 ▸ h.b0 hl ad e))
  have hl := h.lp.onlyR ho hg (fun hl ad e e2 => hg (e2 ▸ h.l0 hl ad e))
  have hk := h.v.knows.onlyT ho (fun hl ad e e2 => hg (e2 ▸ h.k0 hl ad e))
  exact ⟨⟨h.v.hnb, h.v.hcb, h.v.hmb, hb.ofP, h.v.hnl, h.v.hcl, h.v.hml, hl.ofP, h.v.hnk, h.v.hck, h.v.hmk, hk, h.v.need⟩, hb, hl, h.b0, h.l0, h.k0⟩
theorem DCQ.mono {p p' : Nat → Prop} {w : World} {x : DC} {Ab : Option Addr} {nb cb : Nat} {Al : Option Addr} {nl cl : Nat} {Ak : Option Addr} {nk ck : Nat} (h : DCQ p w x Ab nb cb Al nl cl Ak nk ck) (hp : ∀ q, q < w.heap.size → p q → p' q) : DCQ p' w x Ab nb cb Al nl cl Ak nk ck :=
  ⟨h.v, h.bp.monoP hp, h.lp.monoP hp, fun hl ad e => hp _ (h.v.base.ablk (by decide) hl ad e) (h.b0 hl ad e), fun hl ad e => hp _ (h.v.list.ablk (by decide) hl ad e) (h.l0 hl ad e), fun hl ad e => hp _ (h.v.knows.ablk (by decide) hl ad e) (h.k0 hl ad e)⟩
def RetD (p : Nat → Prop) (w : World) (x : DC) (e : Ending) (w' : World) : Prop := ∃ (Ab : Option Addr) (nb cb : Nat) (Al : Option Addr) (nl cl : Nat) (Ak : Option Addr) (nk ck : Nat), e = .returned (.agg #[.slice Ab nb cb, .slice Al nl cl, .int .i64 ((x).last : Int), .int .i64 (x).fuse, .bool (x).off, .int .i64 ((x).wrote : Int), .slice Ak nk ck]) ∧ DCQ p w' x Ab nb cb Al nl cl Ak nk ck ∧ Below w.heap.size w w'
def RetDE (p : Nat → Prop) (w : World) (x : DC) (y : Int) (e : Ending) (w' : World) : Prop := ∃ (Ab : Option Addr) (nb cb : Nat) (Al : Option Addr) (nl cl : Nat) (Ak : Option Addr) (nk ck : Nat), e = .returned (.tuple #[.agg #[.slice Ab nb cb, .slice Al nl cl, .int .i64 ((x).last : Int), .int .i64 (x).fuse, .bool (x).off, .int .i64 ((x).wrote : Int), .slice Ak nk ck], .int .i64 y]) ∧ DCQ p w' x Ab nb cb Al nl cl Ak nk ck ∧ Below w.heap.size w w'
def RetDNE (p : Nat → Prop) (w : World) (x : DC) (z y : Int) (e : Ending) (w' : World) : Prop := ∃ (Ab : Option Addr) (nb cb : Nat) (Al : Option Addr) (nl cl : Nat) (Ak : Option Addr) (nk ck : Nat), e = .returned (.tuple #[.agg #[.slice Ab nb cb, .slice Al nl cl, .int .i64 ((x).last : Int), .int .i64 (x).fuse, .bool (x).off, .int .i64 ((x).wrote : Int), .slice Ak nk ck], .int .i64 z, .int .i64 y]) ∧ DCQ p w' x Ab nb cb Al nl cl Ak nk ck ∧ Below w.heap.size w w'

section
variable {P : Program} {ops : Array Oper} {rest : List Oper} {o : Oper} {a : Act} {w : World} {Q : Exit → Act → World → Prop}
theorem bodyPost_struct_tmp2 {R : Ending → World → Prop} {fn : Func} {p q r : Tmp} {t : TypeId} (hf : fn.results = #[ResultVar.cell p t, ResultVar.tmp q, ResultVar.tmp r]) (g : Nat) (hp : a.tmps.getD p undef = .pointer (some ⟨g, 0, none⟩)) (t' : TypeId) (cs : Array Value) (hg : Blk w g t' cs)
    (d : TypeDesc) (hu : P.underlying t = some d) (hd1 : (match d with | .struct _ | .array _ _ => true | _ => false) = true) (hi : (P.info? t).map (·.size) = some cs.size) (hd : a.defers = []) (v : Value) (hq : a.tmps.getD q undef = v) (u : Value) (hr : a.tmps.getD r undef = u) (hR : Stop (R (.returned (.tuple #[.agg cs, v, u])) w)) : bodyPost P fn R .ret a w := by
  refine bodyPost_ret (v := .tuple #[.agg cs, v, u]) ?_ hd hR
  have hp' : a.tmps[p]?.getD undef = .pointer (some ⟨g, 0, none⟩) := by simpa using hp
  have hq' : a.tmps[q]?.getD undef = v := by simpa using hq
  have hr' : a.tmps[r]?.getD undef = u := by simpa using hr
  simp [results, hf, hp', hq', hr', asAddr, run_loadVar_row w g t' t cs (0, 0) _ hg hu hd1 hi]
end
theorem Blk.seven {w : World} {g : Nat} {t : TypeId} {v0 v1 v2 v3 v4 v5 v6 : Value} (h : Blk w g t #[v0, v1, v2, v3, v4, v5, v6]) :
    w.cell? ⟨g, 0, none⟩ = some v0 ∧ w.cell? ⟨g, 1, none⟩ = some v1 ∧ w.cell? ⟨g, 2, none⟩ = some v2 ∧ w.cell? ⟨g, 3, none⟩ = some v3 ∧ w.cell? ⟨g, 4, none⟩ = some v4 ∧ w.cell? ⟨g, 5, none⟩ = some v5 ∧ w.cell? ⟨g, 6, none⟩ = some v6 :=
  ⟨h.cell 0, h.cell 1, h.cell 2, h.cell 3, h.cell 4, h.cell 5, h.cell 6⟩
theorem hasId_no {l : List Cg} {x : Int} (h : ∀ c ∈ l, c.id ≠ x) : hasId l x = false := by
  cases e : hasId l x
  · rfl
  · obtain ⟨c, hc, he⟩ := hasId_iff.1 e
    exact absurd he (h c hc)

set_option maxRecDepth 100000 in
set_option maxHeartbeats 1600000 in
theorem done12_any (x : DC) (Ab : Option Addr) (nb cb : Nat) (Al : Option Addr) (nl cl : Nat) (Ak : Option Addr) (nk ck : Nat) (id : Int) (w : World) (h : DCV w x Ab nb cb Al nl cl Ak nk ck) :
    Calls Tryz.prog 85 #[.agg #[.slice Ab nb cb, .slice Al nl cl, .int .i64 ((x).last : Int), .int .i64 (x).fuse, .bool (x).off, .int .i64 ((x).wrote : Int), .slice Ak nk ck], .int .i64 id] w fun e w' => e = .returned (.bool (x.done id)) ∧ Below w.heap.size w w' := by
  have H := Lib.hid h
  clear h
  go_enter Tryz.func85, Tryz.ntmps85
  go_wp2_with (refine wpList_box_row rfl _ _ rfl _ rfl ?_)
  apply Stop.go; intro w1 Hg1 Hb1
  have Hw1 := Lib.hid Hg1.out.1
  have hc2 := Hb1.out.seven.2.2.1
  have hc1 := Hb1.out.seven.2.1
  by_cases h1 : 1 ≤ id
  · have d1 : decide (1 ≤ id) = true := decide_eq_true h1
    by_cases h2 : id ≤ (x.last : Int)
    · have d2 : decide (id ≤ (x.last : Int)) = true := decide_eq_true h2
      have HX : Hid (x.done id = !hasId x.list id) := Lib.hid (by unfold DC.done; rw [d1, d2]; rfl)
      go_wp2_with fail
      refine (rplace_any Al nl cl x.list H.out.hnl (by have := H.out.hml; unfold maxLen; omega) id _ (H.out.list.below Hw1.out)).mono ?_; rintro e wx ⟨rfl, hpl⟩
      rcases hpl with ⟨q, hq, rfl, hqe, hqb⟩ | ⟨rfl, hno⟩
      · have HX2 : Hid (x.done id = false) := Lib.hid (by rw [HX.out, hasId_iff.2 ⟨_, List.getElem_mem hq, hqe⟩]; rfl)
        have d3 : decide ((q : Int) < 0) = false := decide_eq_false (by omega)
        clear hqe hqb
        go_wp2_with fail
        go_ret
        rw [HX2.out]
        exact ⟨rfl, Hw1.out⟩
      · have HX2 : Hid (x.done id = true) := Lib.hid (by rw [HX.out, hasId_no hno]; rfl)
        clear hno
        go_wp2_with fail
        go_ret
        rw [HX2.out]
        exact ⟨rfl, Hw1.out⟩
    · have d2 : decide (id ≤ (x.last : Int)) = false := decide_eq_false h2
      have HX : Hid (x.done id = false) := Lib.hid (by unfold DC.done; rw [d2, Bool.and_false]; rfl)
      go_wp2_with fail
      go_ret
      rw [HX.out]
      exact ⟨rfl, Hw1.out⟩
  · have d1 : decide (1 ≤ id) = false := decide_eq_false h1
    have HX : Hid (x.done id = false) := Lib.hid (by unfold DC.done; rw [d1]; rfl)
    go_wp2_with fail
    go_ret
    rw [HX.out]
    exact ⟨rfl, Hw1.out⟩

theorem Tryz.dcBool : (Tryz.prog.info? 4).map (fun i => (i.zero, i.size, i.bytes)) = some (some (.bool false), 1, 1) := by kernel_rfl
theorem Tryz.dcBoolSz : (Tryz.prog.info? 4).map (·.size) = some 1 := by kernel_rfl
theorem Tryz.dcBoolsSz : (Tryz.prog.info? 30).map (·.size) = some 1 := by kernel_rfl
set_option maxRecDepth 100000 in
set_option maxHeartbeats 4000000 in
theorem known12_any (p : Nat → Prop) (x : DC) (Ab : Option Addr) (nb cb : Nat) (Al : Option Addr) (nl cl : Nat) (Ak : Option Addr) (nk ck : Nat) (no : Int) (w : World) (hp : ∀ q, w.heap.size ≤ q → p q) (h : DCQ p w x Ab nb cb Al nl cl Ak nk ck) :
    Calls Tryz.prog 86 #[.agg #[.slice Ab nb cb, .slice Al nl cl, .int .i64 ((x).last : Int), .int .i64 (x).fuse, .bool (x).off, .int .i64 ((x).wrote : Int), .slice Ak nk ck], .int .i64 no] w (RetDE p w (x.known no) (x.knownE no)) := by
  have HQ := Lib.hid h
  have H := Lib.hid h.v
  have HP := Lib.hid hp
  clear h hp
  go_enter Tryz.func86, Tryz.ntmps86
  go_wp2_with (refine wpList_box_row rfl _ _ rfl _ rfl ?_)
  apply Stop.go; intro w1 Hg1 Hb1
  go_wp2_with (refine wpList_alloc_row rfl _ rfl _ Tryz.dcZero ?_)
  apply Stop.go; intro w2 Hg2 Hb2
  have Hb12 := Lib.hid (Hb1.out.ext Hg2.out.1)
  have Hw2 := Lib.hid (bt Hg1.out.1 Hg2.out.1)
  have Z := Lib.hid (show w1.heap.size = w.heap.size + 1 ∧ w2.heap.size = w1.heap.size + 1 from ⟨Hg1.out.2, Hg2.out.2⟩)
  have c4 := Hb12.out.seven.2.2.2.2.1
  have c6 := Hb12.out.seven.2.2.2.2.2.2
  have hmk := H.out.hmk
  clear Hg1 Hg2 Hb1
  have Hno : Hid (x.kn no = false → x.knownE no = (if x.off then 12 else if x.has no then 0 else 2)) := Lib.hid (fun hk => by unfold DC.knownE; rw [hk]; rfl)
  have Hsame : Hid (x.knownE no ≠ 0 → x.known no = x) := Lib.hid (fun hk => by unfold DC.known; rw [if_neg hk])
  have Hnk := Lib.hid H.out.hnk
  by_cases hh : x.has no = true
  · obtain ⟨h0, h1⟩ := DC.has_iff.1 hh
    obtain ⟨k, rfl⟩ := Int.eq_ofNat_of_zero_le h0
    rw [H.out.hnk] at h1
    have hkl : k < x.knows.length := by rw [H.out.hnk]; omega
    have d0 : decide ((0 : Int) ≤ (k : Int)) = true := decide_eq_true (by omega)
    have d0b : decide ((k : Int) < 0) = false := decide_eq_false (by omega)
    have d1 : decide ((k : Int) < (nk : Int)) = true := decide_eq_true h1
    have d1b : decide ((nk : Int) ≤ (k : Int)) = false := decide_eq_false (by omega)
    have HK : Hid (x.kn (k : Int) = x.knows[k]) := Lib.hid (by unfold DC.kn; rw [hh, Bool.true_and, Int.toNat_natCast, List.getD_eq_getElem?_getD, List.getElem?_eq_getElem hkl]; rfl)
    have Hset : Hid (x.knownE (k : Int) = 0 → x.known (k : Int) = { x with knows := x.knows.set k true }) := Lib.hid (fun hk => by unfold DC.known; rw [if_pos hk, Int.toNat_natCast])
    have Hh := Lib.hid hh
    obtain ⟨ad, rfl, k0⟩ := (H.out.knows.below Hw2.out).bool hkl
    cases hkn : x.knows[k]
    · rw [hkn] at k0 HK
      have HE := Lib.hid (Hno.out HK.out)
      obtain ⟨o, ho⟩ : ∃ o, x.off = o := ⟨_, rfl⟩
      have HO := Lib.hid ho
      rw [ho] at c4 HE
      clear ho
      cases o
      · have HE2 : Hid (x.knownE (k : Int) = 0) := Lib.hid (by rw [HE.out, Hh.out]; rfl)
        have HX := Lib.hid (Hset.out HE2.out)
        clear hkn hh
        go_wp2_with (refine wpList_build0N rfl _ _ rfl Tryz.underlying30 1 Tryz.dcBoolSz ?_)
        apply Stop.go; intro w3 Hg3 Hb3
        have c6' := (Hb12.out.ext Hg3.out.1).seven.2.2.2.2.2.2
        go_wp2_with (at_builtin; refine wpList_append_copy (RdP RdT (· < w.heap.size)) (RdP.one RdT.one) rfl _ _ _ _ rfl Tryz.underlying30 1 1 (.bool false) Tryz.dcBool rfl (by decide) w2.heap.size rfl Hb3.out w2 _ nk ck x.knows rfl Hnk.out ((H.out.knows.toP (fun q hq => hq)).below Hw2.out) Hg3.out.1 (Nat.le_refl _) (by omega) (by omega) ?_)
        apply Stop.go
        intro v4 w4 Ho4 Hb4
        obtain ⟨g, cap, cur, hv, hg, hbk, hn4, hm4, hcs, hset⟩ := Ho4.out.blk1 (by omega)
        rw [Hnk.out] at hv hn4
        subst hv
        have Hbk := Lib.hid hbk
        have HGG := Lib.hid hg
        have Hset4 := Lib.hid (fun w' => hset (w' := w') (k := k) (u := .bool true) (y := true) hkl)
        have hcur : k < cur.size := by omega
        have D4 := Lib.hid (Hg3.out.1.trans Hb4.out)
        have Hc4 := Lib.hid (Hb12.out.ext D4.out)
        clear hset hbk hcs Hg3 Hb3 Hb4 Ho4 c6 c6' c4 k0
        go_wp2_with (refine wpList_store_cell rfl _ _ _ rfl Tryz.dcBoolSz g k rfl (.bool true) rfl rfl rfl _ _ Hbk.out hcur ?_)
        apply Stop.go; intro w5 Ho5 Hb5
        have HK5 := Lib.hid (Hset4.out w5 Ho5.out Hb5.out ⟨rfl, fun q hq => absurd rfl (no_blocks _ q q hq)⟩ (no_blocks _ _))
        have Hc5 := Lib.hid (Hc4.out.only Ho5.out (by have := Z.out; omega))
        have D5 := Lib.hid (bonly D4.out Ho5.out hg)
        clear Hb5 Ho5 Hset4 Hc4 Hbk D4
        go_wp2_with (refine wpList_store_cell rfl _ _ _ rfl Tryz.dcBoolsSz w.heap.size 6 rfl (.slice (some ⟨g, 0, none⟩) nk cap) rfl rfl rfl _ _ Hc5.out (by show 6 < 7; omega) ?_)
        apply Stop.go; intro w6 Ho6 Hb6
        have Hc6 : Hid (Blk w6 w.heap.size 32 #[.slice Ab nb cb, .slice Al nl cl, .int .i64 (x.last : Int), .int .i64 x.fuse, .bool x.off, .int .i64 (x.wrote : Int), .slice (some ⟨g, 0, none⟩) nk cap]) := Lib.hid Hb6.out
        have Hz6 := Lib.hid ((Hb2.out.ext D5.out).only Ho6.out (by have := Z.out; omega))
        have HK6 := Lib.hid ((HK5.out.onlyP Ho6.out (fun k e => by have := (HK5.out.lt2 k e).1; have := Z.out; omega) (fun q hq => Nat.ne_of_lt hq)))
        have D6 := Lib.hid (bonly (bt Hw2.out D5.out) Ho6.out (Nat.le_refl _))
        clear Hb6 Ho6 HK5 Hc5 D5
        go_wp2_with (first | refine wpList_load_blk rfl _ _ rfl _ rfl _ _ Hc6.out _ Tryz.underlying32 rfl Tryz.dcSize ?_ | refine wpList_store_arr rfl _ _ _ rfl _ #[.slice Ab nb cb, .slice Al nl cl, .int .i64 ((x).last : Int), .int .i64 (x).fuse, .bool (x).off, .int .i64 ((x).wrote : Int), .slice (some ⟨g, 0, none⟩) nk cap] rfl rfl _ _ Hz6.out Tryz.dcSize rfl (by simp [Value.oneCell']) ?_)
        apply Stop.go; intro w7 Ho7 Hb7
        go_wp2_with ((with_reducible show bodyPost _ _ _ _ _ _); refine bodyPost_struct_tmp rfl _ rfl _ _ Hb7.out _ Tryz.underlying32 rfl Tryz.dcSize rfl _ rfl ?_); apply Stop.go
        rw [HX.out, HE2.out]
        have hw7 := bonly D6.out Ho7.out (by have := Z.out; omega)
        have hv := H.out.below hw7
        have hk7 := (HK6.out.onlyP Ho7.out (fun k e => by have := (HK6.out.lt2 k e).1; have := Z.out; omega) (fun q hq => by have := Z.out; omega)).reads
        have hq := HQ.out.below hw7
        exact ⟨_, _, _, _, _, _, _, _, _, rfl, ⟨⟨hv.hnb, hv.hcb, hv.hmb, hv.base, hv.hnl, hv.hcl, hv.hml, hv.list, hk7.1, hn4, hv.hmk, hk7.2.2.2.ofP, hv.need⟩, hq.bp, hq.lp, hq.b0, hq.l0, fun _ ad e => by injection e with e; subst e; exact HP.out g (by have := Z.out; have := HGG.out; omega)⟩, hw7⟩
      · have HE2 : Hid (x.knownE (k : Int) = 12) := Lib.hid (by rw [HE.out]; rfl)
        have HX := Lib.hid (Hsame.out (by rw [HE2.out]; decide))
        clear hkn hh
        go_wp2_with (first | refine wpList_load_blk rfl _ _ rfl _ rfl _ _ Hb12.out _ Tryz.underlying32 rfl Tryz.dcSize ?_ | refine wpList_store_arr rfl _ _ _ rfl _ #[.slice Ab nb cb, .slice Al nl cl, .int .i64 ((x).last : Int), .int .i64 (x).fuse, .bool (x).off, .int .i64 ((x).wrote : Int), .slice (some ad) nk ck] rfl rfl _ _ Hb2.out Tryz.dcSize rfl (by simp [Value.oneCell']) ?_); apply Stop.go; intro w3 Ho3 Hb3
        go_wp2_with ((with_reducible show bodyPost _ _ _ _ _ _); refine bodyPost_struct_tmp rfl _ rfl _ _ Hb3.out _ Tryz.underlying32 rfl Tryz.dcSize rfl _ rfl ?_); apply Stop.go
        rw [HX.out, HE2.out]
        have hw3 := bonly Hw2.out Ho3.out (by have := Z.out; omega)
        exact ⟨_, _, _, _, _, _, _, _, _, rfl, HQ.out.below hw3, hw3⟩
    · rw [hkn] at k0 HK
      have HE2 : Hid (x.knownE (k : Int) = 0) := Lib.hid (by unfold DC.knownE; rw [HK.out]; rfl)
      have HX : Hid (x.known (k : Int) = x) := Lib.hid (by
        rw [Hset.out HE2.out]
        have e : x.knows.set k true = x.knows := by rw [← hkn]; exact List.set_getElem_self hkl
        rw [e])
      clear hkn hh
      go_wp2_with (first | refine wpList_load_blk rfl _ _ rfl _ rfl _ _ Hb12.out _ Tryz.underlying32 rfl Tryz.dcSize ?_ | refine wpList_store_arr rfl _ _ _ rfl _ #[.slice Ab nb cb, .slice Al nl cl, .int .i64 ((x).last : Int), .int .i64 (x).fuse, .bool (x).off, .int .i64 ((x).wrote : Int), .slice (some ad) nk ck] rfl rfl _ _ Hb2.out Tryz.dcSize rfl (by simp [Value.oneCell']) ?_); apply Stop.go; intro w3 Ho3 Hb3
      go_wp2_with ((with_reducible show bodyPost _ _ _ _ _ _); refine bodyPost_struct_tmp rfl _ rfl _ _ Hb3.out _ Tryz.underlying32 rfl Tryz.dcSize rfl _ rfl ?_); apply Stop.go
      rw [HX.out, HE2.out]
      have hw3 := bonly Hw2.out Ho3.out (by have := Z.out; omega)
      exact ⟨_, _, _, _, _, _, _, _, _, rfl, HQ.out.below hw3, hw3⟩
  · have hf : x.has no = false := by simpa using hh
    have HE := Lib.hid (Hno.out (by unfold DC.kn; rw [hf]; rfl))
    rw [hf] at HE
    have HN : Hid (¬ (0 ≤ no ∧ no < (nk : Int))) := Lib.hid (fun h => hh (DC.has_iff.2 (by rw [Hnk.out]; exact h)))
    obtain ⟨o, ho⟩ : ∃ o, x.off = o := ⟨_, rfl⟩
    rw [ho] at c4 HE
    clear ho hh hf
    have HE2 : Hid (x.knownE no = if o then 12 else 2) := Lib.hid (by rw [HE.out]; cases o <;> rfl)
    have HX := Lib.hid (Hsame.out (by rw [HE2.out]; cases o <;> decide))
    by_cases h0 : 0 ≤ no
    · have h1 : ¬ no < (nk : Int) := fun h => HN.out ⟨h0, h⟩
      have d0 : decide ((0 : Int) ≤ no) = true := decide_eq_true h0
      have d0b : decide (no < 0) = false := decide_eq_false (by omega)
      have d1 : decide (no < (nk : Int)) = false := decide_eq_false h1
      have d1b : decide ((nk : Int) ≤ no) = true := decide_eq_true (by omega)
      cases o <;> (
        go_wp2_with (first | refine wpList_load_blk rfl _ _ rfl _ rfl _ _ Hb12.out _ Tryz.underlying32 rfl Tryz.dcSize ?_ | refine wpList_store_arr rfl _ _ _ rfl _ #[.slice Ab nb cb, .slice Al nl cl, .int .i64 ((x).last : Int), .int .i64 (x).fuse, .bool (x).off, .int .i64 ((x).wrote : Int), .slice Ak nk ck] rfl rfl _ _ Hb2.out Tryz.dcSize rfl (by simp [Value.oneCell']) ?_); apply Stop.go; intro w3 Ho3 Hb3
        go_wp2_with ((with_reducible show bodyPost _ _ _ _ _ _); refine bodyPost_struct_tmp rfl _ rfl _ _ Hb3.out _ Tryz.underlying32 rfl Tryz.dcSize rfl _ rfl ?_); apply Stop.go
        rw [HX.out, HE2.out]
        have hw3 := bonly Hw2.out Ho3.out (by have := Z.out; omega)
        exact ⟨_, _, _, _, _, _, _, _, _, rfl, HQ.out.below hw3, hw3⟩)
    · have d0 : decide ((0 : Int) ≤ no) = false := decide_eq_false h0
      have d0b : decide (no < 0) = true := decide_eq_true (by omega)
      cases o <;> (
        go_wp2_with (first | refine wpList_load_blk rfl _ _ rfl _ rfl _ _ Hb12.out _ Tryz.underlying32 rfl Tryz.dcSize ?_ | refine wpList_store_arr rfl _ _ _ rfl _ #[.slice Ab nb cb, .slice Al nl cl, .int .i64 ((x).last : Int), .int .i64 (x).fuse, .bool (x).off, .int .i64 ((x).wrote : Int), .slice Ak nk ck] rfl rfl _ _ Hb2.out Tryz.dcSize rfl (by simp [Value.oneCell']) ?_); apply Stop.go; intro w3 Ho3 Hb3
        go_wp2_with ((with_reducible show bodyPost _ _ _ _ _ _); refine bodyPost_struct_tmp rfl _ rfl _ _ Hb3.out _ Tryz.underlying32 rfl Tryz.dcSize rfl _ rfl ?_); apply Stop.go
        rw [HX.out, HE2.out]
        have hw3 := bonly Hw2.out Ho3.out (by have := Z.out; omega)
        exact ⟨_, _, _, _, _, _, _, _, _, rfl, HQ.out.below hw3, hw3⟩)

end Go.Proofs.YtpmbpklbiocclaaGreat
