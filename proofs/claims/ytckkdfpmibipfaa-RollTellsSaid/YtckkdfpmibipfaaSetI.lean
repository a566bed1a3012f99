/-
  A set of numbers of the call's own, as a map to structs of nothing: made, asked, added to. Plain; no program is named here.
-/
import Derived.Test.YtckkdfpmibipfaaMapI
namespace Go.Proofs.Ytckkdfpmibipfaa
open Go.RowKit Go.Maps Go.ChangeMaps Go.MapKept

/-- Block b is a map of at most n entries that has just these keys. -/
def SetI (w : World) (P : Program) (K : TypeId) (b n : Nat) (m : Int → Bool) : Prop :=
  ∃ D : DataW Unit, w.ownsMap P K unitElem b n D ∧ IsMap D ∧ ∀ k, Maps.has D (.int .i64 k) = m k

section
variable {P : Program} {K e t : TypeId} {w w' : World} {b n : Nat} {m : Int → Bool}
theorem SetI.made (w : World) (P : Program) (K : TypeId) : SetI (w.alloc (.map #[] 0)) P K w.heap.size 0 (fun _ => false) :=
  ⟨.map [], World.ownsMap_made w P K _, isMap_empty, fun _ => rfl⟩
theorem SetI.lt (h : SetI w P K b n m) : b < w.heap.size := by obtain ⟨_, h1, _⟩ := h; exact h1.lt
theorem SetI.mono (h : SetI w P K b n m) {n' : Nat} (hn : n ≤ n') : SetI w P K b n' m := by
  obtain ⟨D, h1, h2⟩ := h
  exact ⟨D, h1.mono hn, h2⟩
theorem SetI.congr (h : SetI w P K b n m) {m' : Int → Bool} (e : ∀ k, m k = m' k) : SetI w P K b n m' := by
  obtain ⟨D, h1, h2, h3⟩ := h
  exact ⟨D, h1, h2, fun k => (h3 k).trans (e k)⟩
/-- It stays where its block stays. -/
theorem SetI.same (h : SetI w P K b n m) (hb : w'.heap[b]? = w.heap[b]?) : SetI w' P K b n m := by
  obtain ⟨D, ⟨es, clock, h0, h1⟩, h2⟩ := h
  exact ⟨D, ⟨es, clock, hb.trans h0, h1⟩, h2⟩
theorem SetI.ext (h : SetI w P K b n m) (hb : Below w.heap.size w w') : SetI w' P K b n m := h.same (hb.block b h.lt)
theorem SetI.only (h : SetI w P K b n m) {g : Nat} (ho : Only w w' g) (hg : b ≠ g) : SetI w' P K b n m := h.same (ho.block b hg)
theorem SetI.grown (h : SetI w P K b n m) {row : Option Nat} (hg : w.grownBy w' row) (hne : some b ≠ row) : SetI w' P K b n m := h.same (hg.block b h.lt hne)
/-- _, ok := m[k]. -/
theorem SetI.look_ok (h : SetI w P K b n m) (hk : P.underlying K = some (.int .i64)) (ht : P.underlying t = some (.map K e)) (hz : (P.info? e).map (·.zero) = some (some (.agg #[]))) (k : Int) (hw : (Lit.int .i64 k).wf = true) :
    (Instr.lookup t (.map (some b)) (.int .i64 k) true).run P w = .ok (.tuple #[.agg #[], .bool (m k)]) w := by
  obtain ⟨D, h1, _, h4⟩ := h
  obtain ⟨v, ps, hrun, hv⟩ := h1.look_ok (int_keyed hk) ht (zero_of hz w) unitElem_mk (keyOf_int_mk hk hw)
  rw [hrun, (unitElem_inv hv).1, h4 k]
/-- With one more. -/
def addM (m : Int → Bool) (k : Int) : Int → Bool := fun j => if j = k then true else m j
/-- m[k] = struct{}{}. -/
theorem SetI.store (h : SetI w P K b n m) (hk : P.underlying K = some (.int .i64)) (ht : P.underlying t = some (.map K e)) (hn : n < maxLen) (k : Int) (hw : (Lit.int .i64 k).wf = true) :
    ∃ w', (Instr.mapUpdate t (.map (some b)) (.int .i64 k) (.agg #[])).run P w = .ok () w' ∧ SetI w' P K b (n + 1) (addM m k) ∧ w.grownBy w' (some b) ∧ w'.heap.size = w.heap.size := by
  obtain ⟨D, h1, h2, h4⟩ := h
  obtain ⟨w', hrun, r1, r2⟩ := h1.store (int_keyed hk) ht hn (keyOf_int_mk hk hw) unitElem_mk
  refine ⟨w', hrun, ⟨_, r1, h2.put _ _, fun j => ?_⟩, r2.grown, ?_⟩
  · unfold addM
    by_cases hj : j = k
    · subst hj
      rw [if_pos rfl, has_put_same (k := .int .i64 j) h2 trivial]
    · rw [if_neg hj, has_put_other (by intro h; injection h with _ h; exact hj h)]
      exact h4 j
  · obtain ⟨es, clock, es', clock', hb, rfl⟩ := r2
    simp [setBlock]
end

section
variable {P : Program} {ops : Array Oper} {rest : List Oper} {o : Oper} {a : Act} {w : World} {L : Act → World → Prop} {Q : Exit → Act → World → Prop} {b n : Nat} {m : Int → Bool}
theorem wpList_set_look (hgd : Region.wanted o (yielded ops a.tmps) = true) (t : TypeId) (x y : Operand) (ho : o.op = .lookup t x y true) (K e : TypeId) (hk : P.underlying K = some (.int .i64)) (ht : P.underlying t = some (.map K e)) (hz : (P.info? e).map (·.zero) = some (some (.agg #[])))
    (hx : a.eval x = .map (some b)) (hM : SetI w P K b n m) (k : Int) (hy : a.eval y = .int .i64 k) (hw : (Lit.int .i64 k).wf = true) (r : Bool) (hr : m k = r)
    (h : wpList P ops Q rest (a.put o.dst (.tuple #[.agg #[], .bool r])) w) : wpList P ops Q (o :: rest) a w := by
  refine wpList_wanted hgd fun K' hK => ?_
  unfold Oper.wp execOp
  simp only [ho, hx, hy, Sem.run_bind, Sem.run_pure, Result.andThen_ok, hM.look_ok hk ht hz k hw, hr]
  exact hK _ _ h
theorem wpList_set_store (hgd : Region.wanted o (yielded ops a.tmps) = true) (t : TypeId) (x y z : Operand) (ho : o.op = .mapUpdate t x y z) (K e : TypeId) (hk : P.underlying K = some (.int .i64)) (ht : P.underlying t = some (.map K e))
    (hx : a.eval x = .map (some b)) (hM : SetI w P K b n m) (hn : n < maxLen) (k : Int) (hy : a.eval y = .int .i64 k) (hw : (Lit.int .i64 k).wf = true) (hz : a.eval z = .agg #[])
    (h : Stop (∀ w', Hid (SetI w' P K b (n + 1) (addM m k)) → Hid (Only w w' b) → wpList P ops Q rest (a.put o.dst undef) w')) : wpList P ops Q (o :: rest) a w := by
  refine wpList_wanted hgd fun K' hK => ?_
  obtain ⟨w', hrun, r1, r2, r3⟩ := hM.store hk ht hn k hw
  unfold Oper.wp execOp
  simp only [ho, hx, hy, hz, Sem.run_bind, Sem.run_pure, Result.andThen_ok, hrun]
  refine hK _ _ (h w' r1 ⟨r2.os, r2.tape, r2.output, r3, fun k hk => ?_⟩)
  rcases Nat.lt_or_ge k w.heap.size with hlt | hge
  · exact r2.block k hlt (fun e => hk (by injection e))
  · rw [Array.getElem?_eq_none (by omega), Array.getElem?_eq_none hge]
end

end Go.Proofs.Ytckkdfpmibipfaa
