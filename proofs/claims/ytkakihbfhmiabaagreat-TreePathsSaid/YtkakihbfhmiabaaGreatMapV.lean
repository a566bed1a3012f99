/-
  A map of the call's own from ints to slices, as a function to values: what a value leads to is no part of it. Made, looked up, written, gone through. Plain; no program is named here.
-/
import Derived.Test.YtkakihbfhmiabaaGreatMapI
import Derived.Maps.RangeWalk
namespace Go.Proofs.YtkakihbfhmiabaaGreat
open Go.RowKit Go.Maps

/-- An element as it stands. -/
def tokR (v : Value) : Option (DataW Value × List MemPlace) := some (.held v, [])
def nilS : Value := .slice none 0 0
/-- Block b is a map of at most n entries: this at this key. -/
def MapV (w : World) (P : Program) (K : TypeId) (b n : Nat) (m : Int → Option Value) : Prop :=
  ∃ D : DataW Value, w.ownsMap P K tokR b n D ∧ IsMap D ∧ ∀ k, D.atKey (.int .i64 k) (.held nilS) = .held ((m k).getD nilS) ∧ Maps.has D (.int .i64 k) = (m k).isSome
/-- The same map, gone through: block r is under way; which keys are still to come. -/
def MapR (w : World) (P : Program) (K : TypeId) (b r n : Nat) (m : Int → Option Value) (left : Int → Bool) (cnt : Nat) : Prop :=
  ∃ (D : DataW Value) (L : Lit → Bool), w.ranges P K tokR b r n D L cnt ∧ IsMap D ∧ (∀ k, D.atKey (.int .i64 k) (.held nilS) = .held ((m k).getD nilS) ∧ Maps.has D (.int .i64 k) = (m k).isSome) ∧ (∀ k, L (.int .i64 k) = left k)

section
variable {P : Program} {K e t : TypeId} {w w' : World} {b r n : Nat} {m : Int → Option Value} {left : Int → Bool} {cnt : Nat}
theorem MapV.made (w : World) (P : Program) (K : TypeId) : MapV (w.alloc (.map #[] 0)) P K w.heap.size 0 (fun _ => none) :=
  ⟨.map [], World.ownsMap_made w P K _, isMap_empty, fun _ => ⟨rfl, rfl⟩⟩
theorem MapV.lt (h : MapV w P K b n m) : b < w.heap.size := by obtain ⟨_, h1, _⟩ := h; exact h1.lt
theorem MapV.mono (h : MapV w P K b n m) {n' : Nat} (hn : n ≤ n') : MapV w P K b n' m := by
  obtain ⟨D, h1, h2⟩ := h
  exact ⟨D, h1.mono hn, h2⟩
theorem MapV.same (h : MapV w P K b n m) (hb : w'.heap[b]? = w.heap[b]?) : MapV w' P K b n m := by
  obtain ⟨D, ⟨es, clock, h0, h1⟩, h2⟩ := h
  exact ⟨D, ⟨es, clock, hb.trans h0, h1⟩, h2⟩
theorem MapV.ext (h : MapV w P K b n m) (hb : Below w.heap.size w w') : MapV w' P K b n m := h.same (hb.block b h.lt)
theorem MapV.below {B : Nat} (h : MapV w P K b n m) (hb : Below B w w') (hB : b < B) : MapV w' P K b n m := h.same (hb.block b hB)
theorem MapV.only (h : MapV w P K b n m) {g : Nat} (ho : Only w w' g) (hg : b ≠ g) : MapV w' P K b n m := h.same (ho.block b hg)
theorem MapV.look (h : MapV w P K b n m) (hk : P.underlying K = some (.int .i64)) (ht : P.underlying t = some (.map K e)) (hz : (P.info? e).map (·.zero) = some (some nilS)) (k : Int) (hw : (Lit.int .i64 k).wf = true) :
    (Instr.lookup t (.map (some b)) (.int .i64 k) false).run P w = .ok ((m k).getD nilS) w := by
  obtain ⟨D, h1, _, h4⟩ := h
  obtain ⟨v, ps, hrun, hv⟩ := h1.lookup (int_keyed hk) ht (zero_of hz w) (show tokR nilS = some (.held nilS, []) from rfl) (keyOf_int_mk hk hw)
  rw [(h4 k).1] at hv
  unfold tokR at hv
  injection hv with hv
  injection hv with hv _
  injection hv with hv
  rw [hrun, hv]
theorem MapV.store (h : MapV w P K b n m) (hk : P.underlying K = some (.int .i64)) (ht : P.underlying t = some (.map K e)) (hn : n < maxLen) (k : Int) (hw : (Lit.int .i64 k).wf = true) (x : Value) :
    ∃ w', (Instr.mapUpdate t (.map (some b)) (.int .i64 k) x).run P w = .ok () w' ∧ MapV w' P K b (n + 1) (updM m k (some x)) ∧ w.grownBy w' (some b) := by
  obtain ⟨D, h1, h2, h4⟩ := h
  obtain ⟨w', hrun, r1, r2⟩ := h1.update (int_keyed hk) ht hn (keyOf_int_mk hk hw) (show tokR x = some (.held x, []) from rfl)
  refine ⟨w', hrun, ⟨_, r1, h2.put _ _, fun j => ?_⟩, r2⟩
  unfold updM
  by_cases hj : j = k
  · subst hj
    rw [if_pos rfl, atKey_put_same (k := .int .i64 j) h2 trivial, has_put_same (k := .int .i64 j) h2 trivial]
    exact ⟨rfl, rfl⟩
  · rw [if_neg hj, atKey_put_other (by intro h; injection h with _ h; exact hj h), has_put_other (by intro h; injection h with _ h; exact hj h)]
    exact h4 j
theorem MapR.map (h : MapR w P K b r n m left cnt) : MapV w P K b n m := by
  obtain ⟨D, L, h1, h2, h3, _⟩ := h
  exact ⟨D, h1.owns, h2, h3⟩
theorem MapR.lt (h : MapR w P K b r n m left cnt) : r < w.heap.size := by obtain ⟨_, _, h1, _⟩ := h; exact h1.lt
theorem MapR.left_eq (h : MapR w P K b r n m left cnt) : w.rangeLeft b r = cnt := by obtain ⟨_, _, h1, _⟩ := h; exact h1.left_eq
theorem MapR.same (h : MapR w P K b r n m left cnt) (hb : w'.heap[b]? = w.heap[b]?) (hr : w'.heap[r]? = w.heap[r]?) : MapR w' P K b r n m left cnt := by
  obtain ⟨D, L, ⟨es, clock, since, seen, c0, h0, h1, h2, h3, h4, h5⟩, q⟩ := h
  exact ⟨D, L, ⟨es, clock, since, seen, c0, hb.trans h0, h1, h2, h3, hr.trans h4, h5⟩, q⟩
theorem MapR.ext (h : MapR w P K b r n m left cnt) (hb : Below w.heap.size w w') : MapR w' P K b r n m left cnt := h.same (hb.block b h.map.lt) (hb.block r h.lt)
theorem MapV.range (h : MapV w P K b n m) (hk : P.underlying K = some (.int .i64)) (ht : P.underlying t = some (.map K e)) :
    ∃ w' cnt, (Instr.range t (.map (some b))).run P w = .ok (.pointer (some ⟨w.heap.size, 0, none⟩)) w' ∧ MapR w' P K b w.heap.size n m (fun k => (m k).isSome) cnt ∧ Below w.heap.size w w' := by
  obtain ⟨D, h1, h2, h3⟩ := h
  obtain ⟨w', hrun, hr, hg, _⟩ := h1.range (int_keyed hk) ht
  exact ⟨w', _, hrun, ⟨D, _, hr, h2, h3, fun k => (h3 k).2⟩, ⟨hg.os, hg.tape, hg.output, hg.size, fun k hk => hg.block k hk (by simp)⟩⟩
/-- The step: nothing is left, or one comes that was. -/
theorem MapR.next (h : MapR w P K b r n m left cnt) (hk : P.underlying K = some (.int .i64)) (ty : TypeId) :
    (cnt = 0 ∧ (∀ k, left k = false) ∧ (Instr.next (.pointer (some ⟨r, 0, none⟩)) false ty).run P w = .ok (.tuple #[.bool false]) w) ∨
    ∃ (k : Int) (w' : World) (cnt' : Nat), left k = true ∧ (Instr.next (.pointer (some ⟨r, 0, none⟩)) false ty).run P w = .ok (.tuple #[.bool true, .int .i64 k, (m k).getD nilS]) w' ∧
      MapR w' P K b r n m (fun j => left j && !decide (j = k)) cnt' ∧ cnt' < cnt ∧ w.grownBy w' (some r) ∧ w'.heap.size = w.heap.size ∧ (Instr.entry (.pointer (some ⟨r, 0, none⟩))).run P w' = .ok (.tuple #[.int .i64 k, (m k).getD nilS]) w' := by
  obtain ⟨D, L, h1, h2, h3, h4⟩ := h
  rcases h1.next (int_keyed hk) ty with ⟨q1, q2, q3⟩ | ⟨key, v, kl, y, w', cnt', q1, q2, q3, q4, q5, q6, q7, q8, q9, q10⟩
  · exact Or.inl ⟨q1, fun k => by rw [← h4 k]; exact q2 _, q3⟩
  · obtain ⟨x, rfl, rfl, hw⟩ := keyOf_int_inv hk q1
    have e1 := q4 (.held nilS)
    unfold tokR at q3
    injection q3 with q3
    subst q3
    rw [(h3 x).1] at e1
    injection e1 with e1
    rw [← e1] at q5 q10
    refine Or.inr ⟨x, w', cnt', by rw [← h4 x]; exact q2, q5, ⟨D, _, q6, h2, h3, fun j => ?_⟩, q7, q8, q9, q10⟩
    simp only [h4 j]
    by_cases hj : j = x
    · subst hj
      simp [Lit.sameKey]
    · have hne : Lit.int .i64 j ≠ Lit.int .i64 x := fun h => by injection h with _ h; exact hj h
      rw [Maps.sameKey_ne hne]
      simp [hj]
end

section
variable {P : Program} {ops : Array Oper} {rest : List Oper} {o : Oper} {a : Act} {w : World} {L : Act → World → Prop} {Q : Exit → Act → World → Prop} {b r n : Nat} {m : Int → Option Value} {left : Int → Bool} {cnt : Nat}
theorem exec_lookV {o : Oper} (t : TypeId) (x y : Operand) (ho : o.op = .lookup t x y false) (K e : TypeId) (hk : P.underlying K = some (.int .i64)) (ht : P.underlying t = some (.map K e)) (hz : (P.info? e).map (·.zero) = some (some nilS))
    (hx : a.eval x = .map (some b)) (hM : MapV w P K b n m) (k : Int) (hy : a.eval y = .int .i64 k) (hw : (Lit.int .i64 k).wf = true) : (execOp a.eval o).run P w = .ok (.value ((m k).getD nilS)) w := by
  unfold execOp
  simp only [ho, hx, hy, Sem.run_bind, Sem.run_pure, Result.andThen_ok, hM.look hk ht hz k hw]
theorem wpList_lookV (hgd : Region.wanted o (yielded ops a.tmps) = true) (t : TypeId) (x y : Operand) (ho : o.op = .lookup t x y false) (K e : TypeId) (hk : P.underlying K = some (.int .i64)) (ht : P.underlying t = some (.map K e)) (hz : (P.info? e).map (·.zero) = some (some nilS))
    (hx : a.eval x = .map (some b)) (hM : MapV w P K b n m) (k : Int) (hy : a.eval y = .int .i64 k) (hw : (Lit.int .i64 k).wf = true) (u : Value) (hu : (m k).getD nilS = u) (h : wpList P ops Q rest (a.put o.dst u) w) : wpList P ops Q (o :: rest) a w := by
  refine wpList_wanted hgd fun K' hK => ?_
  unfold Oper.wp
  rw [exec_lookV t x y ho K e hk ht hz hx hM k hy hw, hu]
  exact hK _ _ h
theorem ow_mapV_store (t : TypeId) (x y z : Operand) (ho : o.op = .mapUpdate t x y z) (K e : TypeId) (hk : P.underlying K = some (.int .i64)) (ht : P.underlying t = some (.map K e))
    (hx : a.eval x = .map (some b)) (hM : MapV w P K b n m) (hn : n < maxLen) (k : Int) (hy : a.eval y = .int .i64 k) (hw : (Lit.int .i64 k).wf = true) (u : Value) (hz : a.eval z = u)
    (h : Stop (∀ w', Hid (MapV w' P K b (n + 1) (updM m k (some u))) → Hid (w.grownBy w' (some b)) → L (a.put o.dst undef) w')) : o.wp P a w L Q := by
  obtain ⟨w', hrun, r1, r2⟩ := hM.store hk ht hn k hw u
  unfold Oper.wp execOp
  simp only [ho, hx, hy, hz, Sem.run_bind, Sem.run_pure, Result.andThen_ok, hrun]
  exact h w' r1 r2
theorem wpList_mapV_store (hgd : Region.wanted o (yielded ops a.tmps) = true) (t : TypeId) (x y z : Operand) (ho : o.op = .mapUpdate t x y z) (K e : TypeId) (hk : P.underlying K = some (.int .i64)) (ht : P.underlying t = some (.map K e))
    (hx : a.eval x = .map (some b)) (hM : MapV w P K b n m) (hn : n < maxLen) (k : Int) (hy : a.eval y = .int .i64 k) (hw : (Lit.int .i64 k).wf = true) (u : Value) (hz : a.eval z = u)
    (h : Stop (∀ w', Hid (MapV w' P K b (n + 1) (updM m k (some u))) → Hid (w.grownBy w' (some b)) → wpList P ops Q rest (a.put o.dst undef) w')) : wpList P ops Q (o :: rest) a w :=
  wpList_wanted hgd fun _ hK => ow_mapV_store t x y z ho K e hk ht hx hM hn k hy hw u hz (fun w' h1 h2 => hK _ _ (h w' h1 h2))
theorem wpList_makeV (hgd : Region.wanted o (yielded ops a.tmps) = true) (t : TypeId) (ho : o.op = .makeMap t none) (K0 : TypeId)
    (h : Stop (∀ w', Hid (Grew w w') → Hid (MapV w' P K0 w.heap.size 0 (fun _ => none)) → wpList P ops Q rest (a.put o.dst (.map (some w.heap.size))) w')) : wpList P ops Q (o :: rest) a w := by
  refine wpList_wanted hgd fun K hK => ?_
  have hr : (Instr.makeMap t none).run P w = .ok (.map (some w.heap.size)) (w.alloc (.map #[] 0)) := rfl
  unfold Oper.wp execOp
  simp only [ho, Sem.run_bind, Sem.run_pure, Option.map_none, hr, Result.andThen_ok]
  exact hK _ _ (h _ (Grew.alloc w _) (MapV.made w P K0))
theorem wpList_rangeV (hgd : Region.wanted o (yielded ops a.tmps) = true) (t : TypeId) (x : Operand) (ho : o.op = .range t x) (K e : TypeId) (hk : P.underlying K = some (.int .i64)) (ht : P.underlying t = some (.map K e))
    (hx : a.eval x = .map (some b)) (hM : MapV w P K b n m)
    (h : Stop (∀ w' cnt, Hid (MapR w' P K b w.heap.size n m (fun k => (m k).isSome) cnt) → Hid (Below w.heap.size w w') → wpList P ops Q rest (a.put o.dst (.pointer (some ⟨w.heap.size, 0, none⟩))) w')) : wpList P ops Q (o :: rest) a w := by
  refine wpList_wanted hgd fun K' hK => ?_
  obtain ⟨w', cnt, hrun, r1, r2⟩ := hM.range hk ht
  unfold Oper.wp execOp
  simp only [ho, hx, Sem.run_bind, Sem.run_pure, Result.andThen_ok, hrun]
  exact hK _ _ (h w' cnt r1 r2)
/-- The step, at the operation: two ways. -/
theorem wpList_nextV (hgd : Region.wanted o (yielded ops a.tmps) = true) (x : Operand) (ho : o.op = .next x false) (K : TypeId) (hk : P.underlying K = some (.int .i64))
    (hx : a.eval x = .pointer (some ⟨r, 0, none⟩)) (hM : MapR w P K b r n m left cnt)
    (h0 : Stop ((∀ k, left k = false) → wpList P ops Q rest (a.put o.dst (.tuple #[.bool false])) w))
    (h : Stop (∀ (k : Int) (w' : World) (cnt' : Nat), left k = true → Hid (MapR w' P K b r n m (fun j => left j && !decide (j = k)) cnt') → cnt' < cnt → Hid (w.grownBy w' (some r)) → w'.heap.size = w.heap.size → (Instr.entry (.pointer (some ⟨r, 0, none⟩))).run P w' = .ok (.tuple #[.int .i64 k, (m k).getD nilS]) w' → wpList P ops Q rest (a.put o.dst (.tuple #[.bool true, .int .i64 k, (m k).getD nilS])) w')) : wpList P ops Q (o :: rest) a w := by
  refine wpList_wanted hgd fun K' hK => ?_
  rcases hM.next hk o.type with ⟨_, q2, q3⟩ | ⟨k, w', cnt', q1, q2, q3, q4, q5, q6, q7⟩
  · unfold Oper.wp execOp
    simp only [ho, hx, Sem.run_bind, Sem.run_pure, Result.andThen_ok, q3]
    exact hK _ _ (h0 q2)
  · unfold Oper.wp execOp
    simp only [ho, hx, Sem.run_bind, Sem.run_pure, Result.andThen_ok, q2]
    exact hK _ _ (h k w' cnt' q1 q3 q4 q5 q6 q7)
end

end Go.Proofs.YtkakihbfhmiabaaGreat
