/-
  A map of the call's own from ints to values of one cell, as a function: what a value leads to is no part of it. Made, looked up (with 'ok' or without), written, struck from, gone through. Plain; no program is named here.
-/
import Derived.Test.YtkakihbfhmiabaaGreatMapV
import Derived.Maps.OwnSet
namespace Go.Proofs.YtkakihbfhmiabaaGreat
open Go.RowKit Go.Maps

/-- Block b is a map of at most n entries: this at this key. -/
def MapZ (zv : Value) (w : World) (P : Program) (K : TypeId) (b n : Nat) (m : Int → Option Value) : Prop :=
  ∃ D : DataW Value, w.ownsMap P K tokR b n D ∧ IsMap D ∧ ∀ k, D.atKey (.int .i64 k) (.held zv) = .held ((m k).getD zv) ∧ Maps.has D (.int .i64 k) = (m k).isSome
/-- The same map, gone through: block r is under way; which keys are still to come. -/
def MapZR (zv : Value) (w : World) (P : Program) (K : TypeId) (b r n : Nat) (m : Int → Option Value) (left : Int → Bool) (cnt : Nat) : Prop :=
  ∃ (D : DataW Value) (L : Lit → Bool), w.ranges P K tokR b r n D L cnt ∧ IsMap D ∧ (∀ k, D.atKey (.int .i64 k) (.held zv) = .held ((m k).getD zv) ∧ Maps.has D (.int .i64 k) = (m k).isSome) ∧ (∀ k, L (.int .i64 k) = left k)

section
variable {zv : Value} {P : Program} {K e t : TypeId} {w w' : World} {b r n : Nat} {m : Int → Option Value} {left : Int → Bool} {cnt : Nat}
theorem MapZ.made (zv : Value) (w : World) (P : Program) (K : TypeId) : MapZ zv (w.alloc (.map #[] 0)) P K w.heap.size 0 (fun _ => none) :=
  ⟨.map [], World.ownsMap_made w P K _, isMap_empty, fun _ => ⟨rfl, rfl⟩⟩
theorem MapZ.lt (h : MapZ zv w P K b n m) : b < w.heap.size := by obtain ⟨_, h1, _⟩ := h; exact h1.lt
theorem MapZ.mono (h : MapZ zv w P K b n m) {n' : Nat} (hn : n ≤ n') : MapZ zv w P K b n' m := by
  obtain ⟨D, h1, h2⟩ := h
  exact ⟨D, h1.mono hn, h2⟩
theorem MapZ.same (h : MapZ zv w P K b n m) (hb : w'.heap[b]? = w.heap[b]?) : MapZ zv w' P K b n m := by
  obtain ⟨D, ⟨es, clock, h0, h1⟩, h2⟩ := h
  exact ⟨D, ⟨es, clock, hb.trans h0, h1⟩, h2⟩
theorem MapZ.ext (h : MapZ zv w P K b n m) (hb : Below w.heap.size w w') : MapZ zv w' P K b n m := h.same (hb.block b h.lt)
theorem MapZ.below {B : Nat} (h : MapZ zv w P K b n m) (hb : Below B w w') (hB : b < B) : MapZ zv w' P K b n m := h.same (hb.block b hB)
theorem MapZ.only (h : MapZ zv w P K b n m) {g : Nat} (ho : Only w w' g) (hg : b ≠ g) : MapZ zv w' P K b n m := h.same (ho.block b hg)
theorem MapZ.look (h : MapZ zv w P K b n m) (hk : P.underlying K = some (.int .i64)) (ht : P.underlying t = some (.map K e)) (hz : (P.info? e).map (·.zero) = some (some zv)) (k : Int) (hw : (Lit.int .i64 k).wf = true) :
    (Instr.lookup t (.map (some b)) (.int .i64 k) false).run P w = .ok ((m k).getD zv) w := by
  obtain ⟨D, h1, _, h4⟩ := h
  obtain ⟨v, ps, hrun, hv⟩ := h1.lookup (int_keyed hk) ht (zero_of hz w) (show tokR zv = some (.held zv, []) from rfl) (keyOf_int_mk hk hw)
  rw [(h4 k).1] at hv
  unfold tokR at hv
  injection hv with hv
  injection hv with hv _
  injection hv with hv
  rw [hrun, hv]
theorem MapZ.store (h : MapZ zv w P K b n m) (hk : P.underlying K = some (.int .i64)) (ht : P.underlying t = some (.map K e)) (hn : n < maxLen) (k : Int) (hw : (Lit.int .i64 k).wf = true) (x : Value) :
    ∃ w', (Instr.mapUpdate t (.map (some b)) (.int .i64 k) x).run P w = .ok () w' ∧ MapZ zv w' P K b (n + 1) (updM m k (some x)) ∧ w.grownBy w' (some b) := by
  obtain ⟨D, h1, h2, h4⟩ := h
  obtain ⟨w', hrun, r1, r2⟩ := h1.update (int_keyed hk) ht hn (keyOf_int_mk hk hw) (show tokR x = some (.held x, []) from rfl)
  refine ⟨w', hrun, ⟨_, r1, h2.put _ _, fun j => ?_⟩, r2⟩
  unfold updM
  by_cases hj : j = k
  · subst hj
    rw [if_pos rfl, atKey_put_same (k := .int .i64 j) h2 trivial, has_put_same (k := .int .i64 j) h2 trivial]
    exact ⟨rfl, rfl⟩
  · rw [if_neg hj, atKey_put_other (by intro h; injection h with _ h; exact hj h), has_put_other (by intro h; injection h with _ h; exact hj h)]
    exact h4 j
theorem MapZ.grown (h : MapZ zv w P K b n m) {row : Option Nat} (hg : w.grownBy w' row) (hne : some b ≠ row) : MapZ zv w' P K b n m := h.same (hg.block b h.lt hne)
/-- v, ok := m[k]. -/
theorem MapZ.look_ok (h : MapZ zv w P K b n m) (hk : P.underlying K = some (.int .i64)) (ht : P.underlying t = some (.map K e)) (hz : (P.info? e).map (·.zero) = some (some zv)) (k : Int) (hw : (Lit.int .i64 k).wf = true) :
    (Instr.lookup t (.map (some b)) (.int .i64 k) true).run P w = .ok (.tuple #[(m k).getD zv, .bool (m k).isSome]) w := by
  obtain ⟨D, h1, _, h4⟩ := h
  obtain ⟨v, ps, hrun, hv⟩ := h1.look_ok (int_keyed hk) ht (zero_of hz w) (show tokR zv = some (.held zv, []) from rfl) (keyOf_int_mk hk hw)
  rw [(h4 k).1] at hv
  unfold tokR at hv
  injection hv with hv
  injection hv with hv _
  injection hv with hv
  rw [hrun, hv, (h4 k).2]
/-- delete(m, k). -/
theorem MapZ.drop (h : MapZ zv w P K b n m) (hk : P.underlying K = some (.int .i64)) (ht : P.underlying t = some (.map K e)) (k : Int) (hw : (Lit.int .i64 k).wf = true) (ty : TypeId) :
    ∃ w', (Builtin.delete_ #[t, K] ty #[.map (some b), .int .i64 k]).run P w = .ok (.tuple #[]) w' ∧ MapZ zv w' P K b n (updM m k none) ∧ Only w w' b := by
  obtain ⟨D, h1, h2, h4⟩ := h
  obtain ⟨w', hrun, r1, es, clock, es', clock', q1, rfl⟩ := h1.drop (int_keyed hk) ht (keyOf_int_mk hk hw) ty
  refine ⟨_, hrun, ⟨_, r1, h2.del _, fun j => ?_⟩, ⟨rfl, rfl, rfl, ?_, fun i hi => ?_⟩⟩
  · unfold updM
    by_cases hj : j = k
    · subst hj
      rw [if_pos rfl, atKey_del_same, has_del_same]
      exact ⟨rfl, rfl⟩
    · rw [if_neg hj, atKey_del_other (by intro h; injection h with _ h; exact hj h), has_del_other (by intro h; injection h with _ h; exact hj h)]
      exact h4 j
  · simp [Go.ChangeMaps.setBlock]
  · simp [Go.ChangeMaps.setBlock, Ne.symm hi]
theorem MapZR.map (h : MapZR zv w P K b r n m left cnt) : MapZ zv w P K b n m := by
  obtain ⟨D, L, h1, h2, h3, _⟩ := h
  exact ⟨D, h1.owns, h2, h3⟩
theorem MapZR.lt (h : MapZR zv w P K b r n m left cnt) : r < w.heap.size := by obtain ⟨_, _, h1, _⟩ := h; exact h1.lt
theorem MapZR.left_eq (h : MapZR zv w P K b r n m left cnt) : w.rangeLeft b r = cnt := by obtain ⟨_, _, h1, _⟩ := h; exact h1.left_eq
theorem MapZR.same (h : MapZR zv w P K b r n m left cnt) (hb : w'.heap[b]? = w.heap[b]?) (hr : w'.heap[r]? = w.heap[r]?) : MapZR zv w' P K b r n m left cnt := by
  obtain ⟨D, L, ⟨es, clock, since, seen, c0, h0, h1, h2, h3, h4, h5⟩, q⟩ := h
  exact ⟨D, L, ⟨es, clock, since, seen, c0, hb.trans h0, h1, h2, h3, hr.trans h4, h5⟩, q⟩
theorem MapZR.ext (h : MapZR zv w P K b r n m left cnt) (hb : Below w.heap.size w w') : MapZR zv w' P K b r n m left cnt := h.same (hb.block b h.map.lt) (hb.block r h.lt)
theorem MapZ.range (h : MapZ zv w P K b n m) (hk : P.underlying K = some (.int .i64)) (ht : P.underlying t = some (.map K e)) :
    ∃ w' cnt, (Instr.range t (.map (some b))).run P w = .ok (.pointer (some ⟨w.heap.size, 0, none⟩)) w' ∧ MapZR zv w' P K b w.heap.size n m (fun k => (m k).isSome) cnt ∧ Below w.heap.size w w' := by
  obtain ⟨D, h1, h2, h3⟩ := h
  obtain ⟨w', hrun, hr, hg, _⟩ := h1.range (int_keyed hk) ht
  exact ⟨w', _, hrun, ⟨D, _, hr, h2, h3, fun k => (h3 k).2⟩, ⟨hg.os, hg.tape, hg.output, hg.size, fun k hk => hg.block k hk (by simp)⟩⟩
/-- The step: nothing is left, or one comes that was. -/
theorem MapZR.next (h : MapZR zv w P K b r n m left cnt) (hk : P.underlying K = some (.int .i64)) (ty : TypeId) :
    (cnt = 0 ∧ (∀ k, left k = false) ∧ (Instr.next (.pointer (some ⟨r, 0, none⟩)) false ty).run P w = .ok (.tuple #[.bool false]) w) ∨
    ∃ (k : Int) (w' : World) (cnt' : Nat), left k = true ∧ (Instr.next (.pointer (some ⟨r, 0, none⟩)) false ty).run P w = .ok (.tuple #[.bool true, .int .i64 k, (m k).getD zv]) w' ∧
      MapZR zv w' P K b r n m (fun j => left j && !decide (j = k)) cnt' ∧ cnt' < cnt ∧ w.grownBy w' (some r) ∧ w'.heap.size = w.heap.size ∧ (Instr.entry (.pointer (some ⟨r, 0, none⟩))).run P w' = .ok (.tuple #[.int .i64 k, (m k).getD zv]) w' := by
  obtain ⟨D, L, h1, h2, h3, h4⟩ := h
  rcases h1.next (int_keyed hk) ty with ⟨q1, q2, q3⟩ | ⟨key, v, kl, y, w', cnt', q1, q2, q3, q4, q5, q6, q7, q8, q9, q10⟩
  · exact Or.inl ⟨q1, fun k => by rw [← h4 k]; exact q2 _, q3⟩
  · obtain ⟨x, rfl, rfl, hw⟩ := keyOf_int_inv hk q1
    have e1 := q4 (.held zv)
    unfold tokR at q3
    injection q3 with q3
    subst q3
    rw [(h3 x).1] at e1
    injection e1 with e1
    rw [← e1] at q5 q10
    refine Or.inr ⟨x, w', cnt', by rw [← h4 x]; exact q2, q5, ⟨D, _, q6, h2, h3, fun j => ?_⟩, q7, q8, q9, q10⟩
    simp only [h4 j]
    by_cases hj : j = x
    · subst hj
      simp [Lit.sameKey]
    · have hne : Lit.int .i64 j ≠ Lit.int .i64 x := fun h => by injection h with _ h; exact hj h
      rw [Maps.sameKey_ne hne]
      simp [hj]
end

section
variable {zv : Value} {P : Program} {ops : Array Oper} {rest : List Oper} {o : Oper} {a : Act} {w : World} {L : Act → World → Prop} {Q : Exit → Act → World → Prop} {b r n : Nat} {m : Int → Option Value} {left : Int → Bool} {cnt : Nat}
theorem exec_lookZ {o : Oper} (t : TypeId) (x y : Operand) (ho : o.op = .lookup t x y false) (K e : TypeId) (hk : P.underlying K = some (.int .i64)) (ht : P.underlying t = some (.map K e)) (hz : (P.info? e).map (·.zero) = some (some zv))
    (hx : a.eval x = .map (some b)) (hM : MapZ zv w P K b n m) (k : Int) (hy : a.eval y = .int .i64 k) (hw : (Lit.int .i64 k).wf = true) : (execOp a.eval o).run P w = .ok (.value ((m k).getD zv)) w := by
  unfold execOp
  simp only [ho, hx, hy, Sem.run_bind, Sem.run_pure, Result.andThen_ok, hM.look hk ht hz k hw]
theorem wpList_lookZ (hgd : Region.wanted o (yielded ops a.tmps) = true) (t : TypeId) (x y : Operand) (ho : o.op = .lookup t x y false) (K e : TypeId) (hk : P.underlying K = some (.int .i64)) (ht : P.underlying t = some (.map K e)) (hz : (P.info? e).map (·.zero) = some (some zv))
    (hx : a.eval x = .map (some b)) (hM : MapZ zv w P K b n m) (k : Int) (hy : a.eval y = .int .i64 k) (hw : (Lit.int .i64 k).wf = true) (u : Value) (hu : (m k).getD zv = u) (h : wpList P ops Q rest (a.put o.dst u) w) : wpList P ops Q (o :: rest) a w := by
  refine wpList_wanted hgd fun K' hK => ?_
  unfold Oper.wp
  rw [exec_lookZ t x y ho K e hk ht hz hx hM k hy hw, hu]
  exact hK _ _ h
theorem ow_mapZ_store (t : TypeId) (x y z : Operand) (ho : o.op = .mapUpdate t x y z) (K e : TypeId) (hk : P.underlying K = some (.int .i64)) (ht : P.underlying t = some (.map K e))
    (hx : a.eval x = .map (some b)) (hM : MapZ zv w P K b n m) (hn : n < maxLen) (k : Int) (hy : a.eval y = .int .i64 k) (hw : (Lit.int .i64 k).wf = true) (u : Value) (hz : a.eval z = u)
    (h : Stop (∀ w', Hid (MapZ zv w' P K b (n + 1) (updM m k (some u))) → Hid (w.grownBy w' (some b)) → L (a.put o.dst undef) w')) : o.wp P a w L Q := by
  obtain ⟨w', hrun, r1, r2⟩ := hM.store hk ht hn k hw u
  unfold Oper.wp execOp
  simp only [ho, hx, hy, hz, Sem.run_bind, Sem.run_pure, Result.andThen_ok, hrun]
  exact h w' r1 r2
theorem wpList_mapZ_store (hgd : Region.wanted o (yielded ops a.tmps) = true) (t : TypeId) (x y z : Operand) (ho : o.op = .mapUpdate t x y z) (K e : TypeId) (hk : P.underlying K = some (.int .i64)) (ht : P.underlying t = some (.map K e))
    (hx : a.eval x = .map (some b)) (hM : MapZ zv w P K b n m) (hn : n < maxLen) (k : Int) (hy : a.eval y = .int .i64 k) (hw : (Lit.int .i64 k).wf = true) (u : Value) (hz : a.eval z = u)
    (h : Stop (∀ w', Hid (MapZ zv w' P K b (n + 1) (updM m k (some u))) → Hid (w.grownBy w' (some b)) → wpList P ops Q rest (a.put o.dst undef) w')) : wpList P ops Q (o :: rest) a w :=
  wpList_wanted hgd fun _ hK => ow_mapZ_store t x y z ho K e hk ht hx hM hn k hy hw u hz (fun w' h1 h2 => hK _ _ (h w' h1 h2))
theorem exec_lookZ_ok {o : Oper} (t : TypeId) (x y : Operand) (ho : o.op = .lookup t x y true) (K e : TypeId) (hk : P.underlying K = some (.int .i64)) (ht : P.underlying t = some (.map K e)) (hz : (P.info? e).map (·.zero) = some (some zv))
    (hx : a.eval x = .map (some b)) (hM : MapZ zv w P K b n m) (k : Int) (hy : a.eval y = .int .i64 k) (hw : (Lit.int .i64 k).wf = true) : (execOp a.eval o).run P w = .ok (.value (.tuple #[(m k).getD zv, .bool (m k).isSome])) w := by
  unfold execOp
  simp only [ho, hx, hy, Sem.run_bind, Sem.run_pure, Result.andThen_ok, hM.look_ok hk ht hz k hw]
theorem wpList_lookZ_ok (hgd : Region.wanted o (yielded ops a.tmps) = true) (t : TypeId) (x y : Operand) (ho : o.op = .lookup t x y true) (K e : TypeId) (hk : P.underlying K = some (.int .i64)) (ht : P.underlying t = some (.map K e)) (hz : (P.info? e).map (·.zero) = some (some zv))
    (hx : a.eval x = .map (some b)) (hM : MapZ zv w P K b n m) (k : Int) (hy : a.eval y = .int .i64 k) (hw : (Lit.int .i64 k).wf = true) (u : Value) (hu : (m k).getD zv = u) (r : Bool) (hr : (m k).isSome = r)
    (h : wpList P ops Q rest (a.put o.dst (.tuple #[u, .bool r])) w) : wpList P ops Q (o :: rest) a w := by
  refine wpList_wanted hgd fun K' hK => ?_
  unfold Oper.wp
  rw [exec_lookZ_ok t x y ho K e hk ht hz hx hM k hy hw, hu, hr]
  exact hK _ _ h
theorem ow_mapZ_delete (x y : Operand) (t K : TypeId) (ho : o.op = .call { callee := .builtin .delete, args := #[x, y], argTypes := #[t, K] }) (e : TypeId) (hk : P.underlying K = some (.int .i64)) (ht : P.underlying t = some (.map K e))
    (hx : a.eval x = .map (some b)) (hM : MapZ zv w P K b n m) (k : Int) (hy : a.eval y = .int .i64 k) (hw : (Lit.int .i64 k).wf = true)
    (h : Stop (∀ w', Hid (MapZ zv w' P K b n (updM m k none)) → Hid (Only w w' b) → L (a.put o.dst (.tuple #[])) w')) : o.wp P a w L Q := by
  obtain ⟨w', hrun, r1, r2⟩ := hM.drop hk ht k hw o.type
  unfold Oper.wp execOp
  simp only [ho, resolve, invoke, builtin, hx, hy, Sem.run_bind, Sem.run_pure, Result.andThen_ok, List.map_toArray, List.map_cons, List.map_nil, hrun]
  exact h w' r1 r2
theorem wpList_mapZ_delete (hgd : Region.wanted o (yielded ops a.tmps) = true) (x y : Operand) (t K : TypeId) (ho : o.op = .call { callee := .builtin .delete, args := #[x, y], argTypes := #[t, K] }) (e : TypeId) (hk : P.underlying K = some (.int .i64)) (ht : P.underlying t = some (.map K e))
    (hx : a.eval x = .map (some b)) (hM : MapZ zv w P K b n m) (k : Int) (hy : a.eval y = .int .i64 k) (hw : (Lit.int .i64 k).wf = true)
    (h : Stop (∀ w', Hid (MapZ zv w' P K b n (updM m k none)) → Hid (Only w w' b) → wpList P ops Q rest (a.put o.dst (.tuple #[])) w')) : wpList P ops Q (o :: rest) a w :=
  wpList_wanted hgd fun _ hK => ow_mapZ_delete x y t K ho e hk ht hx hM k hy hw (fun w' h1 h2 => hK _ _ (h w' h1 h2))
theorem wpList_makeZ (hgd : Region.wanted o (yielded ops a.tmps) = true) (t : TypeId) (ho : o.op = .makeMap t none) (K0 : TypeId)
    (h : Stop (∀ w', Hid (Grew w w') → Hid (MapZ zv w' P K0 w.heap.size 0 (fun _ => none)) → wpList P ops Q rest (a.put o.dst (.map (some w.heap.size))) w')) : wpList P ops Q (o :: rest) a w := by
  refine wpList_wanted hgd fun K hK => ?_
  have hr : (Instr.makeMap t none).run P w = .ok (.map (some w.heap.size)) (w.alloc (.map #[] 0)) := rfl
  unfold Oper.wp execOp
  simp only [ho, Sem.run_bind, Sem.run_pure, Option.map_none, hr, Result.andThen_ok]
  exact hK _ _ (h _ (Grew.alloc w _) (MapZ.made zv w P K0))
theorem wpList_rangeZ (hgd : Region.wanted o (yielded ops a.tmps) = true) (t : TypeId) (x : Operand) (ho : o.op = .range t x) (K e : TypeId) (hk : P.underlying K = some (.int .i64)) (ht : P.underlying t = some (.map K e))
    (hx : a.eval x = .map (some b)) (hM : MapZ zv w P K b n m)
    (h : Stop (∀ w' cnt, Hid (MapZR zv w' P K b w.heap.size n m (fun k => (m k).isSome) cnt) → Hid (Below w.heap.size w w') → wpList P ops Q rest (a.put o.dst (.pointer (some ⟨w.heap.size, 0, none⟩))) w')) : wpList P ops Q (o :: rest) a w := by
  refine wpList_wanted hgd fun K' hK => ?_
  obtain ⟨w', cnt, hrun, r1, r2⟩ := hM.range hk ht
  unfold Oper.wp execOp
  simp only [ho, hx, Sem.run_bind, Sem.run_pure, Result.andThen_ok, hrun]
  exact hK _ _ (h w' cnt r1 r2)
/-- The step, at the operation: two ways. -/
theorem wpList_nextZ (hgd : Region.wanted o (yielded ops a.tmps) = true) (x : Operand) (ho : o.op = .next x false) (K : TypeId) (hk : P.underlying K = some (.int .i64))
    (hx : a.eval x = .pointer (some ⟨r, 0, none⟩)) (hM : MapZR zv w P K b r n m left cnt)
    (h0 : Stop ((∀ k, left k = false) → wpList P ops Q rest (a.put o.dst (.tuple #[.bool false])) w))
    (h : Stop (∀ (k : Int) (w' : World) (cnt' : Nat), left k = true → Hid (MapZR zv w' P K b r n m (fun j => left j && !decide (j = k)) cnt') → cnt' < cnt → Hid (w.grownBy w' (some r)) → w'.heap.size = w.heap.size → (Instr.entry (.pointer (some ⟨r, 0, none⟩))).run P w' = .ok (.tuple #[.int .i64 k, (m k).getD zv]) w' → wpList P ops Q rest (a.put o.dst (.tuple #[.bool true, .int .i64 k, (m k).getD zv])) w')) : wpList P ops Q (o :: rest) a w := by
  refine wpList_wanted hgd fun K' hK => ?_
  rcases hM.next hk o.type with ⟨_, q2, q3⟩ | ⟨k, w', cnt', q1, q2, q3, q4, q5, q6, q7⟩
  · unfold Oper.wp execOp
    simp only [ho, hx, Sem.run_bind, Sem.run_pure, Result.andThen_ok, q3]
    exact hK _ _ (h0 q2)
  · unfold Oper.wp execOp
    simp only [ho, hx, Sem.run_bind, Sem.run_pure, Result.andThen_ok, q2]
    exact hK _ _ (h k w' cnt' q1 q3 q4 q5 q6 q7)
end

end Go.Proofs.YtkakihbfhmiabaaGreat
