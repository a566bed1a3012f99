/-
  A map of the call's own that is keyed by an int, as a function: made, looked up (with 'ok' or without), written, struck from, counted. Plain; no program is named here.
-/
import Derived.Test.YtkakihbfhmiabaaGreatGrAA
import Derived.Maps.OwnSet
import Derived.Maps.OwnOps
namespace Go.Proofs.YtkakihbfhmiabaaGreat
open Go.RowKit Go.Maps

/-- Elements of one plain type: as values, as what they read as; which is the zero one. -/
structure El (P : Program) (e : TypeId) (β : Type) where
  v : β → Value
  l : β → Lit
  z : β
  ok : β → Prop
  zok : ok z
  rd : ∀ x, ok x → plainElem (H := Unit) P e (v x) = some (.lit (l x), [])
  inv : ∀ u x ps, plainElem (H := Unit) P e u = some (.lit (l x), ps) → u = v x
  zero : ∀ w, (zeroValue e).run P w = .ok (v z) w
theorem zero_of {P : Program} {e : TypeId} {u : Value} (hi : (P.info? e).map (·.zero) = some (some u)) (w : World) : (zeroValue e).run P w = .ok u w := by
  obtain ⟨i, h1, h2⟩ := Option.map_eq_some_iff.1 hi
  simp [zeroValue, typeInfo, h1, h2]
/-- bool. -/
def El.bool {P : Program} {e : TypeId} (he : P.underlying e = some .bool) (hi : (P.info? e).map (·.zero) = some (some (.bool false))) : El P e Bool where
  v := Value.bool
  l := Lit.bool
  z := false
  ok := fun _ => True
  zok := trivial
  rd := fun x _ => plainElem_bool he x
  inv := fun u x ps h => by
    unfold plainElem at h
    rw [he] at h
    cases u <;> simp at h
    rw [h.1]
  zero := zero_of hi
/-- int. -/
def El.int {P : Program} {e : TypeId} (he : P.underlying e = some (.int .i64)) (hi : (P.info? e).map (·.zero) = some (some (.int .i64 0))) : El P e Int where
  v := Value.int .i64
  l := Lit.int .i64
  z := 0
  ok := fun x => (Lit.int .i64 x).wf = true
  zok := by decide
  rd := fun _ hx => plainElem_int he hx
  inv := fun u x ps h => by
    obtain ⟨a, rfl, hz, _⟩ := plainElem_int_inv he h
    simp only [Prod.mk.injEq, DataW.lit.injEq, Lit.int.injEq] at hz
    rw [hz.1.2]
  zero := zero_of hi

/-- Block b is a map of at most n entries: this at this key. -/
def MapI {β : Type} (w : World) (P : Program) (K e : TypeId) (E : El P e β) (b n : Nat) (m : Int → Option β) : Prop :=
  ∃ D : DataW Unit, w.ownsMap P K (plainElem P e) b n D ∧ IsMap D ∧ (∀ k x, m k = some x → E.ok x) ∧ ∀ k, D.atKey (.int .i64 k) (.lit (E.l E.z)) = .lit (E.l ((m k).getD E.z)) ∧ Maps.has D (.int .i64 k) = (m k).isSome

section
variable {β : Type} {P : Program} {K e t : TypeId} {E : El P e β} {w w' : World} {b n : Nat} {m : Int → Option β}
theorem MapI.made (w : World) (P : Program) (K e : TypeId) (E : El P e β) : MapI (w.alloc (.map #[] 0)) P K e E w.heap.size 0 (fun _ => none) :=
  ⟨.map [], World.ownsMap_made w P K _, isMap_empty, fun _ x (h : none = some x) => (by cases h), fun _ => ⟨rfl, rfl⟩⟩
theorem MapI.lt (h : MapI w P K e E b n m) : b < w.heap.size := by obtain ⟨_, h1, _⟩ := h; exact h1.lt
theorem MapI.mono (h : MapI w P K e E b n m) {n' : Nat} (hn : n ≤ n') : MapI w P K e E b n' m := by
  obtain ⟨D, h1, h2⟩ := h
  exact ⟨D, h1.mono hn, h2⟩
/-- It stays where its block stays. -/
theorem MapI.same (h : MapI w P K e E b n m) (hb : w'.heap[b]? = w.heap[b]?) : MapI w' P K e E b n m := by
  obtain ⟨D, ⟨es, clock, h0, h1⟩, h2⟩ := h
  exact ⟨D, ⟨es, clock, hb.trans h0, h1⟩, h2⟩
theorem MapI.ext (h : MapI w P K e E b n m) (hb : Below w.heap.size w w') : MapI w' P K e E b n m := h.same (hb.block b h.lt)
theorem MapI.only (h : MapI w P K e E b n m) {g : Nat} (ho : Only w w' g) (hg : b ≠ g) : MapI w' P K e E b n m := h.same (ho.block b hg)
theorem MapI.grown (h : MapI w P K e E b n m) {row : Option Nat} (hg : w.grownBy w' row) (hne : some b ≠ row) : MapI w' P K e E b n m := h.same (hg.block b h.lt hne)
/-- m[k]. -/
theorem MapI.look (h : MapI w P K e E b n m) (hk : P.underlying K = some (.int .i64)) (ht : P.underlying t = some (.map K e)) (k : Int) (hw : (Lit.int .i64 k).wf = true) :
    (Instr.lookup t (.map (some b)) (.int .i64 k) false).run P w = .ok (E.v ((m k).getD E.z)) w := by
  obtain ⟨D, h1, _, _, h4⟩ := h
  obtain ⟨v, ps, hrun, hv⟩ := h1.lookup (int_keyed hk) ht (E.zero w) (E.rd _ E.zok) (keyOf_int_mk hk hw)
  rw [(h4 k).1] at hv
  rw [hrun, E.inv _ _ _ hv]
/-- v, ok := m[k]. -/
theorem MapI.look_ok (h : MapI w P K e E b n m) (hk : P.underlying K = some (.int .i64)) (ht : P.underlying t = some (.map K e)) (k : Int) (hw : (Lit.int .i64 k).wf = true) :
    (Instr.lookup t (.map (some b)) (.int .i64 k) true).run P w = .ok (.tuple #[E.v ((m k).getD E.z), .bool (m k).isSome]) w := by
  obtain ⟨D, h1, _, _, h4⟩ := h
  obtain ⟨v, ps, hrun, hv⟩ := h1.look_ok (int_keyed hk) ht (E.zero w) (E.rd _ E.zok) (keyOf_int_mk hk hw)
  rw [(h4 k).1] at hv
  rw [hrun, E.inv _ _ _ hv, (h4 k).2]
/-- The function with another value at one key. -/
def updM (m : Int → Option β) (k : Int) (x : Option β) : Int → Option β := fun j => if j = k then x else m j
/-- m[k] = x. -/
theorem MapI.store (h : MapI w P K e E b n m) (hk : P.underlying K = some (.int .i64)) (ht : P.underlying t = some (.map K e)) (hn : n < maxLen) (k : Int) (hw : (Lit.int .i64 k).wf = true) (x : β) (hx : E.ok x) :
    ∃ w', (Instr.mapUpdate t (.map (some b)) (.int .i64 k) (E.v x)).run P w = .ok () w' ∧ MapI w' P K e E b (n + 1) (updM m k (some x)) ∧ w.grownBy w' (some b) := by
  obtain ⟨D, h1, h2, h3, h4⟩ := h
  obtain ⟨w', hrun, r1, r2⟩ := h1.update (int_keyed hk) ht hn (keyOf_int_mk hk hw) (E.rd x hx)
  refine ⟨w', hrun, ⟨_, r1, h2.put _ _, fun j y hy => ?_, fun j => ?_⟩, r2⟩
  · unfold updM at hy
    split at hy
    · injection hy with hy
      rw [← hy]
      exact hx
    · exact h3 j y hy
  · unfold updM
    by_cases hj : j = k
    · subst hj
      rw [if_pos rfl, atKey_put_same (k := .int .i64 j) h2 trivial, has_put_same (k := .int .i64 j) h2 trivial]
      exact ⟨rfl, rfl⟩
    · rw [if_neg hj, atKey_put_other (by intro h; injection h with _ h; exact hj h), has_put_other (by intro h; injection h with _ h; exact hj h)]
      exact h4 j
end

section
variable {β : Type} {P : Program} {ops : Array Oper} {rest : List Oper} {o : Oper} {a : Act} {w : World} {L : Act → World → Prop} {Q : Exit → Act → World → Prop} {b n : Nat} {m : Int → Option β}
theorem exec_look {o : Oper} (t : TypeId) (x y : Operand) (ho : o.op = .lookup t x y false) (K e : TypeId) (E : El P e β) (hk : P.underlying K = some (.int .i64)) (ht : P.underlying t = some (.map K e))
    (hx : a.eval x = .map (some b)) (hM : MapI w P K e E b n m) (k : Int) (hy : a.eval y = .int .i64 k) (hw : (Lit.int .i64 k).wf = true) : (execOp a.eval o).run P w = .ok (.value (E.v ((m k).getD E.z))) w := by
  unfold execOp
  simp only [ho, hx, hy, Sem.run_bind, Sem.run_pure, Result.andThen_ok, hM.look hk ht k hw]
theorem exec_look_ok {o : Oper} (t : TypeId) (x y : Operand) (ho : o.op = .lookup t x y true) (K e : TypeId) (E : El P e β) (hk : P.underlying K = some (.int .i64)) (ht : P.underlying t = some (.map K e))
    (hx : a.eval x = .map (some b)) (hM : MapI w P K e E b n m) (k : Int) (hy : a.eval y = .int .i64 k) (hw : (Lit.int .i64 k).wf = true) : (execOp a.eval o).run P w = .ok (.value (.tuple #[E.v ((m k).getD E.z), .bool (m k).isSome])) w := by
  unfold execOp
  simp only [ho, hx, hy, Sem.run_bind, Sem.run_pure, Result.andThen_ok, hM.look_ok hk ht k hw]
theorem wpList_look (hgd : Region.wanted o (yielded ops a.tmps) = true) (t : TypeId) (x y : Operand) (ho : o.op = .lookup t x y false) (K e : TypeId) (E : El P e β) (hk : P.underlying K = some (.int .i64)) (ht : P.underlying t = some (.map K e))
    (hx : a.eval x = .map (some b)) (hM : MapI w P K e E b n m) (k : Int) (hy : a.eval y = .int .i64 k) (hw : (Lit.int .i64 k).wf = true) (u : Value) (hu : E.v ((m k).getD E.z) = u) (h : wpList P ops Q rest (a.put o.dst u) w) : wpList P ops Q (o :: rest) a w := by
  refine wpList_wanted hgd fun K' hK => ?_
  unfold Oper.wp
  rw [exec_look t x y ho K e E hk ht hx hM k hy hw, hu]
  exact hK _ _ h
theorem wpList_look_ok (hgd : Region.wanted o (yielded ops a.tmps) = true) (t : TypeId) (x y : Operand) (ho : o.op = .lookup t x y true) (K e : TypeId) (E : El P e β) (hk : P.underlying K = some (.int .i64)) (ht : P.underlying t = some (.map K e))
    (hx : a.eval x = .map (some b)) (hM : MapI w P K e E b n m) (k : Int) (hy : a.eval y = .int .i64 k) (hw : (Lit.int .i64 k).wf = true) (u : Value) (hu : E.v ((m k).getD E.z) = u) (r : Bool) (hr : (m k).isSome = r)
    (h : wpList P ops Q rest (a.put o.dst (.tuple #[u, .bool r])) w) : wpList P ops Q (o :: rest) a w := by
  refine wpList_wanted hgd fun K' hK => ?_
  unfold Oper.wp
  rw [exec_look_ok t x y ho K e E hk ht hx hM k hy hw, hu, hr]
  exact hK _ _ h
theorem ow_map_store (t : TypeId) (x y z : Operand) (ho : o.op = .mapUpdate t x y z) (K e : TypeId) (E : El P e β) (hk : P.underlying K = some (.int .i64)) (ht : P.underlying t = some (.map K e))
    (hx : a.eval x = .map (some b)) (hM : MapI w P K e E b n m) (hn : n < maxLen) (k : Int) (hy : a.eval y = .int .i64 k) (hw : (Lit.int .i64 k).wf = true) (u : β) (hz : a.eval z = E.v u) (hu : E.ok u)
    (h : Stop (∀ w', Hid (MapI w' P K e E b (n + 1) (updM m k (some u))) → Hid (w.grownBy w' (some b)) → L (a.put o.dst undef) w')) : o.wp P a w L Q := by
  obtain ⟨w', hrun, r1, r2⟩ := hM.store hk ht hn k hw u hu
  unfold Oper.wp execOp
  simp only [ho, hx, hy, hz, Sem.run_bind, Sem.run_pure, Result.andThen_ok, hrun]
  exact h w' r1 r2
theorem wpList_map_store (hgd : Region.wanted o (yielded ops a.tmps) = true) (t : TypeId) (x y z : Operand) (ho : o.op = .mapUpdate t x y z) (K e : TypeId) (E : El P e β) (hk : P.underlying K = some (.int .i64)) (ht : P.underlying t = some (.map K e))
    (hx : a.eval x = .map (some b)) (hM : MapI w P K e E b n m) (hn : n < maxLen) (k : Int) (hy : a.eval y = .int .i64 k) (hw : (Lit.int .i64 k).wf = true) (u : β) (hz : a.eval z = E.v u) (hu : E.ok u)
    (h : Stop (∀ w', Hid (MapI w' P K e E b (n + 1) (updM m k (some u))) → Hid (w.grownBy w' (some b)) → wpList P ops Q rest (a.put o.dst undef) w')) : wpList P ops Q (o :: rest) a w :=
  wpList_wanted hgd fun _ hK => ow_map_store t x y z ho K e E hk ht hx hM hn k hy hw u hz hu (fun w' h1 h2 => hK _ _ (h w' h1 h2))
end

end Go.Proofs.YtkakihbfhmiabaaGreat
