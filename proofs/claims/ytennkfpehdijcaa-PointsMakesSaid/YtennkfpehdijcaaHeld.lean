/-
  A region that draws its order, gone through in one order: what hangs on S alone is taken first; a call comes up alone. Plain; no program is named here.
-/
import Derived.Test.YtennkfpehdijcaaBase
import Derived.Deep.RegionHeld
namespace Go.Proofs.Ytennkfpehdijcaa
open Go.RowKit

/-- A frame behind a value that was put, and a row of Bools, written out. -/
theorem setL : (∀ (t : Array Value) (d : List Deferred) (k : Tmp) (v : Value), Act.put ⟨t, d⟩ (some k) v = ⟨t.setIfInBounds k v, d⟩) ∧ (∀ (t : Array Value) (d : List Deferred) (v : Value), Act.put ⟨t, d⟩ none v = ⟨t, d⟩) ∧ (∀ (l : List Value) (k : Nat) (v : Value), l.toArray.setIfInBounds k v = (l.set k v).toArray) ∧ (∀ (x : Value) (l : List Value) (v : Value), (x :: l).set 0 v = v :: l) ∧ (∀ (x : Value) (l : List Value) (k : Nat) (v : Value), (x :: l).set (k + 1) v = x :: l.set k v) ∧ (∀ (x : Bool) (l : List Bool) (v : Bool), (x :: l).set 0 v = v :: l) ∧ (∀ (x : Bool) (l : List Bool) (k : Nat) (v : Bool), (x :: l).set (k + 1) v = x :: l.set k v) :=
  ⟨fun _ _ _ _ => rfl, fun _ _ _ => rfl, fun _ _ _ => List.setIfInBounds_toArray .., fun _ _ _ => rfl, fun _ _ _ _ => rfl, fun _ _ _ => rfl, fun _ _ _ _ => rfl⟩
section
variable {P : Program} {l : List Oper} {Q : Exit → Act → World → Prop} {S : World → Prop} {listed : List Bool} {n : Nat} {a : Act} {w : World}

/-- What is left of the region: 'listed' tells which operations have come up. -/
def WH (P : Program) (l : List Oper) (Q : Exit → Act → World → Prop) (S : World → Prop) (listed : List Bool) (n : Nat) (a : Act) (w : World) : Prop :=
  wpAnyH P .any l.toArray Q S n listed.toArray a w

theorem WH.start {id : Nat} (listed : List Bool) (n : Nat) (hl : listed = List.replicate l.length false) (hn : l.length = n) (hm : P.follows .mixedOrders = true) (hS : S w.drew) (h : S w.drew → WH P l Q S listed n a w.drew) : (Code.region id l.toArray true).wp P Q a w :=
  wp_region_held_drew (S := S) hm hS fun hs => by
    have h' := h hs
    subst hl; subst hn
    have e : (List.replicate l.length false).toArray = Array.replicate l.toArray.size false := by simp
    unfold WH at h'
    rw [e] at h'
    simpa using h'

/-- The side conditions of a take, one Bool. -/
def takes (l : List Oper) (listed : List Bool) (i : Nat) : Bool := Region.noSelect l.toArray && Region.free .any l.toArray listed.toArray i && (Region.ready .any l.toArray listed.toArray).contains i

theorem WH.take (i : Nat) (o : Oper) (v : Value) (hi : l[i]? = some o) (ht : takes l listed i = true) (hQ : ∀ c a w, Q (.panic c) (a.put o.dst v) w → Q (.panic c) a w)
    (hw : Region.wanted o (yielded l.toArray a.tmps) = true) (hS : S w) (hy : ∀ w, S w → (execOp a.eval o).run P w = .ok (.value v) w)
    (h : WH P l Q S (listed.set i true) n (a.put o.dst v) w) : WH P l Q S listed (n + 1) a w := by
  simp only [takes, Bool.and_eq_true] at ht
  refine wpAnyH_take (i := i) (oi := o) (v := v) (by simpa using hi) ht.1.1 ht.1.2 ht.2 hQ (Or.inl ⟨hw, hy⟩) hS ?_
  unfold WH at h
  simpa using h
/-- .. with what is the same at every place laid in. -/
theorem WH.tk {v : Value} (i : Nat) {o : Oper} (h : WH P l Q S (listed.set i true) n (a.put o.dst v) w) (hi : l[i]? = some o := by exact rfl) (ht : takes l listed i = true := by kernel_rfl) (hQ : ∀ c a w, Q (.panic c) (a.put o.dst v) w → Q (.panic c) a w := by exact fun _ _ _ h => h)
    (hw : Region.wanted o (yielded l.toArray a.tmps) = true := by exact rfl) (hS : S w := by assumption) (hy : ∀ w, S w → (execOp a.eval o).run P w = .ok (.value v) w := by intro w hSw; (try dsimp only at hSw); first | (go_simp; done) | (go_simp; with_reducible rfl)) : WH P l Q S listed (n + 1) a w :=
  WH.take i o v hi ht hQ hw hS hy h
theorem WH.tv {v : Value} (i : Nat) {o : Oper} (hi : l[i]? = some o) (hy : ∀ w, S w → (execOp a.eval o).run P w = .ok (.value v) w) (h : WH P l Q S (listed.set i true) n (a.put o.dst v) w) (ht : takes l listed i = true := by kernel_rfl) (hQ : ∀ c a w, Q (.panic c) (a.put o.dst v) w → Q (.panic c) a w := by exact fun _ _ _ h => h)
    (hw : Region.wanted o (yielded l.toArray a.tmps) = true := by exact rfl) (hS : S w := by assumption) : WH P l Q S listed (n + 1) a w :=
  WH.take i o v hi ht hQ hw hS hy h
theorem WH.skip (i : Nat) (o : Oper) (hi : l[i]? = some o) (ht : takes l listed i = true) (hQ : ∀ c a w, Q (.panic c) (a.put o.dst undef) w → Q (.panic c) a w)
    (hw : Region.wanted o (yielded l.toArray a.tmps) = false) (hS : S w)
    (h : WH P l Q S (listed.set i true) n (a.put o.dst undef) w) : WH P l Q S listed (n + 1) a w := by
  simp only [takes, Bool.and_eq_true] at ht
  refine wpAnyH_take (i := i) (oi := o) (v := undef) (by simpa using hi) ht.1.1 ht.1.2 ht.2 hQ (Or.inr ⟨hw, rfl⟩) hS ?_
  unfold WH at h
  simpa using h

/-- The only one that may come up. -/
theorem WH.only (i : Nat) (o : Oper) (hi : l[i]? = some o) (hr : Region.ready .any l.toArray listed.toArray = [i]) (hw : Region.wanted o (yielded l.toArray a.tmps) = true)
    (h : ∀ K : Act → World → Prop, (∀ a' w', S w' → WH P l Q S (listed.set i true) n a' w' → K a' w') → o.wp P a w K Q) : WH P l Q S listed (n + 1) a w := by
  refine wpAnyH_all (rs := [i]) hr (by simp) fun j hj => ?_
  obtain rfl : j = i := by simpa using hj
  have hi' : l.toArray[j]? = some o := by simpa using hi
  unfold Go.wpOp
  simp only [hi', hw, if_true]
  refine Or.inl (h _ fun a' w' h1 h2 => ⟨h1, ?_⟩)
  unfold WH at h2
  simpa using h2
/-- The only one that may come up, behind a guard that keeps it back. -/
theorem WH.onlySkip (i : Nat) (o : Oper) (hi : l[i]? = some o) (hr : Region.ready .any l.toArray listed.toArray = [i]) (hw : Region.wanted o (yielded l.toArray a.tmps) = false) (hS : S w)
    (h : WH P l Q S (listed.set i true) n (a.put o.dst undef) w) : WH P l Q S listed (n + 1) a w := by
  refine wpAnyH_all (rs := [i]) hr (by simp) fun j hj => ?_
  obtain rfl : j = i := by simpa using hj
  have hi' : l.toArray[j]? = some o := by simpa using hi
  unfold Go.wpOp
  simp only [hi', hw]
  refine ⟨hS, ?_⟩
  unfold WH at h
  simpa using h
/-- The run of a load of a whole array. -/
theorem run_load_arr {o : Oper} (t : TypeId) (x : Operand) (ho : o.op = .load t x) (g : Nat) (hx : a.eval x = .pointer (some ⟨g, 0, none⟩)) (t' : TypeId) (cs : Array Value) (hg : Blk w g t' cs)
    (k : Nat) (e : TypeId) (hu : P.underlying t = some (.array k e)) (hi : (P.info? t).map (·.size) = some cs.size) : (execOp a.eval o).run P w = .ok (.value (.agg cs)) w := by
  unfold execOp
  simp only [ho, hx, Instr.loadAt, Instr.sureAddr, Sem.run_bind, Sem.run_pure, Result.andThen_ok, run_loadVar_row w g t' t cs (0, 0) _ hg hu rfl hi]

theorem WH.done (hr : Region.ready .any l.toArray listed.toArray = []) (h : Q .normal a w) : WH P l Q S listed n a w := wpAnyH_done hr h n
end

end Go.Proofs.Ytennkfpehdijcaa
