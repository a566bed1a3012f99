/-
  Contracts of package ready's Find, Of.
-/
import Derived.Test.YtckkdfpmibipfaaCg9
import Derived.Test.YtckkdfpmibipfaaCg8
import Derived.Test.YtckkdfpmibipfaaLw9a
namespace Go.Proofs.Ytckkdfpmibipfaa
open Go.RowKit

section
variable {P : Program} {ops : Array Oper} {rest : List Oper} {o : Oper} {a : Act} {w : World} {Q : Exit → Act → World → Prop}
theorem bodyPost_struct_tmp {R : Ending → World → Prop} {fn : Func} {p q : Tmp} {t : TypeId} (hf : fn.results = #[ResultVar.cell p t, ResultVar.tmp q]) (g : Nat) (hp : a.tmps.getD p undef = .pointer (some ⟨g, 0, none⟩)) (t' : TypeId) (cs : Array Value) (hg : Blk w g t' cs)
    (d : TypeDesc) (hu : P.underlying t = some d) (hd1 : (match d with | .struct _ | .array _ _ => true | _ => false) = true) (hi : (P.info? t).map (·.size) = some cs.size) (hd : a.defers = []) (v : Value) (hq : a.tmps.getD q undef = v) (hR : Stop (R (.returned (.tuple #[.agg cs, v])) w)) : bodyPost P fn R .ret a w := by
  refine bodyPost_ret (v := .tuple #[.agg cs, v]) ?_ hd hR
  have hp' : a.tmps[p]?.getD undef = .pointer (some ⟨g, 0, none⟩) := by simpa using hp
  have hq' : a.tmps[q]?.getD undef = v := by simpa using hq
  simp [results, hf, hp', hq', asAddr, run_loadVar_row w g t' t cs (0, 0) _ hg hu hd1 hi]
end
/-- The first of an ID, or that there is none. -/
def RetIdx (l : List Cg) (x : Int) (w : World) (e : Ending) (w' : World) : Prop := Below w.heap.size w w' ∧ ((∃ k : Nat, ∃ h : k < l.length, e = .returned (.int .i64 k) ∧ l[k].id = x ∧ ∀ j (h : j < l.length), j < k → l[j].id ≠ x) ∨ (e = .returned (.int .i64 (-1)) ∧ ∀ c ∈ l, c.id ≠ x))

/-- A result that is a change and whether there is one. -/
def RetF (w : World) (f : Option Cg) (e : Ending) (w' : World) : Prop := ∃ c Ad nd cd An nn cn, c = f.getD default ∧ e = .returned (.tuple #[.agg #[.int .i64 c.id, .int .i64 c.block, .int .i64 c.p.at_, .slice Ad nd cd, .slice An nn cn], .bool f.isSome]) ∧ CV w' c Ad nd cd An nn cn ∧ (∀ ad, Ad = some ad → w.heap.size ≤ ad.block) ∧ (∀ ad, An = some ad → w.heap.size ≤ ad.block) ∧ Below w.heap.size w w'
theorem findC_at {l : List Cg} {id : Int} {k : Nat} (hk : k < l.length) (h : l[k].id = id) (hb : ∀ j (h : j < l.length), j < k → l[j].id ≠ id) : findC l id = some l[k] := by
  unfold findC
  rw [splitId_at hk h (fun j hj => hb j (by omega) hj)]
  rfl
theorem findC_none {l : List Cg} {id : Int} (h : ∀ c ∈ l, c.id ≠ id) : findC l id = none := by
  unfold findC
  rw [splitId_none.2 h]
  rfl


end Go.Proofs.Ytckkdfpmibipfaa
