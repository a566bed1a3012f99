/-
  Many cells appended to a list of the call's own, wherever they lie, none too. Plain; no program is named here.
-/
import Derived.Test.YtfhghcodhacneaaGrC
import Derived.Laws.AppendOwn
namespace Go.Proofs.Ytfhghcodhacneaa
open Go.RowKit

theorem ivals_one (l : List Int) : ∀ u ∈ ivals l, u.oneCell' = true := fun u hu => by
  obtain ⟨x, _, rfl⟩ := List.mem_map.1 hu
  rfl
theorem grown_same (w : World) (r : Option Nat) : w.grownBy w r := ⟨rfl, rfl, rfl, Nat.le_refl _, fun _ _ _ => rfl⟩
section
variable {P : Program} {ops : Array Oper} {rest : List Oper} {o : Oper} {a : Act} {w : World} {K : Act → World → Prop} {Q : Exit → Act → World → Prop}
/-- append of many cells that lie somewhere to a list of the call's own. -/
theorem run_append_many (P : Program) (w : World) (t ty e : TypeId) (ht : P.underlying t = some (.slice e)) (z : Value) (by_ : Nat) (hi : (P.info? e).map (fun i => (i.zero, i.size, i.bytes)) = some (some z, 1, by_)) (hz : z.cells.size = 1)
    (B : Nat) (v : Value) (l : List Value) (hown : OwnC w B e v l) (A : Option Addr) (n c : Nat) (m : List Value) (hn : m.length = n) (hr : RC w A m) (h1 : ∀ u ∈ m, u.oneCell' = true) (hB : B ≤ w.heap.size) (hlen : l.length + n ≤ maxLen) (hby : (l.length + n) * by_ ≤ 140737488355328) :
    ∃ v' w', (Builtin.append_ #[t, t] ty #[v, .slice A n c]).run P w = .ok v' w' ∧ OwnC w' B e v' (l ++ m) ∧ w.grownBy w' v.ownBlock := by
  obtain ⟨i, q1, q2, q3, q4⟩ := info_parts hi
  have go : ∀ ad, (∀ j u, m[j]? = some u → w.cell? (ad.add j) = some u) → ∃ v' w', (Builtin.append_ #[t, t] ty #[v, .slice (some ad) n c]).run P w = .ok v' w' ∧ OwnC w' B e v' (l ++ m) ∧ w.grownBy w' v.ownBlock := fun ad hnews => by
    obtain ⟨v', w', hrun, ho, hg, _⟩ := run_append_own (P := P) w B t ty e i z 1 by_ ht q1 q2 q3 q4 hz (by omega) v l.length l hown ad n c m (by omega) hnews h1 hlen hby hB
    refine ⟨v', w', hrun, ?_, hg⟩
    unfold OwnC
    rw [List.length_append, hn]
    exact ho
  cases A with
  | none =>
    have h0 : n = 0 := by
      rcases Nat.eq_zero_or_pos n with h | h
      · exact h
      · obtain ⟨ad, e, _⟩ := hr 0 (by omega)
        cases e
    subst h0
    have hm : m = [] := List.eq_nil_of_length_eq_zero hn
    subst hm
    refine ⟨v, w, ?_, by rw [List.append_nil]; exact hown, grown_same _ _⟩
    rcases hown.2 with ⟨rfl, _⟩ | ⟨g, cap, cur, rfl, _, _, hnc, _⟩
    · simp [Builtin.append_, run_underlying ht, sizeOf, typeInfo, q1, Builtin.lenOf, Builtin.firstCells]
    · simp [Builtin.append_, run_underlying ht, sizeOf, typeInfo, q1, Builtin.lenOf, Builtin.firstCells, storeCells, hnc]
  | some ad =>
    refine go ad fun j u hj => ?_
    have hjl := (List.getElem?_eq_some_iff.1 hj).1
    obtain ⟨ad', e, hc⟩ := hr j hjl
    injection e with e
    subst e
    rw [hc, ← hj, List.getElem?_eq_getElem hjl]
theorem ow_append_many (s x : Operand) (t e : TypeId) (ho : o.op = .call { callee := .builtin .append, args := #[s, x], argTypes := #[t, t] })
    (ht : P.underlying t = some (.slice e)) (z : Value) (by_ : Nat) (hi : (P.info? e).map (fun i => (i.zero, i.size, i.bytes)) = some (some z, 1, by_)) (hz : z.cells.size = 1)
    (B : Nat) (v : Value) (l : List Value) (hs : a.eval s = v) (hown : OwnC w B e v l) (A : Option Addr) (n c : Nat) (m : List Value) (hx : a.eval x = .slice A n c) (hn : m.length = n) (hr : RC w A m) (h1 : ∀ u ∈ m, u.oneCell' = true) (hB : B ≤ w.heap.size) (hlen : l.length + n ≤ maxLen) (hby : (l.length + n) * by_ ≤ 140737488355328)
    (h : Stop (∀ v' w', Hid (OwnC w' B e v' (l ++ m)) → Hid (w.grownBy w' v.ownBlock) → K (a.put o.dst v') w')) : o.wp P a w K Q := by
  obtain ⟨v', w', hrun, r1, r2⟩ := run_append_many P w t o.type e ht z by_ hi hz B v l hown A n c m hn hr h1 hB hlen hby
  unfold Oper.wp execOp
  simp only [ho, resolve, invoke, builtin, Sem.run_bind, Sem.run_pure, Result.andThen_ok, List.map_toArray, List.map_cons, List.map_nil, hs, hx, hrun]
  exact h v' w' r1 r2
theorem wpList_append_many (hgd : Region.wanted o (yielded ops a.tmps) = true) (s x : Operand) (t e : TypeId) (ho : o.op = .call { callee := .builtin .append, args := #[s, x], argTypes := #[t, t] })
    (ht : P.underlying t = some (.slice e)) (z : Value) (by_ : Nat) (hi : (P.info? e).map (fun i => (i.zero, i.size, i.bytes)) = some (some z, 1, by_)) (hz : z.cells.size = 1)
    (B : Nat) (v : Value) (l : List Value) (hs : a.eval s = v) (hown : OwnC w B e v l) (A : Option Addr) (n c : Nat) (m : List Value) (hx : a.eval x = .slice A n c) (hn : m.length = n) (hr : RC w A m) (h1 : ∀ u ∈ m, u.oneCell' = true) (hB : B ≤ w.heap.size) (hlen : l.length + n ≤ maxLen) (hby : (l.length + n) * by_ ≤ 140737488355328)
    (h : Stop (∀ v' w', Hid (OwnC w' B e v' (l ++ m)) → Hid (w.grownBy w' v.ownBlock) → wpList P ops Q rest (a.put o.dst v') w')) : wpList P ops Q (o :: rest) a w :=
  wpList_wanted hgd fun _ hK => ow_append_many s x t e ho ht z by_ hi hz B v l hs hown A n c m hx hn hr h1 hB hlen hby (fun v' w' h1 h2 => hK _ _ (h v' w' h1 h2))
end

end Go.Proofs.Ytfhghcodhacneaa
