/-
  A list of the call's own appended to one new element: append([]T{x}, l...). Plain; no program is named here.
-/
import Derived.Test.YtdngfonbobcgjaaList
namespace Go.Proofs.Ytdngfonbobcgjaa
open Go.RowKit

section
variable {P : Program} {ops : Array Oper} {rest : List Oper} {o : Oper} {a : Act} {w : World} {Q : Exit → Act → World → Prop}

theorem run_append_front (P : Program) (w : World) (t ty e : TypeId) (ht : P.underlying t = some (.slice e)) (z : Value) (by_ : Nat) (hi : (P.info? e).map (fun i => (i.zero, i.size, i.bytes)) = some (some z, 1, by_)) (hz : z.cells.size = 1)
    (B : Nat) (v : Value) (l : List Value) (hown : OwnC w B e v l) (hl1 : ∀ u ∈ l, u.oneCell' = true) (X : Value) (hlen : 1 + l.length ≤ maxLen) (hby : (1 + l.length) * by_ ≤ 140737488355328) :
    ∃ v' w', (Builtin.append_ #[t, t] ty #[.slice (some ⟨w.heap.size, 0, none⟩) 1 1, v]).run P (w.alloc (.cells #[X] e)) = .ok v' w' ∧ OwnC w' w.heap.size e v' (X :: l) ∧ Below w.heap.size w w' := by
  obtain ⟨i, h1, h2, h3, h4⟩ := info_parts hi
  have hf : (w.alloc (.cells #[X] e)).ownsRow w.heap.size e 1 (.slice (some ⟨w.heap.size, 0, none⟩) 1 1) 1 [X] := World.ownsRow_lit w #[X] 1 (Nat.le_refl _) (by unfold maxLen; omega) rfl
  have hb : Below w.heap.size w (w.alloc (.cells #[X] e)) := (Below.refl _ _).alloc (Nat.le_refl _) _
  have hal : (w.alloc (.cells #[X] e)).ownsRow B e 1 v l.length l := World.ownsRow.alloc hown _
  rcases id hown.2 with ⟨rfl, hn⟩ | ⟨g, cap, cur, rfl, hbg, hg, hnc, hcm, hcs, htk⟩
  · have e0 : l = [] := List.eq_nil_of_length_eq_zero hn
    subst e0
    exact ⟨_, _, run_append_owned_none _ _ t ty e i 1 ht h1 _ 1 [X] hf, hf, hb⟩
  · have holds : ∀ j u, l[j]? = some u → (w.alloc (.cells #[X] e)).cell? ((⟨g, 0, none⟩ : Addr).add j) = some u := hal.cells (g := g) rfl
    obtain ⟨v', w', hr, ho, hg', _⟩ := run_append_own (P := P) (w.alloc (.cells #[X] e)) w.heap.size t ty e i z 1 by_ ht h1 h2 h3 h4 hz (by omega) _ 1 [X] hf ⟨g, 0, none⟩ l.length cap l (by simp) holds hl1 hlen hby hb.size
    refine ⟨v', w', hr, ?_, hb.grown hg' (by simp) ?_⟩
    · unfold OwnC
      rw [show (X :: l).length = 1 + l.length from by rw [List.length_cons]; omega]
      exact ho
    · intro k hk
      injection hk with hk
      exact Nat.le_of_eq hk
theorem wpList_append_front (hgd : Region.wanted o (yielded ops a.tmps) = true) (s x : Operand) (t e : TypeId) (ho : o.op = .call { callee := .builtin .append, args := #[s, x], argTypes := #[t, t] })
    (ht : P.underlying t = some (.slice e)) (z : Value) (by_ : Nat) (hi : (P.info? e).map (fun i => (i.zero, i.size, i.bytes)) = some (some z, 1, by_)) (hz : z.cells.size = 1)
    (B : Nat) (v : Value) (l : List Value) (hx : a.eval x = v) (hown : OwnC w B e v l) (hl1 : ∀ u ∈ l, u.oneCell' = true) (X : Value) (hs : a.eval s = .slice (some ⟨w.heap.size, 0, none⟩) 1 1)
    (hlen : 1 + l.length ≤ maxLen) (hby : (1 + l.length) * by_ ≤ 140737488355328)
    (h : Stop (∀ v' w', Hid (OwnC w' w.heap.size e v' (X :: l)) → Hid (Below w.heap.size w w') → wpList P ops Q rest (a.put o.dst v') w')) : wpList P ops Q (o :: rest) a (w.alloc (.cells #[X] e)) := by
  refine wpList_wanted hgd fun K hK => ?_
  obtain ⟨v', w', hr, h1, h2⟩ := run_append_front P w t o.type e ht z by_ hi hz B v l hown hl1 X hlen hby
  unfold Oper.wp execOp
  simp only [ho, resolve, invoke, builtin, Sem.run_bind, Sem.run_pure, Result.andThen_ok, List.map_toArray, List.map_cons, List.map_nil, hs, hx, hr]
  exact hK _ _ (h v' w' h1 h2)
end

end Go.Proofs.Ytdngfonbobcgjaa
