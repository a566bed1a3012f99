/-
  Values appended to none, in a block that is there; an empty slice made. Plain; no program is named here.
-/
import Derived.Test.YtmcinaigkjfehaaGr2
import Derived.Test.YtmcinaigkjfehaaPatO
namespace Go.Proofs.Ytmcinaigkjfehaa
open Go.RowKit

section
variable {P : Program} {ops : Array Oper} {rest : List Oper} {o : Oper} {a : Act} {w : World} {K : Act → World → Prop} {Q : Exit → Act → World → Prop}
/-- Values of one cell that are appended to none, whose block is there. -/
theorem run_append_none (P : Program) (w : World) (t ty e : TypeId) (ht : P.underlying t = some (.slice e)) (z : Value) (by_ : Nat) (hi : (P.info? e).map (fun i => (i.zero, i.size, i.bytes)) = some (some z, 1, by_)) (hz : z.cells.size = 1)
    (g0 : Nat) (hg0 : Blk w g0 e #[]) (A : Option Addr) (n c : Nat) (l : List Value) (hn : l.length = n) (hr : RC w A l) (h1c : ∀ u ∈ l, u.oneCell' = true) (hlen : n ≤ 140737488355328) (hby : n * by_ ≤ 140737488355328) :
    ∃ g c' w', (Builtin.append_ #[t, t] ty #[.slice (some ⟨g0, 0, none⟩) 0 0, .slice A n c]).run P w = .ok (.slice (some ⟨g, 0, none⟩) n c') w' ∧ RC w' (some ⟨g, 0, none⟩) l ∧ n ≤ c' ∧ c' ≤ maxLen ∧ w.grownBy w' (some g0) ∧ Below g0 w w' ∧ g0 ≤ g := by
  obtain ⟨i, h1, h2, h3, h4⟩ := info_parts hi
  by_cases h0 : n = 0
  · subst h0
    have hl : l = [] := List.eq_nil_of_length_eq_zero hn
    subst hl
    have hrun : (Builtin.append_ #[t, t] ty #[.slice (some ⟨g0, 0, none⟩) 0 0, .slice A 0 c]).run P w = .ok (.slice (some ⟨g0, 0, none⟩) 0 0) w := by
      cases A with
      | none => simp [Builtin.append_, run_underlying ht, sizeOf, typeInfo, h1, Builtin.lenOf, Builtin.firstCells, storeCells]
      | some ad => simp [Builtin.append_, run_underlying ht, sizeOf, typeInfo, h1, Builtin.lenOf, Builtin.firstCells, storeCells, loadCells, loadCellsFrom]
    exact ⟨_, _, _, hrun, RC.nil_ _ _, Nat.le_refl _, by unfold maxLen; omega, ⟨rfl, rfl, rfl, Nat.le_refl _, fun _ _ _ => rfl⟩, Below.refl _ _, Nat.le_refl _⟩
  · obtain ⟨ad, rfl, _⟩ := hr 0 (by omega)
    have hown : w.ownsRow g0 e 1 (.slice (some ⟨g0, 0, none⟩) 0 0) 0 [] := ⟨rfl, Or.inr ⟨g0, 0, #[], rfl, Nat.le_refl _, hg0, Nat.le_refl _, by unfold maxLen; omega, rfl, rfl⟩⟩
    obtain ⟨v', w', hrun, ho, hg, _⟩ := run_append_own (P := P) w g0 t ty e i z 1 by_ ht h1 h2 h3 h4 hz (by omega) _ 0 [] hown ad n c l (by simp [hn]) (fun j u hj => by
      obtain ⟨hjl, rfl⟩ := List.getElem?_eq_some_iff.1 hj
      obtain ⟨ad', e1, hc⟩ := hr j hjl
      injection e1 with e1
      subst e1
      exact hc) h1c (by unfold maxLen; omega) (by simpa using hby) (Nat.le_of_lt hg0.lt)
    have ho' : OwnC w' g0 e v' l := by
      unfold OwnC
      rw [hn]
      simpa using ho
    obtain ⟨hl, hx | ⟨g, cap, cur, hv, hb, hgr, hnc, hc, hs, htk⟩⟩ := id ho'
    · omega
    · obtain ⟨A', c', hv', hc1, hc2, hrd⟩ := ho'.read
      rw [hv] at hv'
      injection hv' with e1 e2 e3
      subst e1; subst e3
      refine ⟨g, cap, w', by rw [hrun, hv, hn], hrd, by omega, hc, hg, (Below.refl g0 w).grown hg (Nat.le_of_lt hg0.lt) ?_, hb⟩
      intro k hk
      simp [Value.ownBlock] at hk
      omega
theorem ow_append_none (s x : Operand) (t e : TypeId) (ho : o.op = .call { callee := .builtin .append, args := #[s, x], argTypes := #[t, t] })
    (ht : P.underlying t = some (.slice e)) (z : Value) (by_ : Nat) (hi : (P.info? e).map (fun i => (i.zero, i.size, i.bytes)) = some (some z, 1, by_)) (hz : z.cells.size = 1)
    (g0 : Nat) (hs : a.eval s = .slice (some ⟨g0, 0, none⟩) 0 0) (hg0 : Blk w g0 e #[]) (A : Option Addr) (n c : Nat) (l : List Value) (hx : a.eval x = .slice A n c) (hn : l.length = n) (hr : RC w A l) (h1c : ∀ u ∈ l, u.oneCell' = true) (hlen : n ≤ 140737488355328) (hby : n * by_ ≤ 140737488355328)
    (h : Stop (∀ g c' w', Hid (RC w' (some ⟨g, 0, none⟩) l) → Hid (n ≤ c' ∧ c' ≤ maxLen ∧ g0 ≤ g) → Hid (w.grownBy w' (some g0)) → Hid (Below g0 w w') → K (a.put o.dst (.slice (some ⟨g, 0, none⟩) n c')) w')) : o.wp P a w K Q := by
  obtain ⟨g, c', w', hrun, h1, h2, h3, h4, h5, h6⟩ := run_append_none P w t o.type e ht z by_ hi hz g0 hg0 A n c l hn hr h1c hlen hby
  unfold Oper.wp execOp
  simp only [ho, resolve, invoke, builtin, Sem.run_bind, Sem.run_pure, Result.andThen_ok, List.map_toArray, List.map_cons, List.map_nil, hs, hx, hrun]
  exact h g c' w' h1 ⟨h2, h3, h6⟩ h4 h5
/-- An empty slice. -/
theorem ow_build0b (t e : TypeId) (ho : o.op = .buildSlice t 0 #[]) (ht : P.underlying t = some (.slice e)) (hs : (P.info? e).map (·.size) = some 1)
    (h : Stop (∀ w', Hid (Grew w w') → Hid (Blk w' w.heap.size e #[]) → K (a.put o.dst (.slice (some ⟨w.heap.size, 0, none⟩) 0 0)) w')) : o.wp P a w K Q :=
  ow_build0 t e ho ht hs (h _ (Grew.alloc w _) (Blk.new w e _))
end
theorem ivals_one (l : List Int) : ∀ u ∈ ivals l, u.oneCell' = true := fun u hu => by
  obtain ⟨x, _, rfl⟩ := List.mem_map.1 hu
  rfl
/-- What is not empty lies in a block that is there; it stays where another one has changed. -/
theorem PV.lt {w : World} {p : Pt} {ad : Addr} {n c : Nat} (h : PV w p (some ad) n c) (hl : 0 < p.data.length) : ad.block < w.heap.size := by
  obtain ⟨ad', e, hc⟩ := h.read 0 hl
  injection e with e
  subst e
  have := block_lt_of_cell hc
  rwa [block_of_add] at this
theorem PV.grown {w w' : World} {p : Pt} {ad : Addr} {n c g0 : Nat} (h : PV w p (some ad) n c) (hg : w.grownBy w' (some g0)) (hne : 0 < p.data.length → ad.block ≠ g0) : PV w' p (some ad) n c :=
  ⟨h.lo, h.hi, h.len, h.cap, h.max, RB.same h.read fun hl a' e => by
    injection e with e
    subst e
    exact hg.block _ (h.lt hl) (fun e => hne hl (by injection e))⟩

end Go.Proofs.Ytmcinaigkjfehaa
