/-
  Rows of structs of N one-cell fields, of the call's own: one struct made as a slice, appended, read. Plain; no program is named here.
-/
import Derived.Test.YtfhghcodhacneaaGrC
import Derived.Great.BuildSlice
import Derived.Great.FillDense
import Derived.Deep.AppendLies
namespace Go.Proofs.Ytfhghcodhacneaa
open Go.RowKit

theorem flatN_len {N : Nat} {L : List (List Value)} (h : ∀ r ∈ L, r.length = N) : L.flatten.length = L.length * N := by
  induction L with
  | nil => simp
  | cons x L ih =>
    rw [List.flatten_cons, List.length_append, ih (fun r hr => h r (List.mem_cons_of_mem _ hr)), h x (by simp), List.length_cons, Nat.add_mul, Nat.one_mul, Nat.add_comm]
theorem flatN_get {N : Nat} {L : List (List Value)} (h : ∀ r ∈ L, r.length = N) {k i : Nat} (hk : k < L.length) (hi : i < N) : L.flatten[k * N + i]? = L[k][i]? := by
  induction L generalizing k with
  | nil => simp at hk
  | cons x L ih =>
    have hx := h x (by simp)
    rw [List.flatten_cons]
    cases k with
    | zero =>
      rw [Nat.zero_mul, Nat.zero_add, List.getElem?_append_left (by omega)]
      rfl
    | succ k =>
      have hk' : k < L.length := by simpa using hk
      rw [List.getElem?_append_right (by rw [hx, Nat.add_mul]; omega)]
      have e : (k + 1) * N + i - x.length = k * N + i := by rw [hx, Nat.add_mul]; omega
      rw [e, ih (fun r hr => h r (List.mem_cons_of_mem _ hr)) hk']
      rfl
/-- A slice with this address has these cells, N for each element. -/
def RN (w : World) (A : Option Addr) (N : Nat) (L : List (List Value)) : Prop :=
  ∀ k (h : k < L.length) i, i < N → ∃ ad x, A = some ad ∧ L[k][i]? = some x ∧ w.cell? (ad.add (k * N + i)) = some x
theorem RN.below {w w' : World} {A : Option Addr} {N : Nat} {L : List (List Value)} (h : RN w A N L) (hb : Below w.heap.size w w') : RN w' A N L := fun k hk i hi => by
  obtain ⟨ad, x, e, hx, hc⟩ := h k hk i hi
  exact ⟨ad, x, e, hx, by rw [hb.cell (block_lt_of_cell hc), hc]⟩
/-- .. of the call's own. -/
def OwnN (w : World) (B : Nat) (e : TypeId) (N : Nat) (v : Value) (L : List (List Value)) : Prop := (∀ r ∈ L, r.length = N) ∧ w.ownsRow B e N v L.length L.flatten
theorem OwnN.nil_ (w : World) (B : Nat) (e : TypeId) (N : Nat) : OwnN w B e N (.slice none 0 0) [] := ⟨fun r hr => by simp at hr, World.ownsRow_nil w B e N⟩
theorem OwnN.lt {w : World} {B : Nat} {e : TypeId} {N : Nat} {v : Value} {L : List (List Value)} (h : OwnN w B e N v L) : ∀ k, v.ownBlock = some k → B ≤ k ∧ k < w.heap.size := World.ownsRow.lt h.2
theorem OwnN.ext {w w' : World} {B : Nat} {e : TypeId} {N : Nat} {v : Value} {L : List (List Value)} (h : OwnN w B e N v L) (hb : Below w.heap.size w w') : OwnN w' B e N v L := by
  obtain ⟨hL, hl, h | ⟨g, cap, cur, hv, hbg, hg, h⟩⟩ := h
  · exact ⟨hL, hl, Or.inl h⟩
  · exact ⟨hL, hl, Or.inr ⟨g, cap, cur, hv, hbg, Blk.ext hg hb, h⟩⟩
theorem OwnN.read {w : World} {B : Nat} {e : TypeId} {N : Nat} {v : Value} {L : List (List Value)} (h : OwnN w B e N v L) : ∃ A c, v = .slice A L.length c ∧ L.length ≤ c ∧ c ≤ maxLen ∧ RN w A N L := by
  obtain ⟨hL, hl, h | ⟨g, cap, cur, hv, hb, hg, hn, hc, hs, ht⟩⟩ := h
  · refine ⟨none, 0, by rw [h.1, h.2], by omega, by unfold maxLen; omega, fun k hk => ?_⟩
    have := h.2
    omega
  · refine ⟨_, cap, hv, hn, hc, fun k hk i hi => ?_⟩
    have hil : i < L[k].length := by rw [hL _ (List.getElem_mem hk)]; exact hi
    refine ⟨_, L[k][i], rfl, List.getElem?_eq_getElem hil, ?_⟩
    have h2 : (cur.toList.take (L.length * N))[k * N + i]? = L.flatten[k * N + i]? := by rw [ht]
    have hlt : k * N + i < L.length * N := by
      have : (k + 1) * N ≤ L.length * N := Nat.mul_le_mul_right N hk
      rw [Nat.add_mul] at this
      omega
    rw [List.getElem?_take_of_lt hlt, flatN_get hL hk hi, List.getElem?_eq_getElem hil] at h2
    rw [addr_add0, cell_of_row w g _ cur e (0, 0) hg]
    simpa using h2
/-- .. no element of which is there: the block is empty, or there is none. -/
theorem OwnN.zero (w : World) (B : Nat) (e : TypeId) (N g : Nat) (hB : B ≤ g) (hg : Blk w g e #[]) : OwnN w B e N (.slice (some ⟨g, 0, none⟩) 0 0) [] :=
  ⟨fun r hr => by simp at hr, by simp, Or.inr ⟨g, 0, #[], rfl, hB, hg, Nat.le_refl _, by unfold maxLen; omega, by simp, by simp⟩⟩

section
variable {P : Program} {ops : Array Oper} {rest : List Oper} {o : Oper} {a : Act} {w : World} {K : Act → World → Prop} {Q : Exit → Act → World → Prop}
/-- A slice of one struct. -/
theorem run_build_row (P : Program) (w : World) (t e : TypeId) (ht : P.underlying t = some (.slice e)) (N by_ : Nat) (z : Value) (hi : (P.info? e).map (fun i => (i.zero, i.size, i.bytes)) = some (some z, N, by_)) (h0 : 0 < N) (hN : N ≤ 65536) (cs : Array Value) (hcs : cs.size = N) :
    (Instr.buildSlice t 1 #[(0, .agg cs)]).run P w = .ok (.slice (some ⟨w.heap.size, 0, none⟩) 1 1) (w.alloc (.cells cs e)) := by
  obtain ⟨i, h1, h2, h3, h4⟩ := info_parts hi
  have hsz : ((Array.range (1 * N)).map (z.cells[· % z.cells.size]!)).size = N := by rw [Array.size_map, Array.size_range, Nat.one_mul]
  have hf : Instr.fill (fun j => some (j * N, N)) ((Array.range (1 * N)).map (z.cells[· % z.cells.size]!)) [(0, .agg cs)] = some cs := by
    generalize (Array.range (1 * N)).map (z.cells[· % z.cells.size]!) = c0 at hsz
    have hw := Go.Great.fill_whole (s := N) h0 [.agg cs] c0 (fun v hv => by
      rw [List.mem_singleton] at hv
      subst hv
      exact hcs) (by rw [hsz, List.length_singleton, Nat.one_mul])
    have e1 : (([.agg cs] : List Value).flatMap fun v => v.cells.toList).toArray = cs := by
      rw [List.flatMap_cons, List.flatMap_nil, List.append_nil]
      exact Array.toArray_toList
    rw [e1] at hw
    exact hw
  exact run_buildSlice (P := P) w t e 1 #[(0, .agg cs)] cs i z ht h1 h2 (by rw [h3]; omega) (by rw [h3]; omega) (by rw [h3]; exact hf)
theorem ow_build_row (t e : TypeId) (x : Operand) (ho : o.op = .buildSlice t 1 #[(0, x)]) (ht : P.underlying t = some (.slice e)) (N by_ : Nat) (z : Value) (hi : (P.info? e).map (fun i => (i.zero, i.size, i.bytes)) = some (some z, N, by_)) (h0 : 0 < N) (hN : N ≤ 65536)
    (cs : Array Value) (hx : a.eval x = .agg cs) (hcs : cs.size = N) (h : Stop (∀ w', Hid (Grew w w') → Hid (Blk w' w.heap.size e cs) → K (a.put o.dst (.slice (some ⟨w.heap.size, 0, none⟩) 1 1)) w')) : o.wp P a w K Q := by
  unfold Oper.wp execOp
  simp only [ho, hx, Sem.run_bind, List.map_toArray, List.map_cons, List.map_nil, run_build_row P w t e ht N by_ z hi h0 hN cs hcs, Result.andThen_ok]
  exact h _ (Grew.alloc w _) (Blk.new w e _)
theorem wpList_build_row (hgd : Region.wanted o (yielded ops a.tmps) = true) (t e : TypeId) (x : Operand) (ho : o.op = .buildSlice t 1 #[(0, x)]) (ht : P.underlying t = some (.slice e)) (N by_ : Nat) (z : Value) (hi : (P.info? e).map (fun i => (i.zero, i.size, i.bytes)) = some (some z, N, by_)) (h0 : 0 < N) (hN : N ≤ 65536)
    (cs : Array Value) (hx : a.eval x = .agg cs) (hcs : cs.size = N) (h : Stop (∀ w', Hid (Grew w w') → Hid (Blk w' w.heap.size e cs) → wpList P ops Q rest (a.put o.dst (.slice (some ⟨w.heap.size, 0, none⟩) 1 1)) w')) : wpList P ops Q (o :: rest) a w :=
  wpList_wanted hgd fun _ hK => ow_build_row t e x ho ht N by_ z hi h0 hN cs hx hcs (fun w' h1 h2 => hK _ _ (h w' h1 h2))
/-- append of structs to a slice of the call's own: where it lies, and that no block but its own has changed. -/
theorem run_append_row (P : Program) (w : World) (t ty e : TypeId) (ht : P.underlying t = some (.slice e)) (N by_ : Nat) (z : Value) (hi : (P.info? e).map (fun i => (i.zero, i.size, i.bytes)) = some (some z, N, by_)) (hz : z.cells.size = N) (h0 : 0 < N)
    (B : Nat) (v : Value) (L : List (List Value)) (hown : OwnN w B e N v L) (ad : Addr) (n c : Nat) (M : List (List Value)) (hM : ∀ r ∈ M, r.length = N ∧ ∀ u ∈ r, u.oneCell' = true) (hn : M.length = n) (hn0 : 0 < n) (hr : RN w (some ad) N M) (hB : B ≤ w.heap.size) (hlen : L.length + n ≤ 140737488355328) (hby : (L.length + n) * by_ ≤ 140737488355328) :
    ∃ g cap w', (Builtin.append_ #[t, t] ty #[v, .slice (some ad) n c]).run P w = .ok (.slice (some ⟨g, 0, none⟩) (L.length + n) cap) w' ∧ OwnN w' B e N (.slice (some ⟨g, 0, none⟩) (L.length + n) cap) (L ++ M) ∧ Below B w w' ∧ w.grownBy w' v.ownBlock ∧ (v.ownBlock = some g ∨ g = w.heap.size) ∧ g < w'.heap.size := by
  obtain ⟨i, h1, h2, h3, h4⟩ := info_parts hi
  have hM1 : ∀ r ∈ M, r.length = N := fun r hr => (hM r hr).1
  have hfl := flatN_len hM1
  obtain ⟨g, cap, w', hrun, ho, hg, hw, hlt⟩ := run_append_lies (P := P) (w := w) t ty B e i z N by_ ht h1 h2 h3 h4 hz h0 v L.length _ hown.2 ad n c M.flatten (by rw [hfl, hn]) (fun j u hj => by
    have hjl : j < M.length * N := by
      have := (List.getElem?_eq_some_iff.1 hj).1
      rwa [hfl] at this
    have hk : j / N < M.length := (Nat.div_lt_iff_lt_mul h0).2 hjl
    obtain ⟨ad', x, e1, hx, hc⟩ := hr (j / N) hk (j % N) (Nat.mod_lt _ h0)
    injection e1 with e1
    subst e1
    have hjj : j / N * N + j % N = j := by rw [Nat.mul_comm]; exact Nat.div_add_mod j N
    rw [hjj] at hc
    have h5 := flatN_get hM1 hk (Nat.mod_lt j h0)
    rw [hjj, hj, hx] at h5
    injection h5 with h5
    rw [hc, h5]) (fun u hu => by
    obtain ⟨r, hr1, hr2⟩ := List.mem_flatten.1 hu
    exact (hM r hr1).2 u hr2) hn0 (by unfold maxLen; omega) hby hB w.heap.size rfl
  refine ⟨g, cap, w', hrun, ⟨fun r hr => ?_, ?_⟩, (Below.refl B w).grown hg hB (fun k hk => (hown.lt k hk).1), hg, hw, hlt⟩
  · rcases List.mem_append.1 hr with hr | hr
    · exact hown.1 r hr
    · exact hM1 r hr
  · rw [List.length_append, hn, List.flatten_append]
    exact ho
/-- One struct that lies in a block of its own, as a row. -/
theorem RN.one {w : World} {g N : Nat} {e : TypeId} {cs : Array Value} (hg : Blk w g e cs) (hcs : cs.size = N) : RN w (some ⟨g, 0, none⟩) N [cs.toList] := fun k hk i hi => by
  have h0 : k = 0 := by simpa using hk
  subst h0
  refine ⟨_, cs[i]'(by omega), rfl, by simp [show i < cs.size by omega], ?_⟩
  rw [addr_add0, Nat.zero_mul, Nat.zero_add, hg.cell, Array.getElem?_eq_getElem (by omega)]
theorem ow_append_row1 (s x : Operand) (t e : TypeId) (ho : o.op = .call { callee := .builtin .append, args := #[s, x], argTypes := #[t, t] })
    (ht : P.underlying t = some (.slice e)) (N by_ : Nat) (z : Value) (hi : (P.info? e).map (fun i => (i.zero, i.size, i.bytes)) = some (some z, N, by_)) (hz : z.cells.size = N) (h0 : 0 < N)
    (B : Nat) (v : Value) (L : List (List Value)) (hs : a.eval s = v) (hown : OwnN w B e N v L) (g0 : Nat) (cs : Array Value) (hx : a.eval x = .slice (some ⟨g0, 0, none⟩) 1 1) (hg : Blk w g0 e cs) (hcs : cs.size = N) (h1 : cs.all (·.oneCell') = true) (hB : B ≤ w.heap.size) (hlen : L.length + 1 ≤ 140737488355328) (hby : (L.length + 1) * by_ ≤ 140737488355328)
    (h : Stop (∀ g cap w', Hid (OwnN w' B e N (.slice (some ⟨g, 0, none⟩) (L.length + 1) cap) (L ++ [cs.toList])) → Hid (Below B w w') → Hid (w.grownBy w' v.ownBlock) → Hid ((v.ownBlock = some g ∨ g = w.heap.size) ∧ g < w'.heap.size) → K (a.put o.dst (.slice (some ⟨g, 0, none⟩) (L.length + 1) cap)) w')) : o.wp P a w K Q := by
  obtain ⟨g, cap, w', hrun, g1, g2, g3, g4, g5⟩ := run_append_row P w t o.type e ht N by_ z hi hz h0 B v L hown ⟨g0, 0, none⟩ 1 1 [cs.toList] (fun r hr => by
    rw [List.mem_singleton] at hr
    subst hr
    exact ⟨by rw [Array.length_toList]; exact hcs, fun u hu => Array.all_eq_true_iff_forall_mem.1 h1 u (Array.mem_toList_iff.1 hu)⟩) rfl (by decide) (RN.one hg hcs) hB hlen hby
  unfold Oper.wp execOp
  simp only [ho, resolve, invoke, builtin, Sem.run_bind, Sem.run_pure, Result.andThen_ok, List.map_toArray, List.map_cons, List.map_nil, hs, hx, hrun]
  exact h g cap w' g1 g2 g3 ⟨g4, g5⟩
theorem wpList_append_row1 (hgd : Region.wanted o (yielded ops a.tmps) = true) (s x : Operand) (t e : TypeId) (ho : o.op = .call { callee := .builtin .append, args := #[s, x], argTypes := #[t, t] })
    (ht : P.underlying t = some (.slice e)) (N by_ : Nat) (z : Value) (hi : (P.info? e).map (fun i => (i.zero, i.size, i.bytes)) = some (some z, N, by_)) (hz : z.cells.size = N) (h0 : 0 < N)
    (B : Nat) (v : Value) (L : List (List Value)) (hs : a.eval s = v) (hown : OwnN w B e N v L) (g0 : Nat) (cs : Array Value) (hx : a.eval x = .slice (some ⟨g0, 0, none⟩) 1 1) (hg : Blk w g0 e cs) (hcs : cs.size = N) (h1 : cs.all (·.oneCell') = true) (hB : B ≤ w.heap.size) (hlen : L.length + 1 ≤ 140737488355328) (hby : (L.length + 1) * by_ ≤ 140737488355328)
    (h : Stop (∀ g cap w', Hid (OwnN w' B e N (.slice (some ⟨g, 0, none⟩) (L.length + 1) cap) (L ++ [cs.toList])) → Hid (Below B w w') → Hid (w.grownBy w' v.ownBlock) → Hid ((v.ownBlock = some g ∨ g = w.heap.size) ∧ g < w'.heap.size) → wpList P ops Q rest (a.put o.dst (.slice (some ⟨g, 0, none⟩) (L.length + 1) cap)) w')) : wpList P ops Q (o :: rest) a w :=
  wpList_wanted hgd fun _ hK => ow_append_row1 s x t e ho ht N by_ z hi hz h0 B v L hs hown g0 cs hx hg hcs h1 hB hlen hby (fun g cap w' q1 q2 q3 q4 => hK _ _ (h g cap w' q1 q2 q3 q4))
end

end Go.Proofs.Ytfhghcodhacneaa
