/-
  Layer 24: small, works.
-/
import Derived.Test.YtkakihbfhmiabaaGreatGrAP
import Derived.Test.YtkakihbfhmiabaaGreatDrd4
import Derived.Test.YtkakihbfhmiabaaGreatGrAM
import Derived.Test.YtkakihbfhmiabaaGreatGrAR
namespace Go.Proofs.YtkakihbfhmiabaaGreat
open Go.RowKit
set_option maxRecDepth 10000

section
variable {P : Program} {ops : Array Oper} {rest : List Oper} {o : Oper} {a : Act} {w : World} {Q : Exit → Act → World → Prop}
theorem wpList_build_one24 (hgd : Region.wanted o (yielded ops a.tmps) = true) (t : TypeId) (i : Nat) (x : Operand) (ho : o.op = .build t #[(i, x)]) (vx : Value) (hx : a.eval x = vx) (cs : Array Value) (hb : P.built t [(i, vx)] = some cs)
    (h : wpList P ops Q rest (a.put o.dst (.agg cs)) w) : wpList P ops Q (o :: rest) a w := by
  refine wpList_wanted hgd fun K hK => ?_
  have hr : (Instr.build t #[(i, vx)]).run P w = .ok (.agg cs) w := run_build w t #[(i, vx)] cs hb
  unfold Oper.wp execOp
  simp only [ho, Sem.run_bind, List.map_toArray, List.map_cons, List.map_nil, hx, hr, Result.andThen_ok]
  exact hK _ _ h
theorem wpList_build_three24 (hgd : Region.wanted o (yielded ops a.tmps) = true) (t : TypeId) (i j k : Nat) (x y z : Operand) (ho : o.op = .build t #[(i, x), (j, y), (k, z)]) (vx vy vz : Value) (hx : a.eval x = vx) (hy : a.eval y = vy) (hz : a.eval z = vz) (cs : Array Value) (hb : P.built t [(i, vx), (j, vy), (k, vz)] = some cs)
    (h : wpList P ops Q rest (a.put o.dst (.agg cs)) w) : wpList P ops Q (o :: rest) a w := by
  refine wpList_wanted hgd fun K hK => ?_
  have hr : (Instr.build t #[(i, vx), (j, vy), (k, vz)]).run P w = .ok (.agg cs) w := run_build w t #[(i, vx), (j, vy), (k, vz)] cs hb
  unfold Oper.wp execOp
  simp only [ho, Sem.run_bind, List.map_toArray, List.map_cons, List.map_nil, hx, hy, hz, hr, Result.andThen_ok]
  exact hK _ _ h
/-- A slice of two structs. -/
theorem run_build_row2 (P : Program) (w : World) (t e : TypeId) (ht : P.underlying t = some (.slice e)) (N by_ : Nat) (z : Value) (hi : (P.info? e).map (fun i => (i.zero, i.size, i.bytes)) = some (some z, N, by_)) (h0 : 0 < N) (hN : N ≤ 16384) (cs ds : Array Value) (hcs : cs.size = N) (hds : ds.size = N) :
    (Instr.buildSlice t 2 #[(0, .agg cs), (1, .agg ds)]).run P w = .ok (.slice (some ⟨w.heap.size, 0, none⟩) 2 2) (w.alloc (.cells (cs ++ ds) e)) := by
  obtain ⟨i, h1, h2, h3, h4⟩ := info_parts hi
  have hsz : ((Array.range (2 * N)).map (z.cells[· % z.cells.size]!)).size = 2 * N := by rw [Array.size_map, Array.size_range]
  have hf : Instr.fill (fun j => some (j * N, N)) ((Array.range (2 * N)).map (z.cells[· % z.cells.size]!)) [(0, .agg cs), (1, .agg ds)] = some (cs ++ ds) := by
    generalize (Array.range (2 * N)).map (z.cells[· % z.cells.size]!) = c0 at hsz
    have hw := Go.Great.fill_whole (s := N) h0 [.agg cs, .agg ds] c0 (fun v hv => by
      simp at hv
      rcases hv with rfl | rfl
      · exact hcs
      · exact hds) (by rw [hsz]; rfl)
    have e1 : (([.agg cs, .agg ds] : List Value).flatMap fun v => v.cells.toList).toArray = cs ++ ds := by
      rw [List.flatMap_cons, List.flatMap_cons, List.flatMap_nil, List.append_nil]
      show (cs.toList ++ ds.toList).toArray = cs ++ ds
      rw [← Array.toList_append, Array.toArray_toList]
    rw [e1] at hw
    exact hw
  exact run_buildSlice (P := P) w t e 2 #[(0, .agg cs), (1, .agg ds)] (cs ++ ds) i z ht h1 h2 (by rw [h3]; omega) (by rw [h3]; omega) (by rw [h3]; exact hf)
theorem wpList_build_row2 (hgd : Region.wanted o (yielded ops a.tmps) = true) (t e : TypeId) (x y : Operand) (ho : o.op = .buildSlice t 2 #[(0, x), (1, y)]) (ht : P.underlying t = some (.slice e)) (N by_ : Nat) (z : Value) (hi : (P.info? e).map (fun i => (i.zero, i.size, i.bytes)) = some (some z, N, by_)) (h0 : 0 < N) (hN : N ≤ 16384)
    (cs ds : Array Value) (hx : a.eval x = .agg cs) (hy : a.eval y = .agg ds) (hcs : cs.size = N) (hds : ds.size = N) (h : Stop (∀ w', Hid (Grew w w') → Hid (Blk w' w.heap.size e (cs ++ ds)) → wpList P ops Q rest (a.put o.dst (.slice (some ⟨w.heap.size, 0, none⟩) 2 2)) w')) : wpList P ops Q (o :: rest) a w := by
  refine wpList_wanted hgd fun K hK => ?_
  unfold Oper.wp execOp
  simp only [ho, hx, hy, Sem.run_bind, List.map_toArray, List.map_cons, List.map_nil, run_build_row2 P w t e ht N by_ z hi h0 hN cs ds hcs hds, Result.andThen_ok]
  exact hK _ _ (h _ (Grew.alloc w _) (Blk.new w e _))
end
theorem ow_exec24 {P : Program} {o : Oper} {a : Act} {w : World} {K : Act → World → Prop} {Q : Exit → Act → World → Prop} {v : Value} (h : (execOp a.eval o).run P w = .ok (.value v) w) (hk : K (a.put o.dst v) w) : o.wp P a w K Q := by
  unfold Oper.wp
  simp only [h]
  exact hk
theorem RN.of_blk {w : World} {g N : Nat} {e : TypeId} {cs : Array Value} {L : List (List Value)} (hL : ∀ r ∈ L, r.length = N) (hg : Blk w g e cs) (hc : cs.toList = L.flatten) : RN w (some ⟨g, 0, none⟩) N L := fun k hk i hi => by
  have h1 := flatN_get hL hk hi
  have hr : i < L[k].length := by rw [hL _ (List.getElem_mem hk)]; exact hi
  refine ⟨_, L[k][i], rfl, List.getElem?_eq_getElem hr, ?_⟩
  rw [addr_add0, hg.cell, ← Array.getElem?_toList, hc, h1, List.getElem?_eq_getElem hr]
theorem run_eql_pl_same (x : List Int) (hx : x.length = 3) (w : World) : (binOp .eql 186 (.agg (icells x)) (.agg (icells x))).run Tryz.prog w = .ok (.bool true) w := by
  obtain ⟨a, b, c, rfl⟩ := list_three hx
  show (binOp .eql 186 (.agg #[.int .i64 a, .int .i64 b, .int .i64 c]) (.agg #[.int .i64 a, .int .i64 b, .int .i64 c])).run Tryz.prog w = _
  go_simp



end Go.Proofs.YtkakihbfhmiabaaGreat
