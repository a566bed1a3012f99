/-
  Laws on slices that are built of a few values, and of a few structs. Plain; no program is named here. Cut out of the texts on a law's works.
-/
import Derived.Test.YtknbjdldmednlaaGrF
import Derived.Test.YtknbjdldmednlaaGrG
namespace Go.Proofs.Ytknbjdldmednlaa
open Go.RowKit

section
variable {P : Program} {ops : Array Oper} {rest : List Oper} {o : Oper} {a : Act} {w : World} {K : Act → World → Prop} {Q : Exit → Act → World → Prop}
/-- A slice of three structs. -/
theorem run_build_row3 (P : Program) (w : World) (t e : TypeId) (ht : P.underlying t = some (.slice e)) (N by_ : Nat) (z : Value) (hi : (P.info? e).map (fun i => (i.zero, i.size, i.bytes)) = some (some z, N, by_)) (h0 : 0 < N) (hN : N ≤ 10000) (c0 c1 c2 : Array Value) (hc0 : c0.size = N) (hc1 : c1.size = N) (hc2 : c2.size = N) :
    (Instr.buildSlice t 3 #[(0, .agg c0), (1, .agg c1), (2, .agg c2)]).run P w = .ok (.slice (some ⟨w.heap.size, 0, none⟩) 3 3) (w.alloc (.cells (c0.toList ++ c1.toList ++ c2.toList).toArray e)) := by
  obtain ⟨i, h1, h2, h3, h4⟩ := info_parts hi
  have hsz : ((Array.range (3 * N)).map (z.cells[· % z.cells.size]!)).size = 3 * N := by rw [Array.size_map, Array.size_range]
  have hf : Instr.fill (fun j => some (j * N, N)) ((Array.range (3 * N)).map (z.cells[· % z.cells.size]!)) [(0, .agg c0), (1, .agg c1), (2, .agg c2)] = some (c0.toList ++ c1.toList ++ c2.toList).toArray := by
    generalize (Array.range (3 * N)).map (z.cells[· % z.cells.size]!) = cc at hsz
    have hw := Go.Great.fill_whole (s := N) h0 [.agg c0, .agg c1, .agg c2] cc (fun v hv => by
      simp only [List.mem_cons, List.mem_nil_iff, or_false] at hv
      rcases hv with rfl | rfl | rfl
      · exact hc0
      · exact hc1
      · exact hc2) (by rw [hsz]; rfl)
    have e1 : (([.agg c0, .agg c1, .agg c2] : List Value).flatMap fun v => v.cells.toList).toArray = (c0.toList ++ c1.toList ++ c2.toList).toArray := by
      simp [List.flatMap_cons, Value.cells]
    rw [e1] at hw
    exact hw
  exact run_buildSlice (P := P) w t e 3 #[(0, .agg c0), (1, .agg c1), (2, .agg c2)] _ i z ht h1 h2 (by rw [h3]; omega) (by rw [h3]; omega) (by rw [h3]; exact hf)
theorem wpList_build_row3 (hgd : Region.wanted o (yielded ops a.tmps) = true) (t e : TypeId) (x y z' : Operand) (ho : o.op = .buildSlice t 3 #[(0, x), (1, y), (2, z')]) (ht : P.underlying t = some (.slice e)) (N by_ : Nat) (z : Value) (hi : (P.info? e).map (fun i => (i.zero, i.size, i.bytes)) = some (some z, N, by_)) (h0 : 0 < N) (hN : N ≤ 10000)
    (c0 c1 c2 : Array Value) (hx : a.eval x = .agg c0) (hy : a.eval y = .agg c1) (hz : a.eval z' = .agg c2) (hc0 : c0.size = N) (hc1 : c1.size = N) (hc2 : c2.size = N) (cs : Array Value) (hcs : (c0.toList ++ c1.toList ++ c2.toList).toArray = cs)
    (h : Stop (∀ w', Hid (Grew w w') → Hid (Blk w' w.heap.size e cs) → wpList P ops Q rest (a.put o.dst (.slice (some ⟨w.heap.size, 0, none⟩) 3 3)) w')) : wpList P ops Q (o :: rest) a w := by
  refine wpList_wanted hgd fun K hK => ?_
  subst hcs
  unfold Oper.wp execOp
  simp only [ho, hx, hy, hz, Sem.run_bind, List.map_toArray, List.map_cons, List.map_nil, run_build_row3 P w t e ht N by_ z hi h0 hN c0 c1 c2 hc0 hc1 hc2, Result.andThen_ok]
  exact hK _ _ (h _ (Grew.alloc w _) (Blk.new w e _))
/-- .. of two. -/
theorem run_build_row2 (P : Program) (w : World) (t e : TypeId) (ht : P.underlying t = some (.slice e)) (N by_ : Nat) (z : Value) (hi : (P.info? e).map (fun i => (i.zero, i.size, i.bytes)) = some (some z, N, by_)) (h0 : 0 < N) (hN : N ≤ 10000) (c0 c1 : Array Value) (hc0 : c0.size = N) (hc1 : c1.size = N) :
    (Instr.buildSlice t 2 #[(0, .agg c0), (1, .agg c1)]).run P w = .ok (.slice (some ⟨w.heap.size, 0, none⟩) 2 2) (w.alloc (.cells (c0.toList ++ c1.toList).toArray e)) := by
  obtain ⟨i, h1, h2, h3, h4⟩ := info_parts hi
  have hsz : ((Array.range (2 * N)).map (z.cells[· % z.cells.size]!)).size = 2 * N := by rw [Array.size_map, Array.size_range]
  have hf : Instr.fill (fun j => some (j * N, N)) ((Array.range (2 * N)).map (z.cells[· % z.cells.size]!)) [(0, .agg c0), (1, .agg c1)] = some (c0.toList ++ c1.toList).toArray := by
    generalize (Array.range (2 * N)).map (z.cells[· % z.cells.size]!) = cc at hsz
    have hw := Go.Great.fill_whole (s := N) h0 [.agg c0, .agg c1] cc (fun v hv => by
      simp only [List.mem_cons, List.mem_nil_iff, or_false] at hv
      rcases hv with rfl | rfl
      · exact hc0
      · exact hc1) (by rw [hsz]; rfl)
    have e1 : (([.agg c0, .agg c1] : List Value).flatMap fun v => v.cells.toList).toArray = (c0.toList ++ c1.toList).toArray := by
      simp [List.flatMap_cons, Value.cells]
    rw [e1] at hw
    exact hw
  exact run_buildSlice (P := P) w t e 2 #[(0, .agg c0), (1, .agg c1)] _ i z ht h1 h2 (by rw [h3]; omega) (by rw [h3]; omega) (by rw [h3]; exact hf)
theorem wpList_build_row2 (hgd : Region.wanted o (yielded ops a.tmps) = true) (t e : TypeId) (x y : Operand) (ho : o.op = .buildSlice t 2 #[(0, x), (1, y)]) (ht : P.underlying t = some (.slice e)) (N by_ : Nat) (z : Value) (hi : (P.info? e).map (fun i => (i.zero, i.size, i.bytes)) = some (some z, N, by_)) (h0 : 0 < N) (hN : N ≤ 10000)
    (c0 c1 : Array Value) (hx : a.eval x = .agg c0) (hy : a.eval y = .agg c1) (hc0 : c0.size = N) (hc1 : c1.size = N) (cs : Array Value) (hcs : (c0.toList ++ c1.toList).toArray = cs)
    (h : Stop (∀ w', Hid (Grew w w') → Hid (Blk w' w.heap.size e cs) → wpList P ops Q rest (a.put o.dst (.slice (some ⟨w.heap.size, 0, none⟩) 2 2)) w')) : wpList P ops Q (o :: rest) a w := by
  refine wpList_wanted hgd fun K hK => ?_
  subst hcs
  unfold Oper.wp execOp
  simp only [ho, hx, hy, Sem.run_bind, List.map_toArray, List.map_cons, List.map_nil, run_build_row2 P w t e ht N by_ z hi h0 hN c0 c1 hc0 hc1, Result.andThen_ok]
  exact hK _ _ (h _ (Grew.alloc w _) (Blk.new w e _))
/-- A slice of one value of one cell. -/
theorem wpList_build_one1 (hgd : Region.wanted o (yielded ops a.tmps) = true) (t e : TypeId) (x : Operand) (ho : o.op = .buildSlice t 1 #[(0, x)]) (ht : P.underlying t = some (.slice e)) (by_ : Nat) (z : Value) (hi : (P.info? e).map (fun i => (i.zero, i.size, i.bytes)) = some (some z, 1, by_))
    (v : Value) (hx : a.eval x = v) (hv : v.cells = #[v]) (_ : z.cells = #[z])
    (h : Stop (∀ w', Hid (Grew w w') → Hid (Blk w' w.heap.size e #[v]) → wpList P ops Q rest (a.put o.dst (.slice (some ⟨w.heap.size, 0, none⟩) 1 1)) w')) : wpList P ops Q (o :: rest) a w := by
  refine wpList_wanted hgd fun K hK => ?_
  obtain ⟨i, h1, h2, h3, h4⟩ := info_parts hi
  have hf : Instr.fill (fun j => some (j * 1, 1)) ((Array.range (1 * 1)).map (z.cells[· % z.cells.size]!)) [(0, v)] = some #[v] := by
    have hsz : ((Array.range (1 * 1)).map (z.cells[· % z.cells.size]!)).size = 1 := by simp
    generalize (Array.range (1 * 1)).map (z.cells[· % z.cells.size]!) = cc at hsz
    obtain ⟨l⟩ := cc
    match l, hsz with
    | [c], _ => simp [Instr.fill, hv]
  have hr := run_buildSlice (P := P) w t e 1 #[(0, v)] #[v] i z ht h1 h2 (by omega) (by omega) (by rw [h3]; exact hf)
  unfold Oper.wp execOp
  simp only [ho, hx, Sem.run_bind, List.map_toArray, List.map_cons, List.map_nil, hr, Result.andThen_ok]
  exact hK _ _ (h _ (Grew.alloc w _) (Blk.new w e _))
/-- .. of two. -/
theorem wpList_build_two1 (hgd : Region.wanted o (yielded ops a.tmps) = true) (t e : TypeId) (x y : Operand) (ho : o.op = .buildSlice t 2 #[(0, x), (1, y)]) (ht : P.underlying t = some (.slice e)) (by_ : Nat) (z : Value) (hi : (P.info? e).map (fun i => (i.zero, i.size, i.bytes)) = some (some z, 1, by_))
    (v u : Value) (hx : a.eval x = v) (hy : a.eval y = u) (hv : v.cells = #[v]) (hu : u.cells = #[u]) (_ : z.cells = #[z])
    (h : Stop (∀ w', Hid (Grew w w') → Hid (Blk w' w.heap.size e #[v, u]) → wpList P ops Q rest (a.put o.dst (.slice (some ⟨w.heap.size, 0, none⟩) 2 2)) w')) : wpList P ops Q (o :: rest) a w := by
  refine wpList_wanted hgd fun K hK => ?_
  obtain ⟨i, h1, h2, h3, h4⟩ := info_parts hi
  have hf : Instr.fill (fun j => some (j * 1, 1)) ((Array.range (2 * 1)).map (z.cells[· % z.cells.size]!)) [(0, v), (1, u)] = some #[v, u] := by
    have hsz : ((Array.range (2 * 1)).map (z.cells[· % z.cells.size]!)).size = 2 := by simp
    generalize (Array.range (2 * 1)).map (z.cells[· % z.cells.size]!) = cc at hsz
    obtain ⟨l⟩ := cc
    match l, hsz with
    | [c, d], _ => simp [Instr.fill, hv, hu]
  have hr := run_buildSlice (P := P) w t e 2 #[(0, v), (1, u)] #[v, u] i z ht h1 h2 (by omega) (by omega) (by rw [h3]; exact hf)
  unfold Oper.wp execOp
  simp only [ho, hx, hy, Sem.run_bind, List.map_toArray, List.map_cons, List.map_nil, hr, Result.andThen_ok]
  exact hK _ _ (h _ (Grew.alloc w _) (Blk.new w e _))
end
theorem RC.of_blk1 {w : World} {g : Nat} {t : TypeId} {x : Int} (h : Blk w g t #[.int .i64 x]) : RC w (some ⟨g, 0, none⟩) (ivals [x]) := fun k hk => by
  obtain rfl : k = 0 := by simp [ivals] at hk; omega
  exact ⟨_, rfl, h.cell 0⟩
theorem RC.of_blk2 {w : World} {g : Nat} {t : TypeId} {x y : Int} (h : Blk w g t #[.int .i64 x, .int .i64 y]) : RC w (some ⟨g, 0, none⟩) (ivals [x, y]) := fun k hk => by
  have hk' : k = 0 ∨ k = 1 := by simp [ivals] at hk; omega
  rcases hk' with rfl | rfl
  · exact ⟨_, rfl, h.cell 0⟩
  · exact ⟨_, rfl, h.cell 1⟩
theorem RB.of_blk1 {w : World} {g : Nat} {t : TypeId} (h : Blk w g t #[.int .u8 1]) : RB w (some ⟨g, 0, none⟩) [1] := fun k hk => by
  obtain rfl : k = 0 := by simp at hk; omega
  exact ⟨_, rfl, h.cell 0⟩
theorem RB.of_blk9 {w : World} {g : Nat} {t : TypeId} (h : Blk w g t #[.int .u8 9]) : RB w (some ⟨g, 0, none⟩) [9] := fun k hk => by
  obtain rfl : k = 0 := by simp at hk; omega
  exact ⟨_, rfl, h.cell 0⟩
theorem RCL.drop {w : World} {ad : Addr} {l : List Cg} (h : RCL w (some ad) l) (m : Nat) : RCL w (some (ad.add (m * 5))) (l.drop m) := fun k hk => by
  have hk' : m + k < l.length := by simp at hk; omega
  obtain ⟨ad', v0, v1, v2, v3, v4, e, h0, h1, h2, h3, h4, hr⟩ := h (m + k) hk'
  injection e with e
  subst e
  have e0 : ∀ i, (ad.add (m * 5)).add (k * 5 + i) = ad.add ((m + k) * 5 + i) := fun i => by rw [add_of_add]; congr 1; omega
  refine ⟨_, v0, v1, v2, v3, v4, rfl, ?_, ?_, ?_, ?_, ?_, ?_⟩
  · have := e0 0
    rw [Nat.add_zero, Nat.add_zero] at this
    rw [this]; exact h0
  · rw [e0]; exact h1
  · rw [e0]; exact h2
  · rw [e0]; exact h3
  · rw [e0]; exact h4
  · simpa using hr
section
variable {P : Program} {ops : Array Oper} {rest : List Oper} {o : Oper} {a : Act} {w : World} {K : Act → World → Prop} {Q : Exit → Act → World → Prop}
/-- .. of three. -/
theorem wpList_build_three1 (hgd : Region.wanted o (yielded ops a.tmps) = true) (t e : TypeId) (x y q : Operand) (ho : o.op = .buildSlice t 3 #[(0, x), (1, y), (2, q)]) (ht : P.underlying t = some (.slice e)) (by_ : Nat) (z : Value) (hi : (P.info? e).map (fun i => (i.zero, i.size, i.bytes)) = some (some z, 1, by_))
    (v u r : Value) (hx : a.eval x = v) (hy : a.eval y = u) (hq : a.eval q = r) (hv : v.cells = #[v]) (hu : u.cells = #[u]) (hr : r.cells = #[r]) (_ : z.cells = #[z])
    (h : Stop (∀ w', Hid (Grew w w') → Hid (Blk w' w.heap.size e #[v, u, r]) → wpList P ops Q rest (a.put o.dst (.slice (some ⟨w.heap.size, 0, none⟩) 3 3)) w')) : wpList P ops Q (o :: rest) a w := by
  refine wpList_wanted hgd fun K hK => ?_
  obtain ⟨i, h1, h2, h3, h4⟩ := info_parts hi
  have hf : Instr.fill (fun j => some (j * 1, 1)) ((Array.range (3 * 1)).map (z.cells[· % z.cells.size]!)) [(0, v), (1, u), (2, r)] = some #[v, u, r] := by
    have hsz : ((Array.range (3 * 1)).map (z.cells[· % z.cells.size]!)).size = 3 := by simp
    generalize (Array.range (3 * 1)).map (z.cells[· % z.cells.size]!) = cc at hsz
    obtain ⟨l⟩ := cc
    match l, hsz with
    | [c, d, e], _ => simp [Instr.fill, hv, hu, hr]
  have hrun := run_buildSlice (P := P) w t e 3 #[(0, v), (1, u), (2, r)] #[v, u, r] i z ht h1 h2 (by omega) (by omega) (by rw [h3]; exact hf)
  unfold Oper.wp execOp
  simp only [ho, hx, hy, hq, Sem.run_bind, List.map_toArray, List.map_cons, List.map_nil, hrun, Result.andThen_ok]
  exact hK _ _ (h _ (Grew.alloc w _) (Blk.new w e _))
end
theorem RC.of_blk3 {w : World} {g : Nat} {t : TypeId} {x y z : Int} (h : Blk w g t #[.int .i64 x, .int .i64 y, .int .i64 z]) : RC w (some ⟨g, 0, none⟩) (ivals [x, y, z]) := fun k hk => by
  have hk' : k = 0 ∨ k = 1 ∨ k = 2 := by simp [ivals] at hk; omega
  rcases hk' with rfl | rfl | rfl
  · exact ⟨_, rfl, h.cell 0⟩
  · exact ⟨_, rfl, h.cell 1⟩
  · exact ⟨_, rfl, h.cell 2⟩

end Go.Proofs.Ytknbjdldmednlaa
