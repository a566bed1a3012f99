/-
  The contract of the law's works.
-/
import Derived.Test.YtkhgoblmfcaapaaCg8
import Derived.Test.YtkhgoblmfcaapaaInts
namespace Go.Proofs.Ytkhgoblmfcaapaa
open Go.RowKit

section
variable {P : Program} {ops : Array Oper} {rest : List Oper} {o : Oper} {a : Act} {w : World} {K : Act → World → Prop} {Q : Exit → Act → World → Prop}
/-- A slice of three structs. -/
theorem run_build_row3 (P : Program) (w : World) (t e : TypeId) (ht : P.underlying t = some (.slice e)) (N by_ : Nat) (z : Value) (hi : (P.info? e).map (fun i => (i.zero, i.size, i.bytes)) = some (some z, N, by_)) (h0 : 0 < N) (hN : N ≤ 10000) (c0 c1 c2 : Array Value) (hc0 : c0.size = N) (hc1 : c1.size = N) (hc2 : c2.size = N) :
    (Instr.buildSlice t 3 #[(0, .agg c0), (1, .agg c1), (2, .agg c2)]).run P w = .ok (.slice (some ⟨w.heap.size, 0, none⟩) 3 3) (w.alloc (.cells (c0.toList ++ c1.toList ++ c2.toList).toArray e)) := by
  obtain ⟨i, h1, h2, h3, h4⟩ := info_parts hi
  have hsz : ((Array.range (3 * N)).map (z.cells[· % z.cells.size]!)).size = 3 * N := by rw [Array.size_map, Array.size_range]
  have hf : Instr.fill (fun j => some (j * N, N)) ((Array.range (3 * N)).map (z.cells[· % z.cells.size]!)) [(0, .agg c0), (1, .agg c1), (2, .agg c2)] = some (c0.toList ++ c1.toList ++ c2.toList).toArray := by
    generalize (Array.range (3 * N)).map (z.cells[· % z.cells.size]!) = cc at hsz
    have hw := Go.Great.fill_whole (s := N) h0 [.agg c0, .agg c1, .agg c2] cc (fun v hv => by
      simp only [List.mem_cons, List.mem_nil_iff, or_false] at hv
      rcases hv with rfl | rfl | rfl
      · exact hc0
      · exact hc1
      · exact hc2) (by rw [hsz]; rfl)
    have e1 : (([.agg c0, .agg c1, .agg c2] : List Value).flatMap fun v => v.cells.toList).toArray = (c0.toList ++ c1.toList ++ c2.toList).toArray := by
      simp [List.flatMap_cons, Value.cells]
    rw [e1] at hw
    exact hw
  exact run_buildSlice (P := P) w t e 3 #[(0, .agg c0), (1, .agg c1), (2, .agg c2)] _ i z ht h1 h2 (by rw [h3]; omega) (by rw [h3]; omega) (by rw [h3]; exact hf)
theorem wpList_build_row3 (hgd : Region.wanted o (yielded ops a.tmps) = true) (t e : TypeId) (x y z' : Operand) (ho : o.op = .buildSlice t 3 #[(0, x), (1, y), (2, z')]) (ht : P.underlying t = some (.slice e)) (N by_ : Nat) (z : Value) (hi : (P.info? e).map (fun i => (i.zero, i.size, i.bytes)) = some (some z, N, by_)) (h0 : 0 < N) (hN : N ≤ 10000)
    (c0 c1 c2 : Array Value) (hx : a.eval x = .agg c0) (hy : a.eval y = .agg c1) (hz : a.eval z' = .agg c2) (hc0 : c0.size = N) (hc1 : c1.size = N) (hc2 : c2.size = N) (cs : Array Value) (hcs : (c0.toList ++ c1.toList ++ c2.toList).toArray = cs)
    (h : Stop (∀ w', Hid (Grew w w') → Hid (Blk w' w.heap.size e cs) → wpList P ops Q rest (a.put o.dst (.slice (some ⟨w.heap.size, 0, none⟩) 3 3)) w')) : wpList P ops Q (o :: rest) a w := by
  refine wpList_wanted hgd fun K hK => ?_
  subst hcs
  unfold Oper.wp execOp
  simp only [ho, hx, hy, hz, Sem.run_bind, List.map_toArray, List.map_cons, List.map_nil, run_build_row3 P w t e ht N by_ z hi h0 hN c0 c1 c2 hc0 hc1 hc2, Result.andThen_ok]
  exact hK _ _ (h _ (Grew.alloc w _) (Blk.new w e _))
/-- A slice of one value of one cell. -/
theorem wpList_build_one1 (hgd : Region.wanted o (yielded ops a.tmps) = true) (t e : TypeId) (x : Operand) (ho : o.op = .buildSlice t 1 #[(0, x)]) (ht : P.underlying t = some (.slice e)) (by_ : Nat) (z : Value) (hi : (P.info? e).map (fun i => (i.zero, i.size, i.bytes)) = some (some z, 1, by_))
    (v : Value) (hx : a.eval x = v) (hv : v.cells = #[v]) (hz : z.cells = #[z])
    (h : Stop (∀ w', Hid (Grew w w') → Hid (Blk w' w.heap.size e #[v]) → wpList P ops Q rest (a.put o.dst (.slice (some ⟨w.heap.size, 0, none⟩) 1 1)) w')) : wpList P ops Q (o :: rest) a w := by
  refine wpList_wanted hgd fun K hK => ?_
  obtain ⟨i, h1, h2, h3, h4⟩ := info_parts hi
  have hf : Instr.fill (fun j => some (j * 1, 1)) ((Array.range (1 * 1)).map (z.cells[· % z.cells.size]!)) [(0, v)] = some #[v] := by
    have hsz : ((Array.range (1 * 1)).map (z.cells[· % z.cells.size]!)).size = 1 := by simp
    generalize (Array.range (1 * 1)).map (z.cells[· % z.cells.size]!) = cc at hsz
    obtain ⟨l⟩ := cc
    match l, hsz with
    | [c], _ => simp [Instr.fill, hv]
  have hr := run_buildSlice (P := P) w t e 1 #[(0, v)] #[v] i z ht h1 h2 (by omega) (by omega) (by rw [h3]; exact hf)
  unfold Oper.wp execOp
  simp only [ho, hx, Sem.run_bind, List.map_toArray, List.map_cons, List.map_nil, hr, Result.andThen_ok]
  exact hK _ _ (h _ (Grew.alloc w _) (Blk.new w e _))
/-- .. of two. -/
theorem wpList_build_two1 (hgd : Region.wanted o (yielded ops a.tmps) = true) (t e : TypeId) (x y : Operand) (ho : o.op = .buildSlice t 2 #[(0, x), (1, y)]) (ht : P.underlying t = some (.slice e)) (by_ : Nat) (z : Value) (hi : (P.info? e).map (fun i => (i.zero, i.size, i.bytes)) = some (some z, 1, by_))
    (v u : Value) (hx : a.eval x = v) (hy : a.eval y = u) (hv : v.cells = #[v]) (hu : u.cells = #[u]) (hz : z.cells = #[z])
    (h : Stop (∀ w', Hid (Grew w w') → Hid (Blk w' w.heap.size e #[v, u]) → wpList P ops Q rest (a.put o.dst (.slice (some ⟨w.heap.size, 0, none⟩) 2 2)) w')) : wpList P ops Q (o :: rest) a w := by
  refine wpList_wanted hgd fun K hK => ?_
  obtain ⟨i, h1, h2, h3, h4⟩ := info_parts hi
  have hf : Instr.fill (fun j => some (j * 1, 1)) ((Array.range (2 * 1)).map (z.cells[· % z.cells.size]!)) [(0, v), (1, u)] = some #[v, u] := by
    have hsz : ((Array.range (2 * 1)).map (z.cells[· % z.cells.size]!)).size = 2 := by simp
    generalize (Array.range (2 * 1)).map (z.cells[· % z.cells.size]!) = cc at hsz
    obtain ⟨l⟩ := cc
    match l, hsz with
    | [c, d], _ => simp [Instr.fill, hv, hu]
  have hr := run_buildSlice (P := P) w t e 2 #[(0, v), (1, u)] #[v, u] i z ht h1 h2 (by omega) (by omega) (by rw [h3]; exact hf)
  unfold Oper.wp execOp
  simp only [ho, hx, hy, Sem.run_bind, List.map_toArray, List.map_cons, List.map_nil, hr, Result.andThen_ok]
  exact hK _ _ (h _ (Grew.alloc w _) (Blk.new w e _))
end
theorem RC.of_blk1 {w : World} {g : Nat} {t : TypeId} {x : Int} (h : Blk w g t #[.int .i64 x]) : RC w (some ⟨g, 0, none⟩) (ivals [x]) := fun k hk => by
  obtain rfl : k = 0 := by simp [ivals] at hk; omega
  exact ⟨_, rfl, h.cell 0⟩
theorem RC.of_blk2 {w : World} {g : Nat} {t : TypeId} {x y : Int} (h : Blk w g t #[.int .i64 x, .int .i64 y]) : RC w (some ⟨g, 0, none⟩) (ivals [x, y]) := fun k hk => by
  have hk' : k = 0 ∨ k = 1 := by simp [ivals] at hk; omega
  rcases hk' with rfl | rfl
  · exact ⟨_, rfl, h.cell 0⟩
  · exact ⟨_, rfl, h.cell 1⟩
theorem RB.of_blk1 {w : World} {g : Nat} {t : TypeId} (h : Blk w g t #[.int .u8 1]) : RB w (some ⟨g, 0, none⟩) [1] := fun k hk => by
  obtain rfl : k = 0 := by simp at hk; omega
  exact ⟨_, rfl, h.cell 0⟩
theorem RCL.drop {w : World} {ad : Addr} {l : List Cg} (h : RCL w (some ad) l) (m : Nat) : RCL w (some (ad.add (m * 5))) (l.drop m) := fun k hk => by
  have hk' : m + k < l.length := by simp at hk; omega
  obtain ⟨ad', v0, v1, v2, v3, v4, e, h0, h1, h2, h3, h4, hr⟩ := h (m + k) hk'
  injection e with e
  subst e
  have e0 : ∀ i, (ad.add (m * 5)).add (k * 5 + i) = ad.add ((m + k) * 5 + i) := fun i => by rw [add_of_add]; congr 1; omega
  refine ⟨_, v0, v1, v2, v3, v4, rfl, ?_, ?_, ?_, ?_, ?_, ?_⟩
  · have := e0 0
    rw [Nat.add_zero, Nat.add_zero] at this
    rw [this]; exact h0
  · rw [e0]; exact h1
  · rw [e0]; exact h2
  · rw [e0]; exact h3
  · rw [e0]; exact h4
  · simpa using hr

/-- The page's example. -/
def ex1 : Cg := ⟨1, 5, ⟨1, [1]⟩, []⟩
def ex2 : Cg := ⟨2, 6, ⟨1, [1]⟩, [1]⟩
def ex3 : Cg := ⟨3, 6, ⟨2, [1]⟩, []⟩
theorem ex_a : readyC [ex1, ex2, ex3] 6 = [3] := by decide +kernel
theorem ex_b : readyC [ex2, ex3] 6 = [2, 3] := by decide +kernel
theorem ex_c : mayC [ex3] = true := by decide +kernel

set_option maxRecDepth 100000 in
set_option maxHeartbeats 8000000 in
theorem works09_any (w : World) : Calls Try.prog 8 #[] w fun e w' => e = .returned (.bool true) ∧ Below w.heap.size w w' := by
  go_enter Try.func8, Try.ntmps8
  go_wp2_with (refine wpList_build_one1 rfl _ _ _ rfl Try.underlying35 1 _ Try.byteInfo (.int .u8 1) rfl rfl rfl ?_)
  apply Stop.go; intro w1 Hg1 Hb1
  go_wp2_with (refine wpList_alloc_row rfl _ rfl _ Try.patchZero ?_)
  apply Stop.go; intro w2 Hg2 Hb2
  go_wp2_with (refine wpList_store_arr rfl _ _ _ rfl _ #[.int .i64 1, .slice (some ⟨w.heap.size, 0, none⟩) 1 1] rfl rfl _ _ Hb2.out Try.patchSize rfl (by simp [Value.oneCell']) ?_)
  apply Stop.go; intro w3 Ho3 Hb3
  have Hp3 := Lib.hid ((Hb1.out.ext Hg2.out.1).only Ho3.out (by have := Hg1.out.2; omega))
  have Hw3 := Lib.hid (bonly (bt Hg1.out.1 Hg2.out.1) Ho3.out Hg1.out.1.size)
  clear Hb1 Hb2 Hg1 Hg2 Ho3
  go_wp2_with (first | refine wpList_load_blk rfl _ _ rfl _ rfl _ _ Hb3.out _ Try.underlying37 rfl Try.patchSize ?_ | refine wpList_build_one1 rfl _ _ _ rfl Try.underlying31 8 _ Try.infoInt (.int .i64 1) rfl rfl rfl ?_)
  apply Stop.go; intro w4 Hg4 Hb4
  go_wp2_with (refine wpList_build_one1 rfl _ _ _ rfl Try.underlying35 1 _ Try.byteInfo (.int .u8 1) rfl rfl rfl ?_)
  apply Stop.go; intro w5 Hg5 Hb5
  go_wp2_with (refine wpList_build_row3 rfl _ _ _ _ _ rfl Try.underlying25 5 72 _ Try.chgInfo (by decide) (by decide) #[.int .i64 1, .int .i64 5, .int .i64 1, .slice (some ⟨w.heap.size, 0, none⟩) 1 1, .slice none 0 0] #[.int .i64 2, .int .i64 6, .int .i64 1, .slice (some ⟨w.heap.size, 0, none⟩) 1 1, .slice (some ⟨w3.heap.size, 0, none⟩) 1 1] #[.int .i64 3, .int .i64 6, .int .i64 2, .slice (some ⟨w4.heap.size, 0, none⟩) 1 1, .slice none 0 0] rfl rfl rfl rfl rfl rfl _ rfl ?_)
  apply Stop.go; intro w6 Hg6 Hb6
  have HL : Hid (RCL w6 (some ⟨w5.heap.size, 0, none⟩) [ex1, ex2, ex3]) := Lib.hid (fun k hk => by
    have p6 := ((Hp3.out.ext Hg4.out.1).ext Hg5.out.1).ext Hg6.out.1
    have q6 := (Hb4.out.ext Hg5.out.1).ext Hg6.out.1
    have r6 := Hb5.out.ext Hg6.out.1
    have hk' : k = 0 ∨ k = 1 ∨ k = 2 := by simp at hk; omega
    have b6 := Hb6.out
    rcases hk' with rfl | rfl | rfl
    · exact ⟨_, _, _, _, _, _, rfl, b6.cell 0, b6.cell 1, b6.cell 2, b6.cell 3, b6.cell 4, CV.rcg (c := ex1) (nd := 1) (nn := 0) ⟨by decide, by decide, by decide, by decide, ⟨by decide, by decide, rfl, Nat.le_refl _, by unfold maxLen; omega, RB.of_blk1 p6⟩, rfl, Nat.le_refl _, by unfold maxLen; omega, RC.nil_ _ _, by decide⟩⟩
    · exact ⟨_, _, _, _, _, _, rfl, b6.cell 5, b6.cell 6, b6.cell 7, b6.cell 8, b6.cell 9, CV.rcg (c := ex2) (nd := 1) (nn := 1) ⟨by decide, by decide, by decide, by decide, ⟨by decide, by decide, rfl, Nat.le_refl _, by unfold maxLen; omega, RB.of_blk1 p6⟩, rfl, Nat.le_refl _, by unfold maxLen; omega, RC.of_blk1 q6, by decide⟩⟩
    · exact ⟨_, _, _, _, _, _, rfl, b6.cell 10, b6.cell 11, b6.cell 12, b6.cell 13, b6.cell 14, CV.rcg (c := ex3) (nd := 1) (nn := 0) ⟨by decide, by decide, by decide, by decide, ⟨by decide, by decide, rfl, Nat.le_refl _, by unfold maxLen; omega, RB.of_blk1 r6⟩, rfl, Nat.le_refl _, by unfold maxLen; omega, RC.nil_ _ _, by decide⟩⟩)
  have Hw6 := Lib.hid (show Below w.heap.size w w6 from Hw3.out.trans ((bt (bt Hg4.out.1 Hg5.out.1) Hg6.out.1).mono Hw3.out.size))
  generalize w5.heap.size = g at *
  clear Hb4 Hb5 Hg4 Hg5 Hg6 Hb3 Hp3 Hb6 Hw3
  go_wp2_with fail
  refine (pready_any (some ⟨g, 0, none⟩) 3 3 [ex1, ex2, ex3] rfl (by decide) 6 _ HL.out.rd).mono ?_; rintro e w7 ⟨A7, n7, c7, rfl, hn7, hc7, hm7, hr7, hb7⟩
  rw [ex_a] at hn7 hr7
  obtain rfl : n7 = 1 := hn7.symm
  have Hr7 := Lib.hid hr7
  have Hb7 := Lib.hid hb7
  clear hr7 hb7 hn7
  go_wp2_with (refine wpList_build_one1 rfl _ _ _ rfl Try.underlying31 8 _ Try.infoInt (.int .i64 3) rfl rfl rfl ?_)
  apply Stop.go; intro w8 Hg8 Hb8
  go_wp2_with fail
  refine (ints_any A7 1 c7 [3] rfl (some ⟨w7.heap.size, 0, none⟩) 1 1 [3] rfl (by decide) (by decide) _ (Hr7.out.below Hg8.out.1) (RC.of_blk1 Hb8.out)).mono ?_; rintro e w9 ⟨rfl, q9, rfl⟩
  rw [show decide (([3] : List Int) = [3]) = true from by decide]
  have Hb9 := Lib.hid (bt (bt Hb7.out Hg8.out.1) (bdrew w8 q9))
  generalize w8.drewN q9 = w9 at *
  clear Hb8 Hg8 Hr7 Hb7
  go_wp2_with fail
  refine (pready_any (some ((⟨g, 0, none⟩ : Addr).add (1 * 5))) 2 2 [ex2, ex3] rfl (by decide) 6 _ ((HL.out.drop 1).rd.below Hb9.out)).mono ?_; rintro e w10 ⟨A10, n10, c10, rfl, hn10, hc10, hm10, hr10, hb10⟩
  rw [ex_b] at hn10 hr10
  obtain rfl : n10 = 2 := hn10.symm
  have Hr10 := Lib.hid hr10
  have Hb10 := Lib.hid (bt Hb9.out hb10)
  clear hr10 hb10 hn10
  go_wp2_with (refine wpList_build_two1 rfl _ _ _ _ rfl Try.underlying31 8 _ Try.infoInt (.int .i64 2) (.int .i64 3) rfl rfl rfl rfl rfl ?_)
  apply Stop.go; intro w11 Hg11 Hb11
  go_wp2_with fail
  refine (ints_any A10 2 c10 [2, 3] rfl (some ⟨w10.heap.size, 0, none⟩) 2 2 [2, 3] rfl (by decide) (by decide) _ (Hr10.out.below Hg11.out.1) (RC.of_blk2 Hb11.out)).mono ?_; rintro e w12 ⟨rfl, q12, rfl⟩
  rw [show decide (([2, 3] : List Int) = [2, 3]) = true from by decide]
  have Hb12 := Lib.hid (bt (bt Hb10.out Hg11.out.1) (bdrew w11 q12))
  generalize w11.drewN q12 = w12 at *
  clear Hb11 Hg11 Hr10 Hb10
  go_wp2_with fail
  refine (chk_any (some ((⟨g, 0, none⟩ : Addr).add (2 * 5))) 1 1 [ex3] rfl (by decide) _ ((HL.out.drop 2).rd.below Hb12.out)).mono ?_; rintro e w13 ⟨rfl, hb13⟩
  rw [chkI_yes ex_c]
  have Hb13 := Lib.hid (bt Hb12.out hb13)
  clear hb13
  go_wp2_with fail
  go_ret
  exact ⟨rfl, bt Hw6.out Hb13.out⟩

end Go.Proofs.Ytkhgoblmfcaapaa
