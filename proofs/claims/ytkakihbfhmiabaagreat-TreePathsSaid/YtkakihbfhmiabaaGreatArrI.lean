/-
  Laws on arrays of numbers: a cut that begins within a block, copy, one of them by value, '=='; noughts appended to bytes. Plain; no program is named here.
-/
import Derived.Test.YtkakihbfhmiabaaGreatGrAB
import Derived.Test.YtkakihbfhmiabaaGreatGrAC
import Derived.Laws.StructEq
import Derived.Laws.AppendOwn
namespace Go.Proofs.YtkakihbfhmiabaaGreat
open Go.RowKit

section
variable {P : Program} {ops : Array Oper} {rest : List Oper} {o : Oper} {a : Act} {w : World} {K Q : Act → World → Prop} {R : Exit → Act → World → Prop}

/-- A whole array that stands within a block. -/
theorem run_slice_off (P : Program) (w : World) (t N e : Nat) (hu : P.underlying t = some (.array N e)) (hs : (P.info? e).map (·.size) = some 1) (g o : Nat) :
    (Instr.sliceAt t (.pointer (some ⟨g, o, none⟩)) none none none).run P w = .ok (.slice (some ⟨g, o, none⟩) N N) w := by
  obtain ⟨i, hi, hiz⟩ := Option.map_eq_some_iff.1 hs
  have h0 : (⟨g, o, none⟩ : Addr).add 0 = ⟨g, o, none⟩ := rfl
  simp [Instr.sliceAt, Instr.sureAddr, run_underlying hu, Instr.sliceBounds, sizeOf, typeInfo, hi, h0]
theorem exec_slice_whole {o : Oper} (t : TypeId) (x : Operand) (ho : o.op = .slice t x none none none) (N e : Nat) (hu : P.underlying t = some (.array N e)) (hs : (P.info? e).map (·.size) = some 1)
    (g k : Nat) (hx : a.eval x = .pointer (some ⟨g, k, none⟩)) : (execOp a.eval o).run P w = .ok (.value (.slice (some ⟨g, k, none⟩) N N)) w := by
  have hr := run_slice_off P w t N e hu hs g k
  unfold execOp
  simp only [ho, Sem.run_bind, Sem.run_pure, Result.andThen_ok, Option.map_none, hx, hr]

theorem add_off (g o k : Nat) : (⟨g, o, none⟩ : Addr).add k = ⟨g, o + k, none⟩ := by unfold Addr.add; split <;> simp_all
/-- Numbers that stand within a block. -/
theorem RC.of_blk_at {w : World} {g : Nat} {t : TypeId} {l : List Int} (h : Blk w g t (icells l)) (o n : Nat) : RC w (some ⟨g, o, none⟩) (ivals ((l.drop o).take n)) := fun k hk => by
  refine ⟨_, rfl, ?_⟩
  have hk' : k < n ∧ o + k < l.length := by
    rw [ivals_len, List.length_take, List.length_drop] at hk; omega
  rw [add_off, h.cell, icells_get, List.getElem?_eq_getElem hk'.2]
  simp [ivals]
/-- copy of numbers to an array's front. -/
theorem run_copy_ints (P : Program) (w : World) (dT sT ty elem : TypeId) (hu : P.underlying dT = some (.slice elem)) (hs : (P.info? elem).map (·.size) = some 1)
    (g dLen dCap : Nat) (cur : List Int) (t : TypeId) (hg : Blk w g t (icells cur)) (hd : dLen ≤ cur.length) (ad : Addr) (n c : Nat) (l : List Int) (hn : l.length = n) (hnd : n ≤ dLen) (h0 : 0 < n) (hr : RC w (some ad) (ivals l)) :
    ∃ w', (Builtin.copy_ #[dT, sT] ty #[.slice (some ⟨g, 0, none⟩) dLen dCap, .slice (some ad) n c]).run P w = .ok (.int .i64 (n : Int)) w' ∧ Only w w' g ∧ Blk w' g t (icells (l ++ cur.drop n)) := by
  subst hn
  have hlen : (ivals l).length = min l.length dLen := by rw [ivals_len]; omega
  have hrun := run_copy_row P w dT sT ty elem g 0 dLen dCap ad l.length c (icells cur) t (ivals l) hu hs hg hlen ?_ ?_ ?_
  · rw [ivals_len] at hrun
    refine ⟨_, hrun, Only.setRow hg _, ?_⟩
    have e : (List.take 0 (icells cur).toList ++ ivals l ++ List.drop (0 + l.length) (icells cur).toList).toArray = icells (l ++ cur.drop l.length) := by
      simp [icells, ivals, List.map_drop]
    rw [e]
    exact hg.setRow _
  · intro j v hj
    obtain ⟨hjl, e⟩ := List.getElem?_eq_some_iff.1 hj
    obtain ⟨ad', e1, hc⟩ := hr j hjl
    injection e1 with e1
    subst e1
    rw [hc, ← e]
  · rw [ivals_len, icells_size]; omega
  · intro v hv
    obtain ⟨x, _, rfl⟩ := List.mem_map.1 hv
    rfl
theorem ow_copy_ints {K : Act → World → Prop} {Q : Exit → Act → World → Prop} (s x : Operand) (dT sT : TypeId) (ho : o.op = .call { callee := .builtin .copy, args := #[s, x], argTypes := #[dT, sT] }) (elem : TypeId) (hu : P.underlying dT = some (.slice elem)) (hs : (P.info? elem).map (·.size) = some 1)
    (g dLen dCap : Nat) (cur : List Int) (t : TypeId) (hsv : a.eval s = .slice (some ⟨g, 0, none⟩) dLen dCap) (hg : Blk w g t (icells cur)) (hd : dLen ≤ cur.length) (ad : Addr) (n c : Nat) (l : List Int) (hxv : a.eval x = .slice (some ad) n c) (hn : l.length = n) (hnd : n ≤ dLen) (h0 : 0 < n) (hr : RC w (some ad) (ivals l))
    (h : Stop (∀ w', Hid (Only w w' g) → Hid (Blk w' g t (icells (l ++ cur.drop n))) → K (a.put o.dst (.int .i64 (n : Int))) w')) : o.wp P a w K Q := by
  obtain ⟨w', hrun, h1, h2⟩ := run_copy_ints P w dT sT o.type elem hu hs g dLen dCap cur t hg hd ad n c l hn hnd h0 hr
  unfold Oper.wp execOp
  simp only [ho, resolve, invoke, builtin, Sem.run_bind, Sem.run_pure, Result.andThen_ok, List.map_toArray, List.map_cons, List.map_nil, hsv, hxv, hrun]
  exact h w' h1 h2

/-- One of them, by value. -/
theorem run_index_ints (P : Program) (w : World) (t e : TypeId) (n : Nat) (hu : P.underlying t = some (.array n e)) (he : P.underlying e = some (.int .i64)) (hs : (P.info? e).map (·.size) = some 1) (k : IntKind) (M : List Int) (q : Nat) (hq : q < n) (hM : q < M.length) :
    (Instr.index t (.agg (icells M)) (.int k q)).run P w = .ok (.int .i64 (fld M q)) w := by
  obtain ⟨inf, hi, hsz⟩ := Option.map_eq_some_iff.1 hs
  have hc : (icells M)[q]? = some (.int .i64 (fld M q)) := by rw [icells_get, fld_get M q hM]; rfl
  simp [Instr.index, asIntOf, run_underlying hu, hq, part, isAgg, run_underlying he, sizeOf, typeInfo, hi, hsz, hc]
theorem wpList_index_ints {Q : Exit → Act → World → Prop} (hgd : Region.wanted o (yielded ops a.tmps) = true) (t : TypeId) (x y : Operand) (ho : o.op = .index t x y) (n e : Nat) (hu : P.underlying t = some (.array n e)) (he : P.underlying e = some (.int .i64)) (hs : (P.info? e).map (·.size) = some 1)
    (M : List Int) (hx : a.eval x = .agg (icells M)) (k : IntKind) (I : Int) (hy : a.eval y = .int k I) (q : Nat) (hI : I = q) (hq : q < n) (hM : q < M.length)
    (h : wpList P ops Q rest (a.put o.dst (.int .i64 (fld M q))) w) : wpList P ops Q (o :: rest) a w := by
  refine wpList_wanted hgd fun K hK => ?_
  subst hI
  unfold Oper.wp execOp
  simp only [ho, hx, hy, Sem.run_bind, Sem.run_pure, Result.andThen_ok, run_index_ints P w t e n hu he hs k M q hq hM]
  exact hK _ _ h

/-! '==' of two arrays of numbers. -/
theorem all_range_ints : ∀ (xs ys : List Int), xs.length = ys.length → ((List.range xs.length).all fun i => xs.getD i 0 == ys.getD i 0) = (xs == ys)
  | [], [], _ => rfl
  | x :: xs, y :: ys, h => by
    have ih := all_range_ints xs ys (by simpa using h)
    rw [List.length_cons, List.range_succ_eq_map, List.all_cons, List.all_map]
    simp only [List.getD_cons_zero, Function.comp_def, List.getD_cons_succ, ih]
    simp [List.cons_beq_cons]
  | [], _ :: _, h => by simp at h
  | _ :: _, [], h => by simp at h
theorem run_equalIn_ints (w : World) (d : Nat) (t e : TypeId) (n : Nat) (ht : P.underlying t = some (.array n e)) (he : P.underlying e = some (.int .i64)) (hsz : ∀ w, (sizeOf e).run P w = .ok 1 w)
    (xs ys : List Int) (hx : xs.length = n) (hy : ys.length = n) : (Op.equalIn (d + 2) t (.agg (icells xs)) (.agg (icells ys))).run P w = .ok (xs == ys) w := by
  rw [← all_range_ints xs ys (hx.trans hy.symm), hx, List.range_eq_range', Op.equalIn]
  simp only [Sem.run_bind, run_underlying ht, Result.andThen_ok, hsz, Std.Legacy.Range.forIn_eq_forIn_range', Std.Legacy.Range.size, Nat.sub_zero, Nat.add_sub_cancel, Nat.div_one]
  have hl : ∀ i ∈ List.range' 0 n 1, i < n := fun i hi => by simpa using (List.mem_range'_1.1 hi).2
  generalize List.range' 0 n 1 = l at hl ⊢
  induction l with
  | nil => simp
  | cons i l ih =>
    have hi : i < n := hl i (by simp)
    have px : (part e (icells xs) (i * 1)).run P w = .ok (.int .i64 (xs.getD i 0)) w := by
      simp [part, isAgg, run_underlying he, icells, List.getD, List.getElem?_eq_getElem (show i < xs.length by omega)]
    have py : (part e (icells ys) (i * 1)).run P w = .ok (.int .i64 (ys.getD i 0)) w := by
      simp [part, isAgg, run_underlying he, icells, List.getD, List.getElem?_eq_getElem (show i < ys.length by omega)]
    have pe := run_equalIn_int (P := P) w d e .i64 .i64 (xs.getD i 0) (ys.getD i 0) he
    simp only [List.forIn_cons, Sem.run_bind, px, py, pe, Result.andThen_ok, List.all_cons]
    cases hb : (xs.getD i 0 == ys.getD i 0)
    · simp
    · simpa using ih fun j hj => hl j (by simp [hj])

/-! append of m noughts to bytes of the call's own. -/
theorem zeroCells_byte (m : Nat) : (Builtin.zeroCells #[Value.int .u8 0] m).toList = (zeros m).map fun x => Value.int .u8 (x.toNat : Int) := by
  apply List.ext_getElem?
  intro i
  simp [Builtin.zeroCells, zeros]
  by_cases h : i < m <;> simp [h, Nat.mod_one]
theorem run_append_zeros (w : World) (B : Nat) (t t2 ty e : TypeId) (ht : P.underlying t = some (.slice e)) (h2 : P.underlying t2 = some (.int .i64)) (hi : (P.info? e).map (fun i => (i.zero, i.size, i.bytes)) = some (some (.int .u8 0), 1, 1))
    (v : Value) (l : List UInt8) (hown : OwnB w B e v l) (hl0 : 0 < l.length) (m : Nat) (h0 : 0 < m) (hlen : l.length + m ≤ 140737488355328) (hB : B ≤ w.heap.size) :
    ∃ v' w', (Builtin.append_ #[t, t2] ty #[v, .int .i64 (m : Int)]).run P w = .ok v' w' ∧ OwnB w' B e v' (l ++ zeros m) ∧ w.grownBy w' v.ownBlock := by
  obtain ⟨i, i1, i2, i3, i4⟩ := info_parts hi
  rcases hown.2 with ⟨rfl, hn⟩ | ⟨g, cap, cur, rfl, hbg, hg, hnc, hcm, hcs, htake⟩
  · omega
  have hm1 : IntKind.i64.wrap (m : Int) = m := IntWalk.i64_in _ (by omega)
  have hm2 : ¬ ((m : Int) < 0) := by omega
  have hm3 : ¬ (281474976710656 < (m : Int)) := by omega
  have hm4 : ¬ m = 0 := by omega
  have hz : (Value.int .u8 0).cells = #[Value.int .u8 0] := rfl
  have hlz : (l ++ zeros m).length = l.length + m := by rw [List.length_append, zeros_len]
  have hN : ((l ++ zeros m).map fun x => Value.int .u8 (x.toNat : Int)).length = (l.length + m) * 1 := by simp [zeros_len]
  by_cases hroom : l.length + m ≤ cap
  · have hst := run_storeCells_at P g l.length e ((zeros m).map fun x => Value.int .u8 (x.toNat : Int)) 0 cur w hg (by simp [zeros_len, hcs]; omega) (fun u hu => by obtain ⟨x, _, rfl⟩ := List.mem_map.1 hu; rfl)
    refine ⟨.slice (some ⟨g, 0, none⟩) (l.length + m) cap, w.setRow g (cur.toList.take l.length ++ ((zeros m).map fun x => Value.int .u8 (x.toNat : Int)) ++ cur.toList.drop (l.length + m)).toArray, ?_, ?_, ?_⟩
    · simp only [Nat.add_zero, List.length_map, zeros_len] at hst
      simp [Builtin.append_, run_underlying ht, run_underlying h2, sizeOf, typeInfo, zeroValue, asInt, asIntOf, i1, i2, i3, i4, hm1, hm2, hm3, hm4, hroom, hz, Addr.add_lit, zeroCells_byte, hst]
    · unfold OwnB
      rw [hlz]
      refine ⟨hN, .inr ⟨g, cap, _, rfl, hbg, setRow_heap w g cur _ e _ hg, hroom, hcm, ?_, ?_⟩⟩
      · simp [zeros_len, hcs]; omega
      · rw [List.map_append, ← htake]
        have : (cur.toList.take l.length ++ ((zeros m).map fun x => Value.int .u8 (x.toNat : Int))).length = (l.length + m) * 1 := by simp [zeros_len, hcs]; omega
        rw [Nat.mul_one] at htake ⊢
        show List.take _ (cur.toList.take l.length ++ _ ++ _) = _
        rw [List.take_left' (by simpa using this)]
        simp
    · exact ⟨rfl, rfl, rfl, by simp, fun k _ hk => setRow_other w g k _ (fun e => hk (by simp [Value.ownBlock, e]))⟩
  · have hcells : ∀ j u, (l.map fun x => Value.int .u8 (x.toNat : Int))[j]? = some u → w.drew.cell? ((⟨g, 0, none⟩ : Addr).add j) = some u := fun j u hj => by
      have := World.ownsRow.cells hown (g := g) rfl j u hj
      simpa using this
    have hf := run_firstCells_some (P := P) w.drew 1 l.length ⟨g, 0, none⟩ l.length cap (l.map fun x => Value.int .u8 (x.toNat : Int)) (by simp) hcells
    have hge := grownCap_ge w (l.length + m) cap e
    have hcm2 : grownCap w (l.length + m) cap e ≤ maxLen := grownCap_le_maxLen w (l.length + m) cap e (by unfold maxLen; omega)
    have h63 : ¬ (9223372036854775807 < ((l.length : Int) + (m : Int))) := by omega
    have h48 : ¬ (281474976710656 < Builtin.nextslicecap (l.length + m) cap) := by
      have := growslice_fits (bytes := 1) (show cap < l.length + m by omega) (by omega)
      omega
    refine ⟨.slice (some ⟨w.heap.size, 0, none⟩) (l.length + m) (grownCap w (l.length + m) cap e), w.drew.alloc (.cells ((l.map fun x => Value.int .u8 (x.toNat : Int)).toArray ++ Builtin.zeroCells #[Value.int .u8 0] m ++ Builtin.zeroCells #[Value.int .u8 0] (grownCap w (l.length + m) cap e - (l.length + m))) e), ?_, ?_, ?_⟩
    · simp [Builtin.append_, run_underlying ht, run_underlying h2, sizeOf, typeInfo, zeroValue, asInt, asIntOf, i1, i2, i3, i4, hm1, hm2, hm3, hm4, hroom, hz, h63, h48, Question.forced, hf, newRow, grownCap]
    · unfold OwnB
      rw [hlz]
      refine ⟨hN, .inr ⟨w.heap.size, _, _, rfl, hB, heap_alloc_new w.drew _, hge, hcm2, ?_, ?_⟩⟩
      · simp [size_zeroCells]; omega
      · rw [Array.toList_append, Array.toList_append, zeroCells_byte, ← List.map_append]
        exact List.take_left' hN
    · exact ⟨rfl, rfl, rfl, by simp, fun k hk _ => by first | exact Go.heap_alloc_old w.drew _ k hk | exact heap_alloc_old w.drew _ hk⟩
theorem wpList_append_zeros {Q : Exit → Act → World → Prop} (hgd : Region.wanted o (yielded ops a.tmps) = true) (s x : Operand) (t t2 e : TypeId) (ho : o.op = .call { callee := .builtin .append, args := #[s, x], argTypes := #[t, t2] })
    (ht : P.underlying t = some (.slice e)) (h2 : P.underlying t2 = some (.int .i64)) (hi : (P.info? e).map (fun i => (i.zero, i.size, i.bytes)) = some (some (.int .u8 0), 1, 1))
    (B : Nat) (v : Value) (l : List UInt8) (hs : a.eval s = v) (hown : OwnB w B e v l) (hB : B ≤ w.heap.size) (hl0 : 0 < l.length) (I : Int) (m : Nat) (hx : a.eval x = .int .i64 I) (hI : I = m) (h0 : 0 < m) (hlen : l.length + m ≤ 140737488355328)
    (h : Stop (∀ v' w', Hid (OwnB w' B e v' (l ++ zeros m)) → Hid (Below B w w') → wpList P ops Q rest (a.put o.dst v') w')) : wpList P ops Q (o :: rest) a w := by
  subst hI
  obtain ⟨v', w', hrun, r1, r2⟩ := run_append_zeros (P := P) w B t t2 o.type e ht h2 hi v l hown hl0 m h0 hlen hB
  refine wpList_wanted hgd fun K hK => ?_
  unfold Oper.wp execOp
  simp only [ho, resolve, invoke, builtin, Sem.run_bind, Sem.run_pure, Result.andThen_ok, List.map_toArray, List.map_cons, List.map_nil, hs, hx, hrun]
  exact hK _ _ (h v' w' r1 ((Below.refl _ _).grown r2 hB (fun k hk => (World.ownsRow.lt hown k hk).1)))
end

end Go.Proofs.YtkakihbfhmiabaaGreat
