/-
  Numbers within a block of them: cut from a place on, cleared, copied over others; a store of one. Plain; no program is named here.
-/
import Derived.Test.YtfhghcodhacneaaLodI
import Derived.Test.YtfhghcodhacneaaPatO
import Derived.Test.YtfhghcodhacneaaEqA
import Derived.Test.YtfhghcodhacneaaGrD
namespace Go.Proofs.Ytfhghcodhacneaa
open Go.RowKit

theorem oneCell_vals (l : List Int) : ∀ v ∈ l.map (Value.int .i64), v.oneCell' = true := fun v hv => by
  obtain ⟨x, _, rfl⟩ := List.mem_map.1 hv
  rfl
theorem icells_laid (L m : List Int) (o : Nat) : ((icells L).toList.take o ++ m.map (Value.int .i64) ++ (icells L).toList.drop (o + (m.map (Value.int .i64)).length)).toArray = icells (L.take o ++ m ++ L.drop (o + m.length)) := by
  simp [icells, List.map_drop, List.map_take]
theorem icells_same {d e : Int} {t u : List Int} (h : t.length = 32) (h' : u.length = 32) : (icells (d :: t)).size = (icells (e :: u)).size := by
  rw [icells_size, icells_size, List.length_cons, List.length_cons, h, h']
theorem int_cell {w : World} {g : Nat} {t : TypeId} {d : Int} {l : List Int} (h : Blk w g t (icells (d :: l))) (k : Nat) (hk : k < l.length) : w.cell? ⟨g, 1 + k, none⟩ = some (.int .i64 (fld l k)) := by
  rw [h.cell, icells_get, show 1 + k = k + 1 from Nat.add_comm 1 k, List.getElem?_cons_succ, fld_get l k hk]
  rfl
theorem dep_cell {w : World} {g : Nat} {t : TypeId} {d : Int} {l : List Int} (h : Blk w g t (icells (d :: l))) : w.cell? ⟨g, 0, none⟩ = some (.int .i64 d) := by
  rw [h.cell, icells_get]
  rfl
theorem icells_put (d : Int) (l : List Int) (k : Nat) (v : Int) : (icells (d :: l)).setIfInBounds (1 + k) (.int .i64 v) = icells (d :: l.set k v) := by
  rw [icells_set, show 1 + k = k + 1 from Nat.add_comm 1 k, List.set_cons_succ]
theorem icells_dep (d e : Int) (l : List Int) : (icells (d :: l)).setIfInBounds 0 (.int .i64 e) = icells (e :: l) := by
  rw [icells_set, List.set_cons_zero]

section
variable {P : Program} {ops : Array Oper} {rest : List Oper} {o : Oper} {a : Act} {w : World} {Q : Exit → Act → World → Prop}

/-- [lo:] of an array that stands within a block. -/
theorem run_slice_from (P : Program) (w : World) (t N e : Nat) (hu : P.underlying t = some (.array N e)) (hs : (P.info? e).map (·.size) = some 1) (g q l : Nat) (h : l ≤ N) (kl : IntKind) :
    (Instr.sliceAt t (.pointer (some ⟨g, q, none⟩)) (some (.int kl l)) none none).run P w = .ok (.slice (some ⟨g, if N = l then q else q + l, none⟩) (N - l) (N - l)) w := by
  obtain ⟨i, hi, hiz⟩ := Option.map_eq_some_iff.1 hs
  have ha := add_off g q l
  by_cases h1 : N = l
  · simp [Instr.sliceAt, Instr.sureAddr, run_underlying hu, Instr.sliceBounds, Instr.sliceBound, asIntOf, sizeOf, typeInfo, hi, h1]
  · simp [Instr.sliceAt, Instr.sureAddr, run_underlying hu, Instr.sliceBounds, Instr.sliceBound, asIntOf, sizeOf, typeInfo, hi, hiz, h1, h, ha]
theorem exec_slice_from {o : Oper} (t : TypeId) (x lo : Operand) (ho : o.op = .slice t x (some lo) none none) (N e : Nat) (hu : P.underlying t = some (.array N e)) (hs : (P.info? e).map (·.size) = some 1)
    (g q : Nat) (hx : a.eval x = .pointer (some ⟨g, q, none⟩)) (kl : IntKind) (L : Int) (hlo : a.eval lo = .int kl L) (l : Nat) (hL : L = l) (h : l ≤ N) : (execOp a.eval o).run P w = .ok (.value (.slice (some ⟨g, if N = l then q else q + l, none⟩) (N - l) (N - l))) w := by
  subst hL
  have hr := run_slice_from P w t N e hu hs g q l h kl
  unfold execOp
  simp only [ho, Sem.run_bind, Sem.run_pure, Result.andThen_ok, Option.map_some, Option.map_none, hx, hlo, hr]
theorem wpList_cut_from (hgd : Region.wanted o (yielded ops a.tmps) = true) (t : TypeId) (x lo : Operand) (ho : o.op = .slice t x (some lo) none none) (N e : Nat) (hu : P.underlying t = some (.array N e)) (hs : (P.info? e).map (·.size) = some 1)
    (g q : Nat) (hx : a.eval x = .pointer (some ⟨g, q, none⟩)) (kl : IntKind) (L : Int) (hlo : a.eval lo = .int kl L) (l : Nat) (hL : L = l) (h : l ≤ N)
    (hk : wpList P ops Q rest (a.put o.dst (.slice (some ⟨g, if N = l then q else q + l, none⟩) (N - l) (N - l))) w) : wpList P ops Q (o :: rest) a w := by
  refine wpList_wanted hgd fun K hK => ?_
  unfold Oper.wp
  rw [exec_slice_from t x lo ho N e hu hs g q hx kl L hlo l hL h]
  exact hK _ _ hk
theorem wpList_cut_from_lt (hgd : Region.wanted o (yielded ops a.tmps) = true) (t : TypeId) (x lo : Operand) (ho : o.op = .slice t x (some lo) none none) (N e : Nat) (hu : P.underlying t = some (.array N e)) (hs : (P.info? e).map (·.size) = some 1)
    (g q : Nat) (hx : a.eval x = .pointer (some ⟨g, q, none⟩)) (kl : IntKind) (L : Int) (hlo : a.eval lo = .int kl L) (l : Nat) (hL : L = l) (r : Nat) (h : N - l = r + 1)
    (hk : wpList P ops Q rest (a.put o.dst (.slice (some ⟨g, q + l, none⟩) (r + 1) (r + 1))) w) : wpList P ops Q (o :: rest) a w :=
  wpList_cut_from hgd t x lo ho N e hu hs g q hx kl L hlo l hL (by omega) (by rw [if_neg (by omega), h]; exact hk)
theorem exec_slice_from_lt {o : Oper} (t : TypeId) (x lo : Operand) (ho : o.op = .slice t x (some lo) none none) (N e : Nat) (hu : P.underlying t = some (.array N e)) (hs : (P.info? e).map (·.size) = some 1)
    (g q : Nat) (hx : a.eval x = .pointer (some ⟨g, q, none⟩)) (kl : IntKind) (L : Int) (hlo : a.eval lo = .int kl L) (l : Nat) (hL : L = l) (h : l < N) : (execOp a.eval o).run P w = .ok (.value (.slice (some ⟨g, q + l, none⟩) (N - l) (N - l))) w := by
  have hr := exec_slice_from (w := w) t x lo ho N e hu hs g q hx kl L hlo l hL (Nat.le_of_lt h)
  rw [if_neg (by omega)] at hr
  exact hr
/-- A struct, or an array, of no parts, and of one. -/
theorem wpList_build_nil (hgd : Region.wanted o (yielded ops a.tmps) = true) (t : TypeId) (ho : o.op = .build t #[]) (cs : Array Value) (hb : P.built t [] = some cs)
    (h : wpList P ops Q rest (a.put o.dst (.agg cs)) w) : wpList P ops Q (o :: rest) a w := by
  refine wpList_wanted hgd fun K hK => ?_
  have hr : (Instr.build t #[]).run P w = .ok (.agg cs) w := run_build w t #[] cs hb
  unfold Oper.wp execOp
  simp only [ho, Sem.run_bind, List.map_toArray, List.map_nil, hr, Result.andThen_ok]
  exact hK _ _ h
theorem wpList_build_1 (hgd : Region.wanted o (yielded ops a.tmps) = true) (t : TypeId) (i : Nat) (x : Operand) (ho : o.op = .build t #[(i, x)]) (v : Value) (hx : a.eval x = v) (cs : Array Value) (hb : P.built t [(i, v)] = some cs)
    (h : wpList P ops Q rest (a.put o.dst (.agg cs)) w) : wpList P ops Q (o :: rest) a w := by
  refine wpList_wanted hgd fun K hK => ?_
  have hr : (Instr.build t #[(i, v)]).run P w = .ok (.agg cs) w := run_build w t #[(i, v)] cs hb
  unfold Oper.wp execOp
  simp only [ho, Sem.run_bind, List.map_toArray, List.map_cons, List.map_nil, hx, hr, Result.andThen_ok]
  exact hK _ _ h
/-- [:hi] of an array that stands within a block. -/
theorem exec_slice_to {o : Oper} (t : TypeId) (x hi : Operand) (ho : o.op = .slice t x none (some hi) none) (N e : Nat) (hu : P.underlying t = some (.array N e)) (hs : (P.info? e).map (·.size) = some 1)
    (g q : Nat) (hx : a.eval x = .pointer (some ⟨g, q, none⟩)) (kl : IntKind) (L : Int) (hlo : a.eval hi = .int kl L) (l : Nat) (hL : L = l) (h : l ≤ N) : (execOp a.eval o).run P w = .ok (.value (.slice (some ⟨g, q, none⟩) l N)) w := by
  subst hL
  have hr : (Instr.sliceAt t (.pointer (some ⟨g, q, none⟩)) none (some (.int kl l)) none).run P w = .ok (.slice (some ⟨g, q, none⟩) l N) w := by
    obtain ⟨i, hi, hiz⟩ := Option.map_eq_some_iff.1 hs
    have ha : (⟨g, q, none⟩ : Addr).add 0 = ⟨g, q, none⟩ := rfl
    simp [Instr.sliceAt, Instr.sureAddr, run_underlying hu, Instr.sliceBounds, Instr.sliceBound, asIntOf, sizeOf, typeInfo, hi, h, ha]
  unfold execOp
  simp only [ho, Sem.run_bind, Sem.run_pure, Result.andThen_ok, Option.map_some, Option.map_none, hx, hlo, hr]

/-- clear of numbers within a block. -/
theorem run_clear_ints (P : Program) (w : World) (t ty e : TypeId) (ht : P.underlying t = some (.slice e)) (hi : (P.info? e).map (fun i => (i.zero, i.size, i.bytes)) = some (some (.int .i64 0), 1, 8)) (g q n c : Nat) (tb : TypeId) (L : List Int) (hg : Blk w g tb (icells L)) (hq : n = 0 ∨ q + n ≤ L.length) :
    ∃ w', (Builtin.clear_ #[t] ty #[.slice (some ⟨g, q, none⟩) n c]).run P w = .ok (.tuple #[]) w' ∧ Only w w' g ∧ Blk w' g tb (icells (if n = 0 then L else L.take q ++ List.replicate n 0 ++ L.drop (q + n))) := by
  obtain ⟨i, h1, h2, h3, h4⟩ := info_parts hi
  cases n with
  | zero =>
    refine ⟨w, ?_, Only.refl w g, hg⟩
    simp [Builtin.clear_, run_underlying ht]
  | succ n =>
    have hz : (Builtin.zeroCells (Value.int .i64 0).cells (n + 1)).toList = (List.replicate (n + 1) (0 : Int)).map (Value.int .i64) := by
      rw [show (Value.int .i64 0).cells = #[Value.int .i64 0] from rfl]
      apply List.ext_getElem?
      intro j
      simp [Builtin.zeroCells]
      by_cases h : j < n + 1 <;> simp [h, Nat.mod_one]
    have hfit : q + 0 + ((List.replicate (n + 1) (0 : Int)).map (Value.int .i64)).length ≤ (icells L).size := by
      rw [List.length_map, List.length_replicate, icells_size]; omega
    have hst := run_storeCells_at (P := P) g q tb ((List.replicate (n + 1) (0 : Int)).map (Value.int .i64)) 0 (icells L) w hg hfit (oneCell_vals _)
    simp only [Nat.add_zero] at hst
    rw [icells_laid, List.length_replicate] at hst
    refine ⟨w.setRow g (icells (L.take q ++ List.replicate (n + 1) 0 ++ L.drop (q + (n + 1)))), ?_, Only.setRow hg _, ?_⟩
    · have hv : ∀ w, (zeroValue e).run P w = .ok (.int .i64 0) w := fun w => by simp [zeroValue, typeInfo, h1, h2]
      generalize icells (L.take q ++ List.replicate (n + 1) 0 ++ L.drop (q + (n + 1))) = R at *
      generalize (List.replicate (n + 1) (0 : Int)).map (Value.int .i64) = M at *
      simp [Builtin.clear_, run_underlying ht, hv, hz, hst]
    · rw [if_neg (by omega)]
      exact hg.setRow _
theorem wpList_clear_ints (hgd : Region.wanted o (yielded ops a.tmps) = true) (s : Operand) (t e : TypeId) (ho : o.op = .call { callee := .builtin .clear, args := #[s], argTypes := #[t] }) (ht : P.underlying t = some (.slice e)) (hi : (P.info? e).map (fun i => (i.zero, i.size, i.bytes)) = some (some (.int .i64 0), 1, 8))
    (g q n c : Nat) (hs : a.eval s = .slice (some ⟨g, q, none⟩) n c) (tb : TypeId) (L : List Int) (hg : Blk w g tb (icells L)) (hq : n = 0 ∨ q + n ≤ L.length) (R : List Int) (hR : (if n = 0 then L else L.take q ++ List.replicate n 0 ++ L.drop (q + n)) = R)
    (h : Stop (∀ w', Hid (Only w w' g) → Hid (Blk w' g tb (icells R)) → wpList P ops Q rest (a.put o.dst (.tuple #[])) w')) : wpList P ops Q (o :: rest) a w := by
  subst hR
  refine wpList_wanted hgd fun K hK => ?_
  obtain ⟨w', hrun, h1, h2⟩ := run_clear_ints P w t o.type e ht hi g q n c tb L hg hq
  unfold Oper.wp execOp
  simp only [ho, resolve, invoke, builtin, Sem.run_bind, Sem.run_pure, Result.andThen_ok, List.map_toArray, List.map_cons, List.map_nil, hs, hrun]
  exact hK _ _ (h w' h1 h2)

/-- copy of numbers over others of the same block or of another one. -/
theorem ow_copy_ints_at {K : Act → World → Prop} {Q : Exit → Act → World → Prop} (s x : Operand) (dT sT : TypeId) (ho : o.op = .call { callee := .builtin .copy, args := #[s, x], argTypes := #[dT, sT] }) (elem : TypeId) (hu : P.underlying dT = some (.slice elem)) (hs : (P.info? elem).map (·.size) = some 1)
    (g q dLen dCap : Nat) (cur : List Int) (t : TypeId) (hsv : a.eval s = .slice (some ⟨g, q, none⟩) dLen dCap) (hg : Blk w g t (icells cur)) (ad : Addr) (n c : Nat) (l : List Int) (hxv : a.eval x = .slice (some ad) n c) (hn : l.length = n) (hnd : n ≤ dLen) (hd : q + n ≤ cur.length) (hr : RC w (some ad) (ivals l))
    (h : Stop (∀ w', Hid (Only w w' g) → Hid (Blk w' g t (icells (cur.take q ++ l ++ cur.drop (q + n)))) → K (a.put o.dst (.int .i64 (n : Int))) w')) : o.wp P a w K Q := by
  subst hn
  have hlen : (ivals l).length = Nat.min l.length dLen := by rw [ivals_len]; exact (Nat.min_eq_left hnd).symm
  have hrun := run_copy_row P w dT sT o.type elem g q dLen dCap ad l.length c (icells cur) t (ivals l) hu hs hg hlen (fun j v hj => by
    obtain ⟨hjl, e⟩ := List.getElem?_eq_some_iff.1 hj
    obtain ⟨ad', e1, hc⟩ := hr j hjl
    injection e1 with e1
    subst e1
    rw [hc, ← e]) (by rw [ivals_len, icells_size]; omega) (oneCell_vals l)
  have e := icells_laid cur l q
  rw [show l.map (Value.int .i64) = ivals l from rfl, ivals_len] at e
  rw [ivals_len, e] at hrun
  unfold Oper.wp execOp
  simp only [ho, resolve, invoke, builtin, Sem.run_bind, Sem.run_pure, Result.andThen_ok, List.map_toArray, List.map_cons, List.map_nil, hsv, hxv, hrun]
  exact h _ (Only.setRow hg _) (hg.setRow _)
end

theorem short_cells (d : Int) {t : List Int} (ht : t.length = 32) {D : Nat} (h5 : D ≤ 5) (q : Nat) (hq : q = (if 32 = 2 ^ D then 1 else 1 + 2 ^ D)) : (if 32 - 2 ^ D = 0 then d :: t else (d :: t).take q ++ List.replicate (32 - 2 ^ D) 0 ++ (d :: t).drop (q + (32 - 2 ^ D))) = d :: shortT D t := by
  have h32 := pow32 h5
  by_cases h : 32 - 2 ^ D = 0
  · rw [if_pos h]
    refine congrArg _ (ext32 ht (mapT_len _) fun i hi => ?_)
    unfold shortT
    rw [mapT_at _ i hi, if_pos (by omega)]
  · rw [if_neg h]
    rw [if_neg (by omega)] at hq
    subst hq
    rw [show 1 + 2 ^ D + (32 - 2 ^ D) = 33 by omega, List.drop_of_length_le (by rw [List.length_cons]; omega), List.append_nil, Nat.add_comm 1, List.take_succ_cons, List.cons_append]
    refine congrArg _ (ext32 (by rw [List.length_append, List.length_take, List.length_replicate]; omega) (mapT_len _) fun i hi => ?_)
    unfold shortT
    rw [mapT_at _ i hi]
    unfold fld
    rw [List.getD_eq_getElem?_getD, List.getElem?_append, List.length_take]
    by_cases hl : i < 2 ^ D
    · rw [if_pos (by omega), if_pos hl, List.getElem?_take_of_lt hl, List.getD_eq_getElem?_getD]
    · rw [if_neg (by omega), if_neg hl, List.getElem?_replicate, if_pos (by omega)]
      rfl
theorem dbl_cells (d : Int) {t : List Int} (ht : t.length = 32) {D : Nat} (h4 : D ≤ 4) : (d :: t).take (1 + 2 ^ D) ++ t.take (2 ^ D) ++ (d :: t).drop (1 + 2 ^ D + 2 ^ D) = d :: dblT D t := by
  have h16 : 2 ^ D ≤ 16 := Nat.pow_le_pow_right (n := 2) (by omega) h4
  have e2 : 2 ^ (D + 1) = 2 * 2 ^ D := by rw [Nat.pow_succ]; omega
  rw [Nat.add_comm 1, List.take_succ_cons, List.cons_append, List.cons_append, show 2 ^ D + 1 + 2 ^ D = 2 * 2 ^ D + 1 by omega, List.drop_succ_cons]
  refine congrArg _ (ext32 (by rw [List.length_append, List.length_append, List.length_take, List.length_drop]; omega) (mapT_len _) fun i hi => ?_)
  unfold dblT
  rw [mapT_at _ i hi]
  unfold fld
  rw [List.getD_eq_getElem?_getD, List.getElem?_append, List.length_append, List.length_take]
  by_cases h1 : i < 2 * 2 ^ D
  · rw [if_pos (by omega), List.getElem?_append, List.length_take]
    by_cases h2 : i < 2 ^ D
    · rw [if_pos (by omega), if_neg (by omega), List.getElem?_take_of_lt h2, List.getD_eq_getElem?_getD]
    · rw [if_neg (by omega), if_pos (by omega), List.getElem?_take_of_lt (by omega), List.getD_eq_getElem?_getD, show min (2 ^ D) t.length = 2 ^ D by omega]
  · rw [if_neg (by omega), if_neg (by omega), List.getElem?_drop, List.getD_eq_getElem?_getD]
    congr 2
    omega

end Go.Proofs.Ytfhghcodhacneaa
