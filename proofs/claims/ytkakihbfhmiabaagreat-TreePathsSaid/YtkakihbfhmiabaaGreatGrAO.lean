/-
  Texts of this claim joined: LodI, IdxO, Ix1.
-/
import Derived.Test.YtkakihbfhmiabaaGreatArrI
import Derived.Test.YtkakihbfhmiabaaGreatPatO
import Derived.Test.YtkakihbfhmiabaaGreatGrAS
import Derived.Test.YtkakihbfhmiabaaGreatGrAD
import Derived.Test.YtkakihbfhmiabaaGreatRows
import Derived.Test.YtkakihbfhmiabaaGreatGrAA
import Derived.Test.YtkakihbfhmiabaaGreatGrAJ
import Derived.BigQuiet

/-
  A load of numbers that stand within a row of them. Plain; no program is named here.
-/
namespace Go.Proofs.YtkakihbfhmiabaaGreat
open Go.RowKit

section
variable {P : Program} {ops : Array Oper} {rest : List Oper} {o : Oper} {a : Act} {w : World} {Q : Exit → Act → World → Prop}
theorem run_loadVar_ino (P : Program) (w : World) (ty : TypeId) (d : TypeDesc) (hu : P.underlying ty = some d) (hd : (match d with | .struct _ | .array _ _ => true | _ => false) = true) (g off : Nat) (t : TypeId) (L l : List Int) (hg : Blk w g t (icells L)) (hl : (L.drop off).take l.length = l) (hs : (P.info? ty).map (·.size) = some (icells l).size) :
    (loadVar ty ⟨g, off, none⟩).run P w = .ok (.agg (icells l)) w := by
  have hlen : (l.map (Value.int .i64)).length = (icells l).size := by simp [icells]
  have hc := run_loadCells_list (P := P) w ⟨g, off, none⟩ (l.map (Value.int .i64)) (fun j v hj => by
    rw [List.getElem?_map] at hj
    obtain ⟨x, hx, rfl⟩ := Option.map_eq_some_iff.1 hj
    have hj' : j < l.length := (List.getElem?_eq_some_iff.1 hx).1
    have e : (⟨g, off, none⟩ : Addr).add j = ⟨g, off + j, none⟩ := by unfold Addr.add; split <;> simp_all
    rw [e, hg.cell, icells_get]
    rw [← hl, List.getElem?_take_of_lt hj', List.getElem?_drop] at hx
    rw [hx]
    rfl)
  rw [hlen] at hc
  obtain ⟨i, hq, hsz⟩ := Option.map_eq_some_iff.1 hs
  have hagg : (isAgg ty).run P w = .ok true w := by
    unfold isAgg
    rw [Sem.run_bind, run_underlying hu w]
    cases d <;> simp_all
  simp [loadVar, Sem.run_bind, hagg, sizeOf, typeInfo, hq, hsz, hc]
  rfl
/-- An inode that stands within a row of them. -/
theorem exec_load_ino (t : TypeId) (x : Operand) (ho : o.op = .load t x) (g off : Nat) (hx : a.eval x = .pointer (some ⟨g, off, none⟩)) (t' : TypeId) (L l : List Int) (hg : Blk w g t' (icells L)) (hl : (L.drop off).take l.length = l)
    (d : TypeDesc) (hu : P.underlying t = some d) (hd : (match d with | .struct _ | .array _ _ => true | _ => false) = true) (hs : (P.info? t).map (·.size) = some (icells l).size) : (execOp a.eval o).run P w = .ok (.value (.agg (icells l))) w := by
  unfold execOp
  simp only [ho, hx, Instr.loadAt, Instr.sureAddr, Sem.run_bind, Sem.run_pure, Result.andThen_ok, run_loadVar_ino P w t d hu hd g off t' L l hg hl hs]
theorem wpList_load_ino (hgd : Region.wanted o (yielded ops a.tmps) = true) (t : TypeId) (x : Operand) (ho : o.op = .load t x) (g off : Nat) (hx : a.eval x = .pointer (some ⟨g, off, none⟩)) (t' : TypeId) (L l : List Int) (hg : Blk w g t' (icells L)) (hl : (L.drop off).take l.length = l)
    (d : TypeDesc) (hu : P.underlying t = some d) (hd : (match d with | .struct _ | .array _ _ => true | _ => false) = true) (hs : (P.info? t).map (·.size) = some (icells l).size) (h : wpList P ops Q rest (a.put o.dst (.agg (icells l))) w) : wpList P ops Q (o :: rest) a w := by
  refine wpList_wanted hgd fun K hK => ?_
  unfold Oper.wp
  rw [exec_load_ino t x ho g off hx t' L l hg hl d hu hd hs]
  exact hK _ _ h
end

end Go.Proofs.YtkakihbfhmiabaaGreat

/-
  Numbers within a block of them: cut from a place on, cleared, copied over others; a store of one. Plain; no program is named here.
-/
namespace Go.Proofs.YtkakihbfhmiabaaGreat
open Go.RowKit

theorem oneCell_vals (l : List Int) : ∀ v ∈ l.map (Value.int .i64), v.oneCell' = true := fun v hv => by
  obtain ⟨x, _, rfl⟩ := List.mem_map.1 hv
  rfl
theorem icells_laid (L m : List Int) (o : Nat) : ((icells L).toList.take o ++ m.map (Value.int .i64) ++ (icells L).toList.drop (o + (m.map (Value.int .i64)).length)).toArray = icells (L.take o ++ m ++ L.drop (o + m.length)) := by
  simp [icells, List.map_drop, List.map_take]
theorem icells_same {d e : Int} {t u : List Int} (h : t.length = 32) (h' : u.length = 32) : (icells (d :: t)).size = (icells (e :: u)).size := by
  rw [icells_size, icells_size, List.length_cons, List.length_cons, h, h']
theorem int_cell {w : World} {g : Nat} {t : TypeId} {d : Int} {l : List Int} (h : Blk w g t (icells (d :: l))) (k : Nat) (hk : k < l.length) : w.cell? ⟨g, 1 + k, none⟩ = some (.int .i64 (fld l k)) := by
  rw [h.cell, icells_get, show 1 + k = k + 1 from Nat.add_comm 1 k, List.getElem?_cons_succ, fld_get l k hk]
  rfl
theorem dep_cell {w : World} {g : Nat} {t : TypeId} {d : Int} {l : List Int} (h : Blk w g t (icells (d :: l))) : w.cell? ⟨g, 0, none⟩ = some (.int .i64 d) := by
  rw [h.cell, icells_get]
  rfl
theorem icells_put (d : Int) (l : List Int) (k : Nat) (v : Int) : (icells (d :: l)).setIfInBounds (1 + k) (.int .i64 v) = icells (d :: l.set k v) := by
  rw [icells_set, show 1 + k = k + 1 from Nat.add_comm 1 k, List.set_cons_succ]
theorem icells_dep (d e : Int) (l : List Int) : (icells (d :: l)).setIfInBounds 0 (.int .i64 e) = icells (e :: l) := by
  rw [icells_set, List.set_cons_zero]

section
variable {P : Program} {ops : Array Oper} {rest : List Oper} {o : Oper} {a : Act} {w : World} {Q : Exit → Act → World → Prop}

/-- [lo:] of an array that stands within a block. -/
theorem run_slice_from (P : Program) (w : World) (t N e : Nat) (hu : P.underlying t = some (.array N e)) (hs : (P.info? e).map (·.size) = some 1) (g q l : Nat) (h : l ≤ N) (kl : IntKind) :
    (Instr.sliceAt t (.pointer (some ⟨g, q, none⟩)) (some (.int kl l)) none none).run P w = .ok (.slice (some ⟨g, if N = l then q else q + l, none⟩) (N - l) (N - l)) w := by
  obtain ⟨i, hi, hiz⟩ := Option.map_eq_some_iff.1 hs
  have ha := add_off g q l
  by_cases h1 : N = l
  · simp [Instr.sliceAt, Instr.sureAddr, run_underlying hu, Instr.sliceBounds, Instr.sliceBound, asIntOf, sizeOf, typeInfo, hi, h1]
  · simp [Instr.sliceAt, Instr.sureAddr, run_underlying hu, Instr.sliceBounds, Instr.sliceBound, asIntOf, sizeOf, typeInfo, hi, hiz, h1, h, ha]
theorem exec_slice_from {o : Oper} (t : TypeId) (x lo : Operand) (ho : o.op = .slice t x (some lo) none none) (N e : Nat) (hu : P.underlying t = some (.array N e)) (hs : (P.info? e).map (·.size) = some 1)
    (g q : Nat) (hx : a.eval x = .pointer (some ⟨g, q, none⟩)) (kl : IntKind) (L : Int) (hlo : a.eval lo = .int kl L) (l : Nat) (hL : L = l) (h : l ≤ N) : (execOp a.eval o).run P w = .ok (.value (.slice (some ⟨g, if N = l then q else q + l, none⟩) (N - l) (N - l))) w := by
  subst hL
  have hr := run_slice_from P w t N e hu hs g q l h kl
  unfold execOp
  simp only [ho, Sem.run_bind, Sem.run_pure, Result.andThen_ok, Option.map_some, Option.map_none, hx, hlo, hr]
theorem wpList_cut_from (hgd : Region.wanted o (yielded ops a.tmps) = true) (t : TypeId) (x lo : Operand) (ho : o.op = .slice t x (some lo) none none) (N e : Nat) (hu : P.underlying t = some (.array N e)) (hs : (P.info? e).map (·.size) = some 1)
    (g q : Nat) (hx : a.eval x = .pointer (some ⟨g, q, none⟩)) (kl : IntKind) (L : Int) (hlo : a.eval lo = .int kl L) (l : Nat) (hL : L = l) (h : l ≤ N)
    (hk : wpList P ops Q rest (a.put o.dst (.slice (some ⟨g, if N = l then q else q + l, none⟩) (N - l) (N - l))) w) : wpList P ops Q (o :: rest) a w := by
  refine wpList_wanted hgd fun K hK => ?_
  unfold Oper.wp
  rw [exec_slice_from t x lo ho N e hu hs g q hx kl L hlo l hL h]
  exact hK _ _ hk
theorem wpList_cut_from_lt (hgd : Region.wanted o (yielded ops a.tmps) = true) (t : TypeId) (x lo : Operand) (ho : o.op = .slice t x (some lo) none none) (N e : Nat) (hu : P.underlying t = some (.array N e)) (hs : (P.info? e).map (·.size) = some 1)
    (g q : Nat) (hx : a.eval x = .pointer (some ⟨g, q, none⟩)) (kl : IntKind) (L : Int) (hlo : a.eval lo = .int kl L) (l : Nat) (hL : L = l) (r : Nat) (h : N - l = r + 1)
    (hk : wpList P ops Q rest (a.put o.dst (.slice (some ⟨g, q + l, none⟩) (r + 1) (r + 1))) w) : wpList P ops Q (o :: rest) a w :=
  wpList_cut_from hgd t x lo ho N e hu hs g q hx kl L hlo l hL (by omega) (by rw [if_neg (by omega), h]; exact hk)
theorem exec_slice_from_lt {o : Oper} (t : TypeId) (x lo : Operand) (ho : o.op = .slice t x (some lo) none none) (N e : Nat) (hu : P.underlying t = some (.array N e)) (hs : (P.info? e).map (·.size) = some 1)
    (g q : Nat) (hx : a.eval x = .pointer (some ⟨g, q, none⟩)) (kl : IntKind) (L : Int) (hlo : a.eval lo = .int kl L) (l : Nat) (hL : L = l) (h : l < N) : (execOp a.eval o).run P w = .ok (.value (.slice (some ⟨g, q + l, none⟩) (N - l) (N - l))) w := by
  have hr := exec_slice_from (w := w) t x lo ho N e hu hs g q hx kl L hlo l hL (Nat.le_of_lt h)
  rw [if_neg (by omega)] at hr
  exact hr
/-- A struct, or an array, of no parts, and of one. -/
theorem wpList_build_nil (hgd : Region.wanted o (yielded ops a.tmps) = true) (t : TypeId) (ho : o.op = .build t #[]) (cs : Array Value) (hb : P.built t [] = some cs)
    (h : wpList P ops Q rest (a.put o.dst (.agg cs)) w) : wpList P ops Q (o :: rest) a w := by
  refine wpList_wanted hgd fun K hK => ?_
  have hr : (Instr.build t #[]).run P w = .ok (.agg cs) w := run_build w t #[] cs hb
  unfold Oper.wp execOp
  simp only [ho, Sem.run_bind, List.map_toArray, List.map_nil, hr, Result.andThen_ok]
  exact hK _ _ h
theorem wpList_build_1 (hgd : Region.wanted o (yielded ops a.tmps) = true) (t : TypeId) (i : Nat) (x : Operand) (ho : o.op = .build t #[(i, x)]) (v : Value) (hx : a.eval x = v) (cs : Array Value) (hb : P.built t [(i, v)] = some cs)
    (h : wpList P ops Q rest (a.put o.dst (.agg cs)) w) : wpList P ops Q (o :: rest) a w := by
  refine wpList_wanted hgd fun K hK => ?_
  have hr : (Instr.build t #[(i, v)]).run P w = .ok (.agg cs) w := run_build w t #[(i, v)] cs hb
  unfold Oper.wp execOp
  simp only [ho, Sem.run_bind, List.map_toArray, List.map_cons, List.map_nil, hx, hr, Result.andThen_ok]
  exact hK _ _ h
/-- [:hi] of an array that stands within a block. -/
theorem exec_slice_to {o : Oper} (t : TypeId) (x hi : Operand) (ho : o.op = .slice t x none (some hi) none) (N e : Nat) (hu : P.underlying t = some (.array N e)) (hs : (P.info? e).map (·.size) = some 1)
    (g q : Nat) (hx : a.eval x = .pointer (some ⟨g, q, none⟩)) (kl : IntKind) (L : Int) (hlo : a.eval hi = .int kl L) (l : Nat) (hL : L = l) (h : l ≤ N) : (execOp a.eval o).run P w = .ok (.value (.slice (some ⟨g, q, none⟩) l N)) w := by
  subst hL
  have hr : (Instr.sliceAt t (.pointer (some ⟨g, q, none⟩)) none (some (.int kl l)) none).run P w = .ok (.slice (some ⟨g, q, none⟩) l N) w := by
    obtain ⟨i, hi, hiz⟩ := Option.map_eq_some_iff.1 hs
    have ha : (⟨g, q, none⟩ : Addr).add 0 = ⟨g, q, none⟩ := rfl
    simp [Instr.sliceAt, Instr.sureAddr, run_underlying hu, Instr.sliceBounds, Instr.sliceBound, asIntOf, sizeOf, typeInfo, hi, h, ha]
  unfold execOp
  simp only [ho, Sem.run_bind, Sem.run_pure, Result.andThen_ok, Option.map_some, Option.map_none, hx, hlo, hr]

/-- clear of numbers within a block. -/
theorem run_clear_ints (P : Program) (w : World) (t ty e : TypeId) (ht : P.underlying t = some (.slice e)) (hi : (P.info? e).map (fun i => (i.zero, i.size, i.bytes)) = some (some (.int .i64 0), 1, 8)) (g q n c : Nat) (tb : TypeId) (L : List Int) (hg : Blk w g tb (icells L)) (hq : n = 0 ∨ q + n ≤ L.length) :
    ∃ w', (Builtin.clear_ #[t] ty #[.slice (some ⟨g, q, none⟩) n c]).run P w = .ok (.tuple #[]) w' ∧ Only w w' g ∧ Blk w' g tb (icells (if n = 0 then L else L.take q ++ List.replicate n 0 ++ L.drop (q + n))) := by
  obtain ⟨i, h1, h2, h3, h4⟩ := info_parts hi
  cases n with
  | zero =>
    refine ⟨w, ?_, Only.refl w g, hg⟩
    simp [Builtin.clear_, run_underlying ht]
  | succ n =>
    have hz : (Builtin.zeroCells (Value.int .i64 0).cells (n + 1)).toList = (List.replicate (n + 1) (0 : Int)).map (Value.int .i64) := by
      rw [show (Value.int .i64 0).cells = #[Value.int .i64 0] from rfl]
      apply List.ext_getElem?
      intro j
      simp [Builtin.zeroCells]
      by_cases h : j < n + 1 <;> simp [h, Nat.mod_one]
    have hfit : q + 0 + ((List.replicate (n + 1) (0 : Int)).map (Value.int .i64)).length ≤ (icells L).size := by
      rw [List.length_map, List.length_replicate, icells_size]; omega
    have hst := run_storeCells_at (P := P) g q tb ((List.replicate (n + 1) (0 : Int)).map (Value.int .i64)) 0 (icells L) w hg hfit (oneCell_vals _)
    simp only [Nat.add_zero] at hst
    rw [icells_laid, List.length_replicate] at hst
    refine ⟨w.setRow g (icells (L.take q ++ List.replicate (n + 1) 0 ++ L.drop (q + (n + 1)))), ?_, Only.setRow hg _, ?_⟩
    · have hv : ∀ w, (zeroValue e).run P w = .ok (.int .i64 0) w := fun w => by simp [zeroValue, typeInfo, h1, h2]
      generalize icells (L.take q ++ List.replicate (n + 1) 0 ++ L.drop (q + (n + 1))) = R at *
      generalize (List.replicate (n + 1) (0 : Int)).map (Value.int .i64) = M at *
      simp [Builtin.clear_, run_underlying ht, hv, hz, hst]
    · rw [if_neg (by omega)]
      exact hg.setRow _
theorem wpList_clear_ints (hgd : Region.wanted o (yielded ops a.tmps) = true) (s : Operand) (t e : TypeId) (ho : o.op = .call { callee := .builtin .clear, args := #[s], argTypes := #[t] }) (ht : P.underlying t = some (.slice e)) (hi : (P.info? e).map (fun i => (i.zero, i.size, i.bytes)) = some (some (.int .i64 0), 1, 8))
    (g q n c : Nat) (hs : a.eval s = .slice (some ⟨g, q, none⟩) n c) (tb : TypeId) (L : List Int) (hg : Blk w g tb (icells L)) (hq : n = 0 ∨ q + n ≤ L.length) (R : List Int) (hR : (if n = 0 then L else L.take q ++ List.replicate n 0 ++ L.drop (q + n)) = R)
    (h : Stop (∀ w', Hid (Only w w' g) → Hid (Blk w' g tb (icells R)) → wpList P ops Q rest (a.put o.dst (.tuple #[])) w')) : wpList P ops Q (o :: rest) a w := by
  subst hR
  refine wpList_wanted hgd fun K hK => ?_
  obtain ⟨w', hrun, h1, h2⟩ := run_clear_ints P w t o.type e ht hi g q n c tb L hg hq
  unfold Oper.wp execOp
  simp only [ho, resolve, invoke, builtin, Sem.run_bind, Sem.run_pure, Result.andThen_ok, List.map_toArray, List.map_cons, List.map_nil, hs, hrun]
  exact hK _ _ (h w' h1 h2)

/-- copy of numbers over others of the same block or of another one. -/
theorem ow_copy_ints_at {K : Act → World → Prop} {Q : Exit → Act → World → Prop} (s x : Operand) (dT sT : TypeId) (ho : o.op = .call { callee := .builtin .copy, args := #[s, x], argTypes := #[dT, sT] }) (elem : TypeId) (hu : P.underlying dT = some (.slice elem)) (hs : (P.info? elem).map (·.size) = some 1)
    (g q dLen dCap : Nat) (cur : List Int) (t : TypeId) (hsv : a.eval s = .slice (some ⟨g, q, none⟩) dLen dCap) (hg : Blk w g t (icells cur)) (ad : Addr) (n c : Nat) (l : List Int) (hxv : a.eval x = .slice (some ad) n c) (hn : l.length = n) (hnd : n ≤ dLen) (hd : q + n ≤ cur.length) (hr : RC w (some ad) (ivals l))
    (h : Stop (∀ w', Hid (Only w w' g) → Hid (Blk w' g t (icells (cur.take q ++ l ++ cur.drop (q + n)))) → K (a.put o.dst (.int .i64 (n : Int))) w')) : o.wp P a w K Q := by
  subst hn
  have hlen : (ivals l).length = Nat.min l.length dLen := by rw [ivals_len]; exact (Nat.min_eq_left hnd).symm
  have hrun := run_copy_row P w dT sT o.type elem g q dLen dCap ad l.length c (icells cur) t (ivals l) hu hs hg hlen (fun j v hj => by
    obtain ⟨hjl, e⟩ := List.getElem?_eq_some_iff.1 hj
    obtain ⟨ad', e1, hc⟩ := hr j hjl
    injection e1 with e1
    subst e1
    rw [hc, ← e]) (by rw [ivals_len, icells_size]; omega) (oneCell_vals l)
  have e := icells_laid cur l q
  rw [show l.map (Value.int .i64) = ivals l from rfl, ivals_len] at e
  rw [ivals_len, e] at hrun
  unfold Oper.wp execOp
  simp only [ho, resolve, invoke, builtin, Sem.run_bind, Sem.run_pure, Result.andThen_ok, List.map_toArray, List.map_cons, List.map_nil, hsv, hxv, hrun]
  exact h _ (Only.setRow hg _) (hg.setRow _)
end

theorem short_cells (d : Int) {t : List Int} (ht : t.length = 32) {D : Nat} (h5 : D ≤ 5) (q : Nat) (hq : q = (if 32 = 2 ^ D then 1 else 1 + 2 ^ D)) : (if 32 - 2 ^ D = 0 then d :: t else (d :: t).take q ++ List.replicate (32 - 2 ^ D) 0 ++ (d :: t).drop (q + (32 - 2 ^ D))) = d :: shortT D t := by
  have h32 := pow32 h5
  by_cases h : 32 - 2 ^ D = 0
  · rw [if_pos h]
    refine congrArg _ (ext32 ht (mapT_len _) fun i hi => ?_)
    unfold shortT
    rw [mapT_at _ i hi, if_pos (by omega)]
  · rw [if_neg h]
    rw [if_neg (by omega)] at hq
    subst hq
    rw [show 1 + 2 ^ D + (32 - 2 ^ D) = 33 by omega, List.drop_of_length_le (by rw [List.length_cons]; omega), List.append_nil, Nat.add_comm 1, List.take_succ_cons, List.cons_append]
    refine congrArg _ (ext32 (by rw [List.length_append, List.length_take, List.length_replicate]; omega) (mapT_len _) fun i hi => ?_)
    unfold shortT
    rw [mapT_at _ i hi]
    unfold fld
    rw [List.getD_eq_getElem?_getD, List.getElem?_append, List.length_take]
    by_cases hl : i < 2 ^ D
    · rw [if_pos (by omega), if_pos hl, List.getElem?_take_of_lt hl, List.getD_eq_getElem?_getD]
    · rw [if_neg (by omega), if_neg hl, List.getElem?_replicate, if_pos (by omega)]
      rfl
theorem dbl_cells (d : Int) {t : List Int} (ht : t.length = 32) {D : Nat} (h4 : D ≤ 4) : (d :: t).take (1 + 2 ^ D) ++ t.take (2 ^ D) ++ (d :: t).drop (1 + 2 ^ D + 2 ^ D) = d :: dblT D t := by
  have h16 : 2 ^ D ≤ 16 := Nat.pow_le_pow_right (n := 2) (by omega) h4
  have e2 : 2 ^ (D + 1) = 2 * 2 ^ D := by rw [Nat.pow_succ]; omega
  rw [Nat.add_comm 1, List.take_succ_cons, List.cons_append, List.cons_append, show 2 ^ D + 1 + 2 ^ D = 2 * 2 ^ D + 1 by omega, List.drop_succ_cons]
  refine congrArg _ (ext32 (by rw [List.length_append, List.length_append, List.length_take, List.length_drop]; omega) (mapT_len _) fun i hi => ?_)
  unfold dblT
  rw [mapT_at _ i hi]
  unfold fld
  rw [List.getD_eq_getElem?_getD, List.getElem?_append, List.length_append, List.length_take]
  by_cases h1 : i < 2 * 2 ^ D
  · rw [if_pos (by omega), List.getElem?_append, List.length_take]
    by_cases h2 : i < 2 ^ D
    · rw [if_pos (by omega), if_neg (by omega), List.getElem?_take_of_lt h2, List.getD_eq_getElem?_getD]
    · rw [if_neg (by omega), if_pos (by omega), List.getElem?_take_of_lt (by omega), List.getD_eq_getElem?_getD, show min (2 ^ D) t.length = 2 ^ D by omega]
  · rw [if_neg (by omega), if_neg (by omega), List.getElem?_drop, List.getD_eq_getElem?_getD]
    congr 2
    omega

end Go.Proofs.YtkakihbfhmiabaaGreat

/-
  Contracts of index's depth, many, isPlace, isDepth, isNumber, numberAt, Place, short, mayBe; '==' of two indexes.
-/
namespace Go.Proofs.YtkakihbfhmiabaaGreat
open Go.RowKit

theorem Tryz.int1Size : (Tryz.prog.info? 3).map (·.size) = some 1 := by kernel_rfl
theorem Tryz.ixSize : (Tryz.prog.info? 102).map (·.size) = some 33 := by kernel_rfl
theorem Tryz.ixZero : (Tryz.prog.info? 102).map (·.zero) = some (some (.agg (icells (0 :: zeroT)))) := by kernel_rfl
theorem Tryz.ixFits {d : Int} {t : List Int} (h : t.length = 32) : (Tryz.prog.info? 102).map (·.size) = some (icells (d :: t)).size := by rw [icells_size, List.length_cons, h]; exact Tryz.ixSize
theorem Tryz.toSize : (Tryz.prog.info? 100).map (·.size) = some 32 := by kernel_rfl
theorem Tryz.toFits {t : List Int} (h : t.length = 32) : (Tryz.prog.info? 100).map (·.size) = some (icells t).size := by rw [icells_size, h]; exact Tryz.toSize
theorem Tryz.ixBuilt0 : Tryz.prog.built 102 [] = some (icells (0 :: zeroT)) := by kernel_rfl
theorem Tryz.ixBuilt1 (d : Int) : Tryz.prog.built 102 [(0, .int .i64 d)] = some (icells (d :: zeroT)) := by kernel_rfl
theorem extract_to (d : Int) {t : List Int} (h : t.length = 32) : (icells (d :: t)).extract 1 33 = icells t := by
  apply Array.ext_getElem?
  intro i
  rw [Array.getElem?_extract, icells_size, List.length_cons, h, icells_get, icells_get]
  by_cases hi : i < 32
  · rw [if_pos (by omega), show 1 + i = i + 1 from Nat.add_comm 1 i, List.getElem?_cons_succ]
  · rw [if_neg (by omega), List.getElem?_eq_none (by omega)]
    rfl
theorem icells_zero (d : Int) (t : List Int) : (icells (d :: t))[0]? = some (.int .i64 d) := by
  rw [icells_get]
  rfl
set_option maxHeartbeats 1600000 in
theorem run_eql_ix (d e : Int) (t u : List Int) (ht : t.length = 32) (hu : u.length = 32) (w : World) : (binOp .eql 102 (.agg (icells (d :: t))) (.agg (icells (e :: u)))).run Tryz.prog w = .ok (.bool (d == e && t == u)) w := by
  have hA := fun d (w : World) => run_equalIn_ints (P := Tryz.prog) w d 100 3 32 Tryz.underlying100 Tryz.underlying3 (sizeOf_of Tryz.int1Size) t u ht hu
  have hE := run_equalIn_int (P := Tryz.prog) w 9998 3 .i64 .i64 d e Tryz.underlying3
  have x1 := extract_to d ht
  have x2 := extract_to e hu
  have z1 := icells_zero d t
  have z2 := icells_zero e u
  have s1 : (icells (d :: t)).size = 33 := by rw [icells_size, List.length_cons, ht]
  have s2 : (icells (e :: u)).size = 33 := by rw [icells_size, List.length_cons, hu]
  generalize icells (d :: t) = X at *
  generalize icells (e :: u) = Y at *
  go_simp
  rw [(Array.getElem?_eq_some_iff.1 z1).2, (Array.getElem?_eq_some_iff.1 z2).2, hE]
  by_cases h1 : d = e <;> by_cases h2 : t = u <;> simp [h1, h2]
theorem run_neq_ix (d e : Int) (t u : List Int) (ht : t.length = 32) (hu : u.length = 32) (w : World) : (binOp .neq 102 (.agg (icells (d :: t))) (.agg (icells (e :: u)))).run Tryz.prog w = .ok (.bool (!(d == e && t == u))) w := by
  have h := run_eql_ix d e t u ht hu w
  rw [run_eql_struct] at h
  rw [run_neq_struct]
  revert h
  generalize (Op.equalIn 10000 102 (.agg (icells (d :: t))) (.agg (icells (e :: u)))).run Tryz.prog w = r
  intro h
  cases r with
  | ok b w' =>
    simp only [Result.andThen_ok, Result.ok.injEq, Value.bool.injEq] at h ⊢
    exact ⟨by rw [h.1], h.2⟩
  | halt x w' => simp [Result.andThen] at h

set_option maxHeartbeats 400000 in
theorem isDepth_any (d : Int) (w : World) : Calls Tryz.prog 118 #[.int .i64 d] w fun e w' => e = .returned (.bool (inD d)) ∧ w = w' := by
  by_cases h : 0 ≤ d
  · go_enter Tryz.func118, Tryz.ntmps118
    go_wp2
    go_ret
    simp [h, inD]
  · go_enter Tryz.func118, Tryz.ntmps118
    go_wp2
    go_ret
    simp [inD]
    omega

set_option maxHeartbeats 400000 in
theorem isNumber_any (n : Int) (w : World) : Calls Tryz.prog 117 #[.int .i64 n] w fun e w' => e = .returned (.bool (shortB n)) ∧ w = w' := by
  by_cases h : 0 ≤ n
  · go_enter Tryz.func117, Tryz.ntmps117
    go_wp2
    go_ret
    simp [h, shortB]
  · go_enter Tryz.func117, Tryz.ntmps117
    go_wp2
    go_ret
    simp [shortB]
    omega

theorem xnumberAt_any (k : Nat) (hk : k ≤ 32) (w : World) : Calls Tryz.prog 85 #[.int .i64 k] w fun e w' => e = .returned (.int .i64 ((32 + 2 * k : Nat) : Int)) ∧ w = w' := by
  go_enter Tryz.func85, Tryz.ntmps85
  go_wp2
  go_ret
  simp
  omega

set_option maxHeartbeats 400000 in
theorem depth_any (d : Int) (t : List Int) (w : World) :
    Calls Tryz.prog 211 #[.agg (icells (d :: t))] w fun e w' => e = .returned (.int .i64 (dpN d : Nat)) ∧ Below w.heap.size w w' := by
  go_enter Tryz.func211, Tryz.ntmps211
  go_wp2_with (refine wpList_box_row rfl _ _ rfl _ rfl ?_)
  apply Stop.go; intro w1 Hg1 Hb1
  have c0 := dep_cell Hb1.out
  go_wp2
  all_goals
    go_ret
    refine ⟨congrArg (fun x => Ending.returned (.int .i64 x)) ?_, Hg1.out.1⟩
    unfold dpN
    omega

set_option maxHeartbeats 400000 in
theorem xmany_any (d : Int) (t : List Int) (ht : t.length = 32) (w : World) :
    Calls Tryz.prog 208 #[.agg (icells (d :: t))] w fun e w' => e = .returned (.int .i64 ((2 ^ dpN d : Nat) : Int)) ∧ Below w.heap.size w w' := by
  have HL := Lib.hid ht
  go_enter Tryz.func208, Tryz.ntmps208
  go_wp2_with (refine wpList_box_row rfl _ _ rfl _ rfl ?_)
  apply Stop.go; intro w1 Hg1 Hb1
  go_wp2_with (refine wpList_load_blk rfl _ _ rfl _ rfl _ _ Hb1.out _ Tryz.underlying102 rfl (Tryz.ixFits HL.out) ?_)
  refine (depth_any d t _).mono ?_; rintro e w2 ⟨rfl, hb2⟩
  have E2 := Lib.hid (bt Hg1.out.1 hb2)
  have h5 := dpN_le d
  obtain ⟨D, HD⟩ : ∃ D, Hid (dpN d = D) := ⟨_, Lib.hid rfl⟩
  rw [HD.out] at h5 ⊢
  clear hb2
  go_wp2_with fail
  go_ret
  refine ⟨congrArg (fun x => Ending.returned (.int .i64 x)) ?_, E2.out⟩
  have h32 := pow32 h5
  have e1 : ((2 : Int) ^ D) = ((2 ^ D : Nat) : Int) := by push_cast; rfl
  rw [HD.out, e1]
  generalize 2 ^ D = M at *
  unfold wrap64
  omega


set_option maxHeartbeats 400000 in
theorem xplace_any (d : Int) (t : List Int) (ht : t.length = 32) (h : Nat) (hh : h < 4294967296) (w : World) :
    Calls Tryz.prog 201 #[.agg (icells (d :: t)), .int .u32 h] w fun e w' => e = .returned (.int .i64 ((h % 2 ^ dpN d : Nat) : Int)) ∧ Below w.heap.size w w' := by
  have HL := Lib.hid ht
  go_enter Tryz.func201, Tryz.ntmps201
  go_wp2_with (refine wpList_box_row rfl _ _ rfl _ rfl ?_)
  apply Stop.go; intro w1 Hg1 Hb1
  go_wp2_with (refine wpList_load_blk rfl _ _ rfl _ rfl _ _ Hb1.out _ Tryz.underlying102 rfl (Tryz.ixFits HL.out) ?_)
  refine (depth_any d t _).mono ?_; rintro e w2 ⟨rfl, hb2⟩
  have E2 := Lib.hid (bt Hg1.out.1 hb2)
  have HN := Lib.hid (lowN_nat h (dpN d) (by have := dpN_le d; omega))
  obtain ⟨D, HD⟩ : ∃ D, Hid (dpN d = D) := ⟨_, Lib.hid rfl⟩
  rw [HD.out] at HN ⊢
  clear hb2
  go_wp2_with fail
  refine (low_any h hh D _).mono ?_; rintro e wx ⟨rfl, rfl⟩
  rw [HN.out]
  go_wp2_with fail
  go_ret
  rw [HD.out]
  exact ⟨rfl, E2.out⟩

set_option maxHeartbeats 800000 in
theorem short_any (d : Int) (t : List Int) (ht : t.length = 32) (w : World) :
    Calls Tryz.prog 198 #[.agg (icells (d :: t))] w fun e w' => e = .returned (.agg (icells (d :: shortT (dpN d) t))) ∧ Below w.heap.size w w' := by
  have HL := Lib.hid ht
  have HzL := Lib.hid zeroT_len
  have h5 := dpN_le d
  obtain ⟨D, HD⟩ : ∃ D, Hid (dpN d = D) := ⟨_, Lib.hid rfl⟩
  rw [HD.out] at h5 ⊢
  have h32 := pow32 h5
  have HSL : Hid ((shortT D t).length = 32) := Lib.hid (mapT_len _)
  obtain ⟨S, HSd⟩ : ∃ S, Hid (shortT D t = S) := ⟨_, Lib.hid rfl⟩
  have HS := Lib.hid (short_cells d ht h5 _ rfl)
  rw [HSd.out] at HSL HS ⊢
  clear h5
  obtain ⟨M, hM⟩ : ∃ M : Nat, 2 ^ D = M := ⟨_, rfl⟩
  rw [hM] at h32 HS
  have HM := Lib.hid hM
  clear hM
  by_cases hc : M = 32
  · subst hc
    have HT : Hid (t = S) := Lib.hid (by
      have h : d :: t = d :: S := HS.out
      injection h)
    have HU := HL
    rw [HT.out] at HU ⊢
    clear HT HS HL
    go_enter Tryz.func198, Tryz.ntmps198
    go_wp2_with (refine wpList_box_row rfl _ _ rfl _ rfl ?_)
    apply Stop.go; intro w1 Hg1 Hb1
    go_wp2_with (refine wpList_alloc_row rfl _ rfl _ Tryz.ixZero ?_)
    apply Stop.go; intro w2 Hg2 Hb2
    have HB2 := Lib.hid (Hb1.out.ext Hg2.out.1)
    have z1 := Hg1.out.2
    have Hz := Lib.hid (show w.heap.size ≤ w1.heap.size ∧ w.heap.size ≠ w1.heap.size by omega)
    have E2 := Lib.hid (bt Hg1.out.1 Hg2.out.1)
    clear z1
    generalize w1.heap.size = g2 at *
    go_wp2_with (refine wpList_load_blk rfl _ _ rfl _ rfl _ _ HB2.out _ Tryz.underlying102 rfl (Tryz.ixFits HU.out) ?_)
    refine (xmany_any d S HU.out _).mono ?_; rintro e w3 ⟨rfl, hb3⟩
    rw [HD.out, HM.out]
    have HB3 := Lib.hid (HB2.out.ext hb3)
    have HR3 := Lib.hid (Hb2.out.ext hb3)
    have E3 := Lib.hid (bt E2.out hb3)
    clear hb3
    go_wp2_with (refine wpList_clear_ints rfl _ _ _ rfl Tryz.underlying76 Tryz.intInfo w.heap.size 1 0 0 rfl _ _ HB3.out (Or.inl rfl) _ rfl ?_)
    apply Stop.go; intro w4 Ho4 Hb4
    have HB4 : Hid (Blk w4 w.heap.size 102 (icells (d :: S))) := Hb4
    have HR4 := Lib.hid (HR3.out.only Ho4.out (Ne.symm Hz.out.2))
    have E4 := Lib.hid (bonly E3.out Ho4.out (Nat.le_refl _))
    clear Hb4 Ho4 HR3 HB3 E3
    go_wp2_with (first | refine wpList_load_blk rfl _ _ rfl _ rfl _ _ HB4.out _ Tryz.underlying102 rfl (Tryz.ixFits HU.out) ?_ | refine wpList_store_arr rfl _ _ _ rfl _ _ rfl rfl _ _ HR4.out (Tryz.ixFits HU.out) (icells_same HzL.out HU.out) (oneCell_icells _) ?_)
    apply Stop.go; intro w5 Ho5 Hb5
    go_wp2_with ((with_reducible show bodyPost _ _ _ _ _ _); refine bodyPost_struct rfl _ rfl _ _ Hb5.out _ Tryz.underlying102 rfl (Tryz.ixFits HU.out) rfl ?_)
    apply Stop.go
    exact bonly E4.out Ho5.out Hz.out.1
  · obtain ⟨r, hr⟩ : ∃ r, 32 - M = r + 1 := ⟨31 - M, by omega⟩
    have HC : Hid ((if r + 1 = 0 then d :: t else (d :: t).take (1 + M) ++ List.replicate (r + 1) 0 ++ (d :: t).drop (1 + M + (r + 1))) = d :: S) := Lib.hid (by
      have h := HS.out
      rw [if_neg (show ¬ 32 = M by omega), hr] at h
      exact h)
    have hq : r + 1 = 0 ∨ 1 + M + (r + 1) ≤ (d :: t).length := by
      rw [List.length_cons, ht]
      omega
    have Hq := Lib.hid hq
    have HR := Lib.hid hr
    clear HS hq hc hr
    go_enter Tryz.func198, Tryz.ntmps198
    go_wp2_with (refine wpList_box_row rfl _ _ rfl _ rfl ?_)
    apply Stop.go; intro w1 Hg1 Hb1
    go_wp2_with (refine wpList_alloc_row rfl _ rfl _ Tryz.ixZero ?_)
    apply Stop.go; intro w2 Hg2 Hb2
    have HB2 := Lib.hid (Hb1.out.ext Hg2.out.1)
    have z1 := Hg1.out.2
    have Hz := Lib.hid (show w.heap.size ≤ w1.heap.size ∧ w.heap.size ≠ w1.heap.size by omega)
    have E2 := Lib.hid (bt Hg1.out.1 Hg2.out.1)
    clear z1
    generalize w1.heap.size = g2 at *
    go_wp2_with (refine wpList_load_blk rfl _ _ rfl _ rfl _ _ HB2.out _ Tryz.underlying102 rfl (Tryz.ixFits HL.out) ?_)
    refine (xmany_any d t ht _).mono ?_; rintro e w3 ⟨rfl, hb3⟩
    rw [HD.out, HM.out]
    have HB3 := Lib.hid (HB2.out.ext hb3)
    have HR3 := Lib.hid (Hb2.out.ext hb3)
    have E3 := Lib.hid (bt E2.out hb3)
    clear hb3
    go_wp2_with (first | refine wpList_cut_from_lt rfl _ _ _ rfl 32 _ Tryz.underlying100 Tryz.int1Size w.heap.size 1 rfl .i64 _ rfl M rfl r HR.out ?_ | (refine wpList_clear_ints rfl _ _ _ rfl Tryz.underlying76 Tryz.intInfo w.heap.size (1 + M) (r + 1) (r + 1) rfl _ _ HB3.out Hq.out _ HC.out ?_))
    apply Stop.go; intro w4 Ho4 Hb4
    have HB4 := Lib.hid Hb4.out
    have HR4 := Lib.hid (HR3.out.only Ho4.out (Ne.symm Hz.out.2))
    have E4 := Lib.hid (bonly E3.out Ho4.out (Nat.le_refl _))
    clear Hb4 Ho4 HR3 HB3 E3
    go_wp2_with (first | refine wpList_load_blk rfl _ _ rfl _ rfl _ _ HB4.out _ Tryz.underlying102 rfl (Tryz.ixFits HSL.out) ?_ | refine wpList_store_arr rfl _ _ _ rfl _ _ rfl rfl _ _ HR4.out (Tryz.ixFits HSL.out) (icells_same HzL.out HSL.out) (oneCell_icells _) ?_)
    apply Stop.go; intro w5 Ho5 Hb5
    go_wp2_with ((with_reducible show bodyPost _ _ _ _ _ _); refine bodyPost_struct rfl _ rfl _ _ Hb5.out _ Tryz.underlying102 rfl (Tryz.ixFits HSL.out) rfl ?_)
    apply Stop.go
    exact bonly E4.out Ho5.out Hz.out.1

theorem mayX_at {d : Int} {t : List Int} (ht : t.length = 32) : mayX d t = true ↔ (∀ i, i < 32 → shortB (fld t i) = true) ∧ inD d = true := by
  unfold mayX
  rw [Bool.and_eq_true, List.all_eq_true]
  refine and_congr ?_ Iff.rfl
  constructor
  · intro h i hi
    exact h _ (List.mem_of_getElem? (fld_get t i (by omega)))
  · intro h v hv
    obtain ⟨i, hi, rfl⟩ := List.getElem_of_mem hv
    have e := fld_get t i hi
    rw [List.getElem?_eq_getElem hi] at e
    injection e with e
    rw [e]
    exact h i (by omega)
set_option maxHeartbeats 800000 in
theorem xmay_any (d : Int) (t : List Int) (ht : t.length = 32) (w : World) :
    Calls Tryz.prog 84 #[.agg (icells (d :: t))] w fun e w' => e = .returned (.bool (mayX d t)) ∧ Below w.heap.size w w' := by
  have HL := Lib.hid ht
  go_enter Tryz.func84, Tryz.ntmps84
  go_wp2_with (refine wpList_box_row rfl _ _ rfl _ rfl ?_)
  apply Stop.go; intro w1 Hg1 Hb1
  go_wp2_with (refine wpList_load_ino rfl _ _ rfl _ 1 rfl _ _ _ Hb1.out (by rw [List.drop_succ_cons, List.drop_zero, List.take_length]) _ Tryz.underlying100 rfl (Tryz.toFits HL.out) ?_)
  go_loopw [7] (fun i wr => ∃ k : Nat, k ≤ 32 ∧ i = .int .i64 k ∧ wr = w1 ∧ Hid (∀ j, j < k → shortB (fld t j) = true)) (fun i _ => 32 - (intOf i).toNat)
  case atStart => exact ⟨0, Nat.zero_le _, rfl, rfl, Lib.hid fun j h => absurd h (Nat.not_lt_zero _)⟩
  case round =>
    obtain ⟨k, hk, rfl, rfl, HA⟩ := hrel
    by_cases hlt : k < 32
    · go_wp2_with (refine wpList_index_ints rfl _ _ _ rfl _ _ Tryz.underlying100 Tryz.underlying3 Tryz.int1Size t rfl _ _ rfl k rfl hlt (by rw [HL.out]; exact hlt) ?_)
      refine (isNumber_any _ _).mono ?_; rintro e w' ⟨rfl, rfl⟩
      obtain ⟨b, Hb⟩ : ∃ b, Hid (shortB (fld t k) = b) := ⟨_, Lib.hid rfl⟩
      rw [Hb.out]
      cases b
      · have HF := Lib.hid (show mayX d t = false by
          rw [Bool.eq_false_iff]
          intro h
          have := ((mayX_at HL.out).1 h).1 k hlt
          rw [Hb.out] at this
          cases this)
        go_wp2_with fail
        go_ret
        rw [HF.out]
        exact ⟨rfl, Hg1.out.1⟩
      · have HF := Lib.hid (show ∀ j, j < k + 1 → shortB (fld t j) = true from fun j hj => by
          by_cases e : j = k
          · rw [e]; exact Hb.out
          · exact HA.out j (by omega))
        go_wp2_with fail
        go_roundw
        case rel => exact ⟨k + 1, by omega, by go_num, by first | rfl | trivial, HF⟩
        case measure => simp [intOf]; omega
    · obtain rfl : k = 32 := by omega
      have HF := Lib.hid (show mayX d t = inD d by
        rw [Bool.eq_iff_iff, mayX_at HL.out]
        exact ⟨fun h => h.2, fun h => ⟨HA.out, h⟩⟩)
      have c0 := dep_cell Hb1.out
      go_wp2_with fail
      refine (isDepth_any d _).mono ?_; rintro e w' ⟨rfl, rfl⟩
      obtain ⟨b, Hb⟩ : ∃ b, Hid (inD d = b) := ⟨_, Lib.hid rfl⟩
      rw [Hb.out] at HF ⊢
      go_wp2_with fail
      go_ret
      rw [HF.out]
      exact ⟨rfl, Hg1.out.1⟩

end Go.Proofs.YtkakihbfhmiabaaGreat
