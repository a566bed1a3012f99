/-
  Two inodes that came in, and how one of them is loaded. Plain; no program is named here.
-/
import Derived.Test.YtdngfonbobcgjaaInoO
namespace Go.Proofs.Ytdngfonbobcgjaa
open Go.ChangeShapes Go.WideShapes Go.ChangeAt Go.RowKit

theorem open_ino2 {H : Type} {enc : TypeId × Value → H} {P : Program} {w : World} {base : Nat} {r : Reach} {b0 : Nat} {s t e : TypeId} {f0 f1 f2 f3 f4 f5 : Field} {v : Value} {d : DataW H} {ps : List MemPlace} {spare : Nat → Bool} {held : Bool}
    (ha : P.underlying s = some (.array 2 t)) (hA : P.cellsOf s = 22)
    (hs : P.underlying t = some (.struct #[f0, f1, f2, f3, f4, f5])) (hC : P.cellsOf t = 11) (t0 : P.underlying f0.type = some (.int .i64)) (t1 : P.underlying f1.type = some (.int .i64)) (t2 : P.underlying f2.type = some (.int .i64)) (t3 : P.underlying f3.type = some (.int .i64)) (t5 : P.underlying f5.type = some (.int .i64))
    (t4 : P.underlying f4.type = some (.array 6 e)) (te : P.underlying e = some (.int .i64)) (ke : P.cellsOf e = 1) (k0 : P.cellsOf f0.type = 1) (k1 : P.cellsOf f1.type = 1) (k2 : P.cellsOf f2.type = 1) (k3 : P.cellsOf f3.type = 1) (k4 : P.cellsOf f4.type = 6) (k5 : P.cellsOf f5.type = 1)
    (o0 : f0.offset = 0) (o1 : f1.offset = 1) (o2 : f2.offset = 2) (o3 : f3.offset = 3) (o4 : f4.offset = 4) (o5 : f5.offset = 10)
    (hv : Value.okWide P w r b0 s v) (h : DataW.Trod enc P w base spare held s v d ps) : ∃ l m : List Int, v = .agg (icells (l ++ m)) ∧ l.length = 11 ∧ m.length = 11 := by
  unfold Value.okWide at hv
  rw [ha] at hv
  obtain ⟨⟨L⟩, rfl, hsz, _⟩ := hv
  obtain ⟨fuel, hf⟩ := h
  have hL : L.length = 22 := by simpa [hA] using hsz
  obtain ⟨xs, m, _, _, hlen, hxl, hg⟩ := DataW.trod_array ha hf
  have g0 := hg 0 (by omega)
  have g1 := hg 1 (by omega)
  rw [hC, List.getElem?_eq_getElem (by omega)] at g0 g1
  have hcl : (Value.agg ⟨L⟩).cells.toList = L := rfl
  rw [hcl] at g0 g1
  obtain ⟨l, e0, hl⟩ := open_ino_at hs t0 t1 t2 t3 t5 t4 te ke k0 k1 k2 k3 k4 k5 o0 o1 o2 o3 o4 o5 (by rw [List.length_take, List.length_drop]; omega) g0
  obtain ⟨l', e1, hl'⟩ := open_ino_at hs t0 t1 t2 t3 t5 t4 te ke k0 k1 k2 k3 k4 k5 o0 o1 o2 o3 o4 o5 (by rw [List.length_take, List.length_drop]; omega) g1
  refine ⟨l, l', ?_, hl, hl'⟩
  have h0 : L = L.take 11 ++ (L.drop 11).take 11 := by
    have h1 : (L.drop 11).take 11 = L.drop 11 := List.take_of_length_le (by rw [List.length_drop]; omega)
    rw [h1, List.take_append_drop]
  rw [show (L.drop (0 * 11)).take 11 = L.take 11 from rfl] at e0
  rw [show (1 * 11 : Nat) = 11 from rfl] at e1
  have h2 : L = (l ++ l').map (Value.int .i64) := by rw [h0, e0, e1, List.map_append]
  unfold icells
  rw [← h2]

section
variable {P : Program} {ops : Array Oper} {rest : List Oper} {o : Oper} {a : Act} {w : World} {Q : Exit → Act → World → Prop}
theorem run_loadVar_ino (P : Program) (w : World) (ty : TypeId) (d : TypeDesc) (hu : P.underlying ty = some d) (hd : (match d with | .struct _ | .array _ _ => true | _ => false) = true) (g off : Nat) (t : TypeId) (L l : List Int) (hg : Blk w g t (icells L)) (hl : (L.drop off).take l.length = l) (hs : (P.info? ty).map (·.size) = some (icells l).size) :
    (loadVar ty ⟨g, off, none⟩).run P w = .ok (.agg (icells l)) w := by
  have hlen : (l.map (Value.int .i64)).length = (icells l).size := by simp [icells]
  have hc := run_loadCells_list (P := P) w ⟨g, off, none⟩ (l.map (Value.int .i64)) (fun j v hj => by
    rw [List.getElem?_map] at hj
    obtain ⟨x, hx, rfl⟩ := Option.map_eq_some_iff.1 hj
    have hj' : j < l.length := (List.getElem?_eq_some_iff.1 hx).1
    have e : (⟨g, off, none⟩ : Addr).add j = ⟨g, off + j, none⟩ := by unfold Addr.add; split <;> simp_all
    rw [e, hg.cell, icells_get]
    rw [← hl, List.getElem?_take_of_lt hj', List.getElem?_drop] at hx
    rw [hx]
    rfl)
  rw [hlen] at hc
  obtain ⟨i, hq, hsz⟩ := Option.map_eq_some_iff.1 hs
  have hagg : (isAgg ty).run P w = .ok true w := by
    unfold isAgg
    rw [Sem.run_bind, run_underlying hu w]
    cases d <;> simp_all
  simp [loadVar, Sem.run_bind, hagg, sizeOf, typeInfo, hq, hsz, hc]
  rfl
/-- An inode that stands within a row of them. -/
theorem exec_load_ino (t : TypeId) (x : Operand) (ho : o.op = .load t x) (g off : Nat) (hx : a.eval x = .pointer (some ⟨g, off, none⟩)) (t' : TypeId) (L l : List Int) (hg : Blk w g t' (icells L)) (hl : (L.drop off).take l.length = l)
    (d : TypeDesc) (hu : P.underlying t = some d) (hd : (match d with | .struct _ | .array _ _ => true | _ => false) = true) (hs : (P.info? t).map (·.size) = some (icells l).size) : (execOp a.eval o).run P w = .ok (.value (.agg (icells l))) w := by
  unfold execOp
  simp only [ho, hx, Instr.loadAt, Instr.sureAddr, Sem.run_bind, Sem.run_pure, Result.andThen_ok, run_loadVar_ino P w t d hu hd g off t' L l hg hl hs]
theorem wpList_load_ino (hgd : Region.wanted o (yielded ops a.tmps) = true) (t : TypeId) (x : Operand) (ho : o.op = .load t x) (g off : Nat) (hx : a.eval x = .pointer (some ⟨g, off, none⟩)) (t' : TypeId) (L l : List Int) (hg : Blk w g t' (icells L)) (hl : (L.drop off).take l.length = l)
    (d : TypeDesc) (hu : P.underlying t = some d) (hd : (match d with | .struct _ | .array _ _ => true | _ => false) = true) (hs : (P.info? t).map (·.size) = some (icells l).size) (h : wpList P ops Q rest (a.put o.dst (.agg (icells l))) w) : wpList P ops Q (o :: rest) a w := by
  refine wpList_wanted hgd fun K hK => ?_
  unfold Oper.wp
  rw [exec_load_ino t x ho g off hx t' L l hg hl d hu hd hs]
  exact hK _ _ h
end

end Go.Proofs.Ytdngfonbobcgjaa
