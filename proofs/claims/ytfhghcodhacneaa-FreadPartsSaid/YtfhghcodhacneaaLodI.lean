/-
  A load of numbers that stand within a row of them. Plain; no program is named here.
-/
import Derived.Test.YtfhghcodhacneaaArrI
namespace Go.Proofs.Ytfhghcodhacneaa
open Go.RowKit

section
variable {P : Program} {ops : Array Oper} {rest : List Oper} {o : Oper} {a : Act} {w : World} {Q : Exit → Act → World → Prop}
theorem run_loadVar_ino (P : Program) (w : World) (ty : TypeId) (d : TypeDesc) (hu : P.underlying ty = some d) (hd : (match d with | .struct _ | .array _ _ => true | _ => false) = true) (g off : Nat) (t : TypeId) (L l : List Int) (hg : Blk w g t (icells L)) (hl : (L.drop off).take l.length = l) (hs : (P.info? ty).map (·.size) = some (icells l).size) :
    (loadVar ty ⟨g, off, none⟩).run P w = .ok (.agg (icells l)) w := by
  have hlen : (l.map (Value.int .i64)).length = (icells l).size := by simp [icells]
  have hc := run_loadCells_list (P := P) w ⟨g, off, none⟩ (l.map (Value.int .i64)) (fun j v hj => by
    rw [List.getElem?_map] at hj
    obtain ⟨x, hx, rfl⟩ := Option.map_eq_some_iff.1 hj
    have hj' : j < l.length := (List.getElem?_eq_some_iff.1 hx).1
    have e : (⟨g, off, none⟩ : Addr).add j = ⟨g, off + j, none⟩ := by unfold Addr.add; split <;> simp_all
    rw [e, hg.cell, icells_get]
    rw [← hl, List.getElem?_take_of_lt hj', List.getElem?_drop] at hx
    rw [hx]
    rfl)
  rw [hlen] at hc
  obtain ⟨i, hq, hsz⟩ := Option.map_eq_some_iff.1 hs
  have hagg : (isAgg ty).run P w = .ok true w := by
    unfold isAgg
    rw [Sem.run_bind, run_underlying hu w]
    cases d <;> simp_all
  simp [loadVar, Sem.run_bind, hagg, sizeOf, typeInfo, hq, hsz, hc]
  rfl
/-- An inode that stands within a row of them. -/
theorem exec_load_ino (t : TypeId) (x : Operand) (ho : o.op = .load t x) (g off : Nat) (hx : a.eval x = .pointer (some ⟨g, off, none⟩)) (t' : TypeId) (L l : List Int) (hg : Blk w g t' (icells L)) (hl : (L.drop off).take l.length = l)
    (d : TypeDesc) (hu : P.underlying t = some d) (hd : (match d with | .struct _ | .array _ _ => true | _ => false) = true) (hs : (P.info? t).map (·.size) = some (icells l).size) : (execOp a.eval o).run P w = .ok (.value (.agg (icells l))) w := by
  unfold execOp
  simp only [ho, hx, Instr.loadAt, Instr.sureAddr, Sem.run_bind, Sem.run_pure, Result.andThen_ok, run_loadVar_ino P w t d hu hd g off t' L l hg hl hs]
theorem wpList_load_ino (hgd : Region.wanted o (yielded ops a.tmps) = true) (t : TypeId) (x : Operand) (ho : o.op = .load t x) (g off : Nat) (hx : a.eval x = .pointer (some ⟨g, off, none⟩)) (t' : TypeId) (L l : List Int) (hg : Blk w g t' (icells L)) (hl : (L.drop off).take l.length = l)
    (d : TypeDesc) (hu : P.underlying t = some d) (hd : (match d with | .struct _ | .array _ _ => true | _ => false) = true) (hs : (P.info? t).map (·.size) = some (icells l).size) (h : wpList P ops Q rest (a.put o.dst (.agg (icells l))) w) : wpList P ops Q (o :: rest) a w := by
  refine wpList_wanted hgd fun K hK => ?_
  unfold Oper.wp
  rw [exec_load_ino t x ho g off hx t' L l hg hl d hu hd hs]
  exact hK _ _ h
end

end Go.Proofs.Ytfhghcodhacneaa
