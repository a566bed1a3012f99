/-
  Small facts for the walks of the laws of stage 10.
-/
import Derived.Test.YtckkdfpmibipfaaRol3
namespace Go.Proofs.Ytckkdfpmibipfaa
open Go.RowKit

theorem Try.arrFits {l : List UInt8} (h : l.length = 256) : (Try.prog.info? 22).map (·.size) = some (bcells l).size := by rw [bcells_size, h]; kernel_rfl
section
variable {P : Program} {a : Act} {w : World}
theorem exec_eql_arr {o : Oper} (t t' : TypeId) (x y : Operand) (ho : o.op = .binOp .eql t x y t') (hm : P.eqGuardType P.depth t = false) (n e : Nat) (ht : P.underlying t = some (.array n e)) (he : P.underlying e = some (.int .u8)) (hs : (P.info? e).map (·.size) = some 1)
    (xs ys : List UInt8) (hx : a.eval x = .agg (bcells xs)) (hy : a.eval y = .agg (bcells ys)) (hxl : xs.length = n) (hyl : ys.length = n) (r : Bool) (hr : (xs == ys) = r) : (execOp a.eval o).run P w = .ok (.value (.bool r)) w := by
  have hrun : (binOp .eql t (.agg (bcells xs)) (.agg (bcells ys))).run P w = .ok (.bool (xs == ys)) w := run_eql_bytes w t e n ht he (sizeOf_of hs) xs ys hxl hyl
  rw [hr] at hrun
  unfold execOp
  simp only [ho, hx, hy, Sem.run_bind, run_eqGuard_agg w .eql t x y (bcells xs) (bcells ys) hm, Result.andThen_ok, hrun]
  rfl
end
section
variable {P : Program} {ops : Array Oper} {rest : List Oper} {o : Oper} {a : Act} {w : World} {Q : Exit → Act → World → Prop}
/-- A whole array as a slice. -/
theorem wpList_slice_all (hgd : Region.wanted o (yielded ops a.tmps) = true) (t : TypeId) (x : Operand) (ho : o.op = .slice t x none none none) (N e : Nat) (hu : P.underlying t = some (.array N e)) (hs : (P.info? e).map (·.size) = some 1)
    (g : Nat) (hx : a.eval x = .pointer (some ⟨g, 0, none⟩)) (h3 : 0 < N) (h : wpList P ops Q rest (a.put o.dst (.slice (some ⟨g, 0, none⟩) N N)) w) : wpList P ops Q (o :: rest) a w := by
  refine wpList_wanted hgd fun K hK => ?_
  have hr := exec_slice_all (P := P) (a := a) (w := w) t x ho N e hu hs g hx h3
  unfold Oper.wp
  rw [hr]
  exact hK _ _ h
end
theorem leftC_len (l : List Cg) (block : Int) : (leftC l block).length + (readyC l block).length = l.length := by
  cases hm : mayC l
  · rw [leftC_wrong hm, readyC_wrong hm]; rfl
  · exact withoutC_len hm
theorem leftC_mem {l : List Cg} {block : Int} {c : Cg} (h : c ∈ leftC l block) : c ∈ l := (List.mem_filter.1 h).1

end Go.Proofs.Ytckkdfpmibipfaa
