/-
  '==' of any struct or array by the run of the operation; OK, or ErrArg. Plain; no program is named here.
-/
import Derived.Test.YtfhghcodhacneaaGrA
import Derived.Laws.StructEq
namespace Go.Proofs.Ytfhghcodhacneaa
open Go.RowKit

/-- OK, or ErrArg. -/
def okArg (b : Bool) : Int := if b then 0 else 1
theorem okArg_true : okArg true = 0 := rfl
theorem okArg_false : okArg false = 1 := rfl

section
variable {P : Program} {ops : Array Oper} {rest : List Oper} {o : Oper} {a : Act} {w : World} {Q : Exit → Act → World → Prop}
/-- '==', '!=' on two values of a struct's or an array's type, by the run of the operation. -/
theorem wpList_eql_agg (hgd : Region.wanted o (yielded ops a.tmps) = true) (b : BinOp) (t t' : TypeId) (x y : Operand) (ho : o.op = .binOp b t x y t') (hm : P.eqGuardType P.depth t = false)
    (xs ys : Array Value) (hx : a.eval x = .agg xs) (hy : a.eval y = .agg ys) (v : Value) (hrun : (binOp b t (.agg xs) (.agg ys)).run P w = .ok v w)
    (h : wpList P ops Q rest (a.put o.dst v) w) : wpList P ops Q (o :: rest) a w := by
  refine wpList_wanted hgd fun K hK => ?_
  unfold Oper.wp execOp
  simp only [ho, hx, hy, Sem.run_bind, run_eqGuard_agg w b t x y xs ys hm, Result.andThen_ok, hrun]
  exact hK _ _ h
/-- '==', '!=' of values, where the walk is to stop behind it (a law that is tried at an operation whose guard is false hangs). -/
theorem wpList_eql_stop (hgd : Region.wanted o (yielded ops a.tmps) = true) (b : BinOp) (t t' : TypeId) (x y : Operand) (ho : o.op = .binOp b t x y t') (hm : P.eqGuardType P.depth t = false)
    (xs ys : Array Value) (hx : a.eval x = .agg xs) (hy : a.eval y = .agg ys) (v : Value) (hrun : (binOp b t (.agg xs) (.agg ys)).run P w = .ok v w)
    (h : Stop (wpList P ops Q rest (a.put o.dst v) w)) : wpList P ops Q (o :: rest) a w := wpList_eql_agg hgd b t t' x y ho hm xs ys hx hy v hrun h
theorem exec_eql_agg {o : Oper} (b : BinOp) (t t' : TypeId) (x y : Operand) (ho : o.op = .binOp b t x y t') (hm : P.eqGuardType P.depth t = false)
    (xs ys : Array Value) (hx : a.eval x = .agg xs) (hy : a.eval y = .agg ys) (v : Value) (hrun : (binOp b t (.agg xs) (.agg ys)).run P w = .ok v w) : (execOp a.eval o).run P w = .ok (.value v) w := by
  unfold execOp
  simp only [ho, hx, hy, Sem.run_bind, run_eqGuard_agg w b t x y xs ys hm, Result.andThen_ok, hrun]
  rfl
/-- '==' on two arrays of bytes. -/
theorem exec_eql_arr {o : Oper} (t t' : TypeId) (x y : Operand) (ho : o.op = .binOp .eql t x y t') (hm : P.eqGuardType P.depth t = false) (n e : Nat) (ht : P.underlying t = some (.array n e)) (he : P.underlying e = some (.int .u8)) (hs : (P.info? e).map (·.size) = some 1)
    (xs ys : List UInt8) (hx : a.eval x = .agg (bcells xs)) (hy : a.eval y = .agg (bcells ys)) (hxl : xs.length = n) (hyl : ys.length = n) (r : Bool) (hr : (xs == ys) = r) : (execOp a.eval o).run P w = .ok (.value (.bool r)) w := by
  have hrun : (binOp .eql t (.agg (bcells xs)) (.agg (bcells ys))).run P w = .ok (.bool (xs == ys)) w := run_eql_bytes w t e n ht he (sizeOf_of hs) xs ys hxl hyl
  rw [hr] at hrun
  unfold execOp
  simp only [ho, hx, hy, Sem.run_bind, run_eqGuard_agg w .eql t x y (bcells xs) (bcells ys) hm, Result.andThen_ok, hrun]
  rfl
end

end Go.Proofs.Ytfhghcodhacneaa
