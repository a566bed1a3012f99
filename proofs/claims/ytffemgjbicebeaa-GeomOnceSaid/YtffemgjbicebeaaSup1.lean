/-
  Contracts of super's mayBe, Check and Same, and of the document's May.
-/
import Derived.Test.YtffemgjbicebeaaLayV
import Derived.Test.YtffemgjbicebeaaPatO
import Derived.Laws.StructEq
namespace Go.Proofs.Ytffemgjbicebeaa
open Go.RowKit

theorem Try.laySize : (Try.prog.info? 24).map (·.size) = some 3 := by kernel_rfl
theorem Blk.lay0 {w : World} {g : Nat} {t : TypeId} {l : Lay14} (h : Blk w g t l.val) : w.cell? ⟨g, 0, none⟩ = some (.int .i64 l.blocks) := h.cell 0
theorem Blk.lay1 {w : World} {g : Nat} {t : TypeId} {l : Lay14} (h : Blk w g t l.val) : w.cell? ⟨g, 1, none⟩ = some (.int .i64 l.inodes) := h.cell 1
theorem Blk.lay2 {w : World} {g : Nat} {t : TypeId} {l : Lay14} (h : Blk w g t l.val) : w.cell? ⟨g, 2, none⟩ = some (.int .u64 (l.merge : Nat)) := h.cell 2
theorem val_one (l : Lay14) : l.val.all (·.oneCell') = true := by simp [Lay14.val, Value.oneCell']
def zero14 : Lay14 := ⟨0, 0, 0⟩
theorem Try.layZero : (Try.prog.info? 24).map (·.zero) = some (some (.agg zero14.val)) := by kernel_rfl
/-- OK, or ErrArg. -/
def okArg (b : Bool) : Int := if b then 0 else 1
theorem okArg_true : okArg true = 0 := rfl
theorem okArg_false : okArg false = 1 := rfl

set_option maxHeartbeats 800000 in
theorem maybe_any (l : Lay14) (w : World) :
    Calls Try.prog 23 #[.agg l.val] w fun e w' => e = .returned (.bool l.may) ∧ Below w.heap.size w w' := by
  have M := Lib.hid (@Lay14.may_iff l)
  go_enter Try.func23, Try.ntmps23
  go_wp2_with (refine wpList_box_row rfl _ _ rfl _ rfl ?_)
  apply Stop.go; intro w1 Hg1 Hb1
  have c0 := Hb1.out.lay0
  have c1 := Hb1.out.lay1
  go_wp2_with fail
  all_goals
    go_ret
    exact ⟨congrArg (fun b => Ending.returned (.bool b)) (Bool.eq_iff_iff.2 (by rw [M.out]; simp only [decide_eq_true_eq, Bool.false_eq_true, false_iff]; omega)), Hg1.out.1⟩

set_option maxHeartbeats 800000 in
theorem rmay_any (l : Lay14) (w : World) :
    Calls Try.prog 19 #[.agg l.val] w fun e w' => e = .returned (.bool l.may) ∧ Below w.heap.size w w' := by
  have M := Lib.hid (@Lay14.may_iff l)
  go_enter Try.func19, Try.ntmps19
  go_wp2_with (refine wpList_box_row rfl _ _ rfl _ rfl ?_)
  apply Stop.go; intro w1 Hg1 Hb1
  have c0 := Hb1.out.lay0
  have c1 := Hb1.out.lay1
  go_wp2_with fail
  all_goals
    go_ret
    exact ⟨congrArg (fun b => Ending.returned (.bool b)) (Bool.eq_iff_iff.2 (by rw [M.out]; simp only [decide_eq_true_eq, Bool.false_eq_true, false_iff]; omega)), Hg1.out.1⟩

set_option maxHeartbeats 800000 in
theorem check14_any (l : Lay14) (w : World) :
    Calls Try.prog 22 #[.agg l.val] w fun e w' => e = .returned (.int .i64 (okArg l.may)) ∧ Below w.heap.size w w' := by
  go_enter Try.func22, Try.ntmps22
  go_wp2_with (refine wpList_box_row rfl _ _ rfl _ rfl ?_)
  apply Stop.go; intro w1 Hg1 Hb1
  go_wp2_with (refine wpList_load_blk rfl _ _ rfl _ rfl _ _ Hb1.out _ Try.underlying24 rfl Try.laySize ?_)
  refine (maybe_any l _).mono ?_; rintro e w2 ⟨rfl, hb2⟩
  have Hb2 := Lib.hid hb2
  clear hb2
  have Hbel := Lib.hid (bt Hg1.out.1 Hb2.out)
  obtain ⟨b, Hm⟩ : ∃ b, Hid (l.may = b) := ⟨_, Lib.hid rfl⟩
  rw [Hm.out]
  cases b
  all_goals
    go_wp2_with fail
    go_ret
    rw [Hm.out]
    exact ⟨rfl, Hbel.out⟩

section
variable {P : Program} {ops : Array Oper} {rest : List Oper} {o : Oper} {a : Act} {w : World} {Q : Exit → Act → World → Prop}
/-- '==', '!=' on two values of a struct's or an array's type, by the run of the operation. -/
theorem wpList_eql_agg (hgd : Region.wanted o (yielded ops a.tmps) = true) (b : BinOp) (t t' : TypeId) (x y : Operand) (ho : o.op = .binOp b t x y t') (hm : P.eqGuardType P.depth t = false)
    (xs ys : Array Value) (hx : a.eval x = .agg xs) (hy : a.eval y = .agg ys) (v : Value) (hrun : (binOp b t (.agg xs) (.agg ys)).run P w = .ok v w)
    (h : wpList P ops Q rest (a.put o.dst v) w) : wpList P ops Q (o :: rest) a w := by
  refine wpList_wanted hgd fun K hK => ?_
  unfold Oper.wp execOp
  simp only [ho, hx, hy, Sem.run_bind, run_eqGuard_agg w b t x y xs ys hm, Result.andThen_ok, hrun]
  exact hK _ _ h
theorem exec_eql_agg {o : Oper} (b : BinOp) (t t' : TypeId) (x y : Operand) (ho : o.op = .binOp b t x y t') (hm : P.eqGuardType P.depth t = false)
    (xs ys : Array Value) (hx : a.eval x = .agg xs) (hy : a.eval y = .agg ys) (v : Value) (hrun : (binOp b t (.agg xs) (.agg ys)).run P w = .ok v w) : (execOp a.eval o).run P w = .ok (.value v) w := by
  unfold execOp
  simp only [ho, hx, hy, Sem.run_bind, run_eqGuard_agg w b t x y xs ys hm, Result.andThen_ok, hrun]
  rfl
end

/-- Are two layouts the same? -/
def Lay14.eqB (l m : Lay14) : Bool := l.blocks == m.blocks && (l.inodes == m.inodes && l.merge == m.merge)
theorem Lay14.eqB_iff {l m : Lay14} : l.eqB m = true ↔ l = m := by
  unfold Lay14.eqB
  rw [Lay14.ext_iff']
  simp
theorem Lay14.eqB_self (l : Lay14) : l.eqB l = true := Lay14.eqB_iff.2 rfl
set_option maxHeartbeats 800000 in
theorem run_eql_lay (l m : Lay14) (w : World) : (binOp .eql 24 (.agg l.val) (.agg m.val)).run Try.prog w = .ok (.bool (l.eqB m)) w := by
  unfold Lay14.val Lay14.eqB
  go_simp
  have h4 : ((l.merge : Int) = (m.merge : Int)) ↔ l.merge = m.merge := by omega
  simp only [h4]
  by_cases h1 : l.blocks = m.blocks <;> by_cases h2 : l.inodes = m.inodes <;> by_cases h3 : l.merge = m.merge <;> simp [h1, h2, h3]


end Go.Proofs.Ytffemgjbicebeaa
