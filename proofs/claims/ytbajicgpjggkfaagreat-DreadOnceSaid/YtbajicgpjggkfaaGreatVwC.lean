/-
  What package view's functions tell, as contracts that the walks of layer 21's statements are given; the kind of an inode by value.
-/
import Derived.Test.YtbajicgpjggkfaaGreatVw1
import Derived.Test.YtbajicgpjggkfaaGreatVw0
import Derived.Test.YtbajicgpjggkfaaGreatGrU
import Derived.Test.YtbajicgpjggkfaaGreatGrY
namespace Go.Proofs.YtbajicgpjggkfaaGreat
open Go.RowKit
set_option maxRecDepth 10000

/-- A function value that tells blocks, or errors: noughts where it tells an error; in each world of which R holds. -/
def FGR (R : World → Prop) (get : Value) (T : Int → List UInt8) : Prop :=
  (get = .nilFunc ∧ ∀ no, T no = zeros 256) ∨
  (∃ (F : Nat) (p : Addr), get = .func (.func F) #[] #[.pointer (some p)] ∧ (∀ (args : Array Value) (w : World), (callFunc F args).run Tryz.prog w = .ok (.enter F args) w) ∧ ∀ (w' : World) (no : Int), R w' →
    Calls Tryz.prog F #[.int .i64 no, .pointer (some p)] w' fun e w'' => ∃ (X : List UInt8) (er : Int), e = .returned (.tuple #[.agg (bcells X), .int .i64 er]) ∧ X.length = 256 ∧ Below w'.heap.size w' w'' ∧ (er = 0 → X = T no) ∧ (er ≠ 0 → T no = zeros 256)) ∨
  ∃ (F : Nat) (p q : Addr), get = .func (.func F) #[] #[.pointer (some p), .pointer (some q)] ∧ (∀ (args : Array Value) (w : World), (callFunc F args).run Tryz.prog w = .ok (.enter F args) w) ∧ ∀ (w' : World) (no : Int), R w' →
    Calls Tryz.prog F #[.int .i64 no, .pointer (some p), .pointer (some q)] w' fun e w'' => ∃ (X : List UInt8) (er : Int), e = .returned (.tuple #[.agg (bcells X), .int .i64 er]) ∧ X.length = 256 ∧ Below w'.heap.size w' w'' ∧ (er = 0 → X = T no) ∧ (er ≠ 0 → T no = zeros 256)
/-- .. in whatever world comes behind this one. -/
def FG (w : World) (get : Value) (T : Int → List UInt8) : Prop := FGR (fun w' => Below w.heap.size w w') get T
theorem FV.one {w : World} {l : Lay14} {f : Value} {T : Int → List UInt8} (h : FV w l f T) : (vval l f).all (·.oneCell') = true := by
  rcases h with ⟨rfl, _⟩ | ⟨F, p, rfl, _⟩ <;> simp [vval, Value.oneCell']

theorem run_neq_lay_same (l : Lay14) (w : World) : (binOp .neq 26 (.agg l.val) (.agg l.val)).run Tryz.prog w = .ok (.bool false) w := by
  have h := run_eql_lay l l w
  rw [Lay14.eqB_self, run_eql_struct] at h
  rw [run_neq_struct]
  revert h
  generalize (Op.equalIn 10000 26 (.agg l.val) (.agg l.val)).run Tryz.prog w = r
  intro h
  cases r with
  | ok b w' =>
    simp only [Result.andThen_ok, Result.ok.injEq, Value.bool.injEq] at h ⊢
    exact ⟨by rw [h.1]; rfl, h.2⟩
  | halt x w' => simp [Result.andThen] at h
theorem run_eql_lay_same (l : Lay14) (w : World) : (binOp .eql 26 (.agg l.val) (.agg l.val)).run Tryz.prog w = .ok (.bool true) w := by
  have h := run_eql_lay l l w
  rwa [Lay14.eqB_self] at h
theorem run_neq_ino_same {V : List Int} (h : V.length = 11) (w : World) : (binOp .neq 39 (.agg (icells V)) (.agg (icells V))).run Tryz.prog w = .ok (.bool false) w := by
  rw [run_neq_ino V V h h]
  simp
theorem run_eql_ino_same {V : List Int} (h : V.length = 11) (w : World) : (binOp .eql 39 (.agg (icells V)) (.agg (icells V))).run Tryz.prog w = .ok (.bool true) w := by
  rw [run_eql_ino V V h h]
  simp
/-- The kind of an inode by value. -/
theorem run_field_kind {l : List Int} (hl : l.length = 11) (w : World) : (Instr.field 39 (.agg (icells l)) 0).run Tryz.prog w = .ok (.int .i64 (fld l 0)) w := by
  obtain ⟨a0, a1, a2, a3, a4, a5, a6, a7, a8, a9, a10, rfl⟩ := list_eleven hl
  have hag : (isAgg 3).run Tryz.prog w = .ok false w := by
    unfold isAgg
    rw [Sem.run_bind, run_underlying Tryz.underlying3 w]
    simp
  simp [Instr.field, run_underlying Tryz.underlying39, icells, fld, asAgg, part, hag]
section
variable {P : Program} {ops : Array Oper} {rest : List Oper} {o : Oper} {a : Act} {w : World} {Q : Exit → Act → World → Prop}
theorem exec_field {o : Oper} (t : TypeId) (x : Operand) (k : Nat) (ho : o.op = .field t x k) (v r : Value) (hx : a.eval x = v) (hrun : (Instr.field t v k).run P w = .ok r w) : (execOp a.eval o).run P w = .ok (.value r) w := by
  unfold execOp
  simp only [ho, hx, Sem.run_bind, hrun, Result.andThen_ok]
  rfl
theorem wpList_field (hgd : Region.wanted o (yielded ops a.tmps) = true) (t : TypeId) (x : Operand) (k : Nat) (ho : o.op = .field t x k) (v r : Value) (hx : a.eval x = v) (hrun : (Instr.field t v k).run P w = .ok r w)
    (h : wpList P ops Q rest (a.put o.dst r) w) : wpList P ops Q (o :: rest) a w := by
  refine wpList_wanted hgd fun K hK => ?_
  unfold Oper.wp
  rw [exec_field t x k ho v r hx hrun]
  exact hK _ _ h
end

end Go.Proofs.YtbajicgpjggkfaaGreat
